/- The law LeBounds, walked. -/
import Derived.Test.YtjaeidmbeidhlaaKit
namespace Go.Proofs.Ytjaeidmbeidhlaa
open Go.RowKit

theorem get_ok (a : Option Addr) (cap : Nat) (l : List Int) (at_ size : Int) (w : World) (hl : ∀ x ∈ l, 0 ≤ x ∧ x < 256) (hlen : l.length ≤ 1000000) (hcap : l.length ≤ cap) (hb : Byt w a l) (hs : szB size = true) (h0 : 0 ≤ at_) (h1 : at_ + size ≤ l.length) :
    Calls Try.prog 10 #[.slice a l.length cap, .int .i64 at_, .int .i64 size] w fun e w' => ∃ x, e = .returned (.tuple #[.int .i64 x, .int .i64 0]) ∧ w' = w := by
  have hi : inB l at_ size = true := decide_eq_true ⟨h0, h1⟩
  have := get_walk a cap l at_ size w hl hlen hcap hb
  rw [(get_in hs hi).2] at this
  refine this.mono ?_
  rintro e w' ⟨rfl, rfl⟩
  exact ⟨_, rfl, rfl⟩

theorem leBounds_great (n size at_ : Int) (a : Option Addr) (len cap : Nat) (w : World) (hlen : 10000 < len) :
    Calls Try.prog 7 #[.int .i64 n, .int .i64 size, .slice a len cap, .int .i64 at_] w fun e w' => e = .returned (.bool true) ∧ Kept w w' := by
  go_enter Try.func7, Try.ntmps7
  go_wp2_with (go_at_call 12; refine (alive_walk _).mono ?_; rintro e w1 ⟨rfl, hk⟩)
  go_ret
  exact ⟨rfl, hk⟩

theorem leBounds_size (n size at_ : Int) (a : Option Addr) (len cap : Nat) (w : World) (h0 : -9223372036854775808 ≤ n) (h1 : n ≤ 9223372036854775807) (hlen : len ≤ 10000) (hs : szB size = false) :
    Calls Try.prog 7 #[.int .i64 n, .int .i64 size, .slice a len cap, .int .i64 at_] w fun e w' => e = .returned (.bool true) ∧ Kept w w' := by
  obtain ⟨s1, s2, s4, s8⟩ := szB_false hs
  have e1 : (size != 1) = true := by simpa using s1
  have e2 : (size != 2) = true := by simpa using s2
  have e4 : (size != 4) = true := by simpa using s4
  have e8 : (size != 8) = true := by simpa using s8
  go_enter Try.func7, Try.ntmps7
  go_wp2_with (first
    | (go_at_call 12; refine (alive_walk _).mono ?_; rintro e w1 ⟨rfl, hk⟩)
    | (go_at_call 9; refine (put_no _ _ _ h0 h1 (mayB_no n size hs)).mono ?_; rintro e w2 ⟨rfl, rfl⟩)
    | (go_at_call 10; refine (get_size _ _ _ _ _ _ hs).mono ?_; rintro e w3 ⟨rfl, rfl⟩))
  go_ret
  exact ⟨rfl, hk⟩

set_option maxHeartbeats 1600000 in
theorem leBounds_1 (n at_ : Int) (a : Option Addr) (cap : Nat) (l : List Int) (w : World) (h0 : -9223372036854775808 ≤ n) (h1 : n ≤ 9223372036854775807) (hr : ∀ x ∈ l, 0 ≤ x ∧ x < 256) (hlen : l.length ≤ 10000) (hcap : l.length ≤ cap) (hb : Byt w a l) :
    Calls Try.prog 7 #[.int .i64 n, .int .i64 1, .slice a l.length cap, .int .i64 at_] w fun e w' => e = .returned (.bool true) ∧ Kept w w' := by
  have hs : szB 1 = true := by decide
  by_cases c1 : 0 ≤ n
  · have d1 : decide (0 ≤ n) = true := decide_eq_true c1
    by_cases c2 : n < 256
    · have d2 : decide (n < 256) = true := decide_eq_true c2
      have hm : mayB n 1 = true := by rw [mayB_1]; exact decide_eq_true ⟨c1, c2⟩
      by_cases c3 : 0 ≤ at_
      · have d3 : decide (0 ≤ at_) = true := decide_eq_true c3
        by_cases c4 : at_ ≤ (l.length : Int) - 1
        · have d4 : decide (at_ ≤ (l.length : Int) - 1) = true := decide_eq_true c4
          go_enter Try.func7, Try.ntmps7
          go_wp2_with (first
            | (go_at_call 12; refine (alive_walk _).mono ?_; rintro e w1 ⟨rfl, hk⟩)
            | (go_at_call 9; refine (put_some n 1 _ h0 h1 hm).mono ?_; rintro e w2 ⟨g, c, rfl, hc, hb2, hk2⟩)
            | (go_at_call 10; refine (get_ok a cap l at_ 1 _ hr (by omega) hcap ((hb.kept hk).kept hk2) hs c3 (by omega)).mono ?_; rintro e w3 ⟨x, rfl, rfl⟩))
          go_ret
          exact ⟨rfl, hk.trans hk2⟩
        · have d4 : decide (at_ ≤ (l.length : Int) - 1) = false := decide_eq_false c4
          go_enter Try.func7, Try.ntmps7
          go_wp2_with (first
            | (go_at_call 12; refine (alive_walk _).mono ?_; rintro e w1 ⟨rfl, hk⟩)
            | (go_at_call 9; refine (put_some n 1 _ h0 h1 hm).mono ?_; rintro e w2 ⟨g, c, rfl, hc, hb2, hk2⟩)
            | (go_at_call 10; refine (get_out a l.length cap at_ 1 _ (by omega) hs (by omega)).mono ?_; rintro e w3 ⟨rfl, rfl⟩))
          go_ret
          exact ⟨rfl, hk.trans hk2⟩
      · have d3 : decide (0 ≤ at_) = false := decide_eq_false c3
        go_enter Try.func7, Try.ntmps7
        go_wp2_with (first
          | (go_at_call 12; refine (alive_walk _).mono ?_; rintro e w1 ⟨rfl, hk⟩)
          | (go_at_call 9; refine (put_some n 1 _ h0 h1 hm).mono ?_; rintro e w2 ⟨g, c, rfl, hc, hb2, hk2⟩)
          | (go_at_call 10; refine (get_out a l.length cap at_ 1 _ (by omega) hs (by omega)).mono ?_; rintro e w3 ⟨rfl, rfl⟩))
        go_ret
        exact ⟨rfl, hk.trans hk2⟩
    · have d2 : decide (n < 256) = false := decide_eq_false c2
      have hm : mayB n 1 = false := by rw [mayB_1]; exact decide_eq_false (by omega)
      by_cases c3 : 0 ≤ at_
      · have d3 : decide (0 ≤ at_) = true := decide_eq_true c3
        by_cases c4 : at_ ≤ (l.length : Int) - 1
        · have d4 : decide (at_ ≤ (l.length : Int) - 1) = true := decide_eq_true c4
          go_enter Try.func7, Try.ntmps7
          go_wp2_with (first
            | (go_at_call 12; refine (alive_walk _).mono ?_; rintro e w1 ⟨rfl, hk⟩)
            | (go_at_call 9; refine (put_no n 1 _ h0 h1 hm).mono ?_; rintro e w2 ⟨rfl, rfl⟩)
            | (go_at_call 10; refine (get_ok a cap l at_ 1 _ hr (by omega) hcap (hb.kept hk) hs c3 (by omega)).mono ?_; rintro e w3 ⟨x, rfl, rfl⟩))
          go_ret
          exact ⟨rfl, hk⟩
        · have d4 : decide (at_ ≤ (l.length : Int) - 1) = false := decide_eq_false c4
          go_enter Try.func7, Try.ntmps7
          go_wp2_with (first
            | (go_at_call 12; refine (alive_walk _).mono ?_; rintro e w1 ⟨rfl, hk⟩)
            | (go_at_call 9; refine (put_no n 1 _ h0 h1 hm).mono ?_; rintro e w2 ⟨rfl, rfl⟩)
            | (go_at_call 10; refine (get_out a l.length cap at_ 1 _ (by omega) hs (by omega)).mono ?_; rintro e w3 ⟨rfl, rfl⟩))
          go_ret
          exact ⟨rfl, hk⟩
      · have d3 : decide (0 ≤ at_) = false := decide_eq_false c3
        go_enter Try.func7, Try.ntmps7
        go_wp2_with (first
          | (go_at_call 12; refine (alive_walk _).mono ?_; rintro e w1 ⟨rfl, hk⟩)
          | (go_at_call 9; refine (put_no n 1 _ h0 h1 hm).mono ?_; rintro e w2 ⟨rfl, rfl⟩)
          | (go_at_call 10; refine (get_out a l.length cap at_ 1 _ (by omega) hs (by omega)).mono ?_; rintro e w3 ⟨rfl, rfl⟩))
        go_ret
        exact ⟨rfl, hk⟩
  · have d1 : decide (0 ≤ n) = false := decide_eq_false c1
    have hm : mayB n 1 = false := by rw [mayB_1]; exact decide_eq_false (by omega)
    by_cases c3 : 0 ≤ at_
    · have d3 : decide (0 ≤ at_) = true := decide_eq_true c3
      by_cases c4 : at_ ≤ (l.length : Int) - 1
      · have d4 : decide (at_ ≤ (l.length : Int) - 1) = true := decide_eq_true c4
        go_enter Try.func7, Try.ntmps7
        go_wp2_with (first
          | (go_at_call 12; refine (alive_walk _).mono ?_; rintro e w1 ⟨rfl, hk⟩)
          | (go_at_call 9; refine (put_no n 1 _ h0 h1 hm).mono ?_; rintro e w2 ⟨rfl, rfl⟩)
          | (go_at_call 10; refine (get_ok a cap l at_ 1 _ hr (by omega) hcap (hb.kept hk) hs c3 (by omega)).mono ?_; rintro e w3 ⟨x, rfl, rfl⟩))
        go_ret
        exact ⟨rfl, hk⟩
      · have d4 : decide (at_ ≤ (l.length : Int) - 1) = false := decide_eq_false c4
        go_enter Try.func7, Try.ntmps7
        go_wp2_with (first
          | (go_at_call 12; refine (alive_walk _).mono ?_; rintro e w1 ⟨rfl, hk⟩)
          | (go_at_call 9; refine (put_no n 1 _ h0 h1 hm).mono ?_; rintro e w2 ⟨rfl, rfl⟩)
          | (go_at_call 10; refine (get_out a l.length cap at_ 1 _ (by omega) hs (by omega)).mono ?_; rintro e w3 ⟨rfl, rfl⟩))
        go_ret
        exact ⟨rfl, hk⟩
    · have d3 : decide (0 ≤ at_) = false := decide_eq_false c3
      go_enter Try.func7, Try.ntmps7
      go_wp2_with (first
        | (go_at_call 12; refine (alive_walk _).mono ?_; rintro e w1 ⟨rfl, hk⟩)
        | (go_at_call 9; refine (put_no n 1 _ h0 h1 hm).mono ?_; rintro e w2 ⟨rfl, rfl⟩)
        | (go_at_call 10; refine (get_out a l.length cap at_ 1 _ (by omega) hs (by omega)).mono ?_; rintro e w3 ⟨rfl, rfl⟩))
      go_ret
      exact ⟨rfl, hk⟩

set_option maxHeartbeats 1600000 in
theorem leBounds_2 (n at_ : Int) (a : Option Addr) (cap : Nat) (l : List Int) (w : World) (h0 : -9223372036854775808 ≤ n) (h1 : n ≤ 9223372036854775807) (hr : ∀ x ∈ l, 0 ≤ x ∧ x < 256) (hlen : l.length ≤ 10000) (hcap : l.length ≤ cap) (hb : Byt w a l) :
    Calls Try.prog 7 #[.int .i64 n, .int .i64 2, .slice a l.length cap, .int .i64 at_] w fun e w' => e = .returned (.bool true) ∧ Kept w w' := by
  have hs : szB 2 = true := by decide
  by_cases c1 : 0 ≤ n
  · have d1 : decide (0 ≤ n) = true := decide_eq_true c1
    by_cases c2 : n < 65536
    · have d2 : decide (n < 65536) = true := decide_eq_true c2
      have hm : mayB n 2 = true := by rw [mayB_2]; exact decide_eq_true ⟨c1, c2⟩
      by_cases c3 : 0 ≤ at_
      · have d3 : decide (0 ≤ at_) = true := decide_eq_true c3
        by_cases c4 : at_ ≤ (l.length : Int) - 2
        · have d4 : decide (at_ ≤ (l.length : Int) - 2) = true := decide_eq_true c4
          go_enter Try.func7, Try.ntmps7
          go_wp2_with (first
            | (go_at_call 12; refine (alive_walk _).mono ?_; rintro e w1 ⟨rfl, hk⟩)
            | (go_at_call 9; refine (put_some n 2 _ h0 h1 hm).mono ?_; rintro e w2 ⟨g, c, rfl, hc, hb2, hk2⟩)
            | (go_at_call 10; refine (get_ok a cap l at_ 2 _ hr (by omega) hcap ((hb.kept hk).kept hk2) hs c3 (by omega)).mono ?_; rintro e w3 ⟨x, rfl, rfl⟩))
          go_ret
          exact ⟨rfl, hk.trans hk2⟩
        · have d4 : decide (at_ ≤ (l.length : Int) - 2) = false := decide_eq_false c4
          go_enter Try.func7, Try.ntmps7
          go_wp2_with (first
            | (go_at_call 12; refine (alive_walk _).mono ?_; rintro e w1 ⟨rfl, hk⟩)
            | (go_at_call 9; refine (put_some n 2 _ h0 h1 hm).mono ?_; rintro e w2 ⟨g, c, rfl, hc, hb2, hk2⟩)
            | (go_at_call 10; refine (get_out a l.length cap at_ 2 _ (by omega) hs (by omega)).mono ?_; rintro e w3 ⟨rfl, rfl⟩))
          go_ret
          exact ⟨rfl, hk.trans hk2⟩
      · have d3 : decide (0 ≤ at_) = false := decide_eq_false c3
        go_enter Try.func7, Try.ntmps7
        go_wp2_with (first
          | (go_at_call 12; refine (alive_walk _).mono ?_; rintro e w1 ⟨rfl, hk⟩)
          | (go_at_call 9; refine (put_some n 2 _ h0 h1 hm).mono ?_; rintro e w2 ⟨g, c, rfl, hc, hb2, hk2⟩)
          | (go_at_call 10; refine (get_out a l.length cap at_ 2 _ (by omega) hs (by omega)).mono ?_; rintro e w3 ⟨rfl, rfl⟩))
        go_ret
        exact ⟨rfl, hk.trans hk2⟩
    · have d2 : decide (n < 65536) = false := decide_eq_false c2
      have hm : mayB n 2 = false := by rw [mayB_2]; exact decide_eq_false (by omega)
      by_cases c3 : 0 ≤ at_
      · have d3 : decide (0 ≤ at_) = true := decide_eq_true c3
        by_cases c4 : at_ ≤ (l.length : Int) - 2
        · have d4 : decide (at_ ≤ (l.length : Int) - 2) = true := decide_eq_true c4
          go_enter Try.func7, Try.ntmps7
          go_wp2_with (first
            | (go_at_call 12; refine (alive_walk _).mono ?_; rintro e w1 ⟨rfl, hk⟩)
            | (go_at_call 9; refine (put_no n 2 _ h0 h1 hm).mono ?_; rintro e w2 ⟨rfl, rfl⟩)
            | (go_at_call 10; refine (get_ok a cap l at_ 2 _ hr (by omega) hcap (hb.kept hk) hs c3 (by omega)).mono ?_; rintro e w3 ⟨x, rfl, rfl⟩))
          go_ret
          exact ⟨rfl, hk⟩
        · have d4 : decide (at_ ≤ (l.length : Int) - 2) = false := decide_eq_false c4
          go_enter Try.func7, Try.ntmps7
          go_wp2_with (first
            | (go_at_call 12; refine (alive_walk _).mono ?_; rintro e w1 ⟨rfl, hk⟩)
            | (go_at_call 9; refine (put_no n 2 _ h0 h1 hm).mono ?_; rintro e w2 ⟨rfl, rfl⟩)
            | (go_at_call 10; refine (get_out a l.length cap at_ 2 _ (by omega) hs (by omega)).mono ?_; rintro e w3 ⟨rfl, rfl⟩))
          go_ret
          exact ⟨rfl, hk⟩
      · have d3 : decide (0 ≤ at_) = false := decide_eq_false c3
        go_enter Try.func7, Try.ntmps7
        go_wp2_with (first
          | (go_at_call 12; refine (alive_walk _).mono ?_; rintro e w1 ⟨rfl, hk⟩)
          | (go_at_call 9; refine (put_no n 2 _ h0 h1 hm).mono ?_; rintro e w2 ⟨rfl, rfl⟩)
          | (go_at_call 10; refine (get_out a l.length cap at_ 2 _ (by omega) hs (by omega)).mono ?_; rintro e w3 ⟨rfl, rfl⟩))
        go_ret
        exact ⟨rfl, hk⟩
  · have d1 : decide (0 ≤ n) = false := decide_eq_false c1
    have hm : mayB n 2 = false := by rw [mayB_2]; exact decide_eq_false (by omega)
    by_cases c3 : 0 ≤ at_
    · have d3 : decide (0 ≤ at_) = true := decide_eq_true c3
      by_cases c4 : at_ ≤ (l.length : Int) - 2
      · have d4 : decide (at_ ≤ (l.length : Int) - 2) = true := decide_eq_true c4
        go_enter Try.func7, Try.ntmps7
        go_wp2_with (first
          | (go_at_call 12; refine (alive_walk _).mono ?_; rintro e w1 ⟨rfl, hk⟩)
          | (go_at_call 9; refine (put_no n 2 _ h0 h1 hm).mono ?_; rintro e w2 ⟨rfl, rfl⟩)
          | (go_at_call 10; refine (get_ok a cap l at_ 2 _ hr (by omega) hcap (hb.kept hk) hs c3 (by omega)).mono ?_; rintro e w3 ⟨x, rfl, rfl⟩))
        go_ret
        exact ⟨rfl, hk⟩
      · have d4 : decide (at_ ≤ (l.length : Int) - 2) = false := decide_eq_false c4
        go_enter Try.func7, Try.ntmps7
        go_wp2_with (first
          | (go_at_call 12; refine (alive_walk _).mono ?_; rintro e w1 ⟨rfl, hk⟩)
          | (go_at_call 9; refine (put_no n 2 _ h0 h1 hm).mono ?_; rintro e w2 ⟨rfl, rfl⟩)
          | (go_at_call 10; refine (get_out a l.length cap at_ 2 _ (by omega) hs (by omega)).mono ?_; rintro e w3 ⟨rfl, rfl⟩))
        go_ret
        exact ⟨rfl, hk⟩
    · have d3 : decide (0 ≤ at_) = false := decide_eq_false c3
      go_enter Try.func7, Try.ntmps7
      go_wp2_with (first
        | (go_at_call 12; refine (alive_walk _).mono ?_; rintro e w1 ⟨rfl, hk⟩)
        | (go_at_call 9; refine (put_no n 2 _ h0 h1 hm).mono ?_; rintro e w2 ⟨rfl, rfl⟩)
        | (go_at_call 10; refine (get_out a l.length cap at_ 2 _ (by omega) hs (by omega)).mono ?_; rintro e w3 ⟨rfl, rfl⟩))
      go_ret
      exact ⟨rfl, hk⟩

set_option maxHeartbeats 1600000 in
theorem leBounds_4 (n at_ : Int) (a : Option Addr) (cap : Nat) (l : List Int) (w : World) (h0 : -9223372036854775808 ≤ n) (h1 : n ≤ 9223372036854775807) (hr : ∀ x ∈ l, 0 ≤ x ∧ x < 256) (hlen : l.length ≤ 10000) (hcap : l.length ≤ cap) (hb : Byt w a l) :
    Calls Try.prog 7 #[.int .i64 n, .int .i64 4, .slice a l.length cap, .int .i64 at_] w fun e w' => e = .returned (.bool true) ∧ Kept w w' := by
  have hs : szB 4 = true := by decide
  by_cases c1 : 0 ≤ n
  · have d1 : decide (0 ≤ n) = true := decide_eq_true c1
    by_cases c2 : n < 4294967296
    · have d2 : decide (n < 4294967296) = true := decide_eq_true c2
      have hm : mayB n 4 = true := by rw [mayB_4]; exact decide_eq_true ⟨c1, c2⟩
      by_cases c3 : 0 ≤ at_
      · have d3 : decide (0 ≤ at_) = true := decide_eq_true c3
        by_cases c4 : at_ ≤ (l.length : Int) - 4
        · have d4 : decide (at_ ≤ (l.length : Int) - 4) = true := decide_eq_true c4
          go_enter Try.func7, Try.ntmps7
          go_wp2_with (first
            | (go_at_call 12; refine (alive_walk _).mono ?_; rintro e w1 ⟨rfl, hk⟩)
            | (go_at_call 9; refine (put_some n 4 _ h0 h1 hm).mono ?_; rintro e w2 ⟨g, c, rfl, hc, hb2, hk2⟩)
            | (go_at_call 10; refine (get_ok a cap l at_ 4 _ hr (by omega) hcap ((hb.kept hk).kept hk2) hs c3 (by omega)).mono ?_; rintro e w3 ⟨x, rfl, rfl⟩))
          go_ret
          exact ⟨rfl, hk.trans hk2⟩
        · have d4 : decide (at_ ≤ (l.length : Int) - 4) = false := decide_eq_false c4
          go_enter Try.func7, Try.ntmps7
          go_wp2_with (first
            | (go_at_call 12; refine (alive_walk _).mono ?_; rintro e w1 ⟨rfl, hk⟩)
            | (go_at_call 9; refine (put_some n 4 _ h0 h1 hm).mono ?_; rintro e w2 ⟨g, c, rfl, hc, hb2, hk2⟩)
            | (go_at_call 10; refine (get_out a l.length cap at_ 4 _ (by omega) hs (by omega)).mono ?_; rintro e w3 ⟨rfl, rfl⟩))
          go_ret
          exact ⟨rfl, hk.trans hk2⟩
      · have d3 : decide (0 ≤ at_) = false := decide_eq_false c3
        go_enter Try.func7, Try.ntmps7
        go_wp2_with (first
          | (go_at_call 12; refine (alive_walk _).mono ?_; rintro e w1 ⟨rfl, hk⟩)
          | (go_at_call 9; refine (put_some n 4 _ h0 h1 hm).mono ?_; rintro e w2 ⟨g, c, rfl, hc, hb2, hk2⟩)
          | (go_at_call 10; refine (get_out a l.length cap at_ 4 _ (by omega) hs (by omega)).mono ?_; rintro e w3 ⟨rfl, rfl⟩))
        go_ret
        exact ⟨rfl, hk.trans hk2⟩
    · have d2 : decide (n < 4294967296) = false := decide_eq_false c2
      have hm : mayB n 4 = false := by rw [mayB_4]; exact decide_eq_false (by omega)
      by_cases c3 : 0 ≤ at_
      · have d3 : decide (0 ≤ at_) = true := decide_eq_true c3
        by_cases c4 : at_ ≤ (l.length : Int) - 4
        · have d4 : decide (at_ ≤ (l.length : Int) - 4) = true := decide_eq_true c4
          go_enter Try.func7, Try.ntmps7
          go_wp2_with (first
            | (go_at_call 12; refine (alive_walk _).mono ?_; rintro e w1 ⟨rfl, hk⟩)
            | (go_at_call 9; refine (put_no n 4 _ h0 h1 hm).mono ?_; rintro e w2 ⟨rfl, rfl⟩)
            | (go_at_call 10; refine (get_ok a cap l at_ 4 _ hr (by omega) hcap (hb.kept hk) hs c3 (by omega)).mono ?_; rintro e w3 ⟨x, rfl, rfl⟩))
          go_ret
          exact ⟨rfl, hk⟩
        · have d4 : decide (at_ ≤ (l.length : Int) - 4) = false := decide_eq_false c4
          go_enter Try.func7, Try.ntmps7
          go_wp2_with (first
            | (go_at_call 12; refine (alive_walk _).mono ?_; rintro e w1 ⟨rfl, hk⟩)
            | (go_at_call 9; refine (put_no n 4 _ h0 h1 hm).mono ?_; rintro e w2 ⟨rfl, rfl⟩)
            | (go_at_call 10; refine (get_out a l.length cap at_ 4 _ (by omega) hs (by omega)).mono ?_; rintro e w3 ⟨rfl, rfl⟩))
          go_ret
          exact ⟨rfl, hk⟩
      · have d3 : decide (0 ≤ at_) = false := decide_eq_false c3
        go_enter Try.func7, Try.ntmps7
        go_wp2_with (first
          | (go_at_call 12; refine (alive_walk _).mono ?_; rintro e w1 ⟨rfl, hk⟩)
          | (go_at_call 9; refine (put_no n 4 _ h0 h1 hm).mono ?_; rintro e w2 ⟨rfl, rfl⟩)
          | (go_at_call 10; refine (get_out a l.length cap at_ 4 _ (by omega) hs (by omega)).mono ?_; rintro e w3 ⟨rfl, rfl⟩))
        go_ret
        exact ⟨rfl, hk⟩
  · have d1 : decide (0 ≤ n) = false := decide_eq_false c1
    have hm : mayB n 4 = false := by rw [mayB_4]; exact decide_eq_false (by omega)
    by_cases c3 : 0 ≤ at_
    · have d3 : decide (0 ≤ at_) = true := decide_eq_true c3
      by_cases c4 : at_ ≤ (l.length : Int) - 4
      · have d4 : decide (at_ ≤ (l.length : Int) - 4) = true := decide_eq_true c4
        go_enter Try.func7, Try.ntmps7
        go_wp2_with (first
          | (go_at_call 12; refine (alive_walk _).mono ?_; rintro e w1 ⟨rfl, hk⟩)
          | (go_at_call 9; refine (put_no n 4 _ h0 h1 hm).mono ?_; rintro e w2 ⟨rfl, rfl⟩)
          | (go_at_call 10; refine (get_ok a cap l at_ 4 _ hr (by omega) hcap (hb.kept hk) hs c3 (by omega)).mono ?_; rintro e w3 ⟨x, rfl, rfl⟩))
        go_ret
        exact ⟨rfl, hk⟩
      · have d4 : decide (at_ ≤ (l.length : Int) - 4) = false := decide_eq_false c4
        go_enter Try.func7, Try.ntmps7
        go_wp2_with (first
          | (go_at_call 12; refine (alive_walk _).mono ?_; rintro e w1 ⟨rfl, hk⟩)
          | (go_at_call 9; refine (put_no n 4 _ h0 h1 hm).mono ?_; rintro e w2 ⟨rfl, rfl⟩)
          | (go_at_call 10; refine (get_out a l.length cap at_ 4 _ (by omega) hs (by omega)).mono ?_; rintro e w3 ⟨rfl, rfl⟩))
        go_ret
        exact ⟨rfl, hk⟩
    · have d3 : decide (0 ≤ at_) = false := decide_eq_false c3
      go_enter Try.func7, Try.ntmps7
      go_wp2_with (first
        | (go_at_call 12; refine (alive_walk _).mono ?_; rintro e w1 ⟨rfl, hk⟩)
        | (go_at_call 9; refine (put_no n 4 _ h0 h1 hm).mono ?_; rintro e w2 ⟨rfl, rfl⟩)
        | (go_at_call 10; refine (get_out a l.length cap at_ 4 _ (by omega) hs (by omega)).mono ?_; rintro e w3 ⟨rfl, rfl⟩))
      go_ret
      exact ⟨rfl, hk⟩

set_option maxHeartbeats 1600000 in
theorem leBounds_8 (n at_ : Int) (a : Option Addr) (cap : Nat) (l : List Int) (w : World) (h0 : -9223372036854775808 ≤ n) (h1 : n ≤ 9223372036854775807) (hr : ∀ x ∈ l, 0 ≤ x ∧ x < 256) (hlen : l.length ≤ 10000) (hcap : l.length ≤ cap) (hb : Byt w a l) :
    Calls Try.prog 7 #[.int .i64 n, .int .i64 8, .slice a l.length cap, .int .i64 at_] w fun e w' => e = .returned (.bool true) ∧ Kept w w' := by
  have hs : szB 8 = true := by decide
  have hm : mayB n 8 = true := mayB_8 n
  by_cases c3 : 0 ≤ at_
  · have d3 : decide (0 ≤ at_) = true := decide_eq_true c3
    by_cases c4 : at_ ≤ (l.length : Int) - 8
    · have d4 : decide (at_ ≤ (l.length : Int) - 8) = true := decide_eq_true c4
      go_enter Try.func7, Try.ntmps7
      go_wp2_with (first
        | (go_at_call 12; refine (alive_walk _).mono ?_; rintro e w1 ⟨rfl, hk⟩)
        | (go_at_call 9; refine (put_some n 8 _ h0 h1 hm).mono ?_; rintro e w2 ⟨g, c, rfl, hc, hb2, hk2⟩)
        | (go_at_call 10; refine (get_ok a cap l at_ 8 _ hr (by omega) hcap ((hb.kept hk).kept hk2) hs c3 (by omega)).mono ?_; rintro e w3 ⟨x, rfl, rfl⟩))
      go_ret
      exact ⟨rfl, hk.trans hk2⟩
    · have d4 : decide (at_ ≤ (l.length : Int) - 8) = false := decide_eq_false c4
      go_enter Try.func7, Try.ntmps7
      go_wp2_with (first
        | (go_at_call 12; refine (alive_walk _).mono ?_; rintro e w1 ⟨rfl, hk⟩)
        | (go_at_call 9; refine (put_some n 8 _ h0 h1 hm).mono ?_; rintro e w2 ⟨g, c, rfl, hc, hb2, hk2⟩)
        | (go_at_call 10; refine (get_out a l.length cap at_ 8 _ (by omega) hs (by omega)).mono ?_; rintro e w3 ⟨rfl, rfl⟩))
      go_ret
      exact ⟨rfl, hk.trans hk2⟩
  · have d3 : decide (0 ≤ at_) = false := decide_eq_false c3
    go_enter Try.func7, Try.ntmps7
    go_wp2_with (first
      | (go_at_call 12; refine (alive_walk _).mono ?_; rintro e w1 ⟨rfl, hk⟩)
      | (go_at_call 9; refine (put_some n 8 _ h0 h1 hm).mono ?_; rintro e w2 ⟨g, c, rfl, hc, hb2, hk2⟩)
      | (go_at_call 10; refine (get_out a l.length cap at_ 8 _ (by omega) hs (by omega)).mono ?_; rintro e w3 ⟨rfl, rfl⟩))
    go_ret
    exact ⟨rfl, hk.trans hk2⟩

theorem leBounds_walk (n size at_ : Int) (a : Option Addr) (cap : Nat) (l : List Int) (w : World) (h0 : -9223372036854775808 ≤ n) (h1 : n ≤ 9223372036854775807) (hr : ∀ x ∈ l, 0 ≤ x ∧ x < 256) (hcap : l.length ≤ cap) (hb : Byt w a l) :
    Calls Try.prog 7 #[.int .i64 n, .int .i64 size, .slice a l.length cap, .int .i64 at_] w fun e w' => e = .returned (.bool true) ∧ Kept w w' := by
  by_cases hlen : 10000 < l.length
  · exact leBounds_great n size at_ a l.length cap w hlen
  · cases hs : szB size
    · exact leBounds_size n size at_ a l.length cap w h0 h1 (by omega) hs
    · rcases szB_true hs with rfl | rfl | rfl | rfl
      · exact leBounds_1 n at_ a cap l w h0 h1 hr (by omega) hcap hb
      · exact leBounds_2 n at_ a cap l w h0 h1 hr (by omega) hcap hb
      · exact leBounds_4 n at_ a cap l w h0 h1 hr (by omega) hcap hb
      · exact leBounds_8 n at_ a cap l w h0 h1 hr (by omega) hcap hb
end Go.Proofs.Ytjaeidmbeidhlaa
