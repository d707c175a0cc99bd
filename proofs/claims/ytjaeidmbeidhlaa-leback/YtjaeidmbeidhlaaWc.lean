/- The law LeParts, walked. -/
import Derived.Test.YtjaeidmbeidhlaaKit
import Derived.Deep.DeepCutAuto
namespace Go.Proofs.Ytjaeidmbeidhlaa
open Go.RowKit

/-- Put, where it gives bytes; the size as a length. -/
theorem put_len (n : Int) (s : Nat) (w : World) (h0 : -9223372036854775808 ≤ n) (h1 : n ≤ 9223372036854775807) (hm : mayB n (s : Int) = true) :
    Calls Try.prog 9 #[.int .i64 n, .int .i64 (s : Int)] w fun e w' => ∃ g cap, e = .returned (.tuple #[.slice (some ⟨g, 0, none⟩) s cap, .int .i64 0]) ∧ s ≤ cap ∧ Byt w' (some ⟨g, 0, none⟩) (byN (uOf n) s) ∧ Kept w w' := by
  have := put_some n s w h0 h1 hm
  rwa [Int.toNat_natCast] at this

/-- .. of eight bytes. -/
theorem put_eight (n : Int) (w : World) (h0 : -9223372036854775808 ≤ n) (h1 : n ≤ 9223372036854775807) :
    Calls Try.prog 9 #[.int .i64 n, .int .i64 8] w fun e w' => ∃ g cap, e = .returned (.tuple #[.slice (some ⟨g, 0, none⟩) 8 cap, .int .i64 0]) ∧ 8 ≤ cap ∧ Byt w' (some ⟨g, 0, none⟩) (byN (uOf n) 8) ∧ Kept w w' :=
  put_some n 8 w h0 h1 (mayB_8 n)

/-- The bytes' beginning. -/
theorem Byt.take {w : World} {a : Option Addr} {l : List Int} (h : Byt w a l) (k : Nat) : Byt w a (l.take k) := by
  rcases h with rfl | ⟨b, off, rfl, hc⟩
  · exact .inl (by simp)
  · refine .inr ⟨b, off, rfl, fun i hi => ?_⟩
    have h1 : i < k := by simp at hi; omega
    have h2 : i < l.length := by simp at hi; omega
    rw [hc i h2]
    simp [List.getD, h1]

/-- string(b), of so many bytes, in a world behind draws. -/
theorem str_len (w : World) (a : Option Addr) (l : List Int) (n cap : Nat) (s : ByteArray) (h : Byt w a l) (hn : l.length = n) (hs : s = strOfNums l) : (convert 22 9 (.slice a n cap)).run Try.prog w = .ok (.string s) w := by
  subst hn; subst hs
  exact str_run w a l cap h
theorem str_draw (w : World) (a : Option Addr) (l : List Int) (n cap : Nat) (s : ByteArray) (h : Byt w a l) (hn : l.length = n) (hs : s = strOfNums l) : ∀ q, (convert 22 9 (.slice a n cap)).run Try.prog (w.drewN q) = .ok (.string s) (w.drewN q) :=
  fun q => str_len _ a l n cap s (h.drewN q) hn hs

/-- Unlike numbers have unlike bytes. -/
theorem byN_unlike (n m : Int) (s : Nat) (h0 : -9223372036854775808 ≤ n) (h1 : n ≤ 9223372036854775807) (k0 : -9223372036854775808 ≤ m) (k1 : m ≤ 9223372036854775807) (hn : mayB n (s : Int) = true) (hm : mayB m (s : Int) = true) (h : byN (uOf n) s = byN (uOf m) s) : n = m := by
  have hlt : ∀ z : Int, -9223372036854775808 ≤ z → z ≤ 9223372036854775807 → mayB z (s : Int) = true → uOf z < 256 ^ s := by
    intro z z0 z1 hz
    have hz' := hz
    have hs := mayB_sz hz
    rcases szB_true hs with e | e | e | e
    · rw [e, mayB_1] at hz'
      have := of_decide_eq_true hz'
      obtain rfl : s = 1 := by omega
      rw [uOf_nonneg z this.1 z1]; omega
    · rw [e, mayB_2] at hz'
      have := of_decide_eq_true hz'
      obtain rfl : s = 2 := by omega
      rw [uOf_nonneg z this.1 z1]; omega
    · rw [e, mayB_4] at hz'
      have := of_decide_eq_true hz'
      obtain rfl : s = 4 := by omega
      rw [uOf_nonneg z this.1 z1]; omega
    · obtain rfl : s = 8 := by omega
      exact uOf_lt z
  have e := congrArg nuN h
  rw [nuN_byN, nuN_byN, Nat.mod_eq_of_lt (hlt n h0 h1 hn), Nat.mod_eq_of_lt (hlt m k0 k1 hm)] at e
  rw [← sOf_uOf n h0 h1, ← sOf_uOf m k0 k1, e]

theorem leParts_great (n m size mu : Int) (a : Option Addr) (len cap : Nat) (w : World) (hlen : 10000 < len) :
    Calls Try.prog 8 #[.int .i64 n, .int .i64 m, .int .i64 size, .slice a len cap, .int .i64 mu] w fun e w' => e = .returned (.bool true) ∧ Kept w w' := by
  go_enter Try.func8, Try.ntmps8
  go_wp2_with (go_at_call 12; refine (alive_walk _).mono ?_; rintro e w1 ⟨rfl, hk⟩)
  go_ret
  exact ⟨rfl, hk⟩

/-- Pad, with what is known of its length alone. -/
theorem pad_first (a : Option Addr) (cap m : Nat) (l : List Int) (w : World) (hl : l.length ≤ 1000000) (hb : Byt w a l) (hm : muB (m : Int) = true) :
    Calls Try.prog 11 #[.slice a l.length cap, .int .i64 (m : Int)] w fun e w' => ∃ g c n L, e = .returned (.tuple #[.slice (some ⟨g, 0, none⟩) n c, .int .i64 0]) ∧ n ≤ c ∧ L.length = n ∧ Byt w' (some ⟨g, 0, none⟩) L ∧ l.length ≤ n ∧ n < l.length + m ∧ n % m = 0 ∧ Kept w w' := by
  have hm' := of_decide_eq_true hm
  refine (pad_some a cap m l w hl hb hm).mono ?_
  rintro e w' ⟨g, c, rfl, hc, hcell, hk⟩
  rw [Int.toNat_natCast] at hc hcell ⊢
  refine ⟨g, c, _, l ++ List.replicate (padK l.length m) 0, rfl, hc, by simp, .inr ⟨g, 0, rfl, fun i hi => ?_⟩, Nat.le_add_right _ _, Nat.add_lt_add_left (padK_lt (by omega)) _, padK_mod (by omega), hk⟩
  rw [Nat.zero_add]
  exact hcell i (by simpa using hi)

/-- .. of bytes whose length is a multiple. -/
theorem pad_again (a : Option Addr) (cap m n : Nat) (l : List Int) (w : World) (hn : l.length = n) (hl : n ≤ 1000000) (hb : Byt w a l) (hm : muB (m : Int) = true) (h : n % m = 0) :
    Calls Try.prog 11 #[.slice a n cap, .int .i64 (m : Int)] w fun e w' => ∃ g c, e = .returned (.tuple #[.slice (some ⟨g, 0, none⟩) n c, .int .i64 0]) ∧ n ≤ c ∧ Byt w' (some ⟨g, 0, none⟩) l ∧ Kept w w' := by
  subst hn
  have hm' := of_decide_eq_true hm
  have hp : padK l.length m = 0 := padK_zero (by omega) h
  refine (pad_some a cap m l w hl hb hm).mono ?_
  rintro e w' ⟨g, c, rfl, hc, hcell, hk⟩
  rw [Int.toNat_natCast, hp] at hc hcell ⊢
  refine ⟨g, c, rfl, hc, .inr ⟨g, 0, rfl, fun i hi => ?_⟩, hk⟩
  rw [Nat.zero_add]
  have := hcell i (by simpa using hi)
  simpa using this

set_option maxHeartbeats 1600000 in
theorem leParts_same_yes (n : Int) (s : Nat) (mu : Nat) (a : Option Addr) (cap : Nat) (l : List Int) (w : World) (h0 : -9223372036854775808 ≤ n) (h1 : n ≤ 9223372036854775807) (hlen : l.length ≤ 10000) (hb : Byt w a l) (hn : mayB n (s : Int) = true) (hmu : muB (mu : Int) = true) :
    Calls Try.prog 8 #[.int .i64 n, .int .i64 n, .int .i64 (s : Int), .slice a l.length cap, .int .i64 (mu : Int)] w fun e w' => e = .returned (.bool true) ∧ Kept w w' := by
  have hmu' := of_decide_eq_true hmu
  obtain ⟨u0, u1⟩ : 1 ≤ mu ∧ mu ≤ 4096 := by omega
  clear hmu'
  have hs8 : 1 ≤ s ∧ s ≤ 8 := by rcases szB_true (mayB_sz hn) with h | h | h | h <;> omega
  obtain ⟨s1, s8⟩ := hs8
  go_enter Try.func8, Try.ntmps8
  go_upto_region 4 with (go_at_call 12; refine (alive_walk _).mono ?_; rintro e w1 ⟨rfl, hk⟩)
  go_upto_region 5 with (go_at_call 9; refine (put_len n s _ h0 h1 hn).mono ?_; rintro e w2 ⟨g1, c1, rfl, hc1, hb1, hk2⟩)
  go_upto_region 6 with (go_at_call 9; refine (put_len n s _ h0 h1 hn).mono ?_; rintro e w3 ⟨g2, c2, rfl, hc2, hb2, hk3⟩)
  go_upto_region 8 with (go_at_call 9; refine (put_eight n _ h0 h1).mono ?_; rintro e w4 ⟨g3, c3, rfl, hc3, hb3, hk4⟩)
  obtain ⟨sx, hsx⟩ : ∃ sx, sx = strOfNums (byN (uOf n) s) := ⟨_, rfl⟩
  have hS1 := str_draw w4 _ _ s c1 sx ((hb1.kept hk3).kept hk4) (byN_length _ _) hsx
  have hS2 := str_draw w4 _ _ s c2 sx (hb2.kept hk4) (byN_length _ _) hsx
  have hS3 := str_draw w4 _ _ s c3 sx (hb3.take s) (by simp [byN_length]; omega) (by rw [byN_take _ _ _ s8]; exact hsx)
  have K4 : Kept w w4 := ((hk.trans hk2).trans hk3).trans hk4
  have f1 : decide ((s : Int) < 0) = false := by simp
  have f2 : decide (8 < (s : Int)) = false := by simp; omega
  have f3 : decide (8 < s) = false := by simp; omega
  clear hsx hb1 hb2 hb3 hk hk2 hk3 hk4
  go_big_quiet (fail)
  have K5 : Kept w (w4.drewN nq) := K4.trans (Kept.drewN _ _)
  have B5 := hb.kept K5
  clear hS1 hS2 hS3 K4 hb
  go_upto_region 13 with (go_at_call 11; refine (pad_first a cap mu l _ (by omega) B5 hmu).mono ?_; rintro e w6 ⟨g4, c4, x, L, rfl, hc4, hL, hb4, hx1, hx2, hx3, hk6⟩)
  go_upto_region 14 with (go_at_call 11; refine (pad_again (some ⟨g4, 0, none⟩) c4 mu x L _ hL (by omega) hb4 hmu hx3).mono ?_; rintro e w7 ⟨g5, c5, rfl, hc5, hb5, hk7⟩)
  obtain ⟨sz, hsz⟩ : ∃ sz, sz = strOfNums L := ⟨_, rfl⟩
  have hT1 := str_len w7 _ _ x c4 sz (hb4.kept hk7) hL hsz
  have hT2 := str_len w7 _ _ x c5 sz hb5 hL hsz
  have d1 : ¬ (mu : Int) = 0 := by omega
  have d2 : ((mu : Int) == 0) = false := by simp; omega
  have d3 : (x : Int) % (mu : Int) = 0 := by omega
  have d4 : decide ((x : Int) - (l.length : Int) < (mu : Int)) = true := by simp; omega
  have K7 : Kept w w7 := (K5.trans hk6).trans hk7
  clear hsz hb4 hb5 hk6 hk7 B5 K5
  go_wp2
  go_ret
  exact ⟨rfl, K7⟩

set_option maxHeartbeats 1600000 in
theorem leParts_same_no1 (n : Int) (s : Nat) (mu : Int) (a : Option Addr) (cap : Nat) (l : List Int) (w : World) (h0 : -9223372036854775808 ≤ n) (h1 : n ≤ 9223372036854775807) (hlen : l.length ≤ 10000) (hb : Byt w a l) (hn : mayB n (s : Int) = true) (hmu : muB mu = false) (hmu1 : mu < 1) :
    Calls Try.prog 8 #[.int .i64 n, .int .i64 n, .int .i64 (s : Int), .slice a l.length cap, .int .i64 mu] w fun e w' => e = .returned (.bool true) ∧ Kept w w' := by
  have hs8 : 1 ≤ s ∧ s ≤ 8 := by rcases szB_true (mayB_sz hn) with h | h | h | h <;> omega
  obtain ⟨s1, s8⟩ := hs8
  go_enter Try.func8, Try.ntmps8
  go_upto_region 4 with (go_at_call 12; refine (alive_walk _).mono ?_; rintro e w1 ⟨rfl, hk⟩)
  go_upto_region 5 with (go_at_call 9; refine (put_len n s _ h0 h1 hn).mono ?_; rintro e w2 ⟨g1, c1, rfl, hc1, hb1, hk2⟩)
  go_upto_region 6 with (go_at_call 9; refine (put_len n s _ h0 h1 hn).mono ?_; rintro e w3 ⟨g2, c2, rfl, hc2, hb2, hk3⟩)
  go_upto_region 8 with (go_at_call 9; refine (put_eight n _ h0 h1).mono ?_; rintro e w4 ⟨g3, c3, rfl, hc3, hb3, hk4⟩)
  obtain ⟨sx, hsx⟩ : ∃ sx, sx = strOfNums (byN (uOf n) s) := ⟨_, rfl⟩
  have hS1 := str_draw w4 _ _ s c1 sx ((hb1.kept hk3).kept hk4) (byN_length _ _) hsx
  have hS2 := str_draw w4 _ _ s c2 sx (hb2.kept hk4) (byN_length _ _) hsx
  have hS3 := str_draw w4 _ _ s c3 sx (hb3.take s) (by simp [byN_length]; omega) (by rw [byN_take _ _ _ s8]; exact hsx)
  have K4 : Kept w w4 := ((hk.trans hk2).trans hk3).trans hk4
  have f1 : decide ((s : Int) < 0) = false := by simp
  have f2 : decide (8 < (s : Int)) = false := by simp; omega
  have f3 : decide (8 < s) = false := by simp; omega
  clear hsx hb1 hb2 hb3 hk hk2 hk3 hk4
  go_big_quiet (fail)
  have K5 : Kept w (w4.drewN nq) := K4.trans (Kept.drewN _ _)
  have B5 := hb.kept K5
  clear hS1 hS2 hS3 K4 hb
  have d1 : decide (mu < 1) = true := decide_eq_true hmu1
  go_wp2_with (go_at_call 11; refine (pad_no _ _ _ mu _ hmu).mono ?_; rintro e w6 ⟨rfl, rfl⟩)
  go_ret
  exact ⟨rfl, K5⟩

set_option maxHeartbeats 1600000 in
theorem leParts_same_no2 (n : Int) (s : Nat) (mu : Int) (a : Option Addr) (cap : Nat) (l : List Int) (w : World) (h0 : -9223372036854775808 ≤ n) (h1 : n ≤ 9223372036854775807) (hlen : l.length ≤ 10000) (hb : Byt w a l) (hn : mayB n (s : Int) = true) (hmu : muB mu = false) (hmu1 : 4096 < mu) :
    Calls Try.prog 8 #[.int .i64 n, .int .i64 n, .int .i64 (s : Int), .slice a l.length cap, .int .i64 mu] w fun e w' => e = .returned (.bool true) ∧ Kept w w' := by
  have hs8 : 1 ≤ s ∧ s ≤ 8 := by rcases szB_true (mayB_sz hn) with h | h | h | h <;> omega
  obtain ⟨s1, s8⟩ := hs8
  go_enter Try.func8, Try.ntmps8
  go_upto_region 4 with (go_at_call 12; refine (alive_walk _).mono ?_; rintro e w1 ⟨rfl, hk⟩)
  go_upto_region 5 with (go_at_call 9; refine (put_len n s _ h0 h1 hn).mono ?_; rintro e w2 ⟨g1, c1, rfl, hc1, hb1, hk2⟩)
  go_upto_region 6 with (go_at_call 9; refine (put_len n s _ h0 h1 hn).mono ?_; rintro e w3 ⟨g2, c2, rfl, hc2, hb2, hk3⟩)
  go_upto_region 8 with (go_at_call 9; refine (put_eight n _ h0 h1).mono ?_; rintro e w4 ⟨g3, c3, rfl, hc3, hb3, hk4⟩)
  obtain ⟨sx, hsx⟩ : ∃ sx, sx = strOfNums (byN (uOf n) s) := ⟨_, rfl⟩
  have hS1 := str_draw w4 _ _ s c1 sx ((hb1.kept hk3).kept hk4) (byN_length _ _) hsx
  have hS2 := str_draw w4 _ _ s c2 sx (hb2.kept hk4) (byN_length _ _) hsx
  have hS3 := str_draw w4 _ _ s c3 sx (hb3.take s) (by simp [byN_length]; omega) (by rw [byN_take _ _ _ s8]; exact hsx)
  have K4 : Kept w w4 := ((hk.trans hk2).trans hk3).trans hk4
  have f1 : decide ((s : Int) < 0) = false := by simp
  have f2 : decide (8 < (s : Int)) = false := by simp; omega
  have f3 : decide (8 < s) = false := by simp; omega
  clear hsx hb1 hb2 hb3 hk hk2 hk3 hk4
  go_big_quiet (fail)
  have K5 : Kept w (w4.drewN nq) := K4.trans (Kept.drewN _ _)
  have B5 := hb.kept K5
  clear hS1 hS2 hS3 K4 hb
  have d1 : decide (mu < 1) = false := decide_eq_false (by omega)
  have d2 : decide (4096 < mu) = true := decide_eq_true hmu1
  go_wp2_with (go_at_call 11; refine (pad_no _ _ _ mu _ hmu).mono ?_; rintro e w6 ⟨rfl, rfl⟩)
  go_ret
  exact ⟨rfl, K5⟩

set_option maxHeartbeats 1600000 in
theorem leParts_unlike_yes (n m : Int) (s : Nat) (mu : Nat) (a : Option Addr) (cap : Nat) (l : List Int) (w : World) (h0 : -9223372036854775808 ≤ n) (h1 : n ≤ 9223372036854775807) (k0 : -9223372036854775808 ≤ m) (k1 : m ≤ 9223372036854775807) (hlen : l.length ≤ 10000) (hb : Byt w a l) (hn : mayB n (s : Int) = true) (hm : mayB m (s : Int) = true) (hnm : ¬ n = m) (hmu : muB (mu : Int) = true) :
    Calls Try.prog 8 #[.int .i64 n, .int .i64 m, .int .i64 (s : Int), .slice a l.length cap, .int .i64 (mu : Int)] w fun e w' => e = .returned (.bool true) ∧ Kept w w' := by
  have hmu' := of_decide_eq_true hmu
  obtain ⟨u0, u1⟩ : 1 ≤ mu ∧ mu ≤ 4096 := by omega
  clear hmu'
  have hs8 : 1 ≤ s ∧ s ≤ 8 := by rcases szB_true (mayB_sz hn) with h | h | h | h <;> omega
  obtain ⟨s1, s8⟩ := hs8
  go_enter Try.func8, Try.ntmps8
  go_upto_region 4 with (go_at_call 12; refine (alive_walk _).mono ?_; rintro e w1 ⟨rfl, hk⟩)
  go_upto_region 5 with (go_at_call 9; refine (put_len n s _ h0 h1 hn).mono ?_; rintro e w2 ⟨g1, c1, rfl, hc1, hb1, hk2⟩)
  go_upto_region 6 with (go_at_call 9; refine (put_len m s _ k0 k1 hm).mono ?_; rintro e w3 ⟨g2, c2, rfl, hc2, hb2, hk3⟩)
  go_upto_region 8 with (go_at_call 9; refine (put_eight n _ h0 h1).mono ?_; rintro e w4 ⟨g3, c3, rfl, hc3, hb3, hk4⟩)
  obtain ⟨sx, hsx⟩ : ∃ sx, sx = strOfNums (byN (uOf n) s) := ⟨_, rfl⟩
  obtain ⟨sy, hsy⟩ : ∃ sy, sy = strOfNums (byN (uOf m) s) := ⟨_, rfl⟩
  have hne : (sx.toList == sy.toList) = false := by
    rw [Lib.bytes_beq_false_iff, hsx, hsy]
    exact fun h => hnm (byN_unlike n m s h0 h1 k0 k1 hn hm (str_inj (byN_range _ _) (byN_range _ _) h))
  have hnm' : (n == m) = false := by simpa using hnm
  have hS1 := str_draw w4 _ _ s c1 sx ((hb1.kept hk3).kept hk4) (byN_length _ _) hsx
  have hS2 := str_draw w4 _ _ s c2 sy (hb2.kept hk4) (byN_length _ _) hsy
  have hS3 := str_draw w4 _ _ s c3 sx (hb3.take s) (by simp [byN_length]; omega) (by rw [byN_take _ _ _ s8]; exact hsx)
  have K4 : Kept w w4 := ((hk.trans hk2).trans hk3).trans hk4
  have f1 : decide ((s : Int) < 0) = false := by simp
  have f2 : decide (8 < (s : Int)) = false := by simp; omega
  have f3 : decide (8 < s) = false := by simp; omega
  clear hsx hsy hb1 hb2 hb3 hk hk2 hk3 hk4
  go_big_quiet (fail)
  have K5 : Kept w (w4.drewN nq) := K4.trans (Kept.drewN _ _)
  have B5 := hb.kept K5
  clear hS1 hS2 hS3 K4 hb
  go_upto_region 13 with (go_at_call 11; refine (pad_first a cap mu l _ (by omega) B5 hmu).mono ?_; rintro e w6 ⟨g4, c4, x, L, rfl, hc4, hL, hb4, hx1, hx2, hx3, hk6⟩)
  go_upto_region 14 with (go_at_call 11; refine (pad_again (some ⟨g4, 0, none⟩) c4 mu x L _ hL (by omega) hb4 hmu hx3).mono ?_; rintro e w7 ⟨g5, c5, rfl, hc5, hb5, hk7⟩)
  obtain ⟨sz, hsz⟩ : ∃ sz, sz = strOfNums L := ⟨_, rfl⟩
  have hT1 := str_len w7 _ _ x c4 sz (hb4.kept hk7) hL hsz
  have hT2 := str_len w7 _ _ x c5 sz hb5 hL hsz
  have d1 : ¬ (mu : Int) = 0 := by omega
  have d2 : ((mu : Int) == 0) = false := by simp; omega
  have d3 : (x : Int) % (mu : Int) = 0 := by omega
  have d4 : decide ((x : Int) - (l.length : Int) < (mu : Int)) = true := by simp; omega
  have K7 : Kept w w7 := (K5.trans hk6).trans hk7
  clear hsz hb4 hb5 hk6 hk7 B5 K5
  go_wp2
  go_ret
  exact ⟨rfl, K7⟩

set_option maxHeartbeats 1600000 in
theorem leParts_unlike_no1 (n m : Int) (s : Nat) (mu : Int) (a : Option Addr) (cap : Nat) (l : List Int) (w : World) (h0 : -9223372036854775808 ≤ n) (h1 : n ≤ 9223372036854775807) (k0 : -9223372036854775808 ≤ m) (k1 : m ≤ 9223372036854775807) (hlen : l.length ≤ 10000) (hb : Byt w a l) (hn : mayB n (s : Int) = true) (hm : mayB m (s : Int) = true) (hnm : ¬ n = m) (hmu : muB mu = false) (hmu1 : mu < 1) :
    Calls Try.prog 8 #[.int .i64 n, .int .i64 m, .int .i64 (s : Int), .slice a l.length cap, .int .i64 mu] w fun e w' => e = .returned (.bool true) ∧ Kept w w' := by
  have hs8 : 1 ≤ s ∧ s ≤ 8 := by rcases szB_true (mayB_sz hn) with h | h | h | h <;> omega
  obtain ⟨s1, s8⟩ := hs8
  go_enter Try.func8, Try.ntmps8
  go_upto_region 4 with (go_at_call 12; refine (alive_walk _).mono ?_; rintro e w1 ⟨rfl, hk⟩)
  go_upto_region 5 with (go_at_call 9; refine (put_len n s _ h0 h1 hn).mono ?_; rintro e w2 ⟨g1, c1, rfl, hc1, hb1, hk2⟩)
  go_upto_region 6 with (go_at_call 9; refine (put_len m s _ k0 k1 hm).mono ?_; rintro e w3 ⟨g2, c2, rfl, hc2, hb2, hk3⟩)
  go_upto_region 8 with (go_at_call 9; refine (put_eight n _ h0 h1).mono ?_; rintro e w4 ⟨g3, c3, rfl, hc3, hb3, hk4⟩)
  obtain ⟨sx, hsx⟩ : ∃ sx, sx = strOfNums (byN (uOf n) s) := ⟨_, rfl⟩
  obtain ⟨sy, hsy⟩ : ∃ sy, sy = strOfNums (byN (uOf m) s) := ⟨_, rfl⟩
  have hne : (sx.toList == sy.toList) = false := by
    rw [Lib.bytes_beq_false_iff, hsx, hsy]
    exact fun h => hnm (byN_unlike n m s h0 h1 k0 k1 hn hm (str_inj (byN_range _ _) (byN_range _ _) h))
  have hnm' : (n == m) = false := by simpa using hnm
  have hS1 := str_draw w4 _ _ s c1 sx ((hb1.kept hk3).kept hk4) (byN_length _ _) hsx
  have hS2 := str_draw w4 _ _ s c2 sy (hb2.kept hk4) (byN_length _ _) hsy
  have hS3 := str_draw w4 _ _ s c3 sx (hb3.take s) (by simp [byN_length]; omega) (by rw [byN_take _ _ _ s8]; exact hsx)
  have K4 : Kept w w4 := ((hk.trans hk2).trans hk3).trans hk4
  have f1 : decide ((s : Int) < 0) = false := by simp
  have f2 : decide (8 < (s : Int)) = false := by simp; omega
  have f3 : decide (8 < s) = false := by simp; omega
  clear hsx hsy hb1 hb2 hb3 hk hk2 hk3 hk4
  go_big_quiet (fail)
  have K5 : Kept w (w4.drewN nq) := K4.trans (Kept.drewN _ _)
  have B5 := hb.kept K5
  clear hS1 hS2 hS3 K4 hb
  have d1 : decide (mu < 1) = true := decide_eq_true hmu1
  go_wp2_with (go_at_call 11; refine (pad_no _ _ _ mu _ hmu).mono ?_; rintro e w6 ⟨rfl, rfl⟩)
  go_ret
  exact ⟨rfl, K5⟩

set_option maxHeartbeats 1600000 in
theorem leParts_unlike_no2 (n m : Int) (s : Nat) (mu : Int) (a : Option Addr) (cap : Nat) (l : List Int) (w : World) (h0 : -9223372036854775808 ≤ n) (h1 : n ≤ 9223372036854775807) (k0 : -9223372036854775808 ≤ m) (k1 : m ≤ 9223372036854775807) (hlen : l.length ≤ 10000) (hb : Byt w a l) (hn : mayB n (s : Int) = true) (hm : mayB m (s : Int) = true) (hnm : ¬ n = m) (hmu : muB mu = false) (hmu1 : 4096 < mu) :
    Calls Try.prog 8 #[.int .i64 n, .int .i64 m, .int .i64 (s : Int), .slice a l.length cap, .int .i64 mu] w fun e w' => e = .returned (.bool true) ∧ Kept w w' := by
  have hs8 : 1 ≤ s ∧ s ≤ 8 := by rcases szB_true (mayB_sz hn) with h | h | h | h <;> omega
  obtain ⟨s1, s8⟩ := hs8
  go_enter Try.func8, Try.ntmps8
  go_upto_region 4 with (go_at_call 12; refine (alive_walk _).mono ?_; rintro e w1 ⟨rfl, hk⟩)
  go_upto_region 5 with (go_at_call 9; refine (put_len n s _ h0 h1 hn).mono ?_; rintro e w2 ⟨g1, c1, rfl, hc1, hb1, hk2⟩)
  go_upto_region 6 with (go_at_call 9; refine (put_len m s _ k0 k1 hm).mono ?_; rintro e w3 ⟨g2, c2, rfl, hc2, hb2, hk3⟩)
  go_upto_region 8 with (go_at_call 9; refine (put_eight n _ h0 h1).mono ?_; rintro e w4 ⟨g3, c3, rfl, hc3, hb3, hk4⟩)
  obtain ⟨sx, hsx⟩ : ∃ sx, sx = strOfNums (byN (uOf n) s) := ⟨_, rfl⟩
  obtain ⟨sy, hsy⟩ : ∃ sy, sy = strOfNums (byN (uOf m) s) := ⟨_, rfl⟩
  have hne : (sx.toList == sy.toList) = false := by
    rw [Lib.bytes_beq_false_iff, hsx, hsy]
    exact fun h => hnm (byN_unlike n m s h0 h1 k0 k1 hn hm (str_inj (byN_range _ _) (byN_range _ _) h))
  have hnm' : (n == m) = false := by simpa using hnm
  have hS1 := str_draw w4 _ _ s c1 sx ((hb1.kept hk3).kept hk4) (byN_length _ _) hsx
  have hS2 := str_draw w4 _ _ s c2 sy (hb2.kept hk4) (byN_length _ _) hsy
  have hS3 := str_draw w4 _ _ s c3 sx (hb3.take s) (by simp [byN_length]; omega) (by rw [byN_take _ _ _ s8]; exact hsx)
  have K4 : Kept w w4 := ((hk.trans hk2).trans hk3).trans hk4
  have f1 : decide ((s : Int) < 0) = false := by simp
  have f2 : decide (8 < (s : Int)) = false := by simp; omega
  have f3 : decide (8 < s) = false := by simp; omega
  clear hsx hsy hb1 hb2 hb3 hk hk2 hk3 hk4
  go_big_quiet (fail)
  have K5 : Kept w (w4.drewN nq) := K4.trans (Kept.drewN _ _)
  have B5 := hb.kept K5
  clear hS1 hS2 hS3 K4 hb
  have d1 : decide (mu < 1) = false := decide_eq_false (by omega)
  have d2 : decide (4096 < mu) = true := decide_eq_true hmu1
  go_wp2_with (go_at_call 11; refine (pad_no _ _ _ mu _ hmu).mono ?_; rintro e w6 ⟨rfl, rfl⟩)
  go_ret
  exact ⟨rfl, K5⟩

set_option maxHeartbeats 1600000 in
theorem leParts_non_yes (n m : Int) (size : Int) (mu : Nat) (a : Option Addr) (cap : Nat) (l : List Int) (w : World) (h0 : -9223372036854775808 ≤ n) (h1 : n ≤ 9223372036854775807) (k0 : -9223372036854775808 ≤ m) (k1 : m ≤ 9223372036854775807) (hlen : l.length ≤ 10000) (hb : Byt w a l) (hn : mayB n size = false) (hmu : muB (mu : Int) = true) :
    Calls Try.prog 8 #[.int .i64 n, .int .i64 m, .int .i64 size, .slice a l.length cap, .int .i64 (mu : Int)] w fun e w' => e = .returned (.bool true) ∧ Kept w w' := by
  have hmu' := of_decide_eq_true hmu
  obtain ⟨u0, u1⟩ : 1 ≤ mu ∧ mu ≤ 4096 := by omega
  clear hmu'
  go_enter Try.func8, Try.ntmps8
  go_upto_region 4 with (go_at_call 12; refine (alive_walk _).mono ?_; rintro e w1 ⟨rfl, hk⟩)
  go_upto_region 5 with (go_at_call 9; refine (put_no n size _ h0 h1 hn).mono ?_; rintro e w2 ⟨rfl, rfl⟩)
  go_upto_region 6 with (go_at_call 9; refine (put_walk m size _ k0 k1).mono ?_; rintro e w3 ⟨v, rfl, hown, hk3⟩)
  have K5 : Kept w w3 := hk.trans hk3
  have B5 := hb.kept K5
  clear hown hk hk3 hb
  go_upto_region 13 with (go_at_call 11; refine (pad_first a cap mu l _ (by omega) B5 hmu).mono ?_; rintro e w6 ⟨g4, c4, x, L, rfl, hc4, hL, hb4, hx1, hx2, hx3, hk6⟩)
  go_upto_region 14 with (go_at_call 11; refine (pad_again (some ⟨g4, 0, none⟩) c4 mu x L _ hL (by omega) hb4 hmu hx3).mono ?_; rintro e w7 ⟨g5, c5, rfl, hc5, hb5, hk7⟩)
  obtain ⟨sz, hsz⟩ : ∃ sz, sz = strOfNums L := ⟨_, rfl⟩
  have hT1 := str_len w7 _ _ x c4 sz (hb4.kept hk7) hL hsz
  have hT2 := str_len w7 _ _ x c5 sz hb5 hL hsz
  have d1 : ¬ (mu : Int) = 0 := by omega
  have d2 : ((mu : Int) == 0) = false := by simp; omega
  have d3 : (x : Int) % (mu : Int) = 0 := by omega
  have d4 : decide ((x : Int) - (l.length : Int) < (mu : Int)) = true := by simp; omega
  have K7 : Kept w w7 := (K5.trans hk6).trans hk7
  clear hsz hb4 hb5 hk6 hk7 B5 K5
  go_wp2
  go_ret
  exact ⟨rfl, K7⟩

set_option maxHeartbeats 1600000 in
theorem leParts_non_no1 (n m : Int) (size : Int) (mu : Int) (a : Option Addr) (cap : Nat) (l : List Int) (w : World) (h0 : -9223372036854775808 ≤ n) (h1 : n ≤ 9223372036854775807) (k0 : -9223372036854775808 ≤ m) (k1 : m ≤ 9223372036854775807) (hlen : l.length ≤ 10000) (hb : Byt w a l) (hn : mayB n size = false) (hmu : muB mu = false) (hmu1 : mu < 1) :
    Calls Try.prog 8 #[.int .i64 n, .int .i64 m, .int .i64 size, .slice a l.length cap, .int .i64 mu] w fun e w' => e = .returned (.bool true) ∧ Kept w w' := by
  go_enter Try.func8, Try.ntmps8
  go_upto_region 4 with (go_at_call 12; refine (alive_walk _).mono ?_; rintro e w1 ⟨rfl, hk⟩)
  go_upto_region 5 with (go_at_call 9; refine (put_no n size _ h0 h1 hn).mono ?_; rintro e w2 ⟨rfl, rfl⟩)
  go_upto_region 6 with (go_at_call 9; refine (put_walk m size _ k0 k1).mono ?_; rintro e w3 ⟨v, rfl, hown, hk3⟩)
  have K5 : Kept w w3 := hk.trans hk3
  have B5 := hb.kept K5
  clear hown hk hk3 hb
  have d1 : decide (mu < 1) = true := decide_eq_true hmu1
  go_wp2_with (go_at_call 11; refine (pad_no _ _ _ mu _ hmu).mono ?_; rintro e w6 ⟨rfl, rfl⟩)
  go_ret
  exact ⟨rfl, K5⟩

set_option maxHeartbeats 1600000 in
theorem leParts_non_no2 (n m : Int) (size : Int) (mu : Int) (a : Option Addr) (cap : Nat) (l : List Int) (w : World) (h0 : -9223372036854775808 ≤ n) (h1 : n ≤ 9223372036854775807) (k0 : -9223372036854775808 ≤ m) (k1 : m ≤ 9223372036854775807) (hlen : l.length ≤ 10000) (hb : Byt w a l) (hn : mayB n size = false) (hmu : muB mu = false) (hmu1 : 4096 < mu) :
    Calls Try.prog 8 #[.int .i64 n, .int .i64 m, .int .i64 size, .slice a l.length cap, .int .i64 mu] w fun e w' => e = .returned (.bool true) ∧ Kept w w' := by
  go_enter Try.func8, Try.ntmps8
  go_upto_region 4 with (go_at_call 12; refine (alive_walk _).mono ?_; rintro e w1 ⟨rfl, hk⟩)
  go_upto_region 5 with (go_at_call 9; refine (put_no n size _ h0 h1 hn).mono ?_; rintro e w2 ⟨rfl, rfl⟩)
  go_upto_region 6 with (go_at_call 9; refine (put_walk m size _ k0 k1).mono ?_; rintro e w3 ⟨v, rfl, hown, hk3⟩)
  have K5 : Kept w w3 := hk.trans hk3
  have B5 := hb.kept K5
  clear hown hk hk3 hb
  have d1 : decide (mu < 1) = false := decide_eq_false (by omega)
  have d2 : decide (4096 < mu) = true := decide_eq_true hmu1
  go_wp2_with (go_at_call 11; refine (pad_no _ _ _ mu _ hmu).mono ?_; rintro e w6 ⟨rfl, rfl⟩)
  go_ret
  exact ⟨rfl, K5⟩

set_option maxHeartbeats 1600000 in
theorem leParts_nom_yes (n m : Int) (size : Int) (mu : Nat) (a : Option Addr) (cap : Nat) (l : List Int) (w : World) (h0 : -9223372036854775808 ≤ n) (h1 : n ≤ 9223372036854775807) (k0 : -9223372036854775808 ≤ m) (k1 : m ≤ 9223372036854775807) (hlen : l.length ≤ 10000) (hb : Byt w a l) (hn : mayB n size = true) (hm : mayB m size = false) (hmu : muB (mu : Int) = true) :
    Calls Try.prog 8 #[.int .i64 n, .int .i64 m, .int .i64 size, .slice a l.length cap, .int .i64 (mu : Int)] w fun e w' => e = .returned (.bool true) ∧ Kept w w' := by
  have hmu' := of_decide_eq_true hmu
  obtain ⟨u0, u1⟩ : 1 ≤ mu ∧ mu ≤ 4096 := by omega
  clear hmu'
  go_enter Try.func8, Try.ntmps8
  go_upto_region 4 with (go_at_call 12; refine (alive_walk _).mono ?_; rintro e w1 ⟨rfl, hk⟩)
  go_upto_region 5 with (go_at_call 9; refine (put_some n size _ h0 h1 hn).mono ?_; rintro e w2 ⟨g1, c1, rfl, hc1, hb1, hk2⟩)
  go_upto_region 6 with (go_at_call 9; refine (put_no m size _ k0 k1 hm).mono ?_; rintro e w3 ⟨rfl, rfl⟩)
  have K5 : Kept w w3 := hk.trans hk2
  have B5 := hb.kept K5
  clear hb1 hk hk2 hb
  go_upto_region 13 with (go_at_call 11; refine (pad_first a cap mu l _ (by omega) B5 hmu).mono ?_; rintro e w6 ⟨g4, c4, x, L, rfl, hc4, hL, hb4, hx1, hx2, hx3, hk6⟩)
  go_upto_region 14 with (go_at_call 11; refine (pad_again (some ⟨g4, 0, none⟩) c4 mu x L _ hL (by omega) hb4 hmu hx3).mono ?_; rintro e w7 ⟨g5, c5, rfl, hc5, hb5, hk7⟩)
  obtain ⟨sz, hsz⟩ : ∃ sz, sz = strOfNums L := ⟨_, rfl⟩
  have hT1 := str_len w7 _ _ x c4 sz (hb4.kept hk7) hL hsz
  have hT2 := str_len w7 _ _ x c5 sz hb5 hL hsz
  have d1 : ¬ (mu : Int) = 0 := by omega
  have d2 : ((mu : Int) == 0) = false := by simp; omega
  have d3 : (x : Int) % (mu : Int) = 0 := by omega
  have d4 : decide ((x : Int) - (l.length : Int) < (mu : Int)) = true := by simp; omega
  have K7 : Kept w w7 := (K5.trans hk6).trans hk7
  clear hsz hb4 hb5 hk6 hk7 B5 K5
  go_wp2
  go_ret
  exact ⟨rfl, K7⟩

set_option maxHeartbeats 1600000 in
theorem leParts_nom_no1 (n m : Int) (size : Int) (mu : Int) (a : Option Addr) (cap : Nat) (l : List Int) (w : World) (h0 : -9223372036854775808 ≤ n) (h1 : n ≤ 9223372036854775807) (k0 : -9223372036854775808 ≤ m) (k1 : m ≤ 9223372036854775807) (hlen : l.length ≤ 10000) (hb : Byt w a l) (hn : mayB n size = true) (hm : mayB m size = false) (hmu : muB mu = false) (hmu1 : mu < 1) :
    Calls Try.prog 8 #[.int .i64 n, .int .i64 m, .int .i64 size, .slice a l.length cap, .int .i64 mu] w fun e w' => e = .returned (.bool true) ∧ Kept w w' := by
  go_enter Try.func8, Try.ntmps8
  go_upto_region 4 with (go_at_call 12; refine (alive_walk _).mono ?_; rintro e w1 ⟨rfl, hk⟩)
  go_upto_region 5 with (go_at_call 9; refine (put_some n size _ h0 h1 hn).mono ?_; rintro e w2 ⟨g1, c1, rfl, hc1, hb1, hk2⟩)
  go_upto_region 6 with (go_at_call 9; refine (put_no m size _ k0 k1 hm).mono ?_; rintro e w3 ⟨rfl, rfl⟩)
  have K5 : Kept w w3 := hk.trans hk2
  have B5 := hb.kept K5
  clear hb1 hk hk2 hb
  have d1 : decide (mu < 1) = true := decide_eq_true hmu1
  go_wp2_with (go_at_call 11; refine (pad_no _ _ _ mu _ hmu).mono ?_; rintro e w6 ⟨rfl, rfl⟩)
  go_ret
  exact ⟨rfl, K5⟩

set_option maxHeartbeats 1600000 in
theorem leParts_nom_no2 (n m : Int) (size : Int) (mu : Int) (a : Option Addr) (cap : Nat) (l : List Int) (w : World) (h0 : -9223372036854775808 ≤ n) (h1 : n ≤ 9223372036854775807) (k0 : -9223372036854775808 ≤ m) (k1 : m ≤ 9223372036854775807) (hlen : l.length ≤ 10000) (hb : Byt w a l) (hn : mayB n size = true) (hm : mayB m size = false) (hmu : muB mu = false) (hmu1 : 4096 < mu) :
    Calls Try.prog 8 #[.int .i64 n, .int .i64 m, .int .i64 size, .slice a l.length cap, .int .i64 mu] w fun e w' => e = .returned (.bool true) ∧ Kept w w' := by
  go_enter Try.func8, Try.ntmps8
  go_upto_region 4 with (go_at_call 12; refine (alive_walk _).mono ?_; rintro e w1 ⟨rfl, hk⟩)
  go_upto_region 5 with (go_at_call 9; refine (put_some n size _ h0 h1 hn).mono ?_; rintro e w2 ⟨g1, c1, rfl, hc1, hb1, hk2⟩)
  go_upto_region 6 with (go_at_call 9; refine (put_no m size _ k0 k1 hm).mono ?_; rintro e w3 ⟨rfl, rfl⟩)
  have K5 : Kept w w3 := hk.trans hk2
  have B5 := hb.kept K5
  clear hb1 hk hk2 hb
  have d1 : decide (mu < 1) = false := decide_eq_false (by omega)
  have d2 : decide (4096 < mu) = true := decide_eq_true hmu1
  go_wp2_with (go_at_call 11; refine (pad_no _ _ _ mu _ hmu).mono ?_; rintro e w6 ⟨rfl, rfl⟩)
  go_ret
  exact ⟨rfl, K5⟩

theorem leParts_walk (n m size mu : Int) (a : Option Addr) (cap : Nat) (l : List Int) (w : World) (h0 : -9223372036854775808 ≤ n) (h1 : n ≤ 9223372036854775807) (k0 : -9223372036854775808 ≤ m) (k1 : m ≤ 9223372036854775807) (hb : Byt w a l) :
    Calls Try.prog 8 #[.int .i64 n, .int .i64 m, .int .i64 size, .slice a l.length cap, .int .i64 mu] w fun e w' => e = .returned (.bool true) ∧ Kept w w' := by
  by_cases hg : 10000 < l.length
  · exact leParts_great n m size mu a l.length cap w hg
  · have hlen : l.length ≤ 10000 := by omega
    cases hmu : muB mu
    · by_cases hmu1 : mu < 1
      · cases hn : mayB n size
        · exact leParts_non_no1 n m size mu a cap l w h0 h1 k0 k1 hlen hb hn hmu hmu1
        · cases hm : mayB m size
          · exact leParts_nom_no1 n m size mu a cap l w h0 h1 k0 k1 hlen hb hn hm hmu hmu1
          · have es := szB_nat (mayB_sz hn)
            rw [← es] at hn hm ⊢
            by_cases hnm : n = m
            · subst hnm
              exact leParts_same_no1 n size.toNat mu a cap l w h0 h1 hlen hb hn hmu hmu1
            · exact leParts_unlike_no1 n m size.toNat mu a cap l w h0 h1 k0 k1 hlen hb hn hm hnm hmu hmu1
      · have hmu2 : 4096 < mu := by
          have := of_decide_eq_false hmu
          omega
        cases hn : mayB n size
        · exact leParts_non_no2 n m size mu a cap l w h0 h1 k0 k1 hlen hb hn hmu hmu2
        · cases hm : mayB m size
          · exact leParts_nom_no2 n m size mu a cap l w h0 h1 k0 k1 hlen hb hn hm hmu hmu2
          · have es := szB_nat (mayB_sz hn)
            rw [← es] at hn hm ⊢
            by_cases hnm : n = m
            · subst hnm
              exact leParts_same_no2 n size.toNat mu a cap l w h0 h1 hlen hb hn hmu hmu2
            · exact leParts_unlike_no2 n m size.toNat mu a cap l w h0 h1 k0 k1 hlen hb hn hm hnm hmu hmu2
    · have eu : ((mu.toNat : Nat) : Int) = mu := by
        have := of_decide_eq_true hmu
        omega
      rw [← eu] at hmu ⊢
      cases hn : mayB n size
      · exact leParts_non_yes n m size mu.toNat a cap l w h0 h1 k0 k1 hlen hb hn hmu
      · cases hm : mayB m size
        · exact leParts_nom_yes n m size mu.toNat a cap l w h0 h1 k0 k1 hlen hb hn hm hmu
        · have es := szB_nat (mayB_sz hn)
          rw [← es] at hn hm ⊢
          by_cases hnm : n = m
          · subst hnm
            exact leParts_same_yes n size.toNat mu.toNat a cap l w h0 h1 hlen hb hn hmu
          · exact leParts_unlike_yes n m size.toNat mu.toNat a cap l w h0 h1 k0 k1 hlen hb hn hm hnm hmu
end Go.Proofs.Ytjaeidmbeidhlaa
