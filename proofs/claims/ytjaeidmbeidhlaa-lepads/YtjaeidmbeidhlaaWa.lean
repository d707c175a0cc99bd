/- The law LePads, walked. -/
import Derived.Test.YtjaeidmbeidhlaaKit
import Derived.Deep.DeepCutAuto
namespace Go.Proofs.Ytjaeidmbeidhlaa
open Go.RowKit

theorem lePads_no (a : Option Addr) (cap : Nat) (m : Int) (l : List Int) (w : World) (_hb : Byt w a l) (h : 10000 < l.length ∨ muB m = false) :
    Calls Try.prog 6 #[.slice a l.length cap, .int .i64 m] w fun e w' => e = .returned (.bool true) ∧ Kept w w' := by
  by_cases hlen : 10000 < l.length
  · go_enter Try.func6, Try.ntmps6
    go_wp2_with (go_at_call 12; refine (alive_walk _).mono ?_; rintro e w1 ⟨rfl, hk⟩)
    go_ret
    exact ⟨rfl, hk⟩
  · have hm : muB m = false := by rcases h with h | h; exact absurd h hlen; exact h
    have hm' := of_decide_eq_false hm
    by_cases h1 : m < 1
    · have h1' : decide (m < 1) = true := by simpa using h1
      clear hm' h
      go_enter Try.func6, Try.ntmps6
      go_wp2_with (first
        | (go_at_call 12; refine (alive_walk _).mono ?_; rintro e w1 ⟨rfl, hk⟩)
        | (go_at_call 11; refine (pad_no _ _ _ _ _ hm).mono ?_; rintro e w2 ⟨rfl, rfl⟩))
      go_ret
      exact ⟨rfl, hk⟩
    · have h1' : decide (m < 1) = false := by simpa using h1
      have h2 : 4096 < m := by omega
      have h2' : decide (4096 < m) = true := by simpa using h2
      clear hm' h
      go_enter Try.func6, Try.ntmps6
      go_wp2_with (first
        | (go_at_call 12; refine (alive_walk _).mono ?_; rintro e w1 ⟨rfl, hk⟩)
        | (go_at_call 11; refine (pad_no _ _ _ _ _ hm).mono ?_; rintro e w2 ⟨rfl, rfl⟩))
      go_ret
      exact ⟨rfl, hk⟩

set_option maxHeartbeats 1600000 in
theorem lePads_yes (a : Option Addr) (cap m : Nat) (l : List Int) (w : World) (hlen : l.length ≤ 10000) (_hcap : l.length ≤ cap) (hb : Byt w a l) (hm : muB (m : Int) = true) :
    Calls Try.prog 6 #[.slice a l.length cap, .int .i64 (m : Int)] w fun e w' => e = .returned (.bool true) ∧ Kept w w' := by
  have hm' := of_decide_eq_true hm
  obtain ⟨m0, m1⟩ : 1 ≤ m ∧ m ≤ 4096 := by omega
  clear hm'
  have hpad : ∀ w', Byt w' a l → _ := fun w' h => pad_some a cap m l w' (by omega) h hm
  obtain ⟨k, hk⟩ : ∃ k, padK l.length m = k := ⟨_, rfl⟩
  have hk1 : k < m := by rw [← hk]; exact padK_lt m0
  have hk2 : (l.length + k) % m = 0 := by rw [← hk]; exact padK_mod m0
  simp only [Int.toNat_natCast, hk] at hpad
  have hrem : (((l.length + k : Nat) : Int) % (m : Int)) = 0 := by omega
  obtain ⟨n, hn⟩ : ∃ n, l.length + k = n := ⟨_, rfl⟩
  rw [hn] at hrem hk2
  simp only [hn] at hpad
  have g1 : decide ((n : Int) < (l.length : Int)) = false := by simp; omega
  have g2 : decide ((m : Int) ≤ (n : Int) - (l.length : Int)) = false := by simp; omega
  have hnb : n ≤ 14096 := by omega
  have hnl : l.length ≤ n := by omega
  have HN : Hid (l.length + k = n) := hn
  have g3 : decide (n < l.length) = false := by simp; omega
  have d1 : ¬ (m : Int) = 0 := by omega
  have d2 : ((m : Int) == 0) = false := by simp; omega
  have d3 : (n : Int).tmod (m : Int) = 0 := by rw [Int.tmod_eq_emod_of_nonneg (by omega)]; exact hrem
  clear hn hk hk2
  go_enter Try.func6, Try.ntmps6
  go_upto_region 7 with (first
    | (go_at_call 12; refine (alive_walk _).mono ?_; rintro e w1 ⟨rfl, hk⟩)
    | (go_at_call 11; refine (hpad _ (hb.kept hk)).mono ?_; rintro e w2 ⟨g, c, rfl, hc, hcell, hk2⟩))
  have hb2 : Byt w2 a l := (hb.kept hk).kept hk2
  have hb1 : Byt w2 (some ⟨g, 0, none⟩) l := .inr ⟨g, 0, rfl, fun i hi => by
    rw [Nat.zero_add, hcell i (by omega)]
    simp [List.getD, List.getElem?_append_left hi]⟩
  have hS1 : ∀ q, (convert 22 9 (.slice (some ⟨g, 0, none⟩) l.length c)).run Try.prog (w2.drewN q) = .ok (.string (strOfNums l)) (w2.drewN q) := fun q => str_run _ _ l c (hb1.drewN q)
  have hS2 : ∀ q, (convert 22 9 (.slice a l.length cap)).run Try.prog (w2.drewN q) = .ok (.string (strOfNums l)) (w2.drewN q) := fun q => str_run _ _ l cap (hb2.drewN q)
  have hz : ∀ i, l.length ≤ i → i < n → w2.cell? ⟨g, i, none⟩ = some (.int .u8 0) := by
    intro i h1 h2
    rw [hcell i h2]
    have := HN.out
    simp [List.getD, List.getElem?_append_right h1, show i - l.length < k by omega]
  have K2 : Kept w w2 := hk.trans hk2
  clear hpad hb hcell hb1 hb2 hk hk2
  go_big_quiet (fail)
  have K3 : Kept w (w2.drewN nq) := K2.trans (Kept.drewN _ _)
  clear hS1 hS2
  go_wp2
  go_loop [8] (fun i => ∃ j : Nat, l.length ≤ j ∧ j ≤ n ∧ i = .int .i64 j) (fun i => n - (intOf i).toNat)
  case atStart => exact ⟨l.length, Nat.le_refl _, hnl, rfl⟩
  case round =>
    obtain ⟨j, hj0, hj1, rfl⟩ := hrel
    by_cases hlt : j < n
    · have hcell := hz j hj0 hlt
      go_wp2
      go_round
      case rel => exact ⟨j + 1, by omega, by omega, by go_num⟩
      case measure => simp [intOf]; omega
    · go_wp2
      go_ret
      exact ⟨rfl, K3⟩

theorem lePads_walk (a : Option Addr) (cap : Nat) (m : Int) (l : List Int) (w : World) (hcap : l.length ≤ cap) (hb : Byt w a l) :
    Calls Try.prog 6 #[.slice a l.length cap, .int .i64 m] w fun e w' => e = .returned (.bool true) ∧ Kept w w' := by
  cases hm : muB m
  · exact lePads_no a cap m l w hb (.inr hm)
  · by_cases hlen : 10000 < l.length
    · exact lePads_no a cap m l w hb (.inl hlen)
    · obtain ⟨h0, h1⟩ := of_decide_eq_true hm
      have e : ((m.toNat : Nat) : Int) = m := by omega
      have := lePads_yes a cap m.toNat l w (by omega) hcap hb (by rw [e]; exact hm)
      rwa [e] at this
end Go.Proofs.Ytjaeidmbeidhlaa
