/- The law SymWhere, walked. -/
import Derived.Test.YteehekoajemciaaDoorKit
namespace Go.Proofs.YteehekoajemciaaDoor
open Go.RowKit

set_option maxRecDepth 20000 in
set_option maxHeartbeats 3200000 in
theorem where_walk (s : ByteArray) (bind : Int) (hid : Bool) (wh val sz n : Int) (w : World) (hT : Tab w) (ok : SymOk s bind wh val sz) (hn0 : -9223372036854775808 ≤ n) (hn1 : n ≤ 9223372036854775807) :
    Calls Tryd.prog 6 #[symW s bind hid wh val sz, .int .i64 n] w fun e w' => e = .returned (.bool true) ∧ Kept w w' := by
  have B1 := SBx.new w s bind hid wh val sz
  obtain ⟨wa, hwa⟩ : ∃ wa, w.alloc (symO s bind hid wh val sz) = wa := ⟨_, rfl⟩
  rw [hwa] at B1
  have kA : Kept w wa := by rw [← hwa]; exact Kept.alloc _ _
  have hA := alive_walk wa (hT.kept kA)
  have hC := fun m w => ycheck_walk s bind hid wh val sz m w ok.size ok.b0
  go_enter Tryd.func6, Tryd.ntmps6
  go_upto_region 2 with (go_at_call 12; refine hA.mono ?_; rintro e w1 ⟨rfl, k1⟩)
  have B2 := B1.kept k1
  have K1 := kA.trans k1
  have B2' := B2
  obtain ⟨c0, c1, c2, c3, c4, c5, _, _, _, _, _, _⟩ := B2'
  have hC1 := hC n
  clear hA hwa kA B1
  by_cases h0 : n < 0
  · have d0 : decide (n < 0) = true := decide_eq_true h0
    rw [chkY_arg (.inl h0)] at hC1
    have e16 : (n == 16) = false := by rw [beq_eq_false_iff_ne]; omega
    clear h0 hC
    go_wp2_with (go_at_call 9; refine (hC1 _).mono ?_; rintro e w2 ⟨rfl, k2⟩)
    go_ret
    exact ⟨rfl, K1.trans k2⟩
  have d0 : decide (n < 0) = false := decide_eq_false h0
  by_cases h1 : 15 < n
  · have d1 : decide (15 < n) = true := decide_eq_true h1
    by_cases h2 : n = 16
    · have e16 : (n == 16) = true := by rw [beq_iff_eq]; exact h2
      clear h0 h1 h2 hC
      go_wp2_with (go_at_call 9; refine (hC1 _).mono ?_; rintro e w2 ⟨rfl, k2⟩)
      go_ret
      exact ⟨rfl, K1.trans k2⟩
    · have e16 : (n == 16) = false := by rw [beq_eq_false_iff_ne]; exact h2
      rw [chkY_arg (.inr (by omega))] at hC1
      clear h0 h1 h2 hC
      go_wp2_with (go_at_call 9; refine (hC1 _).mono ?_; rintro e w2 ⟨rfl, k2⟩)
      go_ret
      exact ⟨rfl, K1.trans k2⟩
  have d1 : decide (15 < n) = false := decide_eq_false h1
  have hC2 := hC (n + 1)
  rw [chkY_in (by omega) (by omega)] at hC1 hC2
  have HM : Hid (okY (nm s) bind hid wh val sz n = true → okY (nm s) bind hid wh val sz (n + 1) = true) := fun h => by
    obtain ⟨a, b⟩ := okY_has h
    unfold okY
    rw [a, stands_more (by omega) b]
    rfl
  have HL : Hid (okY (nm s) bind hid wh val sz n = false → okY (nm s) bind hid wh val sz (n + 1) = true → wh = n + 1) := fun h h' => by
    obtain ⟨a, b⟩ := okY_has h'
    unfold okY at h
    rw [a, Bool.true_and] at h
    exact stands_less b h
  obtain ⟨G, hG⟩ : ∃ G, okY (nm s) bind hid wh val sz n = G := ⟨_, rfl⟩
  obtain ⟨G2, hG2⟩ : ∃ G, okY (nm s) bind hid wh val sz (n + 1) = G := ⟨_, rfl⟩
  rw [hG] at hC1 HM HL
  rw [hG2] at hC2 HM HL
  clear hG hG2 hC
  go_upto_region 3 with (go_at_call 9; refine (hC1 _).mono ?_; rintro e w2 ⟨rfl, k2⟩)
  clear c0 c1 c2 c3 c4 c5
  have B3 := B2.kept k2
  have B3' := B3
  obtain ⟨c0, c1, c2, c3, c4, c5, _, _, _, _, _, _⟩ := B3'
  clear hC1
  cases G with
  | true =>
    obtain rfl : G2 = true := HM.out rfl
    go_wp2_with (go_at_call 9; refine (hC2 _).mono ?_; rintro e w3 ⟨rfl, k3⟩)
    go_ret
    exact ⟨rfl, (K1.trans k2).trans k3⟩
  | false =>
    cases G2 with
    | true =>
      have hw : (wh == n + 1) = true := by rw [beq_iff_eq]; exact HL.out rfl rfl
      go_wp2_with (go_at_call 9; refine (hC2 _).mono ?_; rintro e w3 ⟨rfl, k3⟩; clear c0 c1 c2 c3 c4 c5; obtain ⟨c0, c1, c2, c3, c4, c5, _, _, _, _, _, _⟩ := B3.kept k3)
      go_ret
      exact ⟨rfl, (K1.trans k2).trans k3⟩
    | false =>
      go_wp2_with (go_at_call 9; refine (hC2 _).mono ?_; rintro e w3 ⟨rfl, k3⟩)
      go_ret
      exact ⟨rfl, (K1.trans k2).trans k3⟩
end Go.Proofs.YteehekoajemciaaDoor
