/- The law SymNames, walked. -/
import Derived.Test.YteehekoajemciaaDoorKit
namespace Go.Proofs.YteehekoajemciaaDoor
open Go.RowKit

theorem nC1 : chkY (nm ⟨#[102]⟩) 1 false 1 8 0 1 = 0 := by decide +kernel
theorem nC2 : chkY (nm ⟨#[102]⟩) 1 false 2 8 0 1 = 8 := by decide +kernel
theorem nC3 : chkY (nm ⟨#[102]⟩) 0 false 0 0 0 3 = 8 := by decide +kernel
theorem nC4 : chkY (nm ⟨#[102]⟩) 0 true 1 0 0 3 = 8 := by decide +kernel
theorem nR1 : rdY [7, 0, 0, 0, 32, 2, 241, 255, 255, 255, 255, 255, 255, 255, 255, 255, 0, 0, 0, 0, 0, 0, 0, 0] = (2, true, -1, -1, 0, 7, 0) := by decide +kernel
theorem nR2 : rdY [] = (0, false, 0, 0, 0, 0, 3) := by decide +kernel
theorem nRr : ∀ x ∈ [7, 0, 0, 0, 32, 2, 241, 255, 255, 255, 255, 255, 255, 255, 255, 255, 0, 0, 0, 0, 0, 0, 0, 0], (0 : Int) ≤ x ∧ x < 256 := by decide +kernel

set_option maxRecDepth 20000 in
set_option maxHeartbeats 3200000 in
theorem names_walk (w : World) (hT : Tab w) : Calls Tryd.prog 3 #[] w fun e w' => e = .returned (.bool true) ∧ Kept w w' := by
  have C1 := fun w => ycheck_walk ⟨#[102]⟩ 1 false 1 8 0 1 w (by decide) (by decide)
  have C2 := fun w => ycheck_walk ⟨#[102]⟩ 1 false 2 8 0 1 w (by decide) (by decide)
  have C3 := fun w => ycheck_walk ⟨#[102]⟩ 0 false 0 0 0 3 w (by decide) (by decide)
  have C4 := fun w => ycheck_walk ⟨#[102]⟩ 0 true 1 0 0 3 w (by decide) (by decide)
  rw [nC1] at C1
  rw [nC2] at C2
  rw [nC3] at C3
  rw [nC4] at C4
  go_enter Tryd.func3, Tryd.ntmps3
  go_upto_region 2 with fail
  have B1 := SBx.new w ⟨#[102]⟩ 1 false 1 8 0
  obtain ⟨wa, hwa⟩ : ∃ wa, w.alloc (symO ⟨#[102]⟩ 1 false 1 8 0) = wa := ⟨_, rfl⟩
  rw [hwa] at B1 ⊢
  have kA : Kept w wa := by rw [← hwa]; exact Kept.alloc _ _
  have B1' := B1
  obtain ⟨c0, c1, c2, c3, c4, c5, _, _, _, _, _, _⟩ := B1'
  go_upto_region 3 with (go_at_call 9; refine (C1 _).mono ?_; rintro e w1 ⟨rfl, k1⟩)
  have B2 := B1.kept k1
  have B3 := B2.set3 2
  have K1 := kA.trans k1
  have K3 := K1.setCell (p := ⟨w.heap.size, 3, none⟩) (Nat.le_refl _) (.int .i64 2)
  obtain ⟨wb, hwb⟩ : ∃ wb, w1.setCell ⟨w.heap.size, 3, none⟩ (.int .i64 2) = wb := ⟨_, rfl⟩
  rw [hwb] at B3 K3
  have s3 := B2.c3
  have f3 := B2.f3
  clear c0 c1 c2 c3 c4 c5 hwa C1 B1
  obtain ⟨c0, c1, c2, c3, c4, c5, _, _, _, _, _, _⟩ := B3
  go_upto_region 5 with (go_at_call 9; refine (C2 _).mono ?_; rintro e w2 ⟨rfl, k2⟩)
  clear c0 c1 c2 c3 c4 c5 s3 f3 hwb C2 B2
  go_upto_region 6 with (go_at_call 9; refine (C3 _).mono ?_; rintro e w3 ⟨rfl, k3⟩)
  clear C3
  go_upto_region 7 with (go_at_call 9; refine (C4 _).mono ?_; rintro e w4 ⟨rfl, k4⟩)
  clear C4
  have K4 : Kept w w4 := ((Kept.trans K3 k2).trans k3).trans k4
  have hW := ywrite_walk ⟨#[102]⟩ 2 true (-1) (-1) 0 7 w4 (hT.kept K4) (by decide) (by decide)
  rw [al_all.1, al_all.2] at hW
  go_upto_region 8 with (go_at_call 10; refine hW.mono ?_; rintro e w5 ⟨x5, rfl, O5, k5⟩)
  obtain ⟨A5, C5, rfl, hC5, y5, _⟩ := O5.let (show List.length [7, 0, 0, 0, 32, 2, 241, 255, 255, 255, 255, 255, 255, 255, 255, 255, 0, 0, 0, 0, 0, 0, 0, 0] = 24 from rfl)
  have K5 := K4.trans k5
  have hR1 := yread_walk A5 24 C5 _ 2 true (-1) (-1) 0 7 0 w5 (hT.kept K5) (show List.length [7, 0, 0, 0, 32, 2, 241, 255, 255, 255, 255, 255, 255, 255, 255, 255, 0, 0, 0, 0, 0, 0, 0, 0] = 24 from rfl) hC5 y5 nRr nR1
  clear hW O5 y5 hC5 k1 k2 k3 k4 k5 K1 K3
  go_upto_region 9 with (go_at_call 11; refine hR1.mono ?_; rintro e w6 ⟨rfl, k6⟩)
  have B7 := SBx.new w6 ⟨#[]⟩ 2 true (-1) (-1) 0
  have k7 : Kept w6 (w6.alloc (symO ⟨#[]⟩ 2 true (-1) (-1) 0)) := Kept.alloc _ _
  obtain ⟨w7, hw7⟩ : ∃ w7, w6.alloc (symO ⟨#[]⟩ 2 true (-1) (-1) 0) = w7 := ⟨_, rfl⟩
  rw [hw7] at B7 k7 ⊢
  have K7 := (K5.trans k6).trans k7
  have hR2 := yread_walk none 0 0 [] 0 false 0 0 0 0 3 w7 (hT.kept K7) rfl (Nat.le_refl _) (.inl rfl) (fun x hx => by cases hx) nR2
  obtain ⟨bq, hbq⟩ : ∃ b, w6.heap.size = b := ⟨_, rfl⟩
  rw [hbq] at B7 ⊢
  clear hw7 hR1 k6 k7 hbq K5 K4
  go_upto_region 10 with (go_at_call 11; refine hR2.mono ?_; rintro e w8 ⟨rfl, k8⟩)
  have k9 : Kept w8 (w8.alloc (symO ⟨#[]⟩ 0 false 0 0 0)) := Kept.alloc _ _
  obtain ⟨w9, hw9⟩ : ∃ w9, w8.alloc (symO ⟨#[]⟩ 0 false 0 0 0) = w9 := ⟨_, rfl⟩
  rw [hw9] at k9 ⊢
  have K9 := (K7.trans k8).trans k9
  have hA := alive_walk w9 (hT.kept K9)
  have B9 := (B7.kept k8).kept k9
  clear hw9 hR2 B7
  go_wp2_with (go_at_call 12; refine hA.mono ?_; rintro e wz ⟨rfl, kz⟩; obtain ⟨c0, c1, c2, c3, c4, c5, _, _, _, _, _, _⟩ := B9.kept kz)
  go_ret
  exact ⟨rfl, K9.trans kz⟩
end Go.Proofs.YteehekoajemciaaDoor
