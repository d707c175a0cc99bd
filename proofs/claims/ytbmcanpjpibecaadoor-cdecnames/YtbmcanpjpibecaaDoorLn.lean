/- The parts of CdecNames. -/
import Derived.Test.YtbmcanpjpibecaaDoorLs
import Derived.Deep.DeepCutAuto
namespace Go.Proofs.YtbmcanpjpibecaaDoor
open Go.RowKit

theorem bd_0 : ¬ hIx 0 < 33 := by
  have h : decide (hIx 0 < 33) = false := by decide +kernel
  simpa using h
theorem bd_32770 : ¬ hIx 32770 < 33 := by
  have h : decide (hIx 32770 < 33) = false := by decide +kernel
  simpa using h
theorem bd_24705 : ¬ hIx 24705 < 33 := by
  have h : decide (hIx 24705 < 33) = false := by decide +kernel
  simpa using h
theorem bd_40001 : ¬ hIx 40001 < 33 := by
  have h : decide (hIx 40001 < 33) = false := by decide +kernel
  simpa using h
theorem bd_3 : ¬ hIx 3 < 33 := by
  have h : decide (hIx 3 < 33) = false := by decide +kernel
  simpa using h
theorem ex_e : (hOp 24897, hRd 24897, hRs1 24897, hRs2 24897, hImm 24897, hErr 24897) = (22, 2, 2, 0, 16, 0) := by decide +kernel
theorem ex_f : (hfV 22 2 2 0 16, hfE 22 2 2 0 16) = (321, 0) := by decide +kernel
set_option maxRecDepth 20000 in
set_option maxHeartbeats 3200000 in
theorem cdecNames_all (w : World) (hT : Tab w) : Calls Tryd.prog 3 #[] w fun e w' => e = .returned (.bool true) ∧ Kept w w' := by
  have hA := fun w' (k : Kept w w') => alive_walk w' (hT.kept k)
  have hF := fun w => halfC_walk 22 2 2 0 16 (by decide) (by decide) w
  have hf := ex_f
  simp only [Prod.mk.injEq] at hf
  rw [hf.1, hf.2] at hF
  clear hf
  have hI := fun w' (k : Kept w w') => is_ex 24897 (by decide) _ _ _ _ _ ex_e w' (hT.kept k)
  have b0 := fun w' (k : Kept w w') => bad_ex 0 (by decide) bd_0 w' (hT.kept k)
  have b32770 := fun w' (k : Kept w w') => bad_ex 32770 (by decide) bd_32770 w' (hT.kept k)
  have b24705 := fun w' (k : Kept w w') => bad_ex 24705 (by decide) bd_24705 w' (hT.kept k)
  have b40001 := fun w' (k : Kept w w') => bad_ex 40001 (by decide) bd_40001 w' (hT.kept k)
  have b3 := fun w' (k : Kept w w') => bad_ex 3 (by decide) bd_3 w' (hT.kept k)
  have s3 : ∀ w, Calls Tryd.prog 12 #[.int .u16 3] w fun e w' => e = .returned (.int .i64 4) ∧ w' = w := fun w => csize_walk 3 (by decide) w
  have s32898 : ∀ w, Calls Tryd.prog 12 #[.int .u16 32898] w fun e w' => e = .returned (.int .i64 2) ∧ w' = w := fun w => csize_walk 32898 (by decide) w
  have hK := Kept.refl w
  go_enter Tryd.func3, Tryd.ntmps3
  go_wp2_with (first
    | (go_at_call 8; refine (hF _).mono ?_; rintro e w' ⟨rfl, hk⟩; have hK' := hK.trans hk; clear hK hk; have hK := hK'; clear hK')
    | (go_at_call 9; refine (hA _ hK).mono ?_; rintro e w' ⟨rfl, hk⟩; have hK' := hK.trans hk; clear hK hk; have hK := hK'; clear hK')
    | (go_at_call 10; refine (hI _ hK).mono ?_; rintro e w' ⟨rfl, hk⟩; have hK' := hK.trans hk; clear hK hk; have hK := hK'; clear hK')
    | (go_at_call_of 11 (Value.int .u16 0); refine (b0 _ hK).mono ?_; rintro e w' ⟨rfl, hk⟩; have hK' := hK.trans hk; clear hK hk; have hK := hK'; clear hK')
    | (go_at_call_of 11 (Value.int .u16 32770); refine (b32770 _ hK).mono ?_; rintro e w' ⟨rfl, hk⟩; have hK' := hK.trans hk; clear hK hk; have hK := hK'; clear hK')
    | (go_at_call_of 11 (Value.int .u16 24705); refine (b24705 _ hK).mono ?_; rintro e w' ⟨rfl, hk⟩; have hK' := hK.trans hk; clear hK hk; have hK := hK'; clear hK')
    | (go_at_call_of 11 (Value.int .u16 40001); refine (b40001 _ hK).mono ?_; rintro e w' ⟨rfl, hk⟩; have hK' := hK.trans hk; clear hK hk; have hK := hK'; clear hK')
    | (go_at_call_of 11 (Value.int .u16 3); refine (b3 _ hK).mono ?_; rintro e w' ⟨rfl, hk⟩; have hK' := hK.trans hk; clear hK hk; have hK := hK'; clear hK')
    | (go_at_call_of 12 (Value.int .u16 3); refine (s3 _).mono ?_; rintro e w' ⟨rfl, rfl⟩)
    | (go_at_call_of 12 (Value.int .u16 32898); refine (s32898 _).mono ?_; rintro e w' ⟨rfl, rfl⟩))
  go_ret
  exact ⟨rfl, hK⟩
end Go.Proofs.YtbmcanpjpibecaaDoor
