/- Proved: the law CencNames of the package quoinlaw05 returns true: the examples of the chapter on short forms are answered as it says. No conditions. -/
import Derived.Test.YtpimdldgejlekaaKit
namespace Go.Proofs.Ytpimdldgejlekaa
open Go.ChangeShapes Go.WideShapes Go.ChangeAt Go.RowKit
open Go.ChangeMaps (open_string shut_string)
set_option linter.unusedVariables false

theorem no_a : hfV 22 1 2 0 3 = 0 ∧ hfE 22 1 2 0 3 = 6 := by decide +kernel
theorem no_b : hfV 28 8 8 0 0 = 0 ∧ hfE 28 8 8 0 0 = 6 := by decide +kernel
theorem no_c : shV 0 0 0 0 0 = false ∧ mayB 0 0 0 0 0 = false := by decide +kernel
theorem half_a (w : World) : Calls Try.prog 6 #[insnV 22 1 2 0 3] w fun e w' => e = .returned (.tuple #[.int .u16 0, .int .i64 6]) ∧ Kept w w' := by
  have h := halfC_walk 22 1 2 0 3 (by decide) (by decide) w
  rwa [no_a.1, no_a.2] at h
theorem half_b (w : World) : Calls Try.prog 6 #[insnV 28 8 8 0 0] w fun e w' => e = .returned (.tuple #[.int .u16 0, .int .i64 6]) ∧ Kept w w' := by
  have h := halfC_walk 28 8 8 0 0 (by decide) (by decide) w
  rwa [no_b.1, no_b.2] at h
theorem short_a (w : World) : Calls Try.prog 7 #[insnV 0 0 0 0 0] w fun e w' => e = .returned (.tuple #[.bool false, .int .i64 20]) ∧ Kept w w' := by
  have h := shortC_walk 0 0 0 0 0 (by decide) (by decide) w
  rw [no_c.1, no_c.2] at h
  simpa using h

set_option maxRecDepth 20000 in
theorem cencNames_walk (w : World) :
    Calls Try.prog 3 #[] w fun e w' => e = .returned (.bool true) ∧ Kept w w' := by
  have k1 := is_d
  have k2 := is_e
  have k3 := is_f
  go_enter Try.func3, Try.ntmps3
  go_upto_region 2 with (go_at_call 6; refine (half_a _).mono ?_; rintro e w1 ⟨rfl, hk1⟩)
  go_upto_region 3 with (go_at_call 6; refine (half_b _).mono ?_; rintro e w2 ⟨rfl, hk2⟩)
  go_upto_region 4 with (go_at_call 7; refine (short_a _).mono ?_; rintro e w3 ⟨rfl, hk3⟩)
  have hK := (hk1.trans hk2).trans hk3
  clear hk1 hk2 hk3
  go_wp2_with (first
    | (go_at_call 8; refine (aliveC_walk _).mono ?_; rintro e w' ⟨rfl, hk⟩; have hK := Kept.trans hK hk; clear hk)
    | (go_at_call 9; refine (isC_walk _ _ _ _ _ _ (by omega) (by omega) _).mono ?_; rintro e w' ⟨rfl, hk⟩; have hK := Kept.trans hK hk; clear hk))
  go_ret
  exact ⟨rfl, hK⟩


set_option maxRecDepth 100000 in
theorem cencNames_lifted (os : Os) (started : os.Started) (H : Type) (enc : TypeId × Value → H) :
    ReturnsInHanded {} Try.checked os 3 .any (Rows.cencNamesSpec.pre6 enc Try.prog Try.f3 Rows.cencNamesRow.domain false) (Rows.cencNamesSpec.post enc Try.prog Try.f3 false true false false) := by
  refine returnsInHanded_of_change (C := Try.checked) own started (by kernel_rfl) Try.func3
    (ChangeSpec.witness6 (enc := enc) (C := Try.checked) false ⟨#[], #[], []⟩ 8 (by kernel_rfl) (by kernel_rfl) (by kernel_rfl) (by kernel_rfl)) ?_
  intro W base args ds gs before hval0 hW hcnd _
  have hval : ∀ (j : Nat) t v, Try.f3.params[j]? = some t → args[j]? = some v → Value.okWide Try.prog W .any base t v := hval0
  have hW' := hW
  obtain ⟨p, q, hA0, hV, rfl, hfz, hnd⟩ := hW
  have hA : DataW.TrodAll enc Try.prog W 0 (fun _ => true) true Try.f3.params.toList args.toList ds p := hA0
  rw [Try.params3] at hA hval
  obtain ⟨hargs, rfl, rfl⟩ := trodAll_nil hA
  obtain rfl : args = #[] := by cases args; simp_all
  obtain ⟨rfl, rfl⟩ := trodVars_none hV
  clear hA0 hval0
  simp only [List.append_nil] at hW'
  refine (cencNames_walk  W).mono fun e W' ⟨he, hg⟩ => ?_
  subst he
  exact ⟨_, rfl, _, _, _, [], _, [], hW', trodAll_cons_mk (shut_bool Try.underlying4 _) trodAll_mk0, trodAll_mk0, rfl, Below.frame hg _, fun h => by cases h⟩

/-- THE STATEMENT -/
theorem cencNames_holds : Rows.CencNamesSaid :=
  OpenClaim.holds_of_wide 3 Try.f3 rfl rfl rfl rfl rfl rfl rfl ⟨rfl, rfl, rfl, rfl, rfl⟩ rfl rfl rfl rfl rfl (by kernel_rfl) Try.func3 (by kernel_rfl)
    (of_decide_eq_true (by kernel_rfl)) (by unfold Func.isWrapper; first | (rw [if_pos (by decide +kernel)]; kernel_rfl) | (rw [if_neg (by decide +kernel)]; exact ⟨rfl, rfl⟩))
    (fun os started H enc _ => cencNames_lifted os started H enc)
#print axioms cencNames_holds
end Go.Proofs.Ytpimdldgejlekaa
