/- Proved: the law CencTells of the package quoinlaw05 returns true for every instruction: its short form, whether it has one, and the errors, are the document's. No conditions. -/
import Derived.Test.YtpimdldgejlekaaKit
namespace Go.Proofs.Ytpimdldgejlekaa
open Go.ChangeShapes Go.WideShapes Go.ChangeAt Go.RowKit
open Go.ChangeMaps (open_string shut_string)
set_option linter.unusedVariables false

set_option maxRecDepth 20000 in
theorem cencTells_walk (op0 rd0 rs10 rs20 imm0 : Int) (s0_0 : (Lit.int .u8 op0).wf = true) (s0_1 : (Lit.int .i64 rd0).wf = true) (s0_2 : (Lit.int .i64 rs10).wf = true) (s0_3 : (Lit.int .i64 rs20).wf = true) (s0_4 : (Lit.int .i64 imm0).wf = true) (w : World) :
    Calls Try.prog 4 #[insnV op0 rd0 rs10 rs20 imm0] w fun e w' => e = .returned (.bool true) ∧ Kept w w' := by
  have b0 := wf_u8 s0_0
  have hA := fun w => halfC_walk op0 rd0 rs10 rs20 imm0 b0.1 b0.2 w
  have hB := fun w => half_walk op0 rd0 rs10 rs20 imm0 b0.1 b0.2 w
  have hC := fun w => shortC_walk op0 rd0 rs10 rs20 imm0 b0.1 b0.2 w
  have hD := fun w => short_walk op0 rd0 rs10 rs20 imm0 b0.1 b0.2 w
  generalize hfV op0 rd0 rs10 rs20 imm0 = v at hA hB
  generalize hfE op0 rd0 rs10 rs20 imm0 = r at hA hB
  generalize shV op0 rd0 rs10 rs20 imm0 = b at hC hD
  generalize (if mayB op0 rd0 rs10 rs20 imm0 = true then (0 : Int) else 20) = q at hC hD
  go_enter Try.func4, Try.ntmps4
  go_upto_region 2 with (go_at_call 6; refine (hA _).mono ?_; rintro e w2 ⟨rfl, hk2⟩)
  have e0 : w2.cell? ⟨w.heap.size, 0, none⟩ = some (.int .u8 op0) := Kept.cell hk2 (by simp)
  have e1 : w2.cell? ⟨w.heap.size, 1, none⟩ = some (.int .i64 rd0) := Kept.cell hk2 (by simp)
  have e2 : w2.cell? ⟨w.heap.size, 2, none⟩ = some (.int .i64 rs10) := Kept.cell hk2 (by simp)
  have e3 : w2.cell? ⟨w.heap.size, 3, none⟩ = some (.int .i64 rs20) := Kept.cell hk2 (by simp)
  have e4 : w2.cell? ⟨w.heap.size, 4, none⟩ = some (.int .i64 imm0) := Kept.cell hk2 (by simp)
  have hK2 := (Kept.alloc w (.cells #[.int .u8 op0, .int .i64 rd0, .int .i64 rs10, .int .i64 rs20, .int .i64 imm0] 27)).trans hk2
  clear hk2
  go_upto_region 3 with (go_at_call 10; refine (hB _).mono ?_; rintro e w3 ⟨rfl, hk3⟩)
  replace e0 := Kept.cell hk3 e0
  replace e1 := Kept.cell hk3 e1
  replace e2 := Kept.cell hk3 e2
  replace e3 := Kept.cell hk3 e3
  replace e4 := Kept.cell hk3 e4
  go_upto_region 4 with (go_at_call 7; refine (hC _).mono ?_; rintro e w4 ⟨rfl, hk4⟩)
  replace e0 := Kept.cell hk4 e0
  replace e1 := Kept.cell hk4 e1
  replace e2 := Kept.cell hk4 e2
  replace e3 := Kept.cell hk4 e3
  replace e4 := Kept.cell hk4 e4
  go_wp2_with (go_at_call 11; refine (hD _).mono ?_; rintro e w5 ⟨rfl, hk5⟩)
  go_ret
  exact ⟨by simp, ((hK2.trans hk3).trans hk4).trans hk5⟩


set_option maxRecDepth 100000 in
theorem cencTells_lifted (os : Os) (started : os.Started) (H : Type) (enc : TypeId × Value → H) :
    ReturnsInHanded {} Try.checked os 4 .any (Rows.cencTellsSpec.pre6 enc Try.prog Try.f4 Rows.cencTellsRow.domain false) (Rows.cencTellsSpec.post enc Try.prog Try.f4 false true false false) := by
  refine returnsInHanded_of_change (C := Try.checked) own started (by kernel_rfl) Try.func4
    (ChangeSpec.witness6 (enc := enc) (C := Try.checked) false ⟨#[], #[.agg #[.int .u8 0, .int .i64 0, .int .i64 0, .int .i64 0, .int .i64 0]], []⟩ 8 (by kernel_rfl) (by kernel_rfl) (by kernel_rfl) (by kernel_rfl)) ?_
  intro W base args ds gs before hval0 hW hcnd _
  have hval : ∀ (j : Nat) t v, Try.f4.params[j]? = some t → args[j]? = some v → Value.okWide Try.prog W .any base t v := hval0
  have hW' := hW
  obtain ⟨p, q, hA0, hV, rfl, hfz, hnd⟩ := hW
  have hA : DataW.TrodAll enc Try.prog W 0 (fun _ => true) true Try.f4.params.toList args.toList ds p := hA0
  rw [Try.params4] at hA hval
  obtain ⟨v0, vs0, d0, ds0, p0, q0, hargs, rfl, rfl, h0, r0⟩ := trodAll_cons hA
  obtain ⟨rfl, rfl, rfl⟩ := trodAll_nil r0
  obtain rfl : args = #[v0] := by cases args; simp_all
  obtain ⟨rfl, rfl⟩ := trodVars_none hV
  have t0 := h0
  obtain ⟨op0, rd0, rs10, rs20, imm0, rfl, rfl, s0_0, s0_1, s0_2, s0_3, s0_4⟩ := open_insn (hval 0 27 v0 rfl rfl) h0
  clear hA0 hval0
  simp only [List.append_nil] at hW'
  refine (cencTells_walk op0 rd0 rs10 rs20 imm0 s0_0 s0_1 s0_2 s0_3 s0_4 W).mono fun e W' ⟨he, hg⟩ => ?_
  subst he
  exact ⟨_, rfl, _, _, _, [], _, [], hW', trodAll_cons_mk (shut_bool Try.underlying4 _) trodAll_mk0, (trodAll_cons_mk (Below.trod laidOut (by kernel_rfl) (of_decide_eq_true (by kernel_rfl)) t0 hg (fun x hx => by cases hx)) trodAll_mk0), rfl, Below.frame hg _, fun h => by cases h⟩

/-- THE STATEMENT -/
theorem cencTells_holds : Rows.CencTellsSaid :=
  OpenClaim.holds_of_wide 4 Try.f4 rfl rfl rfl rfl rfl rfl rfl ⟨rfl, rfl, rfl, rfl, rfl⟩ rfl rfl rfl rfl rfl (by kernel_rfl) Try.func4 (by kernel_rfl)
    (of_decide_eq_true (by kernel_rfl)) (by unfold Func.isWrapper; first | (rw [if_pos (by decide +kernel)]; kernel_rfl) | (rw [if_neg (by decide +kernel)]; exact ⟨rfl, rfl⟩))
    (fun os started H enc _ => cencTells_lifted os started H enc)
#print axioms cencTells_holds
end Go.Proofs.Ytpimdldgejlekaa
