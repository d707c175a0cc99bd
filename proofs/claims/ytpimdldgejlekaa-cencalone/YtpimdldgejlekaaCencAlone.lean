/- Proved: the law CencAlone of the package quoinlaw05 returns true for every two instructions: no two instructions have one short form, and none of them ends with two bits 1. No conditions. -/
import Derived.Test.YtpimdldgejlekaaAl
namespace Go.Proofs.Ytpimdldgejlekaa
open Go.ChangeShapes Go.WideShapes Go.ChangeAt Go.RowKit
open Go.ChangeMaps (open_string shut_string)
set_option linter.unusedVariables false

theorem cencAlone_walk (op0 rd0 rs10 rs20 imm0 : Int) (s0_0 : (Lit.int .u8 op0).wf = true) (s0_1 : (Lit.int .i64 rd0).wf = true) (s0_2 : (Lit.int .i64 rs10).wf = true) (s0_3 : (Lit.int .i64 rs20).wf = true) (s0_4 : (Lit.int .i64 imm0).wf = true) (op1 rd1 rs11 rs21 imm1 : Int) (s1_0 : (Lit.int .u8 op1).wf = true) (s1_1 : (Lit.int .i64 rd1).wf = true) (s1_2 : (Lit.int .i64 rs11).wf = true) (s1_3 : (Lit.int .i64 rs21).wf = true) (s1_4 : (Lit.int .i64 imm1).wf = true) (w : World) :
    Calls Try.prog 5 #[insnV op0 rd0 rs10 rs20 imm0, insnV op1 rd1 rs11 rs21 imm1] w fun e w' => e = .returned (.bool true) ∧ Kept w w' := by
  have b0 := wf_u8 s0_0
  have b1 := wf_u8 s1_0
  exact alone_walk op0 rd0 rs10 rs20 imm0 op1 rd1 rs11 rs21 imm1 ⟨b0.1, b0.2⟩ ⟨b1.1, b1.2⟩ w


set_option maxRecDepth 100000 in
theorem cencAlone_lifted (os : Os) (started : os.Started) (H : Type) (enc : TypeId × Value → H) :
    ReturnsInHanded {} Try.checked os 5 .any (Rows.cencAloneSpec.pre6 enc Try.prog Try.f5 Rows.cencAloneRow.domain false) (Rows.cencAloneSpec.post enc Try.prog Try.f5 false true false false) := by
  refine returnsInHanded_of_change (C := Try.checked) own started (by kernel_rfl) Try.func5
    (ChangeSpec.witness6 (enc := enc) (C := Try.checked) false ⟨#[], #[.agg #[.int .u8 0, .int .i64 0, .int .i64 0, .int .i64 0, .int .i64 0], .agg #[.int .u8 0, .int .i64 0, .int .i64 0, .int .i64 0, .int .i64 0]], []⟩ 8 (by kernel_rfl) (by kernel_rfl) (by kernel_rfl) (by kernel_rfl)) ?_
  intro W base args ds gs before hval0 hW hcnd _
  have hval : ∀ (j : Nat) t v, Try.f5.params[j]? = some t → args[j]? = some v → Value.okWide Try.prog W .any base t v := hval0
  have hW' := hW
  obtain ⟨p, q, hA0, hV, rfl, hfz, hnd⟩ := hW
  have hA : DataW.TrodAll enc Try.prog W 0 (fun _ => true) true Try.f5.params.toList args.toList ds p := hA0
  rw [Try.params5] at hA hval
  obtain ⟨v0, vs0, d0, ds0, p0, q0, hargs, rfl, rfl, h0, r0⟩ := trodAll_cons hA
  obtain ⟨v1, vs1, d1, ds1, p1, q1, rfl, rfl, rfl, h1, r1⟩ := trodAll_cons r0
  obtain ⟨rfl, rfl, rfl⟩ := trodAll_nil r1
  obtain rfl : args = #[v0, v1] := by cases args; simp_all
  obtain ⟨rfl, rfl⟩ := trodVars_none hV
  have t0 := h0
  obtain ⟨op0, rd0, rs10, rs20, imm0, rfl, rfl, s0_0, s0_1, s0_2, s0_3, s0_4⟩ := open_insn (hval 0 27 v0 rfl rfl) h0
  have t1 := h1
  obtain ⟨op1, rd1, rs11, rs21, imm1, rfl, rfl, s1_0, s1_1, s1_2, s1_3, s1_4⟩ := open_insn (hval 1 27 v1 rfl rfl) h1
  clear hA0 hval0
  simp only [List.append_nil] at hW'
  refine (cencAlone_walk op0 rd0 rs10 rs20 imm0 s0_0 s0_1 s0_2 s0_3 s0_4 op1 rd1 rs11 rs21 imm1 s1_0 s1_1 s1_2 s1_3 s1_4 W).mono fun e W' ⟨he, hg⟩ => ?_
  subst he
  exact ⟨_, rfl, _, _, _, [], _, [], hW', trodAll_cons_mk (shut_bool Try.underlying4 _) trodAll_mk0, (trodAll_cons_mk (Below.trod laidOut (by kernel_rfl) (of_decide_eq_true (by kernel_rfl)) t0 hg (fun x hx => by cases hx)) (trodAll_cons_mk (Below.trod laidOut (by kernel_rfl) (of_decide_eq_true (by kernel_rfl)) t1 hg (fun x hx => by cases hx)) trodAll_mk0)), rfl, Below.frame hg _, fun h => by cases h⟩

/-- THE STATEMENT -/
theorem cencAlone_holds : Rows.CencAloneSaid :=
  OpenClaim.holds_of_wide 5 Try.f5 rfl rfl rfl rfl rfl rfl rfl ⟨rfl, rfl, rfl, rfl, rfl⟩ rfl rfl rfl rfl rfl (by kernel_rfl) Try.func5 (by kernel_rfl)
    (of_decide_eq_true (by kernel_rfl)) (by unfold Func.isWrapper; first | (rw [if_pos (by decide +kernel)]; kernel_rfl) | (rw [if_neg (by decide +kernel)]; exact ⟨rfl, rfl⟩))
    (fun os started H enc _ => cencAlone_lifted os started H enc)
#print axioms cencAlone_holds
end Go.Proofs.Ytpimdldgejlekaa
