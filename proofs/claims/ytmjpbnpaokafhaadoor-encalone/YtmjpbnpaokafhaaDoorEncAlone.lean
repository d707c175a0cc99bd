/- Proved: the law EncAlone of the package quoinlaw03 returns true for every two instructions: no two instructions have one word, each field is had back of it, and all else is the base's. The table of bases is as the program's text lays it (the card ties it). -/
import Derived.Test.YtmjpbnpaokafhaaDoorAlo
namespace Go.Proofs.YtmjpbnpaokafhaaDoor
open Go.ChangeShapes Go.WideShapes Go.ChangeAt Go.RowKit
open Go.ChangeMaps (open_string shut_string)
set_option linter.unusedVariables false

theorem encAlone_walk (op0 rd0 rs10 rs20 imm0 : Int) (s0_0 : (Lit.int .u8 op0).wf = true) (s0_1 : (Lit.int .i64 rd0).wf = true) (s0_2 : (Lit.int .i64 rs10).wf = true) (s0_3 : (Lit.int .i64 rs20).wf = true) (s0_4 : (Lit.int .i64 imm0).wf = true) (op1 rd1 rs11 rs21 imm1 : Int) (s1_0 : (Lit.int .u8 op1).wf = true) (s1_1 : (Lit.int .i64 rd1).wf = true) (s1_2 : (Lit.int .i64 rs11).wf = true) (s1_3 : (Lit.int .i64 rs21).wf = true) (s1_4 : (Lit.int .i64 imm1).wf = true) (w : World) (hT : Tab w) :
    Calls Tryd.prog 5 #[insnV op0 rd0 rs10 rs20 imm0, insnV op1 rd1 rs11 rs21 imm1] w fun e w' => e = .returned (.bool true) ∧ Kept w w' := by
  have b0 := bounds_u8 s0_0
  have b1 := bounds_u8 s1_0
  cases hm : mayB op0 rd0 rs10 rs20 imm0
  · exact alone_no op0 rd0 rs10 rs20 imm0 op1 rd1 rs11 rs21 imm1 ⟨by omega, by omega⟩ ⟨by omega, by omega⟩ hm w hT
  · exact alone_yes op0 rd0 rs10 rs20 imm0 op1 rd1 rs11 rs21 imm1 ⟨by omega, by omega⟩ ⟨by omega, by omega⟩ hm w hT

set_option maxRecDepth 100000 in
theorem encAlone_lifted (os : Os) (started : os.Started) (H : Type) (enc : TypeId × Value → H) (F : Stop.Interp) :
    ReturnsInHanded {} Tryd.checked os 5 .any ((OpenSpec.ofChange Rows.encAloneSpec).preRow enc Tryd.prog Tryd.f5 Rows.encAloneRow.domain false Rows.encAloneRow.laid) (((OpenSpec.ofChange Rows.encAloneSpec).at F).post enc Tryd.prog Tryd.f5 false true false false) := by
  have hx : ∃ ds places, DataW.whole enc Tryd.prog ((World.doorLaid Tryd.prog 400 os).forCall (fun _ _ => 0) ⟨#[], #[.agg #[.int .u8 0, .int .i64 0, .int .i64 0, .int .i64 0, .int .i64 0], .agg #[.int .u8 0, .int .i64 0, .int .i64 0, .int .i64 0, .int .i64 0]], []⟩).memory Tryd.f5.params.toList Rows.encAloneSpec.vars false (#[.agg #[.int .u8 0, .int .i64 0, .int .i64 0, .int .i64 0, .int .i64 0], .agg #[.int .u8 0, .int .i64 0, .int .i64 0, .int .i64 0, .int .i64 0]] : Array Value).toList 8 = some (ds, [], places) := ⟨[.agg [.lit (.int .u8 0), .lit (.int .i64 0), .lit (.int .i64 0), .lit (.int .i64 0), .lit (.int .i64 0)], .agg [.lit (.int .u8 0), .lit (.int .i64 0), .lit (.int .i64 0), .lit (.int .i64 0), .lit (.int .i64 0)]], [], by kernel_rfl⟩
  obtain ⟨ds, places, hx⟩ := hx
  refine returnsInHanded_of_row (C := Tryd.checked) (s := OpenSpec.ofChange Rows.encAloneSpec) own started (by kernel_rfl) Tryd.func5
    (witness_row_at (enc := enc) (C := Tryd.checked) false (World.doorLaid Tryd.prog 400 os) #[.agg #[.int .u8 0, .int .i64 0, .int .i64 0, .int .i64 0, .int .i64 0], .agg #[.int .u8 0, .int .i64 0, .int .i64 0, .int .i64 0, .int .i64 0]] rfl (by kernel_rfl) (by kernel_rfl) (by kernel_rfl)
      (OpenSpec.preRow_of_cond 8 hx (by kernel_rfl) (fun k hk => by cases hk) (by kernel_rfl) (door_met os _))) ?_
  intro W base args ds gs before hval0 hW _ _ _ hL _ _
  have hval : ∀ (j : Nat) t v, Tryd.f5.params[j]? = some t → args[j]? = some v → Value.okWide Tryd.prog W .any base t v := hval0
  have hW' := hW
  obtain ⟨p, q, hA0, hV, rfl, hfz, hnd⟩ := hW
  have hA : DataW.TrodAll enc Tryd.prog W 0 (fun _ => true) true Tryd.f5.params.toList args.toList ds p := hA0
  rw [Tryd.params5] at hA hval
  obtain ⟨v0, vs0, d0, ds0, p0, q0, hargs, rfl, rfl, h0, r0⟩ := trodAll_cons hA
  obtain ⟨v1, vs1, d1, ds1, p1, q1, rfl, rfl, rfl, h1, r1⟩ := trodAll_cons r0
  obtain ⟨rfl, rfl, rfl⟩ := trodAll_nil r1
  obtain rfl : args = #[v0, v1] := by cases args; simp_all
  obtain ⟨rfl, rfl⟩ := trodVars_none hV
  have t0 := h0
  obtain ⟨op0, rd0, rs10, rs20, imm0, rfl, rfl, s0_0, s0_1, s0_2, s0_3, s0_4⟩ := open_insn (hval 0 31 v0 rfl rfl) h0
  have t1 := h1
  obtain ⟨op1, rd1, rs11, rs21, imm1, rfl, rfl, s1_0, s1_1, s1_2, s1_3, s1_4⟩ := open_insn (hval 1 31 v1 rfl rfl) h1
  clear hA0 hval0
  simp only [List.append_nil] at hW'
  refine (encAlone_walk op0 rd0 rs10 rs20 imm0 s0_0 s0_1 s0_2 s0_3 s0_4 op1 rd1 rs11 rs21 imm1 s1_0 s1_1 s1_2 s1_3 s1_4 W (tab_of_laid hL)).mono fun e W' ⟨he, hg⟩ => ?_
  subst he
  exact ⟨_, rfl, _, _, _, [], _, [], hW', trodAll_cons_mk (shut_bool Tryd.underlying4 _) trodAll_mk0, (trodAll_cons_mk (Below.trod laidOut (by kernel_rfl) (of_decide_eq_true (by kernel_rfl)) t0 hg (fun x hx => by cases hx)) (trodAll_cons_mk (Below.trod laidOut (by kernel_rfl) (of_decide_eq_true (by kernel_rfl)) t1 hg (fun x hx => by cases hx)) trodAll_mk0)), rfl, Below.frame hg _, fun h => by cases h⟩

theorem encAlone_said : Rows.EncAloneSaid :=
  OpenClaim.holds_of_cond 5 Tryd.f5 rfl rfl rfl rfl rfl rfl rfl ⟨rfl, rfl, rfl, rfl, rfl⟩ rfl rfl rfl rfl rfl (by kernel_rfl) Tryd.func5 (by kernel_rfl)
    (of_decide_eq_true (by kernel_rfl)) (by unfold Func.isWrapper; first | (rw [if_pos (by decide +kernel)]; kernel_rfl) | (rw [if_neg (by decide +kernel)]; exact ⟨rfl, rfl⟩))
    (fun os started H enc _ F => by rw [OpenClaim.pre_eq_preRow]; exact encAlone_lifted os started H enc F)

theorem encAlone_plain (f : FuncId) (fn : Func) (hf : Tryd.pinned.checked.prog.funcNamed "quoin/quoinlaw03.EncAlone" = some f) (hfn : Tryd.pinned.checked.prog.funcs[f]? = some fn) :
    false = Tryd.pinned.checked.prog.looks [] ∧ ∀ (j : Nat) t, fn.params[j]? = some t → Tryd.pinned.checked.prog.wantsStandIn t = false := by
  obtain rfl : f = 5 := Option.some.inj ((show Tryd.prog.funcNamed "quoin/quoinlaw03.EncAlone" = some 5 by kernel_rfl).symm.trans hf) |>.symm
  obtain rfl : fn = Tryd.f5 := (Option.some.inj (Tryd.func5.symm.trans hfn)).symm
  refine ⟨by kernel_rfl, fun j t ht => ?_⟩
  rw [Tryd.params5] at ht
  have hm : t ∈ [31, 31] := by simpa using Array.mem_of_getElem? ht
  have hall : ([31, 31].all fun u => !Tryd.prog.wantsStandIn u) = true := by kernel_rfl
  exact (show Tryd.prog.wantsStandIn t = false by simpa using List.all_eq_true.1 hall t hm)

/-- THE CARD. -/
theorem encAlone_holds : Rows.EncAloneCardSaid :=
  Claim7.holds_tied_plain_at .later [] _ _ _ _ encAlone_said (fun _ h => by cases h) (by kernel_rfl) (fun _ h => by cases h) encAlone_row_tie rfl ⟨rfl, rfl⟩ (by kernel_rfl) rfl encAlone_plain (by kernel_rfl)
#print axioms encAlone_holds
end Go.Proofs.YtmjpbnpaokafhaaDoor
