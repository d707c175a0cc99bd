/- Proved: A type is about 0, 1, 2, 4 or 8 bytes, or is none; a relocation is written just where it may be, and unlike relocations have unlike bytes, but for the section: for every type and every two relocations (there is no condition beside the card). -/
import Derived.Test.YtbfmichhpcaamaaDoorXu
namespace Go.Proofs.YtbfmichhpcaamaaDoor
open Go.ChangeShapes Go.WideShapes Go.ChangeAt Go.RowKit
open Go.ChangeMaps (open_string shut_string)
set_option linter.unusedVariables false

theorem relaFields_walk (a0 : Int) (s1 o1 t1 y1 d1' : Int) (s2 o2 t2 y2 d2' : Int) (w : World) (hT : Tab w) (w0 : (Lit.int .u8 a0).wf = true) (ok1 : RelaOk s1 o1 t1 y1 d1') (ok2 : RelaOk s2 o2 t2 y2 d2') :
    Calls Tryd.prog 7 #[.int .u8 a0, relW s1 o1 t1 y1 d1', relW s2 o2 t2 y2 d2'] w fun e w' => e = .returned (.bool true) ∧ Kept w w' := by
  obtain ⟨lo0, hi0⟩ := wf_u8 w0
  exact fields_walk a0 s1 o1 t1 y1 d1' s2 o2 t2 y2 d2' w hT ok1 ok2

set_option maxRecDepth 100000 in
theorem relaFields_lifted (os : Os) (started : os.Started) (H : Type) (enc : TypeId × Value → H) (F : Stop.Interp) :
    ReturnsInHanded {} Tryd.checked os 7 .any ((OpenSpec.ofChange Rows.relaFieldsSpec).preRow enc Tryd.prog Tryd.f7 Rows.relaFieldsRow.domain false Rows.relaFieldsRow.laid) (((OpenSpec.ofChange Rows.relaFieldsSpec).at F).post enc Tryd.prog Tryd.f7 false true false false) := by
  have hx : ∃ ds places, DataW.whole enc Tryd.prog ((World.doorLaid Tryd.prog 400 os).forCall (fun _ _ => 0) ⟨#[], #[.int .u8 0, .agg #[.int .i64 0, .int .i64 0, .int .u8 0, .int .i64 0, .int .i64 0], .agg #[.int .i64 0, .int .i64 0, .int .u8 0, .int .i64 0, .int .i64 0]], []⟩).memory Tryd.f7.params.toList Rows.relaFieldsSpec.vars false (#[.int .u8 0, .agg #[.int .i64 0, .int .i64 0, .int .u8 0, .int .i64 0, .int .i64 0], .agg #[.int .i64 0, .int .i64 0, .int .u8 0, .int .i64 0, .int .i64 0]] : Array Value).toList 8 = some (ds, [], places) := ⟨[.lit (.int .u8 0), .agg [.lit (.int .i64 0), .lit (.int .i64 0), .lit (.int .u8 0), .lit (.int .i64 0), .lit (.int .i64 0)], .agg [.lit (.int .i64 0), .lit (.int .i64 0), .lit (.int .u8 0), .lit (.int .i64 0), .lit (.int .i64 0)]], [], by kernel_rfl⟩
  obtain ⟨ds, places, hx⟩ := hx
  refine returnsInHanded_of_row (C := Tryd.checked) (s := OpenSpec.ofChange Rows.relaFieldsSpec) own started (by kernel_rfl) Tryd.func7
    (witness_row_at (enc := enc) (C := Tryd.checked) false (World.doorLaid Tryd.prog 400 os) #[.int .u8 0, .agg #[.int .i64 0, .int .i64 0, .int .u8 0, .int .i64 0, .int .i64 0], .agg #[.int .i64 0, .int .i64 0, .int .u8 0, .int .i64 0, .int .i64 0]] rfl (by kernel_rfl) (by kernel_rfl) (by kernel_rfl)
      (OpenSpec.preRow_of_cond 8 hx (by kernel_rfl) (fun k hk => by cases hk) (by kernel_rfl) (door_met os _))) ?_
  intro W base args ds gs before hval0 hW _ _ _ hL _ _
  have hval : ∀ (j : Nat) t v, Tryd.f7.params[j]? = some t → args[j]? = some v → Value.okWide Tryd.prog W .any base t v := hval0
  have hW' := hW
  obtain ⟨p, q, hA0, hV, rfl, hfz, hnd⟩ := hW
  have hA : DataW.TrodAll enc Tryd.prog W 0 (fun _ => true) true Tryd.f7.params.toList args.toList ds p := hA0
  rw [Tryd.params7] at hA hval
  obtain ⟨v0, vs0, d0, ds0, p0, q0, hargs, rfl, rfl, h0, r0⟩ := trodAll_cons hA
  obtain ⟨v1, vs1, d1, ds1, p1, q1, rfl, rfl, rfl, h1, r1⟩ := trodAll_cons r0
  obtain ⟨v2, vs2, d2, ds2, p2, q2, rfl, rfl, rfl, h2, r2⟩ := trodAll_cons r1
  obtain ⟨rfl, rfl, rfl⟩ := trodAll_nil r2
  obtain rfl : args = #[v0, v1, v2] := by cases args; simp_all
  obtain ⟨rfl, rfl⟩ := trodVars_none hV
  have k0 := h0
  obtain ⟨a0, rfl, rfl, rfl, w0⟩ := open_int Tryd.underlying5 (hval 0 5 v0 rfl rfl) h0
  have k1 := h1
  obtain ⟨s1, o1, t1, y1, d1', rfl, rfl, w1⟩ := open_rela (hval 1 27 v1 rfl rfl) h1
  have k2 := h2
  obtain ⟨s2, o2, t2, y2, d2', rfl, rfl, w2⟩ := open_rela (hval 2 27 v2 rfl rfl) h2
  clear hA0 hval0
  refine (relaFields_walk a0 s1 o1 t1 y1 d1' s2 o2 t2 y2 d2' W (tab_of_laid hL) w0 w1 w2).mono fun e W' ⟨he, hg⟩ => ?_
  subst he
  exact ⟨_, rfl, _, _, _, [], _, [], hW', trodAll_cons_mk (shut_bool Tryd.underlying4 _) trodAll_mk0, (trodAll_cons_mk (Below.trod laidOut (by kernel_rfl) (of_decide_eq_true (by kernel_rfl)) k0 hg (fun x hx => by cases hx)) (trodAll_cons_mk (Below.trod laidOut (by kernel_rfl) (of_decide_eq_true (by kernel_rfl)) k1 hg (fun x hx => by cases hx)) (trodAll_cons_mk (Below.trod laidOut (by kernel_rfl) (of_decide_eq_true (by kernel_rfl)) k2 hg (fun x hx => by cases hx)) trodAll_mk0))), rfl, Below.frame hg _, fun h => by cases h⟩

theorem relaFields_said : Rows.RelaFieldsSaid :=
  OpenClaim.holds_of_cond 7 Tryd.f7 rfl rfl rfl rfl rfl rfl rfl ⟨rfl, rfl, rfl, rfl, rfl⟩ rfl rfl rfl rfl rfl (by kernel_rfl) Tryd.func7 (by kernel_rfl)
    (of_decide_eq_true (by kernel_rfl)) (by unfold Func.isWrapper; first | (rw [if_pos (by decide +kernel)]; kernel_rfl) | (rw [if_neg (by decide +kernel)]; exact ⟨rfl, rfl⟩))
    (fun os started H enc _ F => by rw [OpenClaim.pre_eq_preRow]; exact relaFields_lifted os started H enc F)

theorem relaFields_plain (f : FuncId) (fn : Func) (hf : Tryd.pinned.checked.prog.funcNamed "quoin/quoinlaw11.RelaFields" = some f) (hfn : Tryd.pinned.checked.prog.funcs[f]? = some fn) :
    false = Tryd.pinned.checked.prog.looks [] ∧ ∀ (j : Nat) t, fn.params[j]? = some t → Tryd.pinned.checked.prog.wantsStandIn t = false := by
  obtain rfl : f = 7 := Option.some.inj ((show Tryd.prog.funcNamed "quoin/quoinlaw11.RelaFields" = some 7 by kernel_rfl).symm.trans hf) |>.symm
  obtain rfl : fn = Tryd.f7 := (Option.some.inj (Tryd.func7.symm.trans hfn)).symm
  refine ⟨by kernel_rfl, fun j t ht => ?_⟩
  rw [Tryd.params7] at ht
  have hm : t ∈ [5, 27, 27] := by simpa using Array.mem_of_getElem? ht
  have hall : ([5, 27, 27].all fun u => !Tryd.prog.wantsStandIn u) = true := by kernel_rfl
  exact (show Tryd.prog.wantsStandIn t = false by simpa using List.all_eq_true.1 hall t hm)

/-- THE CARD. -/
theorem relaFields_holds : Rows.RelaFieldsCardSaid :=
  Claim7.holds_tied_plain_at .later [] _ _ _ _ relaFields_said (fun _ h => by cases h) (by kernel_rfl) (fun _ h => by cases h) relaFields_row_tie rfl ⟨rfl, rfl⟩ (by kernel_rfl) rfl relaFields_plain (by kernel_rfl)
#print axioms relaFields_holds
end Go.Proofs.YtbfmichhpcaamaaDoor
