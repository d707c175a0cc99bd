/- Proved: the law InsnAlone of the package quoinlaw02 returns true for every two numbers: names and numbers are told by one another, and no two instructions have one name. The table of names is as the program's text lays it (the card ties it). -/
import Derived.Test.YtechglcjeejmkaaDoorKit
namespace Go.Proofs.YtechglcjeejmkaaDoor
open Go.ChangeShapes Go.WideShapes Go.ChangeAt Go.RowKit
open Go.ChangeMaps (open_string shut_string)
set_option linter.unusedVariables false

theorem insnAlone_walk (a0 : Int) (w0 : (Lit.int .u8 a0).wf = true) (a1 : Int) (w1 : (Lit.int .u8 a1).wf = true) (w : World) (hT : Tab w) :
    Calls Tryd.prog 5 #[.int .u8 a0, .int .u8 a1] w fun e w' => e = .returned (.bool true) ∧ Kept w w' := by
  have b0 := bounds_u8 w0
  have b1 := bounds_u8 w1
  cases h0 : isOp a0
  · have e1 := opErr_no h0
    have e2 := nameV_no h0
    have hr := of_decide_eq_false h0
    by_cases hz : a0 = 0
    · subst hz
      go_enter Tryd.func5, Tryd.ntmps5
      go_wp2_with (first
        | (go_at_call 10; refine (alive_walk _ hT).mono ?_; rintro e w' ⟨rfl, rfl⟩)
        | (go_at_call 8; refine (name_walk _ (by omega) _ hT).mono ?_; rintro e w' ⟨rfl, rfl⟩)
        | (go_at_call 9; refine (of_walk _ _ hT).mono ?_; rintro e w' ⟨rfl, rfl⟩))
      go_ret
      exact ⟨rfl, Kept.refl _⟩
    · have hg : 94 < a0 := by omega
      go_enter Tryd.func5, Tryd.ntmps5
      go_wp2_with (first
        | (go_at_call 10; refine (alive_walk _ hT).mono ?_; rintro e w' ⟨rfl, rfl⟩)
        | (go_at_call 8; refine (name_walk _ (by omega) _ hT).mono ?_; rintro e w' ⟨rfl, rfl⟩)
        | (go_at_call 9; refine (of_walk _ _ hT).mono ?_; rintro e w' ⟨rfl, rfl⟩))
      go_ret
      exact ⟨rfl, Kept.refl _⟩
  · have e1 := opErr_yes h0
    have hb := isOp_true h0
    obtain ⟨e3, e4⟩ := ofV_name h0
    cases h1 : isOp a1
    · have e5 := opErr_no h1
      go_enter Tryd.func5, Tryd.ntmps5
      go_wp2_with (first
        | (go_at_call 10; refine (alive_walk _ hT).mono ?_; rintro e w' ⟨rfl, rfl⟩)
        | (go_at_call 8; refine (name_walk _ (by omega) _ hT).mono ?_; rintro e w' ⟨rfl, rfl⟩)
        | (go_at_call 9; refine (of_walk _ _ hT).mono ?_; rintro e w' ⟨rfl, rfl⟩))
      go_ret
      exact ⟨rfl, Kept.refl _⟩
    · have e5 := opErr_yes h1
      by_cases he : a0 = a1
      · subst he
        go_enter Tryd.func5, Tryd.ntmps5
        go_wp2_with (first
          | (go_at_call 10; refine (alive_walk _ hT).mono ?_; rintro e w' ⟨rfl, rfl⟩)
          | (go_at_call 8; refine (name_walk _ (by omega) _ hT).mono ?_; rintro e w' ⟨rfl, rfl⟩)
          | (go_at_call 9; refine (of_walk _ _ hT).mono ?_; rintro e w' ⟨rfl, rfl⟩))
        go_ret
        exact ⟨rfl, Kept.refl _⟩
      · have hne : (a0 == a1) = false := by simpa using he
        have hn : ((nameV a0).toList == (nameV a1).toList) = false := str_ne (fun h => he (name_inj h0 h1 h))
        go_enter Tryd.func5, Tryd.ntmps5
        go_wp2_with (first
          | (go_at_call 10; refine (alive_walk _ hT).mono ?_; rintro e w' ⟨rfl, rfl⟩)
          | (go_at_call 8; refine (name_walk _ (by omega) _ hT).mono ?_; rintro e w' ⟨rfl, rfl⟩)
          | (go_at_call 9; refine (of_walk _ _ hT).mono ?_; rintro e w' ⟨rfl, rfl⟩))
        go_ret
        exact ⟨rfl, Kept.refl _⟩


set_option maxRecDepth 100000 in
theorem insnAlone_lifted (os : Os) (started : os.Started) (H : Type) (enc : TypeId × Value → H) (F : Stop.Interp) :
    ReturnsInHanded {} Tryd.checked os 5 .any ((OpenSpec.ofChange Rows.insnAloneSpec).preRow enc Tryd.prog Tryd.f5 Rows.insnAloneRow.domain false Rows.insnAloneRow.laid) (((OpenSpec.ofChange Rows.insnAloneSpec).at F).post enc Tryd.prog Tryd.f5 false true false false) := by
  have hx : ∃ ds places, DataW.whole enc Tryd.prog ((World.doorLaid Tryd.prog 400 os).forCall (fun _ _ => 0) ⟨#[], #[.int .u8 0, .int .u8 0], []⟩).memory Tryd.f5.params.toList Rows.insnAloneSpec.vars false (#[.int .u8 0, .int .u8 0] : Array Value).toList 8 = some (ds, [], places) := ⟨[.lit (.int .u8 0), .lit (.int .u8 0)], [], by kernel_rfl⟩
  obtain ⟨ds, places, hx⟩ := hx
  refine returnsInHanded_of_row (C := Tryd.checked) (s := OpenSpec.ofChange Rows.insnAloneSpec) own started (by kernel_rfl) Tryd.func5
    (witness_row_at (enc := enc) (C := Tryd.checked) false (World.doorLaid Tryd.prog 400 os) #[.int .u8 0, .int .u8 0] rfl (by kernel_rfl) (by kernel_rfl) (by kernel_rfl)
      (OpenSpec.preRow_of_cond 8 hx (by kernel_rfl) (fun k hk => by cases hk) (by kernel_rfl) (door_met os _))) ?_
  intro W base args ds gs before hval0 hW _ _ _ hL _ _
  have hval : ∀ (j : Nat) t v, Tryd.f5.params[j]? = some t → args[j]? = some v → Value.okWide Tryd.prog W .any base t v := hval0
  have hW' := hW
  obtain ⟨p, q, hA0, hV, rfl, hfz, hnd⟩ := hW
  have hA : DataW.TrodAll enc Tryd.prog W 0 (fun _ => true) true Tryd.f5.params.toList args.toList ds p := hA0
  rw [Tryd.params5] at hA hval
  obtain ⟨v0, vs0, d0, ds0, p0, q0, hargs, rfl, rfl, h0, r0⟩ := trodAll_cons hA
  obtain ⟨v1, vs1, d1, ds1, p1, q1, rfl, rfl, rfl, h1, r1⟩ := trodAll_cons r0
  obtain ⟨rfl, rfl, rfl⟩ := trodAll_nil r1
  obtain rfl : args = #[v0, v1] := by cases args; simp_all
  obtain ⟨rfl, rfl⟩ := trodVars_none hV
  have t0 := h0
  obtain ⟨a0, rfl, rfl, rfl, w0⟩ := open_int Tryd.underlying5 (hval 0 5 v0 rfl rfl) h0
  have t1 := h1
  obtain ⟨a1, rfl, rfl, rfl, w1⟩ := open_int Tryd.underlying5 (hval 1 5 v1 rfl rfl) h1
  clear hA0 hval0
  simp only [List.append_nil] at hW'
  refine (insnAlone_walk a0 w0 a1 w1 W (tab_of_laid hL)).mono fun e W' ⟨he, hg⟩ => ?_
  subst he
  exact ⟨_, rfl, _, _, _, [], _, [], hW', trodAll_cons_mk (shut_bool Tryd.underlying4 _) trodAll_mk0, (trodAll_cons_mk (Below.trod laidOut (by kernel_rfl) (of_decide_eq_true (by kernel_rfl)) t0 hg (fun x hx => by cases hx)) (trodAll_cons_mk (Below.trod laidOut (by kernel_rfl) (of_decide_eq_true (by kernel_rfl)) t1 hg (fun x hx => by cases hx)) trodAll_mk0)), rfl, Below.frame hg _, fun h => by cases h⟩

theorem insnAlone_said : Rows.InsnAloneSaid :=
  OpenClaim.holds_of_cond 5 Tryd.f5 rfl rfl rfl rfl rfl rfl rfl ⟨rfl, rfl, rfl, rfl, rfl⟩ rfl rfl rfl rfl rfl (by kernel_rfl) Tryd.func5 (by kernel_rfl)
    (of_decide_eq_true (by kernel_rfl)) (by unfold Func.isWrapper; first | (rw [if_pos (by decide +kernel)]; kernel_rfl) | (rw [if_neg (by decide +kernel)]; exact ⟨rfl, rfl⟩))
    (fun os started H enc _ F => by rw [OpenClaim.pre_eq_preRow]; exact insnAlone_lifted os started H enc F)

theorem insnAlone_plain (f : FuncId) (fn : Func) (hf : Tryd.pinned.checked.prog.funcNamed "quoin/quoinlaw02.InsnAlone" = some f) (hfn : Tryd.pinned.checked.prog.funcs[f]? = some fn) :
    false = Tryd.pinned.checked.prog.looks [] ∧ ∀ (j : Nat) t, fn.params[j]? = some t → Tryd.pinned.checked.prog.wantsStandIn t = false := by
  obtain rfl : f = 5 := Option.some.inj ((show Tryd.prog.funcNamed "quoin/quoinlaw02.InsnAlone" = some 5 by kernel_rfl).symm.trans hf) |>.symm
  obtain rfl : fn = Tryd.f5 := (Option.some.inj (Tryd.func5.symm.trans hfn)).symm
  refine ⟨by kernel_rfl, fun j t ht => ?_⟩
  rw [Tryd.params5] at ht
  have hm : t ∈ [5, 5] := by simpa using Array.mem_of_getElem? ht
  have hall : ([5, 5].all fun u => !Tryd.prog.wantsStandIn u) = true := by kernel_rfl
  exact (show Tryd.prog.wantsStandIn t = false by simpa using List.all_eq_true.1 hall t hm)

/-- THE CARD. -/
theorem insnAlone_holds : Rows.InsnAloneCardSaid :=
  Claim7.holds_tied_plain_at .later [] _ _ _ _ insnAlone_said (fun _ h => by cases h) (by kernel_rfl) (fun _ h => by cases h) insnAlone_row_tie rfl ⟨rfl, rfl⟩ (by kernel_rfl) rfl insnAlone_plain (by kernel_rfl)
#print axioms insnAlone_holds
end Go.Proofs.YtechglcjeejmkaaDoor
