/- Proved: the law DecNames of the package quoinlaw04 returns true: the chapter's examples stand. The table of bases is as the program's text lays it (the card ties it). -/
import Derived.Test.YtpaeemijpincpaaDoorAli
namespace Go.Proofs.YtpaeemijpincpaaDoor
open Go.ChangeShapes Go.WideShapes Go.ChangeAt Go.RowKit
open Go.ChangeMaps (open_string shut_string)
set_option linter.unusedVariables false

set_option maxRecDepth 20000 in
theorem decNames_walk (w : World) (hT : Tab w) :
    Calls Tryd.prog 3 #[] w fun e w' => e = .returned (.bool true) ∧ Kept w w' := by
  go_enter Tryd.func3, Tryd.ntmps3
  go_upto_region 2 with (go_at_call 7; refine (dec_c _ hT).mono ?_; rintro e w1 ⟨rfl, hk1⟩)
  have hK1 := hk1.trans (Kept.alloc w1 (cells5 0 0 0 0 0))
  have hT1 := hT.kept hK1
  clear hk1
  go_upto_region 3 with (go_at_call 7; refine (dec_d _ hT1).mono ?_; rintro e w2 ⟨rfl, hk2⟩)
  have hK2 := (hK1.trans hk2).trans (Kept.alloc w2 (cells5 0 0 0 0 0))
  have hT2 := hT.kept hK2
  clear hk2 hK1 hT1
  go_upto_region 4 with (go_at_call 7; refine (dec_e _ hT2).mono ?_; rintro e w3 ⟨rfl, hk3⟩)
  have hK3 := (hK2.trans hk3).trans (Kept.alloc w3 (cells5 28 1 1 0 32))
  have hT3 := hT.kept hK3
  have hB3 := Box.new w3 28 1 1 0 32
  clear hk3 hK2 hT2
  go_upto_region 5 with (go_at_call 7; refine (dec_f _ hT3).mono ?_; rintro e w4 ⟨rfl, hk4⟩)
  have hK4 := (hK3.trans hk4).trans (Kept.alloc w4 (cells5 0 0 0 0 0))
  have hT4 := hT.kept hK4
  have hB4 := (hB3.kept hk4).kept (Kept.alloc w4 (cells5 0 0 0 0 0))
  clear hk4 hK3 hT3 hB3
  go_upto_region 6 with (go_at_call 8; refine (fix_a _).mono ?_; rintro e w5 ⟨rfl, hk5⟩)
  go_upto_region 7 with (go_at_call 8; refine (fix_b _).mono ?_; rintro e w6 ⟨rfl, hk6⟩)
  go_upto_region 8 with (go_at_call 8; refine (fix_c _).mono ?_; rintro e w7 ⟨rfl, hk7⟩)
  have hK7 := ((hK4.trans hk5).trans hk6).trans hk7
  have hT7 := hT.kept hK7
  have hB7 := ((hB4.kept hk5).kept hk6).kept hk7
  clear hk5 hk6 hk7 hK4 hT4 hB4
  go_wp2_with (go_at_call 9; refine (alive_walk _ hT7).mono ?_; rintro e w8 ⟨rfl, hk8⟩; have hB8 := hB7.kept hk8; obtain ⟨c0, c1, c2, c3, c4, f0, f1, f2, f3, f4⟩ := hB8)
  go_ret
  exact ⟨rfl, hK7.trans hk8⟩


set_option maxRecDepth 100000 in
theorem decNames_lifted (os : Os) (started : os.Started) (H : Type) (enc : TypeId × Value → H) (F : Stop.Interp) :
    ReturnsInHanded {} Tryd.checked os 3 .any ((OpenSpec.ofChange Rows.decNamesSpec).preRow enc Tryd.prog Tryd.f3 Rows.decNamesRow.domain false Rows.decNamesRow.laid) (((OpenSpec.ofChange Rows.decNamesSpec).at F).post enc Tryd.prog Tryd.f3 false true false false) := by
  have hx : ∃ ds places, DataW.whole enc Tryd.prog ((World.doorLaid Tryd.prog 400 os).forCall (fun _ _ => 0) ⟨#[], #[], []⟩).memory Tryd.f3.params.toList Rows.decNamesSpec.vars false (#[] : Array Value).toList 8 = some (ds, [], places) := ⟨[], [], by kernel_rfl⟩
  obtain ⟨ds, places, hx⟩ := hx
  refine returnsInHanded_of_row (C := Tryd.checked) (s := OpenSpec.ofChange Rows.decNamesSpec) own started (by kernel_rfl) Tryd.func3
    (witness_row_at (enc := enc) (C := Tryd.checked) false (World.doorLaid Tryd.prog 400 os) #[] rfl (by kernel_rfl) (by kernel_rfl) (by kernel_rfl)
      (OpenSpec.preRow_of_cond 8 hx (by kernel_rfl) (fun k hk => by cases hk) (by kernel_rfl) (door_met os _))) ?_
  intro W base args ds gs before hval0 hW _ _ _ hL _ _
  have hval : ∀ (j : Nat) t v, Tryd.f3.params[j]? = some t → args[j]? = some v → Value.okWide Tryd.prog W .any base t v := hval0
  have hW' := hW
  obtain ⟨p, q, hA0, hV, rfl, hfz, hnd⟩ := hW
  have hA : DataW.TrodAll enc Tryd.prog W 0 (fun _ => true) true Tryd.f3.params.toList args.toList ds p := hA0
  rw [Tryd.params3] at hA hval
  obtain ⟨hargs, rfl, rfl⟩ := trodAll_nil hA
  obtain rfl : args = #[] := by cases args; simp_all
  obtain ⟨rfl, rfl⟩ := trodVars_none hV
  clear hA0 hval0
  simp only [List.append_nil] at hW'
  refine (decNames_walk  W (tab_of_laid hL)).mono fun e W' ⟨he, hg⟩ => ?_
  subst he
  exact ⟨_, rfl, _, _, _, [], _, [], hW', trodAll_cons_mk (shut_bool Tryd.underlying4 _) trodAll_mk0, trodAll_mk0, rfl, Below.frame hg _, fun h => by cases h⟩

theorem decNames_said : Rows.DecNamesSaid :=
  OpenClaim.holds_of_cond 3 Tryd.f3 rfl rfl rfl rfl rfl rfl rfl ⟨rfl, rfl, rfl, rfl, rfl⟩ rfl rfl rfl rfl rfl (by kernel_rfl) Tryd.func3 (by kernel_rfl)
    (of_decide_eq_true (by kernel_rfl)) (by unfold Func.isWrapper; first | (rw [if_pos (by decide +kernel)]; kernel_rfl) | (rw [if_neg (by decide +kernel)]; exact ⟨rfl, rfl⟩))
    (fun os started H enc _ F => by rw [OpenClaim.pre_eq_preRow]; exact decNames_lifted os started H enc F)

theorem decNames_plain (f : FuncId) (fn : Func) (hf : Tryd.pinned.checked.prog.funcNamed "quoin/quoinlaw04.DecNames" = some f) (hfn : Tryd.pinned.checked.prog.funcs[f]? = some fn) :
    false = Tryd.pinned.checked.prog.looks [] ∧ ∀ (j : Nat) t, fn.params[j]? = some t → Tryd.pinned.checked.prog.wantsStandIn t = false := by
  obtain rfl : f = 3 := Option.some.inj ((show Tryd.prog.funcNamed "quoin/quoinlaw04.DecNames" = some 3 by kernel_rfl).symm.trans hf) |>.symm
  obtain rfl : fn = Tryd.f3 := (Option.some.inj (Tryd.func3.symm.trans hfn)).symm
  refine ⟨by kernel_rfl, fun j t ht => ?_⟩
  rw [Tryd.params3] at ht
  have hm : t ∈ [] := by simpa using Array.mem_of_getElem? ht
  have hall : ([].all fun u => !Tryd.prog.wantsStandIn u) = true := by kernel_rfl
  exact (show Tryd.prog.wantsStandIn t = false by simpa using List.all_eq_true.1 hall t hm)

/-- THE CARD. -/
theorem decNames_holds : Rows.DecNamesCardSaid :=
  Claim7.holds_tied_plain_at .later [] _ _ _ _ decNames_said (fun _ h => by cases h) (by kernel_rfl) (fun _ h => by cases h) decNames_row_tie rfl ⟨rfl, rfl⟩ (by kernel_rfl) rfl decNames_plain (by kernel_rfl)
#print axioms decNames_holds
end Go.Proofs.YtpaeemijpincpaaDoor
