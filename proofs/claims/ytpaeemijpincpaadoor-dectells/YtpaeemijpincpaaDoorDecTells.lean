/- Proved: the law DecTells of the package quoinlaw04 returns true for every word and letter: the instruction of a word, a form's fixed bits, and the errors, are the document's. The table of bases is as the program's text lays it (the card ties it). -/
import Derived.Test.YtpaeemijpincpaaDoorBoth
namespace Go.Proofs.YtpaeemijpincpaaDoor
open Go.ChangeShapes Go.WideShapes Go.ChangeAt Go.RowKit
open Go.ChangeMaps (open_string shut_string)
set_option linter.unusedVariables false

set_option maxRecDepth 20000 in
theorem decTells_walk (a0 : Int) (w0 : (Lit.int .u32 a0).wf = true) (a1 : Int) (w1 : (Lit.int .u8 a1).wf = true) (w : World) (hT : Tab w) :
    Calls Tryd.prog 4 #[.int .u32 a0, .int .u8 a1] w fun e w' => e = .returned (.bool true) ∧ Kept w w' := by
  have b0 := wf_u32 w0
  go_enter Tryd.func4, Tryd.ntmps4
  go_upto_region 2 with (go_at_call 7; refine (dec_walk a0 b0.1 b0.2 _ hT).mono ?_; rintro e w2 ⟨rfl, hk2⟩)
  have hB := Box.make w2 (dOp a0.toNat) (dRd a0.toNat) (dRs1 a0.toNat) (dRs2 a0.toNat) (dImm a0.toNat)
  have hk2' := hk2.trans (Kept.alloc w2 (.cells #[.int .u8 (dOp a0.toNat), .int .i64 (dRd a0.toNat), .int .i64 (dRs1 a0.toNat), .int .i64 (dRs2 a0.toNat), .int .i64 (dImm a0.toNat)] 23))
  go_upto_region 3 with (go_at_call 10; refine (rdec_walk a0 b0.1 b0.2 _).mono ?_; rintro e w3 ⟨rfl, hk3⟩)
  have hB3 := (hB.kept hk3).kept (Kept.alloc w3 (.cells #[.int .u8 (dOp a0.toNat), .int .i64 (dRd a0.toNat), .int .i64 (dRs1 a0.toNat), .int .i64 (dRs2 a0.toNat), .int .i64 (dImm a0.toNat)] 23))
  have hC3 := Box.make w3 (dOp a0.toNat) (dRd a0.toNat) (dRs1 a0.toNat) (dRs2 a0.toNat) (dImm a0.toNat)
  have hK3 := (hk2'.trans hk3).trans (Kept.alloc w3 (.cells #[.int .u8 (dOp a0.toNat), .int .i64 (dRd a0.toNat), .int .i64 (dRs1 a0.toNat), .int .i64 (dRs2 a0.toNat), .int .i64 (dImm a0.toNat)] 23))
  clear hB hk2 hk2' hk3
  go_upto_region 5 with (first
    | (go_at_call 8; refine (fixed_walk _ _).mono ?_; rintro e w4 ⟨rfl, hk4⟩)
    | (go_at_call 11; refine (rfixed_walk _ _).mono ?_; rintro e w5 ⟨rfl, hk5⟩))
  have hk := hk4.trans hk5
  have hB6 := hB3.kept hk
  have hC6 := hC3.kept hk
  obtain ⟨c0, c1, c2, c3, c4, f0, f1, f2, f3, f4⟩ := hB6
  obtain ⟨d0, d1, d2, d3, d4, g0, g1, g2, g3, g4⟩ := hC6
  have hK := hK3.trans hk
  clear hB3 hC3 hK3 hk4 hk5 hk
  go_wp2
  go_ret
  exact ⟨rfl, hK⟩


set_option maxRecDepth 100000 in
theorem decTells_lifted (os : Os) (started : os.Started) (H : Type) (enc : TypeId × Value → H) (F : Stop.Interp) :
    ReturnsInHanded {} Tryd.checked os 4 .any ((OpenSpec.ofChange Rows.decTellsSpec).preRow enc Tryd.prog Tryd.f4 Rows.decTellsRow.domain false Rows.decTellsRow.laid) (((OpenSpec.ofChange Rows.decTellsSpec).at F).post enc Tryd.prog Tryd.f4 false true false false) := by
  have hx : ∃ ds places, DataW.whole enc Tryd.prog ((World.doorLaid Tryd.prog 400 os).forCall (fun _ _ => 0) ⟨#[], #[.int .u32 0, .int .u8 0], []⟩).memory Tryd.f4.params.toList Rows.decTellsSpec.vars false (#[.int .u32 0, .int .u8 0] : Array Value).toList 8 = some (ds, [], places) := ⟨[.lit (.int .u32 0), .lit (.int .u8 0)], [], by kernel_rfl⟩
  obtain ⟨ds, places, hx⟩ := hx
  refine returnsInHanded_of_row (C := Tryd.checked) (s := OpenSpec.ofChange Rows.decTellsSpec) own started (by kernel_rfl) Tryd.func4
    (witness_row_at (enc := enc) (C := Tryd.checked) false (World.doorLaid Tryd.prog 400 os) #[.int .u32 0, .int .u8 0] rfl (by kernel_rfl) (by kernel_rfl) (by kernel_rfl)
      (OpenSpec.preRow_of_cond 8 hx (by kernel_rfl) (fun k hk => by cases hk) (by kernel_rfl) (door_met os _))) ?_
  intro W base args ds gs before hval0 hW _ _ _ hL _ _
  have hval : ∀ (j : Nat) t v, Tryd.f4.params[j]? = some t → args[j]? = some v → Value.okWide Tryd.prog W .any base t v := hval0
  have hW' := hW
  obtain ⟨p, q, hA0, hV, rfl, hfz, hnd⟩ := hW
  have hA : DataW.TrodAll enc Tryd.prog W 0 (fun _ => true) true Tryd.f4.params.toList args.toList ds p := hA0
  rw [Tryd.params4] at hA hval
  obtain ⟨v0, vs0, d0, ds0, p0, q0, hargs, rfl, rfl, h0, r0⟩ := trodAll_cons hA
  obtain ⟨v1, vs1, d1, ds1, p1, q1, rfl, rfl, rfl, h1, r1⟩ := trodAll_cons r0
  obtain ⟨rfl, rfl, rfl⟩ := trodAll_nil r1
  obtain rfl : args = #[v0, v1] := by cases args; simp_all
  obtain ⟨rfl, rfl⟩ := trodVars_none hV
  have t0 := h0
  obtain ⟨a0, rfl, rfl, rfl, w0⟩ := open_int Tryd.underlying27 (hval 0 27 v0 rfl rfl) h0
  have t1 := h1
  obtain ⟨a1, rfl, rfl, rfl, w1⟩ := open_int Tryd.underlying5 (hval 1 5 v1 rfl rfl) h1
  clear hA0 hval0
  simp only [List.append_nil] at hW'
  refine (decTells_walk a0 w0 a1 w1 W (tab_of_laid hL)).mono fun e W' ⟨he, hg⟩ => ?_
  subst he
  exact ⟨_, rfl, _, _, _, [], _, [], hW', trodAll_cons_mk (shut_bool Tryd.underlying4 _) trodAll_mk0, (trodAll_cons_mk (Below.trod laidOut (by kernel_rfl) (of_decide_eq_true (by kernel_rfl)) t0 hg (fun x hx => by cases hx)) (trodAll_cons_mk (Below.trod laidOut (by kernel_rfl) (of_decide_eq_true (by kernel_rfl)) t1 hg (fun x hx => by cases hx)) trodAll_mk0)), rfl, Below.frame hg _, fun h => by cases h⟩

theorem decTells_said : Rows.DecTellsSaid :=
  OpenClaim.holds_of_cond 4 Tryd.f4 rfl rfl rfl rfl rfl rfl rfl ⟨rfl, rfl, rfl, rfl, rfl⟩ rfl rfl rfl rfl rfl (by kernel_rfl) Tryd.func4 (by kernel_rfl)
    (of_decide_eq_true (by kernel_rfl)) (by unfold Func.isWrapper; first | (rw [if_pos (by decide +kernel)]; kernel_rfl) | (rw [if_neg (by decide +kernel)]; exact ⟨rfl, rfl⟩))
    (fun os started H enc _ F => by rw [OpenClaim.pre_eq_preRow]; exact decTells_lifted os started H enc F)

theorem decTells_plain (f : FuncId) (fn : Func) (hf : Tryd.pinned.checked.prog.funcNamed "quoin/quoinlaw04.DecTells" = some f) (hfn : Tryd.pinned.checked.prog.funcs[f]? = some fn) :
    false = Tryd.pinned.checked.prog.looks [] ∧ ∀ (j : Nat) t, fn.params[j]? = some t → Tryd.pinned.checked.prog.wantsStandIn t = false := by
  obtain rfl : f = 4 := Option.some.inj ((show Tryd.prog.funcNamed "quoin/quoinlaw04.DecTells" = some 4 by kernel_rfl).symm.trans hf) |>.symm
  obtain rfl : fn = Tryd.f4 := (Option.some.inj (Tryd.func4.symm.trans hfn)).symm
  refine ⟨by kernel_rfl, fun j t ht => ?_⟩
  rw [Tryd.params4] at ht
  have hm : t ∈ [27, 5] := by simpa using Array.mem_of_getElem? ht
  have hall : ([27, 5].all fun u => !Tryd.prog.wantsStandIn u) = true := by kernel_rfl
  exact (show Tryd.prog.wantsStandIn t = false by simpa using List.all_eq_true.1 hall t hm)

/-- THE CARD. -/
theorem decTells_holds : Rows.DecTellsCardSaid :=
  Claim7.holds_tied_plain_at .later [] _ _ _ _ decTells_said (fun _ h => by cases h) (by kernel_rfl) (fun _ h => by cases h) decTells_row_tie rfl ⟨rfl, rfl⟩ (by kernel_rfl) rfl decTells_plain (by kernel_rfl)
#print axioms decTells_holds
end Go.Proofs.YtpaeemijpincpaaDoor
