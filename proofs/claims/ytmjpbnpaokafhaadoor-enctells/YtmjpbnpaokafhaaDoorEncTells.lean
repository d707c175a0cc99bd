/- Proved: the law EncTells of the package quoinlaw03 returns true for every instruction, number and letter: words, bases, places and errors are the document's. The table of bases is as the program's text lays it (the card ties it). -/
import Derived.Test.YtmjpbnpaokafhaaDoorBoth
namespace Go.Proofs.YtmjpbnpaokafhaaDoor
open Go.ChangeShapes Go.WideShapes Go.ChangeAt Go.RowKit
open Go.ChangeMaps (open_string shut_string)
set_option linter.unusedVariables false

theorem same_u (a c : Option Addr) (len cap cap' : Nat) (hl : len ≤ 100) (p : Nat → Int) (w : World) (ha : Cells w a len p) (hc : Cells w c len p) :
    Calls Tryd.prog 14 #[.slice a len cap, .slice c len cap'] w fun e w' => e = .returned (.bool true) ∧ ∃ m, w' = w.drewN m := by
  rcases ha with rfl | ⟨b, off, rfl, ha⟩
  · exact same_walk_none a c cap cap' w
  · rcases hc with rfl | ⟨b', off', rfl, hc⟩
    · exact same_walk_none _ _ cap cap' w
    · exact same_walk_some b off b' off' len cap cap' hl p w ha hc

theorem plen_any (c : Int) : (placeL c).length ≤ 100 := by
  by_cases hc : c ∈ letters
  · exact Nat.le_trans (plen_le c hc) (by decide)
  · have hl : placeL c = [] := by
      simp only [letters, List.mem_cons, List.not_mem_nil, or_false, not_or] at hc
      simp [placeL, hc]
    rw [hl]
    decide

set_option maxRecDepth 20000 in
theorem encTells_walk (op0 rd0 rs10 rs20 imm0 : Int) (s0_0 : (Lit.int .u8 op0).wf = true) (s0_1 : (Lit.int .i64 rd0).wf = true) (s0_2 : (Lit.int .i64 rs10).wf = true) (s0_3 : (Lit.int .i64 rs20).wf = true) (s0_4 : (Lit.int .i64 imm0).wf = true) (a1 : Int) (w1 : (Lit.int .u8 a1).wf = true) (a2 : Int) (w2 : (Lit.int .u8 a2).wf = true) (w : World) (hT : Tab w) :
    Calls Tryd.prog 4 #[insnV op0 rd0 rs10 rs20 imm0, .int .u8 a1, .int .u8 a2] w fun e w' => e = .returned (.bool true) ∧ Kept w w' := by
  have b0 := bounds_u8 s0_0
  have b1 := bounds_u8 w1
  have b2 := bounds_u8 w2
  have hT0 := hT
  have hT : Tab (w.alloc (.cells #[.int .u8 op0, .int .i64 rd0, .int .i64 rs10, .int .i64 rs20, .int .i64 imm0] 31)) := hT0.kept (Kept.alloc _ _)
  have hK := Kept.refl (w.alloc (.cells #[.int .u8 op0, .int .i64 rd0, .int .i64 rs10, .int .i64 rs20, .int .i64 imm0] 31))
  have d0 : (w.alloc (.cells #[.int .u8 op0, .int .i64 rd0, .int .i64 rs10, .int .i64 rs20, .int .i64 imm0] 31)).cell? ⟨w.heap.size, 0, none⟩ = some (.int .u8 op0) := Kept.cell hK (by simp)
  have d1 : (w.alloc (.cells #[.int .u8 op0, .int .i64 rd0, .int .i64 rs10, .int .i64 rs20, .int .i64 imm0] 31)).cell? ⟨w.heap.size, 1, none⟩ = some (.int .i64 rd0) := Kept.cell hK (by simp)
  have d2 : (w.alloc (.cells #[.int .u8 op0, .int .i64 rd0, .int .i64 rs10, .int .i64 rs20, .int .i64 imm0] 31)).cell? ⟨w.heap.size, 2, none⟩ = some (.int .i64 rs10) := Kept.cell hK (by simp)
  have d3 : (w.alloc (.cells #[.int .u8 op0, .int .i64 rd0, .int .i64 rs10, .int .i64 rs20, .int .i64 imm0] 31)).cell? ⟨w.heap.size, 3, none⟩ = some (.int .i64 rs20) := Kept.cell hK (by simp)
  have d4 : (w.alloc (.cells #[.int .u8 op0, .int .i64 rd0, .int .i64 rs10, .int .i64 rs20, .int .i64 imm0] 31)).cell? ⟨w.heap.size, 4, none⟩ = some (.int .i64 imm0) := Kept.cell hK (by simp)
  have hpl := plen_any a2
  go_enter Tryd.func4, Tryd.ntmps4
  go_wp2_with (first
    | (go_at_call 8; refine (word_walk _ _ _ _ _ (by omega) (by omega) _ hT).mono ?_; rintro e w' ⟨rfl, hk⟩; have hK' := Kept.trans hK hk; clear hK; have hK := hK'; clear hK'; have hT' := hT.kept hk; clear hT; have hT := hT'; clear hT'; clear d0 d1 d2 d3 d4; have d0 : w'.cell? ⟨w.heap.size, 0, none⟩ = some (.int .u8 op0) := Kept.cell hK (by simp); have d1 : w'.cell? ⟨w.heap.size, 1, none⟩ = some (.int .i64 rd0) := Kept.cell hK (by simp); have d2 : w'.cell? ⟨w.heap.size, 2, none⟩ = some (.int .i64 rs10) := Kept.cell hK (by simp); have d3 : w'.cell? ⟨w.heap.size, 3, none⟩ = some (.int .i64 rs20) := Kept.cell hK (by simp); have d4 : w'.cell? ⟨w.heap.size, 4, none⟩ = some (.int .i64 imm0) := Kept.cell hK (by simp); clear hk)
    | (go_at_call 11; refine (rword_walk _ _ _ _ _ (by omega) (by omega) _).mono ?_; rintro e w' ⟨rfl, hk⟩; have hK' := Kept.trans hK hk; clear hK; have hK := hK'; clear hK'; have hT' := hT.kept hk; clear hT; have hT := hT'; clear hT'; clear d0 d1 d2 d3 d4; have d0 : w'.cell? ⟨w.heap.size, 0, none⟩ = some (.int .u8 op0) := Kept.cell hK (by simp); have d1 : w'.cell? ⟨w.heap.size, 1, none⟩ = some (.int .i64 rd0) := Kept.cell hK (by simp); have d2 : w'.cell? ⟨w.heap.size, 2, none⟩ = some (.int .i64 rs10) := Kept.cell hK (by simp); have d3 : w'.cell? ⟨w.heap.size, 3, none⟩ = some (.int .i64 rs20) := Kept.cell hK (by simp); have d4 : w'.cell? ⟨w.heap.size, 4, none⟩ = some (.int .i64 imm0) := Kept.cell hK (by simp); clear hk)
    | (go_at_call 6; refine (base_walk _ (by omega) (by omega) _ hT).mono ?_; rintro e w' ⟨rfl, rfl⟩)
    | (go_at_call 12; refine (rbase_walk _ (by omega) (by omega) _).mono ?_; rintro e w' ⟨rfl, hk⟩; have hK' := Kept.trans hK hk; clear hK; have hK := hK'; clear hK'; have hT' := hT.kept hk; clear hT; have hT := hT'; clear hT'; clear d0 d1 d2 d3 d4; have d0 : w'.cell? ⟨w.heap.size, 0, none⟩ = some (.int .u8 op0) := Kept.cell hK (by simp); have d1 : w'.cell? ⟨w.heap.size, 1, none⟩ = some (.int .i64 rd0) := Kept.cell hK (by simp); have d2 : w'.cell? ⟨w.heap.size, 2, none⟩ = some (.int .i64 rs10) := Kept.cell hK (by simp); have d3 : w'.cell? ⟨w.heap.size, 3, none⟩ = some (.int .i64 rs20) := Kept.cell hK (by simp); have d4 : w'.cell? ⟨w.heap.size, 4, none⟩ = some (.int .i64 imm0) := Kept.cell hK (by simp); clear hk)
    | (go_at_call 7; refine (places_walk _ _).mono ?_; rintro e w' ⟨a, cap, rfl, hC, hk⟩; have hK' := Kept.trans hK hk; clear hK; have hK := hK'; clear hK'; have hT' := hT.kept hk; clear hT; have hT := hT'; clear hT'; clear d0 d1 d2 d3 d4; have d0 : w'.cell? ⟨w.heap.size, 0, none⟩ = some (.int .u8 op0) := Kept.cell hK (by simp); have d1 : w'.cell? ⟨w.heap.size, 1, none⟩ = some (.int .i64 rd0) := Kept.cell hK (by simp); have d2 : w'.cell? ⟨w.heap.size, 2, none⟩ = some (.int .i64 rs10) := Kept.cell hK (by simp); have d3 : w'.cell? ⟨w.heap.size, 3, none⟩ = some (.int .i64 rs20) := Kept.cell hK (by simp); have d4 : w'.cell? ⟨w.heap.size, 4, none⟩ = some (.int .i64 imm0) := Kept.cell hK (by simp); clear hk)
    | (go_at_call 13; refine (rplaces_walk _ _).mono ?_; rintro e w' ⟨a', cap', rfl, hC', hk⟩; have hC2 := Cells.kept hC hk; clear hC; have hK' := Kept.trans hK hk; clear hK; have hK := hK'; clear hK'; have hT' := hT.kept hk; clear hT; have hT := hT'; clear hT'; clear d0 d1 d2 d3 d4; have d0 : w'.cell? ⟨w.heap.size, 0, none⟩ = some (.int .u8 op0) := Kept.cell hK (by simp); have d1 : w'.cell? ⟨w.heap.size, 1, none⟩ = some (.int .i64 rd0) := Kept.cell hK (by simp); have d2 : w'.cell? ⟨w.heap.size, 2, none⟩ = some (.int .i64 rs10) := Kept.cell hK (by simp); have d3 : w'.cell? ⟨w.heap.size, 3, none⟩ = some (.int .i64 rs20) := Kept.cell hK (by simp); have d4 : w'.cell? ⟨w.heap.size, 4, none⟩ = some (.int .i64 imm0) := Kept.cell hK (by simp); clear hk)
    | (go_at_call 14; refine (same_u _ _ _ _ _ hpl _ _ hC2 hC').mono ?_; rintro e w' ⟨rfl, m, rfl⟩))
  go_ret
  exact ⟨rfl, Kept.trans (Kept.trans (Kept.alloc _ _) hK) (Kept.drewN _ _)⟩

set_option maxRecDepth 100000 in
theorem encTells_lifted (os : Os) (started : os.Started) (H : Type) (enc : TypeId × Value → H) (F : Stop.Interp) :
    ReturnsInHanded {} Tryd.checked os 4 .any ((OpenSpec.ofChange Rows.encTellsSpec).preRow enc Tryd.prog Tryd.f4 Rows.encTellsRow.domain false Rows.encTellsRow.laid) (((OpenSpec.ofChange Rows.encTellsSpec).at F).post enc Tryd.prog Tryd.f4 false true false false) := by
  have hx : ∃ ds places, DataW.whole enc Tryd.prog ((World.doorLaid Tryd.prog 400 os).forCall (fun _ _ => 0) ⟨#[], #[.agg #[.int .u8 0, .int .i64 0, .int .i64 0, .int .i64 0, .int .i64 0], .int .u8 0, .int .u8 0], []⟩).memory Tryd.f4.params.toList Rows.encTellsSpec.vars false (#[.agg #[.int .u8 0, .int .i64 0, .int .i64 0, .int .i64 0, .int .i64 0], .int .u8 0, .int .u8 0] : Array Value).toList 8 = some (ds, [], places) := ⟨[.agg [.lit (.int .u8 0), .lit (.int .i64 0), .lit (.int .i64 0), .lit (.int .i64 0), .lit (.int .i64 0)], .lit (.int .u8 0), .lit (.int .u8 0)], [], by kernel_rfl⟩
  obtain ⟨ds, places, hx⟩ := hx
  refine returnsInHanded_of_row (C := Tryd.checked) (s := OpenSpec.ofChange Rows.encTellsSpec) own started (by kernel_rfl) Tryd.func4
    (witness_row_at (enc := enc) (C := Tryd.checked) false (World.doorLaid Tryd.prog 400 os) #[.agg #[.int .u8 0, .int .i64 0, .int .i64 0, .int .i64 0, .int .i64 0], .int .u8 0, .int .u8 0] rfl (by kernel_rfl) (by kernel_rfl) (by kernel_rfl)
      (OpenSpec.preRow_of_cond 8 hx (by kernel_rfl) (fun k hk => by cases hk) (by kernel_rfl) (door_met os _))) ?_
  intro W base args ds gs before hval0 hW _ _ _ hL _ _
  have hval : ∀ (j : Nat) t v, Tryd.f4.params[j]? = some t → args[j]? = some v → Value.okWide Tryd.prog W .any base t v := hval0
  have hW' := hW
  obtain ⟨p, q, hA0, hV, rfl, hfz, hnd⟩ := hW
  have hA : DataW.TrodAll enc Tryd.prog W 0 (fun _ => true) true Tryd.f4.params.toList args.toList ds p := hA0
  rw [Tryd.params4] at hA hval
  obtain ⟨v0, vs0, d0, ds0, p0, q0, hargs, rfl, rfl, h0, r0⟩ := trodAll_cons hA
  obtain ⟨v1, vs1, d1, ds1, p1, q1, rfl, rfl, rfl, h1, r1⟩ := trodAll_cons r0
  obtain ⟨v2, vs2, d2, ds2, p2, q2, rfl, rfl, rfl, h2, r2⟩ := trodAll_cons r1
  obtain ⟨rfl, rfl, rfl⟩ := trodAll_nil r2
  obtain rfl : args = #[v0, v1, v2] := by cases args; simp_all
  obtain ⟨rfl, rfl⟩ := trodVars_none hV
  have t0 := h0
  obtain ⟨op0, rd0, rs10, rs20, imm0, rfl, rfl, s0_0, s0_1, s0_2, s0_3, s0_4⟩ := open_insn (hval 0 31 v0 rfl rfl) h0
  have t1 := h1
  obtain ⟨a1, rfl, rfl, rfl, w1⟩ := open_int Tryd.underlying5 (hval 1 5 v1 rfl rfl) h1
  have t2 := h2
  obtain ⟨a2, rfl, rfl, rfl, w2⟩ := open_int Tryd.underlying5 (hval 2 5 v2 rfl rfl) h2
  clear hA0 hval0
  simp only [List.append_nil] at hW'
  refine (encTells_walk op0 rd0 rs10 rs20 imm0 s0_0 s0_1 s0_2 s0_3 s0_4 a1 w1 a2 w2 W (tab_of_laid hL)).mono fun e W' ⟨he, hg⟩ => ?_
  subst he
  exact ⟨_, rfl, _, _, _, [], _, [], hW', trodAll_cons_mk (shut_bool Tryd.underlying4 _) trodAll_mk0, (trodAll_cons_mk (Below.trod laidOut (by kernel_rfl) (of_decide_eq_true (by kernel_rfl)) t0 hg (fun x hx => by cases hx)) (trodAll_cons_mk (Below.trod laidOut (by kernel_rfl) (of_decide_eq_true (by kernel_rfl)) t1 hg (fun x hx => by cases hx)) (trodAll_cons_mk (Below.trod laidOut (by kernel_rfl) (of_decide_eq_true (by kernel_rfl)) t2 hg (fun x hx => by cases hx)) trodAll_mk0))), rfl, Below.frame hg _, fun h => by cases h⟩

theorem encTells_said : Rows.EncTellsSaid :=
  OpenClaim.holds_of_cond 4 Tryd.f4 rfl rfl rfl rfl rfl rfl rfl ⟨rfl, rfl, rfl, rfl, rfl⟩ rfl rfl rfl rfl rfl (by kernel_rfl) Tryd.func4 (by kernel_rfl)
    (of_decide_eq_true (by kernel_rfl)) (by unfold Func.isWrapper; first | (rw [if_pos (by decide +kernel)]; kernel_rfl) | (rw [if_neg (by decide +kernel)]; exact ⟨rfl, rfl⟩))
    (fun os started H enc _ F => by rw [OpenClaim.pre_eq_preRow]; exact encTells_lifted os started H enc F)

theorem encTells_plain (f : FuncId) (fn : Func) (hf : Tryd.pinned.checked.prog.funcNamed "quoin/quoinlaw03.EncTells" = some f) (hfn : Tryd.pinned.checked.prog.funcs[f]? = some fn) :
    false = Tryd.pinned.checked.prog.looks [] ∧ ∀ (j : Nat) t, fn.params[j]? = some t → Tryd.pinned.checked.prog.wantsStandIn t = false := by
  obtain rfl : f = 4 := Option.some.inj ((show Tryd.prog.funcNamed "quoin/quoinlaw03.EncTells" = some 4 by kernel_rfl).symm.trans hf) |>.symm
  obtain rfl : fn = Tryd.f4 := (Option.some.inj (Tryd.func4.symm.trans hfn)).symm
  refine ⟨by kernel_rfl, fun j t ht => ?_⟩
  rw [Tryd.params4] at ht
  have hm : t ∈ [31, 5, 5] := by simpa using Array.mem_of_getElem? ht
  have hall : ([31, 5, 5].all fun u => !Tryd.prog.wantsStandIn u) = true := by kernel_rfl
  exact (show Tryd.prog.wantsStandIn t = false by simpa using List.all_eq_true.1 hall t hm)

/-- THE CARD. -/
theorem encTells_holds : Rows.EncTellsCardSaid :=
  Claim7.holds_tied_plain_at .later [] _ _ _ _ encTells_said (fun _ h => by cases h) (by kernel_rfl) (fun _ h => by cases h) encTells_row_tie rfl ⟨rfl, rfl⟩ (by kernel_rfl) rfl encTells_plain (by kernel_rfl)
#print axioms encTells_holds
end Go.Proofs.YtmjpbnpaokafhaaDoor
