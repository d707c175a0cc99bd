/- Proved: the law InsnTells of the package quoinlaw02 returns true for every number, text and instruction: names, forms, numbers of names and which instructions may be are the document's. The table of names is as the program's text lays it (the card ties it). -/
import Derived.Test.YtechglcjeejmkaaDoorKit
namespace Go.Proofs.YtechglcjeejmkaaDoor
open Go.ChangeShapes Go.WideShapes Go.ChangeAt Go.RowKit
open Go.ChangeMaps (open_string shut_string)
set_option linter.unusedVariables false

open Go.Sort in
theorem insnTells_walk (a0 : Int) (w0 : (Lit.int .u8 a0).wf = true) (a1 : ByteArray) (w1 : a1.size ≤ maxLen) (op2 rd2 rs12 rs22 imm2 : Int) (s2_0 : (Lit.int .u8 op2).wf = true) (s2_1 : (Lit.int .i64 rd2).wf = true) (s2_2 : (Lit.int .i64 rs12).wf = true) (s2_3 : (Lit.int .i64 rs22).wf = true) (s2_4 : (Lit.int .i64 imm2).wf = true) (w : World) (hT : Tab w) :
    Calls Tryd.prog 4 #[.int .u8 a0, .string a1, insnV op2 rd2 rs12 rs22 imm2] w fun e w' => e = .returned (.bool true) ∧ Kept w w' := by
  have b0 := bounds_u8 w0
  have b2 := bounds_u8 s2_0
  by_cases hlen : (1000 : Int) < a1.size
  · go_enter Tryd.func4, Tryd.ntmps4
    go_wp2
    go_ret
    exact ⟨rfl, by go_grown⟩
  · go_enter Tryd.func4, Tryd.ntmps4
    go_wp2_with (first
      | (go_at_call 8; refine (name_walk _ (by omega) _ (hT.kept (Kept.alloc _ _))).mono ?_; rintro e w' ⟨rfl, rfl⟩)
      | (go_at_call 13; refine (refName_walk _ (by omega) (by omega) _).mono ?_; rintro e w1 ⟨rfl, k1⟩)
      | (go_at_call 14; refine (form_walk _ (by omega) _).mono ?_; rintro e w' ⟨rfl, rfl⟩)
      | (go_at_call 15; refine (refForm_walk _ (by omega) (by omega) _).mono ?_; rintro e w2 ⟨rfl, k2⟩)
      | (go_at_call 9; refine (of_walk _ _ ((hT.kept (Kept.alloc _ _)).kept (Kept.trans k1 k2))).mono ?_; rintro e w' ⟨rfl, rfl⟩)
      | (go_at_call 16; refine (refOf_walk _ _).mono ?_; rintro e w3 ⟨rfl, k3⟩))
    have kk := Kept.trans k1 (Kept.trans k2 k3)
    have kw := Kept.trans (Kept.alloc w _) kk
    have d0 : w3.cell? ⟨w.heap.size, 0, none⟩ = some (.int .u8 op2) := Kept.cell kk (by simp)
    have d1 : w3.cell? ⟨w.heap.size, 1, none⟩ = some (.int .i64 rd2) := Kept.cell kk (by simp)
    have d2 : w3.cell? ⟨w.heap.size, 2, none⟩ = some (.int .i64 rs12) := Kept.cell kk (by simp)
    have d3 : w3.cell? ⟨w.heap.size, 3, none⟩ = some (.int .i64 rs22) := Kept.cell kk (by simp)
    have d4 : w3.cell? ⟨w.heap.size, 4, none⟩ = some (.int .i64 imm2) := Kept.cell kk (by simp)
    have g0 := cell_regrown d0
    have g1 := cell_regrown d1
    have g2 := cell_regrown d2
    have g3 := cell_regrown d3
    have g4 := cell_regrown d4
    have cA : ∀ d os, Calls Tryd.prog 12 #[insnV op2 rd2 rs12 rs22 imm2] (grow (redrawn w3 d) os) fun e w'' => e = .returned (.int .i64 (chkV op2 rd2 rs12 rs22 imm2)) ∧ ∃ p : Regrown, w'' = grow (redrawn w3 p.d) p.os := fun d os => Calls.regrown_of (check_walk _ _ _ _ _ (by omega) _)
    have cB : ∀ d os, Calls Tryd.prog 17 #[insnV op2 rd2 rs12 rs22 imm2] (grow (redrawn w3 d) os) fun e w'' => e = .returned (.int .i64 (chkV op2 rd2 rs12 rs22 imm2)) ∧ ∃ p : Regrown, w'' = grow (redrawn w3 p.d) p.os := fun d os => Calls.regrown_of (refCheck_walk _ _ _ _ _ (by omega) (by omega) _)
    clear kk k1 k2 k3 d0 d1 d2 d3 d4
    refine wp_region_quiet_below (by kernel_rfl) (by kernel_rfl) ?_
    repeat (quiet_step (first | exact cA _ _ | exact cB _ _))
    refine wpQuiet_nil ?_
    intro _ hw'
    obtain ⟨⟨dq, osq⟩, hw''⟩ := hw'
    subst hw''
    go_wp2
    go_ret
    exact ⟨rfl, Kept.trans kw (below_regrown w3 dq osq)⟩


set_option maxRecDepth 100000 in
theorem insnTells_lifted (os : Os) (started : os.Started) (H : Type) (enc : TypeId × Value → H) (F : Stop.Interp) :
    ReturnsInHanded {} Tryd.checked os 4 .any ((OpenSpec.ofChange Rows.insnTellsSpec).preRow enc Tryd.prog Tryd.f4 Rows.insnTellsRow.domain false Rows.insnTellsRow.laid) (((OpenSpec.ofChange Rows.insnTellsSpec).at F).post enc Tryd.prog Tryd.f4 false true false false) := by
  have hx : ∃ ds places, DataW.whole enc Tryd.prog ((World.doorLaid Tryd.prog 400 os).forCall (fun _ _ => 0) ⟨#[], #[.int .u8 0, .string ByteArray.empty, .agg #[.int .u8 0, .int .i64 0, .int .i64 0, .int .i64 0, .int .i64 0]], []⟩).memory Tryd.f4.params.toList Rows.insnTellsSpec.vars false (#[.int .u8 0, .string ByteArray.empty, .agg #[.int .u8 0, .int .i64 0, .int .i64 0, .int .i64 0, .int .i64 0]] : Array Value).toList 8 = some (ds, [], places) := ⟨[.lit (.int .u8 0), .lit (.string []), .agg [.lit (.int .u8 0), .lit (.int .i64 0), .lit (.int .i64 0), .lit (.int .i64 0), .lit (.int .i64 0)]], [], by kernel_rfl⟩
  obtain ⟨ds, places, hx⟩ := hx
  refine returnsInHanded_of_row (C := Tryd.checked) (s := OpenSpec.ofChange Rows.insnTellsSpec) own started (by kernel_rfl) Tryd.func4
    (witness_row_at (enc := enc) (C := Tryd.checked) false (World.doorLaid Tryd.prog 400 os) #[.int .u8 0, .string ByteArray.empty, .agg #[.int .u8 0, .int .i64 0, .int .i64 0, .int .i64 0, .int .i64 0]] rfl (by kernel_rfl) (by kernel_rfl) (by kernel_rfl)
      (OpenSpec.preRow_of_cond 8 hx (by kernel_rfl) (fun k hk => by cases hk) (by kernel_rfl) (door_met os _))) ?_
  intro W base args ds gs before hval0 hW _ _ _ hL _ _
  have hval : ∀ (j : Nat) t v, Tryd.f4.params[j]? = some t → args[j]? = some v → Value.okWide Tryd.prog W .any base t v := hval0
  have hW' := hW
  obtain ⟨p, q, hA0, hV, rfl, hfz, hnd⟩ := hW
  have hA : DataW.TrodAll enc Tryd.prog W 0 (fun _ => true) true Tryd.f4.params.toList args.toList ds p := hA0
  rw [Tryd.params4] at hA hval
  obtain ⟨v0, vs0, d0, ds0, p0, q0, hargs, rfl, rfl, h0, r0⟩ := trodAll_cons hA
  obtain ⟨v1, vs1, d1, ds1, p1, q1, rfl, rfl, rfl, h1, r1⟩ := trodAll_cons r0
  obtain ⟨v2, vs2, d2, ds2, p2, q2, rfl, rfl, rfl, h2, r2⟩ := trodAll_cons r1
  obtain ⟨rfl, rfl, rfl⟩ := trodAll_nil r2
  obtain rfl : args = #[v0, v1, v2] := by cases args; simp_all
  obtain ⟨rfl, rfl⟩ := trodVars_none hV
  have t0 := h0
  obtain ⟨a0, rfl, rfl, rfl, w0⟩ := open_int Tryd.underlying5 (hval 0 5 v0 rfl rfl) h0
  have t1 := h1
  obtain ⟨a1, rfl, rfl, rfl, w1⟩ := open_string Tryd.underlying9 (hval 1 9 v1 rfl rfl) h1
  have t2 := h2
  obtain ⟨op2, rd2, rs12, rs22, imm2, rfl, rfl, s2_0, s2_1, s2_2, s2_3, s2_4⟩ := open_insn (hval 2 28 v2 rfl rfl) h2
  clear hA0 hval0
  simp only [List.append_nil] at hW'
  refine (insnTells_walk a0 w0 a1 w1 op2 rd2 rs12 rs22 imm2 s2_0 s2_1 s2_2 s2_3 s2_4 W (tab_of_laid hL)).mono fun e W' ⟨he, hg⟩ => ?_
  subst he
  exact ⟨_, rfl, _, _, _, [], _, [], hW', trodAll_cons_mk (shut_bool Tryd.underlying4 _) trodAll_mk0, (trodAll_cons_mk (Below.trod laidOut (by kernel_rfl) (of_decide_eq_true (by kernel_rfl)) t0 hg (fun x hx => by cases hx)) (trodAll_cons_mk (Below.trod laidOut (by kernel_rfl) (of_decide_eq_true (by kernel_rfl)) t1 hg (fun x hx => by cases hx)) (trodAll_cons_mk (Below.trod laidOut (by kernel_rfl) (of_decide_eq_true (by kernel_rfl)) t2 hg (fun x hx => by cases hx)) trodAll_mk0))), rfl, Below.frame hg _, fun h => by cases h⟩

theorem insnTells_said : Rows.InsnTellsSaid :=
  OpenClaim.holds_of_cond 4 Tryd.f4 rfl rfl rfl rfl rfl rfl rfl ⟨rfl, rfl, rfl, rfl, rfl⟩ rfl rfl rfl rfl rfl (by kernel_rfl) Tryd.func4 (by kernel_rfl)
    (of_decide_eq_true (by kernel_rfl)) (by unfold Func.isWrapper; first | (rw [if_pos (by decide +kernel)]; kernel_rfl) | (rw [if_neg (by decide +kernel)]; exact ⟨rfl, rfl⟩))
    (fun os started H enc _ F => by rw [OpenClaim.pre_eq_preRow]; exact insnTells_lifted os started H enc F)

theorem insnTells_plain (f : FuncId) (fn : Func) (hf : Tryd.pinned.checked.prog.funcNamed "quoin/quoinlaw02.InsnTells" = some f) (hfn : Tryd.pinned.checked.prog.funcs[f]? = some fn) :
    false = Tryd.pinned.checked.prog.looks [] ∧ ∀ (j : Nat) t, fn.params[j]? = some t → Tryd.pinned.checked.prog.wantsStandIn t = false := by
  obtain rfl : f = 4 := Option.some.inj ((show Tryd.prog.funcNamed "quoin/quoinlaw02.InsnTells" = some 4 by kernel_rfl).symm.trans hf) |>.symm
  obtain rfl : fn = Tryd.f4 := (Option.some.inj (Tryd.func4.symm.trans hfn)).symm
  refine ⟨by kernel_rfl, fun j t ht => ?_⟩
  rw [Tryd.params4] at ht
  have hm : t ∈ [5, 9, 28] := by simpa using Array.mem_of_getElem? ht
  have hall : ([5, 9, 28].all fun u => !Tryd.prog.wantsStandIn u) = true := by kernel_rfl
  exact (show Tryd.prog.wantsStandIn t = false by simpa using List.all_eq_true.1 hall t hm)

/-- THE CARD. -/
theorem insnTells_holds : Rows.InsnTellsCardSaid :=
  Claim7.holds_tied_plain_at .later [] _ _ _ _ insnTells_said (fun _ h => by cases h) (by kernel_rfl) (fun _ h => by cases h) insnTells_row_tie rfl ⟨rfl, rfl⟩ (by kernel_rfl) rfl insnTells_plain (by kernel_rfl)
#print axioms insnTells_holds
end Go.Proofs.YtechglcjeejmkaaDoor
