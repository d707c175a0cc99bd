/- Proved: the law InsnLess of the package quoinlaw02 returns true for every instruction and every three numbers: an instruction that may be may be with its number 0, and with registers that are less. The table of names is as the program's text lays it (the card ties it). -/
import Derived.Test.YtechglcjeejmkaaDoorKit
namespace Go.Proofs.YtechglcjeejmkaaDoor
open Go.ChangeShapes Go.WideShapes Go.ChangeAt Go.RowKit
open Go.ChangeMaps (open_string shut_string)
set_option linter.unusedVariables false

theorem mayB_zero {op rd rs1 rs2 imm : Int} (h : mayB op rd rs1 rs2 imm = true) : mayB op rd rs1 rs2 0 = true := by
  unfold mayB at h ⊢
  simp only [Bool.and_eq_true] at h ⊢
  refine ⟨h.1, h.2.1, h.2.2.1, h.2.2.2.1, ?_⟩
  have hn := of_decide_eq_true h.2.2.2.2
  have h1 := formV_letter h.1
  have low : ∀ c ∈ letters, lowOf c ≤ 0 ∧ 0 ≤ highOf c ∧ 0 % byOf c = 0 := by decide +kernel
  exact decide_eq_true (low _ h1)

theorem regOk_less {has : Bool} {n d : Int} (hd : 0 ≤ d) (hn : d ≤ n) (h : regOk has n = true) : regOk has d = true := by
  have := of_decide_eq_true h
  refine decide_eq_true ⟨by omega, by omega, ?_⟩
  rcases this.2.2 with h' | h'
  · exact Or.inl h'
  · exact Or.inr (by omega)

theorem mayB_less {op rd rs1 rs2 imm d s t : Int} (hd : 0 ≤ d) (hd' : d ≤ rd) (hs : 0 ≤ s) (hs' : s ≤ rs1) (ht : 0 ≤ t) (ht' : t ≤ rs2) (h : mayB op rd rs1 rs2 imm = true) : mayB op d s t imm = true := by
  unfold mayB at h ⊢
  simp only [Bool.and_eq_true] at h ⊢
  exact ⟨h.1, regOk_less hd hd' h.2.1, regOk_less hs hs' h.2.2.1, regOk_less ht ht' h.2.2.2.1, h.2.2.2.2⟩

theorem mayB_bounds {op rd rs1 rs2 imm : Int} (h : mayB op rd rs1 rs2 imm = true) : 0 ≤ rd ∧ 0 ≤ rs1 ∧ 0 ≤ rs2 := by
  unfold mayB at h
  simp only [Bool.and_eq_true] at h
  exact ⟨(of_decide_eq_true h.2.1).1, (of_decide_eq_true h.2.2.1).1, (of_decide_eq_true h.2.2.2.1).1⟩

theorem chkV_yes {op rd rs1 rs2 imm : Int} (h : mayB op rd rs1 rs2 imm = true) : chkV op rd rs1 rs2 imm = 0 := by unfold chkV; rw [if_pos h]
theorem chkV_no {op rd rs1 rs2 imm : Int} (h : mayB op rd rs1 rs2 imm = false) : chkV op rd rs1 rs2 imm = 20 := by unfold chkV; rw [if_neg (by simp [h])]

theorem insnLess_walk (op0 rd0 rs10 rs20 imm0 : Int) (s0_0 : (Lit.int .u8 op0).wf = true) (s0_1 : (Lit.int .i64 rd0).wf = true) (s0_2 : (Lit.int .i64 rs10).wf = true) (s0_3 : (Lit.int .i64 rs20).wf = true) (s0_4 : (Lit.int .i64 imm0).wf = true) (a1 : Int) (w1 : (Lit.int .u8 a1).wf = true) (a2 : Int) (w2 : (Lit.int .u8 a2).wf = true) (a3 : Int) (w3 : (Lit.int .u8 a3).wf = true) (w : World) (hT : Tab w) :
    Calls Tryd.prog 6 #[insnV op0 rd0 rs10 rs20 imm0, .int .u8 a1, .int .u8 a2, .int .u8 a3] w fun e w' => e = .returned (.bool true) ∧ Kept w w' := by
  have b0 := bounds_u8 s0_0
  have b1 := bounds_u8 w1
  have b2 := bounds_u8 w2
  have b3 := bounds_u8 w3
  cases hm : mayB op0 rd0 rs10 rs20 imm0
  · have e1 := chkV_no hm
    go_enter Tryd.func6, Tryd.ntmps6
    go_wp2_with (first
      | (go_at_call 10; refine (alive_walk _ (hT.kept (by go_grown))).mono ?_; rintro e w' ⟨rfl, rfl⟩)
      | (go_at_call 12; refine (check_at _ _ _ _ _ (by omega) _).mono ?_; rintro e w' ⟨rfl, rfl⟩))
    go_ret
    exact ⟨rfl, by go_grown⟩
  · have e1 := chkV_yes hm
    have e2 := chkV_yes (mayB_zero hm)
    have key : ∀ x y z : Int, 0 ≤ x → x ≤ rd0 → 0 ≤ y → y ≤ rs10 → 0 ≤ z → z ≤ rs20 → chkV op0 x y z imm0 = 0 := fun x y z h1 h2 h3 h4 h5 h6 => chkV_yes (mayB_less h1 h2 h3 h4 h5 h6 hm)
    have hb := mayB_bounds hm
    go_enter Tryd.func6, Tryd.ntmps6
    go_wp2_with (first
      | (go_at_call 10; refine (alive_walk _ (hT.kept (by go_grown))).mono ?_; rintro e w' ⟨rfl, rfl⟩)
      | (go_at_call 12; refine (check_at _ _ _ _ _ (by omega) _).mono ?_; rintro e w' ⟨rfl, rfl⟩))
    all_goals
      go_ret
      refine ⟨?_, by go_grown⟩
      first
        | rfl
        | (show Ending.returned (Value.bool (chkV _ _ _ _ _ == 0)) = _
           rw [key _ _ _ (by omega) (by omega) (by omega) (by omega) (by omega) (by omega)]
           rfl)


set_option maxRecDepth 100000 in
theorem insnLess_lifted (os : Os) (started : os.Started) (H : Type) (enc : TypeId × Value → H) (F : Stop.Interp) :
    ReturnsInHanded {} Tryd.checked os 6 .any ((OpenSpec.ofChange Rows.insnLessSpec).preRow enc Tryd.prog Tryd.f6 Rows.insnLessRow.domain false Rows.insnLessRow.laid) (((OpenSpec.ofChange Rows.insnLessSpec).at F).post enc Tryd.prog Tryd.f6 false true false false) := by
  have hx : ∃ ds places, DataW.whole enc Tryd.prog ((World.doorLaid Tryd.prog 400 os).forCall (fun _ _ => 0) ⟨#[], #[.agg #[.int .u8 0, .int .i64 0, .int .i64 0, .int .i64 0, .int .i64 0], .int .u8 0, .int .u8 0, .int .u8 0], []⟩).memory Tryd.f6.params.toList Rows.insnLessSpec.vars false (#[.agg #[.int .u8 0, .int .i64 0, .int .i64 0, .int .i64 0, .int .i64 0], .int .u8 0, .int .u8 0, .int .u8 0] : Array Value).toList 8 = some (ds, [], places) := ⟨[.agg [.lit (.int .u8 0), .lit (.int .i64 0), .lit (.int .i64 0), .lit (.int .i64 0), .lit (.int .i64 0)], .lit (.int .u8 0), .lit (.int .u8 0), .lit (.int .u8 0)], [], by kernel_rfl⟩
  obtain ⟨ds, places, hx⟩ := hx
  refine returnsInHanded_of_row (C := Tryd.checked) (s := OpenSpec.ofChange Rows.insnLessSpec) own started (by kernel_rfl) Tryd.func6
    (witness_row_at (enc := enc) (C := Tryd.checked) false (World.doorLaid Tryd.prog 400 os) #[.agg #[.int .u8 0, .int .i64 0, .int .i64 0, .int .i64 0, .int .i64 0], .int .u8 0, .int .u8 0, .int .u8 0] rfl (by kernel_rfl) (by kernel_rfl) (by kernel_rfl)
      (OpenSpec.preRow_of_cond 8 hx (by kernel_rfl) (fun k hk => by cases hk) (by kernel_rfl) (door_met os _))) ?_
  intro W base args ds gs before hval0 hW _ _ _ hL _ _
  have hval : ∀ (j : Nat) t v, Tryd.f6.params[j]? = some t → args[j]? = some v → Value.okWide Tryd.prog W .any base t v := hval0
  have hW' := hW
  obtain ⟨p, q, hA0, hV, rfl, hfz, hnd⟩ := hW
  have hA : DataW.TrodAll enc Tryd.prog W 0 (fun _ => true) true Tryd.f6.params.toList args.toList ds p := hA0
  rw [Tryd.params6] at hA hval
  obtain ⟨v0, vs0, d0, ds0, p0, q0, hargs, rfl, rfl, h0, r0⟩ := trodAll_cons hA
  obtain ⟨v1, vs1, d1, ds1, p1, q1, rfl, rfl, rfl, h1, r1⟩ := trodAll_cons r0
  obtain ⟨v2, vs2, d2, ds2, p2, q2, rfl, rfl, rfl, h2, r2⟩ := trodAll_cons r1
  obtain ⟨v3, vs3, d3, ds3, p3, q3, rfl, rfl, rfl, h3, r3⟩ := trodAll_cons r2
  obtain ⟨rfl, rfl, rfl⟩ := trodAll_nil r3
  obtain rfl : args = #[v0, v1, v2, v3] := by cases args; simp_all
  obtain ⟨rfl, rfl⟩ := trodVars_none hV
  have t0 := h0
  obtain ⟨op0, rd0, rs10, rs20, imm0, rfl, rfl, s0_0, s0_1, s0_2, s0_3, s0_4⟩ := open_insn (hval 0 28 v0 rfl rfl) h0
  have t1 := h1
  obtain ⟨a1, rfl, rfl, rfl, w1⟩ := open_int Tryd.underlying5 (hval 1 5 v1 rfl rfl) h1
  have t2 := h2
  obtain ⟨a2, rfl, rfl, rfl, w2⟩ := open_int Tryd.underlying5 (hval 2 5 v2 rfl rfl) h2
  have t3 := h3
  obtain ⟨a3, rfl, rfl, rfl, w3⟩ := open_int Tryd.underlying5 (hval 3 5 v3 rfl rfl) h3
  clear hA0 hval0
  simp only [List.append_nil] at hW'
  refine (insnLess_walk op0 rd0 rs10 rs20 imm0 s0_0 s0_1 s0_2 s0_3 s0_4 a1 w1 a2 w2 a3 w3 W (tab_of_laid hL)).mono fun e W' ⟨he, hg⟩ => ?_
  subst he
  exact ⟨_, rfl, _, _, _, [], _, [], hW', trodAll_cons_mk (shut_bool Tryd.underlying4 _) trodAll_mk0, (trodAll_cons_mk (Below.trod laidOut (by kernel_rfl) (of_decide_eq_true (by kernel_rfl)) t0 hg (fun x hx => by cases hx)) (trodAll_cons_mk (Below.trod laidOut (by kernel_rfl) (of_decide_eq_true (by kernel_rfl)) t1 hg (fun x hx => by cases hx)) (trodAll_cons_mk (Below.trod laidOut (by kernel_rfl) (of_decide_eq_true (by kernel_rfl)) t2 hg (fun x hx => by cases hx)) (trodAll_cons_mk (Below.trod laidOut (by kernel_rfl) (of_decide_eq_true (by kernel_rfl)) t3 hg (fun x hx => by cases hx)) trodAll_mk0)))), rfl, Below.frame hg _, fun h => by cases h⟩

theorem insnLess_said : Rows.InsnLessSaid :=
  OpenClaim.holds_of_cond 6 Tryd.f6 rfl rfl rfl rfl rfl rfl rfl ⟨rfl, rfl, rfl, rfl, rfl⟩ rfl rfl rfl rfl rfl (by kernel_rfl) Tryd.func6 (by kernel_rfl)
    (of_decide_eq_true (by kernel_rfl)) (by unfold Func.isWrapper; first | (rw [if_pos (by decide +kernel)]; kernel_rfl) | (rw [if_neg (by decide +kernel)]; exact ⟨rfl, rfl⟩))
    (fun os started H enc _ F => by rw [OpenClaim.pre_eq_preRow]; exact insnLess_lifted os started H enc F)

theorem insnLess_plain (f : FuncId) (fn : Func) (hf : Tryd.pinned.checked.prog.funcNamed "quoin/quoinlaw02.InsnLess" = some f) (hfn : Tryd.pinned.checked.prog.funcs[f]? = some fn) :
    false = Tryd.pinned.checked.prog.looks [] ∧ ∀ (j : Nat) t, fn.params[j]? = some t → Tryd.pinned.checked.prog.wantsStandIn t = false := by
  obtain rfl : f = 6 := Option.some.inj ((show Tryd.prog.funcNamed "quoin/quoinlaw02.InsnLess" = some 6 by kernel_rfl).symm.trans hf) |>.symm
  obtain rfl : fn = Tryd.f6 := (Option.some.inj (Tryd.func6.symm.trans hfn)).symm
  refine ⟨by kernel_rfl, fun j t ht => ?_⟩
  rw [Tryd.params6] at ht
  have hm : t ∈ [28, 5, 5, 5] := by simpa using Array.mem_of_getElem? ht
  have hall : ([28, 5, 5, 5].all fun u => !Tryd.prog.wantsStandIn u) = true := by kernel_rfl
  exact (show Tryd.prog.wantsStandIn t = false by simpa using List.all_eq_true.1 hall t hm)

/-- THE CARD. -/
theorem insnLess_holds : Rows.InsnLessCardSaid :=
  Claim7.holds_tied_plain_at .later [] _ _ _ _ insnLess_said (fun _ h => by cases h) (by kernel_rfl) (fun _ h => by cases h) insnLess_row_tie rfl ⟨rfl, rfl⟩ (by kernel_rfl) rfl insnLess_plain (by kernel_rfl)
#print axioms insnLess_holds
end Go.Proofs.YtechglcjeejmkaaDoor
