/- Proved: the law DecBack of the package quoinlaw04 returns true for every instruction and word: an instruction's word is read back, and each word that is read is the word of what was read. The table of bases is as the program's text lays it (the card ties it). -/
import Derived.Test.YtpaeemijpincpaaDoorBk
namespace Go.Proofs.YtpaeemijpincpaaDoor
open Go.ChangeShapes Go.WideShapes Go.ChangeAt Go.RowKit
open Go.ChangeMaps (open_string shut_string)
set_option linter.unusedVariables false

set_option maxRecDepth 20000 in
set_option maxHeartbeats 1600000 in
theorem decBack_walk (op0 rd0 rs10 rs20 imm0 : Int) (s0_0 : (Lit.int .u8 op0).wf = true) (s0_1 : (Lit.int .i64 rd0).wf = true) (s0_2 : (Lit.int .i64 rs10).wf = true) (s0_3 : (Lit.int .i64 rs20).wf = true) (s0_4 : (Lit.int .i64 imm0).wf = true) (a1 : Int) (w1 : (Lit.int .u32 a1).wf = true) (w : World) (hT : Tab w) :
    Calls Tryd.prog 5 #[insnV op0 rd0 rs10 rs20 imm0, .int .u32 a1] w fun e w' => e = .returned (.bool true) ∧ Kept w w' := by
  have b0 := bounds_u8 s0_0
  have b1 := wf_u32 w1
  have hT0 : Tab (w.alloc (cells5 op0 rd0 rs10 rs20 imm0)) := hT.kept (Kept.alloc _ _)
  have hB0 := Box.new w op0 rd0 rs10 rs20 imm0
  go_enter Tryd.func5, Tryd.ntmps5
  go_upto_region 2 with (go_at_call 9; refine (alive_walk _ hT0).mono ?_; rintro e w2 ⟨rfl, hk2⟩)
  have hB2 := hB0.kept hk2
  have hK2 := (Kept.alloc w (cells5 op0 rd0 rs10 rs20 imm0)).trans hk2
  have hT2 := hT.kept hK2
  have hBx := hB2
  obtain ⟨c0, c1, c2, c3, c4, f0, f1, f2, f3, f4⟩ := hBx
  clear hk2 hB0 hT0
  cases hm : mayB op0 rd0 rs10 rs20 imm0
  · go_upto_region 3 with (go_at_call 12; refine (word_no op0 rd0 rs10 rs20 imm0 b0.2 hm _).mono ?_; rintro e w3 ⟨rfl, hk3⟩)
    have hKx := hK2.trans hk3
    have hTx := hT.kept hKx
    clear c0 c1 c2 c3 c4 f0 f1 f2 f3 f4 hB2 hK2 hT2 hk3 hm

    rcases dec_cases a1 b1.1 b1.2 with ⟨o, a, b, c, d, hm2, ho0, ho1, _, hx2, hd2⟩ | hd2
    · have hW2 := fun w hT => word_yes o a b c d ho0 ho1 hm2 w hT
      have hC2 := fun w => check_yes hm2 w
      rw [← hx2] at hW2
      clear hx2 hm2
      go_upto_region 8 with (go_at_call 7; refine (hd2 _ hTx).mono ?_; rintro e w5 ⟨rfl, hk5⟩)
      have hK5 := (hKx.trans hk5).trans (Kept.alloc w5 (cells5 o a b c d))
      have hT5 := hT.kept hK5
      have hB5 := Box.new w5 o a b c d
      clear hk5 hd2
      go_upto_region 11 with (go_at_call 12; refine (hW2 _ hT5).mono ?_; rintro e w6 ⟨rfl, hk6⟩)
      have hB6 := hB5.kept hk6
      have hK6 := hK5.trans hk6
      obtain ⟨c0, c1, c2, c3, c4, f0, f1, f2, f3, f4⟩ := hB6
      clear hB5 hT5 hK5 hk6 hW2
      go_wp2_with (go_at_call 13; refine (hC2 _).mono ?_; rintro e w7 ⟨rfl, hk7⟩)
      go_ret
      exact ⟨rfl, hK6.trans hk7⟩
    · go_upto_region 8 with (go_at_call 7; refine (hd2 _ hTx).mono ?_; rintro e w5 ⟨rfl, hk5⟩)
      have hK5 := (hKx.trans hk5).trans (Kept.alloc w5 (cells5 0 0 0 0 0))
      clear hk5 hd2
      go_wp2
      go_ret
      exact ⟨rfl, hK5⟩

  · have P := parts_of hm
    go_upto_region 3 with (go_at_call 12; refine (word_yes op0 rd0 rs10 rs20 imm0 b0.1 b0.2 hm _ hT2).mono ?_; rintro e w3 ⟨rfl, hk3⟩)
    have hK3 := hK2.trans hk3
    have hT3 := hT.kept hK3
    have hB3 := hB2.kept hk3
    clear c0 c1 c2 c3 c4 f0 f1 f2 f3 f4 hB2 hK2 hT2 hk3 hm
    go_upto_region 5 with (go_at_call 7; refine (dec_of_word P _ hT3).mono ?_; rintro e w4 ⟨rfl, hk4⟩)
    have hKx := (hK3.trans hk4).trans (Kept.alloc w4 (cells5 op0 rd0 rs10 rs20 imm0))
    have hTx := hT.kept hKx
    have hB4 := hB3.kept hk4
    have hlt := hB4.lt
    have hne := Nat.ne_of_lt hlt
    obtain ⟨c0, c1, c2, c3, c4, f0, f1, f2, f3, f4⟩ := hB4
    clear hB3 hK3 hT3 hk4 P

    rcases dec_cases a1 b1.1 b1.2 with ⟨o, a, b, c, d, hm2, ho0, ho1, _, hx2, hd2⟩ | hd2
    · have hW2 := fun w hT => word_yes o a b c d ho0 ho1 hm2 w hT
      have hC2 := fun w => check_yes hm2 w
      rw [← hx2] at hW2
      clear hx2 hm2
      go_upto_region 8 with (go_at_call 7; refine (hd2 _ hTx).mono ?_; rintro e w5 ⟨rfl, hk5⟩)
      have hK5 := (hKx.trans hk5).trans (Kept.alloc w5 (cells5 o a b c d))
      have hT5 := hT.kept hK5
      have hB5 := Box.new w5 o a b c d
      clear hk5 hd2
      go_upto_region 11 with (go_at_call 12; refine (hW2 _ hT5).mono ?_; rintro e w6 ⟨rfl, hk6⟩)
      have hB6 := hB5.kept hk6
      have hK6 := hK5.trans hk6
      obtain ⟨c0, c1, c2, c3, c4, f0, f1, f2, f3, f4⟩ := hB6
      clear hB5 hT5 hK5 hk6 hW2
      go_wp2_with (go_at_call 13; refine (hC2 _).mono ?_; rintro e w7 ⟨rfl, hk7⟩)
      go_ret
      exact ⟨rfl, hK6.trans hk7⟩
    · go_upto_region 8 with (go_at_call 7; refine (hd2 _ hTx).mono ?_; rintro e w5 ⟨rfl, hk5⟩)
      have hK5 := (hKx.trans hk5).trans (Kept.alloc w5 (cells5 0 0 0 0 0))
      clear hk5 hd2
      go_wp2
      go_ret
      exact ⟨rfl, hK5⟩


set_option maxRecDepth 100000 in
theorem decBack_lifted (os : Os) (started : os.Started) (H : Type) (enc : TypeId × Value → H) (F : Stop.Interp) :
    ReturnsInHanded {} Tryd.checked os 5 .any ((OpenSpec.ofChange Rows.decBackSpec).preRow enc Tryd.prog Tryd.f5 Rows.decBackRow.domain false Rows.decBackRow.laid) (((OpenSpec.ofChange Rows.decBackSpec).at F).post enc Tryd.prog Tryd.f5 false true false false) := by
  have hx : ∃ ds places, DataW.whole enc Tryd.prog ((World.doorLaid Tryd.prog 400 os).forCall (fun _ _ => 0) ⟨#[], #[.agg #[.int .u8 0, .int .i64 0, .int .i64 0, .int .i64 0, .int .i64 0], .int .u32 0], []⟩).memory Tryd.f5.params.toList Rows.decBackSpec.vars false (#[.agg #[.int .u8 0, .int .i64 0, .int .i64 0, .int .i64 0, .int .i64 0], .int .u32 0] : Array Value).toList 8 = some (ds, [], places) := ⟨[.agg [.lit (.int .u8 0), .lit (.int .i64 0), .lit (.int .i64 0), .lit (.int .i64 0), .lit (.int .i64 0)], .lit (.int .u32 0)], [], by kernel_rfl⟩
  obtain ⟨ds, places, hx⟩ := hx
  refine returnsInHanded_of_row (C := Tryd.checked) (s := OpenSpec.ofChange Rows.decBackSpec) own started (by kernel_rfl) Tryd.func5
    (witness_row_at (enc := enc) (C := Tryd.checked) false (World.doorLaid Tryd.prog 400 os) #[.agg #[.int .u8 0, .int .i64 0, .int .i64 0, .int .i64 0, .int .i64 0], .int .u32 0] rfl (by kernel_rfl) (by kernel_rfl) (by kernel_rfl)
      (OpenSpec.preRow_of_cond 8 hx (by kernel_rfl) (fun k hk => by cases hk) (by kernel_rfl) (door_met os _))) ?_
  intro W base args ds gs before hval0 hW _ _ _ hL _ _
  have hval : ∀ (j : Nat) t v, Tryd.f5.params[j]? = some t → args[j]? = some v → Value.okWide Tryd.prog W .any base t v := hval0
  have hW' := hW
  obtain ⟨p, q, hA0, hV, rfl, hfz, hnd⟩ := hW
  have hA : DataW.TrodAll enc Tryd.prog W 0 (fun _ => true) true Tryd.f5.params.toList args.toList ds p := hA0
  rw [Tryd.params5] at hA hval
  obtain ⟨v0, vs0, d0, ds0, p0, q0, hargs, rfl, rfl, h0, r0⟩ := trodAll_cons hA
  obtain ⟨v1, vs1, d1, ds1, p1, q1, rfl, rfl, rfl, h1, r1⟩ := trodAll_cons r0
  obtain ⟨rfl, rfl, rfl⟩ := trodAll_nil r1
  obtain rfl : args = #[v0, v1] := by cases args; simp_all
  obtain ⟨rfl, rfl⟩ := trodVars_none hV
  have t0 := h0
  obtain ⟨op0, rd0, rs10, rs20, imm0, rfl, rfl, s0_0, s0_1, s0_2, s0_3, s0_4⟩ := open_insn (hval 0 23 v0 rfl rfl) h0
  have t1 := h1
  obtain ⟨a1, rfl, rfl, rfl, w1⟩ := open_int Tryd.underlying27 (hval 1 27 v1 rfl rfl) h1
  clear hA0 hval0
  simp only [List.append_nil] at hW'
  refine (decBack_walk op0 rd0 rs10 rs20 imm0 s0_0 s0_1 s0_2 s0_3 s0_4 a1 w1 W (tab_of_laid hL)).mono fun e W' ⟨he, hg⟩ => ?_
  subst he
  exact ⟨_, rfl, _, _, _, [], _, [], hW', trodAll_cons_mk (shut_bool Tryd.underlying4 _) trodAll_mk0, (trodAll_cons_mk (Below.trod laidOut (by kernel_rfl) (of_decide_eq_true (by kernel_rfl)) t0 hg (fun x hx => by cases hx)) (trodAll_cons_mk (Below.trod laidOut (by kernel_rfl) (of_decide_eq_true (by kernel_rfl)) t1 hg (fun x hx => by cases hx)) trodAll_mk0)), rfl, Below.frame hg _, fun h => by cases h⟩

theorem decBack_said : Rows.DecBackSaid :=
  OpenClaim.holds_of_cond 5 Tryd.f5 rfl rfl rfl rfl rfl rfl rfl ⟨rfl, rfl, rfl, rfl, rfl⟩ rfl rfl rfl rfl rfl (by kernel_rfl) Tryd.func5 (by kernel_rfl)
    (of_decide_eq_true (by kernel_rfl)) (by unfold Func.isWrapper; first | (rw [if_pos (by decide +kernel)]; kernel_rfl) | (rw [if_neg (by decide +kernel)]; exact ⟨rfl, rfl⟩))
    (fun os started H enc _ F => by rw [OpenClaim.pre_eq_preRow]; exact decBack_lifted os started H enc F)

theorem decBack_plain (f : FuncId) (fn : Func) (hf : Tryd.pinned.checked.prog.funcNamed "quoin/quoinlaw04.DecBack" = some f) (hfn : Tryd.pinned.checked.prog.funcs[f]? = some fn) :
    false = Tryd.pinned.checked.prog.looks [] ∧ ∀ (j : Nat) t, fn.params[j]? = some t → Tryd.pinned.checked.prog.wantsStandIn t = false := by
  obtain rfl : f = 5 := Option.some.inj ((show Tryd.prog.funcNamed "quoin/quoinlaw04.DecBack" = some 5 by kernel_rfl).symm.trans hf) |>.symm
  obtain rfl : fn = Tryd.f5 := (Option.some.inj (Tryd.func5.symm.trans hfn)).symm
  refine ⟨by kernel_rfl, fun j t ht => ?_⟩
  rw [Tryd.params5] at ht
  have hm : t ∈ [23, 27] := by simpa using Array.mem_of_getElem? ht
  have hall : ([23, 27].all fun u => !Tryd.prog.wantsStandIn u) = true := by kernel_rfl
  exact (show Tryd.prog.wantsStandIn t = false by simpa using List.all_eq_true.1 hall t hm)

/-- THE CARD. -/
theorem decBack_holds : Rows.DecBackCardSaid :=
  Claim7.holds_tied_plain_at .later [] _ _ _ _ decBack_said (fun _ h => by cases h) (by kernel_rfl) (fun _ h => by cases h) decBack_row_tie rfl ⟨rfl, rfl⟩ (by kernel_rfl) rfl decBack_plain (by kernel_rfl)
#print axioms decBack_holds
end Go.Proofs.YtpaeemijpincpaaDoor
