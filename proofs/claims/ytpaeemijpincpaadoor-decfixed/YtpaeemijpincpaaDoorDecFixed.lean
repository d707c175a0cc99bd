/- Proved: the law DecFixed of the package quoinlaw04 returns true for every instruction and bit: of an instruction's word the fixed bits are its base's, the lowest two are 1, and a word one of whose fixed bits is turned is none, or another instruction's. The table of bases is as the program's text lays it (the card ties it). -/
import Derived.Test.YtpaeemijpincpaaDoorFx
namespace Go.Proofs.YtpaeemijpincpaaDoor
open Go.ChangeShapes Go.WideShapes Go.ChangeAt Go.RowKit
open Go.ChangeMaps (open_string shut_string)
set_option linter.unusedVariables false

set_option maxRecDepth 20000 in
set_option maxHeartbeats 1600000 in
theorem decFixed_walk (op0 rd0 rs10 rs20 imm0 : Int) (s0_0 : (Lit.int .u8 op0).wf = true) (s0_1 : (Lit.int .i64 rd0).wf = true) (s0_2 : (Lit.int .i64 rs10).wf = true) (s0_3 : (Lit.int .i64 rs20).wf = true) (s0_4 : (Lit.int .i64 imm0).wf = true) (a1 : Int) (w1 : (Lit.int .u8 a1).wf = true) (w : World) (hT : Tab w) :
    Calls Tryd.prog 6 #[insnV op0 rd0 rs10 rs20 imm0, .int .u8 a1] w fun e w' => e = .returned (.bool true) ∧ Kept w w' := by
  have b0 := bounds_u8 s0_0
  have b1 := bounds_u8 w1
  have hT0 : Tab (w.alloc (cells5 op0 rd0 rs10 rs20 imm0)) := hT.kept (Kept.alloc _ _)
  have hB0 := Box.new w op0 rd0 rs10 rs20 imm0
  go_enter Tryd.func6, Tryd.ntmps6
  go_upto_region 2 with (go_at_call 9; refine (alive_walk _ hT0).mono ?_; rintro e w2 ⟨rfl, hk2⟩)
  have hB2 := hB0.kept hk2
  have hK2 := (Kept.alloc w (cells5 op0 rd0 rs10 rs20 imm0)).trans hk2
  have hT2 := hT.kept hK2
  have hBx := hB2
  obtain ⟨c0, c1, c2, c3, c4, f0, f1, f2, f3, f4⟩ := hBx
  clear hk2 hB0 hT0
  cases hm : mayB op0 rd0 rs10 rs20 imm0
  · go_wp2_with (go_at_call 12; refine (word_no op0 rd0 rs10 rs20 imm0 b0.2 hm _).mono ?_; rintro e w3 ⟨rfl, hk3⟩)
    go_ret
    exact ⟨rfl, hK2.trans hk3⟩
  · have P := parts_of hm
    go_upto_region 5 with (go_at_call 12; refine (word_yes op0 rd0 rs10 rs20 imm0 b0.1 b0.2 hm _ hT2).mono ?_; rintro e w3 ⟨rfl, hk3⟩)
    have hK3 := hK2.trans hk3
    have hB3 := hB2.kept hk3
    have hT3 := hT.kept hK3
    clear c0 c1 c2 c3 c4 f0 f1 f2 f3 f4 hB2 hK2 hT2 hk3 hm
    have hBx := hB3
    obtain ⟨c0, c1, c2, c3, c4, f0, f1, f2, f3, f4⟩ := hBx
    have hF := fun w => form_yes P b0.2 w
    have hX := fun w => fixed_yes P w
    have hBs := fun w hT => base_yes P b0.1 b0.2 w hT
    go_upto_region 7 with (first
      | (go_at_call 14; refine (hF _).mono ?_; rintro e w' ⟨rfl, rfl⟩)
      | (go_at_call 8; refine (hX _).mono ?_; rintro e w4 ⟨rfl, hk4⟩))
    have hK4 := hK3.trans hk4
    have hB4 := hB3.kept hk4
    have hT4 := hT.kept hK4
    clear c0 c1 c2 c3 c4 f0 f1 f2 f3 f4 hB3 hK3 hT3 hk4 hF hX
    have hBx := hB4
    obtain ⟨c0, c1, c2, c3, c4, f0, f1, f2, f3, f4⟩ := hBx
    have q1 := word_mask P
    have q2 := base_mask P
    have q3 := word_low P
    generalize hG : ((wordN op0 rd0 rs10 rs20 imm0 : Nat) : Int) = G at q1 q3 ⊢
    generalize hM : ((fixM (formV op0) : Nat) : Int) = M at q1 q2 ⊢
    generalize hS : ((baseC (op0.toNat - 1) : Nat) : Int) = S at q1 q2 hBs ⊢
    go_upto_region 11 with (go_at_call 15; refine (hBs _ hT4).mono ?_; rintro e w' ⟨rfl, rfl⟩)
    have hY := one_num a1
    have hy : 2 ^ (a1 % 32).toNat < 4294967296 := one_lt a1
    have hV : bits .xor .u32 G (2 ^ (a1 % 32).toNat % 4294967296) = ((wordN op0 rd0 rs10 rs20 imm0 ^^^ 2 ^ (a1 % 32).toNat : Nat) : Int) := by
      rw [← hG, hY]; exact u32_xor_nat _ _ (wordN_lt P) hy
    have hVl : wordN op0 rd0 rs10 rs20 imm0 ^^^ 2 ^ (a1 % 32).toNat < 4294967296 := Nat.xor_lt_two_pow (n := 32) (wordN_lt P) hy
    have hZ : bits .and .u32 M (2 ^ (a1 % 32).toNat % 4294967296) = ((fixM (formV op0) &&& 2 ^ (a1 % 32).toNat : Nat) : Int) := by
      rw [← hM, hY]; exact u32_and_nat _ _ (fix_lt _ (formV_letter P.isop)) hy
    generalize (2 : Int) ^ (a1 % 32).toNat % 4294967296 = Y at hV hZ ⊢
    generalize hy2 : 2 ^ (a1 % 32).toNat = y at hV hZ hVl
    generalize hVV : bits .xor .u32 G Y = V at hV
    have hV0 : 0 ≤ V := by omega
    have hV1 : V < 4294967296 := by omega
    clear hY hy hy2 hG hM hS q1 q2 q3 hBs
    rcases dec_cases V hV0 hV1 with ⟨o, a, b, c, d, hm2, ho0, ho1, _, hx2, hd2⟩ | hd2
    · have hne2 : (bits .and .u32 M Y == 0) = true ∨ ((bits .and .u32 M Y == 0) = false ∧ (o != op0) = true) := by
        cases hz : (bits .and .u32 M Y == 0)
        · refine .inr ⟨rfl, ?_⟩
          rw [bne_iff_ne]
          intro e
          subst e
          have ht := turned P (parts_of hm2) (y := y) (by omega)
          rw [hZ, ht] at hz
          exact absurd hz (by decide)
        · exact .inl rfl
      clear hx2 hm2 hV hZ hVl hV0 hV1
      go_upto_region 12 with (go_at_call 7; refine (hd2 _ hT4).mono ?_; rintro e w5 ⟨rfl, hk5⟩)
      have hB5 := hB4.kept hk5
      have hlt := hB5.lt
      have hne := Nat.ne_of_lt hlt
      have hK5 := (hK4.trans hk5).trans (Kept.alloc w5 (cells5 o a b c d))
      clear c0 c1 c2 c3 c4 f0 f1 f2 f3 f4
      obtain ⟨c0, c1, c2, c3, c4, f0, f1, f2, f3, f4⟩ := hB5
      clear hB4 hT4 hK4 hk5 hd2
      rcases hne2 with hz | ⟨hz, ho⟩
      · go_wp2
        go_ret
        exact ⟨rfl, hK5⟩
      · go_wp2
        go_ret
        exact ⟨rfl, hK5⟩
    · clear hV hZ hVl hV0 hV1
      go_upto_region 12 with (go_at_call 7; refine (hd2 _ hT4).mono ?_; rintro e w5 ⟨rfl, hk5⟩)
      have hK5 := (hK4.trans hk5).trans (Kept.alloc w5 (cells5 0 0 0 0 0))
      clear c0 c1 c2 c3 c4 f0 f1 f2 f3 f4 hB4 hT4 hK4 hk5 hd2
      cases hz : (bits .and .u32 M Y == 0)
      · go_wp2
        go_ret
        exact ⟨rfl, hK5⟩
      · go_wp2
        go_ret
        exact ⟨rfl, hK5⟩


set_option maxRecDepth 100000 in
theorem decFixed_lifted (os : Os) (started : os.Started) (H : Type) (enc : TypeId × Value → H) (F : Stop.Interp) :
    ReturnsInHanded {} Tryd.checked os 6 .any ((OpenSpec.ofChange Rows.decFixedSpec).preRow enc Tryd.prog Tryd.f6 Rows.decFixedRow.domain false Rows.decFixedRow.laid) (((OpenSpec.ofChange Rows.decFixedSpec).at F).post enc Tryd.prog Tryd.f6 false true false false) := by
  have hx : ∃ ds places, DataW.whole enc Tryd.prog ((World.doorLaid Tryd.prog 400 os).forCall (fun _ _ => 0) ⟨#[], #[.agg #[.int .u8 0, .int .i64 0, .int .i64 0, .int .i64 0, .int .i64 0], .int .u8 0], []⟩).memory Tryd.f6.params.toList Rows.decFixedSpec.vars false (#[.agg #[.int .u8 0, .int .i64 0, .int .i64 0, .int .i64 0, .int .i64 0], .int .u8 0] : Array Value).toList 8 = some (ds, [], places) := ⟨[.agg [.lit (.int .u8 0), .lit (.int .i64 0), .lit (.int .i64 0), .lit (.int .i64 0), .lit (.int .i64 0)], .lit (.int .u8 0)], [], by kernel_rfl⟩
  obtain ⟨ds, places, hx⟩ := hx
  refine returnsInHanded_of_row (C := Tryd.checked) (s := OpenSpec.ofChange Rows.decFixedSpec) own started (by kernel_rfl) Tryd.func6
    (witness_row_at (enc := enc) (C := Tryd.checked) false (World.doorLaid Tryd.prog 400 os) #[.agg #[.int .u8 0, .int .i64 0, .int .i64 0, .int .i64 0, .int .i64 0], .int .u8 0] rfl (by kernel_rfl) (by kernel_rfl) (by kernel_rfl)
      (OpenSpec.preRow_of_cond 8 hx (by kernel_rfl) (fun k hk => by cases hk) (by kernel_rfl) (door_met os _))) ?_
  intro W base args ds gs before hval0 hW _ _ _ hL _ _
  have hval : ∀ (j : Nat) t v, Tryd.f6.params[j]? = some t → args[j]? = some v → Value.okWide Tryd.prog W .any base t v := hval0
  have hW' := hW
  obtain ⟨p, q, hA0, hV, rfl, hfz, hnd⟩ := hW
  have hA : DataW.TrodAll enc Tryd.prog W 0 (fun _ => true) true Tryd.f6.params.toList args.toList ds p := hA0
  rw [Tryd.params6] at hA hval
  obtain ⟨v0, vs0, d0, ds0, p0, q0, hargs, rfl, rfl, h0, r0⟩ := trodAll_cons hA
  obtain ⟨v1, vs1, d1, ds1, p1, q1, rfl, rfl, rfl, h1, r1⟩ := trodAll_cons r0
  obtain ⟨rfl, rfl, rfl⟩ := trodAll_nil r1
  obtain rfl : args = #[v0, v1] := by cases args; simp_all
  obtain ⟨rfl, rfl⟩ := trodVars_none hV
  have t0 := h0
  obtain ⟨op0, rd0, rs10, rs20, imm0, rfl, rfl, s0_0, s0_1, s0_2, s0_3, s0_4⟩ := open_insn (hval 0 23 v0 rfl rfl) h0
  have t1 := h1
  obtain ⟨a1, rfl, rfl, rfl, w1⟩ := open_int Tryd.underlying5 (hval 1 5 v1 rfl rfl) h1
  clear hA0 hval0
  simp only [List.append_nil] at hW'
  refine (decFixed_walk op0 rd0 rs10 rs20 imm0 s0_0 s0_1 s0_2 s0_3 s0_4 a1 w1 W (tab_of_laid hL)).mono fun e W' ⟨he, hg⟩ => ?_
  subst he
  exact ⟨_, rfl, _, _, _, [], _, [], hW', trodAll_cons_mk (shut_bool Tryd.underlying4 _) trodAll_mk0, (trodAll_cons_mk (Below.trod laidOut (by kernel_rfl) (of_decide_eq_true (by kernel_rfl)) t0 hg (fun x hx => by cases hx)) (trodAll_cons_mk (Below.trod laidOut (by kernel_rfl) (of_decide_eq_true (by kernel_rfl)) t1 hg (fun x hx => by cases hx)) trodAll_mk0)), rfl, Below.frame hg _, fun h => by cases h⟩

theorem decFixed_said : Rows.DecFixedSaid :=
  OpenClaim.holds_of_cond 6 Tryd.f6 rfl rfl rfl rfl rfl rfl rfl ⟨rfl, rfl, rfl, rfl, rfl⟩ rfl rfl rfl rfl rfl (by kernel_rfl) Tryd.func6 (by kernel_rfl)
    (of_decide_eq_true (by kernel_rfl)) (by unfold Func.isWrapper; first | (rw [if_pos (by decide +kernel)]; kernel_rfl) | (rw [if_neg (by decide +kernel)]; exact ⟨rfl, rfl⟩))
    (fun os started H enc _ F => by rw [OpenClaim.pre_eq_preRow]; exact decFixed_lifted os started H enc F)

theorem decFixed_plain (f : FuncId) (fn : Func) (hf : Tryd.pinned.checked.prog.funcNamed "quoin/quoinlaw04.DecFixed" = some f) (hfn : Tryd.pinned.checked.prog.funcs[f]? = some fn) :
    false = Tryd.pinned.checked.prog.looks [] ∧ ∀ (j : Nat) t, fn.params[j]? = some t → Tryd.pinned.checked.prog.wantsStandIn t = false := by
  obtain rfl : f = 6 := Option.some.inj ((show Tryd.prog.funcNamed "quoin/quoinlaw04.DecFixed" = some 6 by kernel_rfl).symm.trans hf) |>.symm
  obtain rfl : fn = Tryd.f6 := (Option.some.inj (Tryd.func6.symm.trans hfn)).symm
  refine ⟨by kernel_rfl, fun j t ht => ?_⟩
  rw [Tryd.params6] at ht
  have hm : t ∈ [23, 5] := by simpa using Array.mem_of_getElem? ht
  have hall : ([23, 5].all fun u => !Tryd.prog.wantsStandIn u) = true := by kernel_rfl
  exact (show Tryd.prog.wantsStandIn t = false by simpa using List.all_eq_true.1 hall t hm)

/-- THE CARD. -/
theorem decFixed_holds : Rows.DecFixedCardSaid :=
  Claim7.holds_tied_plain_at .later [] _ _ _ _ decFixed_said (fun _ h => by cases h) (by kernel_rfl) (fun _ h => by cases h) decFixed_row_tie rfl ⟨rfl, rfl⟩ (by kernel_rfl) rfl decFixed_plain (by kernel_rfl)
#print axioms decFixed_holds
end Go.Proofs.YtpaeemijpincpaaDoor
