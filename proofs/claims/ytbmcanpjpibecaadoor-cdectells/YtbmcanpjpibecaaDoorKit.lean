/- What every law's row shares: a world that holds the table, an instruction opened into its five numbers, the law's first examples. -/
import Derived.Test.YtbmcanpjpibecaaDoorIn
import Derived.Test.YtbmcanpjpibecaaDoorBo
import Derived.Test.YtbmcanpjpibecaaDoorCards
import Derived.Test.YtbmcanpjpibecaaDoorTie
import Derived.OpenShut
import Derived.ShutString
import Derived.Carry
import Derived.LaidMore
import Derived.Deep.DeepHandedRow
namespace Go.Proofs.YtbmcanpjpibecaaDoor
open Go.ChangeShapes Go.WideShapes Go.ChangeAt Go.RowKit
open Go.ChangeMaps (open_string shut_string)

theorem own : ownKnob Tryd.prog.godebug = none := by kernel_rfl
theorem laidOut : laidOutB Tryd.prog = true := by kernel_rfl

/-- The row's list, met in the world that the program's own start-up leaves. -/
theorem door_met (os : Os) (args : Array Value) : laidMet Tryd.prog [("quoin/cdec.pairs", Rows.laid_quoin_cdec_pairs)] ((World.doorLaid Tryd.prog 400 os).forCall (fun _ _ => 0) ⟨#[], args, []⟩).memory :=
  laidMet_of_run' 8 (by kernel_rfl) (by kernel_rfl)

set_option maxRecDepth 20000 in
/-- AN INSTRUCTION, OPENED. -/
theorem open_insn {H : Type} {enc : TypeId × Value → H} {w : World} {base : Nat} {sp : Nat → Bool} {held : Bool} {r : Reach} {b0 : Nat} {v : Value} {d : DataW H} {ps : List MemPlace}
    (hval : Value.okWide Tryd.prog w r b0 27 v) (hd : DataW.Trod enc Tryd.prog w base sp held 27 v d ps) :
    ∃ op rd rs1 rs2 imm : Int, v = insnV op rd rs1 rs2 imm ∧ ps = [] ∧ (Lit.int .u8 op).wf = true ∧ (Lit.int .i64 rd).wf = true ∧ (Lit.int .i64 rs1).wf = true ∧ (Lit.int .i64 rs2).wf = true ∧ (Lit.int .i64 imm).wf = true := by
  have hc28 : Tryd.prog.cellsOf 27 = 5 := by kernel_rfl
  have hc5 : Tryd.prog.cellsOf 5 = 1 := by kernel_rfl
  have hc3 : Tryd.prog.cellsOf 3 = 1 := by kernel_rfl
  simp only [Value.okWide, Tryd.underlying27] at hval
  obtain ⟨cs, rfl, hsz, _⟩ := hval
  obtain ⟨fuel, hf⟩ := hd
  obtain ⟨ys, m, _, hx, _, hl, hfl⟩ := DataW.trod_struct Tryd.underlying27 hf
  match ys, hl with
  | [y0, y1, y2, y3, y4], _ =>
    have h0 := hfl 0 _ rfl
    have h1 := hfl 1 _ rfl
    have h2 := hfl 2 _ rfl
    have h3 := hfl 3 _ rfl
    have h4 := hfl 4 _ rfl
    obtain ⟨l⟩ := cs
    rw [hc28] at hsz
    match l, hsz with
    | [c0, c1, c2, c3, c4], _ =>
      simp [hc5, hc3, Value.cells] at h0 h1 h2 h3 h4
      obtain ⟨op, e0, rfl, s0⟩ := DataW.trod_int Tryd.underlying5 h0
      obtain ⟨rd, e1, rfl, s1⟩ := DataW.trod_int Tryd.underlying3 h1
      obtain ⟨rs1, e2, rfl, s2⟩ := DataW.trod_int Tryd.underlying3 h2
      obtain ⟨rs2, e3, rfl, s3⟩ := DataW.trod_int Tryd.underlying3 h3
      obtain ⟨imm, e4, rfl, s4⟩ := DataW.trod_int Tryd.underlying3 h4
      simp at e0 e1 e2 e3 e4
      subst e0 e1 e2 e3 e4
      refine ⟨op, rd, rs1, rs2, imm, rfl, ?_, s0, s1, s2, s3, s4⟩
      simp only [Prod.mk.injEq] at hx
      simpa using hx.2


theorem wf_u8 {n : Int} (h : (Lit.int .u8 n).wf = true) : 0 ≤ n ∧ n ≤ 255 := by
  have h1 : IntKind.u8.min ≤ n ∧ n ≤ IntKind.u8.max := by simpa [Lit.wf] using h
  have h2 : IntKind.u8.min = 0 := by decide
  have h3 : IntKind.u8.max = 255 := by decide
  omega
theorem wf_u16 {n : Int} (h : (Lit.int .u16 n).wf = true) : 0 ≤ n ∧ n ≤ 65535 := by
  have h1 : IntKind.u16.min ≤ n ∧ n ≤ IntKind.u16.max := by simpa [Lit.wf] using h
  have h2 : IntKind.u16.min = 0 := by decide
  have h3 : IntKind.u16.max = 65535 := by decide
  omega

theorem csize_walk (H : Nat) (hH : H ≤ 65535) (w : World) : Calls Tryd.prog 12 #[.int .u16 (H : Int)] w fun e w' => e = .returned (.int .i64 (if H % 4 = 3 then 4 else 2)) ∧ w' = w := by
  have hX : bits .and .u16 (H : Int) 3 = ((H &&& 3 : Nat) : Int) := u16_and_nat H 3 (by omega) (by decide)
  rw [show H &&& 3 = H % 4 from Nat.and_two_pow_sub_one_eq_mod H 2] at hX
  by_cases h : H % 4 = 3
  · rw [if_pos h]
    rw [h] at hX
    go_enter Tryd.func12, Tryd.ntmps12
    go_wp2
    go_ret
    exact ⟨rfl, rfl⟩
  · rw [if_neg h]
    have hn : (((H % 4 : Nat) : Int) == 3) = false := beq_eq_false_iff_ne.2 fun e => h (by omega)
    generalize ((H % 4 : Nat) : Int) = x at hX hn
    go_enter Tryd.func12, Tryd.ntmps12
    go_wp2
    go_ret
    exact ⟨rfl, rfl⟩
/-- Of an instruction's first example: is this a half word's instruction? -/
theorem is_yes (x op d s t imm : Int) (w : World) (hR : ∀ w', Kept w w' → Calls Tryd.prog 13 #[.int .u16 x] w' fun e w'' => e = .returned (.tuple #[insnV op d s t imm, .int .i64 0]) ∧ Kept w' w'') :
    Calls Tryd.prog 10 #[.int .u16 x, insnV op d s t imm] w fun e w' => e = .returned (.bool true) ∧ Kept w w' := by
  have hB := Box.make w op d s t imm
  have hK := Kept.alloc w (.cells #[.int .u8 op, .int .i64 d, .int .i64 s, .int .i64 t, .int .i64 imm] 27)
  go_enter Tryd.func10, Tryd.ntmps10
  go_upto_region 1 with fail
  generalize w.alloc (.cells #[.int .u8 op, .int .i64 d, .int .i64 s, .int .i64 t, .int .i64 imm] 27) = W0 at hB hK ⊢
  go_upto_region 2 with (go_at_call 13; refine (hR _ hK).mono ?_; rintro e w1 ⟨rfl, hk1⟩)
  have hB1 := (hB.kept hk1).kept (Kept.alloc w1 (.cells #[.int .u8 op, .int .i64 d, .int .i64 s, .int .i64 t, .int .i64 imm] 27))
  have hC1 := Box.make w1 op d s t imm
  have hK1 := (hK.trans hk1).trans (Kept.alloc w1 (.cells #[.int .u8 op, .int .i64 d, .int .i64 s, .int .i64 t, .int .i64 imm] 27))
  generalize w1.alloc (.cells #[.int .u8 op, .int .i64 d, .int .i64 s, .int .i64 t, .int .i64 imm] 27) = W1 at hB1 hC1 hK1 ⊢
  obtain ⟨d0, d1, d2, d3, d4, _, _, _, _, _⟩ := hB1
  obtain ⟨e0, e1, e2, e3, e4, _, _, _, _, _⟩ := hC1
  clear hB hK hk1 hR
  go_wp2
  go_ret
  exact ⟨rfl, hK1⟩
theorem is_ex (H : Nat) (hH : H ≤ 65535) (op d s t imm : Int) (he : (hOp H, hRd H, hRs1 H, hRs2 H, hImm H, hErr H) = (op, d, s, t, imm, 0)) (w : World) (hT : Tab w) :
    Calls Tryd.prog 10 #[.int .u16 (H : Int), insnV op d s t imm] w fun e w' => e = .returned (.bool true) ∧ Kept w w' := by
  refine is_yes _ _ _ _ _ _ w fun w' k => ?_
  have h := insn_walk6 H hH w' (hT.kept k)
  simp only [Prod.mk.injEq] at he
  obtain ⟨h1, h2, h3, h4, h5, h6⟩ := he
  rwa [h1, h2, h3, h4, h5, h6] at h
theorem bad_yes (x : Int) (w : World) (hR : Calls Tryd.prog 13 #[.int .u16 x] w fun e w'' => e = .returned (.tuple #[insnV 0 0 0 0 0, .int .i64 60]) ∧ Kept w w'') :
    Calls Tryd.prog 11 #[.int .u16 x] w fun e w' => e = .returned (.bool true) ∧ Kept w w' := by
  go_enter Tryd.func11, Tryd.ntmps11
  go_wp2_with (go_at_call 13; refine hR.mono ?_; rintro e w1 ⟨rfl, hk1⟩)
  go_ret
  exact ⟨rfl, hk1.trans (Kept.alloc _ _)⟩
theorem bad_ex (H : Nat) (hH : H ≤ 65535) (he : ¬ hIx H < 33) (w : World) (hT : Tab w) :
    Calls Tryd.prog 11 #[.int .u16 (H : Int)] w fun e w' => e = .returned (.bool true) ∧ Kept w w' := by
  refine bad_yes _ w ?_
  have h := insn_walk6 H hH w hT
  have h6 : hErr H = 60 := if_neg he
  have e5 : insnV (hOp H) (hRd H) (hRs1 H) (hRs2 H) (hImm H) = insnV 0 0 0 0 0 := by simp only [hOp, hRd, hRs1, hRs2, hImm, if_neg he]
  rwa [h6, e5] at h
theorem ex_a : (hOp 149, hRd 149, hRs1 149, hRs2 149, hImm 149, hErr 149) = (22, 1, 1, 0, 5, 0) := by decide +kernel
theorem ex_b : (hOp 34094, hRd 34094, hRs1 34094, hRs2 34094, hImm 34094, hErr 34094) = (31, 10, 0, 11, 0, 0) := by decide +kernel
theorem ex_c : (hOp 32898, hRd 32898, hRs1 32898, hRs2 32898, hImm 32898, hErr 32898) = (4, 0, 1, 0, 0, 0) := by decide +kernel
theorem ex_d : (hOp 16576, hRd 16576, hRs1 16576, hRs2 16576, hImm 16576, hErr 16576) = (13, 8, 9, 0, 4, 0) := by decide +kernel
theorem alive_walk (w : World) (hT : Tab w) : Calls Tryd.prog 9 #[] w fun e w' => e = .returned (.bool true) ∧ Kept w w' := by
  have k1 := fun w' (k : Kept w w') => is_ex 149 (by decide) _ _ _ _ _ ex_a w' (hT.kept k)
  have k2 := fun w' (k : Kept w w') => is_ex 34094 (by decide) _ _ _ _ _ ex_b w' (hT.kept k)
  have k3 := fun w' (k : Kept w w') => is_ex 32898 (by decide) _ _ _ _ _ ex_c w' (hT.kept k)
  have k4 := fun w' (k : Kept w w') => is_ex 16576 (by decide) _ _ _ _ _ ex_d w' (hT.kept k)
  have hK := Kept.refl w
  go_enter Tryd.func9, Tryd.ntmps9
  go_wp2_with (first
    | (go_at_call_of 10 (Value.int .u16 149); refine (k1 _ hK).mono ?_; rintro e w' ⟨rfl, hk⟩; have hK' := hK.trans hk; clear hK hk; have hK := hK'; clear hK')
    | (go_at_call_of 10 (Value.int .u16 34094); refine (k2 _ hK).mono ?_; rintro e w' ⟨rfl, hk⟩; have hK' := hK.trans hk; clear hK hk; have hK := hK'; clear hK')
    | (go_at_call_of 10 (Value.int .u16 32898); refine (k3 _ hK).mono ?_; rintro e w' ⟨rfl, hk⟩; have hK' := hK.trans hk; clear hK hk; have hK := hK'; clear hK')
    | (go_at_call_of 10 (Value.int .u16 16576); refine (k4 _ hK).mono ?_; rintro e w' ⟨rfl, hk⟩; have hK' := hK.trans hk; clear hK hk; have hK := hK'; clear hK'))
  go_ret
  exact ⟨rfl, hK⟩
end Go.Proofs.YtbmcanpjpibecaaDoor
