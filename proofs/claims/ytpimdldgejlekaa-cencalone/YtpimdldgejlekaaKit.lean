/- What every law's row shares: an instruction opened into its five numbers, the law's first examples. -/
import Derived.Test.YtpimdldgejlekaaPw
import Derived.OpenShut
import Derived.ShutString
import Derived.Carry
import Derived.LaidMore
import Derived.Deep.DeepHandedRow
namespace Go.Proofs.Ytpimdldgejlekaa
open Go.ChangeShapes Go.WideShapes Go.ChangeAt Go.RowKit
open Go.ChangeMaps (open_string shut_string)

theorem own : ownKnob Try.prog.godebug = none := by kernel_rfl
theorem laidOut : laidOutB Try.prog = true := by kernel_rfl

/-- AN INSTRUCTION, OPENED. -/
theorem open_insn {H : Type} {enc : TypeId × Value → H} {w : World} {base : Nat} {sp : Nat → Bool} {held : Bool} {r : Reach} {b0 : Nat} {v : Value} {d : DataW H} {ps : List MemPlace}
    (hval : Value.okWide Try.prog w r b0 27 v) (hd : DataW.Trod enc Try.prog w base sp held 27 v d ps) :
    ∃ op rd rs1 rs2 imm : Int, v = insnV op rd rs1 rs2 imm ∧ ps = [] ∧ (Lit.int .u8 op).wf = true ∧ (Lit.int .i64 rd).wf = true ∧ (Lit.int .i64 rs1).wf = true ∧ (Lit.int .i64 rs2).wf = true ∧ (Lit.int .i64 imm).wf = true := by
  have hc28 : Try.prog.cellsOf 27 = 5 := by kernel_rfl
  have hc5 : Try.prog.cellsOf 5 = 1 := by kernel_rfl
  have hc3 : Try.prog.cellsOf 3 = 1 := by kernel_rfl
  simp only [Value.okWide, Try.underlying27] at hval
  obtain ⟨cs, rfl, hsz, _⟩ := hval
  obtain ⟨fuel, hf⟩ := hd
  obtain ⟨ys, m, _, hx, _, hl, hfl⟩ := DataW.trod_struct Try.underlying27 hf
  match ys, hl with
  | [y0, y1, y2, y3, y4], _ =>
    have h0 := hfl 0 _ rfl
    have h1 := hfl 1 _ rfl
    have h2 := hfl 2 _ rfl
    have h3 := hfl 3 _ rfl
    have h4 := hfl 4 _ rfl
    obtain ⟨l⟩ := cs
    rw [hc28] at hsz
    match l, hsz with
    | [c0, c1, c2, c3, c4], _ =>
      simp [hc5, hc3, Value.cells] at h0 h1 h2 h3 h4
      obtain ⟨op, e0, rfl, s0⟩ := DataW.trod_int Try.underlying5 h0
      obtain ⟨rd, e1, rfl, s1⟩ := DataW.trod_int Try.underlying3 h1
      obtain ⟨rs1, e2, rfl, s2⟩ := DataW.trod_int Try.underlying3 h2
      obtain ⟨rs2, e3, rfl, s3⟩ := DataW.trod_int Try.underlying3 h3
      obtain ⟨imm, e4, rfl, s4⟩ := DataW.trod_int Try.underlying3 h4
      simp at e0 e1 e2 e3 e4
      subst e0 e1 e2 e3 e4
      refine ⟨op, rd, rs1, rs2, imm, rfl, ?_, s0, s1, s2, s3, s4⟩
      simp only [Prod.mk.injEq] at hx
      simpa using hx.2

theorem wf_u8 {n : Int} (h : (Lit.int .u8 n).wf = true) : 0 ≤ n ∧ n ≤ 255 := by
  have h1 : IntKind.u8.min ≤ n ∧ n ≤ IntKind.u8.max := by simpa [Lit.wf] using h
  have h2 : IntKind.u8.min = 0 := by decide
  have h3 : IntKind.u8.max = 255 := by decide
  omega

/-- Is an instruction's short form this? -/
def isH (op d s t imm x : Int) : Bool := (hfE op d s t imm == 0) && (hfV op d s t imm == x)
theorem isC_walk (op d s t imm x : Int) (h0 : 0 ≤ op) (h1 : op ≤ 255) (w : World) :
    Calls Try.prog 9 #[insnV op d s t imm, .int .u16 x] w fun e w' => e = .returned (.bool (isH op d s t imm x)) ∧ Kept w w' := by
  have hH := fun w => halfC_walk op d s t imm h0 h1 w
  unfold isH
  generalize hfV op d s t imm = v at hH ⊢
  generalize hfE op d s t imm = r at hH ⊢
  cases hr : (r == 0)
  all_goals
    go_enter Try.func9, Try.ntmps9
    go_wp2_with (go_at_call 6; refine (hH _).mono ?_; rintro e w2 ⟨rfl, hk2⟩)
    go_ret
    exact ⟨rfl, (Kept.alloc _ _).trans hk2⟩

theorem is_a : isH 22 1 1 0 5 149 = true := by kernel_rfl
theorem is_b : isH 22 2 2 0 16 321 = true := by kernel_rfl
theorem is_c : isH 22 2 2 0 64 24865 = true := by kernel_rfl
theorem is_d : isH 31 10 0 11 0 34094 = true := by kernel_rfl
theorem is_e : isH 4 0 1 0 0 32898 = true := by kernel_rfl
theorem is_f : isH 13 8 9 0 4 16576 = true := by kernel_rfl

theorem aliveC_walk (w : World) : Calls Try.prog 8 #[] w fun e w' => e = .returned (.bool true) ∧ Kept w w' := by
  have k1 := is_a
  have k2 := is_b
  have k3 := is_c
  have hK := Kept.refl w
  go_enter Try.func8, Try.ntmps8
  go_wp2_with (first
    | (go_at_call 9; refine (isC_walk _ _ _ _ _ _ (by omega) (by omega) _).mono ?_; rintro e w' ⟨rfl, hk⟩; have hK := Kept.trans hK hk; clear hk))
  go_ret
  exact ⟨rfl, hK⟩
end Go.Proofs.Ytpimdldgejlekaa
