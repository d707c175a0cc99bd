/- What every law's row shares: a world that holds the bases, an instruction opened into its five numbers, the law's first examples. -/
import Derived.Test.YtpaeemijpincpaaDoorWord
import Derived.Test.YtpaeemijpincpaaDoorCards
import Derived.Test.YtpaeemijpincpaaDoorTie
import Derived.OpenShut
import Derived.ShutString
import Derived.Carry
import Derived.LaidMore
import Derived.Deep.DeepHandedRow
namespace Go.Proofs.YtpaeemijpincpaaDoor
open Go.ChangeShapes Go.WideShapes Go.ChangeAt Go.RowKit
open Go.ChangeMaps (open_string shut_string)

theorem own : ownKnob Tryd.prog.godebug = none := by kernel_rfl
theorem laidOut : laidOutB Tryd.prog = true := by kernel_rfl

/-- The row's list, met in the world that the program's own start-up leaves. -/
theorem door_met (os : Os) (args : Array Value) : laidMet Tryd.prog [("quoin/enc.bases", Rows.laid_quoin_enc_bases)] ((World.doorLaid Tryd.prog 400 os).forCall (fun _ _ => 0) ⟨#[], args, []⟩).memory :=
  laidMet_of_run' 8 (by kernel_rfl) (by kernel_rfl)

/-- AN INSTRUCTION, OPENED. -/
theorem open_insn {H : Type} {enc : TypeId × Value → H} {w : World} {base : Nat} {sp : Nat → Bool} {held : Bool} {r : Reach} {b0 : Nat} {v : Value} {d : DataW H} {ps : List MemPlace}
    (hval : Value.okWide Tryd.prog w r b0 23 v) (hd : DataW.Trod enc Tryd.prog w base sp held 23 v d ps) :
    ∃ op rd rs1 rs2 imm : Int, v = insnV op rd rs1 rs2 imm ∧ ps = [] ∧ (Lit.int .u8 op).wf = true ∧ (Lit.int .i64 rd).wf = true ∧ (Lit.int .i64 rs1).wf = true ∧ (Lit.int .i64 rs2).wf = true ∧ (Lit.int .i64 imm).wf = true := by
  have hc28 : Tryd.prog.cellsOf 23 = 5 := by kernel_rfl
  have hc5 : Tryd.prog.cellsOf 5 = 1 := by kernel_rfl
  have hc3 : Tryd.prog.cellsOf 3 = 1 := by kernel_rfl
  simp only [Value.okWide, Tryd.underlying23] at hval
  obtain ⟨cs, rfl, hsz, _⟩ := hval
  obtain ⟨fuel, hf⟩ := hd
  obtain ⟨ys, m, _, hx, _, hl, hfl⟩ := DataW.trod_struct Tryd.underlying23 hf
  match ys, hl with
  | [y0, y1, y2, y3, y4], _ =>
    have h0 := hfl 0 _ rfl
    have h1 := hfl 1 _ rfl
    have h2 := hfl 2 _ rfl
    have h3 := hfl 3 _ rfl
    have h4 := hfl 4 _ rfl
    obtain ⟨l⟩ := cs
    rw [hc28] at hsz
    match l, hsz with
    | [c0, c1, c2, c3, c4], _ =>
      simp [hc5, hc3, Value.cells] at h0 h1 h2 h3 h4
      obtain ⟨op, e0, rfl, s0⟩ := DataW.trod_int Tryd.underlying5 h0
      obtain ⟨rd, e1, rfl, s1⟩ := DataW.trod_int Tryd.underlying3 h1
      obtain ⟨rs1, e2, rfl, s2⟩ := DataW.trod_int Tryd.underlying3 h2
      obtain ⟨rs2, e3, rfl, s3⟩ := DataW.trod_int Tryd.underlying3 h3
      obtain ⟨imm, e4, rfl, s4⟩ := DataW.trod_int Tryd.underlying3 h4
      simp at e0 e1 e2 e3 e4
      subst e0 e1 e2 e3 e4
      refine ⟨op, rd, rs1, rs2, imm, rfl, ?_, s0, s1, s2, s3, s4⟩
      simp only [Prod.mk.injEq] at hx
      simpa using hx.2

theorem opErr_yes {op : Int} (h : isOp op = true) : opErr op = 0 := by unfold opErr; rw [if_pos h]
theorem opErr_no {op : Int} (h : isOp op = false) : opErr op = 2 := by unfold opErr; rw [if_neg (by simp [h])]

/-- Is an instruction's word this? -/
def isV (op rd rs1 rs2 imm x : Int) : Bool := mayB op rd rs1 rs2 imm && (wordV op rd rs1 rs2 imm == x)

theorem is_a : isV 22 1 2 0 (-1) 4293984403 = true := by kernel_rfl
theorem is_b : isV 1 5 0 0 74565 305418935 = true := by kernel_rfl
theorem is_c : isV 5 0 1 2 (-4) 4263546595 = true := by kernel_rfl
theorem is_d : isV 3 1 0 0 2048 1048815 = true := by kernel_rfl
theorem is_e : isV 21 0 1 2 8 2143267 = true := by kernel_rfl
theorem is_f : isV 66 0 0 0 0 1048691 = true := by kernel_rfl

end Go.Proofs.YtpaeemijpincpaaDoor
