/- What every law's row shares: a world that holds the names, an instruction opened into its five numbers, the law's first examples. -/
import Derived.Test.YtechglcjeejmkaaDoorChk
import Derived.Test.YtechglcjeejmkaaDoorCards
import Derived.Test.YtechglcjeejmkaaDoorTie
import Derived.OpenShut
import Derived.ShutString
import Derived.Carry
import Derived.LaidMore
import Derived.Deep.DeepHandedRow
namespace Go.Proofs.YtechglcjeejmkaaDoor
open Go.ChangeShapes Go.WideShapes Go.ChangeAt Go.RowKit
open Go.ChangeMaps (open_string shut_string)

theorem own : ownKnob Tryd.prog.godebug = none := by kernel_rfl
theorem laidOut : laidOutB Tryd.prog = true := by kernel_rfl

/-- The row's list, met in the world that the program's own start-up leaves. -/
theorem door_met (os : Os) (args : Array Value) : laidMet Tryd.prog [("quoin/insn.names", Rows.laid_quoin_insn_names)] ((World.doorLaid Tryd.prog 400 os).forCall (fun _ _ => 0) ⟨#[], args, []⟩).memory :=
  laidMet_of_run' 8 (by kernel_rfl) (by kernel_rfl)

/-- AN INSTRUCTION, OPENED. -/
theorem open_insn {H : Type} {enc : TypeId × Value → H} {w : World} {base : Nat} {sp : Nat → Bool} {held : Bool} {r : Reach} {b0 : Nat} {v : Value} {d : DataW H} {ps : List MemPlace}
    (hval : Value.okWide Tryd.prog w r b0 28 v) (hd : DataW.Trod enc Tryd.prog w base sp held 28 v d ps) :
    ∃ op rd rs1 rs2 imm : Int, v = insnV op rd rs1 rs2 imm ∧ ps = [] ∧ (Lit.int .u8 op).wf = true ∧ (Lit.int .i64 rd).wf = true ∧ (Lit.int .i64 rs1).wf = true ∧ (Lit.int .i64 rs2).wf = true ∧ (Lit.int .i64 imm).wf = true := by
  have hc28 : Tryd.prog.cellsOf 28 = 5 := by kernel_rfl
  have hc5 : Tryd.prog.cellsOf 5 = 1 := by kernel_rfl
  have hc3 : Tryd.prog.cellsOf 3 = 1 := by kernel_rfl
  simp only [Value.okWide, Tryd.underlying28] at hval
  obtain ⟨cs, rfl, hsz, _⟩ := hval
  obtain ⟨fuel, hf⟩ := hd
  obtain ⟨ys, m, _, hx, _, hl, hfl⟩ := DataW.trod_struct Tryd.underlying28 hf
  match ys, hl with
  | [y0, y1, y2, y3, y4], _ =>
    have h0 := hfl 0 _ rfl
    have h1 := hfl 1 _ rfl
    have h2 := hfl 2 _ rfl
    have h3 := hfl 3 _ rfl
    have h4 := hfl 4 _ rfl
    obtain ⟨l⟩ := cs
    rw [hc28] at hsz
    match l, hsz with
    | [c0, c1, c2, c3, c4], _ =>
      simp [hc5, hc3, Value.cells] at h0 h1 h2 h3 h4
      obtain ⟨op, e0, rfl, s0⟩ := DataW.trod_int Tryd.underlying5 h0
      obtain ⟨rd, e1, rfl, s1⟩ := DataW.trod_int Tryd.underlying3 h1
      obtain ⟨rs1, e2, rfl, s2⟩ := DataW.trod_int Tryd.underlying3 h2
      obtain ⟨rs2, e3, rfl, s3⟩ := DataW.trod_int Tryd.underlying3 h3
      obtain ⟨imm, e4, rfl, s4⟩ := DataW.trod_int Tryd.underlying3 h4
      simp at e0 e1 e2 e3 e4
      subst e0 e1 e2 e3 e4
      refine ⟨op, rd, rs1, rs2, imm, rfl, ?_, s0, s1, s2, s3, s4⟩
      simp only [Prod.mk.injEq] at hx
      simpa using hx.2

theorem name_1 (w : World) (hT : Tab w) : Calls Tryd.prog 8 #[.int .u8 1] w fun e w' => e = .returned (.tuple #[.string ⟨#[108, 117, 105]⟩, .int .i64 0]) ∧ w' = w := by
  have e1 : nameV 1 = ⟨#[108, 117, 105]⟩ := by kernel_rfl
  have e2 : opErr 1 = 0 := by kernel_rfl
  have := name_walk 1 (by omega) w hT
  rwa [e1, e2] at this
theorem name_94 (w : World) (hT : Tab w) : Calls Tryd.prog 8 #[.int .u8 94] w fun e w' => e = .returned (.tuple #[.string ⟨#[97, 109, 111, 109, 97, 120, 117, 46, 100]⟩, .int .i64 0]) ∧ w' = w := by
  have e1 : nameV 94 = ⟨#[97, 109, 111, 109, 97, 120, 117, 46, 100]⟩ := by kernel_rfl
  have e2 : opErr 94 = 0 := by kernel_rfl
  have := name_walk 94 (by omega) w hT
  rwa [e1, e2] at this
theorem of_addi (w : World) (hT : Tab w) : Calls Tryd.prog 9 #[.string ⟨#[97, 100, 100, 105]⟩] w fun e w' => e = .returned (.tuple #[.int .u8 22, .int .i64 0]) ∧ w' = w := by
  have e1 : ofV ⟨#[97, 100, 100, 105]⟩ = 22 := by kernel_rfl
  have e2 : ofErr ⟨#[97, 100, 100, 105]⟩ = 0 := by kernel_rfl
  have := of_walk ⟨#[97, 100, 100, 105]⟩ w hT
  rwa [e1, e2] at this

theorem alive_walk (w : World) (hT : Tab w) : Calls Tryd.prog 10 #[] w fun e w' => e = .returned (.bool true) ∧ w' = w := by
  go_enter Tryd.func10, Tryd.ntmps10
  go_wp2_with (first
    | (go_at_call_of 8 (Value.int .u8 (1 : Int)); refine (name_1 _ hT).mono ?_; rintro e w' ⟨rfl, rfl⟩)
    | (go_at_call 8; refine (name_94 _ hT).mono ?_; rintro e w' ⟨rfl, rfl⟩)
    | (go_at_call 9; refine (of_addi _ hT).mono ?_; rintro e w' ⟨rfl, rfl⟩))
  go_ret
  exact ⟨rfl, rfl⟩

/-- NO TWO HAVE ONE NAME. -/
theorem ofIx_nm : ∀ k, k < 94 → ofIx (nm k) = k := by decide +kernel
theorem ofV_name {op : Int} (h : isOp op = true) : ofV (nameV op) = op ∧ ofErr (nameV op) = 0 := by
  have hb := isOp_true h
  have e : nameV op = nm (op.toNat - 1) := by unfold nameV; rw [if_pos h]
  have e2 := ofIx_nm (op.toNat - 1) (by omega)
  unfold ofV ofErr
  rw [e, e2, if_pos (by omega), if_pos (by omega)]
  exact ⟨by omega, rfl⟩
theorem name_inj {a b : Int} (ha : isOp a = true) (hb : isOp b = true) (h : nameV a = nameV b) : a = b := by
  have h1 := (ofV_name ha).1
  rw [h, (ofV_name hb).1] at h1
  exact h1.symm
theorem opErr_yes {op : Int} (h : isOp op = true) : opErr op = 0 := by unfold opErr; rw [if_pos h]
theorem opErr_no {op : Int} (h : isOp op = false) : opErr op = 2 := by unfold opErr; rw [if_neg (by simp [h])]
theorem nameV_no {op : Int} (h : isOp op = false) : nameV op = ⟨#[]⟩ := by unfold nameV; rw [if_neg (by simp [h])]

end Go.Proofs.YtechglcjeejmkaaDoor
