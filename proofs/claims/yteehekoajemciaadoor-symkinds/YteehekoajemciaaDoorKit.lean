/- What all the laws of sym lean on: a symbol opened, the row's list met, the law's first example. -/
import Derived.Test.YteehekoajemciaaDoorRy
import Derived.Test.YteehekoajemciaaDoorCards
import Derived.Test.YteehekoajemciaaDoorTie
import Derived.OpenShut
import Derived.ShutString
import Derived.ChangeSlices
import Derived.Carry
import Derived.LaidMore
import Derived.Deep.DeepHandedRow
namespace Go.Proofs.YteehekoajemciaaDoor
open Go.ChangeShapes Go.WideShapes Go.ChangeAt Go.RowKit
open Go.ChangeMaps (open_string shut_string)

theorem own : ownKnob Tryd.prog.godebug = none := by kernel_rfl
theorem laidOut : laidOutB Tryd.prog = true := by kernel_rfl

/-- The row's list, met in the world that the program's own start-up leaves. -/
theorem door_met (os : Os) (args : Array Value) : laidMet Tryd.prog [("quoin/sym.sizes", Rows.laid_quoin_sym_sizes)] ((World.doorLaid Tryd.prog 400 os).forCall (fun _ _ => 0) ⟨#[], args, []⟩).memory :=
  laidMet_of_run' 8 (by kernel_rfl) (by kernel_rfl)

/-- WHAT IS KNOWN OF A SYMBOL THAT CAME IN. -/
structure SymOk (s : ByteArray) (bind wh val sz : Int) : Prop where
  size : s.size ≤ maxLen
  b0 : 0 ≤ bind
  b1 : bind < 256
  wl : -9223372036854775808 ≤ wh
  wu : wh ≤ 9223372036854775807
  vl : -9223372036854775808 ≤ val
  vu : val ≤ 9223372036854775807
  zl : -9223372036854775808 ≤ sz
  zu : sz ≤ 9223372036854775807

set_option maxRecDepth 20000 in
/-- A SYMBOL, OPENED. -/
theorem open_sym {H : Type} {enc : TypeId × Value → H} {w : World} {base : Nat} {sp : Nat → Bool} {held : Bool} {r : Reach} {b0 : Nat} {v : Value} {d : DataW H} {ps : List MemPlace}
    (hval : Value.okWide Tryd.prog w r b0 23 v) (hd : DataW.Trod enc Tryd.prog w base sp held 23 v d ps) :
    ∃ (s : ByteArray) (bind : Int) (hid : Bool) (wh val sz : Int), v = symW s bind hid wh val sz ∧ ps = [] ∧ SymOk s bind wh val sz := by
  have hcS : Tryd.prog.cellsOf 23 = 6 := by kernel_rfl
  have hc9 : Tryd.prog.cellsOf 9 = 1 := by kernel_rfl
  have hc5 : Tryd.prog.cellsOf 5 = 1 := by kernel_rfl
  have hc4 : Tryd.prog.cellsOf 4 = 1 := by kernel_rfl
  have hc3 : Tryd.prog.cellsOf 3 = 1 := by kernel_rfl
  simp only [Value.okWide, Tryd.underlying23] at hval
  obtain ⟨cs, rfl, hsz, _⟩ := hval
  obtain ⟨fuel, hf⟩ := hd
  obtain ⟨ys, m, _, hx, _, hl, hfl⟩ := DataW.trod_struct Tryd.underlying23 hf
  match ys, hl with
  | [y0, y1, y2, y3, y4, y5], _ =>
    have h0 := hfl 0 _ rfl
    have h1 := hfl 1 _ rfl
    have h2 := hfl 2 _ rfl
    have h3 := hfl 3 _ rfl
    have h4 := hfl 4 _ rfl
    have h5 := hfl 5 _ rfl
    obtain ⟨l⟩ := cs
    rw [hcS] at hsz
    match l, hsz with
    | [c0, c1, c2, c3, c4, c5], _ =>
      simp [hc9, hc5, hc4, hc3, Value.cells] at h0 h1 h2 h3 h4 h5
      obtain ⟨s, e0, rfl, s0⟩ := DataW.trod_string Tryd.underlying9 h0
      obtain ⟨bind, e1, rfl, s1⟩ := DataW.trod_int Tryd.underlying5 h1
      obtain ⟨hid, e2, rfl⟩ := DataW.trod_bool Tryd.underlying4 h2
      obtain ⟨wh, e3, rfl, s3⟩ := DataW.trod_int Tryd.underlying3 h3
      obtain ⟨val, e4, rfl, s4⟩ := DataW.trod_int Tryd.underlying3 h4
      obtain ⟨sz, e5, rfl, s5⟩ := DataW.trod_int Tryd.underlying3 h5
      simp at e0 e1 e2 e3 e4 e5
      subst e0 e1 e2 e3 e4 e5
      refine ⟨s, bind, hid, wh, val, sz, rfl, ?_, ⟨s0, (wf_u8 s1).1, (wf_u8 s1).2, (wf_int s3).1, (wf_int s3).2, (wf_int s4).1, (wf_int s4).2, (wf_int s5).1, (wf_int s5).2⟩⟩
      simp only [Prod.mk.injEq] at hx
      simpa using hx.2

/-! ### The law's first example -/
theorem al_all : wyE (nm ⟨#[102]⟩) 2 true (-1) (-1) 0 7 = 0 ∧ wyL (nm ⟨#[102]⟩) 2 true (-1) (-1) 0 7 = [7, 0, 0, 0, 32, 2, 241, 255, 255, 255, 255, 255, 255, 255, 255, 255, 0, 0, 0, 0, 0, 0, 0, 0] := by decide +kernel
theorem al_str : strOfNums [7, 0, 0, 0, 32, 2, 241, 255, 255, 255, 255, 255, 255, 255, 255, 255, 0, 0, 0, 0, 0, 0, 0, 0] = ⟨#[7, 0, 0, 0, 32, 2, 241, 255, 255, 255, 255, 255, 255, 255, 255, 255, 0, 0, 0, 0, 0, 0, 0, 0]⟩ := by kernel_rfl
set_option maxRecDepth 20000 in
set_option maxHeartbeats 1600000 in
theorem alive_walk (w : World) (hT : Tab w) : Calls Tryd.prog 12 #[] w fun e w' => e = .returned (.bool true) ∧ Kept w w' := by
  have hW := ywrite_walk ⟨#[102]⟩ 2 true (-1) (-1) 0 7 w hT (by decide) (by decide)
  rw [al_all.1, al_all.2] at hW
  go_enter Tryd.func12, Tryd.ntmps12
  go_upto_region 2 with (go_at_call 10; refine hW.mono ?_; rintro e w1 ⟨x1, rfl, O1, k1⟩)
  obtain ⟨A1, C1, rfl, _, y1, _⟩ := O1.let (show List.length [7, 0, 0, 0, 32, 2, 241, 255, 255, 255, 255, 255, 255, 255, 255, 255, 0, 0, 0, 0, 0, 0, 0, 0] = 24 from rfl)
  have S1 := str_len (cap := C1) (show List.length [7, 0, 0, 0, 32, 2, 241, 255, 255, 255, 255, 255, 255, 255, 255, 255, 0, 0, 0, 0, 0, 0, 0, 0] = 24 from rfl) y1
  rw [al_str] at S1
  clear O1 y1 hW
  go_wp2
  go_ret
  exact ⟨rfl, k1⟩
end Go.Proofs.YteehekoajemciaaDoor
