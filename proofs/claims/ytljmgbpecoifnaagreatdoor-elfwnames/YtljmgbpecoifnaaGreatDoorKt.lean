/- What all the laws of elfw lean on: the row's list met, the law's own functions. -/
import Derived.Test.YtljmgbpecoifnaaGreatDoorJay
import Derived.Test.YtljmgbpecoifnaaGreatDoorJaz
import Derived.Test.YtljmgbpecoifnaaGreatDoorWa
import Derived.Test.YtljmgbpecoifnaaGreatDoorCards
import Derived.Test.YtljmgbpecoifnaaGreatDoorTie
import Derived.OpenShut
import Derived.ShutString
import Derived.ChangeSlices
import Derived.Carry
import Derived.LaidMore
import Derived.Deep.DeepHandedRow
namespace Go.Proofs.YtljmgbpecoifnaaGreatDoor
open Go.ChangeShapes Go.WideShapes Go.ChangeAt Go.RowKit
open Go.ChangeMaps (open_string shut_string)

theorem own : ownKnob Tryz.prog.godebug = none := by kernel_rfl
theorem laidOut : laidOutB Tryz.prog = true := by kernel_rfl
/-- The world holds the three tables. -/
structure Tabs (w : World) : Prop where
  x : TabX w
  y : Tab w
  k : TabK w
theorem Tabs.kept {w w' : World} (h : Tabs w) (k : Kept w w') : Tabs w' := ⟨h.x.kept k, h.y.kept k, h.k.kept k⟩
def sizeTabK : List Int := [0, 6, 2, 3, 3]
theorem vars_tail {P : Program} {W : World} {name : String} {d : DataW Unit} {rest : List (String × DataW Unit)} {ps : List MemPlace} (h : DataW.LaidVars P W ((name, d) :: rest) ps) : ∃ q, DataW.LaidVars P W rest q := by
  obtain ⟨g', t', cs, fuel, p, q, _, _, _, _, h2, _⟩ := h
  exact ⟨q, h2⟩
theorem ints_of_vars {P : Program} {W : World} {name : String} {k : IntKind} {zs : List Int} {rest : List (String × DataW Unit)} {g : Nat} {t e : TypeId} {n : Nat} {ps : List MemPlace}
    (hg : P.globalNamed name = some g) (hty : (P.globals[g]?).map (·.type) = some t) (ht : P.underlying t = some (.array n e)) (he : P.underlying e = some (.int k)) (hce : P.cellsOf e = 1) (hct : P.cellsOf t = n)
    (h : DataW.LaidVars P W ((name, intData k zs) :: rest) ps) (i : Nat) (hi : i < zs.length) : W.cell? ⟨g, i, none⟩ = some (.int k (zs.getD i 0)) := by
  obtain ⟨g', t', cs, fuel, p, q, hg', ht', hvar, hd, _, _⟩ := h
  obtain rfl := Option.some.inj (hg.symm.trans hg')
  obtain rfl := Option.some.inj (hty.symm.trans ht')
  have hcs := cells_of_ints ht he hce hct hd
  have := World.var?_cell hg hvar i
  have h2 : cs[i]? = some (Value.int k (zs.getD i 0)) := by
    rw [← Array.getElem?_toList, hcs]
    simp [List.getD, hi]
  rw [this, h2]
set_option maxRecDepth 20000 in
theorem gKinds : Tryz.prog.globalNamed "quoin/elfw.kindFlags" = some 0 := by kernel_rfl
set_option maxRecDepth 20000 in
theorem gKindsType : (Tryz.prog.globals[0]?).map (·.type) = some 123 := by kernel_rfl
set_option maxRecDepth 20000 in
theorem cellsKinds : Tryz.prog.cellsOf 123 = 5 := by kernel_rfl
set_option maxRecDepth 20000 in
theorem tabs_of_laid {W : World} (h : laidMetH Tryz.prog [("quoin/rela.sizes", Rows.laid_quoin_rela_sizes), ("quoin/sym.sizes", Rows.laid_quoin_sym_sizes), ("quoin/elfw.kindFlags", Rows.laid_quoin_elfw_kindFlags)] W) : Tabs W := by
  have h' : laidMet Tryz.prog [("quoin/rela.sizes", intData .i64 sizeTabX), ("quoin/sym.sizes", intData .i64 sizeTab), ("quoin/elfw.kindFlags", intData .i64 sizeTabK)] W := h
  obtain ⟨ps, h1, _⟩ := h'
  obtain ⟨q1, h2⟩ := vars_tail h1
  obtain ⟨q2, h3⟩ := vars_tail h2
  refine ⟨fun i hi => ?_, fun i hi => ?_, fun i hi => ?_⟩
  · have := ints_of_vars gSizesX gSizesTypeX Tryz.underlying153 Tryz.underlying3 cellsOneInt cellsSizesX h1 i (by simpa [sizeTabX] using hi)
    rw [this]
    match i, hi with
    | 0, _ | 1, _ | 2, _ | 3, _ => rfl
  · have := ints_of_vars gSizes gSizesType Tryz.underlying158 Tryz.underlying3 cellsOneInt cellsSizes h2 i (by simpa [sizeTab] using hi)
    rw [this]
    match i, hi with
    | 0, _ | 1, _ | 2, _ | 3, _ | 4, _ | 5, _ => rfl
  · have := ints_of_vars gKinds gKindsType Tryz.underlying123 Tryz.underlying3 cellsOneInt cellsKinds h3 i (by simpa [sizeTabK] using hi)
    rw [this]
    match i, hi with
    | 0, _ | 1, _ | 2, _ | 3, _ | 4, _ => rfl

set_option maxRecDepth 100000 in
/-- The row's list, met in the world that the program's own start-up leaves. -/
theorem door_met (os : Os) (args : Array Value) : laidMet Tryz.prog [("quoin/rela.sizes", Rows.laid_quoin_rela_sizes), ("quoin/sym.sizes", Rows.laid_quoin_sym_sizes), ("quoin/elfw.kindFlags", Rows.laid_quoin_elfw_kindFlags)] ((World.doorLaid Tryz.prog 400 os).forCall (fun _ _ => 0) ⟨#[], args, []⟩).memory :=
  laidMet_of_run' 8 (by kernel_rfl) (by kernel_rfl)
theorem write_obj (o : ObjV) (w : World) (hO : ObjOk w o) (hT : Tabs w) : Calls Tryz.prog 10 #[objW o] w fun e w' => ∃ v, e = .returned (.tuple #[v, .int .i64 (woE o.m)]) ∧ Own w' w.heap.size v (woL o.m) ∧ Kept w w' := owrite_walk o w hO hT.k hT.x hT.y
end Go.Proofs.YtljmgbpecoifnaaGreatDoor
