/- An instruction that lies in a block. -/
import Derived.Test.YtbmcanpjpibecaaDoorOwn
namespace Go.Proofs.YtbmcanpjpibecaaDoor
open Go.RowKit

/-- An instruction that lies in a block. -/
structure Box (w : World) (b : Nat) (op rd rs1 rs2 imm : Int) : Prop where
  c0 : w.cell? ⟨b, 0, none⟩ = some (.int .u8 op)
  c1 : w.cell? ⟨b, 1, none⟩ = some (.int .i64 rd)
  c2 : w.cell? ⟨b, 2, none⟩ = some (.int .i64 rs1)
  c3 : w.cell? ⟨b, 3, none⟩ = some (.int .i64 rs2)
  c4 : w.cell? ⟨b, 4, none⟩ = some (.int .i64 imm)
  f0 : w.frozen? ⟨b, 0, none⟩ = false
  f1 : w.frozen? ⟨b, 1, none⟩ = false
  f2 : w.frozen? ⟨b, 2, none⟩ = false
  f3 : w.frozen? ⟨b, 3, none⟩ = false
  f4 : w.frozen? ⟨b, 4, none⟩ = false
theorem Box.lt {w : World} {b : Nat} {op rd rs1 rs2 imm : Int} (h : Box w b op rd rs1 rs2 imm) : b < w.heap.size := block_lt_of_cell h.c0
theorem Box.below {w w' : World} {b n : Nat} {op rd rs1 rs2 imm : Int} (h : Box w b op rd rs1 rs2 imm) (k : Below n w w') (hb : b < n) : Box w' b op rd rs1 rs2 imm :=
  ⟨(k.cell hb).trans h.c0, (k.cell hb).trans h.c1, (k.cell hb).trans h.c2, (k.cell hb).trans h.c3, (k.cell hb).trans h.c4, (k.frozen hb).trans h.f0, (k.frozen hb).trans h.f1, (k.frozen hb).trans h.f2, (k.frozen hb).trans h.f3, (k.frozen hb).trans h.f4⟩
theorem Box.kept {w w' : World} {b : Nat} {op rd rs1 rs2 imm : Int} (h : Box w b op rd rs1 rs2 imm) (k : Kept w w') : Box w' b op rd rs1 rs2 imm := h.below k h.lt
theorem Box.drewN {w : World} {b : Nat} {op rd rs1 rs2 imm : Int} (h : Box w b op rd rs1 rs2 imm) (n : Nat) : Box (w.drewN n) b op rd rs1 rs2 imm := h.kept (Kept.drewN _ _)
theorem off_ne {b i j : Nat} (h : i ≠ j) : (⟨b, i, none⟩ : Addr) ≠ ⟨b, j, none⟩ := fun e => h (by injection e)
theorem set_other {w : World} {b i j : Nat} {u v : Value} (hc : w.cell? ⟨b, j, none⟩ = some v) (h : i ≠ j) : (w.setCell ⟨b, i, none⟩ u).cell? ⟨b, j, none⟩ = some v := by
  rw [World.cell?_setCell_other (h := off_ne h)]; exact hc
theorem set_far {w : World} {b b' i j : Nat} {u v : Value} (hc : w.cell? ⟨b', j, none⟩ = some v) (h : b ≠ b') : (w.setCell ⟨b, i, none⟩ u).cell? ⟨b', j, none⟩ = some v := by
  rw [World.cell?_setCell_other (h := fun e => h (by injection e))]; exact hc
theorem set_frozen {w : World} {a a' : Addr} {u : Value} (h : w.frozen? a' = false) : (w.setCell a u).frozen? a' = false := by
  rw [World.frozen?_setCell]; exact h
theorem Box.set0 {w : World} {b : Nat} {op rd rs1 rs2 imm : Int} (h : Box w b op rd rs1 rs2 imm) (r : Int) : Box (w.setCell ⟨b, 0, none⟩ (.int .u8 r)) b r rd rs1 rs2 imm :=
  ⟨World.cell?_setCell_same _ _ _ h.c0, set_other h.c1 (by decide), set_other h.c2 (by decide), set_other h.c3 (by decide), set_other h.c4 (by decide), set_frozen h.f0, set_frozen h.f1, set_frozen h.f2, set_frozen h.f3, set_frozen h.f4⟩
theorem Box.set1 {w : World} {b : Nat} {op rd rs1 rs2 imm : Int} (h : Box w b op rd rs1 rs2 imm) (r : Int) : Box (w.setCell ⟨b, 1, none⟩ (.int .i64 r)) b op r rs1 rs2 imm :=
  ⟨set_other h.c0 (by decide), World.cell?_setCell_same _ _ _ h.c1, set_other h.c2 (by decide), set_other h.c3 (by decide), set_other h.c4 (by decide), set_frozen h.f0, set_frozen h.f1, set_frozen h.f2, set_frozen h.f3, set_frozen h.f4⟩
theorem Box.set2 {w : World} {b : Nat} {op rd rs1 rs2 imm : Int} (h : Box w b op rd rs1 rs2 imm) (r : Int) : Box (w.setCell ⟨b, 2, none⟩ (.int .i64 r)) b op rd r rs2 imm :=
  ⟨set_other h.c0 (by decide), set_other h.c1 (by decide), World.cell?_setCell_same _ _ _ h.c2, set_other h.c3 (by decide), set_other h.c4 (by decide), set_frozen h.f0, set_frozen h.f1, set_frozen h.f2, set_frozen h.f3, set_frozen h.f4⟩
theorem Box.set3 {w : World} {b : Nat} {op rd rs1 rs2 imm : Int} (h : Box w b op rd rs1 rs2 imm) (r : Int) : Box (w.setCell ⟨b, 3, none⟩ (.int .i64 r)) b op rd rs1 r imm :=
  ⟨set_other h.c0 (by decide), set_other h.c1 (by decide), set_other h.c2 (by decide), World.cell?_setCell_same _ _ _ h.c3, set_other h.c4 (by decide), set_frozen h.f0, set_frozen h.f1, set_frozen h.f2, set_frozen h.f3, set_frozen h.f4⟩
theorem Box.set4 {w : World} {b : Nat} {op rd rs1 rs2 imm : Int} (h : Box w b op rd rs1 rs2 imm) (r : Int) : Box (w.setCell ⟨b, 4, none⟩ (.int .i64 r)) b op rd rs1 rs2 r :=
  ⟨set_other h.c0 (by decide), set_other h.c1 (by decide), set_other h.c2 (by decide), set_other h.c3 (by decide), World.cell?_setCell_same _ _ _ h.c4, set_frozen h.f0, set_frozen h.f1, set_frozen h.f2, set_frozen h.f3, set_frozen h.f4⟩
theorem Box.far {w : World} {b b' i : Nat} {u : Value} {op rd rs1 rs2 imm : Int} (h : Box w b op rd rs1 rs2 imm) (hb : b' ≠ b) : Box (w.setCell ⟨b', i, none⟩ u) b op rd rs1 rs2 imm :=
  ⟨set_far h.c0 hb, set_far h.c1 hb, set_far h.c2 hb, set_far h.c3 hb, set_far h.c4 hb, set_frozen h.f0, set_frozen h.f1, set_frozen h.f2, set_frozen h.f3, set_frozen h.f4⟩
theorem below_set {B : Nat} {a w : World} (h : Below B a w) {b i : Nat} {u : Value} (hp : B ≤ b) : Below B a (w.setCell ⟨b, i, none⟩ u) := h.setCell hp u
/-- The five cells of an instruction, put one after another. -/
abbrev put5 (w : World) (b : Nat) (op rd rs1 rs2 imm : Int) : World :=
  ((((w.setCell ⟨b, 0, none⟩ (.int .u8 op)).setCell ⟨b, 1, none⟩ (.int .i64 rd)).setCell ⟨b, 2, none⟩ (.int .i64 rs1)).setCell ⟨b, 3, none⟩ (.int .i64 rs2)).setCell ⟨b, 4, none⟩ (.int .i64 imm)
theorem Box.put {w : World} {b : Nat} {op rd rs1 rs2 imm : Int} (h : Box w b op rd rs1 rs2 imm) (op' rd' rs1' rs2' imm' : Int) : Box (put5 w b op' rd' rs1' rs2' imm') b op' rd' rs1' rs2' imm' :=
  ((((h.set0 _).set1 _).set2 _).set3 _).set4 _
theorem Box.put_far {w : World} {b b' : Nat} {op rd rs1 rs2 imm : Int} (h : Box w b op rd rs1 rs2 imm) (hb : b' ≠ b) (op' rd' rs1' rs2' imm' : Int) : Box (put5 w b' op' rd' rs1' rs2' imm') b op rd rs1 rs2 imm :=
  ((((h.far hb).far hb).far hb).far hb).far hb
theorem below_put {B : Nat} {a w : World} (h : Below B a w) {b : Nat} (hp : B ≤ b) (op rd rs1 rs2 imm : Int) : Below B a (put5 w b op rd rs1 rs2 imm) :=
  below_set (below_set (below_set (below_set (below_set h hp) hp) hp) hp) hp
theorem Box.make (w : World) (op rd rs1 rs2 imm : Int) : Box (w.alloc (.cells #[.int .u8 op, .int .i64 rd, .int .i64 rs1, .int .i64 rs2, .int .i64 imm] 27)) w.heap.size op rd rs1 rs2 imm := by
  constructor <;> simp
end Go.Proofs.YtbmcanpjpibecaaDoor
