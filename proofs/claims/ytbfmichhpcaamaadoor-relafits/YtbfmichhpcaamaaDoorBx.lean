/- A section that lies in a block. -/
import Derived.Test.YtbfmichhpcaamaaDoorCh
import Derived.WalkSpells
namespace Go.Proofs.YtbfmichhpcaamaaDoor
open Go.RowKit

/-- A section that lies in a block. -/
structure Box (w : World) (b : Nat) (s : ByteArray) (align : Int) (v : Value) (size : Int) : Prop where
  c0 : w.cell? ⟨b, 0, none⟩ = some (.string s)
  c1 : w.cell? ⟨b, 1, none⟩ = some (.int .i64 align)
  c2 : w.cell? ⟨b, 2, none⟩ = some v
  c3 : w.cell? ⟨b, 3, none⟩ = some (.int .i64 size)
  f0 : w.frozen? ⟨b, 0, none⟩ = false
  f1 : w.frozen? ⟨b, 1, none⟩ = false
  f2 : w.frozen? ⟨b, 2, none⟩ = false
  f3 : w.frozen? ⟨b, 3, none⟩ = false
theorem Box.lt {w : World} {b : Nat} {s : ByteArray} {align : Int} {v : Value} {size : Int} (h : Box w b s align v size) : b < w.heap.size := block_lt_of_cell h.c0
theorem Box.below {w : World} {w' : World} {b : Nat} {n : Nat} {s : ByteArray} {align : Int} {v : Value} {size : Int} (h : Box w b s align v size) (k : Below n w w') (hb : b < n) : Box w' b s align v size :=
  ⟨(k.cell hb).trans h.c0, (k.cell hb).trans h.c1, (k.cell hb).trans h.c2, (k.cell hb).trans h.c3, (k.frozen hb).trans h.f0, (k.frozen hb).trans h.f1, (k.frozen hb).trans h.f2, (k.frozen hb).trans h.f3⟩
theorem Box.kept {w : World} {w' : World} {b : Nat} {s : ByteArray} {align : Int} {v : Value} {size : Int} (h : Box w b s align v size) (k : Kept w w') : Box w' b s align v size := h.below k h.lt
theorem off_ne {b : Nat} {i j : Nat} (h : i ≠ j) : (⟨b, i, none⟩ : Addr) ≠ ⟨b, j, none⟩ := fun e => h (by injection e)
theorem set_other {w : World} {b : Nat} {i j : Nat} {u v : Value} (hc : w.cell? ⟨b, j, none⟩ = some v) (h : i ≠ j) : (w.setCell ⟨b, i, none⟩ u).cell? ⟨b, j, none⟩ = some v := by
  rw [World.cell?_setCell_other (h := off_ne h)]; exact hc
theorem set_far {w : World} {b : Nat} {b' i j : Nat} {u v : Value} (hc : w.cell? ⟨b', j, none⟩ = some v) (h : b ≠ b') : (w.setCell ⟨b, i, none⟩ u).cell? ⟨b', j, none⟩ = some v := by
  rw [World.cell?_setCell_other (h := fun e => h (by injection e))]; exact hc
theorem set_frozen {w : World} {a a' : Addr} {u : Value} (h : w.frozen? a' = false) : (w.setCell a u).frozen? a' = false := by
  rw [World.frozen?_setCell]; exact h
theorem Box.set2 {w : World} {b : Nat} {s : ByteArray} {align : Int} {v : Value} {size : Int} (h : Box w b s align v size) (u : Value) : Box (w.setCell ⟨b, 2, none⟩ u) b s align u size :=
  ⟨set_other h.c0 (by decide), set_other h.c1 (by decide), World.cell?_setCell_same _ _ _ h.c2, set_other h.c3 (by decide), set_frozen h.f0, set_frozen h.f1, set_frozen h.f2, set_frozen h.f3⟩
theorem Box.set0 {w : World} {b : Nat} {s : ByteArray} {align : Int} {v : Value} {size : Int} (h : Box w b s align v size) (u : ByteArray) : Box (w.setCell ⟨b, 0, none⟩ (.string u)) b u align v size :=
  ⟨World.cell?_setCell_same _ _ _ h.c0, set_other h.c1 (by decide), set_other h.c2 (by decide), set_other h.c3 (by decide), set_frozen h.f0, set_frozen h.f1, set_frozen h.f2, set_frozen h.f3⟩
theorem Box.set1 {w : World} {b : Nat} {s : ByteArray} {align : Int} {v : Value} {size : Int} (h : Box w b s align v size) (u : Int) : Box (w.setCell ⟨b, 1, none⟩ (.int .i64 u)) b s u v size :=
  ⟨set_other h.c0 (by decide), World.cell?_setCell_same _ _ _ h.c1, set_other h.c2 (by decide), set_other h.c3 (by decide), set_frozen h.f0, set_frozen h.f1, set_frozen h.f2, set_frozen h.f3⟩
theorem Box.set3 {w : World} {b : Nat} {s : ByteArray} {align : Int} {v : Value} {size : Int} (h : Box w b s align v size) (u : Int) : Box (w.setCell ⟨b, 3, none⟩ (.int .i64 u)) b s align v u :=
  ⟨set_other h.c0 (by decide), set_other h.c1 (by decide), set_other h.c2 (by decide), World.cell?_setCell_same _ _ _ h.c3, set_frozen h.f0, set_frozen h.f1, set_frozen h.f2, set_frozen h.f3⟩
theorem Box.far {w : World} {b : Nat} {s : ByteArray} {align : Int} {v : Value} {size : Int} (h : Box w b s align v size) (b' i : Nat) (u : Value) (hb : b' ≠ b) : Box (w.setCell ⟨b', i, none⟩ u) b s align v size :=
  ⟨set_far h.c0 hb, set_far h.c1 hb, set_far h.c2 hb, set_far h.c3 hb, set_frozen h.f0, set_frozen h.f1, set_frozen h.f2, set_frozen h.f3⟩
theorem Box.new (w : World) (s : ByteArray) (align : Int) (v : Value) (size : Int) : Box (w.alloc (.cells #[.string s, .int .i64 align, v, .int .i64 size] 47)) w.heap.size s align v size := by
  constructor <;> simp
/-- The four cells of a section, put one after another. -/
abbrev put4 (w : World) (b : Nat) (s : ByteArray) (align : Int) (v : Value) (size : Int) : World :=
  (((w.setCell ⟨b, 0, none⟩ (.string s)).setCell ⟨b, 1, none⟩ (.int .i64 align)).setCell ⟨b, 2, none⟩ v).setCell ⟨b, 3, none⟩ (.int .i64 size)
theorem Box.put {w : World} {b : Nat} {s : ByteArray} {align : Int} {v : Value} {size : Int} (h : Box w b s align v size) (s' : ByteArray) (align' : Int) (v' : Value) (size' : Int) : Box (put4 w b s' align' v' size') b s' align' v' size' :=
  (((h.set0 _).set1 _).set2 _).set3 _
theorem below_put {w : World} {b : Nat} {B : Nat} {a : World} (h : Below B a w) (hp : B ≤ b) (s : ByteArray) (align : Int) (v : Value) (size : Int) : Below B a (put4 w b s align v size) :=
  (((h.setCell hp _).setCell hp _).setCell hp _).setCell hp _
theorem own_base {w : World} {v : Value} {base base' : Nat} {l : List Int} (h : Own w base v l) (hb : base' ≤ base) : Own w base' v l := by
  refine ⟨h.1, ?_⟩
  rcases h.2 with hn | ⟨g, cap, cur, rfl, hg, rest⟩
  · exact .inl hn
  · exact .inr ⟨g, cap, cur, rfl, Nat.le_trans hb hg, rest⟩
/-- A store into a block that is none of the slice's. -/
theorem own_far {w : World} {v : Value} {base : Nat} {l : List Int} (h : Own w base v l) (p : Addr) (x : Value) (hp : ∀ g, v.ownBlock = some g → p.block ≠ g) : Own (w.setCell p x) base v l := by
  refine ⟨h.1, ?_⟩
  rcases h.2 with hn | ⟨g, cap, cur, rfl, hb, hg, rest⟩
  · exact .inl hn
  · refine .inr ⟨g, cap, cur, rfl, hb, ?_, rest⟩
    have := hp g rfl
    simp only [World.setCell, Array.getElem?_modify, if_neg this]
    exact hg
theorem own_put {w : World} {b : Nat} {base : Nat} {l : List Int} {u : Value} (h : Own w base u l) (hp : ∀ g, u.ownBlock = some g → b ≠ g) (s : ByteArray) (align : Int) (v : Value) (size : Int) : Own (put4 w b s align v size) base u l :=
  own_far (own_far (own_far (own_far h _ _ hp) _ _ hp) _ _ hp) _ _ hp
end Go.Proofs.YtbfmichhpcaamaaDoor
