/- A section that lies in a block. Copies of sections, and whether two are the same: the program's, and the document's. Copies of sections, and whether two are the same: the rest. The fields of a head, by pointers in a slice. -/
import Derived.Test.YtljmgbpecoifnaaGreatDoorJae
import Derived.WalkSpells
import Derived.Lib.SliceRun
import Derived.Test.YtljmgbpecoifnaaGreatDoorBy
import Derived.Test.YtljmgbpecoifnaaGreatDoorJab
import Derived.RegionTactic
import Derived.ChangeAlike
import Derived.BigRegion
namespace Go.Proofs.YtljmgbpecoifnaaGreatDoor
open Go.RowKit

/-- A section that lies in a block. -/
structure Box (w : World) (b : Nat) (s : ByteArray) (align : Int) (v : Value) (size : Int) : Prop where
  c0 : w.cell? ⟨b, 0, none⟩ = some (.string s)
  c1 : w.cell? ⟨b, 1, none⟩ = some (.int .i64 align)
  c2 : w.cell? ⟨b, 2, none⟩ = some v
  c3 : w.cell? ⟨b, 3, none⟩ = some (.int .i64 size)
  f0 : w.frozen? ⟨b, 0, none⟩ = false
  f1 : w.frozen? ⟨b, 1, none⟩ = false
  f2 : w.frozen? ⟨b, 2, none⟩ = false
  f3 : w.frozen? ⟨b, 3, none⟩ = false
theorem Box.lt {w : World} {b : Nat} {s : ByteArray} {align : Int} {v : Value} {size : Int} (h : Box w b s align v size) : b < w.heap.size := block_lt_of_cell h.c0
theorem Box.below {w : World} {w' : World} {b : Nat} {n : Nat} {s : ByteArray} {align : Int} {v : Value} {size : Int} (h : Box w b s align v size) (k : Below n w w') (hb : b < n) : Box w' b s align v size :=
  ⟨(k.cell hb).trans h.c0, (k.cell hb).trans h.c1, (k.cell hb).trans h.c2, (k.cell hb).trans h.c3, (k.frozen hb).trans h.f0, (k.frozen hb).trans h.f1, (k.frozen hb).trans h.f2, (k.frozen hb).trans h.f3⟩
theorem Box.kept {w : World} {w' : World} {b : Nat} {s : ByteArray} {align : Int} {v : Value} {size : Int} (h : Box w b s align v size) (k : Kept w w') : Box w' b s align v size := h.below k h.lt
theorem off_ne {b : Nat} {i j : Nat} (h : i ≠ j) : (⟨b, i, none⟩ : Addr) ≠ ⟨b, j, none⟩ := fun e => h (by injection e)
theorem set_other {w : World} {b : Nat} {i j : Nat} {u v : Value} (hc : w.cell? ⟨b, j, none⟩ = some v) (h : i ≠ j) : (w.setCell ⟨b, i, none⟩ u).cell? ⟨b, j, none⟩ = some v := by
  rw [World.cell?_setCell_other (h := off_ne h)]; exact hc
theorem set_far {w : World} {b : Nat} {b' i j : Nat} {u v : Value} (hc : w.cell? ⟨b', j, none⟩ = some v) (h : b ≠ b') : (w.setCell ⟨b, i, none⟩ u).cell? ⟨b', j, none⟩ = some v := by
  rw [World.cell?_setCell_other (h := fun e => h (by injection e))]; exact hc
theorem set_frozen {w : World} {a a' : Addr} {u : Value} (h : w.frozen? a' = false) : (w.setCell a u).frozen? a' = false := by
  rw [World.frozen?_setCell]; exact h
theorem Box.set2 {w : World} {b : Nat} {s : ByteArray} {align : Int} {v : Value} {size : Int} (h : Box w b s align v size) (u : Value) : Box (w.setCell ⟨b, 2, none⟩ u) b s align u size :=
  ⟨set_other h.c0 (by decide), set_other h.c1 (by decide), World.cell?_setCell_same _ _ _ h.c2, set_other h.c3 (by decide), set_frozen h.f0, set_frozen h.f1, set_frozen h.f2, set_frozen h.f3⟩
theorem Box.set0 {w : World} {b : Nat} {s : ByteArray} {align : Int} {v : Value} {size : Int} (h : Box w b s align v size) (u : ByteArray) : Box (w.setCell ⟨b, 0, none⟩ (.string u)) b u align v size :=
  ⟨World.cell?_setCell_same _ _ _ h.c0, set_other h.c1 (by decide), set_other h.c2 (by decide), set_other h.c3 (by decide), set_frozen h.f0, set_frozen h.f1, set_frozen h.f2, set_frozen h.f3⟩
theorem Box.set1 {w : World} {b : Nat} {s : ByteArray} {align : Int} {v : Value} {size : Int} (h : Box w b s align v size) (u : Int) : Box (w.setCell ⟨b, 1, none⟩ (.int .i64 u)) b s u v size :=
  ⟨set_other h.c0 (by decide), World.cell?_setCell_same _ _ _ h.c1, set_other h.c2 (by decide), set_other h.c3 (by decide), set_frozen h.f0, set_frozen h.f1, set_frozen h.f2, set_frozen h.f3⟩
theorem Box.set3 {w : World} {b : Nat} {s : ByteArray} {align : Int} {v : Value} {size : Int} (h : Box w b s align v size) (u : Int) : Box (w.setCell ⟨b, 3, none⟩ (.int .i64 u)) b s align v u :=
  ⟨set_other h.c0 (by decide), set_other h.c1 (by decide), set_other h.c2 (by decide), World.cell?_setCell_same _ _ _ h.c3, set_frozen h.f0, set_frozen h.f1, set_frozen h.f2, set_frozen h.f3⟩
theorem Box.far {w : World} {b : Nat} {s : ByteArray} {align : Int} {v : Value} {size : Int} (h : Box w b s align v size) (b' i : Nat) (u : Value) (hb : b' ≠ b) : Box (w.setCell ⟨b', i, none⟩ u) b s align v size :=
  ⟨set_far h.c0 hb, set_far h.c1 hb, set_far h.c2 hb, set_far h.c3 hb, set_frozen h.f0, set_frozen h.f1, set_frozen h.f2, set_frozen h.f3⟩
theorem Box.new (w : World) (s : ByteArray) (align : Int) (v : Value) (size : Int) : Box (w.alloc (.cells #[.string s, .int .i64 align, v, .int .i64 size] 37)) w.heap.size s align v size := by
  constructor <;> simp
/-- The four cells of a section, put one after another. -/
abbrev put4 (w : World) (b : Nat) (s : ByteArray) (align : Int) (v : Value) (size : Int) : World :=
  (((w.setCell ⟨b, 0, none⟩ (.string s)).setCell ⟨b, 1, none⟩ (.int .i64 align)).setCell ⟨b, 2, none⟩ v).setCell ⟨b, 3, none⟩ (.int .i64 size)
theorem Box.put {w : World} {b : Nat} {s : ByteArray} {align : Int} {v : Value} {size : Int} (h : Box w b s align v size) (s' : ByteArray) (align' : Int) (v' : Value) (size' : Int) : Box (put4 w b s' align' v' size') b s' align' v' size' :=
  (((h.set0 _).set1 _).set2 _).set3 _
theorem below_put {w : World} {b : Nat} {B : Nat} {a : World} (h : Below B a w) (hp : B ≤ b) (s : ByteArray) (align : Int) (v : Value) (size : Int) : Below B a (put4 w b s align v size) :=
  (((h.setCell hp _).setCell hp _).setCell hp _).setCell hp _
theorem own_base {w : World} {v : Value} {base base' : Nat} {l : List Int} (h : Own w base v l) (hb : base' ≤ base) : Own w base' v l := by
  refine ⟨h.1, ?_⟩
  rcases h.2 with hn | ⟨g, cap, cur, rfl, hg, rest⟩
  · exact .inl hn
  · exact .inr ⟨g, cap, cur, rfl, Nat.le_trans hb hg, rest⟩
/-- A store into a block that is none of the slice's. -/
theorem own_far {w : World} {v : Value} {base : Nat} {l : List Int} (h : Own w base v l) (p : Addr) (x : Value) (hp : ∀ g, v.ownBlock = some g → p.block ≠ g) : Own (w.setCell p x) base v l := by
  refine ⟨h.1, ?_⟩
  rcases h.2 with hn | ⟨g, cap, cur, rfl, hb, hg, rest⟩
  · exact .inl hn
  · refine .inr ⟨g, cap, cur, rfl, hb, ?_, rest⟩
    have := hp g rfl
    simp only [World.setCell, Array.getElem?_modify, if_neg this]
    exact hg
theorem own_put {w : World} {b : Nat} {base : Nat} {l : List Int} {u : Value} (h : Own w base u l) (hp : ∀ g, u.ownBlock = some g → b ≠ g) (s : ByteArray) (align : Int) (v : Value) (size : Int) : Own (put4 w b s align v size) base u l :=
  own_far (own_far (own_far (own_far h _ _ hp) _ _ hp) _ _ hp) _ _ hp

theorem own_fresh (w : World) : Own (w.alloc (.cells #[] 5)) w.heap.size (.slice (some ⟨w.heap.size, 0, none⟩) 0 0) [] :=
  ⟨rfl, .inr ⟨w.heap.size, 0, #[], rfl, Nat.le_refl _, heap_alloc_new w _, Nat.le_refl _, Nat.zero_le _, rfl, rfl⟩⟩

/-- bytes.Clone -/
theorem clone_walk (a : Option Addr) (n cap : Nat) (l : List Int) (w : World) (hl : l.length = n) (hn : n ≤ 1000000) (hb : Byt w a l) (hnil : a = none → n = 0 ∧ cap = 0) :
    Calls Tryz.prog 73 #[.slice a n cap] w fun e w' => ∃ v, e = .returned v ∧ Own w' w.heap.size v l ∧ Kept w w' := by
  cases a with
  | none =>
    obtain ⟨rfl, rfl⟩ := hnil rfl
    have hE : ∀ w, (binOp .eql 35 (.slice none 0 0) (.slice none 0 0)).run Tryz.prog w = .ok (.bool true) w := fun w => Lib.run_eql_slice_nil w _ _ _ _ _ _ _ Tryz.underlying35
    have HL : Hid (l = []) := List.eq_nil_of_length_eq_zero hl
    go_enter Tryz.func73, Tryz.ntmps73
    go_wp2
    go_ret
    exact ⟨_, rfl, by rw [HL.out]; exact Own.nil _ _, Kept.refl _⟩
  | some x =>
    have hE : ∀ w, (binOp .eql 35 (.slice (some x) n cap) (.slice none 0 0)).run Tryz.prog w = .ok (.bool false) w := fun w => Lib.run_eql_slice_nil w _ _ _ _ _ _ _ Tryz.underlying35
    have hb2 : Byt (w.alloc (.cells #[] 5)) (some x) l := hb.kept (Kept.alloc _ _)
    have HF := own_fresh w
    go_enter Tryz.func73, Tryz.ntmps73
    go_wp2_with (at_builtin; refine wpList_append_byt rfl _ _ rfl w.heap.size (.slice (some ⟨w.heap.size, 0, none⟩) 0 0) [] l (some x) cap rfl (by rw [hl]; rfl) HF hb2 (fun h => by cases h) (by simp; omega) w (Kept.alloc _ _) (by simp) ?_; intro v0 w1 R0 K0)
    go_ret
    exact ⟨_, rfl, by simpa using R0, K0⟩


set_option maxHeartbeats 1600000 in
theorem twin_walk (s : ByteArray) (align : Int) (a : Option Addr) (n cap : Nat) (size : Int) (l : List Int) (w : World) (hl : l.length = n) (hn : n ≤ 1000000) (hb : Byt w a l) (hnil : a = none → n = 0 ∧ cap = 0) :
    Calls Tryz.prog 31 #[sectV s align a n cap size] w fun e w' => ∃ v, e = .returned (.agg #[.string s, .int .i64 align, v, .int .i64 size]) ∧ Own w' w.heap.size v l ∧ Kept w w' := by
  have B1 := Box.new w s align (.slice a n cap) size
  obtain ⟨wa, hwa⟩ : ∃ wa, w.alloc (.cells #[.string s, .int .i64 align, .slice a n cap, .int .i64 size] 37) = wa := ⟨_, rfl⟩
  rw [hwa] at B1
  have B2 := Box.new wa ⟨#[]⟩ 0 (.slice none 0 0) 0
  have kA : Kept w wa := by rw [← hwa]; exact Kept.alloc _ _
  have sA : wa.heap.size = w.heap.size + 1 := by rw [← hwa]; simp
  obtain ⟨wb, hwb⟩ : ∃ wb, wa.alloc (.cells #[.string ⟨#[]⟩, .int .i64 0, .slice none 0 0, .int .i64 0] 37) = wb := ⟨_, rfl⟩
  rw [hwb] at B2
  have kB : Kept wa wb := by rw [← hwb]; exact Kept.alloc _ _
  have sB : wb.heap.size = w.heap.size + 2 := by rw [← hwb]; simp [sA]
  have B1' := B1.kept kB
  rw [sA] at B2
  have hC := clone_walk a n cap l wb hl hn (hb.kept (kA.trans kB)) hnil
  have z2 := B1'.c2
  clear hnil
  go_enter Tryz.func31, Tryz.ntmps31
  go_wp2_with (go_at_call 73; refine hC.mono ?_; rintro e w1 ⟨v, rfl, hv, hk⟩; obtain ⟨A, C, rfl, _, _, _⟩ := hv.let hl; obtain ⟨c0, c1, c2, c3, f0, f1, f2, f3⟩ := B1'.kept hk; have D1 := B1'.kept hk; have D2 := B2.kept hk; obtain ⟨d0, d1, d2, d3, g0, g1, g2, g3⟩ := B2.kept hk; clear hC z2)
  have hR := (D2.far w.heap.size 2 (.slice A n C) (by omega)).put s align (.slice A n C) size
  have hO : Own _ w.heap.size (.slice A n C) l := own_put (b := w.heap.size + 1) (own_far (own_base hv (by omega)) ⟨w.heap.size, 2, none⟩ (.slice A n C) (fun g e => by have := (hv.lt g e).1; show w.heap.size ≠ g; omega)) (fun g e => by have := (hv.lt g e).1; omega) s align (.slice A n C) size
  have hW : Kept w _ := below_put (b := w.heap.size + 1) (((kA.trans kB).trans hk).setCell (p := ⟨w.heap.size, 2, none⟩) (Nat.le_refl _) (.slice A n C)) (Nat.le_succ _) s align (.slice A n C) size
  exact bodyPost_ret (v := .agg #[.string s, .int .i64 align, .slice A n C, .int .i64 size]) (by simp [results, Tryz.results31, go_sem, hR.c0, hR.c1, hR.c2, hR.c3]) rfl ⟨_, rfl, hO, hW⟩

set_option maxHeartbeats 1600000 in
theorem rtwin_walk (s : ByteArray) (align : Int) (a : Option Addr) (n cap : Nat) (size : Int) (l : List Int) (w : World) (hl : l.length = n) (hn : n ≤ 1000000) (hb : Byt w a l) (hnil : a = none → n = 0 ∧ cap = 0) :
    Calls Tryz.prog 26 #[sectV s align a n cap size] w fun e w' => ∃ v, e = .returned (.agg #[.string s, .int .i64 align, v, .int .i64 size]) ∧ Own w' w.heap.size v l ∧ Kept w w' := by
  have B1 := Box.new w s align (.slice a n cap) size
  obtain ⟨wa, hwa⟩ : ∃ wa, w.alloc (.cells #[.string s, .int .i64 align, .slice a n cap, .int .i64 size] 37) = wa := ⟨_, rfl⟩
  rw [hwa] at B1
  have B2 := Box.new wa ⟨#[]⟩ 0 (.slice none 0 0) 0
  have kA : Kept w wa := by rw [← hwa]; exact Kept.alloc _ _
  have sA : wa.heap.size = w.heap.size + 1 := by rw [← hwa]; simp
  obtain ⟨wb, hwb⟩ : ∃ wb, wa.alloc (.cells #[.string ⟨#[]⟩, .int .i64 0, .slice none 0 0, .int .i64 0] 37) = wb := ⟨_, rfl⟩
  rw [hwb] at B2
  have kB : Kept wa wb := by rw [← hwb]; exact Kept.alloc _ _
  have sB : wb.heap.size = w.heap.size + 2 := by rw [← hwb]; simp [sA]
  have B1' := B1.kept kB
  rw [sA] at B2
  have hb2 : Byt wb a l := hb.kept (kA.trans kB)
  have z2 := B1'.c2
  go_enter Tryz.func26, Tryz.ntmps26
  go_wp2_with (at_builtin; refine wpList_append_byt rfl _ _ rfl wb.heap.size (.slice none 0 0) [] l a cap rfl (by rw [hl]; rfl) (Own.nil _ _) hb2 (by rw [hl]; exact hnil) (by simp; omega) wb (Kept.refl _) (Nat.le_refl _) ?_; intro v0 w1 R0 hk; have hv : Own w1 wb.heap.size v0 l := (by simpa using R0); clear R0; obtain ⟨A, C, rfl, _, _, _⟩ := hv.let hl; have D2 := B2.kept hk; obtain ⟨c0, c1, c2, c3, f0, f1, f2, f3⟩ := B1'.kept hk; obtain ⟨d0, d1, d2, d3, g0, g1, g2, g3⟩ := B2.kept hk; clear z2)
  have hR := (D2.far w.heap.size 2 (.slice A n C) (by omega)).put s align (.slice A n C) size
  have hO : Own _ w.heap.size (.slice A n C) l := own_put (b := w.heap.size + 1) (own_far (own_base hv (by omega)) ⟨w.heap.size, 2, none⟩ (.slice A n C) (fun g e => by have := (hv.lt g e).1; show w.heap.size ≠ g; omega)) (fun g e => by have := (hv.lt g e).1; omega) s align (.slice A n C) size
  have hW : Kept w _ := below_put (b := w.heap.size + 1) (((kA.trans kB).trans hk).setCell (p := ⟨w.heap.size, 2, none⟩) (Nat.le_refl _) (.slice A n C)) (Nat.le_succ _) s align (.slice A n C) size
  exact bodyPost_ret (v := .agg #[.string s, .int .i64 align, .slice A n C, .int .i64 size]) (by simp [results, Tryz.results26, go_sem, hR.c0, hR.c1, hR.c2, hR.c3]) rfl ⟨_, rfl, hO, hW⟩

theorem str_beq {l m : List Int} (hl : ∀ x ∈ l, 0 ≤ x ∧ x < 256) (hm : ∀ x ∈ m, 0 ≤ x ∧ x < 256) : ((strOfNums l).toList == (strOfNums m).toList) = decide (l = m) := by
  by_cases h : l = m
  · rw [decide_eq_true h]
    exact beq_true (by rw [h])
  · rw [decide_eq_false h]
    exact beq_false fun e => h (str_inj hl hm e)
/-- bytes.Equal -/
theorem equal_walk (a a' : Option Addr) (n cap n' cap' : Nat) (l l' : List Int) (w : World) (hl : l.length = n) (hl' : l'.length = n') (hb : Byt w a l) (hb' : Byt w a' l') (hr : ∀ x ∈ l, 0 ≤ x ∧ x < 256) (hr' : ∀ x ∈ l', 0 ≤ x ∧ x < 256) :
    Calls Tryz.prog 74 #[.slice a n cap, .slice a' n' cap'] w fun e w' => e = .returned (.bool (decide (l = l'))) ∧ w' = w := by
  have S1 := str_len (cap := cap) hl hb
  have S2 := str_len (cap := cap') hl' hb'
  rw [← str_beq hr hr']
  obtain ⟨x, hx⟩ : ∃ x, strOfNums l = x := ⟨_, rfl⟩
  obtain ⟨y, hy⟩ : ∃ y, strOfNums l' = y := ⟨_, rfl⟩
  rw [hx] at S1 ⊢
  rw [hy] at S2 ⊢
  clear hx hy hr hr' hb hb'
  go_enter Tryz.func74, Tryz.ntmps74
  go_wp2
  go_ret
  exact ⟨rfl, rfl⟩

/-- Whether all parts of two sections are the same. -/
def sameB (s t : ByteArray) (al al' sz sz' : Int) (l l' : List Int) : Bool := decide (s = t ∧ al = al' ∧ sz = sz' ∧ l = l')
set_option maxHeartbeats 1600000 in
theorem same_walk (s t : ByteArray) (al al' sz sz' : Int) (a a' : Option Addr) (n cap n' cap' : Nat) (l l' : List Int) (w : World) (hl : l.length = n) (hl' : l'.length = n') (hb : Byt w a l) (hb' : Byt w a' l') (hr : ∀ x ∈ l, 0 ≤ x ∧ x < 256) (hr' : ∀ x ∈ l', 0 ≤ x ∧ x < 256) :
    Calls Tryz.prog 34 #[sectV s al a n cap sz, sectV t al' a' n' cap' sz'] w fun e w' => e = .returned (.bool (sameB s t al al' sz sz' l l')) ∧ Kept w w' := by
  have B1 := Box.new w s al (.slice a n cap) sz
  obtain ⟨wa, hwa⟩ : ∃ wa, w.alloc (.cells #[.string s, .int .i64 al, .slice a n cap, .int .i64 sz] 37) = wa := ⟨_, rfl⟩
  rw [hwa] at B1
  have B2 := Box.new wa t al' (.slice a' n' cap') sz'
  have kA : Kept w wa := by rw [← hwa]; exact Kept.alloc _ _
  have sA : wa.heap.size = w.heap.size + 1 := by rw [← hwa]; simp
  obtain ⟨wb, hwb⟩ : ∃ wb, wa.alloc (.cells #[.string t, .int .i64 al', .slice a' n' cap', .int .i64 sz'] 37) = wb := ⟨_, rfl⟩
  rw [hwb] at B2
  have kB : Kept wa wb := by rw [← hwb]; exact Kept.alloc _ _
  rw [sA] at B2
  obtain ⟨c0, c1, c2, c3, _, _, _, _⟩ := B1.kept kB
  obtain ⟨d0, d1, d2, d3, _, _, _, _⟩ := B2
  have K : Kept w wb := kA.trans kB
  unfold sameB
  have hE := equal_walk a a' n cap n' cap' l l' wb hl hl' (hb.kept K) (hb'.kept K) hr hr'
  by_cases h1 : s = t
  · have q1 : (s.toList == t.toList) = true := beq_true h1
    by_cases h2 : al = al'
    · have qa : (al == al') = true := by rw [beq_iff_eq]; exact h2
      by_cases h3 : sz = sz'
      · have qs : (sz == sz') = true := by rw [beq_iff_eq]; exact h3
        by_cases h4 : l = l'
        · have HS : Hid (decide (s = t ∧ al = al' ∧ sz = sz' ∧ l = l') = true) := decide_eq_true ⟨h1, h2, h3, h4⟩
          rw [decide_eq_true h4] at hE
          clear h1 h2 h3 h4
          clear hr hr' hb hb' hl hl' B1 kA kB
          go_enter Tryz.func34, Tryz.ntmps34
          go_wp2_with (go_at_call 74; refine hE.mono ?_; rintro e w1 ⟨rfl, hw1⟩; have hw2 := hw1.symm; subst hw2; clear hw1)
          go_ret
          exact ⟨by rw [HS.out]; rfl, K⟩
        · have HS : Hid (decide (s = t ∧ al = al' ∧ sz = sz' ∧ l = l') = false) := decide_eq_false fun h => h4 h.2.2.2
          rw [decide_eq_false h4] at hE
          clear h1 h2 h3 h4
          clear hr hr' hb hb' hl hl' B1 kA kB
          go_enter Tryz.func34, Tryz.ntmps34
          go_wp2_with (go_at_call 74; refine hE.mono ?_; rintro e w1 ⟨rfl, hw1⟩; have hw2 := hw1.symm; subst hw2; clear hw1)
          go_ret
          exact ⟨by rw [HS.out]; rfl, K⟩
      · have qs : (sz == sz') = false := by rw [beq_eq_false_iff_ne]; exact h3
        have HS : Hid (decide (s = t ∧ al = al' ∧ sz = sz' ∧ l = l') = false) := decide_eq_false fun h => h3 h.2.2.1
        clear h1 h2 h3
        clear hr hr' hb hb' hl hl' B1 kA kB
        go_enter Tryz.func34, Tryz.ntmps34
        go_wp2_with (go_at_call 74; refine hE.mono ?_; rintro e w1 ⟨rfl, hw1⟩; have hw2 := hw1.symm; subst hw2; clear hw1)
        go_ret
        exact ⟨by rw [HS.out]; rfl, K⟩
    · have qa : (al == al') = false := by rw [beq_eq_false_iff_ne]; exact h2
      have HS : Hid (decide (s = t ∧ al = al' ∧ sz = sz' ∧ l = l') = false) := decide_eq_false fun h => h2 h.2.1
      clear h1 h2
      clear hr hr' hb hb' hl hl' B1 kA kB
      go_enter Tryz.func34, Tryz.ntmps34
      go_wp2_with (go_at_call 74; refine hE.mono ?_; rintro e w1 ⟨rfl, hw1⟩; have hw2 := hw1.symm; subst hw2; clear hw1)
      go_ret
      exact ⟨by rw [HS.out]; rfl, K⟩
  · have q1 : (s.toList == t.toList) = false := beq_false h1
    have HS : Hid (decide (s = t ∧ al = al' ∧ sz = sz' ∧ l = l') = false) := decide_eq_false fun h => h1 h.1
    clear h1
    clear hr hr' hb hb' hl hl' B1 kA kB
    go_enter Tryz.func34, Tryz.ntmps34
    go_wp2_with (go_at_call 74; refine hE.mono ?_; rintro e w1 ⟨rfl, hw1⟩; have hw2 := hw1.symm; subst hw2; clear hw1)
    go_ret
    exact ⟨by rw [HS.out]; rfl, K⟩
set_option maxHeartbeats 1600000 in
theorem rsame_walk (s t : ByteArray) (al al' sz sz' : Int) (a a' : Option Addr) (n cap n' cap' : Nat) (l l' : List Int) (w : World) (hl : l.length = n) (hl' : l'.length = n') (hb : Byt w a l) (hb' : Byt w a' l') (hr : ∀ x ∈ l, 0 ≤ x ∧ x < 256) (hr' : ∀ x ∈ l', 0 ≤ x ∧ x < 256) :
    Calls Tryz.prog 39 #[sectV s al a n cap sz, sectV t al' a' n' cap' sz'] w fun e w' => e = .returned (.bool (sameB s t al al' sz sz' l l')) ∧ Kept w w' := by
  have B1 := Box.new w s al (.slice a n cap) sz
  obtain ⟨wa, hwa⟩ : ∃ wa, w.alloc (.cells #[.string s, .int .i64 al, .slice a n cap, .int .i64 sz] 37) = wa := ⟨_, rfl⟩
  rw [hwa] at B1
  have B2 := Box.new wa t al' (.slice a' n' cap') sz'
  have kA : Kept w wa := by rw [← hwa]; exact Kept.alloc _ _
  have sA : wa.heap.size = w.heap.size + 1 := by rw [← hwa]; simp
  obtain ⟨wb, hwb⟩ : ∃ wb, wa.alloc (.cells #[.string t, .int .i64 al', .slice a' n' cap', .int .i64 sz'] 37) = wb := ⟨_, rfl⟩
  rw [hwb] at B2
  have kB : Kept wa wb := by rw [← hwb]; exact Kept.alloc _ _
  rw [sA] at B2
  obtain ⟨c0, c1, c2, c3, _, _, _, _⟩ := B1.kept kB
  obtain ⟨d0, d1, d2, d3, _, _, _, _⟩ := B2
  have K : Kept w wb := kA.trans kB
  unfold sameB
  have S1 := str_len (cap := cap) hl (hb.kept K)
  have S2 := str_len (cap := cap') hl' (hb'.kept K)
  have hq := str_beq hr hr'
  obtain ⟨x, hx⟩ : ∃ x, strOfNums l = x := ⟨_, rfl⟩
  obtain ⟨y, hy⟩ : ∃ y, strOfNums l' = y := ⟨_, rfl⟩
  rw [hx] at S1 hq
  rw [hy] at S2 hq
  clear hx hy
  by_cases h1 : s = t
  · have q1 : (s.toList == t.toList) = true := beq_true h1
    by_cases h2 : al = al'
    · have qa : (al == al') = true := by rw [beq_iff_eq]; exact h2
      by_cases h3 : sz = sz'
      · have qs : (sz == sz') = true := by rw [beq_iff_eq]; exact h3
        by_cases h4 : l = l'
        · have HS : Hid (decide (s = t ∧ al = al' ∧ sz = sz' ∧ l = l') = true) := decide_eq_true ⟨h1, h2, h3, h4⟩
          rw [decide_eq_true h4] at hq
          clear h1 h2 h3 h4
          clear hr hr' hb hb' hl hl' B1 kA kB
          go_enter Tryz.func39, Tryz.ntmps39
          go_wp2
          go_ret
          exact ⟨by rw [HS.out]; rfl, K⟩
        · have HS : Hid (decide (s = t ∧ al = al' ∧ sz = sz' ∧ l = l') = false) := decide_eq_false fun h => h4 h.2.2.2
          rw [decide_eq_false h4] at hq
          clear h1 h2 h3 h4
          clear hr hr' hb hb' hl hl' B1 kA kB
          go_enter Tryz.func39, Tryz.ntmps39
          go_wp2
          go_ret
          exact ⟨by rw [HS.out]; rfl, K⟩
      · have qs : (sz == sz') = false := by rw [beq_eq_false_iff_ne]; exact h3
        have HS : Hid (decide (s = t ∧ al = al' ∧ sz = sz' ∧ l = l') = false) := decide_eq_false fun h => h3 h.2.2.1
        obtain ⟨g, hg⟩ : ∃ g, decide (l = l') = g := ⟨_, rfl⟩
        rw [hg] at hq
        cases g
        · clear h1 h2 h3 hg
          clear hr hr' hb hb' hl hl' B1 kA kB
          go_enter Tryz.func39, Tryz.ntmps39
          go_wp2
          go_ret
          exact ⟨by rw [HS.out]; rfl, K⟩
        · clear h1 h2 h3 hg
          clear hr hr' hb hb' hl hl' B1 kA kB
          go_enter Tryz.func39, Tryz.ntmps39
          go_wp2
          go_ret
          exact ⟨by rw [HS.out]; rfl, K⟩
    · have qa : (al == al') = false := by rw [beq_eq_false_iff_ne]; exact h2
      have HS : Hid (decide (s = t ∧ al = al' ∧ sz = sz' ∧ l = l') = false) := decide_eq_false fun h => h2 h.2.1
      clear h1 h2
      clear hr hr' hb hb' hl hl' B1 kA kB
      go_enter Tryz.func39, Tryz.ntmps39
      go_wp2
      go_ret
      exact ⟨by rw [HS.out]; rfl, K⟩
  · have q1 : (s.toList == t.toList) = false := beq_false h1
    have HS : Hid (decide (s = t ∧ al = al' ∧ sz = sz' ∧ l = l') = false) := decide_eq_false fun h => h1 h.1
    clear h1
    clear hr hr' hb hb' hl hl' B1 kA kB
    go_enter Tryz.func39, Tryz.ntmps39
    go_wp2
    go_ret
    exact ⟨by rw [HS.out]; rfl, K⟩

/-- In block g there lie ten fields: a pointer into the block b, and how many bytes its number has. -/
def Fld (w : World) (g b : Nat) : Prop :=
  ∀ k, k < 10 → w.cell? ⟨g, k * 2, none⟩ = some (.pointer (some ⟨b, k, none⟩)) ∧ w.cell? ⟨g, k * 2 + 1, none⟩ = some (.int .i64 (headS.getD k 0 : Nat))
theorem Fld.kept {w w' : World} {g b : Nat} (h : Fld w g b) (k : Kept w w') : Fld w' g b := fun i hi => ⟨k.cell (h i hi).1, k.cell (h i hi).2⟩

theorem kept_drew (w : World) : Kept w w.drew := Kept.drewN w 1

set_option maxRecDepth 20000 in
set_option maxHeartbeats 1600000 in
theorem fields_walk (b : Nat) (w : World) :
    Calls Tryz.prog 42 #[.pointer (some ⟨b, 0, none⟩)] w fun e w' => e = .returned (.slice (some ⟨w.heap.size, 0, none⟩) 10 10) ∧ Fld w' w.heap.size b ∧ Kept w w' := by
  go_enter Tryz.func42, Tryz.ntmps42
  go_wp2
  go_region
  go_wp2
  go_ret
  refine ⟨rfl, fun k hk => ?_, (Kept.alloc _ _).trans (kept_drew _)⟩
  match k, hk with
  | 0, _ => simp [headS]
  | 1, _ => simp [headS]
  | 2, _ => simp [headS]
  | 3, _ => simp [headS]
  | 4, _ => simp [headS]
  | 5, _ => simp [headS]
  | 6, _ => simp [headS]
  | 7, _ => simp [headS]
  | 8, _ => simp [headS]
  | 9, _ => simp [headS]
end Go.Proofs.YtljmgbpecoifnaaGreatDoor
