/- Copies of sections, and whether two are the same: the program's, and the document's. -/
import Derived.Test.YtdjokhokiklamaaBx
import Derived.Lib.SliceRun
namespace Go.Proofs.Ytdjokhokiklamaa
open Go.RowKit

theorem own_fresh (w : World) : Own (w.alloc (.cells #[] 5)) w.heap.size (.slice (some ⟨w.heap.size, 0, none⟩) 0 0) [] :=
  ⟨rfl, .inr ⟨w.heap.size, 0, #[], rfl, Nat.le_refl _, heap_alloc_new w _, Nat.le_refl _, Nat.zero_le _, rfl, rfl⟩⟩

/-- bytes.Clone -/
theorem clone_walk (a : Option Addr) (n cap : Nat) (l : List Int) (w : World) (hl : l.length = n) (hn : n ≤ 1000000) (hb : Byt w a l) (hnil : a = none → n = 0 ∧ cap = 0) :
    Calls Try.prog 30 #[.slice a n cap] w fun e w' => ∃ v, e = .returned v ∧ Own w' w.heap.size v l ∧ Kept w w' := by
  cases a with
  | none =>
    obtain ⟨rfl, rfl⟩ := hnil rfl
    have hE : ∀ w, (binOp .eql 26 (.slice none 0 0) (.slice none 0 0)).run Try.prog w = .ok (.bool true) w := fun w => Lib.run_eql_slice_nil w _ _ _ _ _ _ _ Try.underlying26
    have HL : Hid (l = []) := List.eq_nil_of_length_eq_zero hl
    go_enter Try.func30, Try.ntmps30
    go_wp2
    go_ret
    exact ⟨_, rfl, by rw [HL.out]; exact Own.nil _ _, Kept.refl _⟩
  | some x =>
    have hE : ∀ w, (binOp .eql 26 (.slice (some x) n cap) (.slice none 0 0)).run Try.prog w = .ok (.bool false) w := fun w => Lib.run_eql_slice_nil w _ _ _ _ _ _ _ Try.underlying26
    have hb2 : Byt (w.alloc (.cells #[] 5)) (some x) l := hb.kept (Kept.alloc _ _)
    have HF := own_fresh w
    go_enter Try.func30, Try.ntmps30
    go_wp2_with (at_builtin; refine wpList_append_byt rfl _ _ rfl w.heap.size (.slice (some ⟨w.heap.size, 0, none⟩) 0 0) [] l (some x) cap rfl (by rw [hl]; rfl) HF hb2 (fun h => by cases h) (by simp; omega) w (Kept.alloc _ _) (by simp) ?_; intro v0 w1 R0 K0)
    go_ret
    exact ⟨_, rfl, by simpa using R0, K0⟩


set_option maxHeartbeats 1600000 in
theorem twin_walk (s : ByteArray) (align : Int) (a : Option Addr) (n cap : Nat) (size : Int) (l : List Int) (w : World) (hl : l.length = n) (hn : n ≤ 1000000) (hb : Byt w a l) (hnil : a = none → n = 0 ∧ cap = 0) :
    Calls Try.prog 15 #[sectV s align a n cap size] w fun e w' => ∃ v, e = .returned (.agg #[.string s, .int .i64 align, v, .int .i64 size]) ∧ Own w' w.heap.size v l ∧ Kept w w' := by
  have B1 := Box.new w s align (.slice a n cap) size
  obtain ⟨wa, hwa⟩ : ∃ wa, w.alloc (.cells #[.string s, .int .i64 align, .slice a n cap, .int .i64 size] 28) = wa := ⟨_, rfl⟩
  rw [hwa] at B1
  have B2 := Box.new wa ⟨#[]⟩ 0 (.slice none 0 0) 0
  have kA : Kept w wa := by rw [← hwa]; exact Kept.alloc _ _
  have sA : wa.heap.size = w.heap.size + 1 := by rw [← hwa]; simp
  obtain ⟨wb, hwb⟩ : ∃ wb, wa.alloc (.cells #[.string ⟨#[]⟩, .int .i64 0, .slice none 0 0, .int .i64 0] 28) = wb := ⟨_, rfl⟩
  rw [hwb] at B2
  have kB : Kept wa wb := by rw [← hwb]; exact Kept.alloc _ _
  have sB : wb.heap.size = w.heap.size + 2 := by rw [← hwb]; simp [sA]
  have B1' := B1.kept kB
  rw [sA] at B2
  have hC := clone_walk a n cap l wb hl hn (hb.kept (kA.trans kB)) hnil
  have z2 := B1'.c2
  clear hnil
  go_enter Try.func15, Try.ntmps15
  go_wp2_with (go_at_call 30; refine hC.mono ?_; rintro e w1 ⟨v, rfl, hv, hk⟩; obtain ⟨A, C, rfl, _, _, _⟩ := hv.let hl; obtain ⟨c0, c1, c2, c3, f0, f1, f2, f3⟩ := B1'.kept hk; have D1 := B1'.kept hk; have D2 := B2.kept hk; obtain ⟨d0, d1, d2, d3, g0, g1, g2, g3⟩ := B2.kept hk; clear hC z2)
  have hR := (D2.far w.heap.size 2 (.slice A n C) (by omega)).put s align (.slice A n C) size
  have hO : Own _ w.heap.size (.slice A n C) l := own_put (b := w.heap.size + 1) (own_far (own_base hv (by omega)) ⟨w.heap.size, 2, none⟩ (.slice A n C) (fun g e => by have := (hv.lt g e).1; show w.heap.size ≠ g; omega)) (fun g e => by have := (hv.lt g e).1; omega) s align (.slice A n C) size
  have hW : Kept w _ := below_put (b := w.heap.size + 1) (((kA.trans kB).trans hk).setCell (p := ⟨w.heap.size, 2, none⟩) (Nat.le_refl _) (.slice A n C)) (Nat.le_succ _) s align (.slice A n C) size
  exact bodyPost_ret (v := .agg #[.string s, .int .i64 align, .slice A n C, .int .i64 size]) (by simp [results, Try.results15, go_sem, hR.c0, hR.c1, hR.c2, hR.c3]) rfl ⟨_, rfl, hO, hW⟩
end Go.Proofs.Ytdjokhokiklamaa
