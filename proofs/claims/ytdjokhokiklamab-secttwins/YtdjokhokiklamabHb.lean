/- A head that lies in a block; bytes that are appended, with where the new slice lies. -/
import Derived.Test.YtdjokhokiklamabBx
import Derived.Test.YtdjokhokiklamabFl
import Derived.Test.YtdjokhokiklamabWm
import Derived.Test.YtdjokhokiklamabPu
namespace Go.Proofs.Ytdjokhokiklamab
open Go.RowKit

abbrev headW' (v0 v1 v2 v3 v4 v5 v6 v7 v8 v9 : Int) : Value := .agg #[.int .i64 v0, .int .i64 v1, .int .i64 v2, .int .i64 v3, .int .i64 v4, .int .i64 v5, .int .i64 v6, .int .i64 v7, .int .i64 v8, .int .i64 v9]
abbrev headO (v0 v1 v2 v3 v4 v5 v6 v7 v8 v9 : Int) : Obj := .cells #[.int .i64 v0, .int .i64 v1, .int .i64 v2, .int .i64 v3, .int .i64 v4, .int .i64 v5, .int .i64 v6, .int .i64 v7, .int .i64 v8, .int .i64 v9] 26

/-- In block b there lie the ten numbers v. -/
def HBx (w : World) (b : Nat) (v : List Int) : Prop := ∀ k, k < 10 → w.cell? ⟨b, k, none⟩ = some (.int .i64 (v.getD k 0)) ∧ w.frozen? ⟨b, k, none⟩ = false
theorem HBx.lt {w : World} {b : Nat} {v : List Int} (h : HBx w b v) : b < w.heap.size := block_lt_of_cell (h 0 (by decide)).1
theorem HBx.kept {w w' : World} {b : Nat} {v : List Int} (h : HBx w b v) (k : Kept w w') : HBx w' b v := fun i hi => ⟨k.cell (h i hi).1, (k.frozen h.lt).trans (h i hi).2⟩
theorem HBx.new (w : World) (v0 v1 v2 v3 v4 v5 v6 v7 v8 v9 : Int) : HBx (w.alloc (headO v0 v1 v2 v3 v4 v5 v6 v7 v8 v9)) w.heap.size [v0, v1, v2, v3, v4, v5, v6, v7, v8, v9] := fun k hk => by
  match k, hk with
  | 0, _ => simp
  | 1, _ => simp
  | 2, _ => simp
  | 3, _ => simp
  | 4, _ => simp
  | 5, _ => simp
  | 6, _ => simp
  | 7, _ => simp
  | 8, _ => simp
  | 9, _ => simp
/-- A block that nothing of the row touches, beside a row that grows. -/
theorem grown_cell {w w' : World} {g : Nat} (h : w.grownBy w' (some g)) {a : Addr} {v : Value} (hc : w.cell? a = some v) (ha : a.block ≠ g) : w'.cell? a = some v :=
  h.cell hc (by simpa using ha)
theorem grown_frozen {w w' : World} {g : Nat} (h : w.grownBy w' (some g)) {a : Addr} (hl : a.block < w.heap.size) (ha : a.block ≠ g) : w'.frozen? a = w.frozen? a := by
  have := h.block a.block hl (by simpa using ha)
  unfold World.frozen?
  rw [this]
theorem HBx.grown {w w' : World} {b g : Nat} {v : List Int} (h : HBx w b v) (hg : w.grownBy w' (some g)) (hb : b ≠ g) : HBx w' b v := fun i hi => ⟨grown_cell hg (h i hi).1 hb, (grown_frozen hg h.lt hb).trans (h i hi).2⟩
theorem Fld.grown {w w' : World} {b f g : Nat} (h : Fld w f b) (hg : w.grownBy w' (some g)) (hf : f ≠ g) : Fld w' f b := fun i hi => ⟨grown_cell hg (h i hi).1 hf, grown_cell hg (h i hi).2 hf⟩

/-- 'append(s, b...)', s the call's own and not nil, b bytes that lie at 'ad'. -/
theorem wpList_append_bytL {w : World} {ops : Array Oper} {rest : List Oper} {o : Oper} {a : Act} {Q : Exit → Act → World → Prop} (hgd : o.guard = none) (s x : Operand)
    (ho : o.op = .call { callee := .builtin .append, args := #[s, x], argTypes := #[22, 22] }) (base g len cap : Nat) (xs l : List Int) (ao : Option Addr) (m c : Nat) (hl : xs.length = len) (hm : l.length = m) (hs : a.eval s = .slice (some ⟨g, 0, none⟩) len cap) (hx : a.eval x = .slice ao m c)
    (hown : Own w base (.slice (some ⟨g, 0, none⟩) len cap) xs) (hb : Byt w ao l) (hpos : 0 < m) (hlen : len + m ≤ 10000000) (hbase : base ≤ w.heap.size)
    (h : ∀ g' cap' w', Own w' base (.slice (some ⟨g', 0, none⟩) (len + m) cap') (xs ++ l) → w.grownBy w' (some g) → (g' = g ∨ g' = w.heap.size) → wpList Try.prog ops Q rest (a.put o.dst (.slice (some ⟨g', 0, none⟩) (len + m) cap')) w') : wpList Try.prog ops Q (o :: rest) a w := by
  subst hl
  subst hm
  obtain ⟨i0, hi, hz0, hz1, hz2⟩ := info_parts Try.infoByte
  rcases hb with rfl | ⟨b, off, rfl, hc⟩
  · simp at hpos
  refine wpList_append_own_at _ hgd s x 22 ho base 5 i0 (.int .u8 0) 1 1 Try.underlying22 hi hz0 hz1 hz2 rfl (by decide) _ xs.length _ hs hown ⟨b, off, none⟩ l.length c (l.map (Value.int .u8)) hx (by simp) ?_ (ints_oneCell .u8 l) (by unfold maxLen; omega) (by omega) hbase ?_
  · intro j u hj
    have hjl : j < l.length := by simpa using (List.getElem?_eq_some_iff.1 hj).1
    have e : (⟨b, off, none⟩ : Addr).add j = ⟨b, off + j, none⟩ := by unfold Addr.add; split <;> simp_all
    rw [e, hc j hjl, ← hj]
    simp [List.getD, hjl]
  · intro v' w' h1 h2 _ h4
    have hv : ∃ g' cap', v' = .slice (some ⟨g', 0, none⟩) (xs.length + l.length) cap' := by
      rcases h1.2 with ⟨rfl, _⟩ | ⟨g', cap', cur, hv, _⟩
      · simp [Value.ownBlock] at h4
      · exact ⟨g', cap', hv⟩
    obtain ⟨g', cap', rfl⟩ := hv
    refine h g' cap' w' ?_ (by simpa [Value.ownBlock] using h2) (by simpa [Value.ownBlock] using h4)
    unfold Own
    simpa using h1
theorem own_made (w : World) : Own (w.alloc (.cells (Array.replicate 64 (.int .u8 0)) 5)) w.heap.size (.slice (some ⟨w.heap.size, 0, none⟩) 0 64) [] :=
  ⟨rfl, .inr ⟨w.heap.size, 64, _, rfl, Nat.le_refl _, heap_alloc_new w _, Nat.zero_le _, by decide, by simp, by simp⟩⟩
end Go.Proofs.Ytdjokhokiklamab
