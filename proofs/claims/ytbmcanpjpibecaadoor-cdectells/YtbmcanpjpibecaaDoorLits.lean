/- Slice literals walked with the world a variable; the document's own rows of names. -/
import Derived.Test.YtbmcanpjpibecaaDoorForm
import Derived.Great.BuildSlice
import Derived.Deep.WholeRow
namespace Go.Proofs.YtbmcanpjpibecaaDoor
open Go.RowKit

/-- A SLICE LITERAL OF ONE-CELL VALUES: behind it the world is a variable of which three things are known. -/
theorem wpList_lit {P : Program} {ops : Array Oper} {rest : List Oper} {o : Oper} {a : Act} {w : World} {Q : Exit → Act → World → Prop} (hg : o.guard = none) (t e : TypeId) (len : Nat) (parts : Array (Nat × Operand)) (ho : o.op = .buildSlice t len parts)
    (zs : List Value) (hu : P.underlying t = some (.slice e)) (hsz : (P.info? e).map (·.size) = some 1) (hz : ((P.info? e).bind (·.zero)).isSome = true)
    (hlen : len = zs.length) (hpos : 0 < len) (hsmall : len ≤ 2 ^ 24) (h1 : ∀ v ∈ zs, v.cells = #[v])
    (hparts : (parts.map fun (i, x) => (i, a.eval x)).toList = (zs.zipIdx 0).map fun x => (x.2, x.1))
    (h : ∀ (b : Nat) (w' : World), Kept w w' → (∀ j v, zs[j]? = some v → w'.cell? ⟨b, j, none⟩ = some v) → wpList P ops Q rest (a.put o.dst (.slice (some ⟨b, 0, none⟩) len len)) w') : wpList P ops Q (o :: rest) a w := by
  cases hie : P.info? e with
  | none => simp [hie] at hsz
  | some ie =>
    simp only [hie, Option.map_some, Option.some.injEq, Option.bind_some] at hsz hz
    obtain ⟨z, hzz⟩ := Option.isSome_iff_exists.1 hz
    refine wpList_buildSlice hg t e len parts ho zs.toArray ie z hu hie hzz (by rw [hsz]; omega) (by rw [hsz]; omega) ?_ (h w.heap.size _ (Kept.alloc _ _) ?_)
    · rw [hparts, hsz]
      exact Great.fill_flat _ _ h1 (by simp [hlen])
    · intro j v hv
      have := cell_of_row (w.alloc (.cells zs.toArray e)) w.heap.size j zs.toArray e (0, 0) (heap_alloc_last w _)
      rw [this]
      simpa using hv

/-- The document's rows: a form's letter, then names. -/
def rowTab : List (List (List UInt8)) := [
  [[85], [108, 117, 105], [97, 117, 105, 112, 99]],
  [[74], [106, 97, 108]],
  [[76], [106, 97, 108, 114]],
  [[66], [98, 101, 113], [98, 110, 101], [98, 108, 116], [98, 103, 101], [98, 108, 116, 117], [98, 103, 101, 117]],
  [[76], [108, 98], [108, 104], [108, 119], [108, 100], [108, 98, 117], [108, 104, 117], [108, 119, 117]],
  [[83], [115, 98], [115, 104], [115, 119], [115, 100]],
  [[73], [97, 100, 100, 105], [115, 108, 116, 105], [115, 108, 116, 105, 117], [120, 111, 114, 105], [111, 114, 105], [97, 110, 100, 105]],
  [[54], [115, 108, 108, 105], [115, 114, 108, 105], [115, 114, 97, 105]],
  [[82], [97, 100, 100], [115, 117, 98], [115, 108, 108], [115, 108, 116], [115, 108, 116, 117], [120, 111, 114], [115, 114, 108], [115, 114, 97], [111, 114], [97, 110, 100]],
  [[73], [97, 100, 100, 105, 119]],
  [[53], [115, 108, 108, 105, 119], [115, 114, 108, 105, 119], [115, 114, 97, 105, 119]],
  [[82], [97, 100, 100, 119], [115, 117, 98, 119], [115, 108, 108, 119], [115, 114, 108, 119], [115, 114, 97, 119]],
  [[82], [109, 117, 108], [109, 117, 108, 104], [109, 117, 108, 104, 115, 117], [109, 117, 108, 104, 117], [100, 105, 118], [100, 105, 118, 117], [114, 101, 109], [114, 101, 109, 117]],
  [[82], [109, 117, 108, 119], [100, 105, 118, 119], [100, 105, 118, 117, 119], [114, 101, 109, 119], [114, 101, 109, 117, 119]],
  [[70], [102, 101, 110, 99, 101]],
  [[78], [102, 101, 110, 99, 101, 46, 105], [101, 99, 97, 108, 108], [101, 98, 114, 101, 97, 107]],
  [[67], [99, 115, 114, 114, 119], [99, 115, 114, 114, 115], [99, 115, 114, 114, 99]],
  [[90], [99, 115, 114, 114, 119, 105], [99, 115, 114, 114, 115, 105], [99, 115, 114, 114, 99, 105]],
  [[108], [108, 114, 46, 119]],
  [[65], [115, 99, 46, 119], [97, 109, 111, 115, 119, 97, 112, 46, 119], [97, 109, 111, 97, 100, 100, 46, 119], [97, 109, 111, 120, 111, 114, 46, 119], [97, 109, 111, 97, 110, 100, 46, 119], [97, 109, 111, 111, 114, 46, 119], [97, 109, 111, 109, 105, 110, 46, 119], [97, 109, 111, 109, 97, 120, 46, 119], [97, 109, 111, 109, 105, 110, 117, 46, 119], [97, 109, 111, 109, 97, 120, 117, 46, 119]],
  [[108], [108, 114, 46, 100]],
  [[65], [115, 99, 46, 100], [97, 109, 111, 115, 119, 97, 112, 46, 100], [97, 109, 111, 97, 100, 100, 46, 100], [97, 109, 111, 120, 111, 114, 46, 100], [97, 109, 111, 97, 110, 100, 46, 100], [97, 109, 111, 111, 114, 46, 100], [97, 109, 111, 109, 105, 110, 46, 100], [97, 109, 111, 109, 97, 120, 46, 100], [97, 109, 111, 109, 105, 110, 117, 46, 100], [97, 109, 111, 109, 97, 120, 117, 46, 100]]]
def rowStr (i j : Nat) : ByteArray := ⟨((rowTab.getD i []).getD j []).toArray⟩
def rowLen (i : Nat) : Nat := (rowTab.getD i []).length
def rowVals (i : Nat) : List Value := (rowTab.getD i []).map fun z => .string ⟨z.toArray⟩

theorem rowVals_at (i j : Nat) (hj : j < rowLen i) : (rowVals i)[j]? = some (.string (rowStr i j)) := by
  simp [rowVals, rowStr, rowLen] at hj ⊢
  simp [hj]

theorem rowVals_one (i : Nat) : ∀ v ∈ rowVals i, v.cells = #[v] := by
  intro v hv
  obtain ⟨z, _, rfl⟩ := List.mem_map.1 hv
  rfl

theorem rowVals_length (i : Nat) : (rowVals i).length = rowLen i := by simp [rowVals, rowLen]

end Go.Proofs.YtbmcanpjpibecaaDoor
