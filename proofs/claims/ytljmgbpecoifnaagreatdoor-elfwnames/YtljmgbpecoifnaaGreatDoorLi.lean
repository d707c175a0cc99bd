/- Literals of structs, law by law. -/
import Derived.Test.YtljmgbpecoifnaaGreatDoorLo
import Derived.Great.BuildSlice
namespace Go.Proofs.YtljmgbpecoifnaaGreatDoor
open Go.RowKit

theorem wpList_litS {P : Program} {ops : Array Oper} {rest : List Oper} {o : Oper} {a : Act} {w : World} {Q : Exit → Act → World → Prop} (hg : o.guard = none) (t e : TypeId) (len s : Nat) (parts : Array (Nat × Operand)) (ho : o.op = .buildSlice t len parts)
    (zs : List Value) (hu : P.underlying t = some (.slice e)) (hsz : (P.info? e).map (·.size) = some s) (hz : ((P.info? e).bind (·.zero)).isSome = true)
    (hlen : len = zs.length) (hpos : 0 < len * s) (hsmall : len * s ≤ 2 ^ 24) (hs : 0 < s) (h1 : ∀ v ∈ zs, v.cells.size = s)
    (hparts : (parts.map fun (i, x) => (i, a.eval x)).toList = (zs.zipIdx 0).map fun x => (x.2, x.1))
    (h : ∀ (b : Nat) (w' : World), Kept w w' → (∀ (i j : Nat) v u, zs[i]? = some v → v.cells[j]? = some u → w'.cell? ⟨b, i * s + j, none⟩ = some u) → wpList P ops Q rest (a.put o.dst (.slice (some ⟨b, 0, none⟩) len len)) w') : wpList P ops Q (o :: rest) a w := by
  cases hie : P.info? e with
  | none => simp [hie] at hsz
  | some ie =>
    simp only [hie, Option.map_some, Option.some.injEq, Option.bind_some] at hsz hz
    obtain ⟨z, hzz⟩ := Option.isSome_iff_exists.1 hz
    refine wpList_buildSlice hg t e len parts ho (zs.flatMap fun v => v.cells.toList).toArray ie z hu hie hzz (by rw [hsz]; omega) (by rw [hsz]; omega) ?_ (h w.heap.size _ (Kept.alloc _ _) ?_)
    · rw [hparts, hsz]
      exact Great.fill_whole hs _ _ h1 (by simp [hlen])
    · intro i j v u hv hj
      have hjs : j < s := by
        have hm := h1 v (List.mem_of_getElem? hv)
        have := (Array.getElem?_eq_some_iff.1 hj).1
        omega
      have := cell_of_row (w.alloc (.cells (zs.flatMap fun v => v.cells.toList).toArray e)) w.heap.size (i * s + j) (zs.flatMap fun v => v.cells.toList).toArray e (0, 0) (heap_alloc_new w _)
      rw [this]
      have h2 := Great.flat_get hs zs h1 (i * s + j)
      rw [show (i * s + j) / s = i by rw [Nat.mul_comm, Nat.mul_add_div hs, Nat.div_eq_of_lt hjs, Nat.add_zero], show (i * s + j) % s = j by rw [Nat.mul_comm, Nat.mul_add_mod, Nat.mod_eq_of_lt hjs], hv] at h2
      simpa [hj] using h2

theorem wpList_struct {P : Program} {ops : Array Oper} {rest : List Oper} {o : Oper} {a : Act} {w : World} {Q : Exit → Act → World → Prop} (hg : o.guard = none) (t : TypeId) (parts : Array (Nat × Operand)) (ho : o.op = .build t parts) (cells : Array Value)
    (hb : P.built t (parts.map fun (i, x) => (i, a.eval x)).toList = some cells) (h : wpList P ops Q rest (a.put o.dst (.agg cells)) w) : wpList P ops Q (o :: rest) a w := by
  refine wpList_build hg t parts ho (by rw [hb]; rfl) ?_
  rw [hb]
  exact h
end Go.Proofs.YtljmgbpecoifnaaGreatDoor
