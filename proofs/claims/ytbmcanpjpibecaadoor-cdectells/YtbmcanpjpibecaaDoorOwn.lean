/- Slices of numbers that the call made itself: what is appended; the bases. -/
import Derived.Test.YtbmcanpjpibecaaDoorPlC
import Derived.Test.YtbmcanpjpibecaaDoorChk
namespace Go.Proofs.YtbmcanpjpibecaaDoor
open Go.RowKit

theorem Tryd.infoInt : (Tryd.prog.info? 3).map (fun i => (i.zero, i.size, i.bytes)) = some (some (.int .i64 0), 1, 8) := by kernel_rfl

/-- The slice v is the call's own (its block is no older than 'base') and holds the numbers l. -/
abbrev Own (w : World) (base : Nat) (v : Value) (l : List Int) : Prop := w.ownsRow base 3 1 v l.length (l.map (Value.int .i64))

theorem Own.push {w : World} {base : Nat} {v : Value} {l : List Int} {x : Int} (h : w.ownsRow base 3 1 v (l.length + 1) (l.map (Value.int .i64) ++ [Value.int .i64 x])) : Own w base v (l ++ [x]) := by
  unfold Own
  simpa using h

/-- So many numbers from one on. -/
def seg (a : Int) (n : Nat) : List Int := (List.range n).map fun (i : Nat) => a + (i : Int)
theorem seg_length (a : Int) (n : Nat) : (seg a n).length = n := by simp [seg]
theorem seg_succ (a : Int) (n : Nat) : seg a (n + 1) = seg a n ++ [a + n] := by simp [seg, List.range_succ]

theorem Own.cells {w : World} {base : Nat} {v : Value} {l : List Int} (h : Own w base v l) :
    ∃ a cap, v = .slice a l.length cap ∧ Cells w a l.length (fun i => l.getD i 0) := by
  have hcell := @World.ownsRow.cells w base 3 1 v l.length (l.map (Value.int .i64)) h
  rcases h.2 with ⟨hv, hn⟩ | ⟨g, cap, cur, hv, _⟩
  · exact ⟨none, 0, by rw [hv, hn], .inl hn⟩
  · refine ⟨some ⟨g, 0, none⟩, cap, hv, .inr ⟨g, 0, rfl, fun i hi => ?_⟩⟩
    have := hcell (g := g) (by rw [hv]; rfl) i (.int .i64 (l.getD i 0)) (by simp [hi, List.getD])
    have e : (⟨g, 0, none⟩ : Addr).add i = ⟨g, 0 + i, none⟩ := by unfold Addr.add; split <;> simp_all
    rwa [e] at this

theorem Cells.kept {w w' : World} {a : Option Addr} {len : Nat} {p : Nat → Int} (h : Cells w a len p) (k : Kept w w') : Cells w' a len p := by
  rcases h with h | ⟨b, off, ha, hc⟩
  · exact .inl h
  · exact .inr ⟨b, off, ha, fun i hi => k.cell (hc i hi)⟩

end Go.Proofs.YtbmcanpjpibecaaDoor
