/- The fields of a head, by pointers in a slice. -/
import Derived.Test.YtdjokhokiklamaaBy
import Derived.Test.YtdjokhokiklamaaHd
import Derived.RegionTactic
import Derived.ChangeAlike
import Derived.BigRegion
namespace Go.Proofs.Ytdjokhokiklamaa
open Go.RowKit

/-- In block g there lie ten fields: a pointer into the block b, and how many bytes its number has. -/
def Fld (w : World) (g b : Nat) : Prop :=
  ∀ k, k < 10 → w.cell? ⟨g, k * 2, none⟩ = some (.pointer (some ⟨b, k, none⟩)) ∧ w.cell? ⟨g, k * 2 + 1, none⟩ = some (.int .i64 (headS.getD k 0 : Nat))
theorem Fld.kept {w w' : World} {g b : Nat} (h : Fld w g b) (k : Kept w w') : Fld w' g b := fun i hi => ⟨k.cell (h i hi).1, k.cell (h i hi).2⟩

theorem kept_drew (w : World) : Kept w w.drew := Kept.drewN w 1

set_option maxRecDepth 20000 in
set_option maxHeartbeats 1600000 in
theorem fields_walk (b : Nat) (w : World) :
    Calls Try.prog 27 #[.pointer (some ⟨b, 0, none⟩)] w fun e w' => e = .returned (.slice (some ⟨w.heap.size, 0, none⟩) 10 10) ∧ Fld w' w.heap.size b ∧ Kept w w' := by
  go_enter Try.func27, Try.ntmps27
  go_wp2
  go_region
  go_wp2
  go_ret
  refine ⟨rfl, fun k hk => ?_, (Kept.alloc _ _).trans (kept_drew _)⟩
  match k, hk with
  | 0, _ => simp [headS]
  | 1, _ => simp [headS]
  | 2, _ => simp [headS]
  | 3, _ => simp [headS]
  | 4, _ => simp [headS]
  | 5, _ => simp [headS]
  | 6, _ => simp [headS]
  | 7, _ => simp [headS]
  | 8, _ => simp [headS]
  | 9, _ => simp [headS]
end Go.Proofs.Ytdjokhokiklamaa
