/- Which sections may be: the document's own. -/
import Derived.Test.YtdjokhokiklamabCh
namespace Go.Proofs.Ytdjokhokiklamab
open Go.RowKit

theorem sectB_kind {l : List Int} {align : Int} {len : Nat} {size : Int} (h : kindN l = 0) : sectB l align len size = false := by
  unfold sectB
  rw [decide_eq_false (by simpa using h)]
  rfl
theorem sectB_align {l : List Int} {align : Int} {len : Nat} {size : Int} (h : alignB align = false) : sectB l align len size = false := by
  unfold sectB
  rw [h, Bool.and_false, Bool.false_and]
theorem sectB_sizes {l : List Int} {align : Int} {len : Nat} {size : Int} (hk : kindN l ≠ 0) (ha : alignB align = true) : sectB l align len size = sizesB (kindN l) len size := by
  unfold sectB
  rw [ha, decide_eq_true hk, Bool.true_and, Bool.true_and]

end Go.Proofs.Ytdjokhokiklamab
