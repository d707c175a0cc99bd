/- What cdec.read reads, case by case (what lies there). -/
import Derived.Test.YtbmcanpjpibecaaDoorCq
namespace Go.Proofs.YtbmcanpjpibecaaDoor
open Go.RowKit

/-- What lies there behind read's first statements: the half word, the room for the result. -/
structure InR (W w : World) (H : Nat) : Prop where
  kept : Kept W w
  h : w.cell? ⟨W.heap.size, 0, none⟩ = some (.int .u32 (H : Int))
  res : Box w (W.heap.size + 1) 0 0 0 0 0
theorem InR.on {W w w' : World} {H : Nat} (h : InR W w H) (k : Kept w w') : InR W w' H := ⟨h.kept.trans k, k.cell h.h, h.res.kept k⟩
theorem InR.begin (w : World) (H : Nat) : InR w ((w.alloc (.cells #[.int .u32 (H : Int)] 41)).alloc (.cells #[.int .u8 0, .int .i64 0, .int .i64 0, .int .i64 0, .int .i64 0] 27)) H := by
  refine ⟨(Kept.alloc _ _).trans (Kept.alloc _ _), by simp, ?_⟩
  constructor <;> simp
theorem gL_rng (H : Nat) (l : List Int) (m : Int) (hm : (2 : Int) ^ l.length = m) : 0 ≤ (gL H l : Int) ∧ (gL H l : Int) < m := by
  have := cast_lt_pow.2 (gL_lt H l)
  omega
theorem gS_rng (H : Nat) (l : List Int) (m : Int) (hm : (2 : Int) ^ l.length = m) : -m ≤ gS H l ∧ gS H l < m := by
  have := cast_lt_pow.2 (gL_lt H l)
  unfold gS
  split <;> omega
theorem and_top (H : Nat) (hH : H ≤ 65535) : bits .and .u32 (H : Int) 57347 = ((H &&& 57347 : Nat) : Int) :=
  u32_and_nat H 57347 (by omega) (by decide)
end Go.Proofs.YtbmcanpjpibecaaDoor
