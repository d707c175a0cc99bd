/- Which sections may be: the program's, and the document's. -/
import Derived.Test.YtdjokhokiklamabKe
namespace Go.Proofs.Ytdjokhokiklamab
open Go.RowKit

abbrev sectV (s : ByteArray) (align : Int) (a : Option Addr) (len cap : Nat) (size : Int) : Value := .agg #[.string s, .int .i64 align, .slice a len cap, .int .i64 size]

theorem align_bits : ∀ k : Fin 65, 1 ≤ k.val → (bits .and .i64 (k.val : Int) ((k.val : Int) - 1) == 0) = alignB (k.val : Int) := by decide +kernel
/-- The seven ways of sizes. -/
def WaysS (len : Nat) (size : Int) (i : Nat) : Prop :=
  match i with
  | 0 => len ≠ 0
  | 1 => len = 0 ∧ size < 0
  | 2 => len = 0 ∧ 0 ≤ size ∧ 4096 < size
  | 3 => len = 0 ∧ 0 ≤ size ∧ size ≤ 4096
  | 4 => 4096 < len
  | 5 => len ≤ 4096 ∧ size ≠ 0
  | _ => len ≤ 4096 ∧ size = 0
theorem ways_bss (len : Nat) (size : Int) : WaysS len size 0 ∨ WaysS len size 1 ∨ WaysS len size 2 ∨ WaysS len size 3 := by
  show len ≠ 0 ∨ (len = 0 ∧ size < 0) ∨ (len = 0 ∧ 0 ≤ size ∧ 4096 < size) ∨ (len = 0 ∧ 0 ≤ size ∧ size ≤ 4096)
  omega
theorem ways_other (len : Nat) (size : Int) : WaysS len size 4 ∨ WaysS len size 5 ∨ WaysS len size 6 := by
  show 4096 < len ∨ (len ≤ 4096 ∧ size ≠ 0) ∨ (len ≤ 4096 ∧ size = 0)
  omega
/-- What Check gives. -/
def chkS (l : List Int) (align : Int) (len : Nat) (size : Int) : Int := if sectB l align len size = true then 0 else 8
theorem chkS_kind {l : List Int} {align : Int} {len : Nat} {size : Int} (h : kindN l = 0) : chkS l align len size = 8 := by
  unfold chkS sectB
  rw [decide_eq_false (by simpa using h)]
  rfl
theorem chkS_align {l : List Int} {align : Int} {len : Nat} {size : Int} (h : alignB align = false) : chkS l align len size = 8 := by
  unfold chkS sectB
  rw [h, Bool.and_false, Bool.false_and]
  rfl
theorem chkS_sizes {l : List Int} {align : Int} {len : Nat} {size : Int} (hk : kindN l ≠ 0) (ha : alignB align = true) : chkS l align len size = if sizesB (kindN l) len size = true then 0 else 8 := by
  unfold chkS sectB
  rw [ha, decide_eq_true hk, Bool.true_and, Bool.true_and]

end Go.Proofs.Ytdjokhokiklamab
