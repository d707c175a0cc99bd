/- The same calls, each in one form for whatever numbers came in; and the chapter's first examples. -/
import Derived.Test.YtbmcanpjpibecaaDoorCalls
namespace Go.Proofs.YtbmcanpjpibecaaDoor
open Go.ChangeShapes Go.WideShapes Go.ChangeAt Go.RowKit

def okE (b : Bool) : Int := if b then 0 else 2
def takeV (x a n : Int) : Int := if isF a n then x / 2 ^ a.toNat % 2 ^ n.toNat else 0
def putOk (a n v : Int) : Bool := isF a n && decide (v < 2 ^ n.toNat)
def putV (x a n v : Int) : Int := if putOk a n v then (putN x.toNat a.toNat n.toNat v.toNat : Nat) else 0
def signOk (v n : Int) : Bool := decide (1 ≤ n ∧ n ≤ 32) && decide (v < 2 ^ n.toNat)
def signV (v n : Int) : Int := if signOk v n then (if v < 2 ^ (n.toNat - 1) then v else v - 2 ^ n.toNat) else 0

theorem okE_lo (b : Bool) : 0 ≤ okE b := by cases b <;> decide
theorem okE_hi (b : Bool) : okE b ≤ 2 := by cases b <;> decide
theorem okE_zero (b : Bool) : (okE b == 0) = b := by cases b <;> decide
theorem okE_nzero (b : Bool) : (okE b != 0) = !b := by cases b <;> decide

theorem cast_lt_pow {v n : Nat} : ((v : Int) < 2 ^ n) ↔ v < 2 ^ n := by
  have : ((2 ^ n : Nat) : Int) = (2 : Int) ^ n := by simp
  rw [← this]; omega

theorem sign_u (v n : Int) (hv : 0 ≤ v) (hv2 : v < 4294967296) (w : World) :
    Calls Tryd.prog 34 #[.int .u32 v, .int .i64 n] w fun e w' => e = .returned (.tuple #[.int .i64 (signV v n), .int .i64 (okE (signOk v n))]) ∧ ∃ m, w' = w.drewN m := by
  by_cases hn : 1 ≤ n ∧ n ≤ 32
  · obtain ⟨n, rfl⟩ : ∃ k : Nat, n = k := ⟨n.toNat, by omega⟩
    obtain ⟨v, rfl⟩ : ∃ k : Nat, v = k := ⟨v.toNat, by omega⟩
    by_cases hs : (v : Int) < 2 ^ n
    · by_cases hl : (v : Int) < 2 ^ (n - 1)
      · simpa [signV, signOk, okE, hn, hs, hl] using sign_walk_lo v n (by omega) (by omega) hl w
      · simpa [signV, signOk, okE, hn, hs, hl] using sign_walk_hi v n (by omega) (by omega) hs (by omega) w
    · simpa [signV, signOk, okE, hn, hs] using sign_walk_big v n (by omega) (by omega) (by omega) w
  · simpa [signV, signOk, okE, hn] using sign_walk_no v n (by omega) w

theorem alive_sign (w : World) : Calls Tryd.prog 34 #[.int .u32 255, .int .i64 8] w fun e w' => e = .returned (.tuple #[.int .i64 (-1), .int .i64 0]) ∧ ∃ m, w' = w.drewN m :=
  sign_walk_hi 255 8 (by decide) (by decide) (by decide) (by decide) w

theorem wf_u32 {n : Int} (h : (Lit.int .u32 n).wf = true) : 0 ≤ n ∧ n < 4294967296 := by
  have h1 : IntKind.u32.min ≤ n ∧ n ≤ IntKind.u32.max := by simpa [Lit.wf] using h
  have h2 : IntKind.u32.min = 0 := by decide
  have h3 : IntKind.u32.max = 4294967295 := by decide
  omega
theorem wf_i64 {n : Int} (h : (Lit.int .i64 n).wf = true) : -9223372036854775808 ≤ n ∧ n ≤ 9223372036854775807 := by
  have h1 : IntKind.i64.min ≤ n ∧ n ≤ IntKind.i64.max := by simpa [Lit.wf] using h
  have h2 : IntKind.i64.min = -9223372036854775808 := by decide
  have h3 : IntKind.i64.max = 9223372036854775807 := by decide
  omega

theorem grown_drewN (w : World) (m : Nat) : Grown w (w.drewN m) := by
  induction m with
  | zero => exact Grown.refl _
  | succ m ih => exact Grown.drew (w' := w.drewN m) ih
end Go.Proofs.YtbmcanpjpibecaaDoor
