/- What insn.Check and the document's own Check give. -/
import Derived.Test.YtbmcanpjpibecaaDoorRow
import Derived.Handy
import Derived.Test.YtbmcanpjpibecaaDoorCalls
namespace Go.Proofs.YtbmcanpjpibecaaDoor
open Go.RowKit

theorem i64_and1 (n : Int) : bits .and .i64 n 1 = n % 2 := by
  have h1 : (BitVec.ofInt 64 1).toNat = 2 ^ 1 - 1 := by decide
  have key : (BitVec.ofInt 64 n &&& BitVec.ofInt 64 1).toNat = (n % ((2 ^ 64 : Nat) : Int)).toNat % 2 ^ 1 := by
    rw [BitVec.toNat_and, BitVec.toNat_ofInt, h1, Nat.and_two_pow_sub_one_eq_mod]
  show IntKind.i64.wrap ((BitVec.ofInt 64 n &&& BitVec.ofInt 64 1).toNat : Nat) = n % 2
  rw [key, IntKind.wrap_i64]
  omega

theorem isEven_walk (v : Int) (w : World) : Calls Tryd.prog 49 #[.int .i64 v] w fun e w' => e = .returned (.bool (decide (v % 2 = 0))) ∧ w' = w := by
  go_enter Tryd.func49, Tryd.ntmps49
  go_wp2
  rw [i64_and1]
  go_ret
  exact ⟨rfl, rfl⟩

theorem isPlain_walk (v : Int) (n : Nat) (hn : n ≤ 20) (w : World) : Calls Tryd.prog 48 #[.int .i64 v, .int .i64 n] w fun e w' => e = .returned (.bool (decide (0 ≤ v ∧ v < 2 ^ n))) ∧ w' = w := by
  have p3 : (2 : Int) ^ n ≤ 2 ^ 20 := two_pow_le' hn
  have p4 := two_pow_pos' n
  go_enter Tryd.func48, Tryd.ntmps48
  go_wp2
  all_goals (go_ret; refine ⟨?_, rfl⟩; simp [*])
  all_goals omega

theorem mayBeReg_walk (r : Int) (has : Bool) (w : World) : Calls Tryd.prog 26 #[.int .i64 r, .bool has] w fun e w' => e = .returned (.bool (decide (0 ≤ r ∧ r ≤ 31 ∧ (has = true ∨ r = 0)))) ∧ w' = w := by
  cases has
  all_goals
    go_enter Tryd.func26, Tryd.ntmps26
    go_wp2
    all_goals (go_ret; refine ⟨?_, rfl⟩; simp [*])
    all_goals first | omega | (rw [Bool.eq_iff_iff]; simp; omega)

/-- The forms' letters, and what each form has. -/
def letters : List Int := [85, 74, 76, 66, 83, 73, 54, 82, 53, 70, 78, 67, 90, 108, 65]
def hasRd (c : Int) : Bool := [85, 74, 73, 76, 54, 82, 53, 67, 90, 108, 65].contains c
def hasRs1 (c : Int) : Bool := [73, 76, 66, 83, 54, 53, 82, 67, 90, 108, 65].contains c
def hasRs2 (c : Int) : Bool := [66, 83, 82, 65].contains c
def lowOf (c : Int) : Int := if c = 74 then -1048576 else if c = 66 then -4096 else if c = 73 ∨ c = 76 ∨ c = 83 then -2048 else 0
def highOf (c : Int) : Int := if c = 85 then 1048575 else if c = 74 then 1048574 else if c = 66 then 4094 else if c = 73 ∨ c = 76 ∨ c = 83 then 2047 else if c = 54 then 63 else if c = 53 then 31 else if c = 70 then 255 else if c = 67 ∨ c = 90 then 4095 else if c = 108 ∨ c = 65 then 3 else 0
def byOf (c : Int) : Int := if c = 74 ∨ c = 66 then 2 else 1
def regOk (has : Bool) (n : Int) : Bool := decide (0 ≤ n ∧ n ≤ 31 ∧ (has = true ∨ n = 0))
def numOk (c v : Int) : Bool := decide (lowOf c ≤ v ∧ v ≤ highOf c ∧ v % byOf c = 0)

theorem formC_letter : ∀ n, n < 94 → (formC n : Int) ∈ letters := by decide +kernel
theorem formV_letter {op : Int} (h : isOp op = true) : formV op ∈ letters := by
  have hb := isOp_true h
  unfold formV
  rw [if_pos h]
  exact formC_letter _ (by omega)

theorem regs_walk (c : Int) (hc : c ∈ letters) (w : World) :
    Calls Tryd.prog 25 #[.int .u8 c] w fun e w' => e = .returned (.tuple #[.bool (hasRd c), .bool (hasRs1 c), .bool (hasRs2 c)]) ∧ w' = w := by
  simp only [letters, List.mem_cons, List.not_mem_nil, or_false] at hc
  rcases hc with rfl | rfl | rfl | rfl | rfl | rfl | rfl | rfl | rfl | rfl | rfl | rfl | rfl | rfl | rfl
  all_goals
    go_enter Tryd.func25, Tryd.ntmps25
    go_wp2
    go_ret3
    exact ⟨rfl, rfl⟩

theorem num_walk (c v : Int) (hc : c ∈ letters) (w : World) :
    Calls Tryd.prog 27 #[.int .i64 v, .int .u8 c] w fun e w' => e = .returned (.bool (numOk c v)) ∧ w' = w := by
  simp only [letters, List.mem_cons, List.not_mem_nil, or_false] at hc
  rcases hc with rfl | rfl | rfl | rfl | rfl | rfl | rfl | rfl | rfl | rfl | rfl | rfl | rfl | rfl | rfl
  all_goals
    go_enter Tryd.func27, Tryd.ntmps27
    go_wp2_with (first
      | (go_at_call 48; refine (isPlain_walk v _ (by decide) _).mono ?_; rintro e w' ⟨rfl, rfl⟩)
      | (go_at_call 49; refine (isEven_walk v _).mono ?_; rintro e w' ⟨rfl, rfl⟩)
      | (go_at_call 50; refine (fits_walk v _ _).mono ?_; rintro e w' ⟨rfl, rfl⟩))
    all_goals
      go_ret
      refine ⟨congrArg (fun b => Ending.returned (Value.bool b)) ?_, rfl⟩
      simp [numOk, lowOf, highOf, byOf, fitsB, *]
      try first | omega | (rw [Bool.eq_iff_iff]; simp; omega)

end Go.Proofs.YtbmcanpjpibecaaDoor
