/- Plain facts on numbers and bits, with no Go in sight: masks, fields, signs. -/
import Derived.Laws.BitsAllLaws
import Derived.RowKit
namespace Go.Proofs.YtbmcanpjpibecaaDoor
open Go.RowKit

theorem two_pow_pos' (n : Nat) : (0 : Int) < 2 ^ n := Int.pow_pos (by decide)
theorem two_pow_le' {a b : Nat} (h : a ≤ b) : (2 : Int) ^ a ≤ 2 ^ b := by
  have := Nat.pow_le_pow_right (n := 2) (by decide) h
  exact_mod_cast this
theorem two_pow_lt' {a b : Nat} (h : a < b) : (2 : Int) ^ a < 2 ^ b := by
  have := Nat.pow_lt_pow_right (a := 2) (by decide) h
  exact_mod_cast this

theorem emod_le_self' {a b : Int} (ha : 0 ≤ a) (hb : 0 < b) : a % b ≤ a := by
  have h1 := Int.mul_ediv_add_emod a b
  have h2 : 0 ≤ b * (a / b) := Int.mul_nonneg (by omega) (Int.ediv_nonneg ha (by omega))
  omega

theorem cast_mask (n : Nat) : ((2 ^ n - 1 : Nat) : Int) = 2 ^ n - 1 := by
  have := Nat.one_le_two_pow (n := n)
  rw [Int.ofNat_sub this]; simp

theorem mask_num (n : Nat) (h : n ≤ 32) : IntKind.u64.wrap (IntKind.u64.wrap (2 ^ n) - 1) % 4294967296 = 2 ^ n - 1 := by
  have h' : ∀ k : Fin 33, IntKind.u64.wrap (IntKind.u64.wrap (2 ^ k.val) - 1) % 4294967296 = 2 ^ k.val - 1 := by decide
  exact h' ⟨n, by omega⟩

theorem mask_lt (n : Nat) (h : n ≤ 32) : 2 ^ n - 1 < 4294967296 := by
  have := Nat.pow_le_pow_right (n := 2) (by decide) h
  omega

theorem and_mask (x a n : Nat) (hx : x < 4294967296) (h : n ≤ 32) :
    bits .and .u32 ((x : Int) / 2 ^ a) (2 ^ n - 1) = (x : Int) / 2 ^ a % 2 ^ n := by
  have e1 : ((x / 2 ^ a : Nat) : Int) = (x : Int) / 2 ^ a := by simp
  rw [← e1, ← cast_mask n, u32_and_nat _ _ (Nat.lt_of_le_of_lt (Nat.div_le_self _ _) hx) (mask_lt n h), Nat.and_two_pow_sub_one_eq_mod]
  simp

/-- the word with a field put into it -/
def putN (x a n v : Nat) : Nat := (x &&& (4294967295 - (2 ^ n - 1) * 2 ^ a)) ||| (v * 2 ^ a)

theorem maskAt_lt (a n : Nat) (h : a + n ≤ 32) : (2 ^ n - 1) * 2 ^ a < 2 ^ 32 := by
  have h1 : (2 ^ n - 1) * 2 ^ a < 2 ^ n * 2 ^ a := Nat.mul_lt_mul_of_pos_right (by have := Nat.one_le_two_pow (n := n); omega) (Nat.two_pow_pos a)
  rw [← Nat.pow_add] at h1
  exact Nat.lt_of_lt_of_le h1 (Nat.pow_le_pow_right (by decide) (by omega))

theorem fieldAt_lt (a n v : Nat) (h : a + n ≤ 32) (hv : v < 2 ^ n) : v * 2 ^ a < 2 ^ 32 :=
  Nat.lt_of_le_of_lt (Nat.mul_le_mul_right _ (by omega : v ≤ 2 ^ n - 1)) (maskAt_lt a n h)

theorem putN_bit (x a n v : Nat) (hx : x < 2 ^ 32) (h : a + n ≤ 32) (hv : v < 2 ^ n) (j : Nat) :
    (putN x a n v).testBit j = if a ≤ j ∧ j < a + n then v.testBit (j - a) else x.testBit j := by
  have hm := maskAt_lt a n h
  have e : 4294967295 - (2 ^ n - 1) * 2 ^ a = 2 ^ 32 - ((2 ^ n - 1) * 2 ^ a + 1) := by omega
  unfold putN
  rw [e, Nat.testBit_or, Nat.testBit_and, Nat.testBit_two_pow_sub_succ hm, Nat.testBit_mul_two_pow, Nat.testBit_mul_two_pow, Nat.testBit_two_pow_sub_one]
  by_cases h1 : a ≤ j
  · by_cases h2 : j < a + n
    · have h3 : j - a < n := by omega
      simp [h1, h2, h3]
    · have h3 : ¬ j - a < n := by omega
      have hvj : v.testBit (j - a) = false := Nat.testBit_lt_two_pow (Nat.lt_of_lt_of_le hv (Nat.pow_le_pow_right (by decide) (by omega)))
      by_cases h4 : j < 32
      · simp [h2, h3, hvj, h4]
      · have hxj : x.testBit j = false := Nat.testBit_lt_two_pow (Nat.lt_of_lt_of_le hx (Nat.pow_le_pow_right (by decide) (by omega)))
        simp [h2, h3, hvj, hxj]
  · have h4 : j < 32 := by omega
    simp [h1, h4]

theorem putN_lt (x a n v : Nat) (hx : x < 2 ^ 32) (h : a + n ≤ 32) (hv : v < 2 ^ n) : putN x a n v < 2 ^ 32 := by
  refine Nat.lt_pow_two_of_testBit _ fun j hj => ?_
  rw [putN_bit x a n v hx h hv, if_neg (by omega)]
  exact Nat.testBit_lt_two_pow (Nat.lt_of_lt_of_le hx (Nat.pow_le_pow_right (by decide) hj))

theorem putN_sum (x a n v : Nat) (hx : x < 2 ^ 32) (h : a + n ≤ 32) (hv : v < 2 ^ n) :
    putN x a n v = 2 ^ (a + n) * (x / 2 ^ (a + n)) + (2 ^ a * v + x % 2 ^ a) := by
  refine Nat.eq_of_testBit_eq fun j => ?_
  have hl : x % 2 ^ a < 2 ^ a := Nat.mod_lt _ (Nat.two_pow_pos a)
  have hl2 : 2 ^ a * v + x % 2 ^ a < 2 ^ (a + n) := by
    have h1 : 2 ^ a * (v + 1) ≤ 2 ^ a * 2 ^ n := Nat.mul_le_mul_left _ (by omega)
    rw [Nat.mul_add, Nat.mul_one, ← Nat.pow_add] at h1
    omega
  rw [putN_bit x a n v hx h hv, Nat.testBit_two_pow_mul_add _ hl2, Nat.testBit_two_pow_mul_add _ hl, Nat.testBit_div_two_pow, Nat.testBit_mod_two_pow]
  by_cases h1 : j < a
  · have : ¬ a ≤ j := by omega
    have h2 : j < a + n := by omega
    simp [h1, h2, this]
  · have h3 : a ≤ j := by omega
    by_cases h2 : j < a + n
    · simp [h1, h2, h3]
    · have : j - (a + n) + (a + n) = j := by omega
      simp [h2, this]

/-- the document's own sum for it -/
theorem putN_doc (x a n v : Nat) (hx : x < 2 ^ 32) (h : a + n ≤ 32) (hv : v < 2 ^ n) :
    ((putN x a n v : Nat) : Int) = (x : Int) - (x : Int) / 2 ^ a % 2 ^ n * 2 ^ a + v * 2 ^ a := by
  have e1 : x = 2 ^ (a + n) * (x / 2 ^ (a + n)) + (2 ^ a * (x / 2 ^ a % 2 ^ n) + x % 2 ^ a) := by
    have b1 := Nat.div_add_mod x (2 ^ a)
    have b2 := Nat.div_add_mod (x / 2 ^ a) (2 ^ n)
    rw [Nat.div_div_eq_div_mul, ← Nat.pow_add] at b2
    have b3 : 2 ^ a * (2 ^ n * (x / 2 ^ (a + n)) + x / 2 ^ a % 2 ^ n) = 2 ^ a * (x / 2 ^ a) := by rw [b2]
    rw [Nat.mul_add, ← Nat.mul_assoc, ← Nat.pow_add] at b3
    omega
  have e2 := putN_sum x a n v hx h hv
  have c1 : ((x / 2 ^ a % 2 ^ n : Nat) : Int) = (x : Int) / 2 ^ a % 2 ^ n := by simp
  have c2 : ((2 ^ a : Nat) : Int) = (2 : Int) ^ a := by simp
  rw [← c1, ← c2, ← Int.natCast_mul, ← Int.natCast_mul]
  have d1 : x / 2 ^ a % 2 ^ n * 2 ^ a = 2 ^ a * (x / 2 ^ a % 2 ^ n) := Nat.mul_comm _ _
  have d2 : v * 2 ^ a = 2 ^ a * v := Nat.mul_comm _ _
  rw [d1, d2]
  generalize 2 ^ a * (x / 2 ^ a % 2 ^ n) = p at *
  generalize 2 ^ a * v = q at *
  generalize 2 ^ (a + n) * (x / 2 ^ (a + n)) = r at *
  generalize x % 2 ^ a = s at *
  omega

theorem two_pow_half {n : Nat} (h : 1 ≤ n) : (2 : Int) ^ n = 2 * 2 ^ (n - 1) := by
  obtain ⟨m, rfl⟩ : ∃ m, n = m + 1 := ⟨n - 1, by omega⟩
  rw [Int.pow_succ, Nat.add_sub_cancel, Int.mul_comm]

theorem put_num (x a n v : Nat) (hx : x < 4294967296) (h : a + n ≤ 32) (hv : v < 2 ^ n) :
    bits .or .u32 (bits .andNot .u32 (x : Int) ((2 ^ n - 1) * 2 ^ a % 4294967296)) ((v : Int) * 2 ^ a % 4294967296) = (putN x a n v : Nat) := by
  have h1 := maskAt_lt a n h
  have h2 := fieldAt_lt a n v h hv
  have e1 : ((2 : Int) ^ n - 1) * 2 ^ a % 4294967296 = (((2 ^ n - 1) * 2 ^ a : Nat) : Int) := by
    rw [← cast_mask n]
    have : ((2 ^ n - 1 : Nat) : Int) * 2 ^ a = (((2 ^ n - 1) * 2 ^ a : Nat) : Int) := by rw [Int.natCast_mul]; simp
    rw [this]
    generalize (2 ^ n - 1) * 2 ^ a = z at *
    omega
  have e2 : (v : Int) * 2 ^ a % 4294967296 = ((v * 2 ^ a : Nat) : Int) := by
    have : (v : Int) * 2 ^ a = ((v * 2 ^ a : Nat) : Int) := by simp
    rw [this]
    generalize v * 2 ^ a = z at *
    omega
  rw [e1, e2, u32_andNot_nat _ _ hx (by omega)]
  have h3 : x &&& 4294967295 - (2 ^ n - 1) * 2 ^ a < 4294967296 := Nat.lt_of_le_of_lt Nat.and_le_left hx
  rw [u32_or_nat _ _ h3 (by omega)]
  rfl

theorem shl_num (v a : Nat) (h : v * 2 ^ a < 2 ^ 32) : ((v * 2 ^ a : Nat) : Int) % 4294967296 = ((v * 2 ^ a : Nat) : Int) := by omega
end Go.Proofs.YtbmcanpjpibecaaDoor
