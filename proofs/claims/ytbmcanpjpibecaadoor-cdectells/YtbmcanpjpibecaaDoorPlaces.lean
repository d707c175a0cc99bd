/- Plain facts on bits at places, with no Go in sight: sets of bits in one word, what is scattered, what is gathered. -/
import Derived.Test.YtbmcanpjpibecaaDoorMath
namespace Go.Proofs.YtbmcanpjpibecaaDoor
open Go.RowKit

/-- the first k numbers are places: each from 0 to 31, no two the same -/
def vld (p : Nat → Int) (k : Nat) : Prop := ∀ i, i < k → (0 ≤ p i ∧ p i < 32) ∧ ∀ j, j < i → p j ≠ p i

def vldB (p : Nat → Int) (k : Nat) : Bool := decide (∀ i, i < k → (0 ≤ p i ∧ p i < 32) ∧ ∀ j, j < i → p j ≠ p i)
theorem vldB_iff (p : Nat → Int) (k : Nat) : vldB p k = true ↔ vld p k := decide_eq_true_iff

/-- the error of places -/
def errOf (p : Nat → Int) (len : Nat) : Int := if 32 < len then 4 else if vldB p len = true then 0 else 2

theorem errOf_many {p : Nat → Int} {len : Nat} (h : 32 < len) : errOf p len = 4 := if_pos h
theorem errOf_ok {p : Nat → Int} {len : Nat} (h : ¬ 32 < len) (hv : vld p len) : errOf p len = 0 := by unfold errOf; rw [if_neg h, if_pos ((vldB_iff p len).mpr hv)]
theorem errOf_bad {p : Nat → Int} {len : Nat} (h : ¬ 32 < len) (hv : ¬ vld p len) : errOf p len = 2 := by unfold errOf; rw [if_neg h, if_neg (fun h' => hv ((vldB_iff p len).mp h'))]
theorem errOf_zero {p : Nat → Int} {len : Nat} (h : errOf p len = 0) : len ≤ 32 ∧ vld p len := by
  unfold errOf at h
  split at h
  · omega
  · split at h
    · exact ⟨by omega, (vldB_iff p len).mp (by assumption)⟩
    · omega
theorem errOf_lo (p : Nat → Int) (len : Nat) : 0 ≤ errOf p len := by unfold errOf; split; decide; split <;> decide
theorem errOf_hi (p : Nat → Int) (len : Nat) : errOf p len ≤ 4 := by unfold errOf; split; decide; split <;> decide

theorem vld_zero (p : Nat → Int) : vld p 0 := fun i h => by omega
theorem vld_succ {p : Nat → Int} {k : Nat} (h : vld p k) (h1 : 0 ≤ p k) (h2 : p k < 32) (h3 : ∀ j, j < k → p j ≠ p k) : vld p (k + 1) := by
  intro i hi
  by_cases hk : i = k
  · subst hk; exact ⟨⟨h1, h2⟩, h3⟩
  · exact h i (by omega)
theorem vld_at {p : Nat → Int} {n k : Nat} (h : vld p n) (hk : k < n) : 0 ≤ p k ∧ p k < 32 := (h k hk).1
theorem vld_le {p : Nat → Int} {n k : Nat} (h : vld p n) (hk : k ≤ n) : vld p k := fun i hi => h i (by omega)
theorem vld_inj {p : Nat → Int} {n i j : Nat} (h : vld p n) (hi : i < n) (hj : j < n) (e : p i = p j) : i = j := by
  rcases Nat.lt_trichotomy i j with hl | hl | hl
  · exact absurd e ((h j hj).2 i hl)
  · exact hl
  · exact absurd e.symm ((h i hi).2 j hl)

/-- the first k words of a row, joined bit by bit -/
def orTo (f : Nat → Nat) : Nat → Nat
  | 0 => 0
  | k + 1 => orTo f k ||| f k

/-- .. and added -/
def sumTo (f : Nat → Nat) : Nat → Nat
  | 0 => 0
  | k + 1 => sumTo f k + f k

theorem orTo_bit (f : Nat → Nat) (k j : Nat) : (orTo f k).testBit j = true ↔ ∃ i, i < k ∧ (f i).testBit j = true := by
  induction k with
  | zero => simp [orTo]
  | succ k ih =>
    simp only [orTo, Nat.testBit_or, Bool.or_eq_true, ih]
    constructor
    · rintro (⟨i, hi, h⟩ | h)
      · exact ⟨i, by omega, h⟩
      · exact ⟨k, by omega, h⟩
    · rintro ⟨i, hi, h⟩
      by_cases hk : i = k
      · subst hk; exact .inr h
      · exact .inl ⟨i, by omega, h⟩

theorem orTo_lt (f : Nat → Nat) (k m : Nat) (h : ∀ i, i < k → f i < 2 ^ m) : orTo f k < 2 ^ m := by
  induction k with
  | zero => exact Nat.two_pow_pos m
  | succ k ih => exact Nat.or_lt_two_pow (ih fun i hi => h i (by omega)) (h k (by omega))

/-- one bit that is not there is added by joining it -/
theorem or_bit_add (s q : Nat) (h : s.testBit q = false) : s ||| 2 ^ q = s + 2 ^ q := by
  have h0 := Nat.div_add_mod s (2 ^ q)
  have hl : s % 2 ^ q < 2 ^ q := Nat.mod_lt _ (Nat.two_pow_pos q)
  have he : s / 2 ^ q % 2 = 0 := by
    rw [Nat.testBit_eq_decide_div_mod_eq] at h
    have h' := of_decide_eq_false h
    omega
  have e1 : s + 2 ^ q = 2 ^ q * (s / 2 ^ q + 1) + s % 2 ^ q := by rw [Nat.mul_add, Nat.mul_one]; omega
  refine Nat.eq_of_testBit_eq fun j => ?_
  rw [e1, Nat.testBit_two_pow_mul_add _ hl, Nat.testBit_or, Nat.testBit_two_pow]
  by_cases hj : j < q
  · have : ¬ q = j := by omega
    simp [hj, this]
  · rw [if_neg hj]
    by_cases hq : q = j
    · subst hq
      have : (s / 2 ^ q + 1).testBit 0 = true := by rw [Nat.testBit_zero]; exact decide_eq_true (by omega)
      simp [this]
    · obtain ⟨d, rfl⟩ : ∃ d, j = q + (d + 1) := ⟨j - q - 1, by omega⟩
      have e2 : q + (d + 1) - q = d + 1 := by omega
      rw [e2, Nat.testBit_succ]
      have e3 : (s / 2 ^ q + 1) / 2 = s / 2 ^ q / 2 := by omega
      rw [e3, ← Nat.testBit_succ, Nat.testBit_div_two_pow]
      have e4 : d + 1 + q = q + (d + 1) := by omega
      simp [e4]

theorem bit_two (x i : Nat) : x / 2 ^ i % 2 = if x.testBit i then 1 else 0 := by
  rw [Nat.testBit_eq_decide_div_mod_eq]
  by_cases h : x / 2 ^ i % 2 = 1
  · simp [h]
  · simp [h]; omega

theorem bit_at (x i q j : Nat) : (x / 2 ^ i % 2 * 2 ^ q).testBit j = (decide (q = j) && x.testBit i) := by
  rw [bit_two]
  by_cases h : x.testBit i = true
  · simp [h, Nat.testBit_two_pow]
  · simp [h]

/-- the set of the first k places, as bits of one word -/
def seenTo (p : Nat → Int) (k : Nat) : Nat := orTo (fun i => 2 ^ (p i).toNat) k
/-- bit i of v at place p i -/
def scatTo (v : Nat) (p : Nat → Int) (k : Nat) : Nat := orTo (fun i => v / 2 ^ i % 2 * 2 ^ (p i).toNat) k
/-- bit p i of w at place i -/
def gathTo (w : Nat) (p : Nat → Int) (k : Nat) : Nat := orTo (fun i => w / 2 ^ (p i).toNat % 2 * 2 ^ i) k

theorem seenTo_bit (p : Nat → Int) (k j : Nat) : (seenTo p k).testBit j = true ↔ ∃ i, i < k ∧ (p i).toNat = j := by
  simp [seenTo, orTo_bit, Nat.testBit_two_pow]
theorem scatTo_bit (v : Nat) (p : Nat → Int) (k j : Nat) : (scatTo v p k).testBit j = true ↔ ∃ i, i < k ∧ (p i).toNat = j ∧ v.testBit i = true := by
  simp [scatTo, orTo_bit, bit_at]
theorem gathTo_bit (w : Nat) (p : Nat → Int) (k j : Nat) : (gathTo w p k).testBit j = true ↔ j < k ∧ w.testBit (p j).toNat = true := by
  simp only [gathTo, orTo_bit, bit_at, Bool.and_eq_true, decide_eq_true_eq]
  constructor
  · rintro ⟨i, hi, rfl, h⟩; exact ⟨hi, h⟩
  · rintro ⟨hj, h⟩; exact ⟨j, hj, rfl, h⟩

theorem pow_lt32 {q : Nat} (h : q < 32) : 2 ^ q < 2 ^ 32 := Nat.pow_lt_pow_right (by decide) h

theorem seenTo_lt {p : Nat → Int} {k : Nat} (h : vld p k) : seenTo p k < 2 ^ 32 :=
  orTo_lt _ _ _ fun i hi => pow_lt32 (by have := vld_at h hi; omega)

theorem bit_le (x i q : Nat) : x / 2 ^ i % 2 * 2 ^ q ≤ 2 ^ q := by
  have : x / 2 ^ i % 2 ≤ 1 := by omega
  have := Nat.mul_le_mul_right (2 ^ q) this
  omega

theorem scatTo_lt {p : Nat → Int} {k : Nat} (v : Nat) (h : vld p k) : scatTo v p k < 2 ^ 32 :=
  orTo_lt _ _ _ fun i hi => Nat.lt_of_le_of_lt (bit_le _ _ _) (pow_lt32 (by have := vld_at h hi; omega))

theorem gathTo_lt (w : Nat) (p : Nat → Int) (k : Nat) : gathTo w p k < 2 ^ k := by
  refine Nat.lt_pow_two_of_testBit _ fun j hj => ?_
  cases hb : (gathTo w p k).testBit j with
  | false => rfl
  | true => have := (gathTo_bit w p k j).mp hb; omega

/-- joined is added: what is scattered -/
theorem scatTo_sum {p : Nat → Int} {k : Nat} (v : Nat) (h : vld p k) : scatTo v p k = sumTo (fun i => v / 2 ^ i % 2 * 2 ^ (p i).toNat) k := by
  induction k with
  | zero => rfl
  | succ k ih =>
    have ih := ih (vld_le h (by omega))
    have e : scatTo v p (k + 1) = scatTo v p k ||| (v / 2 ^ k % 2 * 2 ^ (p k).toNat) := rfl
    rw [e]
    simp only [sumTo]
    rw [← ih, bit_two]
    by_cases hb : v.testBit k = true
    · simp only [hb, if_true, Nat.one_mul]
      refine or_bit_add _ _ ?_
      cases hs : (scatTo v p k).testBit (p k).toNat with
      | false => rfl
      | true =>
        obtain ⟨i, hi, hpi, -⟩ := (scatTo_bit v p k _).mp hs
        have h1 := vld_at h (k := i) (by omega)
        have h2 := vld_at h (k := k) (by omega)
        have := vld_inj h (i := i) (j := k) (by omega) (by omega) (by omega)
        omega
    · simp [hb]

theorem gathTo_sum (w : Nat) (p : Nat → Int) (k : Nat) : gathTo w p k = sumTo (fun i => w / 2 ^ (p i).toNat % 2 * 2 ^ i) k := by
  induction k with
  | zero => rfl
  | succ k ih =>
    have e : gathTo w p (k + 1) = gathTo w p k ||| (w / 2 ^ (p k).toNat % 2 * 2 ^ k) := rfl
    rw [e]
    simp only [sumTo]
    rw [← ih, bit_two]
    by_cases hb : w.testBit (p k).toNat = true
    · simp only [hb, if_true, Nat.one_mul]
      exact or_bit_add _ _ (Nat.testBit_lt_two_pow (gathTo_lt w p k))
    · simp [hb]

/-- what was scattered is gathered -/
theorem gath_scat {p : Nat → Int} {k : Nat} (v : Nat) (h : vld p k) (hv : v < 2 ^ k) : gathTo (scatTo v p k) p k = v := by
  refine Nat.eq_of_testBit_eq fun j => ?_
  rw [Bool.eq_iff_iff, gathTo_bit, scatTo_bit]
  constructor
  · rintro ⟨hj, i, hi, hpi, hb⟩
    have h1 := vld_at h hi
    have h2 := vld_at h hj
    have := vld_inj h hi hj (by omega)
    subst this; exact hb
  · intro hb
    by_cases hj : j < k
    · exact ⟨hj, j, hj, rfl, hb⟩
    · rw [Nat.testBit_lt_two_pow (Nat.lt_of_lt_of_le hv (Nat.pow_le_pow_right (by decide) (by omega)))] at hb
      cases hb

/-- what is gathered, scattered, is the word's bits at these places -/
theorem scat_gath (w : Nat) (p : Nat → Int) (k : Nat) : scatTo (gathTo w p k) p k = w &&& seenTo p k := by
  refine Nat.eq_of_testBit_eq fun j => ?_
  rw [Bool.eq_iff_iff, scatTo_bit, Nat.testBit_and, Bool.and_eq_true, seenTo_bit]
  constructor
  · rintro ⟨i, hi, rfl, hb⟩
    exact ⟨((gathTo_bit w p k i).mp hb).2, i, hi, rfl⟩
  · rintro ⟨hb, i, hi, rfl⟩
    exact ⟨i, hi, rfl, (gathTo_bit w p k i).mpr ⟨hi, hb⟩⟩

theorem seenTo_succ (p : Nat → Int) (k : Nat) : seenTo p (k + 1) = seenTo p k ||| 2 ^ (p k).toNat := rfl
theorem scatTo_succ (v : Nat) (p : Nat → Int) (k : Nat) : scatTo v p (k + 1) = scatTo v p k ||| (v / 2 ^ k % 2 * 2 ^ (p k).toNat) := rfl
theorem gathTo_succ (w : Nat) (p : Nat → Int) (k : Nat) : gathTo w p (k + 1) = gathTo w p k ||| (w / 2 ^ (p k).toNat % 2 * 2 ^ k) := rfl
end Go.Proofs.YtbmcanpjpibecaaDoor
