/- Plain facts on half words that are read: what stands in a row's fields, and that it is had back. -/
import Derived.Test.YtbmcanpjpibecaaDoorCi
namespace Go.Proofs.YtbmcanpjpibecaaDoor
open Go.RowKit

theorem at_field (W a n : Nat) : W &&& ((2 ^ n - 1) * 2 ^ a) = W / 2 ^ a % 2 ^ n * 2 ^ a := by
  refine Nat.eq_of_testBit_eq fun j => ?_
  rw [Nat.testBit_and, Nat.testBit_mul_two_pow, Nat.testBit_mul_two_pow, Nat.testBit_two_pow_sub_one, Nat.testBit_mod_two_pow, Nat.testBit_div_two_pow]
  by_cases h : a ≤ j
  · have e : j - a + a = j := by omega
    simp [h, e, Bool.and_comm]
  · simp [h]
theorem fl3 (H : Nat) : H &&& 28 = H / 4 % 8 * 4 := at_field H 2 3
theorem fl5 (H : Nat) : H &&& 124 = H / 4 % 32 * 4 := at_field H 2 5
theorem fh3 (H : Nat) : H &&& 896 = H / 128 % 8 * 128 := at_field H 7 3
theorem fh5 (H : Nat) : H &&& 3968 = H / 128 % 32 * 128 := at_field H 7 5

/-- The registers that stand in a half word, by a form. -/
def oD (f : UInt8) (x : Int) : Int :=
  if f = 97 then x / 4 % 32 % 8 + 8 else
  if f = 108 then x / 4 % 32 % 8 + 8 else
  if f = 114 then x / 128 % 32 else
  if f = 122 then x / 128 % 32 else
  if f = 117 then x / 128 % 32 else
  if f = 112 then 2 else
  if f = 113 then x / 128 % 32 % 8 + 8 else
  if f = 109 then x / 128 % 32 % 8 + 8 else
  if f = 119 then x / 128 % 32 else
  if f = 75 then 1 else
  if f = 118 then x / 128 % 32 else
  if f = 100 then x / 128 % 32 else
  0
def oS (f : UInt8) (x : Int) : Int :=
  if f = 97 then 2 else
  if f = 108 then x / 128 % 32 % 8 + 8 else
  if f = 115 then x / 128 % 32 % 8 + 8 else
  if f = 114 then x / 128 % 32 else
  if f = 112 then 2 else
  if f = 113 then x / 128 % 32 % 8 + 8 else
  if f = 109 then x / 128 % 32 % 8 + 8 else
  if f = 98 then x / 128 % 32 % 8 + 8 else
  if f = 119 then 2 else
  if f = 74 then x / 128 % 32 else
  if f = 75 then x / 128 % 32 else
  if f = 100 then x / 128 % 32 else
  if f = 116 then 2 else
  0
def oT (f : UInt8) (x : Int) : Int :=
  if f = 115 then x / 4 % 32 % 8 + 8 else
  if f = 109 then x / 4 % 32 % 8 + 8 else
  if f = 118 then x / 4 % 32 else
  if f = 100 then x / 4 % 32 else
  if f = 116 then x / 4 % 32 else
  0
theorem regs_back {f : UInt8} (hf : f ∈ ([97, 108, 115, 110, 106, 114, 122, 117, 112, 113, 109, 98, 119, 74, 75, 118, 100, 116] : List UInt8)) {d s t : Int} (hd : 0 ≤ d ∧ d ≤ 31) (hs : 0 ≤ s ∧ s ≤ 31) (ht : 0 ≤ t ∧ t ≤ 31) (hr : rightB f d s t = true) {H : Nat}
    (hl : H &&& mlF f = (lowV f d s t).toNat * 4) (hh : H &&& mhF f = (hiV f d s t).toNat * 128) : oD f H = d ∧ oS f H = s ∧ oT f H = t := by
  simp only [List.mem_cons, List.not_mem_nil, or_false] at hf
  rcases hf with rfl | rfl | rfl | rfl | rfl | rfl | rfl | rfl | rfl | rfl | rfl | rfl | rfl | rfl | rfl | rfl | rfl | rfl
  all_goals
    simp [rightB, highB] at hr
    simp [mlF, mhF, lowV, hiV, fl3, fl5, fh3, fh5] at hl hh
    simp [oD, oS, oT]
    omega
theorem oReg_range {f : UInt8} (hf : f ∈ ([97, 108, 115, 110, 106, 114, 122, 117, 112, 113, 109, 98, 119, 74, 75, 118, 100, 116] : List UInt8)) (x : Int) : (0 ≤ oD f x ∧ oD f x ≤ 31) ∧ (0 ≤ oS f x ∧ oS f x ≤ 31) ∧ (0 ≤ oT f x ∧ oT f x ≤ 31) := by
  simp only [List.mem_cons, List.not_mem_nil, or_false] at hf
  rcases hf with rfl | rfl | rfl | rfl | rfl | rfl | rfl | rfl | rfl | rfl | rfl | rfl | rfl | rfl | rfl | rfl | rfl | rfl
  all_goals
    simp [oD, oS, oT]
    try omega

/-- The number that stands in a half word, by a row. -/
def oRaw (k H : Nat) : Nat := gathTo H (cPlP k) (cLen k)
def oSg (kd : UInt8) (r v : Int) : Int := if kd = 115 ∨ kd = 110 ∨ kd = 108 then (if r ≤ 2 * v then v - r else v) else v
def oUp (kd : UInt8) (n : Int) : Int := if kd = 108 ∧ n < 0 then n + 1048576 else n
def oImm (k H : Nat) : Int := oUp (cKind k) (oSg (cKind k) (2 ^ cLen k) (oRaw k H)) * cBy k
theorem gath_and (H : Nat) (p : Nat → Int) (len : Nat) : gathTo (H &&& seenTo p len) p len = gathTo H p len := by
  refine Nat.eq_of_testBit_eq fun j => ?_
  rw [Bool.eq_iff_iff, gathTo_bit, gathTo_bit, Nat.testBit_and, Bool.and_eq_true, seenTo_bit]
  constructor
  · rintro ⟨h1, h2, _⟩; exact ⟨h1, h2⟩
  · rintro ⟨h1, h2⟩; exact ⟨h1, h2, j, h1, rfl⟩
theorem raw_back {k : Nat} {d s t imm : Int} (h : Of5 k d s t imm) : (oRaw k (halfN k d s t imm) : Int) = cNum k imm := by
  have hv := (errOf_zero (cPl_ok k h.lt)).2
  have g1 := gath_scat (cNum k imm).toNat hv (by have := cNum_lt k imm; have := cNum_lo k imm; rw [← cast_lt_pow]; omega)
  have hp := half_p h
  unfold oRaw
  rw [← gath_and]
  unfold mpC at hp
  rw [hp]
  unfold cScat
  rw [g1]
  have := cNum_lo k imm
  omega
theorem row_0 : ∀ k, k < 33 → cKind k = 48 → cLen k = 0 := by decide +kernel
theorem imm_back {k : Nat} {d s t imm : Int} (h : Of5 k d s t imm) : oImm k (halfN k d s t imm) = imm := by
  have hl := row_l k h.lt
  have h0 := row_0 k h.lt
  have hf := h.fits
  unfold oImm
  rw [raw_back h]
  unfold cfitsB at hf
  unfold cNum
  rw [Bool.and_eq_true] at hf
  have t1 : cBy k * imm.tdiv (cBy k) = imm := Int.mul_tdiv_cancel_of_tmod_eq_zero (by simpa using hf.1)
  have g := hf.2
  rcases (by simpa only [List.mem_cons, List.not_mem_nil, or_false] using cKind_cases k h.lt) with hc | hc | hc | hc | hc | hc
  · rw [hc] at g ⊢
    rw [h0 hc]
    simp [kindB] at g
    simp [oUp, oSg, g]
  · obtain ⟨hb, hn⟩ := hl hc
    rw [hc] at g ⊢
    rw [hb, hn]
    simp [kindB] at g
    simp only [Int.tdiv_one]
    rw [if_neg (by omega)]
    simp [oUp, oSg]
    split <;> split <;> omega
  all_goals
    rw [hc] at g ⊢
    simp [kindB] at g
    have t2 : imm.tdiv (cBy k) * cBy k = imm := by rw [Int.mul_comm]; exact t1
    refine Eq.trans (congrArg (· * cBy k) ?_) t2
    clear t1 t2 hf
    generalize imm.tdiv (cBy k) = v at g ⊢
    generalize (2 : Int) ^ cLen k = r at g ⊢
    first
    | (rw [g_pos (by omega) (by omega)]; simp [oUp, oSg])
    | (rw [g_sg (by omega) (by omega)]; simp [oUp, oSg]; split <;> split <;> omega)
end Go.Proofs.YtbmcanpjpibecaaDoor
