/- Plain facts on short forms: each field is had back of its half word. -/
import Derived.Test.YtbmcanpjpibecaaDoorHf
namespace Go.Proofs.YtbmcanpjpibecaaDoor
open Go.RowKit

/-- The bits at which a form's registers stand. -/
def mlF (f : UInt8) : Nat := if f ∈ ([97, 108, 115, 109] : List UInt8) then 28 else if f ∈ ([118, 100, 116] : List UInt8) then 124 else 0
def mhF (f : UInt8) : Nat := if f ∈ ([108, 115, 113, 109, 98] : List UInt8) then 896 else if f ∈ ([114, 122, 117, 119, 74, 75, 118, 100] : List UInt8) then 3968 else 0
def mpC (k : Nat) : Nat := seenTo (cPlP k) (cLen k)
/-- The bits that are no field's. -/
def fixC (k : Nat) : Nat := 65535 - (mlF (cForm k) ||| mhF (cForm k) ||| mpC k)
theorem c12 : ∀ k, k < 33 → mlF (cForm k) &&& mhF (cForm k) = 0 := by decide +kernel
theorem c13 : ∀ k, k < 33 → mlF (cForm k) &&& mpC k = 0 := by decide +kernel
theorem c23 : ∀ k, k < 33 → mhF (cForm k) &&& mpC k = 0 := by decide +kernel
theorem c1f : ∀ k, k < 33 → mlF (cForm k) &&& fixC k = 0 := by decide +kernel
theorem c2f : ∀ k, k < 33 → mhF (cForm k) &&& fixC k = 0 := by decide +kernel
theorem c3f : ∀ k, k < 33 → mpC k &&& fixC k = 0 := by decide +kernel
theorem cbf : ∀ k, k < 33 → cBits k &&& fixC k = cBits k := by decide +kernel
theorem clow : ∀ k, k < 33 → cBits k % 4 ≠ 3 ∧ fixC k &&& 3 = 3 := by decide +kernel
/-- Rows whose fixed bits do not part them: their registers do. -/
def twins : List (Nat × Nat) := [(5, 6), (9, 10), (26, 27), (28, 29), (28, 30), (29, 30)]
def twinB (i j : Nat) : Bool := twins.any fun p => (p.1 == i && p.2 == j) || (p.1 == j && p.2 == i)
theorem capart : ∀ i, i < 33 → ∀ j, j < 33 → cBits i &&& fixC j = cBits j &&& fixC i → i = j ∨ twinB i j = true := by decide +kernel
theorem f8l : ∀ x : Nat, x < 8 → x * 4 &&& 28 = x * 4 := by decide
theorem f32l : ∀ x : Nat, x < 32 → x * 4 &&& 124 = x * 4 := by decide
theorem f8h : ∀ x : Nat, x < 8 → x * 128 &&& 896 = x * 128 := by decide
theorem f32h : ∀ x : Nat, x < 32 → x * 128 &&& 3968 = x * 128 := by decide

theorem high_true {n : Int} (h : highB n = true) : 8 ≤ n ∧ n ≤ 15 := of_decide_eq_true h
/-- What stands of registers that are right. -/
theorem regs_ok {f : UInt8} (hf : f ∈ ([97, 108, 115, 110, 106, 114, 122, 117, 112, 113, 109, 98, 119, 74, 75, 118, 100, 116] : List UInt8)) {d s t : Int} (hr : rightB f d s t = true) (hd : 0 ≤ d ∧ d ≤ 31) (hs : 0 ≤ s ∧ s ≤ 31) (ht : 0 ≤ t ∧ t ≤ 31) :
    0 ≤ lowV f d s t ∧ 0 ≤ hiV f d s t ∧ (lowV f d s t).toNat * 4 &&& mlF f = (lowV f d s t).toNat * 4 ∧ (hiV f d s t).toNat * 128 &&& mhF f = (hiV f d s t).toNat * 128 := by
  simp only [List.mem_cons, List.not_mem_nil, or_false] at hf
  rcases hf with rfl | rfl | rfl | rfl | rfl | rfl | rfl | rfl | rfl | rfl | rfl | rfl | rfl | rfl | rfl | rfl | rfl | rfl
  all_goals
    simp [rightB, highB] at hr
    simp [lowV, hiV, mlF, mhF]
    repeat' (first | omega | exact f8l _ (by omega) | exact f32l _ (by omega) | exact f8h _ (by omega) | exact f32h _ (by omega) | refine ⟨?_, ?_⟩)

theorem cor_add {a b : Nat} (ha : a < 65536) (hb : b < 65536) (h : a &&& b = 0) : a ||| b = a + b := by
  have e := BitVec.add_eq_or_of_and_eq_zero (w := 40) (BitVec.ofNat 40 a) (BitVec.ofNat 40 b) (by rw [← BitVec.ofNat_and, h])
  have e2 := congrArg BitVec.toNat e
  rw [BitVec.toNat_or, BitVec.toNat_add, BitVec.toNat_ofNat, BitVec.toNat_ofNat, Nat.mod_eq_of_lt (by omega), Nat.mod_eq_of_lt (by omega), Nat.mod_eq_of_lt (by omega)] at e2
  exact e2.symm

theorem czero {x m m' : Nat} (h : x &&& m = x) (hm : m &&& m' = 0) : x &&& m' = 0 := by rw [← h, Nat.and_assoc, hm, Nat.and_zero]
theorem czero' {x m m' : Nat} (h : x &&& m = x) (hm : m' &&& m = 0) : x &&& m' = 0 := czero h (by rw [Nat.and_comm]; exact hm)
theorem capart_of {x y m m' : Nat} (hx : x &&& m = x) (hy : y &&& m' = y) (h : m &&& m' = 0) : x &&& y = 0 := by
  have h1 := czero hx h
  rw [← hy, Nat.and_comm y m', ← Nat.and_assoc, h1, Nat.zero_and]
theorem cscat_sub (k : Nat) (imm : Int) : cScat k imm &&& mpC k = cScat k imm := by
  refine Nat.eq_of_testBit_eq fun j => ?_
  rw [Nat.testBit_and]
  cases h : (cScat k imm).testBit j
  · rfl
  · obtain ⟨i, hi, hp, _⟩ := (scatTo_bit _ _ _ j).mp h
    rw [show (mpC k).testBit j = true from (seenTo_bit _ _ j).mpr ⟨i, hi, hp⟩]
    rfl
theorem clt : ∀ k, k < 33 → mlF (cForm k) < 65536 ∧ mhF (cForm k) < 65536 ∧ mpC k < 65536 ∧ cBits k < 65536 := by decide +kernel
theorem sub_lt {x m : Nat} (h : x &&& m = x) (hm : m < 65536) : x < 65536 := by
  have : x &&& m ≤ m := Nat.and_le_right
  omega

/-- What a row, and registers that are right for it, give. -/
structure Of5 (k : Nat) (d s t imm : Int) : Prop where
  lt : k < 33
  right : rightB (cForm k) d s t = true
  fits : cfitsB (cKind k) (cBy k) (cLen k) imm = true
  d : 0 ≤ d ∧ d ≤ 31
  s : 0 ≤ s ∧ s ≤ 31
  t : 0 ≤ t ∧ t ≤ 31
def lN (k : Nat) (d s t : Int) : Nat := (lowV (cForm k) d s t).toNat * 4
def hN (k : Nat) (d s t : Int) : Nat := (hiV (cForm k) d s t).toNat * 128
def halfN (k : Nat) (d s t imm : Int) : Nat := cBits k ||| lN k d s t ||| hN k d s t ||| cScat k imm
theorem Of5.l {k : Nat} {d s t imm : Int} (h : Of5 k d s t imm) : lN k d s t &&& mlF (cForm k) = lN k d s t := (regs_ok (cForm_cases k h.lt) h.right h.d h.s h.t).2.2.1
theorem Of5.h {k : Nat} {d s t imm : Int} (h : Of5 k d s t imm) : hN k d s t &&& mhF (cForm k) = hN k d s t := (regs_ok (cForm_cases k h.lt) h.right h.d h.s h.t).2.2.2
theorem cand4 (b x y z m : Nat) : (b ||| x ||| y ||| z) &&& m = (b &&& m) ||| (x &&& m) ||| (y &&& m) ||| (z &&& m) := by
  simp only [Nat.and_or_distrib_right]
theorem half_l {k : Nat} {d s t imm : Int} (h : Of5 k d s t imm) : halfN k d s t imm &&& mlF (cForm k) = lN k d s t := by
  unfold halfN
  rw [cand4, czero' (cbf k h.lt) (c1f k h.lt), h.l, czero' h.h (c12 k h.lt), czero' (cscat_sub k imm) (c13 k h.lt)]
  simp
theorem half_h {k : Nat} {d s t imm : Int} (h : Of5 k d s t imm) : halfN k d s t imm &&& mhF (cForm k) = hN k d s t := by
  unfold halfN
  rw [cand4, czero' (cbf k h.lt) (c2f k h.lt), czero h.l (c12 k h.lt), h.h, czero' (cscat_sub k imm) (c23 k h.lt)]
  simp
theorem half_p {k : Nat} {d s t imm : Int} (h : Of5 k d s t imm) : halfN k d s t imm &&& mpC k = cScat k imm := by
  unfold halfN
  rw [cand4, czero' (cbf k h.lt) (c3f k h.lt), czero h.l (c13 k h.lt), czero h.h (c23 k h.lt), cscat_sub]
  simp
theorem half_f {k : Nat} {d s t imm : Int} (h : Of5 k d s t imm) : halfN k d s t imm &&& fixC k = cBits k := by
  unfold halfN
  rw [cand4, cbf k h.lt, czero h.l (c1f k h.lt), czero h.h (c2f k h.lt), czero (cscat_sub k imm) (c3f k h.lt)]
  simp
theorem half_lt {k : Nat} {d s t imm : Int} (h : Of5 k d s t imm) : halfN k d s t imm < 65536 := by
  obtain ⟨l1, l2, l3, l4⟩ := clt k h.lt
  exact Nat.or_lt_two_pow (n := 16) (Nat.or_lt_two_pow (n := 16) (Nat.or_lt_two_pow (n := 16) l4 (sub_lt h.l l1)) (sub_lt h.h l2)) (sub_lt (cscat_sub k imm) l3)
theorem half_num {k : Nat} {d s t imm : Int} (h : Of5 k d s t imm) : cHalf k d s t imm = (halfN k d s t imm : Int) := by
  obtain ⟨l1, l2, l3, l4⟩ := clt k h.lt
  have hreg := regs_ok (cForm_cases k h.lt) h.right h.d h.s h.t
  have a1 : cBits k &&& lN k d s t = 0 := capart_of (cbf k h.lt) h.l (by rw [Nat.and_comm]; exact c1f k h.lt)
  have a2 : cBits k &&& hN k d s t = 0 := capart_of (cbf k h.lt) h.h (by rw [Nat.and_comm]; exact c2f k h.lt)
  have a3 : cBits k &&& cScat k imm = 0 := capart_of (cbf k h.lt) (cscat_sub k imm) (by rw [Nat.and_comm]; exact c3f k h.lt)
  have a4 : lN k d s t &&& hN k d s t = 0 := capart_of h.l h.h (c12 k h.lt)
  have a5 : lN k d s t &&& cScat k imm = 0 := capart_of h.l (cscat_sub k imm) (c13 k h.lt)
  have a6 : hN k d s t &&& cScat k imm = 0 := capart_of h.h (cscat_sub k imm) (c23 k h.lt)
  have hlt := half_lt h
  have s1 := sub_lt h.l l1
  have s2 := sub_lt h.h l2
  have s3 := sub_lt (cscat_sub k imm) l3
  have o1 := cor_add l4 s1 a1
  have o2 := cor_add (Nat.or_lt_two_pow (n := 16) l4 s1) s2 (by rw [Nat.and_or_distrib_right, a2, a4]; rfl)
  have o3 := cor_add (Nat.or_lt_two_pow (n := 16) (Nat.or_lt_two_pow (n := 16) l4 s1) s2) s3 (by rw [Nat.and_or_distrib_right, Nat.and_or_distrib_right, a3, a5, a6]; rfl)
  unfold halfN at hlt ⊢
  rw [o3, o2, o1] at hlt ⊢
  unfold cHalf
  have e1 : (lN k d s t : Int) = 4 * lowV (cForm k) d s t := by unfold lN; omega
  have e2 : (hN k d s t : Int) = 128 * hiV (cForm k) d s t := by unfold hN; omega
  rw [← e1, ← e2]
  omega
theorem half_low2 {k : Nat} {d s t imm : Int} (h : Of5 k d s t imm) : halfN k d s t imm % 4 ≠ 3 := by
  have h1 := half_f h
  have ⟨h2, h3⟩ := clow k h.lt
  have h4 : halfN k d s t imm &&& 3 = cBits k &&& 3 := by rw [← h1, Nat.and_assoc, h3]
  have e1 : halfN k d s t imm &&& 3 = halfN k d s t imm % 4 := Nat.and_two_pow_sub_one_eq_mod _ 2
  have e2 : cBits k &&& 3 = cBits k % 4 := Nat.and_two_pow_sub_one_eq_mod _ 2
  omega
end Go.Proofs.YtbmcanpjpibecaaDoor
