/- Plain facts: an instruction's word is its parts' sum; what is written is the document's number. -/
import Derived.Test.YtpaeemijpincpaaDoorBit
namespace Go.Proofs.YtpaeemijpincpaaDoor
open Go.RowKit

theorem or_add {a b : Nat} (ha : a < 4294967296) (hb : b < 4294967296) (h : a &&& b = 0) : a ||| b = a + b := by
  have hx : BitVec.ofNat 40 a &&& BitVec.ofNat 40 b = 0#40 := by
    rw [← BitVec.ofNat_and, h]
  have e := BitVec.add_eq_or_of_and_eq_zero _ _ hx
  have e2 := congrArg BitVec.toNat e
  rw [BitVec.toNat_add, BitVec.toNat_or, BitVec.toNat_ofNat, BitVec.toNat_ofNat] at e2
  have m1 : a % 2 ^ 40 = a := Nat.mod_eq_of_lt (by omega)
  have m2 : b % 2 ^ 40 = b := Nat.mod_eq_of_lt (by omega)
  rw [m1, m2, Nat.mod_eq_of_lt (by omega)] at e2
  exact e2.symm

theorem apart_of {x y m m' : Nat} (hx : x &&& m = x) (hy : y &&& m' = y) (h : m &&& m' = 0) : x &&& y = 0 := by
  rw [← hx, ← hy, Nat.and_assoc, ← Nat.and_assoc m, Nat.and_comm m, Nat.and_assoc y, h, Nat.and_zero, Nat.and_zero]

theorem and_or_zero {a b c : Nat} (h1 : a &&& c = 0) (h2 : b &&& c = 0) : (a ||| b) &&& c = 0 := by
  rw [Nat.and_or_distrib_right, h1, h2]
  rfl

theorem or5 {b x1 x2 x3 x4 : Nat} (lb : b < 4294967296) (l1 : x1 < 4294967296) (l2 : x2 < 4294967296) (l3 : x3 < 4294967296) (l4 : x4 < 4294967296)
    (z12 : x1 &&& x2 = 0) (z13 : x1 &&& x3 = 0) (z14 : x1 &&& x4 = 0) (z23 : x2 &&& x3 = 0) (z24 : x2 &&& x4 = 0) (z34 : x3 &&& x4 = 0)
    (zb1 : x1 &&& b = 0) (zb2 : x2 &&& b = 0) (zb3 : x3 &&& b = 0) (zb4 : x4 &&& b = 0) : (b ||| (x1 ||| x2 ||| x3)) ||| x4 = b + x1 + x2 + x3 + x4 := by
  have k2 : (x1 ||| x2) < 4294967296 := Nat.or_lt_two_pow (n := 32) l1 l2
  have k3 : (x1 ||| x2 ||| x3) < 4294967296 := Nat.or_lt_two_pow (n := 32) k2 l3
  have k4 : (b ||| (x1 ||| x2 ||| x3)) < 4294967296 := Nat.or_lt_two_pow (n := 32) lb k3
  have e1 := or_add l1 l2 z12
  have e2 := or_add k2 l3 (and_or_zero z13 z23)
  have e3 := or_add lb k3 (by rw [Nat.and_comm]; exact and_or_zero (and_or_zero zb1 zb2) zb3)
  have e4 := or_add k4 l4 (and_or_zero (by rw [Nat.and_comm]; exact zb4) (and_or_zero (and_or_zero z14 z24) z34))
  rw [e4, e3, e2, e1]
  omega

/-- What is written, below 0 as so much more, is the number of as many bits. -/
theorem num_doc {c v : Int} (hc : c ∈ letters) (h : numOk c v = true) : numV c v = if halfV c v < 0 then halfV c v + 2 ^ plen c else halfV c v := by
  have k := of_decide_eq_true h
  simp only [letters, List.mem_cons, List.not_mem_nil, or_false] at hc
  rcases hc with rfl | rfl | rfl | rfl | rfl | rfl | rfl | rfl | rfl | rfl | rfl | rfl | rfl | rfl | rfl
  all_goals simp [lowOf, highOf, byOf] at k
  all_goals simp [numV, plen, halfV, placeL, seg_length]
  all_goals first
    | omega
    | (rw [tdiv_even k.2.2]; omega)
    | (split <;> omega)
    | (rw [tdiv_even k.2.2]; split <;> omega)

theorem word_sum {op rd rs1 rs2 imm : Int} (P : Parts op rd rs1 rs2 imm) :
    wordN op rd rs1 rs2 imm = baseC (op.toNat - 1) + rd.toNat * 128 + rs1.toNat * 32768 + rs2.toNat * 1048576 + scatN (formV op) imm := by
  have hop := isOp_true P.isop
  have hl := formV_letter P.isop
  have l1 : rd.toNat * 128 < 4294967296 := Nat.lt_of_le_of_lt (Nat.mul_le_mul_right 128 (by have := regOk_range P.okd; omega : rd.toNat ≤ 31)) (by decide)
  have l2 : rs1.toNat * 32768 < 4294967296 := Nat.lt_of_le_of_lt (Nat.mul_le_mul_right 32768 (by have := regOk_range P.ok1; omega : rs1.toNat ≤ 31)) (by decide)
  have l3 : rs2.toNat * 1048576 < 4294967296 := Nat.lt_of_le_of_lt (Nat.mul_le_mul_right 1048576 (by have := regOk_range P.ok2; omega : rs2.toNat ≤ 31)) (by decide)
  have l4 := baseC_lt (op.toNat - 1) (by omega)
  have l5 := scatN_lt imm hl
  have z12 := apart_of (s1 P) (s2 P) (m12 _ hl)
  have z13 := apart_of (s1 P) (s3 P) (m13 _ hl)
  have z14 := apart_of (s1 P) (s4 (op := op) (imm := imm)) (m14 _ hl)
  have z23 := apart_of (s2 P) (s3 P) (m23 _ hl)
  have z24 := apart_of (s2 P) (s4 (op := op) (imm := imm)) (m24 _ hl)
  have z34 := apart_of (s3 P) (s4 (op := op) (imm := imm)) (m34 _ hl)
  have zb1 := apart_of (s1 P) (sb P) (m1f _ hl)
  have zb2 := apart_of (s2 P) (sb P) (m2f _ hl)
  have zb3 := apart_of (s3 P) (sb P) (m3f _ hl)
  have zb4 := apart_of (s4 (op := op) (imm := imm)) (sb P) (m4f _ hl)
  unfold wordN regN
  exact or5 l4 l1 l2 l3 l5 z12 z13 z14 z23 z24 z34 zb1 zb2 zb3 zb4

end Go.Proofs.YtpaeemijpincpaaDoor
