/- What the law's own small functions, and Gather at an instruction's word, give. -/
import Derived.Test.YtpaeemijpincpaaDoorKit
import Derived.Test.YtpaeemijpincpaaDoorBit
namespace Go.Proofs.YtpaeemijpincpaaDoor
open Go.RowKit

theorem wordN_lt {op rd rs1 rs2 imm : Int} (P : Parts op rd rs1 rs2 imm) : wordN op rd rs1 rs2 imm < 4294967296 := by
  have hop := isOp_true P.isop
  have l1 := baseC_lt (op.toNat - 1) (by omega)
  have l2 := regN_lt (regOk_range P.okd).2 (regOk_range P.ok1).2 (regOk_range P.ok2).2
  have l3 := scatN_lt imm (formV_letter P.isop)
  exact Nat.or_lt_two_pow (n := 32) (Nat.or_lt_two_pow (n := 32) l1 l2) l3

theorem gather_c {op rd rs1 rs2 imm : Int} (P : Parts op rd rs1 rs2 imm) (a : Option Addr) (cap : Nat) (w : World) (hC : Cells w a (plen (formV op)) (placeP (formV op))) :
    Calls Tryd.prog 34 #[.int .u32 (wordN op rd rs1 rs2 imm), .slice a (plen (formV op)) cap] w fun e w' => e = .returned (.tuple #[.int .u32 (numV (formV op) imm), .int .i64 0]) ∧ w' = w := by
  have hl := formV_letter P.isop
  have hw := wordN_lt P
  have h := gather_u (wordN op rd rs1 rs2 imm) (by omega) (by omega) a (plen (formV op)) cap (placeP (formV op)) w hC
  have e1 : gathV (wordN op rd rs1 rs2 imm) (placeP (formV op)) (plen (formV op)) = numV (formV op) imm := by
    unfold gathV
    rw [if_pos (places_ok _ hl), Int.toNat_natCast]
    exact word_gath P
  rw [e1, places_ok _ hl] at h
  exact h

theorem or_again (b s x y z : Nat) : b ||| s ||| x ||| y ||| z = b ||| (x ||| y ||| z) ||| s := by
  refine Nat.eq_of_testBit_eq fun j => ?_
  simp only [Nat.testBit_or]
  cases b.testBit j <;> cases s.testBit j <;> cases x.testBit j <;> cases y.testBit j <;> cases z.testBit j <;> rfl

/-- The word is the base, the number at its places, and the registers, in this order too. -/
theorem word_again {op rd rs1 rs2 imm : Int} (P : Parts op rd rs1 rs2 imm) :
    bits .or .u32 (bits .or .u32 (bits .or .u32 (bits .or .u32 (baseC (op.toNat - 1) : Int) (scatN (formV op) imm : Int)) (rd * 128)) (rs1 * 32768)) (rs2 * 1048576) = (wordN op rd rs1 rs2 imm : Int) := by
  have hop := isOp_true P.isop
  obtain ⟨r0, r1⟩ := regOk_range P.okd
  obtain ⟨r2, r3⟩ := regOk_range P.ok1
  obtain ⟨r4, r5⟩ := regOk_range P.ok2
  have l1 : rd.toNat * 128 < 4294967296 := Nat.lt_of_le_of_lt (Nat.mul_le_mul_right 128 (by omega : rd.toNat ≤ 31)) (by decide)
  have l2 : rs1.toNat * 32768 < 4294967296 := Nat.lt_of_le_of_lt (Nat.mul_le_mul_right 32768 (by omega : rs1.toNat ≤ 31)) (by decide)
  have l3 : rs2.toNat * 1048576 < 4294967296 := Nat.lt_of_le_of_lt (Nat.mul_le_mul_right 1048576 (by omega : rs2.toNat ≤ 31)) (by decide)
  have l4 := baseC_lt (op.toNat - 1) (by omega)
  have l5 := scatN_lt imm (formV_letter P.isop)
  have l6 : (baseC (op.toNat - 1) ||| scatN (formV op) imm) < 4294967296 := Nat.or_lt_two_pow (n := 32) l4 l5
  have l7 : (baseC (op.toNat - 1) ||| scatN (formV op) imm ||| rd.toNat * 128) < 4294967296 := Nat.or_lt_two_pow (n := 32) l6 l1
  have l8 : (baseC (op.toNat - 1) ||| scatN (formV op) imm ||| rd.toNat * 128 ||| rs1.toNat * 32768) < 4294967296 := Nat.or_lt_two_pow (n := 32) l7 l2
  have e1 : rd * 128 = ((rd.toNat * 128 : Nat) : Int) := by rw [Int.natCast_mul, Int.toNat_of_nonneg r0]; rfl
  have e2 : rs1 * 32768 = ((rs1.toNat * 32768 : Nat) : Int) := by rw [Int.natCast_mul, Int.toNat_of_nonneg r2]; rfl
  have e3 : rs2 * 1048576 = ((rs2.toNat * 1048576 : Nat) : Int) := by rw [Int.natCast_mul, Int.toNat_of_nonneg r4]; rfl
  rw [e1, e2, e3, u32_or_nat _ _ l4 l5, u32_or_nat _ _ l6 l1, u32_or_nat _ _ l7 l2, u32_or_nat _ _ l8 l3]
  rw [or_again]
  simp only [wordN, regN]

theorem base_scat {op rd rs1 rs2 imm : Int} (P : Parts op rd rs1 rs2 imm) : bits .and .u32 (baseC (op.toNat - 1) : Int) (scatN (formV op) imm : Int) = 0 := by
  have hop := isOp_true P.isop
  have hl := formV_letter P.isop
  have h1 : baseC (op.toNat - 1) &&& mNum (formV op) = 0 := and_zero' (sb P) (m4f _ hl)
  have h2 : scatN (formV op) imm &&& baseC (op.toNat - 1) = 0 := and_zero' s4 h1
  rw [u32_and_nat _ _ (baseC_lt _ (by omega)) (scatN_lt imm hl), Nat.and_comm, h2]
  rfl

end Go.Proofs.YtpaeemijpincpaaDoor
