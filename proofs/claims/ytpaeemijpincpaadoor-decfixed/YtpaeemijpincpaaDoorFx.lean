/- Plain facts, and what the calls give, at an instruction's word one of whose bits is turned. -/
import Derived.Test.YtpaeemijpincpaaDoorBk
namespace Go.Proofs.YtpaeemijpincpaaDoor
open Go.RowKit

theorem form_yes {op rd rs1 rs2 imm : Int} (P : Parts op rd rs1 rs2 imm) (h1 : op ≤ 255) (w : World) :
    Calls Tryd.prog 14 #[.int .u8 op] w fun e w' => e = .returned (.tuple #[.int .u8 (formV op), .int .i64 0]) ∧ w' = w := by
  have h := form_walk op h1 w
  rwa [opErr_yes P.isop] at h
theorem fixed_yes {op rd rs1 rs2 imm : Int} (P : Parts op rd rs1 rs2 imm) (w : World) :
    Calls Tryd.prog 8 #[.int .u8 (formV op)] w fun e w' => e = .returned (.tuple #[.int .u32 (fixM (formV op)), .int .i64 0]) ∧ Kept w w' := by
  have hl := formV_letter P.isop
  have h := fixed_walk (formV op) w
  rwa [show fixV (formV op) = (fixM (formV op) : Int) from if_pos hl, show plErr (formV op) = 0 from if_pos hl] at h
theorem base_yes {op rd rs1 rs2 imm : Int} (P : Parts op rd rs1 rs2 imm) (h0 : 0 ≤ op) (h1 : op ≤ 255) (w : World) (hT : Tab w) :
    Calls Tryd.prog 15 #[.int .u8 op] w fun e w' => e = .returned (.tuple #[.int .u32 (baseC (op.toNat - 1)), .int .i64 0]) ∧ w' = w := by
  have h := base_walk op h0 h1 w hT
  rwa [show baseV op = (baseC (op.toNat - 1) : Int) from if_pos P.isop, opErr_yes P.isop] at h
theorem word_mask {op rd rs1 rs2 imm : Int} (P : Parts op rd rs1 rs2 imm) : bits .and .u32 (wordN op rd rs1 rs2 imm : Int) (fixM (formV op) : Int) = (baseC (op.toNat - 1) : Int) := by
  rw [u32_and_nat _ _ (wordN_lt P) (fix_lt _ (formV_letter P.isop)), word_fix P]
theorem base_mask {op rd rs1 rs2 imm : Int} (P : Parts op rd rs1 rs2 imm) : bits .and .u32 (baseC (op.toNat - 1) : Int) (fixM (formV op) : Int) = (baseC (op.toNat - 1) : Int) := by
  have ho := isOp_true P.isop
  rw [u32_and_nat _ _ (baseC_lt _ (by omega)) (fix_lt _ (formV_letter P.isop)), sb P]
theorem fix_low : ∀ c ∈ letters, fixM c &&& 3 = 3 := by decide +kernel
theorem word_low {op rd rs1 rs2 imm : Int} (P : Parts op rd rs1 rs2 imm) : bits .and .u32 (wordN op rd rs1 rs2 imm : Int) 3 = 3 := by
  have ho := isOp_true P.isop
  have e := u32_and_nat (wordN op rd rs1 rs2 imm) 3 (wordN_lt P) (by decide)
  have h : wordN op rd rs1 rs2 imm &&& 3 = 3 := by
    have h1 := fix_low _ (formV_letter P.isop)
    have h2 := base_code (op.toNat - 1) (by omega)
    rw [← word_fix P, Nat.and_assoc, h1] at h2
    exact h2
  rw [h] at e
  exact e
/-- Of two words of one instruction no fixed bit is another. -/
theorem turned {op rd rs1 rs2 imm a b c d : Int} (P : Parts op rd rs1 rs2 imm) (P' : Parts op a b c d) {y : Nat} (h : wordN op a b c d = wordN op rd rs1 rs2 imm ^^^ y) : fixM (formV op) &&& y = 0 := by
  have e := word_fix P'
  rw [h, Nat.and_xor_distrib_right, word_fix P] at e
  have e2 : baseC (op.toNat - 1) ^^^ (baseC (op.toNat - 1) ^^^ (y &&& fixM (formV op))) = baseC (op.toNat - 1) ^^^ baseC (op.toNat - 1) := by rw [e]
  rw [← Nat.xor_assoc, Nat.xor_self, Nat.zero_xor] at e2
  rw [Nat.and_comm]
  exact e2
theorem one_lt (a : Int) : 2 ^ (a % 32).toNat < 4294967296 := pow_lt32 (q := (a % 32).toNat) (by omega)
theorem one_num (a : Int) : (2 : Int) ^ (a % 32).toNat % 4294967296 = ((2 ^ (a % 32).toNat : Nat) : Int) := by
  have e : (2 : Int) ^ (a % 32).toNat = ((2 ^ (a % 32).toNat : Nat) : Int) := by simp
  rw [shl_one _ (by omega)]
  exact e
end Go.Proofs.YtpaeemijpincpaaDoor
