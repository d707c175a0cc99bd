/- What the calls give at an instruction's word, and at any word, in the two cases. -/
import Derived.Test.YtpaeemijpincpaaDoorAli
namespace Go.Proofs.YtpaeemijpincpaaDoor
open Go.RowKit

theorem dec_of_word {op rd rs1 rs2 imm : Int} (P : Parts op rd rs1 rs2 imm) (w : World) (hT : Tab w) :
    Calls Tryd.prog 7 #[.int .u32 (wordN op rd rs1 rs2 imm)] w fun e w' => e = .returned (.tuple #[insnV op rd rs1 rs2 imm, .int .i64 0]) ∧ Kept w w' := by
  have hl := wordN_lt P
  have h := dec_at (wordN op rd rs1 rs2 imm) hl w hT
  obtain ⟨e0, e1, e2, e3, e4, e5⟩ := dec_word P hl
  rwa [e0, e1, e2, e3, e4, e5] at h
theorem dec_none {x : Nat} (h : dErr x = 40) : dOp x = 0 ∧ dRd x = 0 ∧ dRs1 x = 0 ∧ dRs2 x = 0 ∧ dImm x = 0 := by
  have hk : ¬ dK x < 94 := fun hk => by rw [dErr, if_pos hk] at h; omega
  simp only [dOp, dRd, dRs1, dRs2, dImm, hk, if_false, and_self]
theorem isOp_lo {op : Int} (h : isOp op = true) : 0 ≤ op ∧ op ≤ 255 := by have := isOp_true h; omega
/-- A word is an instruction's, and that instruction's word, or it is none's. -/
theorem dec_cases (x : Int) (h0 : 0 ≤ x) (h1 : x < 4294967296) :
    (∃ o a b c d : Int, mayB o a b c d = true ∧ 0 ≤ o ∧ o ≤ 255 ∧ dOp x.toNat = o ∧ x = ((wordN o a b c d : Nat) : Int) ∧
      ∀ w, Tab w → Calls Tryd.prog 7 #[.int .u32 x] w fun e w' => e = .returned (.tuple #[insnV o a b c d, .int .i64 0]) ∧ Kept w w') ∨
    (∀ w, Tab w → Calls Tryd.prog 7 #[.int .u32 x] w fun e w' => e = .returned (.tuple #[insnV 0 0 0 0 0, .int .i64 40]) ∧ Kept w w') := by
  have hw : x.toNat < 4294967296 := by omega
  have hd := fun w hT => dec_walk x h0 h1 w hT
  rcases dErr_or x.toNat with he | he
  · obtain ⟨hm, hb⟩ := dec_back hw he
    have hp := isOp_lo (parts_of hm).isop
    rw [he] at hd
    exact .inl ⟨_, _, _, _, _, hm, hp.1, hp.2, rfl, by rw [hb]; omega, hd⟩
  · obtain ⟨e1, e2, e3, e4, e5⟩ := dec_none he
    rw [he, e1, e2, e3, e4, e5] at hd
    exact .inr hd
theorem check_yes {op rd rs1 rs2 imm : Int} (hm : mayB op rd rs1 rs2 imm = true) (w : World) :
    Calls Tryd.prog 13 #[insnV op rd rs1 rs2 imm] w fun e w' => e = .returned (.int .i64 0) ∧ Kept w w' := by
  have h := check_walk op rd rs1 rs2 imm (isOp_lo (parts_of hm).isop).2 w
  rwa [show chkV op rd rs1 rs2 imm = 0 by simp [chkV, hm]] at h
end Go.Proofs.YtpaeemijpincpaaDoor
