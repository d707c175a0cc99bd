/- What insn.Check gives, and the document's own Check. -/
import Derived.Test.YtbmcanpjpibecaaDoorCheck
namespace Go.Proofs.YtbmcanpjpibecaaDoor
open Go.RowKit

theorem mayReg (r : Int) (has : Bool) (w : World) : Calls Tryd.prog 26 #[.int .i64 r, .bool has] w fun e w' => e = .returned (.bool (regOk has r)) ∧ w' = w := mayBeReg_walk r has w
/-- May the instruction be? -/
def mayB (op rd rs1 rs2 imm : Int) : Bool := isOp op && (regOk (hasRd (formV op)) rd && (regOk (hasRs1 (formV op)) rs1 && (regOk (hasRs2 (formV op)) rs2 && numOk (formV op) imm)))
def chkV (op rd rs1 rs2 imm : Int) : Int := if mayB op rd rs1 rs2 imm = true then 0 else 20
abbrev insnV (op rd rs1 rs2 imm : Int) : Value := .agg #[.int .u8 op, .int .i64 rd, .int .i64 rs1, .int .i64 rs2, .int .i64 imm]

theorem check_at (op rd rs1 rs2 imm : Int) (h1 : op ≤ 255) (w : World) :
    Calls Tryd.prog 16 #[insnV op rd rs1 rs2 imm] w fun e w' => e = .returned (.int .i64 (chkV op rd rs1 rs2 imm)) ∧ w' = w.alloc (.cells #[.int .u8 op, .int .i64 rd, .int .i64 rs1, .int .i64 rs2, .int .i64 imm] 27) := by
  unfold chkV
  cases hc : isOp op
  · have e1 : mayB op rd rs1 rs2 imm = false := by simp [mayB, hc]
    have e2 : opErr op = 2 := by simp [opErr, hc]
    rw [e1]
    go_enter Tryd.func16, Tryd.ntmps16
    go_wp2_with (go_at_call 24; refine (form_walk _ h1 _).mono ?_; rintro e w' ⟨rfl, rfl⟩)
    go_ret
    exact ⟨rfl, rfl⟩
  · have e2 : opErr op = 0 := by simp [opErr, hc]
    have hl := formV_letter hc
    have e1 : mayB op rd rs1 rs2 imm = (regOk (hasRd (formV op)) rd && (regOk (hasRs1 (formV op)) rs1 && (regOk (hasRs2 (formV op)) rs2 && numOk (formV op) imm))) := by simp [mayB, hc]
    cases hd : regOk (hasRd (formV op)) rd
    · have e : mayB op rd rs1 rs2 imm = false := by simp [e1, hd]
      rw [e]
      go_enter Tryd.func16, Tryd.ntmps16
      go_wp2_with (first
        | (go_at_call 24; refine (form_walk _ h1 _).mono ?_; rintro e w' ⟨rfl, rfl⟩)
        | (go_at_call 25; refine (regs_walk _ hl _).mono ?_; rintro e w' ⟨rfl, rfl⟩)
              | (go_at_call 26; refine (mayReg _ _ _).mono ?_; rintro e w' ⟨rfl, rfl⟩)
        | (go_at_call 27; refine (num_walk _ _ hl _).mono ?_; rintro e w' ⟨rfl, rfl⟩))
      go_ret
      exact ⟨rfl, rfl⟩
    · cases hs : regOk (hasRs1 (formV op)) rs1
      · have e : mayB op rd rs1 rs2 imm = false := by simp [e1, hd, hs]
        rw [e]
        go_enter Tryd.func16, Tryd.ntmps16
        go_wp2_with (first
          | (go_at_call 24; refine (form_walk _ h1 _).mono ?_; rintro e w' ⟨rfl, rfl⟩)
          | (go_at_call 25; refine (regs_walk _ hl _).mono ?_; rintro e w' ⟨rfl, rfl⟩)
                  | (go_at_call 26; refine (mayReg _ _ _).mono ?_; rintro e w' ⟨rfl, rfl⟩)
          | (go_at_call 27; refine (num_walk _ _ hl _).mono ?_; rintro e w' ⟨rfl, rfl⟩))
        go_ret
        exact ⟨rfl, rfl⟩
      · cases ht : regOk (hasRs2 (formV op)) rs2
        · have e : mayB op rd rs1 rs2 imm = false := by simp [e1, hd, hs, ht]
          rw [e]
          go_enter Tryd.func16, Tryd.ntmps16
          go_wp2_with (first
            | (go_at_call 24; refine (form_walk _ h1 _).mono ?_; rintro e w' ⟨rfl, rfl⟩)
            | (go_at_call 25; refine (regs_walk _ hl _).mono ?_; rintro e w' ⟨rfl, rfl⟩)
                      | (go_at_call 26; refine (mayReg _ _ _).mono ?_; rintro e w' ⟨rfl, rfl⟩)
            | (go_at_call 27; refine (num_walk _ _ hl _).mono ?_; rintro e w' ⟨rfl, rfl⟩))
          go_ret
          exact ⟨rfl, rfl⟩
        · cases hn : numOk (formV op) imm
          · have e : mayB op rd rs1 rs2 imm = false := by simp [e1, hd, hs, ht, hn]
            rw [e]
            go_enter Tryd.func16, Tryd.ntmps16
            go_wp2_with (first
              | (go_at_call 24; refine (form_walk _ h1 _).mono ?_; rintro e w' ⟨rfl, rfl⟩)
              | (go_at_call 25; refine (regs_walk _ hl _).mono ?_; rintro e w' ⟨rfl, rfl⟩)
                          | (go_at_call 26; refine (mayReg _ _ _).mono ?_; rintro e w' ⟨rfl, rfl⟩)
              | (go_at_call 27; refine (num_walk _ _ hl _).mono ?_; rintro e w' ⟨rfl, rfl⟩))
            go_ret
            exact ⟨rfl, rfl⟩
          · have e : mayB op rd rs1 rs2 imm = true := by simp [e1, hd, hs, ht, hn]
            rw [e]
            go_enter Tryd.func16, Tryd.ntmps16
            go_wp2_with (first
              | (go_at_call 24; refine (form_walk _ h1 _).mono ?_; rintro e w' ⟨rfl, rfl⟩)
              | (go_at_call 25; refine (regs_walk _ hl _).mono ?_; rintro e w' ⟨rfl, rfl⟩)
                          | (go_at_call 26; refine (mayReg _ _ _).mono ?_; rintro e w' ⟨rfl, rfl⟩)
              | (go_at_call 27; refine (num_walk _ _ hl _).mono ?_; rintro e w' ⟨rfl, rfl⟩))
            go_ret
            exact ⟨rfl, rfl⟩

theorem check_walk (op rd rs1 rs2 imm : Int) (h1 : op ≤ 255) (w : World) :
    Calls Tryd.prog 16 #[insnV op rd rs1 rs2 imm] w fun e w' => e = .returned (.int .i64 (chkV op rd rs1 rs2 imm)) ∧ Kept w w' :=
  (check_at op rd rs1 rs2 imm h1 w).mono fun _ _ ⟨he, hw⟩ => ⟨he, hw ▸ Kept.alloc _ _⟩

theorem byOf_or (c : Int) : byOf c = 1 ∨ byOf c = 2 := by unfold byOf; split <;> simp

theorem tmod2 (v : Int) : (v.tmod 2 == 0) = decide (v % 2 = 0) := by
  rw [Bool.eq_iff_iff]
  simp only [beq_iff_eq, decide_eq_true_eq]
  exact ⟨fun h => Int.emod_eq_zero_of_dvd (Int.dvd_of_tmod_eq_zero h), fun h => Int.tmod_eq_zero_of_dvd (Int.dvd_of_emod_eq_zero h)⟩

end Go.Proofs.YtbmcanpjpibecaaDoor
