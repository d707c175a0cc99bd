/- What the document's own Half and Short give. -/
import Derived.Test.YtbmcanpjpibecaaDoorWr
namespace Go.Proofs.YtbmcanpjpibecaaDoor
open Go.RowKit

theorem fits_lo {k : Nat} (hk : k < 33) {n : Int} (h : cfitsB (cKind k) (cBy k) (cLen k) n = true) : -2 ^ cLen k ≤ n.tdiv (cBy k) := by
  have hb := cBy_range k hk
  have hr := two_pow_pos' (cLen k)
  have hnn : 0 ≤ n → 0 ≤ n.tdiv (cBy k) := fun h0 => Int.tdiv_nonneg h0 (by omega)
  unfold cfitsB at h
  generalize n.tdiv (cBy k) = v at h hnn ⊢
  generalize (2 : Int) ^ cLen k = r at h hr ⊢
  rw [Bool.and_eq_true] at h
  have h2 := h.2
  unfold kindB at h2
  split at h2
  · have : n = 0 := by simpa using h2
    omega
  split at h2
  · simp only [Bool.or_eq_true, Bool.and_eq_true, decide_eq_true_eq] at h2; omega
  split at h2
  · simp only [Bool.and_eq_true, decide_eq_true_eq] at h2; omega
  split at h2
  · simp only [Bool.and_eq_true, decide_eq_true_eq] at h2; omega
  split at h2
  · simp only [Bool.and_eq_true, decide_eq_true_eq] at h2; omega
  · simp only [Bool.and_eq_true, decide_eq_true_eq] at h2; omega
theorem high_small (c : Int) : highOf c ≤ 1048575 := by
  unfold highOf
  repeat' split
  all_goals omega
theorem low_small (c : Int) : -1048576 ≤ lowOf c := by
  unfold lowOf
  repeat' split
  all_goals omega
/-- What Half and Short tell. -/
def hfV (op d s t imm : Int) : Int := if mayB op d s t imm = true then (if cIx op d s t imm < 33 then cHalf (cIx op d s t imm) d s t imm else 0) else 0
def hfE (op d s t imm : Int) : Int := if mayB op d s t imm = true then (if cIx op d s t imm < 33 then 0 else 6) else 20
def shV (op d s t imm : Int) : Bool := mayB op d s t imm && decide (cIx op d s t imm < 33)
structure May5 (op d s t imm : Int) : Prop where
  isop : isOp op = true
  d : 0 ≤ d ∧ d ≤ 31
  s : 0 ≤ s ∧ s ≤ 31
  t : 0 ≤ t ∧ t ≤ 31
  n : -1048576 ≤ imm ∧ imm ≤ 1048575
theorem may5_of {op d s t imm : Int} (h : mayB op d s t imm = true) : May5 op d s t imm := by
  simp only [mayB, Bool.and_eq_true] at h
  obtain ⟨h0, h1, h2, h3, h4⟩ := h
  have r1 := of_decide_eq_true h1
  have r2 := of_decide_eq_true h2
  have r3 := of_decide_eq_true h3
  have r4 := of_decide_eq_true h4
  have l1 := low_small (formV op)
  have l2 := high_small (formV op)
  exact ⟨h0, ⟨r1.1, r1.2.1⟩, ⟨r2.1, r2.2.1⟩, ⟨r3.1, r3.2.1⟩, by omega, by omega⟩

end Go.Proofs.YtbmcanpjpibecaaDoor
