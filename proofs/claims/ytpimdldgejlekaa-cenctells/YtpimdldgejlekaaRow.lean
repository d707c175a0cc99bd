/- The document's own answers on numbers and names. -/
import Derived.Test.YtpimdldgejlekaaAll
namespace Go.Proofs.Ytpimdldgejlekaa
open Go.RowKit

/-- How many instructions stand in the rows ahead of row i. -/
def rowOff : Nat → Nat
  | 0 => 0
  | i + 1 => rowOff i + (rowLen i - 1)
def formS (n : Nat) : ByteArray := ⟨#[formB.data.toList.getD n 0]⟩

theorem rowLen_bounds : ∀ i, i < 22 → 2 ≤ rowLen i ∧ rowLen i ≤ 11 := by decide +kernel
theorem rowOff_bound : ∀ i, i < 23 → rowOff i ≤ 94 := by decide +kernel
theorem rowOff_end : rowOff 22 = 94 := by decide +kernel
theorem row_name : ∀ i, i < 22 → ∀ j, j < rowLen i → 1 ≤ j → rowStr i j = nm (rowOff i + j - 1) := by decide +kernel
theorem row_form : ∀ i, i < 22 → ∀ j, j < rowLen i → 1 ≤ j → rowStr i 0 = formS (rowOff i + j - 1) := by decide +kernel

def rowF (op : Int) : ByteArray := if isOp op = true then formS (op.toNat - 1) else ⟨#[]⟩

theorem row_walk (op : Int) (w : World) :
    Calls Try.prog 43 #[.int .i64 op] w fun e w' => e = .returned (.tuple #[.string (nameV op), .string (rowF op)]) ∧ Kept w w' := by
  go_enter Try.func43, Try.ntmps43
  go_wp2_with (go_at_call 48; refine (all_walk _).mono ?_; rintro e w' ⟨b, rfl, hk, hR⟩)
  go_loop [5, 6] (fun t i => ∃ k : Nat, k ≤ 22 ∧ ¬ (1 ≤ op ∧ op ≤ rowOff k) ∧ t = .int .i64 (rowOff k) ∧ i = .int .i64 k) (fun _ i => 22 - (intOf i).toNat)
  case atStart => exact ⟨0, by omega, by simp [rowOff]; omega, rfl, rfl⟩
  case round =>
    obtain ⟨k, hk22, hno, rfl, rfl⟩ := hrel
    have hob := rowOff_bound k (by omega)
    rcases Nat.lt_or_ge k 22 with hlt | hge
    · obtain ⟨c, hcell, hstr⟩ := hR k hlt
      have hlb := rowLen_bounds k hlt
      have hs : rowOff (k + 1) = rowOff k + (rowLen k - 1) := rfl
      have h0 := hstr 0 (by omega)
      by_cases ht : (rowOff k : Int) < op ∧ op ≤ (rowOff k : Int) + rowLen k - 1
      · obtain ⟨j, rfl⟩ : ∃ j : Nat, op = (rowOff k : Int) + j := ⟨(op - rowOff k).toNat, by omega⟩
        have hj := hstr j (by omega)
        have hn := row_name k hlt j (by omega) (by omega)
        have hf := row_form k hlt j (by omega) (by omega)
        have hc : isOp ((rowOff k : Int) + j) = true := decide_eq_true (by have := rowOff_bound (k + 1) (by omega); omega)
        have e1 : nameV ((rowOff k : Int) + j) = rowStr k j := by
          unfold nameV
          rw [if_pos hc, hn]
          congr 1
        have e2 : rowF ((rowOff k : Int) + j) = rowStr k 0 := by
          unfold rowF
          rw [if_pos hc, hf]
          congr 1
        clear hn hf
        go_wp2
        go_quiet (fail)
        go_wp2
        go_ret2
        rw [e1, e2]
        exact ⟨rfl, Kept.trans hk (Kept.drewN _ _)⟩
      · go_wp2
        all_goals exact ⟨⟨k + 1, by omega, by rw [hs]; omega, by rw [hs]; congr 1; omega, by simp⟩, by simp [intOf]; omega⟩
    · have hk' : k = 22 := by omega
      subst hk'
      rw [rowOff_end] at hno
      have hc : isOp op = false := decide_eq_false (by omega)
      have e1 : nameV op = ⟨#[]⟩ := by unfold nameV; rw [if_neg (by simp [hc])]
      have e2 : rowF op = ⟨#[]⟩ := by unfold rowF; rw [if_neg (by simp [hc])]
      go_wp2
      go_ret2
      exact ⟨rfl, hk⟩

theorem rowF_empty (op : Int) (hc : isOp op = false) : rowF op = ⟨#[]⟩ := by unfold rowF; rw [if_neg (by simp [hc])]
theorem rowF_form (op : Int) (hc : isOp op = true) : rowF op = formS (op.toNat - 1) := by unfold rowF; rw [if_pos hc]
theorem formS_ne (n : Nat) : (formS n).toList.isEmpty = false := by
  have h : ((formS n).toList == (⟨#[]⟩ : ByteArray).toList) = false := str_ne (fun h => by
    have := congrArg (fun b => b.data.size) h
    simp [formS] at this)
  have e : (⟨#[]⟩ : ByteArray).toList = [] := by kernel_rfl
  rw [e] at h
  cases hl : (formS n).toList with
  | nil => rw [hl] at h; cases h
  | cons x r => rfl

theorem refName_walk (op : Int) (h0 : 0 ≤ op) (h1 : op ≤ 255) (w : World) :
    Calls Try.prog 29 #[.int .u8 op] w fun e w' => e = .returned (.tuple #[.string (nameV op), .int .i64 (opErr op)]) ∧ Kept w w' := by
  cases hc : isOp op
  · have e1 := rowF_empty op hc
    have e2 : nameV op = ⟨#[]⟩ := by unfold nameV; rw [if_neg (by simp [hc])]
    have e3 : opErr op = 2 := by unfold opErr; rw [if_neg (by simp [hc])]
    go_enter Try.func29, Try.ntmps29
    go_wp2_with (go_at_call 43; refine (row_walk _ _).mono ?_; rintro e w' ⟨rfl, hk⟩)
    go_ret2
    refine ⟨?_, hk⟩
    rw [e2, e3]
    rfl
  · have e1 := rowF_form op hc
    have e3 : opErr op = 0 := by unfold opErr; rw [if_pos hc]
    have hne := formS_ne (op.toNat - 1)
    go_enter Try.func29, Try.ntmps29
    go_wp2_with (go_at_call 43; refine (row_walk _ _).mono ?_; rintro e w' ⟨rfl, hk⟩)
    go_ret2
    refine ⟨?_, hk⟩
    rw [e3]
    rfl

theorem refForm_walk (op : Int) (h0 : 0 ≤ op) (h1 : op ≤ 255) (w : World) :
    Calls Try.prog 26 #[.int .u8 op] w fun e w' => e = .returned (.tuple #[.int .u8 (formV op), .int .i64 (opErr op)]) ∧ Kept w w' := by
  cases hc : isOp op
  · have e1 := rowF_empty op hc
    have e2 : formV op = 0 := by unfold formV; rw [if_neg (by simp [hc])]
    have e3 : opErr op = 2 := by unfold opErr; rw [if_neg (by simp [hc])]
    go_enter Try.func26, Try.ntmps26
    go_wp2_with (go_at_call 43; refine (row_walk _ _).mono ?_; rintro e w' ⟨rfl, hk⟩)
    go_ret2
    refine ⟨?_, hk⟩
    rw [e2, e3]
    rfl
  · have e1 := rowF_form op hc
    have e2 : formV op = (formC (op.toNat - 1) : Int) := by unfold formV; rw [if_pos hc]
    have e3 : opErr op = 0 := by unfold opErr; rw [if_pos hc]
    have hne := formS_ne (op.toNat - 1)
    have hsz : (formS (op.toNat - 1)).size = 1 := rfl
    go_enter Try.func26, Try.ntmps26
    go_wp2_with (go_at_call 43; refine (row_walk _ _).mono ?_; rintro e w' ⟨rfl, hk⟩)
    go_ret2
    refine ⟨?_, hk⟩
    rw [e2, e3]
    rfl

theorem nameV_succ (k : Nat) (h : k < 94) : nameV ((k : Int) + 1) = nm k := by
  unfold nameV
  have hc : isOp ((k : Int) + 1) = true := decide_eq_true (by omega)
  rw [if_pos hc]
  congr 1

end Go.Proofs.Ytpimdldgejlekaa
