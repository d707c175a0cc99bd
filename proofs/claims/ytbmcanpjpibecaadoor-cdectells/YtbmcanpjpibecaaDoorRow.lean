/- The document's own answers on numbers and names. -/
import Derived.Test.YtbmcanpjpibecaaDoorAll
namespace Go.Proofs.YtbmcanpjpibecaaDoor
open Go.RowKit

/-- How many instructions stand in the rows ahead of row i. -/
def rowOff : Nat → Nat
  | 0 => 0
  | i + 1 => rowOff i + (rowLen i - 1)
def formS (n : Nat) : ByteArray := ⟨#[formB.data.toList.getD n 0]⟩

theorem rowLen_bounds : ∀ i, i < 22 → 2 ≤ rowLen i ∧ rowLen i ≤ 11 := by decide +kernel
theorem rowOff_bound : ∀ i, i < 23 → rowOff i ≤ 94 := by decide +kernel
theorem rowOff_end : rowOff 22 = 94 := by decide +kernel
theorem row_name : ∀ i, i < 22 → ∀ j, j < rowLen i → 1 ≤ j → rowStr i j = nm (rowOff i + j - 1) := by decide +kernel
theorem row_form : ∀ i, i < 22 → ∀ j, j < rowLen i → 1 ≤ j → rowStr i 0 = formS (rowOff i + j - 1) := by decide +kernel

def rowF (op : Int) : ByteArray := if isOp op = true then formS (op.toNat - 1) else ⟨#[]⟩

theorem row_walk (op : Int) (w : World) :
    Calls Tryd.prog 56 #[.int .i64 op] w fun e w' => e = .returned (.tuple #[.string (nameV op), .string (rowF op)]) ∧ Kept w w' := by
  go_enter Tryd.func56, Tryd.ntmps56
  go_wp2_with (go_at_call 63; refine (all_walk _).mono ?_; rintro e w' ⟨b, rfl, hk, hR⟩)
  go_loop [5, 6] (fun t i => ∃ k : Nat, k ≤ 22 ∧ ¬ (1 ≤ op ∧ op ≤ rowOff k) ∧ t = .int .i64 (rowOff k) ∧ i = .int .i64 k) (fun _ i => 22 - (intOf i).toNat)
  case atStart => exact ⟨0, by omega, by simp [rowOff]; omega, rfl, rfl⟩
  case round =>
    obtain ⟨k, hk22, hno, rfl, rfl⟩ := hrel
    have hob := rowOff_bound k (by omega)
    rcases Nat.lt_or_ge k 22 with hlt | hge
    · obtain ⟨c, hcell, hstr⟩ := hR k hlt
      have hlb := rowLen_bounds k hlt
      have hs : rowOff (k + 1) = rowOff k + (rowLen k - 1) := rfl
      have h0 := hstr 0 (by omega)
      by_cases ht : (rowOff k : Int) < op ∧ op ≤ (rowOff k : Int) + rowLen k - 1
      · obtain ⟨j, rfl⟩ : ∃ j : Nat, op = (rowOff k : Int) + j := ⟨(op - rowOff k).toNat, by omega⟩
        have hj := hstr j (by omega)
        have hn := row_name k hlt j (by omega) (by omega)
        have hf := row_form k hlt j (by omega) (by omega)
        have hc : isOp ((rowOff k : Int) + j) = true := decide_eq_true (by have := rowOff_bound (k + 1) (by omega); omega)
        have e1 : nameV ((rowOff k : Int) + j) = rowStr k j := by
          unfold nameV
          rw [if_pos hc, hn]
          congr 1
        have e2 : rowF ((rowOff k : Int) + j) = rowStr k 0 := by
          unfold rowF
          rw [if_pos hc, hf]
          congr 1
        clear hn hf
        go_wp2
        go_quiet (fail)
        go_wp2
        go_ret2
        rw [e1, e2]
        exact ⟨rfl, Kept.trans hk (Kept.drewN _ _)⟩
      · go_wp2
        all_goals exact ⟨⟨k + 1, by omega, by rw [hs]; omega, by rw [hs]; congr 1; omega, by simp⟩, by simp [intOf]; omega⟩
    · have hk' : k = 22 := by omega
      subst hk'
      rw [rowOff_end] at hno
      have hc : isOp op = false := decide_eq_false (by omega)
      have e1 : nameV op = ⟨#[]⟩ := by unfold nameV; rw [if_neg (by simp [hc])]
      have e2 : rowF op = ⟨#[]⟩ := by unfold rowF; rw [if_neg (by simp [hc])]
      go_wp2
      go_ret2
      exact ⟨rfl, hk⟩

theorem rowF_empty (op : Int) (hc : isOp op = false) : rowF op = ⟨#[]⟩ := by unfold rowF; rw [if_neg (by simp [hc])]
theorem rowF_form (op : Int) (hc : isOp op = true) : rowF op = formS (op.toNat - 1) := by unfold rowF; rw [if_pos hc]
theorem formS_ne (n : Nat) : (formS n).toList.isEmpty = false := by
  have h : ((formS n).toList == (⟨#[]⟩ : ByteArray).toList) = false := str_ne (fun h => by
    have := congrArg (fun b => b.data.size) h
    simp [formS] at this)
  have e : (⟨#[]⟩ : ByteArray).toList = [] := by kernel_rfl
  rw [e] at h
  cases hl : (formS n).toList with
  | nil => rw [hl] at h; cases h
  | cons x r => rfl

theorem nameV_succ (k : Nat) (h : k < 94) : nameV ((k : Int) + 1) = nm k := by
  unfold nameV
  have hc : isOp ((k : Int) + 1) = true := decide_eq_true (by omega)
  rw [if_pos hc]
  congr 1

theorem refOf_walk (s : ByteArray) (w : World) :
    Calls Tryd.prog 40 #[.string s] w fun e w' => e = .returned (.tuple #[.int .u8 (ofV s), .int .i64 (ofErr s)]) ∧ Kept w w' := by
  go_enter Tryd.func40, Tryd.ntmps40
  go_wp2
  go_loopw [4] (fun i wr => Kept w wr ∧ ∃ k : Nat, k ≤ 94 ∧ k ≤ ofIx s ∧ i = .int .i64 (k + 1)) (fun i _ => 95 - (intOf i).toNat)
  case atStart => exact ⟨Kept.refl w, 0, by omega, by omega, rfl⟩
  case round =>
    obtain ⟨hkw, k, hk, hks, rfl⟩ := hrel
    rcases Nat.lt_or_ge k 94 with hlt | hge
    · have en := nameV_succ k hlt
      by_cases hs : nm k = s
      · have e := ofIx_hit hlt hks hs
        have e1 : ofV s = (k : Int) + 1 := by unfold ofV; rw [e, if_pos hlt]
        have e2 : ofErr s = 0 := by unfold ofErr; rw [e, if_pos hlt]
        go_wp2_with (go_at_call 56; refine (row_walk _ _).mono ?_; rintro e w' ⟨rfl, hk'⟩)
        go_ret2
        rw [e1, e2]
        exact ⟨rfl, Kept.trans hkw hk'⟩
      · have e := ofIx_miss hlt hks hs
        have hs' : ((nm k).toList == s.toList) = false := str_ne hs
        go_wp2_with (go_at_call 56; refine (row_walk _ _).mono ?_; rintro e w' ⟨rfl, hk'⟩)
        exact ⟨⟨Kept.trans hkw hk', k + 1, by omega, e, by simp⟩, by simp [intOf]; omega⟩
    · have e : ¬ ofIx s < 94 := by omega
      have e1 : ofV s = 0 := by unfold ofV; rw [if_neg e]
      have e2 : ofErr s = 6 := by unfold ofErr; rw [if_neg e]
      go_wp2
      go_ret2
      rw [e1, e2]
      exact ⟨rfl, hkw⟩

end Go.Proofs.YtbmcanpjpibecaaDoor
