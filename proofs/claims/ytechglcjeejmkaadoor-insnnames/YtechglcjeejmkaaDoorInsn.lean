/- What the calls of the package insn give on numbers and names, in every world that holds the names. -/
import Derived.Test.YtechglcjeejmkaaDoorTab
namespace Go.Proofs.YtechglcjeejmkaaDoor
open Go.RowKit

theorem str_ne {a b : ByteArray} (h : ¬ a = b) : (a.toList == b.toList) = false := (Lib.bytes_beq_false_iff a b).2 h

/-- Is it an instruction's number? -/
def isOp (op : Int) : Bool := decide (1 ≤ op ∧ op ≤ 94)

theorem isInsn_walk (op : Int) (h1 : op ≤ 255) (w : World) :
    Calls Tryd.prog 18 #[.int .u8 op] w fun e w' => e = .returned (.bool (isOp op)) ∧ w' = w := by
  unfold isOp
  go_enter Tryd.func18, Tryd.ntmps18
  go_wp2
  all_goals (go_ret; refine ⟨?_, rfl⟩; simp [*])
  all_goals omega

theorem many_walk (w : World) : Calls Tryd.prog 11 #[] w fun e w' => e = .returned (.int .i64 94) ∧ w' = w := by
  go_enter Tryd.func11, Tryd.ntmps11
  go_wp2
  go_ret
  exact ⟨rfl, rfl⟩

def nameV (op : Int) : ByteArray := if isOp op = true then nm (op.toNat - 1) else ⟨#[]⟩
def opErr (op : Int) : Int := if isOp op = true then 0 else 2

theorem isOp_true {op : Int} (h : isOp op = true) : 1 ≤ op ∧ op ≤ 94 := of_decide_eq_true h

theorem name_walk (op : Int) (h1 : op ≤ 255) (w : World) (hT : Tab w) :
    Calls Tryd.prog 8 #[.int .u8 op] w fun e w' => e = .returned (.tuple #[.string (nameV op), .int .i64 (opErr op)]) ∧ w' = w := by
  unfold nameV opErr
  cases hc : isOp op
  · go_enter Tryd.func8, Tryd.ntmps8
    go_wp2_with (go_at_call 18; refine (isInsn_walk _ h1 _).mono ?_; rintro e w' ⟨rfl, rfl⟩)
    go_ret2
    exact ⟨rfl, rfl⟩
  · have hb := isOp_true hc
    have hcell : w.cell? ⟨0, op.toNat - 1, none⟩ = some (.string (nm (op.toNat - 1))) := hT _ (by omega)
    go_enter Tryd.func8, Tryd.ntmps8
    go_wp2_with (go_at_call 18; refine (isInsn_walk _ h1 _).mono ?_; rintro e w' ⟨rfl, rfl⟩)
    go_ret2
    exact ⟨rfl, rfl⟩

/-- The place of a name; 94: nobody has it. -/
def isNm (s : ByteArray) (z : List UInt8) : Bool := decide ((⟨z.toArray⟩ : ByteArray) = s)
def ofIx (s : ByteArray) : Nat := nameTab.findIdx (isNm s)
def ofV (s : ByteArray) : Int := if ofIx s < 94 then (ofIx s : Int) + 1 else 0
def ofErr (s : ByteArray) : Int := if ofIx s < 94 then 0 else 6

theorem nm_eq (k : Nat) (h : k < nameTab.length) : nm k = ⟨(nameTab[k]).toArray⟩ := by
  simp [nm, List.getD, h]

theorem ofIx_hit {s : ByteArray} {k : Nat} (hk : k < 94) (hle : k ≤ ofIx s) (h : nm k = s) : ofIx s = k := by
  rcases Nat.lt_or_ge k (ofIx s) with hlt | hge
  · have hl : k < nameTab.length := by rw [nameTab_length]; exact hk
    have := List.not_of_lt_findIdx (p := isNm s) hlt
    rw [nm_eq k hl] at h
    simp [isNm, h] at this
  · omega

theorem ofIx_miss {s : ByteArray} {k : Nat} (hk : k < 94) (hle : k ≤ ofIx s) (h : ¬ nm k = s) : k + 1 ≤ ofIx s := by
  rcases Nat.lt_or_ge k (ofIx s) with hlt | hge
  · omega
  · have e : ofIx s = k := by omega
    have hl : ofIx s < nameTab.length := by rw [nameTab_length]; omega
    have := List.findIdx_getElem (p := isNm s) (w := hl)
    have h2 : nm (ofIx s) = s := by
      rw [nm_eq _ hl]
      exact of_decide_eq_true this
    rw [e] at h2
    exact absurd h2 h

theorem ofIx_le (s : ByteArray) : ofIx s ≤ 94 := by
  have := List.findIdx_le_length (xs := nameTab) (p := isNm s)
  rw [nameTab_length] at this
  exact this

theorem tab_range (w : World) (hT : Tab w) : ∃ tl : List Value, tl.length = 94 ∧ w.rangeAt 0 0 tl ∧ ∀ k, k < 94 → tl[k]? = some (.string (nm k)) := by
  refine ⟨nameTab.map fun z => Value.string ⟨z.toArray⟩, by simp [nameTab_length], fun j v hv => ?_, fun k hk => ?_⟩
  · have hj : j < nameTab.length := by
      have := (List.getElem?_eq_some_iff.1 hv).1
      simpa using this
    rw [Nat.zero_add, hT j (by rw [← nameTab_length]; exact hj), nm_eq j hj]
    simpa [hj] using hv
  · have hl : k < nameTab.length := by rw [nameTab_length]; exact hk
    rw [nm_eq k hl]
    simp [hl]

theorem run_index_names (cs : Array Value) (k : Nat) (v : Value) (hk : k < 94) (hv : cs[k]? = some v) (w : World) :
    (Instr.index 44 (.agg cs) (.int .i64 k)).run Tryd.prog w = .ok v w := by
  have h1 : (0 : Int) ≤ k ∧ (k : Int) < 94 := by omega
  have h2 : k < 94 := hk
  simp [Instr.index, asIntOf, part, h1, h2, hv, go_sem]

theorem of_walk (s : ByteArray) (w : World) (hT : Tab w) :
    Calls Tryd.prog 9 #[.string s] w fun e w' => e = .returned (.tuple #[.int .u8 (ofV s), .int .i64 (ofErr s)]) ∧ w' = w := by
  obtain ⟨tl, hlen, hr, hat⟩ := tab_range w hT
  go_enter Tryd.func9, Tryd.ntmps9
  go_wp2_with (refine wpList_load_mid rfl 44 _ rfl 0 0 rfl tl (.array 94 9) hr Tryd.underlying44 rfl (by rw [hlen]; kernel_rfl) ?_)
  go_loop [7] (fun i => ∃ k : Nat, k ≤ 94 ∧ k ≤ ofIx s ∧ i = .int .i64 k) (fun i => 94 - (intOf i).toNat)
  case atStart => exact ⟨0, by omega, by omega, rfl⟩
  case round =>
    obtain ⟨k, hk, hks, rfl⟩ := hrel
    by_cases hk94 : k < 94
    · have hat' := run_index_names tl.toArray k _ hk94 (by simpa using hat k hk94) w
      by_cases hs : nm k = s
      · have e := ofIx_hit hk94 hks hs
        have e1 : ofV s = (k : Int) + 1 := by unfold ofV; rw [e, if_pos hk94]
        have e2 : ofErr s = 0 := by unfold ofErr; rw [e, if_pos hk94]
        go_wp2
        go_ret2
        exact ⟨rfl, rfl⟩
      · have e := ofIx_miss hk94 hks hs
        have hs' : ((nm k).toList == s.toList) = false := str_ne hs
        go_wp2
        exact ⟨⟨k + 1, by omega, e, by simp⟩, by simp [intOf]; omega⟩
    · have e : ¬ ofIx s < 94 := by omega
      have e1 : ofV s = 0 := by unfold ofV; rw [if_neg e]
      have e2 : ofErr s = 6 := by unfold ofErr; rw [if_neg e]
      go_wp2
      go_ret2
      exact ⟨rfl, rfl⟩

end Go.Proofs.YtechglcjeejmkaaDoor
