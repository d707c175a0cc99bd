/- What the calls of the package insn give on numbers and names, in every world that holds the names. -/
import Derived.Test.YtbmcanpjpibecaaDoorTab
namespace Go.Proofs.YtbmcanpjpibecaaDoor
open Go.RowKit

theorem str_ne {a b : ByteArray} (h : ¬ a = b) : (a.toList == b.toList) = false := (Lib.bytes_beq_false_iff a b).2 h

/-- Is it an instruction's number? -/
def isOp (op : Int) : Bool := decide (1 ≤ op ∧ op ≤ 94)

theorem isInsn_walk (op : Int) (h1 : op ≤ 255) (w : World) :
    Calls Tryd.prog 47 #[.int .u8 op] w fun e w' => e = .returned (.bool (isOp op)) ∧ w' = w := by
  unfold isOp
  go_enter Tryd.func47, Tryd.ntmps47
  go_wp2
  all_goals (go_ret; refine ⟨?_, rfl⟩; simp [*])
  all_goals omega

def nameV (op : Int) : ByteArray := if isOp op = true then nm (op.toNat - 1) else ⟨#[]⟩
def opErr (op : Int) : Int := if isOp op = true then 0 else 2

theorem isOp_true {op : Int} (h : isOp op = true) : 1 ≤ op ∧ op ≤ 94 := of_decide_eq_true h

/-- The place of a name; 94: nobody has it. -/
def isNm (s : ByteArray) (z : List UInt8) : Bool := decide ((⟨z.toArray⟩ : ByteArray) = s)
def ofIx (s : ByteArray) : Nat := nameTab.findIdx (isNm s)
def ofV (s : ByteArray) : Int := if ofIx s < 94 then (ofIx s : Int) + 1 else 0
def ofErr (s : ByteArray) : Int := if ofIx s < 94 then 0 else 6

theorem nm_eq (k : Nat) (h : k < nameTab.length) : nm k = ⟨(nameTab[k]).toArray⟩ := by
  simp [nm, List.getD, h]

theorem ofIx_hit {s : ByteArray} {k : Nat} (hk : k < 94) (hle : k ≤ ofIx s) (h : nm k = s) : ofIx s = k := by
  rcases Nat.lt_or_ge k (ofIx s) with hlt | hge
  · have hl : k < nameTab.length := by rw [nameTab_length]; exact hk
    have := List.not_of_lt_findIdx (p := isNm s) hlt
    rw [nm_eq k hl] at h
    simp [isNm, h] at this
  · omega

theorem ofIx_miss {s : ByteArray} {k : Nat} (hk : k < 94) (hle : k ≤ ofIx s) (h : ¬ nm k = s) : k + 1 ≤ ofIx s := by
  rcases Nat.lt_or_ge k (ofIx s) with hlt | hge
  · omega
  · have e : ofIx s = k := by omega
    have hl : ofIx s < nameTab.length := by rw [nameTab_length]; omega
    have := List.findIdx_getElem (p := isNm s) (w := hl)
    have h2 : nm (ofIx s) = s := by
      rw [nm_eq _ hl]
      exact of_decide_eq_true this
    rw [e] at h2
    exact absurd h2 h

theorem ofIx_le (s : ByteArray) : ofIx s ≤ 94 := by
  have := List.findIdx_le_length (xs := nameTab) (p := isNm s)
  rw [nameTab_length] at this
  exact this

end Go.Proofs.YtbmcanpjpibecaaDoor
