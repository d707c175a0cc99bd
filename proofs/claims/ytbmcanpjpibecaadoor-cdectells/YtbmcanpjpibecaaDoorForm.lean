/- What insn.Form gives, and the letters of the forms. -/
import Derived.Test.YtbmcanpjpibecaaDoorInsn
namespace Go.Proofs.YtbmcanpjpibecaaDoor
open Go.RowKit

/-- The letters, in the order of the instructions. -/
def formB : ByteArray := ⟨#[85, 85, 74, 76, 66, 66, 66, 66, 66, 66, 76, 76, 76, 76, 76, 76, 76, 83, 83, 83, 83, 73, 73, 73, 73, 73, 73, 54, 54, 54, 82, 82, 82, 82, 82, 82, 82, 82, 82, 82, 73, 53, 53, 53, 82, 82, 82, 82, 82, 82, 82, 82, 82, 82, 82, 82, 82, 82, 82, 82, 82, 82, 70, 78, 78, 78, 67, 67, 67, 90, 90, 90, 108, 65, 65, 65, 65, 65, 65, 65, 65, 65, 65, 108, 65, 65, 65, 65, 65, 65, 65, 65, 65, 65]⟩
def formC (n : Nat) : Nat := (formB.data.toList.getD n 0).toNat
def formV (op : Int) : Int := if isOp op = true then (formC (op.toNat - 1) : Int) else 0

theorem formB_at (n : Nat) (h : n < formB.size) : (formB[n]).toNat = formC n := by
  unfold formC
  have e : formB[n] = formB.data[n] := rfl
  rw [e]
  have hn : n < formB.data.size := h
  have e2 : formB.data.toList.getD n 0 = formB.data[n] := by
    rw [List.getD, Array.getElem?_toList, Array.getElem?_eq_getElem hn]
    rfl
  rw [e2]

theorem form_walk (op : Int) (h1 : op ≤ 255) (w : World) :
    Calls Tryd.prog 24 #[.int .u8 op] w fun e w' => e = .returned (.tuple #[.int .u8 (formV op), .int .i64 (opErr op)]) ∧ w' = w := by
  unfold formV opErr
  cases hc : isOp op
  · go_enter Tryd.func24, Tryd.ntmps24
    go_wp2_with (go_at_call 47; refine (isInsn_walk _ h1 _).mono ?_; rintro e w' ⟨rfl, rfl⟩)
    go_ret2
    exact ⟨rfl, rfl⟩
  · have hb := isOp_true hc
    go_enter Tryd.func24, Tryd.ntmps24
    go_wp2_with (go_at_call 47; refine (isInsn_walk _ h1 _).mono ?_; rintro e w' ⟨rfl, rfl⟩)
    have hn : op.toNat - 1 < formB.size := by
      have : formB.size = 94 := by kernel_rfl
      omega
    have e := formB_at (op.toNat - 1) hn
    go_ret2
    refine ⟨?_, rfl⟩
    simp only []
    rw [← e]
    rfl

end Go.Proofs.YtbmcanpjpibecaaDoor
