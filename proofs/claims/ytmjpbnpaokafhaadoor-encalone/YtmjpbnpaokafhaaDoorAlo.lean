/- What the law EncAlone meets. -/
import Derived.Test.YtmjpbnpaokafhaaDoorFld
import Derived.Deep.DeepCutAuto
namespace Go.Proofs.YtmjpbnpaokafhaaDoor
open Go.RowKit

set_option maxRecDepth 20000 in
theorem alone_no (op0 rd0 rs10 rs20 imm0 op1 rd1 rs11 rs21 imm1 : Int) (b0 : 0 ≤ op0 ∧ op0 ≤ 255) (b1 : 0 ≤ op1 ∧ op1 ≤ 255) (hm : mayB op0 rd0 rs10 rs20 imm0 = false) (w : World) (hT : Tab w) :
    Calls Tryd.prog 5 #[insnV op0 rd0 rs10 rs20 imm0, insnV op1 rd1 rs11 rs21 imm1] w fun e w' => e = .returned (.bool true) ∧ Kept w w' := by
  have hc : chkV op0 rd0 rs10 rs20 imm0 = 20 := by simp [chkV, hm]
  have hw : wordV op0 rd0 rs10 rs20 imm0 = 0 := by simp [wordV, hm]
  have hT0 := hT
  have hT : Tab ((w.alloc (.cells #[.int .u8 op0, .int .i64 rd0, .int .i64 rs10, .int .i64 rs20, .int .i64 imm0] 31)).alloc (.cells #[.int .u8 op1, .int .i64 rd1, .int .i64 rs11, .int .i64 rs21, .int .i64 imm1] 31)) := (hT0.kept (Kept.alloc _ _)).kept (Kept.alloc _ _)
  have hK := Kept.refl ((w.alloc (.cells #[.int .u8 op0, .int .i64 rd0, .int .i64 rs10, .int .i64 rs20, .int .i64 imm0] 31)).alloc (.cells #[.int .u8 op1, .int .i64 rd1, .int .i64 rs11, .int .i64 rs21, .int .i64 imm1] 31))
  have d00 : ((w.alloc (.cells #[.int .u8 op0, .int .i64 rd0, .int .i64 rs10, .int .i64 rs20, .int .i64 imm0] 31)).alloc (.cells #[.int .u8 op1, .int .i64 rd1, .int .i64 rs11, .int .i64 rs21, .int .i64 imm1] 31)).cell? ⟨w.heap.size, 0, none⟩ = some (.int .u8 op0) := Kept.cell hK (by simp)
  have d01 : ((w.alloc (.cells #[.int .u8 op0, .int .i64 rd0, .int .i64 rs10, .int .i64 rs20, .int .i64 imm0] 31)).alloc (.cells #[.int .u8 op1, .int .i64 rd1, .int .i64 rs11, .int .i64 rs21, .int .i64 imm1] 31)).cell? ⟨w.heap.size, 1, none⟩ = some (.int .i64 rd0) := Kept.cell hK (by simp)
  have d02 : ((w.alloc (.cells #[.int .u8 op0, .int .i64 rd0, .int .i64 rs10, .int .i64 rs20, .int .i64 imm0] 31)).alloc (.cells #[.int .u8 op1, .int .i64 rd1, .int .i64 rs11, .int .i64 rs21, .int .i64 imm1] 31)).cell? ⟨w.heap.size, 2, none⟩ = some (.int .i64 rs10) := Kept.cell hK (by simp)
  have d03 : ((w.alloc (.cells #[.int .u8 op0, .int .i64 rd0, .int .i64 rs10, .int .i64 rs20, .int .i64 imm0] 31)).alloc (.cells #[.int .u8 op1, .int .i64 rd1, .int .i64 rs11, .int .i64 rs21, .int .i64 imm1] 31)).cell? ⟨w.heap.size, 3, none⟩ = some (.int .i64 rs20) := Kept.cell hK (by simp)
  have d04 : ((w.alloc (.cells #[.int .u8 op0, .int .i64 rd0, .int .i64 rs10, .int .i64 rs20, .int .i64 imm0] 31)).alloc (.cells #[.int .u8 op1, .int .i64 rd1, .int .i64 rs11, .int .i64 rs21, .int .i64 imm1] 31)).cell? ⟨w.heap.size, 4, none⟩ = some (.int .i64 imm0) := Kept.cell hK (by simp)
  have d10 : ((w.alloc (.cells #[.int .u8 op0, .int .i64 rd0, .int .i64 rs10, .int .i64 rs20, .int .i64 imm0] 31)).alloc (.cells #[.int .u8 op1, .int .i64 rd1, .int .i64 rs11, .int .i64 rs21, .int .i64 imm1] 31)).cell? ⟨w.heap.size + 1, 0, none⟩ = some (.int .u8 op1) := Kept.cell hK (by simp)
  have d11 : ((w.alloc (.cells #[.int .u8 op0, .int .i64 rd0, .int .i64 rs10, .int .i64 rs20, .int .i64 imm0] 31)).alloc (.cells #[.int .u8 op1, .int .i64 rd1, .int .i64 rs11, .int .i64 rs21, .int .i64 imm1] 31)).cell? ⟨w.heap.size + 1, 1, none⟩ = some (.int .i64 rd1) := Kept.cell hK (by simp)
  have d12 : ((w.alloc (.cells #[.int .u8 op0, .int .i64 rd0, .int .i64 rs10, .int .i64 rs20, .int .i64 imm0] 31)).alloc (.cells #[.int .u8 op1, .int .i64 rd1, .int .i64 rs11, .int .i64 rs21, .int .i64 imm1] 31)).cell? ⟨w.heap.size + 1, 2, none⟩ = some (.int .i64 rs11) := Kept.cell hK (by simp)
  have d13 : ((w.alloc (.cells #[.int .u8 op0, .int .i64 rd0, .int .i64 rs10, .int .i64 rs20, .int .i64 imm0] 31)).alloc (.cells #[.int .u8 op1, .int .i64 rd1, .int .i64 rs11, .int .i64 rs21, .int .i64 imm1] 31)).cell? ⟨w.heap.size + 1, 3, none⟩ = some (.int .i64 rs21) := Kept.cell hK (by simp)
  have d14 : ((w.alloc (.cells #[.int .u8 op0, .int .i64 rd0, .int .i64 rs10, .int .i64 rs20, .int .i64 imm0] 31)).alloc (.cells #[.int .u8 op1, .int .i64 rd1, .int .i64 rs11, .int .i64 rs21, .int .i64 imm1] 31)).cell? ⟨w.heap.size + 1, 4, none⟩ = some (.int .i64 imm1) := Kept.cell hK (by simp)
  clear hT0
  go_enter Tryd.func5, Tryd.ntmps5
  go_wp2_with (first
    | (go_at_call 9; refine (alive_walk _ hT).mono ?_; rintro e w' ⟨rfl, hk⟩; have hK' := Kept.trans hK hk; clear hK; have hK := hK'; clear hK'; have hT' := hT.kept hk; clear hT; have hT := hT'; clear hT'; clear hk; clear d00 d01 d02 d03 d04 d10 d11 d12 d13 d14; have d00 : w'.cell? ⟨w.heap.size, 0, none⟩ = some (.int .u8 op0) := Kept.cell hK (by simp); have d01 : w'.cell? ⟨w.heap.size, 1, none⟩ = some (.int .i64 rd0) := Kept.cell hK (by simp); have d02 : w'.cell? ⟨w.heap.size, 2, none⟩ = some (.int .i64 rs10) := Kept.cell hK (by simp); have d03 : w'.cell? ⟨w.heap.size, 3, none⟩ = some (.int .i64 rs20) := Kept.cell hK (by simp); have d04 : w'.cell? ⟨w.heap.size, 4, none⟩ = some (.int .i64 imm0) := Kept.cell hK (by simp); have d10 : w'.cell? ⟨w.heap.size + 1, 0, none⟩ = some (.int .u8 op1) := Kept.cell hK (by simp); have d11 : w'.cell? ⟨w.heap.size + 1, 1, none⟩ = some (.int .i64 rd1) := Kept.cell hK (by simp); have d12 : w'.cell? ⟨w.heap.size + 1, 2, none⟩ = some (.int .i64 rs11) := Kept.cell hK (by simp); have d13 : w'.cell? ⟨w.heap.size + 1, 3, none⟩ = some (.int .i64 rs21) := Kept.cell hK (by simp); have d14 : w'.cell? ⟨w.heap.size + 1, 4, none⟩ = some (.int .i64 imm1) := Kept.cell hK (by simp))
    | (go_at_call 8; refine (word_walk _ _ _ _ _ (by omega) (by omega) _ hT).mono ?_; rintro e w' ⟨rfl, hk⟩; have hK' := Kept.trans hK hk; clear hK; have hK := hK'; clear hK'; have hT' := hT.kept hk; clear hT; have hT := hT'; clear hT'; clear hk; clear d00 d01 d02 d03 d04 d10 d11 d12 d13 d14; have d00 : w'.cell? ⟨w.heap.size, 0, none⟩ = some (.int .u8 op0) := Kept.cell hK (by simp); have d01 : w'.cell? ⟨w.heap.size, 1, none⟩ = some (.int .i64 rd0) := Kept.cell hK (by simp); have d02 : w'.cell? ⟨w.heap.size, 2, none⟩ = some (.int .i64 rs10) := Kept.cell hK (by simp); have d03 : w'.cell? ⟨w.heap.size, 3, none⟩ = some (.int .i64 rs20) := Kept.cell hK (by simp); have d04 : w'.cell? ⟨w.heap.size, 4, none⟩ = some (.int .i64 imm0) := Kept.cell hK (by simp); have d10 : w'.cell? ⟨w.heap.size + 1, 0, none⟩ = some (.int .u8 op1) := Kept.cell hK (by simp); have d11 : w'.cell? ⟨w.heap.size + 1, 1, none⟩ = some (.int .i64 rd1) := Kept.cell hK (by simp); have d12 : w'.cell? ⟨w.heap.size + 1, 2, none⟩ = some (.int .i64 rs11) := Kept.cell hK (by simp); have d13 : w'.cell? ⟨w.heap.size + 1, 3, none⟩ = some (.int .i64 rs21) := Kept.cell hK (by simp); have d14 : w'.cell? ⟨w.heap.size + 1, 4, none⟩ = some (.int .i64 imm1) := Kept.cell hK (by simp))
    | (go_at_call 15; refine (check_walk _ _ _ _ _ (by omega) _).mono ?_; rintro e w' ⟨rfl, hk⟩; have hK' := Kept.trans hK hk; clear hK; have hK := hK'; clear hK'; have hT' := hT.kept hk; clear hT; have hT := hT'; clear hT'; clear hk; clear d00 d01 d02 d03 d04 d10 d11 d12 d13 d14; have d00 : w'.cell? ⟨w.heap.size, 0, none⟩ = some (.int .u8 op0) := Kept.cell hK (by simp); have d01 : w'.cell? ⟨w.heap.size, 1, none⟩ = some (.int .i64 rd0) := Kept.cell hK (by simp); have d02 : w'.cell? ⟨w.heap.size, 2, none⟩ = some (.int .i64 rs10) := Kept.cell hK (by simp); have d03 : w'.cell? ⟨w.heap.size, 3, none⟩ = some (.int .i64 rs20) := Kept.cell hK (by simp); have d04 : w'.cell? ⟨w.heap.size, 4, none⟩ = some (.int .i64 imm0) := Kept.cell hK (by simp); have d10 : w'.cell? ⟨w.heap.size + 1, 0, none⟩ = some (.int .u8 op1) := Kept.cell hK (by simp); have d11 : w'.cell? ⟨w.heap.size + 1, 1, none⟩ = some (.int .i64 rd1) := Kept.cell hK (by simp); have d12 : w'.cell? ⟨w.heap.size + 1, 2, none⟩ = some (.int .i64 rs11) := Kept.cell hK (by simp); have d13 : w'.cell? ⟨w.heap.size + 1, 3, none⟩ = some (.int .i64 rs21) := Kept.cell hK (by simp); have d14 : w'.cell? ⟨w.heap.size + 1, 4, none⟩ = some (.int .i64 imm1) := Kept.cell hK (by simp))
    | (go_at_call 16; refine (form_walk _ (by omega) _).mono ?_; rintro e w' ⟨rfl, rfl⟩)
    | (go_at_call 6; refine (base_walk _ (by omega) (by omega) _ hT).mono ?_; rintro e w' ⟨rfl, rfl⟩)
    | (go_at_call 7; refine (places_walk _ _).mono ?_; rintro e w' ⟨a, cap, rfl, hC, hk⟩; have hK' := Kept.trans hK hk; clear hK; have hK := hK'; clear hK'; have hT' := hT.kept hk; clear hT; have hT := hT'; clear hT'; clear hk; clear d00 d01 d02 d03 d04 d10 d11 d12 d13 d14; have d00 : w'.cell? ⟨w.heap.size, 0, none⟩ = some (.int .u8 op0) := Kept.cell hK (by simp); have d01 : w'.cell? ⟨w.heap.size, 1, none⟩ = some (.int .i64 rd0) := Kept.cell hK (by simp); have d02 : w'.cell? ⟨w.heap.size, 2, none⟩ = some (.int .i64 rs10) := Kept.cell hK (by simp); have d03 : w'.cell? ⟨w.heap.size, 3, none⟩ = some (.int .i64 rs20) := Kept.cell hK (by simp); have d04 : w'.cell? ⟨w.heap.size, 4, none⟩ = some (.int .i64 imm0) := Kept.cell hK (by simp); have d10 : w'.cell? ⟨w.heap.size + 1, 0, none⟩ = some (.int .u8 op1) := Kept.cell hK (by simp); have d11 : w'.cell? ⟨w.heap.size + 1, 1, none⟩ = some (.int .i64 rd1) := Kept.cell hK (by simp); have d12 : w'.cell? ⟨w.heap.size + 1, 2, none⟩ = some (.int .i64 rs11) := Kept.cell hK (by simp); have d13 : w'.cell? ⟨w.heap.size + 1, 3, none⟩ = some (.int .i64 rs21) := Kept.cell hK (by simp); have d14 : w'.cell? ⟨w.heap.size + 1, 4, none⟩ = some (.int .i64 imm1) := Kept.cell hK (by simp))
    | (go_at_call 17; refine (gather_c P a cap _ hC).mono ?_; rintro e w' ⟨rfl, rfl⟩))
  go_ret
  exact ⟨rfl, Kept.trans (Kept.trans (Kept.alloc _ _) (Kept.alloc _ _)) hK⟩

def isJB (c : Int) : Bool := decide (c = 74 ∨ c = 66)

theorem shl_shr (X : Int) (n : Nat) (h : n ≤ 32) : X % 4294967296 * 2 ^ (32 - n) % 4294967296 / 2 ^ (32 - n) = X % 2 ^ n := by
  have hA := two_pow_pos' (32 - n)
  have e : (4294967296 : Int) = 2 ^ n * 2 ^ (32 - n) := by
    rw [← Int.pow_add, show n + (32 - n) = 32 by omega]
    rfl
  have e1 : X % 4294967296 % 2 ^ n = X % 2 ^ n := Int.emod_emod_of_dvd X (by rw [e]; exact Int.dvd_mul_right _ _)
  generalize X % 4294967296 = Y at *
  rw [e, Int.mul_comm Y, Int.mul_comm (2 ^ n), Int.mul_emod_mul_of_pos _ _ hA, Int.mul_ediv_cancel_left _ (by omega), e1]

theorem half_range {c v : Int} (h : -1048576 ≤ v ∧ v ≤ 1048575) : -1048576 ≤ halfV c v ∧ halfV c v ≤ 1048575 := by
  unfold halfV
  split
  · have : v.tdiv 2 = if 0 ≤ v then v / 2 else -((-v) / 2) := by
      split
      · exact Int.tdiv_eq_ediv_of_nonneg (by assumption)
      · rw [← Int.tdiv_eq_ediv_of_nonneg (by omega), Int.neg_tdiv, Int.neg_neg]
    rw [this]
    split <;> omega
  · exact h

set_option maxHeartbeats 8000000 in
set_option maxRecDepth 20000 in
theorem alone_yes (op0 rd0 rs10 rs20 imm0 op1 rd1 rs11 rs21 imm1 : Int) (b0 : 0 ≤ op0 ∧ op0 ≤ 255) (b1 : 0 ≤ op1 ∧ op1 ≤ 255) (hm : mayB op0 rd0 rs10 rs20 imm0 = true) (w : World) (hT : Tab w) :
    Calls Tryd.prog 5 #[insnV op0 rd0 rs10 rs20 imm0, insnV op1 rd1 rs11 rs21 imm1] w fun e w' => e = .returned (.bool true) ∧ Kept w w' := by
  have P := parts_of hm
  have hc : chkV op0 rd0 rs10 rs20 imm0 = 0 := by simp [chkV, hm]
  have hw : wordV op0 rd0 rs10 rs20 imm0 = (wordN op0 rd0 rs10 rs20 imm0 : Int) := by simp [wordV, hm]
  have hl := formV_letter P.isop
  have hoe := opErr_yes P.isop
  have hbv : baseV op0 = (baseC (op0.toNat - 1) : Int) := by simp [baseV, P.isop]
  have hpe : plErr (formV op0) = 0 := by unfold plErr; rw [if_pos hl]
  have rn := numOk_range P.num
  have hlen : (placeL (formV op0)).length ≤ 20 := plen_le _ hl
  have hT0 := hT
  have hT : Tab ((w.alloc (.cells #[.int .u8 op0, .int .i64 rd0, .int .i64 rs10, .int .i64 rs20, .int .i64 imm0] 31)).alloc (.cells #[.int .u8 op1, .int .i64 rd1, .int .i64 rs11, .int .i64 rs21, .int .i64 imm1] 31)) := (hT0.kept (Kept.alloc _ _)).kept (Kept.alloc _ _)
  have hK := Kept.refl ((w.alloc (.cells #[.int .u8 op0, .int .i64 rd0, .int .i64 rs10, .int .i64 rs20, .int .i64 imm0] 31)).alloc (.cells #[.int .u8 op1, .int .i64 rd1, .int .i64 rs11, .int .i64 rs21, .int .i64 imm1] 31))
  have d00 : ((w.alloc (.cells #[.int .u8 op0, .int .i64 rd0, .int .i64 rs10, .int .i64 rs20, .int .i64 imm0] 31)).alloc (.cells #[.int .u8 op1, .int .i64 rd1, .int .i64 rs11, .int .i64 rs21, .int .i64 imm1] 31)).cell? ⟨w.heap.size, 0, none⟩ = some (.int .u8 op0) := Kept.cell hK (by simp)
  have d01 : ((w.alloc (.cells #[.int .u8 op0, .int .i64 rd0, .int .i64 rs10, .int .i64 rs20, .int .i64 imm0] 31)).alloc (.cells #[.int .u8 op1, .int .i64 rd1, .int .i64 rs11, .int .i64 rs21, .int .i64 imm1] 31)).cell? ⟨w.heap.size, 1, none⟩ = some (.int .i64 rd0) := Kept.cell hK (by simp)
  have d02 : ((w.alloc (.cells #[.int .u8 op0, .int .i64 rd0, .int .i64 rs10, .int .i64 rs20, .int .i64 imm0] 31)).alloc (.cells #[.int .u8 op1, .int .i64 rd1, .int .i64 rs11, .int .i64 rs21, .int .i64 imm1] 31)).cell? ⟨w.heap.size, 2, none⟩ = some (.int .i64 rs10) := Kept.cell hK (by simp)
  have d03 : ((w.alloc (.cells #[.int .u8 op0, .int .i64 rd0, .int .i64 rs10, .int .i64 rs20, .int .i64 imm0] 31)).alloc (.cells #[.int .u8 op1, .int .i64 rd1, .int .i64 rs11, .int .i64 rs21, .int .i64 imm1] 31)).cell? ⟨w.heap.size, 3, none⟩ = some (.int .i64 rs20) := Kept.cell hK (by simp)
  have d04 : ((w.alloc (.cells #[.int .u8 op0, .int .i64 rd0, .int .i64 rs10, .int .i64 rs20, .int .i64 imm0] 31)).alloc (.cells #[.int .u8 op1, .int .i64 rd1, .int .i64 rs11, .int .i64 rs21, .int .i64 imm1] 31)).cell? ⟨w.heap.size, 4, none⟩ = some (.int .i64 imm0) := Kept.cell hK (by simp)
  have d10 : ((w.alloc (.cells #[.int .u8 op0, .int .i64 rd0, .int .i64 rs10, .int .i64 rs20, .int .i64 imm0] 31)).alloc (.cells #[.int .u8 op1, .int .i64 rd1, .int .i64 rs11, .int .i64 rs21, .int .i64 imm1] 31)).cell? ⟨w.heap.size + 1, 0, none⟩ = some (.int .u8 op1) := Kept.cell hK (by simp)
  have d11 : ((w.alloc (.cells #[.int .u8 op0, .int .i64 rd0, .int .i64 rs10, .int .i64 rs20, .int .i64 imm0] 31)).alloc (.cells #[.int .u8 op1, .int .i64 rd1, .int .i64 rs11, .int .i64 rs21, .int .i64 imm1] 31)).cell? ⟨w.heap.size + 1, 1, none⟩ = some (.int .i64 rd1) := Kept.cell hK (by simp)
  have d12 : ((w.alloc (.cells #[.int .u8 op0, .int .i64 rd0, .int .i64 rs10, .int .i64 rs20, .int .i64 imm0] 31)).alloc (.cells #[.int .u8 op1, .int .i64 rd1, .int .i64 rs11, .int .i64 rs21, .int .i64 imm1] 31)).cell? ⟨w.heap.size + 1, 2, none⟩ = some (.int .i64 rs11) := Kept.cell hK (by simp)
  have d13 : ((w.alloc (.cells #[.int .u8 op0, .int .i64 rd0, .int .i64 rs10, .int .i64 rs20, .int .i64 imm0] 31)).alloc (.cells #[.int .u8 op1, .int .i64 rd1, .int .i64 rs11, .int .i64 rs21, .int .i64 imm1] 31)).cell? ⟨w.heap.size + 1, 3, none⟩ = some (.int .i64 rs21) := Kept.cell hK (by simp)
  have d14 : ((w.alloc (.cells #[.int .u8 op0, .int .i64 rd0, .int .i64 rs10, .int .i64 rs20, .int .i64 imm0] 31)).alloc (.cells #[.int .u8 op1, .int .i64 rd1, .int .i64 rs11, .int .i64 rs21, .int .i64 imm1] 31)).cell? ⟨w.heap.size + 1, 4, none⟩ = some (.int .i64 imm1) := Kept.cell hK (by simp)
  clear hT0
  go_enter Tryd.func5, Tryd.ntmps5
  go_upto_region 6 with (first
    | (go_at_call 9; refine (alive_walk _ hT).mono ?_; rintro e w' ⟨rfl, hk⟩; have hK' := Kept.trans hK hk; clear hK; have hK := hK'; clear hK'; have hT' := hT.kept hk; clear hT; have hT := hT'; clear hT'; clear hk; clear d00 d01 d02 d03 d04 d10 d11 d12 d13 d14; have d00 : w'.cell? ⟨w.heap.size, 0, none⟩ = some (.int .u8 op0) := Kept.cell hK (by simp); have d01 : w'.cell? ⟨w.heap.size, 1, none⟩ = some (.int .i64 rd0) := Kept.cell hK (by simp); have d02 : w'.cell? ⟨w.heap.size, 2, none⟩ = some (.int .i64 rs10) := Kept.cell hK (by simp); have d03 : w'.cell? ⟨w.heap.size, 3, none⟩ = some (.int .i64 rs20) := Kept.cell hK (by simp); have d04 : w'.cell? ⟨w.heap.size, 4, none⟩ = some (.int .i64 imm0) := Kept.cell hK (by simp); have d10 : w'.cell? ⟨w.heap.size + 1, 0, none⟩ = some (.int .u8 op1) := Kept.cell hK (by simp); have d11 : w'.cell? ⟨w.heap.size + 1, 1, none⟩ = some (.int .i64 rd1) := Kept.cell hK (by simp); have d12 : w'.cell? ⟨w.heap.size + 1, 2, none⟩ = some (.int .i64 rs11) := Kept.cell hK (by simp); have d13 : w'.cell? ⟨w.heap.size + 1, 3, none⟩ = some (.int .i64 rs21) := Kept.cell hK (by simp); have d14 : w'.cell? ⟨w.heap.size + 1, 4, none⟩ = some (.int .i64 imm1) := Kept.cell hK (by simp))
    | (go_at_call 8; refine (word_walk _ _ _ _ _ (by omega) (by omega) _ hT).mono ?_; rintro e w' ⟨rfl, hk⟩; have hK' := Kept.trans hK hk; clear hK; have hK := hK'; clear hK'; have hT' := hT.kept hk; clear hT; have hT := hT'; clear hT'; clear hk; clear d00 d01 d02 d03 d04 d10 d11 d12 d13 d14; have d00 : w'.cell? ⟨w.heap.size, 0, none⟩ = some (.int .u8 op0) := Kept.cell hK (by simp); have d01 : w'.cell? ⟨w.heap.size, 1, none⟩ = some (.int .i64 rd0) := Kept.cell hK (by simp); have d02 : w'.cell? ⟨w.heap.size, 2, none⟩ = some (.int .i64 rs10) := Kept.cell hK (by simp); have d03 : w'.cell? ⟨w.heap.size, 3, none⟩ = some (.int .i64 rs20) := Kept.cell hK (by simp); have d04 : w'.cell? ⟨w.heap.size, 4, none⟩ = some (.int .i64 imm0) := Kept.cell hK (by simp); have d10 : w'.cell? ⟨w.heap.size + 1, 0, none⟩ = some (.int .u8 op1) := Kept.cell hK (by simp); have d11 : w'.cell? ⟨w.heap.size + 1, 1, none⟩ = some (.int .i64 rd1) := Kept.cell hK (by simp); have d12 : w'.cell? ⟨w.heap.size + 1, 2, none⟩ = some (.int .i64 rs11) := Kept.cell hK (by simp); have d13 : w'.cell? ⟨w.heap.size + 1, 3, none⟩ = some (.int .i64 rs21) := Kept.cell hK (by simp); have d14 : w'.cell? ⟨w.heap.size + 1, 4, none⟩ = some (.int .i64 imm1) := Kept.cell hK (by simp))
    | (go_at_call 15; refine (check_walk _ _ _ _ _ (by omega) _).mono ?_; rintro e w' ⟨rfl, hk⟩; have hK' := Kept.trans hK hk; clear hK; have hK := hK'; clear hK'; have hT' := hT.kept hk; clear hT; have hT := hT'; clear hT'; clear hk; clear d00 d01 d02 d03 d04 d10 d11 d12 d13 d14; have d00 : w'.cell? ⟨w.heap.size, 0, none⟩ = some (.int .u8 op0) := Kept.cell hK (by simp); have d01 : w'.cell? ⟨w.heap.size, 1, none⟩ = some (.int .i64 rd0) := Kept.cell hK (by simp); have d02 : w'.cell? ⟨w.heap.size, 2, none⟩ = some (.int .i64 rs10) := Kept.cell hK (by simp); have d03 : w'.cell? ⟨w.heap.size, 3, none⟩ = some (.int .i64 rs20) := Kept.cell hK (by simp); have d04 : w'.cell? ⟨w.heap.size, 4, none⟩ = some (.int .i64 imm0) := Kept.cell hK (by simp); have d10 : w'.cell? ⟨w.heap.size + 1, 0, none⟩ = some (.int .u8 op1) := Kept.cell hK (by simp); have d11 : w'.cell? ⟨w.heap.size + 1, 1, none⟩ = some (.int .i64 rd1) := Kept.cell hK (by simp); have d12 : w'.cell? ⟨w.heap.size + 1, 2, none⟩ = some (.int .i64 rs11) := Kept.cell hK (by simp); have d13 : w'.cell? ⟨w.heap.size + 1, 3, none⟩ = some (.int .i64 rs21) := Kept.cell hK (by simp); have d14 : w'.cell? ⟨w.heap.size + 1, 4, none⟩ = some (.int .i64 imm1) := Kept.cell hK (by simp))
    | (go_at_call 16; refine (form_walk _ (by omega) _).mono ?_; rintro e w' ⟨rfl, rfl⟩)
    | (go_at_call 6; refine (base_walk _ (by omega) (by omega) _ hT).mono ?_; rintro e w' ⟨rfl, rfl⟩)
    | (go_at_call 7; refine (places_walk _ _).mono ?_; rintro e w' ⟨a, cap, rfl, hC, hk⟩; have hK' := Kept.trans hK hk; clear hK; have hK := hK'; clear hK'; have hT' := hT.kept hk; clear hT; have hT := hT'; clear hT'; clear hk; clear d00 d01 d02 d03 d04 d10 d11 d12 d13 d14; have d00 : w'.cell? ⟨w.heap.size, 0, none⟩ = some (.int .u8 op0) := Kept.cell hK (by simp); have d01 : w'.cell? ⟨w.heap.size, 1, none⟩ = some (.int .i64 rd0) := Kept.cell hK (by simp); have d02 : w'.cell? ⟨w.heap.size, 2, none⟩ = some (.int .i64 rs10) := Kept.cell hK (by simp); have d03 : w'.cell? ⟨w.heap.size, 3, none⟩ = some (.int .i64 rs20) := Kept.cell hK (by simp); have d04 : w'.cell? ⟨w.heap.size, 4, none⟩ = some (.int .i64 imm0) := Kept.cell hK (by simp); have d10 : w'.cell? ⟨w.heap.size + 1, 0, none⟩ = some (.int .u8 op1) := Kept.cell hK (by simp); have d11 : w'.cell? ⟨w.heap.size + 1, 1, none⟩ = some (.int .i64 rd1) := Kept.cell hK (by simp); have d12 : w'.cell? ⟨w.heap.size + 1, 2, none⟩ = some (.int .i64 rs11) := Kept.cell hK (by simp); have d13 : w'.cell? ⟨w.heap.size + 1, 3, none⟩ = some (.int .i64 rs21) := Kept.cell hK (by simp); have d14 : w'.cell? ⟨w.heap.size + 1, 4, none⟩ = some (.int .i64 imm1) := Kept.cell hK (by simp))
    | (go_at_call 17; refine (gather_c P a cap _ hC).mono ?_; rintro e w' ⟨rfl, rfl⟩))
  go_cut [8, 9, 60] (fun _ _ c wx => c = .bool false ∧ wx = w')
  case first =>
    cases hm1 : mayB op1 rd1 rs11 rs21 imm1
    · have hc1 : chkV op1 rd1 rs11 rs21 imm1 = 20 := by simp [chkV, hm1]
      as_aux_lemma =>
        go_wp2
        go_meet
        exact ⟨rfl, rfl⟩
    · have hc1 : chkV op1 rd1 rs11 rs21 imm1 = 0 := by simp [chkV, hm1]
      have hw1 : wordV op1 rd1 rs11 rs21 imm1 = (wordN op1 rd1 rs11 rs21 imm1 : Int) := by simp [wordV, hm1]
      have P1 := parts_of hm1
      by_cases he : op0 = op1 ∧ rd0 = rd1 ∧ rs10 = rs11 ∧ rs20 = rs21 ∧ imm0 = imm1
      · obtain ⟨rfl, rfl, rfl, rfl, rfl⟩ := he
        as_aux_lemma =>
          go_wp2
          go_meet
          exact ⟨rfl, rfl⟩
      · have hne : ((wordN op0 rd0 rs10 rs20 imm0 : Int) == (wordN op1 rd1 rs11 rs21 imm1 : Int)) = false := by
          rw [beq_eq_false_iff_ne]
          intro h
          exact he (word_inj P P1 (Int.ofNat.inj h))
        as_aux_lemma =>
          go_wp2
          all_goals first
            | (subst_vars; go_meet; exact ⟨rfl, rfl⟩)
            | exact absurd ⟨by assumption, by assumption, by assumption, by assumption, by assumption⟩ he
  case rest =>
    obtain ⟨rfl, rfl⟩ := hcut
    go_upto_region 15 with (first
      | (go_at_call 9; refine (alive_walk _ hT).mono ?_; rintro e w' ⟨rfl, hk⟩; have hK' := Kept.trans hK hk; clear hK; have hK := hK'; clear hK'; have hT' := hT.kept hk; clear hT; have hT := hT'; clear hT'; clear hk; clear d00 d01 d02 d03 d04 d10 d11 d12 d13 d14; have d00 : w'.cell? ⟨w.heap.size, 0, none⟩ = some (.int .u8 op0) := Kept.cell hK (by simp); have d01 : w'.cell? ⟨w.heap.size, 1, none⟩ = some (.int .i64 rd0) := Kept.cell hK (by simp); have d02 : w'.cell? ⟨w.heap.size, 2, none⟩ = some (.int .i64 rs10) := Kept.cell hK (by simp); have d03 : w'.cell? ⟨w.heap.size, 3, none⟩ = some (.int .i64 rs20) := Kept.cell hK (by simp); have d04 : w'.cell? ⟨w.heap.size, 4, none⟩ = some (.int .i64 imm0) := Kept.cell hK (by simp); have d10 : w'.cell? ⟨w.heap.size + 1, 0, none⟩ = some (.int .u8 op1) := Kept.cell hK (by simp); have d11 : w'.cell? ⟨w.heap.size + 1, 1, none⟩ = some (.int .i64 rd1) := Kept.cell hK (by simp); have d12 : w'.cell? ⟨w.heap.size + 1, 2, none⟩ = some (.int .i64 rs11) := Kept.cell hK (by simp); have d13 : w'.cell? ⟨w.heap.size + 1, 3, none⟩ = some (.int .i64 rs21) := Kept.cell hK (by simp); have d14 : w'.cell? ⟨w.heap.size + 1, 4, none⟩ = some (.int .i64 imm1) := Kept.cell hK (by simp))
      | (go_at_call 8; refine (word_walk _ _ _ _ _ (by omega) (by omega) _ hT).mono ?_; rintro e w' ⟨rfl, hk⟩; have hK' := Kept.trans hK hk; clear hK; have hK := hK'; clear hK'; have hT' := hT.kept hk; clear hT; have hT := hT'; clear hT'; clear hk; clear d00 d01 d02 d03 d04 d10 d11 d12 d13 d14; have d00 : w'.cell? ⟨w.heap.size, 0, none⟩ = some (.int .u8 op0) := Kept.cell hK (by simp); have d01 : w'.cell? ⟨w.heap.size, 1, none⟩ = some (.int .i64 rd0) := Kept.cell hK (by simp); have d02 : w'.cell? ⟨w.heap.size, 2, none⟩ = some (.int .i64 rs10) := Kept.cell hK (by simp); have d03 : w'.cell? ⟨w.heap.size, 3, none⟩ = some (.int .i64 rs20) := Kept.cell hK (by simp); have d04 : w'.cell? ⟨w.heap.size, 4, none⟩ = some (.int .i64 imm0) := Kept.cell hK (by simp); have d10 : w'.cell? ⟨w.heap.size + 1, 0, none⟩ = some (.int .u8 op1) := Kept.cell hK (by simp); have d11 : w'.cell? ⟨w.heap.size + 1, 1, none⟩ = some (.int .i64 rd1) := Kept.cell hK (by simp); have d12 : w'.cell? ⟨w.heap.size + 1, 2, none⟩ = some (.int .i64 rs11) := Kept.cell hK (by simp); have d13 : w'.cell? ⟨w.heap.size + 1, 3, none⟩ = some (.int .i64 rs21) := Kept.cell hK (by simp); have d14 : w'.cell? ⟨w.heap.size + 1, 4, none⟩ = some (.int .i64 imm1) := Kept.cell hK (by simp))
      | (go_at_call 15; refine (check_walk _ _ _ _ _ (by omega) _).mono ?_; rintro e w' ⟨rfl, hk⟩; have hK' := Kept.trans hK hk; clear hK; have hK := hK'; clear hK'; have hT' := hT.kept hk; clear hT; have hT := hT'; clear hT'; clear hk; clear d00 d01 d02 d03 d04 d10 d11 d12 d13 d14; have d00 : w'.cell? ⟨w.heap.size, 0, none⟩ = some (.int .u8 op0) := Kept.cell hK (by simp); have d01 : w'.cell? ⟨w.heap.size, 1, none⟩ = some (.int .i64 rd0) := Kept.cell hK (by simp); have d02 : w'.cell? ⟨w.heap.size, 2, none⟩ = some (.int .i64 rs10) := Kept.cell hK (by simp); have d03 : w'.cell? ⟨w.heap.size, 3, none⟩ = some (.int .i64 rs20) := Kept.cell hK (by simp); have d04 : w'.cell? ⟨w.heap.size, 4, none⟩ = some (.int .i64 imm0) := Kept.cell hK (by simp); have d10 : w'.cell? ⟨w.heap.size + 1, 0, none⟩ = some (.int .u8 op1) := Kept.cell hK (by simp); have d11 : w'.cell? ⟨w.heap.size + 1, 1, none⟩ = some (.int .i64 rd1) := Kept.cell hK (by simp); have d12 : w'.cell? ⟨w.heap.size + 1, 2, none⟩ = some (.int .i64 rs11) := Kept.cell hK (by simp); have d13 : w'.cell? ⟨w.heap.size + 1, 3, none⟩ = some (.int .i64 rs21) := Kept.cell hK (by simp); have d14 : w'.cell? ⟨w.heap.size + 1, 4, none⟩ = some (.int .i64 imm1) := Kept.cell hK (by simp))
      | (go_at_call 16; refine (form_walk _ (by omega) _).mono ?_; rintro e w' ⟨rfl, rfl⟩)
      | (go_at_call 6; refine (base_walk _ (by omega) (by omega) _ hT).mono ?_; rintro e w' ⟨rfl, rfl⟩)
      | (go_at_call 7; refine (places_walk _ _).mono ?_; rintro e w' ⟨a, cap, rfl, hC, hk⟩; have hK' := Kept.trans hK hk; clear hK; have hK := hK'; clear hK'; have hT' := hT.kept hk; clear hT; have hT := hT'; clear hT'; clear hk; clear d00 d01 d02 d03 d04 d10 d11 d12 d13 d14; have d00 : w'.cell? ⟨w.heap.size, 0, none⟩ = some (.int .u8 op0) := Kept.cell hK (by simp); have d01 : w'.cell? ⟨w.heap.size, 1, none⟩ = some (.int .i64 rd0) := Kept.cell hK (by simp); have d02 : w'.cell? ⟨w.heap.size, 2, none⟩ = some (.int .i64 rs10) := Kept.cell hK (by simp); have d03 : w'.cell? ⟨w.heap.size, 3, none⟩ = some (.int .i64 rs20) := Kept.cell hK (by simp); have d04 : w'.cell? ⟨w.heap.size, 4, none⟩ = some (.int .i64 imm0) := Kept.cell hK (by simp); have d10 : w'.cell? ⟨w.heap.size + 1, 0, none⟩ = some (.int .u8 op1) := Kept.cell hK (by simp); have d11 : w'.cell? ⟨w.heap.size + 1, 1, none⟩ = some (.int .i64 rd1) := Kept.cell hK (by simp); have d12 : w'.cell? ⟨w.heap.size + 1, 2, none⟩ = some (.int .i64 rs11) := Kept.cell hK (by simp); have d13 : w'.cell? ⟨w.heap.size + 1, 3, none⟩ = some (.int .i64 rs21) := Kept.cell hK (by simp); have d14 : w'.cell? ⟨w.heap.size + 1, 4, none⟩ = some (.int .i64 imm1) := Kept.cell hK (by simp))
      | (go_at_call 17; refine (gather_c P a cap _ hC).mono ?_; rintro e w' ⟨rfl, rfl⟩))
    go_cut [105] (fun c wx => c = .bool (isJB (formV op0)) ∧ wx = w')
    case first =>
      by_cases hJ : formV op0 = 74
      · have e : isJB (formV op0) = true := by simp [isJB, hJ]
        have hJ' : (formV op0 == 74) = true := by simp [hJ]
        clear hJ
        as_aux_lemma =>
          go_wp2
          go_meet
          exact ⟨congrArg _ e.symm, rfl⟩
      · by_cases hB : formV op0 = 66
        · have e : isJB (formV op0) = true := by simp [isJB, hB]
          have hJ' : (formV op0 == 74) = false := by simp [hB]
          have hB' : (formV op0 == 66) = true := by simp [hB]
          clear hB hJ
          as_aux_lemma =>
            go_wp2
            go_meet
            exact ⟨congrArg _ e.symm, rfl⟩
        · have e : isJB (formV op0) = false := by simp [isJB, hJ, hB]
          have hJ' : (formV op0 == 74) = false := by simp [hJ]
          have hB' : (formV op0 == 66) = false := by simp [hB]
          clear hB hJ
          as_aux_lemma =>
            go_wp2
            go_meet
            exact ⟨congrArg _ e.symm, rfl⟩
    case rest =>
      obtain ⟨rfl, rfl⟩ := hcut
      go_upto_if 105 with fail
      go_cut [18] (fun n wx => n = .int .i64 (halfV (formV op0) imm0) ∧ wx = wc)
      case first =>
        cases hj : isJB (formV op0)
        · have e : halfV (formV op0) imm0 = imm0 := by
            have := of_decide_eq_false hj
            simp [halfV, this]
          as_aux_lemma =>
            go_wp2
            go_meet
            exact ⟨congrArg _ e.symm, rfl⟩
        · have e : halfV (formV op0) imm0 = imm0.tdiv 2 := by
            have := of_decide_eq_true hj
            simp [halfV, this]
          as_aux_lemma =>
            go_wp2
            go_meet
            exact ⟨congrArg _ e.symm, rfl⟩
      case rest =>
        obtain ⟨rfl, rfl⟩ := hcut
        have hh : -1048576 ≤ halfV (formV op0) imm0 ∧ halfV (formV op0) imm0 ≤ 1048575 := half_range rn
        go_upto_if 110 with fail
        go_cut [19] (fun x wx => x = .int .u32 (numV (formV op0) imm0) ∧ wx = wc)
        case first =>
          by_cases hp : 0 < (placeL (formV op0)).length
          · have e := shl_shr (halfV (formV op0) imm0) (placeL (formV op0)).length (by omega)
            as_aux_lemma =>
              go_wp2
              go_meet
              exact ⟨rfl, rfl⟩
          · have e : numV (formV op0) imm0 = 0 := by
              unfold numV
              have h0 : plen (formV op0) = 0 := by simpa using hp
              rw [h0, Int.pow_zero, Int.emod_one]
            as_aux_lemma =>
              go_wp2
              go_meet
              exact ⟨by rw [e], rfl⟩
        case rest =>
          obtain ⟨rfl, rfl⟩ := hcut
          have f1 := fun w h => field_rd P h w
          have f2 := fun w h => field_rs1 P h w
          have f3 := fun w h => field_rs2 P h w
          have e1 := word_again P
          generalize wordN op0 rd0 rs10 rs20 imm0 = W at *
          go_upto_region 20 with fail
          go_cut [159] (fun c wx => c = .bool false ∧ ∃ m, wx = wc.drewN m)
          case first =>
            clear e1 hm hc hw hl hoe hbv hpe rn hlen hK hT hC hh d00 d04 d10 d11 d12 d13 d14
            by_cases z1 : rd0 = 0
            · have z1' : (rd0 != 0) = false := by simpa using z1
              clear z1
              by_cases z2 : rs10 = 0
              · have z2' : (rs10 != 0) = false := by simpa using z2
                clear z2
                by_cases z3 : rs20 = 0
                · have z3' : (rs20 != 0) = false := by simpa using z3
                  clear z3
                  as_aux_lemma =>
                    go_big_quiet (fail)
                    go_wp2
                    go_meet
                    exact ⟨rfl, _, rfl⟩
                · have z3' : (rs20 != 0) = true := by simpa using z3
                  as_aux_lemma =>
                    go_big_quiet ((first | (go_at_call_of 18 (Value.int .i64 20); exact Calls.quiet_of (f3 _ z3))))
                    go_wp2
                    go_meet
                    exact ⟨rfl, _, rfl⟩
              · have z2' : (rs10 != 0) = true := by simpa using z2
                by_cases z3 : rs20 = 0
                · have z3' : (rs20 != 0) = false := by simpa using z3
                  clear z3
                  as_aux_lemma =>
                    go_big_quiet ((first | (go_at_call_of 18 (Value.int .i64 15); exact Calls.quiet_of (f2 _ z2))))
                    go_wp2
                    go_meet
                    exact ⟨rfl, _, rfl⟩
                · have z3' : (rs20 != 0) = true := by simpa using z3
                  as_aux_lemma =>
                    go_big_quiet ((first | (go_at_call_of 18 (Value.int .i64 15); exact Calls.quiet_of (f2 _ z2)) | (go_at_call_of 18 (Value.int .i64 20); exact Calls.quiet_of (f3 _ z3))))
                    go_wp2
                    go_meet
                    exact ⟨rfl, _, rfl⟩
            · have z1' : (rd0 != 0) = true := by simpa using z1
              by_cases z2 : rs10 = 0
              · have z2' : (rs10 != 0) = false := by simpa using z2
                clear z2
                by_cases z3 : rs20 = 0
                · have z3' : (rs20 != 0) = false := by simpa using z3
                  clear z3
                  as_aux_lemma =>
                    go_big_quiet ((first | (go_at_call_of 18 (Value.int .i64 7); exact Calls.quiet_of (f1 _ z1))))
                    go_wp2
                    go_meet
                    exact ⟨rfl, _, rfl⟩
                · have z3' : (rs20 != 0) = true := by simpa using z3
                  as_aux_lemma =>
                    go_big_quiet ((first | (go_at_call_of 18 (Value.int .i64 7); exact Calls.quiet_of (f1 _ z1)) | (go_at_call_of 18 (Value.int .i64 20); exact Calls.quiet_of (f3 _ z3))))
                    go_wp2
                    go_meet
                    exact ⟨rfl, _, rfl⟩
              · have z2' : (rs10 != 0) = true := by simpa using z2
                by_cases z3 : rs20 = 0
                · have z3' : (rs20 != 0) = false := by simpa using z3
                  clear z3
                  as_aux_lemma =>
                    go_big_quiet ((first | (go_at_call_of 18 (Value.int .i64 7); exact Calls.quiet_of (f1 _ z1)) | (go_at_call_of 18 (Value.int .i64 15); exact Calls.quiet_of (f2 _ z2))))
                    go_wp2
                    go_meet
                    exact ⟨rfl, _, rfl⟩
                · have z3' : (rs20 != 0) = true := by simpa using z3
                  as_aux_lemma =>
                    go_big_quiet ((first | (go_at_call_of 18 (Value.int .i64 7); exact Calls.quiet_of (f1 _ z1)) | (go_at_call_of 18 (Value.int .i64 15); exact Calls.quiet_of (f2 _ z2)) | (go_at_call_of 18 (Value.int .i64 20); exact Calls.quiet_of (f3 _ z3))))
                    go_wp2
                    go_meet
                    exact ⟨rfl, _, rfl⟩
          case rest =>
            obtain ⟨rfl, m, rfl⟩ := hcut
            have e2 := base_scat P
            have r1 := regOk_range P.okd
            have r2 := regOk_range P.ok1
            have r3 := regOk_range P.ok2
            go_wp2_with (go_at_call 19; refine (scatter_c (formV op0) imm0 hl a cap _ (hC.drewN m)).mono ?_; rintro e w' ⟨rfl, rfl⟩)
            go_ret
            exact ⟨rfl, Kept.trans (Kept.trans (Kept.trans (Kept.alloc _ _) (Kept.alloc _ _)) hK) (Kept.drewN _ _)⟩

end Go.Proofs.YtmjpbnpaokafhaaDoor
