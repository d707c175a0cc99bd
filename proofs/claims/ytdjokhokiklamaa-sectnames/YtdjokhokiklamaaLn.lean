/- The law SectNames, walked. -/
import Derived.Test.YtdjokhokiklamaaKit
namespace Go.Proofs.Ytdjokhokiklamaa
open Go.RowKit

theorem nK1 : kindN (nm ⟨#[46, 116, 101, 120, 116]⟩) = 1 ∧ kE (nm ⟨#[46, 116, 101, 120, 116]⟩) = 0 := by decide +kernel
theorem nK2 : kindN (nm ⟨#[46, 98, 115, 115, 120]⟩) = 0 ∧ kE (nm ⟨#[46, 98, 115, 115, 120]⟩) = 3 := by decide +kernel
theorem nK3 : kindN (nm ⟨#[46, 116, 101, 120, 116, 46]⟩) = 1 ∧ kE (nm ⟨#[46, 116, 101, 120, 116, 46]⟩) = 0 := by decide +kernel
theorem nC1 : chkS (nm ⟨#[46, 100, 97, 116, 97]⟩) 4 3 0 = 0 := by decide +kernel
theorem nC2 : chkS (nm ⟨#[46, 98, 115, 115]⟩) 1 0 9 = 0 := by decide +kernel
theorem nC3 : chkS (nm ⟨#[46, 116, 101, 120, 116]⟩) 3 0 0 = 8 := by decide +kernel
theorem nC4 : chkS (nm ⟨#[46, 98, 115, 115]⟩) 1 1 0 = 8 := by decide +kernel
theorem nR1 : rdE [] = 3 ∧ rdV [] = [0, 0, 0, 0, 0, 0, 0, 0, 0, 0] := by decide +kernel
def full : List Int := List.replicate 64 255
theorem nR2 : rdE full = 8 ∧ rdV full = [0, 0, 0, 0, 0, 0, 0, 0, 0, 0] ∧ full.length = 64 ∧ ∀ x ∈ full, 0 ≤ x ∧ x < 256 := by decide +kernel

/-- So many are laid. -/
def rowF (k : Nat) : List Int := List.replicate k 255 ++ List.replicate (64 - k) 0
theorem rowF_length {k : Nat} (h : k ≤ 64) : (rowF k).length = 64 := by simp [rowF]; omega
theorem rowF_set {k : Nat} (h : k < 64) : (rowF k).set k 255 = rowF (k + 1) := by
  obtain ⟨m, hm⟩ : ∃ m, 64 - k = m + 1 := ⟨64 - k - 1, by omega⟩
  have hm' : 64 - (k + 1) = m := by omega
  unfold rowF
  rw [hm, hm', List.set_append_right _ _ (by simp), List.length_replicate, Nat.sub_self, List.replicate_succ, List.set_cons_zero, List.replicate_succ' (n := k), List.append_assoc]
  rfl
theorem hmk64 (w : World) : (Instr.makeSlice 26 (.int .i64 64) (.int .i64 64)).run Try.prog w = .ok (.slice (some ⟨w.heap.size, 0, none⟩) 64 64) (w.alloc (.cells (Array.replicate 64 (.int .u8 0)) 5)) := by kernel_rfl
theorem own_64 (w : World) : Own (w.alloc (.cells (Array.replicate 64 (.int .u8 0)) 5)) w.heap.size (.slice (some ⟨w.heap.size, 0, none⟩) 64 64) (rowF 0) :=
  ⟨by simp, .inr ⟨w.heap.size, 64, _, rfl, Nat.le_refl _, heap_alloc_new w _, Nat.le_refl _, by decide, by simp, by simp [rowF]⟩⟩

set_option maxRecDepth 20000 in
set_option maxHeartbeats 3200000 in
theorem names_walk (w : World) : Calls Try.prog 3 #[] w fun e w' => e = .returned (.bool true) ∧ Kept w w' := by
  have K1 := fun w => kind_walk ⟨#[46, 116, 101, 120, 116]⟩ w (by decide)
  have K2 := fun w => kind_walk ⟨#[46, 98, 115, 115, 120]⟩ w (by decide)
  have K3 := fun w => kind_walk ⟨#[46, 116, 101, 120, 116, 46]⟩ w (by decide)
  have C1 := fun a cap w => check_walk ⟨#[46, 100, 97, 116, 97]⟩ 4 a 3 cap 0 w (by decide)
  have C2 := fun a cap w => check_walk ⟨#[46, 98, 115, 115]⟩ 1 a 0 cap 9 w (by decide)
  have C3 := fun a cap w => check_walk ⟨#[46, 116, 101, 120, 116]⟩ 3 a 0 cap 0 w (by decide)
  have C4 := fun a cap w => check_walk ⟨#[46, 98, 115, 115]⟩ 1 a 1 cap 0 w (by decide)
  have R1 := fun w => read_walk none 0 0 [] 0 0 0 0 0 0 0 0 0 0 3 w rfl (Nat.le_refl _) (.inl rfl) (fun x hx => by cases hx) nR1.1 nR1.2
  rw [nK1.1, nK1.2] at K1
  rw [nK2.1, nK2.2] at K2
  rw [nK3.1, nK3.2] at K3
  rw [nC1] at C1
  rw [nC2] at C2
  rw [nC3] at C3
  rw [nC4] at C4
  go_enter Try.func3, Try.ntmps3
  go_upto_region 2 with (go_at_call 9; refine (K1 _).mono ?_; rintro e w1 ⟨rfl, k1⟩)
  go_upto_region 3 with (go_at_call 9; refine (K2 _).mono ?_; rintro e w2 ⟨rfl, k2⟩)
  go_upto_region 4 with (go_at_call 9; refine (K3 _).mono ?_; rintro e w3 ⟨rfl, k3⟩)
  clear K1 K2 K3
  go_upto_region 5 with (go_at_call 10; refine (C1 _ _ _).mono ?_; rintro e w4 ⟨rfl, k4⟩)
  go_upto_region 6 with (go_at_call 10; refine (C2 _ _ _).mono ?_; rintro e w5 ⟨rfl, k5⟩)
  go_upto_region 7 with (go_at_call 10; refine (C3 _ _ _).mono ?_; rintro e w6 ⟨rfl, k6⟩)
  go_upto_region 8 with (go_at_call 10; refine (C4 _ _ _).mono ?_; rintro e w7 ⟨rfl, k7⟩)
  clear C1 C2 C3 C4
  have W7 : Kept w w7 := (((((((k1.trans k2).trans k3).trans (Kept.alloc _ _)).trans k4).trans k5).trans k6).trans (Kept.alloc _ _)).trans k7
  clear k1 k2 k3 k4 k5 k6 k7
  go_upto_region 9 with (go_at_call 11; refine (R1 _).mono ?_; rintro e w8 ⟨rfl, k8⟩)
  clear R1
  have k9 : Kept w8 (w8.alloc (headO 0 0 0 0 0 0 0 0 0 0)) := Kept.alloc _ _
  obtain ⟨w9, hw9⟩ : ∃ w9, w8.alloc (headO 0 0 0 0 0 0 0 0 0 0) = w9 := ⟨_, rfl⟩
  rw [hw9] at k9 ⊢
  have W9 := (W7.trans k8).trans k9
  clear hw9 k8 k9 W7
  have hm := hmk64 w9
  have O0 := own_64 w9
  have kM : Kept w9 (w9.alloc (.cells (Array.replicate 64 (.int .u8 0)) 5)) := Kept.alloc _ _
  obtain ⟨wm, hwm⟩ : ∃ wm, w9.alloc (.cells (Array.replicate 64 (.int .u8 0)) 5) = wm := ⟨_, rfl⟩
  rw [hwm] at hm O0 kM
  obtain ⟨g, hg⟩ : ∃ g, w9.heap.size = g := ⟨_, rfl⟩
  rw [hg] at hm O0
  have hgw : w.heap.size ≤ g := by rw [← hg]; exact W9.size
  have WM := W9.trans kM
  clear hwm kM W9 hg
  go_wp2
  go_loopw [14] (fun i wr => ∃ k : Nat, k ≤ 64 ∧ i = .int .i64 k ∧ Own wr g (.slice (some ⟨g, 0, none⟩) 64 64) (rowF k) ∧ Kept w wr) (fun i _ => 64 - (intOf i).toNat)
  case atStart => exact ⟨0, Nat.zero_le _, rfl, O0, WM⟩
  case round =>
    obtain ⟨k, hk, rfl, hown, hkept⟩ := hrel
    clear O0 WM hm
    by_cases hlt : k < 64
    · have hown' := hown
      unfold Own at hown'
      rw [rowF_length hk] at hown'
      have hc : wr.cell? ⟨g, k, none⟩ = some (.int .u8 ((rowF k)[k]'(by rw [rowF_length hk]; exact hlt))) := by
        rw [hown'.cellAt k (by omega)]
        simp [rowF_length hk, hlt]
      have hf := hown'.frozenAt k
      obtain ⟨S1, S2⟩ := hown'.stored k (.int .u8 255)
      have S1' : Own (wr.setCell ⟨g, k, none⟩ (.int .u8 255)) g (.slice (some ⟨g, 0, none⟩) 64 64) (rowF (k + 1)) := by
        unfold Own
        rw [rowF_length hlt, ← rowF_set hlt, List.map_set]
        exact S1
      have S2' : Kept w (wr.setCell ⟨g, k, none⟩ (.int .u8 255)) := hkept.grown S2 hkept.size (fun j e => by cases e; exact hgw)
      clear S1 S2 hown'
      go_wp2
      go_roundw
      case rel => exact ⟨k + 1, by omega, by go_num, S1', S2'⟩
      case measure => simp [intOf]; omega
    · obtain rfl : k = 64 := by omega
      have hrow : rowF 64 = full := by simp [rowF, full]
      rw [hrow] at hown
      obtain ⟨A1, c1, hv1, hc1, y1, _⟩ := hown.let nR2.2.2.1
      have hR := read_walk A1 64 c1 full 0 0 0 0 0 0 0 0 0 0 8 wr nR2.2.2.1 hc1 y1 nR2.2.2.2 nR2.1 nR2.2.1
      rw [← hv1] at hR
      have hA := alive_walk
      clear hrow hown y1 hv1
      go_upto_region 15 with (go_at_call 11; refine hR.mono ?_; rintro e w10 ⟨rfl, k10⟩)
      go_wp2_with (go_at_call 12; refine (hA _).mono ?_; rintro e w12 ⟨rfl, k12⟩)
      go_ret
      exact ⟨rfl, ((hkept.trans k10).trans (Kept.alloc _ _)).trans k12⟩
end Go.Proofs.Ytdjokhokiklamaa
