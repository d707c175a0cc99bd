/- The law RelaNames, walked. -/
import Derived.Test.YtbfmichhpcaamaaDoorXk
namespace Go.Proofs.YtbfmichhpcaamaaDoor
open Go.RowKit

theorem fd18 : fdV 18 = 8 ∧ fdE 18 = 0 := by decide +kernel
theorem fd51 : fdV 51 = 0 ∧ fdE 51 = 0 := by decide +kernel
theorem fd3 : fdV 3 = 0 ∧ fdE 3 = 2 := by decide +kernel
theorem ck1 (b : Nat) : chkX 1 6 17 0 0 [txtV b] 1 = 8 := by
  have h : chkX 1 6 17 0 0 [txtV 0] 1 = 8 := by decide +kernel
  exact h
theorem ck2 (b : Nat) : chkX 1 0 2 1 0 [txtV b] 1 = 8 := by
  have h : chkX 1 0 2 1 0 [txtV 0] 1 = 8 := by decide +kernel
  exact h
theorem ck3 : chkX 0 0 0 0 0 [] 65 = 2 := by decide +kernel
theorem rd0 : rdX [] = (0, 0, 0, 0, 3) := by decide +kernel
theorem check_many (sec off ty sy ad : Int) (a : Option Addr) (n cap : Nat) (y : Int) (w : World) (_hn : n ≤ maxLen) (hm : 16 < n) :
    Calls Tryd.prog 9 #[relW sec off ty sy ad, .slice a n cap, .int .i64 y] w fun e w' => e = .returned (.int .i64 4) ∧ Kept w w' := by
  obtain ⟨wa, hwa, B1, kA, sA⟩ := box_rela w sec off ty sy ad
  have hmx : maxLen ≤ 9223372036854775807 := by decide
  have d1 : decide (16 < (n : Int)) = true := decide_eq_true (by omega)
  clear B1
  go_enter Tryd.func9, Tryd.ntmps9
  go_wp2
  go_ret
  exact ⟨rfl, kA⟩
abbrev zer17 : Obj := .cells ((List.replicate 17 [Value.string ⟨#[]⟩, Value.int .i64 0, Value.slice none 0 0, Value.int .i64 0]).flatten.toArray) 47
theorem hmk17 (w : World) : (Instr.makeSlice 28 (.int .i64 17) (.int .i64 17)).run Tryd.prog w = .ok (.slice (some ⟨w.heap.size, 0, none⟩) 17 17) (w.alloc zer17) := by kernel_rfl

set_option maxRecDepth 20000 in
set_option maxHeartbeats 3200000 in
theorem names_walk (w : World) (hT : Tab w) : Calls Tryd.prog 3 #[] w fun e w' => e = .returned (.bool true) ∧ Kept w w' := by
  have hA := fun w hT => alive_walk w hT
  have hF1 := fun w => field_walk 18 w
  have hF2 := fun w => field_walk 51 w
  have hF3 := fun w => field_walk 3 w
  rw [fd18.1, fd18.2] at hF1
  rw [fd51.1, fd51.2] at hF2
  rw [fd3.1, fd3.2] at hF3
  have hX := fun w => text_walk w
  have hC1 := fun a b w hS => xcheck_walk 1 6 17 0 0 a 1 1 [txtV b] 1 w (by decide) (by decide) rfl (by decide) (by decide) hS (by decide)
  have hC2 := fun a b w hS => xcheck_walk 1 0 2 1 0 a 1 1 [txtV b] 1 w (by decide) (by decide) rfl (by decide) (by decide) hS (by decide)
  have hC3 := fun w => xcheck_walk 0 0 0 0 0 none 0 0 [] 65 w (by decide) (by decide) rfl (by decide) (by decide) (.inl rfl) (by decide)
  rw [ck3] at hC3
  go_enter Tryd.func3, Tryd.ntmps3
  go_upto_region 2 with (go_at_call 8; refine (hF1 _).mono ?_; rintro e w9 ⟨rfl, hw9⟩; have hw8 := hw9.symm; subst hw8; clear hw9)
  go_upto_region 3 with (go_at_call 8; refine (hF2 _).mono ?_; rintro e w9 ⟨rfl, hw9⟩; have hw8 := hw9.symm; subst hw8; clear hw9)
  go_upto_region 4 with (go_at_call 8; refine (hF3 _).mono ?_; rintro e w9 ⟨rfl, hw9⟩; have hw8 := hw9.symm; subst hw8; clear hw9)
  clear hF1 hF2 hF3
  go_upto_region 5 with (first
    | (go_at_call 10; refine (hX _).mono ?_; rintro e w2 ⟨a2, b2, rfl, T2, k2⟩; have hC2' := hC1 a2 b2 w2 T2; rw [ck1] at hC2')
    | (go_at_call 9; refine hC2'.mono ?_; rintro e w3 ⟨rfl, k3⟩))
  have K3 := k2.trans k3
  clear T2 hC2' hC1 k2 k3
  go_upto_region 6 with (first
    | (go_at_call 10; refine (hX _).mono ?_; rintro e w4 ⟨a4, b4, rfl, T4, k4⟩; have hC4' := hC2 a4 b4 w4 T4; rw [ck2] at hC4')
    | (go_at_call 9; refine hC4'.mono ?_; rintro e w5 ⟨rfl, k5⟩))
  have K5 := (K3.trans k4).trans k5
  have hRd := xread_walk none 0 0 [] 0 0 0 0 3 w5 (hT.kept K5) rfl (by decide) (.inl rfl) (by decide) rd0
  clear T4 hC4' hC2 k4 k5 K3
  go_upto_region 7 with (go_at_call 11; refine hRd.mono ?_; rintro e w6 ⟨rfl, k6⟩)
  have k7 : Kept w6 (w6.alloc (relO 0 0 0 0 0)) := Kept.alloc _ _
  obtain ⟨w7, hw7⟩ : ∃ w7, w6.alloc (relO 0 0 0 0 0) = w7 := ⟨_, rfl⟩
  rw [hw7] at k7 ⊢
  have K7 := (K5.trans k6).trans k7
  have hm := hmk17 w7
  have k8 : Kept w7 (w7.alloc zer17) := Kept.alloc _ _
  obtain ⟨w8, hw8⟩ : ∃ w8, w7.alloc zer17 = w8 := ⟨_, rfl⟩
  rw [hw8] at hm k8
  have hC5 := check_many 0 0 0 0 0 (some ⟨w7.heap.size, 0, none⟩) 17 17 1 w8 (by decide) (by decide)
  clear hw7 hw8 hRd K5 k6 k7
  go_upto_region 8 with (go_at_call 9; refine hC5.mono ?_; rintro e wA ⟨rfl, kA⟩)
  have KA := (K7.trans k8).trans kA
  clear hm hC5 K7 k8 kA
  go_upto_region 9 with (go_at_call 9; refine (hC3 _).mono ?_; rintro e wB ⟨rfl, kB⟩)
  have KB := KA.trans kB
  have hAl := hA wB (hT.kept KB)
  clear hC3 hA hX kB KA hT
  go_wp2_with (go_at_call 12; refine hAl.mono ?_; rintro e wC ⟨rfl, kC⟩)
  go_ret
  exact ⟨rfl, KB.trans kC⟩
end Go.Proofs.YtbfmichhpcaamaaDoor
