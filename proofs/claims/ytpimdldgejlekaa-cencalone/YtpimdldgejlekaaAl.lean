/- No two instructions have one short form, as cenc gives it. -/
import Derived.Test.YtpimdldgejlekaaKit
import Derived.Deep.DeepCutAuto
namespace Go.Proofs.Ytpimdldgejlekaa
open Go.RowKit

set_option maxRecDepth 20000 in
set_option maxHeartbeats 1600000 in
theorem al_none (op0 d0 s0 t0 m0 op1 d1 s1 t1 m1 : Int) (w : World) (vb rb : Int)
    (hA : ∀ w, Calls Try.prog 6 #[insnV op0 d0 s0 t0 m0] w fun e w' => e = .returned (.tuple #[.int .u16 0, .int .i64 6]) ∧ Kept w w')
    (hB : ∀ w, Calls Try.prog 6 #[insnV op1 d1 s1 t1 m1] w fun e w' => e = .returned (.tuple #[.int .u16 vb, .int .i64 rb]) ∧ Kept w w')
    (hC : ∀ w, Calls Try.prog 7 #[insnV op0 d0 s0 t0 m0] w fun e w' => e = .returned (.tuple #[.bool false, .int .i64 0]) ∧ Kept w w') :
    Calls Try.prog 5 #[insnV op0 d0 s0 t0 m0, insnV op1 d1 s1 t1 m1] w fun e w' => e = .returned (.bool true) ∧ Kept w w' := by
  go_enter Try.func5, Try.ntmps5
  go_upto_region 2 with (go_at_call 8; refine (aliveC_walk _).mono ?_; rintro e w1 ⟨rfl, hk1⟩)
  have i0 : w1.cell? ⟨w.heap.size, 0, none⟩ = some (.int .u8 op0) := Kept.cell hk1 (by simp)
  have i1 : w1.cell? ⟨w.heap.size, 1, none⟩ = some (.int .i64 d0) := Kept.cell hk1 (by simp)
  have i2 : w1.cell? ⟨w.heap.size, 2, none⟩ = some (.int .i64 s0) := Kept.cell hk1 (by simp)
  have i3 : w1.cell? ⟨w.heap.size, 3, none⟩ = some (.int .i64 t0) := Kept.cell hk1 (by simp)
  have i4 : w1.cell? ⟨w.heap.size, 4, none⟩ = some (.int .i64 m0) := Kept.cell hk1 (by simp)
  have j0 : w1.cell? ⟨w.heap.size + 1, 0, none⟩ = some (.int .u8 op1) := Kept.cell hk1 (by simp)
  have j1 : w1.cell? ⟨w.heap.size + 1, 1, none⟩ = some (.int .i64 d1) := Kept.cell hk1 (by simp)
  have j2 : w1.cell? ⟨w.heap.size + 1, 2, none⟩ = some (.int .i64 s1) := Kept.cell hk1 (by simp)
  have j3 : w1.cell? ⟨w.heap.size + 1, 3, none⟩ = some (.int .i64 t1) := Kept.cell hk1 (by simp)
  have j4 : w1.cell? ⟨w.heap.size + 1, 4, none⟩ = some (.int .i64 m1) := Kept.cell hk1 (by simp)
  have hK := ((Kept.alloc w (.cells #[.int .u8 op0, .int .i64 d0, .int .i64 s0, .int .i64 t0, .int .i64 m0] 27)).trans (Kept.alloc _ (.cells #[.int .u8 op1, .int .i64 d1, .int .i64 s1, .int .i64 t1, .int .i64 m1] 27))).trans hk1
  clear hk1
  go_upto_region 3 with (go_at_call 6; refine (hA _).mono ?_; rintro e w2 ⟨rfl, hk2⟩)
  replace i0 := Kept.cell hk2 i0
  replace i1 := Kept.cell hk2 i1
  replace i2 := Kept.cell hk2 i2
  replace i3 := Kept.cell hk2 i3
  replace i4 := Kept.cell hk2 i4
  replace j0 := Kept.cell hk2 j0
  replace j1 := Kept.cell hk2 j1
  replace j2 := Kept.cell hk2 j2
  replace j3 := Kept.cell hk2 j3
  replace j4 := Kept.cell hk2 j4
  replace hK := hK.trans hk2
  clear hk2
  go_upto_region 4 with (go_at_call 6; refine (hB _).mono ?_; rintro e w3 ⟨rfl, hk3⟩)
  replace i0 := Kept.cell hk3 i0
  replace i1 := Kept.cell hk3 i1
  replace i2 := Kept.cell hk3 i2
  replace i3 := Kept.cell hk3 i3
  replace i4 := Kept.cell hk3 i4
  replace j0 := Kept.cell hk3 j0
  replace j1 := Kept.cell hk3 j1
  replace j2 := Kept.cell hk3 j2
  replace j3 := Kept.cell hk3 j3
  replace j4 := Kept.cell hk3 j4
  replace hK := hK.trans hk3
  clear hk3
  go_upto_region 5 with (go_at_call 7; refine (hC _).mono ?_; rintro e w4 ⟨rfl, hk4⟩)
  replace i0 := Kept.cell hk4 i0
  replace i1 := Kept.cell hk4 i1
  replace i2 := Kept.cell hk4 i2
  replace i3 := Kept.cell hk4 i3
  replace i4 := Kept.cell hk4 i4
  replace j0 := Kept.cell hk4 j0
  replace j1 := Kept.cell hk4 j1
  replace j2 := Kept.cell hk4 j2
  replace j3 := Kept.cell hk4 j3
  replace j4 := Kept.cell hk4 j4
  replace hK := hK.trans hk4
  clear hk4
  go_wp2
  go_ret
  exact ⟨rfl, hK⟩

set_option maxRecDepth 20000 in
set_option maxHeartbeats 1600000 in
theorem al_no (op0 d0 s0 t0 m0 op1 d1 s1 t1 m1 : Int) (w : World) (vb rb : Int)
    (hA : ∀ w, Calls Try.prog 6 #[insnV op0 d0 s0 t0 m0] w fun e w' => e = .returned (.tuple #[.int .u16 0, .int .i64 20]) ∧ Kept w w')
    (hB : ∀ w, Calls Try.prog 6 #[insnV op1 d1 s1 t1 m1] w fun e w' => e = .returned (.tuple #[.int .u16 vb, .int .i64 rb]) ∧ Kept w w')
    (hC : ∀ w, Calls Try.prog 7 #[insnV op0 d0 s0 t0 m0] w fun e w' => e = .returned (.tuple #[.bool false, .int .i64 20]) ∧ Kept w w') :
    Calls Try.prog 5 #[insnV op0 d0 s0 t0 m0, insnV op1 d1 s1 t1 m1] w fun e w' => e = .returned (.bool true) ∧ Kept w w' := by
  go_enter Try.func5, Try.ntmps5
  go_upto_region 2 with (go_at_call 8; refine (aliveC_walk _).mono ?_; rintro e w1 ⟨rfl, hk1⟩)
  have i0 : w1.cell? ⟨w.heap.size, 0, none⟩ = some (.int .u8 op0) := Kept.cell hk1 (by simp)
  have i1 : w1.cell? ⟨w.heap.size, 1, none⟩ = some (.int .i64 d0) := Kept.cell hk1 (by simp)
  have i2 : w1.cell? ⟨w.heap.size, 2, none⟩ = some (.int .i64 s0) := Kept.cell hk1 (by simp)
  have i3 : w1.cell? ⟨w.heap.size, 3, none⟩ = some (.int .i64 t0) := Kept.cell hk1 (by simp)
  have i4 : w1.cell? ⟨w.heap.size, 4, none⟩ = some (.int .i64 m0) := Kept.cell hk1 (by simp)
  have j0 : w1.cell? ⟨w.heap.size + 1, 0, none⟩ = some (.int .u8 op1) := Kept.cell hk1 (by simp)
  have j1 : w1.cell? ⟨w.heap.size + 1, 1, none⟩ = some (.int .i64 d1) := Kept.cell hk1 (by simp)
  have j2 : w1.cell? ⟨w.heap.size + 1, 2, none⟩ = some (.int .i64 s1) := Kept.cell hk1 (by simp)
  have j3 : w1.cell? ⟨w.heap.size + 1, 3, none⟩ = some (.int .i64 t1) := Kept.cell hk1 (by simp)
  have j4 : w1.cell? ⟨w.heap.size + 1, 4, none⟩ = some (.int .i64 m1) := Kept.cell hk1 (by simp)
  have hK := ((Kept.alloc w (.cells #[.int .u8 op0, .int .i64 d0, .int .i64 s0, .int .i64 t0, .int .i64 m0] 27)).trans (Kept.alloc _ (.cells #[.int .u8 op1, .int .i64 d1, .int .i64 s1, .int .i64 t1, .int .i64 m1] 27))).trans hk1
  clear hk1
  go_upto_region 3 with (go_at_call 6; refine (hA _).mono ?_; rintro e w2 ⟨rfl, hk2⟩)
  replace i0 := Kept.cell hk2 i0
  replace i1 := Kept.cell hk2 i1
  replace i2 := Kept.cell hk2 i2
  replace i3 := Kept.cell hk2 i3
  replace i4 := Kept.cell hk2 i4
  replace j0 := Kept.cell hk2 j0
  replace j1 := Kept.cell hk2 j1
  replace j2 := Kept.cell hk2 j2
  replace j3 := Kept.cell hk2 j3
  replace j4 := Kept.cell hk2 j4
  replace hK := hK.trans hk2
  clear hk2
  go_upto_region 4 with (go_at_call 6; refine (hB _).mono ?_; rintro e w3 ⟨rfl, hk3⟩)
  replace i0 := Kept.cell hk3 i0
  replace i1 := Kept.cell hk3 i1
  replace i2 := Kept.cell hk3 i2
  replace i3 := Kept.cell hk3 i3
  replace i4 := Kept.cell hk3 i4
  replace j0 := Kept.cell hk3 j0
  replace j1 := Kept.cell hk3 j1
  replace j2 := Kept.cell hk3 j2
  replace j3 := Kept.cell hk3 j3
  replace j4 := Kept.cell hk3 j4
  replace hK := hK.trans hk3
  clear hk3
  go_upto_region 5 with (go_at_call 7; refine (hC _).mono ?_; rintro e w4 ⟨rfl, hk4⟩)
  replace i0 := Kept.cell hk4 i0
  replace i1 := Kept.cell hk4 i1
  replace i2 := Kept.cell hk4 i2
  replace i3 := Kept.cell hk4 i3
  replace i4 := Kept.cell hk4 i4
  replace j0 := Kept.cell hk4 j0
  replace j1 := Kept.cell hk4 j1
  replace j2 := Kept.cell hk4 j2
  replace j3 := Kept.cell hk4 j3
  replace j4 := Kept.cell hk4 j4
  replace hK := hK.trans hk4
  clear hk4
  go_wp2
  go_ret
  exact ⟨rfl, hK⟩

set_option maxRecDepth 20000 in
set_option maxHeartbeats 1600000 in
theorem al_one (op0 d0 s0 t0 m0 op1 d1 s1 t1 m1 : Int) (w : World) (va vb rb : Int) (hrb : (rb != 0) = true)
    (hA : ∀ w, Calls Try.prog 6 #[insnV op0 d0 s0 t0 m0] w fun e w' => e = .returned (.tuple #[.int .u16 va, .int .i64 0]) ∧ Kept w w')
    (hB : ∀ w, Calls Try.prog 6 #[insnV op1 d1 s1 t1 m1] w fun e w' => e = .returned (.tuple #[.int .u16 vb, .int .i64 rb]) ∧ Kept w w')
    (hC : ∀ w, Calls Try.prog 7 #[insnV op0 d0 s0 t0 m0] w fun e w' => e = .returned (.tuple #[.bool true, .int .i64 0]) ∧ Kept w w') (hD : ∀ w, Calls Try.prog 12 #[insnV op0 d0 s0 t0 m0] w fun e w' => e = .returned (.int .i64 0) ∧ Kept w w') (hva : 0 ≤ va) (hlow : (va.tmod 4 == 3) = false) :
    Calls Try.prog 5 #[insnV op0 d0 s0 t0 m0, insnV op1 d1 s1 t1 m1] w fun e w' => e = .returned (.bool true) ∧ Kept w w' := by
  have hlow1 : va % 4 ≠ 3 := by rw [← Int.tmod_eq_emod_of_nonneg hva]; simpa using hlow
  have hlow2 : (va % 4 == 3) = false := by simpa using hlow1
  have hlow3 : (va % 4 != 3) = true := by simpa using hlow1
  go_enter Try.func5, Try.ntmps5
  go_upto_region 2 with (go_at_call 8; refine (aliveC_walk _).mono ?_; rintro e w1 ⟨rfl, hk1⟩)
  have i0 : w1.cell? ⟨w.heap.size, 0, none⟩ = some (.int .u8 op0) := Kept.cell hk1 (by simp)
  have i1 : w1.cell? ⟨w.heap.size, 1, none⟩ = some (.int .i64 d0) := Kept.cell hk1 (by simp)
  have i2 : w1.cell? ⟨w.heap.size, 2, none⟩ = some (.int .i64 s0) := Kept.cell hk1 (by simp)
  have i3 : w1.cell? ⟨w.heap.size, 3, none⟩ = some (.int .i64 t0) := Kept.cell hk1 (by simp)
  have i4 : w1.cell? ⟨w.heap.size, 4, none⟩ = some (.int .i64 m0) := Kept.cell hk1 (by simp)
  have j0 : w1.cell? ⟨w.heap.size + 1, 0, none⟩ = some (.int .u8 op1) := Kept.cell hk1 (by simp)
  have j1 : w1.cell? ⟨w.heap.size + 1, 1, none⟩ = some (.int .i64 d1) := Kept.cell hk1 (by simp)
  have j2 : w1.cell? ⟨w.heap.size + 1, 2, none⟩ = some (.int .i64 s1) := Kept.cell hk1 (by simp)
  have j3 : w1.cell? ⟨w.heap.size + 1, 3, none⟩ = some (.int .i64 t1) := Kept.cell hk1 (by simp)
  have j4 : w1.cell? ⟨w.heap.size + 1, 4, none⟩ = some (.int .i64 m1) := Kept.cell hk1 (by simp)
  have hK := ((Kept.alloc w (.cells #[.int .u8 op0, .int .i64 d0, .int .i64 s0, .int .i64 t0, .int .i64 m0] 27)).trans (Kept.alloc _ (.cells #[.int .u8 op1, .int .i64 d1, .int .i64 s1, .int .i64 t1, .int .i64 m1] 27))).trans hk1
  clear hk1
  go_upto_region 3 with (go_at_call 6; refine (hA _).mono ?_; rintro e w2 ⟨rfl, hk2⟩)
  replace i0 := Kept.cell hk2 i0
  replace i1 := Kept.cell hk2 i1
  replace i2 := Kept.cell hk2 i2
  replace i3 := Kept.cell hk2 i3
  replace i4 := Kept.cell hk2 i4
  replace j0 := Kept.cell hk2 j0
  replace j1 := Kept.cell hk2 j1
  replace j2 := Kept.cell hk2 j2
  replace j3 := Kept.cell hk2 j3
  replace j4 := Kept.cell hk2 j4
  replace hK := hK.trans hk2
  clear hk2
  go_upto_region 4 with (go_at_call 6; refine (hB _).mono ?_; rintro e w3 ⟨rfl, hk3⟩)
  replace i0 := Kept.cell hk3 i0
  replace i1 := Kept.cell hk3 i1
  replace i2 := Kept.cell hk3 i2
  replace i3 := Kept.cell hk3 i3
  replace i4 := Kept.cell hk3 i4
  replace j0 := Kept.cell hk3 j0
  replace j1 := Kept.cell hk3 j1
  replace j2 := Kept.cell hk3 j2
  replace j3 := Kept.cell hk3 j3
  replace j4 := Kept.cell hk3 j4
  replace hK := hK.trans hk3
  clear hk3
  go_upto_region 5 with (go_at_call 7; refine (hC _).mono ?_; rintro e w4 ⟨rfl, hk4⟩)
  replace i0 := Kept.cell hk4 i0
  replace i1 := Kept.cell hk4 i1
  replace i2 := Kept.cell hk4 i2
  replace i3 := Kept.cell hk4 i3
  replace i4 := Kept.cell hk4 i4
  replace j0 := Kept.cell hk4 j0
  replace j1 := Kept.cell hk4 j1
  replace j2 := Kept.cell hk4 j2
  replace j3 := Kept.cell hk4 j3
  replace j4 := Kept.cell hk4 j4
  replace hK := hK.trans hk4
  clear hk4
  go_wp2_with (go_at_call 12; refine (hD _).mono ?_; rintro e w5 ⟨rfl, hk5⟩)
  go_ret
  exact ⟨rfl, hK.trans hk5⟩

set_option maxRecDepth 20000 in
set_option maxHeartbeats 1600000 in
theorem al_same (op0 d0 s0 t0 m0 : Int) (w : World) (va : Int)
    (hA : ∀ w, Calls Try.prog 6 #[insnV op0 d0 s0 t0 m0] w fun e w' => e = .returned (.tuple #[.int .u16 va, .int .i64 0]) ∧ Kept w w')
    (hB : ∀ w, Calls Try.prog 6 #[insnV op0 d0 s0 t0 m0] w fun e w' => e = .returned (.tuple #[.int .u16 va, .int .i64 0]) ∧ Kept w w')
    (hC : ∀ w, Calls Try.prog 7 #[insnV op0 d0 s0 t0 m0] w fun e w' => e = .returned (.tuple #[.bool true, .int .i64 0]) ∧ Kept w w') (hD : ∀ w, Calls Try.prog 12 #[insnV op0 d0 s0 t0 m0] w fun e w' => e = .returned (.int .i64 0) ∧ Kept w w') (hva : 0 ≤ va) (hlow : (va.tmod 4 == 3) = false) :
    Calls Try.prog 5 #[insnV op0 d0 s0 t0 m0, insnV op0 d0 s0 t0 m0] w fun e w' => e = .returned (.bool true) ∧ Kept w w' := by
  have hlow1 : va % 4 ≠ 3 := by rw [← Int.tmod_eq_emod_of_nonneg hva]; simpa using hlow
  have hlow2 : (va % 4 == 3) = false := by simpa using hlow1
  have hlow3 : (va % 4 != 3) = true := by simpa using hlow1
  go_enter Try.func5, Try.ntmps5
  go_upto_region 2 with (go_at_call 8; refine (aliveC_walk _).mono ?_; rintro e w1 ⟨rfl, hk1⟩)
  have i0 : w1.cell? ⟨w.heap.size, 0, none⟩ = some (.int .u8 op0) := Kept.cell hk1 (by simp)
  have i1 : w1.cell? ⟨w.heap.size, 1, none⟩ = some (.int .i64 d0) := Kept.cell hk1 (by simp)
  have i2 : w1.cell? ⟨w.heap.size, 2, none⟩ = some (.int .i64 s0) := Kept.cell hk1 (by simp)
  have i3 : w1.cell? ⟨w.heap.size, 3, none⟩ = some (.int .i64 t0) := Kept.cell hk1 (by simp)
  have i4 : w1.cell? ⟨w.heap.size, 4, none⟩ = some (.int .i64 m0) := Kept.cell hk1 (by simp)
  have j0 : w1.cell? ⟨w.heap.size + 1, 0, none⟩ = some (.int .u8 op0) := Kept.cell hk1 (by simp)
  have j1 : w1.cell? ⟨w.heap.size + 1, 1, none⟩ = some (.int .i64 d0) := Kept.cell hk1 (by simp)
  have j2 : w1.cell? ⟨w.heap.size + 1, 2, none⟩ = some (.int .i64 s0) := Kept.cell hk1 (by simp)
  have j3 : w1.cell? ⟨w.heap.size + 1, 3, none⟩ = some (.int .i64 t0) := Kept.cell hk1 (by simp)
  have j4 : w1.cell? ⟨w.heap.size + 1, 4, none⟩ = some (.int .i64 m0) := Kept.cell hk1 (by simp)
  have hK := ((Kept.alloc w (.cells #[.int .u8 op0, .int .i64 d0, .int .i64 s0, .int .i64 t0, .int .i64 m0] 27)).trans (Kept.alloc _ (.cells #[.int .u8 op0, .int .i64 d0, .int .i64 s0, .int .i64 t0, .int .i64 m0] 27))).trans hk1
  clear hk1
  go_upto_region 3 with (go_at_call 6; refine (hA _).mono ?_; rintro e w2 ⟨rfl, hk2⟩)
  replace i0 := Kept.cell hk2 i0
  replace i1 := Kept.cell hk2 i1
  replace i2 := Kept.cell hk2 i2
  replace i3 := Kept.cell hk2 i3
  replace i4 := Kept.cell hk2 i4
  replace j0 := Kept.cell hk2 j0
  replace j1 := Kept.cell hk2 j1
  replace j2 := Kept.cell hk2 j2
  replace j3 := Kept.cell hk2 j3
  replace j4 := Kept.cell hk2 j4
  replace hK := hK.trans hk2
  clear hk2
  go_upto_region 4 with (go_at_call 6; refine (hB _).mono ?_; rintro e w3 ⟨rfl, hk3⟩)
  replace i0 := Kept.cell hk3 i0
  replace i1 := Kept.cell hk3 i1
  replace i2 := Kept.cell hk3 i2
  replace i3 := Kept.cell hk3 i3
  replace i4 := Kept.cell hk3 i4
  replace j0 := Kept.cell hk3 j0
  replace j1 := Kept.cell hk3 j1
  replace j2 := Kept.cell hk3 j2
  replace j3 := Kept.cell hk3 j3
  replace j4 := Kept.cell hk3 j4
  replace hK := hK.trans hk3
  clear hk3
  go_upto_region 5 with (go_at_call 7; refine (hC _).mono ?_; rintro e w4 ⟨rfl, hk4⟩)
  replace i0 := Kept.cell hk4 i0
  replace i1 := Kept.cell hk4 i1
  replace i2 := Kept.cell hk4 i2
  replace i3 := Kept.cell hk4 i3
  replace i4 := Kept.cell hk4 i4
  replace j0 := Kept.cell hk4 j0
  replace j1 := Kept.cell hk4 j1
  replace j2 := Kept.cell hk4 j2
  replace j3 := Kept.cell hk4 j3
  replace j4 := Kept.cell hk4 j4
  replace hK := hK.trans hk4
  clear hk4
  go_wp2_with (go_at_call 12; refine (hD _).mono ?_; rintro e w5 ⟨rfl, hk5⟩; replace i0 := Kept.cell hk5 i0; replace i1 := Kept.cell hk5 i1; replace i2 := Kept.cell hk5 i2; replace i3 := Kept.cell hk5 i3; replace i4 := Kept.cell hk5 i4; replace j0 := Kept.cell hk5 j0; replace j1 := Kept.cell hk5 j1; replace j2 := Kept.cell hk5 j2; replace j3 := Kept.cell hk5 j3; replace j4 := Kept.cell hk5 j4)
  go_ret
  exact ⟨rfl, hK.trans hk5⟩

set_option maxRecDepth 20000 in
set_option maxHeartbeats 1600000 in
theorem al_diff (op0 d0 s0 t0 m0 op1 d1 s1 t1 m1 : Int) (w : World) (va vb : Int) (hne : (va == vb) = false) (he : ¬ (op0 = op1 ∧ d0 = d1 ∧ s0 = s1 ∧ t0 = t1 ∧ m0 = m1))
    (hA : ∀ w, Calls Try.prog 6 #[insnV op0 d0 s0 t0 m0] w fun e w' => e = .returned (.tuple #[.int .u16 va, .int .i64 0]) ∧ Kept w w')
    (hB : ∀ w, Calls Try.prog 6 #[insnV op1 d1 s1 t1 m1] w fun e w' => e = .returned (.tuple #[.int .u16 vb, .int .i64 0]) ∧ Kept w w')
    (hC : ∀ w, Calls Try.prog 7 #[insnV op0 d0 s0 t0 m0] w fun e w' => e = .returned (.tuple #[.bool true, .int .i64 0]) ∧ Kept w w') (hD : ∀ w, Calls Try.prog 12 #[insnV op0 d0 s0 t0 m0] w fun e w' => e = .returned (.int .i64 0) ∧ Kept w w') (hva : 0 ≤ va) (hlow : (va.tmod 4 == 3) = false) :
    Calls Try.prog 5 #[insnV op0 d0 s0 t0 m0, insnV op1 d1 s1 t1 m1] w fun e w' => e = .returned (.bool true) ∧ Kept w w' := by
  have hlow1 : va % 4 ≠ 3 := by rw [← Int.tmod_eq_emod_of_nonneg hva]; simpa using hlow
  have hlow2 : (va % 4 == 3) = false := by simpa using hlow1
  have hlow3 : (va % 4 != 3) = true := by simpa using hlow1
  go_enter Try.func5, Try.ntmps5
  go_upto_region 2 with (go_at_call 8; refine (aliveC_walk _).mono ?_; rintro e w1 ⟨rfl, hk1⟩)
  have i0 : w1.cell? ⟨w.heap.size, 0, none⟩ = some (.int .u8 op0) := Kept.cell hk1 (by simp)
  have i1 : w1.cell? ⟨w.heap.size, 1, none⟩ = some (.int .i64 d0) := Kept.cell hk1 (by simp)
  have i2 : w1.cell? ⟨w.heap.size, 2, none⟩ = some (.int .i64 s0) := Kept.cell hk1 (by simp)
  have i3 : w1.cell? ⟨w.heap.size, 3, none⟩ = some (.int .i64 t0) := Kept.cell hk1 (by simp)
  have i4 : w1.cell? ⟨w.heap.size, 4, none⟩ = some (.int .i64 m0) := Kept.cell hk1 (by simp)
  have j0 : w1.cell? ⟨w.heap.size + 1, 0, none⟩ = some (.int .u8 op1) := Kept.cell hk1 (by simp)
  have j1 : w1.cell? ⟨w.heap.size + 1, 1, none⟩ = some (.int .i64 d1) := Kept.cell hk1 (by simp)
  have j2 : w1.cell? ⟨w.heap.size + 1, 2, none⟩ = some (.int .i64 s1) := Kept.cell hk1 (by simp)
  have j3 : w1.cell? ⟨w.heap.size + 1, 3, none⟩ = some (.int .i64 t1) := Kept.cell hk1 (by simp)
  have j4 : w1.cell? ⟨w.heap.size + 1, 4, none⟩ = some (.int .i64 m1) := Kept.cell hk1 (by simp)
  have hK := ((Kept.alloc w (.cells #[.int .u8 op0, .int .i64 d0, .int .i64 s0, .int .i64 t0, .int .i64 m0] 27)).trans (Kept.alloc _ (.cells #[.int .u8 op1, .int .i64 d1, .int .i64 s1, .int .i64 t1, .int .i64 m1] 27))).trans hk1
  clear hk1
  go_upto_region 3 with (go_at_call 6; refine (hA _).mono ?_; rintro e w2 ⟨rfl, hk2⟩)
  replace i0 := Kept.cell hk2 i0
  replace i1 := Kept.cell hk2 i1
  replace i2 := Kept.cell hk2 i2
  replace i3 := Kept.cell hk2 i3
  replace i4 := Kept.cell hk2 i4
  replace j0 := Kept.cell hk2 j0
  replace j1 := Kept.cell hk2 j1
  replace j2 := Kept.cell hk2 j2
  replace j3 := Kept.cell hk2 j3
  replace j4 := Kept.cell hk2 j4
  replace hK := hK.trans hk2
  clear hk2
  go_upto_region 4 with (go_at_call 6; refine (hB _).mono ?_; rintro e w3 ⟨rfl, hk3⟩)
  replace i0 := Kept.cell hk3 i0
  replace i1 := Kept.cell hk3 i1
  replace i2 := Kept.cell hk3 i2
  replace i3 := Kept.cell hk3 i3
  replace i4 := Kept.cell hk3 i4
  replace j0 := Kept.cell hk3 j0
  replace j1 := Kept.cell hk3 j1
  replace j2 := Kept.cell hk3 j2
  replace j3 := Kept.cell hk3 j3
  replace j4 := Kept.cell hk3 j4
  replace hK := hK.trans hk3
  clear hk3
  go_upto_region 5 with (go_at_call 7; refine (hC _).mono ?_; rintro e w4 ⟨rfl, hk4⟩)
  replace i0 := Kept.cell hk4 i0
  replace i1 := Kept.cell hk4 i1
  replace i2 := Kept.cell hk4 i2
  replace i3 := Kept.cell hk4 i3
  replace i4 := Kept.cell hk4 i4
  replace j0 := Kept.cell hk4 j0
  replace j1 := Kept.cell hk4 j1
  replace j2 := Kept.cell hk4 j2
  replace j3 := Kept.cell hk4 j3
  replace j4 := Kept.cell hk4 j4
  replace hK := hK.trans hk4
  clear hk4
  go_wp2_with (go_at_call 12; refine (hD _).mono ?_; rintro e w5 ⟨rfl, hk5⟩; replace i0 := Kept.cell hk5 i0; replace i1 := Kept.cell hk5 i1; replace i2 := Kept.cell hk5 i2; replace i3 := Kept.cell hk5 i3; replace i4 := Kept.cell hk5 i4; replace j0 := Kept.cell hk5 j0; replace j1 := Kept.cell hk5 j1; replace j2 := Kept.cell hk5 j2; replace j3 := Kept.cell hk5 j3; replace j4 := Kept.cell hk5 j4)
  all_goals first
    | (go_ret; exact ⟨rfl, hK.trans hk5⟩)
    | exact absurd ⟨by assumption, by assumption, by assumption, by assumption, by assumption⟩ he


theorem alone_inj {op0 d0 s0 t0 m0 op1 d1 s1 t1 m1 : Int} (h0 : mayB op0 d0 s0 t0 m0 = true) (h1 : mayB op1 d1 s1 t1 m1 = true) (c0 : cIx op0 d0 s0 t0 m0 < 33) (c1 : cIx op1 d1 s1 t1 m1 < 33) (h : hfV op0 d0 s0 t0 m0 = hfV op1 d1 s1 t1 m1) : op0 = op1 ∧ d0 = d1 ∧ s0 = s1 ∧ t0 = t1 ∧ m0 = m1 := by
  have r0 := cIx_hit c0
  have r1 := cIx_hit c1
  have f0 := of5_of c0 h0 r0
  have f1 := of5_of c1 h1 r1
  unfold hfV at h
  rw [if_pos h0, if_pos c0, if_pos h1, if_pos c1, half_num f0, half_num f1] at h
  have h' : halfN (cIx op0 d0 s0 t0 m0) d0 s0 t0 m0 = halfN (cIx op1 d1 s1 t1 m1) d1 s1 t1 m1 := by omega
  have hk := half_rows f0 f1 h'
  simp only [rowB, Bool.and_eq_true, beq_iff_eq] at r0 r1
  generalize cIx op0 d0 s0 t0 m0 = k at *
  generalize cIx op1 d1 s1 t1 m1 = k1 at *
  subst hk
  exact ⟨r0.1.1.symm.trans r1.1.1, half_same f0 f1 h'⟩
theorem hf_low {op d s t m : Int} (h : mayB op d s t m = true) (c : cIx op d s t m < 33) : 0 ≤ hfV op d s t m ∧ ((hfV op d s t m).tmod 4 == 3) = false := by
  have f := of5_of c h (cIx_hit c)
  have hl := half_low2 f
  unfold hfV
  rw [if_pos h, if_pos c, half_num f]
  refine ⟨by omega, ?_⟩
  rw [Int.tmod_eq_emod_of_nonneg (by omega), beq_eq_false_iff_ne]
  omega

theorem alone_walk (op0 d0 s0 t0 m0 op1 d1 s1 t1 m1 : Int) (a0 : 0 ≤ op0 ∧ op0 ≤ 255) (a1 : 0 ≤ op1 ∧ op1 ≤ 255) (w : World) :
    Calls Try.prog 5 #[insnV op0 d0 s0 t0 m0, insnV op1 d1 s1 t1 m1] w fun e w' => e = .returned (.bool true) ∧ Kept w w' := by
  have hA := fun w => halfC_walk op0 d0 s0 t0 m0 a0.1 a0.2 w
  have hB := fun w => halfC_walk op1 d1 s1 t1 m1 a1.1 a1.2 w
  have hC := fun w => shortC_walk op0 d0 s0 t0 m0 a0.1 a0.2 w
  have hD := fun w => check_walk op0 d0 s0 t0 m0 a0.2 w
  cases hm : mayB op0 d0 s0 t0 m0
  · rw [show hfV op0 d0 s0 t0 m0 = 0 by simp [hfV, hm], show hfE op0 d0 s0 t0 m0 = 20 by simp [hfE, hm]] at hA
    rw [show shV op0 d0 s0 t0 m0 = false by simp [shV, hm], hm] at hC
    exact al_no _ _ _ _ _ _ _ _ _ _ w _ _ hA hB hC
  · rw [hm] at hC
    rcases Nat.lt_or_ge (cIx op0 d0 s0 t0 m0) 33 with hc | hc
    · rw [show hfE op0 d0 s0 t0 m0 = 0 by simp [hfE, hm, hc]] at hA
      rw [show shV op0 d0 s0 t0 m0 = true by simp [shV, hm, hc]] at hC
      rw [show chkV op0 d0 s0 t0 m0 = 0 by simp [chkV, hm]] at hD
      obtain ⟨l1, l2⟩ := hf_low hm hc
      by_cases he : op0 = op1 ∧ d0 = d1 ∧ s0 = s1 ∧ t0 = t1 ∧ m0 = m1
      · obtain ⟨rfl, rfl, rfl, rfl, rfl⟩ := he
        exact al_same _ _ _ _ _ w _ hA hA hC hD l1 l2
      · cases hm1 : mayB op1 d1 s1 t1 m1
        · exact al_one _ _ _ _ _ _ _ _ _ _ w _ _ _ (by simp [hfE, hm1]) hA hB hC hD l1 l2
        · rcases Nat.lt_or_ge (cIx op1 d1 s1 t1 m1) 33 with hc1 | hc1
          · rw [show hfE op1 d1 s1 t1 m1 = 0 by simp [hfE, hm1, hc1]] at hB
            exact al_diff _ _ _ _ _ _ _ _ _ _ w _ _ (by rw [beq_eq_false_iff_ne]; exact fun h => he (alone_inj hm hm1 hc hc1 h)) he hA hB hC hD l1 l2
          · have hn : ¬ cIx op1 d1 s1 t1 m1 < 33 := by omega
            exact al_one _ _ _ _ _ _ _ _ _ _ w _ _ _ (by simp [hfE, hm1, hn]) hA hB hC hD l1 l2
    · have hn : ¬ cIx op0 d0 s0 t0 m0 < 33 := by omega
      rw [show hfV op0 d0 s0 t0 m0 = 0 by simp [hfV, hm, hn], show hfE op0 d0 s0 t0 m0 = 6 by simp [hfE, hm, hn]] at hA
      rw [show shV op0 d0 s0 t0 m0 = false by simp [shV, hm, hn]] at hC
      exact al_none _ _ _ _ _ _ _ _ _ _ w _ _ hA hB hC

end Go.Proofs.Ytpimdldgejlekaa
