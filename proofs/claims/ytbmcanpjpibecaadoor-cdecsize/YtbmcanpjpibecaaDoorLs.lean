/- The parts of CdecSize. The parts of CdecShort. -/
import Derived.Test.YtbmcanpjpibecaaDoorKit
import Derived.Deep.DeepCutAuto
namespace Go.Proofs.YtbmcanpjpibecaaDoor
open Go.RowKit

set_option maxRecDepth 20000 in
set_option maxHeartbeats 3200000 in
theorem sizeL_a (x op d s t imm er sz y : Int) (w : World) (hA : ∀ w', Kept w w' → Calls Tryd.prog 9 #[] w' fun e w'' => e = .returned (.bool true) ∧ Kept w' w'') (hR : ∀ w', Kept w w' → Calls Tryd.prog 13 #[.int .u16 x] w' fun e w'' => e = .returned (.tuple #[insnV op d s t imm, .int .i64 er]) ∧ Kept w' w'') (hS : ∀ w, Calls Tryd.prog 12 #[.int .u16 x] w fun e w' => e = .returned (.int .i64 sz) ∧ w' = w) (hC : ∀ w, Calls Tryd.prog 16 #[insnV op d s t imm] w fun e w' => e = .returned (.int .i64 0) ∧ Kept w w') (hX : bits .and .u16 x 3 = y) (h3 : ¬ y = 3) (hz : sz = 2) (h0 : er = 0) :
    Calls Tryd.prog 6 #[.int .u16 x] w fun e w' => e = .returned (.bool true) ∧ Kept w w' := by
  have hy : (y != 3) = true := by simpa using h3
  subst hz h0
  go_enter Tryd.func6, Tryd.ntmps6
  go_upto_region 2 with (go_at_call 13; refine (hR _ (Kept.refl _)).mono ?_; rintro e w1 ⟨rfl, hk1⟩)
  have hB := Box.make w1 op d s t imm
  have hK := hk1.trans (Kept.alloc w1 (.cells #[.int .u8 op, .int .i64 d, .int .i64 s, .int .i64 t, .int .i64 imm] 27))
  generalize w1.alloc (.cells #[.int .u8 op, .int .i64 d, .int .i64 s, .int .i64 t, .int .i64 imm] 27) = W1 at hB hK ⊢
  have hBq := hB
  obtain ⟨d0, d1, d2, d3, d4, _, _, _, _, _⟩ := hBq
  go_wp2_with (first
    | (go_at_call 9; refine (hA _ hK).mono ?_; rintro e w' ⟨rfl, hk⟩; have hK' := hK.trans hk; have hB' := hB.kept hk; clear hK hB d0 d1 d2 d3 d4; have hK := hK'; have hB := hB'; have hBq := hB; obtain ⟨d0, d1, d2, d3, d4, _, _, _, _, _⟩ := hBq; clear hK' hk hB')
    | (go_at_call 12; refine (hS _).mono ?_; rintro e w' ⟨rfl, rfl⟩)
    | (go_at_call 16; refine (hC _).mono ?_; rintro e w' ⟨rfl, hk⟩; have hK' := hK.trans hk; have hB' := hB.kept hk; clear hK hB d0 d1 d2 d3 d4; have hK := hK'; have hB := hB'; have hBq := hB; obtain ⟨d0, d1, d2, d3, d4, _, _, _, _, _⟩ := hBq; clear hK' hk hB'))
  go_ret
  exact ⟨rfl, hK⟩
set_option maxRecDepth 20000 in
set_option maxHeartbeats 3200000 in
theorem sizeL_b (x op d s t imm er sz y : Int) (w : World) (hA : ∀ w', Kept w w' → Calls Tryd.prog 9 #[] w' fun e w'' => e = .returned (.bool true) ∧ Kept w' w'') (hR : ∀ w', Kept w w' → Calls Tryd.prog 13 #[.int .u16 x] w' fun e w'' => e = .returned (.tuple #[insnV op d s t imm, .int .i64 er]) ∧ Kept w' w'') (hS : ∀ w, Calls Tryd.prog 12 #[.int .u16 x] w fun e w' => e = .returned (.int .i64 sz) ∧ w' = w)  (hX : bits .and .u16 x 3 = y) (h3 : ¬ y = 3) (hz : sz = 2) (h0 : er = 60) :
    Calls Tryd.prog 6 #[.int .u16 x] w fun e w' => e = .returned (.bool true) ∧ Kept w w' := by
  have hy : (y != 3) = true := by simpa using h3
  subst hz h0
  go_enter Tryd.func6, Tryd.ntmps6
  go_upto_region 2 with (go_at_call 13; refine (hR _ (Kept.refl _)).mono ?_; rintro e w1 ⟨rfl, hk1⟩)
  have hB := Box.make w1 op d s t imm
  have hK := hk1.trans (Kept.alloc w1 (.cells #[.int .u8 op, .int .i64 d, .int .i64 s, .int .i64 t, .int .i64 imm] 27))
  generalize w1.alloc (.cells #[.int .u8 op, .int .i64 d, .int .i64 s, .int .i64 t, .int .i64 imm] 27) = W1 at hB hK ⊢
  have hBq := hB
  obtain ⟨d0, d1, d2, d3, d4, _, _, _, _, _⟩ := hBq
  go_wp2_with (first
    | (go_at_call 9; refine (hA _ hK).mono ?_; rintro e w' ⟨rfl, hk⟩; have hK' := hK.trans hk; have hB' := hB.kept hk; clear hK hB d0 d1 d2 d3 d4; have hK := hK'; have hB := hB'; have hBq := hB; obtain ⟨d0, d1, d2, d3, d4, _, _, _, _, _⟩ := hBq; clear hK' hk hB')
    | (go_at_call 12; refine (hS _).mono ?_; rintro e w' ⟨rfl, rfl⟩))
  go_ret
  exact ⟨rfl, hK⟩
set_option maxRecDepth 20000 in
set_option maxHeartbeats 3200000 in
theorem sizeL_c (x op d s t imm er sz y : Int) (w : World) (hA : ∀ w', Kept w w' → Calls Tryd.prog 9 #[] w' fun e w'' => e = .returned (.bool true) ∧ Kept w' w'') (hR : ∀ w', Kept w w' → Calls Tryd.prog 13 #[.int .u16 x] w' fun e w'' => e = .returned (.tuple #[insnV op d s t imm, .int .i64 er]) ∧ Kept w' w'') (hS : ∀ w, Calls Tryd.prog 12 #[.int .u16 x] w fun e w' => e = .returned (.int .i64 sz) ∧ w' = w)  (hX : bits .and .u16 x 3 = y) (h3 : y = 3) (hz : sz = 4) (h0 : er = 60) :
    Calls Tryd.prog 6 #[.int .u16 x] w fun e w' => e = .returned (.bool true) ∧ Kept w w' := by
  subst hz h0 h3
  go_enter Tryd.func6, Tryd.ntmps6
  go_upto_region 2 with (go_at_call 13; refine (hR _ (Kept.refl _)).mono ?_; rintro e w1 ⟨rfl, hk1⟩)
  have hB := Box.make w1 op d s t imm
  have hK := hk1.trans (Kept.alloc w1 (.cells #[.int .u8 op, .int .i64 d, .int .i64 s, .int .i64 t, .int .i64 imm] 27))
  generalize w1.alloc (.cells #[.int .u8 op, .int .i64 d, .int .i64 s, .int .i64 t, .int .i64 imm] 27) = W1 at hB hK ⊢
  have hBq := hB
  obtain ⟨d0, d1, d2, d3, d4, _, _, _, _, _⟩ := hBq
  go_wp2_with (first
    | (go_at_call 9; refine (hA _ hK).mono ?_; rintro e w' ⟨rfl, hk⟩; have hK' := hK.trans hk; have hB' := hB.kept hk; clear hK hB d0 d1 d2 d3 d4; have hK := hK'; have hB := hB'; have hBq := hB; obtain ⟨d0, d1, d2, d3, d4, _, _, _, _, _⟩ := hBq; clear hK' hk hB')
    | (go_at_call 12; refine (hS _).mono ?_; rintro e w' ⟨rfl, rfl⟩))
  go_ret
  exact ⟨rfl, hK⟩
theorem and_3 (H : Nat) (hH : H ≤ 65535) : bits .and .u16 (H : Int) 3 = ((H % 4 : Nat) : Int) := by
  have hX : bits .and .u16 (H : Int) 3 = ((H &&& 3 : Nat) : Int) := u16_and_nat H 3 (by omega) (by decide)
  rw [hX, show H &&& 3 = H % 4 from Nat.and_two_pow_sub_one_eq_mod H 2]
theorem hOp_rng (H : Nat) : 0 ≤ hOp H ∧ hOp H ≤ 255 := by
  unfold hOp
  split
  · have := cOp_range (hIx H) (by assumption)
    omega
  · omega
theorem cdecSize_all (H : Nat) (hH : H ≤ 65535) (w : World) (hT : Tab w) : Calls Tryd.prog 6 #[.int .u16 (H : Int)] w fun e w' => e = .returned (.bool true) ∧ Kept w w' := by
  have hA := fun w' (k : Kept w w') => alive_walk w' (hT.kept k)
  have hR := fun w' (k : Kept w w') => insn_walk6 H hH w' (hT.kept k)
  have hS := fun w => csize_walk H hH w
  have hX := and_3 H hH
  by_cases h : hIx H < 33
  · obtain ⟨m1, m2, m3, _⟩ := back_half h
    have hC := fun w => check_walk (hOp H) (hRd H) (hRs1 H) (hRs2 H) (hImm H) (hOp_rng H).2 w
    rw [show chkV (hOp H) (hRd H) (hRs1 H) (hRs2 H) (hImm H) = 0 from if_pos m1] at hC
    exact sizeL_a _ _ _ _ _ _ _ _ _ w hA hR hS hC hX (by omega) (if_neg m3) (if_pos h)
  · by_cases h3 : H % 4 = 3
    · exact sizeL_c _ _ _ _ _ _ _ _ _ w hA hR hS hX (by omega) (if_pos h3) (if_neg h)
    · exact sizeL_b _ _ _ _ _ _ _ _ _ w hA hR hS hX (by omega) (if_neg h3) (if_neg h)

set_option maxRecDepth 20000 in
set_option maxHeartbeats 3200000 in
theorem shortL_a (x op d s t imm op1 d1 s1 t1 imm1 er : Int) (w : World) (hA : ∀ w', Kept w w' → Calls Tryd.prog 9 #[] w' fun e w'' => e = .returned (.bool true) ∧ Kept w' w'') (hF : ∀ w, Calls Tryd.prog 8 #[insnV op d s t imm] w fun e w' => e = .returned (.tuple #[.int .u16 x, .int .i64 20]) ∧ Kept w w') (hSh : ∀ w, Calls Tryd.prog 17 #[insnV op d s t imm] w fun e w' => e = .returned (.tuple #[.bool false, .int .i64 20]) ∧ Kept w w') (hR : ∀ w', Kept w w' → Calls Tryd.prog 13 #[.int .u16 x] w' fun e w'' => e = .returned (.tuple #[insnV op1 d1 s1 t1 imm1, .int .i64 er]) ∧ Kept w' w'')  :
    Calls Tryd.prog 7 #[insnV op d s t imm] w fun e w' => e = .returned (.bool true) ∧ Kept w w' := by
  have hB := Box.make w op d s t imm
  have hK := Kept.alloc w (.cells #[.int .u8 op, .int .i64 d, .int .i64 s, .int .i64 t, .int .i64 imm] 27)
  go_enter Tryd.func7, Tryd.ntmps7
  go_upto_region 1 with fail
  generalize w.alloc (.cells #[.int .u8 op, .int .i64 d, .int .i64 s, .int .i64 t, .int .i64 imm] 27) = W0 at hB hK ⊢
  have hBq := hB
  obtain ⟨bd0, bd1, bd2, bd3, bd4, _, _, _, _, _⟩ := hBq
  go_upto_region 2 with (go_at_call 8; refine (hF _).mono ?_; rintro e w' ⟨rfl, hk⟩; have hK' := hK.trans hk; have hB' := hB.kept hk; clear hK hB bd0 bd1 bd2 bd3 bd4; have hK := hK'; have hB := hB'; have hBq := hB; obtain ⟨bd0, bd1, bd2, bd3, bd4, _, _, _, _, _⟩ := hBq; clear hK' hk hB')
  go_upto_region 3 with (go_at_call 17; refine (hSh _).mono ?_; rintro e w' ⟨rfl, hk⟩; have hK' := hK.trans hk; have hB' := hB.kept hk; clear hK hB bd0 bd1 bd2 bd3 bd4; have hK := hK'; have hB := hB'; have hBq := hB; obtain ⟨bd0, bd1, bd2, bd3, bd4, _, _, _, _, _⟩ := hBq; clear hK' hk hB')
  go_upto_region 4 with (go_at_call 13; refine (hR _ hK).mono ?_; rintro e w1 ⟨rfl, hk1⟩)
  have hC := Box.make w1 op1 d1 s1 t1 imm1
  have hB2 := (hB.kept hk1).kept (Kept.alloc w1 (.cells #[.int .u8 op1, .int .i64 d1, .int .i64 s1, .int .i64 t1, .int .i64 imm1] 27))
  have hK2 := (hK.trans hk1).trans (Kept.alloc w1 (.cells #[.int .u8 op1, .int .i64 d1, .int .i64 s1, .int .i64 t1, .int .i64 imm1] 27))
  clear hB hK bd0 bd1 bd2 bd3 bd4 hk1
  generalize w1.alloc (.cells #[.int .u8 op1, .int .i64 d1, .int .i64 s1, .int .i64 t1, .int .i64 imm1] 27) = W1 at hC hB2 hK2 ⊢
  have hB := hB2
  have hK := hK2
  clear hB2 hK2
  have hBq := hB
  obtain ⟨bd0, bd1, bd2, bd3, bd4, _, _, _, _, _⟩ := hBq
  have hCq := hC
  obtain ⟨be0, be1, be2, be3, be4, _, _, _, _, _⟩ := hCq
  go_wp2_with (first
    | (go_at_call 9; refine (hA _ hK).mono ?_; rintro e w' ⟨rfl, hk⟩; have hK' := hK.trans hk; have hB' := hB.kept hk; have hC' := hC.kept hk; clear hK hB bd0 bd1 bd2 bd3 bd4 hC be0 be1 be2 be3 be4; have hK := hK'; have hB := hB'; have hBq := hB; obtain ⟨bd0, bd1, bd2, bd3, bd4, _, _, _, _, _⟩ := hBq; have hC := hC'; have hCq := hC; obtain ⟨be0, be1, be2, be3, be4, _, _, _, _, _⟩ := hCq; clear hK' hk hB' hC'))
  go_ret
  exact ⟨rfl, hK⟩
set_option maxRecDepth 20000 in
set_option maxHeartbeats 3200000 in
theorem shortL_b (x op d s t imm : Int) (w : World) (hA : ∀ w', Kept w w' → Calls Tryd.prog 9 #[] w' fun e w'' => e = .returned (.bool true) ∧ Kept w' w'') (hF : ∀ w, Calls Tryd.prog 8 #[insnV op d s t imm] w fun e w' => e = .returned (.tuple #[.int .u16 x, .int .i64 0]) ∧ Kept w w') (hSh : ∀ w, Calls Tryd.prog 17 #[insnV op d s t imm] w fun e w' => e = .returned (.tuple #[.bool true, .int .i64 0]) ∧ Kept w w') (hR : ∀ w', Kept w w' → Calls Tryd.prog 13 #[.int .u16 x] w' fun e w'' => e = .returned (.tuple #[insnV op d s t imm, .int .i64 0]) ∧ Kept w' w'') (hS : ∀ w, Calls Tryd.prog 12 #[.int .u16 x] w fun e w' => e = .returned (.int .i64 2) ∧ w' = w) :
    Calls Tryd.prog 7 #[insnV op d s t imm] w fun e w' => e = .returned (.bool true) ∧ Kept w w' := by
  have hB := Box.make w op d s t imm
  have hK := Kept.alloc w (.cells #[.int .u8 op, .int .i64 d, .int .i64 s, .int .i64 t, .int .i64 imm] 27)
  go_enter Tryd.func7, Tryd.ntmps7
  go_upto_region 1 with fail
  generalize w.alloc (.cells #[.int .u8 op, .int .i64 d, .int .i64 s, .int .i64 t, .int .i64 imm] 27) = W0 at hB hK ⊢
  have hBq := hB
  obtain ⟨bd0, bd1, bd2, bd3, bd4, _, _, _, _, _⟩ := hBq
  go_upto_region 2 with (go_at_call 8; refine (hF _).mono ?_; rintro e w' ⟨rfl, hk⟩; have hK' := hK.trans hk; have hB' := hB.kept hk; clear hK hB bd0 bd1 bd2 bd3 bd4; have hK := hK'; have hB := hB'; have hBq := hB; obtain ⟨bd0, bd1, bd2, bd3, bd4, _, _, _, _, _⟩ := hBq; clear hK' hk hB')
  go_upto_region 3 with (go_at_call 17; refine (hSh _).mono ?_; rintro e w' ⟨rfl, hk⟩; have hK' := hK.trans hk; have hB' := hB.kept hk; clear hK hB bd0 bd1 bd2 bd3 bd4; have hK := hK'; have hB := hB'; have hBq := hB; obtain ⟨bd0, bd1, bd2, bd3, bd4, _, _, _, _, _⟩ := hBq; clear hK' hk hB')
  go_upto_region 4 with (go_at_call 13; refine (hR _ hK).mono ?_; rintro e w1 ⟨rfl, hk1⟩)
  have hC := Box.make w1 op d s t imm
  have hB2 := (hB.kept hk1).kept (Kept.alloc w1 (.cells #[.int .u8 op, .int .i64 d, .int .i64 s, .int .i64 t, .int .i64 imm] 27))
  have hK2 := (hK.trans hk1).trans (Kept.alloc w1 (.cells #[.int .u8 op, .int .i64 d, .int .i64 s, .int .i64 t, .int .i64 imm] 27))
  clear hB hK bd0 bd1 bd2 bd3 bd4 hk1
  generalize w1.alloc (.cells #[.int .u8 op, .int .i64 d, .int .i64 s, .int .i64 t, .int .i64 imm] 27) = W1 at hC hB2 hK2 ⊢
  have hB := hB2
  have hK := hK2
  clear hB2 hK2
  have hBq := hB
  obtain ⟨bd0, bd1, bd2, bd3, bd4, _, _, _, _, _⟩ := hBq
  have hCq := hC
  obtain ⟨be0, be1, be2, be3, be4, _, _, _, _, _⟩ := hCq
  go_wp2_with (first
    | (go_at_call 9; refine (hA _ hK).mono ?_; rintro e w' ⟨rfl, hk⟩; have hK' := hK.trans hk; have hB' := hB.kept hk; have hC' := hC.kept hk; clear hK hB bd0 bd1 bd2 bd3 bd4 hC be0 be1 be2 be3 be4; have hK := hK'; have hB := hB'; have hBq := hB; obtain ⟨bd0, bd1, bd2, bd3, bd4, _, _, _, _, _⟩ := hBq; have hC := hC'; have hCq := hC; obtain ⟨be0, be1, be2, be3, be4, _, _, _, _, _⟩ := hCq; clear hK' hk hB' hC')
    | (go_at_call 12; refine (hS _).mono ?_; rintro e w' ⟨rfl, rfl⟩))
  go_ret
  exact ⟨rfl, hK⟩
set_option maxRecDepth 20000 in
set_option maxHeartbeats 3200000 in
theorem shortL_c (x op d s t imm op1 d1 s1 t1 imm1 er : Int) (w : World) (hA : ∀ w', Kept w w' → Calls Tryd.prog 9 #[] w' fun e w'' => e = .returned (.bool true) ∧ Kept w' w'') (hF : ∀ w, Calls Tryd.prog 8 #[insnV op d s t imm] w fun e w' => e = .returned (.tuple #[.int .u16 x, .int .i64 6]) ∧ Kept w w') (hSh : ∀ w, Calls Tryd.prog 17 #[insnV op d s t imm] w fun e w' => e = .returned (.tuple #[.bool false, .int .i64 0]) ∧ Kept w w') (hR : ∀ w', Kept w w' → Calls Tryd.prog 13 #[.int .u16 x] w' fun e w'' => e = .returned (.tuple #[insnV op1 d1 s1 t1 imm1, .int .i64 er]) ∧ Kept w' w'')  :
    Calls Tryd.prog 7 #[insnV op d s t imm] w fun e w' => e = .returned (.bool true) ∧ Kept w w' := by
  have hB := Box.make w op d s t imm
  have hK := Kept.alloc w (.cells #[.int .u8 op, .int .i64 d, .int .i64 s, .int .i64 t, .int .i64 imm] 27)
  go_enter Tryd.func7, Tryd.ntmps7
  go_upto_region 1 with fail
  generalize w.alloc (.cells #[.int .u8 op, .int .i64 d, .int .i64 s, .int .i64 t, .int .i64 imm] 27) = W0 at hB hK ⊢
  have hBq := hB
  obtain ⟨bd0, bd1, bd2, bd3, bd4, _, _, _, _, _⟩ := hBq
  go_upto_region 2 with (go_at_call 8; refine (hF _).mono ?_; rintro e w' ⟨rfl, hk⟩; have hK' := hK.trans hk; have hB' := hB.kept hk; clear hK hB bd0 bd1 bd2 bd3 bd4; have hK := hK'; have hB := hB'; have hBq := hB; obtain ⟨bd0, bd1, bd2, bd3, bd4, _, _, _, _, _⟩ := hBq; clear hK' hk hB')
  go_upto_region 3 with (go_at_call 17; refine (hSh _).mono ?_; rintro e w' ⟨rfl, hk⟩; have hK' := hK.trans hk; have hB' := hB.kept hk; clear hK hB bd0 bd1 bd2 bd3 bd4; have hK := hK'; have hB := hB'; have hBq := hB; obtain ⟨bd0, bd1, bd2, bd3, bd4, _, _, _, _, _⟩ := hBq; clear hK' hk hB')
  go_upto_region 4 with (go_at_call 13; refine (hR _ hK).mono ?_; rintro e w1 ⟨rfl, hk1⟩)
  have hC := Box.make w1 op1 d1 s1 t1 imm1
  have hB2 := (hB.kept hk1).kept (Kept.alloc w1 (.cells #[.int .u8 op1, .int .i64 d1, .int .i64 s1, .int .i64 t1, .int .i64 imm1] 27))
  have hK2 := (hK.trans hk1).trans (Kept.alloc w1 (.cells #[.int .u8 op1, .int .i64 d1, .int .i64 s1, .int .i64 t1, .int .i64 imm1] 27))
  clear hB hK bd0 bd1 bd2 bd3 bd4 hk1
  generalize w1.alloc (.cells #[.int .u8 op1, .int .i64 d1, .int .i64 s1, .int .i64 t1, .int .i64 imm1] 27) = W1 at hC hB2 hK2 ⊢
  have hB := hB2
  have hK := hK2
  clear hB2 hK2
  have hBq := hB
  obtain ⟨bd0, bd1, bd2, bd3, bd4, _, _, _, _, _⟩ := hBq
  have hCq := hC
  obtain ⟨be0, be1, be2, be3, be4, _, _, _, _, _⟩ := hCq
  go_wp2_with (first
    | (go_at_call 9; refine (hA _ hK).mono ?_; rintro e w' ⟨rfl, hk⟩; have hK' := hK.trans hk; have hB' := hB.kept hk; have hC' := hC.kept hk; clear hK hB bd0 bd1 bd2 bd3 bd4 hC be0 be1 be2 be3 be4; have hK := hK'; have hB := hB'; have hBq := hB; obtain ⟨bd0, bd1, bd2, bd3, bd4, _, _, _, _, _⟩ := hBq; have hC := hC'; have hCq := hC; obtain ⟨be0, be1, be2, be3, be4, _, _, _, _, _⟩ := hCq; clear hK' hk hB' hC'))
  go_ret
  exact ⟨rfl, hK⟩
theorem hfV_rng (op d s t imm : Int) : 0 ≤ hfV op d s t imm ∧ hfV op d s t imm ≤ 65535 := by
  unfold hfV cHalf
  split
  · split
    · omega
    · omega
  · omega
theorem hfV_nat (op d s t imm : Int) : ∃ H : Nat, hfV op d s t imm = H ∧ H ≤ 65535 := by
  have := hfV_rng op d s t imm
  exact ⟨(hfV op d s t imm).toNat, by omega, by omega⟩
theorem insn_back {op d s t imm : Int} (hm : mayB op d s t imm = true) (hc : cIx op d s t imm < 33) {H : Nat} (hH : hfV op d s t imm = H) (h6 : H ≤ 65535) (w : World) (hT : Tab w) :
    Calls Tryd.prog 13 #[.int .u16 (H : Int)] w fun e w' => e = .returned (.tuple #[insnV op d s t imm, .int .i64 0]) ∧ Kept w w' := by
  obtain ⟨h0, h1, h2, h3, h4, h5⟩ := half_back hm hc hH
  have h := insn_walk6 H h6 w hT
  have he : hErr H = 0 := if_pos h0
  rwa [h1, h2, h3, h4, h5, he] at h
theorem size_back {op d s t imm : Int} (hm : mayB op d s t imm = true) (hc : cIx op d s t imm < 33) {H : Nat} (hH : hfV op d s t imm = H) (h6 : H ≤ 65535) (w : World) :
    Calls Tryd.prog 12 #[.int .u16 (H : Int)] w fun e w' => e = .returned (.int .i64 2) ∧ w' = w := by
  obtain ⟨h0, _⟩ := half_back hm hc hH
  obtain ⟨_, _, m3, _⟩ := back_half h0
  have h := csize_walk H h6 w
  rwa [if_neg m3] at h
theorem cdecShort_all (op d s t imm : Int) (h0 : 0 ≤ op) (h1 : op ≤ 255) (w : World) (hT : Tab w) : Calls Tryd.prog 7 #[insnV op d s t imm] w fun e w' => e = .returned (.bool true) ∧ Kept w w' := by
  have hA := fun w' (k : Kept w w') => alive_walk w' (hT.kept k)
  have hF := fun w => halfC_walk op d s t imm h0 h1 w
  have hSh := fun w => shortC_walk op d s t imm h0 h1 w
  obtain ⟨H, e, h6⟩ := hfV_nat op d s t imm
  have hR := fun w' (k : Kept w w') => insn_walk6 H h6 w' (hT.kept k)
  rw [e] at hF
  by_cases hm : mayB op d s t imm = true
  · by_cases hc : cIx op d s t imm < 33
    · have e1 : hfE op d s t imm = 0 := hfE_zero.2 ⟨hm, hc⟩
      have e2 : shV op d s t imm = true := by unfold shV; rw [hm, decide_eq_true hc]; rfl
      rw [e1] at hF
      rw [e2, if_pos hm] at hSh
      exact shortL_b _ _ _ _ _ _ w hA hF hSh (fun w' k => insn_back hm hc e h6 w' (hT.kept k)) (fun w => size_back hm hc e h6 w)
    · have e1 : hfE op d s t imm = 6 := by unfold hfE; rw [if_pos hm, if_neg hc]
      have e2 : shV op d s t imm = false := by unfold shV; rw [decide_eq_false hc, Bool.and_false]
      rw [e1] at hF
      rw [e2, if_pos hm] at hSh
      exact shortL_c _ _ _ _ _ _ _ _ _ _ _ _ w hA hF hSh hR
  · have e1 : hfE op d s t imm = 20 := by unfold hfE; rw [if_neg hm]
    have e2 : shV op d s t imm = false := by unfold shV; rw [Bool.eq_false_iff.2 hm, Bool.false_and]
    rw [e1] at hF
    rw [e2, if_neg hm] at hSh
    exact shortL_a _ _ _ _ _ _ _ _ _ _ _ _ w hA hF hSh hR
end Go.Proofs.YtbmcanpjpibecaaDoor
