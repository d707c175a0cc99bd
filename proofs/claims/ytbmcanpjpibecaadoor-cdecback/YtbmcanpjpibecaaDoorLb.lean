/- The parts of CdecBack. CdecBack, all cases. -/
import Derived.Test.YtbmcanpjpibecaaDoorLs
import Derived.Deep.DeepCutAuto
namespace Go.Proofs.YtbmcanpjpibecaaDoor
open Go.RowKit

def bothB (op d s imm : Int) : Bool := (op == 22) && ((d == 2) && ((s == 2) && ((imm == -32) || ((imm == -16) || (imm == 16)))))
set_option maxRecDepth 20000 in
set_option maxHeartbeats 3200000 in
theorem backL_an (x op d s t imm y he : Int) (w : World) (hA : ∀ w', Kept w w' → Calls Tryd.prog 9 #[] w' fun e w'' => e = .returned (.bool true) ∧ Kept w' w'') (hF : ∀ w, Calls Tryd.prog 8 #[insnV op d s t imm] w fun e w' => e = .returned (.tuple #[.int .u16 x, .int .i64 he]) ∧ Kept w w') (h0 : ¬ he = 0) (gR : ∀ w', Kept w w' → Calls Tryd.prog 13 #[.int .u16 y] w' fun e w'' => e = .returned (.tuple #[insnV 0 0 0 0 0, .int .i64 60]) ∧ Kept w' w'') :
    Calls Tryd.prog 5 #[insnV op d s t imm, .int .u16 y] w fun e w' => e = .returned (.bool true) ∧ Kept w w' := by
  have hn : (he == 0) = false := by simpa using h0
  have hB := Box.make w op d s t imm
  have hK := Kept.alloc w (.cells #[.int .u8 op, .int .i64 d, .int .i64 s, .int .i64 t, .int .i64 imm] 27)
  go_enter Tryd.func5, Tryd.ntmps5
  go_upto_region 1 with fail
  generalize w.alloc (.cells #[.int .u8 op, .int .i64 d, .int .i64 s, .int .i64 t, .int .i64 imm] 27) = W0 at hB hK ⊢
  have hBq := hB
  obtain ⟨bd0, bd1, bd2, bd3, bd4, _, _, _, _, _⟩ := hBq
  go_upto_region 2 with (go_at_call 9; refine (hA _ hK).mono ?_; rintro e w' ⟨rfl, hk⟩; have hK' := hK.trans hk; have hB' := hB.kept hk; clear hK hB bd0 bd1 bd2 bd3 bd4; have hK := hK'; have hB := hB'; have hBq := hB; obtain ⟨bd0, bd1, bd2, bd3, bd4, _, _, _, _, _⟩ := hBq; clear hK' hk hB')
  go_upto_region 3 with (go_at_call 8; refine (hF _).mono ?_; rintro e w' ⟨rfl, hk⟩; have hK' := hK.trans hk; have hB' := hB.kept hk; clear hK hB bd0 bd1 bd2 bd3 bd4; have hK := hK'; have hB := hB'; have hBq := hB; obtain ⟨bd0, bd1, bd2, bd3, bd4, _, _, _, _, _⟩ := hBq; clear hK' hk hB')
  go_upto_region 7 with fail
  clear bd0 bd1 bd2 bd3 bd4 hB hF hA
  go_upto_region 8 with (go_at_call 13; refine (gR _ hK).mono ?_; rintro e w2 ⟨rfl, hk2⟩)
  have hC := Box.make w2 0 0 0 0 0
  have hK2 := (hK.trans hk2).trans (Kept.alloc w2 (.cells #[.int .u8 0, .int .i64 0, .int .i64 0, .int .i64 0, .int .i64 0] 27))
  clear hK hk2 gR
  generalize w2.alloc (.cells #[.int .u8 0, .int .i64 0, .int .i64 0, .int .i64 0, .int .i64 0] 27) = W2 at hC hK2 ⊢
  have hK := hK2
  clear hK2
  have hCq := hC
  obtain ⟨be0, be1, be2, be3, be4, _, _, _, _, _⟩ := hCq
  go_wp2
  go_ret
  exact ⟨rfl, hK⟩

set_option maxRecDepth 20000 in
set_option maxHeartbeats 3200000 in
theorem backL_bn (x op d s t imm y : Int) (w : World) (hA : ∀ w', Kept w w' → Calls Tryd.prog 9 #[] w' fun e w'' => e = .returned (.bool true) ∧ Kept w' w'') (hF : ∀ w, Calls Tryd.prog 8 #[insnV op d s t imm] w fun e w' => e = .returned (.tuple #[.int .u16 x, .int .i64 0]) ∧ Kept w w') (hR : ∀ w', Kept w w' → Calls Tryd.prog 13 #[.int .u16 x] w' fun e w'' => e = .returned (.tuple #[insnV op d s t imm, .int .i64 0]) ∧ Kept w' w'') (hS : ∀ w, Calls Tryd.prog 12 #[.int .u16 x] w fun e w' => e = .returned (.int .i64 2) ∧ w' = w) (gR : ∀ w', Kept w w' → Calls Tryd.prog 13 #[.int .u16 y] w' fun e w'' => e = .returned (.tuple #[insnV 0 0 0 0 0, .int .i64 60]) ∧ Kept w' w'') :
    Calls Tryd.prog 5 #[insnV op d s t imm, .int .u16 y] w fun e w' => e = .returned (.bool true) ∧ Kept w w' := by
  have hB := Box.make w op d s t imm
  have hK := Kept.alloc w (.cells #[.int .u8 op, .int .i64 d, .int .i64 s, .int .i64 t, .int .i64 imm] 27)
  go_enter Tryd.func5, Tryd.ntmps5
  go_upto_region 1 with fail
  generalize w.alloc (.cells #[.int .u8 op, .int .i64 d, .int .i64 s, .int .i64 t, .int .i64 imm] 27) = W0 at hB hK ⊢
  have hBq := hB
  obtain ⟨bd0, bd1, bd2, bd3, bd4, _, _, _, _, _⟩ := hBq
  go_upto_region 2 with (go_at_call 9; refine (hA _ hK).mono ?_; rintro e w' ⟨rfl, hk⟩; have hK' := hK.trans hk; have hB' := hB.kept hk; clear hK hB bd0 bd1 bd2 bd3 bd4; have hK := hK'; have hB := hB'; have hBq := hB; obtain ⟨bd0, bd1, bd2, bd3, bd4, _, _, _, _, _⟩ := hBq; clear hK' hk hB')
  go_upto_region 3 with (go_at_call 8; refine (hF _).mono ?_; rintro e w' ⟨rfl, hk⟩; have hK' := hK.trans hk; have hB' := hB.kept hk; clear hK hB bd0 bd1 bd2 bd3 bd4; have hK := hK'; have hB := hB'; have hBq := hB; obtain ⟨bd0, bd1, bd2, bd3, bd4, _, _, _, _, _⟩ := hBq; clear hK' hk hB')
  go_upto_region 5 with (go_at_call 13; refine (hR _ hK).mono ?_; rintro e w1 ⟨rfl, hk1⟩)
  have hC := Box.make w1 op d s t imm
  have hB2 := (hB.kept hk1).kept (Kept.alloc w1 (.cells #[.int .u8 op, .int .i64 d, .int .i64 s, .int .i64 t, .int .i64 imm] 27))
  have hK2 := (hK.trans hk1).trans (Kept.alloc w1 (.cells #[.int .u8 op, .int .i64 d, .int .i64 s, .int .i64 t, .int .i64 imm] 27))
  clear hB hK bd0 bd1 bd2 bd3 bd4 hk1
  generalize w1.alloc (.cells #[.int .u8 op, .int .i64 d, .int .i64 s, .int .i64 t, .int .i64 imm] 27) = W1 at hC hB2 hK2 ⊢
  have hK := hK2
  clear hK2
  obtain ⟨bd0, bd1, bd2, bd3, bd4, _, _, _, _, _⟩ := hB2
  obtain ⟨be0, be1, be2, be3, be4, _, _, _, _, _⟩ := hC
  go_upto_region 7 with (go_at_call 12; refine (hS _).mono ?_; rintro e w' ⟨rfl, rfl⟩)
  clear bd0 bd1 bd2 bd3 bd4 be0 be1 be2 be3 be4 hR hS hF hA
  go_upto_region 8 with (go_at_call 13; refine (gR _ hK).mono ?_; rintro e w2 ⟨rfl, hk2⟩)
  have hC := Box.make w2 0 0 0 0 0
  have hK2 := (hK.trans hk2).trans (Kept.alloc w2 (.cells #[.int .u8 0, .int .i64 0, .int .i64 0, .int .i64 0, .int .i64 0] 27))
  clear hK hk2 gR
  generalize w2.alloc (.cells #[.int .u8 0, .int .i64 0, .int .i64 0, .int .i64 0, .int .i64 0] 27) = W2 at hC hK2 ⊢
  have hK := hK2
  clear hK2
  have hCq := hC
  obtain ⟨be0, be1, be2, be3, be4, _, _, _, _, _⟩ := hCq
  go_wp2
  go_ret
  exact ⟨rfl, hK⟩

set_option maxRecDepth 20000 in
set_option maxHeartbeats 3200000 in
theorem backL_ay (x op d s t imm y op1 d1 s1 t1 imm1 z he : Int) (w : World) (hA : ∀ w', Kept w w' → Calls Tryd.prog 9 #[] w' fun e w'' => e = .returned (.bool true) ∧ Kept w' w'') (hF : ∀ w, Calls Tryd.prog 8 #[insnV op d s t imm] w fun e w' => e = .returned (.tuple #[.int .u16 x, .int .i64 he]) ∧ Kept w w') (h0 : ¬ he = 0) (gR : ∀ w', Kept w w' → Calls Tryd.prog 13 #[.int .u16 y] w' fun e w'' => e = .returned (.tuple #[insnV op1 d1 s1 t1 imm1, .int .i64 0]) ∧ Kept w' w'') (gF : ∀ w, Calls Tryd.prog 8 #[insnV op1 d1 s1 t1 imm1] w fun e w' => e = .returned (.tuple #[.int .u16 z, .int .i64 0]) ∧ Kept w w') (gS : ∀ w, Calls Tryd.prog 12 #[.int .u16 y] w fun e w' => e = .returned (.int .i64 2) ∧ w' = w) (gC : ∀ w, Calls Tryd.prog 16 #[insnV op1 d1 s1 t1 imm1] w fun e w' => e = .returned (.int .i64 0) ∧ Kept w w') (hz : z = y) :
    Calls Tryd.prog 5 #[insnV op d s t imm, .int .u16 y] w fun e w' => e = .returned (.bool true) ∧ Kept w w' := by
  have hn : (he == 0) = false := by simpa using h0
  have hB := Box.make w op d s t imm
  have hK := Kept.alloc w (.cells #[.int .u8 op, .int .i64 d, .int .i64 s, .int .i64 t, .int .i64 imm] 27)
  go_enter Tryd.func5, Tryd.ntmps5
  go_upto_region 1 with fail
  generalize w.alloc (.cells #[.int .u8 op, .int .i64 d, .int .i64 s, .int .i64 t, .int .i64 imm] 27) = W0 at hB hK ⊢
  have hBq := hB
  obtain ⟨bd0, bd1, bd2, bd3, bd4, _, _, _, _, _⟩ := hBq
  go_upto_region 2 with (go_at_call 9; refine (hA _ hK).mono ?_; rintro e w' ⟨rfl, hk⟩; have hK' := hK.trans hk; have hB' := hB.kept hk; clear hK hB bd0 bd1 bd2 bd3 bd4; have hK := hK'; have hB := hB'; have hBq := hB; obtain ⟨bd0, bd1, bd2, bd3, bd4, _, _, _, _, _⟩ := hBq; clear hK' hk hB')
  go_upto_region 3 with (go_at_call 8; refine (hF _).mono ?_; rintro e w' ⟨rfl, hk⟩; have hK' := hK.trans hk; have hB' := hB.kept hk; clear hK hB bd0 bd1 bd2 bd3 bd4; have hK := hK'; have hB := hB'; have hBq := hB; obtain ⟨bd0, bd1, bd2, bd3, bd4, _, _, _, _, _⟩ := hBq; clear hK' hk hB')
  go_upto_region 7 with fail
  clear bd0 bd1 bd2 bd3 bd4 hB hF hA
  go_upto_region 8 with (go_at_call 13; refine (gR _ hK).mono ?_; rintro e w2 ⟨rfl, hk2⟩)
  have hC := Box.make w2 op1 d1 s1 t1 imm1
  have hK2 := (hK.trans hk2).trans (Kept.alloc w2 (.cells #[.int .u8 op1, .int .i64 d1, .int .i64 s1, .int .i64 t1, .int .i64 imm1] 27))
  clear hK hk2 gR
  generalize w2.alloc (.cells #[.int .u8 op1, .int .i64 d1, .int .i64 s1, .int .i64 t1, .int .i64 imm1] 27) = W2 at hC hK2 ⊢
  have hK := hK2
  clear hK2
  have hCq := hC
  obtain ⟨be0, be1, be2, be3, be4, _, _, _, _, _⟩ := hCq
  go_upto_region 11 with (go_at_call 8; refine (gF _).mono ?_; rintro e w3 ⟨rfl, hk⟩; have hK' := hK.trans hk; have hC' := hC.kept hk; clear hK hC be0 be1 be2 be3 be4; have hK := hK'; have hC := hC'; have hCq := hC; obtain ⟨be0, be1, be2, be3, be4, _, _, _, _, _⟩ := hCq; clear hK' hk hC')
  clear gF

  go_cut [14] (fun v wx => v = .bool (bothB op1 d1 s1 imm1) ∧ wx = w3)
  case first =>
    clear gS gC hz  hC hK

    by_cases c_op1 : op1 = 22
    · subst c_op1
      by_cases c_d1 : d1 = 2
      · subst c_d1
        by_cases c_s1 : s1 = 2
        · subst c_s1
          by_cases c_a : imm1 = -32
          · subst c_a
            as_aux_lemma =>
              go_wp2
              go_meet
              exact ⟨by simp [bothB, *], rfl⟩
          have n_a : (imm1 == -32) = false := by simpa using c_a
          by_cases c_b : imm1 = -16
          · subst c_b
            as_aux_lemma =>
              go_wp2
              go_meet
              exact ⟨by simp [bothB, *], rfl⟩
          have n_b : (imm1 == -16) = false := by simpa using c_b
          by_cases c_c : imm1 = 16
          · subst c_c
            as_aux_lemma =>
              go_wp2
              go_meet
              exact ⟨by simp [bothB, *], rfl⟩
          have n_c : (imm1 == 16) = false := by simpa using c_c
          as_aux_lemma =>
            go_wp2
            go_meet
            exact ⟨by simp [bothB, *], rfl⟩
        · have n_s1 : (s1 == 2) = false := by simpa using c_s1
          as_aux_lemma =>
            go_wp2
            go_meet
            exact ⟨by simp [bothB, *], rfl⟩
      · have n_d1 : (d1 == 2) = false := by simpa using c_d1
        as_aux_lemma =>
          go_wp2
          go_meet
          exact ⟨by simp [bothB, *], rfl⟩
    · have n_op1 : (op1 == 22) = false := by simpa using c_op1
      as_aux_lemma =>
        go_wp2
        go_meet
        exact ⟨by simp [bothB, *], rfl⟩
  case rest =>
    obtain ⟨rfl, hw⟩ := hcut
    subst hw
    have hzy : (z == y) = true := by simpa using hz
    generalize bothB op1 d1 s1 imm1 = bb
    go_wp2_with (first
      | (go_at_call 16; refine (gC _).mono ?_; rintro e w' ⟨rfl, hk⟩; have hK' := hK.trans hk; clear hK hk; have hK := hK'; clear hK')
      | (go_at_call 12; refine (gS _).mono ?_; rintro e w' ⟨rfl, rfl⟩))
    go_ret
    exact ⟨rfl, hK⟩

set_option maxRecDepth 20000 in
set_option maxHeartbeats 3200000 in
theorem backL_by (x op d s t imm y op1 d1 s1 t1 imm1 z : Int) (w : World) (hA : ∀ w', Kept w w' → Calls Tryd.prog 9 #[] w' fun e w'' => e = .returned (.bool true) ∧ Kept w' w'') (hF : ∀ w, Calls Tryd.prog 8 #[insnV op d s t imm] w fun e w' => e = .returned (.tuple #[.int .u16 x, .int .i64 0]) ∧ Kept w w') (hR : ∀ w', Kept w w' → Calls Tryd.prog 13 #[.int .u16 x] w' fun e w'' => e = .returned (.tuple #[insnV op d s t imm, .int .i64 0]) ∧ Kept w' w'') (hS : ∀ w, Calls Tryd.prog 12 #[.int .u16 x] w fun e w' => e = .returned (.int .i64 2) ∧ w' = w) (gR : ∀ w', Kept w w' → Calls Tryd.prog 13 #[.int .u16 y] w' fun e w'' => e = .returned (.tuple #[insnV op1 d1 s1 t1 imm1, .int .i64 0]) ∧ Kept w' w'') (gF : ∀ w, Calls Tryd.prog 8 #[insnV op1 d1 s1 t1 imm1] w fun e w' => e = .returned (.tuple #[.int .u16 z, .int .i64 0]) ∧ Kept w w') (gS : ∀ w, Calls Tryd.prog 12 #[.int .u16 y] w fun e w' => e = .returned (.int .i64 2) ∧ w' = w) (gC : ∀ w, Calls Tryd.prog 16 #[insnV op1 d1 s1 t1 imm1] w fun e w' => e = .returned (.int .i64 0) ∧ Kept w w') (hz : z = y) :
    Calls Tryd.prog 5 #[insnV op d s t imm, .int .u16 y] w fun e w' => e = .returned (.bool true) ∧ Kept w w' := by
  have hB := Box.make w op d s t imm
  have hK := Kept.alloc w (.cells #[.int .u8 op, .int .i64 d, .int .i64 s, .int .i64 t, .int .i64 imm] 27)
  go_enter Tryd.func5, Tryd.ntmps5
  go_upto_region 1 with fail
  generalize w.alloc (.cells #[.int .u8 op, .int .i64 d, .int .i64 s, .int .i64 t, .int .i64 imm] 27) = W0 at hB hK ⊢
  have hBq := hB
  obtain ⟨bd0, bd1, bd2, bd3, bd4, _, _, _, _, _⟩ := hBq
  go_upto_region 2 with (go_at_call 9; refine (hA _ hK).mono ?_; rintro e w' ⟨rfl, hk⟩; have hK' := hK.trans hk; have hB' := hB.kept hk; clear hK hB bd0 bd1 bd2 bd3 bd4; have hK := hK'; have hB := hB'; have hBq := hB; obtain ⟨bd0, bd1, bd2, bd3, bd4, _, _, _, _, _⟩ := hBq; clear hK' hk hB')
  go_upto_region 3 with (go_at_call 8; refine (hF _).mono ?_; rintro e w' ⟨rfl, hk⟩; have hK' := hK.trans hk; have hB' := hB.kept hk; clear hK hB bd0 bd1 bd2 bd3 bd4; have hK := hK'; have hB := hB'; have hBq := hB; obtain ⟨bd0, bd1, bd2, bd3, bd4, _, _, _, _, _⟩ := hBq; clear hK' hk hB')
  go_upto_region 5 with (go_at_call 13; refine (hR _ hK).mono ?_; rintro e w1 ⟨rfl, hk1⟩)
  have hC := Box.make w1 op d s t imm
  have hB2 := (hB.kept hk1).kept (Kept.alloc w1 (.cells #[.int .u8 op, .int .i64 d, .int .i64 s, .int .i64 t, .int .i64 imm] 27))
  have hK2 := (hK.trans hk1).trans (Kept.alloc w1 (.cells #[.int .u8 op, .int .i64 d, .int .i64 s, .int .i64 t, .int .i64 imm] 27))
  clear hB hK bd0 bd1 bd2 bd3 bd4 hk1
  generalize w1.alloc (.cells #[.int .u8 op, .int .i64 d, .int .i64 s, .int .i64 t, .int .i64 imm] 27) = W1 at hC hB2 hK2 ⊢
  have hK := hK2
  clear hK2
  obtain ⟨bd0, bd1, bd2, bd3, bd4, _, _, _, _, _⟩ := hB2
  obtain ⟨be0, be1, be2, be3, be4, _, _, _, _, _⟩ := hC
  go_upto_region 7 with (go_at_call 12; refine (hS _).mono ?_; rintro e w' ⟨rfl, rfl⟩)
  clear bd0 bd1 bd2 bd3 bd4 be0 be1 be2 be3 be4 hR hS hF hA
  go_upto_region 8 with (go_at_call 13; refine (gR _ hK).mono ?_; rintro e w2 ⟨rfl, hk2⟩)
  have hC := Box.make w2 op1 d1 s1 t1 imm1
  have hK2 := (hK.trans hk2).trans (Kept.alloc w2 (.cells #[.int .u8 op1, .int .i64 d1, .int .i64 s1, .int .i64 t1, .int .i64 imm1] 27))
  clear hK hk2 gR
  generalize w2.alloc (.cells #[.int .u8 op1, .int .i64 d1, .int .i64 s1, .int .i64 t1, .int .i64 imm1] 27) = W2 at hC hK2 ⊢
  have hK := hK2
  clear hK2
  have hCq := hC
  obtain ⟨be0, be1, be2, be3, be4, _, _, _, _, _⟩ := hCq
  go_upto_region 11 with (go_at_call 8; refine (gF _).mono ?_; rintro e w3 ⟨rfl, hk⟩; have hK' := hK.trans hk; have hC' := hC.kept hk; clear hK hC be0 be1 be2 be3 be4; have hK := hK'; have hC := hC'; have hCq := hC; obtain ⟨be0, be1, be2, be3, be4, _, _, _, _, _⟩ := hCq; clear hK' hk hC')
  clear gF

  go_cut [14] (fun v wx => v = .bool (bothB op1 d1 s1 imm1) ∧ wx = w3)
  case first =>
    clear gS gC hz  hC hK

    by_cases c_op1 : op1 = 22
    · subst c_op1
      by_cases c_d1 : d1 = 2
      · subst c_d1
        by_cases c_s1 : s1 = 2
        · subst c_s1
          by_cases c_a : imm1 = -32
          · subst c_a
            as_aux_lemma =>
              go_wp2
              go_meet
              exact ⟨by simp [bothB, *], rfl⟩
          have n_a : (imm1 == -32) = false := by simpa using c_a
          by_cases c_b : imm1 = -16
          · subst c_b
            as_aux_lemma =>
              go_wp2
              go_meet
              exact ⟨by simp [bothB, *], rfl⟩
          have n_b : (imm1 == -16) = false := by simpa using c_b
          by_cases c_c : imm1 = 16
          · subst c_c
            as_aux_lemma =>
              go_wp2
              go_meet
              exact ⟨by simp [bothB, *], rfl⟩
          have n_c : (imm1 == 16) = false := by simpa using c_c
          as_aux_lemma =>
            go_wp2
            go_meet
            exact ⟨by simp [bothB, *], rfl⟩
        · have n_s1 : (s1 == 2) = false := by simpa using c_s1
          as_aux_lemma =>
            go_wp2
            go_meet
            exact ⟨by simp [bothB, *], rfl⟩
      · have n_d1 : (d1 == 2) = false := by simpa using c_d1
        as_aux_lemma =>
          go_wp2
          go_meet
          exact ⟨by simp [bothB, *], rfl⟩
    · have n_op1 : (op1 == 22) = false := by simpa using c_op1
      as_aux_lemma =>
        go_wp2
        go_meet
        exact ⟨by simp [bothB, *], rfl⟩
  case rest =>
    obtain ⟨rfl, hw⟩ := hcut
    subst hw
    have hzy : (z == y) = true := by simpa using hz
    generalize bothB op1 d1 s1 imm1 = bb
    go_wp2_with (first
      | (go_at_call 16; refine (gC _).mono ?_; rintro e w' ⟨rfl, hk⟩; have hK' := hK.trans hk; clear hK hk; have hK := hK'; clear hK')
      | (go_at_call 12; refine (gS _).mono ?_; rintro e w' ⟨rfl, rfl⟩))
    go_ret
    exact ⟨rfl, hK⟩

set_option maxRecDepth 20000 in
set_option maxHeartbeats 3200000 in
theorem backL_az (x op d s t imm y op1 d1 s1 t1 imm1 z he : Int) (w : World) (hA : ∀ w', Kept w w' → Calls Tryd.prog 9 #[] w' fun e w'' => e = .returned (.bool true) ∧ Kept w' w'') (hF : ∀ w, Calls Tryd.prog 8 #[insnV op d s t imm] w fun e w' => e = .returned (.tuple #[.int .u16 x, .int .i64 he]) ∧ Kept w w') (h0 : ¬ he = 0) (gR : ∀ w', Kept w w' → Calls Tryd.prog 13 #[.int .u16 y] w' fun e w'' => e = .returned (.tuple #[insnV op1 d1 s1 t1 imm1, .int .i64 0]) ∧ Kept w' w'') (gF : ∀ w, Calls Tryd.prog 8 #[insnV op1 d1 s1 t1 imm1] w fun e w' => e = .returned (.tuple #[.int .u16 z, .int .i64 0]) ∧ Kept w w') (gS : ∀ w, Calls Tryd.prog 12 #[.int .u16 y] w fun e w' => e = .returned (.int .i64 2) ∧ w' = w) (gC : ∀ w, Calls Tryd.prog 16 #[insnV op1 d1 s1 t1 imm1] w fun e w' => e = .returned (.int .i64 0) ∧ Kept w w') (hz : ¬ z = y) (hb : bothB op1 d1 s1 imm1 = true) :
    Calls Tryd.prog 5 #[insnV op d s t imm, .int .u16 y] w fun e w' => e = .returned (.bool true) ∧ Kept w w' := by
  have hn : (he == 0) = false := by simpa using h0
  have hB := Box.make w op d s t imm
  have hK := Kept.alloc w (.cells #[.int .u8 op, .int .i64 d, .int .i64 s, .int .i64 t, .int .i64 imm] 27)
  go_enter Tryd.func5, Tryd.ntmps5
  go_upto_region 1 with fail
  generalize w.alloc (.cells #[.int .u8 op, .int .i64 d, .int .i64 s, .int .i64 t, .int .i64 imm] 27) = W0 at hB hK ⊢
  have hBq := hB
  obtain ⟨bd0, bd1, bd2, bd3, bd4, _, _, _, _, _⟩ := hBq
  go_upto_region 2 with (go_at_call 9; refine (hA _ hK).mono ?_; rintro e w' ⟨rfl, hk⟩; have hK' := hK.trans hk; have hB' := hB.kept hk; clear hK hB bd0 bd1 bd2 bd3 bd4; have hK := hK'; have hB := hB'; have hBq := hB; obtain ⟨bd0, bd1, bd2, bd3, bd4, _, _, _, _, _⟩ := hBq; clear hK' hk hB')
  go_upto_region 3 with (go_at_call 8; refine (hF _).mono ?_; rintro e w' ⟨rfl, hk⟩; have hK' := hK.trans hk; have hB' := hB.kept hk; clear hK hB bd0 bd1 bd2 bd3 bd4; have hK := hK'; have hB := hB'; have hBq := hB; obtain ⟨bd0, bd1, bd2, bd3, bd4, _, _, _, _, _⟩ := hBq; clear hK' hk hB')
  go_upto_region 7 with fail
  clear bd0 bd1 bd2 bd3 bd4 hB hF hA
  go_upto_region 8 with (go_at_call 13; refine (gR _ hK).mono ?_; rintro e w2 ⟨rfl, hk2⟩)
  have hC := Box.make w2 op1 d1 s1 t1 imm1
  have hK2 := (hK.trans hk2).trans (Kept.alloc w2 (.cells #[.int .u8 op1, .int .i64 d1, .int .i64 s1, .int .i64 t1, .int .i64 imm1] 27))
  clear hK hk2 gR
  generalize w2.alloc (.cells #[.int .u8 op1, .int .i64 d1, .int .i64 s1, .int .i64 t1, .int .i64 imm1] 27) = W2 at hC hK2 ⊢
  have hK := hK2
  clear hK2
  have hCq := hC
  obtain ⟨be0, be1, be2, be3, be4, _, _, _, _, _⟩ := hCq
  go_upto_region 11 with (go_at_call 8; refine (gF _).mono ?_; rintro e w3 ⟨rfl, hk⟩; have hK' := hK.trans hk; have hC' := hC.kept hk; clear hK hC be0 be1 be2 be3 be4; have hK := hK'; have hC := hC'; have hCq := hC; obtain ⟨be0, be1, be2, be3, be4, _, _, _, _, _⟩ := hCq; clear hK' hk hC')
  clear gF

  go_cut [14] (fun v wx => v = .bool (bothB op1 d1 s1 imm1) ∧ wx = w3)
  case first =>
    clear gS gC hz hb hC hK

    by_cases c_op1 : op1 = 22
    · subst c_op1
      by_cases c_d1 : d1 = 2
      · subst c_d1
        by_cases c_s1 : s1 = 2
        · subst c_s1
          by_cases c_a : imm1 = -32
          · subst c_a
            as_aux_lemma =>
              go_wp2
              go_meet
              exact ⟨by simp [bothB, *], rfl⟩
          have n_a : (imm1 == -32) = false := by simpa using c_a
          by_cases c_b : imm1 = -16
          · subst c_b
            as_aux_lemma =>
              go_wp2
              go_meet
              exact ⟨by simp [bothB, *], rfl⟩
          have n_b : (imm1 == -16) = false := by simpa using c_b
          by_cases c_c : imm1 = 16
          · subst c_c
            as_aux_lemma =>
              go_wp2
              go_meet
              exact ⟨by simp [bothB, *], rfl⟩
          have n_c : (imm1 == 16) = false := by simpa using c_c
          as_aux_lemma =>
            go_wp2
            go_meet
            exact ⟨by simp [bothB, *], rfl⟩
        · have n_s1 : (s1 == 2) = false := by simpa using c_s1
          as_aux_lemma =>
            go_wp2
            go_meet
            exact ⟨by simp [bothB, *], rfl⟩
      · have n_d1 : (d1 == 2) = false := by simpa using c_d1
        as_aux_lemma =>
          go_wp2
          go_meet
          exact ⟨by simp [bothB, *], rfl⟩
    · have n_op1 : (op1 == 22) = false := by simpa using c_op1
      as_aux_lemma =>
        go_wp2
        go_meet
        exact ⟨by simp [bothB, *], rfl⟩
  case rest =>
    obtain ⟨rfl, hw⟩ := hcut
    subst hw
    have hzy : (z == y) = false := by simpa using hz
    rw [hb]
    go_wp2_with (first
      | (go_at_call 16; refine (gC _).mono ?_; rintro e w' ⟨rfl, hk⟩; have hK' := hK.trans hk; clear hK hk; have hK := hK'; clear hK')
      | (go_at_call 12; refine (gS _).mono ?_; rintro e w' ⟨rfl, rfl⟩))
    go_ret
    exact ⟨rfl, hK⟩

set_option maxRecDepth 20000 in
set_option maxHeartbeats 3200000 in
theorem backL_bz (x op d s t imm y op1 d1 s1 t1 imm1 z : Int) (w : World) (hA : ∀ w', Kept w w' → Calls Tryd.prog 9 #[] w' fun e w'' => e = .returned (.bool true) ∧ Kept w' w'') (hF : ∀ w, Calls Tryd.prog 8 #[insnV op d s t imm] w fun e w' => e = .returned (.tuple #[.int .u16 x, .int .i64 0]) ∧ Kept w w') (hR : ∀ w', Kept w w' → Calls Tryd.prog 13 #[.int .u16 x] w' fun e w'' => e = .returned (.tuple #[insnV op d s t imm, .int .i64 0]) ∧ Kept w' w'') (hS : ∀ w, Calls Tryd.prog 12 #[.int .u16 x] w fun e w' => e = .returned (.int .i64 2) ∧ w' = w) (gR : ∀ w', Kept w w' → Calls Tryd.prog 13 #[.int .u16 y] w' fun e w'' => e = .returned (.tuple #[insnV op1 d1 s1 t1 imm1, .int .i64 0]) ∧ Kept w' w'') (gF : ∀ w, Calls Tryd.prog 8 #[insnV op1 d1 s1 t1 imm1] w fun e w' => e = .returned (.tuple #[.int .u16 z, .int .i64 0]) ∧ Kept w w') (gS : ∀ w, Calls Tryd.prog 12 #[.int .u16 y] w fun e w' => e = .returned (.int .i64 2) ∧ w' = w) (gC : ∀ w, Calls Tryd.prog 16 #[insnV op1 d1 s1 t1 imm1] w fun e w' => e = .returned (.int .i64 0) ∧ Kept w w') (hz : ¬ z = y) (hb : bothB op1 d1 s1 imm1 = true) :
    Calls Tryd.prog 5 #[insnV op d s t imm, .int .u16 y] w fun e w' => e = .returned (.bool true) ∧ Kept w w' := by
  have hB := Box.make w op d s t imm
  have hK := Kept.alloc w (.cells #[.int .u8 op, .int .i64 d, .int .i64 s, .int .i64 t, .int .i64 imm] 27)
  go_enter Tryd.func5, Tryd.ntmps5
  go_upto_region 1 with fail
  generalize w.alloc (.cells #[.int .u8 op, .int .i64 d, .int .i64 s, .int .i64 t, .int .i64 imm] 27) = W0 at hB hK ⊢
  have hBq := hB
  obtain ⟨bd0, bd1, bd2, bd3, bd4, _, _, _, _, _⟩ := hBq
  go_upto_region 2 with (go_at_call 9; refine (hA _ hK).mono ?_; rintro e w' ⟨rfl, hk⟩; have hK' := hK.trans hk; have hB' := hB.kept hk; clear hK hB bd0 bd1 bd2 bd3 bd4; have hK := hK'; have hB := hB'; have hBq := hB; obtain ⟨bd0, bd1, bd2, bd3, bd4, _, _, _, _, _⟩ := hBq; clear hK' hk hB')
  go_upto_region 3 with (go_at_call 8; refine (hF _).mono ?_; rintro e w' ⟨rfl, hk⟩; have hK' := hK.trans hk; have hB' := hB.kept hk; clear hK hB bd0 bd1 bd2 bd3 bd4; have hK := hK'; have hB := hB'; have hBq := hB; obtain ⟨bd0, bd1, bd2, bd3, bd4, _, _, _, _, _⟩ := hBq; clear hK' hk hB')
  go_upto_region 5 with (go_at_call 13; refine (hR _ hK).mono ?_; rintro e w1 ⟨rfl, hk1⟩)
  have hC := Box.make w1 op d s t imm
  have hB2 := (hB.kept hk1).kept (Kept.alloc w1 (.cells #[.int .u8 op, .int .i64 d, .int .i64 s, .int .i64 t, .int .i64 imm] 27))
  have hK2 := (hK.trans hk1).trans (Kept.alloc w1 (.cells #[.int .u8 op, .int .i64 d, .int .i64 s, .int .i64 t, .int .i64 imm] 27))
  clear hB hK bd0 bd1 bd2 bd3 bd4 hk1
  generalize w1.alloc (.cells #[.int .u8 op, .int .i64 d, .int .i64 s, .int .i64 t, .int .i64 imm] 27) = W1 at hC hB2 hK2 ⊢
  have hK := hK2
  clear hK2
  obtain ⟨bd0, bd1, bd2, bd3, bd4, _, _, _, _, _⟩ := hB2
  obtain ⟨be0, be1, be2, be3, be4, _, _, _, _, _⟩ := hC
  go_upto_region 7 with (go_at_call 12; refine (hS _).mono ?_; rintro e w' ⟨rfl, rfl⟩)
  clear bd0 bd1 bd2 bd3 bd4 be0 be1 be2 be3 be4 hR hS hF hA
  go_upto_region 8 with (go_at_call 13; refine (gR _ hK).mono ?_; rintro e w2 ⟨rfl, hk2⟩)
  have hC := Box.make w2 op1 d1 s1 t1 imm1
  have hK2 := (hK.trans hk2).trans (Kept.alloc w2 (.cells #[.int .u8 op1, .int .i64 d1, .int .i64 s1, .int .i64 t1, .int .i64 imm1] 27))
  clear hK hk2 gR
  generalize w2.alloc (.cells #[.int .u8 op1, .int .i64 d1, .int .i64 s1, .int .i64 t1, .int .i64 imm1] 27) = W2 at hC hK2 ⊢
  have hK := hK2
  clear hK2
  have hCq := hC
  obtain ⟨be0, be1, be2, be3, be4, _, _, _, _, _⟩ := hCq
  go_upto_region 11 with (go_at_call 8; refine (gF _).mono ?_; rintro e w3 ⟨rfl, hk⟩; have hK' := hK.trans hk; have hC' := hC.kept hk; clear hK hC be0 be1 be2 be3 be4; have hK := hK'; have hC := hC'; have hCq := hC; obtain ⟨be0, be1, be2, be3, be4, _, _, _, _, _⟩ := hCq; clear hK' hk hC')
  clear gF

  go_cut [14] (fun v wx => v = .bool (bothB op1 d1 s1 imm1) ∧ wx = w3)
  case first =>
    clear gS gC hz hb hC hK

    by_cases c_op1 : op1 = 22
    · subst c_op1
      by_cases c_d1 : d1 = 2
      · subst c_d1
        by_cases c_s1 : s1 = 2
        · subst c_s1
          by_cases c_a : imm1 = -32
          · subst c_a
            as_aux_lemma =>
              go_wp2
              go_meet
              exact ⟨by simp [bothB, *], rfl⟩
          have n_a : (imm1 == -32) = false := by simpa using c_a
          by_cases c_b : imm1 = -16
          · subst c_b
            as_aux_lemma =>
              go_wp2
              go_meet
              exact ⟨by simp [bothB, *], rfl⟩
          have n_b : (imm1 == -16) = false := by simpa using c_b
          by_cases c_c : imm1 = 16
          · subst c_c
            as_aux_lemma =>
              go_wp2
              go_meet
              exact ⟨by simp [bothB, *], rfl⟩
          have n_c : (imm1 == 16) = false := by simpa using c_c
          as_aux_lemma =>
            go_wp2
            go_meet
            exact ⟨by simp [bothB, *], rfl⟩
        · have n_s1 : (s1 == 2) = false := by simpa using c_s1
          as_aux_lemma =>
            go_wp2
            go_meet
            exact ⟨by simp [bothB, *], rfl⟩
      · have n_d1 : (d1 == 2) = false := by simpa using c_d1
        as_aux_lemma =>
          go_wp2
          go_meet
          exact ⟨by simp [bothB, *], rfl⟩
    · have n_op1 : (op1 == 22) = false := by simpa using c_op1
      as_aux_lemma =>
        go_wp2
        go_meet
        exact ⟨by simp [bothB, *], rfl⟩
  case rest =>
    obtain ⟨rfl, hw⟩ := hcut
    subst hw
    have hzy : (z == y) = false := by simpa using hz
    rw [hb]
    go_wp2_with (first
      | (go_at_call 16; refine (gC _).mono ?_; rintro e w' ⟨rfl, hk⟩; have hK' := hK.trans hk; clear hK hk; have hK := hK'; clear hK')
      | (go_at_call 12; refine (gS _).mono ?_; rintro e w' ⟨rfl, rfl⟩))
    go_ret
    exact ⟨rfl, hK⟩

theorem cdecBack_all (op d s t imm : Int) (h0 : 0 ≤ op) (h1 : op ≤ 255) (H : Nat) (hH : H ≤ 65535) (w : World) (hT : Tab w) : Calls Tryd.prog 5 #[insnV op d s t imm, .int .u16 (H : Int)] w fun e w' => e = .returned (.bool true) ∧ Kept w w' := by
  have hA := fun w' (k : Kept w w') => alive_walk w' (hT.kept k)
  have hF := fun w => halfC_walk op d s t imm h0 h1 w
  obtain ⟨X, e, h6⟩ := hfV_nat op d s t imm
  have gR := fun w' (k : Kept w w') => insn_walk6 H hH w' (hT.kept k)
  have gS := fun w => csize_walk H hH w
  by_cases h : hIx H < 33
  · obtain ⟨m1, m2, m3, m4⟩ := back_half h
    have gC := fun w => check_walk (hOp H) (hRd H) (hRs1 H) (hRs2 H) (hImm H) (hOp_rng H).2 w
    rw [show chkV (hOp H) (hRd H) (hRs1 H) (hRs2 H) (hImm H) = 0 from if_pos m1] at gC
    have gF := fun w => halfC_walk (hOp H) (hRd H) (hRs1 H) (hRs2 H) (hImm H) (hOp_rng H).1 (hOp_rng H).2 w
    rw [show hfE (hOp H) (hRd H) (hRs1 H) (hRs2 H) (hImm H) = 0 from hfE_zero.2 ⟨m1, m2⟩] at gF
    rw [show hErr H = 0 from if_pos h] at gR
    rw [if_neg m3] at gS
    by_cases hz : hfV (hOp H) (hRd H) (hRs1 H) (hRs2 H) (hImm H) = H
    · by_cases he : hfE op d s t imm = 0
      · obtain ⟨hm, hc⟩ := hfE_zero.1 he
        rw [he, e] at hF
        exact backL_by _ _ _ _ _ _ _ _ _ _ _ _ _ w hA hF (fun w' k => insn_back hm hc e h6 w' (hT.kept k)) (fun w => size_back hm hc e h6 w) gR gF gS gC hz
      · exact backL_ay _ _ _ _ _ _ _ _ _ _ _ _ _ _ w hA hF he gR gF gS gC hz
    · have hb : bothB (hOp H) (hRd H) (hRs1 H) (hImm H) = true := by
        obtain ⟨q1, q2, q3, q4⟩ := m4.resolve_left hz
        unfold bothB
        rw [q1, q2, q3]
        rcases q4 with q | q | q <;> rw [q] <;> decide
      by_cases he : hfE op d s t imm = 0
      · obtain ⟨hm, hc⟩ := hfE_zero.1 he
        rw [he, e] at hF
        exact backL_bz _ _ _ _ _ _ _ _ _ _ _ _ _ w hA hF (fun w' k => insn_back hm hc e h6 w' (hT.kept k)) (fun w => size_back hm hc e h6 w) gR gF gS gC hz hb
      · exact backL_az _ _ _ _ _ _ _ _ _ _ _ _ _ _ w hA hF he gR gF gS gC hz hb
  · have e5 : insnV (hOp H) (hRd H) (hRs1 H) (hRs2 H) (hImm H) = insnV 0 0 0 0 0 := by simp only [hOp, hRd, hRs1, hRs2, hImm, if_neg h]
    rw [e5, show hErr H = 60 from if_neg h] at gR
    by_cases he : hfE op d s t imm = 0
    · obtain ⟨hm, hc⟩ := hfE_zero.1 he
      rw [he, e] at hF
      exact backL_bn _ _ _ _ _ _ _ w hA hF (fun w' k => insn_back hm hc e h6 w' (hT.kept k)) (fun w => size_back hm hc e h6 w) gR
    · exact backL_an _ _ _ _ _ _ _ _ w hA hF he gR
end Go.Proofs.YtbmcanpjpibecaaDoor
