/- cdec's Insn and Size. -/
import Derived.Test.YtbmcanpjpibecaaDoorDq
import Derived.Test.YtbmcanpjpibecaaDoorPw
import Derived.Deep.DeepCutAuto
namespace Go.Proofs.YtbmcanpjpibecaaDoor
open Go.RowKit

theorem stack_walk (H : Nat) (hH : H ≤ 65535) (w : World) : Calls Tryd.prog 21 #[.int .u16 (H : Int)] w fun e w' => e = .returned (.bool (decide (H &&& 61315 = 24833))) ∧ w' = w := by
  have hX : bits .and .u16 (H : Int) 61315 = ((H &&& 61315 : Nat) : Int) := u16_and_nat H 61315 (by omega) (by decide)
  by_cases h : H &&& 61315 = 24833
  · rw [h] at hX
    rw [decide_eq_true h]
    go_enter Tryd.func21, Tryd.ntmps21
    go_wp2
    go_ret
    exact ⟨rfl, rfl⟩
  · rw [decide_eq_false h]
    have hn : (((H &&& 61315 : Nat) : Int) == 24833) = false := beq_eq_false_iff_ne.2 fun e => h (by omega)
    generalize ((H &&& 61315 : Nat) : Int) = x at hX hn
    go_enter Tryd.func21, Tryd.ntmps21
    go_wp2
    go_ret
    exact ⟨rfl, rfl⟩
set_option maxRecDepth 20000 in
set_option maxHeartbeats 3200000 in
theorem insn_ok1 (H op d s t imm hv he : Int) (sb : Bool) (hH : 0 ≤ H ∧ H ≤ 65535) (w : World)
    (hR : ∀ w', Kept w w' → Calls Tryd.prog 20 #[.int .u32 H] w' fun e w'' => e = .returned (insnV op d s t imm) ∧ Kept w' w'')
    (hF : ∀ w, Calls Tryd.prog 8 #[insnV op d s t imm] w fun e w' => e = .returned (.tuple #[.int .u16 hv, .int .i64 he]) ∧ Kept w w')
    (hS : ∀ w, Calls Tryd.prog 21 #[.int .u16 H] w fun e w' => e = .returned (.bool sb) ∧ w' = w)
    (h0 : he = 0) (hc : hv = H) :
    Calls Tryd.prog 13 #[.int .u16 H] w fun e w' => e = .returned (.tuple #[insnV op d s t imm, .int .i64 0]) ∧ Kept w w' := by
  have hK0 := Kept.alloc w (.cells #[.int .u8 0, .int .i64 0, .int .i64 0, .int .i64 0, .int .i64 0] 27)
  have hB := Box.make w 0 0 0 0 0
  subst h0 hc
  go_enter Tryd.func13, Tryd.ntmps13
  go_upto_region 1 with fail
  generalize (w.alloc (.cells #[.int .u8 0, .int .i64 0, .int .i64 0, .int .i64 0, .int .i64 0] 27)) = W0 at hK0 hB ⊢
  go_upto_region 2 with (go_at_call 20; refine (hR _ hK0).mono ?_; rintro e w1 ⟨rfl, hk1⟩)
  have hI0 := Box.make w1 op d s t imm
  have hB1 := (hB.kept hk1).kept (Kept.alloc w1 (.cells #[.int .u8 op, .int .i64 d, .int .i64 s, .int .i64 t, .int .i64 imm] 27))
  have hK1 := (hK0.trans hk1).trans (Kept.alloc w1 (.cells #[.int .u8 op, .int .i64 d, .int .i64 s, .int .i64 t, .int .i64 imm] 27))
  generalize w1.alloc (.cells #[.int .u8 op, .int .i64 d, .int .i64 s, .int .i64 t, .int .i64 imm] 27) = W2 at hI0 hB1 hK1 ⊢
  clear hB hK0 hk1 hR
  have hJ := hI0
  obtain ⟨e0, e1, e2, e3, e4, _, _, _, _, _⟩ := hJ
  go_upto_region 3 with (go_at_call 8; refine (hF _).mono ?_; rintro e w2 ⟨rfl, hk2⟩)
  have hB2 := hB1.kept hk2
  have hI2 := hI0.kept hk2
  have hK2 := hK1.trans hk2
  clear e0 e1 e2 e3 e4 hB1 hI0 hK1 hk2 hF
  have hB3 := hB2
  have hI3 := hI2
  obtain ⟨d0, d1, d2, d3, d4, f0, f1, f2, f3, f4⟩ := hB3
  obtain ⟨e0, e1, e2, e3, e4, _, _, _, _, _⟩ := hI3
  have hQ := hB2.put op d s t imm
  have hK := below_put hK2 (b := w.heap.size) (Nat.le_refl _) op d s t imm
  go_wp2_with (go_at_call 21; refine (hS _).mono ?_; rintro e w' ⟨rfl, rfl⟩)
  refine bodyPost_ret (v := .tuple #[insnV op d s t imm, .int .i64 0]) (by simp [results, Tryd.results13, go_sem, hQ.c0, hQ.c1, hQ.c2, hQ.c3, hQ.c4]) rfl ⟨rfl, hK⟩
set_option maxRecDepth 20000 in
set_option maxHeartbeats 3200000 in
theorem insn_ok2 (H op d s t imm hv he : Int) (sb : Bool) (hH : 0 ≤ H ∧ H ≤ 65535) (w : World)
    (hR : ∀ w', Kept w w' → Calls Tryd.prog 20 #[.int .u32 H] w' fun e w'' => e = .returned (insnV op d s t imm) ∧ Kept w' w'')
    (hF : ∀ w, Calls Tryd.prog 8 #[insnV op d s t imm] w fun e w' => e = .returned (.tuple #[.int .u16 hv, .int .i64 he]) ∧ Kept w w')
    (hS : ∀ w, Calls Tryd.prog 21 #[.int .u16 H] w fun e w' => e = .returned (.bool sb) ∧ w' = w)
    (h0 : he = 0) (hc : ¬ hv = H) (hs : sb = true) :
    Calls Tryd.prog 13 #[.int .u16 H] w fun e w' => e = .returned (.tuple #[insnV op d s t imm, .int .i64 0]) ∧ Kept w w' := by
  have hK0 := Kept.alloc w (.cells #[.int .u8 0, .int .i64 0, .int .i64 0, .int .i64 0, .int .i64 0] 27)
  have hB := Box.make w 0 0 0 0 0
  subst h0 hs
  have hn : (hv != H) = true := by simpa using hc
  go_enter Tryd.func13, Tryd.ntmps13
  go_upto_region 1 with fail
  generalize (w.alloc (.cells #[.int .u8 0, .int .i64 0, .int .i64 0, .int .i64 0, .int .i64 0] 27)) = W0 at hK0 hB ⊢
  go_upto_region 2 with (go_at_call 20; refine (hR _ hK0).mono ?_; rintro e w1 ⟨rfl, hk1⟩)
  have hI0 := Box.make w1 op d s t imm
  have hB1 := (hB.kept hk1).kept (Kept.alloc w1 (.cells #[.int .u8 op, .int .i64 d, .int .i64 s, .int .i64 t, .int .i64 imm] 27))
  have hK1 := (hK0.trans hk1).trans (Kept.alloc w1 (.cells #[.int .u8 op, .int .i64 d, .int .i64 s, .int .i64 t, .int .i64 imm] 27))
  generalize w1.alloc (.cells #[.int .u8 op, .int .i64 d, .int .i64 s, .int .i64 t, .int .i64 imm] 27) = W2 at hI0 hB1 hK1 ⊢
  clear hB hK0 hk1 hR
  have hJ := hI0
  obtain ⟨e0, e1, e2, e3, e4, _, _, _, _, _⟩ := hJ
  go_upto_region 3 with (go_at_call 8; refine (hF _).mono ?_; rintro e w2 ⟨rfl, hk2⟩)
  have hB2 := hB1.kept hk2
  have hI2 := hI0.kept hk2
  have hK2 := hK1.trans hk2
  clear e0 e1 e2 e3 e4 hB1 hI0 hK1 hk2 hF
  have hB3 := hB2
  have hI3 := hI2
  obtain ⟨d0, d1, d2, d3, d4, f0, f1, f2, f3, f4⟩ := hB3
  obtain ⟨e0, e1, e2, e3, e4, _, _, _, _, _⟩ := hI3
  have hQ := hB2.put op d s t imm
  have hK := below_put hK2 (b := w.heap.size) (Nat.le_refl _) op d s t imm
  go_wp2_with (go_at_call 21; refine (hS _).mono ?_; rintro e w' ⟨rfl, rfl⟩)
  refine bodyPost_ret (v := .tuple #[insnV op d s t imm, .int .i64 0]) (by simp [results, Tryd.results13, go_sem, hQ.c0, hQ.c1, hQ.c2, hQ.c3, hQ.c4]) rfl ⟨rfl, hK⟩
set_option maxRecDepth 20000 in
set_option maxHeartbeats 3200000 in
theorem insn_no1 (H op d s t imm hv he : Int) (sb : Bool) (hH : 0 ≤ H ∧ H ≤ 65535) (w : World)
    (hR : ∀ w', Kept w w' → Calls Tryd.prog 20 #[.int .u32 H] w' fun e w'' => e = .returned (insnV op d s t imm) ∧ Kept w' w'')
    (hF : ∀ w, Calls Tryd.prog 8 #[insnV op d s t imm] w fun e w' => e = .returned (.tuple #[.int .u16 hv, .int .i64 he]) ∧ Kept w w')
    (_hS : ∀ w, Calls Tryd.prog 21 #[.int .u16 H] w fun e w' => e = .returned (.bool sb) ∧ w' = w)
    (h0 : ¬ he = 0) :
    Calls Tryd.prog 13 #[.int .u16 H] w fun e w' => e = .returned (.tuple #[insnV 0 0 0 0 0, .int .i64 60]) ∧ Kept w w' := by
  have hK0 := Kept.alloc w (.cells #[.int .u8 0, .int .i64 0, .int .i64 0, .int .i64 0, .int .i64 0] 27)
  have hB := Box.make w 0 0 0 0 0
  have hn : (he != 0) = true := by simpa using h0
  go_enter Tryd.func13, Tryd.ntmps13
  go_upto_region 1 with fail
  generalize (w.alloc (.cells #[.int .u8 0, .int .i64 0, .int .i64 0, .int .i64 0, .int .i64 0] 27)) = W0 at hK0 hB ⊢
  go_upto_region 2 with (go_at_call 20; refine (hR _ hK0).mono ?_; rintro e w1 ⟨rfl, hk1⟩)
  have hI0 := Box.make w1 op d s t imm
  have hB1 := (hB.kept hk1).kept (Kept.alloc w1 (.cells #[.int .u8 op, .int .i64 d, .int .i64 s, .int .i64 t, .int .i64 imm] 27))
  have hK1 := (hK0.trans hk1).trans (Kept.alloc w1 (.cells #[.int .u8 op, .int .i64 d, .int .i64 s, .int .i64 t, .int .i64 imm] 27))
  generalize w1.alloc (.cells #[.int .u8 op, .int .i64 d, .int .i64 s, .int .i64 t, .int .i64 imm] 27) = W2 at hI0 hB1 hK1 ⊢
  clear hB hK0 hk1 hR
  have hJ := hI0
  obtain ⟨e0, e1, e2, e3, e4, _, _, _, _, _⟩ := hJ
  go_upto_region 3 with (go_at_call 8; refine (hF _).mono ?_; rintro e w2 ⟨rfl, hk2⟩)
  have hB2 := hB1.kept hk2
  have hI2 := hI0.kept hk2
  have hK2 := hK1.trans hk2
  clear e0 e1 e2 e3 e4 hB1 hI0 hK1 hk2 hF
  have hB3 := hB2
  have hI3 := hI2
  obtain ⟨d0, d1, d2, d3, d4, f0, f1, f2, f3, f4⟩ := hB3
  obtain ⟨e0, e1, e2, e3, e4, _, _, _, _, _⟩ := hI3
  have hQ := hB2.put 0 0 0 0 0
  have hK := below_put hK2 (b := w.heap.size) (Nat.le_refl _) 0 0 0 0 0
  go_wp2_with (go_at_call 21; refine (hS _).mono ?_; rintro e w' ⟨rfl, rfl⟩)
  refine bodyPost_ret (v := .tuple #[insnV 0 0 0 0 0, .int .i64 60]) (by simp [results, Tryd.results13, go_sem, hQ.c0, hQ.c1, hQ.c2, hQ.c3, hQ.c4]) rfl ⟨rfl, hK⟩
set_option maxRecDepth 20000 in
set_option maxHeartbeats 3200000 in
theorem insn_no2 (H op d s t imm hv he : Int) (sb : Bool) (hH : 0 ≤ H ∧ H ≤ 65535) (w : World)
    (hR : ∀ w', Kept w w' → Calls Tryd.prog 20 #[.int .u32 H] w' fun e w'' => e = .returned (insnV op d s t imm) ∧ Kept w' w'')
    (hF : ∀ w, Calls Tryd.prog 8 #[insnV op d s t imm] w fun e w' => e = .returned (.tuple #[.int .u16 hv, .int .i64 he]) ∧ Kept w w')
    (hS : ∀ w, Calls Tryd.prog 21 #[.int .u16 H] w fun e w' => e = .returned (.bool sb) ∧ w' = w)
    (h0 : he = 0) (hc : ¬ hv = H) (hs : sb = false) :
    Calls Tryd.prog 13 #[.int .u16 H] w fun e w' => e = .returned (.tuple #[insnV 0 0 0 0 0, .int .i64 60]) ∧ Kept w w' := by
  have hK0 := Kept.alloc w (.cells #[.int .u8 0, .int .i64 0, .int .i64 0, .int .i64 0, .int .i64 0] 27)
  have hB := Box.make w 0 0 0 0 0
  subst h0 hs
  have hn : (hv != H) = true := by simpa using hc
  go_enter Tryd.func13, Tryd.ntmps13
  go_upto_region 1 with fail
  generalize (w.alloc (.cells #[.int .u8 0, .int .i64 0, .int .i64 0, .int .i64 0, .int .i64 0] 27)) = W0 at hK0 hB ⊢
  go_upto_region 2 with (go_at_call 20; refine (hR _ hK0).mono ?_; rintro e w1 ⟨rfl, hk1⟩)
  have hI0 := Box.make w1 op d s t imm
  have hB1 := (hB.kept hk1).kept (Kept.alloc w1 (.cells #[.int .u8 op, .int .i64 d, .int .i64 s, .int .i64 t, .int .i64 imm] 27))
  have hK1 := (hK0.trans hk1).trans (Kept.alloc w1 (.cells #[.int .u8 op, .int .i64 d, .int .i64 s, .int .i64 t, .int .i64 imm] 27))
  generalize w1.alloc (.cells #[.int .u8 op, .int .i64 d, .int .i64 s, .int .i64 t, .int .i64 imm] 27) = W2 at hI0 hB1 hK1 ⊢
  clear hB hK0 hk1 hR
  have hJ := hI0
  obtain ⟨e0, e1, e2, e3, e4, _, _, _, _, _⟩ := hJ
  go_upto_region 3 with (go_at_call 8; refine (hF _).mono ?_; rintro e w2 ⟨rfl, hk2⟩)
  have hB2 := hB1.kept hk2
  have hI2 := hI0.kept hk2
  have hK2 := hK1.trans hk2
  clear e0 e1 e2 e3 e4 hB1 hI0 hK1 hk2 hF
  have hB3 := hB2
  have hI3 := hI2
  obtain ⟨d0, d1, d2, d3, d4, f0, f1, f2, f3, f4⟩ := hB3
  obtain ⟨e0, e1, e2, e3, e4, _, _, _, _, _⟩ := hI3
  have hQ := hB2.put 0 0 0 0 0
  have hK := below_put hK2 (b := w.heap.size) (Nat.le_refl _) 0 0 0 0 0
  go_wp2_with (go_at_call 21; refine (hS _).mono ?_; rintro e w' ⟨rfl, rfl⟩)
  refine bodyPost_ret (v := .tuple #[insnV 0 0 0 0 0, .int .i64 60]) (by simp [results, Tryd.results13, go_sem, hQ.c0, hQ.c1, hQ.c2, hQ.c3, hQ.c4]) rfl ⟨rfl, hK⟩
/-- THE INSTRUCTION OF A HALF WORD, as cdec tells it. -/
theorem insn_walk6 (H : Nat) (hH : H ≤ 65535) (w : World) (hT : Tab w) :
    Calls Tryd.prog 13 #[.int .u16 (H : Int)] w fun e w' => e = .returned (.tuple #[insnV (hOp H) (hRd H) (hRs1 H) (hRs2 H) (hImm H), .int .i64 (hErr H)]) ∧ Kept w w' := by
  have hR : ∀ w', Kept w w' → _ := fun w' k => read_walk H hH w' (hT.kept k)
  have hF := fun w => halfC_walk (rI H).1 (rI H).2.1 (rI H).2.2.1 (rI H).2.2.2.1 (rI H).2.2.2.2 (rI_op H).1 (rI_op H).2 w
  have hS := fun w => stack_walk H hH w
  by_cases h : hIx H < 33
  · obtain ⟨a1, a2⟩ := insn_yes hH h
    have e := rI_yes hH h
    have he : hErr H = 0 := if_pos h
    rw [he]
    have e5 : insnV (hOp H) (hRd H) (hRs1 H) (hRs2 H) (hImm H) = i5V (rI H) := by rw [e]
    rw [e5]
    by_cases hc : hfV (rI H).1 (rI H).2.1 (rI H).2.2.1 (rI H).2.2.2.1 (rI H).2.2.2.2 = H
    · exact insn_ok1 H _ _ _ _ _ _ _ _ ⟨by omega, by omega⟩ w hR hF hS a1 hc
    · exact insn_ok2 H _ _ _ _ _ _ _ _ ⟨by omega, by omega⟩ w hR hF hS a1 hc (decide_eq_true (a2.resolve_left hc))
  · have he : hErr H = 60 := if_neg h
    have e5 : insnV (hOp H) (hRd H) (hRs1 H) (hRs2 H) (hImm H) = insnV 0 0 0 0 0 := by simp only [hOp, hRd, hRs1, hRs2, hImm, if_neg h]
    rw [he, e5]
    by_cases h0 : hfE (rI H).1 (rI H).2.1 (rI H).2.2.1 (rI H).2.2.2.1 (rI H).2.2.2.2 = 0
    · obtain ⟨a1, a2⟩ := insn_no hH h h0
      exact insn_no2 H _ _ _ _ _ _ _ _ ⟨by omega, by omega⟩ w hR hF hS h0 a1 (decide_eq_false a2)
    · exact insn_no1 H _ _ _ _ _ _ _ _ ⟨by omega, by omega⟩ w hR hF hS h0
end Go.Proofs.YtbmcanpjpibecaaDoor
