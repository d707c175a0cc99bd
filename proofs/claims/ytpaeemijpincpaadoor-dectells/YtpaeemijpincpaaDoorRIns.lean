/- What the document's own Insn gives. -/
import Derived.Test.YtpaeemijpincpaaDoorRRd
namespace Go.Proofs.YtpaeemijpincpaaDoor
open Go.RowKit

theorem rbits_k {k : Nat} (hk : k < 94) (w : World) :
    Calls Tryd.prog 22 #[.int .u8 ((k : Int) + 1)] w fun e w' => e = .returned (.int .u32 (baseC k)) ∧ Kept w w' := by
  have h := rbits_walk ((k : Int) + 1) (by omega) (by omega) (isOp_succ hk) w
  rwa [toNat_succ] at h
theorem hit_rem {x k : Nat} (hk : k < 94) (h : hitB x k = true) : ((baseC k : Int) % 128 != (x : Int) % 128) = false := by
  have hf := hit_fix hk h
  have h1 : x &&& 127 = baseC k &&& 127 := by rw [← hf, Nat.and_assoc, fix_code _ (formC_letter k hk)]
  have e1 : x &&& 127 = x % 128 := Nat.and_two_pow_sub_one_eq_mod x 7
  have e2 : baseC k &&& 127 = baseC k % 128 := Nat.and_two_pow_sub_one_eq_mod (baseC k) 7
  have e3 : (baseC k : Int) % 128 = (x : Int) % 128 := by omega
  rw [e3]
  exact bne_self_eq_false _

set_option maxRecDepth 20000 in
set_option maxHeartbeats 1600000 in
theorem rdec_at (x : Nat) (hx : x < 4294967296) (w : World) :
    Calls Tryd.prog 10 #[.int .u32 x] w fun e w' => e = .returned (.tuple #[insnV (dOp x) (dRd x) (dRs1 x) (dRs2 x) (dImm x), .int .i64 (dErr x)]) ∧ Kept w w' := by
  go_enter Tryd.func10, Tryd.ntmps10
  go_wp2
  go_loopw [5] (fun i wr => ∃ k : Nat, k ≤ 94 ∧ i = .int .u8 ((k : Int) + 1) ∧ k ≤ dK x ∧ Kept w wr ∧ Box wr w.heap.size 0 0 0 0 0) (fun i _ => 95 - (intOf i).toNat)
  case atStart =>
    refine ⟨0, by omega, rfl, by omega, Kept.alloc _ _, ?_⟩
    constructor <;> simp
  case round =>
    obtain ⟨k, hk, rfl, hkd, hK, hA⟩ := hrel
    rcases Nat.lt_or_ge k (dK x) with hlt | hge
    · have hd := dK_le x
      have hk94 : k < 94 := by omega
      have hm : hitB x k = false := by
        cases hh : hitB x k
        · rfl
        · have := dK_of hk94 hh; omega
      have hr := fun w => read_walk k hk94 x hx w
      rw [hm] at hr
      clear hd
      cases hcode : ((baseC k : Int) % 128 != (x : Int) % 128)
      · go_wp2_with (first
          | (go_at_call 22; refine (rbits_k hk94 _).mono ?_; rintro e w2 ⟨rfl, hk2⟩)
          | (go_at_call 23; refine (hr _).mono ?_; rintro e w3 ⟨rfl, hk3⟩))
        exact ⟨⟨k + 1, by omega, by simp, by omega, ((hK.trans hk2).trans hk3).trans (Kept.alloc _ _), ((hA.kept hk2).kept hk3).kept (Kept.alloc _ _)⟩, by simp [intOf]; omega⟩
      · go_wp2_with (first
          | (go_at_call 22; refine (rbits_k hk94 _).mono ?_; rintro e w2 ⟨rfl, hk2⟩))
        exact ⟨⟨k + 1, by omega, by simp, by omega, hK.trans hk2, hA.kept hk2⟩, by simp [intOf]; omega⟩
    · have hkk : dK x = k := by omega
      rcases Nat.lt_or_ge k 94 with hk94 | hk94
      · have hh : hitB x k = true := by rw [← hkk]; exact dK_hit (by omega)
        have hcode := hit_rem hk94 hh
        have hr := fun w => read_walk k hk94 x hx w
        rw [hh] at hr
        clear hh
        have v0 : dOp x = (k : Int) + 1 := by simp only [dOp, hkk, hk94, if_true]
        have v1 : dRd x = rdR (formC k) x := by simp only [dRd, hkk, hk94, if_true]
        have v2 : dRs1 x = rs1R (formC k) x := by simp only [dRs1, hkk, hk94, if_true]
        have v3 : dRs2 x = rs2R (formC k) x := by simp only [dRs2, hkk, hk94, if_true]
        have v4 : dImm x = numR (formC k) x := by simp only [dImm, hkk, hk94, if_true]
        have v5 : dErr x = 0 := by simp only [dErr, hkk, hk94, if_true]
        clear hkk hkd hge
        go_wp2_with (first
          | (go_at_call 22; refine (rbits_k hk94 _).mono ?_; rintro e w2 ⟨rfl, hk2⟩)
          | (go_at_call 23; refine (hr _).mono ?_; rintro e w3 ⟨rfl, hk3⟩; have hA3 := (hA.kept hk2).kept hk3; have hW3 := (hK.trans hk2).trans hk3; have hlt3 : w.heap.size < w3.heap.size := hA3.lt; have hne3 : w.heap.size ≠ w3.heap.size := Nat.ne_of_lt hlt3; have hAy := hA3; obtain ⟨d0, d1, d2, d3, d4, g0, g1, g2, g3, g4⟩ := hAy))
        have hR := (hA3.put ((k : Int) + 1) (rdR (formC k) x) (rs1R (formC k) x) (rs2R (formC k) x) (numR (formC k) x)).kept (Kept.alloc _ (.cells #[.int .u8 ((k : Int) + 1), .int .i64 (rdR (formC k) x), .int .i64 (rs1R (formC k) x), .int .i64 (rs2R (formC k) x), .int .i64 (numR (formC k) x)] 23))
        have hW5 := Kept.trans (below_put hW3 (Nat.le_refl _) ((k : Int) + 1) (rdR (formC k) x) (rs1R (formC k) x) (rs2R (formC k) x) (numR (formC k) x)) (Kept.alloc _ (.cells #[.int .u8 ((k : Int) + 1), .int .i64 (rdR (formC k) x), .int .i64 (rs1R (formC k) x), .int .i64 (rs2R (formC k) x), .int .i64 (numR (formC k) x)] 23))
        clear d0 d1 d2 d3 d4 g0 g1 g2 g3 g4
        refine bodyPost_ret (v := .tuple #[insnV ((k : Int) + 1) (rdR (formC k) x) (rs1R (formC k) x) (rs2R (formC k) x) (numR (formC k) x), .int .i64 0]) (by simp [results, Tryd.results10, go_sem, hR.c0, hR.c1, hR.c2, hR.c3, hR.c4]) rfl ⟨by rw [v0, v1, v2, v3, v4, v5], hW5⟩
      · have hk94' : k = 94 := by omega
        subst hk94'
        have v0 : dOp x = 0 := by simp only [dOp, hkk]; rfl
        have v1 : dRd x = 0 := by simp only [dRd, hkk]; rfl
        have v2 : dRs1 x = 0 := by simp only [dRs1, hkk]; rfl
        have v3 : dRs2 x = 0 := by simp only [dRs2, hkk]; rfl
        have v4 : dImm x = 0 := by simp only [dImm, hkk]; rfl
        have v5 : dErr x = 40 := by simp only [dErr, hkk]; rfl
        clear hkk hkd hge
        have hAx := hA
        obtain ⟨d0, d1, d2, d3, d4, g0, g1, g2, g3, g4⟩ := hAx
        go_wp2
        have hR := hA.put 0 0 0 0 0
        have hW := below_put hK (Nat.le_refl _) 0 0 0 0 0
        refine bodyPost_ret (v := .tuple #[insnV 0 0 0 0 0, .int .i64 40]) (by simp [results, Tryd.results10, go_sem, hR.c0, hR.c1, hR.c2, hR.c3, hR.c4]) rfl ⟨by rw [v0, v1, v2, v3, v4, v5], hW⟩

theorem rdec_walk (x : Int) (h0 : 0 ≤ x) (h1 : x < 4294967296) (w : World) :
    Calls Tryd.prog 10 #[.int .u32 x] w fun e w' => e = .returned (.tuple #[insnV (dOp x.toNat) (dRd x.toNat) (dRs1 x.toNat) (dRs2 x.toNat) (dImm x.toNat), .int .i64 (dErr x.toNat)]) ∧ Kept w w' := by
  have h := rdec_at x.toNat (by omega) w
  rwa [Int.toNat_of_nonneg h0] at h
end Go.Proofs.YtpaeemijpincpaaDoor
