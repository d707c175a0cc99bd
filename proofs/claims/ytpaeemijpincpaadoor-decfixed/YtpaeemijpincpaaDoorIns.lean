/- What dec.Insn gives. -/
import Derived.Test.YtpaeemijpincpaaDoorTak
import Derived.WalkMore
namespace Go.Proofs.YtpaeemijpincpaaDoor
open Go.RowKit

theorem base_k {k : Nat} (hk : k < 94) (w : World) (hT : Tab w) :
    Calls Tryd.prog 15 #[.int .u8 ((k : Int) + 1)] w fun e w' => e = .returned (.tuple #[.int .u32 (baseC k), .int .i64 0]) ∧ w' = w := by
  have h := base_walk ((k : Int) + 1) (by omega) (by omega) w hT
  have e1 : baseV ((k : Int) + 1) = (baseC k : Int) := by unfold baseV; rw [if_pos (isOp_succ hk), toNat_succ]
  have e2 : opErr ((k : Int) + 1) = 0 := by unfold opErr; rw [if_pos (isOp_succ hk)]
  rwa [e1, e2] at h
theorem form_k {k : Nat} (hk : k < 94) (w : World) :
    Calls Tryd.prog 14 #[.int .u8 ((k : Int) + 1)] w fun e w' => e = .returned (.tuple #[.int .u8 (formC k), .int .i64 0]) ∧ w' = w := by
  have h := form_walk ((k : Int) + 1) (by omega) w
  have e2 : opErr ((k : Int) + 1) = 0 := by unfold opErr; rw [if_pos (isOp_succ hk)]
  rwa [formV_succ hk, e2] at h

theorem hit_eq {x k : Nat} (hx : x < 4294967296) (hk : k < 94) (h : hitB x k = true) : (bits .and .u32 (x : Int) (fixM (formC k) : Int) == (baseC k : Int)) = true := by
  rw [u32_and_nat _ _ hx (fix_lt _ (formC_letter k hk)), hit_fix hk h]; exact beq_self_eq_true _
theorem miss_eq {x k : Nat} (hx : x < 4294967296) (hk : k < 94) (h : hitB x k = false) : (bits .and .u32 (x : Int) (fixM (formC k) : Int) == (baseC k : Int)) = false := by
  rw [u32_and_nat _ _ hx (fix_lt _ (formC_letter k hk)), beq_eq_false_iff_ne]
  intro e
  have := hit_of hk (Int.ofNat.inj e)
  rw [this] at h
  cases h
theorem hit_code {x k : Nat} (hx : x < 4294967296) (hk : k < 94) (h : hitB x k = true) : (bits .and .u32 (x : Int) 127 != bits .and .u32 (baseC k : Int) 127) = false := by
  have hf := hit_fix hk h
  have h1 : x &&& 127 = baseC k &&& 127 := by rw [← hf, Nat.and_assoc, fix_code _ (formC_letter k hk)]
  have e1 := u32_and_nat x 127 hx (by decide)
  have e2 := u32_and_nat (baseC k) 127 (baseC_lt k hk) (by decide)
  have e3 : bits .and .u32 (x : Int) 127 = bits .and .u32 (baseC k : Int) 127 := (e1.trans (congrArg _ h1)).trans e2.symm
  rw [e3]
  exact bne_self_eq_false _

theorem Box.far {w : World} {b b' i : Nat} {u : Value} {op rd rs1 rs2 imm : Int} (h : Box w b op rd rs1 rs2 imm) (hb : b' ≠ b) : Box (w.setCell ⟨b', i, none⟩ u) b op rd rs1 rs2 imm :=
  ⟨set_far h.c0 hb, set_far h.c1 hb, set_far h.c2 hb, set_far h.c3 hb, set_far h.c4 hb, set_frozen h.f0, set_frozen h.f1, set_frozen h.f2, set_frozen h.f3, set_frozen h.f4⟩
theorem below_set {B : Nat} {a w : World} (h : Below B a w) {b i : Nat} {u : Value} (hp : B ≤ b) : Below B a (w.setCell ⟨b, i, none⟩ u) := h.setCell hp u
/-- The five cells of an instruction, put one after another. -/
abbrev put5 (w : World) (b : Nat) (op rd rs1 rs2 imm : Int) : World :=
  ((((w.setCell ⟨b, 0, none⟩ (.int .u8 op)).setCell ⟨b, 1, none⟩ (.int .i64 rd)).setCell ⟨b, 2, none⟩ (.int .i64 rs1)).setCell ⟨b, 3, none⟩ (.int .i64 rs2)).setCell ⟨b, 4, none⟩ (.int .i64 imm)
theorem Box.put {w : World} {b : Nat} {op rd rs1 rs2 imm : Int} (h : Box w b op rd rs1 rs2 imm) (op' rd' rs1' rs2' imm' : Int) : Box (put5 w b op' rd' rs1' rs2' imm') b op' rd' rs1' rs2' imm' :=
  ((((h.set0 _).set1 _).set2 _).set3 _).set4 _
theorem Box.put_far {w : World} {b b' : Nat} {op rd rs1 rs2 imm : Int} (h : Box w b op rd rs1 rs2 imm) (hb : b' ≠ b) (op' rd' rs1' rs2' imm' : Int) : Box (put5 w b' op' rd' rs1' rs2' imm') b op rd rs1 rs2 imm :=
  ((((h.far hb).far hb).far hb).far hb).far hb
theorem below_put {B : Nat} {a w : World} (h : Below B a w) {b : Nat} (hp : B ≤ b) (op rd rs1 rs2 imm : Int) : Below B a (put5 w b op rd rs1 rs2 imm) :=
  below_set (below_set (below_set (below_set (below_set h hp) hp) hp) hp) hp

/-- What lies in the two boxes while no instruction is found. -/
structure Empty2 (W w : World) : Prop where
  below : Kept W w
  a : Box w W.heap.size 0 0 0 0 0
  b : Box w (W.heap.size + 1) 0 0 0 0 0

theorem Empty2.kept {W w w' : World} (h : Empty2 W w) (k : Kept w w') : Empty2 W w' := ⟨h.below.trans k, h.a.kept k, h.b.kept k⟩

set_option maxRecDepth 20000 in
set_option maxHeartbeats 1600000 in
theorem dec_at (x : Nat) (hx : x < 4294967296) (w : World) (hT : Tab w) :
    Calls Tryd.prog 7 #[.int .u32 x] w fun e w' => e = .returned (.tuple #[insnV (dOp x) (dRd x) (dRs1 x) (dRs2 x) (dImm x), .int .i64 (dErr x)]) ∧ Kept w w' := by
  have E0 : ∀ o1 o2, o1 = Obj.cells #[.int .u8 0, .int .i64 0, .int .i64 0, .int .i64 0, .int .i64 0] 23 → o2 = o1 → Empty2 w ((w.alloc o1).alloc o2) := by
    intro o1 o2 h1 h2
    subst h2 h1
    refine ⟨(Kept.alloc _ _).trans ((Kept.alloc _ _).mono (by simp)), ?_, ?_⟩
    · refine Box.kept ?_ (Kept.alloc _ _)
      constructor <;> simp
    · constructor <;> simp
  go_enter Tryd.func7, Tryd.ntmps7
  go_wp2
  go_step3
  go_wp2
  go_step3
  go_wp2_with (go_at_call 16; refine (many_walk _).mono ?_; rintro e w' ⟨rfl, rfl⟩)
  go_loopw [12] (fun i wr => ∃ k : Nat, k ≤ 94 ∧ i = .int .i64 (k : Int) ∧ k ≤ dK x ∧ Empty2 w wr) (fun i _ => 94 - (intOf i).toNat)
  case atStart =>
    exact ⟨0, by omega, rfl, by omega, E0 _ _ rfl rfl⟩
  case round =>
    obtain ⟨k, hk, rfl, hkd, hE⟩ := hrel
    have hTr := hT.kept hE.below
    rcases Nat.lt_or_ge k (dK x) with hlt | hge
    · have hd := dK_le x
      have hk94 : k < 94 := by omega
      have hm : hitB x k = false := by
        cases hh : hitB x k
        · rfl
        · have := dK_of hk94 hh; omega
      have hcl := formC_letter k hk94
      have hne := miss_eq hx hk94 hm
      cases hcode : (bits .and .u32 (x : Int) 127 != bits .and .u32 (baseC k : Int) 127)
      · go_wp2_with (first
          | (go_at_call 15; refine (base_k hk94 _ hTr).mono ?_; rintro e w' ⟨rfl, rfl⟩)
          | (go_at_call 14; refine (form_k hk94 _).mono ?_; rintro e w' ⟨rfl, rfl⟩)
          | (go_at_call 17; refine (fixedD_walk _ hcl _).mono ?_; rintro e w2 ⟨rfl, hk2⟩))
        exact ⟨⟨k + 1, by omega, by simp, by omega, hE.kept hk2⟩, by simp [intOf]; omega⟩
      · go_wp2_with (first
          | (go_at_call 15; refine (base_k hk94 _ hTr).mono ?_; rintro e w' ⟨rfl, rfl⟩)
          | (go_at_call 14; refine (form_k hk94 _).mono ?_; rintro e w' ⟨rfl, rfl⟩)
          | (go_at_call 17; refine (fixedD_walk _ hcl _).mono ?_; rintro e w2 ⟨rfl, hk2⟩))
        exact ⟨⟨k + 1, by omega, by simp, by omega, hE⟩, by simp [intOf]; omega⟩
    · have hkk : dK x = k := by omega
      rcases Nat.lt_or_ge k 94 with hk94 | hk94
      · have hcl := formC_letter k hk94
        have hh : hitB x k = true := by rw [← hkk]; exact dK_hit (by omega)
        have heq := hit_eq hx hk94 hh
        have hcode := hit_code hx hk94 hh
        clear hh
        have v0 : dOp x = (k : Int) + 1 := by simp only [dOp, hkk, hk94, if_true]
        have v1 : dRd x = rdR (formC k) x := by simp only [dRd, hkk, hk94, if_true]
        have v2 : dRs1 x = rs1R (formC k) x := by simp only [dRs1, hkk, hk94, if_true]
        have v3 : dRs2 x = rs2R (formC k) x := by simp only [dRs2, hkk, hk94, if_true]
        have v4 : dImm x = numR (formC k) x := by simp only [dImm, hkk, hk94, if_true]
        have v5 : dErr x = 0 := by simp only [dErr, hkk, hk94, if_true]
        clear hkk hkd hge
        have hreg : bits .and .u32 (x : Int) (regM (formC k) : Int) = ((x &&& regM (formC k) : Nat) : Int) := u32_and_nat _ _ hx (reg_lt _ hcl)
        go_wp2_with (first
          | (go_at_call 15; refine (base_k hk94 _ hTr).mono ?_; rintro e w' ⟨rfl, rfl⟩)
          | (go_at_call 14; refine (form_k hk94 _).mono ?_; rintro e w' ⟨rfl, rfl⟩)
          | (go_at_call 17; refine (fixedD_walk _ hcl _).mono ?_; rintro e w2 ⟨rfl, hk2⟩)
          | (go_at_call 18; refine (numberD_walk _ hcl x hx _).mono ?_; rintro e w3 ⟨rfl, hk3⟩; have hE3 := (hE.kept hk2).kept hk3; obtain ⟨c0, c1, c2, c3, c4, f0, f1, f2, f3, f4⟩ := hE3.b)
          | (go_at_call 20; refine (registersD_walk _ hcl _).mono ?_; rintro e w' ⟨rfl, rfl⟩)
          | (go_at_call 19; refine (takeRegs_walk (w.heap.size + 1) ((k : Int) + 1) (numR (formC k) x) _ hcl x hx _ (hE3.b.put _ _ _ _ _)).mono ?_; rintro e w4 ⟨rfl, hk4, hB4⟩; have hA4 := (hE3.a.put_far (b' := w.heap.size + 1) (by omega) _ _ _ _ _).below hk4 (by omega); have hW4 := Below.trans (below_put hE3.below (b := w.heap.size + 1) (by omega) _ _ _ _ _) (hk4.mono (by omega)); clear c0 c1 c2 c3 c4 f0 f1 f2 f3 f4 hk4 hE hE3 hTr hk2 hk3 hT; obtain ⟨c0, c1, c2, c3, c4, f0, f1, f2, f3, f4⟩ := hB4; have hA5 := hA4; obtain ⟨d0, d1, d2, d3, d4, g0, g1, g2, g3, g4⟩ := hA5))
        have hR := hA4.put ((k : Int) + 1) (rdR (formC k) x) (rs1R (formC k) x) (rs2R (formC k) x) (numR (formC k) x)
        have hW5 := below_put hW4 (Nat.le_refl _) ((k : Int) + 1) (rdR (formC k) x) (rs1R (formC k) x) (rs2R (formC k) x) (numR (formC k) x)
        rw [Exit.noGoto_ret]
        refine bodyPost_ret (v := .tuple #[insnV ((k : Int) + 1) (rdR (formC k) x) (rs1R (formC k) x) (rs2R (formC k) x) (numR (formC k) x), .int .i64 0]) (by simp [results, Tryd.results7, go_sem, hR.c0, hR.c1, hR.c2, hR.c3, hR.c4]) rfl ⟨by rw [v0, v1, v2, v3, v4, v5], hW5⟩
      · have hk94' : k = 94 := by omega
        subst hk94'
        have v0 : dOp x = 0 := by simp only [dOp, hkk]; rfl
        have v1 : dRd x = 0 := by simp only [dRd, hkk]; rfl
        have v2 : dRs1 x = 0 := by simp only [dRs1, hkk]; rfl
        have v3 : dRs2 x = 0 := by simp only [dRs2, hkk]; rfl
        have v4 : dImm x = 0 := by simp only [dImm, hkk]; rfl
        have v5 : dErr x = 40 := by simp only [dErr, hkk]; rfl
        clear hkk hkd hge
        obtain ⟨c0, c1, c2, c3, c4, f0, f1, f2, f3, f4⟩ := hE.b
        obtain ⟨d0, d1, d2, d3, d4, g0, g1, g2, g3, g4⟩ := hE.a
        go_wp2
        have hR := hE.a.put 0 0 0 0 0
        have hW5 := below_put hE.below (Nat.le_refl _) 0 0 0 0 0
        rw [Exit.noGoto_ret]
        refine bodyPost_ret (v := .tuple #[insnV 0 0 0 0 0, .int .i64 40]) (by simp [results, Tryd.results7, go_sem, hR.c0, hR.c1, hR.c2, hR.c3, hR.c4]) rfl ⟨by rw [v0, v1, v2, v3, v4, v5], hW5⟩

theorem dec_walk (x : Int) (h0 : 0 ≤ x) (h1 : x < 4294967296) (w : World) (hT : Tab w) :
    Calls Tryd.prog 7 #[.int .u32 x] w fun e w' => e = .returned (.tuple #[insnV (dOp x.toNat) (dRd x.toNat) (dRs1 x.toNat) (dRs2 x.toNat) (dImm x.toNat), .int .i64 (dErr x.toNat)]) ∧ Kept w w' := by
  have h := dec_at x.toNat (by omega) w hT
  rwa [Int.toNat_of_nonneg h0] at h
end Go.Proofs.YtpaeemijpincpaaDoor
