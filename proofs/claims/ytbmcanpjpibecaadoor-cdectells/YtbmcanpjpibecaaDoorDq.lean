/- Plain facts: what cdec reads of a half word that is an instruction's is that instruction. Plain facts: cdec's answer is the document's. -/
import Derived.Test.YtbmcanpjpibecaaDoorRm
import Derived.Test.YtbmcanpjpibecaaDoorDn
namespace Go.Proofs.YtbmcanpjpibecaaDoor
open Go.RowKit

theorem gL_run (H a : Nat) (l : List Int) (hl : ∀ j, j < l.length → (lP l j).toNat = j + a) : gL H l = H / 2 ^ a % 2 ^ l.length := by
  refine Nat.eq_of_testBit_eq fun j => ?_
  rw [Nat.testBit_mod_two_pow, Nat.testBit_div_two_pow, Bool.eq_iff_iff]
  unfold gL
  rw [gathTo_bit]
  constructor
  · rintro ⟨h1, h2⟩
    rw [hl j h1] at h2
    simp [h1, h2]
  · intro h
    simp only [Bool.and_eq_true, decide_eq_true_eq] at h
    exact ⟨h.1, by rw [hl j h.1]; exact h.2⟩
theorem g5l (H : Nat) : gL H [2, 3, 4, 5, 6] = H / 4 % 32 := gL_run H 2 [2, 3, 4, 5, 6] (by decide)
theorem g5h (H : Nat) : gL H [7, 8, 9, 10, 11] = H / 128 % 32 := gL_run H 7 [7, 8, 9, 10, 11] (by decide)
theorem g3l (H : Nat) : gL H [2, 3, 4] = H / 4 % 8 := gL_run H 2 [2, 3, 4] (by decide)
theorem g3h (H : Nat) : gL H [7, 8, 9] = H / 128 % 8 := gL_run H 7 [7, 8, 9] (by decide)
theorem and_sub {H F B : Nat} (h : H &&& F = B) {m : Nat} (hm : F &&& m = m) : H &&& m = B &&& m := by
  rw [← h, Nat.and_assoc, hm]
theorem gL_and (H : Nat) (l : List Int) : gL (H &&& seenTo (lP l) l.length) l = gL H l := gath_and H (lP l) l.length
theorem gL_fix {H F B : Nat} (h : H &&& F = B) (l : List Int) (hs : F &&& seenTo (lP l) l.length = seenTo (lP l) l.length) : gL H l = gL B l := by
  rw [← gL_and H, and_sub h hs, gL_and]
theorem raw_gL (k H : Nat) : oRaw k H = gL H (cPl k) := rfl
theorem imm_0 {k H : Nat} (hp : cPl k = []) : oImm k H = 0 := by
  unfold oImm
  rw [raw_gL, hp]
  have e : gL H [] = 0 := rfl
  have l0 : cLen k = 0 := by show (cPl k).length = 0; rw [hp]; rfl
  rw [e, l0]
  have : oUp (cKind k) (oSg (cKind k) (2 ^ 0) ((0 : Nat) : Int)) = 0 := by
    unfold oUp oSg
    split <;> split <;> simp_all
  rw [this]
  simp
theorem imm_p {k H : Nat} {l : List Int} {b : Int} (hp : cPl k = l) (hb : cBy k = b) (hk : ¬ (cKind k = 115 ∨ cKind k = 110 ∨ cKind k = 108)) : oImm k H = b * gL H l := by
  unfold oImm oUp oSg
  rw [raw_gL, hp, hb, if_neg hk, if_neg (fun h => hk (.inr (.inr h.1)))]
  exact Int.mul_comm _ _
theorem sg_s {kd : UInt8} (H : Nat) (l : List Int) (hk : kd = 115 ∨ kd = 110 ∨ kd = 108) : oSg kd (2 ^ l.length) (gL H l) = gS H l := if_pos hk
theorem imm_s {k H : Nat} {l : List Int} {b : Int} (hp : cPl k = l) (hb : cBy k = b) (hk : cKind k = 115 ∨ cKind k = 110) : oImm k H = b * gS H l := by
  have h8 : ¬ cKind k = 108 := by rcases hk with h | h <;> rw [h] <;> decide
  have l0 : cLen k = l.length := by show (cPl k).length = _; rw [hp]
  unfold oImm
  rw [raw_gL, hp, hb, l0, sg_s H l (by rcases hk with h | h; exact .inl h; exact .inr (.inl h))]
  unfold oUp
  rw [if_neg (fun h => h8 h.1)]
  exact Int.mul_comm _ _
theorem imm_u {k H : Nat} {l : List Int} (hp : cPl k = l) (hb : cBy k = 1) (hk : cKind k = 108) : oImm k H = upN (gS H l) := by
  have l0 : cLen k = l.length := by show (cPl k).length = _; rw [hp]
  unfold oImm
  rw [raw_gL, hp, hb, l0, sg_s H l (.inr (.inr hk)), hk, Int.mul_one]
  unfold upN oUp
  simp
theorem i5_ext {a b c d e a' b' c' d' e' : Int} (h1 : a = a') (h2 : b = b') (h3 : c = c') (h4 : d = d') (h5 : e = e') : ((a, b, c, d, e) : I5) = (a', b', c', d', e') := by
  subst h1 h2 h3 h4 h5; rfl
theorem rI_0 (H : Nat) (_hH : H ≤ 65535) (h : okB 0 H = true) : rI H = (((cOp 0 : Nat) : Int), oD (cForm 0) H, oS (cForm 0) H, oT (cForm 0) H, oImm 0 H) := by
  simp only [okB, Bool.and_eq_true, beq_iff_eq] at h
  obtain ⟨h1, h2, h3, h4⟩ := h
  have hx : H &&& 57347 = 0 := and_sub h1 (by decide)
  have hf : cForm 0 = 97 := by decide
  have ho : ((cOp 0 : Nat) : Int) = 22 := by decide
  have hi := imm_p (l := [6, 5, 11, 12, 7, 8, 9, 10]) (b := 4) (k := 0) (H := H) (by decide) (by decide) (by decide)
  rw [ho, hf, hi]
  rw [hf] at h2
  unfold rI
  rw [hx, if_pos rfl]
  refine i5_ext ?_ ?_ ?_ ?_ ?_
  · first | rfl | decide
  · simp [oD, g3l] <;> omega
  · simp [oS] <;> omega
  · simp [oT] <;> omega
  · simp <;> rfl
theorem rI_1 (H : Nat) (_hH : H ≤ 65535) (h : okB 1 H = true) : rI H = (((cOp 1 : Nat) : Int), oD (cForm 1) H, oS (cForm 1) H, oT (cForm 1) H, oImm 1 H) := by
  simp only [okB, Bool.and_eq_true, beq_iff_eq] at h
  obtain ⟨h1, h2, h3, h4⟩ := h
  have hx : H &&& 57347 = 16384 := and_sub h1 (by decide)
  have hf : cForm 1 = 108 := by decide
  have ho : ((cOp 1 : Nat) : Int) = 13 := by decide
  have hi := imm_p (l := [6, 10, 11, 12, 5]) (b := 4) (k := 1) (H := H) (by decide) (by decide) (by decide)
  rw [ho, hf, hi]
  rw [hf] at h2
  unfold rI
  rw [hx, if_neg (by decide), if_pos rfl]
  refine i5_ext ?_ ?_ ?_ ?_ ?_
  · first | rfl | decide
  · simp [oD, g3l] <;> omega
  · simp [oS, g3h] <;> omega
  · simp [oT] <;> omega
  · simp <;> rfl
theorem rI_2 (H : Nat) (_hH : H ≤ 65535) (h : okB 2 H = true) : rI H = (((cOp 2 : Nat) : Int), oD (cForm 2) H, oS (cForm 2) H, oT (cForm 2) H, oImm 2 H) := by
  simp only [okB, Bool.and_eq_true, beq_iff_eq] at h
  obtain ⟨h1, h2, h3, h4⟩ := h
  have hx : H &&& 57347 = 24576 := and_sub h1 (by decide)
  have hf : cForm 2 = 108 := by decide
  have ho : ((cOp 2 : Nat) : Int) = 14 := by decide
  have hi := imm_p (l := [10, 11, 12, 5, 6]) (b := 8) (k := 2) (H := H) (by decide) (by decide) (by decide)
  rw [ho, hf, hi]
  rw [hf] at h2
  unfold rI
  rw [hx, if_neg (by decide), if_neg (by decide), if_pos rfl]
  refine i5_ext ?_ ?_ ?_ ?_ ?_
  · first | rfl | decide
  · simp [oD, g3l] <;> omega
  · simp [oS, g3h] <;> omega
  · simp [oT] <;> omega
  · simp <;> rfl
theorem rI_3 (H : Nat) (_hH : H ≤ 65535) (h : okB 3 H = true) : rI H = (((cOp 3 : Nat) : Int), oD (cForm 3) H, oS (cForm 3) H, oT (cForm 3) H, oImm 3 H) := by
  simp only [okB, Bool.and_eq_true, beq_iff_eq] at h
  obtain ⟨h1, h2, h3, h4⟩ := h
  have hx : H &&& 57347 = 49152 := and_sub h1 (by decide)
  have hf : cForm 3 = 115 := by decide
  have ho : ((cOp 3 : Nat) : Int) = 20 := by decide
  have hi := imm_p (l := [6, 10, 11, 12, 5]) (b := 4) (k := 3) (H := H) (by decide) (by decide) (by decide)
  rw [ho, hf, hi]
  rw [hf] at h2
  unfold rI
  rw [hx, if_neg (by decide), if_neg (by decide), if_neg (by decide), if_pos rfl]
  refine i5_ext ?_ ?_ ?_ ?_ ?_
  · first | rfl | decide
  · simp [oD] <;> omega
  · simp [oS, g3h] <;> omega
  · simp [oT, g3l] <;> omega
  · simp <;> rfl
theorem rI_4 (H : Nat) (_hH : H ≤ 65535) (h : okB 4 H = true) : rI H = (((cOp 4 : Nat) : Int), oD (cForm 4) H, oS (cForm 4) H, oT (cForm 4) H, oImm 4 H) := by
  simp only [okB, Bool.and_eq_true, beq_iff_eq] at h
  obtain ⟨h1, h2, h3, h4⟩ := h
  have hx : H &&& 57347 = 57344 := and_sub h1 (by decide)
  have hf : cForm 4 = 115 := by decide
  have ho : ((cOp 4 : Nat) : Int) = 21 := by decide
  have hi := imm_p (l := [10, 11, 12, 5, 6]) (b := 8) (k := 4) (H := H) (by decide) (by decide) (by decide)
  rw [ho, hf, hi]
  rw [hf] at h2
  unfold rI
  rw [hx, if_neg (by decide), if_neg (by decide), if_neg (by decide), if_neg (by decide), if_pos rfl]
  refine i5_ext ?_ ?_ ?_ ?_ ?_
  · first | rfl | decide
  · simp [oD] <;> omega
  · simp [oS, g3h] <;> omega
  · simp [oT, g3l] <;> omega
  · simp <;> rfl
theorem rI_5 (H : Nat) (hH : H ≤ 65535) (h : okB 5 H = true) : rI H = (((cOp 5 : Nat) : Int), oD (cForm 5) H, oS (cForm 5) H, oT (cForm 5) H, oImm 5 H) := by
  simp only [okB, Bool.and_eq_true, beq_iff_eq] at h
  obtain ⟨h1, h2, h3, h4⟩ := h
  have hx : H &&& 57347 = 1 := and_sub h1 (by decide)
  have hf : cForm 5 = 110 := by decide
  have ho : ((cOp 5 : Nat) : Int) = 22 := by decide
  have hi := imm_0 (k := 5) (H := H) (by decide)
  have hall : H = 1 := by
    have e1 := and_sub h1 (m := 65535) (by decide)
    have e2 : H &&& 65535 = H := by
      have := Nat.and_two_pow_sub_one_eq_mod H 16
      rw [show 2 ^ 16 - 1 = 65535 by decide] at this
      rw [this]; omega
    rw [e2] at e1
    rw [e1]; decide
  subst hall
  decide +kernel
theorem rI_6 (H : Nat) (_hH : H ≤ 65535) (h : okB 6 H = true) : rI H = (((cOp 6 : Nat) : Int), oD (cForm 6) H, oS (cForm 6) H, oT (cForm 6) H, oImm 6 H) := by
  simp only [okB, Bool.and_eq_true, beq_iff_eq] at h
  obtain ⟨h1, h2, h3, h4⟩ := h
  have hx : H &&& 57347 = 1 := and_sub h1 (by decide)
  have hf : cForm 6 = 114 := by decide
  have ho : ((cOp 6 : Nat) : Int) = 22 := by decide
  have hi := imm_s (l := [2, 3, 4, 5, 6, 12]) (b := 1) (k := 6) (H := H) (by decide) (by decide) (by decide)
  rw [ho, hf, hi]
  rw [hf] at h2
  unfold rI
  rw [hx, if_neg (by decide), if_neg (by decide), if_neg (by decide), if_neg (by decide), if_neg (by decide), if_pos rfl]
  refine i5_ext ?_ ?_ ?_ ?_ ?_
  · first | rfl | decide
  · simp [oD, g5h] <;> omega
  · simp [oS, g5h] <;> omega
  · simp [oT] <;> omega
  · simp <;> rfl
theorem rI_7 (H : Nat) (_hH : H ≤ 65535) (h : okB 7 H = true) : rI H = (((cOp 7 : Nat) : Int), oD (cForm 7) H, oS (cForm 7) H, oT (cForm 7) H, oImm 7 H) := by
  simp only [okB, Bool.and_eq_true, beq_iff_eq] at h
  obtain ⟨h1, h2, h3, h4⟩ := h
  have hx : H &&& 57347 = 8193 := and_sub h1 (by decide)
  have hf : cForm 7 = 114 := by decide
  have ho : ((cOp 7 : Nat) : Int) = 41 := by decide
  have hi := imm_s (l := [2, 3, 4, 5, 6, 12]) (b := 1) (k := 7) (H := H) (by decide) (by decide) (by decide)
  rw [ho, hf, hi]
  rw [hf] at h2
  unfold rI
  rw [hx, if_neg (by decide), if_neg (by decide), if_neg (by decide), if_neg (by decide), if_neg (by decide), if_neg (by decide), if_pos rfl]
  refine i5_ext ?_ ?_ ?_ ?_ ?_
  · first | rfl | decide
  · simp [oD, g5h] <;> omega
  · simp [oS, g5h] <;> omega
  · simp [oT] <;> omega
  · simp <;> rfl
theorem rI_8 (H : Nat) (_hH : H ≤ 65535) (h : okB 8 H = true) : rI H = (((cOp 8 : Nat) : Int), oD (cForm 8) H, oS (cForm 8) H, oT (cForm 8) H, oImm 8 H) := by
  simp only [okB, Bool.and_eq_true, beq_iff_eq] at h
  obtain ⟨h1, h2, h3, h4⟩ := h
  have hx : H &&& 57347 = 16385 := and_sub h1 (by decide)
  have hf : cForm 8 = 122 := by decide
  have ho : ((cOp 8 : Nat) : Int) = 22 := by decide
  have hi := imm_s (l := [2, 3, 4, 5, 6, 12]) (b := 1) (k := 8) (H := H) (by decide) (by decide) (by decide)
  rw [ho, hf, hi]
  rw [hf] at h2
  unfold rI
  rw [hx, if_neg (by decide), if_neg (by decide), if_neg (by decide), if_neg (by decide), if_neg (by decide), if_neg (by decide), if_neg (by decide), if_pos rfl]
  refine i5_ext ?_ ?_ ?_ ?_ ?_
  · first | rfl | decide
  · simp [oD, g5h] <;> omega
  · simp [oS] <;> omega
  · simp [oT] <;> omega
  · simp <;> rfl
theorem rI_9 (H : Nat) (_hH : H ≤ 65535) (h : okB 9 H = true) : rI H = (((cOp 9 : Nat) : Int), oD (cForm 9) H, oS (cForm 9) H, oT (cForm 9) H, oImm 9 H) := by
  simp only [okB, Bool.and_eq_true, beq_iff_eq] at h
  obtain ⟨h1, h2, h3, h4⟩ := h
  have hx : H &&& 57347 = 24577 := and_sub h1 (by decide)
  have hf : cForm 9 = 112 := by decide
  have ho : ((cOp 9 : Nat) : Int) = 22 := by decide
  have hi := imm_s (l := [6, 2, 5, 3, 4, 12]) (b := 16) (k := 9) (H := H) (by decide) (by decide) (by decide)
  rw [ho, hf, hi]
  rw [hf] at h2
  unfold rI
  rw [hx, if_neg (by decide), if_neg (by decide), if_neg (by decide), if_neg (by decide), if_neg (by decide), if_neg (by decide), if_neg (by decide), if_neg (by decide), if_pos rfl]
  unfold rUp
  have e2 : (gL H [7, 8, 9, 10, 11] : Int) = 2 := by
    have := gL_fix h1 [7, 8, 9, 10, 11] (by decide)
    rw [this]; decide
  rw [if_pos e2]
  refine i5_ext ?_ ?_ ?_ ?_ ?_
  · first | rfl | decide
  · simp [oD] <;> omega
  · simp [oS] <;> omega
  · simp [oT] <;> omega
  · simp <;> rfl
theorem rI_10 (H : Nat) (_hH : H ≤ 65535) (h : okB 10 H = true) : rI H = (((cOp 10 : Nat) : Int), oD (cForm 10) H, oS (cForm 10) H, oT (cForm 10) H, oImm 10 H) := by
  simp only [okB, Bool.and_eq_true, beq_iff_eq] at h
  obtain ⟨h1, h2, h3, h4⟩ := h
  have hx : H &&& 57347 = 24577 := and_sub h1 (by decide)
  have hf : cForm 10 = 117 := by decide
  have ho : ((cOp 10 : Nat) : Int) = 1 := by decide
  have hi := imm_u (l := [2, 3, 4, 5, 6, 12]) (k := 10) (H := H) (by decide) (by decide) (by decide)
  rw [ho, hf, hi]
  rw [hf] at h2
  unfold rI
  rw [hx, if_neg (by decide), if_neg (by decide), if_neg (by decide), if_neg (by decide), if_neg (by decide), if_neg (by decide), if_neg (by decide), if_neg (by decide), if_pos rfl]
  unfold rUp
  have e2 : ¬ (gL H [7, 8, 9, 10, 11] : Int) = 2 := by
    rw [g5h]
    simp [rightB, oD, oS, oT] at h2
    omega
  rw [if_neg e2]
  refine i5_ext ?_ ?_ ?_ ?_ ?_
  · first | rfl | decide
  · simp [oD, g5h] <;> omega
  · simp [oS] <;> omega
  · simp [oT] <;> omega
  · simp <;> rfl
theorem rI_11 (H : Nat) (_hH : H ≤ 65535) (h : okB 11 H = true) : rI H = (((cOp 11 : Nat) : Int), oD (cForm 11) H, oS (cForm 11) H, oT (cForm 11) H, oImm 11 H) := by
  simp only [okB, Bool.and_eq_true, beq_iff_eq] at h
  obtain ⟨h1, h2, h3, h4⟩ := h
  have hx : H &&& 57347 = 32769 := and_sub h1 (by decide)
  have hf : cForm 11 = 113 := by decide
  have ho : ((cOp 11 : Nat) : Int) = 29 := by decide
  have hi := imm_p (l := [2, 3, 4, 5, 6, 12]) (b := 1) (k := 11) (H := H) (by decide) (by decide) (by decide)
  rw [ho, hf, hi]
  rw [hf] at h2
  unfold rI
  rw [hx, if_neg (by decide), if_neg (by decide), if_neg (by decide), if_neg (by decide), if_neg (by decide), if_neg (by decide), if_neg (by decide), if_neg (by decide), if_neg (by decide), if_pos rfl]
  unfold rSa
  have e2 : (gL H [10, 11] : Int) = 0 := by
    rw [gL_fix h1 [10, 11] (by decide)]; decide
  rw [e2, if_pos rfl]
  refine i5_ext ?_ ?_ ?_ ?_ ?_
  · first | rfl | decide
  · simp [oD, g3h] <;> omega
  · simp [oS, g3h] <;> omega
  · simp [oT] <;> omega
  · simp <;> rfl
theorem rI_12 (H : Nat) (_hH : H ≤ 65535) (h : okB 12 H = true) : rI H = (((cOp 12 : Nat) : Int), oD (cForm 12) H, oS (cForm 12) H, oT (cForm 12) H, oImm 12 H) := by
  simp only [okB, Bool.and_eq_true, beq_iff_eq] at h
  obtain ⟨h1, h2, h3, h4⟩ := h
  have hx : H &&& 57347 = 32769 := and_sub h1 (by decide)
  have hf : cForm 12 = 113 := by decide
  have ho : ((cOp 12 : Nat) : Int) = 30 := by decide
  have hi := imm_p (l := [2, 3, 4, 5, 6, 12]) (b := 1) (k := 12) (H := H) (by decide) (by decide) (by decide)
  rw [ho, hf, hi]
  rw [hf] at h2
  unfold rI
  rw [hx, if_neg (by decide), if_neg (by decide), if_neg (by decide), if_neg (by decide), if_neg (by decide), if_neg (by decide), if_neg (by decide), if_neg (by decide), if_neg (by decide), if_pos rfl]
  unfold rSa
  have e2 : (gL H [10, 11] : Int) = 1 := by
    rw [gL_fix h1 [10, 11] (by decide)]; decide
  rw [e2, if_neg (by decide), if_pos rfl]
  refine i5_ext ?_ ?_ ?_ ?_ ?_
  · first | rfl | decide
  · simp [oD, g3h] <;> omega
  · simp [oS, g3h] <;> omega
  · simp [oT] <;> omega
  · simp <;> rfl
theorem rI_13 (H : Nat) (_hH : H ≤ 65535) (h : okB 13 H = true) : rI H = (((cOp 13 : Nat) : Int), oD (cForm 13) H, oS (cForm 13) H, oT (cForm 13) H, oImm 13 H) := by
  simp only [okB, Bool.and_eq_true, beq_iff_eq] at h
  obtain ⟨h1, h2, h3, h4⟩ := h
  have hx : H &&& 57347 = 32769 := and_sub h1 (by decide)
  have hf : cForm 13 = 113 := by decide
  have ho : ((cOp 13 : Nat) : Int) = 27 := by decide
  have hi := imm_s (l := [2, 3, 4, 5, 6, 12]) (b := 1) (k := 13) (H := H) (by decide) (by decide) (by decide)
  rw [ho, hf, hi]
  rw [hf] at h2
  unfold rI
  rw [hx, if_neg (by decide), if_neg (by decide), if_neg (by decide), if_neg (by decide), if_neg (by decide), if_neg (by decide), if_neg (by decide), if_neg (by decide), if_neg (by decide), if_pos rfl]
  unfold rSa
  have e2 : (gL H [10, 11] : Int) = 2 := by
    rw [gL_fix h1 [10, 11] (by decide)]; decide
  rw [e2, if_neg (by decide), if_neg (by decide), if_pos rfl]
  refine i5_ext ?_ ?_ ?_ ?_ ?_
  · first | rfl | decide
  · simp [oD, g3h] <;> omega
  · simp [oS, g3h] <;> omega
  · simp [oT] <;> omega
  · simp <;> rfl
theorem rI_14 (H : Nat) (_hH : H ≤ 65535) (h : okB 14 H = true) : rI H = (((cOp 14 : Nat) : Int), oD (cForm 14) H, oS (cForm 14) H, oT (cForm 14) H, oImm 14 H) := by
  simp only [okB, Bool.and_eq_true, beq_iff_eq] at h
  obtain ⟨h1, h2, h3, h4⟩ := h
  have hx : H &&& 57347 = 32769 := and_sub h1 (by decide)
  have hf : cForm 14 = 109 := by decide
  have ho : ((cOp 14 : Nat) : Int) = 32 := by decide
  have hi := imm_0 (k := 14) (H := H) (by decide)
  rw [ho, hf, hi]
  rw [hf] at h2
  unfold rI
  rw [hx, if_neg (by decide), if_neg (by decide), if_neg (by decide), if_neg (by decide), if_neg (by decide), if_neg (by decide), if_neg (by decide), if_neg (by decide), if_neg (by decide), if_pos rfl]
  unfold rSa
  have e2 : (gL H [10, 11] : Int) = 3 := by
    rw [gL_fix h1 [10, 11] (by decide)]; decide
  rw [e2, if_neg (by decide), if_neg (by decide), if_neg (by decide)]
  have e3 := gL_fix h1 [5, 6, 12] (by decide)
  rw [e3]
  refine i5_ext ?_ ?_ ?_ ?_ ?_
  · first | rfl | decide
  · simp [oD, g3h] <;> omega
  · simp [oS, g3h] <;> omega
  · simp [oT, g3l] <;> omega
  · simp <;> rfl
theorem rI_15 (H : Nat) (_hH : H ≤ 65535) (h : okB 15 H = true) : rI H = (((cOp 15 : Nat) : Int), oD (cForm 15) H, oS (cForm 15) H, oT (cForm 15) H, oImm 15 H) := by
  simp only [okB, Bool.and_eq_true, beq_iff_eq] at h
  obtain ⟨h1, h2, h3, h4⟩ := h
  have hx : H &&& 57347 = 32769 := and_sub h1 (by decide)
  have hf : cForm 15 = 109 := by decide
  have ho : ((cOp 15 : Nat) : Int) = 36 := by decide
  have hi := imm_0 (k := 15) (H := H) (by decide)
  rw [ho, hf, hi]
  rw [hf] at h2
  unfold rI
  rw [hx, if_neg (by decide), if_neg (by decide), if_neg (by decide), if_neg (by decide), if_neg (by decide), if_neg (by decide), if_neg (by decide), if_neg (by decide), if_neg (by decide), if_pos rfl]
  unfold rSa
  have e2 : (gL H [10, 11] : Int) = 3 := by
    rw [gL_fix h1 [10, 11] (by decide)]; decide
  rw [e2, if_neg (by decide), if_neg (by decide), if_neg (by decide)]
  have e3 := gL_fix h1 [5, 6, 12] (by decide)
  rw [e3]
  refine i5_ext ?_ ?_ ?_ ?_ ?_
  · first | rfl | decide
  · simp [oD, g3h] <;> omega
  · simp [oS, g3h] <;> omega
  · simp [oT, g3l] <;> omega
  · simp <;> rfl
theorem rI_16 (H : Nat) (_hH : H ≤ 65535) (h : okB 16 H = true) : rI H = (((cOp 16 : Nat) : Int), oD (cForm 16) H, oS (cForm 16) H, oT (cForm 16) H, oImm 16 H) := by
  simp only [okB, Bool.and_eq_true, beq_iff_eq] at h
  obtain ⟨h1, h2, h3, h4⟩ := h
  have hx : H &&& 57347 = 32769 := and_sub h1 (by decide)
  have hf : cForm 16 = 109 := by decide
  have ho : ((cOp 16 : Nat) : Int) = 39 := by decide
  have hi := imm_0 (k := 16) (H := H) (by decide)
  rw [ho, hf, hi]
  rw [hf] at h2
  unfold rI
  rw [hx, if_neg (by decide), if_neg (by decide), if_neg (by decide), if_neg (by decide), if_neg (by decide), if_neg (by decide), if_neg (by decide), if_neg (by decide), if_neg (by decide), if_pos rfl]
  unfold rSa
  have e2 : (gL H [10, 11] : Int) = 3 := by
    rw [gL_fix h1 [10, 11] (by decide)]; decide
  rw [e2, if_neg (by decide), if_neg (by decide), if_neg (by decide)]
  have e3 := gL_fix h1 [5, 6, 12] (by decide)
  rw [e3]
  refine i5_ext ?_ ?_ ?_ ?_ ?_
  · first | rfl | decide
  · simp [oD, g3h] <;> omega
  · simp [oS, g3h] <;> omega
  · simp [oT, g3l] <;> omega
  · simp <;> rfl
theorem rI_17 (H : Nat) (_hH : H ≤ 65535) (h : okB 17 H = true) : rI H = (((cOp 17 : Nat) : Int), oD (cForm 17) H, oS (cForm 17) H, oT (cForm 17) H, oImm 17 H) := by
  simp only [okB, Bool.and_eq_true, beq_iff_eq] at h
  obtain ⟨h1, h2, h3, h4⟩ := h
  have hx : H &&& 57347 = 32769 := and_sub h1 (by decide)
  have hf : cForm 17 = 109 := by decide
  have ho : ((cOp 17 : Nat) : Int) = 40 := by decide
  have hi := imm_0 (k := 17) (H := H) (by decide)
  rw [ho, hf, hi]
  rw [hf] at h2
  unfold rI
  rw [hx, if_neg (by decide), if_neg (by decide), if_neg (by decide), if_neg (by decide), if_neg (by decide), if_neg (by decide), if_neg (by decide), if_neg (by decide), if_neg (by decide), if_pos rfl]
  unfold rSa
  have e2 : (gL H [10, 11] : Int) = 3 := by
    rw [gL_fix h1 [10, 11] (by decide)]; decide
  rw [e2, if_neg (by decide), if_neg (by decide), if_neg (by decide)]
  have e3 := gL_fix h1 [5, 6, 12] (by decide)
  rw [e3]
  refine i5_ext ?_ ?_ ?_ ?_ ?_
  · first | rfl | decide
  · simp [oD, g3h] <;> omega
  · simp [oS, g3h] <;> omega
  · simp [oT, g3l] <;> omega
  · simp <;> rfl
theorem rI_18 (H : Nat) (_hH : H ≤ 65535) (h : okB 18 H = true) : rI H = (((cOp 18 : Nat) : Int), oD (cForm 18) H, oS (cForm 18) H, oT (cForm 18) H, oImm 18 H) := by
  simp only [okB, Bool.and_eq_true, beq_iff_eq] at h
  obtain ⟨h1, h2, h3, h4⟩ := h
  have hx : H &&& 57347 = 32769 := and_sub h1 (by decide)
  have hf : cForm 18 = 109 := by decide
  have ho : ((cOp 18 : Nat) : Int) = 46 := by decide
  have hi := imm_0 (k := 18) (H := H) (by decide)
  rw [ho, hf, hi]
  rw [hf] at h2
  unfold rI
  rw [hx, if_neg (by decide), if_neg (by decide), if_neg (by decide), if_neg (by decide), if_neg (by decide), if_neg (by decide), if_neg (by decide), if_neg (by decide), if_neg (by decide), if_pos rfl]
  unfold rSa
  have e2 : (gL H [10, 11] : Int) = 3 := by
    rw [gL_fix h1 [10, 11] (by decide)]; decide
  rw [e2, if_neg (by decide), if_neg (by decide), if_neg (by decide)]
  have e3 := gL_fix h1 [5, 6, 12] (by decide)
  rw [e3]
  refine i5_ext ?_ ?_ ?_ ?_ ?_
  · first | rfl | decide
  · simp [oD, g3h] <;> omega
  · simp [oS, g3h] <;> omega
  · simp [oT, g3l] <;> omega
  · simp <;> rfl
theorem rI_19 (H : Nat) (_hH : H ≤ 65535) (h : okB 19 H = true) : rI H = (((cOp 19 : Nat) : Int), oD (cForm 19) H, oS (cForm 19) H, oT (cForm 19) H, oImm 19 H) := by
  simp only [okB, Bool.and_eq_true, beq_iff_eq] at h
  obtain ⟨h1, h2, h3, h4⟩ := h
  have hx : H &&& 57347 = 32769 := and_sub h1 (by decide)
  have hf : cForm 19 = 109 := by decide
  have ho : ((cOp 19 : Nat) : Int) = 45 := by decide
  have hi := imm_0 (k := 19) (H := H) (by decide)
  rw [ho, hf, hi]
  rw [hf] at h2
  unfold rI
  rw [hx, if_neg (by decide), if_neg (by decide), if_neg (by decide), if_neg (by decide), if_neg (by decide), if_neg (by decide), if_neg (by decide), if_neg (by decide), if_neg (by decide), if_pos rfl]
  unfold rSa
  have e2 : (gL H [10, 11] : Int) = 3 := by
    rw [gL_fix h1 [10, 11] (by decide)]; decide
  rw [e2, if_neg (by decide), if_neg (by decide), if_neg (by decide)]
  have e3 := gL_fix h1 [5, 6, 12] (by decide)
  rw [e3]
  refine i5_ext ?_ ?_ ?_ ?_ ?_
  · first | rfl | decide
  · simp [oD, g3h] <;> omega
  · simp [oS, g3h] <;> omega
  · simp [oT, g3l] <;> omega
  · simp <;> rfl
theorem rI_20 (H : Nat) (_hH : H ≤ 65535) (h : okB 20 H = true) : rI H = (((cOp 20 : Nat) : Int), oD (cForm 20) H, oS (cForm 20) H, oT (cForm 20) H, oImm 20 H) := by
  simp only [okB, Bool.and_eq_true, beq_iff_eq] at h
  obtain ⟨h1, h2, h3, h4⟩ := h
  have hx : H &&& 57347 = 40961 := and_sub h1 (by decide)
  have hf : cForm 20 = 106 := by decide
  have ho : ((cOp 20 : Nat) : Int) = 3 := by decide
  have hi := imm_s (l := [3, 4, 5, 11, 2, 7, 6, 9, 10, 8, 12]) (b := 2) (k := 20) (H := H) (by decide) (by decide) (by decide)
  rw [ho, hf, hi]
  rw [hf] at h2
  unfold rI
  rw [hx, if_neg (by decide), if_neg (by decide), if_neg (by decide), if_neg (by decide), if_neg (by decide), if_neg (by decide), if_neg (by decide), if_neg (by decide), if_neg (by decide), if_neg (by decide), if_pos rfl]
  refine i5_ext ?_ ?_ ?_ ?_ ?_
  · first | rfl | decide
  · simp [oD] <;> omega
  · simp [oS] <;> omega
  · simp [oT] <;> omega
  · simp <;> rfl
theorem rI_21 (H : Nat) (_hH : H ≤ 65535) (h : okB 21 H = true) : rI H = (((cOp 21 : Nat) : Int), oD (cForm 21) H, oS (cForm 21) H, oT (cForm 21) H, oImm 21 H) := by
  simp only [okB, Bool.and_eq_true, beq_iff_eq] at h
  obtain ⟨h1, h2, h3, h4⟩ := h
  have hx : H &&& 57347 = 49153 := and_sub h1 (by decide)
  have hf : cForm 21 = 98 := by decide
  have ho : ((cOp 21 : Nat) : Int) = 5 := by decide
  have hi := imm_s (l := [3, 4, 10, 11, 2, 5, 6, 12]) (b := 2) (k := 21) (H := H) (by decide) (by decide) (by decide)
  rw [ho, hf, hi]
  rw [hf] at h2
  unfold rI
  rw [hx, if_neg (by decide), if_neg (by decide), if_neg (by decide), if_neg (by decide), if_neg (by decide), if_neg (by decide), if_neg (by decide), if_neg (by decide), if_neg (by decide), if_neg (by decide), if_neg (by decide), if_pos rfl]
  refine i5_ext ?_ ?_ ?_ ?_ ?_
  · first | rfl | decide
  · simp [oD] <;> omega
  · simp [oS, g3h] <;> omega
  · simp [oT] <;> omega
  · simp <;> rfl
theorem rI_22 (H : Nat) (_hH : H ≤ 65535) (h : okB 22 H = true) : rI H = (((cOp 22 : Nat) : Int), oD (cForm 22) H, oS (cForm 22) H, oT (cForm 22) H, oImm 22 H) := by
  simp only [okB, Bool.and_eq_true, beq_iff_eq] at h
  obtain ⟨h1, h2, h3, h4⟩ := h
  have hx : H &&& 57347 = 57345 := and_sub h1 (by decide)
  have hf : cForm 22 = 98 := by decide
  have ho : ((cOp 22 : Nat) : Int) = 6 := by decide
  have hi := imm_s (l := [3, 4, 10, 11, 2, 5, 6, 12]) (b := 2) (k := 22) (H := H) (by decide) (by decide) (by decide)
  rw [ho, hf, hi]
  rw [hf] at h2
  unfold rI
  rw [hx, if_neg (by decide), if_neg (by decide), if_neg (by decide), if_neg (by decide), if_neg (by decide), if_neg (by decide), if_neg (by decide), if_neg (by decide), if_neg (by decide), if_neg (by decide), if_neg (by decide), if_neg (by decide), if_pos rfl]
  refine i5_ext ?_ ?_ ?_ ?_ ?_
  · first | rfl | decide
  · simp [oD] <;> omega
  · simp [oS, g3h] <;> omega
  · simp [oT] <;> omega
  · simp <;> rfl
theorem rI_23 (H : Nat) (_hH : H ≤ 65535) (h : okB 23 H = true) : rI H = (((cOp 23 : Nat) : Int), oD (cForm 23) H, oS (cForm 23) H, oT (cForm 23) H, oImm 23 H) := by
  simp only [okB, Bool.and_eq_true, beq_iff_eq] at h
  obtain ⟨h1, h2, h3, h4⟩ := h
  have hx : H &&& 57347 = 2 := and_sub h1 (by decide)
  have hf : cForm 23 = 114 := by decide
  have ho : ((cOp 23 : Nat) : Int) = 28 := by decide
  have hi := imm_p (l := [2, 3, 4, 5, 6, 12]) (b := 1) (k := 23) (H := H) (by decide) (by decide) (by decide)
  rw [ho, hf, hi]
  rw [hf] at h2
  unfold rI
  rw [hx, if_neg (by decide), if_neg (by decide), if_neg (by decide), if_neg (by decide), if_neg (by decide), if_neg (by decide), if_neg (by decide), if_neg (by decide), if_neg (by decide), if_neg (by decide), if_neg (by decide), if_neg (by decide), if_neg (by decide), if_pos rfl]
  refine i5_ext ?_ ?_ ?_ ?_ ?_
  · first | rfl | decide
  · simp [oD, g5h] <;> omega
  · simp [oS, g5h] <;> omega
  · simp [oT] <;> omega
  · simp <;> rfl
theorem rI_24 (H : Nat) (_hH : H ≤ 65535) (h : okB 24 H = true) : rI H = (((cOp 24 : Nat) : Int), oD (cForm 24) H, oS (cForm 24) H, oT (cForm 24) H, oImm 24 H) := by
  simp only [okB, Bool.and_eq_true, beq_iff_eq] at h
  obtain ⟨h1, h2, h3, h4⟩ := h
  have hx : H &&& 57347 = 16386 := and_sub h1 (by decide)
  have hf : cForm 24 = 119 := by decide
  have ho : ((cOp 24 : Nat) : Int) = 13 := by decide
  have hi := imm_p (l := [4, 5, 6, 12, 2, 3]) (b := 4) (k := 24) (H := H) (by decide) (by decide) (by decide)
  rw [ho, hf, hi]
  rw [hf] at h2
  unfold rI
  rw [hx, if_neg (by decide), if_neg (by decide), if_neg (by decide), if_neg (by decide), if_neg (by decide), if_neg (by decide), if_neg (by decide), if_neg (by decide), if_neg (by decide), if_neg (by decide), if_neg (by decide), if_neg (by decide), if_neg (by decide), if_neg (by decide), if_pos rfl]
  refine i5_ext ?_ ?_ ?_ ?_ ?_
  · first | rfl | decide
  · simp [oD, g5h] <;> omega
  · simp [oS] <;> omega
  · simp [oT] <;> omega
  · simp <;> rfl
theorem rI_25 (H : Nat) (_hH : H ≤ 65535) (h : okB 25 H = true) : rI H = (((cOp 25 : Nat) : Int), oD (cForm 25) H, oS (cForm 25) H, oT (cForm 25) H, oImm 25 H) := by
  simp only [okB, Bool.and_eq_true, beq_iff_eq] at h
  obtain ⟨h1, h2, h3, h4⟩ := h
  have hx : H &&& 57347 = 24578 := and_sub h1 (by decide)
  have hf : cForm 25 = 119 := by decide
  have ho : ((cOp 25 : Nat) : Int) = 14 := by decide
  have hi := imm_p (l := [5, 6, 12, 2, 3, 4]) (b := 8) (k := 25) (H := H) (by decide) (by decide) (by decide)
  rw [ho, hf, hi]
  rw [hf] at h2
  unfold rI
  rw [hx, if_neg (by decide), if_neg (by decide), if_neg (by decide), if_neg (by decide), if_neg (by decide), if_neg (by decide), if_neg (by decide), if_neg (by decide), if_neg (by decide), if_neg (by decide), if_neg (by decide), if_neg (by decide), if_neg (by decide), if_neg (by decide), if_neg (by decide), if_pos rfl]
  refine i5_ext ?_ ?_ ?_ ?_ ?_
  · first | rfl | decide
  · simp [oD, g5h] <;> omega
  · simp [oS] <;> omega
  · simp [oT] <;> omega
  · simp <;> rfl
theorem rI_26 (H : Nat) (_hH : H ≤ 65535) (h : okB 26 H = true) : rI H = (((cOp 26 : Nat) : Int), oD (cForm 26) H, oS (cForm 26) H, oT (cForm 26) H, oImm 26 H) := by
  simp only [okB, Bool.and_eq_true, beq_iff_eq] at h
  obtain ⟨h1, h2, h3, h4⟩ := h
  have hx : H &&& 57347 = 32770 := and_sub h1 (by decide)
  have hf : cForm 26 = 74 := by decide
  have ho : ((cOp 26 : Nat) : Int) = 4 := by decide
  have hi := imm_0 (k := 26) (H := H) (by decide)
  rw [ho, hf, hi]
  rw [hf] at h2
  unfold rI
  rw [hx, if_neg (by decide), if_neg (by decide), if_neg (by decide), if_neg (by decide), if_neg (by decide), if_neg (by decide), if_neg (by decide), if_neg (by decide), if_neg (by decide), if_neg (by decide), if_neg (by decide), if_neg (by decide), if_neg (by decide), if_neg (by decide), if_neg (by decide), if_neg (by decide), if_pos rfl]
  unfold rWh
  have e2 : (gL H [12] : Int) = 0 := by
    rw [gL_fix h1 [12] (by decide)]; decide
  have e3 : (gL H [2, 3, 4, 5, 6] : Int) = 0 := by
    rw [gL_fix h1 [2, 3, 4, 5, 6] (by decide)]; decide
  rw [if_pos e3, if_pos e2]
  refine i5_ext ?_ ?_ ?_ ?_ ?_
  · first | rfl | decide
  · simp [oD] <;> omega
  · simp [oS, g5h] <;> omega
  · simp [oT] <;> omega
  · simp <;> rfl
theorem rI_27 (H : Nat) (_hH : H ≤ 65535) (h : okB 27 H = true) : rI H = (((cOp 27 : Nat) : Int), oD (cForm 27) H, oS (cForm 27) H, oT (cForm 27) H, oImm 27 H) := by
  simp only [okB, Bool.and_eq_true, beq_iff_eq] at h
  obtain ⟨h1, h2, h3, h4⟩ := h
  have hx : H &&& 57347 = 32770 := and_sub h1 (by decide)
  have hf : cForm 27 = 118 := by decide
  have ho : ((cOp 27 : Nat) : Int) = 31 := by decide
  have hi := imm_0 (k := 27) (H := H) (by decide)
  rw [ho, hf, hi]
  rw [hf] at h2
  unfold rI
  rw [hx, if_neg (by decide), if_neg (by decide), if_neg (by decide), if_neg (by decide), if_neg (by decide), if_neg (by decide), if_neg (by decide), if_neg (by decide), if_neg (by decide), if_neg (by decide), if_neg (by decide), if_neg (by decide), if_neg (by decide), if_neg (by decide), if_neg (by decide), if_neg (by decide), if_pos rfl]
  unfold rWh
  have e2 : (gL H [12] : Int) = 0 := by
    rw [gL_fix h1 [12] (by decide)]; decide
  have e3 : ¬ (gL H [2, 3, 4, 5, 6] : Int) = 0 := by
    rw [g5l]
    simp [rightB, oD, oS, oT] at h2
    omega
  rw [if_neg e3, if_pos e2]
  refine i5_ext ?_ ?_ ?_ ?_ ?_
  · first | rfl | decide
  · simp [oD, g5h] <;> omega
  · simp [oS] <;> omega
  · simp [oT, g5l] <;> omega
  · simp <;> rfl
theorem rI_28 (H : Nat) (hH : H ≤ 65535) (h : okB 28 H = true) : rI H = (((cOp 28 : Nat) : Int), oD (cForm 28) H, oS (cForm 28) H, oT (cForm 28) H, oImm 28 H) := by
  simp only [okB, Bool.and_eq_true, beq_iff_eq] at h
  obtain ⟨h1, h2, h3, h4⟩ := h
  have hx : H &&& 57347 = 32770 := and_sub h1 (by decide)
  have hf : cForm 28 = 110 := by decide
  have ho : ((cOp 28 : Nat) : Int) = 66 := by decide
  have hi := imm_0 (k := 28) (H := H) (by decide)
  have hall : H = 36866 := by
    have e1 := and_sub h1 (m := 65535) (by decide)
    have e2 : H &&& 65535 = H := by
      have := Nat.and_two_pow_sub_one_eq_mod H 16
      rw [show 2 ^ 16 - 1 = 65535 by decide] at this
      rw [this]; omega
    rw [e2] at e1
    rw [e1]; decide
  subst hall
  decide +kernel
theorem rI_29 (H : Nat) (_hH : H ≤ 65535) (h : okB 29 H = true) : rI H = (((cOp 29 : Nat) : Int), oD (cForm 29) H, oS (cForm 29) H, oT (cForm 29) H, oImm 29 H) := by
  simp only [okB, Bool.and_eq_true, beq_iff_eq] at h
  obtain ⟨h1, h2, h3, h4⟩ := h
  have hx : H &&& 57347 = 32770 := and_sub h1 (by decide)
  have hf : cForm 29 = 75 := by decide
  have ho : ((cOp 29 : Nat) : Int) = 4 := by decide
  have hi := imm_0 (k := 29) (H := H) (by decide)
  rw [ho, hf, hi]
  rw [hf] at h2
  unfold rI
  rw [hx, if_neg (by decide), if_neg (by decide), if_neg (by decide), if_neg (by decide), if_neg (by decide), if_neg (by decide), if_neg (by decide), if_neg (by decide), if_neg (by decide), if_neg (by decide), if_neg (by decide), if_neg (by decide), if_neg (by decide), if_neg (by decide), if_neg (by decide), if_neg (by decide), if_pos rfl]
  unfold rWh
  have e2 : (gL H [12] : Int) = 1 := by
    rw [gL_fix h1 [12] (by decide)]; decide
  have e3 : (gL H [2, 3, 4, 5, 6] : Int) = 0 := by
    rw [gL_fix h1 [2, 3, 4, 5, 6] (by decide)]; decide
  have e4 : ¬ (gL H [7, 8, 9, 10, 11] : Int) = 0 := by
    rw [g5h]
    simp [rightB, oD, oS, oT] at h2
    omega
  rw [if_pos e3, e2, if_neg (by decide), if_neg e4]
  refine i5_ext ?_ ?_ ?_ ?_ ?_
  · first | rfl | decide
  · simp [oD] <;> omega
  · simp [oS, g5h] <;> omega
  · simp [oT] <;> omega
  · simp <;> rfl
theorem rI_30 (H : Nat) (_hH : H ≤ 65535) (h : okB 30 H = true) : rI H = (((cOp 30 : Nat) : Int), oD (cForm 30) H, oS (cForm 30) H, oT (cForm 30) H, oImm 30 H) := by
  simp only [okB, Bool.and_eq_true, beq_iff_eq] at h
  obtain ⟨h1, h2, h3, h4⟩ := h
  have hx : H &&& 57347 = 32770 := and_sub h1 (by decide)
  have hf : cForm 30 = 100 := by decide
  have ho : ((cOp 30 : Nat) : Int) = 31 := by decide
  have hi := imm_0 (k := 30) (H := H) (by decide)
  rw [ho, hf, hi]
  rw [hf] at h2
  unfold rI
  rw [hx, if_neg (by decide), if_neg (by decide), if_neg (by decide), if_neg (by decide), if_neg (by decide), if_neg (by decide), if_neg (by decide), if_neg (by decide), if_neg (by decide), if_neg (by decide), if_neg (by decide), if_neg (by decide), if_neg (by decide), if_neg (by decide), if_neg (by decide), if_neg (by decide), if_pos rfl]
  unfold rWh
  have e2 : (gL H [12] : Int) = 1 := by
    rw [gL_fix h1 [12] (by decide)]; decide
  have e3 : ¬ (gL H [2, 3, 4, 5, 6] : Int) = 0 := by
    rw [g5l]
    simp [rightB, oD, oS, oT] at h2
    omega
  rw [if_neg e3, e2, if_neg (by decide)]
  refine i5_ext ?_ ?_ ?_ ?_ ?_
  · first | rfl | decide
  · simp [oD, g5h] <;> omega
  · simp [oS, g5h] <;> omega
  · simp [oT, g5l] <;> omega
  · simp <;> rfl
theorem rI_31 (H : Nat) (_hH : H ≤ 65535) (h : okB 31 H = true) : rI H = (((cOp 31 : Nat) : Int), oD (cForm 31) H, oS (cForm 31) H, oT (cForm 31) H, oImm 31 H) := by
  simp only [okB, Bool.and_eq_true, beq_iff_eq] at h
  obtain ⟨h1, h2, h3, h4⟩ := h
  have hx : H &&& 57347 = 49154 := and_sub h1 (by decide)
  have hf : cForm 31 = 116 := by decide
  have ho : ((cOp 31 : Nat) : Int) = 20 := by decide
  have hi := imm_p (l := [9, 10, 11, 12, 7, 8]) (b := 4) (k := 31) (H := H) (by decide) (by decide) (by decide)
  rw [ho, hf, hi]
  rw [hf] at h2
  unfold rI
  rw [hx, if_neg (by decide), if_neg (by decide), if_neg (by decide), if_neg (by decide), if_neg (by decide), if_neg (by decide), if_neg (by decide), if_neg (by decide), if_neg (by decide), if_neg (by decide), if_neg (by decide), if_neg (by decide), if_neg (by decide), if_neg (by decide), if_neg (by decide), if_neg (by decide), if_neg (by decide), if_pos rfl]
  refine i5_ext ?_ ?_ ?_ ?_ ?_
  · first | rfl | decide
  · simp [oD] <;> omega
  · simp [oS] <;> omega
  · simp [oT, g5l] <;> omega
  · simp <;> rfl
theorem rI_32 (H : Nat) (_hH : H ≤ 65535) (h : okB 32 H = true) : rI H = (((cOp 32 : Nat) : Int), oD (cForm 32) H, oS (cForm 32) H, oT (cForm 32) H, oImm 32 H) := by
  simp only [okB, Bool.and_eq_true, beq_iff_eq] at h
  obtain ⟨h1, h2, h3, h4⟩ := h
  have hx : H &&& 57347 = 57346 := and_sub h1 (by decide)
  have hf : cForm 32 = 116 := by decide
  have ho : ((cOp 32 : Nat) : Int) = 21 := by decide
  have hi := imm_p (l := [10, 11, 12, 7, 8, 9]) (b := 8) (k := 32) (H := H) (by decide) (by decide) (by decide)
  rw [ho, hf, hi]
  rw [hf] at h2
  unfold rI
  rw [hx, if_neg (by decide), if_neg (by decide), if_neg (by decide), if_neg (by decide), if_neg (by decide), if_neg (by decide), if_neg (by decide), if_neg (by decide), if_neg (by decide), if_neg (by decide), if_neg (by decide), if_neg (by decide), if_neg (by decide), if_neg (by decide), if_neg (by decide), if_neg (by decide), if_neg (by decide), if_neg (by decide), if_pos rfl]
  refine i5_ext ?_ ?_ ?_ ?_ ?_
  · first | rfl | decide
  · simp [oD] <;> omega
  · simp [oS] <;> omega
  · simp [oT, g5l] <;> omega
  · simp <;> rfl
theorem rI_row {k H : Nat} (hk : k < 33) (hH : H ≤ 65535) (h : okB k H = true) : rI H = (((cOp k : Nat) : Int), oD (cForm k) H, oS (cForm k) H, oT (cForm k) H, oImm k H) := by
  match k, hk with
  | 0, _ => exact rI_0 H hH h
  | 1, _ => exact rI_1 H hH h
  | 2, _ => exact rI_2 H hH h
  | 3, _ => exact rI_3 H hH h
  | 4, _ => exact rI_4 H hH h
  | 5, _ => exact rI_5 H hH h
  | 6, _ => exact rI_6 H hH h
  | 7, _ => exact rI_7 H hH h
  | 8, _ => exact rI_8 H hH h
  | 9, _ => exact rI_9 H hH h
  | 10, _ => exact rI_10 H hH h
  | 11, _ => exact rI_11 H hH h
  | 12, _ => exact rI_12 H hH h
  | 13, _ => exact rI_13 H hH h
  | 14, _ => exact rI_14 H hH h
  | 15, _ => exact rI_15 H hH h
  | 16, _ => exact rI_16 H hH h
  | 17, _ => exact rI_17 H hH h
  | 18, _ => exact rI_18 H hH h
  | 19, _ => exact rI_19 H hH h
  | 20, _ => exact rI_20 H hH h
  | 21, _ => exact rI_21 H hH h
  | 22, _ => exact rI_22 H hH h
  | 23, _ => exact rI_23 H hH h
  | 24, _ => exact rI_24 H hH h
  | 25, _ => exact rI_25 H hH h
  | 26, _ => exact rI_26 H hH h
  | 27, _ => exact rI_27 H hH h
  | 28, _ => exact rI_28 H hH h
  | 29, _ => exact rI_29 H hH h
  | 30, _ => exact rI_30 H hH h
  | 31, _ => exact rI_31 H hH h
  | 32, _ => exact rI_32 H hH h
  | n + 33, hn => omega

theorem stack_num (H : Nat) (hH : H ≤ 65535) (h : H &&& 61315 = 24833) : H = 24833 + 4 * (H / 4 % 32) + 4096 * (H / 4096 % 2) := by
  have e1 := and_sub h (m := 3968) (by decide)
  have e2 := and_sub h (m := 57344) (by decide)
  have e3 := and_sub h (m := 3) (by decide)
  have a1 : H &&& 3968 = H / 128 % 32 * 128 := at_field H 7 5
  have a2 : H &&& 57344 = H / 8192 % 8 * 8192 := at_field H 13 3
  have a3 : H &&& 3 = H / 1 % 4 * 1 := at_field H 0 2
  rw [a1] at e1
  rw [a2] at e2
  rw [a3] at e3
  have b1 : 24833 &&& 3968 = 256 := by decide
  have b2 : 24833 &&& 57344 = 24576 := by decide
  have b3 : 24833 &&& 3 = 1 := by decide
  rw [b1] at e1
  rw [b2] at e2
  rw [b3] at e3
  omega
theorem stack_rows : ∀ a, a < 32 → ∀ b, b < 2 → (okB 9 (24833 + 4 * a + 4096 * b) || (24833 + 4 * a + 4096 * b == 24833)) = true := by decide +kernel
theorem stack_all (H : Nat) (hH : H ≤ 65535) (h : H &&& 61315 = 24833) : okB 9 H = true ∨ H = 24833 := by
  have e := stack_num H hH h
  have := stack_rows (H / 4 % 32) (by omega) (H / 4096 % 2) (by omega)
  rw [← e] at this
  simpa using this
theorem nop_2 : (cIx (rI 24833).1 (rI 24833).2.1 (rI 24833).2.2.1 (rI 24833).2.2.2.1 (rI 24833).2.2.2.2 < 33) = False := by
  have h : decide (cIx (rI 24833).1 (rI 24833).2.1 (rI 24833).2.2.1 (rI 24833).2.2.2.1 (rI 24833).2.2.2.2 < 33) = false := by decide +kernel
  simpa using h
theorem back_half2 {H : Nat} (h : hIx H < 33) : hfV (hOp H) (hRd H) (hRs1 H) (hRs2 H) (hImm H) = H ∨ hIx H = 9 := by
  obtain ⟨f, e⟩ := ok_of5 h (hIx_hit h)
  have hm := may_of5 f
  have hr : rowB (hIx H) (cOp (hIx H)) (oD (cForm (hIx H)) H) (oS (cForm (hIx H)) H) (oT (cForm (hIx H)) H) (oImm (hIx H) H) = true := by
    simp only [rowB, f.right, f.fits, beq_self_eq_true, Bool.and_self]
  unfold hOp hRd hRs1 hRs2 hImm
  simp only [h, if_true]
  have hle : cIx (cOp (hIx H)) (oD (cForm (hIx H)) H) (oS (cForm (hIx H)) H) (oT (cForm (hIx H)) H) (oImm (hIx H) H) ≤ hIx H := by
    rcases Nat.lt_or_ge (hIx H) (cIx (cOp (hIx H)) (oD (cForm (hIx H)) H) (oS (cForm (hIx H)) H) (oT (cForm (hIx H)) H) (oImm (hIx H) H)) with h1 | h1
    · rw [cIx_miss h1] at hr; cases hr
    · exact h1
  have hlt : cIx (cOp (hIx H)) (oD (cForm (hIx H)) H) (oS (cForm (hIx H)) H) (oT (cForm (hIx H)) H) (oImm (hIx H) H) < 33 := by omega
  have hr' := cIx_hit hlt
  rcases Nat.lt_or_ge (cIx (cOp (hIx H)) (oD (cForm (hIx H)) H) (oS (cForm (hIx H)) H) (oT (cForm (hIx H)) H) (oImm (hIx H) H)) (hIx H) with h1 | h1
  · right
    exact (rows_twice hlt h h1 hr' hr).2
  · left
    have hx : cIx (cOp (hIx H)) (oD (cForm (hIx H)) H) (oS (cForm (hIx H)) H) (oT (cForm (hIx H)) H) (oImm (hIx H) H) = hIx H := by omega
    unfold hfV
    rw [if_pos hm, hx, if_pos h, half_num f, e]
theorem rI_yes {H : Nat} (hH : H ≤ 65535) (h : hIx H < 33) : rI H = (hOp H, hRd H, hRs1 H, hRs2 H, hImm H) := by
  rw [rI_row h hH (hIx_hit h)]
  unfold hOp hRd hRs1 hRs2 hImm
  simp only [h, if_true]
theorem hfE_zero {op d s t imm : Int} : hfE op d s t imm = 0 ↔ (mayB op d s t imm = true ∧ cIx op d s t imm < 33) := by
  unfold hfE
  constructor
  · intro h
    split at h
    · split at h
      · exact ⟨by assumption, by assumption⟩
      · omega
    · omega
  · rintro ⟨h1, h2⟩
    rw [if_pos h1, if_pos h2]
theorem insn_yes {H : Nat} (hH : H ≤ 65535) (h : hIx H < 33) : hfE (rI H).1 (rI H).2.1 (rI H).2.2.1 (rI H).2.2.2.1 (rI H).2.2.2.2 = 0 ∧ (hfV (rI H).1 (rI H).2.1 (rI H).2.2.1 (rI H).2.2.2.1 (rI H).2.2.2.2 = H ∨ H &&& 61315 = 24833) := by
  obtain ⟨a1, a2, _, _⟩ := back_half h
  rw [rI_yes hH h]
  refine ⟨hfE_zero.2 ⟨a1, a2⟩, ?_⟩
  rcases back_half2 h with e | e
  · exact .inl e
  · right
    have := hIx_hit h
    rw [e] at this
    simp only [okB, Bool.and_eq_true, beq_iff_eq] at this
    exact this.1
theorem insn_no {H : Nat} (hH : H ≤ 65535) (h : ¬ hIx H < 33) (he : hfE (rI H).1 (rI H).2.1 (rI H).2.2.1 (rI H).2.2.2.1 (rI H).2.2.2.2 = 0) : ¬ hfV (rI H).1 (rI H).2.1 (rI H).2.2.1 (rI H).2.2.2.1 (rI H).2.2.2.2 = H ∧ ¬ H &&& 61315 = 24833 := by
  obtain ⟨a1, a2⟩ := hfE_zero.1 he
  constructor
  · intro e
    exact h (half_back a1 a2 e).1
  · intro e
    rcases stack_all H hH e with k | k
    · exact h (by rw [hIx_of (by decide) k]; decide)
    · subst k
      rw [nop_2] at a2
      exact a2
def OpOk (x : I5) : Prop := 0 ≤ x.1 ∧ x.1 ≤ 255
theorem op_ite {c : Prop} [Decidable c] {a b : I5} (ha : OpOk a) (hb : OpOk b) : OpOk (if c then a else b) := by
  split
  · exact ha
  · exact hb
theorem pair_ok (i : Nat) : 0 ≤ pairC i ∧ pairC i ≤ 255 := by
  have h : ∀ j, j < 8 → 0 ≤ pairC j ∧ pairC j ≤ 255 := by decide
  by_cases hi : i < 8
  · exact h i hi
  · have : pairC i = 0 := by
      unfold pairC
      rw [List.getD_eq_getElem?_getD, List.getElem?_eq_none (by simp [pairTab]; omega)]
      rfl
    omega
theorem rI_op (H : Nat) : 0 ≤ (rI H).1 ∧ (rI H).1 ≤ 255 := by
  show OpOk (rI H)
  unfold rI rUp rSa rWh
  repeat' apply op_ite
  all_goals (first | exact pair_ok _ | exact ⟨by simp, by simp⟩)
end Go.Proofs.YtbmcanpjpibecaaDoor
