/- Which half words are instructions', and whose: plain facts. The instruction of a half word, by the first row that has it: plain facts. -/
import Derived.Test.YtbmcanpjpibecaaDoorDm
namespace Go.Proofs.YtbmcanpjpibecaaDoor
open Go.RowKit

/-! ### What is of a row may be -/
theorem offD : ∀ k, k < 33 → hasRd (formV (cOp k)) = true ∨ cForm k ∈ ([115, 110, 106, 98, 74, 116] : List UInt8) := by decide +kernel
theorem offS : ∀ k, k < 33 → hasRs1 (formV (cOp k)) = true ∨ cForm k ∈ ([110, 106, 122, 117, 118] : List UInt8) := by decide +kernel
theorem offT : ∀ k, k < 33 → hasRs2 (formV (cOp k)) = true ∨ cForm k ∈ ([97, 108, 110, 106, 114, 122, 117, 112, 113, 98, 119, 74, 75] : List UInt8) := by decide +kernel
theorem zeroD {f : UInt8} (hf : f ∈ ([115, 110, 106, 98, 74, 116] : List UInt8)) {d s t : Int} (h : rightB f d s t = true) : d = 0 := by
  simp only [List.mem_cons, List.not_mem_nil, or_false] at hf
  rcases hf with rfl | rfl | rfl | rfl | rfl | rfl
  all_goals
    simp [rightB, highB] at h
    omega
theorem zeroS {f : UInt8} (hf : f ∈ ([110, 106, 122, 117, 118] : List UInt8)) {d s t : Int} (h : rightB f d s t = true) : s = 0 := by
  simp only [List.mem_cons, List.not_mem_nil, or_false] at hf
  rcases hf with rfl | rfl | rfl | rfl | rfl
  all_goals
    simp [rightB] at h
    omega
theorem zeroT {f : UInt8} (hf : f ∈ ([97, 108, 110, 106, 114, 122, 117, 112, 113, 98, 119, 74, 75] : List UInt8)) {d s t : Int} (h : rightB f d s t = true) : t = 0 := by
  simp only [List.mem_cons, List.not_mem_nil, or_false] at hf
  rcases hf with rfl | rfl | rfl | rfl | rfl | rfl | rfl | rfl | rfl | rfl | rfl | rfl | rfl
  all_goals
    simp [rightB, highB] at h
    omega
/-- The numbers that a row has are such as its instruction may have. -/
theorem row_ends : ∀ k, k < 33 → (cKind k, cBy k, cLen k, lowOf (formV (cOp k)), highOf (formV (cOp k)), byOf (formV (cOp k))) ∈ ([(112, 4, 8, -2048, 2047, 1), (117, 4, 5, -2048, 2047, 1), (117, 8, 5, -2048, 2047, 1), (48, 1, 0, -2048, 2047, 1), (110, 1, 6, -2048, 2047, 1), (115, 1, 6, -2048, 2047, 1), (110, 16, 6, -2048, 2047, 1), (108, 1, 6, 0, 1048575, 1), (112, 1, 6, 0, 63, 1), (48, 1, 0, 0, 0, 1), (115, 2, 11, -1048576, 1048574, 2), (115, 2, 8, -4096, 4094, 2), (117, 4, 6, -2048, 2047, 1), (117, 8, 6, -2048, 2047, 1)] : List (UInt8 × Int × Nat × Int × Int × Int)) := by decide +kernel
theorem fits_ok {k : Nat} (hk : k < 33) {n : Int} (h : cfitsB (cKind k) (cBy k) (cLen k) n = true) : numOk (formV (cOp k)) n = true := by
  have hr := row_ends k hk
  unfold cfitsB at h
  rw [Bool.and_eq_true] at h
  have t1 : cBy k * n.tdiv (cBy k) = n := Int.mul_tdiv_cancel_of_tmod_eq_zero (by simpa using h.1)
  have g := h.2
  clear h
  simp only [List.mem_cons, List.not_mem_nil, or_false, Prod.mk.injEq] at hr
  refine decide_eq_true ?_
  rcases hr with ⟨h1, h2, h3, h4, h5, h6⟩ | ⟨h1, h2, h3, h4, h5, h6⟩ | ⟨h1, h2, h3, h4, h5, h6⟩ | ⟨h1, h2, h3, h4, h5, h6⟩ | ⟨h1, h2, h3, h4, h5, h6⟩ | ⟨h1, h2, h3, h4, h5, h6⟩ | ⟨h1, h2, h3, h4, h5, h6⟩ | ⟨h1, h2, h3, h4, h5, h6⟩ | ⟨h1, h2, h3, h4, h5, h6⟩ | ⟨h1, h2, h3, h4, h5, h6⟩ | ⟨h1, h2, h3, h4, h5, h6⟩ | ⟨h1, h2, h3, h4, h5, h6⟩ | ⟨h1, h2, h3, h4, h5, h6⟩ | ⟨h1, h2, h3, h4, h5, h6⟩
  all_goals
    rw [h1, h2, h3] at g
    rw [h2] at t1
    rw [h4, h5, h6]
    simp [kindB] at g
    clear h1 h2 h3 h4 h5 h6
    omega
/-- WHAT IS OF A ROW MAY BE. -/
theorem may_of5 {k : Nat} {d s t imm : Int} (h : Of5 k d s t imm) : mayB (cOp k) d s t imm = true := by
  have ho := cOp_range k h.lt
  have g0 : isOp (cOp k) = true := decide_eq_true (by omega)
  have g1 : regOk (hasRd (formV (cOp k))) d = true := decide_eq_true ⟨h.d.1, h.d.2, (offD k h.lt).imp id fun hf => zeroD hf h.right⟩
  have g2 : regOk (hasRs1 (formV (cOp k))) s = true := decide_eq_true ⟨h.s.1, h.s.2, (offS k h.lt).imp id fun hf => zeroS hf h.right⟩
  have g3 : regOk (hasRs2 (formV (cOp k))) t = true := decide_eq_true ⟨h.t.1, h.t.2, (offT k h.lt).imp id fun hf => zeroT hf h.right⟩
  have g4 := fits_ok h.lt h.fits
  simp only [mayB, g0, g1, g2, g3, g4, Bool.and_self]

/-! ### An instruction is of one row, but for the rows 7 and 10 -/
def apartF : List (UInt8 × UInt8) := [(97, 110), (97, 114), (97, 122), (97, 112), (110, 114), (110, 122), (110, 112), (114, 122), (122, 112), (108, 119), (115, 116), (74, 75), (118, 100)]
def apartB (f g : UInt8) : Bool := apartF.any fun p => p.1 == f && p.2 == g
theorem same_op : ∀ k, k < 33 → ∀ k', k' < 33 → k < k' ∧ cOp k = cOp k' → (k = 6 ∧ k' = 9) ∨ apartB (cForm k) (cForm k') = true := by decide +kernel
theorem rows_twice {k k' : Nat} (hk : k < 33) (hk' : k' < 33) (hlt : k < k') {op d s t imm : Int} (h : rowB k op d s t imm = true) (h' : rowB k' op d s t imm = true) : k = 6 ∧ k' = 9 := by
  simp only [rowB, Bool.and_eq_true, beq_iff_eq] at h h'
  have e : cOp k = cOp k' := by omega
  rcases same_op k hk k' hk' ⟨hlt, e⟩ with hh | hh
  · exact hh
  · exfalso
    have r := h.1.2
    have r' := h'.1.2
    simp [apartB, apartF] at hh
    rcases hh with ⟨h1, h2⟩ | ⟨h1, h2⟩ | ⟨h1, h2⟩ | ⟨h1, h2⟩ | ⟨h1, h2⟩ | ⟨h1, h2⟩ | ⟨h1, h2⟩ | ⟨h1, h2⟩ | ⟨h1, h2⟩ | ⟨h1, h2⟩ | ⟨h1, h2⟩ | ⟨h1, h2⟩ | ⟨h1, h2⟩
    all_goals
      rw [← h1] at r
      rw [← h2] at r'
      simp [rightB, highB] at r r'
      omega
/-- .. and of these two by the numbers -32, -16, 16 alone. -/
theorem rows_both {op d s t imm : Int} (h : rowB 6 op d s t imm = true) (h' : rowB 9 op d s t imm = true) : op = 22 ∧ d = 2 ∧ s = 2 ∧ t = 0 ∧ (imm = -32 ∨ imm = -16 ∨ imm = 16) := by
  simp only [rowB, Bool.and_eq_true, beq_iff_eq] at h h'
  have r' := h'.1.2
  have f := h.2
  have f' := h'.2
  have e1 : cOp 6 = 22 := by decide
  rw [show cForm 9 = 112 by decide] at r'
  rw [show cKind 6 = 110 by decide, show cBy 6 = 1 by decide, show cLen 6 = 6 by decide] at f
  rw [show cKind 9 = 110 by decide, show cBy 9 = 16 by decide, show cLen 9 = 6 by decide] at f'
  simp [rightB] at r'
  simp [cfitsB, kindB] at f f'
  have t1 : 16 * imm.tdiv 16 = imm := Int.mul_tdiv_cancel_of_tmod_eq_zero (by have := f'.1; omega)
  omega

/-- Is a half word an instruction's, by a row? -/
def okB (k H : Nat) : Bool := (H &&& fixC k == cBits k) && (rightB (cForm k) (oD (cForm k) H) (oS (cForm k) H) (oT (cForm k) H) && (cfitsB (cKind k) (cBy k) (cLen k) (oImm k H) && (cHalf k (oD (cForm k) H) (oS (cForm k) H) (oT (cForm k) H) (oImm k H) == (H : Int))))
theorem ok_of5 {k H : Nat} (hk : k < 33) (h : okB k H = true) : Of5 k (oD (cForm k) H) (oS (cForm k) H) (oT (cForm k) H) (oImm k H) ∧ halfN k (oD (cForm k) H) (oS (cForm k) H) (oT (cForm k) H) (oImm k H) = H := by
  simp only [okB, Bool.and_eq_true, beq_iff_eq] at h
  obtain ⟨_, h2, h3, h4⟩ := h
  obtain ⟨r1, r2, r3⟩ := oReg_range (cForm_cases k hk) (H : Int)
  have h5 : Of5 k (oD (cForm k) H) (oS (cForm k) H) (oT (cForm k) H) (oImm k H) := ⟨hk, h2, h3, r1, r2, r3⟩
  refine ⟨h5, ?_⟩
  rw [half_num h5] at h4
  omega
theorem of5_regs {k : Nat} {d s t imm : Int} (h : Of5 k d s t imm) : oD (cForm k) (halfN k d s t imm : Nat) = d ∧ oS (cForm k) (halfN k d s t imm : Nat) = s ∧ oT (cForm k) (halfN k d s t imm : Nat) = t :=
  regs_back (cForm_cases k h.lt) h.d h.s h.t h.right (half_l h) (half_h h)
theorem of5_ok {k : Nat} {d s t imm : Int} (h : Of5 k d s t imm) : okB k (halfN k d s t imm) = true := by
  obtain ⟨e1, e2, e3⟩ := of5_regs h
  have e4 := imm_back h
  have e5 := half_f h
  unfold okB
  rw [e1, e2, e3, e4, e5, h.right, h.fits, half_num h]
  simp

/-- The first row; 33: none. -/
def hIx (H : Nat) : Nat := (List.range 33).findIdx fun k => okB k H
theorem hIx_le (H : Nat) : hIx H ≤ 33 := by
  have := List.findIdx_le_length (xs := List.range 33) (p := fun k => okB k H)
  simpa [hIx] using this
theorem hIx_miss {H k : Nat} (h : k < hIx H) : okB k H = false := by
  have h1 := List.not_of_lt_findIdx (xs := List.range 33) (p := fun k => okB k H) h
  simpa using h1
theorem hIx_hit {H : Nat} (h : hIx H < 33) : okB (hIx H) H = true := by
  have := List.findIdx_getElem (xs := List.range 33) (p := fun k => okB k H) (w := by simpa [hIx] using h)
  simpa [hIx] using this
theorem hIx_of {H k : Nat} (hk : k < 33) (h : okB k H = true) : hIx H = k := by
  have hle : hIx H ≤ k := by
    rcases Nat.lt_or_ge k (hIx H) with h1 | h1
    · rw [hIx_miss h1] at h; cases h
    · exact h1
  have h1 := ok_of5 (by omega) (hIx_hit (H := H) (by omega))
  have h2 := ok_of5 hk h
  exact half_rows h1.1 h2.1 (h1.2.trans h2.2.symm)

/-- THE INSTRUCTION OF A HALF WORD, and the error. -/
def hOp (H : Nat) : Int := if hIx H < 33 then (cOp (hIx H) : Int) else 0
def hRd (H : Nat) : Int := if hIx H < 33 then oD (cForm (hIx H)) H else 0
def hRs1 (H : Nat) : Int := if hIx H < 33 then oS (cForm (hIx H)) H else 0
def hRs2 (H : Nat) : Int := if hIx H < 33 then oT (cForm (hIx H)) H else 0
def hImm (H : Nat) : Int := if hIx H < 33 then oImm (hIx H) H else 0
def hErr (H : Nat) : Int := if hIx H < 33 then 0 else 60

/-- OF EACH INSTRUCTION THAT HAS A SHORT FORM, THAT IS READ BACK. -/
theorem half_back {op d s t imm : Int} (hm : mayB op d s t imm = true) (hc : cIx op d s t imm < 33) {H : Nat} (hH : hfV op d s t imm = H) : hIx H < 33 ∧ hOp H = op ∧ hRd H = d ∧ hRs1 H = s ∧ hRs2 H = t ∧ hImm H = imm := by
  have r := cIx_hit hc
  have m5 := may5_of hm
  have ho : (cOp (cIx op d s t imm) : Int) = op := by
    simp only [rowB, Bool.and_eq_true, beq_iff_eq] at r
    exact r.1.1
  have f : Of5 (cIx op d s t imm) d s t imm := by
    simp only [rowB, Bool.and_eq_true] at r
    exact ⟨hc, r.1.2, r.2, m5.d, m5.s, m5.t⟩
  have e : halfN (cIx op d s t imm) d s t imm = H := by
    unfold hfV at hH
    rw [if_pos hm, if_pos hc, half_num f] at hH
    omega
  have hx : hIx H = cIx op d s t imm := hIx_of hc (by rw [← e]; exact of5_ok f)
  obtain ⟨e1, e2, e3⟩ := of5_regs f
  have e4 := imm_back f
  rw [e] at e1 e2 e3 e4
  unfold hOp hRd hRs1 hRs2 hImm
  rw [hx]
  simp only [hc, if_true]
  exact ⟨trivial, ho, e1, e2, e3, e4⟩

/-- EACH HALF WORD THAT IS AN INSTRUCTION'S IS ITS SHORT FORM, but for the row 10 of the numbers that row 7 has, too. -/
theorem back_half {H : Nat} (h : hIx H < 33) : mayB (hOp H) (hRd H) (hRs1 H) (hRs2 H) (hImm H) = true ∧ cIx (hOp H) (hRd H) (hRs1 H) (hRs2 H) (hImm H) < 33 ∧ H % 4 ≠ 3 ∧
    (hfV (hOp H) (hRd H) (hRs1 H) (hRs2 H) (hImm H) = H ∨ (hOp H = 22 ∧ hRd H = 2 ∧ hRs1 H = 2 ∧ (hImm H = -32 ∨ hImm H = -16 ∨ hImm H = 16))) := by
  obtain ⟨f, e⟩ := ok_of5 h (hIx_hit h)
  have hm := may_of5 f
  have hr : rowB (hIx H) (cOp (hIx H)) (oD (cForm (hIx H)) H) (oS (cForm (hIx H)) H) (oT (cForm (hIx H)) H) (oImm (hIx H) H) = true := by
    simp only [rowB, f.right, f.fits, beq_self_eq_true, Bool.and_self]
  have hlow := half_low2 f
  rw [e] at hlow
  unfold hOp hRd hRs1 hRs2 hImm
  simp only [h, if_true]
  have hle : cIx (cOp (hIx H)) (oD (cForm (hIx H)) H) (oS (cForm (hIx H)) H) (oT (cForm (hIx H)) H) (oImm (hIx H) H) ≤ hIx H := by
    rcases Nat.lt_or_ge (hIx H) (cIx (cOp (hIx H)) (oD (cForm (hIx H)) H) (oS (cForm (hIx H)) H) (oT (cForm (hIx H)) H) (oImm (hIx H) H)) with h1 | h1
    · rw [cIx_miss h1] at hr; cases hr
    · exact h1
  have hlt : cIx (cOp (hIx H)) (oD (cForm (hIx H)) H) (oS (cForm (hIx H)) H) (oT (cForm (hIx H)) H) (oImm (hIx H) H) < 33 := by omega
  refine ⟨hm, hlt, hlow, ?_⟩
  have hr' := cIx_hit hlt
  rcases Nat.lt_or_ge (cIx (cOp (hIx H)) (oD (cForm (hIx H)) H) (oS (cForm (hIx H)) H) (oT (cForm (hIx H)) H) (oImm (hIx H) H)) (hIx H) with h1 | h1
  · right
    obtain ⟨a1, a2⟩ := rows_twice hlt h h1 hr' hr
    rw [a1] at hr'
    rw [a2] at hr hr' ⊢
    obtain ⟨b1, b2, b3, _, b5⟩ := rows_both hr' hr
    exact ⟨b1, b2, b3, b5⟩
  · left
    have hx : cIx (cOp (hIx H)) (oD (cForm (hIx H)) H) (oS (cForm (hIx H)) H) (oT (cForm (hIx H)) H) (oImm (hIx H) H) = hIx H := by omega
    unfold hfV
    rw [if_pos hm, hx, if_pos h, half_num f, e]
end Go.Proofs.YtbmcanpjpibecaaDoor
