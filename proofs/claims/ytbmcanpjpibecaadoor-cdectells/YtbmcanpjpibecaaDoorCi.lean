/- No two instructions have one short form. -/
import Derived.Test.YtbmcanpjpibecaaDoorCm
namespace Go.Proofs.YtbmcanpjpibecaaDoor
open Go.RowKit

theorem regs_inj {f : UInt8} (hf : f ∈ ([97, 108, 115, 110, 106, 114, 122, 117, 112, 113, 109, 98, 119, 74, 75, 118, 100, 116] : List UInt8)) {d s t d' s' t' : Int} (hr : rightB f d s t = true) (hr' : rightB f d' s' t' = true)
    (el : lowV f d s t = lowV f d' s' t') (eh : hiV f d s t = hiV f d' s' t') : d = d' ∧ s = s' ∧ t = t' := by
  simp only [List.mem_cons, List.not_mem_nil, or_false] at hf
  rcases hf with rfl | rfl | rfl | rfl | rfl | rfl | rfl | rfl | rfl | rfl | rfl | rfl | rfl | rfl | rfl | rfl | rfl | rfl
  all_goals
    simp [rightB, highB] at hr hr'
    simp [lowV, hiV] at el eh
    omega

theorem g_pos {v r : Int} (h0 : 0 ≤ v) (h1 : v < r) : (if v < 0 then v + r else v) % r = v := by
  rw [if_neg (by omega)]; exact Int.emod_eq_of_lt h0 h1
theorem g_sg {v r : Int} (h0 : -r ≤ 2 * v) (h1 : 2 * v < r) : (if v < 0 then v + r else v) % r = if v < 0 then v + r else v := by
  split
  · exact Int.emod_eq_of_lt (by omega) (by omega)
  · exact Int.emod_eq_of_lt (by omega) (by omega)
theorem row_l : ∀ k, k < 33 → cKind k = 108 → cBy k = 1 ∧ cLen k = 6 := by decide +kernel
theorem cnum_inj {k : Nat} (hk : k < 33) {n n' : Int} (h : cfitsB (cKind k) (cBy k) (cLen k) n = true) (h' : cfitsB (cKind k) (cBy k) (cLen k) n' = true) (e : cNum k n = cNum k n') : n = n' := by
  have hl := row_l k hk
  unfold cfitsB at h h'
  unfold cNum at e
  rw [Bool.and_eq_true] at h h'
  have t1 : cBy k * n.tdiv (cBy k) = n := Int.mul_tdiv_cancel_of_tmod_eq_zero (by simpa using h.1)
  have t2 : cBy k * n'.tdiv (cBy k) = n' := Int.mul_tdiv_cancel_of_tmod_eq_zero (by simpa using h'.1)
  have g := h.2
  have g' := h'.2
  rcases (by simpa only [List.mem_cons, List.not_mem_nil, or_false] using cKind_cases k hk) with hc | hc | hc | hc | hc | hc
  · rw [hc] at g g'
    simp [kindB] at g g'
    omega
  · obtain ⟨hb, hn⟩ := hl hc
    rw [hc] at g g'
    rw [hb, hn] at e
    simp [kindB] at g g'
    simp only [Int.tdiv_one] at e
    rw [if_neg (by omega), if_neg (by omega)] at e
    omega
  all_goals
    rw [hc] at g g'
    simp [kindB] at g g'
    suffices hv : n.tdiv (cBy k) = n'.tdiv (cBy k) by rw [← t1, ← t2, hv]
    generalize n.tdiv (cBy k) = v at e g
    generalize n'.tdiv (cBy k) = v' at e g'
    generalize (2 : Int) ^ cLen k = r at e g g'
    first
    | (rw [g_pos (by omega) (by omega), g_pos (by omega) (by omega)] at e; exact e)
    | (rw [g_sg (by omega) (by omega), g_sg (by omega) (by omega)] at e; split at e <;> split at e <;> omega)

theorem fix_at {k M : Nat} {d s t imm : Int} (h : Of5 k d s t imm) (hM : fixC k &&& M = M) : halfN k d s t imm &&& M = cBits k &&& M := by
  rw [← half_f h, Nat.and_assoc, hM]
theorem twin_5_6 {d s t imm d' s' t' imm' : Int} (h : Of5 5 d s t imm) (h' : Of5 6 d' s' t' imm') (e : halfN 5 d s t imm = halfN 6 d' s' t' imm') : False := by
  have h1 := fix_at (M := 3968) h (by decide +kernel)
  have h2 := half_h h'
  rw [e, show cBits 5 &&& 3968 = 0 by decide +kernel] at h1
  rw [show mhF (cForm 6) = 3968 by decide +kernel, h1] at h2
  have h3 : hN 6 d' s' t' = d'.toNat * 128 := by
    unfold hN
    rw [show cForm 6 = 114 by decide +kernel]
    simp [hiV]
  have hr := h'.right
  rw [show cForm 6 = 114 by decide +kernel] at hr
  simp [rightB] at hr
  have r1 := h'.d
  have r2 := h'.s
  have r3 := h'.t
  omega
theorem twin_9_10 {d s t imm d' s' t' imm' : Int} (h : Of5 9 d s t imm) (h' : Of5 10 d' s' t' imm') (e : halfN 9 d s t imm = halfN 10 d' s' t' imm') : False := by
  have h1 := fix_at (M := 3968) h (by decide +kernel)
  have h2 := half_h h'
  rw [e, show cBits 9 &&& 3968 = 256 by decide +kernel] at h1
  rw [show mhF (cForm 10) = 3968 by decide +kernel, h1] at h2
  have h3 : hN 10 d' s' t' = d'.toNat * 128 := by
    unfold hN
    rw [show cForm 10 = 117 by decide +kernel]
    simp [hiV]
  have hr := h'.right
  rw [show cForm 10 = 117 by decide +kernel] at hr
  simp [rightB] at hr
  have r1 := h'.d
  have r2 := h'.s
  have r3 := h'.t
  omega
theorem twin_26_27 {d s t imm d' s' t' imm' : Int} (h : Of5 26 d s t imm) (h' : Of5 27 d' s' t' imm') (e : halfN 26 d s t imm = halfN 27 d' s' t' imm') : False := by
  have h1 := fix_at (M := 124) h (by decide +kernel)
  have h2 := half_l h'
  rw [e, show cBits 26 &&& 124 = 0 by decide +kernel] at h1
  rw [show mlF (cForm 27) = 124 by decide +kernel, h1] at h2
  have h3 : lN 27 d' s' t' = t'.toNat * 4 := by
    unfold lN
    rw [show cForm 27 = 118 by decide +kernel]
    simp [lowV]
  have hr := h'.right
  rw [show cForm 27 = 118 by decide +kernel] at hr
  simp [rightB] at hr
  have r1 := h'.d
  have r2 := h'.s
  have r3 := h'.t
  omega
theorem twin_28_29 {d s t imm d' s' t' imm' : Int} (h : Of5 28 d s t imm) (h' : Of5 29 d' s' t' imm') (e : halfN 28 d s t imm = halfN 29 d' s' t' imm') : False := by
  have h1 := fix_at (M := 3968) h (by decide +kernel)
  have h2 := half_h h'
  rw [e, show cBits 28 &&& 3968 = 0 by decide +kernel] at h1
  rw [show mhF (cForm 29) = 3968 by decide +kernel, h1] at h2
  have h3 : hN 29 d' s' t' = s'.toNat * 128 := by
    unfold hN
    rw [show cForm 29 = 75 by decide +kernel]
    simp [hiV]
  have hr := h'.right
  rw [show cForm 29 = 75 by decide +kernel] at hr
  simp [rightB] at hr
  have r1 := h'.d
  have r2 := h'.s
  have r3 := h'.t
  omega
theorem twin_28_30 {d s t imm d' s' t' imm' : Int} (h : Of5 28 d s t imm) (h' : Of5 30 d' s' t' imm') (e : halfN 28 d s t imm = halfN 30 d' s' t' imm') : False := by
  have h1 := fix_at (M := 3968) h (by decide +kernel)
  have h2 := half_h h'
  rw [e, show cBits 28 &&& 3968 = 0 by decide +kernel] at h1
  rw [show mhF (cForm 30) = 3968 by decide +kernel, h1] at h2
  have h3 : hN 30 d' s' t' = d'.toNat * 128 := by
    unfold hN
    rw [show cForm 30 = 100 by decide +kernel]
    simp [hiV]
  have hr := h'.right
  rw [show cForm 30 = 100 by decide +kernel] at hr
  simp [rightB] at hr
  have r1 := h'.d
  have r2 := h'.s
  have r3 := h'.t
  omega
theorem twin_29_30 {d s t imm d' s' t' imm' : Int} (h : Of5 29 d s t imm) (h' : Of5 30 d' s' t' imm') (e : halfN 29 d s t imm = halfN 30 d' s' t' imm') : False := by
  have h1 := fix_at (M := 124) h (by decide +kernel)
  have h2 := half_l h'
  rw [e, show cBits 29 &&& 124 = 0 by decide +kernel] at h1
  rw [show mlF (cForm 30) = 124 by decide +kernel, h1] at h2
  have h3 : lN 30 d' s' t' = t'.toNat * 4 := by
    unfold lN
    rw [show cForm 30 = 100 by decide +kernel]
    simp [lowV]
  have hr := h'.right
  rw [show cForm 30 = 100 by decide +kernel] at hr
  simp [rightB] at hr
  have r1 := h'.d
  have r2 := h'.s
  have r3 := h'.t
  omega

theorem half_rows {k k' : Nat} {d s t imm d' s' t' imm' : Int} (h : Of5 k d s t imm) (h' : Of5 k' d' s' t' imm') (e : halfN k d s t imm = halfN k' d' s' t' imm') : k = k' := by
  have e1 : cBits k &&& fixC k' = cBits k' &&& fixC k := by
    rw [← half_f h, ← half_f h', e, Nat.and_assoc, Nat.and_assoc, Nat.and_comm (fixC k)]
  rcases capart k h.lt k' h'.lt e1 with hh | hh
  · exact hh
  · exfalso
    simp [twinB, twins] at hh
    rcases hh with hh | hh | hh | hh | hh | hh
    all_goals
      rcases hh with ⟨rfl, rfl⟩ | ⟨rfl, rfl⟩
      all_goals first
        | exact twin_5_6 h h' e
        | exact twin_5_6 h' h e.symm
        | exact twin_9_10 h h' e
        | exact twin_9_10 h' h e.symm
        | exact twin_26_27 h h' e
        | exact twin_26_27 h' h e.symm
        | exact twin_28_29 h h' e
        | exact twin_28_29 h' h e.symm
        | exact twin_28_30 h h' e
        | exact twin_28_30 h' h e.symm
        | exact twin_29_30 h h' e
        | exact twin_29_30 h' h e.symm
theorem half_same {k : Nat} {d s t imm d' s' t' imm' : Int} (h : Of5 k d s t imm) (h' : Of5 k d' s' t' imm') (e : halfN k d s t imm = halfN k d' s' t' imm') : d = d' ∧ s = s' ∧ t = t' ∧ imm = imm' := by
  have hq := regs_ok (cForm_cases k h.lt) h.right h.d h.s h.t
  have hq' := regs_ok (cForm_cases k h'.lt) h'.right h'.d h'.s h'.t
  have e1 : lN k d s t = lN k d' s' t' := by rw [← half_l h, ← half_l h', e]
  have e2 : hN k d s t = hN k d' s' t' := by rw [← half_h h, ← half_h h', e]
  have e3 : cScat k imm = cScat k imm' := by rw [← half_p h, ← half_p h', e]
  unfold lN at e1
  unfold hN at e2
  obtain ⟨rd, rs, rt⟩ := regs_inj (cForm_cases k h.lt) h.right h'.right (by omega) (by omega)
  refine ⟨rd, rs, rt, cnum_inj h.lt h.fits h'.fits ?_⟩
  have hv := (errOf_zero (cPl_ok k h.lt)).2
  have g1 := gath_scat (cNum k imm).toNat hv (by have := cNum_lt k imm; have := cNum_lo k imm; rw [← cast_lt_pow]; omega)
  have g2 := gath_scat (cNum k imm').toNat hv (by have := cNum_lt k imm'; have := cNum_lo k imm'; rw [← cast_lt_pow]; omega)
  unfold cScat at e3
  rw [e3, g2] at g1
  have := cNum_lo k imm
  have := cNum_lo k imm'
  omega
end Go.Proofs.YtbmcanpjpibecaaDoor
