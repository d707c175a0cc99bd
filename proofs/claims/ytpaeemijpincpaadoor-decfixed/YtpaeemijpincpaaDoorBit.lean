/- Plain facts on the words of instructions: each field is had back of its word, and no two instructions have one word. -/
import Derived.Test.YtpaeemijpincpaaDoorWord
namespace Go.Proofs.YtpaeemijpincpaaDoor
open Go.RowKit

/-- The bits of a form's fields. -/
def mRd (c : Int) : Nat := if hasRd c then 31 * 128 else 0
def mRs1 (c : Int) : Nat := if hasRs1 c then 31 * 32768 else 0
def mRs2 (c : Int) : Nat := if hasRs2 c then 31 * 1048576 else 0
def mNum (c : Int) : Nat := seenTo (placeP c) (plen c)
/-- The bits of a form that are no field's. -/
def fixM (c : Int) : Nat := 4294967295 - (mRd c ||| mRs1 c ||| mRs2 c ||| mNum c)

theorem m12 : ∀ c ∈ letters, mRd c &&& mRs1 c = 0 := by decide +kernel
theorem m13 : ∀ c ∈ letters, mRd c &&& mRs2 c = 0 := by decide +kernel
theorem m14 : ∀ c ∈ letters, mRd c &&& mNum c = 0 := by decide +kernel
theorem m23 : ∀ c ∈ letters, mRs1 c &&& mRs2 c = 0 := by decide +kernel
theorem m24 : ∀ c ∈ letters, mRs1 c &&& mNum c = 0 := by decide +kernel
theorem m34 : ∀ c ∈ letters, mRs2 c &&& mNum c = 0 := by decide +kernel
theorem m1f : ∀ c ∈ letters, mRd c &&& fixM c = 0 := by decide +kernel
theorem m2f : ∀ c ∈ letters, mRs1 c &&& fixM c = 0 := by decide +kernel
theorem m3f : ∀ c ∈ letters, mRs2 c &&& fixM c = 0 := by decide +kernel
theorem m4f : ∀ c ∈ letters, mNum c &&& fixM c = 0 := by decide +kernel
theorem base_fix : ∀ i, i < 94 → baseC i &&& fixM (formC i) = baseC i := by decide +kernel

/-- The fixed bits of the instructions, in their order. -/
def fixTab : List Nat := [
  127, 127, 127, 28799, 28799, 28799, 28799, 28799, 28799, 28799, 28799, 28799,
  28799, 28799, 28799, 28799, 28799, 28799, 28799, 28799, 28799, 28799, 28799, 28799,
  28799, 28799, 28799, 4227887231, 4227887231, 4227887231, 4261441663, 4261441663, 4261441663, 4261441663, 4261441663, 4261441663,
  4261441663, 4261441663, 4261441663, 4261441663, 28799, 4261441663, 4261441663, 4261441663, 4261441663, 4261441663, 4261441663, 4261441663,
  4261441663, 4261441663, 4261441663, 4261441663, 4261441663, 4261441663, 4261441663, 4261441663, 4261441663, 4261441663, 4261441663, 4261441663,
  4261441663, 4261441663, 4027580415, 4294967295, 4294967295, 4294967295, 28799, 28799, 28799, 28799, 28799, 28799,
  4193284223, 4160778367, 4160778367, 4160778367, 4160778367, 4160778367, 4160778367, 4160778367, 4160778367, 4160778367, 4160778367, 4193284223,
  4160778367, 4160778367, 4160778367, 4160778367, 4160778367, 4160778367, 4160778367, 4160778367, 4160778367, 4160778367]
def fixT (i : Nat) : Nat := fixTab.getD i 0
theorem fixT_ok : ∀ i, i < 94 → fixM (formC i) = fixT i := by decide +kernel
theorem apart : ∀ i, i < 94 → ∀ j, j < 94 → baseC i &&& fixT j = baseC j &&& fixT i → i = j := by decide +kernel

theorem and_zero {x m m' : Nat} (h : x &&& m = x) (hm : m &&& m' = 0) : x &&& m' = 0 := by
  rw [← h, Nat.and_assoc, hm, Nat.and_zero]
theorem and_zero' {x m m' : Nat} (h : x &&& m = x) (hm : m' &&& m = 0) : x &&& m' = 0 := and_zero h (by rw [Nat.and_comm]; exact hm)

/-- a field of a word -/
theorem and_field (W a n : Nat) : W &&& ((2 ^ n - 1) * 2 ^ a) = W / 2 ^ a % 2 ^ n * 2 ^ a := by
  refine Nat.eq_of_testBit_eq fun j => ?_
  rw [Nat.testBit_and, Nat.testBit_mul_two_pow, Nat.testBit_mul_two_pow, Nat.testBit_two_pow_sub_one, Nat.testBit_mod_two_pow, Nat.testBit_div_two_pow]
  by_cases h : a ≤ j
  · have e : j - a + a = j := by omega
    simp [h, e, Bool.and_comm]
  · simp [h]

theorem reg_sub {b : Bool} {r : Int} (a : Nat) (h : regOk b r = true) : r.toNat * 2 ^ a &&& (if b then 31 * 2 ^ a else 0) = r.toNat * 2 ^ a := by
  have h1 := of_decide_eq_true h
  cases b
  · have : r = 0 := by simpa using h1.2.2
    subst this
    simp
  · have e := and_field (r.toNat * 2 ^ a) a 5
    have e2 : (2 ^ 5 - 1) * 2 ^ a = 31 * 2 ^ a := rfl
    rw [e2] at e
    simp only [if_true]
    rw [e, Nat.mul_div_cancel _ (Nat.two_pow_pos a), Nat.mod_eq_of_lt (by omega)]

theorem scat_sub (v : Nat) (p : Nat → Int) (k : Nat) : scatTo v p k &&& seenTo p k = scatTo v p k := by
  refine Nat.eq_of_testBit_eq fun j => ?_
  rw [Nat.testBit_and]
  cases h : (scatTo v p k).testBit j
  · rfl
  · obtain ⟨i, hi, hp, _⟩ := (scatTo_bit v p k j).mp h
    rw [(seenTo_bit p k j).mpr ⟨i, hi, hp⟩]
    rfl

theorem and_or5 (b x1 x2 x3 x4 m : Nat) : ((b ||| ((x1 ||| x2) ||| x3)) ||| x4) &&& m = ((b &&& m) ||| (((x1 &&& m) ||| (x2 &&& m)) ||| (x3 &&& m))) ||| (x4 &&& m) := by
  simp only [Nat.and_or_distrib_right]

theorem formV_C {op : Int} (h : isOp op = true) : formV op = formC (op.toNat - 1) := by unfold formV; rw [if_pos h]

theorem s1 {op rd rs1 rs2 imm : Int} (P : Parts op rd rs1 rs2 imm) : rd.toNat * 128 &&& mRd (formV op) = rd.toNat * 128 := reg_sub 7 P.okd
theorem s2 {op rd rs1 rs2 imm : Int} (P : Parts op rd rs1 rs2 imm) : rs1.toNat * 32768 &&& mRs1 (formV op) = rs1.toNat * 32768 := reg_sub 15 P.ok1
theorem s3 {op rd rs1 rs2 imm : Int} (P : Parts op rd rs1 rs2 imm) : rs2.toNat * 1048576 &&& mRs2 (formV op) = rs2.toNat * 1048576 := reg_sub 20 P.ok2
theorem s4 {op imm : Int} : scatN (formV op) imm &&& mNum (formV op) = scatN (formV op) imm := scat_sub _ _ _
theorem sb {op rd rs1 rs2 imm : Int} (P : Parts op rd rs1 rs2 imm) : baseC (op.toNat - 1) &&& fixM (formV op) = baseC (op.toNat - 1) := by
  have := isOp_true P.isop
  rw [formV_C P.isop]
  exact base_fix _ (by omega)

theorem word_rd {op rd rs1 rs2 imm : Int} (P : Parts op rd rs1 rs2 imm) : wordN op rd rs1 rs2 imm &&& mRd (formV op) = rd.toNat * 128 := by
  have hl := formV_letter P.isop
  unfold wordN regN
  rw [and_or5, and_zero' (sb P) (m1f _ hl), s1 P, and_zero' (s2 P) (m12 _ hl), and_zero' (s3 P) (m13 _ hl), and_zero' s4 (m14 _ hl)]
  simp
theorem word_rs1 {op rd rs1 rs2 imm : Int} (P : Parts op rd rs1 rs2 imm) : wordN op rd rs1 rs2 imm &&& mRs1 (formV op) = rs1.toNat * 32768 := by
  have hl := formV_letter P.isop
  unfold wordN regN
  rw [and_or5, and_zero' (sb P) (m2f _ hl), and_zero (s1 P) (m12 _ hl), s2 P, and_zero' (s3 P) (m23 _ hl), and_zero' s4 (m24 _ hl)]
  simp
theorem word_rs2 {op rd rs1 rs2 imm : Int} (P : Parts op rd rs1 rs2 imm) : wordN op rd rs1 rs2 imm &&& mRs2 (formV op) = rs2.toNat * 1048576 := by
  have hl := formV_letter P.isop
  unfold wordN regN
  rw [and_or5, and_zero' (sb P) (m3f _ hl), and_zero (s1 P) (m13 _ hl), and_zero (s2 P) (m23 _ hl), s3 P, and_zero' s4 (m34 _ hl)]
  simp
theorem word_num {op rd rs1 rs2 imm : Int} (P : Parts op rd rs1 rs2 imm) : wordN op rd rs1 rs2 imm &&& mNum (formV op) = scatN (formV op) imm := by
  have hl := formV_letter P.isop
  unfold wordN regN
  rw [and_or5, and_zero' (sb P) (m4f _ hl), and_zero (s1 P) (m14 _ hl), and_zero (s2 P) (m24 _ hl), and_zero (s3 P) (m34 _ hl), s4]
  simp
theorem word_fix {op rd rs1 rs2 imm : Int} (P : Parts op rd rs1 rs2 imm) : wordN op rd rs1 rs2 imm &&& fixM (formV op) = baseC (op.toNat - 1) := by
  have hl := formV_letter P.isop
  unfold wordN regN
  rw [and_or5, sb P, and_zero (s1 P) (m1f _ hl), and_zero (s2 P) (m2f _ hl), and_zero (s3 P) (m3f _ hl), and_zero s4 (m4f _ hl)]
  simp

/-- The number is gathered of the word. -/
theorem word_gath {op rd rs1 rs2 imm : Int} (P : Parts op rd rs1 rs2 imm) : (gathTo (wordN op rd rs1 rs2 imm) (placeP (formV op)) (plen (formV op)) : Int) = numV (formV op) imm := by
  have hl := formV_letter P.isop
  have hv := (errOf_zero (places_ok _ hl)).2
  have h0 := numV_lo (formV op) imm
  have h1 := numV_lt (formV op) imm
  have hlt : (numV (formV op) imm).toNat < 2 ^ plen (formV op) := by
    have : (((numV (formV op) imm).toNat : Nat) : Int) < ((2 ^ plen (formV op) : Nat) : Int) := by
      rw [Int.toNat_of_nonneg h0]
      simpa using h1
    exact_mod_cast this
  have e1 := scat_gath (wordN op rd rs1 rs2 imm) (placeP (formV op)) (plen (formV op))
  have e2 : wordN op rd rs1 rs2 imm &&& seenTo (placeP (formV op)) (plen (formV op)) = scatN (formV op) imm := word_num P
  have e3 := gath_scat (gathTo (wordN op rd rs1 rs2 imm) (placeP (formV op)) (plen (formV op))) hv (gathTo_lt _ _ _)
  have e4 := gath_scat (numV (formV op) imm).toNat hv hlt
  rw [e1, e2] at e3
  have e5 : gathTo (wordN op rd rs1 rs2 imm) (placeP (formV op)) (plen (formV op)) = (numV (formV op) imm).toNat := by
    rw [← e3]
    exact e4
  rw [e5, Int.toNat_of_nonneg h0]

theorem tdiv_even {v : Int} (h : v % 2 = 0) : v.tdiv 2 = v / 2 := Int.tdiv_eq_ediv_of_dvd (Int.dvd_of_emod_eq_zero h)

/-- A form's number is told by what is written of it. -/
theorem num_inj {c v v' : Int} (hc : c ∈ letters) (h : numOk c v = true) (h' : numOk c v' = true) (e : numV c v = numV c v') : v = v' := by
  have k := of_decide_eq_true h
  have k' := of_decide_eq_true h'
  simp only [letters, List.mem_cons, List.not_mem_nil, or_false] at hc
  rcases hc with rfl | rfl | rfl | rfl | rfl | rfl | rfl | rfl | rfl | rfl | rfl | rfl | rfl | rfl | rfl
  all_goals simp [lowOf, highOf, byOf] at k k'
  all_goals simp [numV, plen, halfV, placeL, seg_length] at e
  all_goals first
    | omega
    | (rw [tdiv_even k.2.2, tdiv_even k'.2.2] at e; omega)

theorem word_inj {op rd rs1 rs2 imm op' rd' rs1' rs2' imm' : Int} (P : Parts op rd rs1 rs2 imm) (P' : Parts op' rd' rs1' rs2' imm') (e : wordN op rd rs1 rs2 imm = wordN op' rd' rs1' rs2' imm') :
    op = op' ∧ rd = rd' ∧ rs1 = rs1' ∧ rs2 = rs2' ∧ imm = imm' := by
  have b := isOp_true P.isop
  have b' := isOp_true P'.isop
  have f := word_fix P
  have f' := word_fix P'
  rw [formV_C P.isop, fixT_ok _ (by omega)] at f
  rw [formV_C P'.isop, fixT_ok _ (by omega)] at f'
  have hop : op = op' := by
    have := apart (op.toNat - 1) (by omega) (op'.toNat - 1) (by omega) (by
      rw [← f, ← f', e, Nat.and_assoc, Nat.and_assoc, Nat.and_comm (fixT _) (fixT _)])
    omega
  subst hop
  have hl := formV_letter P.isop
  have d := word_rd P
  have d1 := word_rs1 P
  have d2 := word_rs2 P
  rw [e] at d d1 d2
  have q := (word_rd P').symm.trans d
  have q1 := (word_rs1 P').symm.trans d1
  have q2 := (word_rs2 P').symm.trans d2
  have r := regOk_range P.okd
  have r1 := regOk_range P.ok1
  have r2 := regOk_range P.ok2
  have r' := regOk_range P'.okd
  have r1' := regOk_range P'.ok1
  have r2' := regOk_range P'.ok2
  have g := word_gath P
  rw [e, word_gath P'] at g
  refine ⟨rfl, ?_, ?_, ?_, num_inj hl P.num P'.num g.symm⟩
  · have := Nat.eq_of_mul_eq_mul_right (by decide) q; omega
  · have := Nat.eq_of_mul_eq_mul_right (by decide) q1; omega
  · have := Nat.eq_of_mul_eq_mul_right (by decide) q2; omega

end Go.Proofs.YtpaeemijpincpaaDoor
