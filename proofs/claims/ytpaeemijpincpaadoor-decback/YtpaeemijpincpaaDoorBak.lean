/- Plain facts on words that are read: which instruction's a word is, what is read of it, and that it is the word of what is read. -/
import Derived.Test.YtpaeemijpincpaaDoorBit
namespace Go.Proofs.YtpaeemijpincpaaDoor
open Go.RowKit

/-- The bits of a form's registers. -/
def regM (c : Int) : Nat := mRd c ||| mRs1 c ||| mRs2 c
/-- What stands at a form's places. -/
def gN (c : Int) (w : Nat) : Nat := gathTo w (placeP c) (plen c)
/-- A number of n bits, below 0 or not. -/
def sgV (g n : Nat) : Int := if (g : Int) < 2 ^ (n - 1) then (g : Int) else (g : Int) - 2 ^ n
def isSg (c : Int) : Bool := decide (c = 73 ∨ c = 76 ∨ c = 83)
def isTw (c : Int) : Bool := decide (c = 74 ∨ c = 66)
/-- The number, the registers that are read. -/
def numR (c : Int) (w : Nat) : Int := if isSg c then sgV (gN c w) (plen c) else if isTw c then 2 * sgV (gN c w) (plen c) else (gN c w : Int)
def rdR (c : Int) (w : Nat) : Int := if hasRd c then ((w / 128 % 32 : Nat) : Int) else 0
def rs1R (c : Int) (w : Nat) : Int := if hasRs1 c then ((w / 32768 % 32 : Nat) : Int) else 0
def rs2R (c : Int) (w : Nat) : Int := if hasRs2 c then ((w / 1048576 % 32 : Nat) : Int) else 0

theorem reg_and1 : ∀ c ∈ letters, regM c &&& 3968 = mRd c := by decide +kernel
theorem reg_and2 : ∀ c ∈ letters, regM c &&& 1015808 = mRs1 c := by decide +kernel
theorem reg_and3 : ∀ c ∈ letters, regM c &&& 32505856 = mRs2 c := by decide +kernel
theorem reg_lt : ∀ c ∈ letters, regM c < 4294967296 := by decide +kernel
theorem fix_lt : ∀ c ∈ letters, fixM c < 4294967296 := by decide +kernel
theorem fix_all : ∀ c ∈ letters, fixM c ||| (mRd c ||| mRs1 c ||| mRs2 c) ||| mNum c = 4294967295 := by decide +kernel
theorem scat_all : ∀ c ∈ letters, scatTo (2 ^ plen c - 1) (placeP c) (plen c) = mNum c := by decide +kernel
theorem fix_code : ∀ c ∈ letters, fixM c &&& 127 = 127 := by decide +kernel
theorem base_code : ∀ i, i < 94 → baseC i &&& 3 = 3 := by decide +kernel

theorem field_of {w M m a : Nat} {b : Bool} (h : M &&& (31 * 2 ^ a) = m) (hm : m = if b then 31 * 2 ^ a else 0) : (w &&& M) / 2 ^ a % 32 = if b then w / 2 ^ a % 32 else 0 := by
  have e := and_field (w &&& M) a 5
  have e2 : (2 ^ 5 - 1) * 2 ^ a = 31 * 2 ^ a := rfl
  rw [e2, Nat.and_assoc, h, hm] at e
  cases b
  · simp only [Bool.false_eq_true, if_false, Nat.and_zero] at e ⊢
    have hp := Nat.two_pow_pos a
    rcases Nat.eq_zero_or_pos ((w &&& M) / 2 ^ a % 2 ^ 5) with h0 | h0
    · exact h0
    · have := Nat.mul_pos h0 hp
      omega
  · simp only [if_true] at e ⊢
    have e3 := and_field w a 5
    rw [e2, e] at e3
    exact Nat.eq_of_mul_eq_mul_right (Nat.two_pow_pos a) e3
theorem take_rd {c : Int} (hc : c ∈ letters) (w : Nat) : (((w &&& regM c) / 128 % 32 : Nat) : Int) = rdR c w := by
  have := field_of (w := w) (a := 7) (b := hasRd c) (reg_and1 c hc) rfl
  simp only [rdR]
  rw [show (128 : Nat) = 2 ^ 7 from rfl, this]
  split <;> rfl
theorem take_rs1 {c : Int} (hc : c ∈ letters) (w : Nat) : (((w &&& regM c) / 32768 % 32 : Nat) : Int) = rs1R c w := by
  have := field_of (w := w) (a := 15) (b := hasRs1 c) (reg_and2 c hc) rfl
  simp only [rs1R]
  rw [show (32768 : Nat) = 2 ^ 15 from rfl, this]
  split <;> rfl
theorem take_rs2 {c : Int} (hc : c ∈ letters) (w : Nat) : (((w &&& regM c) / 1048576 % 32 : Nat) : Int) = rs2R c w := by
  have := field_of (w := w) (a := 20) (b := hasRs2 c) (reg_and3 c hc) rfl
  simp only [rs2R]
  rw [show (1048576 : Nat) = 2 ^ 20 from rfl, this]
  split <;> rfl

theorem gN_lt (c : Int) (w : Nat) : gN c w < 2 ^ plen c := gathTo_lt _ _ _
theorem letters_cases {c : Int} (hc : c ∈ letters) : c = 85 ∨ c = 74 ∨ c = 76 ∨ c = 66 ∨ c = 83 ∨ c = 73 ∨ c = 54 ∨ c = 82 ∨ c = 53 ∨ c = 70 ∨ c = 78 ∨ c = 67 ∨ c = 90 ∨ c = 108 ∨ c = 65 := by
  simpa [letters] using hc
theorem num_facts : ∀ c ∈ letters, (isSg c = true → isTw c = false ∧ 1 ≤ plen c ∧ lowOf c = - 2 ^ (plen c - 1) ∧ highOf c = 2 ^ (plen c - 1) - 1 ∧ byOf c = 1)
    ∧ (isTw c = true → isSg c = false ∧ 1 ≤ plen c ∧ lowOf c = - 2 ^ plen c ∧ highOf c = 2 ^ plen c - 2 ∧ byOf c = 2)
    ∧ (isSg c = false → isTw c = false → lowOf c = 0 ∧ highOf c = 2 ^ plen c - 1 ∧ byOf c = 1) := by decide +kernel
theorem sg_lo {g n : Nat} (hn : 1 ≤ n) (h : g < 2 ^ n) : -2 ^ (n - 1) ≤ sgV g n ∧ sgV g n ≤ 2 ^ (n - 1) - 1 := by
  have e := two_pow_half hn
  have hp := two_pow_pos' (n - 1)
  have h' : (g : Int) < 2 ^ n := cast_lt_pow.mpr h
  unfold sgV
  split <;> constructor <;> omega
theorem sg_mod {g n : Nat} (h : g < 2 ^ n) : sgV g n % 2 ^ n = g := by
  have h' : (g : Int) < 2 ^ n := cast_lt_pow.mpr h
  unfold sgV
  split
  · exact Int.emod_eq_of_lt (by omega) h'
  · rw [Int.sub_emod_right]
    exact Int.emod_eq_of_lt (by omega) h'
theorem num_ok {c : Int} (hc : c ∈ letters) (w : Nat) : numOk c (numR c w) = true := by
  obtain ⟨f1, f2, f3⟩ := num_facts c hc
  have hg := gN_lt c w
  have hg' : (gN c w : Int) < 2 ^ plen c := cast_lt_pow.mpr hg
  refine decide_eq_true ?_
  cases hs : isSg c
  · cases ht : isTw c
    · obtain ⟨e1, e2, e3⟩ := f3 hs ht
      rw [e1, e2, e3]
      simp only [numR, hs, ht, Bool.false_eq_true, if_false]
      omega
    · obtain ⟨_, h1, e1, e2, e3⟩ := f2 ht
      have := sg_lo h1 hg
      have e := two_pow_half h1
      rw [e1, e2, e3]
      simp only [numR, hs, ht, Bool.false_eq_true, if_false, if_true]
      omega
  · obtain ⟨_, h1, e1, e2, e3⟩ := f1 hs
    have := sg_lo h1 hg
    rw [e1, e2, e3]
    simp only [numR, hs, if_true]
    omega
theorem tw_half {c v : Int} : halfV c v = if isTw c then v.tdiv 2 else v := by simp [halfV, isTw]
theorem num_back {c : Int} (hc : c ∈ letters) (w : Nat) : numV c (numR c w) = gN c w := by
  obtain ⟨f1, f2, f3⟩ := num_facts c hc
  have hg := gN_lt c w
  have hg' : (gN c w : Int) < 2 ^ plen c := cast_lt_pow.mpr hg
  unfold numV
  rw [tw_half]
  cases hs : isSg c
  · cases ht : isTw c
    · simp only [numR, hs, ht, Bool.false_eq_true, if_false]
      exact Int.emod_eq_of_lt (by omega) hg'
    · simp only [numR, hs, ht, Bool.false_eq_true, if_false, if_true]
      rw [Int.mul_tdiv_cancel_left _ (by decide)]
      exact sg_mod hg
  · obtain ⟨ht, _⟩ := f1 hs
    simp only [numR, hs, ht, Bool.false_eq_true, if_false, if_true]
    exact sg_mod hg
theorem scat_back {c : Int} (hc : c ∈ letters) (w : Nat) : scatN c (numR c w) = w &&& mNum c := by
  unfold scatN
  rw [num_back hc, Int.toNat_natCast]
  exact scat_gath _ _ _

theorem isOp_succ {k : Nat} (hk : k < 94) : isOp ((k : Int) + 1) = true := by simp only [isOp]; exact decide_eq_true (by omega)
theorem toNat_succ (k : Nat) : ((k : Int) + 1).toNat - 1 = k := by omega
theorem formV_succ {k : Nat} (hk : k < 94) : formV ((k : Int) + 1) = formC k := by rw [formV_C (isOp_succ hk), toNat_succ]

theorem reg_ok {b : Bool} (n : Nat) (h : n < 32) : regOk b (if b then (n : Int) else 0) = true := by
  refine decide_eq_true ?_
  cases b
  · simp
  · simp; omega
/-- What is read may be, whatever the word. -/
theorem read_may {k : Nat} (hk : k < 94) (w : Nat) : mayB ((k : Int) + 1) (rdR (formC k) w) (rs1R (formC k) w) (rs2R (formC k) w) (numR (formC k) w) = true := by
  have hc := formC_letter k hk
  unfold mayB
  rw [formV_succ hk, isOp_succ hk, num_ok hc]
  have h1 := reg_ok (b := hasRd (formC k)) (w / 128 % 32) (Nat.mod_lt _ (by decide))
  have h2 := reg_ok (b := hasRs1 (formC k)) (w / 32768 % 32) (Nat.mod_lt _ (by decide))
  have h3 := reg_ok (b := hasRs2 (formC k)) (w / 1048576 % 32) (Nat.mod_lt _ (by decide))
  unfold rdR rs1R rs2R
  rw [h1, h2, h3]
  rfl
theorem fld_back {b : Bool} {w a : Nat} : (if b then ((w / 2 ^ a % 32 : Nat) : Int) else 0).toNat * 2 ^ a = w &&& (if b then 31 * 2 ^ a else 0) := by
  cases b
  · simp
  · simp only [if_true, Int.toNat_natCast]
    exact (and_field w a 5).symm
/-- The word of what is read: the base, and the word's own bits at all fields. -/
theorem read_word {k : Nat} (hk : k < 94) (w : Nat) : wordN ((k : Int) + 1) (rdR (formC k) w) (rs1R (formC k) w) (rs2R (formC k) w) (numR (formC k) w)
    = (baseC k ||| ((w &&& mRd (formC k)) ||| (w &&& mRs1 (formC k)) ||| (w &&& mRs2 (formC k)))) ||| (w &&& mNum (formC k)) := by
  have hc := formC_letter k hk
  unfold wordN regN
  rw [toNat_succ, formV_succ hk, scat_back hc]
  have h1 := fld_back (b := hasRd (formC k)) (w := w) (a := 7)
  have h2 := fld_back (b := hasRs1 (formC k)) (w := w) (a := 15)
  have h3 := fld_back (b := hasRs2 (formC k)) (w := w) (a := 20)
  have g1 : (rdR (formC k) w).toNat * 128 = w &&& mRd (formC k) := h1
  have g2 : (rs1R (formC k) w).toNat * 32768 = w &&& mRs1 (formC k) := h2
  have g3 : (rs2R (formC k) w).toNat * 1048576 = w &&& mRs2 (formC k) := h3
  rw [g1, g2, g3]

/-- Is the word this instruction's? -/
def hitB (w k : Nat) : Bool := w &&& fixT k == baseC k
theorem hit_fix {w k : Nat} (hk : k < 94) (h : hitB w k = true) : w &&& fixM (formC k) = baseC k := by rw [fixT_ok k hk]; exact eq_of_beq h
theorem hit_of {w k : Nat} (hk : k < 94) (h : w &&& fixM (formC k) = baseC k) : hitB w k = true := by rw [fixT_ok k hk] at h; exact beq_iff_eq.mpr h
theorem read_back {k w : Nat} (hk : k < 94) (hw : w < 4294967296) (h : hitB w k = true) :
    wordN ((k : Int) + 1) (rdR (formC k) w) (rs1R (formC k) w) (rs2R (formC k) w) (numR (formC k) w) = w := by
  rw [read_word hk, ← hit_fix hk h, ← Nat.and_or_distrib_left, ← Nat.and_or_distrib_left, ← Nat.and_or_distrib_left, ← Nat.and_or_distrib_left, fix_all _ (formC_letter k hk)]
  rw [show 4294967295 = 2 ^ 32 - 1 from rfl, Nat.and_two_pow_sub_one_eq_mod]
  exact Nat.mod_eq_of_lt hw
/-- .. and it is its word just if it is this instruction's. -/
theorem read_iff {k w : Nat} (hk : k < 94) (hw : w < 4294967296) :
    (wordN ((k : Int) + 1) (rdR (formC k) w) (rs1R (formC k) w) (rs2R (formC k) w) (numR (formC k) w) == w) = hitB w k := by
  rw [Bool.eq_iff_iff, beq_iff_eq]
  refine ⟨fun e => hit_of hk ?_, read_back hk hw⟩
  have := word_fix (parts_of (read_may hk w))
  rw [e, formV_succ hk, toNat_succ] at this
  exact this
theorem hit_one {w i j : Nat} (hi : i < 94) (hj : j < 94) (h : hitB w i = true) (h' : hitB w j = true) : i = j := by
  have e := eq_of_beq h
  have e' := eq_of_beq h'
  refine apart i hi j hj ?_
  rw [← e, ← e', Nat.and_assoc, Nat.and_assoc, Nat.and_comm (fixT i)]

/-- Which instruction's a word is; 94: none's. -/
def dK (w : Nat) : Nat := (List.range 94).findIdx (hitB w)
theorem dK_le (w : Nat) : dK w ≤ 94 := by
  have := List.findIdx_le_length (xs := List.range 94) (p := hitB w)
  simpa [dK] using this
theorem dK_hit {w : Nat} (h : dK w < 94) : hitB w (dK w) = true := by
  have := List.findIdx_getElem (xs := List.range 94) (p := hitB w) (w := by simpa [dK] using h)
  simpa [dK] using this
theorem dK_of {w k : Nat} (hk : k < 94) (h : hitB w k = true) : dK w = k := by
  have hlt : dK w < 94 := by
    have := List.findIdx_lt_length_of_exists (xs := List.range 94) (p := hitB w) ⟨k, by simpa using hk, h⟩
    simpa [dK] using this
  exact hit_one hlt hk (dK_hit hlt) h
theorem dK_none {w k : Nat} (hk : k < 94) (h : ¬ dK w < 94) : hitB w k = false := by
  cases hh : hitB w k
  · rfl
  · exact absurd (by rw [dK_of hk hh]; exact hk) h

/-- What Insn tells of a word. -/
def dOp (w : Nat) : Int := if dK w < 94 then (dK w : Int) + 1 else 0
def dRd (w : Nat) : Int := if dK w < 94 then rdR (formC (dK w)) w else 0
def dRs1 (w : Nat) : Int := if dK w < 94 then rs1R (formC (dK w)) w else 0
def dRs2 (w : Nat) : Int := if dK w < 94 then rs2R (formC (dK w)) w else 0
def dImm (w : Nat) : Int := if dK w < 94 then numR (formC (dK w)) w else 0
def dErr (w : Nat) : Int := if dK w < 94 then 0 else 40
/-- An instruction's word is read back. -/
theorem dec_word {op rd rs1 rs2 imm : Int} (P : Parts op rd rs1 rs2 imm) (hl : wordN op rd rs1 rs2 imm < 4294967296) :
    dErr (wordN op rd rs1 rs2 imm) = 0 ∧ dOp (wordN op rd rs1 rs2 imm) = op ∧ dRd (wordN op rd rs1 rs2 imm) = rd ∧ dRs1 (wordN op rd rs1 rs2 imm) = rs1 ∧ dRs2 (wordN op rd rs1 rs2 imm) = rs2 ∧ dImm (wordN op rd rs1 rs2 imm) = imm := by
  have ho := isOp_true P.isop
  obtain ⟨k, hk, rfl⟩ : ∃ k : Nat, k < 94 ∧ op = (k : Int) + 1 := ⟨op.toNat - 1, by omega, by omega⟩
  have hf := word_fix P
  rw [formV_succ hk, toNat_succ] at hf
  generalize hW : wordN ((k : Int) + 1) rd rs1 rs2 imm = W at hf hl ⊢
  have hh := hit_of hk hf
  have e := dK_of hk hh
  have hb := read_back hk hl hh
  rw [← hW] at hb
  obtain ⟨_, e1, e2, e3, e4⟩ := word_inj (parts_of (read_may hk W)) P (by rw [hW] at hb ⊢; exact hb)
  simp only [dErr, dOp, dRd, dRs1, dRs2, dImm, e, hk, if_true]
  exact ⟨trivial, trivial, e1, e2, e3, e4⟩
/-- A word that is an instruction's is that instruction's word. -/
theorem dec_back {w : Nat} (hw : w < 4294967296) (h : dErr w = 0) :
    mayB (dOp w) (dRd w) (dRs1 w) (dRs2 w) (dImm w) = true ∧ wordN (dOp w) (dRd w) (dRs1 w) (dRs2 w) (dImm w) = w := by
  have hk : dK w < 94 := by
    rcases Nat.lt_or_ge (dK w) 94 with hk | hk
    · exact hk
    · rw [dErr, if_neg (by omega)] at h; omega
  simp only [dOp, dRd, dRs1, dRs2, dImm, hk, if_true]
  exact ⟨read_may hk w, read_back hk hw (dK_hit hk)⟩
theorem dErr_or (w : Nat) : dErr w = 0 ∨ dErr w = 40 := by unfold dErr; split <;> simp
end Go.Proofs.YtpaeemijpincpaaDoor
