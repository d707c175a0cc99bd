/- cenc's own rows tell what the document's do, of instructions that may be. -/
import Derived.Test.YtpimdldgejlekaaPg
import Derived.Test.YtpimdldgejlekaaPn
import Derived.Test.YtpimdldgejlekaaPh
import Derived.Test.YtpimdldgejlekaaCi
namespace Go.Proofs.Ytpimdldgejlekaa
open Go.RowKit

theorem needT : ∀ k, k < 33 → cForm k ∈ ([97, 108, 110, 106, 114, 122, 117, 112, 113, 119, 74, 75] : List UInt8) → hasRs2 (formV (cOp k)) = false := by decide +kernel
theorem needD : ∀ k, k < 33 → cForm k ∈ ([115, 98, 116] : List UInt8) → hasRd (formV (cOp k)) = false := by decide +kernel
theorem needS : ∀ k, k < 33 → cForm k ∈ ([106, 117] : List UInt8) → hasRs1 (formV (cOp k)) = false := by decide +kernel
theorem reg_zero {h : Bool} {n : Int} (hr : regOk h n = true) (hf : h = false) : n = 0 := by
  have := of_decide_eq_true hr
  rw [hf] at this
  simpa using this.2.2
/-- What an instruction can't have is 0: so the forms have the same registers. -/
theorem rightP_eq {k : Nat} (hk : k < 33) {d s t imm : Int} (hm : mayB (cOp k) d s t imm = true) : rightP (cForm k) d s t = rightB (cForm k) d s t := by
  simp only [mayB, Bool.and_eq_true] at hm
  obtain ⟨_, m1, m2, m3, _⟩ := hm
  have zT := fun h => reg_zero m3 (needT k hk h)
  have zD := fun h => reg_zero m1 (needD k hk h)
  have zS := fun h => reg_zero m2 (needS k hk h)
  have hf := cForm_cases k hk
  clear m1 m2 m3
  generalize cForm k = f at zT zD zS hf ⊢
  simp only [List.mem_cons, List.not_mem_nil, or_false] at hf
  rcases hf with rfl | rfl | rfl | rfl | rfl | rfl | rfl | rfl | rfl | rfl | rfl | rfl | rfl | rfl | rfl | rfl | rfl | rfl
  all_goals
    simp at zT zD zS
    rw [Bool.eq_iff_iff]
    simp [rightP, rightB, highB]
    try omega

theorem kinds_same : ∀ k, k < 33 → (cKind k = 117 ∧ pKind k = 0) ∨ (cKind k = 48 ∧ pKind k = 0 ∧ cBy k = 1 ∧ cLen k = 0) ∨ (cKind k = 112 ∧ pKind k = 1) ∨ (cKind k = 115 ∧ pKind k = 2) ∨ (cKind k = 110 ∧ pKind k = 3) ∨ (cKind k = 108 ∧ pKind k = 4 ∧ cBy k = 1) := by decide +kernel
theorem fitsP_eq {k : Nat} (hk : k < 33) {n : Int} (hn : -1048576 ≤ n ∧ n ≤ 1048575) : ((n.tmod (cBy k) == 0) && hasP (pKind k) (2 ^ cLen k) (n.tdiv (cBy k))) = cfitsB (cKind k) (cBy k) (cLen k) n := by
  unfold cfitsB
  congr 1
  rcases kinds_same k hk with ⟨h1, h2⟩ | ⟨h1, h2, h3, h4⟩ | ⟨h1, h2⟩ | ⟨h1, h2⟩ | ⟨h1, h2⟩ | ⟨h1, h2, h3⟩
  · rw [h1, h2, Bool.eq_iff_iff]; simp [hasP, kindB]
  · rw [h1, h2, h3, h4, Bool.eq_iff_iff]; simp [hasP, kindB]; omega
  · rw [h1, h2, Bool.eq_iff_iff]; simp [hasP, kindB]
  · rw [h1, h2, Bool.eq_iff_iff]; simp [hasP, kindB]
  · rw [h1, h2, Bool.eq_iff_iff]; simp [hasP, kindB, and_assoc]
  · rw [h1, h2, h3, Bool.eq_iff_iff]; simp [hasP, kindB]; omega
theorem num_same (k : Nat) (n : Int) : n.tdiv (cBy k) % 2 ^ cLen k = cNum k n := by
  unfold cNum
  split
  · rw [Int.add_emod_right]
  · rfl

theorem or4 (a b c e : Nat) (ha : a < 4294967296) (hb : b < 4294967296) (hc : c < 4294967296) (he : e < 4294967296) :
    bits .or .u32 (bits .or .u32 (bits .or .u32 (a : Int) (b : Int)) (c : Int)) (e : Int) = ((a ||| b ||| c ||| e : Nat) : Int) := by
  have l4 : (a ||| b) < 4294967296 := Nat.or_lt_two_pow (n := 32) ha hb
  have l5 : (a ||| b ||| c) < 4294967296 := Nat.or_lt_two_pow (n := 32) l4 hc
  rw [u32_or_nat _ _ ha hb, u32_or_nat _ _ l4 hc, u32_or_nat _ _ l5 he]

theorem of5_of {k : Nat} (hk : k < 33) {op d s t imm : Int} (hm : mayB op d s t imm = true) (hr : rowB k op d s t imm = true) : Of5 k d s t imm := by
  have m5 := may5_of hm
  simp only [rowB, Bool.and_eq_true] at hr
  exact ⟨hk, hr.1.2, hr.2, m5.d, m5.s, m5.t⟩

theorem half_word {k : Nat} {d s t imm : Int} (h : Of5 k d s t imm) :
    IntKind.u16.wrap (bits .or .u32 (bits .or .u32 (bits .or .u32 (cBits k : Int) (lowV (cForm k) d s t * 4)) (hiV (cForm k) d s t * 128)) (cScat k imm : Int)) = cHalf k d s t imm := by
  have hreg := regs_ok (cForm_cases k h.lt) h.right h.d h.s h.t
  obtain ⟨l1, l2, l3, l4⟩ := clt k h.lt
  have s1 := sub_lt h.l l1
  have s2 := sub_lt h.h l2
  have s3 := sub_lt (cscat_sub k imm) l3
  have e1 : lowV (cForm k) d s t * 4 = (lN k d s t : Int) := by unfold lN; omega
  have e2 : hiV (cForm k) d s t * 128 = (hN k d s t : Int) := by unfold hN; omega
  rw [e1, e2, or4 _ _ _ _ (by omega) (by omega) (by omega) (by omega), half_num h, u16_wrap]
  have hlt := half_lt h
  unfold halfN at hlt ⊢
  omega

set_option maxHeartbeats 1600000 in
/-- A row's short form of an instruction that may be. -/
theorem halfP_walk (k : Nat) (hk : k < 33) (op d s t imm : Int) (hm : mayB op d s t imm = true) (a : Option Addr) (cap : Nat) (w : World) (hC : Cells w a (cLen k) (cPlP k)) :
    Calls Try.prog 14 #[.agg (pCells k a (cLen k) cap), insnV op d s t imm] w fun e w' => e = .returned (.tuple #[.int .u16 (cond (rowB k op d s t imm) (cHalf k d s t imm) 0), .bool (rowB k op d s t imm)]) ∧ Kept w w' := by
  have m5 := may5_of hm
  by_cases ho : op = cOp k
  · subst ho
    have e1 := rightP_eq hk hm
    have e2 := fitsP_eq hk m5.n
    have hr : rowB k (cOp k) d s t imm = (rightP (cForm k) d s t && ((imm.tmod (cBy k) == 0) && hasP (pKind k) (2 ^ cLen k) (imm.tdiv (cBy k)))) := by
      rw [e1, e2]
      simp [rowB]
    have hw : rowB k (cOp k) d s t imm = true → Of5 k d s t imm := of5_of hk hm
    rw [hr] at hw ⊢
    have hG := fun w => regsP_walk (cForm k) (by simpa only [List.mem_cons, List.not_mem_nil, or_false, or_comm, or_left_comm, or_assoc] using cForm_cases k hk) (cOp k) d s t imm m5.d m5.s m5.t w
    have hN := fun w => numberP_walk (pKind k) (cLen k) (kinds_rows k hk) (cOp k) (cBits k) ((cForm k).toNat) (cBy k) a cap imm (cBy_range k hk) m5.n w
    refine half_gen _ _ _ _ _ _ _ _ _ _ _ _ (scatV (if imm.tmod (cBy k) = 0 then imm.tdiv (cBy k) % 2 ^ cLen k else 0) (cPlP k) (cLen k)) (cHalf k d s t imm) _ _ _ w _ _ ?_ ?_ ?_ hG hN ?_
    · intro h1 h2
      have h5 := hw (by rw [h1, h2]; rfl)
      rw [← half_word h5]
      have hz : imm.tmod (cBy k) = 0 := by
        have := (Bool.and_eq_true _ _ ▸ h2 : _ ∧ _).1
        simpa using this
      rw [if_pos hz, num_same]
      have : scatV (cNum k imm) (cPlP k) (cLen k) = (cScat k imm : Int) := by
        unfold scatV cScat
        rw [if_pos (cPl_ok k hk), if_pos (cNum_lt k imm)]
      rw [this]
    · intro h1
      rw [e1] at h1
      have := regs_ok (cForm_cases k hk) h1 m5.d m5.s m5.t
      have := low_range (cForm k) m5.d m5.s m5.t
      omega
    · intro h1
      rw [e1] at h1
      have := regs_ok (cForm_cases k hk) h1 m5.d m5.s m5.t
      have := hi_range (cForm k) m5.d m5.s m5.t
      omega
    · intro w' hK
      have hv0 : 0 ≤ (if imm.tmod (cBy k) = 0 then imm.tdiv (cBy k) % 2 ^ cLen k else 0) := by
        split
        · rw [num_same]; exact cNum_lo k imm
        · exact Int.le_refl _
      have hv1 : (if imm.tmod (cBy k) = 0 then imm.tdiv (cBy k) % 2 ^ cLen k else 0) < 2 ^ cLen k := by
        split
        · rw [num_same]; exact cNum_lt k imm
        · exact two_pow_pos' _
      have hl := (room_small (cLen_le k hk)).2
      refine (scatter_u _ hv0 (by omega) a (cLen k) cap (cPlP k) w' (hC.kept hK)).mono ?_
      rintro e w'' ⟨rfl, rfl⟩
      refine ⟨?_, rfl⟩
      have : scatE (if imm.tmod (cBy k) = 0 then imm.tdiv (cBy k) % 2 ^ cLen k else 0) (cPlP k) (cLen k) = 0 := by
        unfold scatE
        rw [if_pos (cPl_ok k hk), decide_eq_true hv1]
        rfl
      rw [this]
  · have hr : rowB k op d s t imm = false := by
      have : ((cOp k : Int) == op) = false := by simpa using fun h => ho h.symm
      simp [rowB, this]
    rw [hr]
    exact half_other _ _ _ _ _ _ _ _ _ _ _ _ _ _ (by simpa using ho)
end Go.Proofs.Ytpimdldgejlekaa
