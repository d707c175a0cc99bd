/- What a row of cenc's gives of an instruction. cenc's own rows tell what the document's do, of instructions that may be. What cenc's own Half and Short give. -/
import Derived.Test.YtbmcanpjpibecaaDoorPr
import Derived.Deep.DeepCutAuto
import Derived.Test.YtbmcanpjpibecaaDoorPg
import Derived.Test.YtbmcanpjpibecaaDoorPn
import Derived.Test.YtbmcanpjpibecaaDoorCi
namespace Go.Proofs.YtbmcanpjpibecaaDoor
open Go.RowKit

theorem half_other (op o bi fo kd by_ d s t imm : Int) (ln cap : Nat) (a : Option Addr) (w : World) (hne : (op == o) = false) :
    Calls Tryd.prog 19 #[.agg #[.int .u8 o, .int .u32 bi, .int .u8 fo, .int .u8 kd, .int .i64 by_, .slice a ln cap], insnV op d s t imm] w fun e w' => e = .returned (.tuple #[.int .u16 0, .bool false]) ∧ Kept w w' := by
  have hne' : (op != o) = true := by rw [bne, hne]; rfl
  have hne2 : ¬ op = o := by simpa using hne
  go_enter Tryd.func19, Tryd.ntmps19
  go_wp2
  go_ret2
  exact ⟨rfl, (Kept.alloc _ _).trans (Kept.alloc _ _)⟩

set_option maxRecDepth 20000 in
set_option maxHeartbeats 3200000 in
theorem half_gen (op bi fo kd by_ d s t imm lo hi nv sc H : Int) (ln cap : Nat) (a : Option Addr) (w : World) (rp fb : Bool)
    (hH : rp = true → fb = true → IntKind.u16.wrap (bits .or .u32 (bits .or .u32 (bits .or .u32 bi (lo * 4)) (hi * 128)) sc) = H) (hlo : rp = true → 0 ≤ lo ∧ lo ≤ 31) (hhi : rp = true → 0 ≤ hi ∧ hi ≤ 31)
    (hG : ∀ w, Calls Tryd.prog 28 #[insnV op d s t imm, .int .u8 fo] w fun e w' => e = .returned (.tuple #[.int .i64 lo, .int .i64 hi, .bool rp]) ∧ Kept w w')
    (hN : ∀ w, Calls Tryd.prog 29 #[.agg #[.int .u8 op, .int .u32 bi, .int .u8 fo, .int .u8 kd, .int .i64 by_, .slice a ln cap], .int .i64 imm] w fun e w' => e = .returned (.tuple #[.int .u32 nv, .bool fb]) ∧ Kept w w')
    (hS : ∀ w', Kept w w' → Calls Tryd.prog 30 #[.int .u32 nv, .slice a ln cap] w' fun e w'' => e = .returned (.tuple #[.int .u32 sc, .int .i64 0]) ∧ w'' = w') :
    Calls Tryd.prog 19 #[.agg #[.int .u8 op, .int .u32 bi, .int .u8 fo, .int .u8 kd, .int .i64 by_, .slice a ln cap], insnV op d s t imm] w fun e w' => e = .returned (.tuple #[.int .u16 (cond (rp && fb) H 0), .bool (rp && fb)]) ∧ Kept w w' := by
  have hK0 : Kept w ((w.alloc (.cells #[.int .u8 op, .int .u32 bi, .int .u8 fo, .int .u8 kd, .int .i64 by_, .slice a ln cap] 45)).alloc (.cells #[.int .u8 op, .int .i64 d, .int .i64 s, .int .i64 t, .int .i64 imm] 27)) := (Kept.alloc _ _).trans (Kept.alloc _ _)
  go_enter Tryd.func19, Tryd.ntmps19
  go_upto_region 4 with (go_at_call 28; refine (hG _).mono ?_; rintro e w1 ⟨rfl, hk1⟩)
  have r0 : w1.cell? ⟨w.heap.size, 0, none⟩ = some (.int .u8 op) := Kept.cell hk1 (by simp)
  have r1 : w1.cell? ⟨w.heap.size, 1, none⟩ = some (.int .u32 bi) := Kept.cell hk1 (by simp)
  have r2 : w1.cell? ⟨w.heap.size, 2, none⟩ = some (.int .u8 fo) := Kept.cell hk1 (by simp)
  have r3 : w1.cell? ⟨w.heap.size, 3, none⟩ = some (.int .u8 kd) := Kept.cell hk1 (by simp)
  have r4 : w1.cell? ⟨w.heap.size, 4, none⟩ = some (.int .i64 by_) := Kept.cell hk1 (by simp)
  have r5 : w1.cell? ⟨w.heap.size, 5, none⟩ = some (.slice a ln cap) := Kept.cell hk1 (by simp)
  have i4 : w1.cell? ⟨w.heap.size + 1, 4, none⟩ = some (.int .i64 imm) := Kept.cell hk1 (by simp)
  have hK1 := hK0.trans hk1
  clear hk1 hK0
  go_upto_region 5 with (go_at_call 29; refine (hN _).mono ?_; rintro e w2 ⟨rfl, hk2⟩)
  replace r1 := Kept.cell hk2 r1
  replace r5 := Kept.cell hk2 r5
  clear r0 r2 r3 r4 i4
  have hK2 := hK1.trans hk2
  clear hk2 hK1
  cases rp
  · go_wp2
    go_ret2
    exact ⟨rfl, hK2⟩
  · cases fb
    · go_wp2
      go_ret2
      exact ⟨rfl, hK2⟩
    · have hlo := hlo rfl
      have hhi := hhi rfl
      have hH := hH rfl rfl
      go_wp2_with (go_at_call 30; refine (hS _ hK2).mono ?_; rintro e w3 ⟨rfl, rfl⟩)
      go_ret2
      exact ⟨by first | rfl | (rw [← hH]; rfl), hK2⟩

theorem needT : ∀ k, k < 33 → cForm k ∈ ([97, 108, 110, 106, 114, 122, 117, 112, 113, 119, 74, 75] : List UInt8) → hasRs2 (formV (cOp k)) = false := by decide +kernel
theorem needD : ∀ k, k < 33 → cForm k ∈ ([115, 98, 116] : List UInt8) → hasRd (formV (cOp k)) = false := by decide +kernel
theorem needS : ∀ k, k < 33 → cForm k ∈ ([106, 117] : List UInt8) → hasRs1 (formV (cOp k)) = false := by decide +kernel
theorem reg_zero {h : Bool} {n : Int} (hr : regOk h n = true) (hf : h = false) : n = 0 := by
  have := of_decide_eq_true hr
  rw [hf] at this
  simpa using this.2.2
/-- What an instruction can't have is 0: so the forms have the same registers. -/
theorem rightP_eq {k : Nat} (hk : k < 33) {d s t imm : Int} (hm : mayB (cOp k) d s t imm = true) : rightP (cForm k) d s t = rightB (cForm k) d s t := by
  simp only [mayB, Bool.and_eq_true] at hm
  obtain ⟨_, m1, m2, m3, _⟩ := hm
  have zT := fun h => reg_zero m3 (needT k hk h)
  have zD := fun h => reg_zero m1 (needD k hk h)
  have zS := fun h => reg_zero m2 (needS k hk h)
  have hf := cForm_cases k hk
  clear m1 m2 m3
  generalize cForm k = f at zT zD zS hf ⊢
  simp only [List.mem_cons, List.not_mem_nil, or_false] at hf
  rcases hf with rfl | rfl | rfl | rfl | rfl | rfl | rfl | rfl | rfl | rfl | rfl | rfl | rfl | rfl | rfl | rfl | rfl | rfl
  all_goals
    simp at zT zD zS
    rw [Bool.eq_iff_iff]
    simp [rightP, rightB, highB]
    try omega

theorem kinds_same : ∀ k, k < 33 → (cKind k = 117 ∧ pKind k = 0) ∨ (cKind k = 48 ∧ pKind k = 0 ∧ cBy k = 1 ∧ cLen k = 0) ∨ (cKind k = 112 ∧ pKind k = 1) ∨ (cKind k = 115 ∧ pKind k = 2) ∨ (cKind k = 110 ∧ pKind k = 3) ∨ (cKind k = 108 ∧ pKind k = 4 ∧ cBy k = 1) := by decide +kernel
theorem fitsP_eq {k : Nat} (hk : k < 33) {n : Int} (hn : -1048576 ≤ n ∧ n ≤ 1048575) : ((n.tmod (cBy k) == 0) && hasP (pKind k) (2 ^ cLen k) (n.tdiv (cBy k))) = cfitsB (cKind k) (cBy k) (cLen k) n := by
  unfold cfitsB
  congr 1
  rcases kinds_same k hk with ⟨h1, h2⟩ | ⟨h1, h2, h3, h4⟩ | ⟨h1, h2⟩ | ⟨h1, h2⟩ | ⟨h1, h2⟩ | ⟨h1, h2, h3⟩
  · rw [h1, h2, Bool.eq_iff_iff]; simp [hasP, kindB]
  · rw [h1, h2, h3, h4, Bool.eq_iff_iff]; simp [hasP, kindB]; omega
  · rw [h1, h2, Bool.eq_iff_iff]; simp [hasP, kindB]
  · rw [h1, h2, Bool.eq_iff_iff]; simp [hasP, kindB]
  · rw [h1, h2, Bool.eq_iff_iff]; simp [hasP, kindB, and_assoc]
  · rw [h1, h2, h3, Bool.eq_iff_iff]; simp [hasP, kindB]; omega
theorem num_same (k : Nat) (n : Int) : n.tdiv (cBy k) % 2 ^ cLen k = cNum k n := by
  unfold cNum
  split
  · rw [Int.add_emod_right]
  · rfl

theorem or4 (a b c e : Nat) (ha : a < 4294967296) (hb : b < 4294967296) (hc : c < 4294967296) (he : e < 4294967296) :
    bits .or .u32 (bits .or .u32 (bits .or .u32 (a : Int) (b : Int)) (c : Int)) (e : Int) = ((a ||| b ||| c ||| e : Nat) : Int) := by
  have l4 : (a ||| b) < 4294967296 := Nat.or_lt_two_pow (n := 32) ha hb
  have l5 : (a ||| b ||| c) < 4294967296 := Nat.or_lt_two_pow (n := 32) l4 hc
  rw [u32_or_nat _ _ ha hb, u32_or_nat _ _ l4 hc, u32_or_nat _ _ l5 he]

theorem of5_of {k : Nat} (hk : k < 33) {op d s t imm : Int} (hm : mayB op d s t imm = true) (hr : rowB k op d s t imm = true) : Of5 k d s t imm := by
  have m5 := may5_of hm
  simp only [rowB, Bool.and_eq_true] at hr
  exact ⟨hk, hr.1.2, hr.2, m5.d, m5.s, m5.t⟩

theorem half_word {k : Nat} {d s t imm : Int} (h : Of5 k d s t imm) :
    IntKind.u16.wrap (bits .or .u32 (bits .or .u32 (bits .or .u32 (cBits k : Int) (lowV (cForm k) d s t * 4)) (hiV (cForm k) d s t * 128)) (cScat k imm : Int)) = cHalf k d s t imm := by
  have hreg := regs_ok (cForm_cases k h.lt) h.right h.d h.s h.t
  obtain ⟨l1, l2, l3, l4⟩ := clt k h.lt
  have s1 := sub_lt h.l l1
  have s2 := sub_lt h.h l2
  have s3 := sub_lt (cscat_sub k imm) l3
  have e1 : lowV (cForm k) d s t * 4 = (lN k d s t : Int) := by unfold lN; omega
  have e2 : hiV (cForm k) d s t * 128 = (hN k d s t : Int) := by unfold hN; omega
  rw [e1, e2, or4 _ _ _ _ (by omega) (by omega) (by omega) (by omega), half_num h, u16_wrap]
  have hlt := half_lt h
  unfold halfN at hlt ⊢
  omega

set_option maxHeartbeats 1600000 in
/-- A row's short form of an instruction that may be. -/
theorem halfP_walk (k : Nat) (hk : k < 33) (op d s t imm : Int) (hm : mayB op d s t imm = true) (a : Option Addr) (cap : Nat) (w : World) (hC : Cells w a (cLen k) (cPlP k)) :
    Calls Tryd.prog 19 #[.agg (pCells k a (cLen k) cap), insnV op d s t imm] w fun e w' => e = .returned (.tuple #[.int .u16 (cond (rowB k op d s t imm) (cHalf k d s t imm) 0), .bool (rowB k op d s t imm)]) ∧ Kept w w' := by
  have m5 := may5_of hm
  by_cases ho : op = cOp k
  · subst ho
    have e1 := rightP_eq hk hm
    have e2 := fitsP_eq hk m5.n
    have hr : rowB k (cOp k) d s t imm = (rightP (cForm k) d s t && ((imm.tmod (cBy k) == 0) && hasP (pKind k) (2 ^ cLen k) (imm.tdiv (cBy k)))) := by
      rw [e1, e2]
      simp [rowB]
    have hw : rowB k (cOp k) d s t imm = true → Of5 k d s t imm := of5_of hk hm
    rw [hr] at hw ⊢
    have hG := fun w => regsP_walk (cForm k) (by simpa only [List.mem_cons, List.not_mem_nil, or_false, or_comm, or_left_comm, or_assoc] using cForm_cases k hk) (cOp k) d s t imm m5.d m5.s m5.t w
    have hN := fun w => numberP_walk (pKind k) (cLen k) (kinds_rows k hk) (cOp k) (cBits k) ((cForm k).toNat) (cBy k) a cap imm (cBy_range k hk) m5.n w
    refine half_gen _ _ _ _ _ _ _ _ _ _ _ _ (scatV (if imm.tmod (cBy k) = 0 then imm.tdiv (cBy k) % 2 ^ cLen k else 0) (cPlP k) (cLen k)) (cHalf k d s t imm) _ _ _ w _ _ ?_ ?_ ?_ hG hN ?_
    · intro h1 h2
      have h5 := hw (by rw [h1, h2]; rfl)
      rw [← half_word h5]
      have hz : imm.tmod (cBy k) = 0 := by
        have := (Bool.and_eq_true _ _ ▸ h2 : _ ∧ _).1
        simpa using this
      rw [if_pos hz, num_same]
      have : scatV (cNum k imm) (cPlP k) (cLen k) = (cScat k imm : Int) := by
        unfold scatV cScat
        rw [if_pos (cPl_ok k hk), if_pos (cNum_lt k imm)]
      rw [this]
    · intro h1
      rw [e1] at h1
      have := regs_ok (cForm_cases k hk) h1 m5.d m5.s m5.t
      have := low_range (cForm k) m5.d m5.s m5.t
      omega
    · intro h1
      rw [e1] at h1
      have := regs_ok (cForm_cases k hk) h1 m5.d m5.s m5.t
      have := hi_range (cForm k) m5.d m5.s m5.t
      omega
    · intro w' hK
      have hv0 : 0 ≤ (if imm.tmod (cBy k) = 0 then imm.tdiv (cBy k) % 2 ^ cLen k else 0) := by
        split
        · rw [num_same]; exact cNum_lo k imm
        · exact Int.le_refl _
      have hv1 : (if imm.tmod (cBy k) = 0 then imm.tdiv (cBy k) % 2 ^ cLen k else 0) < 2 ^ cLen k := by
        split
        · rw [num_same]; exact cNum_lt k imm
        · exact two_pow_pos' _
      have hl := (room_small (cLen_le k hk)).2
      refine (scatter_u _ hv0 (by omega) a (cLen k) cap (cPlP k) w' (hC.kept hK)).mono ?_
      rintro e w'' ⟨rfl, rfl⟩
      refine ⟨?_, rfl⟩
      have : scatE (if imm.tmod (cBy k) = 0 then imm.tdiv (cBy k) % 2 ^ cLen k else 0) (cPlP k) (cLen k) = 0 := by
        unfold scatE
        rw [if_pos (cPl_ok k hk), decide_eq_true hv1]
        rfl
      rw [this]
  · have hr : rowB k op d s t imm = false := by
      have : ((cOp k : Int) == op) = false := by simpa using fun h => ho h.symm
      simp [rowB, this]
    rw [hr]
    exact half_other _ _ _ _ _ _ _ _ _ _ _ _ _ _ (by simpa using ho)

theorem run_index_rows (cs r : Array Value) (k : Nat) (hk : k < 33) (h : cs.extract (k * 6) (k * 6 + 6) = r) (w : World) :
    (Instr.index 46 (.agg cs) (.int .i64 k)).run Tryd.prog w = .ok (.agg r) w := by
  have h1 : (0 : Int) ≤ k ∧ (k : Int) < 33 := by omega
  have h2 : k < 33 := hk
  simp [Instr.index, asIntOf, part, h1, h2, h, go_sem]

open Go.Sort in
set_option maxRecDepth 20000 in
set_option maxHeartbeats 3200000 in
theorem halfC_walk (op d s t imm : Int) (_h0 : 0 ≤ op) (h1 : op ≤ 255) (w : World) :
    Calls Tryd.prog 8 #[insnV op d s t imm] w fun e w' => e = .returned (.tuple #[.int .u16 (hfV op d s t imm), .int .i64 (hfE op d s t imm)]) ∧ Kept w w' := by
  have hM := fun w => check_walk op d s t imm h1 w
  cases hm : mayB op d s t imm
  · have hc : chkV op d s t imm = 20 := by simp [chkV, hm]
    rw [hc] at hM
    have hv : hfV op d s t imm = 0 := by simp [hfV, hm]
    have he : hfE op d s t imm = 20 := by simp [hfE, hm]
    go_enter Tryd.func8, Tryd.ntmps8
    go_wp2_with (go_at_call 16; refine (hM _).mono ?_; rintro e w2 ⟨rfl, hk2⟩)
    go_ret2
    exact ⟨by rw [hv, he]; rfl, (Kept.alloc _ _).trans hk2⟩
  · have hc : chkV op d s t imm = 0 := by simp [chkV, hm]
    rw [hc] at hM
    have m5 := may5_of hm
    go_enter Tryd.func8, Tryd.ntmps8
    go_upto_region 4 with (go_at_call 16; refine (hM _).mono ?_; rintro e w1 ⟨rfl, hk1⟩)
    have e0 : w1.cell? ⟨w.heap.size, 0, none⟩ = some (.int .u8 op) := Kept.cell hk1 (by simp)
    have e1 : w1.cell? ⟨w.heap.size, 1, none⟩ = some (.int .i64 d) := Kept.cell hk1 (by simp)
    have e2 : w1.cell? ⟨w.heap.size, 2, none⟩ = some (.int .i64 s) := Kept.cell hk1 (by simp)
    have e3 : w1.cell? ⟨w.heap.size, 3, none⟩ = some (.int .i64 t) := Kept.cell hk1 (by simp)
    have e4 : w1.cell? ⟨w.heap.size, 4, none⟩ = some (.int .i64 imm) := Kept.cell hk1 (by simp)
    have hK1 := (Kept.alloc w (.cells #[.int .u8 op, .int .i64 d, .int .i64 s, .int .i64 t, .int .i64 imm] 27)).trans hk1
    clear hk1 hM
    go_wp2_with (go_at_call 18; refine (prows_walk _).mono ?_; rintro e w2 ⟨cs, rfl, hk2, hR⟩)
    have hK2 := hK1.trans hk2
    replace e0 := Kept.cell hk2 e0
    replace e1 := Kept.cell hk2 e1
    replace e2 := Kept.cell hk2 e2
    replace e3 := Kept.cell hk2 e3
    replace e4 := Kept.cell hk2 e4
    clear hk2 hK1
    go_loopw [15] (fun i wr => ∃ k : Nat, k ≤ 33 ∧ k ≤ cIx op d s t imm ∧ i = .int .i64 (k : Int) ∧ Kept w2 wr) (fun i _ => 33 - (intOf i).toNat)
    case atStart => exact ⟨0, by omega, by omega, rfl, Kept.refl _⟩
    case round =>
      obtain ⟨k, hk, hkc, rfl, hKr⟩ := hrel
      rcases Nat.lt_or_ge k 33 with hk33 | hk33
      · obtain ⟨a, cap, hx, hC⟩ := hR k hk33
        replace hC := hC.kept hKr
        replace e0 := Kept.cell hKr e0
        replace e1 := Kept.cell hKr e1
        replace e2 := Kept.cell hKr e2
        replace e3 := Kept.cell hKr e3
        replace e4 := Kept.cell hKr e4
        have hat := run_index_rows cs _ k hk33 hx wr
        have hk33' : (k : Int) < 33 := by omega
        have hst := run_storeCells_new (P := Tryd.prog) wr 45 #[.int .u8 0, .int .u32 0, .int .u8 0, .int .u8 0, .int .i64 0, .slice none 0 0] (pCells k a (cLen k) cap) szP5 rfl (pCells_one _ _ _ _)
        have hH := fun w hC => halfP_walk k hk33 op d s t imm hm a cap w hC
        have hC' := hC.kept (Kept.alloc wr (.cells (pCells k a (cLen k) cap) 45))
        have hnext : rowB k op d s t imm = false → k + 1 ≤ cIx op d s t imm := fun hf => by
          rcases Nat.lt_or_ge k (cIx op d s t imm) with h | h
          · exact h
          · have hkk : cIx op d s t imm = k := by omega
            have := cIx_hit (op := op) (d := d) (s := s) (t := t) (imm := imm) (by omega)
            rw [hkk, hf] at this
            cases this
        have f0 := Kept.cell (Kept.alloc wr (.cells (pCells k a (cLen k) cap) 45)) e0
        have f1 := Kept.cell (Kept.alloc wr (.cells (pCells k a (cLen k) cap) 45)) e1
        have f2 := Kept.cell (Kept.alloc wr (.cells (pCells k a (cLen k) cap) 45)) e2
        have f3 := Kept.cell (Kept.alloc wr (.cells (pCells k a (cLen k) cap) 45)) e3
        have f4 := Kept.cell (Kept.alloc wr (.cells (pCells k a (cLen k) cap) 45)) e4
        unfold pCells at hat hst hH hC' f0 f1 f2 f3 f4
        cases hr : rowB k op d s t imm
        · rw [hr] at hH
          have hle := hnext hr
          go_wp2_with (go_at_call 19; refine (hH _ hC').mono ?_; rintro e w3 ⟨rfl, hk3⟩)
          exact ⟨⟨k + 1, by omega, hle, by simp, (hKr.trans (Kept.alloc _ _)).trans hk3⟩, by simp [intOf]; omega⟩
        · rw [hr] at hH
          have hkk : cIx op d s t imm = k := by
            rcases Nat.lt_or_ge k (cIx op d s t imm) with h | h
            · rw [cIx_miss h] at hr; cases hr
            · omega
          have hv : cHalf k d s t imm = hfV op d s t imm := by unfold hfV; rw [if_pos hm, hkk, if_pos hk33]
          have he : hfE op d s t imm = 0 := by unfold hfE; rw [if_pos hm, hkk, if_pos hk33]
          rw [hv] at hH
          generalize hHH : hfV op d s t imm = H at hH
          go_wp2_with (go_at_call 19; refine (hH _ hC').mono ?_; rintro e w3 ⟨rfl, hk3⟩)
          go_ret2
          exact ⟨by rw [he, hHH]; rfl, ((hK2.trans hKr).trans (Kept.alloc _ _)).trans hk3⟩
      · have hkc' := cIx_le op d s t imm
        obtain rfl : k = 33 := by omega
        have hv : hfV op d s t imm = 0 := by unfold hfV; rw [if_pos hm, if_neg (by omega)]
        have he : hfE op d s t imm = 6 := by unfold hfE; rw [if_pos hm, if_neg (by omega)]
        go_wp2
        go_ret2
        exact ⟨by rw [hv, he]; rfl, hK2.trans hKr⟩

theorem shortC_walk (op d s t imm : Int) (h0 : 0 ≤ op) (h1 : op ≤ 255) (w : World) :
    Calls Tryd.prog 17 #[insnV op d s t imm] w fun e w' => e = .returned (.tuple #[.bool (shV op d s t imm), .int .i64 (if mayB op d s t imm = true then 0 else 20)]) ∧ Kept w w' := by
  have hH := fun w => halfC_walk op d s t imm h0 h1 w
  generalize hfV op d s t imm = H at hH
  have hcase : (hfE op d s t imm = 20 ∧ shV op d s t imm = false ∧ mayB op d s t imm = false) ∨ (hfE op d s t imm = 0 ∧ shV op d s t imm = true ∧ mayB op d s t imm = true) ∨ (hfE op d s t imm = 6 ∧ shV op d s t imm = false ∧ mayB op d s t imm = true) := by
    unfold hfE shV
    cases mayB op d s t imm
    · simp
    · rcases Nat.lt_or_ge (cIx op d s t imm) 33 with h | h
      · simp [h]
      · have h' : ¬ cIx op d s t imm < 33 := by omega
        simp [h']
  rcases hcase with ⟨a1, a2, a3⟩ | ⟨a1, a2, a3⟩ | ⟨a1, a2, a3⟩
  all_goals
    rw [a1] at hH
    rw [a2, a3]
    go_enter Tryd.func17, Tryd.ntmps17
    go_wp2_with (go_at_call 8; refine (hH _).mono ?_; rintro e w2 ⟨rfl, hk2⟩)
    go_ret2
    exact ⟨rfl, (Kept.alloc _ _).trans hk2⟩
end Go.Proofs.YtbmcanpjpibecaaDoor
