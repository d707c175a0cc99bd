/- What cenc's own Half and Short give. -/
import Derived.Test.YtpimdldgejlekaaPk
import Derived.Deep.DeepCutAuto
namespace Go.Proofs.Ytpimdldgejlekaa
open Go.RowKit

theorem run_index_rows (cs r : Array Value) (k : Nat) (hk : k < 33) (h : cs.extract (k * 6) (k * 6 + 6) = r) (w : World) :
    (Instr.index 44 (.agg cs) (.int .i64 k)).run Try.prog w = .ok (.agg r) w := by
  have h1 : (0 : Int) ≤ k ∧ (k : Int) < 33 := by omega
  have h2 : k < 33 := hk
  simp [Instr.index, asIntOf, part, h1, h2, h, go_sem]

open Go.Sort in
set_option maxRecDepth 20000 in
set_option maxHeartbeats 3200000 in
theorem halfC_walk (op d s t imm : Int) (_h0 : 0 ≤ op) (h1 : op ≤ 255) (w : World) :
    Calls Try.prog 6 #[insnV op d s t imm] w fun e w' => e = .returned (.tuple #[.int .u16 (hfV op d s t imm), .int .i64 (hfE op d s t imm)]) ∧ Kept w w' := by
  have hM := fun w => check_walk op d s t imm h1 w
  cases hm : mayB op d s t imm
  · have hc : chkV op d s t imm = 20 := by simp [chkV, hm]
    rw [hc] at hM
    have hv : hfV op d s t imm = 0 := by simp [hfV, hm]
    have he : hfE op d s t imm = 20 := by simp [hfE, hm]
    go_enter Try.func6, Try.ntmps6
    go_wp2_with (go_at_call 12; refine (hM _).mono ?_; rintro e w2 ⟨rfl, hk2⟩)
    go_ret2
    exact ⟨by rw [hv, he]; rfl, (Kept.alloc _ _).trans hk2⟩
  · have hc : chkV op d s t imm = 0 := by simp [chkV, hm]
    rw [hc] at hM
    have m5 := may5_of hm
    go_enter Try.func6, Try.ntmps6
    go_upto_region 4 with (go_at_call 12; refine (hM _).mono ?_; rintro e w1 ⟨rfl, hk1⟩)
    have e0 : w1.cell? ⟨w.heap.size, 0, none⟩ = some (.int .u8 op) := Kept.cell hk1 (by simp)
    have e1 : w1.cell? ⟨w.heap.size, 1, none⟩ = some (.int .i64 d) := Kept.cell hk1 (by simp)
    have e2 : w1.cell? ⟨w.heap.size, 2, none⟩ = some (.int .i64 s) := Kept.cell hk1 (by simp)
    have e3 : w1.cell? ⟨w.heap.size, 3, none⟩ = some (.int .i64 t) := Kept.cell hk1 (by simp)
    have e4 : w1.cell? ⟨w.heap.size, 4, none⟩ = some (.int .i64 imm) := Kept.cell hk1 (by simp)
    have hK1 := (Kept.alloc w (.cells #[.int .u8 op, .int .i64 d, .int .i64 s, .int .i64 t, .int .i64 imm] 27)).trans hk1
    clear hk1 hM
    go_wp2_with (go_at_call 13; refine (prows_walk _).mono ?_; rintro e w2 ⟨cs, rfl, hk2, hR⟩)
    have hK2 := hK1.trans hk2
    replace e0 := Kept.cell hk2 e0
    replace e1 := Kept.cell hk2 e1
    replace e2 := Kept.cell hk2 e2
    replace e3 := Kept.cell hk2 e3
    replace e4 := Kept.cell hk2 e4
    clear hk2 hK1
    go_loopw [15] (fun i wr => ∃ k : Nat, k ≤ 33 ∧ k ≤ cIx op d s t imm ∧ i = .int .i64 (k : Int) ∧ Kept w2 wr) (fun i _ => 33 - (intOf i).toNat)
    case atStart => exact ⟨0, by omega, by omega, rfl, Kept.refl _⟩
    case round =>
      obtain ⟨k, hk, hkc, rfl, hKr⟩ := hrel
      rcases Nat.lt_or_ge k 33 with hk33 | hk33
      · obtain ⟨a, cap, hx, hC⟩ := hR k hk33
        replace hC := hC.kept hKr
        replace e0 := Kept.cell hKr e0
        replace e1 := Kept.cell hKr e1
        replace e2 := Kept.cell hKr e2
        replace e3 := Kept.cell hKr e3
        replace e4 := Kept.cell hKr e4
        have hat := run_index_rows cs _ k hk33 hx wr
        have hk33' : (k : Int) < 33 := by omega
        have hst := run_storeCells_new (P := Try.prog) wr 43 #[.int .u8 0, .int .u32 0, .int .u8 0, .int .u8 0, .int .i64 0, .slice none 0 0] (pCells k a (cLen k) cap) szP5 rfl (pCells_one _ _ _ _)
        have hH := fun w hC => halfP_walk k hk33 op d s t imm hm a cap w hC
        have hC' := hC.kept (Kept.alloc wr (.cells (pCells k a (cLen k) cap) 43))
        have hnext : rowB k op d s t imm = false → k + 1 ≤ cIx op d s t imm := fun hf => by
          rcases Nat.lt_or_ge k (cIx op d s t imm) with h | h
          · exact h
          · have hkk : cIx op d s t imm = k := by omega
            have := cIx_hit (op := op) (d := d) (s := s) (t := t) (imm := imm) (by omega)
            rw [hkk, hf] at this
            cases this
        have f0 := Kept.cell (Kept.alloc wr (.cells (pCells k a (cLen k) cap) 43)) e0
        have f1 := Kept.cell (Kept.alloc wr (.cells (pCells k a (cLen k) cap) 43)) e1
        have f2 := Kept.cell (Kept.alloc wr (.cells (pCells k a (cLen k) cap) 43)) e2
        have f3 := Kept.cell (Kept.alloc wr (.cells (pCells k a (cLen k) cap) 43)) e3
        have f4 := Kept.cell (Kept.alloc wr (.cells (pCells k a (cLen k) cap) 43)) e4
        unfold pCells at hat hst hH hC' f0 f1 f2 f3 f4
        cases hr : rowB k op d s t imm
        · rw [hr] at hH
          have hle := hnext hr
          go_wp2_with (go_at_call 14; refine (hH _ hC').mono ?_; rintro e w3 ⟨rfl, hk3⟩)
          exact ⟨⟨k + 1, by omega, hle, by simp, (hKr.trans (Kept.alloc _ _)).trans hk3⟩, by simp [intOf]; omega⟩
        · rw [hr] at hH
          have hkk : cIx op d s t imm = k := by
            rcases Nat.lt_or_ge k (cIx op d s t imm) with h | h
            · rw [cIx_miss h] at hr; cases hr
            · omega
          have hv : cHalf k d s t imm = hfV op d s t imm := by unfold hfV; rw [if_pos hm, hkk, if_pos hk33]
          have he : hfE op d s t imm = 0 := by unfold hfE; rw [if_pos hm, hkk, if_pos hk33]
          rw [hv] at hH
          generalize hHH : hfV op d s t imm = H at hH
          go_wp2_with (go_at_call 14; refine (hH _ hC').mono ?_; rintro e w3 ⟨rfl, hk3⟩)
          go_ret2
          exact ⟨by rw [he, hHH]; rfl, ((hK2.trans hKr).trans (Kept.alloc _ _)).trans hk3⟩
      · have hkc' := cIx_le op d s t imm
        obtain rfl : k = 33 := by omega
        have hv : hfV op d s t imm = 0 := by unfold hfV; rw [if_pos hm, if_neg (by omega)]
        have he : hfE op d s t imm = 6 := by unfold hfE; rw [if_pos hm, if_neg (by omega)]
        go_wp2
        go_ret2
        exact ⟨by rw [hv, he]; rfl, hK2.trans hKr⟩

theorem shortC_walk (op d s t imm : Int) (h0 : 0 ≤ op) (h1 : op ≤ 255) (w : World) :
    Calls Try.prog 7 #[insnV op d s t imm] w fun e w' => e = .returned (.tuple #[.bool (shV op d s t imm), .int .i64 (if mayB op d s t imm = true then 0 else 20)]) ∧ Kept w w' := by
  have hH := fun w => halfC_walk op d s t imm h0 h1 w
  generalize hfV op d s t imm = H at hH
  have hcase : (hfE op d s t imm = 20 ∧ shV op d s t imm = false ∧ mayB op d s t imm = false) ∨ (hfE op d s t imm = 0 ∧ shV op d s t imm = true ∧ mayB op d s t imm = true) ∨ (hfE op d s t imm = 6 ∧ shV op d s t imm = false ∧ mayB op d s t imm = true) := by
    unfold hfE shV
    cases mayB op d s t imm
    · simp
    · rcases Nat.lt_or_ge (cIx op d s t imm) 33 with h | h
      · simp [h]
      · have h' : ¬ cIx op d s t imm < 33 := by omega
        simp [h']
  rcases hcase with ⟨a1, a2, a3⟩ | ⟨a1, a2, a3⟩ | ⟨a1, a2, a3⟩
  all_goals
    rw [a1] at hH
    rw [a2, a3]
    go_enter Try.func7, Try.ntmps7
    go_wp2_with (go_at_call 6; refine (hH _).mono ?_; rintro e w2 ⟨rfl, hk2⟩)
    go_ret2
    exact ⟨rfl, (Kept.alloc _ _).trans hk2⟩
end Go.Proofs.Ytpimdldgejlekaa
