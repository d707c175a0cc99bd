/- What the document's own Half and Short give. -/
import Derived.Test.YtpimdldgejlekaaWr
namespace Go.Proofs.Ytpimdldgejlekaa
open Go.RowKit

theorem fits_lo {k : Nat} (hk : k < 33) {n : Int} (h : cfitsB (cKind k) (cBy k) (cLen k) n = true) : -2 ^ cLen k ≤ n.tdiv (cBy k) := by
  have hb := cBy_range k hk
  have hr := two_pow_pos' (cLen k)
  have hnn : 0 ≤ n → 0 ≤ n.tdiv (cBy k) := fun h0 => Int.tdiv_nonneg h0 (by omega)
  unfold cfitsB at h
  generalize n.tdiv (cBy k) = v at h hnn ⊢
  generalize (2 : Int) ^ cLen k = r at h hr ⊢
  rw [Bool.and_eq_true] at h
  have h2 := h.2
  unfold kindB at h2
  split at h2
  · have : n = 0 := by simpa using h2
    omega
  split at h2
  · simp only [Bool.or_eq_true, Bool.and_eq_true, decide_eq_true_eq] at h2; omega
  split at h2
  · simp only [Bool.and_eq_true, decide_eq_true_eq] at h2; omega
  split at h2
  · simp only [Bool.and_eq_true, decide_eq_true_eq] at h2; omega
  split at h2
  · simp only [Bool.and_eq_true, decide_eq_true_eq] at h2; omega
  · simp only [Bool.and_eq_true, decide_eq_true_eq] at h2; omega
theorem high_small (c : Int) : highOf c ≤ 1048575 := by
  unfold highOf
  repeat' split
  all_goals omega
theorem low_small (c : Int) : -1048576 ≤ lowOf c := by
  unfold lowOf
  repeat' split
  all_goals omega
/-- What Half and Short tell. -/
def hfV (op d s t imm : Int) : Int := if mayB op d s t imm = true then (if cIx op d s t imm < 33 then cHalf (cIx op d s t imm) d s t imm else 0) else 0
def hfE (op d s t imm : Int) : Int := if mayB op d s t imm = true then (if cIx op d s t imm < 33 then 0 else 6) else 20
def shV (op d s t imm : Int) : Bool := mayB op d s t imm && decide (cIx op d s t imm < 33)
structure May5 (op d s t imm : Int) : Prop where
  isop : isOp op = true
  d : 0 ≤ d ∧ d ≤ 31
  s : 0 ≤ s ∧ s ≤ 31
  t : 0 ≤ t ∧ t ≤ 31
  n : -1048576 ≤ imm ∧ imm ≤ 1048575
theorem may5_of {op d s t imm : Int} (h : mayB op d s t imm = true) : May5 op d s t imm := by
  simp only [mayB, Bool.and_eq_true] at h
  obtain ⟨h0, h1, h2, h3, h4⟩ := h
  have r1 := of_decide_eq_true h1
  have r2 := of_decide_eq_true h2
  have r3 := of_decide_eq_true h3
  have r4 := of_decide_eq_true h4
  have l1 := low_small (formV op)
  have l2 := high_small (formV op)
  exact ⟨h0, ⟨r1.1, r1.2.1⟩, ⟨r2.1, r2.2.1⟩, ⟨r3.1, r3.2.1⟩, by omega, by omega⟩

theorem short_walk (op d s t imm : Int) (h0 : 0 ≤ op) (h1 : op ≤ 255) (w : World) :
    Calls Try.prog 11 #[insnV op d s t imm] w fun e w' => e = .returned (.tuple #[.bool (shV op d s t imm), .int .i64 (if mayB op d s t imm = true then 0 else 20)]) ∧ Kept w w' := by
  have hM := fun w => mayRef_walk op d s t imm h0 h1 w
  cases hm : mayB op d s t imm
  · rw [hm] at hM
    have hv : shV op d s t imm = false := by simp [shV, hm]
    go_enter Try.func11, Try.ntmps11
    go_wp2_with (go_at_call 15; refine (hM _).mono ?_; rintro e w2 ⟨rfl, hk2⟩)
    go_ret2
    exact ⟨rfl, (Kept.alloc _ _).trans hk2⟩
  · rw [hm] at hM
    have m5 := may5_of hm
    have hF := fun w => find_walk op d s t imm h0 h1 m5.isop m5.n w
    have hv : shV op d s t imm = decide (0 ≤ findV op d s t imm) := by
      simp only [shV, hm, Bool.true_and, findV]
      split
      · rename_i hlt; rw [decide_eq_true hlt, decide_eq_true (by omega)]
      · rename_i hlt; rw [decide_eq_false hlt, decide_eq_false (by omega)]
    rw [hv]
    generalize findV op d s t imm = f at hF
    go_enter Try.func11, Try.ntmps11
    go_upto_region 3 with (go_at_call 15; refine (hM _).mono ?_; rintro e w2 ⟨rfl, hk2⟩)
    have hK2 := (Kept.alloc w (.cells #[.int .u8 op, .int .i64 d, .int .i64 s, .int .i64 t, .int .i64 imm] 27)).trans hk2
    have e0 : w2.cell? ⟨w.heap.size, 0, none⟩ = some (.int .u8 op) := Kept.cell hk2 (by simp)
    have e1 : w2.cell? ⟨w.heap.size, 1, none⟩ = some (.int .i64 d) := Kept.cell hk2 (by simp)
    have e2 : w2.cell? ⟨w.heap.size, 2, none⟩ = some (.int .i64 s) := Kept.cell hk2 (by simp)
    have e3 : w2.cell? ⟨w.heap.size, 3, none⟩ = some (.int .i64 t) := Kept.cell hk2 (by simp)
    have e4 : w2.cell? ⟨w.heap.size, 4, none⟩ = some (.int .i64 imm) := Kept.cell hk2 (by simp)
    clear hk2
    go_wp2_with (go_at_call 16; refine (hF _).mono ?_; rintro e w3 ⟨rfl, hk3⟩)
    go_ret2
    exact ⟨rfl, hK2.trans hk3⟩

set_option maxRecDepth 20000 in
set_option maxHeartbeats 3200000 in
theorem half_walk (op d s t imm : Int) (h0 : 0 ≤ op) (h1 : op ≤ 255) (w : World) :
    Calls Try.prog 10 #[insnV op d s t imm] w fun e w' => e = .returned (.tuple #[.int .u16 (hfV op d s t imm), .int .i64 (hfE op d s t imm)]) ∧ Kept w w' := by
  have hM := fun w => mayRef_walk op d s t imm h0 h1 w
  cases hm : mayB op d s t imm
  · rw [hm] at hM
    have hv : hfV op d s t imm = 0 := by simp [hfV, hm]
    have he : hfE op d s t imm = 20 := by simp [hfE, hm]
    go_enter Try.func10, Try.ntmps10
    go_wp2_with (go_at_call 15; refine (hM _).mono ?_; rintro e w2 ⟨rfl, hk2⟩)
    go_ret2
    exact ⟨by rw [hv, he]; rfl, (Kept.alloc _ _).trans hk2⟩
  · rw [hm] at hM
    have m5 := may5_of hm
    have hF := fun w => find_walk op d s t imm h0 h1 m5.isop m5.n w
    go_enter Try.func10, Try.ntmps10
    go_upto_region 3 with (go_at_call 15; refine (hM _).mono ?_; rintro e w2 ⟨rfl, hk2⟩)
    have hK2 := (Kept.alloc w (.cells #[.int .u8 op, .int .i64 d, .int .i64 s, .int .i64 t, .int .i64 imm] 27)).trans hk2
    have e0 : w2.cell? ⟨w.heap.size, 0, none⟩ = some (.int .u8 op) := Kept.cell hk2 (by simp)
    have e1 : w2.cell? ⟨w.heap.size, 1, none⟩ = some (.int .i64 d) := Kept.cell hk2 (by simp)
    have e2 : w2.cell? ⟨w.heap.size, 2, none⟩ = some (.int .i64 s) := Kept.cell hk2 (by simp)
    have e3 : w2.cell? ⟨w.heap.size, 3, none⟩ = some (.int .i64 t) := Kept.cell hk2 (by simp)
    have e4 : w2.cell? ⟨w.heap.size, 4, none⟩ = some (.int .i64 imm) := Kept.cell hk2 (by simp)
    clear hk2
    rcases Nat.lt_or_ge (cIx op d s t imm) 33 with hc | hc
    · have hit := cIx_hit hc
      have hv : hfV op d s t imm = cHalf (cIx op d s t imm) d s t imm := by simp only [hfV, hm, hc, if_true]
      have he : hfE op d s t imm = 0 := by simp only [hfE, hm, hc, if_true]
      have hf : findV op d s t imm = (cIx op d s t imm : Int) := if_pos hc
      rw [hf] at hF
      have hlo := fits_lo hc (by simp only [rowB, Bool.and_eq_true] at hit; exact hit.2)
      generalize cIx op d s t imm = k at hc hF hv hlo hit
      have hW := fun a cap w hC => written_walk5 k hc op d s t imm m5.d m5.s m5.t m5.n hlo a cap w hC
      generalize cHalf k d s t imm = H at hW hv
      go_upto_region 6 with (go_at_call 16; refine (hF _).mono ?_; rintro e w3 ⟨rfl, hk3⟩)
      have hK3 := hK2.trans hk3
      replace e0 := Kept.cell hk3 e0
      replace e1 := Kept.cell hk3 e1
      replace e2 := Kept.cell hk3 e2
      replace e3 := Kept.cell hk3 e3
      replace e4 := Kept.cell hk3 e4
      have hkI : (k : Int) < 33 := by omega
      clear hk3 hK2 hF hM
      go_cut [2, 3] (fun x y wx => x = .int .u16 H ∧ y = .int .i64 0 ∧ Kept w wx)
      case first =>
        go_region_with (first
          | (go_at_call 18; refine (rows_walk _).mono ?_; rintro e w4 ⟨b, rfl, hk4, hR⟩; have hk4' := Kept.trans (Below.drew (Kept.refl _)) hk4; have e0' := Kept.cell hk4' e0; have e1' := Kept.cell hk4' e1; have e2' := Kept.cell hk4' e2; have e3' := Kept.cell hk4' e3; have e4' := Kept.cell hk4' e4; have hRk := hR k hc; obtain ⟨a, cap, r0, r1, r2, r3, r4, r5, hC⟩ := hRk; rw [Nat.mul_comm] at r0 r1 r2 r3 r4 r5)
          | (go_at_call 17; refine (hW a cap _ hC).mono ?_; rintro e w5 ⟨rfl, hk5⟩))
        all_goals
          as_aux_lemma =>
            go_wp2_with fail
            go_meet
            exact ⟨rfl, rfl, (hK3.trans hk4').trans hk5⟩
      case rest =>
        obtain ⟨rfl, rfl, hKx⟩ := hcut
        go_wp2
        go_ret2
        exact ⟨by rw [hv, he]; rfl, hKx⟩
    · have hv : hfV op d s t imm = 0 := by simp only [hfV, hm, if_true]; rw [if_neg (by omega)]
      have he : hfE op d s t imm = 6 := by simp only [hfE, hm, if_true]; rw [if_neg (by omega)]
      have hf : findV op d s t imm = -1 := if_neg (by omega)
      rw [hf] at hF
      go_wp2_with (go_at_call 16; refine (hF _).mono ?_; rintro e w3 ⟨rfl, hk3⟩)
      go_ret2
      exact ⟨by rw [hv, he]; rfl, hK2.trans hk3⟩
end Go.Proofs.Ytpimdldgejlekaa
