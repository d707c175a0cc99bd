/- The document's own Of at each row, and its Insn. -/
import Derived.Test.YtbmcanpjpibecaaDoorOh
import Derived.Test.YtbmcanpjpibecaaDoorPt
import Derived.Test.YtbmcanpjpibecaaDoorMk
import Derived.Test.YtbmcanpjpibecaaDoorDn
namespace Go.Proofs.YtbmcanpjpibecaaDoor
open Go.RowKit

theorem mask_fix : ∀ k, k < 33 → 65535 - sumP (cPlP k) (cLen k) - 4 * (2 ^ (lowW (cForm k)).toNat - 1) - 128 * (2 ^ (highW (cForm k)).toNat - 1) = (fixC k : Int) := by decide +kernel
theorem fixC_lt : ∀ k, k < 33 → fixC k < 65536 := by decide +kernel
theorem cPl_12 : ∀ k, k < 33 → ∀ i, i < cLen k → 0 ≤ cPlP k i ∧ cPlP k i ≤ 12 := by decide +kernel
theorem of_name : ∀ k, k < 33 → ofV (nm (cOp k - 1)) = cOp k := by decide +kernel
theorem sg_len : ∀ k, k < 33 → sgK (cKind k) = true → 1 ≤ cLen k := by decide +kernel
theorem raw_lt {k H : Nat} (_hk : k < 33) : (oRaw k H : Int) < 2 ^ cLen k := cast_lt_pow.2 (gathTo_lt _ _ _)
theorem raw_rng {k H : Nat} (hk : k < 33) : 0 ≤ (oRaw k H : Int) ∧ (oRaw k H : Int) ≤ 2047 := by
  have h1 := raw_lt (H := H) hk
  have h2 := room_small (cLen_le k hk)
  omega
theorem sgK_iff (kd : UInt8) : sgK kd = true ↔ (kd = 115 ∨ kd = 110 ∨ kd = 108) := by simp [sgK]
theorem oSg_no {kd : UInt8} {r v : Int} (h : sgK kd = false) : oSg kd r v = v := if_neg fun h' => by rw [(sgK_iff kd).2 h'] at h; cases h
theorem oSg_yes {kd : UInt8} {r v : Int} (h : sgK kd = true) : oSg kd r v = if r ≤ 2 * v then v - r else v := if_pos ((sgK_iff kd).1 h)
theorem oUp_up (kd : UInt8) (n : Int) : oUp kd n = if upK kd n = true then n + 1048576 else n := by
  unfold oUp upK
  by_cases h : kd = 108 <;> by_cases h2 : n < 0 <;> simp [h, h2]
theorem sg_rng {k H : Nat} (hk : k < 33) : -(2 ^ cLen k) ≤ oSg (cKind k) (2 ^ cLen k) (oRaw k H) ∧ oSg (cKind k) (2 ^ cLen k) (oRaw k H) < 2 ^ cLen k := by
  have h1 := raw_lt (H := H) hk
  have h2 := room_small (cLen_le k hk)
  unfold oSg
  split
  · split <;> omega
  · omega
theorem imm_rng {k H : Nat} (hk : k < 33) : -1048576 ≤ oImm k H ∧ oImm k H ≤ 1048575 ∧ -2 ^ cLen k ≤ (oImm k H).tdiv (cBy k) := by
  have h1 := sg_rng (H := H) hk
  have h2 := room_small (cLen_le k hk)
  have hb := cBy_range k hk
  unfold oImm
  by_cases hl : cKind k = 108
  · obtain ⟨b1, n6⟩ := row_l k hk hl
    rw [b1]
    rw [n6] at h1 ⊢
    rw [Int.mul_one, Int.tdiv_one]
    unfold oUp
    split <;> omega
  · have e : oUp (cKind k) (oSg (cKind k) (2 ^ cLen k) (oRaw k H)) = oSg (cKind k) (2 ^ cLen k) (oRaw k H) := if_neg fun h => hl h.1
    rw [e]
    generalize oSg (cKind k) (2 ^ cLen k) (oRaw k H) = n at h1 ⊢
    generalize cBy k = b at hb ⊢
    have c1 : n.natAbs * b.natAbs ≤ 2048 * 16 := Nat.mul_le_mul (by omega) (by omega)
    have c2 : (n * b).natAbs = n.natAbs * b.natAbs := Int.natAbs_mul n b
    rw [Int.mul_tdiv_cancel n (by omega)]
    omega
theorem signedK {k H : Nat} (hk : k < 33) (hs : sgK (cKind k) = true) (w : World) :
    Calls Tryd.prog 42 #[.int .u32 (oRaw k H), .int .i64 (cLen k : Int)] w fun e w' => e = .returned (.int .i64 (oSg (cKind k) (2 ^ cLen k) (oRaw k H))) ∧ Kept w w' := by
  have h1 := sg_len k hk hs
  have hl := cLen_le k hk
  have hr := raw_rng (H := H) hk
  have hp : (2 : Int) ^ cLen k = 2 * 2 ^ (cLen k - 1) := by
    obtain ⟨m, hm⟩ : ∃ m, cLen k = m + 1 := ⟨cLen k - 1, by omega⟩
    rw [hm]
    simp only [Nat.add_sub_cancel, Int.pow_succ]
    omega
  rw [oSg_yes hs]
  by_cases hlo : (oRaw k H : Int) < 2 ^ (cLen k - 1)
  · rw [if_neg (by omega)]
    exact (signed_walk_lo (oRaw k H) (cLen k) h1 (by omega) (by omega) hlo w).mono fun _ _ ⟨a, b⟩ => ⟨a, b ▸ Kept.refl _⟩
  · rw [if_pos (by omega)]
    exact (signed_walk_hi (oRaw k H) (cLen k) h1 (by omega) (by omega) (by omega) w).mono fun _ _ ⟨a, b⟩ => ⟨a, b ▸ Kept.refl _⟩
theorem sameK {w w' : World} (h : w' = w) : Kept w w' := by
  subst h
  exact Kept.refl _
theorem gKept {w w' : World} (h : ∃ m, w' = w.drewN m) : Kept w w' := by
  obtain ⟨m, rfl⟩ := h
  exact Kept.drewN _ _
/-- OF AT A ROW. -/
theorem of_row (k : Nat) (hk : k < 33) (H : Nat) (hH : H ≤ 65535) (a : Option Addr) (cap : Nat) (w : World) (hC : Cells w a (cLen k) (cPlP k)) :
    Calls Tryd.prog 23 #[cRowV k a cap, .int .u16 (H : Int)] w fun e w' => ∃ o d s t i : Int, e = .returned (.tuple #[insnV o d s t i, .bool (okB k H)]) ∧ Kept w w' ∧ (okB k H = true → o = cOp k ∧ d = oD (cForm k) H ∧ s = oS (cForm k) H ∧ t = oT (cForm k) H ∧ i = oImm k H) := by
  have hcf := cForm_cases k hk
  have hck := cKind_cases k hk
  have hcb := cBy_range k hk
  have hcl := cLen_le k hk
  have hM : ∀ w', Kept w w' → _ := fun w' kk => mask_walk6 (cForm k) hcf (nm (cOp k - 1)) (chr (cKind k)) (cBits k) (cBy k) a (cLen k) cap (cPlP k) hcl (cPl_12 k hk) w' (hC.kept kk)
  rw [mask_fix k hk] at hM
  have hB : ∀ w, Calls Tryd.prog 38 #[.int .i64 (H : Int), .int .i64 (fixC k : Int)] w fun e w' => e = .returned (.int .i64 ((H &&& fixC k : Nat) : Int)) ∧ Kept w w' := fun w => (both_walk H (fixC k) (by omega) (fixC_lt k hk) w).mono fun _ _ ⟨x, y⟩ => ⟨x, sameK y⟩
  by_cases hf : H &&& fixC k = cBits k
  · rw [hf] at hB
    have hO := fun w => refOf_walk (nm (cOp k - 1)) w
    rw [of_name k hk] at hO
    have hG : ∀ w', Kept w w' → _ := fun w' kk => (rgather_u H (by omega) (by omega) a (cLen k) cap (cPlP k) w' (hC.kept kk))
    have he := cPl_ok k hk
    have hgv : gathV H (cPlP k) (cLen k) = (oRaw k H : Int) := by simp [gathV, he, oRaw]
    rw [hgv, he] at hG
    have hG' : ∀ w', Kept w w' → Calls Tryd.prog 41 #[.int .u32 (H : Int), .slice a (cLen k) cap] w' fun e w'' => e = .returned (.tuple #[.int .u32 (oRaw k H : Int), .int .i64 0]) ∧ Kept w' w'' := fun w' kk => (hG w' kk).mono fun _ _ ⟨x, y⟩ => ⟨x, gKept y⟩
    obtain ⟨i1, i2, i3⟩ := imm_rng (H := H) hk
    obtain ⟨r1, r2, r3⟩ := oReg_range hcf (H : Int)
    have hs := sg_rng (H := H) hk
    have h2 := room_small hcl
    have hP := fun w => put_walk6 (cForm k) hcf (cOp k) (oImm k H) H (by omega) (by omega) w
    have hR := fun w => cright_walk (cForm k) hcf (cOp k) (oD (cForm k) H) (oS (cForm k) H) (oT (cForm k) H) (oImm k H) w
    have hF := fun w => cfits_walk (nm (cOp k - 1)) (chr (cForm k)) (cBits k) (cBy k) (cKind k) hck a (cLen k) cap (oImm k H) hcl hcb ⟨i1, i2⟩ w
    have hW : ∀ w', Kept w w' → _ := fun w' kk => written_walk5 k hk (cOp k) (oD (cForm k) H) (oS (cForm k) H) (oT (cForm k) H) (oImm k H) r1 r2 r3 ⟨i1, i2⟩ i3 a cap w' (hC.kept kk)
    refine (of_hit (nm (cOp k - 1)) (chr (cForm k)) (cKind k) hck (cBits k) (cBy k) H (fixC k) (cOp k) (ofErr (nm (cOp k - 1))) (oRaw k H) 0 (oSg (cKind k) (2 ^ cLen k) (oRaw k H)) (oUp (cKind k) (oSg (cKind k) (2 ^ cLen k) (oRaw k H))) (oD (cForm k) H) (oS (cForm k) H) (oT (cForm k) H) (oImm k H) a (cLen k) cap w ⟨by omega, by omega⟩
      (raw_rng hk) ⟨by omega, by omega⟩ ⟨i1, by omega⟩ rfl (fun h => oSg_no h) (oUp_up _ _) _ _ _ hM hB hO hG' (fun h w => signedK hk h w) hP hR hF (cHalf k (oD (cForm k) H) (oS (cForm k) H) (oT (cForm k) H) (oImm k H)) rfl (fun _ _ => hW)).mono ?_
    rintro e w' ⟨he1, hk1⟩
    refine ⟨_, _, _, _, _, ?_, hk1, fun _ => ⟨rfl, rfl, rfl, rfl, rfl⟩⟩
    rw [he1]
    unfold okB
    rw [hf]
    simp only [beq_self_eq_true, Bool.true_and]
  · have ho : okB k H = false := by unfold okB; rw [beq_false_of_ne hf, Bool.false_and]
    rw [ho]
    refine (of_miss _ _ _ _ _ H (fixC k) ((H &&& fixC k : Nat) : Int) a (cLen k) cap w ⟨by omega, by omega⟩ hM hB (by omega)).mono ?_
    rintro e w' ⟨he1, hk1⟩
    exact ⟨_, _, _, _, _, he1, hk1, fun h => by cases h⟩
end Go.Proofs.YtbmcanpjpibecaaDoor
