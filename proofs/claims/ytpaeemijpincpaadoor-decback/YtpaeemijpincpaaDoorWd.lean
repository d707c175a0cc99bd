/- What enc.written and enc.registers give. -/
import Derived.Test.YtpaeemijpincpaaDoorRPlc
namespace Go.Proofs.YtpaeemijpincpaaDoor
open Go.RowKit

/-- What is written of a form's number: of J and B half of it. -/
def halfV (c v : Int) : Int := if c = 74 ∨ c = 66 then v.tdiv 2 else v

theorem and_low (X : Int) (n : Nat) (h : n ≤ 32) : bits .and .u32 (X % 4294967296) (2 ^ n - 1) = X % 2 ^ n := by
  obtain ⟨x, hx⟩ : ∃ x : Nat, X % 4294967296 = x := ⟨(X % 4294967296).toNat, by omega⟩
  have hlt : x < 4294967296 := by omega
  have := and_mask x 0 n hlt h
  simp only [Int.pow_zero, Int.ediv_one] at this
  rw [hx, this, ← hx]
  exact Int.emod_emod_of_dvd X (by
    have : (4294967296 : Int) = 2 ^ n * 2 ^ (32 - n) := by
      rw [← Int.pow_add, show n + (32 - n) = 32 by omega]
      rfl
    rw [this]
    exact Int.dvd_mul_right _ _)

theorem shl_one (n : Nat) (h : n ≤ 31) : (2 : Int) ^ n % 4294967296 = 2 ^ n := by
  have h1 := two_pow_pos' n
  have h2 : (2 : Int) ^ n ≤ 2 ^ 31 := two_pow_le' h
  omega

theorem written_walk (v c : Int) (n : Nat) (hn : n ≤ 20) (h0 : -1048576 ≤ v) (h1 : v ≤ 1048576) (w : World) :
    Calls Tryd.prog 28 #[.int .i64 v, .int .u8 c, .int .i64 n] w fun e w' => e = .returned (.int .u32 (halfV c v % 2 ^ n)) ∧ w' = w := by
  have hp := shl_one n (by omega)
  have hp1 := two_pow_pos' n
  have hp2 : (2 : Int) ^ n ≤ 2 ^ 20 := two_pow_le' hn
  have ha := fun X => and_low X n (by omega)
  by_cases hJ : c = 74
  · subst hJ
    have e : halfV 74 v = v.tdiv 2 := rfl
    rw [e]
    go_enter Tryd.func28, Tryd.ntmps28
    go_wp2
    go_ret
    exact ⟨rfl, rfl⟩
  · by_cases hB : c = 66
    · subst hB
      have e : halfV 66 v = v.tdiv 2 := rfl
      rw [e]
      go_enter Tryd.func28, Tryd.ntmps28
      go_wp2
      go_ret
      exact ⟨rfl, rfl⟩
    · have e : halfV c v = v := by simp [halfV, hJ, hB]
      rw [e]
      have hJ' : (c == 74) = false := by simpa using hJ
      have hB' : (c == 66) = false := by simpa using hB
      clear e hJ hB
      go_enter Tryd.func28, Tryd.ntmps28
      go_wp2
      go_ret
      exact ⟨rfl, rfl⟩

/-- The bits of all three registers. -/
def regN (rd rs1 rs2 : Int) : Nat := (rd.toNat * 128 ||| rs1.toNat * 32768) ||| rs2.toNat * 1048576

theorem regs_num (rd rs1 rs2 : Int) (h0 : 0 ≤ rd) (h1 : rd ≤ 31) (h2 : 0 ≤ rs1) (h3 : rs1 ≤ 31) (h4 : 0 ≤ rs2) (h5 : rs2 ≤ 31) :
    bits .or .u32 (bits .or .u32 (rd * 128) (rs1 * 32768)) (rs2 * 1048576) = (regN rd rs1 rs2 : Int) := by
  obtain ⟨a, rfl⟩ : ∃ a : Nat, rd = a := ⟨rd.toNat, by omega⟩
  obtain ⟨b, rfl⟩ : ∃ a : Nat, rs1 = a := ⟨rs1.toNat, by omega⟩
  obtain ⟨c, rfl⟩ : ∃ a : Nat, rs2 = a := ⟨rs2.toNat, by omega⟩
  have l1 : a * 128 < 4294967296 := Nat.lt_of_le_of_lt (Nat.mul_le_mul_right 128 (by omega : a ≤ 31)) (by decide)
  have l2 : b * 32768 < 4294967296 := Nat.lt_of_le_of_lt (Nat.mul_le_mul_right 32768 (by omega : b ≤ 31)) (by decide)
  have l3 : c * 1048576 < 4294967296 := Nat.lt_of_le_of_lt (Nat.mul_le_mul_right 1048576 (by omega : c ≤ 31)) (by decide)
  have l4 : (a * 128 ||| b * 32768) < 4294967296 := Nat.or_lt_two_pow (n := 32) l1 l2
  have e1 : (a : Int) * 128 = ((a * 128 : Nat) : Int) := by simp
  have e2 : (b : Int) * 32768 = ((b * 32768 : Nat) : Int) := by simp
  have e3 : (c : Int) * 1048576 = ((c * 1048576 : Nat) : Int) := by simp
  rw [e1, e2, e3, u32_or_nat _ _ l1 l2, u32_or_nat _ _ l4 l3]
  simp only [regN, Int.toNat_natCast]

theorem registers_walk (op rd rs1 rs2 imm : Int) (h0 : 0 ≤ rd) (h1 : rd ≤ 31) (h2 : 0 ≤ rs1) (h3 : rs1 ≤ 31) (h4 : 0 ≤ rs2) (h5 : rs2 ≤ 31) (w : World) :
    Calls Tryd.prog 29 #[insnV op rd rs1 rs2 imm] w fun e w' => e = .returned (.int .u32 (regN rd rs1 rs2)) ∧ Kept w w' := by
  have hr := regs_num rd rs1 rs2 h0 h1 h2 h3 h4 h5
  go_enter Tryd.func29, Tryd.ntmps29
  go_wp2
  go_ret
  exact ⟨rfl, Kept.alloc _ _⟩

end Go.Proofs.YtpaeemijpincpaaDoor
