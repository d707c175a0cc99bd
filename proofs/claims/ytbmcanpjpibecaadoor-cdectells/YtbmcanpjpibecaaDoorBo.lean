/- The document's own 'both' and 'Size'. -/
import Derived.Test.YtbmcanpjpibecaaDoorOwn
namespace Go.Proofs.YtbmcanpjpibecaaDoor
open Go.RowKit

theorem both_next (n k : Nat) : n % 2 ^ (k + 1) = n % 2 ^ k + 2 ^ k * (n / 2 ^ k % 2) := Nat.mod_pow_succ
theorem both_bit (a b k : Nat) : (a &&& b) / 2 ^ k % 2 = 1 ↔ a / 2 ^ k % 2 = 1 ∧ b / 2 ^ k % 2 = 1 := by
  have h : ∀ n : Nat, n.testBit k = decide (n / 2 ^ k % 2 = 1) := fun n => Nat.testBit_eq_decide_div_mod_eq
  have e := Nat.testBit_and a b k
  rw [h, h, h] at e
  rw [Bool.eq_iff_iff] at e
  simpa using e

theorem pow_pos16 {k : Nat} (h : k < 16) : 1 ≤ (2 : Int) ^ k ∧ (2 : Int) ^ k ≤ 32768 := by
  have h1 := two_pow_pos' k
  have h2 := two_pow_le' (b := 15) (show k ≤ 15 by omega)
  omega
set_option maxRecDepth 20000 in
theorem both_walk (a b : Nat) (ha : a < 65536) (hb : b < 65536) (w : World) :
    Calls Tryd.prog 38 #[.int .i64 (a : Int), .int .i64 (b : Int)] w fun e w' => e = .returned (.int .i64 ((a &&& b : Nat) : Int)) ∧ w' = w := by
  go_enter Tryd.func38, Tryd.ntmps38
  go_wp2
  go_loop [5, 6] (fun s i => ∃ k : Nat, k ≤ 16 ∧ i = .int .i64 (k : Int) ∧ s = .int .i64 (((a &&& b) % 2 ^ k : Nat) : Int)) (fun _ i => 16 - (intOf i).toNat)
  case atStart => exact ⟨0, by omega, rfl, by simp [Nat.mod_one]⟩
  case round =>
    obtain ⟨k, hk, rfl, rfl⟩ := hrel
    rcases Nat.lt_or_ge k 16 with hk16 | hk16
    · have h2 := fun w => two_walk_at k (by omega) w
      have hn := both_next (a &&& b) k
      have hbit := both_bit a b k
      have hlt : (a &&& b) % 2 ^ k < 65536 := Nat.lt_of_le_of_lt (Nat.mod_le _ _) (Nat.lt_of_le_of_lt Nat.and_le_left ha)
      have hp := pow_pos16 hk16
      have hkI : (k : Int) < 16 := by omega
      have ea : (a : Int).tdiv (2 ^ k) = ((a / 2 ^ k : Nat) : Int) := by rw [Int.tdiv_eq_ediv_of_nonneg (by omega)]; simp
      have eb : (b : Int).tdiv (2 ^ k) = ((b / 2 ^ k : Nat) : Int) := by rw [Int.tdiv_eq_ediv_of_nonneg (by omega)]; simp
      have ea' : (a : Int) / (2 ^ k) = ((a / 2 ^ k : Nat) : Int) := by simp
      have eb' : (b : Int) / (2 ^ k) = ((b / 2 ^ k : Nat) : Int) := by simp
      have hpn : ((2 ^ k : Nat) : Int) = 2 ^ k := by simp
      have la := Nat.div_le_self a (2 ^ k)
      have lb := Nat.div_le_self b (2 ^ k)
      generalize a / 2 ^ k = qa at ea eb hbit ea' eb' la
      generalize b / 2 ^ k = qb at ea eb hbit ea' eb' lb
      have wa : wrap64 (qa : Int) = qa := wrap64_id (by omega) (by omega)
      have wb : wrap64 (qb : Int) = qb := wrap64_id (by omega) (by omega)
      have hq2 : (a &&& b) / 2 ^ k % 2 < 2 := Nat.mod_lt _ (by decide)
      generalize (a &&& b) / 2 ^ k % 2 = qc at hn hbit hq2
      generalize (a &&& b) % 2 ^ k = m at hn hlt
      have hc : (((a &&& b) % 2 ^ (k + 1) : Nat) : Int) = m + 2 ^ k * qc := by rw [hn]; simp
      have hqc : qc = 1 ∨ qc = 0 := by omega
      generalize (2 : Int) ^ k = x at h2 hp ea eb ea' eb' hc
      have z1 : ¬ x = 0 := by omega
      have z2 : (x == 0) = false := by simpa using z1
      by_cases qa1 : qa % 2 = 1
      · have a1 : ((qa : Int) % 2 == 1) = true := by rw [beq_iff_eq]; omega
        have a2 : ((qa : Int).tmod 2 == 1) = true := by rw [Int.tmod_eq_emod_of_nonneg (by omega)]; exact a1
        by_cases qb1 : qb % 2 = 1
        · have b1 : ((qb : Int) % 2 == 1) = true := by rw [beq_iff_eq]; omega
          have b2 : ((qb : Int).tmod 2 == 1) = true := by rw [Int.tmod_eq_emod_of_nonneg (by omega)]; exact b1
          obtain rfl : qc = 1 := hbit.2 ⟨qa1, qb1⟩
          go_wp2_with (go_at_call 55; refine (h2 _).mono ?_; rintro e w' ⟨rfl, rfl⟩)
          exact ⟨⟨k + 1, by omega, by simp, by rw [hc]; simp⟩, by simp [intOf]; omega⟩
        · have b1 : ((qb : Int) % 2 == 1) = false := by rw [beq_eq_false_iff_ne]; omega
          have b2 : ((qb : Int).tmod 2 == 1) = false := by rw [Int.tmod_eq_emod_of_nonneg (by omega)]; exact b1
          obtain rfl : qc = 0 := by rcases hqc with h | h; exact absurd (hbit.1 h).2 qb1; exact h
          go_wp2_with (go_at_call 55; refine (h2 _).mono ?_; rintro e w' ⟨rfl, rfl⟩)
          exact ⟨⟨k + 1, by omega, by simp, by rw [hc]; simp⟩, by simp [intOf]; omega⟩
      · have a1 : ((qa : Int) % 2 == 1) = false := by rw [beq_eq_false_iff_ne]; omega
        have a2 : ((qa : Int).tmod 2 == 1) = false := by rw [Int.tmod_eq_emod_of_nonneg (by omega)]; exact a1
        obtain rfl : qc = 0 := by rcases hqc with h | h; exact absurd (hbit.1 h).1 qa1; exact h
        go_wp2_with (go_at_call 55; refine (h2 _).mono ?_; rintro e w' ⟨rfl, rfl⟩)
        exact ⟨⟨k + 1, by omega, by simp, by rw [hc]; simp⟩, by simp [intOf]; omega⟩
    · obtain rfl : k = 16 := by omega
      have e : (a &&& b) % 2 ^ 16 = a &&& b := Nat.mod_eq_of_lt (Nat.lt_of_le_of_lt Nat.and_le_left ha)
      rw [e]
      go_wp2
      go_ret
      exact ⟨rfl, rfl⟩
theorem size_walk (x : Int) (h0 : 0 ≤ x) (w : World) : Calls Tryd.prog 15 #[.int .u16 x] w fun e w' => e = .returned (.int .i64 (if x % 4 = 3 then 4 else 2)) ∧ w' = w := by
  by_cases h : x % 4 = 3
  · rw [if_pos h]
    go_enter Tryd.func15, Tryd.ntmps15
    go_wp2
    go_ret
    exact ⟨rfl, rfl⟩
  · rw [if_neg h]
    go_enter Tryd.func15, Tryd.ntmps15
    go_wp2
    go_ret
    exact ⟨rfl, rfl⟩
end Go.Proofs.YtbmcanpjpibecaaDoor
