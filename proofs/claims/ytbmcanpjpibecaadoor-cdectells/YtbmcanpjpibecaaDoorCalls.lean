/- What the calls of the package bits, and of the document's own answers, give, for whatever numbers: fields of words. -/
import Derived.Test.YtbmcanpjpibecaaDoorRows
import Derived.Test.YtbmcanpjpibecaaDoorMath
import Derived.WalkKit
import Derived.ProofKit
import Derived.OpenShut
import Derived.Deep.QuietTactic
import Derived.BigQuiet
import Derived.Deep.RegionWith
namespace Go.Proofs.YtbmcanpjpibecaaDoor
open Go.ChangeShapes Go.WideShapes Go.ChangeAt Go.RowKit

theorem mask_walk (n : Nat) (h1 : n ≤ 32) (w : World) :
    Calls Tryd.prog 54 #[.int .i64 n] w fun e w' => e = .returned (.int .u32 (2 ^ n - 1)) ∧ w' = w := by
  go_enter Tryd.func54, Tryd.ntmps54
  go_wp2
  rw [mask_num n h1]
  go_ret
  exact ⟨rfl, rfl⟩

/-- may a field be? -/
def isF (a n : Int) : Bool := decide (0 ≤ a ∧ a < 32 ∧ 1 ≤ n ∧ n ≤ 32 - a)

theorem isF_true {a n : Int} (h : isF a n = true) : 0 ≤ a ∧ a < 32 ∧ 1 ≤ n ∧ n ≤ 32 - a := of_decide_eq_true h
theorem isF_of {a n : Int} (h : 0 ≤ a ∧ a < 32 ∧ 1 ≤ n ∧ n ≤ 32 - a) : isF a n = true := decide_eq_true h
theorem isF_false {a n : Int} (h : isF a n = false) : ¬ (0 ≤ a ∧ a < 32 ∧ 1 ≤ n ∧ n ≤ 32 - a) := of_decide_eq_false h

theorem two_walk (n : Int) (w : World) :
    Calls Tryd.prog 55 #[.int .i64 n] w fun e w' => e = .returned (.int .i64 (2 ^ (min n.toNat 62))) ∧ w' = w := by
  go_enter Tryd.func55, Tryd.ntmps55
  go_wp2
  go_loop [3, 4] (fun t i => ∃ k : Nat, k ≤ 62 ∧ k ≤ n.toNat ∧ i = .int .i64 k ∧ t = .int .i64 (2 ^ k)) (fun _ i => 62 - (intOf i).toNat)
  case atStart => exact ⟨0, by omega, by omega, rfl, rfl⟩
  case round =>
    obtain ⟨k, hk, hkn, rfl, rfl⟩ := hrel
    have hp : k < 62 → (2 : Int) ^ k * 2 = 2 ^ (k + 1) ∧ (2 : Int) ^ k ≤ 2 ^ 61 ∧ (0 : Int) < 2 ^ k := fun h => ⟨by rw [Int.pow_succ], two_pow_le' (by omega), two_pow_pos' k⟩
    go_wp2
    · have hk62 : k < 62 := by omega
      rw [(hp hk62).1]
      exact ⟨⟨k + 1, by omega, by omega, by go_num, rfl⟩, by simp [intOf]; omega⟩
    · have e : min n.toNat 62 = k := by omega
      rw [e]
      go_ret
      exact ⟨rfl, rfl⟩
    · have e : min n.toNat 62 = k := by omega
      rw [e]
      go_ret
      exact ⟨rfl, rfl⟩

theorem two_walk_at (n : Nat) (h : n ≤ 62) (w : World) :
    Calls Tryd.prog 55 #[.int .i64 n] w fun e w' => e = .returned (.int .i64 (2 ^ n)) ∧ w' = w := by
  have h1 := two_walk n w
  have e : min (n : Int).toNat 62 = n := by omega
  rwa [e] at h1

theorem pow_le32 {n : Nat} (h : n ≤ 32) : (2 : Int) ^ n ≤ 4294967296 := two_pow_le' (b := 32) h

theorem sign_walk_lo (v n : Nat) (h1 : 1 ≤ n) (h2 : n ≤ 32) (hlo : (v : Int) < 2 ^ (n - 1)) (w : World) :
    Calls Tryd.prog 34 #[.int .u32 v, .int .i64 n] w fun e w' => e = .returned (.tuple #[.int .i64 v, .int .i64 0]) ∧ ∃ m, w' = w.drewN m := by
  have p3 := pow_le32 h2
  have e := two_pow_half h1
  have ht : ((v : Int) / 2 ^ (n - 1) == 1) = false := by rw [Int.ediv_eq_zero_of_lt (by omega) hlo]; rfl
  have hv : (v : Int) ≤ 2 ^ n - 1 := by omega
  clear e
  go_enter Tryd.func34, Tryd.ntmps34
  go_wp2_with (first
    | (go_at_call 54; refine (mask_walk n (by omega) _).mono ?_; rintro e w' ⟨rfl, rfl⟩))
  go_ret2
  exact ⟨rfl, 0, rfl⟩

theorem sign_walk_hi (v n : Nat) (h1 : 1 ≤ n) (h2 : n ≤ 32) (hv : (v : Int) < 2 ^ n) (hhi : (2 : Int) ^ (n - 1) ≤ v) (w : World) :
    Calls Tryd.prog 34 #[.int .u32 v, .int .i64 n] w fun e w' => e = .returned (.tuple #[.int .i64 (v - 2 ^ n), .int .i64 0]) ∧ ∃ m, w' = w.drewN m := by
  have p3 := pow_le32 h2
  have p4 := two_pow_pos' (n - 1)
  have e := two_pow_half h1
  have ht : ((v : Int) / 2 ^ (n - 1) == 1) = true := by
    have : (v : Int) / 2 ^ (n - 1) = 1 := by
      apply Int.le_antisymm
      · have := Int.ediv_lt_of_lt_mul (a := v) (b := 2) p4 (by omega)
        omega
      · exact Int.le_ediv_of_mul_le p4 (by omega)
    rw [this]; rfl
  have hv : (v : Int) ≤ 2 ^ n - 1 := by omega
  clear e
  go_enter Tryd.func34, Tryd.ntmps34
  go_wp2_with (first
    | (go_at_call 54; refine (mask_walk n (by omega) _).mono ?_; rintro e w' ⟨rfl, rfl⟩))
  go_ret2
  exact ⟨rfl, 0, rfl⟩

theorem sign_walk_no (v n : Int) (h : n < 1 ∨ 32 < n) (w : World) :
    Calls Tryd.prog 34 #[.int .u32 v, .int .i64 n] w fun e w' => e = .returned (.tuple #[.int .i64 0, .int .i64 2]) ∧ ∃ m, w' = w.drewN m := by
  rcases h with h | h
  · go_enter Tryd.func34, Tryd.ntmps34
    go_wp2
    go_ret2
    exact ⟨rfl, 0, rfl⟩
  · have h' : ¬ n < 1 := by omega
    go_enter Tryd.func34, Tryd.ntmps34
    go_wp2
    go_ret2
    exact ⟨rfl, 0, rfl⟩

theorem sign_walk_big (v n : Nat) (h1 : 1 ≤ n) (h2 : n ≤ 32) (hv : (2 : Int) ^ n ≤ v) (w : World) :
    Calls Tryd.prog 34 #[.int .u32 v, .int .i64 n] w fun e w' => e = .returned (.tuple #[.int .i64 0, .int .i64 2]) ∧ ∃ m, w' = w.drewN m := by
  have hvI : (2 : Int) ^ n - 1 < v := by omega
  go_enter Tryd.func34, Tryd.ntmps34
  go_wp2_with (first
    | (go_at_call 54; refine (mask_walk n (by omega) _).mono ?_; rintro e w' ⟨rfl, rfl⟩))
  go_ret2
  exact ⟨rfl, 0, rfl⟩

/-- is it a number of n bits? -/
def fitsB (x n : Int) : Bool := decide (1 ≤ n ∧ n ≤ 63 ∧ -2 ^ (n.toNat - 1) ≤ x ∧ x ≤ 2 ^ (n.toNat - 1) - 1)

theorem fits_walk (x n : Int) (w : World) :
    Calls Tryd.prog 50 #[.int .i64 x, .int .i64 n] w fun e w' => e = .returned (.bool (fitsB x n)) ∧ w' = w := by
  unfold fitsB
  by_cases h1 : 1 ≤ n
  · by_cases h2 : n ≤ 63
    · have p3 : (2 : Int) ^ (n.toNat - 1) ≤ 2 ^ 62 := two_pow_le' (by omega)
      have p4 := two_pow_pos' (n.toNat - 1)
      go_enter Tryd.func50, Tryd.ntmps50
      go_wp2
      all_goals (go_ret; refine ⟨?_, rfl⟩; simp [*])
      all_goals first | omega | (rw [Bool.eq_iff_iff]; simp; omega)
    · go_enter Tryd.func50, Tryd.ntmps50
      go_wp2
      all_goals (go_ret; refine ⟨?_, rfl⟩; simp [*])
      all_goals omega
  · go_enter Tryd.func50, Tryd.ntmps50
    go_wp2
    all_goals (go_ret; refine ⟨?_, rfl⟩; simp [*])
    all_goals omega

theorem bits_walk (x a n : Nat) (hx : x < 4294967296) (ha : a ≤ 32) (hn : n ≤ 32) (w : World) :
    Calls Tryd.prog 58 #[.int .u32 x, .int .i64 a, .int .i64 n] w fun e w' => e = .returned (.int .u32 ((x : Int) / 2 ^ a % 2 ^ n)) ∧ ∃ m, w' = w.drewN m := by
  have p1 := two_pow_pos' a
  have p2 := two_pow_pos' n
  have p3 := pow_le32 hn
  have p4 : (0 : Int) ≤ (x : Int) / 2 ^ a := Int.ediv_nonneg (by omega) (by omega)
  have p5 : (x : Int) / 2 ^ a ≤ x := Int.ediv_le_self _ (by omega)
  go_enter Tryd.func58, Tryd.ntmps58
  go_wp2
  go_quiet ((first
    | (go_at_call_of 55 (Value.int .i64 (a : Int)); exact Calls.quiet_of_same (two_walk_at a (by omega) _))
    | (go_at_call_of 55 (Value.int .i64 (n : Int)); exact Calls.quiet_of_same (two_walk_at n (by omega) _))))
  go_wp2
  go_ret
  exact ⟨rfl, _, rfl⟩

theorem wrap64_id {n : Int} (h1 : -9223372036854775808 ≤ n) (h2 : n ≤ 9223372036854775807) : wrap64 n = n := by
  unfold wrap64; omega

theorem rput_num (x a n v : Nat) (hx : x < 4294967296) (hb : a + n ≤ 32) (hv : v < 2 ^ n) :
    wrap64 (wrap64 ((x : Int) - wrap64 (wrap64 ((x : Int) / 2 ^ a % 2 ^ n) * 2 ^ a)) + wrap64 ((v : Int) * 2 ^ a)) % 4294967296 = (putN x a n v : Nat) := by
  have q0 := putN_lt x a n v (by omega) (by omega) hv
  have q1 := putN_doc x a n v (by omega) (by omega) hv
  have pa := two_pow_pos' a
  have pn := two_pow_pos' n
  have q2 : (0 : Int) ≤ (x : Int) / 2 ^ a % 2 ^ n * 2 ^ a := Int.mul_nonneg (Int.emod_nonneg _ (by omega)) (by omega)
  have q3 : (x : Int) / 2 ^ a % 2 ^ n * 2 ^ a ≤ x := by
    have h1 : (x : Int) / 2 ^ a % 2 ^ n ≤ (x : Int) / 2 ^ a := emod_le_self' (Int.ediv_nonneg (by omega) (by omega)) (by omega)
    have h2 := Int.mul_le_mul_of_nonneg_right h1 (by omega : (0 : Int) ≤ 2 ^ a)
    have h3 := Int.ediv_mul_le (x : Int) (b := 2 ^ a) (by omega)
    omega
  have q4 : (0 : Int) ≤ (v : Int) * 2 ^ a := Int.mul_nonneg (by omega) (by omega)
  have q5 : (v : Int) * 2 ^ a < 4294967296 := by
    have h1 := fieldAt_lt a n v (by omega) hv
    have h2 : ((v * 2 ^ a : Nat) : Int) < 4294967296 := by omega
    simpa using h2
  have q6 : (0 : Int) ≤ (x : Int) / 2 ^ a % 2 ^ n := Int.emod_nonneg _ (by omega)
  have q7 : (x : Int) / 2 ^ a % 2 ^ n < 4294967296 := by
    have h1 := Int.emod_lt_of_pos ((x : Int) / 2 ^ a) pn
    have h2 := pow_le32 (n := n) (by omega)
    omega
  rw [q1]
  generalize putN x a n v = P at *
  rw [wrap64_id (n := (x : Int) / 2 ^ a % 2 ^ n) (by omega) (by omega)]
  generalize (x : Int) / 2 ^ a % 2 ^ n * 2 ^ a = T at *
  generalize (v : Int) * 2 ^ a = V at *
  rw [wrap64_id (n := T) (by omega) (by omega), wrap64_id (n := V) (by omega) (by omega), wrap64_id (n := (x : Int) - T) (by omega) (by omega), wrap64_id (by omega) (by omega)]
  omega

theorem two_walk_sub (n : Nat) (h1 : 1 ≤ n) (h : n ≤ 63) (w : World) :
    Calls Tryd.prog 55 #[.int .i64 ((n : Int) - 1)] w fun e w' => e = .returned (.int .i64 (2 ^ (n - 1))) ∧ w' = w := by
  have e1 : (n : Int) - 1 = ((n - 1 : Nat) : Int) := by omega
  rw [e1]
  exact two_walk_at (n - 1) (by omega) w

theorem signed_walk_lo (v n : Nat) (h1 : 1 ≤ n) (h2 : n ≤ 32) (hv2 : v < 4294967296) (hlo : (v : Int) < 2 ^ (n - 1)) (w : World) :
    Calls Tryd.prog 42 #[.int .u32 v, .int .i64 n] w fun e w' => e = .returned (.int .i64 v) ∧ w' = w := by
  go_enter Tryd.func42, Tryd.ntmps42
  go_wp2_with (first
    | (go_at_call 55; refine (two_walk_sub n (by omega) (by omega) _).mono ?_; rintro e w' ⟨rfl, rfl⟩))
  go_ret
  exact ⟨rfl, rfl⟩

theorem signed_walk_hi (v n : Nat) (h1 : 1 ≤ n) (h2 : n ≤ 32) (hv2 : v < 4294967296) (hhi : (2 : Int) ^ (n - 1) ≤ v) (w : World) :
    Calls Tryd.prog 42 #[.int .u32 v, .int .i64 n] w fun e w' => e = .returned (.int .i64 (v - 2 ^ n)) ∧ w' = w := by
  have p2 := two_pow_pos' n
  have p3 := pow_le32 h2
  go_enter Tryd.func42, Tryd.ntmps42
  go_wp2_with (first
    | (go_at_call_of 55 (Value.int .i64 (n : Int)); refine (two_walk_at n (by omega) _).mono ?_; rintro e w' ⟨rfl, rfl⟩)
    | (go_at_call 55; refine (two_walk_sub n (by omega) (by omega) _).mono ?_; rintro e w' ⟨rfl, rfl⟩))
  go_ret
  exact ⟨rfl, rfl⟩

end Go.Proofs.YtbmcanpjpibecaaDoor
