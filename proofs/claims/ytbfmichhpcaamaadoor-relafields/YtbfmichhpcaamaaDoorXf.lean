/- What a type is about; which sets it is in; which number may be added. -/
import Derived.Test.YtbfmichhpcaamaaDoorXb
namespace Go.Proofs.YtbfmichhpcaamaaDoor
open Go.RowKit

set_option maxHeartbeats 1600000 in
theorem field_walk (k : Int) (w : World) : Calls Tryd.prog 8 #[.int .u8 k] w fun e w' => e = .returned (.tuple #[.int .i64 (fdV k), .int .i64 (fdE k)]) ∧ w' = w := by
  by_cases h : TyB k
  · unfold TyB at h
    rcases h with rfl | rfl | rfl | rfl | rfl | rfl | rfl | rfl | rfl | rfl | rfl | rfl | rfl | rfl | rfl | rfl | rfl | rfl | rfl | rfl | rfl | rfl | rfl
    all_goals
      go_enter Tryd.func8, Tryd.ntmps8
      go_wp2
      go_ret2
      exact ⟨rfl, rfl⟩
  · rw [(fd_no h).1, (fd_no h).2]
    unfold TyB at h
    have q1 : (k == 1) = false := by rw [beq_eq_false_iff_ne]; exact fun e => h (by omega)
    have q2 : (k == 2) = false := by rw [beq_eq_false_iff_ne]; exact fun e => h (by omega)
    have q16 : (k == 16) = false := by rw [beq_eq_false_iff_ne]; exact fun e => h (by omega)
    have q17 : (k == 17) = false := by rw [beq_eq_false_iff_ne]; exact fun e => h (by omega)
    have q18 : (k == 18) = false := by rw [beq_eq_false_iff_ne]; exact fun e => h (by omega)
    have q23 : (k == 23) = false := by rw [beq_eq_false_iff_ne]; exact fun e => h (by omega)
    have q24 : (k == 24) = false := by rw [beq_eq_false_iff_ne]; exact fun e => h (by omega)
    have q25 : (k == 25) = false := by rw [beq_eq_false_iff_ne]; exact fun e => h (by omega)
    have q26 : (k == 26) = false := by rw [beq_eq_false_iff_ne]; exact fun e => h (by omega)
    have q27 : (k == 27) = false := by rw [beq_eq_false_iff_ne]; exact fun e => h (by omega)
    have q28 : (k == 28) = false := by rw [beq_eq_false_iff_ne]; exact fun e => h (by omega)
    have q33 : (k == 33) = false := by rw [beq_eq_false_iff_ne]; exact fun e => h (by omega)
    have q34 : (k == 34) = false := by rw [beq_eq_false_iff_ne]; exact fun e => h (by omega)
    have q35 : (k == 35) = false := by rw [beq_eq_false_iff_ne]; exact fun e => h (by omega)
    have q36 : (k == 36) = false := by rw [beq_eq_false_iff_ne]; exact fun e => h (by omega)
    have q37 : (k == 37) = false := by rw [beq_eq_false_iff_ne]; exact fun e => h (by omega)
    have q38 : (k == 38) = false := by rw [beq_eq_false_iff_ne]; exact fun e => h (by omega)
    have q39 : (k == 39) = false := by rw [beq_eq_false_iff_ne]; exact fun e => h (by omega)
    have q40 : (k == 40) = false := by rw [beq_eq_false_iff_ne]; exact fun e => h (by omega)
    have q43 : (k == 43) = false := by rw [beq_eq_false_iff_ne]; exact fun e => h (by omega)
    have q44 : (k == 44) = false := by rw [beq_eq_false_iff_ne]; exact fun e => h (by omega)
    have q45 : (k == 45) = false := by rw [beq_eq_false_iff_ne]; exact fun e => h (by omega)
    have q51 : (k == 51) = false := by rw [beq_eq_false_iff_ne]; exact fun e => h (by omega)
    clear h
    go_enter Tryd.func8, Tryd.ntmps8
    go_wp2
    go_ret2
    exact ⟨rfl, rfl⟩

set_option maxHeartbeats 1600000 in
theorem about_walk (k : Int) (w : World) : Calls Tryd.prog 25 #[.int .u8 k] w fun e w' => e = .returned (.int .i64 (abtN k)) ∧ w' = w := by
  by_cases h : TyB k
  · unfold TyB at h
    rcases h with rfl | rfl | rfl | rfl | rfl | rfl | rfl | rfl | rfl | rfl | rfl | rfl | rfl | rfl | rfl | rfl | rfl | rfl | rfl | rfl | rfl | rfl | rfl
    all_goals
      go_enter Tryd.func25, Tryd.ntmps25
      go_wp2
      go_ret
      exact ⟨rfl, rfl⟩
  · rw [abt_no h]
    unfold TyB at h
    have q1 : (k == 1) = false := by rw [beq_eq_false_iff_ne]; exact fun e => h (by omega)
    have q2 : (k == 2) = false := by rw [beq_eq_false_iff_ne]; exact fun e => h (by omega)
    have q16 : (k == 16) = false := by rw [beq_eq_false_iff_ne]; exact fun e => h (by omega)
    have q17 : (k == 17) = false := by rw [beq_eq_false_iff_ne]; exact fun e => h (by omega)
    have q18 : (k == 18) = false := by rw [beq_eq_false_iff_ne]; exact fun e => h (by omega)
    have q23 : (k == 23) = false := by rw [beq_eq_false_iff_ne]; exact fun e => h (by omega)
    have q24 : (k == 24) = false := by rw [beq_eq_false_iff_ne]; exact fun e => h (by omega)
    have q25 : (k == 25) = false := by rw [beq_eq_false_iff_ne]; exact fun e => h (by omega)
    have q26 : (k == 26) = false := by rw [beq_eq_false_iff_ne]; exact fun e => h (by omega)
    have q27 : (k == 27) = false := by rw [beq_eq_false_iff_ne]; exact fun e => h (by omega)
    have q28 : (k == 28) = false := by rw [beq_eq_false_iff_ne]; exact fun e => h (by omega)
    have q33 : (k == 33) = false := by rw [beq_eq_false_iff_ne]; exact fun e => h (by omega)
    have q34 : (k == 34) = false := by rw [beq_eq_false_iff_ne]; exact fun e => h (by omega)
    have q35 : (k == 35) = false := by rw [beq_eq_false_iff_ne]; exact fun e => h (by omega)
    have q36 : (k == 36) = false := by rw [beq_eq_false_iff_ne]; exact fun e => h (by omega)
    have q37 : (k == 37) = false := by rw [beq_eq_false_iff_ne]; exact fun e => h (by omega)
    have q38 : (k == 38) = false := by rw [beq_eq_false_iff_ne]; exact fun e => h (by omega)
    have q39 : (k == 39) = false := by rw [beq_eq_false_iff_ne]; exact fun e => h (by omega)
    have q40 : (k == 40) = false := by rw [beq_eq_false_iff_ne]; exact fun e => h (by omega)
    have q43 : (k == 43) = false := by rw [beq_eq_false_iff_ne]; exact fun e => h (by omega)
    have q44 : (k == 44) = false := by rw [beq_eq_false_iff_ne]; exact fun e => h (by omega)
    have q45 : (k == 45) = false := by rw [beq_eq_false_iff_ne]; exact fun e => h (by omega)
    have q51 : (k == 51) = false := by rw [beq_eq_false_iff_ne]; exact fun e => h (by omega)
    clear h
    go_enter Tryd.func25, Tryd.ntmps25
    go_wp2
    go_ret
    exact ⟨rfl, rfl⟩

theorem rfield_walk (k : Int) (w : World) : Calls Tryd.prog 14 #[.int .u8 k] w fun e w' => e = .returned (.tuple #[.int .i64 (fdV k), .int .i64 (fdE k)]) ∧ w' = w := by
  have hA := about_walk k w
  by_cases h : 0 ≤ abtN k
  · have e1 : fdV k = abtN k := if_pos h
    have e2 : fdE k = 0 := if_pos h
    have q : decide (abtN k < 0) = false := decide_eq_false (by omega)
    rw [e1, e2]
    obtain ⟨n, hn⟩ : ∃ n, abtN k = n := ⟨_, rfl⟩
    rw [hn] at hA q ⊢
    clear h e1 e2 hn
    go_enter Tryd.func14, Tryd.ntmps14
    go_wp2_with (go_at_call 25; refine hA.mono ?_; rintro e w2 ⟨rfl, hw2⟩; have hw3 := hw2.symm; subst hw3; clear hw2)
    go_ret2
    exact ⟨rfl, rfl⟩
  · have e1 : fdV k = 0 := if_neg h
    have e2 : fdE k = 2 := if_neg h
    have q : decide (abtN k < 0) = true := decide_eq_true (by omega)
    rw [e1, e2]
    obtain ⟨n, hn⟩ : ∃ n, abtN k = n := ⟨_, rfl⟩
    rw [hn] at hA q
    clear h e1 e2 hn
    go_enter Tryd.func14, Tryd.ntmps14
    go_wp2_with (go_at_call 25; refine hA.mono ?_; rintro e w2 ⟨rfl, hw2⟩; have hw3 := hw2.symm; subst hw3; clear hw2)
    go_ret2
    exact ⟨rfl, rfl⟩

/-- Is the bit at this number set? -/
theorem isIn_walk (s k : Nat) (g : Bool) (w : World) (_hk : k < 256) (_hs : s < 18446744073709551616) (hg : (bits .and .u64 ((s : Int) / 2 ^ min k 64) 1 == 1) = g) :
    Calls Tryd.prog 36 #[.int .u64 (s : Int), .int .u8 (k : Int)] w fun e w' => e = .returned (.bool g) ∧ w' = w := by
  subst hg
  go_enter Tryd.func36, Tryd.ntmps36
  go_wp2
  go_ret
  exact ⟨rfl, rfl⟩

theorem bits_alone : ∀ k : Fin 256, (bits .and .u64 (((2260595906707456 : Nat) : Int) / 2 ^ min k.val 64) 1 == 1) = decide ((k.val : Int) = 43 ∨ (k.val : Int) = 51) := by decide +kernel
theorem isIn_alone (k : Int) (w : World) (h0 : 0 ≤ k) (h1 : k < 256) : Calls Tryd.prog 36 #[.int .u64 2260595906707456, .int .u8 k] w fun e w' => e = .returned (.bool (decide (k = 43 ∨ k = 51))) ∧ w' = w := by
  obtain ⟨n, rfl⟩ : ∃ n : Nat, k = n := ⟨k.toNat, by omega⟩
  exact isIn_walk 2260595906707456 n _ w (by omega) (by decide) (bits_alone ⟨n, by omega⟩)

theorem bits_bare : ∀ k : Fin 256, (bits .and .u64 (((2251799864016896 : Nat) : Int) / 2 ^ min k.val 64) 1 == 1) = decide ((k.val : Int) = 51 ∨ (k.val : Int) = 24 ∨ (k.val : Int) = 25) := by decide +kernel
theorem isIn_bare (k : Int) (w : World) (h0 : 0 ≤ k) (h1 : k < 256) : Calls Tryd.prog 36 #[.int .u64 2251799864016896, .int .u8 k] w fun e w' => e = .returned (.bool (decide (k = 51 ∨ k = 24 ∨ k = 25))) ∧ w' = w := by
  obtain ⟨n, rfl⟩ : ∃ n : Nat, k = n := ⟨k.toNat, by omega⟩
  exact isIn_walk 2251799864016896 n _ w (by omega) (by decide) (bits_bare ⟨n, by omega⟩)

theorem bits_any : ∀ k : Fin 256, (bits .and .u64 (((2190433320966 : Nat) : Int) / 2 ^ min k.val 64) 1 == 1) = decide ((k.val : Int) = 1 ∨ (k.val : Int) = 2 ∨ (33 ≤ (k.val : Int) ∧ (k.val : Int) ≤ 40)) := by decide +kernel
theorem isIn_any (k : Int) (w : World) (h0 : 0 ≤ k) (h1 : k < 256) : Calls Tryd.prog 36 #[.int .u64 2190433320966, .int .u8 k] w fun e w' => e = .returned (.bool (decide (k = 1 ∨ k = 2 ∨ (33 ≤ k ∧ k ≤ 40)))) ∧ w' = w := by
  obtain ⟨n, rfl⟩ : ∃ n : Nat, k = n := ⟨k.toNat, by omega⟩
  exact isIn_walk 2190433320966 n _ w (by omega) (by decide) (bits_any ⟨n, by omega⟩)

theorem isAddend_walk (n : Int) (w : World) : Calls Tryd.prog 20 #[.int .i64 n] w fun e w' => e = .returned (.bool (adB n)) ∧ w' = w := by
  by_cases h0 : -2147483648 ≤ n
  · have d0 : decide (-2147483648 ≤ n) = true := decide_eq_true h0
    by_cases h1 : n ≤ 4294967295
    · have d1 : decide (n ≤ 4294967295) = true := decide_eq_true (by omega)
      rw [show adB n = true from decide_eq_true ⟨h0, h1⟩]
      clear h0 h1
      go_enter Tryd.func20, Tryd.ntmps20
      go_wp2
      go_ret
      exact ⟨rfl, rfl⟩
    · have d1 : decide (n ≤ 4294967295) = false := decide_eq_false (by omega)
      rw [show adB n = false from decide_eq_false (by omega)]
      clear h0 h1
      go_enter Tryd.func20, Tryd.ntmps20
      go_wp2
      go_ret
      exact ⟨rfl, rfl⟩
  · have d0 : decide (-2147483648 ≤ n) = false := decide_eq_false h0
    rw [show adB n = false from decide_eq_false (by omega)]
    clear h0
    go_enter Tryd.func20, Tryd.ntmps20
    go_wp2
    go_ret
    exact ⟨rfl, rfl⟩

theorem raddend_walk (n : Int) (w : World) : Calls Tryd.prog 41 #[.int .i64 n] w fun e w' => e = .returned (.bool (adB n)) ∧ w' = w := by
  by_cases h0 : -2147483648 ≤ n
  · have d0 : decide (-2147483648 ≤ n) = true := decide_eq_true h0
    by_cases h1 : n ≤ 4294967295
    · have d1 : decide (n < 4294967296) = true := decide_eq_true (by omega)
      rw [show adB n = true from decide_eq_true ⟨h0, h1⟩]
      clear h0 h1
      go_enter Tryd.func41, Tryd.ntmps41
      go_wp2
      go_ret
      exact ⟨rfl, rfl⟩
    · have d1 : decide (n < 4294967296) = false := decide_eq_false (by omega)
      rw [show adB n = false from decide_eq_false (by omega)]
      clear h0 h1
      go_enter Tryd.func41, Tryd.ntmps41
      go_wp2
      go_ret
      exact ⟨rfl, rfl⟩
  · have d0 : decide (-2147483648 ≤ n) = false := decide_eq_false h0
    rw [show adB n = false from decide_eq_false (by omega)]
    clear h0
    go_enter Tryd.func41, Tryd.ntmps41
    go_wp2
    go_ret
    exact ⟨rfl, rfl⟩

theorem rplain_walk (k : Int) (w : World) : Calls Tryd.prog 45 #[.int .u8 k] w fun e w' => e = .returned (.bool (plnX k)) ∧ w' = w := by
  by_cases h1 : k = 1
  · subst h1
    rw [show plnX 1 = true from rfl]
    go_enter Tryd.func45, Tryd.ntmps45
    go_wp2
    go_ret
    exact ⟨rfl, rfl⟩
  by_cases h2 : k = 2
  · subst h2
    rw [show plnX 2 = true from rfl]
    go_enter Tryd.func45, Tryd.ntmps45
    go_wp2
    go_ret
    exact ⟨rfl, rfl⟩
  have q1 : (k == 1) = false := by rw [beq_eq_false_iff_ne]; exact h1
  have q2 : (k == 2) = false := by rw [beq_eq_false_iff_ne]; exact h2
  by_cases h3 : 33 ≤ k
  · have d3 : decide (33 ≤ k) = true := decide_eq_true h3
    by_cases h4 : k ≤ 40
    · have d4 : decide (k ≤ 40) = true := decide_eq_true h4
      rw [show plnX k = true from decide_eq_true (by omega)]
      clear h1 h2 h3 h4
      go_enter Tryd.func45, Tryd.ntmps45
      go_wp2
      go_ret
      exact ⟨rfl, rfl⟩
    · have d4 : decide (k ≤ 40) = false := decide_eq_false h4
      rw [show plnX k = false from decide_eq_false (by omega)]
      clear h1 h2 h3 h4
      go_enter Tryd.func45, Tryd.ntmps45
      go_wp2
      go_ret
      exact ⟨rfl, rfl⟩
  · have d3 : decide (33 ≤ k) = false := decide_eq_false h3
    rw [show plnX k = false from decide_eq_false (by omega)]
    clear h1 h2 h3
    go_enter Tryd.func45, Tryd.ntmps45
    go_wp2
    go_ret
    exact ⟨rfl, rfl⟩
end Go.Proofs.YtbfmichhpcaamaaDoor
