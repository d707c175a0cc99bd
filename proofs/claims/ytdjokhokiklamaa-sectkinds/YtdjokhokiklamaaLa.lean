/- The law SectMay, walked. -/
import Derived.Test.YtdjokhokiklamaaKit
namespace Go.Proofs.Ytdjokhokiklamaa
open Go.RowKit

theorem chkS_no {l : List Int} {align : Int} {len : Nat} {size : Int} (hk : kindN l ≠ 0) : chkS l align len size = if (alignB align && sizesB (kindN l) len size) = true then 0 else 8 := by
  unfold chkS sectB
  rw [decide_eq_true hk, Bool.true_and]

set_option maxRecDepth 20000 in
set_option maxHeartbeats 3200000 in
theorem mayL_walk (s : ByteArray) (align : Int) (a : Option Addr) (len cap : Nat) (size : Int) (w : World) (hs : s.size ≤ maxLen) :
    Calls Try.prog 8 #[sectV s align a len cap size] w fun e w' => e = .returned (.bool true) ∧ Kept w w' := by
  have B1 := Box.new w s align (.slice a len cap) size
  obtain ⟨wa, hwa⟩ : ∃ wa, w.alloc (.cells #[.string s, .int .i64 align, .slice a len cap, .int .i64 size] 28) = wa := ⟨_, rfl⟩
  rw [hwa] at B1
  have kA : Kept w wa := by rw [← hwa]; exact Kept.alloc _ _
  have hA := alive_walk wa
  have hK := fun w => kind_walk s w hs
  have hC := fun w => check_walk s align a len cap size w hs
  go_enter Try.func8, Try.ntmps8
  go_upto_region 2 with (go_at_call 12; refine hA.mono ?_; rintro e w1 ⟨rfl, k1⟩)
  have B2 := B1.kept k1
  have K2 := kA.trans k1
  obtain ⟨c0, c1, c2, c3, _, _, _, _⟩ := B1.kept k1
  clear hA B1 hwa
  by_cases h1 : 10000 < len
  · have d1 : decide ((10000 : Int) < (len : Int)) = true := decide_eq_true (by omega)
    go_wp2
    go_ret
    exact ⟨rfl, K2⟩
  · have d1 : decide ((10000 : Int) < (len : Int)) = false := decide_eq_false (by omega)
    by_cases h2 : 1000 < s.size
    · have d2 : decide ((1000 : Int) < (s.size : Int)) = true := decide_eq_true (by omega)
      go_wp2
      go_ret
      exact ⟨rfl, K2⟩
    · have d2 : decide ((1000 : Int) < (s.size : Int)) = false := decide_eq_false (by omega)
      obtain ⟨k, hk⟩ : ∃ k, kindN (nm s) = k := ⟨_, rfl⟩
      obtain ⟨E, hE⟩ : ∃ E, kE (nm s) = E := ⟨_, rfl⟩
      obtain ⟨x, hx⟩ : ∃ x : Int, (k : Int) = x := ⟨_, rfl⟩
      have hk4 : k ≤ 4 := by rw [← hk]; exact kindN_le _
      rw [hk, hE, hx] at hK
      have HK : Hid (kindN (nm s) = k) := hk
      have HE : Hid (kE (nm s) = E) := hE
      have HX : Hid ((k : Int) = x) := hx
      clear hk hE
      go_upto_region 5 with (go_at_call 9; refine (hK _).mono ?_; rintro e w2 ⟨rfl, k2⟩)
      have B3 := B2.kept k2
      have K3 := K2.trans k2
      clear c0 c1 c2 c3 hK
      obtain ⟨c0, c1, c2, c3, _, _, _, _⟩ := B2.kept k2
      go_cut [6] (fun v wx => v = .bool (alignB align) ∧ wx = w2)
      case first =>
        clear hC c0 c2 c3
        by_cases h1 : align = 1
        · have e1 : (align == 1) = true := by rw [beq_iff_eq]; exact h1
          have HA : Hid (alignB align = true) := decide_eq_true (by omega)
          clear h1
          go_wp2
          go_meet
          exact ⟨by rw [HA.out], rfl⟩
        have e1 : (align == 1) = false := by rw [beq_eq_false_iff_ne]; exact h1
        by_cases h2 : align = 2
        · have e2 : (align == 2) = true := by rw [beq_iff_eq]; exact h2
          have HA : Hid (alignB align = true) := decide_eq_true (by omega)
          clear h1 h2
          go_wp2
          go_meet
          exact ⟨by rw [HA.out], rfl⟩
        have e2 : (align == 2) = false := by rw [beq_eq_false_iff_ne]; exact h2
        by_cases h4 : align = 4
        · have e4 : (align == 4) = true := by rw [beq_iff_eq]; exact h4
          have HA : Hid (alignB align = true) := decide_eq_true (by omega)
          clear h1 h2 h4
          go_wp2
          go_meet
          exact ⟨by rw [HA.out], rfl⟩
        have e4 : (align == 4) = false := by rw [beq_eq_false_iff_ne]; exact h4
        by_cases h8 : align = 8
        · have e8 : (align == 8) = true := by rw [beq_iff_eq]; exact h8
          have HA : Hid (alignB align = true) := decide_eq_true (by omega)
          clear h1 h2 h4 h8
          go_wp2
          go_meet
          exact ⟨by rw [HA.out], rfl⟩
        have e8 : (align == 8) = false := by rw [beq_eq_false_iff_ne]; exact h8
        by_cases h16 : align = 16
        · have e16 : (align == 16) = true := by rw [beq_iff_eq]; exact h16
          have HA : Hid (alignB align = true) := decide_eq_true (by omega)
          clear h1 h2 h4 h8 h16
          go_wp2
          go_meet
          exact ⟨by rw [HA.out], rfl⟩
        have e16 : (align == 16) = false := by rw [beq_eq_false_iff_ne]; exact h16
        by_cases h32 : align = 32
        · have e32 : (align == 32) = true := by rw [beq_iff_eq]; exact h32
          have HA : Hid (alignB align = true) := decide_eq_true (by omega)
          clear h1 h2 h4 h8 h16 h32
          go_wp2
          go_meet
          exact ⟨by rw [HA.out], rfl⟩
        have e32 : (align == 32) = false := by rw [beq_eq_false_iff_ne]; exact h32
        by_cases h64 : align = 64
        · have e64 : (align == 64) = true := by rw [beq_iff_eq]; exact h64
          have HA : Hid (alignB align = true) := decide_eq_true (by omega)
          clear h1 h2 h4 h8 h16 h32 h64
          go_wp2
          go_meet
          exact ⟨by rw [HA.out], rfl⟩
        have e64 : (align == 64) = false := by rw [beq_eq_false_iff_ne]; exact h64
        have HA : Hid (alignB align = false) := decide_eq_false (by omega)
        clear h1 h2 h4 h8 h16 h32 h64
        go_wp2
        go_meet
        exact ⟨by rw [HA.out], rfl⟩
      case rest =>
        obtain ⟨rfl, hw⟩ := hcut
        have hw' := hw.symm
        subst hw'
        clear hw
        go_upto_region 6 with fail
        go_cut [7] (fun v wx => v = .bool (sizesB k len size) ∧ wx = w2)
        case first =>
          clear hC c0 c1
          by_cases hk : k = 4
          · have q : (x == 4) = true := by rw [beq_iff_eq]; omega
            have q2 : (x != 4) = false := by rw [bne, q]; rfl
            rcases ways_bss len size with hw | hw | hw | hw
            · replace hw : len ≠ 0 := hw
              have HS : Hid (sizesB k len size = false) := by unfold Hid sizesB; rw [if_pos (by omega)]; exact decide_eq_false (by omega)
              have e1 : ((len : Int) == 0) = false := by rw [beq_eq_false_iff_ne]; omega
              have e1n : (len == 0) = false := by rw [beq_eq_false_iff_ne]; omega
              clear hw
              clear hk hx HX
              go_wp2
              go_meet
              exact ⟨by rw [HS.out], rfl⟩
            · replace hw : len = 0 ∧ size < 0 := hw
              have HS : Hid (sizesB k len size = false) := by unfold Hid sizesB; rw [if_pos (by omega)]; exact decide_eq_false (by omega)
              have e1 : ((len : Int) == 0) = true := by rw [beq_iff_eq]; omega
              have e1n : (len == 0) = true := by rw [beq_iff_eq]; omega
              have e2 : decide (0 ≤ size) = false := decide_eq_false (by omega)
              clear hw
              clear hk hx HX
              go_wp2
              go_meet
              exact ⟨by rw [HS.out], rfl⟩
            · replace hw : len = 0 ∧ 0 ≤ size ∧ 4096 < size := hw
              have HS : Hid (sizesB k len size = false) := by unfold Hid sizesB; rw [if_pos (by omega)]; exact decide_eq_false (by omega)
              have e1 : ((len : Int) == 0) = true := by rw [beq_iff_eq]; omega
              have e1n : (len == 0) = true := by rw [beq_iff_eq]; omega
              have e2 : decide (0 ≤ size) = true := decide_eq_true (by omega)
              have e3 : decide (size ≤ 4096) = false := decide_eq_false (by omega)
              clear hw
              clear hk hx HX
              go_wp2
              go_meet
              exact ⟨by rw [HS.out], rfl⟩
            · replace hw : len = 0 ∧ 0 ≤ size ∧ size ≤ 4096 := hw
              have HS : Hid (sizesB k len size = true) := by unfold Hid sizesB; rw [if_pos (by omega)]; exact decide_eq_true (by omega)
              have e1 : ((len : Int) == 0) = true := by rw [beq_iff_eq]; omega
              have e1n : (len == 0) = true := by rw [beq_iff_eq]; omega
              have e2 : decide (0 ≤ size) = true := decide_eq_true (by omega)
              have e3 : decide (size ≤ 4096) = true := decide_eq_true (by omega)
              clear hw
              clear hk hx HX
              go_wp2
              go_meet
              exact ⟨by rw [HS.out], rfl⟩
          · have q : (x == 4) = false := by rw [beq_eq_false_iff_ne]; omega
            have q2 : (x != 4) = true := by rw [bne, q]; rfl
            rcases ways_other len size with hw | hw | hw
            · replace hw : 4096 < len := hw
              have HS : Hid (sizesB k len size = false) := by unfold Hid sizesB; rw [if_neg (by omega)]; exact decide_eq_false (by omega)
              have e1 : decide ((len : Int) ≤ 4096) = false := decide_eq_false (by omega)
              have e1n : decide (len ≤ 4096) = false := decide_eq_false (by omega)
              clear hw
              clear hk hx HX
              go_wp2
              go_meet
              exact ⟨by rw [HS.out], rfl⟩
            · replace hw : len ≤ 4096 ∧ size ≠ 0 := hw
              have HS : Hid (sizesB k len size = false) := by unfold Hid sizesB; rw [if_neg (by omega)]; exact decide_eq_false (by omega)
              have e1 : decide ((len : Int) ≤ 4096) = true := decide_eq_true (by omega)
              have e1n : decide (len ≤ 4096) = true := decide_eq_true (by omega)
              have e2 : (size == 0) = false := by rw [beq_eq_false_iff_ne]; omega
              clear hw
              clear hk hx HX
              go_wp2
              go_meet
              exact ⟨by rw [HS.out], rfl⟩
            · replace hw : len ≤ 4096 ∧ size = 0 := hw
              have HS : Hid (sizesB k len size = true) := by unfold Hid sizesB; rw [if_neg (by omega)]; exact decide_eq_true (by omega)
              have e1 : decide ((len : Int) ≤ 4096) = true := decide_eq_true (by omega)
              have e1n : decide (len ≤ 4096) = true := decide_eq_true (by omega)
              have e2 : (size == 0) = true := by rw [beq_iff_eq]; omega
              clear hw
              clear hk hx HX
              go_wp2
              go_meet
              exact ⟨by rw [HS.out], rfl⟩
        case rest =>
          obtain ⟨rfl, hw⟩ := hcut
          have hw' := hw.symm
          subst hw'
          clear hw
          by_cases h0 : k = 0
          · have hc8 : chkS (nm s) align len size = 8 := chkS_kind (by rw [HK.out]; exact h0)
            obtain rfl : E = 3 := by rw [← HE.out]; unfold kE; rw [HK.out, h0]; rfl
            obtain rfl : x = 0 := by rw [← hx, h0]; rfl
            rw [hc8] at hC
            clear hc8 h0 hx HX
            go_wp2_with (go_at_call 10; refine (hC _).mono ?_; rintro e w3 ⟨rfl, k3⟩)
            go_ret
            exact ⟨rfl, K3.trans k3⟩
          · have hc := chkS_no (l := nm s) (align := align) (len := len) (size := size) (by rw [HK.out]; exact h0)
            rw [HK.out] at hc
            obtain rfl : E = 0 := by rw [← HE.out]; unfold kE; rw [HK.out, if_neg h0]
            rw [hc] at hC
            have x1 : decide ((1 : Int) ≤ x) = true := decide_eq_true (by omega)
            have x2 : decide (x ≤ 4) = true := decide_eq_true (by omega)
            obtain ⟨A, hA⟩ : ∃ A, alignB align = A := ⟨_, rfl⟩
            obtain ⟨S, hS⟩ : ∃ S, sizesB k len size = S := ⟨_, rfl⟩
            rw [hA, hS] at hC ⊢
            clear hc hA hS h0 hx HX
            cases A <;> cases S <;>
            · go_wp2_with (go_at_call 10; refine (hC _).mono ?_; rintro e w3 ⟨rfl, k3⟩)
              go_ret
              exact ⟨rfl, K3.trans k3⟩
end Go.Proofs.Ytdjokhokiklamaa
