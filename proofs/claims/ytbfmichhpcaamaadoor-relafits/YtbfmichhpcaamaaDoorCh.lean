/- Which sections may be: the program's, and the document's. -/
import Derived.Test.YtbfmichhpcaamaaDoorKe
namespace Go.Proofs.YtbfmichhpcaamaaDoor
open Go.RowKit

abbrev sectV (s : ByteArray) (align : Int) (a : Option Addr) (len cap : Nat) (size : Int) : Value := .agg #[.string s, .int .i64 align, .slice a len cap, .int .i64 size]

theorem align_bits : ∀ k : Fin 65, 1 ≤ k.val → (bits .and .i64 (k.val : Int) ((k.val : Int) - 1) == 0) = alignB (k.val : Int) := by decide +kernel
theorem isAlign_walk (n : Int) (w : World) : Calls Tryd.prog 34 #[.int .i64 n] w fun e w' => e = .returned (.bool (alignB n)) ∧ w' = w := by
  by_cases h1 : 1 ≤ n
  · have d1 : decide ((1 : Int) ≤ n) = true := decide_eq_true h1
    by_cases h2 : n ≤ 64
    · have d2 : decide (n ≤ 64) = true := decide_eq_true h2
      obtain ⟨g, hg⟩ : ∃ g, alignB n = g := ⟨_, rfl⟩
      have hb : (bits .and .i64 n (n - 1) == 0) = g := by
        rw [← hg]
        have := align_bits ⟨n.toNat, by omega⟩ (by show 1 ≤ n.toNat; omega)
        rwa [show ((n.toNat : Nat) : Int) = n by omega] at this
      rw [hg]
      clear hg
      go_enter Tryd.func34, Tryd.ntmps34
      go_wp2
      go_ret
      exact ⟨rfl, rfl⟩
    · rw [show alignB n = false from decide_eq_false (by omega)]
      have d2 : decide (n ≤ 64) = false := decide_eq_false h2
      go_enter Tryd.func34, Tryd.ntmps34
      go_wp2
      go_ret
      exact ⟨rfl, rfl⟩
  · rw [show alignB n = false from decide_eq_false (by omega)]
    have d1 : decide ((1 : Int) ≤ n) = false := decide_eq_false h1
    go_enter Tryd.func34, Tryd.ntmps34
    go_wp2
    go_ret
    exact ⟨rfl, rfl⟩

set_option maxHeartbeats 1600000 in
theorem rmayAlign_walk (n : Int) (w : World) : Calls Tryd.prog 44 #[.int .i64 n] w fun e w' => e = .returned (.bool (alignB n)) ∧ w' = w := by
  go_enter Tryd.func44, Tryd.ntmps44
  go_wp2
  go_loop [3] (fun i => ∃ x, i = .int .i64 x ∧ (x = 1 ∨ x = 2 ∨ x = 4 ∨ x = 8 ∨ x = 16 ∨ x = 32 ∨ x = 64 ∨ x = 128) ∧ Hid (alignB n = true → x ≤ n)) (fun i => (128 - intOf i).toNat)
  case atStart => exact ⟨1, rfl, .inl rfl, fun ha => by have := of_decide_eq_true ha; omega⟩
  case round =>
    obtain ⟨x, rfl, hx, HL⟩ := hrel
    rcases hx with rfl | rfl | rfl | rfl | rfl | rfl | rfl | rfl
    · by_cases hn : n = 1
      · have HA : Hid (alignB n = true) := by rw [hn]; exact decide_eq_true (by decide)
        have e : (n == 1) = true := by rw [hn]; rfl
        clear hn
        go_wp2
        go_ret
        exact ⟨by rw [HA.out]; rfl, rfl⟩
      · have e : (n == 1) = false := by rw [beq_eq_false_iff_ne]; exact hn
        have HA : Hid (alignB n = true → 2 ≤ n) := fun ha => by have := HL.out ha; have := of_decide_eq_true ha; omega
        clear hn
        go_wp2
        go_round
        case rel => exact ⟨_, rfl, by decide, HA⟩
        case measure => simp [intOf]
    · by_cases hn : n = 2
      · have HA : Hid (alignB n = true) := by rw [hn]; exact decide_eq_true (by decide)
        have e : (n == 2) = true := by rw [hn]; rfl
        clear hn
        go_wp2
        go_ret
        exact ⟨by rw [HA.out]; rfl, rfl⟩
      · have e : (n == 2) = false := by rw [beq_eq_false_iff_ne]; exact hn
        have HA : Hid (alignB n = true → 4 ≤ n) := fun ha => by have := HL.out ha; have := of_decide_eq_true ha; omega
        clear hn
        go_wp2
        go_round
        case rel => exact ⟨_, rfl, by decide, HA⟩
        case measure => simp [intOf]
    · by_cases hn : n = 4
      · have HA : Hid (alignB n = true) := by rw [hn]; exact decide_eq_true (by decide)
        have e : (n == 4) = true := by rw [hn]; rfl
        clear hn
        go_wp2
        go_ret
        exact ⟨by rw [HA.out]; rfl, rfl⟩
      · have e : (n == 4) = false := by rw [beq_eq_false_iff_ne]; exact hn
        have HA : Hid (alignB n = true → 8 ≤ n) := fun ha => by have := HL.out ha; have := of_decide_eq_true ha; omega
        clear hn
        go_wp2
        go_round
        case rel => exact ⟨_, rfl, by decide, HA⟩
        case measure => simp [intOf]
    · by_cases hn : n = 8
      · have HA : Hid (alignB n = true) := by rw [hn]; exact decide_eq_true (by decide)
        have e : (n == 8) = true := by rw [hn]; rfl
        clear hn
        go_wp2
        go_ret
        exact ⟨by rw [HA.out]; rfl, rfl⟩
      · have e : (n == 8) = false := by rw [beq_eq_false_iff_ne]; exact hn
        have HA : Hid (alignB n = true → 16 ≤ n) := fun ha => by have := HL.out ha; have := of_decide_eq_true ha; omega
        clear hn
        go_wp2
        go_round
        case rel => exact ⟨_, rfl, by decide, HA⟩
        case measure => simp [intOf]
    · by_cases hn : n = 16
      · have HA : Hid (alignB n = true) := by rw [hn]; exact decide_eq_true (by decide)
        have e : (n == 16) = true := by rw [hn]; rfl
        clear hn
        go_wp2
        go_ret
        exact ⟨by rw [HA.out]; rfl, rfl⟩
      · have e : (n == 16) = false := by rw [beq_eq_false_iff_ne]; exact hn
        have HA : Hid (alignB n = true → 32 ≤ n) := fun ha => by have := HL.out ha; have := of_decide_eq_true ha; omega
        clear hn
        go_wp2
        go_round
        case rel => exact ⟨_, rfl, by decide, HA⟩
        case measure => simp [intOf]
    · by_cases hn : n = 32
      · have HA : Hid (alignB n = true) := by rw [hn]; exact decide_eq_true (by decide)
        have e : (n == 32) = true := by rw [hn]; rfl
        clear hn
        go_wp2
        go_ret
        exact ⟨by rw [HA.out]; rfl, rfl⟩
      · have e : (n == 32) = false := by rw [beq_eq_false_iff_ne]; exact hn
        have HA : Hid (alignB n = true → 64 ≤ n) := fun ha => by have := HL.out ha; have := of_decide_eq_true ha; omega
        clear hn
        go_wp2
        go_round
        case rel => exact ⟨_, rfl, by decide, HA⟩
        case measure => simp [intOf]
    · by_cases hn : n = 64
      · have HA : Hid (alignB n = true) := by rw [hn]; exact decide_eq_true (by decide)
        have e : (n == 64) = true := by rw [hn]; rfl
        clear hn
        go_wp2
        go_ret
        exact ⟨by rw [HA.out]; rfl, rfl⟩
      · have e : (n == 64) = false := by rw [beq_eq_false_iff_ne]; exact hn
        have HA : Hid (alignB n = true → 128 ≤ n) := fun ha => by have := HL.out ha; have := of_decide_eq_true ha; omega
        clear hn
        go_wp2
        go_round
        case rel => exact ⟨_, rfl, by decide, HA⟩
        case measure => simp [intOf]
    · have HA : Hid (alignB n = false) := by
        cases ha : alignB n
        · rfl
        · have := HL.out ha
          have := of_decide_eq_true ha
          omega
      go_wp2
      go_ret
      exact ⟨by rw [HA.out]; rfl, rfl⟩

/-- The seven ways of sizes. -/
def WaysS (len : Nat) (size : Int) (i : Nat) : Prop :=
  match i with
  | 0 => len ≠ 0
  | 1 => len = 0 ∧ size < 0
  | 2 => len = 0 ∧ 0 ≤ size ∧ 4096 < size
  | 3 => len = 0 ∧ 0 ≤ size ∧ size ≤ 4096
  | 4 => 4096 < len
  | 5 => len ≤ 4096 ∧ size ≠ 0
  | _ => len ≤ 4096 ∧ size = 0
theorem ways_bss (len : Nat) (size : Int) : WaysS len size 0 ∨ WaysS len size 1 ∨ WaysS len size 2 ∨ WaysS len size 3 := by
  show len ≠ 0 ∨ (len = 0 ∧ size < 0) ∨ (len = 0 ∧ 0 ≤ size ∧ 4096 < size) ∨ (len = 0 ∧ 0 ≤ size ∧ size ≤ 4096)
  omega
theorem ways_other (len : Nat) (size : Int) : WaysS len size 4 ∨ WaysS len size 5 ∨ WaysS len size 6 := by
  show 4096 < len ∨ (len ≤ 4096 ∧ size ≠ 0) ∨ (len ≤ 4096 ∧ size = 0)
  omega
set_option maxHeartbeats 1600000 in
theorem hasRoom_walk (s : ByteArray) (align : Int) (a : Option Addr) (len cap : Nat) (size : Int) (k : Nat) (x : Int) (w : World) (hx : (k : Int) = x) :
    Calls Tryd.prog 35 #[sectV s align a len cap size, .int .u8 x] w fun e w' => e = .returned (.bool (sizesB k len size)) ∧ Kept w w' := by
  by_cases hk : k = 4
  · have q : (x == 4) = true := by rw [beq_iff_eq]; omega
    rcases ways_bss len size with hw | hw | hw | hw
    · replace hw : len ≠ 0 := hw
      have HS : Hid (sizesB k len size = false) := by unfold Hid sizesB; rw [if_pos (by omega)]; exact decide_eq_false (by omega)
      have e1 : ((len : Int) == 0) = false := by rw [beq_eq_false_iff_ne]; omega
      have e1n : (len == 0) = false := by rw [beq_eq_false_iff_ne]; omega
      clear hw
      clear hk hx
      go_enter Tryd.func35, Tryd.ntmps35
      go_wp2
      go_ret
      exact ⟨by rw [HS.out]; rfl, Kept.alloc _ _⟩
    · replace hw : len = 0 ∧ size < 0 := hw
      have HS : Hid (sizesB k len size = false) := by unfold Hid sizesB; rw [if_pos (by omega)]; exact decide_eq_false (by omega)
      have e1 : ((len : Int) == 0) = true := by rw [beq_iff_eq]; omega
      have e1n : (len == 0) = true := by rw [beq_iff_eq]; omega
      have e2 : decide (0 ≤ size) = false := decide_eq_false (by omega)
      clear hw
      clear hk hx
      go_enter Tryd.func35, Tryd.ntmps35
      go_wp2
      go_ret
      exact ⟨by rw [HS.out]; rfl, Kept.alloc _ _⟩
    · replace hw : len = 0 ∧ 0 ≤ size ∧ 4096 < size := hw
      have HS : Hid (sizesB k len size = false) := by unfold Hid sizesB; rw [if_pos (by omega)]; exact decide_eq_false (by omega)
      have e1 : ((len : Int) == 0) = true := by rw [beq_iff_eq]; omega
      have e1n : (len == 0) = true := by rw [beq_iff_eq]; omega
      have e2 : decide (0 ≤ size) = true := decide_eq_true (by omega)
      have e3 : decide (size ≤ 4096) = false := decide_eq_false (by omega)
      clear hw
      clear hk hx
      go_enter Tryd.func35, Tryd.ntmps35
      go_wp2
      go_ret
      exact ⟨by rw [HS.out]; rfl, Kept.alloc _ _⟩
    · replace hw : len = 0 ∧ 0 ≤ size ∧ size ≤ 4096 := hw
      have HS : Hid (sizesB k len size = true) := by unfold Hid sizesB; rw [if_pos (by omega)]; exact decide_eq_true (by omega)
      have e1 : ((len : Int) == 0) = true := by rw [beq_iff_eq]; omega
      have e1n : (len == 0) = true := by rw [beq_iff_eq]; omega
      have e2 : decide (0 ≤ size) = true := decide_eq_true (by omega)
      have e3 : decide (size ≤ 4096) = true := decide_eq_true (by omega)
      clear hw
      clear hk hx
      go_enter Tryd.func35, Tryd.ntmps35
      go_wp2
      go_ret
      exact ⟨by rw [HS.out]; rfl, Kept.alloc _ _⟩
  · have q : (x == 4) = false := by rw [beq_eq_false_iff_ne]; omega
    rcases ways_other len size with hw | hw | hw
    · replace hw : 4096 < len := hw
      have HS : Hid (sizesB k len size = false) := by unfold Hid sizesB; rw [if_neg (by omega)]; exact decide_eq_false (by omega)
      have e1 : decide ((len : Int) ≤ 4096) = false := decide_eq_false (by omega)
      have e1n : decide (len ≤ 4096) = false := decide_eq_false (by omega)
      clear hw
      clear hk hx
      go_enter Tryd.func35, Tryd.ntmps35
      go_wp2
      go_ret
      exact ⟨by rw [HS.out]; rfl, Kept.alloc _ _⟩
    · replace hw : len ≤ 4096 ∧ size ≠ 0 := hw
      have HS : Hid (sizesB k len size = false) := by unfold Hid sizesB; rw [if_neg (by omega)]; exact decide_eq_false (by omega)
      have e1 : decide ((len : Int) ≤ 4096) = true := decide_eq_true (by omega)
      have e1n : decide (len ≤ 4096) = true := decide_eq_true (by omega)
      have e2 : (size == 0) = false := by rw [beq_eq_false_iff_ne]; omega
      clear hw
      clear hk hx
      go_enter Tryd.func35, Tryd.ntmps35
      go_wp2
      go_ret
      exact ⟨by rw [HS.out]; rfl, Kept.alloc _ _⟩
    · replace hw : len ≤ 4096 ∧ size = 0 := hw
      have HS : Hid (sizesB k len size = true) := by unfold Hid sizesB; rw [if_neg (by omega)]; exact decide_eq_true (by omega)
      have e1 : decide ((len : Int) ≤ 4096) = true := decide_eq_true (by omega)
      have e1n : decide (len ≤ 4096) = true := decide_eq_true (by omega)
      have e2 : (size == 0) = true := by rw [beq_iff_eq]; omega
      clear hw
      clear hk hx
      go_enter Tryd.func35, Tryd.ntmps35
      go_wp2
      go_ret
      exact ⟨by rw [HS.out]; rfl, Kept.alloc _ _⟩

/-- What Check gives. -/
def chkS (l : List Int) (align : Int) (len : Nat) (size : Int) : Int := if sectB l align len size = true then 0 else 8
theorem chkS_kind {l : List Int} {align : Int} {len : Nat} {size : Int} (h : kindN l = 0) : chkS l align len size = 8 := by
  unfold chkS sectB
  rw [decide_eq_false (by simpa using h)]
  rfl
theorem chkS_align {l : List Int} {align : Int} {len : Nat} {size : Int} (h : alignB align = false) : chkS l align len size = 8 := by
  unfold chkS sectB
  rw [h, Bool.and_false, Bool.false_and]
  rfl
theorem chkS_sizes {l : List Int} {align : Int} {len : Nat} {size : Int} (hk : kindN l ≠ 0) (ha : alignB align = true) : chkS l align len size = if sizesB (kindN l) len size = true then 0 else 8 := by
  unfold chkS sectB
  rw [ha, decide_eq_true hk, Bool.true_and, Bool.true_and]

set_option maxHeartbeats 1600000 in
theorem check_walk (s : ByteArray) (align : Int) (a : Option Addr) (len cap : Nat) (size : Int) (w : World) (hs : s.size ≤ maxLen) :
    Calls Tryd.prog 19 #[sectV s align a len cap size] w fun e w' => e = .returned (.int .i64 (chkS (nm s) align len size)) ∧ Kept w w' := by
  have hK : ∀ w, Calls Tryd.prog 33 #[.string s] w fun e w' => e = .returned (.tuple #[.int .u8 (kindN (nm s)), .int .i64 (kE (nm s))]) ∧ Kept w w' := fun w => kind_walk s w hs
  by_cases h0 : kindN (nm s) = 0
  · rw [chkS_kind h0]
    rw [show kE (nm s) = 3 by unfold kE; rw [h0]; rfl, h0] at hK
    clear h0
    go_enter Tryd.func19, Tryd.ntmps19
    go_wp2_with (go_at_call 33; refine (hK _).mono ?_; rintro e w1 ⟨rfl, hk⟩)
    go_ret
    exact ⟨rfl, (Kept.alloc _ _).trans hk⟩
  · rw [show kE (nm s) = 0 by unfold kE; rw [if_neg h0]] at hK
    have hA := isAlign_walk align
    cases ha : alignB align with
    | false =>
      rw [chkS_align ha]
      rw [ha] at hA
      obtain ⟨k, hk0⟩ : ∃ k, kindN (nm s) = k := ⟨_, rfl⟩
      rw [hk0] at hK
      clear h0 hk0
      go_enter Tryd.func19, Tryd.ntmps19
      go_wp2_with (first
        | (go_at_call 33; refine (hK _).mono ?_; rintro e w1 ⟨rfl, hk⟩; have c1 : w1.cell? ⟨w.heap.size, 1, none⟩ = some (.int .i64 align) := hk.cell (by simp); clear hK)
        | (go_at_call 34; refine (hA _).mono ?_; rintro e w2 ⟨rfl, hw2⟩; have hw3 := hw2.symm; subst hw3; clear hw2))
      go_ret
      exact ⟨rfl, (Kept.alloc _ _).trans hk⟩
    | true =>
      rw [chkS_sizes h0 ha]
      rw [ha] at hA
      obtain ⟨k, hk0⟩ : ∃ k, kindN (nm s) = k := ⟨_, rfl⟩
      rw [hk0] at hK ⊢
      have hR := fun w => hasRoom_walk s align a len cap size k (k : Int) w rfl
      obtain ⟨g, hg⟩ : ∃ g, sizesB k len size = g := ⟨_, rfl⟩
      rw [hg] at hR ⊢
      clear h0 hk0 hg ha
      cases g with
      | false =>
        go_enter Tryd.func19, Tryd.ntmps19
        go_wp2_with (first
          | (go_at_call 33; refine (hK _).mono ?_; rintro e w1 ⟨rfl, hk⟩; have c0 : w1.cell? ⟨w.heap.size, 0, none⟩ = some (.string s) := hk.cell (by simp); have c1 : w1.cell? ⟨w.heap.size, 1, none⟩ = some (.int .i64 align) := hk.cell (by simp); have c2 : w1.cell? ⟨w.heap.size, 2, none⟩ = some (.slice a len cap) := hk.cell (by simp); have c3 : w1.cell? ⟨w.heap.size, 3, none⟩ = some (.int .i64 size) := hk.cell (by simp); clear hK)
          | (go_at_call 34; refine (hA _).mono ?_; rintro e w2 ⟨rfl, hw2⟩; have hw3 := hw2.symm; subst hw3; clear hw2)
          | (go_at_call 35; refine (hR _).mono ?_; rintro e w2 ⟨rfl, hk2⟩; clear c0 c1 c2 c3))
        go_ret
        exact ⟨rfl, ((Kept.alloc _ _).trans hk).trans hk2⟩
      | true =>
        go_enter Tryd.func19, Tryd.ntmps19
        go_wp2_with (first
          | (go_at_call 33; refine (hK _).mono ?_; rintro e w1 ⟨rfl, hk⟩; have c0 : w1.cell? ⟨w.heap.size, 0, none⟩ = some (.string s) := hk.cell (by simp); have c1 : w1.cell? ⟨w.heap.size, 1, none⟩ = some (.int .i64 align) := hk.cell (by simp); have c2 : w1.cell? ⟨w.heap.size, 2, none⟩ = some (.slice a len cap) := hk.cell (by simp); have c3 : w1.cell? ⟨w.heap.size, 3, none⟩ = some (.int .i64 size) := hk.cell (by simp); clear hK)
          | (go_at_call 34; refine (hA _).mono ?_; rintro e w2 ⟨rfl, hw2⟩; have hw3 := hw2.symm; subst hw3; clear hw2)
          | (go_at_call 35; refine (hR _).mono ?_; rintro e w2 ⟨rfl, hk2⟩; clear c0 c1 c2 c3))
        go_ret
        exact ⟨rfl, ((Kept.alloc _ _).trans hk).trans hk2⟩
end Go.Proofs.YtbfmichhpcaamaaDoor
