/- Which sections may be: the document's own. -/
import Derived.Test.YtbfmichhpcaamaaDoorCh
namespace Go.Proofs.YtbfmichhpcaamaaDoor
open Go.RowKit

theorem sectB_kind {l : List Int} {align : Int} {len : Nat} {size : Int} (h : kindN l = 0) : sectB l align len size = false := by
  unfold sectB
  rw [decide_eq_false (by simpa using h)]
  rfl
theorem sectB_align {l : List Int} {align : Int} {len : Nat} {size : Int} (h : alignB align = false) : sectB l align len size = false := by
  unfold sectB
  rw [h, Bool.and_false, Bool.false_and]
theorem sectB_sizes {l : List Int} {align : Int} {len : Nat} {size : Int} (hk : kindN l ≠ 0) (ha : alignB align = true) : sectB l align len size = sizesB (kindN l) len size := by
  unfold sectB
  rw [ha, decide_eq_true hk, Bool.true_and, Bool.true_and]

set_option maxHeartbeats 1600000 in
theorem rmay_walk (s : ByteArray) (align : Int) (a : Option Addr) (len cap : Nat) (size : Int) (w : World) (hs : s.size ≤ maxLen) :
    Calls Tryd.prog 31 #[sectV s align a len cap size] w fun e w' => e = .returned (.bool (sectB (nm s) align len size)) ∧ Kept w w' := by
  have hK : ∀ w, Calls Tryd.prog 43 #[.string s] w fun e w' => e = .returned (.int .u8 (kindN (nm s))) ∧ Kept w w' := fun w => of_walk s w hs
  by_cases h0 : kindN (nm s) = 0
  · rw [sectB_kind h0]
    rw [h0] at hK
    clear h0
    go_enter Tryd.func31, Tryd.ntmps31
    go_wp2_with (go_at_call 43; refine (hK _).mono ?_; rintro e w1 ⟨rfl, hk⟩)
    go_ret
    exact ⟨rfl, (Kept.alloc _ _).trans hk⟩
  · have hA := rmayAlign_walk align
    have q0 : ((kindN (nm s) : Int) == 0) = false := by rw [beq_eq_false_iff_ne]; omega
    cases ha : alignB align with
    | false =>
      rw [sectB_align ha]
      rw [ha] at hA
      obtain ⟨x, hx⟩ : ∃ x : Int, (kindN (nm s) : Int) = x := ⟨_, rfl⟩
      rw [hx] at hK q0
      clear h0 hx
      go_enter Tryd.func31, Tryd.ntmps31
      go_wp2_with (first
        | (go_at_call 43; refine (hK _).mono ?_; rintro e w1 ⟨rfl, hk⟩; have c1 : w1.cell? ⟨w.heap.size, 1, none⟩ = some (.int .i64 align) := hk.cell (by simp); clear hK)
        | (go_at_call 44; refine (hA _).mono ?_; rintro e w2 ⟨rfl, hw2⟩; have hw3 := hw2.symm; subst hw3; clear hw2))
      go_ret
      exact ⟨rfl, (Kept.alloc _ _).trans hk⟩
    | true =>
      rw [sectB_sizes h0 ha]
      rw [ha] at hA
      obtain ⟨k, hk0⟩ : ∃ k, kindN (nm s) = k := ⟨_, rfl⟩
      rw [hk0] at hK q0 ⊢
      obtain ⟨x, hx⟩ : ∃ x : Int, (k : Int) = x := ⟨_, rfl⟩
      rw [hx] at hK q0
      clear h0 hk0 ha
      by_cases hk : k = 4
      · have q : (x == 4) = true := by rw [beq_iff_eq]; omega
        rcases ways_bss len size with hw | hw | hw | hw
        · replace hw : len ≠ 0 := hw
          have HS : Hid (sizesB k len size = false) := by unfold Hid sizesB; rw [if_pos (by omega)]; exact decide_eq_false (by omega)
          have e1 : ((len : Int) == 0) = false := by rw [beq_eq_false_iff_ne]; omega
          have e1n : (len == 0) = false := by rw [beq_eq_false_iff_ne]; omega
          clear hw
          clear hk hx
          go_enter Tryd.func31, Tryd.ntmps31
          go_wp2_with (first
            | (go_at_call 43; refine (hK _).mono ?_; rintro e w1 ⟨rfl, hk⟩; have c1 : w1.cell? ⟨w.heap.size, 1, none⟩ = some (.int .i64 align) := hk.cell (by simp); have c2 : w1.cell? ⟨w.heap.size, 2, none⟩ = some (.slice a len cap) := hk.cell (by simp); have c3 : w1.cell? ⟨w.heap.size, 3, none⟩ = some (.int .i64 size) := hk.cell (by simp); clear hK)
            | (go_at_call 44; refine (hA _).mono ?_; rintro e w2 ⟨rfl, hw2⟩; have hw3 := hw2.symm; subst hw3; clear hw2))
          go_ret
          exact ⟨by rw [HS.out]; rfl, (Kept.alloc _ _).trans hk⟩
        · replace hw : len = 0 ∧ size < 0 := hw
          have HS : Hid (sizesB k len size = false) := by unfold Hid sizesB; rw [if_pos (by omega)]; exact decide_eq_false (by omega)
          have e1 : ((len : Int) == 0) = true := by rw [beq_iff_eq]; omega
          have e1n : (len == 0) = true := by rw [beq_iff_eq]; omega
          have e2 : decide (0 ≤ size) = false := decide_eq_false (by omega)
          clear hw
          clear hk hx
          go_enter Tryd.func31, Tryd.ntmps31
          go_wp2_with (first
            | (go_at_call 43; refine (hK _).mono ?_; rintro e w1 ⟨rfl, hk⟩; have c1 : w1.cell? ⟨w.heap.size, 1, none⟩ = some (.int .i64 align) := hk.cell (by simp); have c2 : w1.cell? ⟨w.heap.size, 2, none⟩ = some (.slice a len cap) := hk.cell (by simp); have c3 : w1.cell? ⟨w.heap.size, 3, none⟩ = some (.int .i64 size) := hk.cell (by simp); clear hK)
            | (go_at_call 44; refine (hA _).mono ?_; rintro e w2 ⟨rfl, hw2⟩; have hw3 := hw2.symm; subst hw3; clear hw2))
          go_ret
          exact ⟨by rw [HS.out]; rfl, (Kept.alloc _ _).trans hk⟩
        · replace hw : len = 0 ∧ 0 ≤ size ∧ 4096 < size := hw
          have HS : Hid (sizesB k len size = false) := by unfold Hid sizesB; rw [if_pos (by omega)]; exact decide_eq_false (by omega)
          have e1 : ((len : Int) == 0) = true := by rw [beq_iff_eq]; omega
          have e1n : (len == 0) = true := by rw [beq_iff_eq]; omega
          have e2 : decide (0 ≤ size) = true := decide_eq_true (by omega)
          have e3 : decide (size ≤ 4096) = false := decide_eq_false (by omega)
          clear hw
          clear hk hx
          go_enter Tryd.func31, Tryd.ntmps31
          go_wp2_with (first
            | (go_at_call 43; refine (hK _).mono ?_; rintro e w1 ⟨rfl, hk⟩; have c1 : w1.cell? ⟨w.heap.size, 1, none⟩ = some (.int .i64 align) := hk.cell (by simp); have c2 : w1.cell? ⟨w.heap.size, 2, none⟩ = some (.slice a len cap) := hk.cell (by simp); have c3 : w1.cell? ⟨w.heap.size, 3, none⟩ = some (.int .i64 size) := hk.cell (by simp); clear hK)
            | (go_at_call 44; refine (hA _).mono ?_; rintro e w2 ⟨rfl, hw2⟩; have hw3 := hw2.symm; subst hw3; clear hw2))
          go_ret
          exact ⟨by rw [HS.out]; rfl, (Kept.alloc _ _).trans hk⟩
        · replace hw : len = 0 ∧ 0 ≤ size ∧ size ≤ 4096 := hw
          have HS : Hid (sizesB k len size = true) := by unfold Hid sizesB; rw [if_pos (by omega)]; exact decide_eq_true (by omega)
          have e1 : ((len : Int) == 0) = true := by rw [beq_iff_eq]; omega
          have e1n : (len == 0) = true := by rw [beq_iff_eq]; omega
          have e2 : decide (0 ≤ size) = true := decide_eq_true (by omega)
          have e3 : decide (size ≤ 4096) = true := decide_eq_true (by omega)
          clear hw
          clear hk hx
          go_enter Tryd.func31, Tryd.ntmps31
          go_wp2_with (first
            | (go_at_call 43; refine (hK _).mono ?_; rintro e w1 ⟨rfl, hk⟩; have c1 : w1.cell? ⟨w.heap.size, 1, none⟩ = some (.int .i64 align) := hk.cell (by simp); have c2 : w1.cell? ⟨w.heap.size, 2, none⟩ = some (.slice a len cap) := hk.cell (by simp); have c3 : w1.cell? ⟨w.heap.size, 3, none⟩ = some (.int .i64 size) := hk.cell (by simp); clear hK)
            | (go_at_call 44; refine (hA _).mono ?_; rintro e w2 ⟨rfl, hw2⟩; have hw3 := hw2.symm; subst hw3; clear hw2))
          go_ret
          exact ⟨by rw [HS.out]; rfl, (Kept.alloc _ _).trans hk⟩
      · have q : (x == 4) = false := by rw [beq_eq_false_iff_ne]; omega
        rcases ways_other len size with hw | hw | hw
        · replace hw : 4096 < len := hw
          have HS : Hid (sizesB k len size = false) := by unfold Hid sizesB; rw [if_neg (by omega)]; exact decide_eq_false (by omega)
          have e1 : decide ((len : Int) ≤ 4096) = false := decide_eq_false (by omega)
          have e1n : decide (len ≤ 4096) = false := decide_eq_false (by omega)
          clear hw
          clear hk hx
          go_enter Tryd.func31, Tryd.ntmps31
          go_wp2_with (first
            | (go_at_call 43; refine (hK _).mono ?_; rintro e w1 ⟨rfl, hk⟩; have c1 : w1.cell? ⟨w.heap.size, 1, none⟩ = some (.int .i64 align) := hk.cell (by simp); have c2 : w1.cell? ⟨w.heap.size, 2, none⟩ = some (.slice a len cap) := hk.cell (by simp); have c3 : w1.cell? ⟨w.heap.size, 3, none⟩ = some (.int .i64 size) := hk.cell (by simp); clear hK)
            | (go_at_call 44; refine (hA _).mono ?_; rintro e w2 ⟨rfl, hw2⟩; have hw3 := hw2.symm; subst hw3; clear hw2))
          go_ret
          exact ⟨by rw [HS.out]; rfl, (Kept.alloc _ _).trans hk⟩
        · replace hw : len ≤ 4096 ∧ size ≠ 0 := hw
          have HS : Hid (sizesB k len size = false) := by unfold Hid sizesB; rw [if_neg (by omega)]; exact decide_eq_false (by omega)
          have e1 : decide ((len : Int) ≤ 4096) = true := decide_eq_true (by omega)
          have e1n : decide (len ≤ 4096) = true := decide_eq_true (by omega)
          have e2 : (size == 0) = false := by rw [beq_eq_false_iff_ne]; omega
          clear hw
          clear hk hx
          go_enter Tryd.func31, Tryd.ntmps31
          go_wp2_with (first
            | (go_at_call 43; refine (hK _).mono ?_; rintro e w1 ⟨rfl, hk⟩; have c1 : w1.cell? ⟨w.heap.size, 1, none⟩ = some (.int .i64 align) := hk.cell (by simp); have c2 : w1.cell? ⟨w.heap.size, 2, none⟩ = some (.slice a len cap) := hk.cell (by simp); have c3 : w1.cell? ⟨w.heap.size, 3, none⟩ = some (.int .i64 size) := hk.cell (by simp); clear hK)
            | (go_at_call 44; refine (hA _).mono ?_; rintro e w2 ⟨rfl, hw2⟩; have hw3 := hw2.symm; subst hw3; clear hw2))
          go_ret
          exact ⟨by rw [HS.out]; rfl, (Kept.alloc _ _).trans hk⟩
        · replace hw : len ≤ 4096 ∧ size = 0 := hw
          have HS : Hid (sizesB k len size = true) := by unfold Hid sizesB; rw [if_neg (by omega)]; exact decide_eq_true (by omega)
          have e1 : decide ((len : Int) ≤ 4096) = true := decide_eq_true (by omega)
          have e1n : decide (len ≤ 4096) = true := decide_eq_true (by omega)
          have e2 : (size == 0) = true := by rw [beq_iff_eq]; omega
          clear hw
          clear hk hx
          go_enter Tryd.func31, Tryd.ntmps31
          go_wp2_with (first
            | (go_at_call 43; refine (hK _).mono ?_; rintro e w1 ⟨rfl, hk⟩; have c1 : w1.cell? ⟨w.heap.size, 1, none⟩ = some (.int .i64 align) := hk.cell (by simp); have c2 : w1.cell? ⟨w.heap.size, 2, none⟩ = some (.slice a len cap) := hk.cell (by simp); have c3 : w1.cell? ⟨w.heap.size, 3, none⟩ = some (.int .i64 size) := hk.cell (by simp); clear hK)
            | (go_at_call 44; refine (hA _).mono ?_; rintro e w2 ⟨rfl, hw2⟩; have hw3 := hw2.symm; subst hw3; clear hw2))
          go_ret
          exact ⟨by rw [HS.out]; rfl, (Kept.alloc _ _).trans hk⟩

end Go.Proofs.YtbfmichhpcaamaaDoor
