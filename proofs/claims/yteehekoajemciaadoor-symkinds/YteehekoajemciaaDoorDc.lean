/- Which symbols may be: the document's. -/
import Derived.Test.YteehekoajemciaaDoorCs
namespace Go.Proofs.YteehekoajemciaaDoor
open Go.RowKit

def wiB (n a b : Int) : Bool := decide (a ≤ n ∧ n ≤ b)
theorem wiB_true {n a b : Int} (h : wiB n a b = true) : a ≤ n ∧ n ≤ b := of_decide_eq_true h
theorem wiB_false {n a b : Int} (h : wiB n a b = false) : ¬ (a ≤ n ∧ n ≤ b) := of_decide_eq_false h
theorem rwithin_walk (n a b : Int) (w : World) : Calls Tryd.prog 25 #[.int .i64 n, .int .i64 a, .int .i64 b] w fun e w' => e = .returned (.bool (wiB n a b)) ∧ w' = w := by
  unfold wiB
  by_cases h0 : a ≤ n
  · have d0 : decide (a ≤ n) = true := decide_eq_true h0
    by_cases h1 : n ≤ b
    · have d1 : decide (n ≤ b) = true := decide_eq_true h1
      rw [decide_eq_true (⟨h0, h1⟩ : _ ∧ _)]
      go_enter Tryd.func25, Tryd.ntmps25
      go_wp2
      go_ret
      exact ⟨rfl, rfl⟩
    · have d1 : decide (n ≤ b) = false := decide_eq_false h1
      rw [decide_eq_false (by omega : ¬ (a ≤ n ∧ n ≤ b))]
      go_enter Tryd.func25, Tryd.ntmps25
      go_wp2
      go_ret
      exact ⟨rfl, rfl⟩
  · have d0 : decide (a ≤ n) = false := decide_eq_false h0
    rw [decide_eq_false (by omega : ¬ (a ≤ n ∧ n ≤ b))]
    go_enter Tryd.func25, Tryd.ntmps25
    go_wp2
    go_ret
    exact ⟨rfl, rfl⟩
theorem stands_no {bind : Int} {hid : Bool} (wh val sz n : Int) (h : bndB bind hid = false) : standsB bind hid wh val sz n = false := by rw [stands_parts, h, Bool.false_and]
theorem stands_yes {bind : Int} {hid : Bool} (wh val sz n : Int) (h : bndB bind hid = true) : standsB bind hid wh val sz n = plcB bind wh val sz n := by rw [stands_parts, h, Bool.true_and]
theorem plc0 {bind wh val sz n : Int} (h0 : wh = 0) : plcB bind wh val sz n = decide (val = 0 ∧ sz = 0 ∧ bind ≠ 0) := by unfold plcB; rw [if_pos h0]
theorem plc1 {bind wh val sz n : Int} (h0 : wh = -1) : plcB bind wh val sz n = decide (-2147483648 ≤ val ∧ val ≤ 4294967295 ∧ sz = 0) := by unfold plcB; rw [if_neg (by omega), if_pos h0]
theorem plc2 {bind wh val sz n : Int} (h0 : wh = -2) : plcB bind wh val sz n = (alignB val && decide (1 ≤ sz ∧ sz ≤ 4096 ∧ bind = 1)) := by unfold plcB; rw [if_neg (by omega), if_neg (by omega), if_pos h0]; rfl
theorem plc3 {bind wh val sz n : Int} (h0 : wh ≠ 0) (h1 : wh ≠ -1) (h2 : wh ≠ -2) : plcB bind wh val sz n = decide (1 ≤ wh ∧ wh ≤ n ∧ 0 ≤ val ∧ val ≤ 4096 ∧ 0 ≤ sz ∧ sz ≤ 4096) := by unfold plcB; rw [if_neg h0, if_neg h1, if_neg h2]

set_option maxRecDepth 20000 in
set_option maxHeartbeats 6400000 in
theorem rstands_false (s : ByteArray) (bind : Int) (wh val sz n : Int) (w : World) (hb : 0 ≤ bind) :
    Calls Tryd.prog 28 #[symW s bind false wh val sz, .int .i64 n] w fun e w' => e = .returned (.bool (standsB bind false wh val sz n)) ∧ Kept w w' := by
  have B1 := SBx.new w s bind false wh val sz
  obtain ⟨wa, hwa⟩ : ∃ wa, w.alloc (symO s bind false wh val sz) = wa := ⟨_, rfl⟩
  rw [hwa] at B1
  have kA : Kept w wa := by rw [← hwa]; exact Kept.alloc _ _
  have B1' := B1
  obtain ⟨c0, c1, c2, c3, c4, c5, _, _, _, _, _, _⟩ := B1'
  by_cases hb2 : 2 < bind
  · have d2 : decide (2 < bind) = true := decide_eq_true hb2
    have hbd : bndB bind false = false := decide_eq_false (by omega)
    have HB : Hid (standsB bind false wh val sz n = false) := by unfold Hid; exact stands_no _ _ _ _ hbd
    clear hbd hb2
    go_enter Tryd.func28, Tryd.ntmps28
    go_wp2
    go_ret
    exact ⟨by rw [HB.out]; rfl, kA⟩
  have d2 : decide (2 < bind) = false := decide_eq_false hb2
  have hbd : bndB bind false = true := decide_eq_true (by refine ⟨hb, by omega, fun h => by cases h.1⟩)
  by_cases h0 : wh = 0
  · have e0 : (wh == 0) = true := by rw [beq_iff_eq]; exact h0
    by_cases h1 : val = 0
    · have eh1 : (val == 0) = true := by rw [beq_iff_eq]; exact h1
      by_cases h2 : sz = 0
      · have eh2 : (sz == 0) = true := by rw [beq_iff_eq]; exact h2
        by_cases h3 : bind = 0
        · have eh3 : (bind != 0) = false := by rw [h3]; rfl
          have HB : Hid (standsB bind false wh val sz n = false) := by unfold Hid; rw [stands_yes _ _ _ _ hbd, plc0 h0]; exact decide_eq_false (by omega)
          clear hbd hb2 h0 h1 h2 h3
          go_enter Tryd.func28, Tryd.ntmps28
          go_wp2_with (first
            | (go_at_call 25; refine (rwithin_walk _ _ _ _).mono ?_; rintro e w2 ⟨rfl, hw2⟩; have hw3 := hw2.symm; subst hw3; clear hw2)
            | (go_at_call 37; refine (rmayAlign_walk _ _).mono ?_; rintro e w2 ⟨rfl, hw2⟩; have hw3 := hw2.symm; subst hw3; clear hw2))
          go_ret
          exact ⟨by rw [HB.out]; rfl, kA⟩
        · have eh3 : (bind != 0) = true := by rw [bne_iff_ne]; exact h3
          have HB : Hid (standsB bind false wh val sz n = true) := by unfold Hid; rw [stands_yes _ _ _ _ hbd, plc0 h0]; exact decide_eq_true (by omega)
          clear hbd hb2 h0 h1 h2 h3
          go_enter Tryd.func28, Tryd.ntmps28
          go_wp2_with (first
            | (go_at_call 25; refine (rwithin_walk _ _ _ _).mono ?_; rintro e w2 ⟨rfl, hw2⟩; have hw3 := hw2.symm; subst hw3; clear hw2)
            | (go_at_call 37; refine (rmayAlign_walk _ _).mono ?_; rintro e w2 ⟨rfl, hw2⟩; have hw3 := hw2.symm; subst hw3; clear hw2))
          go_ret
          exact ⟨by rw [HB.out]; rfl, kA⟩
      · have eh2 : (sz == 0) = false := by rw [beq_eq_false_iff_ne]; exact h2
        have HB : Hid (standsB bind false wh val sz n = false) := by unfold Hid; rw [stands_yes _ _ _ _ hbd, plc0 h0]; exact decide_eq_false (by omega)
        clear hbd hb2 h0 h1 h2
        go_enter Tryd.func28, Tryd.ntmps28
        go_wp2_with (first
          | (go_at_call 25; refine (rwithin_walk _ _ _ _).mono ?_; rintro e w2 ⟨rfl, hw2⟩; have hw3 := hw2.symm; subst hw3; clear hw2)
          | (go_at_call 37; refine (rmayAlign_walk _ _).mono ?_; rintro e w2 ⟨rfl, hw2⟩; have hw3 := hw2.symm; subst hw3; clear hw2))
        go_ret
        exact ⟨by rw [HB.out]; rfl, kA⟩
    · have eh1 : (val == 0) = false := by rw [beq_eq_false_iff_ne]; exact h1
      have HB : Hid (standsB bind false wh val sz n = false) := by unfold Hid; rw [stands_yes _ _ _ _ hbd, plc0 h0]; exact decide_eq_false (by omega)
      clear hbd hb2 h0 h1
      go_enter Tryd.func28, Tryd.ntmps28
      go_wp2_with (first
        | (go_at_call 25; refine (rwithin_walk _ _ _ _).mono ?_; rintro e w2 ⟨rfl, hw2⟩; have hw3 := hw2.symm; subst hw3; clear hw2)
        | (go_at_call 37; refine (rmayAlign_walk _ _).mono ?_; rintro e w2 ⟨rfl, hw2⟩; have hw3 := hw2.symm; subst hw3; clear hw2))
      go_ret
      exact ⟨by rw [HB.out]; rfl, kA⟩
  have e0 : (wh == 0) = false := by rw [beq_eq_false_iff_ne]; exact h0
  by_cases h1 : wh = -1
  · have e1 : (wh == -1) = true := by rw [beq_iff_eq]; exact h1
    cases v1 : wiB val (-2147483648) 4294967295 with
    | true =>
      have mv1 := wiB_true v1
      by_cases h2 : sz = 0
      · have eh2 : (sz == 0) = true := by rw [beq_iff_eq]; exact h2
        have HB : Hid (standsB bind false wh val sz n = true) := by unfold Hid; rw [stands_yes _ _ _ _ hbd, plc1 h1]; exact decide_eq_true (by omega)
        clear hbd hb2 h0 h1 mv1 h2
        go_enter Tryd.func28, Tryd.ntmps28
        go_wp2_with (first
          | (go_at_call 25; refine (rwithin_walk _ _ _ _).mono ?_; rintro e w2 ⟨rfl, hw2⟩; have hw3 := hw2.symm; subst hw3; clear hw2)
          | (go_at_call 37; refine (rmayAlign_walk _ _).mono ?_; rintro e w2 ⟨rfl, hw2⟩; have hw3 := hw2.symm; subst hw3; clear hw2))
        go_ret
        exact ⟨by rw [HB.out]; rfl, kA⟩
      · have eh2 : (sz == 0) = false := by rw [beq_eq_false_iff_ne]; exact h2
        have HB : Hid (standsB bind false wh val sz n = false) := by unfold Hid; rw [stands_yes _ _ _ _ hbd, plc1 h1]; exact decide_eq_false (by omega)
        clear hbd hb2 h0 h1 mv1 h2
        go_enter Tryd.func28, Tryd.ntmps28
        go_wp2_with (first
          | (go_at_call 25; refine (rwithin_walk _ _ _ _).mono ?_; rintro e w2 ⟨rfl, hw2⟩; have hw3 := hw2.symm; subst hw3; clear hw2)
          | (go_at_call 37; refine (rmayAlign_walk _ _).mono ?_; rintro e w2 ⟨rfl, hw2⟩; have hw3 := hw2.symm; subst hw3; clear hw2))
        go_ret
        exact ⟨by rw [HB.out]; rfl, kA⟩
    | false =>
      have mv1 := wiB_false v1
      have HB : Hid (standsB bind false wh val sz n = false) := by unfold Hid; rw [stands_yes _ _ _ _ hbd, plc1 h1]; exact decide_eq_false (by omega)
      clear hbd hb2 h0 h1 mv1
      go_enter Tryd.func28, Tryd.ntmps28
      go_wp2_with (first
        | (go_at_call 25; refine (rwithin_walk _ _ _ _).mono ?_; rintro e w2 ⟨rfl, hw2⟩; have hw3 := hw2.symm; subst hw3; clear hw2)
        | (go_at_call 37; refine (rmayAlign_walk _ _).mono ?_; rintro e w2 ⟨rfl, hw2⟩; have hw3 := hw2.symm; subst hw3; clear hw2))
      go_ret
      exact ⟨by rw [HB.out]; rfl, kA⟩
  have e1 : (wh == -1) = false := by rw [beq_eq_false_iff_ne]; exact h1
  by_cases h2 : wh = -2
  · have e2 : (wh == -2) = true := by rw [beq_iff_eq]; exact h2
    cases v1 : alignB val with
    | true =>
      cases v2 : wiB sz 1 4096 with
      | true =>
        have mv2 := wiB_true v2
        by_cases h3 : bind = 1
        · have eh3 : (bind == 1) = true := by rw [beq_iff_eq]; exact h3
          have HB : Hid (standsB bind false wh val sz n = true) := by unfold Hid; rw [stands_yes _ _ _ _ hbd, plc2 h2, v1, Bool.true_and]; exact decide_eq_true (by omega)
          clear hbd hb2 h0 h1 h2 mv2 h3
          go_enter Tryd.func28, Tryd.ntmps28
          go_wp2_with (first
            | (go_at_call 25; refine (rwithin_walk _ _ _ _).mono ?_; rintro e w2 ⟨rfl, hw2⟩; have hw3 := hw2.symm; subst hw3; clear hw2)
            | (go_at_call 37; refine (rmayAlign_walk _ _).mono ?_; rintro e w2 ⟨rfl, hw2⟩; have hw3 := hw2.symm; subst hw3; clear hw2))
          go_ret
          exact ⟨by rw [HB.out]; rfl, kA⟩
        · have eh3 : (bind == 1) = false := by rw [beq_eq_false_iff_ne]; exact h3
          have HB : Hid (standsB bind false wh val sz n = false) := by unfold Hid; rw [stands_yes _ _ _ _ hbd, plc2 h2, v1, Bool.true_and]; exact decide_eq_false (by omega)
          clear hbd hb2 h0 h1 h2 mv2 h3
          go_enter Tryd.func28, Tryd.ntmps28
          go_wp2_with (first
            | (go_at_call 25; refine (rwithin_walk _ _ _ _).mono ?_; rintro e w2 ⟨rfl, hw2⟩; have hw3 := hw2.symm; subst hw3; clear hw2)
            | (go_at_call 37; refine (rmayAlign_walk _ _).mono ?_; rintro e w2 ⟨rfl, hw2⟩; have hw3 := hw2.symm; subst hw3; clear hw2))
          go_ret
          exact ⟨by rw [HB.out]; rfl, kA⟩
      | false =>
        have mv2 := wiB_false v2
        have HB : Hid (standsB bind false wh val sz n = false) := by unfold Hid; rw [stands_yes _ _ _ _ hbd, plc2 h2, v1, Bool.true_and]; exact decide_eq_false (by omega)
        clear hbd hb2 h0 h1 h2 mv2
        go_enter Tryd.func28, Tryd.ntmps28
        go_wp2_with (first
          | (go_at_call 25; refine (rwithin_walk _ _ _ _).mono ?_; rintro e w2 ⟨rfl, hw2⟩; have hw3 := hw2.symm; subst hw3; clear hw2)
          | (go_at_call 37; refine (rmayAlign_walk _ _).mono ?_; rintro e w2 ⟨rfl, hw2⟩; have hw3 := hw2.symm; subst hw3; clear hw2))
        go_ret
        exact ⟨by rw [HB.out]; rfl, kA⟩
    | false =>
      have HB : Hid (standsB bind false wh val sz n = false) := by unfold Hid; rw [stands_yes _ _ _ _ hbd, plc2 h2, v1, Bool.false_and]
      clear hbd hb2 h0 h1 h2
      go_enter Tryd.func28, Tryd.ntmps28
      go_wp2_with (first
        | (go_at_call 25; refine (rwithin_walk _ _ _ _).mono ?_; rintro e w2 ⟨rfl, hw2⟩; have hw3 := hw2.symm; subst hw3; clear hw2)
        | (go_at_call 37; refine (rmayAlign_walk _ _).mono ?_; rintro e w2 ⟨rfl, hw2⟩; have hw3 := hw2.symm; subst hw3; clear hw2))
      go_ret
      exact ⟨by rw [HB.out]; rfl, kA⟩
  have e2 : (wh == -2) = false := by rw [beq_eq_false_iff_ne]; exact h2
  cases v1 : wiB wh 1 n with
  | true =>
    have mv1 := wiB_true v1
    cases v2 : wiB val 0 4096 with
    | true =>
      have mv2 := wiB_true v2
      cases v3 : wiB sz 0 4096 with
      | true =>
        have mv3 := wiB_true v3
        have HB : Hid (standsB bind false wh val sz n = true) := by unfold Hid; rw [stands_yes _ _ _ _ hbd, plc3 h0 h1 h2]; exact decide_eq_true (by omega)
        clear hbd hb2 h0 h1 h2 mv1 mv2 mv3
        go_enter Tryd.func28, Tryd.ntmps28
        go_wp2_with (first
          | (go_at_call 25; refine (rwithin_walk _ _ _ _).mono ?_; rintro e w2 ⟨rfl, hw2⟩; have hw3 := hw2.symm; subst hw3; clear hw2)
          | (go_at_call 37; refine (rmayAlign_walk _ _).mono ?_; rintro e w2 ⟨rfl, hw2⟩; have hw3 := hw2.symm; subst hw3; clear hw2))
        go_ret
        exact ⟨by rw [HB.out]; rfl, kA⟩
      | false =>
        have mv3 := wiB_false v3
        have HB : Hid (standsB bind false wh val sz n = false) := by unfold Hid; rw [stands_yes _ _ _ _ hbd, plc3 h0 h1 h2]; exact decide_eq_false (by omega)
        clear hbd hb2 h0 h1 h2 mv1 mv2 mv3
        go_enter Tryd.func28, Tryd.ntmps28
        go_wp2_with (first
          | (go_at_call 25; refine (rwithin_walk _ _ _ _).mono ?_; rintro e w2 ⟨rfl, hw2⟩; have hw3 := hw2.symm; subst hw3; clear hw2)
          | (go_at_call 37; refine (rmayAlign_walk _ _).mono ?_; rintro e w2 ⟨rfl, hw2⟩; have hw3 := hw2.symm; subst hw3; clear hw2))
        go_ret
        exact ⟨by rw [HB.out]; rfl, kA⟩
    | false =>
      have mv2 := wiB_false v2
      have HB : Hid (standsB bind false wh val sz n = false) := by unfold Hid; rw [stands_yes _ _ _ _ hbd, plc3 h0 h1 h2]; exact decide_eq_false (by omega)
      clear hbd hb2 h0 h1 h2 mv1 mv2
      go_enter Tryd.func28, Tryd.ntmps28
      go_wp2_with (first
        | (go_at_call 25; refine (rwithin_walk _ _ _ _).mono ?_; rintro e w2 ⟨rfl, hw2⟩; have hw3 := hw2.symm; subst hw3; clear hw2)
        | (go_at_call 37; refine (rmayAlign_walk _ _).mono ?_; rintro e w2 ⟨rfl, hw2⟩; have hw3 := hw2.symm; subst hw3; clear hw2))
      go_ret
      exact ⟨by rw [HB.out]; rfl, kA⟩
  | false =>
    have mv1 := wiB_false v1
    have HB : Hid (standsB bind false wh val sz n = false) := by unfold Hid; rw [stands_yes _ _ _ _ hbd, plc3 h0 h1 h2]; exact decide_eq_false (by omega)
    clear hbd hb2 h0 h1 h2 mv1
    go_enter Tryd.func28, Tryd.ntmps28
    go_wp2_with (first
      | (go_at_call 25; refine (rwithin_walk _ _ _ _).mono ?_; rintro e w2 ⟨rfl, hw2⟩; have hw3 := hw2.symm; subst hw3; clear hw2)
      | (go_at_call 37; refine (rmayAlign_walk _ _).mono ?_; rintro e w2 ⟨rfl, hw2⟩; have hw3 := hw2.symm; subst hw3; clear hw2))
    go_ret
    exact ⟨by rw [HB.out]; rfl, kA⟩

set_option maxRecDepth 20000 in
set_option maxHeartbeats 6400000 in
theorem rstands_true (s : ByteArray) (bind : Int) (wh val sz n : Int) (w : World) (hb : 0 ≤ bind) (hb0 : bind ≠ 0) :
    Calls Tryd.prog 28 #[symW s bind true wh val sz, .int .i64 n] w fun e w' => e = .returned (.bool (standsB bind true wh val sz n)) ∧ Kept w w' := by
  have B1 := SBx.new w s bind true wh val sz
  obtain ⟨wa, hwa⟩ : ∃ wa, w.alloc (symO s bind true wh val sz) = wa := ⟨_, rfl⟩
  rw [hwa] at B1
  have kA : Kept w wa := by rw [← hwa]; exact Kept.alloc _ _
  have B1' := B1
  obtain ⟨c0, c1, c2, c3, c4, c5, _, _, _, _, _, _⟩ := B1'
  by_cases hb2 : 2 < bind
  · have d2 : decide (2 < bind) = true := decide_eq_true hb2
    have hbd : bndB bind true = false := decide_eq_false (by omega)
    have HB : Hid (standsB bind true wh val sz n = false) := by unfold Hid; exact stands_no _ _ _ _ hbd
    clear hbd hb2
    go_enter Tryd.func28, Tryd.ntmps28
    go_wp2
    go_ret
    exact ⟨by rw [HB.out]; rfl, kA⟩
  have d2 : decide (2 < bind) = false := decide_eq_false hb2
  have eb0 : (bind == 0) = false := by rw [beq_eq_false_iff_ne]; exact hb0
  have hbd : bndB bind true = true := decide_eq_true (by exact ⟨hb, by omega, fun h => hb0 h.2⟩)
  by_cases h0 : wh = 0
  · have e0 : (wh == 0) = true := by rw [beq_iff_eq]; exact h0
    by_cases h1 : val = 0
    · have eh1 : (val == 0) = true := by rw [beq_iff_eq]; exact h1
      by_cases h2 : sz = 0
      · have eh2 : (sz == 0) = true := by rw [beq_iff_eq]; exact h2
        have ebn : (bind != 0) = true := by rw [bne_iff_ne]; exact hb0
        have HB : Hid (standsB bind true wh val sz n = true) := by unfold Hid; rw [stands_yes _ _ _ _ hbd, plc0 h0]; exact decide_eq_true (by omega)
        clear hbd hb2 h0 h1 h2 hb0
        go_enter Tryd.func28, Tryd.ntmps28
        go_wp2_with (first
          | (go_at_call 25; refine (rwithin_walk _ _ _ _).mono ?_; rintro e w2 ⟨rfl, hw2⟩; have hw3 := hw2.symm; subst hw3; clear hw2)
          | (go_at_call 37; refine (rmayAlign_walk _ _).mono ?_; rintro e w2 ⟨rfl, hw2⟩; have hw3 := hw2.symm; subst hw3; clear hw2))
        go_ret
        exact ⟨by rw [HB.out]; rfl, kA⟩
      · have eh2 : (sz == 0) = false := by rw [beq_eq_false_iff_ne]; exact h2
        have HB : Hid (standsB bind true wh val sz n = false) := by unfold Hid; rw [stands_yes _ _ _ _ hbd, plc0 h0]; exact decide_eq_false (by omega)
        clear hbd hb2 h0 h1 h2
        go_enter Tryd.func28, Tryd.ntmps28
        go_wp2_with (first
          | (go_at_call 25; refine (rwithin_walk _ _ _ _).mono ?_; rintro e w2 ⟨rfl, hw2⟩; have hw3 := hw2.symm; subst hw3; clear hw2)
          | (go_at_call 37; refine (rmayAlign_walk _ _).mono ?_; rintro e w2 ⟨rfl, hw2⟩; have hw3 := hw2.symm; subst hw3; clear hw2))
        go_ret
        exact ⟨by rw [HB.out]; rfl, kA⟩
    · have eh1 : (val == 0) = false := by rw [beq_eq_false_iff_ne]; exact h1
      have HB : Hid (standsB bind true wh val sz n = false) := by unfold Hid; rw [stands_yes _ _ _ _ hbd, plc0 h0]; exact decide_eq_false (by omega)
      clear hbd hb2 h0 h1
      go_enter Tryd.func28, Tryd.ntmps28
      go_wp2_with (first
        | (go_at_call 25; refine (rwithin_walk _ _ _ _).mono ?_; rintro e w2 ⟨rfl, hw2⟩; have hw3 := hw2.symm; subst hw3; clear hw2)
        | (go_at_call 37; refine (rmayAlign_walk _ _).mono ?_; rintro e w2 ⟨rfl, hw2⟩; have hw3 := hw2.symm; subst hw3; clear hw2))
      go_ret
      exact ⟨by rw [HB.out]; rfl, kA⟩
  have e0 : (wh == 0) = false := by rw [beq_eq_false_iff_ne]; exact h0
  by_cases h1 : wh = -1
  · have e1 : (wh == -1) = true := by rw [beq_iff_eq]; exact h1
    cases v1 : wiB val (-2147483648) 4294967295 with
    | true =>
      have mv1 := wiB_true v1
      by_cases h2 : sz = 0
      · have eh2 : (sz == 0) = true := by rw [beq_iff_eq]; exact h2
        have HB : Hid (standsB bind true wh val sz n = true) := by unfold Hid; rw [stands_yes _ _ _ _ hbd, plc1 h1]; exact decide_eq_true (by omega)
        clear hbd hb2 h0 h1 mv1 h2
        go_enter Tryd.func28, Tryd.ntmps28
        go_wp2_with (first
          | (go_at_call 25; refine (rwithin_walk _ _ _ _).mono ?_; rintro e w2 ⟨rfl, hw2⟩; have hw3 := hw2.symm; subst hw3; clear hw2)
          | (go_at_call 37; refine (rmayAlign_walk _ _).mono ?_; rintro e w2 ⟨rfl, hw2⟩; have hw3 := hw2.symm; subst hw3; clear hw2))
        go_ret
        exact ⟨by rw [HB.out]; rfl, kA⟩
      · have eh2 : (sz == 0) = false := by rw [beq_eq_false_iff_ne]; exact h2
        have HB : Hid (standsB bind true wh val sz n = false) := by unfold Hid; rw [stands_yes _ _ _ _ hbd, plc1 h1]; exact decide_eq_false (by omega)
        clear hbd hb2 h0 h1 mv1 h2
        go_enter Tryd.func28, Tryd.ntmps28
        go_wp2_with (first
          | (go_at_call 25; refine (rwithin_walk _ _ _ _).mono ?_; rintro e w2 ⟨rfl, hw2⟩; have hw3 := hw2.symm; subst hw3; clear hw2)
          | (go_at_call 37; refine (rmayAlign_walk _ _).mono ?_; rintro e w2 ⟨rfl, hw2⟩; have hw3 := hw2.symm; subst hw3; clear hw2))
        go_ret
        exact ⟨by rw [HB.out]; rfl, kA⟩
    | false =>
      have mv1 := wiB_false v1
      have HB : Hid (standsB bind true wh val sz n = false) := by unfold Hid; rw [stands_yes _ _ _ _ hbd, plc1 h1]; exact decide_eq_false (by omega)
      clear hbd hb2 h0 h1 mv1
      go_enter Tryd.func28, Tryd.ntmps28
      go_wp2_with (first
        | (go_at_call 25; refine (rwithin_walk _ _ _ _).mono ?_; rintro e w2 ⟨rfl, hw2⟩; have hw3 := hw2.symm; subst hw3; clear hw2)
        | (go_at_call 37; refine (rmayAlign_walk _ _).mono ?_; rintro e w2 ⟨rfl, hw2⟩; have hw3 := hw2.symm; subst hw3; clear hw2))
      go_ret
      exact ⟨by rw [HB.out]; rfl, kA⟩
  have e1 : (wh == -1) = false := by rw [beq_eq_false_iff_ne]; exact h1
  by_cases h2 : wh = -2
  · have e2 : (wh == -2) = true := by rw [beq_iff_eq]; exact h2
    cases v1 : alignB val with
    | true =>
      cases v2 : wiB sz 1 4096 with
      | true =>
        have mv2 := wiB_true v2
        by_cases h3 : bind = 1
        · have eh3 : (bind == 1) = true := by rw [beq_iff_eq]; exact h3
          have HB : Hid (standsB bind true wh val sz n = true) := by unfold Hid; rw [stands_yes _ _ _ _ hbd, plc2 h2, v1, Bool.true_and]; exact decide_eq_true (by omega)
          clear hbd hb2 h0 h1 h2 mv2 h3
          go_enter Tryd.func28, Tryd.ntmps28
          go_wp2_with (first
            | (go_at_call 25; refine (rwithin_walk _ _ _ _).mono ?_; rintro e w2 ⟨rfl, hw2⟩; have hw3 := hw2.symm; subst hw3; clear hw2)
            | (go_at_call 37; refine (rmayAlign_walk _ _).mono ?_; rintro e w2 ⟨rfl, hw2⟩; have hw3 := hw2.symm; subst hw3; clear hw2))
          go_ret
          exact ⟨by rw [HB.out]; rfl, kA⟩
        · have eh3 : (bind == 1) = false := by rw [beq_eq_false_iff_ne]; exact h3
          have HB : Hid (standsB bind true wh val sz n = false) := by unfold Hid; rw [stands_yes _ _ _ _ hbd, plc2 h2, v1, Bool.true_and]; exact decide_eq_false (by omega)
          clear hbd hb2 h0 h1 h2 mv2 h3
          go_enter Tryd.func28, Tryd.ntmps28
          go_wp2_with (first
            | (go_at_call 25; refine (rwithin_walk _ _ _ _).mono ?_; rintro e w2 ⟨rfl, hw2⟩; have hw3 := hw2.symm; subst hw3; clear hw2)
            | (go_at_call 37; refine (rmayAlign_walk _ _).mono ?_; rintro e w2 ⟨rfl, hw2⟩; have hw3 := hw2.symm; subst hw3; clear hw2))
          go_ret
          exact ⟨by rw [HB.out]; rfl, kA⟩
      | false =>
        have mv2 := wiB_false v2
        have HB : Hid (standsB bind true wh val sz n = false) := by unfold Hid; rw [stands_yes _ _ _ _ hbd, plc2 h2, v1, Bool.true_and]; exact decide_eq_false (by omega)
        clear hbd hb2 h0 h1 h2 mv2
        go_enter Tryd.func28, Tryd.ntmps28
        go_wp2_with (first
          | (go_at_call 25; refine (rwithin_walk _ _ _ _).mono ?_; rintro e w2 ⟨rfl, hw2⟩; have hw3 := hw2.symm; subst hw3; clear hw2)
          | (go_at_call 37; refine (rmayAlign_walk _ _).mono ?_; rintro e w2 ⟨rfl, hw2⟩; have hw3 := hw2.symm; subst hw3; clear hw2))
        go_ret
        exact ⟨by rw [HB.out]; rfl, kA⟩
    | false =>
      have HB : Hid (standsB bind true wh val sz n = false) := by unfold Hid; rw [stands_yes _ _ _ _ hbd, plc2 h2, v1, Bool.false_and]
      clear hbd hb2 h0 h1 h2
      go_enter Tryd.func28, Tryd.ntmps28
      go_wp2_with (first
        | (go_at_call 25; refine (rwithin_walk _ _ _ _).mono ?_; rintro e w2 ⟨rfl, hw2⟩; have hw3 := hw2.symm; subst hw3; clear hw2)
        | (go_at_call 37; refine (rmayAlign_walk _ _).mono ?_; rintro e w2 ⟨rfl, hw2⟩; have hw3 := hw2.symm; subst hw3; clear hw2))
      go_ret
      exact ⟨by rw [HB.out]; rfl, kA⟩
  have e2 : (wh == -2) = false := by rw [beq_eq_false_iff_ne]; exact h2
  cases v1 : wiB wh 1 n with
  | true =>
    have mv1 := wiB_true v1
    cases v2 : wiB val 0 4096 with
    | true =>
      have mv2 := wiB_true v2
      cases v3 : wiB sz 0 4096 with
      | true =>
        have mv3 := wiB_true v3
        have HB : Hid (standsB bind true wh val sz n = true) := by unfold Hid; rw [stands_yes _ _ _ _ hbd, plc3 h0 h1 h2]; exact decide_eq_true (by omega)
        clear hbd hb2 h0 h1 h2 mv1 mv2 mv3
        go_enter Tryd.func28, Tryd.ntmps28
        go_wp2_with (first
          | (go_at_call 25; refine (rwithin_walk _ _ _ _).mono ?_; rintro e w2 ⟨rfl, hw2⟩; have hw3 := hw2.symm; subst hw3; clear hw2)
          | (go_at_call 37; refine (rmayAlign_walk _ _).mono ?_; rintro e w2 ⟨rfl, hw2⟩; have hw3 := hw2.symm; subst hw3; clear hw2))
        go_ret
        exact ⟨by rw [HB.out]; rfl, kA⟩
      | false =>
        have mv3 := wiB_false v3
        have HB : Hid (standsB bind true wh val sz n = false) := by unfold Hid; rw [stands_yes _ _ _ _ hbd, plc3 h0 h1 h2]; exact decide_eq_false (by omega)
        clear hbd hb2 h0 h1 h2 mv1 mv2 mv3
        go_enter Tryd.func28, Tryd.ntmps28
        go_wp2_with (first
          | (go_at_call 25; refine (rwithin_walk _ _ _ _).mono ?_; rintro e w2 ⟨rfl, hw2⟩; have hw3 := hw2.symm; subst hw3; clear hw2)
          | (go_at_call 37; refine (rmayAlign_walk _ _).mono ?_; rintro e w2 ⟨rfl, hw2⟩; have hw3 := hw2.symm; subst hw3; clear hw2))
        go_ret
        exact ⟨by rw [HB.out]; rfl, kA⟩
    | false =>
      have mv2 := wiB_false v2
      have HB : Hid (standsB bind true wh val sz n = false) := by unfold Hid; rw [stands_yes _ _ _ _ hbd, plc3 h0 h1 h2]; exact decide_eq_false (by omega)
      clear hbd hb2 h0 h1 h2 mv1 mv2
      go_enter Tryd.func28, Tryd.ntmps28
      go_wp2_with (first
        | (go_at_call 25; refine (rwithin_walk _ _ _ _).mono ?_; rintro e w2 ⟨rfl, hw2⟩; have hw3 := hw2.symm; subst hw3; clear hw2)
        | (go_at_call 37; refine (rmayAlign_walk _ _).mono ?_; rintro e w2 ⟨rfl, hw2⟩; have hw3 := hw2.symm; subst hw3; clear hw2))
      go_ret
      exact ⟨by rw [HB.out]; rfl, kA⟩
  | false =>
    have mv1 := wiB_false v1
    have HB : Hid (standsB bind true wh val sz n = false) := by unfold Hid; rw [stands_yes _ _ _ _ hbd, plc3 h0 h1 h2]; exact decide_eq_false (by omega)
    clear hbd hb2 h0 h1 h2 mv1
    go_enter Tryd.func28, Tryd.ntmps28
    go_wp2_with (first
      | (go_at_call 25; refine (rwithin_walk _ _ _ _).mono ?_; rintro e w2 ⟨rfl, hw2⟩; have hw3 := hw2.symm; subst hw3; clear hw2)
      | (go_at_call 37; refine (rmayAlign_walk _ _).mono ?_; rintro e w2 ⟨rfl, hw2⟩; have hw3 := hw2.symm; subst hw3; clear hw2))
    go_ret
    exact ⟨by rw [HB.out]; rfl, kA⟩

set_option maxHeartbeats 1600000 in
theorem rstands_walk (s : ByteArray) (bind : Int) (hid : Bool) (wh val sz : Int) (n : Int) (w : World) (hb : 0 ≤ bind) :
    Calls Tryd.prog 28 #[symW s bind hid wh val sz, .int .i64 n] w fun e w' => e = .returned (.bool (standsB bind hid wh val sz n)) ∧ Kept w w' := by
  cases hid with
  | false => exact rstands_false s bind wh val sz n w hb
  | true =>
    by_cases hb0 : bind = 0
    · subst hb0
      have B1 := SBx.new w s 0 true wh val sz
      obtain ⟨wa, hwa⟩ : ∃ wa, w.alloc (symO s 0 true wh val sz) = wa := ⟨_, rfl⟩
      rw [hwa] at B1
      have kA : Kept w wa := by rw [← hwa]; exact Kept.alloc _ _
      obtain ⟨c0, c1, c2, c3, c4, c5, _, _, _, _, _, _⟩ := B1
      rw [stands_no wh val sz n (show bndB 0 true = false by decide)]
      go_enter Tryd.func28, Tryd.ntmps28
      go_wp2
      go_ret
      exact ⟨rfl, kA⟩
    · exact rstands_true s bind wh val sz n w hb hb0

set_option maxHeartbeats 1600000 in
theorem rmayY_walk (s : ByteArray) (bind : Int) (hid : Bool) (wh val sz : Int) (n : Int) (w : World) (hs : s.size ≤ maxLen) (hb : 0 ≤ bind) :
    Calls Tryd.prog 24 #[symW s bind hid wh val sz, .int .i64 n] w fun e w' => e = .returned (.bool (okY (nm s) bind hid wh val sz n)) ∧ Kept w w' := by
  have B1 := SBx.new w s bind hid wh val sz
  obtain ⟨wa, hwa⟩ : ∃ wa, w.alloc (symO s bind hid wh val sz) = wa := ⟨_, rfl⟩
  rw [hwa] at B1
  have kA : Kept w wa := by rw [← hwa]; exact Kept.alloc _ _
  have B1' := B1
  obtain ⟨c0, c1, c2, c3, c4, c5, _, _, _, _, _, _⟩ := B1'
  have hN := fun w => rmayName_walk s w hs
  have hS := fun w => rstands_walk s bind hid wh val sz n w hb
  unfold okY
  obtain ⟨g1, hg1⟩ : ∃ g, mayNm (nm s) = g := ⟨_, rfl⟩
  rw [hg1] at hN ⊢
  clear hg1
  cases g1 with
  | false =>
    go_enter Tryd.func24, Tryd.ntmps24
    go_wp2_with (go_at_call 35; refine (hN _).mono ?_; rintro e w2 ⟨rfl, hw2⟩; have hw3 := hw2.symm; subst hw3; clear hw2)
    go_ret
    exact ⟨rfl, kA⟩
  | true =>
    rw [Bool.true_and]
    go_enter Tryd.func24, Tryd.ntmps24
    go_wp2_with (first
      | (go_at_call 35; refine (hN _).mono ?_; rintro e w2 ⟨rfl, hw2⟩; have hw3 := hw2.symm; subst hw3; clear hw2)
      | (go_at_call 28; refine (hS _).mono ?_; rintro e w3 ⟨rfl, k3⟩))
    go_ret
    exact ⟨rfl, kA.trans k3⟩

set_option maxHeartbeats 1600000 in
theorem rcheckY_walk (s : ByteArray) (bind : Int) (hid : Bool) (wh val sz : Int) (n : Int) (w : World) (hs : s.size ≤ maxLen) (hb : 0 ≤ bind) :
    Calls Tryd.prog 15 #[symW s bind hid wh val sz, .int .i64 n] w fun e w' => e = .returned (.int .i64 (chkY (nm s) bind hid wh val sz n)) ∧ Kept w w' := by
  have B1 := SBx.new w s bind hid wh val sz
  obtain ⟨wa, hwa⟩ : ∃ wa, w.alloc (symO s bind hid wh val sz) = wa := ⟨_, rfl⟩
  rw [hwa] at B1
  have kA : Kept w wa := by rw [← hwa]; exact Kept.alloc _ _
  have B1' := B1
  obtain ⟨c0, c1, c2, c3, c4, c5, _, _, _, _, _, _⟩ := B1'
  have hI := fun w => rwithin_walk n 0 16 w
  have hM := fun w => rmayY_walk s bind hid wh val sz n w hs hb
  cases hg : wiB n 0 16 with
  | false =>
    rw [hg] at hI
    have := wiB_false hg
    rw [chkY_arg (by omega)]
    clear hg this
    go_enter Tryd.func15, Tryd.ntmps15
    go_wp2_with (go_at_call 25; refine (hI _).mono ?_; rintro e w2 ⟨rfl, hw2⟩; have hw3 := hw2.symm; subst hw3; clear hw2)
    go_ret
    exact ⟨rfl, kA⟩
  | true =>
    rw [hg] at hI
    obtain ⟨h0, h1⟩ := wiB_true hg
    rw [chkY_in h0 h1]
    obtain ⟨g, hg1⟩ : ∃ g, okY (nm s) bind hid wh val sz n = g := ⟨_, rfl⟩
    rw [hg1] at hM ⊢
    clear hg hg1 h0 h1
    cases g <;>
    · go_enter Tryd.func15, Tryd.ntmps15
      go_wp2_with (first
        | (go_at_call 25; refine (hI _).mono ?_; rintro e w2 ⟨rfl, hw2⟩; have hw3 := hw2.symm; subst hw3; clear hw2)
        | (go_at_call 24; refine (hM _).mono ?_; rintro e w3 ⟨rfl, k3⟩))
      go_ret
      exact ⟨rfl, kA.trans k3⟩
end Go.Proofs.YteehekoajemciaaDoor
