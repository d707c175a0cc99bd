/- Which symbols may be: the program's. -/
import Derived.Test.YteehekoajemciaaDoorSb
namespace Go.Proofs.YteehekoajemciaaDoor
open Go.RowKit

def trn (n : Int) : Int := if n < 0 then -16 - n else n
theorem turned_walk (n : Int) (w : World) (h0 : -100000 ≤ n) (h1 : n ≤ 9223372036854775807) : Calls Tryd.prog 31 #[.int .i64 n] w fun e w' => e = .returned (.int .i64 (trn n)) ∧ w' = w := by
  unfold trn
  by_cases h : n < 0
  · rw [if_pos h]
    have d : decide (n < 0) = true := decide_eq_true h
    go_enter Tryd.func31, Tryd.ntmps31
    go_wp2
    go_ret
    exact ⟨rfl, rfl⟩
  · rw [if_neg h]
    have d : decide (n < 0) = false := decide_eq_false h
    go_enter Tryd.func31, Tryd.ntmps31
    go_wp2
    go_ret
    exact ⟨rfl, rfl⟩

def inB16 (n : Int) : Bool := decide (0 ≤ n ∧ n ≤ 4096)
theorem isInSection_walk (n : Int) (w : World) : Calls Tryd.prog 29 #[.int .i64 n] w fun e w' => e = .returned (.bool (inB16 n)) ∧ w' = w := by
  unfold inB16
  by_cases h0 : 0 ≤ n
  · have d0 : decide (0 ≤ n) = true := decide_eq_true h0
    by_cases h1 : n ≤ 4096
    · have d1 : decide (n ≤ 4096) = true := decide_eq_true h1
      rw [decide_eq_true (⟨h0, h1⟩ : _ ∧ _)]
      go_enter Tryd.func29, Tryd.ntmps29
      go_wp2
      go_ret
      exact ⟨rfl, rfl⟩
    · have d1 : decide (n ≤ 4096) = false := decide_eq_false h1
      rw [decide_eq_false (by omega : ¬ (0 ≤ n ∧ n ≤ 4096))]
      go_enter Tryd.func29, Tryd.ntmps29
      go_wp2
      go_ret
      exact ⟨rfl, rfl⟩
  · have d0 : decide (0 ≤ n) = false := decide_eq_false h0
    rw [decide_eq_false (by omega : ¬ (0 ≤ n ∧ n ≤ 4096))]
    go_enter Tryd.func29, Tryd.ntmps29
    go_wp2
    go_ret
    exact ⟨rfl, rfl⟩

/-- May one have this Bind, hidden or not? -/
def bndB (bind : Int) (hid : Bool) : Bool := decide (0 ≤ bind ∧ bind ≤ 2 ∧ ¬ (hid = true ∧ bind = 0))
def comB (bind val sz : Int) : Bool := alignB val && decide (1 ≤ sz ∧ sz ≤ 4096 ∧ bind = 1)
/-- May one be where it is? -/
def plcB (bind wh val sz n : Int) : Bool :=
  if wh = 0 then decide (val = 0 ∧ sz = 0 ∧ bind ≠ 0)
   else if wh = -1 then decide (-2147483648 ≤ val ∧ val ≤ 4294967295 ∧ sz = 0)
   else if wh = -2 then comB bind val sz
   else decide (1 ≤ wh ∧ wh ≤ n ∧ 0 ≤ val ∧ val ≤ 4096 ∧ 0 ≤ sz ∧ sz ≤ 4096)
theorem stands_parts (bind : Int) (hid : Bool) (wh val sz n : Int) : standsB bind hid wh val sz n = (bndB bind hid && plcB bind wh val sz n) := rfl

set_option maxHeartbeats 1600000 in
theorem isBound_walk (s : ByteArray) (bind : Int) (hid : Bool) (wh val sz : Int) (w : World) (hb : 0 ≤ bind) :
    Calls Tryd.prog 17 #[symW s bind hid wh val sz] w fun e w' => e = .returned (.bool (bndB bind hid)) ∧ Kept w w' := by
  have B1 := SBx.new w s bind hid wh val sz
  obtain ⟨wa, hwa⟩ : ∃ wa, w.alloc (symO s bind hid wh val sz) = wa := ⟨_, rfl⟩
  rw [hwa] at B1
  have kA : Kept w wa := by rw [← hwa]; exact Kept.alloc _ _
  obtain ⟨c0, c1, c2, c3, c4, c5, _, _, _, _, _, _⟩ := B1
  by_cases h0 : bind = 0
  · have e0 : (bind == 0) = true := by rw [beq_iff_eq]; exact h0
    cases hid with
    | false =>
      have HB : Hid (bndB bind false = true) := decide_eq_true ⟨by omega, by omega, fun h => by cases h.1⟩
      clear h0
      go_enter Tryd.func17, Tryd.ntmps17
      go_wp2
      go_ret
      exact ⟨by rw [HB.out]; rfl, kA⟩
    | true =>
      have HB : Hid (bndB bind true = false) := decide_eq_false fun h => h.2.2 ⟨rfl, h0⟩
      clear h0
      go_enter Tryd.func17, Tryd.ntmps17
      go_wp2
      go_ret
      exact ⟨by rw [HB.out]; rfl, kA⟩
  · have e0 : (bind == 0) = false := by rw [beq_eq_false_iff_ne]; exact h0
    by_cases h1 : bind = 1
    · have e1 : (bind == 1) = true := by rw [beq_iff_eq]; exact h1
      have HB : Hid (bndB bind hid = true) := decide_eq_true ⟨by omega, by omega, fun h => h0 h.2⟩
      clear h0 h1
      go_enter Tryd.func17, Tryd.ntmps17
      go_wp2
      go_ret
      exact ⟨by rw [HB.out]; rfl, kA⟩
    · have e1 : (bind == 1) = false := by rw [beq_eq_false_iff_ne]; exact h1
      by_cases h2 : bind = 2
      · have e2 : (bind == 2) = true := by rw [beq_iff_eq]; exact h2
        have HB : Hid (bndB bind hid = true) := decide_eq_true ⟨by omega, by omega, fun h => h0 h.2⟩
        clear h0 h1 h2
        go_enter Tryd.func17, Tryd.ntmps17
        go_wp2
        go_ret
        exact ⟨by rw [HB.out]; rfl, kA⟩
      · have e2 : (bind == 2) = false := by rw [beq_eq_false_iff_ne]; exact h2
        have HB : Hid (bndB bind hid = false) := decide_eq_false fun h => by omega
        clear h0 h1 h2
        go_enter Tryd.func17, Tryd.ntmps17
        go_wp2
        go_ret
        exact ⟨by rw [HB.out]; rfl, kA⟩

theorem bss_kind : kindN (nm ⟨#[46, 98, 115, 115]⟩) = 4 := by decide +kernel
theorem chk_room (val sz : Int) : chkS (nm ⟨#[46, 98, 115, 115]⟩) val 0 sz = if (alignB val && decide (0 ≤ sz ∧ sz ≤ 4096)) = true then 0 else 8 := by
  unfold chkS sectB sizesB
  rw [bss_kind, if_pos rfl, decide_eq_true (by decide : (4 : Nat) ≠ 0), Bool.true_and]
  have e : decide ((0 : Nat) = 0 ∧ 0 ≤ sz ∧ sz ≤ 4096) = decide (0 ≤ sz ∧ sz ≤ 4096) := by simp
  rw [e]
set_option maxHeartbeats 1600000 in
theorem isCommon_walk (s : ByteArray) (bind : Int) (hid : Bool) (wh val sz : Int) (w : World) :
    Calls Tryd.prog 30 #[symW s bind hid wh val sz] w fun e w' => e = .returned (.bool (comB bind val sz)) ∧ Kept w w' := by
  have B1 := SBx.new w s bind hid wh val sz
  obtain ⟨wa, hwa⟩ : ∃ wa, w.alloc (symO s bind hid wh val sz) = wa := ⟨_, rfl⟩
  rw [hwa] at B1
  have kA : Kept w wa := by rw [← hwa]; exact Kept.alloc _ _
  have sA : wa.heap.size = w.heap.size + 1 := by rw [← hwa]; simp
  have B2 := Box.new wa ⟨#[46, 98, 115, 115]⟩ val (.slice none 0 0) sz
  obtain ⟨wb, hwb⟩ : ∃ wb, wa.alloc (.cells #[.string ⟨#[46, 98, 115, 115]⟩, .int .i64 val, .slice none 0 0, .int .i64 sz] 63) = wb := ⟨_, rfl⟩
  rw [hwb, sA] at B2
  have kB : Kept wa wb := by rw [← hwb]; exact Kept.alloc _ _
  obtain ⟨c0, c1, c2, c3, c4, c5, _, _, _, _, _, _⟩ := B1
  obtain ⟨x0, x1, x2, x3, x4, x5, _, _, _, _, _, _⟩ : SBx wb w.heap.size s bind hid wh val sz := (SBx.mk c0 c1 c2 c3 c4 c5 ‹_› ‹_› ‹_› ‹_› ‹_› ‹_›).kept kB
  obtain ⟨d0, d1, d2, d3, _, _, _, _⟩ := B2
  have K := kA.trans kB
  have hC := check_walk ⟨#[46, 98, 115, 115]⟩ val none 0 0 sz wb (by decide)
  rw [chk_room] at hC
  by_cases h1 : bind = 1
  · have e1 : (bind == 1) = true := by rw [beq_iff_eq]; exact h1
    by_cases h2 : 0 < sz
    · have e2 : decide (0 < sz) = true := decide_eq_true h2
      have HB : Hid (comB bind val sz = (alignB val && decide (0 ≤ sz ∧ sz ≤ 4096))) := by
        unfold Hid comB
        congr 1
        exact decide_eq_decide.2 ⟨fun h => by omega, fun h => by omega⟩
      obtain ⟨g, hg⟩ : ∃ g, (alignB val && decide (0 ≤ sz ∧ sz ≤ 4096)) = g := ⟨_, rfl⟩
      rw [hg] at hC
      replace HB : Hid (comB bind val sz = g) := by unfold Hid; rw [HB.out]; exact hg
      clear h1 h2 hg
      cases g
      · go_enter Tryd.func30, Tryd.ntmps30
        go_wp2_with (go_at_call 38; refine hC.mono ?_; rintro e w1 ⟨rfl, k1⟩)
        go_ret
        exact ⟨by rw [HB.out]; rfl, K.trans k1⟩
      · go_enter Tryd.func30, Tryd.ntmps30
        go_wp2_with (go_at_call 38; refine hC.mono ?_; rintro e w1 ⟨rfl, k1⟩)
        go_ret
        exact ⟨by rw [HB.out]; rfl, K.trans k1⟩
    · have e2 : decide (0 < sz) = false := decide_eq_false h2
      have HB : Hid (comB bind val sz = false) := by
        unfold Hid comB
        rw [decide_eq_false (fun h => by omega), Bool.and_false]
      clear h1 h2 hC
      go_enter Tryd.func30, Tryd.ntmps30
      go_wp2
      go_ret
      exact ⟨by rw [HB.out]; rfl, K⟩
  · have e1 : (bind == 1) = false := by rw [beq_eq_false_iff_ne]; exact h1
    have HB : Hid (comB bind val sz = false) := by
      unfold Hid comB
      rw [decide_eq_false (fun h => h1 h.2.2), Bool.and_false]
    clear h1 hC
    go_enter Tryd.func30, Tryd.ntmps30
    go_wp2
    go_ret
    exact ⟨by rw [HB.out]; rfl, K⟩

set_option maxRecDepth 20000 in
set_option maxHeartbeats 3200000 in
theorem isPlaced_walk (s : ByteArray) (bind : Int) (hid : Bool) (wh val sz : Int) (n : Int) (w : World) :
    Calls Tryd.prog 18 #[symW s bind hid wh val sz, .int .i64 n] w fun e w' => e = .returned (.bool (plcB bind wh val sz n)) ∧ Kept w w' := by
  have B1 := SBx.new w s bind hid wh val sz
  obtain ⟨wa, hwa⟩ : ∃ wa, w.alloc (symO s bind hid wh val sz) = wa := ⟨_, rfl⟩
  rw [hwa] at B1
  have kA : Kept w wa := by rw [← hwa]; exact Kept.alloc _ _
  obtain ⟨c0, c1, c2, c3, c4, c5, _, _, _, _, _, _⟩ := B1
  by_cases hp : 0 < wh
  · have ep : decide (0 < wh) = true := decide_eq_true hp
    have hpl : plcB bind wh val sz n = decide (1 ≤ wh ∧ wh ≤ n ∧ 0 ≤ val ∧ val ≤ 4096 ∧ 0 ≤ sz ∧ sz ≤ 4096) := by unfold plcB; rw [if_neg (by omega), if_neg (by omega), if_neg (by omega)]
    by_cases hn : wh ≤ n
    · have en : decide (wh ≤ n) = true := decide_eq_true hn
      cases hv : inB16 val with
      | false =>
        have := of_decide_eq_false hv
        have HB : Hid (plcB bind wh val sz n = false) := by unfold Hid; rw [hpl]; exact decide_eq_false (by omega)
        clear hpl hp hn this
        go_enter Tryd.func18, Tryd.ntmps18
        go_wp2_with (go_at_call 29; refine (isInSection_walk _ _).mono ?_; rintro e w2 ⟨rfl, hw2⟩; have hw3 := hw2.symm; subst hw3; clear hw2)
        go_ret
        exact ⟨by rw [HB.out]; rfl, kA⟩
      | true =>
        have hv1 := of_decide_eq_true hv
        cases hz : inB16 sz with
        | false =>
          have := of_decide_eq_false hz
          have HB : Hid (plcB bind wh val sz n = false) := by unfold Hid; rw [hpl]; exact decide_eq_false (by omega)
          clear hpl hp hn this hv1
          go_enter Tryd.func18, Tryd.ntmps18
          go_wp2_with (go_at_call 29; refine (isInSection_walk _ _).mono ?_; rintro e w2 ⟨rfl, hw2⟩; have hw3 := hw2.symm; subst hw3; clear hw2)
          go_ret
          exact ⟨by rw [HB.out]; rfl, kA⟩
        | true =>
          have := of_decide_eq_true hz
          have HB : Hid (plcB bind wh val sz n = true) := by unfold Hid; rw [hpl]; exact decide_eq_true (by omega)
          clear hpl hp hn this hv1
          go_enter Tryd.func18, Tryd.ntmps18
          go_wp2_with (go_at_call 29; refine (isInSection_walk _ _).mono ?_; rintro e w2 ⟨rfl, hw2⟩; have hw3 := hw2.symm; subst hw3; clear hw2)
          go_ret
          exact ⟨by rw [HB.out]; rfl, kA⟩
    · have en : decide (wh ≤ n) = false := decide_eq_false hn
      have HB : Hid (plcB bind wh val sz n = false) := by unfold Hid; rw [hpl]; exact decide_eq_false (by omega)
      clear hpl hp hn
      go_enter Tryd.func18, Tryd.ntmps18
      go_wp2
      go_ret
      exact ⟨by rw [HB.out]; rfl, kA⟩
  have ep : decide (0 < wh) = false := decide_eq_false hp
  by_cases h0 : wh = 0
  · have e0 : (wh == 0) = true := by rw [beq_iff_eq]; exact h0
    have hpl : plcB bind wh val sz n = decide (val = 0 ∧ sz = 0 ∧ bind ≠ 0) := by unfold plcB; rw [if_pos h0]
    by_cases h1 : val = 0
    · have e1 : (val == 0) = true := by rw [beq_iff_eq]; exact h1
      by_cases h2 : sz = 0
      · have e2 : (sz == 0) = true := by rw [beq_iff_eq]; exact h2
        by_cases h3 : bind = 0
        · have e3 : (bind != 0) = false := by rw [h3]; rfl
          have HB : Hid (plcB bind wh val sz n = false) := by unfold Hid; rw [hpl]; exact decide_eq_false (by omega)
          clear hpl hp h0 h1 h2 h3
          go_enter Tryd.func18, Tryd.ntmps18
          go_wp2
          go_ret
          exact ⟨by rw [HB.out]; rfl, kA⟩
        · have e3 : (bind != 0) = true := by rw [bne_iff_ne]; exact h3
          have HB : Hid (plcB bind wh val sz n = true) := by unfold Hid; rw [hpl]; exact decide_eq_true ⟨h1, h2, h3⟩
          clear hpl hp h0 h1 h2 h3
          go_enter Tryd.func18, Tryd.ntmps18
          go_wp2
          go_ret
          exact ⟨by rw [HB.out]; rfl, kA⟩
      · have e2 : (sz == 0) = false := by rw [beq_eq_false_iff_ne]; exact h2
        have HB : Hid (plcB bind wh val sz n = false) := by unfold Hid; rw [hpl]; exact decide_eq_false (by omega)
        clear hpl hp h0 h1 h2
        go_enter Tryd.func18, Tryd.ntmps18
        go_wp2
        go_ret
        exact ⟨by rw [HB.out]; rfl, kA⟩
    · have e1 : (val == 0) = false := by rw [beq_eq_false_iff_ne]; exact h1
      have HB : Hid (plcB bind wh val sz n = false) := by unfold Hid; rw [hpl]; exact decide_eq_false (by omega)
      clear hpl hp h0 h1
      go_enter Tryd.func18, Tryd.ntmps18
      go_wp2
      go_ret
      exact ⟨by rw [HB.out]; rfl, kA⟩
  have e0 : (wh == 0) = false := by rw [beq_eq_false_iff_ne]; exact h0
  by_cases h1 : wh = -1
  · have e1 : (wh == -1) = true := by rw [beq_iff_eq]; exact h1
    have hpl : plcB bind wh val sz n = decide (-2147483648 ≤ val ∧ val ≤ 4294967295 ∧ sz = 0) := by unfold plcB; rw [if_neg h0, if_pos h1]
    by_cases h2 : -2147483648 ≤ val
    · have e2 : decide (-2147483648 ≤ val) = true := decide_eq_true h2
      by_cases h3 : val ≤ 4294967295
      · have e3 : decide (val ≤ 4294967295) = true := decide_eq_true h3
        by_cases h4 : sz = 0
        · have e4 : (sz == 0) = true := by rw [beq_iff_eq]; exact h4
          have HB : Hid (plcB bind wh val sz n = true) := by unfold Hid; rw [hpl]; exact decide_eq_true ⟨h2, h3, h4⟩
          clear hpl hp h0 h1 h2 h3 h4
          go_enter Tryd.func18, Tryd.ntmps18
          go_wp2
          go_ret
          exact ⟨by rw [HB.out]; rfl, kA⟩
        · have e4 : (sz == 0) = false := by rw [beq_eq_false_iff_ne]; exact h4
          have HB : Hid (plcB bind wh val sz n = false) := by unfold Hid; rw [hpl]; exact decide_eq_false (by omega)
          clear hpl hp h0 h1 h2 h3 h4
          go_enter Tryd.func18, Tryd.ntmps18
          go_wp2
          go_ret
          exact ⟨by rw [HB.out]; rfl, kA⟩
      · have e3 : decide (val ≤ 4294967295) = false := decide_eq_false h3
        have HB : Hid (plcB bind wh val sz n = false) := by unfold Hid; rw [hpl]; exact decide_eq_false (by omega)
        clear hpl hp h0 h1 h2 h3
        go_enter Tryd.func18, Tryd.ntmps18
        go_wp2
        go_ret
        exact ⟨by rw [HB.out]; rfl, kA⟩
    · have e2 : decide (-2147483648 ≤ val) = false := decide_eq_false h2
      have HB : Hid (plcB bind wh val sz n = false) := by unfold Hid; rw [hpl]; exact decide_eq_false (by omega)
      clear hpl hp h0 h1 h2
      go_enter Tryd.func18, Tryd.ntmps18
      go_wp2
      go_ret
      exact ⟨by rw [HB.out]; rfl, kA⟩
  have e1 : (wh == -1) = false := by rw [beq_eq_false_iff_ne]; exact h1
  by_cases h2 : wh = -2
  · have e2 : (wh == -2) = true := by rw [beq_iff_eq]; exact h2
    have hM := isCommon_walk s bind hid wh val sz wa
    have HB : Hid (plcB bind wh val sz n = comB bind val sz) := by unfold Hid plcB; rw [if_neg h0, if_neg h1, if_pos h2]
    clear hp h0 h1 h2
    go_enter Tryd.func18, Tryd.ntmps18
    go_wp2_with (go_at_call 30; refine hM.mono ?_; rintro e w1 ⟨rfl, k1⟩)
    go_ret
    exact ⟨by rw [HB.out]; rfl, kA.trans k1⟩
  · have e2 : (wh == -2) = false := by rw [beq_eq_false_iff_ne]; exact h2
    have HB : Hid (plcB bind wh val sz n = false) := by unfold Hid plcB; rw [if_neg h0, if_neg h1, if_neg h2]; exact decide_eq_false (by omega)
    clear hp h0 h1 h2
    go_enter Tryd.func18, Tryd.ntmps18
    go_wp2
    go_ret
    exact ⟨by rw [HB.out]; rfl, kA⟩

set_option maxRecDepth 20000 in
set_option maxHeartbeats 1600000 in
/-- What Check gives. -/
theorem ycheck_walk (s : ByteArray) (bind : Int) (hid : Bool) (wh val sz : Int) (n : Int) (w : World) (hs : s.size ≤ maxLen) (hb : 0 ≤ bind) :
    Calls Tryd.prog 9 #[symW s bind hid wh val sz, .int .i64 n] w fun e w' => e = .returned (.int .i64 (chkY (nm s) bind hid wh val sz n)) ∧ Kept w w' := by
  have B1 := SBx.new w s bind hid wh val sz
  obtain ⟨wa, hwa⟩ : ∃ wa, w.alloc (symO s bind hid wh val sz) = wa := ⟨_, rfl⟩
  rw [hwa] at B1
  have kA : Kept w wa := by rw [← hwa]; exact Kept.alloc _ _
  have B1' := B1
  obtain ⟨c0, c1, c2, c3, c4, c5, _, _, _, _, _, _⟩ := B1'
  by_cases h0 : n < 0
  · rw [chkY_arg (.inl h0)]
    have d0 : decide (n < 0) = true := decide_eq_true h0
    go_enter Tryd.func9, Tryd.ntmps9
    go_wp2
    go_ret
    exact ⟨rfl, kA⟩
  have d0 : decide (n < 0) = false := decide_eq_false h0
  by_cases h1 : 16 < n
  · rw [chkY_arg (.inr h1)]
    have d1 : decide (16 < n) = true := decide_eq_true h1
    go_enter Tryd.func9, Tryd.ntmps9
    go_wp2
    go_ret
    exact ⟨rfl, kA⟩
  have d1 : decide (16 < n) = false := decide_eq_false h1
  rw [chkY_in (by omega) (by omega)]
  have hN := fun w => isName_walk s w hs
  have hB := fun w => isBound_walk s bind hid wh val sz w hb
  have hP := fun w => isPlaced_walk s bind hid wh val sz n w
  have e : okY (nm s) bind hid wh val sz n = (mayNm (nm s) && (bndB bind hid && plcB bind wh val sz n)) := rfl
  rw [e]
  obtain ⟨g1, hg1⟩ : ∃ g, mayNm (nm s) = g := ⟨_, rfl⟩
  obtain ⟨g2, hg2⟩ : ∃ g, bndB bind hid = g := ⟨_, rfl⟩
  obtain ⟨g3, hg3⟩ : ∃ g, plcB bind wh val sz n = g := ⟨_, rfl⟩
  rw [hg1] at hN ⊢
  rw [hg2] at hB ⊢
  rw [hg3] at hP ⊢
  clear e hg1 hg2 hg3 h0 h1
  cases g1 with
  | false =>
    clear hB hP
    go_enter Tryd.func9, Tryd.ntmps9
    go_wp2_with (go_at_call 16; refine (hN _).mono ?_; rintro e w2 ⟨rfl, hw2⟩; have hw3 := hw2.symm; subst hw3; clear hw2)
    go_ret
    exact ⟨rfl, kA⟩
  | true =>
    cases g2 with
    | false =>
      clear hP
      go_enter Tryd.func9, Tryd.ntmps9
      go_wp2_with (first
        | (go_at_call 16; refine (hN _).mono ?_; rintro e w2 ⟨rfl, hw2⟩; have hw3 := hw2.symm; subst hw3; clear hw2)
        | (go_at_call 17; refine (hB _).mono ?_; rintro e w3 ⟨rfl, k3⟩))
      go_ret
      exact ⟨rfl, kA.trans k3⟩
    | true =>
      cases g3 <;>
      · go_enter Tryd.func9, Tryd.ntmps9
        go_wp2_with (first
          | (go_at_call 16; refine (hN _).mono ?_; rintro e w2 ⟨rfl, hw2⟩; have hw3 := hw2.symm; subst hw3; clear hw2)
          | (go_at_call 17; refine (hB _).mono ?_; rintro e w3 ⟨rfl, k3⟩; clear c0 c1 c2 c3 c4 c5; obtain ⟨c0, c1, c2, c3, c4, c5, _, _, _, _, _, _⟩ := B1.kept k3)
          | (go_at_call 18; refine (hP _).mono ?_; rintro e w4 ⟨rfl, k4⟩))
        go_ret
        exact ⟨rfl, (kA.trans k3).trans k4⟩
end Go.Proofs.YteehekoajemciaaDoor
