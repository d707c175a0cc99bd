/- Which relocations may be: the program's. -/
import Derived.Test.YtbfmichhpcaamaaDoorXf
namespace Go.Proofs.YtbfmichhpcaamaaDoor
open Go.RowKit

theorem tm2 (n : Int) : (n.tmod 2 == 0) = decide (n % 2 = 0) := by
  rw [Bool.eq_iff_iff, beq_iff_eq, decide_eq_true_eq, ← Int.dvd_iff_tmod_eq_zero]
  omega
/-- A box of a relocation that came in. -/
theorem box_rela (w : World) (sec off ty sy ad : Int) : ∃ wa, w.alloc (relO sec off ty sy ad) = wa ∧ XBx wa w.heap.size sec off ty sy ad ∧ Kept w wa ∧ wa.heap.size = w.heap.size + 1 := by
  exact ⟨_, rfl, XBx.new _ _ _ _ _ _, Kept.alloc _ _, by simp⟩

theorem isBoundX_walk (sec off ty sy ad : Int) (n : Int) (w : World) (h0 : 0 ≤ ty) (h1 : ty < 256) :
    Calls Tryd.prog 21 #[relW sec off ty sy ad, .int .i64 n] w fun e w' => e = .returned (.bool (bndX ty sy n)) ∧ Kept w w' := by
  obtain ⟨wa, hwa, B1, kA, sA⟩ := box_rela w sec off ty sy ad
  obtain ⟨c0, c1, c2, c3, c4, _, _, _, _, _⟩ := B1
  have hI := fun w => isIn_alone ty w h0 h1
  clear h0 h1
  by_cases ht : ty = 43 ∨ ty = 51
  · rw [decide_eq_true ht] at hI
    have hb : bndX ty sy n = decide (sy = -1) := if_pos ht
    clear ht
    by_cases h2 : sy = -1
    · have d2 : (sy == -1) = true := by rw [beq_iff_eq]; exact h2
      have HB : Hid (bndX ty sy n = true) := by unfold Hid; rw [hb]; exact decide_eq_true h2
      clear h2 hb
      go_enter Tryd.func21, Tryd.ntmps21
      go_wp2_with (go_at_call 36; refine (hI _).mono ?_; rintro e w2 ⟨rfl, hw2⟩; have hw3 := hw2.symm; subst hw3; clear hw2)
      go_ret
      exact ⟨by rw [HB.out]; rfl, kA⟩
    · have d2 : (sy == -1) = false := by rw [beq_eq_false_iff_ne]; exact h2
      have HB : Hid (bndX ty sy n = false) := by unfold Hid; rw [hb]; exact decide_eq_false h2
      clear h2 hb
      go_enter Tryd.func21, Tryd.ntmps21
      go_wp2_with (go_at_call 36; refine (hI _).mono ?_; rintro e w2 ⟨rfl, hw2⟩; have hw3 := hw2.symm; subst hw3; clear hw2)
      go_ret
      exact ⟨by rw [HB.out]; rfl, kA⟩
  · rw [decide_eq_false ht] at hI
    have hb : bndX ty sy n = decide (0 ≤ sy ∧ sy < n) := if_neg ht
    clear ht
    by_cases h2 : 0 ≤ sy
    · have d2 : decide (0 ≤ sy) = true := decide_eq_true h2
      by_cases h3 : sy < n
      · have d3 : decide (sy < n) = true := decide_eq_true h3
        have HB : Hid (bndX ty sy n = true) := by unfold Hid; rw [hb]; exact decide_eq_true ⟨h2, h3⟩
        clear h2 h3 hb
        go_enter Tryd.func21, Tryd.ntmps21
        go_wp2_with (go_at_call 36; refine (hI _).mono ?_; rintro e w2 ⟨rfl, hw2⟩; have hw3 := hw2.symm; subst hw3; clear hw2)
        go_ret
        exact ⟨by rw [HB.out]; rfl, kA⟩
      · have d3 : decide (sy < n) = false := decide_eq_false h3
        have HB : Hid (bndX ty sy n = false) := by unfold Hid; rw [hb]; exact decide_eq_false (by omega)
        clear h2 h3 hb
        go_enter Tryd.func21, Tryd.ntmps21
        go_wp2_with (go_at_call 36; refine (hI _).mono ?_; rintro e w2 ⟨rfl, hw2⟩; have hw3 := hw2.symm; subst hw3; clear hw2)
        go_ret
        exact ⟨by rw [HB.out]; rfl, kA⟩
    · have d2 : decide (0 ≤ sy) = false := decide_eq_false h2
      have HB : Hid (bndX ty sy n = false) := by unfold Hid; rw [hb]; exact decide_eq_false (by omega)
      clear h2 hb
      go_enter Tryd.func21, Tryd.ntmps21
      go_wp2_with (go_at_call 36; refine (hI _).mono ?_; rintro e w2 ⟨rfl, hw2⟩; have hw3 := hw2.symm; subst hw3; clear hw2)
      go_ret
      exact ⟨by rw [HB.out]; rfl, kA⟩

set_option maxHeartbeats 1600000 in
theorem isFilled_walk (sec off ty sy ad : Int) (left : Int) (w : World) (h0 : 0 ≤ ty) (h1 : ty < 256) :
    Calls Tryd.prog 38 #[relW sec off ty sy ad, .int .i64 left] w fun e w' => e = .returned (.bool (filX ty ad left)) ∧ Kept w w' := by
  obtain ⟨wa, hwa, B1, kA, sA⟩ := box_rela w sec off ty sy ad
  obtain ⟨c0, c1, c2, c3, c4, _, _, _, _, _⟩ := B1
  have hI := fun w => isIn_bare ty w h0 h1
  clear h0 h1
  by_cases ht : ty = 51 ∨ ty = 24 ∨ ty = 25
  · rw [decide_eq_true ht] at hI
    have hb : filX ty ad left = decide (ad = 0) := if_pos ht
    clear ht
    by_cases h2 : ad = 0
    · have d2 : (ad == 0) = true := by rw [beq_iff_eq]; exact h2
      have HB : Hid (filX ty ad left = true) := by unfold Hid; rw [hb]; exact decide_eq_true h2
      clear h2 hb
      go_enter Tryd.func38, Tryd.ntmps38
      go_wp2_with (go_at_call 36; refine (hI _).mono ?_; rintro e w2 ⟨rfl, hw2⟩; have hw3 := hw2.symm; subst hw3; clear hw2)
      go_ret
      exact ⟨by rw [HB.out]; rfl, kA⟩
    · have d2 : (ad == 0) = false := by rw [beq_eq_false_iff_ne]; exact h2
      have HB : Hid (filX ty ad left = false) := by unfold Hid; rw [hb]; exact decide_eq_false h2
      clear h2 hb
      go_enter Tryd.func38, Tryd.ntmps38
      go_wp2_with (go_at_call 36; refine (hI _).mono ?_; rintro e w2 ⟨rfl, hw2⟩; have hw3 := hw2.symm; subst hw3; clear hw2)
      go_ret
      exact ⟨by rw [HB.out]; rfl, kA⟩
  · rw [decide_eq_false ht] at hI
    by_cases h3 : ty = 43
    · have d3 : (ty == 43) = true := by rw [beq_iff_eq]; exact h3
      have hb : filX ty ad left = decide (ad % 2 = 0 ∧ 0 ≤ ad ∧ ad ≤ 62 ∧ ad ≤ left) := by unfold filX; rw [if_neg ht, if_pos h3]
      have dm := tm2 ad
      clear ht h3
      by_cases h4 : ad % 2 = 0
      · rw [decide_eq_true h4] at dm
        have dm2 : (ad % 2 == 0) = true := by rw [beq_iff_eq]; exact h4
        by_cases h5 : 0 ≤ ad
        · have d5 : decide (0 ≤ ad) = true := decide_eq_true h5
          by_cases h6 : ad ≤ 62
          · have d6 : decide (ad ≤ 62) = true := decide_eq_true h6
            by_cases h7 : ad ≤ left
            · have d7 : decide (ad ≤ left) = true := decide_eq_true h7
              have HB : Hid (filX ty ad left = true) := by unfold Hid; rw [hb]; exact decide_eq_true ⟨h4, h5, h6, h7⟩
              clear h5 h6 h7 hb h4
              go_enter Tryd.func38, Tryd.ntmps38
              go_wp2_with (go_at_call 36; refine (hI _).mono ?_; rintro e w2 ⟨rfl, hw2⟩; have hw3 := hw2.symm; subst hw3; clear hw2)
              go_ret
              exact ⟨by rw [HB.out]; rfl, kA⟩
            · have d7 : decide (ad ≤ left) = false := decide_eq_false h7
              have HB : Hid (filX ty ad left = false) := by unfold Hid; rw [hb]; exact decide_eq_false (by omega)
              clear h5 h6 h7 hb h4
              go_enter Tryd.func38, Tryd.ntmps38
              go_wp2_with (go_at_call 36; refine (hI _).mono ?_; rintro e w2 ⟨rfl, hw2⟩; have hw3 := hw2.symm; subst hw3; clear hw2)
              go_ret
              exact ⟨by rw [HB.out]; rfl, kA⟩
          · have d6 : decide (ad ≤ 62) = false := decide_eq_false h6
            have HB : Hid (filX ty ad left = false) := by unfold Hid; rw [hb]; exact decide_eq_false (by omega)
            clear h5 h6 hb h4
            go_enter Tryd.func38, Tryd.ntmps38
            go_wp2_with (go_at_call 36; refine (hI _).mono ?_; rintro e w2 ⟨rfl, hw2⟩; have hw3 := hw2.symm; subst hw3; clear hw2)
            go_ret
            exact ⟨by rw [HB.out]; rfl, kA⟩
        · have d5 : decide (0 ≤ ad) = false := decide_eq_false h5
          have HB : Hid (filX ty ad left = false) := by unfold Hid; rw [hb]; exact decide_eq_false (by omega)
          clear h5 hb h4
          go_enter Tryd.func38, Tryd.ntmps38
          go_wp2_with (go_at_call 36; refine (hI _).mono ?_; rintro e w2 ⟨rfl, hw2⟩; have hw3 := hw2.symm; subst hw3; clear hw2)
          go_ret
          exact ⟨by rw [HB.out]; rfl, kA⟩
      · rw [decide_eq_false h4] at dm
        have dm2 : (ad % 2 == 0) = false := by rw [beq_eq_false_iff_ne]; exact h4
        have HB : Hid (filX ty ad left = false) := by unfold Hid; rw [hb]; exact decide_eq_false (by omega)
        clear hb h4
        go_enter Tryd.func38, Tryd.ntmps38
        go_wp2_with (go_at_call 36; refine (hI _).mono ?_; rintro e w2 ⟨rfl, hw2⟩; have hw3 := hw2.symm; subst hw3; clear hw2)
        go_ret
        exact ⟨by rw [HB.out]; rfl, kA⟩
    · have d3 : (ty == 43) = false := by rw [beq_eq_false_iff_ne]; exact h3
      have HB : Hid (filX ty ad left = true) := by unfold Hid filX; rw [if_neg ht, if_neg h3]
      clear ht h3
      go_enter Tryd.func38, Tryd.ntmps38
      go_wp2_with (go_at_call 36; refine (hI _).mono ?_; rintro e w2 ⟨rfl, hw2⟩; have hw3 := hw2.symm; subst hw3; clear hw2)
      go_ret
      exact ⟨by rw [HB.out]; rfl, kA⟩

set_option maxHeartbeats 1600000 in
theorem isOfKind_walk (sec off ty sy ad : Int) (s : ByteArray) (al : Int) (a : Option Addr) (len cap : Nat) (sz : Int) (w : World) (h0 : 0 ≤ ty) (h1 : ty < 256) (hs : s.size ≤ maxLen) :
    Calls Tryd.prog 37 #[relW sec off ty sy ad, sectV s al a len cap sz] w fun e w' => e = .returned (.bool (kndX ty off (kindN (nm s)))) ∧ Kept w w' := by
  obtain ⟨wa, hwa, B1, kA, sA⟩ := box_rela w sec off ty sy ad
  have B2 := Box.new wa s al (.slice a len cap) sz
  obtain ⟨wb, hwb⟩ : ∃ wb, wa.alloc (.cells #[.string s, .int .i64 al, .slice a len cap, .int .i64 sz] 47) = wb := ⟨_, rfl⟩
  rw [hwb, sA] at B2
  have kB : Kept wa wb := by rw [← hwb]; exact Kept.alloc _ _
  obtain ⟨_, c1, c2, _, _, _, _, _, _, _⟩ := B1.kept kB
  obtain ⟨d0, _, _, _, _, _, _, _⟩ := B2
  have K := kA.trans kB
  have c1' : Hid (wb.cell? ⟨w.heap.size, 1, none⟩ = some (.int .i64 off)) := c1
  have c2' : Hid (wb.cell? ⟨w.heap.size, 2, none⟩ = some (.int .u8 ty)) := c2
  have hK := fun w => kind_walk s w hs
  have hI := fun w => isIn_any ty w h0 h1
  have hk4 := kindN_le (nm s)
  clear h0 h1 B1 kA kB hs
  obtain ⟨k, hk⟩ : ∃ k, kindN (nm s) = k := ⟨_, rfl⟩
  have hke : kE (nm s) = if k = 0 then 3 else 0 := by rw [← hk]; rfl
  rw [hk, hke] at hK
  rw [hk] at hk4 ⊢
  obtain ⟨x, hx⟩ : ∃ x : Int, (k : Int) = x := ⟨_, rfl⟩
  rw [hx] at hK
  clear hk hke
  by_cases hk0 : k = 0
  · rw [if_pos hk0] at hK
    have HB : Hid (kndX ty off k = false) := by unfold Hid kndX; rw [decide_eq_false (by omega), Bool.false_and]
    clear hI hx hk4 hk0
    go_enter Tryd.func37, Tryd.ntmps37
    go_wp2_with ((go_at_call 33; refine (hK _).mono ?_; rintro e w4 ⟨rfl, k4⟩; clear c1 c2; have c1 := k4.cell c1'.out; have c2 := k4.cell c2'.out))
    go_ret
    exact ⟨by rw [HB.out]; rfl, K.trans k4⟩
  · rw [if_neg hk0] at hK
    have hpl : kndX ty off k = if plnX ty = true then decide (k ≠ 4) else decide (k = 1 ∧ off % 2 = 0) := by unfold kndX; rw [decide_eq_true (by omega : k ≠ 0), Bool.true_and]
    have hI' : plnX ty = decide (ty = 1 ∨ ty = 2 ∨ (33 ≤ ty ∧ ty ≤ 40)) := rfl
    rw [← hI'] at hI
    cases hp : plnX ty with
    | true =>
      rw [hp] at hI hpl
      rw [if_pos rfl] at hpl
      by_cases h4 : x = 4
      · have q4 : (x == 4) = true := by rw [beq_iff_eq]; exact h4
        have q5 : (x != 4) = false := by rw [h4]; rfl
        have HB : Hid (kndX ty off k = false) := by unfold Hid; rw [hpl]; exact decide_eq_false (by omega)
        clear h4 hpl hk0 hx hk4 hp hI'
        go_enter Tryd.func37, Tryd.ntmps37
        go_wp2_with (first | (go_at_call 33; refine (hK _).mono ?_; rintro e w4 ⟨rfl, k4⟩; clear c1 c2; have c1 := k4.cell c1'.out; have c2 := k4.cell c2'.out) | (go_at_call 36; refine (hI _).mono ?_; rintro e w2 ⟨rfl, hw2⟩; have hw3 := hw2.symm; subst hw3; clear hw2))
        go_ret
        exact ⟨by rw [HB.out]; rfl, K.trans k4⟩
      · have q4 : (x == 4) = false := by rw [beq_eq_false_iff_ne]; exact h4
        have q5 : (x != 4) = true := by rw [bne_iff_ne]; exact h4
        have HB : Hid (kndX ty off k = true) := by unfold Hid; rw [hpl]; exact decide_eq_true (by omega)
        clear h4 hpl hk0 hx hk4 hp hI'
        go_enter Tryd.func37, Tryd.ntmps37
        go_wp2_with (first | (go_at_call 33; refine (hK _).mono ?_; rintro e w4 ⟨rfl, k4⟩; clear c1 c2; have c1 := k4.cell c1'.out; have c2 := k4.cell c2'.out) | (go_at_call 36; refine (hI _).mono ?_; rintro e w2 ⟨rfl, hw2⟩; have hw3 := hw2.symm; subst hw3; clear hw2))
        go_ret
        exact ⟨by rw [HB.out]; rfl, K.trans k4⟩
    | false =>
      rw [hp] at hI hpl
      rw [if_neg (by decide)] at hpl
      have dm := tm2 off
      by_cases h6 : off % 2 = 0
      · rw [decide_eq_true h6] at dm
        have dm2 : (off % 2 == 0) = true := by rw [beq_iff_eq]; exact h6
        by_cases h4 : x = 1
        · have q4 : (x == 1) = true := by rw [beq_iff_eq]; exact h4
          have HB : Hid (kndX ty off k = true) := by unfold Hid; rw [hpl]; exact decide_eq_true ⟨by omega, h6⟩
          clear h4 hpl hk0 hx hk4 hp hI' h6
          go_enter Tryd.func37, Tryd.ntmps37
          go_wp2_with (first | (go_at_call 33; refine (hK _).mono ?_; rintro e w4 ⟨rfl, k4⟩; clear c1 c2; have c1 := k4.cell c1'.out; have c2 := k4.cell c2'.out) | (go_at_call 36; refine (hI _).mono ?_; rintro e w2 ⟨rfl, hw2⟩; have hw3 := hw2.symm; subst hw3; clear hw2))
          go_ret
          exact ⟨by rw [HB.out]; rfl, K.trans k4⟩
        · have q4 : (x == 1) = false := by rw [beq_eq_false_iff_ne]; exact h4
          have HB : Hid (kndX ty off k = false) := by unfold Hid; rw [hpl]; exact decide_eq_false (by omega)
          clear h4 hpl hk0 hx hk4 hp hI' h6
          go_enter Tryd.func37, Tryd.ntmps37
          go_wp2_with (first | (go_at_call 33; refine (hK _).mono ?_; rintro e w4 ⟨rfl, k4⟩; clear c1 c2; have c1 := k4.cell c1'.out; have c2 := k4.cell c2'.out) | (go_at_call 36; refine (hI _).mono ?_; rintro e w2 ⟨rfl, hw2⟩; have hw3 := hw2.symm; subst hw3; clear hw2))
          go_ret
          exact ⟨by rw [HB.out]; rfl, K.trans k4⟩
      · rw [decide_eq_false h6] at dm
        have dm2 : (off % 2 == 0) = false := by rw [beq_eq_false_iff_ne]; exact h6
        by_cases h4 : x = 1
        · have q4 : (x == 1) = true := by rw [beq_iff_eq]; exact h4
          have HB : Hid (kndX ty off k = false) := by unfold Hid; rw [hpl]; exact decide_eq_false (by omega)
          clear h4 hpl hk0 hx hk4 hp hI' h6
          go_enter Tryd.func37, Tryd.ntmps37
          go_wp2_with (first | (go_at_call 33; refine (hK _).mono ?_; rintro e w4 ⟨rfl, k4⟩; clear c1 c2; have c1 := k4.cell c1'.out; have c2 := k4.cell c2'.out) | (go_at_call 36; refine (hI _).mono ?_; rintro e w2 ⟨rfl, hw2⟩; have hw3 := hw2.symm; subst hw3; clear hw2))
          go_ret
          exact ⟨by rw [HB.out]; rfl, K.trans k4⟩
        · have q4 : (x == 1) = false := by rw [beq_eq_false_iff_ne]; exact h4
          have HB : Hid (kndX ty off k = false) := by unfold Hid; rw [hpl]; exact decide_eq_false (by omega)
          clear h4 hpl hk0 hx hk4 hp hI' h6
          go_enter Tryd.func37, Tryd.ntmps37
          go_wp2_with (first | (go_at_call 33; refine (hK _).mono ?_; rintro e w4 ⟨rfl, k4⟩; clear c1 c2; have c1 := k4.cell c1'.out; have c2 := k4.cell c2'.out) | (go_at_call 36; refine (hI _).mono ?_; rintro e w2 ⟨rfl, hw2⟩; have hw3 := hw2.symm; subst hw3; clear hw2))
          go_ret
          exact ⟨by rw [HB.out]; rfl, K.trans k4⟩

set_option maxHeartbeats 1600000 in
theorem hasBytes_walk (sec off ty sy ad : Int) (w : World) :
    Calls Tryd.prog 26 #[relW sec off ty sy ad] w fun e w' => e = .returned (.bool (codX off ty sy ad)) ∧ Kept w w' := by
  obtain ⟨wa, hwa, B1, kA, sA⟩ := box_rela w sec off ty sy ad
  obtain ⟨c0, c1, c2, c3, c4, _, _, _, _, _⟩ := B1
  have hF := fun w => field_walk ty w
  have hA := fun w => isAddend_walk ad w
  by_cases ht : 0 ≤ abtN ty
  · rw [show fdV ty = abtN ty from if_pos ht, show fdE ty = 0 from if_pos ht] at hF
    obtain ⟨m, hm⟩ : ∃ m, abtN ty = m := ⟨_, rfl⟩
    have hcd : codX off ty sy ad = (decide (0 ≤ m ∧ 0 ≤ off ∧ off ≤ 4096 ∧ -1 ≤ sy ∧ sy < 64) && adB ad) := by rw [← hm]; rfl
    rw [hm] at hF ht
    obtain ⟨g, hg⟩ : ∃ g, adB ad = g := ⟨_, rfl⟩
    rw [hg] at hcd hA
    clear hm hg
    by_cases h2 : 0 ≤ off
    · have d2 : decide (0 ≤ off) = true := decide_eq_true h2
      by_cases h3 : off ≤ 4096
      · have d3 : decide (off ≤ 4096) = true := decide_eq_true h3
        by_cases h4 : -1 ≤ sy
        · have d4 : decide (-1 ≤ sy) = true := decide_eq_true h4
          by_cases h5 : sy < 64
          · have d5 : decide (sy < 64) = true := decide_eq_true h5
            have HB : Hid (codX off ty sy ad = g) := by unfold Hid; rw [hcd, decide_eq_true (by omega), Bool.true_and]
            clear h2 h3 h4 h5 ht hcd
            go_enter Tryd.func26, Tryd.ntmps26
            go_wp2_with (first | (go_at_call 8; refine (hF _).mono ?_; rintro e w2 ⟨rfl, hw2⟩; have hw3 := hw2.symm; subst hw3; clear hw2) | (go_at_call 20; refine (hA _).mono ?_; rintro e w2 ⟨rfl, hw2⟩; have hw3 := hw2.symm; subst hw3; clear hw2))
            go_ret
            exact ⟨by rw [HB.out]; rfl, kA⟩
          · have d5 : decide (sy < 64) = false := decide_eq_false h5
            have HB : Hid (codX off ty sy ad = false) := by unfold Hid; rw [hcd, decide_eq_false (by omega), Bool.false_and]
            clear h2 h3 h4 h5 ht hcd
            go_enter Tryd.func26, Tryd.ntmps26
            go_wp2_with (first | (go_at_call 8; refine (hF _).mono ?_; rintro e w2 ⟨rfl, hw2⟩; have hw3 := hw2.symm; subst hw3; clear hw2) | (go_at_call 20; refine (hA _).mono ?_; rintro e w2 ⟨rfl, hw2⟩; have hw3 := hw2.symm; subst hw3; clear hw2))
            go_ret
            exact ⟨by rw [HB.out]; rfl, kA⟩
        · have d4 : decide (-1 ≤ sy) = false := decide_eq_false h4
          have HB : Hid (codX off ty sy ad = false) := by unfold Hid; rw [hcd, decide_eq_false (by omega), Bool.false_and]
          clear h2 h3 h4 ht hcd
          go_enter Tryd.func26, Tryd.ntmps26
          go_wp2_with (first | (go_at_call 8; refine (hF _).mono ?_; rintro e w2 ⟨rfl, hw2⟩; have hw3 := hw2.symm; subst hw3; clear hw2) | (go_at_call 20; refine (hA _).mono ?_; rintro e w2 ⟨rfl, hw2⟩; have hw3 := hw2.symm; subst hw3; clear hw2))
          go_ret
          exact ⟨by rw [HB.out]; rfl, kA⟩
      · have d3 : decide (off ≤ 4096) = false := decide_eq_false h3
        have HB : Hid (codX off ty sy ad = false) := by unfold Hid; rw [hcd, decide_eq_false (by omega), Bool.false_and]
        clear h2 h3 ht hcd
        go_enter Tryd.func26, Tryd.ntmps26
        go_wp2_with (first | (go_at_call 8; refine (hF _).mono ?_; rintro e w2 ⟨rfl, hw2⟩; have hw3 := hw2.symm; subst hw3; clear hw2) | (go_at_call 20; refine (hA _).mono ?_; rintro e w2 ⟨rfl, hw2⟩; have hw3 := hw2.symm; subst hw3; clear hw2))
        go_ret
        exact ⟨by rw [HB.out]; rfl, kA⟩
    · have d2 : decide (0 ≤ off) = false := decide_eq_false h2
      have HB : Hid (codX off ty sy ad = false) := by unfold Hid; rw [hcd, decide_eq_false (by omega), Bool.false_and]
      clear h2 ht hcd
      go_enter Tryd.func26, Tryd.ntmps26
      go_wp2_with (first | (go_at_call 8; refine (hF _).mono ?_; rintro e w2 ⟨rfl, hw2⟩; have hw3 := hw2.symm; subst hw3; clear hw2) | (go_at_call 20; refine (hA _).mono ?_; rintro e w2 ⟨rfl, hw2⟩; have hw3 := hw2.symm; subst hw3; clear hw2))
      go_ret
      exact ⟨by rw [HB.out]; rfl, kA⟩
  · have HB : Hid (codX off ty sy ad = false) := by unfold Hid codX; rw [decide_eq_false (fun h => ht h.1), Bool.false_and]
    rw [show fdV ty = 0 from if_neg ht, show fdE ty = 2 from if_neg ht] at hF
    clear ht hA
    go_enter Tryd.func26, Tryd.ntmps26
    go_wp2_with (go_at_call 8; refine (hF _).mono ?_; rintro e w2 ⟨rfl, hw2⟩; have hw3 := hw2.symm; subst hw3; clear hw2)
    go_ret
    exact ⟨by rw [HB.out]; rfl, kA⟩

set_option maxHeartbeats 1600000 in
theorem rcoded_walk (sec off ty sy ad : Int) (w : World) :
    Calls Tryd.prog 28 #[relW sec off ty sy ad] w fun e w' => e = .returned (.bool (codX off ty sy ad)) ∧ Kept w w' := by
  obtain ⟨wa, hwa, B1, kA, sA⟩ := box_rela w sec off ty sy ad
  obtain ⟨c0, c1, c2, c3, c4, _, _, _, _, _⟩ := B1
  have hF := fun w => about_walk ty w
  have hA := fun w => raddend_walk ad w
  by_cases ht : 0 ≤ abtN ty
  · obtain ⟨m, hm⟩ : ∃ m, abtN ty = m := ⟨_, rfl⟩
    have hcd : codX off ty sy ad = (decide (0 ≤ m ∧ 0 ≤ off ∧ off ≤ 4096 ∧ -1 ≤ sy ∧ sy < 64) && adB ad) := by rw [← hm]; rfl
    rw [hm] at hF ht
    have dt : decide (0 ≤ m) = true := decide_eq_true ht
    obtain ⟨g, hg⟩ : ∃ g, adB ad = g := ⟨_, rfl⟩
    rw [hg] at hcd hA
    clear hm hg
    by_cases h2 : 0 ≤ off
    · have d2 : decide (0 ≤ off) = true := decide_eq_true h2
      by_cases h3 : off ≤ 4096
      · have d3 : decide (off ≤ 4096) = true := decide_eq_true h3
        by_cases h4 : -1 ≤ sy
        · have d4 : decide (-1 ≤ sy) = true := decide_eq_true h4
          by_cases h5 : sy < 64
          · have d5 : decide (sy < 64) = true := decide_eq_true h5
            have HB : Hid (codX off ty sy ad = g) := by unfold Hid; rw [hcd, decide_eq_true (by omega), Bool.true_and]
            clear h2 h3 h4 h5 ht hcd
            go_enter Tryd.func28, Tryd.ntmps28
            go_wp2_with (first | (go_at_call 25; refine (hF _).mono ?_; rintro e w2 ⟨rfl, hw2⟩; have hw3 := hw2.symm; subst hw3; clear hw2) | (go_at_call 41; refine (hA _).mono ?_; rintro e w2 ⟨rfl, hw2⟩; have hw3 := hw2.symm; subst hw3; clear hw2))
            go_ret
            exact ⟨by rw [HB.out]; rfl, kA⟩
          · have d5 : decide (sy < 64) = false := decide_eq_false h5
            have HB : Hid (codX off ty sy ad = false) := by unfold Hid; rw [hcd, decide_eq_false (by omega), Bool.false_and]
            clear h2 h3 h4 h5 ht hcd
            go_enter Tryd.func28, Tryd.ntmps28
            go_wp2_with (first | (go_at_call 25; refine (hF _).mono ?_; rintro e w2 ⟨rfl, hw2⟩; have hw3 := hw2.symm; subst hw3; clear hw2) | (go_at_call 41; refine (hA _).mono ?_; rintro e w2 ⟨rfl, hw2⟩; have hw3 := hw2.symm; subst hw3; clear hw2))
            go_ret
            exact ⟨by rw [HB.out]; rfl, kA⟩
        · have d4 : decide (-1 ≤ sy) = false := decide_eq_false h4
          have HB : Hid (codX off ty sy ad = false) := by unfold Hid; rw [hcd, decide_eq_false (by omega), Bool.false_and]
          clear h2 h3 h4 ht hcd
          go_enter Tryd.func28, Tryd.ntmps28
          go_wp2_with (first | (go_at_call 25; refine (hF _).mono ?_; rintro e w2 ⟨rfl, hw2⟩; have hw3 := hw2.symm; subst hw3; clear hw2) | (go_at_call 41; refine (hA _).mono ?_; rintro e w2 ⟨rfl, hw2⟩; have hw3 := hw2.symm; subst hw3; clear hw2))
          go_ret
          exact ⟨by rw [HB.out]; rfl, kA⟩
      · have d3 : decide (off ≤ 4096) = false := decide_eq_false h3
        have HB : Hid (codX off ty sy ad = false) := by unfold Hid; rw [hcd, decide_eq_false (by omega), Bool.false_and]
        clear h2 h3 ht hcd
        go_enter Tryd.func28, Tryd.ntmps28
        go_wp2_with (first | (go_at_call 25; refine (hF _).mono ?_; rintro e w2 ⟨rfl, hw2⟩; have hw3 := hw2.symm; subst hw3; clear hw2) | (go_at_call 41; refine (hA _).mono ?_; rintro e w2 ⟨rfl, hw2⟩; have hw3 := hw2.symm; subst hw3; clear hw2))
        go_ret
        exact ⟨by rw [HB.out]; rfl, kA⟩
    · have d2 : decide (0 ≤ off) = false := decide_eq_false h2
      have HB : Hid (codX off ty sy ad = false) := by unfold Hid; rw [hcd, decide_eq_false (by omega), Bool.false_and]
      clear h2 ht hcd
      go_enter Tryd.func28, Tryd.ntmps28
      go_wp2_with (first | (go_at_call 25; refine (hF _).mono ?_; rintro e w2 ⟨rfl, hw2⟩; have hw3 := hw2.symm; subst hw3; clear hw2) | (go_at_call 41; refine (hA _).mono ?_; rintro e w2 ⟨rfl, hw2⟩; have hw3 := hw2.symm; subst hw3; clear hw2))
      go_ret
      exact ⟨by rw [HB.out]; rfl, kA⟩
  · have HB : Hid (codX off ty sy ad = false) := by unfold Hid codX; rw [decide_eq_false (fun h => ht h.1), Bool.false_and]
    obtain ⟨m, hm⟩ : ∃ m, abtN ty = m := ⟨_, rfl⟩
    rw [hm] at hF ht
    have dt : decide (0 ≤ m) = false := decide_eq_false ht
    clear ht hA hm
    go_enter Tryd.func28, Tryd.ntmps28
    go_wp2_with (go_at_call 25; refine (hF _).mono ?_; rintro e w2 ⟨rfl, hw2⟩; have hw3 := hw2.symm; subst hw3; clear hw2)
    go_ret
    exact ⟨by rw [HB.out]; rfl, kA⟩

end Go.Proofs.YtbfmichhpcaamaaDoor
