/- Whether no two of some texts are alike: the program's (it sorts them, and strikes what stands twice). Which symbols may be: the program's. Which symbols an object may have: the program's. What Get gives, and the document's own Get. -/
import Derived.Test.YtljmgbpecoifnaaGreatDoorSh
import Derived.Test.YtljmgbpecoifnaaGreatDoorJaj
import Derived.Sort.EveryDepth
import Derived.Sort.OwnSorted
import Derived.Lib.OwnBridge
import Derived.Test.YtljmgbpecoifnaaGreatDoorJah
import Derived.Test.YtljmgbpecoifnaaGreatDoorJam
import Derived.Test.YtljmgbpecoifnaaGreatDoorJag
namespace Go.Proofs.YtljmgbpecoifnaaGreatDoor
open Go.RowKit

def byS (ss : List ByteArray) : List (List UInt8) := ss.map (·.data.toList)
theorem byS_length (ss : List ByteArray) : (byS ss).length = ss.length := by simp [byS]
theorem data_inj {s t : ByteArray} (h : s.data.toList = t.data.toList) : s = t := ByteArray.ext (Array.ext' h)
theorem byS_nodup (ss : List ByteArray) : (byS ss).Nodup ↔ ss.Nodup := by
  induction ss with
  | nil => simp [byS]
  | cons s t ih =>
    unfold byS at ih ⊢
    rw [List.map_cons, List.nodup_cons, List.nodup_cons, ih]
    refine and_congr (not_congr ?_) Iff.rfl
    rw [List.mem_map]
    exact ⟨fun ⟨x, hx, e⟩ => by rw [← data_inj e]; exact hx, fun h => ⟨s, h, rfl⟩⟩
theorem keeps_at {ts : List (List UInt8)} {j : Nat} (_hj : j < ts.length) (h0 : j ≠ 0) : Lib.keeps ts.toArray j = decide (ts.getD j [] ≠ ts.getD (j - 1) []) := by
  unfold Lib.keeps
  have e1 : ts.toArray[j]! = ts.getD j [] := by
    rw [List.getElem!_toArray, List.getElem!_eq_getElem?_getD]
    rfl
  have e2 : ts.toArray[j - 1]! = ts.getD (j - 1) [] := by
    rw [List.getElem!_toArray, List.getElem!_eq_getElem?_getD]
    rfl
  rw [e1, e2]
  simp [h0]
theorem compact_many (ts : List (List UInt8)) : (Lib.compact ts).length = ts.length ↔ ∀ j, j < ts.length → j ≠ 0 → ts.getD j [] ≠ ts.getD (j - 1) [] := by
  constructor
  · intro h j hj h0
    unfold Lib.compact Lib.compactUpTo at h
    rw [List.length_map] at h
    have h2 : ((List.range ts.length).filter (Lib.keeps ts.toArray)).length = (List.range ts.length).length := by rw [h, List.length_range]
    have h3 := List.length_filter_eq_length_iff.1 h2 j (List.mem_range.2 hj)
    rw [keeps_at hj h0] at h3
    exact of_decide_eq_true h3
  · intro h
    rw [Lib.compact_all]
    intro j hj
    by_cases h0 : j = 0
    · unfold Lib.keeps; simp [h0]
    · rw [keeps_at hj h0]
      exact decide_eq_true (h j hj h0)
theorem sorted_nodup {ts : List (List UInt8)} (hs : ts.Pairwise fun a b => a ≤ b) : (∀ j, j < ts.length → j ≠ 0 → ts.getD j [] ≠ ts.getD (j - 1) []) ↔ ts.Nodup := by
  rw [List.pairwise_iff_getElem] at hs
  constructor
  · intro h
    rw [List.Nodup, List.pairwise_iff_getElem]
    intro i j hi hj hij e
    have h1 := h j hj (by omega)
    rw [getD_of_lt hj, getD_of_lt (by omega : j - 1 < ts.length)] at h1
    have a : ts[j - 1] ≤ ts[j] := hs (j - 1) j (by omega) hj (by omega)
    have b : ts[i] ≤ ts[j - 1] := by
      by_cases e2 : i = j - 1
      · subst e2; exact List.le_refl _
      · exact hs i (j - 1) hi (by omega) (by omega)
    rw [e] at b
    exact h1 (List.le_antisymm b a)
  · intro h j hj h0 e
    rw [List.Nodup, List.pairwise_iff_getElem] at h
    rw [getD_of_lt hj, getD_of_lt (by omega : j - 1 < ts.length)] at e
    exact h (j - 1) j (by omega) hj (by omega) e.symm
theorem differ_iff (ss : List ByteArray) : (Lib.compact ((byS ss).mergeSort fun x y => decide (x ≤ y))).length = ss.length ↔ ss.Nodup := by
  have tr : ∀ a b c : List UInt8, decide (a ≤ b) = true → decide (b ≤ c) = true → decide (a ≤ c) = true := fun a b c h1 h2 => by simp only [decide_eq_true_eq] at *; exact List.le_trans h1 h2
  have tot : ∀ a b : List UInt8, (decide (a ≤ b) || decide (b ≤ a)) = true := fun a b => by simp only [Bool.or_eq_true, decide_eq_true_eq]; exact List.le_total a b
  have hp := List.pairwise_mergeSort tr tot (byS ss)
  have hp' : ((byS ss).mergeSort fun x y => decide (x ≤ y)).Pairwise fun a b => a ≤ b := hp.imp fun h => of_decide_eq_true h
  have hl : ((byS ss).mergeSort fun x y => decide (x ≤ y)).length = ss.length := by rw [List.length_mergeSort, byS_length]
  rw [← hl, compact_many, sorted_nodup hp', (List.mergeSort_perm (byS ss) _).nodup_iff, byS_nodup]

open Go.Shelf in
/-- slices.Sort at texts of the call's own. -/
theorem sortS_walk (g cap n base : Nat) (ss : List ByteArray) (w0 w : World) (hH : Sort.Holds encStr w g 0 (byS ss).toArray) (hg : g < w.heap.size) (hb : base ≤ g) (hK : Below base w0 w) (hn : ss.length = n) (hl : n ≤ 100000) :
    Calls Tryz.prog 82 #[.slice (some ⟨g, 0, none⟩) n cap] w fun e w' => e = .returned (.tuple #[]) ∧ Sort.Holds encStr w' g 0 ((byS ss).mergeSort fun x y => decide (x ≤ y)).toArray ∧ Below base w0 w' := by
  have hc : Calls Tryz.prog 82 #[.slice (some ⟨g, 0, none⟩) (byS ss).length cap] w _ := calls_of_every_depth fun D => AnyS.slices_Sort_string_alone laysSort D g 0 cap (byS ss) w hH hg (by rw [byS_length]; omega)
  rw [byS_length, hn] at hc
  refine hc.mono ?_
  rintro e w' ⟨rfl, nn, os, rfl⟩
  refine ⟨rfl, ?_, hK.grown (grownBy_sorted _) (Nat.le_trans hb (Nat.le_of_lt hg)) (fun j hj => by cases hj; exact hb)⟩
  exact Sort.holds_grow encStr _ os g 0 _ (by simpa [Sort.putRow, Sort.mapBlock, Sort.ahead] using hg) (Sort.holds_putRow encStr _ g 0 _ _ (Sort.holds_ahead encStr w nn g 0 _ hH) (by simp))

open Go.Shelf in
/-- slices.Compact at texts of the call's own. -/
theorem compactS_walk (g cap n base : Nat) (ts : List (List UInt8)) (w0 w : World) (hH : Sort.Holds encStr w g 0 ts.toArray) (hb : base ≤ g) (hK : Below base w0 w) (hn : ts.length = n) (hl : n ≤ 100000) (hc : n ≤ cap) :
    Calls Tryz.prog 83 #[.slice (some ⟨g, 0, none⟩) n cap] w fun e w' => e = .returned (.slice (some ⟨g, 0, none⟩) (Lib.compact ts).length cap) ∧ Below base w0 w' := by
  have hc : Calls Tryz.prog 83 #[.slice (some ⟨g, 0, none⟩) ts.length cap] w _ := calls_of_every_depth fun D => AnyS.slices_Compact_string_in laysCompact D g 0 cap ts w hH (by omega) (by omega)
  rw [hn] at hc
  refine hc.mono ?_
  rintro e w' ⟨rfl, q, rfl⟩
  exact ⟨rfl, Lib.below_putRow hK hb⟩

open Go.Shelf in
set_option maxRecDepth 20000 in
theorem areDifferent_walk (v : Value) (ss : List ByteArray) (base : Nat) (w : World) (hO : OwnS w base v ss) (hl : ss.length ≤ 100000) :
    Calls Tryz.prog 46 #[v] w fun e w' => e = .returned (.bool (decide ss.Nodup)) ∧ Below base w w' := by
  by_cases hv : v = .slice none 0 0
  · subst hv
    have h0 : ss.length = 0 := by
      rcases hO.2 with ⟨_, h⟩ | ⟨g, cap, cur, h, _⟩
      · exact h
      · cases h
    have hs : ss = [] := List.eq_nil_of_length_eq_zero h0
    have hC1 : ∀ w, Calls Tryz.prog 82 #[.slice none 0 0] w fun e w' => e = .returned (.tuple #[]) ∧ w' = w := fun w => calls_of_every_depth fun D => AnyS.slices_Sort_string_none_alone laysSort D none 0 w
    have hC2 : ∀ w, Calls Tryz.prog 83 #[.slice none 0 0] w fun e w' => e = .returned (.slice none 0 0) ∧ w' = w := fun w => calls_of_every_depth fun D => AnyS.slices_Compact_string_empty_in laysCompact D none 0 w
    have HB : Hid (decide ss.Nodup = true) := by unfold Hid; rw [hs]; simp
    clear hO h0 hs hl
    go_enter Tryz.func46, Tryz.ntmps46
    go_wp2_with (first | (go_at_call 82; refine (hC1 _).mono ?_; rintro e w2 ⟨rfl, hw2⟩; have hw3 := hw2.symm; subst hw3; clear hw2) | (go_at_call 83; refine (hC2 _).mono ?_; rintro e w2 ⟨rfl, hw2⟩; have hw3 := hw2.symm; subst hw3; clear hw2))
    go_ret
    exact ⟨by rw [HB.out]; rfl, Below.refl _ _⟩
  · have hO' : w.ownsRow base 9 1 v ss.length ((byS ss).map encStr) := by unfold byS; rw [Lib.map_encStr]; exact hO
    obtain ⟨g, cap, rfl, hbg, hgl, hncap, hcm, _, hH⟩ := Lib.holds_of_ownsRow hO' hv
    obtain ⟨n, hn⟩ : ∃ n, ss.length = n := ⟨_, rfl⟩
    have hS := sortS_walk g cap n base ss w w hH hgl hbg (Below.refl _ _) hn (by omega)
    obtain ⟨ts, hts⟩ : ∃ ts, ((byS ss).mergeSort fun x y => decide (x ≤ y)) = ts := ⟨_, rfl⟩
    have hd := differ_iff ss
    have htl : ts.length = n := by rw [← hts, List.length_mergeSort, byS_length, hn]
    rw [hts] at hS hd
    rw [hn] at hd hncap hl ⊢
    obtain ⟨m, hm⟩ : ∃ m, (Lib.compact ts).length = m := ⟨_, rfl⟩
    rw [hm] at hd
    have hq : ((m : Int) == (n : Int)) = decide ss.Nodup := by
      rw [Bool.eq_iff_iff, beq_iff_eq, decide_eq_true_eq, ← hd]
      omega
    have HQ : Hid (((m : Int) == (n : Int)) = decide ss.Nodup) := hq
    clear hO hO' hv hH hd hts hq hn
    go_enter Tryz.func46, Tryz.ntmps46
    go_upto_region 3 with (go_at_call 82; refine hS.mono ?_; rintro e w2 ⟨rfl, hH2, hK2⟩)
    have hC := compactS_walk g cap n base ts w w2 hH2 hbg hK2 htl hl hncap
    rw [hm] at hC
    clear hS hm htl
    go_wp2_with (go_at_call 83; refine hC.mono ?_; rintro e w3 ⟨rfl, hK3⟩)
    go_ret
    exact ⟨by rw [← HQ.out]; rfl, hK3⟩

def trn (n : Int) : Int := if n < 0 then -16 - n else n
theorem turned_walk (n : Int) (w : World) (h0 : -100000 ≤ n) (h1 : n ≤ 9223372036854775807) : Calls Tryz.prog 157 #[.int .i64 n] w fun e w' => e = .returned (.int .i64 (trn n)) ∧ w' = w := by
  unfold trn
  by_cases h : n < 0
  · rw [if_pos h]
    have d : decide (n < 0) = true := decide_eq_true h
    go_enter Tryz.func157, Tryz.ntmps157
    go_wp2
    go_ret
    exact ⟨rfl, rfl⟩
  · rw [if_neg h]
    have d : decide (n < 0) = false := decide_eq_false h
    go_enter Tryz.func157, Tryz.ntmps157
    go_wp2
    go_ret
    exact ⟨rfl, rfl⟩

def inB16 (n : Int) : Bool := decide (0 ≤ n ∧ n ≤ 4096)
theorem isInSection_walk (n : Int) (w : World) : Calls Tryz.prog 116 #[.int .i64 n] w fun e w' => e = .returned (.bool (inB16 n)) ∧ w' = w := by
  unfold inB16
  by_cases h0 : 0 ≤ n
  · have d0 : decide (0 ≤ n) = true := decide_eq_true h0
    by_cases h1 : n ≤ 4096
    · have d1 : decide (n ≤ 4096) = true := decide_eq_true h1
      rw [decide_eq_true (⟨h0, h1⟩ : _ ∧ _)]
      go_enter Tryz.func116, Tryz.ntmps116
      go_wp2
      go_ret
      exact ⟨rfl, rfl⟩
    · have d1 : decide (n ≤ 4096) = false := decide_eq_false h1
      rw [decide_eq_false (by omega : ¬ (0 ≤ n ∧ n ≤ 4096))]
      go_enter Tryz.func116, Tryz.ntmps116
      go_wp2
      go_ret
      exact ⟨rfl, rfl⟩
  · have d0 : decide (0 ≤ n) = false := decide_eq_false h0
    rw [decide_eq_false (by omega : ¬ (0 ≤ n ∧ n ≤ 4096))]
    go_enter Tryz.func116, Tryz.ntmps116
    go_wp2
    go_ret
    exact ⟨rfl, rfl⟩

/-- May one have this Bind, hidden or not? -/
def bndB (bind : Int) (hid : Bool) : Bool := decide (0 ≤ bind ∧ bind ≤ 2 ∧ ¬ (hid = true ∧ bind = 0))
def comB (bind val sz : Int) : Bool := alignB val && decide (1 ≤ sz ∧ sz ≤ 4096 ∧ bind = 1)
/-- May one be where it is? -/
def plcB (bind wh val sz n : Int) : Bool :=
  if wh = 0 then decide (val = 0 ∧ sz = 0 ∧ bind ≠ 0)
   else if wh = -1 then decide (-2147483648 ≤ val ∧ val ≤ 4294967295 ∧ sz = 0)
   else if wh = -2 then comB bind val sz
   else decide (1 ≤ wh ∧ wh ≤ n ∧ 0 ≤ val ∧ val ≤ 4096 ∧ 0 ≤ sz ∧ sz ≤ 4096)
theorem stands_parts (bind : Int) (hid : Bool) (wh val sz n : Int) : standsB bind hid wh val sz n = (bndB bind hid && plcB bind wh val sz n) := rfl

set_option maxHeartbeats 1600000 in
theorem isBound_walk (s : ByteArray) (bind : Int) (hid : Bool) (wh val sz : Int) (w : World) (hb : 0 ≤ bind) :
    Calls Tryz.prog 79 #[symW s bind hid wh val sz] w fun e w' => e = .returned (.bool (bndB bind hid)) ∧ Kept w w' := by
  have B1 := SBx.new w s bind hid wh val sz
  obtain ⟨wa, hwa⟩ : ∃ wa, w.alloc (symO s bind hid wh val sz) = wa := ⟨_, rfl⟩
  rw [hwa] at B1
  have kA : Kept w wa := by rw [← hwa]; exact Kept.alloc _ _
  obtain ⟨c0, c1, c2, c3, c4, c5, _, _, _, _, _, _⟩ := B1
  by_cases h0 : bind = 0
  · have e0 : (bind == 0) = true := by rw [beq_iff_eq]; exact h0
    cases hid with
    | false =>
      have HB : Hid (bndB bind false = true) := decide_eq_true ⟨by omega, by omega, fun h => by cases h.1⟩
      clear h0
      go_enter Tryz.func79, Tryz.ntmps79
      go_wp2
      go_ret
      exact ⟨by rw [HB.out]; rfl, kA⟩
    | true =>
      have HB : Hid (bndB bind true = false) := decide_eq_false fun h => h.2.2 ⟨rfl, h0⟩
      clear h0
      go_enter Tryz.func79, Tryz.ntmps79
      go_wp2
      go_ret
      exact ⟨by rw [HB.out]; rfl, kA⟩
  · have e0 : (bind == 0) = false := by rw [beq_eq_false_iff_ne]; exact h0
    by_cases h1 : bind = 1
    · have e1 : (bind == 1) = true := by rw [beq_iff_eq]; exact h1
      have HB : Hid (bndB bind hid = true) := decide_eq_true ⟨by omega, by omega, fun h => h0 h.2⟩
      clear h0 h1
      go_enter Tryz.func79, Tryz.ntmps79
      go_wp2
      go_ret
      exact ⟨by rw [HB.out]; rfl, kA⟩
    · have e1 : (bind == 1) = false := by rw [beq_eq_false_iff_ne]; exact h1
      by_cases h2 : bind = 2
      · have e2 : (bind == 2) = true := by rw [beq_iff_eq]; exact h2
        have HB : Hid (bndB bind hid = true) := decide_eq_true ⟨by omega, by omega, fun h => h0 h.2⟩
        clear h0 h1 h2
        go_enter Tryz.func79, Tryz.ntmps79
        go_wp2
        go_ret
        exact ⟨by rw [HB.out]; rfl, kA⟩
      · have e2 : (bind == 2) = false := by rw [beq_eq_false_iff_ne]; exact h2
        have HB : Hid (bndB bind hid = false) := decide_eq_false fun h => by omega
        clear h0 h1 h2
        go_enter Tryz.func79, Tryz.ntmps79
        go_wp2
        go_ret
        exact ⟨by rw [HB.out]; rfl, kA⟩

theorem bss_kind : kindN (nm ⟨#[46, 98, 115, 115]⟩) = 4 := by decide +kernel
theorem chk_room (val sz : Int) : chkS (nm ⟨#[46, 98, 115, 115]⟩) val 0 sz = if (alignB val && decide (0 ≤ sz ∧ sz ≤ 4096)) = true then 0 else 8 := by
  unfold chkS sectB sizesB
  rw [bss_kind, if_pos rfl, decide_eq_true (by decide : (4 : Nat) ≠ 0), Bool.true_and]
  have e : decide ((0 : Nat) = 0 ∧ 0 ≤ sz ∧ sz ≤ 4096) = decide (0 ≤ sz ∧ sz ≤ 4096) := by simp
  rw [e]
set_option maxHeartbeats 1600000 in
theorem isCommon_walk (s : ByteArray) (bind : Int) (hid : Bool) (wh val sz : Int) (w : World) :
    Calls Tryz.prog 117 #[symW s bind hid wh val sz] w fun e w' => e = .returned (.bool (comB bind val sz)) ∧ Kept w w' := by
  have B1 := SBx.new w s bind hid wh val sz
  obtain ⟨wa, hwa⟩ : ∃ wa, w.alloc (symO s bind hid wh val sz) = wa := ⟨_, rfl⟩
  rw [hwa] at B1
  have kA : Kept w wa := by rw [← hwa]; exact Kept.alloc _ _
  have sA : wa.heap.size = w.heap.size + 1 := by rw [← hwa]; simp
  have B2 := Box.new wa ⟨#[46, 98, 115, 115]⟩ val (.slice none 0 0) sz
  obtain ⟨wb, hwb⟩ : ∃ wb, wa.alloc (.cells #[.string ⟨#[46, 98, 115, 115]⟩, .int .i64 val, .slice none 0 0, .int .i64 sz] 37) = wb := ⟨_, rfl⟩
  rw [hwb, sA] at B2
  have kB : Kept wa wb := by rw [← hwb]; exact Kept.alloc _ _
  obtain ⟨c0, c1, c2, c3, c4, c5, _, _, _, _, _, _⟩ := B1
  obtain ⟨x0, x1, x2, x3, x4, x5, _, _, _, _, _, _⟩ : SBx wb w.heap.size s bind hid wh val sz := (SBx.mk c0 c1 c2 c3 c4 c5 ‹_› ‹_› ‹_› ‹_› ‹_› ‹_›).kept kB
  obtain ⟨d0, d1, d2, d3, _, _, _, _⟩ := B2
  have K := kA.trans kB
  have hC := check_walk ⟨#[46, 98, 115, 115]⟩ val none 0 0 sz wb (by decide)
  rw [chk_room] at hC
  by_cases h1 : bind = 1
  · have e1 : (bind == 1) = true := by rw [beq_iff_eq]; exact h1
    by_cases h2 : 0 < sz
    · have e2 : decide (0 < sz) = true := decide_eq_true h2
      have HB : Hid (comB bind val sz = (alignB val && decide (0 ≤ sz ∧ sz ≤ 4096))) := by
        unfold Hid comB
        congr 1
        exact decide_eq_decide.2 ⟨fun h => by omega, fun h => by omega⟩
      obtain ⟨g, hg⟩ : ∃ g, (alignB val && decide (0 ≤ sz ∧ sz ≤ 4096)) = g := ⟨_, rfl⟩
      rw [hg] at hC
      replace HB : Hid (comB bind val sz = g) := by unfold Hid; rw [HB.out]; exact hg
      clear h1 h2 hg
      cases g
      · go_enter Tryz.func117, Tryz.ntmps117
        go_wp2_with (go_at_call 43; refine hC.mono ?_; rintro e w1 ⟨rfl, k1⟩)
        go_ret
        exact ⟨by rw [HB.out]; rfl, K.trans k1⟩
      · go_enter Tryz.func117, Tryz.ntmps117
        go_wp2_with (go_at_call 43; refine hC.mono ?_; rintro e w1 ⟨rfl, k1⟩)
        go_ret
        exact ⟨by rw [HB.out]; rfl, K.trans k1⟩
    · have e2 : decide (0 < sz) = false := decide_eq_false h2
      have HB : Hid (comB bind val sz = false) := by
        unfold Hid comB
        rw [decide_eq_false (fun h => by omega), Bool.and_false]
      clear h1 h2 hC
      go_enter Tryz.func117, Tryz.ntmps117
      go_wp2
      go_ret
      exact ⟨by rw [HB.out]; rfl, K⟩
  · have e1 : (bind == 1) = false := by rw [beq_eq_false_iff_ne]; exact h1
    have HB : Hid (comB bind val sz = false) := by
      unfold Hid comB
      rw [decide_eq_false (fun h => h1 h.2.2), Bool.and_false]
    clear h1 hC
    go_enter Tryz.func117, Tryz.ntmps117
    go_wp2
    go_ret
    exact ⟨by rw [HB.out]; rfl, K⟩

set_option maxRecDepth 20000 in
set_option maxHeartbeats 3200000 in
theorem isPlaced_walk (s : ByteArray) (bind : Int) (hid : Bool) (wh val sz : Int) (n : Int) (w : World) :
    Calls Tryz.prog 80 #[symW s bind hid wh val sz, .int .i64 n] w fun e w' => e = .returned (.bool (plcB bind wh val sz n)) ∧ Kept w w' := by
  have B1 := SBx.new w s bind hid wh val sz
  obtain ⟨wa, hwa⟩ : ∃ wa, w.alloc (symO s bind hid wh val sz) = wa := ⟨_, rfl⟩
  rw [hwa] at B1
  have kA : Kept w wa := by rw [← hwa]; exact Kept.alloc _ _
  obtain ⟨c0, c1, c2, c3, c4, c5, _, _, _, _, _, _⟩ := B1
  by_cases hp : 0 < wh
  · have ep : decide (0 < wh) = true := decide_eq_true hp
    have hpl : plcB bind wh val sz n = decide (1 ≤ wh ∧ wh ≤ n ∧ 0 ≤ val ∧ val ≤ 4096 ∧ 0 ≤ sz ∧ sz ≤ 4096) := by unfold plcB; rw [if_neg (by omega), if_neg (by omega), if_neg (by omega)]
    by_cases hn : wh ≤ n
    · have en : decide (wh ≤ n) = true := decide_eq_true hn
      cases hv : inB16 val with
      | false =>
        have := of_decide_eq_false hv
        have HB : Hid (plcB bind wh val sz n = false) := by unfold Hid; rw [hpl]; exact decide_eq_false (by omega)
        clear hpl hp hn this
        go_enter Tryz.func80, Tryz.ntmps80
        go_wp2_with (go_at_call 116; refine (isInSection_walk _ _).mono ?_; rintro e w2 ⟨rfl, hw2⟩; have hw3 := hw2.symm; subst hw3; clear hw2)
        go_ret
        exact ⟨by rw [HB.out]; rfl, kA⟩
      | true =>
        have hv1 := of_decide_eq_true hv
        cases hz : inB16 sz with
        | false =>
          have := of_decide_eq_false hz
          have HB : Hid (plcB bind wh val sz n = false) := by unfold Hid; rw [hpl]; exact decide_eq_false (by omega)
          clear hpl hp hn this hv1
          go_enter Tryz.func80, Tryz.ntmps80
          go_wp2_with (go_at_call 116; refine (isInSection_walk _ _).mono ?_; rintro e w2 ⟨rfl, hw2⟩; have hw3 := hw2.symm; subst hw3; clear hw2)
          go_ret
          exact ⟨by rw [HB.out]; rfl, kA⟩
        | true =>
          have := of_decide_eq_true hz
          have HB : Hid (plcB bind wh val sz n = true) := by unfold Hid; rw [hpl]; exact decide_eq_true (by omega)
          clear hpl hp hn this hv1
          go_enter Tryz.func80, Tryz.ntmps80
          go_wp2_with (go_at_call 116; refine (isInSection_walk _ _).mono ?_; rintro e w2 ⟨rfl, hw2⟩; have hw3 := hw2.symm; subst hw3; clear hw2)
          go_ret
          exact ⟨by rw [HB.out]; rfl, kA⟩
    · have en : decide (wh ≤ n) = false := decide_eq_false hn
      have HB : Hid (plcB bind wh val sz n = false) := by unfold Hid; rw [hpl]; exact decide_eq_false (by omega)
      clear hpl hp hn
      go_enter Tryz.func80, Tryz.ntmps80
      go_wp2
      go_ret
      exact ⟨by rw [HB.out]; rfl, kA⟩
  have ep : decide (0 < wh) = false := decide_eq_false hp
  by_cases h0 : wh = 0
  · have e0 : (wh == 0) = true := by rw [beq_iff_eq]; exact h0
    have hpl : plcB bind wh val sz n = decide (val = 0 ∧ sz = 0 ∧ bind ≠ 0) := by unfold plcB; rw [if_pos h0]
    by_cases h1 : val = 0
    · have e1 : (val == 0) = true := by rw [beq_iff_eq]; exact h1
      by_cases h2 : sz = 0
      · have e2 : (sz == 0) = true := by rw [beq_iff_eq]; exact h2
        by_cases h3 : bind = 0
        · have e3 : (bind != 0) = false := by rw [h3]; rfl
          have HB : Hid (plcB bind wh val sz n = false) := by unfold Hid; rw [hpl]; exact decide_eq_false (by omega)
          clear hpl hp h0 h1 h2 h3
          go_enter Tryz.func80, Tryz.ntmps80
          go_wp2
          go_ret
          exact ⟨by rw [HB.out]; rfl, kA⟩
        · have e3 : (bind != 0) = true := by rw [bne_iff_ne]; exact h3
          have HB : Hid (plcB bind wh val sz n = true) := by unfold Hid; rw [hpl]; exact decide_eq_true ⟨h1, h2, h3⟩
          clear hpl hp h0 h1 h2 h3
          go_enter Tryz.func80, Tryz.ntmps80
          go_wp2
          go_ret
          exact ⟨by rw [HB.out]; rfl, kA⟩
      · have e2 : (sz == 0) = false := by rw [beq_eq_false_iff_ne]; exact h2
        have HB : Hid (plcB bind wh val sz n = false) := by unfold Hid; rw [hpl]; exact decide_eq_false (by omega)
        clear hpl hp h0 h1 h2
        go_enter Tryz.func80, Tryz.ntmps80
        go_wp2
        go_ret
        exact ⟨by rw [HB.out]; rfl, kA⟩
    · have e1 : (val == 0) = false := by rw [beq_eq_false_iff_ne]; exact h1
      have HB : Hid (plcB bind wh val sz n = false) := by unfold Hid; rw [hpl]; exact decide_eq_false (by omega)
      clear hpl hp h0 h1
      go_enter Tryz.func80, Tryz.ntmps80
      go_wp2
      go_ret
      exact ⟨by rw [HB.out]; rfl, kA⟩
  have e0 : (wh == 0) = false := by rw [beq_eq_false_iff_ne]; exact h0
  by_cases h1 : wh = -1
  · have e1 : (wh == -1) = true := by rw [beq_iff_eq]; exact h1
    have hpl : plcB bind wh val sz n = decide (-2147483648 ≤ val ∧ val ≤ 4294967295 ∧ sz = 0) := by unfold plcB; rw [if_neg h0, if_pos h1]
    by_cases h2 : -2147483648 ≤ val
    · have e2 : decide (-2147483648 ≤ val) = true := decide_eq_true h2
      by_cases h3 : val ≤ 4294967295
      · have e3 : decide (val ≤ 4294967295) = true := decide_eq_true h3
        by_cases h4 : sz = 0
        · have e4 : (sz == 0) = true := by rw [beq_iff_eq]; exact h4
          have HB : Hid (plcB bind wh val sz n = true) := by unfold Hid; rw [hpl]; exact decide_eq_true ⟨h2, h3, h4⟩
          clear hpl hp h0 h1 h2 h3 h4
          go_enter Tryz.func80, Tryz.ntmps80
          go_wp2
          go_ret
          exact ⟨by rw [HB.out]; rfl, kA⟩
        · have e4 : (sz == 0) = false := by rw [beq_eq_false_iff_ne]; exact h4
          have HB : Hid (plcB bind wh val sz n = false) := by unfold Hid; rw [hpl]; exact decide_eq_false (by omega)
          clear hpl hp h0 h1 h2 h3 h4
          go_enter Tryz.func80, Tryz.ntmps80
          go_wp2
          go_ret
          exact ⟨by rw [HB.out]; rfl, kA⟩
      · have e3 : decide (val ≤ 4294967295) = false := decide_eq_false h3
        have HB : Hid (plcB bind wh val sz n = false) := by unfold Hid; rw [hpl]; exact decide_eq_false (by omega)
        clear hpl hp h0 h1 h2 h3
        go_enter Tryz.func80, Tryz.ntmps80
        go_wp2
        go_ret
        exact ⟨by rw [HB.out]; rfl, kA⟩
    · have e2 : decide (-2147483648 ≤ val) = false := decide_eq_false h2
      have HB : Hid (plcB bind wh val sz n = false) := by unfold Hid; rw [hpl]; exact decide_eq_false (by omega)
      clear hpl hp h0 h1 h2
      go_enter Tryz.func80, Tryz.ntmps80
      go_wp2
      go_ret
      exact ⟨by rw [HB.out]; rfl, kA⟩
  have e1 : (wh == -1) = false := by rw [beq_eq_false_iff_ne]; exact h1
  by_cases h2 : wh = -2
  · have e2 : (wh == -2) = true := by rw [beq_iff_eq]; exact h2
    have hM := isCommon_walk s bind hid wh val sz wa
    have HB : Hid (plcB bind wh val sz n = comB bind val sz) := by unfold Hid plcB; rw [if_neg h0, if_neg h1, if_pos h2]
    clear hp h0 h1 h2
    go_enter Tryz.func80, Tryz.ntmps80
    go_wp2_with (go_at_call 117; refine hM.mono ?_; rintro e w1 ⟨rfl, k1⟩)
    go_ret
    exact ⟨by rw [HB.out]; rfl, kA.trans k1⟩
  · have e2 : (wh == -2) = false := by rw [beq_eq_false_iff_ne]; exact h2
    have HB : Hid (plcB bind wh val sz n = false) := by unfold Hid plcB; rw [if_neg h0, if_neg h1, if_neg h2]; exact decide_eq_false (by omega)
    clear hp h0 h1 h2
    go_enter Tryz.func80, Tryz.ntmps80
    go_wp2
    go_ret
    exact ⟨by rw [HB.out]; rfl, kA⟩

set_option maxRecDepth 20000 in
set_option maxHeartbeats 1600000 in
/-- What Check gives. -/
theorem ycheck_walk (s : ByteArray) (bind : Int) (hid : Bool) (wh val sz : Int) (n : Int) (w : World) (hs : s.size ≤ maxLen) (hb : 0 ≤ bind) :
    Calls Tryz.prog 44 #[symW s bind hid wh val sz, .int .i64 n] w fun e w' => e = .returned (.int .i64 (chkY (nm s) bind hid wh val sz n)) ∧ Kept w w' := by
  have B1 := SBx.new w s bind hid wh val sz
  obtain ⟨wa, hwa⟩ : ∃ wa, w.alloc (symO s bind hid wh val sz) = wa := ⟨_, rfl⟩
  rw [hwa] at B1
  have kA : Kept w wa := by rw [← hwa]; exact Kept.alloc _ _
  have B1' := B1
  obtain ⟨c0, c1, c2, c3, c4, c5, _, _, _, _, _, _⟩ := B1'
  by_cases h0 : n < 0
  · rw [chkY_arg (.inl h0)]
    have d0 : decide (n < 0) = true := decide_eq_true h0
    go_enter Tryz.func44, Tryz.ntmps44
    go_wp2
    go_ret
    exact ⟨rfl, kA⟩
  have d0 : decide (n < 0) = false := decide_eq_false h0
  by_cases h1 : 16 < n
  · rw [chkY_arg (.inr h1)]
    have d1 : decide (16 < n) = true := decide_eq_true h1
    go_enter Tryz.func44, Tryz.ntmps44
    go_wp2
    go_ret
    exact ⟨rfl, kA⟩
  have d1 : decide (16 < n) = false := decide_eq_false h1
  rw [chkY_in (by omega) (by omega)]
  have hN := fun w => isName_walk s w hs
  have hB := fun w => isBound_walk s bind hid wh val sz w hb
  have hP := fun w => isPlaced_walk s bind hid wh val sz n w
  have e : okY (nm s) bind hid wh val sz n = (mayNm (nm s) && (bndB bind hid && plcB bind wh val sz n)) := rfl
  rw [e]
  obtain ⟨g1, hg1⟩ : ∃ g, mayNm (nm s) = g := ⟨_, rfl⟩
  obtain ⟨g2, hg2⟩ : ∃ g, bndB bind hid = g := ⟨_, rfl⟩
  obtain ⟨g3, hg3⟩ : ∃ g, plcB bind wh val sz n = g := ⟨_, rfl⟩
  rw [hg1] at hN ⊢
  rw [hg2] at hB ⊢
  rw [hg3] at hP ⊢
  clear e hg1 hg2 hg3 h0 h1
  cases g1 with
  | false =>
    clear hB hP
    go_enter Tryz.func44, Tryz.ntmps44
    go_wp2_with (go_at_call 51; refine (hN _).mono ?_; rintro e w2 ⟨rfl, hw2⟩; have hw3 := hw2.symm; subst hw3; clear hw2)
    go_ret
    exact ⟨rfl, kA⟩
  | true =>
    cases g2 with
    | false =>
      clear hP
      go_enter Tryz.func44, Tryz.ntmps44
      go_wp2_with (first
        | (go_at_call 51; refine (hN _).mono ?_; rintro e w2 ⟨rfl, hw2⟩; have hw3 := hw2.symm; subst hw3; clear hw2)
        | (go_at_call 79; refine (hB _).mono ?_; rintro e w3 ⟨rfl, k3⟩))
      go_ret
      exact ⟨rfl, kA.trans k3⟩
    | true =>
      cases g3 <;>
      · go_enter Tryz.func44, Tryz.ntmps44
        go_wp2_with (first
          | (go_at_call 51; refine (hN _).mono ?_; rintro e w2 ⟨rfl, hw2⟩; have hw3 := hw2.symm; subst hw3; clear hw2)
          | (go_at_call 79; refine (hB _).mono ?_; rintro e w3 ⟨rfl, k3⟩; clear c0 c1 c2 c3 c4 c5; obtain ⟨c0, c1, c2, c3, c4, c5, _, _, _, _, _, _⟩ := B1.kept k3)
          | (go_at_call 80; refine (hP _).mono ?_; rintro e w4 ⟨rfl, k4⟩))
        go_ret
        exact ⟨rfl, (kA.trans k3).trans k4⟩

/-! ### What the program asks -/
theorem getD_map' {α β : Type} {f : α → β} {no : α} {no' : β} (h : f no = no') (l : List α) (i : Nat) : (l.map f).getD i no' = f (l.getD i no) := by
  rw [List.getD, List.getElem?_map, List.getD]
  cases l[i]? with
  | none => exact h.symm
  | some x => rfl
def inV (l : List SecV) (y : SymV) : Bool :=
  okY (nm y.s) y.bind y.hid y.wh y.val y.sz l.length && (decide (y.wh < 1) || decide (y.val + y.sz ≤ ((l.getD (y.wh - 1).toNat secNo).z.length : Int) + (l.getD (y.wh - 1).toNat secNo).sz))
theorem inV_eq (l : List SecV) (y : SymV) : symIn (l.map sctOf) (symOfV y) = inV l y := by
  unfold symIn inV okY sizeM
  rw [getD_map' (no := secNo) (no' := sctNo) (f := sctOf) rfl, List.length_map]
  have e : decide (y.wh ≤ 0) = decide (y.wh < 1) := by rw [Bool.eq_iff_iff, decide_eq_true_eq, decide_eq_true_eq]; omega
  show ((mayNm (nm y.s) && standsB y.bind y.hid y.wh y.val y.sz l.length) && (decide (y.wh ≤ 0) || _)) = _
  rw [e]
  rfl
def locB (ys : List SymV) (j : Nat) : Bool := decide ((ys.getD j symV0).bind ≠ 0) || (List.range j).all fun i => decide ((ys.getD i symV0).bind = 0)
def othL (ys : List SymV) : List ByteArray := (ys.filter fun y => decide (y.bind ≠ 0)).map (·.s)
theorem othL_nodup (ys : List SymV) : (othL ys).Nodup ↔ ∀ i j, i < j → j < ys.length → (ys.getD i symV0).bind ≠ 0 → (ys.getD j symV0).bind ≠ 0 → (ys.getD i symV0).s ≠ (ys.getD j symV0).s := by
  unfold othL
  rw [List.Nodup, List.pairwise_map, List.pairwise_filter, List.pairwise_iff_getElem]
  constructor
  · intro h i j hij hj h1 h2
    have hi : i < ys.length := by omega
    rw [getD_of_lt hi] at h1 ⊢
    rw [getD_of_lt hj] at h2 ⊢
    exact h i j hi hj hij (decide_eq_true h1) (decide_eq_true h2)
  · intro h i j hi hj hij h1 h2
    have := h i j hij hj
    rw [getD_of_lt hi, getD_of_lt hj] at this
    exact this (of_decide_eq_true h1) (of_decide_eq_true h2)
theorem symsB_prog (l : List SecV) (ys : List SymV) : symsB (l.map sctOf) (ys.map symOfV) = (decide (ys.length ≤ 64) && ((List.range ys.length).all fun j => inV l (ys.getD j symV0) && locB ys j) && decide (othL ys).Nodup) := by
  have hg : ∀ i, (ys.map symOfV).getD i symNo = symOfV (ys.getD i symV0) := fun i => getD_map' (f := symOfV) (no := symV0) (no' := symNo) rfl ys i
  rw [Bool.eq_iff_iff]
  unfold symsB symAt
  rw [List.length_map, Bool.and_eq_true, Bool.and_eq_true, Bool.and_eq_true, decide_eq_true_eq, decide_eq_true_eq, all_range, all_range, othL_nodup]
  constructor
  · rintro ⟨h64, h⟩
    have h2 : ∀ j, j < ys.length → ∀ k, k < j → (ys.getD k symV0).bind = 0 ∨ ((ys.getD j symV0).bind ≠ 0 ∧ nm (ys.getD k symV0).s ≠ nm (ys.getD j symV0).s) := by
      intro j hj k hk
      have := h j hj
      rw [Bool.and_eq_true, all_range] at this
      have := this.2 k hk
      unfold symTwo at this
      rw [hg, hg, Bool.or_eq_true, Bool.and_eq_true, decide_eq_true_eq, decide_eq_true_eq, decide_eq_true_eq] at this
      exact this
    refine ⟨⟨h64, fun j hj => ?_⟩, fun i j hij hj h1 h2' => ?_⟩
    · have h1 := h j hj
      rw [Bool.and_eq_true, hg, inV_eq] at h1
      rw [Bool.and_eq_true]
      refine ⟨h1.1, ?_⟩
      unfold locB
      rw [Bool.or_eq_true, decide_eq_true_eq, all_range]
      by_cases hb : (ys.getD j symV0).bind = 0
      · refine .inr fun i hi => decide_eq_true ?_
        rcases h2 j hj i hi with h | h
        · exact h
        · exact absurd hb h.1
      · exact .inl hb
    · rcases h2 j hj i hij with h | h
      · exact absurd h h1
      · exact fun e => h.2 (by rw [e])
  · rintro ⟨⟨h64, h⟩, hn⟩
    refine ⟨h64, fun j hj => ?_⟩
    have h1 := h j hj
    rw [Bool.and_eq_true] at h1
    rw [Bool.and_eq_true, hg, inV_eq, all_range]
    refine ⟨h1.1, fun k hk => ?_⟩
    unfold symTwo
    rw [hg, Bool.or_eq_true, Bool.and_eq_true, decide_eq_true_eq, decide_eq_true_eq, decide_eq_true_eq]
    have h3 := h1.2
    unfold locB at h3
    rw [Bool.or_eq_true, decide_eq_true_eq, all_range] at h3
    by_cases hk0 : (ys.getD k symV0).bind = 0
    · exact .inl hk0
    · have hj0 : (ys.getD j symV0).bind ≠ 0 := by
        rcases h3 with h3 | h3
        · exact h3
        · exact absurd (of_decide_eq_true (h3 k hk)) hk0
      exact .inr ⟨hj0, fun e => hn k j hk hj hk0 hj0 (nm_inj e)⟩
theorem take_snoc {α : Type} (no : α) (l : List α) (k : Nat) (h : k < l.length) : l.take (k + 1) = l.take k ++ [l.getD k no] := by
  rw [List.take_succ_eq_append_getElem h]
  simp [List.getD, h]
theorem othL_more {ys : List SymV} {k : Nat} (hk : k < ys.length) (h : (ys.getD k symV0).bind ≠ 0) : othL (ys.take (k + 1)) = othL (ys.take k) ++ [(ys.getD k symV0).s] := by
  unfold othL
  rw [take_snoc symV0 ys k hk, List.filter_append, List.filter_cons_of_pos (by simpa using h), List.map_append]
  rfl
theorem othL_same {ys : List SymV} {k : Nat} (hk : k < ys.length) (h : (ys.getD k symV0).bind = 0) : othL (ys.take (k + 1)) = othL (ys.take k) := by
  unfold othL
  rw [take_snoc symV0 ys k hk, List.filter_append, List.filter_cons_of_neg (by simpa using h), List.filter_nil, List.append_nil]
theorem othL_len (ys : List SymV) (k : Nat) : (othL (ys.take k)).length ≤ k := by
  unfold othL
  rw [List.length_map]
  refine Nat.le_trans (List.length_filter_le _ _) ?_
  rw [List.length_take]
  omega
theorem othL_nil {ys : List SymV} {k : Nat} (hk : k ≤ ys.length) (h : (othL (ys.take k)).length = 0) : ∀ i, i < k → (ys.getD i symV0).bind = 0 := by
  intro i hi
  by_cases e : (ys.getD i symV0).bind = 0
  · exact e
  · exfalso
    have hm : (ys.getD i symV0) ∈ (ys.take k).filter fun y => decide (y.bind ≠ 0) := by
      rw [List.mem_filter]
      refine ⟨?_, by simpa using e⟩
      rw [List.mem_take_iff_getElem]
      exact ⟨i, by omega, (getD_of_lt (by omega) _).symm⟩
    unfold othL at h
    rw [List.length_map] at h
    rw [List.eq_nil_of_length_eq_zero h] at hm
    simp at hm
theorem othL_some {ys : List SymV} {k : Nat} (hk : k ≤ ys.length) (h : (othL (ys.take k)).length ≠ 0) : ∃ i, i < k ∧ (ys.getD i symV0).bind ≠ 0 := by
  unfold othL at h
  rw [List.length_map] at h
  obtain ⟨y, hy⟩ := List.exists_mem_of_length_pos (Nat.pos_of_ne_zero h)
  rw [List.mem_filter, List.mem_take_iff_getElem] at hy
  obtain ⟨⟨i, hi, rfl⟩, hb⟩ := hy
  exact ⟨i, by omega, by rw [getD_of_lt (by omega)]; simpa using hb⟩
theorem symsB_no {l : List SecV} {ys : List SymV} {k : Nat} (hk : k < ys.length) (h : (inV l (ys.getD k symV0) && locB ys k) = false) : symsB (l.map sctOf) (ys.map symOfV) = false := by
  rw [symsB_prog]
  have : ((List.range ys.length).all fun j => inV l (ys.getD j symV0) && locB ys j) = false := by
    rw [Bool.eq_false_iff]
    intro e
    rw [all_range] at e
    rw [e k hk] at h
    exact absurd h (by decide)
  rw [this, Bool.and_false, Bool.false_and]

set_option maxRecDepth 20000 in
set_option maxHeartbeats 3200000 in
theorem haveSymbols_walk (o : ObjV) (w : World) (hO : ObjOk w o) (h16 : o.sn ≤ 16) (hall : o.ss.all okS = true) :
    Calls Tryz.prog 22 #[objW o] w fun e w' => e = .returned (.bool (symsB (o.ss.map sctOf) (o.ys.map symOfV))) ∧ Kept w w' := by
  obtain ⟨ss, sa, sn, sc, ys, ya, n, yc, rs, ra, rn, rc, gs, ga, gn, gc⟩ := o
  have hS : SecR w sa ss := hO.s
  have hY : SymR w ya ys := hO.y
  have hls : ss.length = sn := hO.hs
  have hl : ys.length = n := hO.hy
  clear hO
  dsimp only at h16 hall
  obtain ⟨wa, hwa, B1, kA, sA⟩ := box_obj w (.slice sa sn sc) (.slice ya n yc) (.slice ra rn rc) (.slice ga gn gc)
  have c0 := B1.c0
  have c1 := B1.c1
  by_cases h64 : 64 < n
  · have d1 : decide ((64 : Int) < (n : Int)) = true := decide_eq_true (by omega)
    have HB : Hid (symsB (ss.map sctOf) (ys.map symOfV) = false) := by unfold Hid; rw [symsB_prog, decide_eq_false (by omega)]; rfl
    clear h64 hS hY B1 h16 hall
    go_enter Tryz.func22, Tryz.ntmps22
    go_wp2
    go_ret
    exact ⟨by rw [HB.out]; rfl, kA⟩
  · have d1 : decide ((64 : Int) < (n : Int)) = false := decide_eq_false (by omega)
    have hn64 : n ≤ 64 := by omega
    clear h64
    go_enter Tryz.func22, Tryz.ntmps22
    go_wp2
    go_loopw [3, 13] (fun v i wr => ∃ k : Nat, k ≤ n ∧ i = .int .i64 k ∧ OwnS wr wa.heap.size v (othL (ys.take k)) ∧ Kept wa wr ∧ Hid (∀ j, j < k → (inV ss (ys.getD j symV0) && locB ys j) = true)) (fun _ i _ => n - (intOf i).toNat)
    case atStart => exact ⟨0, Nat.zero_le _, rfl, OwnS.nil _ _, Kept.refl _, fun j hj => absurd hj (Nat.not_lt_zero _)⟩
    case round =>
      obtain ⟨k, hk, rfl, hOw, K, A⟩ := hrel
      obtain ⟨m, hm⟩ : ∃ m, (othL (ys.take k)).length = m := ⟨_, rfl⟩
      have hmk : m ≤ k := by rw [← hm]; exact othL_len ys k
      have HM : Hid ((othL (ys.take k)).length = m) := hm
      obtain ⟨va, vc, rfl, hVs⟩ := hOw.let hm
      by_cases hlt : k < n
      · obtain ⟨b, off, rfl, hAt⟩ := (hY.kept (kA.trans K)).cells (show k < ys.length by omega)
        obtain ⟨y, hy⟩ : ∃ y, ys.getD k symV0 = y := ⟨_, rfl⟩
        rw [hy] at hAt
        have HV : Hid (ys.getD k symV0 = y) := hy
        obtain ⟨E, hE⟩ : ∃ E, chkY (nm y.s) y.bind y.hid y.wh y.val y.sz sn = E := ⟨_, rfl⟩
        have hEq : E = 0 ↔ okY (nm y.s) y.bind y.hid y.wh y.val y.sz sn = true := by
          rw [← hE, chkY_in (by omega) (by omega)]
          cases okY (nm y.s) y.bind y.hid y.wh y.val y.sz sn <;> simp
        have hin : inV ss y = (okY (nm y.s) y.bind y.hid y.wh y.val y.sz sn && (decide (y.wh < 1) || decide (y.val + y.sz ≤ ((ss.getD (y.wh - 1).toNat secNo).z.length : Int) + (ss.getD (y.wh - 1).toNat secNo).sz))) := by unfold inV; rw [hls]
        obtain ⟨s, bind, hid, wh, val, sz⟩ := y
        dsimp only at hE hEq hin
        have x0 : wr.cell? ⟨b, off + k * 6, none⟩ = some (.string s) := hAt.c0
        have x1 : wr.cell? ⟨b, off + k * 6 + 1, none⟩ = some (.int .u8 bind) := hAt.c1
        have x2 : wr.cell? ⟨b, off + k * 6 + 2, none⟩ = some (.bool hid) := hAt.c2
        have x3 : wr.cell? ⟨b, off + k * 6 + 3, none⟩ = some (.int .i64 wh) := hAt.c3
        have x4 : wr.cell? ⟨b, off + k * 6 + 4, none⟩ = some (.int .i64 val) := hAt.c4
        have x5 : wr.cell? ⟨b, off + k * 6 + 5, none⟩ = some (.int .i64 sz) := hAt.c5
        have hsz : s.size ≤ maxLen := hAt.ok.size
        have hb0 : 0 ≤ bind := hAt.ok.b0
        obtain ⟨wb, wc, hwb, hwc, Z1, Z2, K2, s2⟩ := put_sym wr s bind hid wh val sz
        obtain ⟨z0, z1, z2, z3, z4, z5, y0, y1, y2, y3, y4, y5⟩ := Z1
        obtain ⟨u0, u1, u2, u3, u4, u5, _, _, _, _, _, _⟩ := id Z2
        have B2 := (B1.kept K).kept K2
        have e0 := B2.c0
        have hC := fun w => ycheck_walk s bind hid wh val sz sn w hsz hb0
        rw [hE] at hC
        have KW := K.trans K2
        have hOw2 : OwnS wc wa.heap.size (.slice va m vc) (othL (ys.take k)) := row_kept hOw K2
        clear hy hAt hsz c0 c1 hOw hm hVs hE
        by_cases hE0 : E = 0
        · have hok := hEq.1 hE0
          subst hE0
          rw [hok, Bool.true_and] at hin
          have hst : standsB bind hid wh val sz sn = true := by unfold okY at hok; rw [Bool.and_eq_true] at hok; exact hok.2
          have hvz : 1 ≤ wh → wh ≤ (sn : Int) ∧ 0 ≤ val ∧ val ≤ 4096 ∧ 0 ≤ sz ∧ sz ≤ 4096 := by
            intro h1
            unfold standsB at hst
            rw [Bool.and_eq_true, if_neg (by omega), if_neg (by omega), if_neg (by omega)] at hst
            have := of_decide_eq_true hst.2
            omega
          have hW := fun w (h : Secs w sa ss) => isWithin_walk s bind hid wh val sz sa sn sc ss w hls (by unfold maxLen; omega) h hall hvz
          obtain ⟨g, hg⟩ : ∃ g, inV ss ⟨s, bind, hid, wh, val, sz⟩ = g := ⟨_, rfl⟩
          rw [← hin, hg] at hW
          have HG : Hid (inV ss ⟨s, bind, hid, wh, val, sz⟩ = g) := hg
          clear hin hg hEq hok hst hvz
          cases g with
          | false =>
            go_wp2_with (first
              | (go_at_call 44; refine (hC _).mono ?_; rintro e w4 ⟨rfl, k4⟩; have HW := hW w4 (((hS.kept kA).kept (KW.trans k4)).secs); clear u0 u1 u2 u3 u4 u5 e0; obtain ⟨u0, u1, u2, u3, u4, u5, _, _, _, _, _, _⟩ := id (Z2.kept k4); have e0 := (B2.kept k4).c0)
              | (go_at_call 45; refine HW.mono ?_; rintro e w5 ⟨rfl, k5⟩; clear u0 u1 u2 u3 u4 u5 e0; obtain ⟨u0, u1, u2, u3, u4, u5, _, _, _, _, _, _⟩ := id ((Z2.kept k4).kept k5)))
            go_ret
            have HB : symsB (ss.map sctOf) (ys.map symOfV) = false := symsB_no (show k < ys.length by omega) (by rw [HV.out, HG.out]; rfl)
            exact ⟨by rw [HB]; rfl, (kA.trans KW).trans (k4.trans k5)⟩
          | true =>
            by_cases hb : bind = 0
            · have q1 : (bind != 0) = false := by rw [bne_eq_false_iff_eq]; exact hb
              by_cases hm0 : m = 0
              · have hlocal : Hid (∀ i, i < k → (ys.getD i symV0).bind = 0) := othL_nil (by omega) (by rw [HM.out]; exact hm0)
                have HE : Hid (othL (ys.take (k + 1)) = othL (ys.take k)) := othL_same (by omega) (by rw [HV.out]; exact hb)
                clear hb
                subst hm0
                go_wp2_with (first
                  | (go_at_call 44; refine (hC _).mono ?_; rintro e w4 ⟨rfl, k4⟩; have HW := hW w4 (((hS.kept kA).kept (KW.trans k4)).secs); clear u0 u1 u2 u3 u4 u5 e0; obtain ⟨u0, u1, u2, u3, u4, u5, _, _, _, _, _, _⟩ := id (Z2.kept k4); have e0 := (B2.kept k4).c0)
                  | (go_at_call 45; refine HW.mono ?_; rintro e w5 ⟨rfl, k5⟩; clear u0 u1 u2 u3 u4 u5 e0; obtain ⟨u0, u1, u2, u3, u4, u5, _, _, _, _, _, _⟩ := id ((Z2.kept k4).kept k5)))
                go_roundw
                case rel =>
                  refine ⟨k + 1, by omega, by go_num, ?_, KW.trans (k4.trans k5), fun j hj => ?_⟩
                  · rw [HE.out]; exact row_kept hOw2 (k4.trans k5)
                  · by_cases e : j = k
                    · subst e
                      rw [HV.out, HG.out, Bool.true_and]
                      unfold locB
                      rw [Bool.or_eq_true, all_range]
                      exact .inr fun i hi => decide_eq_true (hlocal.out i hi)
                    · exact A.out j (by omega)
                case measure => simp [intOf]; omega
              · have q2 : decide (0 < (m : Int)) = true := decide_eq_true (by omega)
                have HL : Hid (locB ys k = false) := by
                  obtain ⟨i, hi, hbi⟩ := othL_some (ys := ys) (k := k) (by omega) (by rw [HM.out]; exact hm0)
                  unfold Hid locB
                  rw [HV.out]
                  rw [Bool.or_eq_false_iff]
                  refine ⟨decide_eq_false (fun h => h hb), ?_⟩
                  rw [Bool.eq_false_iff]
                  intro e
                  rw [all_range] at e
                  exact hbi (of_decide_eq_true (e i hi))
                have q3 : 0 < m := by omega
                clear hb
                go_wp2_with (first
                  | (go_at_call 44; refine (hC _).mono ?_; rintro e w4 ⟨rfl, k4⟩; have HW := hW w4 (((hS.kept kA).kept (KW.trans k4)).secs); clear u0 u1 u2 u3 u4 u5 e0; obtain ⟨u0, u1, u2, u3, u4, u5, _, _, _, _, _, _⟩ := id (Z2.kept k4); have e0 := (B2.kept k4).c0)
                  | (go_at_call 45; refine HW.mono ?_; rintro e w5 ⟨rfl, k5⟩; clear u0 u1 u2 u3 u4 u5 e0; obtain ⟨u0, u1, u2, u3, u4, u5, _, _, _, _, _, _⟩ := id ((Z2.kept k4).kept k5)))
                go_ret
                have HB : symsB (ss.map sctOf) (ys.map symOfV) = false := symsB_no (show k < ys.length by omega) (by rw [HL.out, Bool.and_false])
                exact ⟨by rw [HB]; rfl, (kA.trans KW).trans (k4.trans k5)⟩
            · have q1 : (bind != 0) = true := by rw [bne_iff_ne]; exact hb
              have HE : Hid (othL (ys.take (k + 1)) = othL (ys.take k) ++ [s]) := by
                have := othL_more (ys := ys) (k := k) (by omega) (by rw [HV.out]; exact hb)
                rw [HV.out] at this
                exact this
              have HL : Hid (locB ys k = true) := by
                unfold Hid locB
                rw [HV.out, Bool.or_eq_true]
                exact .inl (decide_eq_true hb)
              clear hb
              go_upto_region 10 with (first
                | (go_at_call 44; refine (hC _).mono ?_; rintro e w4 ⟨rfl, k4⟩; have HW := hW w4 (((hS.kept kA).kept (KW.trans k4)).secs); clear u0 u1 u2 u3 u4 u5 e0; obtain ⟨u0, u1, u2, u3, u4, u5, _, _, _, _, _, _⟩ := id (Z2.kept k4); have e0 := (B2.kept k4).c0)
                | (go_at_call 45; refine HW.mono ?_; rintro e w5 ⟨rfl, k5⟩; clear u0 u1 u2 u3 u4 u5 e0; obtain ⟨u0, u1, u2, u3, u4, u5, _, _, _, _, _, _⟩ := id ((Z2.kept k4).kept k5)))
              have hO5 := row_kept hOw2 (k4.trans k5)
              have hO6 : OwnS (w5.alloc (.cells #[.string s] 9)) wa.heap.size (.slice va m vc) (othL (ys.take k)) := row_kept hO5 (Kept.alloc _ _)
              have K6 : Kept wa (w5.alloc (.cells #[.string s] 9)) := (KW.trans (k4.trans k5)).trans (Kept.alloc _ _)
              have hcell : (w5.alloc (.cells #[.string s] 9)).cell? ⟨w5.heap.size, 0, none⟩ = some (.string s) := by simp
              have hlen : (othL (ys.take k)).length + 1 ≤ 1000000 := by rw [HM.out]; omega
              clear hO5 hC hW HW hOw2
              go_wp2_with (at_builtin; refine wpList_append_name rfl _ _ rfl wa.heap.size (.slice va m vc) (othL (ys.take k)) s ⟨w5.heap.size, 0, none⟩ 1 rfl rfl hO6 hcell hlen K6.size wa K6 ?_; intro v7 w7 R7 K7)
              go_roundw
              case rel =>
                refine ⟨k + 1, by omega, by go_num, by rw [HE.out]; exact R7, K7, fun j hj => ?_⟩
                by_cases e : j = k
                · subst e; rw [HV.out, HG.out, HL.out]; rfl
                · exact A.out j (by omega)
              case measure => simp [intOf]; omega
        · have HB : Hid (symsB (ss.map sctOf) (ys.map symOfV) = false) := symsB_no (show k < ys.length by omega) (by
            rw [HV.out, hin]
            cases hq : okY (nm s) bind hid wh val sz sn with
            | false => rfl
            | true => exact absurd (hEq.2 hq) hE0)
          have q0 : (E != 0) = true := by rw [bne_iff_ne]; exact hE0
          clear hin hEq hE0
          go_wp2_with (go_at_call 44; refine (hC _).mono ?_; rintro e w4 ⟨rfl, k4⟩)
          go_ret
          exact ⟨by rw [HB.out]; rfl, (kA.trans KW).trans k4⟩
      · obtain rfl : k = n := by omega
        have hys : ys.take k = ys := List.take_of_length_le (by omega)
        have HB : Hid (symsB (ss.map sctOf) (ys.map symOfV) = decide (othL ys).Nodup) := by
          unfold Hid
          rw [symsB_prog, decide_eq_true (by omega), all_range.2 (fun i hi => A.out i (by omega))]
          rfl
        rw [hys] at hOw
        have hD := areDifferent_walk (.slice va m vc) (othL ys) wa.heap.size wr hOw (by have := HM.out; rw [hys] at this; omega)
        clear hS hY hOw hVs hys B1
        go_wp2_with (go_at_call 46; refine hD.mono ?_; rintro e w4 ⟨rfl, k4⟩)
        go_ret
        exact ⟨by rw [HB.out]; rfl, kA.trans (Below.trans K k4)⟩

/-- The bytes from a place on. -/
theorem Byt.part {w : World} {b off : Nat} {l : List Int} {at_ size : Nat} (hc : ∀ i, i < l.length → w.cell? ⟨b, off + i, none⟩ = some (.int .u8 (l.getD i 0))) (h : at_ + size ≤ l.length) :
    ∀ i, i < size → w.cell? ⟨b, off + at_ + i, none⟩ = some (.int .u8 (((l.drop at_).take size).getD i 0)) := by
  intro i hi
  rw [Nat.add_assoc, hc (at_ + i) (by omega)]
  simp [List.getD, hi]

theorem take_snoc_int (l : List Int) (k : Nat) (h : k < l.length) : l.take (k + 1) = l.take k ++ [l.getD k 0] := by
  rw [List.take_succ_eq_append_getElem h]
  simp [List.getD, h]

theorem i64_wrap (u : Nat) : IntKind.i64.wrap (u : Int) = sOf u := by
  have e : IntKind.i64.wrap (u : Int) = if 9223372036854775808 ≤ (u : Int) % 18446744073709551616 then (u : Int) % 18446744073709551616 - 18446744073709551616 else (u : Int) % 18446744073709551616 := by
    simp [IntKind.wrap, IntKind.bits, IntKind.signed]
  rw [e]
  unfold sOf
  split <;> omega

/-- A byte laid above the bytes that are there. -/
theorem or_byte (u b k : Nat) (hk : k < 8) (hu : u < 256 ^ k) (hb : b < 256) : bits .or .u64 (u : Int) ((b : Int) * 2 ^ (8 * k) % 18446744073709551616) = ((u + b * 256 ^ k : Nat) : Int) := by
  have h256 : (256 : Nat) ^ k = 2 ^ (8 * k) := by rw [Nat.pow_mul]
  have hbk : b * 256 ^ k < 18446744073709551616 := by
    have h1 : 256 ^ k ≤ 256 ^ 7 := Nat.pow_le_pow_right (by decide) (by omega)
    have h2 : b * 256 ^ k ≤ 255 * 256 ^ 7 := Nat.mul_le_mul (by omega) h1
    exact Nat.lt_of_le_of_lt h2 (by decide)
  have hu' : u < 18446744073709551616 := by
    have h1 : 256 ^ k ≤ 256 ^ 8 := Nat.pow_le_pow_right (by decide) (by omega)
    exact Nat.lt_of_lt_of_le hu (Nat.le_trans h1 (by decide))
  have e1 : (b : Int) * 2 ^ (8 * k) % 18446744073709551616 = ((b * 256 ^ k : Nat) : Int) := by
    rw [show (b : Int) * 2 ^ (8 * k) = ((b * 256 ^ k : Nat) : Int) by rw [h256]; simp]
    generalize b * 256 ^ k = z at hbk
    omega
  rw [e1, u64_or_nat _ _ hu' hbk]
  congr 1
  rw [h256] at hu ⊢
  rw [Nat.or_comm, Nat.mul_comm, ← Nat.two_pow_add_eq_or_of_lt hu, Nat.add_comm]

set_option maxHeartbeats 1600000 in
theorem get_yes (b off at_ size cap : Nat) (l : List Int) (w : World) (hl : ∀ x ∈ l, 0 ≤ x ∧ x < 256) (hlen : l.length ≤ 1000000) (hcap : l.length ≤ cap) (hs : szB (size : Int) = true) (hin : at_ + size ≤ l.length)
    (hc : ∀ i, i < l.length → w.cell? ⟨b, off + i, none⟩ = some (.int .u8 (l.getD i 0))) :
    Calls Tryz.prog 19 #[.slice (some ⟨b, off, none⟩) l.length cap, .int .i64 (at_ : Int), .int .i64 (size : Int)] w fun e w' => e = .returned (.tuple #[.int .i64 (sOf (nuN ((l.drop at_).take size))), .int .i64 0]) ∧ w' = w := by
  have hsz : 1 ≤ size ∧ size ≤ 8 := by rcases szB_true hs with h | h | h | h <;> omega
  obtain ⟨hs1, hs8⟩ := hsz
  have hpart := Byt.part hc hin
  obtain ⟨m, hm⟩ : ∃ m, (l.drop at_).take size = m := ⟨_, rfl⟩
  have hml : m.length = size := by rw [← hm]; simp; omega
  have hmr : ∀ x ∈ m, 0 ≤ x ∧ x < 256 := by
    intro x hx
    rw [← hm] at hx
    exact hl x (List.mem_of_mem_drop (List.mem_of_mem_take hx))
  rw [hm] at hpart ⊢
  clear hm hc hl
  obtain ⟨n, hn⟩ : ∃ n, n = l.length := ⟨_, rfl⟩
  rw [← hn] at hlen hcap hin ⊢
  clear hn
  go_enter Tryz.func19, Tryz.ntmps19
  go_wp2_with (go_at_call 41; refine (isSize_walk _ _).mono ?_; rintro e w' ⟨rfl, rfl⟩)
  go_loop [8, 31] (fun x i => ∃ k : Nat, k ≤ size ∧ i = .int .i64 k ∧ x = .int .u64 ((nuN (m.take k) : Nat) : Int)) (fun _ i => size - (intOf i).toNat)
  case atStart => exact ⟨0, Nat.zero_le _, rfl, rfl⟩
  case round =>
    obtain ⟨k, hk, rfl, rfl⟩ := hrel
    by_cases hlt : k < size
    · have hcell := hpart k hlt
      have htk := take_snoc_int m k (by omega)
      have hx := hmr (m.getD k 0) (by
        have : m.getD k 0 = m[k]'(by omega) := by simp [List.getD, show k < m.length by omega]
        rw [this]; exact List.getElem_mem _)
      obtain ⟨c, hcc⟩ : ∃ c : Nat, m.getD k 0 = (c : Int) := ⟨(m.getD k 0).toNat, by omega⟩
      rw [hcc] at hcell hx htk
      have hc256 : c < 256 := by omega
      have hX : nuN (m.take k) < 256 ^ k := by
        have := nuN_lt (m.take k) (fun x hx => hmr x (List.mem_of_mem_take hx))
        rwa [List.length_take, Nat.min_eq_left (by omega)] at this
      have hst : nuN (m.take (k + 1)) = nuN (m.take k) + c * 256 ^ k := by
        rw [htk, nuN_snoc, List.length_take, Nat.min_eq_left (by omega)]
        rfl
      have hor := or_byte (nuN (m.take k)) c k (by omega) hX hc256
      have HO : Hid (bits .or .u64 ((nuN (m.take k) : Nat) : Int) ((c : Int) * 2 ^ (8 * k) % 18446744073709551616) = ((nuN (m.take (k + 1)) : Nat) : Int)) := by rw [hst]; exact hor
      have hX64 : nuN (m.take k) < 18446744073709551616 := Nat.lt_of_lt_of_le hX (Nat.le_trans (Nat.pow_le_pow_right (by decide) (show k ≤ 8 by omega)) (by decide))
      clear hst hor htk hx hcc hX hpart
      go_wp2
      go_round
      case rel => exact ⟨k + 1, by omega, by go_num, by rw [← HO.out]; rfl⟩
      case measure => simp [intOf]; omega
    · obtain rfl : k = size := by omega
      have hw := i64_wrap (nuN (m.take k))
      have ht : m.take k = m := List.take_of_length_le (by omega)
      have HT : Hid (m.take k = m) := ht
      clear ht
      go_wp2
      go_ret2
      exact ⟨by simp [HT.out], rfl⟩

theorem get_size (a : Option Addr) (len cap : Nat) (at_ size : Int) (w : World) (hs : szB size = false) :
    Calls Tryz.prog 19 #[.slice a len cap, .int .i64 at_, .int .i64 size] w fun e w' => e = .returned (.tuple #[.int .i64 0, .int .i64 2]) ∧ w' = w := by
  go_enter Tryz.func19, Tryz.ntmps19
  go_wp2_with (go_at_call 41; refine (isSize_walk _ _).mono ?_; rintro e w' ⟨rfl, rfl⟩)
  go_ret2
  exact ⟨rfl, rfl⟩

theorem get_out (a : Option Addr) (len cap : Nat) (at_ size : Int) (w : World) (hlen : len ≤ 1000000) (hs : szB size = true) (h : at_ < 0 ∨ (len : Int) < at_ + size) :
    Calls Tryz.prog 19 #[.slice a len cap, .int .i64 at_, .int .i64 size] w fun e w' => e = .returned (.tuple #[.int .i64 0, .int .i64 8]) ∧ w' = w := by
  have h8 : 1 ≤ size ∧ size ≤ 8 := by rcases szB_true hs with h | h | h | h <;> omega
  obtain ⟨h1, h8⟩ := h8
  by_cases hneg : at_ < 0
  · go_enter Tryz.func19, Tryz.ntmps19
    go_wp2_with (go_at_call 41; refine (isSize_walk _ _).mono ?_; rintro e w' ⟨rfl, rfl⟩)
    go_ret2
    exact ⟨rfl, rfl⟩
  · have hgt : (len : Int) - size < at_ := by omega
    clear h
    go_enter Tryz.func19, Tryz.ntmps19
    go_wp2_with (go_at_call 41; refine (isSize_walk _ _).mono ?_; rintro e w' ⟨rfl, rfl⟩)
    go_ret2
    exact ⟨rfl, rfl⟩

theorem get_no {l : List Int} {at_ size : Int} (hs : szB size = false) : getV l at_ size = 0 ∧ getE l at_ size = 2 := by simp [getV, getE, hs]
theorem get_far {l : List Int} {at_ size : Int} (hs : szB size = true) (hi : inB l at_ size = false) : getV l at_ size = 0 ∧ getE l at_ size = 8 := by simp [getV, getE, hs, hi]
theorem get_in {l : List Int} {at_ size : Int} (hs : szB size = true) (hi : inB l at_ size = true) : getV l at_ size = sOf (nuN ((l.drop at_.toNat).take size.toNat)) ∧ getE l at_ size = 0 := by simp [getV, getE, hs, hi]

/-- What Get gives. -/
theorem get_walk (a : Option Addr) (cap : Nat) (l : List Int) (at_ size : Int) (w : World) (hl : ∀ x ∈ l, 0 ≤ x ∧ x < 256) (hlen : l.length ≤ 1000000) (hcap : l.length ≤ cap) (hb : Byt w a l) :
    Calls Tryz.prog 19 #[.slice a l.length cap, .int .i64 at_, .int .i64 size] w fun e w' => e = .returned (.tuple #[.int .i64 (getV l at_ size), .int .i64 (getE l at_ size)]) ∧ w' = w := by
  cases hs : szB size
  · rw [(get_no hs).1, (get_no hs).2]
    exact get_size a _ cap at_ size w hs
  · cases hi : inB l at_ size
    · have := of_decide_eq_false hi
      rw [(get_far hs hi).1, (get_far hs hi).2]
      exact get_out a _ cap at_ size w hlen hs (by omega)
    · rw [(get_in hs hi).1, (get_in hs hi).2]
      obtain ⟨h0, h1⟩ := of_decide_eq_true hi
      have h8 : 1 ≤ size ∧ size ≤ 8 := by rcases szB_true hs with h | h | h | h <;> omega
      have es := szB_nat hs
      have ea : ((at_.toNat : Nat) : Int) = at_ := by omega
      rcases hb with rfl | ⟨b, off, rfl, hc⟩
      · simp at h1; omega
      · have := get_yes b off at_.toNat size.toNat cap l w hl hlen hcap (by rw [es]; exact hs) (by omega) hc
        rw [es, ea] at this
        exact this

/-- The bytes from the highest one down. -/
theorem nuN_drop (m : List Int) (k : Nat) (h : k < m.length) : nuN (m.drop k) = (m.getD k 0).toNat + 256 * nuN (m.drop (k + 1)) := by
  rw [List.drop_eq_getElem_cons h, nuN_cons]
  simp [List.getD, h]
end Go.Proofs.YtljmgbpecoifnaaGreatDoor
