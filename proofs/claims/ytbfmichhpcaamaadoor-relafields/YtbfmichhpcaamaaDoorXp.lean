/- Where a relocation may be: the program's. -/
import Derived.Test.YtbfmichhpcaamaaDoorXc
import Derived.Deep.DeepCutAuto
namespace Go.Proofs.YtbfmichhpcaamaaDoor
open Go.RowKit

theorem plc_no {sec off ty ad : Int} {l : List SecV} (h : ¬ (0 ≤ abtN ty ∧ 1 ≤ sec ∧ sec ≤ l.length)) : plcX sec off ty ad l = false := by
  unfold plcX
  rw [decide_eq_false h, Bool.false_and]
theorem plc_at {sec off ty ad : Int} {l : List SecV} {k : Nat} {s : ByteArray} {al : Int} {a : Option Addr} {cap : Nat} {sz : Int} {z : List Int} (h0 : 0 ≤ abtN ty) (hk : sec - 1 = k) (hl : k < l.length) (hv : l.getD k secNo = ⟨s, al, a, cap, sz, z⟩) :
    plcX sec off ty ad l = (kndX ty off (kindN (nm s)) && decide (0 ≤ off) && decide (abtN ty ≤ (z.length : Int) - off) && filX ty ad ((z.length : Int) - off)) := by
  have e : (sec - 1).toNat = k := by omega
  unfold plcX
  rw [decide_eq_true (by omega), Bool.true_and, e, hv]

set_option maxRecDepth 20000 in
set_option maxHeartbeats 3200000 in
theorem isPlacedX_walk (sec off ty sy ad : Int) (a : Option Addr) (n cap : Nat) (l : List SecV) (w : World) (h0 : 0 ≤ ty) (h1 : ty < 256) (hl : l.length = n) (_hcap : n ≤ cap) (hn : n ≤ maxLen) (hS : Secs w a l) (ho : off ≤ 9223372036854775807) :
    Calls Tryd.prog 22 #[relW sec off ty sy ad, .slice a n cap] w fun e w' => e = .returned (.bool (plcX sec off ty ad l)) ∧ Kept w w' := by
  obtain ⟨wa, hwa, B1, kA, sA⟩ := box_rela w sec off ty sy ad
  have B1' := B1
  obtain ⟨c0, c1, c2, c3, c4, _, _, _, _, _⟩ := B1'
  have hF := fun w => field_walk ty w
  have hmx : maxLen ≤ 9223372036854775807 := by decide
  by_cases ht : 0 ≤ abtN ty
  · rw [show fdV ty = abtN ty from if_pos ht, show fdE ty = 0 from if_pos ht] at hF
    by_cases hs : sec < 1
    · have d1 : decide (sec < 1) = true := decide_eq_true hs
      have HB : Hid (plcX sec off ty ad l = false) := plc_no (by omega)
      clear hs ht hS B1 hmx
      go_enter Tryd.func22, Tryd.ntmps22
      go_wp2_with (go_at_call 8; refine (hF _).mono ?_; rintro e w2 ⟨rfl, hw2⟩; have hw3 := hw2.symm; subst hw3; clear hw2)
      go_ret
      exact ⟨by rw [HB.out]; rfl, kA⟩
    have d1 : decide (sec < 1) = false := decide_eq_false hs
    by_cases hs2 : (n : Int) < sec
    · have d2 : decide ((n : Int) < sec) = true := decide_eq_true hs2
      have HB : Hid (plcX sec off ty ad l = false) := plc_no (by omega)
      clear hs hs2 ht hS B1 hmx
      go_enter Tryd.func22, Tryd.ntmps22
      go_wp2_with (go_at_call 8; refine (hF _).mono ?_; rintro e w2 ⟨rfl, hw2⟩; have hw3 := hw2.symm; subst hw3; clear hw2)
      go_ret
      exact ⟨by rw [HB.out]; rfl, kA⟩
    have d2 : decide ((n : Int) < sec) = false := decide_eq_false hs2
    obtain ⟨k, hk⟩ : ∃ k : Nat, sec - 1 = k := ⟨(sec - 1).toNat, by omega⟩
    have hkn : k < n := by omega
    obtain ⟨b, o, rfl, hAt⟩ := (hS.kept kA).at (show k < l.length by omega)
    obtain ⟨v, hv⟩ : ∃ v, l.getD k secNo = v := ⟨_, rfl⟩
    obtain ⟨s, al, a', cp, sz, z⟩ := v
    have hpl := plc_at (off := off) (ad := ad) ht hk (show k < l.length by omega) hv
    rw [hv] at hAt
    have x0 : wa.cell? ⟨b, o + k * 4, none⟩ = some (.string s) := hAt.c0
    have x1 : wa.cell? ⟨b, o + k * 4 + 1, none⟩ = some (.int .i64 al) := hAt.c1
    have x2 : wa.cell? ⟨b, o + k * 4 + 2, none⟩ = some (.slice a' z.length cp) := hAt.c2
    have x3 : wa.cell? ⟨b, o + k * 4 + 3, none⟩ = some (.int .i64 sz) := hAt.c3
    have hsz : s.size ≤ maxLen := hAt.ok.size
    have hzl : z.length ≤ maxLen := hAt.ok.cap
    obtain ⟨len, hlen⟩ : ∃ len, z.length = len := ⟨_, rfl⟩
    rw [hlen] at hpl x2 hzl
    obtain ⟨m, hm⟩ : ∃ m, abtN ty = m := ⟨_, rfl⟩
    have hK := fun w => isOfKind_walk sec off ty sy ad s al a' len cp sz w h0 h1 hsz
    have hL := fun left w => isFilled_walk sec off ty sy ad left w h0 h1
    have hm8 := abt_le ty
    rw [hm] at hF ht hpl hm8
    have hwk : wrap64 (k : Int) = k := by unfold wrap64; omega
    have hlen2 : (len : Int) ≤ 9223372036854775807 := by omega
    -- the box of the section
    have Z1 := Box.new wa ⟨#[]⟩ 0 (.slice none 0 0) 0
    obtain ⟨wb, hwb⟩ : ∃ wb, wa.alloc (.cells #[.string ⟨#[]⟩, .int .i64 0, .slice none 0 0, .int .i64 0] 47) = wb := ⟨_, rfl⟩
    rw [hwb, sA] at Z1
    have kB : Kept wa wb := by rw [← hwb]; exact Kept.alloc _ _
    have Z2 := Z1.put s al (.slice a' len cp) sz
    have K2 : Kept w _ := below_put (kA.trans kB) (Nat.le_succ w.heap.size) s al (.slice a' len cp) sz
    have B2 : XBx (put4 wb (w.heap.size + 1) s al (.slice a' len cp) sz) w.heap.size sec off ty sy ad := (((((B1.kept kB).far _ _ _ (by omega)).far _ _ _ (by omega)).far _ _ _ (by omega)).far _ _ _ (by omega))
    have Z1' := Z1
    obtain ⟨z0, z1, z2, z3, y0, y1, y2, y3⟩ := Z1'
    obtain ⟨wc, hwc⟩ : ∃ wc, put4 wb (w.heap.size + 1) s al (.slice a' len cp) sz = wc := ⟨_, rfl⟩
    rw [hwc] at Z2 K2 B2
    clear hS hv hAt hlen hm hsz hs hs2 kB Z1 hzl hmx h0 h1
    go_enter Tryd.func22, Tryd.ntmps22
    go_upto_region 5 with (go_at_call 8; refine (hF _).mono ?_; rintro e w2 ⟨rfl, hw2⟩; have hw3 := hw2.symm; subst hw3; clear hw2)
    obtain ⟨g1, hg1⟩ : ∃ g, kndX ty off (kindN (nm s)) = g := ⟨_, rfl⟩
    obtain ⟨g2, hg2⟩ : ∃ g, filX ty ad ((len : Int) - off) = g := ⟨_, rfl⟩
    have hL' := hL ((len : Int) - off)
    rw [hg1] at hK hpl
    rw [hg2] at hL' hpl
    clear hg1 hg2 hL hF z0 z1 z2 z3 y0 y1 y2 y3 x0 x1 x2 x3 c0 c1 c2 c3 c4 hwb hwc hwa B1 kA sA hwk d1 d2 hk
    have B2' := B2
    have Z2' := Z2
    obtain ⟨c0, c1, c2, c3, c4, _, _, _, _, _⟩ := B2'
    obtain ⟨z0, z1, z2, z3, _, _, _, _⟩ := Z2'
    cases g1 with
    | false =>
      have HB : Hid (plcX sec off ty ad l = false) := by unfold Hid; rw [hpl]; rfl
      clear hpl hL' ht
      go_wp2_with (go_at_call 37; refine (hK _).mono ?_; rintro e w4 ⟨rfl, k4⟩; clear c0 c1 c2 c3 c4 z0 z1 z2 z3; obtain ⟨c0, c1, c2, c3, c4, _, _, _, _, _⟩ := B2.kept k4; obtain ⟨z0, z1, z2, z3, _, _, _, _⟩ := Z2.kept k4)
      go_ret
      exact ⟨by rw [HB.out]; rfl, K2.trans k4⟩
    | true =>
      by_cases h2 : 0 ≤ off
      · have d2 : decide (0 ≤ off) = true := decide_eq_true h2
        by_cases h3 : m ≤ (len : Int) - off
        · have d3 : decide (m ≤ (len : Int) - off) = true := decide_eq_true h3
          have HB : Hid (plcX sec off ty ad l = g2) := by unfold Hid; rw [hpl, d2, d3]; simp
          clear hpl ht h3
          go_wp2_with (first | (go_at_call 37; refine (hK _).mono ?_; rintro e w4 ⟨rfl, k4⟩; clear c0 c1 c2 c3 c4 z0 z1 z2 z3; obtain ⟨c0, c1, c2, c3, c4, _, _, _, _, _⟩ := B2.kept k4; obtain ⟨z0, z1, z2, z3, _, _, _, _⟩ := Z2.kept k4) | (go_at_call 38; refine (hL' _).mono ?_; rintro e w5 ⟨rfl, k5⟩))
          go_ret
          exact ⟨by rw [HB.out]; rfl, (K2.trans k4).trans k5⟩
        · have d3 : decide (m ≤ (len : Int) - off) = false := decide_eq_false h3
          have HB : Hid (plcX sec off ty ad l = false) := by unfold Hid; rw [hpl, d3]; simp
          clear hpl ht h3
          go_wp2_with (go_at_call 37; refine (hK _).mono ?_; rintro e w4 ⟨rfl, k4⟩; clear c0 c1 c2 c3 c4 z0 z1 z2 z3; obtain ⟨c0, c1, c2, c3, c4, _, _, _, _, _⟩ := B2.kept k4; obtain ⟨z0, z1, z2, z3, _, _, _, _⟩ := Z2.kept k4)
          go_ret
          exact ⟨by rw [HB.out]; rfl, K2.trans k4⟩
      · have d2 : decide (0 ≤ off) = false := decide_eq_false h2
        have HB : Hid (plcX sec off ty ad l = false) := by unfold Hid; rw [hpl, d2]; simp
        clear hpl ht h2
        go_wp2_with (go_at_call 37; refine (hK _).mono ?_; rintro e w4 ⟨rfl, k4⟩; clear c0 c1 c2 c3 c4 z0 z1 z2 z3; obtain ⟨c0, c1, c2, c3, c4, _, _, _, _, _⟩ := B2.kept k4; obtain ⟨z0, z1, z2, z3, _, _, _, _⟩ := Z2.kept k4)
        go_ret
        exact ⟨by rw [HB.out]; rfl, K2.trans k4⟩
  · rw [show fdV ty = 0 from if_neg ht, show fdE ty = 2 from if_neg ht] at hF
    have HB : Hid (plcX sec off ty ad l = false) := plc_no (by omega)
    clear ht hS B1 hmx
    go_enter Tryd.func22, Tryd.ntmps22
    go_wp2_with (go_at_call 8; refine (hF _).mono ?_; rintro e w2 ⟨rfl, hw2⟩; have hw3 := hw2.symm; subst hw3; clear hw2)
    go_ret
    exact ⟨by rw [HB.out]; rfl, kA⟩
end Go.Proofs.YtbfmichhpcaamaaDoor
