/- The law SectChecks, walked. -/
import Derived.Test.YtdjokhokiklamaaKit
import Derived.RegionTactic
import Derived.ChangeAlike
namespace Go.Proofs.Ytdjokhokiklamaa
open Go.RowKit

theorem same_self (s : ByteArray) (al sz : Int) (l : List Int) : sameB s s al al sz sz l l = true := decide_eq_true ⟨rfl, rfl, rfl, rfl⟩

open Go.Sort in
set_option maxRecDepth 20000 in
set_option maxHeartbeats 1600000 in
theorem checks_walk (s : ByteArray) (al : Int) (a : Option Addr) (n cap : Nat) (sz : Int) (l : List Int) (t : ByteArray) (al' : Int) (a' : Option Addr) (n' cap' : Nat) (sz' : Int) (l' : List Int) (name : ByteArray) (w : World)
    (hs : s.size ≤ maxLen) (_ht : t.size ≤ maxLen) (hnm : name.size ≤ maxLen) (hl : l.length = n) (hl' : l'.length = n') (hb : Byt w a l) (hb' : Byt w a' l') (hnil : a = none → n = 0 ∧ cap = 0) (hr : ∀ x ∈ l, 0 ≤ x ∧ x < 256) (hr' : ∀ x ∈ l', 0 ≤ x ∧ x < 256) :
    Calls Try.prog 4 #[sectV s al a n cap sz, sectV t al' a' n' cap' sz', .string name] w fun e w' => e = .returned (.bool true) ∧ Kept w w' := by
  have B1 := Box.new w s al (.slice a n cap) sz
  obtain ⟨wa, hwa⟩ : ∃ wa, w.alloc (.cells #[.string s, .int .i64 al, .slice a n cap, .int .i64 sz] 28) = wa := ⟨_, rfl⟩
  rw [hwa] at B1
  have B2 := Box.new wa t al' (.slice a' n' cap') sz'
  have kA : Kept w wa := by rw [← hwa]; exact Kept.alloc _ _
  have sA : wa.heap.size = w.heap.size + 1 := by rw [← hwa]; simp
  obtain ⟨wb, hwb⟩ : ∃ wb, wa.alloc (.cells #[.string t, .int .i64 al', .slice a' n' cap', .int .i64 sz'] 28) = wb := ⟨_, rfl⟩
  rw [hwb] at B2
  have kB : Kept wa wb := by rw [← hwb]; exact Kept.alloc _ _
  rw [sA] at B2
  replace B1 := B1.kept kB
  have W0 : Kept w wb := kA.trans kB
  have B1' := B1
  have B2' := B2
  obtain ⟨c0, c1, c2, c3, _, _, _, _⟩ := B1'
  obtain ⟨d0, d1, d2, d3, _, _, _, _⟩ := B2'
  by_cases h1 : 10000 < n
  · have e1 : decide ((10000 : Int) < (n : Int)) = true := decide_eq_true (by omega)
    go_enter Try.func4, Try.ntmps4
    go_wp2
    go_ret
    exact ⟨rfl, W0⟩
  have e1 : decide ((10000 : Int) < (n : Int)) = false := decide_eq_false (by omega)
  by_cases h2 : 10000 < n'
  · have e2 : decide ((10000 : Int) < (n' : Int)) = true := decide_eq_true (by omega)
    go_enter Try.func4, Try.ntmps4
    go_wp2
    go_ret
    exact ⟨rfl, W0⟩
  have e2 : decide ((10000 : Int) < (n' : Int)) = false := decide_eq_false (by omega)
  by_cases h3 : 1000 < s.size
  · have e3 : decide ((1000 : Int) < (s.size : Int)) = true := decide_eq_true (by omega)
    go_enter Try.func4, Try.ntmps4
    go_wp2
    go_ret
    exact ⟨rfl, W0⟩
  have e3 : decide ((1000 : Int) < (s.size : Int)) = false := decide_eq_false (by omega)
  by_cases h4 : 1000 < name.size
  · have e4 : decide ((1000 : Int) < (name.size : Int)) = true := decide_eq_true (by omega)
    go_enter Try.func4, Try.ntmps4
    go_wp2
    go_ret
    exact ⟨rfl, W0⟩
  have e4 : decide ((1000 : Int) < (name.size : Int)) = false := decide_eq_false (by omega)
  have hn : n ≤ 10000 := by omega
  have hT1 := rtwin_walk s al a n cap sz l wb hl (by omega) (hb.kept W0) hnil
  obtain ⟨x, hx⟩ : ∃ x : Int, (kindN (nm name) : Int) = x := ⟨_, rfl⟩
  obtain ⟨E, hE⟩ : ∃ E, kE (nm name) = E := ⟨_, rfl⟩
  have hK1 := fun w => kind_walk name w hnm
  have hK2 := fun w => rkind_walk name w hnm
  rw [hx, hE] at hK1 hK2
  clear hx hE h1 h2 h3 h4
  go_enter Try.func4, Try.ntmps4
  go_upto_region 4 with (go_at_call 13; refine hT1.mono ?_; rintro e w1 ⟨y1, rfl, O1, k1⟩; obtain ⟨A1, C1, rfl, _, b1, hn1⟩ := O1.let hl)
  have B3 := Box.new w1 s al (.slice A1 n C1) sz
  have k2 : Kept w1 (w1.alloc (.cells #[.string s, .int .i64 al, .slice A1 n C1, .int .i64 sz] 28)) := Kept.alloc _ _
  obtain ⟨w2, hw2⟩ : ∃ w2, w1.alloc (.cells #[.string s, .int .i64 al, .slice A1 n C1, .int .i64 sz] 28) = w2 := ⟨_, rfl⟩
  rw [hw2] at B3 k2 ⊢
  clear hw2 hT1 c0 c1 c2 c3 d0 d1 d2 d3 hwa hwb sA
  obtain ⟨o, ho⟩ : ∃ o, w1.heap.size = o := ⟨_, rfl⟩
  rw [ho] at B3 ⊢
  clear ho
  go_upto_region 5 with (go_at_call 9; refine (hK1 _).mono ?_; rintro e w3 ⟨rfl, k3⟩)
  go_upto_region 6 with (go_at_call 14; refine (hK2 _).mono ?_; rintro e w4 ⟨rfl, k4⟩)
  have K4 : Kept wb w4 := ((k1.trans k2).trans k3).trans k4
  replace B3 := (B3.kept k3).kept k4
  replace B1 := B1.kept K4
  replace B2 := B2.kept K4
  replace b1 := ((b1.kept k2).kept k3).kept k4
  have W4 := W0.trans K4
  have hT2 := twin_walk s al A1 n C1 sz l w4 hl (by omega) b1 hn1
  have B3' := B3
  obtain ⟨c0, c1, c2, c3, _, _, _, _⟩ := B3'
  clear hK1 hK2 k1 k2 k3 k4 O1 hn1
  go_upto_region 7 with (go_at_call 15; refine hT2.mono ?_; rintro e w5 ⟨y2, rfl, O2, k5⟩; obtain ⟨A2, C2, rfl, hC2, b2, hn2⟩ := O2.let hl)
  have B4 := Box.new w5 s al (.slice A2 n C2) sz
  have k6 : Kept w5 (w5.alloc (.cells #[.string s, .int .i64 al, .slice A2 n C2, .int .i64 sz] 28)) := Kept.alloc _ _
  obtain ⟨w6, hw6⟩ : ∃ w6, w5.alloc (.cells #[.string s, .int .i64 al, .slice A2 n C2, .int .i64 sz] 28) = w6 := ⟨_, rfl⟩
  have s6 : w5.heap.size < w6.heap.size := by rw [← hw6]; simp
  rw [hw6] at B4 k6 ⊢
  clear hw6 hT2 c0 c1 c2 c3
  have hq2 : ∀ g, (Value.slice A2 n C2).ownBlock = some g → w4.heap.size ≤ g ∧ g < w5.heap.size := fun g e => O2.lt g e
  obtain ⟨q, hq⟩ : ∃ q, w5.heap.size = q := ⟨_, rfl⟩
  rw [hq] at B4 hq2 s6 ⊢
  clear hq
  have K6 := k5.trans k6
  have o4 : o < w4.heap.size := B3.lt
  have p4 : w.heap.size + 1 < w4.heap.size := B2.lt
  have B3p := B3
  have B1p := B1
  have u4 := hb.kept W4
  replace B3 := B3.kept K6
  replace B1 := B1.kept K6
  replace B2 := B2.kept K6
  have b1' := b1.kept K6
  replace b2 := b2.kept k6
  replace O2 := own_keep O2 k6
  have W6 := W4.trans K6
  have u1 := hb.kept W6
  have u2 := hb'.kept W6
  have B1q := B1
  have B2q := B2
  have B3q := B3
  have B4q := B4
  obtain ⟨c0, c1, c2, c3, _, _, _, _⟩ := B1q
  obtain ⟨d0, d1, d2, d3, _, _, _, _⟩ := B2q
  obtain ⟨f0, f1, f2, f3, _, _, _, _⟩ := B3q
  obtain ⟨g0, g1, g2, g3, _, _, _, _⟩ := B4q
  obtain ⟨X, hX⟩ : ∃ X, chkS (nm s) al n sz = X := ⟨_, rfl⟩
  obtain ⟨Bo, hBo⟩ : ∃ B, sameB s t al al' sz sz' l l' = B := ⟨_, rfl⟩
  have cA : ∀ d os, Calls Try.prog 10 #[sectV s al A1 n C1 sz] (grow (redrawn w6 d) os) fun e w'' => e = .returned (.int .i64 X) ∧ ∃ p : Regrown, w'' = grow (redrawn w6 p.d) p.os := fun d os => Calls.regrown_of (by rw [← hX]; exact check_walk s al A1 n C1 sz _ hs)
  have cB : ∀ d os, Calls Try.prog 16 #[sectV s al a n cap sz] (grow (redrawn w6 d) os) fun e w'' => e = .returned (.int .i64 X) ∧ ∃ p : Regrown, w'' = grow (redrawn w6 p.d) p.os := fun d os => Calls.regrown_of (by rw [← hX]; exact rcheck_walk s al a n cap sz _ hs)
  have cC : ∀ d os, Calls Try.prog 17 #[sectV s al A1 n C1 sz, sectV t al' a' n' cap' sz'] (grow (redrawn w6 d) os) fun e w'' => e = .returned (.bool Bo) ∧ ∃ p : Regrown, w'' = grow (redrawn w6 p.d) p.os := fun d os => Calls.regrown_of (by rw [← hBo]; exact same_walk s t al al' sz sz' A1 a' n C1 n' cap' l l' _ hl hl' (b1'.kept (below_regrown w6 d os)) (u2.kept (below_regrown w6 d os)) hr hr')
  have cD : ∀ d os, Calls Try.prog 18 #[sectV s al a n cap sz, sectV t al' a' n' cap' sz'] (grow (redrawn w6 d) os) fun e w'' => e = .returned (.bool Bo) ∧ ∃ p : Regrown, w'' = grow (redrawn w6 p.d) p.os := fun d os => Calls.regrown_of (by rw [← hBo]; exact rsame_walk s t al al' sz sz' a a' n cap n' cap' l l' _ hl hl' (u1.kept (below_regrown w6 d os)) (u2.kept (below_regrown w6 d os)) hr hr')
  have cE : ∀ d os, Calls Try.prog 18 #[sectV s al A2 n C2 sz, sectV s al a n cap sz] (grow (redrawn w6 d) os) fun e w'' => e = .returned (.bool true) ∧ ∃ p : Regrown, w'' = grow (redrawn w6 p.d) p.os := fun d os => Calls.regrown_of (by rw [← same_self s al sz l]; exact rsame_walk s s al al sz sz A2 a n C2 n cap l l _ hl hl (b2.kept (below_regrown w6 d os)) (u1.kept (below_regrown w6 d os)) hr hr)
  have x0 := cell_regrown c0
  have x1 := cell_regrown c1
  have x2 := cell_regrown c2
  have x3 := cell_regrown c3
  have z0 := cell_regrown d0
  have z1 := cell_regrown d1
  have z2 := cell_regrown d2
  have z3 := cell_regrown d3
  have y0 := cell_regrown f0
  have y1 := cell_regrown f1
  have y2 := cell_regrown f2
  have y3 := cell_regrown f3
  have v0 := cell_regrown g0
  have v1 := cell_regrown g1
  have v2 := cell_regrown g2
  have v3 := cell_regrown g3
  have i1 : (x != x) = false := by simp
  have i2 : (E != E) = false := by simp
  have i3 : (X != X) = false := by simp
  have i4 : (Bo != Bo) = false := by simp
  clear hX hBo hb hb' hnil hr' u2
  refine wp_region_quiet_below (by kernel_rfl) (by kernel_rfl) ?_
  repeat (quiet_step ((first | (go_at_call 10; exact cA _ _) | (go_at_call 16; exact cB _ _) | (go_at_call 17; exact cC _ _) | (go_at_call_of 18 (Value.agg #[.string s, .int .i64 al, .slice A2 n C2, .int .i64 sz]); exact cE _ _) | (go_at_call 18; exact cD _ _))))
  refine wpQuiet_nil ?_
  intro w7 hw7
  have K7 : Kept w6 w7 := by
    obtain ⟨⟨dq, osq⟩, e⟩ := hw7
    rw [e]
    exact below_regrown w6 dq osq
  clear hw7 x0 x1 x2 x3 z0 z1 z2 z3 y0 y1 y2 y3 v0 v1 v2 v3 i1 i2 i3 i4 cA cB cC cD cE c0 c1 c2 c3 d0 d1 d2 d3 f0 f1 f2 f3 g0 g1 g2 g3 B1 B2 B3
  replace B4 := B4.kept K7
  replace O2 := own_keep O2 K7
  have W7 : Kept w4 w7 := K6.trans K7
  have fin : ∀ wr, Below w4.heap.size w4 wr → Calls Try.prog 18 #[sectV s al A1 n C1 sz, sectV s al a n cap sz] wr fun e w' => e = .returned (.bool true) ∧ Kept wr w' := fun wr h => by
    rw [← same_self s al sz l]
    exact rsame_walk s s al al sz sz A1 a n C1 n cap l l wr hl hl (b1.kept h) (u4.kept h) hr hr
  clear b1 b1' b2 u1 u4 k5 k6 K6 K7 W0 W6
  by_cases h0 : n = 0
  · subst h0
    have g2 := B4.c2
    go_wp2
    go_loopw [13] (fun i wr => i = .int .i64 0 ∧ wr = w7) (fun _ _ => 0)
    case atStart => exact ⟨rfl, rfl⟩
    case round =>
      obtain ⟨rfl, rfl⟩ := hrel
      obtain ⟨c0, c1, c2, c3, _, _, _, _⟩ := B1p.kept W7
      obtain ⟨f0, f1, f2, f3, _, _, _, _⟩ := B3p.kept W7
      have hF := fin _ W7
      go_wp2_with (go_at_call 18; refine hF.mono ?_; rintro e w9 ⟨rfl, k9⟩)
      go_ret
      exact ⟨rfl, (W4.trans W7).trans k9⟩
  · obtain ⟨g2, C2', hv2, _, _, _, _⟩ := O2.some (by omega)
    have hv2' := hv2
    simp only [Value.slice.injEq] at hv2'
    obtain ⟨rfl, -, rfl⟩ := hv2'
    obtain ⟨hg1, hg2⟩ := hq2 g2 rfl
    clear hv2 hq2 hn2
    have R0 : ∃ L2 : List Int, L2.length = n ∧ Own w7 w4.heap.size (.slice (some ⟨g2, 0, none⟩) n C2) L2 := ⟨l, hl, O2⟩
    clear O2
    go_wp2
    go_loopw [13] (fun i wr => ∃ k : Nat, k ≤ n ∧ i = .int .i64 k ∧ (∃ L2 : List Int, L2.length = n ∧ Own wr w4.heap.size (.slice (some ⟨g2, 0, none⟩) n C2) L2) ∧ Box wr q s al (.slice (some ⟨g2, 0, none⟩) n C2) sz ∧ Below w4.heap.size w4 wr) (fun i _ => n - (intOf i).toNat)
    case atStart => exact ⟨0, Nat.zero_le _, rfl, R0, B4, W7⟩
    case round =>
      obtain ⟨k, hk, rfl, ⟨L2, hL2, hown⟩, B5, hbel⟩ := hrel
      clear R0
      by_cases hlt : k < n
      · have hown' := hown
        unfold Own at hown'
        rw [hL2] at hown'
        obtain ⟨c, hc⟩ : ∃ c, wr.cell? ⟨g2, k, none⟩ = some (.int .u8 c) := by
          refine ⟨L2[k]'(by omega), ?_⟩
          rw [hown'.cellAt k (by omega)]
          simp [hL2, hlt]
        have hf := hown'.frozenAt k
        have q2 := B5.c2
        have hkn : (k : Int) < (n : Int) := by omega
        have HST : Hid (∀ y : Int, (∃ L3 : List Int, L3.length = n ∧ Own (wr.setCell ⟨g2, k, none⟩ (.int .u8 y)) w4.heap.size (.slice (some ⟨g2, 0, none⟩) n C2) L3)) := fun y => by
          obtain ⟨S1, _⟩ := hown'.stored k (.int .u8 y)
          refine ⟨L2.set k y, by rw [List.length_set, hL2], ?_⟩
          unfold Own
          rw [List.length_set, hL2, List.map_set]
          exact S1
        clear hown' hown hr hl hL2 fin B1p B3p
        go_wp2
        go_region
        have B6 : Box (wr.setCell ⟨g2, k, none⟩ (.int .u8 ((c + 1) % 256))).drew q s al (.slice (some ⟨g2, 0, none⟩) n C2) sz := (B5.far g2 k (.int .u8 ((c + 1) % 256)) (by omega)).kept (kept_drew _)
        have b6 : Below w4.heap.size w4 (wr.setCell ⟨g2, k, none⟩ (.int .u8 ((c + 1) % 256))).drew := Kept.trans (hbel.setCell (p := ⟨g2, k, none⟩) hg1 (.int .u8 ((c + 1) % 256))) (kept_drew _)
        have r6 : ∃ L3 : List Int, L3.length = n ∧ Own (wr.setCell ⟨g2, k, none⟩ (.int .u8 ((c + 1) % 256))).drew w4.heap.size (.slice (some ⟨g2, 0, none⟩) n C2) L3 := by
          obtain ⟨L3, h1, h2⟩ := HST.out ((c + 1) % 256)
          exact ⟨L3, h1, own_keep h2 (kept_drew _)⟩
        clear HST B5 hbel hc hf q2
        go_wp2
        go_roundw
        case rel => exact ⟨k + 1, by omega, by go_num, r6, B6, b6⟩
        case measure => simp [intOf]; omega
      · obtain rfl : k = n := by omega
        obtain ⟨c0, c1, c2, c3, _, _, _, _⟩ := B1p.kept hbel
        obtain ⟨f0, f1, f2, f3, _, _, _, _⟩ := B3p.kept hbel
        have q2 := B5.c2
        have hF := fin _ hbel
        clear hown fin B5 hr hl hL2
        go_wp2_with (go_at_call 18; refine hF.mono ?_; rintro e w9 ⟨rfl, k9⟩)
        go_ret
        exact ⟨rfl, (W4.trans hbel).trans k9⟩
end Go.Proofs.Ytdjokhokiklamaa
