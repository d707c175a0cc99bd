/- The law RelaCodes, walked. -/
import Derived.Test.YtbfmichhpcaamaaDoorXk
import Derived.Test.YtbfmichhpcaamaaDoorXe
import Derived.Test.YtbfmichhpcaamaaDoorXs
import Derived.RegionTactic
import Derived.ChangeAlike
namespace Go.Proofs.YtbfmichhpcaamaaDoor
open Go.RowKit

open Go.Sort in
set_option maxRecDepth 20000 in
set_option maxHeartbeats 3200000 in
theorem codes_walk (sec off ty sy ad : Int) (a0 : Option Addr) (n cap0 : Nat) (ls : List SecV) (y kd : Int) (a : Option Addr) (m cap : Nat) (l : List Int) (w : World) (hT : Tab w) (ok : RelaOk sec off ty sy ad)
    (hl0 : ls.length = n) (hcap0 : n ≤ cap0) (hn : n ≤ maxLen) (hS : Secs w a0 ls) (hl : l.length = m) (hcap : m ≤ cap) (hb : Byt w a l) (hnil : a = none → m = 0 ∧ cap = 0) (hr : ∀ x ∈ l, 0 ≤ x ∧ x < 256) :
    Calls Tryd.prog 4 #[relW sec off ty sy ad, .slice a0 n cap0, .int .i64 y, .int .u8 kd, .slice a m cap] w fun e w' => e = .returned (.bool true) ∧ Kept w w' := by
  obtain ⟨wa, hwa, B1, kA, sA⟩ := box_rela w sec off ty sy ad
  obtain ⟨ro, rt, ry, rd, F, hR0'⟩ : ∃ ro rt ry rd F, rdX l = (ro, rt, ry, rd, F) := ⟨_, _, _, _, _, rfl⟩
  have hR0 : Hid (rdX l = (ro, rt, ry, rd, F)) := hR0'
  clear hR0'
  have B1' := B1
  obtain ⟨c0, c1, c2, c3, c4, _, _, _, _, _⟩ := B1'
  have hmx : maxLen ≤ 9223372036854775807 := by decide
  by_cases h20 : 20 < n
  · have d1 : decide ((20 : Int) < (n : Int)) = true := decide_eq_true (by omega)
    clear hS
    go_enter Tryd.func4, Tryd.ntmps4
    go_wp2
    go_ret
    exact ⟨rfl, kA⟩
  have d1 : decide ((20 : Int) < (n : Int)) = false := decide_eq_false (by omega)
  by_cases h1 : 10000 < m
  · have e1 : decide ((10000 : Int) < (m : Int)) = true := decide_eq_true (by omega)
    clear hS
    go_enter Tryd.func4, Tryd.ntmps4
    go_wp2
    go_ret
    exact ⟨rfl, kA⟩
  have e1 : decide ((10000 : Int) < (m : Int)) = false := decide_eq_false (by omega)
  have hLg := large_walk a0 n cap0 ls wa hl0 hcap0 (by omega) (hS.kept kA)
  cases hg : largeB ls with
  | true =>
    rw [hg] at hLg
    clear hS hg
    go_enter Tryd.func4, Tryd.ntmps4
    go_wp2_with (go_at_call 13; refine hLg.mono ?_; rintro e w9 ⟨rfl, hw9⟩; have hw8 := hw9.symm; subst hw8; clear hw9)
    go_ret
    exact ⟨rfl, kA⟩
  | false =>
    rw [hg] at hLg
    have hba : Byt wa a l := hb.kept kA
    have hF1 := fun w => field_walk kd w
    have hF2 := fun w => rfield_walk kd w
    obtain ⟨V, hV⟩ : ∃ V, fdV kd = V := ⟨_, rfl⟩
    obtain ⟨D, hD⟩ : ∃ D, fdE kd = D := ⟨_, rfl⟩
    rw [hV, hD] at hF1 hF2
    obtain ⟨E, hE⟩ : ∃ E, wxE off ty sy ad = E := ⟨_, rfl⟩
    obtain ⟨L, hL⟩ : ∃ L, wxL off ty sy ad = L := ⟨_, rfl⟩
    obtain ⟨nL, hnL⟩ : ∃ k, L.length = k := ⟨_, rfl⟩
    have hW1 := fun w hT => xwrite_walk sec off ty sy ad w hT ok.t0 ok.t1
    have hW2 := fun w => rwriteX_walk sec off ty sy ad w ok.t0 ok.t1
    rw [hE, hL] at hW1 hW2
    clear hE hL hV hD hg
    go_enter Tryd.func4, Tryd.ntmps4
    go_upto_region 3 with (go_at_call 13; refine hLg.mono ?_; rintro e w9 ⟨rfl, hw9⟩; have hw8 := hw9.symm; subst hw8; clear hw9)
    go_upto_region 4 with (at_builtin; refine wpList_append_byt rfl _ _ rfl wa.heap.size (.slice none 0 0) [] l a cap rfl (by rw [hl]; rfl) (Own.nil _ _) hba (by rw [hl]; exact hnil) (by simp; omega) wa (Kept.refl _) (Nat.le_refl _) ?_; intro v1 w1 R1 k1)
    obtain ⟨A1, C1, rfl, hC1, y1, _⟩ := Own.let (l := l) (by simpa using R1) hl
    have K1 := kA.trans k1
    have B2 := B1.kept k1
    have hW1' := hW1 w1 (hT.kept K1)
    clear c0 c1 c2 c3 c4 R1 hba hwa hW1 h1 h20 hLg
    have B2' := B2
    obtain ⟨c0, c1, c2, c3, c4, _, _, _, _, _⟩ := B2'
    go_upto_region 5 with (go_at_call 8; refine (hF1 _).mono ?_; rintro e w9 ⟨rfl, hw9⟩; have hw8 := hw9.symm; subst hw8; clear hw9)
    go_upto_region 6 with (go_at_call 14; refine (hF2 _).mono ?_; rintro e w9 ⟨rfl, hw9⟩; have hw8 := hw9.symm; subst hw8; clear hw9)
    clear hF1 hF2
    go_upto_region 7 with (go_at_call 15; refine hW1'.mono ?_; rintro e w2 ⟨x2, rfl, O2, k2⟩)
    obtain ⟨A2, C2, rfl, _, y2, _⟩ := O2.let hnL
    have B3 := B2.kept k2
    clear c0 c1 c2 c3 c4 O2 hW1'
    have B3' := B3
    obtain ⟨c0, c1, c2, c3, c4, _, _, _, _, _⟩ := B3'
    go_upto_region 8 with (go_at_call 16; refine (hW2 _).mono ?_; rintro e w3 ⟨x3, rfl, O3, k3⟩)
    obtain ⟨A3, C3, rfl, _, y3, _⟩ := O3.let hnL
    have K3 := (K1.trans k2).trans k3
    have hR1 := xread_walk A1 m C1 l ro rt ry rd F w3 (hT.kept K3) hl hC1 ((y1.kept k2).kept k3) hr hR0
    clear c0 c1 c2 c3 c4 O3 hW2
    go_upto_region 9 with (go_at_call 11; refine hR1.mono ?_; rintro e w4 ⟨rfl, k4⟩)
    have X5 := XBx.new w4 0 ro rt ry rd
    have k5 : Kept w4 (w4.alloc (relO 0 ro rt ry rd)) := Kept.alloc _ _
    obtain ⟨w5, hw5⟩ : ∃ w5, w4.alloc (relO 0 ro rt ry rd) = w5 := ⟨_, rfl⟩
    rw [hw5] at X5 k5 ⊢
    have K5 := (K3.trans k4).trans k5
    have hR2 := rreadX_walk a m cap l ro rt ry rd F w5 hl hcap (hb.kept K5) hr hR0
    obtain ⟨b5, hb5⟩ : ∃ b, w4.heap.size = b := ⟨_, rfl⟩
    rw [hb5] at X5 ⊢
    clear hw5 hR1 hb5
    go_upto_region 10 with (go_at_call 17; refine hR2.mono ?_; rintro e w6 ⟨rfl, k6⟩)
    have Y7 := XBx.new w6 0 ro rt ry rd
    have k7 : Kept w6 (w6.alloc (relO 0 ro rt ry rd)) := Kept.alloc _ _
    obtain ⟨w7, hw7⟩ : ∃ w7, w6.alloc (relO 0 ro rt ry rd) = w7 := ⟨_, rfl⟩
    rw [hw7] at Y7 k7 ⊢
    obtain ⟨b7, hb7⟩ : ∃ b, w6.heap.size = b := ⟨_, rfl⟩
    rw [hb7] at Y7 ⊢
    have K7 := (K5.trans k6).trans k7
    have X7 := (X5.kept k6).kept k7
    have B7 := ((((B3.kept k3).kept k4).kept k5).kept k6).kept k7
    have u1 := ((((y1.kept k2).kept k3).kept k4).kept k5).kept (k6.trans k7)
    have u2 := (((y2.kept k3).kept k4).kept k5).kept (k6.trans k7)
    have u3 := ((y3.kept k4).kept k5).kept (k6.trans k7)
    have u4 := hb.kept K7
    have S7 := hS.kept K7
    clear hw7 hb7 hR2 y1 y2 y3 k1 k2 k3 k4 k5 k6 k7 B1 B2 B3 X5 K1 K3 K5 kA hcap hnil hC1 hT hr hb hS
    obtain ⟨X, hX⟩ : ∃ X, chkX sec off ty sy ad ls y = X := ⟨_, rfl⟩
    have cA : ∀ d os, Calls Tryd.prog 9 #[relW sec off ty sy ad, .slice a0 n cap0, .int .i64 y] (grow (redrawn w7 d) os) fun e w'' => e = .returned (.int .i64 X) ∧ ∃ p : Regrown, w'' = grow (redrawn w7 p.d) p.os := fun d os => Calls.regrown_of (by rw [← hX]; exact xcheck_walk sec off ty sy ad a0 n cap0 ls y _ ok.t0 ok.t1 hl0 hcap0 hn (S7.kept (below_regrown w7 d os)) ok.ou)
    have cB : ∀ d os, Calls Tryd.prog 18 #[relW sec off ty sy ad, .slice a0 n cap0, .int .i64 y] (grow (redrawn w7 d) os) fun e w'' => e = .returned (.int .i64 X) ∧ ∃ p : Regrown, w'' = grow (redrawn w7 p.d) p.os := fun d os => Calls.regrown_of (by rw [← hX]; exact rcheckX_walk sec off ty sy ad a0 n cap0 ls y _ ok.t0 ok.t1 hl0 hcap0 hn (S7.kept (below_regrown w7 d os)) ok.ou)
    obtain ⟨c0, c1, c2, c3, c4, _, _, _, _, _⟩ := B7
    obtain ⟨d0, d1', d2, d3, d4, _, _, _, _, _⟩ := X7
    obtain ⟨f0, f1, f2, f3, f4, _, _, _, _, _⟩ := Y7
    have x0 := cell_regrown c0
    have x1 := cell_regrown c1
    have x2 := cell_regrown c2
    have x3 := cell_regrown c3
    have x4 := cell_regrown c4
    have y0 := cell_regrown d0
    have y1 := cell_regrown d1'
    have y2 := cell_regrown d2
    have y3 := cell_regrown d3
    have y4 := cell_regrown d4
    have z0 := cell_regrown f0
    have z1 := cell_regrown f1
    have z2 := cell_regrown f2
    have z3 := cell_regrown f3
    have z4 := cell_regrown f4
    obtain ⟨sL, hsL⟩ : ∃ s, strOfNums L = s := ⟨_, rfl⟩
    obtain ⟨sl, hsl⟩ : ∃ s, strOfNums l = s := ⟨_, rfl⟩
    have t1 : ∀ d os, (convert 33 9 (.slice A2 nL C2)).run Tryd.prog (grow (redrawn w7 d) os) = .ok (.string sL) (grow (redrawn w7 d) os) := fun d os => by rw [← hsL]; exact str_len hnL (u2.kept (below_regrown w7 d os))
    have t2 : ∀ d os, (convert 33 9 (.slice A3 nL C3)).run Tryd.prog (grow (redrawn w7 d) os) = .ok (.string sL) (grow (redrawn w7 d) os) := fun d os => by rw [← hsL]; exact str_len hnL (u3.kept (below_regrown w7 d os))
    have t3 : ∀ d os, (convert 33 9 (.slice A1 m C1)).run Tryd.prog (grow (redrawn w7 d) os) = .ok (.string sl) (grow (redrawn w7 d) os) := fun d os => by rw [← hsl]; exact str_len hl (u1.kept (below_regrown w7 d os))
    have t4 : ∀ d os, (convert 33 9 (.slice a m cap)).run Tryd.prog (grow (redrawn w7 d) os) = .ok (.string sl) (grow (redrawn w7 d) os) := fun d os => by rw [← hsl]; exact str_len hl (u4.kept (below_regrown w7 d os))
    have i1 : (X == X) = true := by simp
    have i2 : (E == E) = true := by simp
    have i3 : (V == V) = true := by simp
    have i4 : (F == F) = true := by simp
    have i5 : (D == D) = true := by simp
    have i6 : (ro == ro) = true := by simp
    have i7 : (rt == rt) = true := by simp
    have i8 : (ry == ry) = true := by simp
    have i9 : (rd == rd) = true := by simp
    have q1 := beq_true (rfl : sL = sL)
    have q2 := beq_true (rfl : sl = sl)
    clear hX hsL hsl u1 u2 u3 u4 hR0 hl hnL c0 c1 c2 c3 c4 d0 d1' d2 d3 d4 f0 f1 f2 f3 f4 S7
    refine wp_region_quiet_below (by kernel_rfl) (by kernel_rfl) ?_
    repeat (quiet_step ((first | (go_at_call 9; exact cA _ _) | (go_at_call 18; exact cB _ _))))
    refine wpQuiet_nil ?_
    intro w8 hw8
    have K8 : Kept w7 w8 := by
      obtain ⟨⟨dq, osq⟩, e⟩ := hw8
      rw [e]
      exact below_regrown w7 dq osq
    go_wp2
    go_ret
    exact ⟨rfl, K7.trans K8⟩
end Go.Proofs.YtbfmichhpcaamaaDoor
