/- The law SymBack, walked. -/
import Derived.Test.YteehekoajemciaaDoorKit
namespace Go.Proofs.YteehekoajemciaaDoor
open Go.RowKit

theorem any_may : mayNm (nm ⟨#[97, 110, 121]⟩) = true := by decide +kernel
set_option maxRecDepth 20000 in
set_option maxHeartbeats 3200000 in
theorem back_walk (s : ByteArray) (bind : Int) (hid : Bool) (wh val sz name : Int) (a : Option Addr) (m cap : Nat) (l : List Int) (w : World) (hT : Tab w) (ok : SymOk s bind wh val sz)
    (hl : l.length = m) (hcap : m ≤ cap) (hb : Byt w a l) (hr : ∀ x ∈ l, 0 ≤ x ∧ x < 256) :
    Calls Tryd.prog 5 #[symW s bind hid wh val sz, .int .i64 name, .slice a m cap] w fun e w' => e = .returned (.bool true) ∧ Kept w w' := by
  have B1 := SBx.new w s bind hid wh val sz
  obtain ⟨wa, hwa⟩ : ∃ wa, w.alloc (symO s bind hid wh val sz) = wa := ⟨_, rfl⟩
  rw [hwa] at B1
  have kA : Kept w wa := by rw [← hwa]; exact Kept.alloc _ _
  have hA := alive_walk wa (hT.kept kA)
  obtain ⟨rb, rh, rw, rv, rz, rn, F, hR0'⟩ : ∃ rb rh rw rv rz rn F, rdY l = (rb, rh, rw, rv, rz, rn, F) := ⟨_, _, _, _, _, _, _, rfl⟩
  have hR0 : Hid (rdY l = (rb, rh, rw, rv, rz, rn, F)) := hR0'
  clear hR0'
  go_enter Tryd.func5, Tryd.ntmps5
  go_upto_region 2 with (go_at_call 12; refine hA.mono ?_; rintro e w1 ⟨rfl, k1⟩)
  have B2 := B1.kept k1
  have K1 := kA.trans k1
  have B2' := B2
  obtain ⟨c0, c1, c2, c3, c4, c5, _, _, _, _, _, _⟩ := B2'
  have hW := ywrite_walk s bind hid wh val sz name w1 (hT.kept K1) ok.size ok.b0
  rcases wy_cases (nm s) bind hid wh val sz name with ⟨hE, hL⟩ | ⟨hE, hL, hok, hn0, hn1⟩
  · obtain ⟨E, hE0⟩ : ∃ E, wyE (nm s) bind hid wh val sz name = E := ⟨_, rfl⟩
    rw [hE0, hL] at hW
    rw [hE0] at hE
    have q0 : (E == 0) = false := by rw [beq_eq_false_iff_ne]; exact hE
    clear hE hL hE0 hA hwa B1
    go_upto_region 3 with (go_at_call 10; refine hW.mono ?_; rintro e w2 ⟨x2, rfl, O2, k2⟩)
    have K2 := K1.trans k2
    clear c0 c1 c2 c3 c4 c5 hW O2 B2
    go_upto_region 8 with fail
    have hRd := yread_walk a m cap l rb rh rw rv rz rn F w2 (hT.kept K2) hl hcap (hb.kept K2) hr hR0
    rcases rd_casesY l hr with ⟨E0, hE0, hE1⟩ | ⟨b', h', w', v', z', n', hE0, h24, hst, hnm, hsy⟩
    · have hq := hR0.out
      rw [hE0] at hq
      simp only [Prod.mk.injEq] at hq
      obtain ⟨rfl, rfl, rfl, rfl, rfl, rfl, rfl⟩ := hq
      have q : (E0 != 0) = true := by rw [bne_iff_ne]; exact hE1
      have qs : ((⟨#[]⟩ : ByteArray).toList == (⟨#[]⟩ : ByteArray).toList) = true := beq_true rfl
      clear hE0 hE1 hR0 hr hb
      go_upto_region 9 with (go_at_call 11; refine hRd.mono ?_; rintro e w7 ⟨rfl, k7⟩)
      have B8 := SBx.new w7 ⟨#[]⟩ 0 false 0 0 0
      have k8 : Kept w7 (w7.alloc (symO ⟨#[]⟩ 0 false 0 0 0)) := Kept.alloc _ _
      obtain ⟨w8, hw8⟩ : ∃ w8, w7.alloc (symO ⟨#[]⟩ 0 false 0 0 0) = w8 := ⟨_, rfl⟩
      rw [hw8] at B8 k8 ⊢
      obtain ⟨c0, c1, c2, c3, c4, c5, _, _, _, _, _, _⟩ := B8
      clear hw8 hRd
      go_wp2
      go_ret
      exact ⟨rfl, (Kept.trans K2 k7).trans k8⟩
    · have hq := hR0.out
      rw [hE0] at hq
      simp only [Prod.mk.injEq] at hq
      obtain ⟨rfl, rfl, rfl, rfl, rfl, rfl, rfl⟩ := hq
      have hb0 : 0 ≤ b' := (stands_has hst).1.1
      have hok : okY (nm ⟨#[97, 110, 121]⟩) b' h' w' v' z' 16 = true := by unfold okY; rw [any_may, hst]; rfl
      have hwy := wy_ok hok hnm.1 hnm.2
      rw [hsy] at hwy
      clear hE0 hR0 hst hnm hsy hok h24
      go_upto_region 9 with (go_at_call 11; refine hRd.mono ?_; rintro e w7 ⟨rfl, k7⟩)
      have B8 := SBx.new w7 ⟨#[]⟩ b' h' w' v' z'
      have k8 : Kept w7 (w7.alloc (symO ⟨#[]⟩ b' h' w' v' z')) := Kept.alloc _ _
      obtain ⟨w8, hw8⟩ : ∃ w8, w7.alloc (symO ⟨#[]⟩ b' h' w' v' z') = w8 := ⟨_, rfl⟩
      rw [hw8] at B8 k8 ⊢
      have hlt := (K2).size
      have k7s := k7.size
      obtain ⟨bq, hbq⟩ : ∃ b, w7.heap.size = b := ⟨_, rfl⟩
      rw [hbq] at B8 k7s ⊢
      have B9 := B8.set0 ⟨#[97, 110, 121]⟩
      have K8 := (Kept.trans K2 k7).trans k8
      have K9 := K8.setCell (p := ⟨bq, 0, none⟩) (by show w.heap.size ≤ bq; omega) (.string ⟨#[97, 110, 121]⟩)
      obtain ⟨w9, hw9⟩ : ∃ w9, w8.setCell ⟨bq, 0, none⟩ (.string ⟨#[97, 110, 121]⟩) = w9 := ⟨_, rfl⟩
      rw [hw9] at B9 K9
      have s0 := B8.c0
      have f0 := B8.f0
      obtain ⟨c0, c1, c2, c3, c4, c5, _, _, _, _, _, _⟩ := B9
      have hW2 := ywrite_walk ⟨#[97, 110, 121]⟩ b' h' w' v' z' n' w9 (hT.kept K9) (by decide) hb0
      rw [hwy.1, hwy.2] at hW2
      clear hw8 hRd hwy B8 hbq
      go_upto_region 13 with (go_at_call 10; refine hW2.mono ?_; rintro e wx ⟨xx, rfl, Ox, kx⟩)
      obtain ⟨Ax, Cx, rfl, _, bx, _⟩ := Ox.let hl
      have KX := Kept.trans K9 kx
      have S1 := str_len (cap := Cx) hl bx
      have S2 := str_len (cap := cap) hl (hb.kept KX)
      obtain ⟨ss, hss⟩ : ∃ s, strOfNums l = s := ⟨_, rfl⟩
      rw [hss] at S1 S2
      have q := beq_true (rfl : ss = ss)
      clear c0 c1 c2 c3 c4 c5 s0 f0 hw9 hss Ox bx hW2 hr hb
      go_wp2
      go_ret
      exact ⟨rfl, KX⟩
  · rw [hE, hL] at hW
    have hst := (okY_has hok).2
    have hbk := rdY_back ⟨hn0, hn1⟩ hst
    have hsl := symL_length name bind hid wh val sz
    have hsr := symL_range name bind hid wh val sz
    obtain ⟨L, hL0⟩ : ∃ L, symL name bind hid wh val sz = L := ⟨_, rfl⟩
    rw [hL0] at hW hbk hsl hsr
    clear hE hL hok hn0 hn1 hst hL0 hA hwa B1
    go_upto_region 4 with (go_at_call 10; refine hW.mono ?_; rintro e w2 ⟨x2, rfl, O2, k2⟩)
    obtain ⟨A2, C2, rfl, hC2, y2, _⟩ := O2.let hsl
    have K2 := K1.trans k2
    have hR1 := yread_walk A2 24 C2 L bind hid wh val sz name 0 w2 (hT.kept K2) hsl hC2 y2 hsr hbk
    clear c0 c1 c2 c3 c4 c5 hW O2 y2 hC2 hbk hsr
    go_upto_region 5 with (go_at_call 11; refine hR1.mono ?_; rintro e w3 ⟨rfl, k3⟩)
    have B4 := SBx.new w3 ⟨#[]⟩ bind hid wh val sz
    have k4 : Kept w3 (w3.alloc (symO ⟨#[]⟩ bind hid wh val sz)) := Kept.alloc _ _
    obtain ⟨w4, hw4⟩ : ∃ w4, w3.alloc (symO ⟨#[]⟩ bind hid wh val sz) = w4 := ⟨_, rfl⟩
    rw [hw4] at B4 k4 ⊢
    have B2a := ((B2.kept k2).kept k3).kept k4
    have hlt := B2.lt
    have k2s := k2.size
    have k3s := k3.size
    obtain ⟨bq, hbq⟩ : ∃ b, w3.heap.size = b := ⟨_, rfl⟩
    rw [hbq] at B4 k3s ⊢
    have hne : bq ≠ w.heap.size := by omega
    have B5 := B4.set0 s
    have B2b := B2a.far bq 0 (.string s) hne
    have K4 := (K2.trans k3).trans k4
    have K5 := K4.setCell (p := ⟨bq, 0, none⟩) (by show w.heap.size ≤ bq; omega) (.string s)
    obtain ⟨w5, hw5⟩ : ∃ w5, w4.setCell ⟨bq, 0, none⟩ (.string s) = w5 := ⟨_, rfl⟩
    rw [hw5] at B5 B2b K5
    have s0 := B4.c0
    have f0 := B4.f0
    have t0 := B2a.c0
    obtain ⟨c0, c1, c2, c3, c4, c5, _, _, _, _, _, _⟩ := B5
    obtain ⟨d0, d1, d2, d3, d4, d5, _, _, _, _, _, _⟩ := B2b
    have qs : (s.toList == s.toList) = true := beq_true rfl
    have qh : (hid == hid) = true := by cases hid <;> rfl
    clear hw4 hR1 hbq B4 B2a B2 k1 k2 k3 k4
    go_upto_region 8 with fail
    clear c0 c1 c2 c3 c4 c5 d0 d1 d2 d3 d4 d5 s0 f0 t0 hw5 qs qh
    have hRd := yread_walk a m cap l rb rh rw rv rz rn F w5 (hT.kept K5) hl hcap (hb.kept K5) hr hR0
    rcases rd_casesY l hr with ⟨E0, hE0, hE1⟩ | ⟨b', h', w', v', z', n', hE0, h24, hst, hnm, hsy⟩
    · have hq := hR0.out
      rw [hE0] at hq
      simp only [Prod.mk.injEq] at hq
      obtain ⟨rfl, rfl, rfl, rfl, rfl, rfl, rfl⟩ := hq
      have q : (E0 != 0) = true := by rw [bne_iff_ne]; exact hE1
      have qs : ((⟨#[]⟩ : ByteArray).toList == (⟨#[]⟩ : ByteArray).toList) = true := beq_true rfl
      clear hE0 hE1 hR0 hr hb
      go_upto_region 9 with (go_at_call 11; refine hRd.mono ?_; rintro e w7 ⟨rfl, k7⟩)
      have B8 := SBx.new w7 ⟨#[]⟩ 0 false 0 0 0
      have k8 : Kept w7 (w7.alloc (symO ⟨#[]⟩ 0 false 0 0 0)) := Kept.alloc _ _
      obtain ⟨w8, hw8⟩ : ∃ w8, w7.alloc (symO ⟨#[]⟩ 0 false 0 0 0) = w8 := ⟨_, rfl⟩
      rw [hw8] at B8 k8 ⊢
      obtain ⟨c0, c1, c2, c3, c4, c5, _, _, _, _, _, _⟩ := B8
      clear hw8 hRd
      go_wp2
      go_ret
      exact ⟨rfl, (Kept.trans K5 k7).trans k8⟩
    · have hq := hR0.out
      rw [hE0] at hq
      simp only [Prod.mk.injEq] at hq
      obtain ⟨rfl, rfl, rfl, rfl, rfl, rfl, rfl⟩ := hq
      have hb0 : 0 ≤ b' := (stands_has hst).1.1
      have hok : okY (nm ⟨#[97, 110, 121]⟩) b' h' w' v' z' 16 = true := by unfold okY; rw [any_may, hst]; rfl
      have hwy := wy_ok hok hnm.1 hnm.2
      rw [hsy] at hwy
      clear hE0 hR0 hst hnm hsy hok h24
      go_upto_region 9 with (go_at_call 11; refine hRd.mono ?_; rintro e w7 ⟨rfl, k7⟩)
      have B8 := SBx.new w7 ⟨#[]⟩ b' h' w' v' z'
      have k8 : Kept w7 (w7.alloc (symO ⟨#[]⟩ b' h' w' v' z')) := Kept.alloc _ _
      obtain ⟨w8, hw8⟩ : ∃ w8, w7.alloc (symO ⟨#[]⟩ b' h' w' v' z') = w8 := ⟨_, rfl⟩
      rw [hw8] at B8 k8 ⊢
      have hlt := (K5).size
      have k7s := k7.size
      obtain ⟨bq, hbq⟩ : ∃ b, w7.heap.size = b := ⟨_, rfl⟩
      rw [hbq] at B8 k7s ⊢
      have B9 := B8.set0 ⟨#[97, 110, 121]⟩
      have K8 := (Kept.trans K5 k7).trans k8
      have K9 := K8.setCell (p := ⟨bq, 0, none⟩) (by show w.heap.size ≤ bq; omega) (.string ⟨#[97, 110, 121]⟩)
      obtain ⟨w9, hw9⟩ : ∃ w9, w8.setCell ⟨bq, 0, none⟩ (.string ⟨#[97, 110, 121]⟩) = w9 := ⟨_, rfl⟩
      rw [hw9] at B9 K9
      have s0 := B8.c0
      have f0 := B8.f0
      obtain ⟨c0, c1, c2, c3, c4, c5, _, _, _, _, _, _⟩ := B9
      have hW2 := ywrite_walk ⟨#[97, 110, 121]⟩ b' h' w' v' z' n' w9 (hT.kept K9) (by decide) hb0
      rw [hwy.1, hwy.2] at hW2
      clear hw8 hRd hwy B8 hbq
      go_upto_region 13 with (go_at_call 10; refine hW2.mono ?_; rintro e wx ⟨xx, rfl, Ox, kx⟩)
      obtain ⟨Ax, Cx, rfl, _, bx, _⟩ := Ox.let hl
      have KX := Kept.trans K9 kx
      have S1 := str_len (cap := Cx) hl bx
      have S2 := str_len (cap := cap) hl (hb.kept KX)
      obtain ⟨ss, hss⟩ : ∃ s, strOfNums l = s := ⟨_, rfl⟩
      rw [hss] at S1 S2
      have q := beq_true (rfl : ss = ss)
      clear c0 c1 c2 c3 c4 c5 s0 f0 hw9 hss Ox bx hW2 hr hb
      go_wp2
      go_ret
      exact ⟨rfl, KX⟩
end Go.Proofs.YteehekoajemciaaDoor
