/- The law RelaBack, walked. -/
import Derived.Test.YtbfmichhpcaamaaDoorXk
namespace Go.Proofs.YtbfmichhpcaamaaDoor
open Go.RowKit

set_option maxRecDepth 20000 in
set_option maxHeartbeats 3200000 in
theorem back_walk (sec off ty sy ad : Int) (a : Option Addr) (m cap : Nat) (l : List Int) (w : World) (hT : Tab w) (ok : RelaOk sec off ty sy ad)
    (hl : l.length = m) (hcap : m ≤ cap) (hb : Byt w a l) (hr : ∀ x ∈ l, 0 ≤ x ∧ x < 256) :
    Calls Tryd.prog 5 #[relW sec off ty sy ad, .slice a m cap] w fun e w' => e = .returned (.bool true) ∧ Kept w w' := by
  obtain ⟨wa, hwa, B1, kA, sA⟩ := box_rela w sec off ty sy ad
  have hA := alive_walk wa (hT.kept kA)
  obtain ⟨ro, rt, ry, rd, F, hR0'⟩ : ∃ ro rt ry rd F, rdX l = (ro, rt, ry, rd, F) := ⟨_, _, _, _, _, rfl⟩
  have hR0 : Hid (rdX l = (ro, rt, ry, rd, F)) := hR0'
  clear hR0'
  have ht0 := ok.t0
  have ht1 := ok.t1
  go_enter Tryd.func5, Tryd.ntmps5
  go_upto_region 2 with (go_at_call 12; refine hA.mono ?_; rintro e w1 ⟨rfl, k1⟩)
  have B2 := B1.kept k1
  have K1 := kA.trans k1
  have B2' := B2
  obtain ⟨c0, c1, c2, c3, c4, _, _, _, _, _⟩ := B2'
  have hW := xwrite_walk sec off ty sy ad w1 (hT.kept K1) ht0 ht1
  cases hc : codX off ty sy ad with
  | false =>
    rw [(wx_no hc).1, (wx_no hc).2] at hW
    clear hc hA hwa B1
    go_upto_region 3 with (go_at_call 15; refine hW.mono ?_; rintro e w2 ⟨x2, rfl, O2, k2⟩)
    have K2 := K1.trans k2
    clear c0 c1 c2 c3 c4 hW O2 B2
    go_upto_region 8 with fail
    have hRd := xread_walk a m cap l ro rt ry rd F w2 (hT.kept K2) hl hcap (hb.kept K2) hr hR0
    rcases rdX_cases l hr with ⟨E0, hE0, hE1⟩ | ⟨o', t', y', d', hE0, h24, hst, hre⟩
    · have hq := hR0.out
      rw [hE0] at hq
      simp only [Prod.mk.injEq] at hq
      obtain ⟨rfl, rfl, rfl, rfl, rfl⟩ := hq
      have q : (E0 != 0) = true := by rw [bne_iff_ne]; exact hE1
      clear hE0 hE1 hR0 hr hb
      go_upto_region 9 with (go_at_call 11; refine hRd.mono ?_; rintro e w7 ⟨rfl, k7⟩)
      have B8 := XBx.new w7 0 0 0 0 0
      have k8 : Kept w7 (w7.alloc (relO 0 0 0 0 0)) := Kept.alloc _ _
      obtain ⟨w8, hw8⟩ : ∃ w8, w7.alloc (relO 0 0 0 0 0) = w8 := ⟨_, rfl⟩
      rw [hw8] at B8 k8 ⊢
      obtain ⟨c0, c1, c2, c3, c4, _, _, _, _, _⟩ := B8
      clear hw8 hRd
      go_wp2
      go_ret
      exact ⟨rfl, (Kept.trans K2 k7).trans k8⟩
    · have hq := hR0.out
      rw [hE0] at hq
      simp only [Prod.mk.injEq] at hq
      obtain ⟨rfl, rfl, rfl, rfl, rfl⟩ := hq
      have hty := (codX_has hst).1
      have hwx := wx_ok hst
      rw [hre] at hwx
      clear hE0 hR0 hst hre h24
      go_upto_region 9 with (go_at_call 11; refine hRd.mono ?_; rintro e w7 ⟨rfl, k7⟩)
      have B8 := XBx.new w7 0 o' t' y' d'
      have k8 : Kept w7 (w7.alloc (relO 0 o' t' y' d')) := Kept.alloc _ _
      obtain ⟨w8, hw8⟩ : ∃ w8, w7.alloc (relO 0 o' t' y' d') = w8 := ⟨_, rfl⟩
      rw [hw8] at B8 k8 ⊢
      have K8 := (Kept.trans K2 k7).trans k8
      obtain ⟨c0, c1, c2, c3, c4, _, _, _, _, _⟩ := B8
      have hW2 := xwrite_walk 0 o' t' y' d' w8 (hT.kept K8) (by omega) (by omega)
      rw [hwx.1, hwx.2] at hW2
      clear hw8 hRd hwx hty
      go_upto_region 12 with (go_at_call 15; refine hW2.mono ?_; rintro e wx ⟨xx, rfl, Ox, kx⟩)
      obtain ⟨Ax, Cx, rfl, _, bx, _⟩ := Ox.let hl
      have KX := Kept.trans K8 kx
      have S1 := str_len (cap := Cx) hl bx
      have S2 := str_len (cap := cap) hl (hb.kept KX)
      obtain ⟨ss, hss⟩ : ∃ s, strOfNums l = s := ⟨_, rfl⟩
      rw [hss] at S1 S2
      have q := beq_true (rfl : ss = ss)
      clear c0 c1 c2 c3 c4 hss Ox bx hW2 hr hb
      go_wp2
      go_ret
      exact ⟨rfl, KX⟩
  | true =>
    rw [(wx_ok hc).1, (wx_ok hc).2] at hW
    have hbk := rdX_back hc
    have hsl := relL_length off ty sy ad
    have hsr := relL_range off ty sy ad
    obtain ⟨L, hL0⟩ : ∃ L, relL off ty sy ad = L := ⟨_, rfl⟩
    rw [hL0] at hW hbk hsl hsr
    clear hc hL0 hA hwa B1
    go_upto_region 4 with (go_at_call 15; refine hW.mono ?_; rintro e w2 ⟨x2, rfl, O2, k2⟩)
    obtain ⟨A2, C2, rfl, hC2, y2, _⟩ := O2.let hsl
    have K2 := K1.trans k2
    have hR1 := xread_walk A2 24 C2 L off ty sy ad 0 w2 (hT.kept K2) hsl hC2 y2 hsr hbk
    clear c0 c1 c2 c3 c4 hW O2 y2 hC2 hbk hsr
    go_upto_region 5 with (go_at_call 11; refine hR1.mono ?_; rintro e w3 ⟨rfl, k3⟩)
    have B4 := XBx.new w3 0 off ty sy ad
    have k4 : Kept w3 (w3.alloc (relO 0 off ty sy ad)) := Kept.alloc _ _
    obtain ⟨w4, hw4⟩ : ∃ w4, w3.alloc (relO 0 off ty sy ad) = w4 := ⟨_, rfl⟩
    rw [hw4] at B4 k4 ⊢
    have B2a := ((B2.kept k2).kept k3).kept k4
    have hlt := B2.lt
    have k2s := k2.size
    have k3s := k3.size
    obtain ⟨bq, hbq⟩ : ∃ b, w3.heap.size = b := ⟨_, rfl⟩
    rw [hbq] at B4 k3s ⊢
    have hne : bq ≠ w.heap.size := by omega
    have B5 := B4.set0 sec
    have B2b := B2a.far bq 0 (.int .i64 sec) hne
    have K4 := (K2.trans k3).trans k4
    have K5 := K4.setCell (p := ⟨bq, 0, none⟩) (by show w.heap.size ≤ bq; omega) (.int .i64 sec)
    obtain ⟨w5, hw5⟩ : ∃ w5, w4.setCell ⟨bq, 0, none⟩ (.int .i64 sec) = w5 := ⟨_, rfl⟩
    rw [hw5] at B5 B2b K5
    have s0 := B4.c0
    have f0 := B4.f0
    have t0 := B2a.c0
    obtain ⟨c0, c1, c2, c3, c4, _, _, _, _, _⟩ := B5
    obtain ⟨d0, d1, d2, d3, d4, _, _, _, _, _⟩ := B2b
    clear hw4 hR1 hbq B4 B2a B2 k1 k2 k3 k4
    go_upto_region 8 with fail
    clear c0 c1 c2 c3 c4 d0 d1 d2 d3 d4 s0 f0 t0 hw5
    have hRd := xread_walk a m cap l ro rt ry rd F w5 (hT.kept K5) hl hcap (hb.kept K5) hr hR0
    rcases rdX_cases l hr with ⟨E0, hE0, hE1⟩ | ⟨o', t', y', d', hE0, h24, hst, hre⟩
    · have hq := hR0.out
      rw [hE0] at hq
      simp only [Prod.mk.injEq] at hq
      obtain ⟨rfl, rfl, rfl, rfl, rfl⟩ := hq
      have q : (E0 != 0) = true := by rw [bne_iff_ne]; exact hE1
      clear hE0 hE1 hR0 hr hb
      go_upto_region 9 with (go_at_call 11; refine hRd.mono ?_; rintro e w7 ⟨rfl, k7⟩)
      have B8 := XBx.new w7 0 0 0 0 0
      have k8 : Kept w7 (w7.alloc (relO 0 0 0 0 0)) := Kept.alloc _ _
      obtain ⟨w8, hw8⟩ : ∃ w8, w7.alloc (relO 0 0 0 0 0) = w8 := ⟨_, rfl⟩
      rw [hw8] at B8 k8 ⊢
      obtain ⟨c0, c1, c2, c3, c4, _, _, _, _, _⟩ := B8
      clear hw8 hRd
      go_wp2
      go_ret
      exact ⟨rfl, (Kept.trans K5 k7).trans k8⟩
    · have hq := hR0.out
      rw [hE0] at hq
      simp only [Prod.mk.injEq] at hq
      obtain ⟨rfl, rfl, rfl, rfl, rfl⟩ := hq
      have hty := (codX_has hst).1
      have hwx := wx_ok hst
      rw [hre] at hwx
      clear hE0 hR0 hst hre h24
      go_upto_region 9 with (go_at_call 11; refine hRd.mono ?_; rintro e w7 ⟨rfl, k7⟩)
      have B8 := XBx.new w7 0 o' t' y' d'
      have k8 : Kept w7 (w7.alloc (relO 0 o' t' y' d')) := Kept.alloc _ _
      obtain ⟨w8, hw8⟩ : ∃ w8, w7.alloc (relO 0 o' t' y' d') = w8 := ⟨_, rfl⟩
      rw [hw8] at B8 k8 ⊢
      have K8 := (Kept.trans K5 k7).trans k8
      obtain ⟨c0, c1, c2, c3, c4, _, _, _, _, _⟩ := B8
      have hW2 := xwrite_walk 0 o' t' y' d' w8 (hT.kept K8) (by omega) (by omega)
      rw [hwx.1, hwx.2] at hW2
      clear hw8 hRd hwx hty
      go_upto_region 12 with (go_at_call 15; refine hW2.mono ?_; rintro e wx ⟨xx, rfl, Ox, kx⟩)
      obtain ⟨Ax, Cx, rfl, _, bx, _⟩ := Ox.let hl
      have KX := Kept.trans K8 kx
      have S1 := str_len (cap := Cx) hl bx
      have S2 := str_len (cap := cap) hl (hb.kept KX)
      obtain ⟨ss, hss⟩ : ∃ s, strOfNums l = s := ⟨_, rfl⟩
      rw [hss] at S1 S2
      have q := beq_true (rfl : ss = ss)
      clear c0 c1 c2 c3 c4 hss Ox bx hW2 hr hb
      go_wp2
      go_ret
      exact ⟨rfl, KX⟩
end Go.Proofs.YtbfmichhpcaamaaDoor
