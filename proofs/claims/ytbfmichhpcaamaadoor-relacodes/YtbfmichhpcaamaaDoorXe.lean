/- What the document's own Check, Bytes and Write give. -/
import Derived.Test.YtbfmichhpcaamaaDoorXd
import Derived.Test.YtbfmichhpcaamaaDoorRp
namespace Go.Proofs.YtbfmichhpcaamaaDoor
open Go.RowKit

set_option maxRecDepth 20000 in
set_option maxHeartbeats 3200000 in
theorem rcheckX_walk (sec off ty sy ad : Int) (a : Option Addr) (n cap : Nat) (l : List SecV) (y : Int) (w : World) (h0 : 0 ≤ ty) (h1 : ty < 256) (hl : l.length = n) (hcap : n ≤ cap) (hn : n ≤ maxLen) (hS : Secs w a l) (ho : off ≤ 9223372036854775807) :
    Calls Tryd.prog 18 #[relW sec off ty sy ad, .slice a n cap, .int .i64 y] w fun e w' => e = .returned (.int .i64 (chkX sec off ty sy ad l y)) ∧ Kept w w' := by
  obtain ⟨wa, hwa, B1, kA, sA⟩ := box_rela w sec off ty sy ad
  have hmx : maxLen ≤ 9223372036854775807 := by decide
  by_cases hm : 16 < n
  · rw [chkX_many (by omega)]
    have d1 : decide (16 < (n : Int)) = true := decide_eq_true (by omega)
    clear hS B1
    go_enter Tryd.func18, Tryd.ntmps18
    go_wp2
    go_ret
    exact ⟨rfl, kA⟩
  have d1 : decide (16 < (n : Int)) = false := decide_eq_false (by omega)
  by_cases hy0 : y < 0
  · rw [chkX_arg (by omega) (.inl hy0)]
    have d2 : decide (y < 0) = true := decide_eq_true hy0
    clear hS B1
    go_enter Tryd.func18, Tryd.ntmps18
    go_wp2
    go_ret
    exact ⟨rfl, kA⟩
  have d2 : decide (y < 0) = false := decide_eq_false hy0
  by_cases hy1 : 64 < y
  · rw [chkX_arg (by omega) (.inr hy1)]
    have d3 : decide (64 < y) = true := decide_eq_true hy1
    clear hS B1
    go_enter Tryd.func18, Tryd.ntmps18
    go_wp2
    go_ret
    exact ⟨rfl, kA⟩
  have d3 : decide (64 < y) = false := decide_eq_false hy1
  have HN : Hid (l.length = n ∧ n ≤ 16 ∧ 0 ≤ y ∧ y ≤ 64) := ⟨hl, by omega, by omega, by omega⟩
  have hn16 : n ≤ 16 := by omega
  clear hm hy0 hy1
  go_enter Tryd.func18, Tryd.ntmps18
  go_wp2
  go_loopw [7] (fun i wr => ∃ k : Nat, k ≤ n ∧ i = .int .i64 k ∧ Kept wa wr ∧ Hid (∀ j, j < k → okS (l.getD j secNo) = true)) (fun i _ => n - (intOf i).toNat)
  case atStart => exact ⟨0, Nat.zero_le _, rfl, Kept.refl _, fun j hj => absurd hj (Nat.not_lt_zero _)⟩
  case round =>
    obtain ⟨k, hk, rfl, S0, A⟩ := hrel
    have S := kA.trans S0
    by_cases hlt : k < n
    · obtain ⟨b, o, rfl, hAt⟩ := (hS.kept S).at (show k < l.length by omega)
      obtain ⟨v, hv⟩ : ∃ v, l.getD k secNo = v := ⟨_, rfl⟩
      have HV : Hid (l.getD k secNo = v) := hv
      obtain ⟨s, al, a', cp, sz, z⟩ := v
      rw [hv] at hAt
      have x0 : wr.cell? ⟨b, o + k * 4, none⟩ = some (.string s) := hAt.c0
      have x1 : wr.cell? ⟨b, o + k * 4 + 1, none⟩ = some (.int .i64 al) := hAt.c1
      have x2 : wr.cell? ⟨b, o + k * 4 + 2, none⟩ = some (.slice a' z.length cp) := hAt.c2
      have x3 : wr.cell? ⟨b, o + k * 4 + 3, none⟩ = some (.int .i64 sz) := hAt.c3
      have hsz : s.size ≤ maxLen := hAt.ok.size
      have HO : Hid (okS ⟨s, al, a', cp, sz, z⟩ = sectB (nm s) al z.length sz) := rfl
      obtain ⟨len, hlen⟩ : ∃ len, z.length = len := ⟨_, rfl⟩
      rw [hlen] at x2 HO
      have hC := fun w => rmay_walk s al a' len cp sz w hsz
      cases hg : sectB (nm s) al len sz with
      | false =>
        rw [hg] at hC
        have HR : Hid (chkX sec off ty sy ad l y = 8) := chkX_sec (by omega) HN.out.2.2.1 HN.out.2.2.2 (some_noS (show k < l.length by omega) (by rw [HV.out, HO.out, hg]))
        clear hS hv hAt hlen hsz hg B1 A hwa
        go_wp2_with (go_at_call 31; refine (hC _).mono ?_; rintro e w4 ⟨rfl, k4⟩)
        go_ret
        exact ⟨by rw [HR.out]; rfl, S.trans k4⟩
      | true =>
        rw [hg] at hC
        have A' : Hid (∀ j, j < k + 1 → okS (l.getD j secNo) = true) := fun j hj => by
          by_cases e : j = k
          · subst e; rw [HV.out, HO.out, hg]
          · exact A.out j (by omega)
        clear hS hv hAt hlen hsz hg B1 A hwa
        go_wp2_with (go_at_call 31; refine (hC _).mono ?_; rintro e w4 ⟨rfl, k4⟩)
        go_roundw
        case rel => exact ⟨k + 1, by omega, by go_num, S0.trans k4, A'⟩
        case measure => simp [intOf]; omega
    · obtain rfl : k = n := by omega
      have hall := all_okS HN.out.1 A.out
      have hin := chkX_in (sec := sec) (off := off) (ty := ty) (sy := sy) (ad := ad) (l := l) (n := y) (by omega) HN.out.2.2.1 HN.out.2.2.2 hall
      have hMy := rmayX_walk sec off ty sy ad a k cap l y wr h0 h1 hl hcap hn (hS.kept S) ho hall
      obtain ⟨c0, c1, c2, c3, c4, _, _, _, _, _⟩ := B1.kept S0
      obtain ⟨g1, hg1⟩ : ∃ g, mayX sec off ty sy ad l y = g := ⟨_, rfl⟩
      rw [hg1] at hin hMy
      have HI : Hid (chkX sec off ty sy ad l y = if g1 = true then 0 else 8) := hin
      clear hin hall A hg1 hwa B1 h0 h1 ho hl hcap hn HN hS
      cases g1 with
      | false =>
        go_wp2_with (go_at_call 32; refine hMy.mono ?_; rintro e w5 ⟨rfl, k5⟩)
        go_ret
        exact ⟨by rw [HI.out]; rfl, S.trans k5⟩
      | true =>
        go_wp2_with (go_at_call 32; refine hMy.mono ?_; rintro e w5 ⟨rfl, k5⟩)
        go_ret
        exact ⟨by rw [HI.out]; rfl, S.trans k5⟩

set_option maxRecDepth 20000 in
set_option maxHeartbeats 3200000 in
theorem rbytesX_walk (sec off ty sy ad : Int) (w : World) (h0 : 0 ≤ ty) (h1 : ty < 256) (hs0 : -1 ≤ sy) (hs1 : sy < 64) :
    Calls Tryd.prog 29 #[relW sec off ty sy ad] w fun e w' => ∃ x, e = .returned x ∧ Own w' w.heap.size x (relL off ty sy ad) ∧ Kept w w' := by
  obtain ⟨wa, hwa, B1, kA, sA⟩ := box_rela w sec off ty sy ad
  obtain ⟨c0, c1, c2, c3, c4, _, _, _, _, _⟩ := B1
  have hB4 : ∀ n w, Calls Tryd.prog 42 #[.int .i64 n, .int .i64 4] w fun e w' => ∃ x, e = .returned x ∧ Own w' w.heap.size x (byN (uOf n) 4) ∧ Kept w w' := fun n w => bytes_walk n 4 w (by decide)
  have hB8 : ∀ n w, Calls Tryd.prog 42 #[.int .i64 n, .int .i64 8] w fun e w' => ∃ x, e = .returned x ∧ Own w' w.heap.size x (byN (uOf n) 8) ∧ Kept w w' := fun n w => bytes_walk n 8 w (by decide)
  have E1 : Hid (byN (uOf off) 8 = relP (relN off ty sy ad) 1) := (relP_succ (v := relN off ty sy ad) rfl (by decide : 0 < 4)).symm
  have E2 : Hid (relP (relN off ty sy ad) 1 ++ byN (uOf ty) 4 = relP (relN off ty sy ad) 2) := (relP_succ rfl (by decide)).symm
  have E3 : Hid (relP (relN off ty sy ad) 2 ++ byN (uOf (sy + 1)) 4 = relP (relN off ty sy ad) 3) := (relP_succ rfl (by decide)).symm
  have E4 : Hid (relP (relN off ty sy ad) 3 ++ byN (uOf ad) 8 = relL off ty sy ad) := (relP_succ (v := relN off ty sy ad) rfl (by decide : 3 < 4)).symm.trans (relP_four rfl)
  have L1 := relP_le (relN_length off ty sy ad) 1 (by decide)
  have L2 := relP_le (relN_length off ty sy ad) 2 (by decide)
  have L3 := relP_le (relN_length off ty sy ad) 3 (by decide)
  obtain ⟨v, hv⟩ : ∃ v, relN off ty sy ad = v := ⟨_, rfl⟩
  rw [hv] at E1 E2 E3 E4 L1 L2 L3
  obtain ⟨L, hL⟩ : ∃ L, relL off ty sy ad = L := ⟨_, rfl⟩
  rw [hL] at E4 ⊢
  have hsa : w.heap.size ≤ wa.heap.size := kA.size
  clear hv hL
  go_enter Tryd.func29, Tryd.ntmps29
  go_upto_region 2 with (go_at_call 42; refine (hB8 _ _).mono ?_; rintro e w1 ⟨x1, rfl, O1, K1⟩)
  replace O1 : Own w1 wa.heap.size x1 (relP v 1) := own_app O1 E1.out
  have d1 : w1.cell? ⟨w.heap.size, 2, none⟩ = some (.int .u8 ty) := Kept.cell K1 c2
  go_upto_region 3 with (first
    | (go_at_call 42; refine (hB4 _ _).mono ?_; rintro e wq ⟨xq, rfl, Oq, Kq⟩; obtain ⟨Aq, Cq, rfl, _, bq, nq⟩ := Oq.let (byN_length _ _); have P3 := own_keep O1 Kq)
    | (at_builtin; refine wpList_append_byt rfl _ _ rfl wa.heap.size x1 (relP v 1) (byN _ 4) Aq Cq rfl (by rw [byN_length]; rfl) P3 bq (by rw [byN_length]; exact nq) (by rw [byN_length]; omega) wa (Kept.trans K1 Kq) (Kept.trans K1 Kq).size ?_; intro x4 w4 O4 K4))
  replace O4 : Own w4 wa.heap.size x4 (relP v 2) := own_app O4 E2.out
  clear O1 P3 K1 Oq Kq bq nq d1
  have d4 : w4.cell? ⟨w.heap.size, 3, none⟩ = some (.int .i64 sy) := Kept.cell K4 c3
  go_upto_region 4 with (first
    | (go_at_call 42; refine (hB4 _ _).mono ?_; rintro e wq ⟨xq, rfl, Oq, Kq⟩; obtain ⟨Aq, Cq, rfl, _, bq, nq⟩ := Oq.let (byN_length _ _); have P4 := own_keep O4 Kq)
    | (at_builtin; refine wpList_append_byt rfl _ _ rfl wa.heap.size x4 (relP v 2) (byN _ 4) Aq Cq rfl (by rw [byN_length]; rfl) P4 bq (by rw [byN_length]; exact nq) (by rw [byN_length]; omega) wa (Kept.trans K4 Kq) (Kept.trans K4 Kq).size ?_; intro x5 w5 O5 K5))
  replace O5 : Own w5 wa.heap.size x5 (relP v 3) := own_app O5 E3.out
  clear O4 P4 K4 Oq Kq bq nq d4
  have d5 : w5.cell? ⟨w.heap.size, 4, none⟩ = some (.int .i64 ad) := Kept.cell K5 c4
  go_wp2_with (first
    | (go_at_call 42; refine (hB8 _ _).mono ?_; rintro e wq ⟨xq, rfl, Oq, Kq⟩; obtain ⟨Aq, Cq, rfl, _, bq, nq⟩ := Oq.let (byN_length _ _); have P5 := own_keep O5 Kq)
    | (at_builtin; refine wpList_append_byt rfl _ _ rfl wa.heap.size x5 (relP v 3) (byN (uOf ad) 8) Aq Cq rfl (by rw [byN_length]; rfl) P5 bq (by rw [byN_length]; exact nq) (by rw [byN_length]; omega) wa (Kept.trans K5 Kq) (Kept.trans K5 Kq).size ?_; intro x6 w6 O6 K6))
  replace O6 : Own w6 wa.heap.size x6 L := own_app O6 E4.out
  go_ret
  exact ⟨_, rfl, own_base O6 hsa, Kept.trans kA K6⟩

set_option maxHeartbeats 1600000 in
theorem rwriteX_walk (sec off ty sy ad : Int) (w : World) (h0 : 0 ≤ ty) (h1 : ty < 256) :
    Calls Tryd.prog 16 #[relW sec off ty sy ad] w fun e w' => ∃ x, e = .returned (.tuple #[x, .int .i64 (wxE off ty sy ad)]) ∧ Own w' w.heap.size x (wxL off ty sy ad) ∧ Kept w w' := by
  obtain ⟨wa, hwa, B1, kA, sA⟩ := box_rela w sec off ty sy ad
  have B1' := B1
  obtain ⟨c0, c1, c2, c3, c4, _, _, _, _, _⟩ := B1'
  have hC := fun w => rcoded_walk sec off ty sy ad w
  cases hok : codX off ty sy ad with
  | false =>
    rw [hok] at hC
    rw [(wx_no hok).1, (wx_no hok).2]
    clear hok
    go_enter Tryd.func16, Tryd.ntmps16
    go_wp2_with (go_at_call 28; refine (hC _).mono ?_; rintro e w1 ⟨rfl, k1⟩)
    go_ret2
    exact ⟨_, rfl, Own.nil _ _, kA.trans k1⟩
  | true =>
    rw [hok] at hC
    rw [(wx_ok hok).1, (wx_ok hok).2]
    have hh := codX_has hok
    have hB := fun w => rbytesX_walk sec off ty sy ad w h0 h1 hh.2.2.1.1 hh.2.2.1.2
    clear hok hh
    go_enter Tryd.func16, Tryd.ntmps16
    go_upto_region 3 with (go_at_call 28; refine (hC _).mono ?_; rintro e w1 ⟨rfl, k1⟩)
    clear c0 c1 c2 c3 c4
    have K1 := kA.trans k1
    have hs1 := K1.size
    obtain ⟨c0, c1, c2, c3, c4, _, _, _, _, _⟩ := B1.kept k1
    go_wp2_with (go_at_call 29; refine (hB _).mono ?_; rintro e w2 ⟨x, rfl, O2, k2⟩)
    go_ret2
    exact ⟨_, rfl, own_base O2 hs1, K1.trans k2⟩
end Go.Proofs.YtbfmichhpcaamaaDoor
