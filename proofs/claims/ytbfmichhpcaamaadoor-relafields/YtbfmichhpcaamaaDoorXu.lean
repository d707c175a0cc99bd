/- The law RelaFields, walked. -/
import Derived.Test.YtbfmichhpcaamaaDoorXk
import Derived.Deep.DeepCutAuto
namespace Go.Proofs.YtbfmichhpcaamaaDoor
open Go.RowKit

theorem ownX_byt {w : World} {base n C : Nat} {A : Option Addr} {L : List Int} (h : Own w base (.slice A n C) L) (hn : L.length = n) : Byt w A L := by
  obtain ⟨a, c, e, _, y, _⟩ := h.let hn
  simp only [Value.slice.injEq] at e
  obtain ⟨rfl, _, _⟩ := e
  exact y
theorem fd_cases (k : Int) : (fdV k = 0 ∧ fdE k = 2) ∨ (fdV k = 0 ∧ fdE k = 0) ∨ (fdV k = 1 ∧ fdE k = 0) ∨ (fdV k = 2 ∧ fdE k = 0) ∨ (fdV k = 4 ∧ fdE k = 0) ∨ (fdV k = 8 ∧ fdE k = 0) := by
  by_cases h : TyB k
  · obtain ⟨e1, e2⟩ := fd_yes h
    rcases abt_yes h with e | e | e | e | e <;> rw [e1, e2, e] <;> decide
  · exact .inl (fd_no h)

set_option maxRecDepth 20000 in
set_option maxHeartbeats 3200000 in
theorem fields_walk (kd : Int) (sec off ty sy ad sec' off' ty' sy' ad' : Int) (w : World) (hT : Tab w) (ok : RelaOk sec off ty sy ad) (ok' : RelaOk sec' off' ty' sy' ad') :
    Calls Tryd.prog 7 #[.int .u8 kd, relW sec off ty sy ad, relW sec' off' ty' sy' ad'] w fun e w' => e = .returned (.bool true) ∧ Kept w w' := by
  obtain ⟨wa, hwa, B1, kA, sA⟩ := box_rela w sec off ty sy ad
  obtain ⟨wb, hwb, D1, kB, sB⟩ := box_rela wa sec' off' ty' sy' ad'
  rw [sA] at D1
  have K0 := kA.trans kB
  have hA := alive_walk wb (hT.kept K0)
  have hF := fun w => field_walk kd w
  have HF : Hid ((fdV kd = 0 ∧ fdE kd = 2) ∨ (fdV kd = 0 ∧ fdE kd = 0) ∨ (fdV kd = 1 ∧ fdE kd = 0) ∨ (fdV kd = 2 ∧ fdE kd = 0) ∨ (fdV kd = 4 ∧ fdE kd = 0) ∨ (fdV kd = 8 ∧ fdE kd = 0)) := fd_cases kd
  obtain ⟨V, hV⟩ : ∃ V, fdV kd = V := ⟨_, rfl⟩
  obtain ⟨E, hE⟩ : ∃ E, fdE kd = E := ⟨_, rfl⟩
  rw [hV, hE] at hF HF
  clear hV hE
  go_enter Tryd.func7, Tryd.ntmps7
  go_upto_region 2 with (go_at_call 12; refine hA.mono ?_; rintro e w1 ⟨rfl, k1⟩)
  have B2 := (B1.kept kB).kept k1
  have D2 := D1.kept k1
  have K1 := K0.trans k1
  clear hA hwa hwb sA sB kA kB B1 D1 K0 k1
  go_upto_region 3 with (go_at_call 8; refine (hF _).mono ?_; rintro e w9 ⟨rfl, hw9⟩; have hw8 := hw9.symm; subst hw8; clear hw9)
  clear hF
  go_cut [56] (fun v wx => v = .bool false ∧ wx = w1)
  case first =>
    clear B2 D2 hT
    rcases HF.out with ⟨rfl, rfl⟩ | ⟨rfl, rfl⟩ | ⟨rfl, rfl⟩ | ⟨rfl, rfl⟩ | ⟨rfl, rfl⟩ | ⟨rfl, rfl⟩
    all_goals
      go_wp2
      go_meet
      exact ⟨rfl, rfl⟩
  case rest =>
    obtain ⟨rfl, rfl⟩ := hcut
    clear HF
    have hW1 := xwrite_walk sec off ty sy ad wc (hT.kept K1) ok.t0 ok.t1
    have hW2 := fun w hT => xwrite_walk sec' off' ty' sy' ad' w hT ok'.t0 ok'.t1
    have hF2 := fun w => field_walk ty w
    have hRg1 := wxL_range off ty sy ad
    have hRg2 := wxL_range off' ty' sy' ad'
    obtain ⟨E1, hE1⟩ : ∃ E, wxE off ty sy ad = E := ⟨_, rfl⟩
    obtain ⟨L1, hL1⟩ : ∃ L, wxL off ty sy ad = L := ⟨_, rfl⟩
    obtain ⟨E2, hE2⟩ : ∃ E, wxE off' ty' sy' ad' = E := ⟨_, rfl⟩
    obtain ⟨L2, hL2⟩ : ∃ L, wxL off' ty' sy' ad' = L := ⟨_, rfl⟩
    have HC1 : Hid ((codX off ty sy ad = false → E1 = 8 ∧ L1 = []) ∧ (codX off ty sy ad = true → E1 = 0 ∧ L1 = relL off ty sy ad)) := ⟨fun h => by rw [← hE1, ← hL1]; exact wx_no h, fun h => by rw [← hE1, ← hL1]; exact wx_ok h⟩
    have HC2 : Hid ((codX off' ty' sy' ad' = false → E2 = 8 ∧ L2 = []) ∧ (codX off' ty' sy' ad' = true → E2 = 0 ∧ L2 = relL off' ty' sy' ad')) := ⟨fun h => by rw [← hE2, ← hL2]; exact wx_no h, fun h => by rw [← hE2, ← hL2]; exact wx_ok h⟩
    rw [hE1, hL1] at hW1
    rw [hE2, hL2] at hW2
    rw [hL1] at hRg1
    rw [hL2] at hRg2
    obtain ⟨n1, hn1⟩ : ∃ n, L1.length = n := ⟨_, rfl⟩
    obtain ⟨n2, hn2⟩ : ∃ n, L2.length = n := ⟨_, rfl⟩
    have HN1 : Hid (L1.length = n1) := hn1
    have HN2 : Hid (L2.length = n2) := hn2
    clear hE1 hL1 hE2 hL2 hn1 hn2
    have B2' := B2
    obtain ⟨c0, c1, c2, c3, c4, _, _, _, _, _⟩ := B2'
    go_upto_region 6 with (go_at_call 15; refine hW1.mono ?_; rintro e w2 ⟨x2, rfl, O2, k2⟩)
    obtain ⟨A2, C2, rfl, _, _, _⟩ := O2.let HN1.out
    have K2 := K1.trans k2
    have hW2' := hW2 w2 (hT.kept K2)
    have D3 := D2.kept k2
    have B3 := B2.kept k2
    clear c0 c1 c2 c3 c4 hW1 hW2 hT
    have D3' := D3
    obtain ⟨d0, d1, d2, d3, d4, _, _, _, _, _⟩ := D3'
    go_upto_region 7 with (go_at_call 15; refine hW2'.mono ?_; rintro e w3 ⟨x3, rfl, O3, k3⟩)
    obtain ⟨A3, C3, rfl, _, _, _⟩ := O3.let HN2.out
    have K3 := K2.trans k3
    have B4 := B3.kept k3
    have D4 := D3.kept k3
    have P2 := ownX_keep O2 k3
    have hb1 := B2.lt
    have hb3 := B3.lt
    clear d0 d1 d2 d3 d4 hW2' O2 B2 D2 B3 D3 K1 K2
    have B4' := B4
    obtain ⟨c0, c1, c2, c3, c4, _, _, _, _, _⟩ := B4'
    go_upto_region 8 with (go_at_call 8; refine (hF2 _).mono ?_; rintro e w9 ⟨rfl, hw9⟩; have hw8 := hw9.symm; subst hw8; clear hw9)
    go_cut [16] (fun v wx => v = .bool (codX off ty sy ad) ∧ wx = w3)
    case first =>
      clear hF2 P2 O3 B4 D4 hRg1 hRg2
      have hcd : codX off ty sy ad = (decide (0 ≤ abtN ty ∧ 0 ≤ off ∧ off ≤ 4096 ∧ -1 ≤ sy ∧ sy < 64) && decide (-2147483648 ≤ ad ∧ ad ≤ 4294967295)) := rfl
      by_cases ht : 0 ≤ abtN ty
      · have et : fdE ty = 0 := if_pos ht
        by_cases u1 : 0 ≤ off
        · have gu1 : decide (0 ≤ off) = true := decide_eq_true u1
          by_cases u2 : off ≤ 4096
          · have gu2 : decide (off ≤ 4096) = true := decide_eq_true u2
            by_cases u3 : -1 ≤ sy
            · have gu3 : decide (-1 ≤ sy) = true := decide_eq_true u3
              by_cases u4 : sy ≤ 63
              · have gu4 : decide (sy ≤ 63) = true := decide_eq_true u4
                by_cases u5 : -2147483648 ≤ ad
                · have gu5 : decide (-2147483648 ≤ ad) = true := decide_eq_true u5
                  by_cases u6 : ad < 4294967296
                  · have gu6 : decide (ad < 4294967296) = true := decide_eq_true u6
                    have HB : Hid (codX off ty sy ad = true) := by unfold Hid; rw [hcd]; rw [decide_eq_true (by omega), decide_eq_true (by omega)]; rfl
                    clear hcd ht u1 u2 u3 u4 u5 u6
                    go_wp2
                    go_meet
                    exact ⟨by rw [HB.out], rfl⟩
                  · have gu6 : decide (ad < 4294967296) = false := decide_eq_false u6
                    have HB : Hid (codX off ty sy ad = false) := by unfold Hid; rw [hcd]; rw [Bool.and_eq_false_iff]; first | exact .inl (decide_eq_false (by omega)) | exact .inr (decide_eq_false (by omega))
                    clear hcd ht u1 u2 u3 u4 u5 u6
                    go_wp2
                    go_meet
                    exact ⟨by rw [HB.out], rfl⟩
                · have gu5 : decide (-2147483648 ≤ ad) = false := decide_eq_false u5
                  have HB : Hid (codX off ty sy ad = false) := by unfold Hid; rw [hcd]; rw [Bool.and_eq_false_iff]; first | exact .inl (decide_eq_false (by omega)) | exact .inr (decide_eq_false (by omega))
                  clear hcd ht u1 u2 u3 u4 u5
                  go_wp2
                  go_meet
                  exact ⟨by rw [HB.out], rfl⟩
              · have gu4 : decide (sy ≤ 63) = false := decide_eq_false u4
                have HB : Hid (codX off ty sy ad = false) := by unfold Hid; rw [hcd]; rw [Bool.and_eq_false_iff]; first | exact .inl (decide_eq_false (by omega)) | exact .inr (decide_eq_false (by omega))
                clear hcd ht u1 u2 u3 u4
                go_wp2
                go_meet
                exact ⟨by rw [HB.out], rfl⟩
            · have gu3 : decide (-1 ≤ sy) = false := decide_eq_false u3
              have HB : Hid (codX off ty sy ad = false) := by unfold Hid; rw [hcd]; rw [Bool.and_eq_false_iff]; first | exact .inl (decide_eq_false (by omega)) | exact .inr (decide_eq_false (by omega))
              clear hcd ht u1 u2 u3
              go_wp2
              go_meet
              exact ⟨by rw [HB.out], rfl⟩
          · have gu2 : decide (off ≤ 4096) = false := decide_eq_false u2
            have HB : Hid (codX off ty sy ad = false) := by unfold Hid; rw [hcd]; rw [Bool.and_eq_false_iff]; first | exact .inl (decide_eq_false (by omega)) | exact .inr (decide_eq_false (by omega))
            clear hcd ht u1 u2
            go_wp2
            go_meet
            exact ⟨by rw [HB.out], rfl⟩
        · have gu1 : decide (0 ≤ off) = false := decide_eq_false u1
          have HB : Hid (codX off ty sy ad = false) := by unfold Hid; rw [hcd]; rw [Bool.and_eq_false_iff]; first | exact .inl (decide_eq_false (by omega)) | exact .inr (decide_eq_false (by omega))
          clear hcd ht u1
          go_wp2
          go_meet
          exact ⟨by rw [HB.out], rfl⟩
      · have et : fdE ty = 2 := if_neg ht
        have HB : Hid (codX off ty sy ad = false) := by unfold Hid; rw [hcd, decide_eq_false (fun h => ht h.1), Bool.false_and]
        clear hcd ht
        go_wp2
        go_meet
        exact ⟨by rw [HB.out], rfl⟩
    case rest =>
      obtain ⟨rfl, rfl⟩ := hcut
      clear hF2 c0 c1 c2 c3 c4
      cases hc : codX off ty sy ad with
      | false =>
        obtain ⟨rfl, rfl⟩ := HC1.out.1 hc
        obtain rfl : n1 = 0 := HN1.out.symm
        clear HC1 HC2 HN1 HN2 hRg1 hRg2 P2 O3 B4 D4
        go_wp2
        go_ret
        exact ⟨rfl, K3⟩
      | true =>
        obtain ⟨rfl, hL1⟩ := HC1.out.2 hc
        cases hc2 : codX off' ty' sy' ad' with
        | false =>
          obtain ⟨rfl, rfl⟩ := HC2.out.1 hc2
          clear HC1 HC2 HN1 HN2 hRg1 hRg2 P2 O3 B4 D4 hL1 hc hc2
          go_wp2
          go_ret
          exact ⟨rfl, K3⟩
        | true =>
          obtain ⟨rfl, hL2⟩ := HC2.out.2 hc2
          obtain rfl : n1 = 24 := by rw [← HN1.out, hL1, relL_length]
          obtain rfl : n2 = 24 := by rw [← HN2.out, hL2, relL_length]
          have hS : decide (L1 = L2) = decide (off = off' ∧ ty = ty' ∧ sy = sy' ∧ ad = ad') := by
            refine decide_eq_decide.2 ⟨fun he => ?_, fun he => ?_⟩
            · rw [hL1, hL2] at he
              exact rel_inj hc hc2 he
            · obtain ⟨e1, e2, e3, e4⟩ := he
              rw [hL1, hL2, e1, e2, e3, e4]
          have hq := str_beq hRg1 hRg2
          rw [hS] at hq
          obtain ⟨s1, hs1'⟩ : ∃ s, strOfNums L1 = s := ⟨_, rfl⟩
          obtain ⟨s2, hs2'⟩ : ∃ s, strOfNums L2 = s := ⟨_, rfl⟩
          rw [hs1', hs2'] at hq
          have HS1 : Hid (strOfNums L1 = s1) := hs1'
          have HS2 : Hid (strOfNums L2 = s2) := hs2'
          clear hL1 hL2 HC1 HC2 hS hs1' hs2' hRg1 hRg2 hc hc2
          have B6 := B4.set0 sec'
          have D6 := D4.far w.heap.size 0 (.int .i64 sec') (by omega)
          have P2' := own_far P2 ⟨w.heap.size, 0, none⟩ (.int .i64 sec') (fun g e => by have := (P2.lt g e).1; show w.heap.size ≠ g; omega)
          have P3' := own_far O3 ⟨w.heap.size, 0, none⟩ (.int .i64 sec') (fun g e => by have := (O3.lt g e).1; show w.heap.size ≠ g; omega)
          have K5 := K3.setCell (p := ⟨w.heap.size, 0, none⟩) (Nat.le_refl _) (.int .i64 sec')
          have s0 := B4.c0
          have f0 := B4.f0
          have t0 := D4.c0
          go_upto_region 14 with fail
          obtain ⟨w5, hw5⟩ : ∃ w5, wc.setCell ⟨w.heap.size, 0, none⟩ (.int .i64 sec') = w5 := ⟨_, rfl⟩
          rw [hw5] at B6 D6 P2' P3' K5
          try rw [hw5]
          have T1 : ∀ q, (convert 33 9 (.slice A2 24 C2)).run Tryd.prog (w5.drewN q) = .ok (.string s1) (w5.drewN q) := fun q => by
            rw [← HS1.out]; exact str_len HN1.out ((ownX_byt P2' HN1.out).drewN q)
          have T2 : ∀ q, (convert 33 9 (.slice A3 24 C3)).run Tryd.prog (w5.drewN q) = .ok (.string s2) (w5.drewN q) := fun q => by
            rw [← HS2.out]; exact str_len HN2.out ((ownX_byt P3' HN2.out).drewN q)
          clear s0 f0 t0 P2 O3 P2' P3' B4 D4 K3
          obtain ⟨c0, c1, c2, c3, c4, _, _, _, _, _⟩ := B6
          obtain ⟨d0', d1', d2', d3', d4', _, _, _, _, _⟩ := D6
          clear hw5
          by_cases g1 : off = off'
          · have eg1 : (off == off') = true := by rw [beq_iff_eq]; exact g1
            by_cases g2 : ty = ty'
            · have eg2 : (ty == ty') = true := by rw [beq_iff_eq]; exact g2
              by_cases g3 : sy = sy'
              · have eg3 : (sy == sy') = true := by rw [beq_iff_eq]; exact g3
                by_cases g4 : ad = ad'
                · have eg4 : (ad == ad') = true := by rw [beq_iff_eq]; exact g4
                  rw [decide_eq_true (⟨g1, g2, g3, g4⟩ : _ ∧ _)] at hq
                  clear g1 g2 g3 g4
                  go_big_quiet (fail)
                  go_wp2
                  go_ret
                  exact ⟨rfl, Kept.trans K5 (Kept.drewN _ _)⟩
                · have eg4 : (ad == ad') = false := by rw [beq_eq_false_iff_ne]; exact g4
                  rw [decide_eq_false (fun h => g4 h.2.2.2)] at hq
                  clear g1 g2 g3 g4
                  go_big_quiet (fail)
                  go_wp2
                  go_ret
                  exact ⟨rfl, Kept.trans K5 (Kept.drewN _ _)⟩
              · have eg3 : (sy == sy') = false := by rw [beq_eq_false_iff_ne]; exact g3
                rw [decide_eq_false (fun h => g3 h.2.2.1)] at hq
                clear g1 g2 g3
                go_big_quiet (fail)
                go_wp2
                go_ret
                exact ⟨rfl, Kept.trans K5 (Kept.drewN _ _)⟩
            · have eg2 : (ty == ty') = false := by rw [beq_eq_false_iff_ne]; exact g2
              rw [decide_eq_false (fun h => g2 h.2.1)] at hq
              clear g1 g2
              go_big_quiet (fail)
              go_wp2
              go_ret
              exact ⟨rfl, Kept.trans K5 (Kept.drewN _ _)⟩
          · have eg1 : (off == off') = false := by rw [beq_eq_false_iff_ne]; exact g1
            rw [decide_eq_false (fun h => g1 h.1)] at hq
            clear g1
            go_big_quiet (fail)
            go_wp2
            go_ret
            exact ⟨rfl, Kept.trans K5 (Kept.drewN _ _)⟩
end Go.Proofs.YtbfmichhpcaamaaDoor
