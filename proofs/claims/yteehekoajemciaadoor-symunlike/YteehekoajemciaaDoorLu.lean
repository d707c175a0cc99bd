/- The law SymUnlike, walked. -/
import Derived.Test.YteehekoajemciaaDoorKit
namespace Go.Proofs.YteehekoajemciaaDoor
open Go.RowKit

theorem own_byt {w : World} {base n C : Nat} {A : Option Addr} {L : List Int} (h : Own w base (.slice A n C) L) (hn : L.length = n) : Byt w A L := by
  obtain ⟨a, c, e, _, y, _⟩ := h.let hn
  simp only [Value.slice.injEq] at e
  obtain ⟨rfl, _, _⟩ := e
  exact y
theorem wyE_ok (l : List Int) (bind : Int) (hid : Bool) (wh val sz name : Int) : (wyE l bind hid wh val sz name == 0) = (okY l bind hid wh val sz 16 && decide (0 ≤ name ∧ name < 65536)) := by
  rcases wy_cases l bind hid wh val sz name with ⟨hE, _⟩ | ⟨hE, _, hok, h0, h1⟩
  · rw [beq_eq_false_iff_ne.2 hE]
    symm
    cases hok : okY l bind hid wh val sz 16
    · rfl
    · rw [Bool.true_and]
      refine decide_eq_false fun h => hE ?_
      exact (wy_ok hok h.1 (by omega)).1
  · rw [hE, hok, decide_eq_true (⟨h0, by omega⟩ : 0 ≤ name ∧ name < 65536)]
    rfl

set_option maxRecDepth 20000 in
set_option maxHeartbeats 3200000 in
theorem unlike_walk (s : ByteArray) (bind : Int) (hid : Bool) (wh val sz one : Int) (t : ByteArray) (bind' : Int) (hid' : Bool) (wh' val' sz' two : Int) (w : World) (hT : Tab w) (ok : SymOk s bind wh val sz) (ok' : SymOk t bind' wh' val' sz') :
    Calls Tryd.prog 7 #[symW s bind hid wh val sz, .int .i64 one, symW t bind' hid' wh' val' sz', .int .i64 two] w fun e w' => e = .returned (.bool true) ∧ Kept w w' := by
  have B1 := SBx.new w s bind hid wh val sz
  obtain ⟨wa, hwa⟩ : ∃ wa, w.alloc (symO s bind hid wh val sz) = wa := ⟨_, rfl⟩
  rw [hwa] at B1
  have kA : Kept w wa := by rw [← hwa]; exact Kept.alloc _ _
  have sA : wa.heap.size = w.heap.size + 1 := by rw [← hwa]; simp
  have D1 := SBx.new wa t bind' hid' wh' val' sz'
  obtain ⟨wb, hwb⟩ : ∃ wb, wa.alloc (symO t bind' hid' wh' val' sz') = wb := ⟨_, rfl⟩
  rw [hwb, sA] at D1
  have kB : Kept wa wb := by rw [← hwb]; exact Kept.alloc _ _
  have K0 := kA.trans kB
  have hA := alive_walk wb (hT.kept K0)
  go_enter Tryd.func7, Tryd.ntmps7
  go_upto_region 2 with (go_at_call 12; refine hA.mono ?_; rintro e w1 ⟨rfl, k1⟩)
  have B2 := (B1.kept kB).kept k1
  have D2 := D1.kept k1
  have K1 := K0.trans k1
  have hW1 := ywrite_walk s bind hid wh val sz one w1 (hT.kept K1) ok.size ok.b0
  have B2' := B2
  obtain ⟨c0, c1, c2, c3, c4, c5, _, _, _, _, _, _⟩ := B2'
  clear hA hwa hwb sA kA kB B1 D1 K0
  have hEq1 := wyE_ok (nm s) bind hid wh val sz one
  have hLL1 := wyL_le (nm s) bind hid wh val sz one
  have hRg1 := wyL_range (nm s) bind hid wh val sz one
  have hRg2 := wyL_range (nm t) bind' hid' wh' val' sz' two
  have hc1 := wy_cases (nm s) bind hid wh val sz one
  have hc2 := wy_cases (nm t) bind' hid' wh' val' sz' two
  obtain ⟨E1, hE1⟩ : ∃ E, wyE (nm s) bind hid wh val sz one = E := ⟨_, rfl⟩
  obtain ⟨L1, hL1⟩ : ∃ L, wyL (nm s) bind hid wh val sz one = L := ⟨_, rfl⟩
  obtain ⟨E2, hE2⟩ : ∃ E, wyE (nm t) bind' hid' wh' val' sz' two = E := ⟨_, rfl⟩
  obtain ⟨L2, hL2⟩ : ∃ L, wyL (nm t) bind' hid' wh' val' sz' two = L := ⟨_, rfl⟩
  rw [hE1, hL1] at hW1 hc1
  rw [hE2, hL2] at hc2
  rw [hE1] at hEq1
  rw [hL1] at hLL1 hRg1
  rw [hL2] at hRg2
  have HC1 : Hid ((E1 ≠ 0 ∧ L1 = []) ∨ (E1 = 0 ∧ L1 = symL one bind hid wh val sz ∧ okY (nm s) bind hid wh val sz 16 = true ∧ 0 ≤ one ∧ one ≤ 65535)) := hc1
  have HC2 : Hid ((E2 ≠ 0 ∧ L2 = []) ∨ (E2 = 0 ∧ L2 = symL two bind' hid' wh' val' sz' ∧ okY (nm t) bind' hid' wh' val' sz' 16 = true ∧ 0 ≤ two ∧ two ≤ 65535)) := hc2
  obtain ⟨n1, hn1⟩ : ∃ n, L1.length = n := ⟨_, rfl⟩
  obtain ⟨n2, hn2⟩ : ∃ n, L2.length = n := ⟨_, rfl⟩
  have HQ1 : Hid ((E1 == 0) = (okY (nm s) bind hid wh val sz 16 && decide (0 ≤ one ∧ one < 65536))) := hEq1
  clear hE1 hL1 hc1 hc2 hEq1
  go_upto_region 3 with (go_at_call 10; refine hW1.mono ?_; rintro e w2 ⟨x2, rfl, O2, k2⟩)
  obtain ⟨A2, C2, rfl, _, y2, _⟩ := O2.let hn1
  have B3 := B2.kept k2
  have D3 := D2.kept k2
  have K2 := K1.trans k2
  have hW2 := ywrite_walk t bind' hid' wh' val' sz' two w2 (hT.kept K2) ok'.size ok'.b0
  rw [hE2, hL2] at hW2
  clear c0 c1 c2 c3 c4 c5 hW1 D2 hE2 hL2
  have D3' := D3
  obtain ⟨d0, d1, d2, d3, d4, d5, _, _, _, _, _, _⟩ := D3'
  go_upto_region 4 with (go_at_call 10; refine hW2.mono ?_; rintro e w3 ⟨x3, rfl, O3, k3⟩)
  obtain ⟨A3, C3, rfl, _, y3, _⟩ := O3.let hn2
  have B4 := B3.kept k3
  have D4 := D3.kept k3
  have K3 := K2.trans k3
  have hC := ycheck_walk s bind hid wh val sz 16 w3 ok.size ok.b0
  rw [chkY_in (by decide) (by decide)] at hC
  have hb1 := B2.lt
  have hb3 := B3.lt
  have P2 := own_keep O2 k3
  have P3 := O3
  clear d0 d1 d2 d3 d4 d5 hW2 B2 B3 D3 K2 O2 O3 K1 hT
  have B4' := B4
  obtain ⟨c0, c1, c2, c3, c4, c5, _, _, _, _, _, _⟩ := B4'
  rcases HC1.out with ⟨h1, h2⟩ | ⟨h1, h2, h3, h4, h5⟩
  · have q1 : (E1 == 0) = false := beq_eq_false_iff_ne.2 h1
    have q2 : (E1 != 0) = true := by rw [bne_iff_ne]; exact h1
    obtain rfl : n1 = 0 := by rw [← hn1, h2]; rfl
    have hk := HQ1.out
    rw [q1] at hk
    cases hok : okY (nm s) bind hid wh val sz 16 with
    | false =>
      rw [hok] at hC
      clear h1 h2 hk hok HC1 HC2 HQ1 hn1
      go_wp2_with (go_at_call 9; refine hC.mono ?_; rintro e w4 ⟨rfl, k4⟩)
      go_ret
      exact ⟨rfl, K3.trans k4⟩
    | true =>
      rw [hok] at hC hk
      rw [Bool.true_and] at hk
      have hk' := of_decide_eq_false hk.symm
      by_cases h0 : 0 ≤ one
      · have d0 : decide (0 ≤ one) = true := decide_eq_true h0
        have d1 : decide (one < 65536) = false := decide_eq_false (by omega)
        clear h1 h2 hk hk' hok HC1 HC2 HQ1 hn1 h0
        go_wp2_with (go_at_call 9; refine hC.mono ?_; rintro e w4 ⟨rfl, k4⟩)
        go_ret
        exact ⟨rfl, K3.trans k4⟩
      · have d0 : decide (0 ≤ one) = false := decide_eq_false h0
        clear h1 h2 hk hk' hok HC1 HC2 HQ1 hn1 h0
        go_wp2_with (go_at_call 9; refine hC.mono ?_; rintro e w4 ⟨rfl, k4⟩)
        go_ret
        exact ⟨rfl, K3.trans k4⟩
  · subst h1
    rw [h3] at hC
    have d0 : decide (0 ≤ one) = true := decide_eq_true h4
    have d1 : decide (one < 65536) = true := decide_eq_true (by omega)
    rcases HC2.out with ⟨g1, g2⟩ | ⟨g1, g2, g3, g4, g5⟩
    · have q2 : (E2 != 0) = true := by rw [bne_iff_ne]; exact g1
      clear h2 h3 h4 h5 g1 g2 HC1 HC2 HQ1 hn1
      go_wp2_with (go_at_call 9; refine hC.mono ?_; rintro e w4 ⟨rfl, k4⟩)
      go_ret
      exact ⟨rfl, K3.trans k4⟩
    · subst g1
      obtain rfl : n1 = 24 := by rw [← hn1, h2, symL_length]
      obtain rfl : n2 = 24 := by rw [← hn2, g2, symL_length]
      have hs1 := (okY_has h3).2
      have hs2 := (okY_has g3).2
      have hS : decide (L1 = L2) = decide (bind = bind' ∧ hid = hid' ∧ wh = wh' ∧ val = val' ∧ sz = sz' ∧ one = two) := by
        refine decide_eq_decide.2 ⟨fun he => ?_, fun he => ?_⟩
        · rw [h2, g2] at he
          obtain ⟨e1, e2, e3, e4, e5, e6⟩ := sym_inj ⟨h4, h5⟩ ⟨g4, g5⟩ (by decide : (16 : Int) ≤ 16) hs1 hs2 he
          exact ⟨e2, e3, e4, e5, e6, e1⟩
        · obtain ⟨e1, e2, e3, e4, e5, e6⟩ := he
          rw [h2, g2, e1, e2, e3, e4, e5, e6]
      have hq := str_beq hRg1 hRg2
      rw [hS] at hq
      obtain ⟨s1, hs1'⟩ : ∃ s, strOfNums L1 = s := ⟨_, rfl⟩
      obtain ⟨s2, hs2'⟩ : ∃ s, strOfNums L2 = s := ⟨_, rfl⟩
      rw [hs1', hs2'] at hq
      have HS1 : Hid (strOfNums L1 = s1) := hs1'
      have HS2 : Hid (strOfNums L2 = s2) := hs2'
      clear h2 h3 h4 h5 g2 g3 g4 g5 HC1 HC2 HQ1 hs1 hs2 hS hs1' hs2' hRg1 hRg2 hLL1
      go_upto_region 8 with (go_at_call 9; refine hC.mono ?_; rintro e w4 ⟨rfl, k4⟩)
      have B5 := B4.kept k4
      have D5 := D4.kept k4
      have B6 := B5.set0 t
      have D6 := D5.far w.heap.size 0 (.string t) (by omega)
      have P2' := own_far (own_keep P2 k4) ⟨w.heap.size, 0, none⟩ (.string t) (fun g e => by have := ((own_keep P2 k4).lt g e).1; show w.heap.size ≠ g; omega)
      have P3' := own_far (own_keep P3 k4) ⟨w.heap.size, 0, none⟩ (.string t) (fun g e => by have := ((own_keep P3 k4).lt g e).1; show w.heap.size ≠ g; omega)
      have K5 := (K3.trans k4).setCell (p := ⟨w.heap.size, 0, none⟩) (Nat.le_refl _) (.string t)
      obtain ⟨w5, hw5⟩ : ∃ w5, w4.setCell ⟨w.heap.size, 0, none⟩ (.string t) = w5 := ⟨_, rfl⟩
      rw [hw5] at B6 D6 P2' P3' K5
      have s0 := B5.c0
      have f0 := B5.f0
      have t0 := D5.c0
      have T1 : ∀ q, (convert 26 9 (.slice A2 24 C2)).run Tryd.prog (w5.drewN q) = .ok (.string s1) (w5.drewN q) := fun q => by
        rw [← HS1.out]; exact str_len hn1 ((own_byt P2' hn1).drewN q)
      have T2 : ∀ q, (convert 26 9 (.slice A3 24 C3)).run Tryd.prog (w5.drewN q) = .ok (.string s2) (w5.drewN q) := fun q => by
        rw [← HS2.out]; exact str_len hn2 ((own_byt P3' hn2).drewN q)
      clear c0 c1 c2 c3 c4 c5 hC k4 P2 P3 P2' P3' B4 D4 B5 D5 y2 y3 hn1 hn2 K3 k2 k3
      obtain ⟨c0, c1, c2, c3, c4, c5, _, _, _, _, _, _⟩ := B6
      obtain ⟨d0', d1', d2', d3', d4', d5', _, _, _, _, _, _⟩ := D6
      have qt : (t.toList == t.toList) = true := beq_true rfl
      go_upto_region 9 with fail
      clear hw5 s0 f0 t0
      by_cases g1 : bind = bind'
      · have e1 : (bind == bind') = true := by rw [beq_iff_eq]; exact g1
        by_cases g2 : hid = hid'
        · have e2 : (hid == hid') = true := by rw [beq_iff_eq]; exact g2
          by_cases g3 : wh = wh'
          · have e3 : (wh == wh') = true := by rw [beq_iff_eq]; exact g3
            by_cases g4 : val = val'
            · have e4 : (val == val') = true := by rw [beq_iff_eq]; exact g4
              by_cases g5 : sz = sz'
              · have e5 : (sz == sz') = true := by rw [beq_iff_eq]; exact g5
                by_cases g6 : one = two
                · have e6 : (one == two) = true := by rw [beq_iff_eq]; exact g6
                  rw [decide_eq_true (⟨g1, g2, g3, g4, g5, g6⟩ : _ ∧ _)] at hq
                  clear g1 g2 g3 g4 g5 g6
                  go_big_quiet (fail)
                  go_wp2
                  go_ret
                  exact ⟨rfl, Kept.trans K5 (Kept.drewN _ _)⟩
                · have e6 : (one == two) = false := by rw [beq_eq_false_iff_ne]; exact g6
                  rw [decide_eq_false (fun h => g6 h.2.2.2.2.2)] at hq
                  clear g1 g2 g3 g4 g5 g6
                  go_big_quiet (fail)
                  go_wp2
                  go_ret
                  exact ⟨rfl, Kept.trans K5 (Kept.drewN _ _)⟩
              · have e5 : (sz == sz') = false := by rw [beq_eq_false_iff_ne]; exact g5
                rw [decide_eq_false (fun h => g5 h.2.2.2.2.1)] at hq
                clear g1 g2 g3 g4 g5
                go_big_quiet (fail)
                go_wp2
                go_ret
                exact ⟨rfl, Kept.trans K5 (Kept.drewN _ _)⟩
            · have e4 : (val == val') = false := by rw [beq_eq_false_iff_ne]; exact g4
              rw [decide_eq_false (fun h => g4 h.2.2.2.1)] at hq
              clear g1 g2 g3 g4
              go_big_quiet (fail)
              go_wp2
              go_ret
              exact ⟨rfl, Kept.trans K5 (Kept.drewN _ _)⟩
          · have e3 : (wh == wh') = false := by rw [beq_eq_false_iff_ne]; exact g3
            rw [decide_eq_false (fun h => g3 h.2.2.1)] at hq
            clear g1 g2 g3
            go_big_quiet (fail)
            go_wp2
            go_ret
            exact ⟨rfl, Kept.trans K5 (Kept.drewN _ _)⟩
        · have e2 : (hid == hid') = false := by rw [beq_eq_false_iff_ne]; exact g2
          rw [decide_eq_false (fun h => g2 h.2.1)] at hq
          clear g1 g2
          go_big_quiet (fail)
          go_wp2
          go_ret
          exact ⟨rfl, Kept.trans K5 (Kept.drewN _ _)⟩
      · have e1 : (bind == bind') = false := by rw [beq_eq_false_iff_ne]; exact g1
        rw [decide_eq_false (fun h => g1 h.1)] at hq
        clear g1
        go_big_quiet (fail)
        go_wp2
        go_ret
        exact ⟨rfl, Kept.trans K5 (Kept.drewN _ _)⟩
end Go.Proofs.YteehekoajemciaaDoor
