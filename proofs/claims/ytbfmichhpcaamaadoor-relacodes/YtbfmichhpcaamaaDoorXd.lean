/- Which relocations may be: the document's. -/
import Derived.Test.YtbfmichhpcaamaaDoorXq
import Derived.Test.YtbfmichhpcaamaaDoorKe
import Derived.Test.YtbfmichhpcaamaaDoorCi
namespace Go.Proofs.YtbfmichhpcaamaaDoor
open Go.RowKit

theorem may_adB {sec off ty sy ad : Int} {l : List SecV} {y : Int} (h : adB ad = false) : mayX sec off ty sy ad l y = false := by unfold mayX; rw [h]; rfl
theorem may_plc {sec off ty sy ad : Int} {l : List SecV} {y : Int} (h : plcX sec off ty ad l = false) : mayX sec off ty sy ad l y = false := by unfold mayX; rw [h, Bool.and_false]
theorem may_three {sec off ty sy ad : Int} {l : List SecV} {y : Int} {k : Bool} {m left : Int} (h : adB ad = true) (hp : plcX sec off ty ad l = (k && decide (0 ≤ off) && decide (m ≤ left) && filX ty ad left)) (hk : k = true) (h0 : 0 ≤ off) (hm : m ≤ left) :
    mayX sec off ty sy ad l y = (bndX ty sy y && filX ty ad left) := by
  unfold mayX
  rw [h, hp, hk, decide_eq_true h0, decide_eq_true hm]
  rfl
theorem tm2n (n : Int) : (n.tmod 2 != 0) = !decide (n % 2 = 0) := by
  rw [← tm2]
  rfl

set_option maxRecDepth 20000 in
set_option maxHeartbeats 6400000 in
theorem rmayX_walk (sec off ty sy ad : Int) (a : Option Addr) (n cap : Nat) (l : List SecV) (y : Int) (w : World) (_h0 : 0 ≤ ty) (_h1 : ty < 256) (hl : l.length = n) (_hcap : n ≤ cap) (hn : n ≤ maxLen) (hS : Secs w a l) (ho : off ≤ 9223372036854775807) (hall : l.all okS = true) :
    Calls Tryd.prog 32 #[relW sec off ty sy ad, .slice a n cap, .int .i64 y] w fun e w' => e = .returned (.bool (mayX sec off ty sy ad l y)) ∧ Kept w w' := by
  obtain ⟨wa, hwa, B1, kA, sA⟩ := box_rela w sec off ty sy ad
  have B1' := B1
  obtain ⟨c0, c1, c2, c3, c4, _, _, _, _, _⟩ := B1'
  have hmx : maxLen ≤ 9223372036854775807 := by decide
  have hF := fun w => about_walk ty w
  have hA := fun w => raddend_walk ad w
  obtain ⟨m, hm⟩ : ∃ m, abtN ty = m := ⟨_, rfl⟩
  rw [hm] at hF
  by_cases ht : 0 ≤ m
  · have dt : decide (m < 0) = false := decide_eq_false (by omega)
    by_cases hs : sec < 1
    · have d1 : decide (sec < 1) = true := decide_eq_true hs
      have HB : Hid (mayX sec off ty sy ad l y = false) := may_plc (plc_no (by omega))
      clear hS B1 hmx ht hA hm hs
      go_enter Tryd.func32, Tryd.ntmps32
      go_wp2_with (go_at_call 25; refine (hF _).mono ?_; rintro e w2 ⟨rfl, hw2⟩; have hw3 := hw2.symm; subst hw3; clear hw2)
      go_ret
      exact ⟨by rw [HB.out]; rfl, kA⟩
    have d1 : decide (sec < 1) = false := decide_eq_false hs
    by_cases hs2 : (n : Int) < sec
    · have d2 : decide ((n : Int) < sec) = true := decide_eq_true hs2
      have HB : Hid (mayX sec off ty sy ad l y = false) := may_plc (plc_no (by omega))
      clear hS B1 hmx ht hA hm hs hs2
      go_enter Tryd.func32, Tryd.ntmps32
      go_wp2_with (go_at_call 25; refine (hF _).mono ?_; rintro e w2 ⟨rfl, hw2⟩; have hw3 := hw2.symm; subst hw3; clear hw2)
      go_ret
      exact ⟨by rw [HB.out]; rfl, kA⟩
    have d2 : decide ((n : Int) < sec) = false := decide_eq_false hs2
    by_cases hs3 : off < 0
    · have d3 : decide (off < 0) = true := decide_eq_true hs3
      have HB : Hid (mayX sec off ty sy ad l y = false) := by
        unfold Hid
        cases hb : mayX sec off ty sy ad l y
        · rfl
        · have := (mayX_has hb).2.2.2.1
          omega
      clear hS B1 hmx ht hA hm hs hs2 hs3
      go_enter Tryd.func32, Tryd.ntmps32
      go_wp2_with (go_at_call 25; refine (hF _).mono ?_; rintro e w2 ⟨rfl, hw2⟩; have hw3 := hw2.symm; subst hw3; clear hw2)
      go_ret
      exact ⟨by rw [HB.out]; rfl, kA⟩
    have d3 : decide (off < 0) = false := decide_eq_false hs3
    cases hg : adB ad with
    | false =>
      rw [hg] at hA
      have HB : Hid (mayX sec off ty sy ad l y = false) := may_adB hg
      clear hS B1 hmx ht hg hs hs2 hs3 hm
      go_enter Tryd.func32, Tryd.ntmps32
      go_wp2_with (first | (go_at_call 25; refine (hF _).mono ?_; rintro e w2 ⟨rfl, hw2⟩; have hw3 := hw2.symm; subst hw3; clear hw2) | (go_at_call 41; refine (hA _).mono ?_; rintro e w2 ⟨rfl, hw2⟩; have hw3 := hw2.symm; subst hw3; clear hw2))
      go_ret
      exact ⟨by rw [HB.out]; rfl, kA⟩
    | true =>
      rw [hg] at hA
      obtain ⟨k, hk⟩ : ∃ k : Nat, sec - 1 = k := ⟨(sec - 1).toNat, by omega⟩
      have hkn : k < n := by omega
      have hkl : k < l.length := by omega
      obtain ⟨b, o, rfl, hAt⟩ := (hS.kept kA).at hkl
      have hK0 := okS_kind hall hkl
      obtain ⟨v, hv⟩ : ∃ v, l.getD k secNo = v := ⟨_, rfl⟩
      obtain ⟨s, al, a', cp, sz, z⟩ := v
      have hpl := plc_at (off := off) (ad := ad) (show 0 ≤ abtN ty by omega) hk hkl hv
      rw [hv] at hAt hK0
      have x0 : wa.cell? ⟨b, o + k * 4, none⟩ = some (.string s) := hAt.c0
      have x1 : wa.cell? ⟨b, o + k * 4 + 1, none⟩ = some (.int .i64 al) := hAt.c1
      have x2 : wa.cell? ⟨b, o + k * 4 + 2, none⟩ = some (.slice a' z.length cp) := hAt.c2
      have x3 : wa.cell? ⟨b, o + k * 4 + 3, none⟩ = some (.int .i64 sz) := hAt.c3
      have hsz : s.size ≤ maxLen := hAt.ok.size
      have hzl : z.length ≤ maxLen := hAt.ok.cap
      obtain ⟨len, hlen⟩ : ∃ len, z.length = len := ⟨_, rfl⟩
      rw [hlen] at hpl x2 hzl
      have hOf := fun w => of_walk s w hsz
      have hPn := fun w => rplain_walk ty w
      have hm8 := abt_le ty
      rw [hm] at hpl hm8
      have hwk : wrap64 (k : Int) = k := by unfold wrap64; omega
      have hlen2 : (len : Int) ≤ 9223372036854775807 := by omega
      obtain ⟨K, hKK⟩ : ∃ K, kindN (nm s) = K := ⟨_, rfl⟩
      have hK4 := kindN_le (nm s)
      replace hK0 : kindN (nm s) ≠ 0 := hK0
      rw [hKK] at hOf hpl hK0 hK4
      obtain ⟨x, hx⟩ : ∃ x : Int, (K : Int) = x := ⟨_, rfl⟩
      rw [hx] at hOf
      have Z1 := Box.new wa ⟨#[]⟩ 0 (.slice none 0 0) 0
      obtain ⟨wb, hwb⟩ : ∃ wb, wa.alloc (.cells #[.string ⟨#[]⟩, .int .i64 0, .slice none 0 0, .int .i64 0] 47) = wb := ⟨_, rfl⟩
      rw [hwb, sA] at Z1
      have kB : Kept wa wb := by rw [← hwb]; exact Kept.alloc _ _
      have Z2 := Z1.put s al (.slice a' len cp) sz
      have K2 : Kept w _ := below_put (kA.trans kB) (Nat.le_succ w.heap.size) s al (.slice a' len cp) sz
      have B2 : XBx (put4 wb (w.heap.size + 1) s al (.slice a' len cp) sz) w.heap.size sec off ty sy ad := (((((B1.kept kB).far _ _ _ (by omega)).far _ _ _ (by omega)).far _ _ _ (by omega)).far _ _ _ (by omega))
      have Z1' := Z1
      obtain ⟨z0, z1, z2, z3, y0, y1, y2, y3⟩ := Z1'
      obtain ⟨wc, hwc⟩ : ∃ wc, put4 wb (w.heap.size + 1) s al (.slice a' len cp) sz = wc := ⟨_, rfl⟩
      rw [hwc] at Z2 K2 B2
      have HM : Hid (kndX ty off K = true → m ≤ (len : Int) - off → mayX sec off ty sy ad l y = (bndX ty sy y && filX ty ad ((len : Int) - off))) := fun hk hm => may_three hg hpl hk (by omega) hm
      have HK : Hid (kndX ty off K = false → mayX sec off ty sy ad l y = false) := fun hk => may_plc (by rw [hpl, hk]; simp)
      have HL : Hid (¬ m ≤ (len : Int) - off → mayX sec off ty sy ad l y = false) := fun hk => may_plc (by rw [hpl, decide_eq_false hk]; simp)
      have HX : Hid ((K : Int) = x ∧ K ≠ 0) := ⟨hx, hK0⟩
      have h03 : 0 ≤ off := by omega
      clear hS hv hAt hlen hm hsz hs hs2 kB Z1 hzl hmx _h0 _h1 hpl hg hx hKK hs3 hall B1
      go_enter Tryd.func32, Tryd.ntmps32
      go_upto_region 5 with (first | (go_at_call 25; refine (hF _).mono ?_; rintro e w2 ⟨rfl, hw2⟩; have hw3 := hw2.symm; subst hw3; clear hw2) | (go_at_call 41; refine (hA _).mono ?_; rintro e w2 ⟨rfl, hw2⟩; have hw3 := hw2.symm; subst hw3; clear hw2))
      clear z0 z1 z2 z3 y0 y1 y2 y3 x0 x1 x2 x3 c0 c1 c2 c3 c4 hwb hwc hwa kA sA hwk d1 d2 d3 hk dt hF hA
      have B2' := B2
      have Z2' := Z2
      obtain ⟨c0, c1, c2, c3, c4, _, _, _, _, _⟩ := B2'
      obtain ⟨z0, z1, z2, z3, _, _, _, _⟩ := Z2'
      go_upto_region 6 with (go_at_call 43; refine (hOf _).mono ?_; rintro e w4 ⟨rfl, k4⟩; clear c0 c1 c2 c3 c4 z0 z1 z2 z3; obtain ⟨c0, c1, c2, c3, c4, _, _, _, _, _⟩ := B2.kept k4; obtain ⟨z0, z1, z2, z3, _, _, _, _⟩ := Z2.kept k4)
      by_cases q4 : x = 4
      · have e4 : (x == 4) = true := by rw [beq_iff_eq]; exact q4
        have HB : Hid (mayX sec off ty sy ad l y = false) := HK.out (by unfold kndX; have := HX.out; rw [decide_eq_true this.2, Bool.true_and]; cases plnX ty; exact decide_eq_false (by omega); exact decide_eq_false (by omega))
        clear q4 ht
        go_wp2
        go_ret
        exact ⟨by rw [HB.out]; rfl, K2.trans k4⟩
      have e4 : (x == 4) = false := by rw [beq_eq_false_iff_ne]; exact q4
      by_cases q5 : (len : Int) < off
      · have e5 : decide ((len : Int) < off) = true := decide_eq_true q5
        have HB : Hid (mayX sec off ty sy ad l y = false) := HL.out (by omega)
        clear q4 q5 ht
        go_wp2
        go_ret
        exact ⟨by rw [HB.out]; rfl, K2.trans k4⟩
      have e5 : decide ((len : Int) < off) = false := decide_eq_false q5
      by_cases q6 : (len : Int) - off < m
      · have e6 : decide ((len : Int) - off < m) = true := decide_eq_true q6
        have HB : Hid (mayX sec off ty sy ad l y = false) := HL.out (by omega)
        clear q4 q5 q6 ht
        go_wp2
        go_ret
        exact ⟨by rw [HB.out]; rfl, K2.trans k4⟩
      have e6 : decide ((len : Int) - off < m) = false := decide_eq_false q6
      go_upto_region 8 with fail
      have hm6 : m ≤ (len : Int) - off := by omega
      clear e4 e5 e6 q6
      cases hp : plnX ty with
      | true =>
        rw [hp] at hPn
        have HF : Hid (mayX sec off ty sy ad l y = (bndX ty sy y && filX ty ad ((len : Int) - off))) := HM.out (by unfold kndX; rw [hp, if_pos rfl, decide_eq_true (HX.out).2, Bool.true_and]; exact decide_eq_true (by have := HX.out; omega)) hm6
        clear hp HM HK HL q4
        go_upto_region 10 with (go_at_call 45; refine (hPn _).mono ?_; rintro e w2 ⟨rfl, hw2⟩; have hw3 := hw2.symm; subst hw3; clear hw2)
        by_cases t1 : ty = 51
        · have f1 : (ty == 51) = true := by rw [beq_iff_eq]; exact t1
          by_cases u1 : sy = -1
          · have g1 : (sy == -1) = true := by rw [beq_iff_eq]; exact u1
            by_cases u2 : ad = 0
            · have g2 : (ad == 0) = true := by rw [beq_iff_eq]; exact u2
              have HB : Hid (mayX sec off ty sy ad l y = true) := by unfold Hid; rw [HF.out]; unfold bndX filX; rw [if_pos (.inr t1), if_pos (.inl t1), decide_eq_true u1, decide_eq_true u2]; rfl
              clear u1 u2 t1
              go_wp2
              go_ret
              exact ⟨by rw [HB.out]; rfl, K2.trans k4⟩
            · have g2 : (ad == 0) = false := by rw [beq_eq_false_iff_ne]; exact u2
              have HB : Hid (mayX sec off ty sy ad l y = false) := by unfold Hid; rw [HF.out]; unfold bndX filX; rw [if_pos (.inr t1), if_pos (.inl t1), Bool.and_eq_false_iff]; first | exact .inl (decide_eq_false (by assumption)) | exact .inr (decide_eq_false (by assumption))
              clear u1 u2 t1
              go_wp2
              go_ret
              exact ⟨by rw [HB.out]; rfl, K2.trans k4⟩
          · have g1 : (sy == -1) = false := by rw [beq_eq_false_iff_ne]; exact u1
            have HB : Hid (mayX sec off ty sy ad l y = false) := by unfold Hid; rw [HF.out]; unfold bndX filX; rw [if_pos (.inr t1), if_pos (.inl t1), Bool.and_eq_false_iff]; first | exact .inl (decide_eq_false (by assumption)) | exact .inr (decide_eq_false (by assumption))
            clear u1 t1
            go_wp2
            go_ret
            exact ⟨by rw [HB.out]; rfl, K2.trans k4⟩
        have f1 : (ty == 51) = false := by rw [beq_eq_false_iff_ne]; exact t1
        by_cases t2 : ty = 43
        · have f2 : (ty == 43) = true := by rw [beq_iff_eq]; exact t2
          have dm := tm2 ad
          by_cases u1 : sy = -1
          · have g1 : (sy == -1) = true := by rw [beq_iff_eq]; exact u1
            by_cases u2 : 0 ≤ ad
            · have g2 : decide (0 ≤ ad) = true := decide_eq_true u2
              by_cases u3 : ad ≤ 62
              · have g3 : decide (ad ≤ 62) = true := decide_eq_true u3
                by_cases u4 : ad % 2 = 0
                · have g4 : (ad % 2 == 0) = true := by rw [beq_iff_eq]; exact u4
                  rw [decide_eq_true u4] at dm
                  by_cases u5 : ad ≤ (len : Int) - off
                  · have g5 : decide (ad ≤ (len : Int) - off) = true := decide_eq_true u5
                    have HB : Hid (mayX sec off ty sy ad l y = true) := by unfold Hid; rw [HF.out]; unfold bndX filX; rw [if_pos (.inl t2), if_neg (by omega), if_pos t2, decide_eq_true u1, decide_eq_true ⟨u4, u2, u3, u5⟩]; rfl
                    clear u1 u2 u3 u4 u5 t1 t2
                    go_wp2
                    go_ret
                    exact ⟨by rw [HB.out]; rfl, K2.trans k4⟩
                  · have g5 : decide (ad ≤ (len : Int) - off) = false := decide_eq_false u5
                    have HB : Hid (mayX sec off ty sy ad l y = false) := by unfold Hid; rw [HF.out]; unfold bndX filX; rw [if_pos (.inl t2), if_neg (by omega), if_pos t2, Bool.and_eq_false_iff]; exact .inr (decide_eq_false (by omega))
                    clear u1 u2 u3 u4 u5 t1 t2
                    go_wp2
                    go_ret
                    exact ⟨by rw [HB.out]; rfl, K2.trans k4⟩
                · have g4 : (ad % 2 == 0) = false := by rw [beq_eq_false_iff_ne]; exact u4
                  rw [decide_eq_false u4] at dm
                  have HB : Hid (mayX sec off ty sy ad l y = false) := by unfold Hid; rw [HF.out]; unfold bndX filX; rw [if_pos (.inl t2), if_neg (by omega), if_pos t2, Bool.and_eq_false_iff]; exact .inr (decide_eq_false (by omega))
                  clear u1 u2 u3 u4 t1 t2
                  go_wp2
                  go_ret
                  exact ⟨by rw [HB.out]; rfl, K2.trans k4⟩
              · have g3 : decide (ad ≤ 62) = false := decide_eq_false u3
                have HB : Hid (mayX sec off ty sy ad l y = false) := by unfold Hid; rw [HF.out]; unfold bndX filX; rw [if_pos (.inl t2), if_neg (by omega), if_pos t2, Bool.and_eq_false_iff]; exact .inr (decide_eq_false (by omega))
                clear u1 u2 u3 t1 t2 dm
                go_wp2
                go_ret
                exact ⟨by rw [HB.out]; rfl, K2.trans k4⟩
            · have g2 : decide (0 ≤ ad) = false := decide_eq_false u2
              have HB : Hid (mayX sec off ty sy ad l y = false) := by unfold Hid; rw [HF.out]; unfold bndX filX; rw [if_pos (.inl t2), if_neg (by omega), if_pos t2, Bool.and_eq_false_iff]; exact .inr (decide_eq_false (by omega))
              clear u1 u2 t1 t2 dm
              go_wp2
              go_ret
              exact ⟨by rw [HB.out]; rfl, K2.trans k4⟩
          · have g1 : (sy == -1) = false := by rw [beq_eq_false_iff_ne]; exact u1
            have HB : Hid (mayX sec off ty sy ad l y = false) := by unfold Hid; rw [HF.out]; unfold bndX filX; rw [if_pos (.inl t2), if_neg (by omega), if_pos t2, Bool.and_eq_false_iff]; exact .inl (decide_eq_false u1)
            clear u1 t1 t2 dm
            go_wp2
            go_ret
            exact ⟨by rw [HB.out]; rfl, K2.trans k4⟩
        have f2 : (ty == 43) = false := by rw [beq_eq_false_iff_ne]; exact t2
        have hbd : bndX ty sy y = decide (0 ≤ sy ∧ sy < y) := if_neg (by omega)
        by_cases t3 : ty = 24
        · have f3 : (ty == 24) = true := by rw [beq_iff_eq]; exact t3
          have hfl : filX ty ad ((len : Int) - off) = decide (ad = 0) := if_pos (.inr (.inl t3))
          by_cases u3 : ad = 0
          · have g3 : (ad != 0) = false := by rw [u3]; rfl
            have hfl2 : filX ty ad ((len : Int) - off) = true := by rw [hfl]; exact decide_eq_true u3
            clear u3 hfl
            by_cases u1 : 0 ≤ sy
            · have g1 : decide (0 ≤ sy) = true := decide_eq_true u1
              by_cases u2 : sy < y
              · have g2 : decide (sy < y) = true := decide_eq_true u2
                have HB : Hid (mayX sec off ty sy ad l y = true) := by unfold Hid; rw [HF.out, hbd, hfl2, decide_eq_true ⟨u1, u2⟩]; rfl
                clear u1 u2 hbd hfl2 t1 t2 t3
                go_wp2
                go_ret
                exact ⟨by rw [HB.out]; rfl, K2.trans k4⟩
              · have g2 : decide (sy < y) = false := decide_eq_false u2
                have HB : Hid (mayX sec off ty sy ad l y = false) := by unfold Hid; rw [HF.out, hbd, hfl2, decide_eq_false (by omega)]; rfl
                clear u1 u2 hbd hfl2 t1 t2 t3
                go_wp2
                go_ret
                exact ⟨by rw [HB.out]; rfl, K2.trans k4⟩
            · have g1 : decide (0 ≤ sy) = false := decide_eq_false u1
              have HB : Hid (mayX sec off ty sy ad l y = false) := by unfold Hid; rw [HF.out, hbd, hfl2, decide_eq_false (by omega)]; rfl
              clear u1 hbd hfl2 t1 t2 t3
              go_wp2
              go_ret
              exact ⟨by rw [HB.out]; rfl, K2.trans k4⟩
          · have g3 : (ad != 0) = true := by rw [bne_iff_ne]; exact u3
            have HB : Hid (mayX sec off ty sy ad l y = false) := by unfold Hid; rw [HF.out, hfl, decide_eq_false u3, Bool.and_false]
            clear u3 hbd hfl t1 t2 t3
            go_wp2
            go_ret
            exact ⟨by rw [HB.out]; rfl, K2.trans k4⟩
        have f24 : (ty == 24) = false := by rw [beq_eq_false_iff_ne]; exact t3
        have t4 := t3
        clear t3
        by_cases t3 : ty = 25
        · have f3 : (ty == 25) = true := by rw [beq_iff_eq]; exact t3
          have hfl : filX ty ad ((len : Int) - off) = decide (ad = 0) := if_pos (.inr (.inr t3))
          by_cases u3 : ad = 0
          · have g3 : (ad != 0) = false := by rw [u3]; rfl
            have hfl2 : filX ty ad ((len : Int) - off) = true := by rw [hfl]; exact decide_eq_true u3
            clear u3 hfl
            by_cases u1 : 0 ≤ sy
            · have g1 : decide (0 ≤ sy) = true := decide_eq_true u1
              by_cases u2 : sy < y
              · have g2 : decide (sy < y) = true := decide_eq_true u2
                have HB : Hid (mayX sec off ty sy ad l y = true) := by unfold Hid; rw [HF.out, hbd, hfl2, decide_eq_true ⟨u1, u2⟩]; rfl
                clear u1 u2 hbd hfl2 t1 t2 t3
                go_wp2
                go_ret
                exact ⟨by rw [HB.out]; rfl, K2.trans k4⟩
              · have g2 : decide (sy < y) = false := decide_eq_false u2
                have HB : Hid (mayX sec off ty sy ad l y = false) := by unfold Hid; rw [HF.out, hbd, hfl2, decide_eq_false (by omega)]; rfl
                clear u1 u2 hbd hfl2 t1 t2 t3
                go_wp2
                go_ret
                exact ⟨by rw [HB.out]; rfl, K2.trans k4⟩
            · have g1 : decide (0 ≤ sy) = false := decide_eq_false u1
              have HB : Hid (mayX sec off ty sy ad l y = false) := by unfold Hid; rw [HF.out, hbd, hfl2, decide_eq_false (by omega)]; rfl
              clear u1 hbd hfl2 t1 t2 t3
              go_wp2
              go_ret
              exact ⟨by rw [HB.out]; rfl, K2.trans k4⟩
          · have g3 : (ad != 0) = true := by rw [bne_iff_ne]; exact u3
            have HB : Hid (mayX sec off ty sy ad l y = false) := by unfold Hid; rw [HF.out, hfl, decide_eq_false u3, Bool.and_false]
            clear u3 hbd hfl t1 t2 t3
            go_wp2
            go_ret
            exact ⟨by rw [HB.out]; rfl, K2.trans k4⟩
        have f25 : (ty == 25) = false := by rw [beq_eq_false_iff_ne]; exact t3
        have hfl2 : filX ty ad ((len : Int) - off) = true := by unfold filX; rw [if_neg (by omega), if_neg t2]
        by_cases u1 : 0 ≤ sy
        · have g1 : decide (0 ≤ sy) = true := decide_eq_true u1
          by_cases u2 : sy < y
          · have g2 : decide (sy < y) = true := decide_eq_true u2
            have HB : Hid (mayX sec off ty sy ad l y = true) := by unfold Hid; rw [HF.out, hbd, hfl2, decide_eq_true ⟨u1, u2⟩]; rfl
            clear u1 u2 hbd hfl2 t1 t2 t3 t4
            go_wp2
            go_ret
            exact ⟨by rw [HB.out]; rfl, K2.trans k4⟩
          · have g2 : decide (sy < y) = false := decide_eq_false u2
            have HB : Hid (mayX sec off ty sy ad l y = false) := by unfold Hid; rw [HF.out, hbd, hfl2, decide_eq_false (by omega)]; rfl
            clear u1 u2 hbd hfl2 t1 t2 t3 t4
            go_wp2
            go_ret
            exact ⟨by rw [HB.out]; rfl, K2.trans k4⟩
        · have g1 : decide (0 ≤ sy) = false := decide_eq_false u1
          have HB : Hid (mayX sec off ty sy ad l y = false) := by unfold Hid; rw [HF.out, hbd, hfl2, decide_eq_false (by omega)]; rfl
          clear u1 hbd hfl2 t1 t2 t3 t4
          go_wp2
          go_ret
          exact ⟨by rw [HB.out]; rfl, K2.trans k4⟩
      | false =>
        rw [hp] at hPn
        have dn := tm2n off
        by_cases q7 : x = 1
        · have e7 : (x != 1) = false := by rw [q7]; rfl
          by_cases q8 : off % 2 = 0
          · rw [decide_eq_true q8] at dn
            have dn2 : (off % 2 != 0) = false := by rw [q8]; rfl
            have HF : Hid (mayX sec off ty sy ad l y = (bndX ty sy y && filX ty ad ((len : Int) - off))) := HM.out (by unfold kndX; rw [hp, if_neg (by decide), decide_eq_true (HX.out).2, Bool.true_and]; exact decide_eq_true ⟨by have := HX.out; omega, q8⟩) hm6
            clear hp HM HK HL q4 q7 q8
            go_upto_region 10 with (go_at_call 45; refine (hPn _).mono ?_; rintro e w2 ⟨rfl, hw2⟩; have hw3 := hw2.symm; subst hw3; clear hw2)
            by_cases t1 : ty = 51
            · have f1 : (ty == 51) = true := by rw [beq_iff_eq]; exact t1
              by_cases u1 : sy = -1
              · have g1 : (sy == -1) = true := by rw [beq_iff_eq]; exact u1
                by_cases u2 : ad = 0
                · have g2 : (ad == 0) = true := by rw [beq_iff_eq]; exact u2
                  have HB : Hid (mayX sec off ty sy ad l y = true) := by unfold Hid; rw [HF.out]; unfold bndX filX; rw [if_pos (.inr t1), if_pos (.inl t1), decide_eq_true u1, decide_eq_true u2]; rfl
                  clear u1 u2 t1
                  go_wp2
                  go_ret
                  exact ⟨by rw [HB.out]; rfl, K2.trans k4⟩
                · have g2 : (ad == 0) = false := by rw [beq_eq_false_iff_ne]; exact u2
                  have HB : Hid (mayX sec off ty sy ad l y = false) := by unfold Hid; rw [HF.out]; unfold bndX filX; rw [if_pos (.inr t1), if_pos (.inl t1), Bool.and_eq_false_iff]; first | exact .inl (decide_eq_false (by assumption)) | exact .inr (decide_eq_false (by assumption))
                  clear u1 u2 t1
                  go_wp2
                  go_ret
                  exact ⟨by rw [HB.out]; rfl, K2.trans k4⟩
              · have g1 : (sy == -1) = false := by rw [beq_eq_false_iff_ne]; exact u1
                have HB : Hid (mayX sec off ty sy ad l y = false) := by unfold Hid; rw [HF.out]; unfold bndX filX; rw [if_pos (.inr t1), if_pos (.inl t1), Bool.and_eq_false_iff]; first | exact .inl (decide_eq_false (by assumption)) | exact .inr (decide_eq_false (by assumption))
                clear u1 t1
                go_wp2
                go_ret
                exact ⟨by rw [HB.out]; rfl, K2.trans k4⟩
            have f1 : (ty == 51) = false := by rw [beq_eq_false_iff_ne]; exact t1
            by_cases t2 : ty = 43
            · have f2 : (ty == 43) = true := by rw [beq_iff_eq]; exact t2
              have dm := tm2 ad
              by_cases u1 : sy = -1
              · have g1 : (sy == -1) = true := by rw [beq_iff_eq]; exact u1
                by_cases u2 : 0 ≤ ad
                · have g2 : decide (0 ≤ ad) = true := decide_eq_true u2
                  by_cases u3 : ad ≤ 62
                  · have g3 : decide (ad ≤ 62) = true := decide_eq_true u3
                    by_cases u4 : ad % 2 = 0
                    · have g4 : (ad % 2 == 0) = true := by rw [beq_iff_eq]; exact u4
                      rw [decide_eq_true u4] at dm
                      by_cases u5 : ad ≤ (len : Int) - off
                      · have g5 : decide (ad ≤ (len : Int) - off) = true := decide_eq_true u5
                        have HB : Hid (mayX sec off ty sy ad l y = true) := by unfold Hid; rw [HF.out]; unfold bndX filX; rw [if_pos (.inl t2), if_neg (by omega), if_pos t2, decide_eq_true u1, decide_eq_true ⟨u4, u2, u3, u5⟩]; rfl
                        clear u1 u2 u3 u4 u5 t1 t2
                        go_wp2
                        go_ret
                        exact ⟨by rw [HB.out]; rfl, K2.trans k4⟩
                      · have g5 : decide (ad ≤ (len : Int) - off) = false := decide_eq_false u5
                        have HB : Hid (mayX sec off ty sy ad l y = false) := by unfold Hid; rw [HF.out]; unfold bndX filX; rw [if_pos (.inl t2), if_neg (by omega), if_pos t2, Bool.and_eq_false_iff]; exact .inr (decide_eq_false (by omega))
                        clear u1 u2 u3 u4 u5 t1 t2
                        go_wp2
                        go_ret
                        exact ⟨by rw [HB.out]; rfl, K2.trans k4⟩
                    · have g4 : (ad % 2 == 0) = false := by rw [beq_eq_false_iff_ne]; exact u4
                      rw [decide_eq_false u4] at dm
                      have HB : Hid (mayX sec off ty sy ad l y = false) := by unfold Hid; rw [HF.out]; unfold bndX filX; rw [if_pos (.inl t2), if_neg (by omega), if_pos t2, Bool.and_eq_false_iff]; exact .inr (decide_eq_false (by omega))
                      clear u1 u2 u3 u4 t1 t2
                      go_wp2
                      go_ret
                      exact ⟨by rw [HB.out]; rfl, K2.trans k4⟩
                  · have g3 : decide (ad ≤ 62) = false := decide_eq_false u3
                    have HB : Hid (mayX sec off ty sy ad l y = false) := by unfold Hid; rw [HF.out]; unfold bndX filX; rw [if_pos (.inl t2), if_neg (by omega), if_pos t2, Bool.and_eq_false_iff]; exact .inr (decide_eq_false (by omega))
                    clear u1 u2 u3 t1 t2 dm
                    go_wp2
                    go_ret
                    exact ⟨by rw [HB.out]; rfl, K2.trans k4⟩
                · have g2 : decide (0 ≤ ad) = false := decide_eq_false u2
                  have HB : Hid (mayX sec off ty sy ad l y = false) := by unfold Hid; rw [HF.out]; unfold bndX filX; rw [if_pos (.inl t2), if_neg (by omega), if_pos t2, Bool.and_eq_false_iff]; exact .inr (decide_eq_false (by omega))
                  clear u1 u2 t1 t2 dm
                  go_wp2
                  go_ret
                  exact ⟨by rw [HB.out]; rfl, K2.trans k4⟩
              · have g1 : (sy == -1) = false := by rw [beq_eq_false_iff_ne]; exact u1
                have HB : Hid (mayX sec off ty sy ad l y = false) := by unfold Hid; rw [HF.out]; unfold bndX filX; rw [if_pos (.inl t2), if_neg (by omega), if_pos t2, Bool.and_eq_false_iff]; exact .inl (decide_eq_false u1)
                clear u1 t1 t2 dm
                go_wp2
                go_ret
                exact ⟨by rw [HB.out]; rfl, K2.trans k4⟩
            have f2 : (ty == 43) = false := by rw [beq_eq_false_iff_ne]; exact t2
            have hbd : bndX ty sy y = decide (0 ≤ sy ∧ sy < y) := if_neg (by omega)
            by_cases t3 : ty = 24
            · have f3 : (ty == 24) = true := by rw [beq_iff_eq]; exact t3
              have hfl : filX ty ad ((len : Int) - off) = decide (ad = 0) := if_pos (.inr (.inl t3))
              by_cases u3 : ad = 0
              · have g3 : (ad != 0) = false := by rw [u3]; rfl
                have hfl2 : filX ty ad ((len : Int) - off) = true := by rw [hfl]; exact decide_eq_true u3
                clear u3 hfl
                by_cases u1 : 0 ≤ sy
                · have g1 : decide (0 ≤ sy) = true := decide_eq_true u1
                  by_cases u2 : sy < y
                  · have g2 : decide (sy < y) = true := decide_eq_true u2
                    have HB : Hid (mayX sec off ty sy ad l y = true) := by unfold Hid; rw [HF.out, hbd, hfl2, decide_eq_true ⟨u1, u2⟩]; rfl
                    clear u1 u2 hbd hfl2 t1 t2 t3
                    go_wp2
                    go_ret
                    exact ⟨by rw [HB.out]; rfl, K2.trans k4⟩
                  · have g2 : decide (sy < y) = false := decide_eq_false u2
                    have HB : Hid (mayX sec off ty sy ad l y = false) := by unfold Hid; rw [HF.out, hbd, hfl2, decide_eq_false (by omega)]; rfl
                    clear u1 u2 hbd hfl2 t1 t2 t3
                    go_wp2
                    go_ret
                    exact ⟨by rw [HB.out]; rfl, K2.trans k4⟩
                · have g1 : decide (0 ≤ sy) = false := decide_eq_false u1
                  have HB : Hid (mayX sec off ty sy ad l y = false) := by unfold Hid; rw [HF.out, hbd, hfl2, decide_eq_false (by omega)]; rfl
                  clear u1 hbd hfl2 t1 t2 t3
                  go_wp2
                  go_ret
                  exact ⟨by rw [HB.out]; rfl, K2.trans k4⟩
              · have g3 : (ad != 0) = true := by rw [bne_iff_ne]; exact u3
                have HB : Hid (mayX sec off ty sy ad l y = false) := by unfold Hid; rw [HF.out, hfl, decide_eq_false u3, Bool.and_false]
                clear u3 hbd hfl t1 t2 t3
                go_wp2
                go_ret
                exact ⟨by rw [HB.out]; rfl, K2.trans k4⟩
            have f24 : (ty == 24) = false := by rw [beq_eq_false_iff_ne]; exact t3
            have t4 := t3
            clear t3
            by_cases t3 : ty = 25
            · have f3 : (ty == 25) = true := by rw [beq_iff_eq]; exact t3
              have hfl : filX ty ad ((len : Int) - off) = decide (ad = 0) := if_pos (.inr (.inr t3))
              by_cases u3 : ad = 0
              · have g3 : (ad != 0) = false := by rw [u3]; rfl
                have hfl2 : filX ty ad ((len : Int) - off) = true := by rw [hfl]; exact decide_eq_true u3
                clear u3 hfl
                by_cases u1 : 0 ≤ sy
                · have g1 : decide (0 ≤ sy) = true := decide_eq_true u1
                  by_cases u2 : sy < y
                  · have g2 : decide (sy < y) = true := decide_eq_true u2
                    have HB : Hid (mayX sec off ty sy ad l y = true) := by unfold Hid; rw [HF.out, hbd, hfl2, decide_eq_true ⟨u1, u2⟩]; rfl
                    clear u1 u2 hbd hfl2 t1 t2 t3
                    go_wp2
                    go_ret
                    exact ⟨by rw [HB.out]; rfl, K2.trans k4⟩
                  · have g2 : decide (sy < y) = false := decide_eq_false u2
                    have HB : Hid (mayX sec off ty sy ad l y = false) := by unfold Hid; rw [HF.out, hbd, hfl2, decide_eq_false (by omega)]; rfl
                    clear u1 u2 hbd hfl2 t1 t2 t3
                    go_wp2
                    go_ret
                    exact ⟨by rw [HB.out]; rfl, K2.trans k4⟩
                · have g1 : decide (0 ≤ sy) = false := decide_eq_false u1
                  have HB : Hid (mayX sec off ty sy ad l y = false) := by unfold Hid; rw [HF.out, hbd, hfl2, decide_eq_false (by omega)]; rfl
                  clear u1 hbd hfl2 t1 t2 t3
                  go_wp2
                  go_ret
                  exact ⟨by rw [HB.out]; rfl, K2.trans k4⟩
              · have g3 : (ad != 0) = true := by rw [bne_iff_ne]; exact u3
                have HB : Hid (mayX sec off ty sy ad l y = false) := by unfold Hid; rw [HF.out, hfl, decide_eq_false u3, Bool.and_false]
                clear u3 hbd hfl t1 t2 t3
                go_wp2
                go_ret
                exact ⟨by rw [HB.out]; rfl, K2.trans k4⟩
            have f25 : (ty == 25) = false := by rw [beq_eq_false_iff_ne]; exact t3
            have hfl2 : filX ty ad ((len : Int) - off) = true := by unfold filX; rw [if_neg (by omega), if_neg t2]
            by_cases u1 : 0 ≤ sy
            · have g1 : decide (0 ≤ sy) = true := decide_eq_true u1
              by_cases u2 : sy < y
              · have g2 : decide (sy < y) = true := decide_eq_true u2
                have HB : Hid (mayX sec off ty sy ad l y = true) := by unfold Hid; rw [HF.out, hbd, hfl2, decide_eq_true ⟨u1, u2⟩]; rfl
                clear u1 u2 hbd hfl2 t1 t2 t3 t4
                go_wp2
                go_ret
                exact ⟨by rw [HB.out]; rfl, K2.trans k4⟩
              · have g2 : decide (sy < y) = false := decide_eq_false u2
                have HB : Hid (mayX sec off ty sy ad l y = false) := by unfold Hid; rw [HF.out, hbd, hfl2, decide_eq_false (by omega)]; rfl
                clear u1 u2 hbd hfl2 t1 t2 t3 t4
                go_wp2
                go_ret
                exact ⟨by rw [HB.out]; rfl, K2.trans k4⟩
            · have g1 : decide (0 ≤ sy) = false := decide_eq_false u1
              have HB : Hid (mayX sec off ty sy ad l y = false) := by unfold Hid; rw [HF.out, hbd, hfl2, decide_eq_false (by omega)]; rfl
              clear u1 hbd hfl2 t1 t2 t3 t4
              go_wp2
              go_ret
              exact ⟨by rw [HB.out]; rfl, K2.trans k4⟩
          · rw [decide_eq_false q8] at dn
            have dn2 : (off % 2 != 0) = true := by rw [bne_iff_ne]; exact q8
            have HB : Hid (mayX sec off ty sy ad l y = false) := HK.out (by unfold kndX; rw [hp, if_neg (by decide), decide_eq_true (HX.out).2, Bool.true_and]; exact decide_eq_false (by have := HX.out; omega))
            clear hp HM HK HL q4 q7 q8
            go_wp2_with (go_at_call 45; refine (hPn _).mono ?_; rintro e w2 ⟨rfl, hw2⟩; have hw3 := hw2.symm; subst hw3; clear hw2)
            go_ret
            exact ⟨by rw [HB.out]; rfl, K2.trans k4⟩
        · have e7 : (x != 1) = true := by rw [bne_iff_ne]; exact q7
          have HB : Hid (mayX sec off ty sy ad l y = false) := HK.out (by unfold kndX; rw [hp, if_neg (by decide), decide_eq_true (HX.out).2, Bool.true_and]; exact decide_eq_false (by have := HX.out; omega))
          clear hp HM HK HL q4 q7 dn
          go_wp2_with (go_at_call 45; refine (hPn _).mono ?_; rintro e w2 ⟨rfl, hw2⟩; have hw3 := hw2.symm; subst hw3; clear hw2)
          go_ret
          exact ⟨by rw [HB.out]; rfl, K2.trans k4⟩
  · have dt : decide (m < 0) = true := decide_eq_true (by omega)
    have HB : Hid (mayX sec off ty sy ad l y = false) := may_plc (plc_no (by omega))
    clear hS B1 hmx ht hA hm
    go_enter Tryd.func32, Tryd.ntmps32
    go_wp2_with (go_at_call 25; refine (hF _).mono ?_; rintro e w2 ⟨rfl, hw2⟩; have hw3 := hw2.symm; subst hw3; clear hw2)
    go_ret
    exact ⟨by rw [HB.out]; rfl, kA⟩
end Go.Proofs.YtbfmichhpcaamaaDoor
