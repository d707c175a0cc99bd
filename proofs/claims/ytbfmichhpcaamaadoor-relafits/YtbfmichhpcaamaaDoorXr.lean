/- What Read gives. -/
import Derived.Test.YtbfmichhpcaamaaDoorXw
import Derived.Test.YtbfmichhpcaamaaDoorGe
namespace Go.Proofs.YtbfmichhpcaamaaDoor
open Go.RowKit

abbrev numsXO (n0 n1 n2 n3 : Int) : Obj := .cells #[.int .i64 n0, .int .i64 n1, .int .i64 n2, .int .i64 n3] 55
theorem ix4' (k : Nat) (hk : k < 4) (w : World) : (Instr.index 54 (.agg #[.int .i64 8, .int .i64 4, .int .i64 4, .int .i64 8]) (.int .i64 (k : Int))).run Tryd.prog w = .ok (.int .i64 ((relS.getD k 0 : Nat) : Int)) w := by
  rcases (show k = 0 ∨ k = 1 ∨ k = 2 ∨ k = 3 by omega) with rfl | rfl | rfl | rfl <;> kernel_rfl
theorem N4.set {w : World} {b : Nat} {f : Nat → Int} (h : ∀ j, j < 4 → w.cell? ⟨b, j, none⟩ = some (.int .i64 (f j)) ∧ w.frozen? ⟨b, j, none⟩ = false) (k : Nat) (n : Int) (hk : k < 4) :
    ∀ j, j < 4 → (w.setCell ⟨b, k, none⟩ (.int .i64 n)).cell? ⟨b, j, none⟩ = some (.int .i64 (if j = k then n else f j)) ∧ (w.setCell ⟨b, k, none⟩ (.int .i64 n)).frozen? ⟨b, j, none⟩ = false := fun j hj => by
  refine ⟨?_, set_frozen (h j hj).2⟩
  by_cases e : j = k
  · subst e
    rw [if_pos rfl]
    exact World.cell?_setCell_same _ _ _ (h j hk).1
  · rw [if_neg e]
    exact set_other (h j hj).1 (Ne.symm e)
theorem new4 (w : World) : ∀ j, j < 4 → (w.alloc (numsXO 0 0 0 0)).cell? ⟨w.heap.size, j, none⟩ = some (.int .i64 0) ∧ (w.alloc (numsXO 0 0 0 0)).frozen? ⟨w.heap.size, j, none⟩ = false := by
  intro j hj
  rcases (show j = 0 ∨ j = 1 ∨ j = 2 ∨ j = 3 by omega) with rfl | rfl | rfl | rfl <;> constructor <;> simp

/-- While the sizes are gone through. -/
structure QX (w : World) (r b : Nat) (l : List Int) (k : Nat) (wr : World) : Prop where
  box : ∀ j, j < 4 → wr.cell? ⟨b, j, none⟩ = some (.int .i64 (if j < k then (relV l).getD j 0 else 0)) ∧ wr.frozen? ⟨b, j, none⟩ = false
  res : XBx wr r 0 0 0 0 0
  kept : Kept w wr

set_option maxRecDepth 20000 in
set_option maxHeartbeats 3200000 in
theorem xread_walk (a : Option Addr) (m cap : Nat) (l : List Int) (off ty sy ad E : Int) (w : World) (hT : TabX w) (hl : l.length = m) (hcap : m ≤ cap) (hb : Byt w a l) (hr : ∀ x ∈ l, 0 ≤ x ∧ x < 256) (hV : Hid (rdX l = (off, ty, sy, ad, E))) :
    Calls Tryd.prog 11 #[.slice a m cap] w fun e w' => e = .returned (.tuple #[relW 0 off ty sy ad, .int .i64 E]) ∧ Kept w w' := by
  obtain ⟨wa, hwa, R1, kA, sA⟩ := box_rela w 0 0 0 0 0
  by_cases hm : m = 24
  · subst hm
    have H2 := new4 wa
    obtain ⟨wb, hwb⟩ : ∃ wb, wa.alloc (numsXO 0 0 0 0) = wb := ⟨_, rfl⟩
    rw [hwb, sA] at H2
    have kB : Kept wa wb := by rw [← hwb]; exact Kept.alloc _ _
    have K2 := kA.trans kB
    have HL : Hid (l.length = 24) := hl
    obtain ⟨t0, t1, t2, t3⟩ := (hT.kept K2).all
    have hIx := ix4'
    have hG : ∀ w', Byt w' a l → ∀ k, k < 4 → Calls Tryd.prog 23 #[.slice a 24 cap, .int .i64 (offX k : Nat), .int .i64 (relS.getD k 0 : Nat)] w' fun e w'' => e = .returned (.tuple #[.int .i64 ((relV l).getD k 0), .int .i64 0]) ∧ w'' = w' := fun w' hb k hk => by
      have := get_walk a cap l (offX k : Nat) (relS.getD k 0 : Nat) w' hr (by omega) (by omega) hb
      rwa [(getX_at hk hl).1, (getX_at hk hl).2, hl] at this
    have S0 : QX w w.heap.size (w.heap.size + 1) l 0 wb := ⟨fun j hj => by rw [if_neg (Nat.not_lt_zero _)]; exact H2 j hj, R1.kept kB, K2⟩
    clear hl R1 kA kB K2 H2
    go_enter Tryd.func11, Tryd.ntmps11
    go_wp2
    clear t0 t1 t2 t3 hwa hwb sA
    go_loopw [5, 18] (fun x i wr => ∃ k : Nat, k ≤ 4 ∧ i = .int .i64 k ∧ x = .int .i64 (offX k : Nat) ∧ QX w w.heap.size (w.heap.size + 1) l k wr) (fun _ i _ => 4 - (intOf i).toNat)
    case atStart => exact ⟨0, Nat.zero_le _, rfl, rfl, S0⟩
    case round =>
      obtain ⟨k, hk, rfl, rfl, S⟩ := hrel
      clear S0
      by_cases hlt : k < 4
      · obtain ⟨c0, cf⟩ := S.box k hlt
        rw [if_neg (Nat.lt_irrefl _)] at c0
        have hI := hIx k hlt
        have hG2 := hG wr (hb.kept S.kept) k hlt
        have hle := offX_le hlt
        have HO : Hid (offX (k + 1) = offX k + relS.getD k 0) := offX_succ hlt
        obtain ⟨n, hn⟩ : ∃ n, (relV l).getD k 0 = n := ⟨_, rfl⟩
        obtain ⟨z, hz⟩ : ∃ s, relS.getD k 0 = s := ⟨_, rfl⟩
        obtain ⟨o, ho⟩ : ∃ o, offX k = o := ⟨_, rfl⟩
        rw [hn, hz, ho] at hG2
        rw [hz] at hI hle HO
        rw [ho] at hle HO ⊢
        have HN : Hid ((relV l).getD k 0 = n) := hn
        have S' : QX w w.heap.size (w.heap.size + 1) l (k + 1) (wr.setCell ⟨w.heap.size + 1, k, none⟩ (.int .i64 n)) := by
          refine ⟨?_, S.res.far _ _ _ (by omega), S.kept.setCell (p := ⟨w.heap.size + 1, k, none⟩) (Nat.le_succ _) (.int .i64 n)⟩
          intro j hj
          obtain ⟨h1, h2⟩ := N4.set S.box k n hlt j hj
          refine ⟨?_, h2⟩
          refine h1.trans ?_
          by_cases e : j = k
          · subst e; rw [if_pos rfl, if_pos (Nat.lt_succ_self _), HN.out]
          · rw [if_neg e]
            by_cases e2 : j < k
            · rw [if_pos e2, if_pos (by omega)]
            · rw [if_neg e2, if_neg (by omega)]
        clear hn hz ho hG hIx hr hb hV S hT
        go_wp2_with (go_at_call 23; refine hG2.mono ?_; rintro e w9 ⟨rfl, hw9⟩; have hw8 := hw9.symm; subst hw8; clear hw9)
        go_roundw
        case rel => exact ⟨k + 1, by omega, by go_num, by rw [HO.out]; go_num, S'⟩
        case measure => simp [intOf]; omega
      · obtain rfl : k = 4 := by omega
        obtain ⟨o, t, s, d, hv⟩ := list4 (relV_length l)
        obtain ⟨q1, q2, q0, q3, _⟩ := back_rel HL.out hr hv
        have hbx := S.box
        rw [hv] at hbx
        have x0 := (hbx 0 (by decide)).1
        have x1 := (hbx 1 (by decide)).1
        have x2 := (hbx 2 (by decide)).1
        have x3 := (hbx 3 (by decide)).1
        rw [if_pos (by decide)] at x0 x1 x2 x3
        simp only [List.getD_cons_zero, List.getD_cons_succ] at x0 x1 x2 x3
        have hP := codX_prog HL.out hr hv
        have HB0 : Hid (codX o t (s - 1) d = false → rdX l = (0, 0, 0, 0, 8)) := rdX_bad HL.out hv
        have HB1 : Hid (codX o t (s - 1) d = true → rdX l = (o, t, s - 1, d, 0)) := rdX_ok HL.out hv
        obtain ⟨T, hTT⟩ : ∃ T, t % 256 = T := ⟨_, rfl⟩
        obtain ⟨U, hU⟩ : ∃ U, s - 1 = U := ⟨_, rfl⟩
        have ht0 : 0 ≤ T := by omega
        have ht1 : T < 256 := by omega
        rw [hTT, hU] at hP
        rw [hU] at HB0 HB1
        have hWt := fun w hT => xwrite_walk 0 o T U d w hT ht0 ht1
        have K0 := S.kept
        have Z0 := S.res
        have hsz := K0.size
        have N1 := XBx.new wr 0 0 0 0 0
        have kN : Kept wr (wr.alloc (relO 0 0 0 0 0)) := Kept.alloc _ _
        obtain ⟨wz, hwz⟩ : ∃ wz, wr.alloc (relO 0 0 0 0 0) = wz := ⟨_, rfl⟩
        rw [hwz] at N1 kN
        have N2 := N1.put 0 o T U d
        have K2 := below_putX (b := wr.heap.size) (Kept.trans K0 kN) hsz 0 o T U d
        have hlz := Z0.lt
        have Z2 : XBx (putX wz wr.heap.size 0 o T U d) w.heap.size 0 0 0 0 0 := ((((((Z0.kept kN).far _ _ _ (by omega)).far _ _ _ (by omega)).far _ _ _ (by omega)).far _ _ _ (by omega)).far _ _ _ (by omega))
        obtain ⟨n0, n1, n2, n3, n4, m0, m1, m2, m3, m4⟩ := N1
        obtain ⟨wq, hwq⟩ : ∃ wq, putX wz wr.heap.size 0 o T U d = wq := ⟨_, rfl⟩
        rw [hwq] at N2 K2 Z2
        clear hbx hv hG hIx S
        go_upto_region 15 with fail
        clear x0 x1 x2 x3 n0 n1 n2 n3 n4 m0 m1 m2 m3 m4 hwz hwq Z0 kN K0 hTT hU q0 q1 q2 q3
        obtain ⟨bq, hbq⟩ : ∃ b, wr.heap.size = b := ⟨_, rfl⟩
        rw [hbq] at N2 hsz hlz ⊢
        clear hbq
        have hWq := hWt wq (hT.kept K2)
        obtain ⟨HP, HP2⟩ := hP
        have HP' : Hid (codX o t U d = (decide (wxE o T U d = 0) && decide (wxL o T U d = l))) := HP
        have HP2' : Hid (codX o t U d = true → T = t) := HP2
        have N2' := N2
        obtain ⟨n0, n1, n2, n3, n4, _, _, _, _, _⟩ := N2'
        clear HP HP2 hWt
        cases hc : codX o T U d with
        | false =>
          rw [(wx_no hc).1, (wx_no hc).2] at hWq
          have hV' := hV.out
          rw [HB0.out (by rw [HP'.out, (wx_no hc).1]; rfl)] at hV'
          simp only [Prod.mk.injEq] at hV'
          obtain ⟨rfl, rfl, rfl, rfl, rfl⟩ := hV'
          clear HB0 HB1 HP' HP2' hV hc
          go_upto_region 16 with (go_at_call 15; refine hWq.mono ?_; rintro e w1 ⟨x, rfl, O1, k1⟩)
          have Z3 := Z2.kept k1
          have hR := Z3.put 0 0 0 0 0
          have hW := below_putX (b := w.heap.size) (Kept.trans K2 k1) (Nat.le_refl _) 0 0 0 0 0
          clear n0 n1 n2 n3 n4 O1 hWq
          obtain ⟨z0, z1, z2, z3, z4, y0, y1, y2, y3, y4⟩ := Z3
          go_wp2
          exact bodyPost_ret (v := .tuple #[relW 0 0 0 0 0, .int .i64 8]) (by simp [results, Tryd.results11, go_sem, hR.c0, hR.c1, hR.c2, hR.c3, hR.c4]) rfl ⟨rfl, hW⟩
        | true =>
          rw [(wx_ok hc).1, (wx_ok hc).2] at hWq
          have hLl := relL_length o T U d
          have hLr := relL_range o T U d
          have hcd := HP'.out
          rw [(wx_ok hc).1, (wx_ok hc).2, decide_eq_true (rfl : (0 : Int) = 0), Bool.true_and] at hcd
          obtain ⟨L, hL⟩ : ∃ L, relL o T U d = L := ⟨_, rfl⟩
          rw [hL] at hWq hLl hLr hcd
          clear hL hc HP'
          go_upto_region 16 with (go_at_call 15; refine hWq.mono ?_; rintro e w1 ⟨x, rfl, O1, k1⟩)
          obtain ⟨A1, C1, rfl, _, y1, _⟩ := O1.let hLl
          have hQ := equal_walk A1 a 24 C1 24 cap L l w1 hLl HL.out y1 (hb.kept (Kept.trans K2 k1)) hLr hr
          have Z3 := Z2.kept k1
          have N3 := N2.kept k1
          clear n0 n1 n2 n3 n4 O1 hWq hLl hLr y1
          cases hD : decide (L = l) with
          | false =>
            rw [hD] at hQ hcd
            have hV' := hV.out
            rw [HB0.out hcd] at hV'
            simp only [Prod.mk.injEq] at hV'
            obtain ⟨rfl, rfl, rfl, rfl, rfl⟩ := hV'
            clear HB0 HB1 HP2' hV hcd hD hb hr hT
            have hR := Z3.put 0 0 0 0 0
            have hW := below_putX (b := w.heap.size) (Kept.trans K2 k1) (Nat.le_refl _) 0 0 0 0 0
            obtain ⟨z0, z1, z2, z3, z4, y0, y1, y2, y3, y4⟩ := Z3
            go_wp2_with (go_at_call 24; refine hQ.mono ?_; rintro e w9 ⟨rfl, hw9⟩; have hw8 := hw9.symm; subst hw8; clear hw9)
            exact bodyPost_ret (v := .tuple #[relW 0 0 0 0 0, .int .i64 8]) (by simp [results, Tryd.results11, go_sem, hR.c0, hR.c1, hR.c2, hR.c3, hR.c4]) rfl ⟨rfl, hW⟩
          | true =>
            rw [hD] at hQ hcd
            have hV' := hV.out
            rw [HB1.out hcd, ← HP2'.out hcd] at hV'
            simp only [Prod.mk.injEq] at hV'
            obtain ⟨rfl, rfl, rfl, rfl, rfl⟩ := hV'
            clear HB0 HB1 HP2' hV hcd hD hb hr hT
            have hR := Z3.put 0 o T U d
            have hW := below_putX (b := w.heap.size) (Kept.trans K2 k1) (Nat.le_refl _) 0 o T U d
            obtain ⟨z0, z1, z2, z3, z4, y0, y1, y2, y3, y4⟩ := Z3
            obtain ⟨n0, n1, n2, n3, n4, _, _, _, _, _⟩ := N3
            go_wp2_with (go_at_call 24; refine hQ.mono ?_; rintro e w9 ⟨rfl, hw9⟩; have hw8 := hw9.symm; subst hw8; clear hw9)
            exact bodyPost_ret (v := .tuple #[relW 0 o T U d, .int .i64 0]) (by simp [results, Tryd.results11, go_sem, hR.c0, hR.c1, hR.c2, hR.c3, hR.c4]) rfl ⟨rfl, hW⟩
  · have h3 := rdX_len (b := l) (by omega)
    have hV' := hV.out
    rw [h3] at hV'
    simp only [Prod.mk.injEq] at hV'
    obtain ⟨rfl, rfl, rfl, rfl, rfl⟩ := hV'
    have q : ((m : Int) != 24) = true := by rw [bne_iff_ne]; omega
    have q' : (m != 24) = true := by rw [bne_iff_ne]; omega
    have hR := R1.put 0 0 0 0 0
    have hW := below_putX (b := w.heap.size) kA (Nat.le_refl _) 0 0 0 0 0
    have R1' := R1
    obtain ⟨z0, z1, z2, z3, z4, y0, y1, y2, y3, y4⟩ := R1'
    clear hm h3 hV hb hr R1
    go_enter Tryd.func11, Tryd.ntmps11
    go_wp2
    exact bodyPost_ret (v := .tuple #[relW 0 0 0 0 0, .int .i64 3]) (by simp [results, Tryd.results11, go_sem, hR.c0, hR.c1, hR.c2, hR.c3, hR.c4]) rfl ⟨rfl, hW⟩
end Go.Proofs.YtbfmichhpcaamaaDoor
