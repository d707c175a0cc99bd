/- What Read gives. -/
import Derived.Test.YteehekoajemciaaDoorSo
import Derived.Test.YteehekoajemciaaDoorGe
namespace Go.Proofs.YteehekoajemciaaDoor
open Go.RowKit

theorem ix6' (k : Nat) (hk : k < 6) (w : World) : (Instr.index 43 (.agg #[.int .i64 4, .int .i64 1, .int .i64 1, .int .i64 2, .int .i64 8, .int .i64 8]) (.int .i64 (k : Int))).run Tryd.prog w = .ok (.int .i64 ((symS.getD k 0 : Nat) : Int)) w := by
  rcases (show k = 0 ∨ k = 1 ∨ k = 2 ∨ k = 3 ∨ k = 4 ∨ k = 5 by omega) with rfl | rfl | rfl | rfl | rfl | rfl <;> kernel_rfl
theorem N6.set {w : World} {b : Nat} {f : Nat → Int} (h : ∀ j, j < 6 → w.cell? ⟨b, j, none⟩ = some (.int .i64 (f j)) ∧ w.frozen? ⟨b, j, none⟩ = false) (k : Nat) (n : Int) (hk : k < 6) :
    ∀ j, j < 6 → (w.setCell ⟨b, k, none⟩ (.int .i64 n)).cell? ⟨b, j, none⟩ = some (.int .i64 (if j = k then n else f j)) ∧ (w.setCell ⟨b, k, none⟩ (.int .i64 n)).frozen? ⟨b, j, none⟩ = false := fun j hj => by
  refine ⟨?_, set_frozen (h j hj).2⟩
  by_cases e : j = k
  · subst e
    rw [if_pos rfl]
    exact World.cell?_setCell_same _ _ _ (h j hk).1
  · rw [if_neg e]
    exact set_other (h j hj).1 (Ne.symm e)

/-- While the sizes are gone through. -/
structure QSt (w : World) (r b : Nat) (l : List Int) (k : Nat) (wr : World) : Prop where
  box : ∀ j, j < 6 → wr.cell? ⟨b, j, none⟩ = some (.int .i64 (if j < k then (symV l).getD j 0 else 0)) ∧ wr.frozen? ⟨b, j, none⟩ = false
  res : SBx wr r ⟨#[]⟩ 0 false 0 0 0
  kept : Kept w wr

set_option maxRecDepth 20000 in
set_option maxHeartbeats 3200000 in
theorem yread_walk (a : Option Addr) (m cap : Nat) (l : List Int) (bind : Int) (hid : Bool) (wh val sz name E : Int) (w : World) (hT : Tab w) (hl : l.length = m) (hcap : m ≤ cap) (hb : Byt w a l) (hr : ∀ x ∈ l, 0 ≤ x ∧ x < 256) (hV : Hid (rdY l = (bind, hid, wh, val, sz, name, E))) :
    Calls Tryd.prog 11 #[.slice a m cap] w fun e w' => e = .returned (.tuple #[symW ⟨#[]⟩ bind hid wh val sz, .int .i64 name, .int .i64 E]) ∧ Kept w w' := by
  have R1 := SBx.new w ⟨#[]⟩ 0 false 0 0 0
  obtain ⟨wa, hwa⟩ : ∃ wa, w.alloc (symO ⟨#[]⟩ 0 false 0 0 0) = wa := ⟨_, rfl⟩
  rw [hwa] at R1
  have kA : Kept w wa := by rw [← hwa]; exact Kept.alloc _ _
  have sA : wa.heap.size = w.heap.size + 1 := by rw [← hwa]; simp
  by_cases hm : m = 24
  · subst hm
    have H2 := NBx.new wa 0 0 0 0 0 0
    obtain ⟨wb, hwb⟩ : ∃ wb, wa.alloc (numsO 0 0 0 0 0 0) = wb := ⟨_, rfl⟩
    rw [hwb, sA] at H2
    have kB : Kept wa wb := by rw [← hwb]; exact Kept.alloc _ _
    have K2 := kA.trans kB
    have HL : Hid (l.length = 24) := hl
    obtain ⟨t0, t1, t2, t3, t4, t5⟩ := (hT.kept K2).all
    have hIx := ix6'
    have hG : ∀ w', Byt w' a l → ∀ k, k < 6 → Calls Tryd.prog 21 #[.slice a 24 cap, .int .i64 (offY k : Nat), .int .i64 (symS.getD k 0 : Nat)] w' fun e w'' => e = .returned (.tuple #[.int .i64 ((symV l).getD k 0), .int .i64 0]) ∧ w'' = w' := fun w' hb k hk => by
      have := get_walk a cap l (offY k : Nat) (symS.getD k 0 : Nat) w' hr (by omega) (by omega) hb
      rwa [(getY_at hk hl).1, (getY_at hk hl).2, hl] at this
    have S0 : QSt w w.heap.size (w.heap.size + 1) l 0 wb :=
      ⟨fun j hj => by
        rw [if_neg (Nat.not_lt_zero _)]
        match j, hj with
        | 0, _ => exact ⟨H2.c0, H2.f0⟩
        | 1, _ => exact ⟨H2.c1, H2.f1⟩
        | 2, _ => exact ⟨H2.c2, H2.f2⟩
        | 3, _ => exact ⟨H2.c3, H2.f3⟩
        | 4, _ => exact ⟨H2.c4, H2.f4⟩
        | 5, _ => exact ⟨H2.c5, H2.f5⟩, R1.kept kB, K2⟩
    clear hl R1 kA kB K2 H2
    go_enter Tryd.func11, Tryd.ntmps11
    go_wp2
    clear t0 t1 t2 t3 t4 t5 hwa hwb sA
    go_loopw [6, 16] (fun x i wr => ∃ k : Nat, k ≤ 6 ∧ i = .int .i64 k ∧ x = .int .i64 (offY k : Nat) ∧ QSt w w.heap.size (w.heap.size + 1) l k wr) (fun _ i _ => 6 - (intOf i).toNat)
    case atStart => exact ⟨0, Nat.zero_le _, rfl, rfl, S0⟩
    case round =>
      obtain ⟨k, hk, rfl, rfl, S⟩ := hrel
      clear S0
      by_cases hlt : k < 6
      · obtain ⟨c0, cf⟩ := S.box k hlt
        rw [if_neg (Nat.lt_irrefl _)] at c0
        have hI := hIx k hlt
        have hG2 := hG wr (hb.kept S.kept) k hlt
        have hle := offY_le hlt
        have HO : Hid (offY (k + 1) = offY k + symS.getD k 0) := offY_succ hlt
        obtain ⟨n, hn⟩ : ∃ n, (symV l).getD k 0 = n := ⟨_, rfl⟩
        obtain ⟨z, hz⟩ : ∃ s, symS.getD k 0 = s := ⟨_, rfl⟩
        obtain ⟨o, ho⟩ : ∃ o, offY k = o := ⟨_, rfl⟩
        rw [hn, hz, ho] at hG2
        rw [hz] at hI hle HO
        rw [ho] at hle HO ⊢
        have HN : Hid ((symV l).getD k 0 = n) := hn
        have S' : QSt w w.heap.size (w.heap.size + 1) l (k + 1) (wr.setCell ⟨w.heap.size + 1, k, none⟩ (.int .i64 n)) := by
          refine ⟨?_, S.res.far _ _ _ (by omega), S.kept.setCell (p := ⟨w.heap.size + 1, k, none⟩) (Nat.le_succ _) (.int .i64 n)⟩
          intro j hj
          obtain ⟨h1, h2⟩ := N6.set S.box k n hlt j hj
          refine ⟨?_, h2⟩
          refine h1.trans ?_
          by_cases e : j = k
          · subst e; rw [if_pos rfl, if_pos (Nat.lt_succ_self _), HN.out]
          · rw [if_neg e]
            by_cases e2 : j < k
            · rw [if_pos e2, if_pos (by omega)]
            · rw [if_neg e2, if_neg (by omega)]
        clear hn hz ho hG hIx hr hb hV S hT
        go_wp2_with (go_at_call 21; refine hG2.mono ?_; rintro e w9 ⟨rfl, hw9⟩; have hw8 := hw9.symm; subst hw8; clear hw9)
        go_roundw
        case rel => exact ⟨k + 1, by omega, by go_num, by rw [HO.out]; go_num, S'⟩
        case measure => simp [intOf]; omega
      · obtain rfl : k = 6 := by omega
        obtain ⟨n, o, p, u, x, z, hv⟩ := list6 (symV_length l)
        obtain ⟨q0, q1, q2, q3, _⟩ := back_sym HL.out hr hv
        have hbx := S.box
        rw [hv] at hbx
        have x0 := (hbx 0 (by decide)).1
        have x1 := (hbx 1 (by decide)).1
        have x2 := (hbx 2 (by decide)).1
        have x3 := (hbx 3 (by decide)).1
        have x4 := (hbx 4 (by decide)).1
        have x5 := (hbx 5 (by decide)).1
        rw [if_pos (by decide)] at x0 x1 x2 x3 x4 x5
        simp only [List.getD_cons_zero, List.getD_cons_succ] at x0 x1 x2 x3 x4 x5
        have hS := fun w => symbolOf_walk n o p u x z w q1.1 q1.2 q3.1 q3.2
        have hP := ryOk_prog HL.out hr hv some_may
        have hQ0 : 0 ≤ o / 16 := by omega
        have HP : Hid (wrtB (o / 16) (p == 2) (tW u) x z n l = ryOk n o p u x z) := hP.1.symm
        have HP2 : Hid (ryOk n o p u x z = true → tW u = uW u) := hP.2
        have HB0 : Hid (ryOk n o p u x z = false → rdY l = (0, false, 0, 0, 0, 0, 8)) := rdY_bad HL.out hv
        have HB1 : Hid (ryOk n o p u x z = true → rdY l = (o / 16, p == 2, uW u, x, z, n, 0)) := rdY_ok HL.out hv
        have hWt := fun w hT (hB : Byt w a l) => isWritten_walk ⟨#[]⟩ (o / 16) (p == 2) (tW u) x z n a 24 cap l w hT hQ0 HL.out hB hr
        rw [HP.out] at hWt
        obtain ⟨G, hG0⟩ : ∃ G, ryOk n o p u x z = G := ⟨_, rfl⟩
        rw [hG0] at hWt HP2 HB0 HB1
        obtain ⟨Q, hQ⟩ : ∃ Q, o / 16 = Q := ⟨_, rfl⟩
        obtain ⟨g, hg⟩ : ∃ g, (p == 2) = g := ⟨_, rfl⟩
        obtain ⟨W, hW⟩ : ∃ W, tW u = W := ⟨_, rfl⟩
        rw [hQ, hg, hW] at hWt hS
        rw [hQ, hg] at HB1
        rw [hW] at HP2
        have K0 := S.kept
        have Z0 := S.res
        clear hbx hv hP HP hG0 hQ hg hW q0 q1 q2 q3 hQ0 hG hIx S
        go_upto_region 14 with fail
        have hS1 := hS wr
        have Z0' := Z0
        obtain ⟨z0, z1, z2, z3, z4, z5, y0, y1, y2, y3, y4, y5⟩ := Z0'
        clear hS
        go_upto_region 15 with (go_at_call 22; refine hS1.mono ?_; rintro e w1 ⟨rfl, k1⟩; clear z0 z1 z2 z3 z4 z5 y0 y1 y2 y3 y4 y5; have Z1 := Z0.kept k1; have Z2 := Z1.put ⟨#[]⟩ Q g W x z; have K2 := below_put6 (b := w.heap.size) (Kept.trans K0 k1) (Nat.le_refl _) ⟨#[]⟩ Q g W x z; obtain ⟨w2, hw2⟩ : ∃ w2, put6 w1 w.heap.size ⟨#[]⟩ Q g W x z = w2 := ⟨_, rfl⟩; rw [hw2] at Z2 K2; obtain ⟨z0, z1, z2, z3, z4, z5, y0, y1, y2, y3, y4, y5⟩ := Z1)
        have hWt2 := hWt w2 (hT.kept K2) (hb.kept K2)
        clear z0 z1 z2 z3 z4 z5 y0 y1 y2 y3 y4 y5 hS1 hw2 x0 x1 x2 x3 x4 x5 hWt hT hb hr Z0 K0 k1
        have Z2' := Z2
        obtain ⟨z0, z1, z2, z3, z4, z5, y0, y1, y2, y3, y4, y5⟩ := Z2'
        cases G with
        | false =>
          have hV' := hV.out
          rw [HB0.out rfl] at hV'
          simp only [Prod.mk.injEq] at hV'
          obtain ⟨rfl, rfl, rfl, rfl, rfl, rfl, rfl⟩ := hV'
          clear HB0 HB1 HP2 hV
          go_upto_region 16 with (go_at_call 23; refine hWt2.mono ?_; rintro e w3 ⟨rfl, k3⟩)
          have Z3 := Z2.kept k3
          have hR := Z3.put ⟨#[]⟩ 0 false 0 0 0
          have hW := below_put6 (b := w.heap.size) (Kept.trans K2 k3) (Nat.le_refl _) ⟨#[]⟩ 0 false 0 0 0
          clear z0 z1 z2 z3 z4 z5 y0 y1 y2 y3 y4 y5
          obtain ⟨z0, z1, z2, z3, z4, z5, y0, y1, y2, y3, y4, y5⟩ := Z3
          go_wp2
          exact bodyPost_ret (v := .tuple #[symW ⟨#[]⟩ 0 false 0 0 0, .int .i64 0, .int .i64 8]) (by simp [results, Tryd.results11, go_sem, hR.c0, hR.c1, hR.c2, hR.c3, hR.c4, hR.c5]) rfl ⟨rfl, hW⟩
        | true =>
          have hV' := hV.out
          rw [HB1.out rfl, ← HP2.out rfl] at hV'
          simp only [Prod.mk.injEq] at hV'
          obtain ⟨rfl, rfl, rfl, rfl, rfl, rfl, rfl⟩ := hV'
          clear HB0 HB1 HP2 hV
          go_upto_region 17 with (go_at_call 23; refine hWt2.mono ?_; rintro e w3 ⟨rfl, k3⟩)
          have Z3 := Z2.kept k3
          have hR := Z3.put ⟨#[]⟩ Q g W x z
          have hW := below_put6 (b := w.heap.size) (Kept.trans K2 k3) (Nat.le_refl _) ⟨#[]⟩ Q g W x z
          clear z0 z1 z2 z3 z4 z5 y0 y1 y2 y3 y4 y5
          obtain ⟨z0, z1, z2, z3, z4, z5, y0, y1, y2, y3, y4, y5⟩ := Z3
          go_wp2
          exact bodyPost_ret (v := .tuple #[symW ⟨#[]⟩ Q g W x z, .int .i64 n, .int .i64 0]) (by simp [results, Tryd.results11, go_sem, hR.c0, hR.c1, hR.c2, hR.c3, hR.c4, hR.c5]) rfl ⟨rfl, hW⟩
  · have h3 := rdY_len (b := l) (by omega)
    have hV' := hV.out
    rw [h3] at hV'
    simp only [Prod.mk.injEq] at hV'
    obtain ⟨rfl, rfl, rfl, rfl, rfl, rfl, rfl⟩ := hV'
    have q : ((m : Int) != 24) = true := by rw [bne_iff_ne]; omega
    have q' : (m != 24) = true := by rw [bne_iff_ne]; omega
    have hR := R1.put ⟨#[]⟩ 0 false 0 0 0
    have hW := below_put6 (b := w.heap.size) kA (Nat.le_refl _) ⟨#[]⟩ 0 false 0 0 0
    have R1' := R1
    obtain ⟨z0, z1, z2, z3, z4, z5, y0, y1, y2, y3, y4, y5⟩ := R1'
    clear hm h3 hV hb hr R1
    go_enter Tryd.func11, Tryd.ntmps11
    go_wp2
    exact bodyPost_ret (v := .tuple #[symW ⟨#[]⟩ 0 false 0 0 0, .int .i64 0, .int .i64 3]) (by simp [results, Tryd.results11, go_sem, hR.c0, hR.c1, hR.c2, hR.c3, hR.c4, hR.c5]) rfl ⟨rfl, hW⟩
end Go.Proofs.YteehekoajemciaaDoor
