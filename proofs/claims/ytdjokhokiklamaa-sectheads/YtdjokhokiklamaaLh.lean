/- The law SectHeads, walked. -/
import Derived.Test.YtdjokhokiklamaaLb
import Derived.Test.YtdjokhokiklamaaRr
namespace Go.Proofs.Ytdjokhokiklamaa
open Go.RowKit

theorem wrL_le {v : List Int} (hv : v.length = 10) : (wrL v).length ≤ 64 := by
  unfold wrL
  split
  · rw [headL_length hv]; exact Nat.le_refl _
  · simp

set_option maxRecDepth 20000 in
set_option maxHeartbeats 3200000 in
theorem heads_walk (v0 v1 v2 v3 v4 v5 v6 v7 v8 v9 : Int) (v : List Int) (a : Option Addr) (m cap : Nat) (l : List Int) (w : World) (hv : v = [v0, v1, v2, v3, v4, v5, v6, v7, v8, v9]) (hvr : ∀ n ∈ v, -9223372036854775808 ≤ n ∧ n ≤ 9223372036854775807)
    (hl : l.length = m) (hcap : m ≤ cap) (hb : Byt w a l) (hnil : a = none → m = 0 ∧ cap = 0) (hr : ∀ x ∈ l, 0 ≤ x ∧ x < 256) :
    Calls Try.prog 5 #[headW' v0 v1 v2 v3 v4 v5 v6 v7 v8 v9, .slice a m cap] w fun e w' => e = .returned (.bool true) ∧ Kept w w' := by
  have H1 := HBx.new w v0 v1 v2 v3 v4 v5 v6 v7 v8 v9
  obtain ⟨wa, hwa⟩ : ∃ wa, w.alloc (headO v0 v1 v2 v3 v4 v5 v6 v7 v8 v9) = wa := ⟨_, rfl⟩
  rw [hwa] at H1
  have kA : Kept w wa := by rw [← hwa]; exact Kept.alloc _ _
  have hW1 := fun w => write_walk v0 v1 v2 v3 v4 v5 v6 v7 v8 v9 v w hv hvr
  have hW2 := fun w => rwrite_walk v0 v1 v2 v3 v4 v5 v6 v7 v8 v9 v w hv
  obtain ⟨r0, r1, r2, r3, r4, r5, r6, r7, r8, r9, hR0⟩ := list10 (rdV_length l)
  obtain ⟨F, hF0⟩ : ∃ F, rdE l = F := ⟨_, rfl⟩
  have hRd := fun a m cap w' hl hcap (hb : Byt w' a l) => read_walk a m cap l r0 r1 r2 r3 r4 r5 r6 r7 r8 r9 F w' hl hcap hb hr hF0 hR0
  have hRr := fun w' (hb : Byt w' a l) => rread_walk a m cap l r0 r1 r2 r3 r4 r5 r6 r7 r8 r9 F w' hl hcap hb hr hF0 hR0
  have hv10 : v.length = 10 := by rw [hv]; rfl
  have hLle := wrL_le hv10
  obtain ⟨E, hE0⟩ : ∃ E, wrE v = E := ⟨_, rfl⟩
  obtain ⟨L, hL0⟩ : ∃ L, wrL v = L := ⟨_, rfl⟩
  rw [hE0, hL0] at hW1 hW2
  rw [hL0] at hLle
  obtain ⟨nL, hnL⟩ : ∃ n, L.length = n := ⟨_, rfl⟩
  have b0 := (H1 0 (by decide)).1
  have b1 := (H1 1 (by decide)).1
  have b2 := (H1 2 (by decide)).1
  have b3 := (H1 3 (by decide)).1
  have b4 := (H1 4 (by decide)).1
  have b5 := (H1 5 (by decide)).1
  have b6 := (H1 6 (by decide)).1
  have b7 := (H1 7 (by decide)).1
  have b8 := (H1 8 (by decide)).1
  have b9 := (H1 9 (by decide)).1
  simp only [List.getD_cons_zero, List.getD_cons_succ] at b0 b1 b2 b3 b4 b5 b6 b7 b8 b9
  clear H1 hv hE0 hL0 hF0 hR0 hv10
  by_cases hm : 10000 < m
  · have d : decide ((10000 : Int) < (m : Int)) = true := decide_eq_true (by omega)
    go_enter Try.func5, Try.ntmps5
    go_wp2
    go_ret
    exact ⟨rfl, kA⟩
  · have d : decide ((10000 : Int) < (m : Int)) = false := decide_eq_false (by omega)
    have hba : Byt wa a l := hb.kept kA
    go_enter Try.func5, Try.ntmps5
    go_upto_region 4 with (at_builtin; refine wpList_append_byt rfl _ _ rfl wa.heap.size (.slice none 0 0) [] l a cap rfl (by rw [hl]; rfl) (Own.nil _ _) hba (by rw [hl]; exact hnil) (by simp; omega) wa (Kept.refl _) (Nat.le_refl _) ?_; intro v1 w1 R1 k1)
    obtain ⟨A1, C1, rfl, hC1, y1, _⟩ := Own.let (l := l) (by simpa using R1) hl
    clear R1 hba hwa
    have c0 : w1.cell? ⟨w.heap.size, 0, none⟩ = some (.int .i64 v0) := Kept.cell k1 b0
    have c1 : w1.cell? ⟨w.heap.size, 1, none⟩ = some (.int .i64 v1) := Kept.cell k1 b1
    have c2 : w1.cell? ⟨w.heap.size, 2, none⟩ = some (.int .i64 v2) := Kept.cell k1 b2
    have c3 : w1.cell? ⟨w.heap.size, 3, none⟩ = some (.int .i64 v3) := Kept.cell k1 b3
    have c4 : w1.cell? ⟨w.heap.size, 4, none⟩ = some (.int .i64 v4) := Kept.cell k1 b4
    have c5 : w1.cell? ⟨w.heap.size, 5, none⟩ = some (.int .i64 v5) := Kept.cell k1 b5
    have c6 : w1.cell? ⟨w.heap.size, 6, none⟩ = some (.int .i64 v6) := Kept.cell k1 b6
    have c7 : w1.cell? ⟨w.heap.size, 7, none⟩ = some (.int .i64 v7) := Kept.cell k1 b7
    have c8 : w1.cell? ⟨w.heap.size, 8, none⟩ = some (.int .i64 v8) := Kept.cell k1 b8
    have c9 : w1.cell? ⟨w.heap.size, 9, none⟩ = some (.int .i64 v9) := Kept.cell k1 b9
    go_upto_region 5 with (go_at_call 19; refine (hW1 _).mono ?_; rintro e w2 ⟨x2, rfl, O2, k2⟩)
    obtain ⟨A2, C2, rfl, _, y2, _⟩ := O2.let hnL
    have K2 := Kept.trans k1 k2
    clear c0 c1 c2 c3 c4 c5 c6 c7 c8 c9 O2 hW1
    have c0 : w2.cell? ⟨w.heap.size, 0, none⟩ = some (.int .i64 v0) := Kept.cell K2 b0
    have c1 : w2.cell? ⟨w.heap.size, 1, none⟩ = some (.int .i64 v1) := Kept.cell K2 b1
    have c2 : w2.cell? ⟨w.heap.size, 2, none⟩ = some (.int .i64 v2) := Kept.cell K2 b2
    have c3 : w2.cell? ⟨w.heap.size, 3, none⟩ = some (.int .i64 v3) := Kept.cell K2 b3
    have c4 : w2.cell? ⟨w.heap.size, 4, none⟩ = some (.int .i64 v4) := Kept.cell K2 b4
    have c5 : w2.cell? ⟨w.heap.size, 5, none⟩ = some (.int .i64 v5) := Kept.cell K2 b5
    have c6 : w2.cell? ⟨w.heap.size, 6, none⟩ = some (.int .i64 v6) := Kept.cell K2 b6
    have c7 : w2.cell? ⟨w.heap.size, 7, none⟩ = some (.int .i64 v7) := Kept.cell K2 b7
    have c8 : w2.cell? ⟨w.heap.size, 8, none⟩ = some (.int .i64 v8) := Kept.cell K2 b8
    have c9 : w2.cell? ⟨w.heap.size, 9, none⟩ = some (.int .i64 v9) := Kept.cell K2 b9
    go_upto_region 6 with (go_at_call 20; refine (hW2 _).mono ?_; rintro e w3 ⟨x3, rfl, O3, k3⟩)
    obtain ⟨A3, C3, rfl, _, y3, _⟩ := O3.let hnL
    have K3 := K2.trans k3
    have hR1 := hRd A1 m C1 w3 hl hC1 ((y1.kept k2).kept k3)
    clear c0 c1 c2 c3 c4 c5 c6 c7 c8 c9 b0 b1 b2 b3 b4 b5 b6 b7 b8 b9 O3 hW2 hRd
    go_upto_region 7 with (go_at_call 11; refine hR1.mono ?_; rintro e w4 ⟨rfl, k4⟩)
    have hX := HBx.new w4 r0 r1 r2 r3 r4 r5 r6 r7 r8 r9
    have k5 : Kept w4 (w4.alloc (headO r0 r1 r2 r3 r4 r5 r6 r7 r8 r9)) := Kept.alloc _ _
    obtain ⟨w5, hw5⟩ : ∃ w5, w4.alloc (headO r0 r1 r2 r3 r4 r5 r6 r7 r8 r9) = w5 := ⟨_, rfl⟩
    have s5 : w5.heap.size = w4.heap.size + 1 := by rw [← hw5]; simp
    rw [hw5] at hX k5 ⊢
    have K5 := (K3.trans k4).trans k5
    have hR2 := hRr w5 (hb.kept (kA.trans K5))
    clear hw5 hR1 hRr
    go_upto_region 8 with (go_at_call 21; refine hR2.mono ?_; rintro e w6 ⟨rfl, k6⟩)
    have hY := HBx.new w6 r0 r1 r2 r3 r4 r5 r6 r7 r8 r9
    have k7 : Kept w6 (w6.alloc (headO r0 r1 r2 r3 r4 r5 r6 r7 r8 r9)) := Kept.alloc _ _
    obtain ⟨w7, hw7⟩ : ∃ w7, w6.alloc (headO r0 r1 r2 r3 r4 r5 r6 r7 r8 r9) = w7 := ⟨_, rfl⟩
    rw [hw7] at hY k7 ⊢
    have K7 := (K5.trans k6).trans k7
    have hX7 := (hX.kept k6).kept k7
    have x0 := (hX7 0 (by decide)).1
    have x1 := (hX7 1 (by decide)).1
    have x2 := (hX7 2 (by decide)).1
    have x3 := (hX7 3 (by decide)).1
    have x4 := (hX7 4 (by decide)).1
    have x5 := (hX7 5 (by decide)).1
    have x6 := (hX7 6 (by decide)).1
    have x7 := (hX7 7 (by decide)).1
    have x8 := (hX7 8 (by decide)).1
    have x9 := (hX7 9 (by decide)).1
    have z0 := (hY 0 (by decide)).1
    have z1 := (hY 1 (by decide)).1
    have z2 := (hY 2 (by decide)).1
    have z3 := (hY 3 (by decide)).1
    have z4 := (hY 4 (by decide)).1
    have z5 := (hY 5 (by decide)).1
    have z6 := (hY 6 (by decide)).1
    have z7 := (hY 7 (by decide)).1
    have z8 := (hY 8 (by decide)).1
    have z9 := (hY 9 (by decide)).1
    simp only [List.getD_cons_zero, List.getD_cons_succ] at x0 x1 x2 x3 x4 x5 x6 x7 x8 x9 z0 z1 z2 z3 z4 z5 z6 z7 z8 z9
    have S1 := str_len (cap := C2) hnL (((((y2.kept k3).kept k4).kept k5).kept k6).kept k7)
    have S2 := str_len (cap := C3) hnL ((((y3.kept k4).kept k5).kept k6).kept k7)
    have S3 := str_len (cap := C1) hl ((((((y1.kept k2).kept k3).kept k4).kept k5).kept k6).kept k7)
    have S4 := str_len (cap := cap) hl (hb.kept (kA.trans K7))
    obtain ⟨sL, hsL⟩ : ∃ s, strOfNums L = s := ⟨_, rfl⟩
    obtain ⟨sl, hsl⟩ : ∃ s, strOfNums l = s := ⟨_, rfl⟩
    rw [hsL] at S1 S2
    rw [hsl] at S3 S4
    have q1 := beq_true (rfl : sL = sL)
    have q2 := beq_true (rfl : sl = sl)
    have W7 := kA.trans K7
    clear hsL hsl y1 y2 y3 hX hX7 hY hw7 hR2 hb hr hvr hnL hLle
    go_wp2
    go_ret
    exact ⟨rfl, W7⟩
end Go.Proofs.Ytdjokhokiklamaa
