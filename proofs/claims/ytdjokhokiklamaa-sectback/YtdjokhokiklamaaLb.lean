/- The law SectBack, walked. -/
import Derived.Test.YtdjokhokiklamaaKit
namespace Go.Proofs.Ytdjokhokiklamaa
open Go.RowKit

theorem rd_cases (l : List Int) : (rdE l ≠ 0 ∧ rdV l = noV) ∨ (rdE l = 0 ∧ l.length = 64 ∧ headB (headV l) = true ∧ rdV l = headV l) := by
  by_cases h : l.length = 64
  · cases hb : headB (headV l)
    · left
      obtain ⟨h1, h2⟩ := rd_bad h hb
      exact ⟨by rw [h1]; decide, h2⟩
    · right
      obtain ⟨h1, h2⟩ := rd_ok h hb
      exact ⟨h1, h, rfl, h2⟩
  · left
    obtain ⟨h1, h2⟩ := rd_len h
    exact ⟨by rw [h1]; decide, h2⟩
theorem rdV_length (l : List Int) : (rdV l).length = 10 := by
  rcases rd_cases l with ⟨_, h⟩ | ⟨_, _, _, h⟩
  · rw [h]; rfl
  · rw [h]; exact headV_length l
theorem getAll_range (ss : List Nat) (b : List Int) : ∀ n ∈ getAll ss b, -9223372036854775808 ≤ n ∧ n ≤ 9223372036854775807 := by
  induction ss generalizing b with
  | nil => intro n h; cases h
  | cons s r ih =>
    intro n h
    rw [getAll] at h
    rcases List.mem_cons.1 h with he | h
    · rw [he]; exact sOf_range _
    · exact ih _ n h
theorem rdV_range (l : List Int) : ∀ n ∈ rdV l, -9223372036854775808 ≤ n ∧ n ≤ 9223372036854775807 := by
  rcases rd_cases l with ⟨_, h⟩ | ⟨_, _, _, h⟩
  · rw [h]
    intro n hn
    have : n = 0 := by simpa [noV] using hn
    omega
  · rw [h]; exact getAll_range _ _

set_option maxRecDepth 20000 in
set_option maxHeartbeats 3200000 in
theorem back_walk (v0 v1 v2 v3 v4 v5 v6 v7 v8 v9 : Int) (v : List Int) (a : Option Addr) (m cap : Nat) (l : List Int) (w : World) (hv : v = [v0, v1, v2, v3, v4, v5, v6, v7, v8, v9]) (hvr : ∀ n ∈ v, -9223372036854775808 ≤ n ∧ n ≤ 9223372036854775807)
    (hl : l.length = m) (hcap : m ≤ cap) (hb : Byt w a l) (hr : ∀ x ∈ l, 0 ≤ x ∧ x < 256) :
    Calls Try.prog 6 #[headW' v0 v1 v2 v3 v4 v5 v6 v7 v8 v9, .slice a m cap] w fun e w' => e = .returned (.bool true) ∧ Kept w w' := by
  have H1 := HBx.new w v0 v1 v2 v3 v4 v5 v6 v7 v8 v9
  obtain ⟨wa, hwa⟩ : ∃ wa, w.alloc (headO v0 v1 v2 v3 v4 v5 v6 v7 v8 v9) = wa := ⟨_, rfl⟩
  rw [hwa] at H1
  have kA : Kept w wa := by rw [← hwa]; exact Kept.alloc _ _
  have hA := alive_walk wa
  have hW := fun w => write_walk v0 v1 v2 v3 v4 v5 v6 v7 v8 v9 v w hv hvr
  obtain ⟨r0, r1, r2, r3, r4, r5, r6, r7, r8, r9, hR0⟩ := list10 (rdV_length l)
  obtain ⟨F, hF0⟩ : ∃ F, rdE l = F := ⟨_, rfl⟩
  have hRd := fun w' (hb : Byt w' a l) => read_walk a m cap l r0 r1 r2 r3 r4 r5 r6 r7 r8 r9 F w' hl hcap hb hr hF0 hR0
  have hWr := fun w => write_walk r0 r1 r2 r3 r4 r5 r6 r7 r8 r9 (rdV l) w hR0 (rdV_range l)
  obtain ⟨E, hE0⟩ : ∃ E, wrE v = E := ⟨_, rfl⟩
  obtain ⟨L, hL0⟩ : ∃ L, wrL v = L := ⟨_, rfl⟩
  obtain ⟨G, hG0⟩ : ∃ E, wrE (rdV l) = E := ⟨_, rfl⟩
  obtain ⟨M, hM0⟩ : ∃ L, wrL (rdV l) = L := ⟨_, rfl⟩
  rw [hE0, hL0] at hW
  rw [hG0, hM0] at hWr
  have HV : Hid (v = [v0, v1, v2, v3, v4, v5, v6, v7, v8, v9]) := hv
  have HR0 : Hid (rdV l = [r0, r1, r2, r3, r4, r5, r6, r7, r8, r9]) := hR0
  have HF0 : Hid (rdE l = F) := hF0
  have HE0 : Hid (wrE v = E ∧ wrL v = L) := ⟨hE0, hL0⟩
  have HG0 : Hid (wrE (rdV l) = G ∧ wrL (rdV l) = M) := ⟨hG0, hM0⟩
  clear hv hR0 hF0 hE0 hL0 hG0 hM0
  have b0 := (H1 0 (by decide)).1
  have b1 := (H1 1 (by decide)).1
  have b2 := (H1 2 (by decide)).1
  have b3 := (H1 3 (by decide)).1
  have b4 := (H1 4 (by decide)).1
  have b5 := (H1 5 (by decide)).1
  have b6 := (H1 6 (by decide)).1
  have b7 := (H1 7 (by decide)).1
  have b8 := (H1 8 (by decide)).1
  have b9 := (H1 9 (by decide)).1
  simp only [List.getD_cons_zero, List.getD_cons_succ] at b0 b1 b2 b3 b4 b5 b6 b7 b8 b9
  clear H1
  go_enter Try.func6, Try.ntmps6
  go_upto_region 2 with (go_at_call 12; refine hA.mono ?_; rintro e w1 ⟨rfl, k1⟩)
  have c0 : w1.cell? ⟨w.heap.size, 0, none⟩ = some (.int .i64 v0) := Kept.cell k1 b0
  have c1 : w1.cell? ⟨w.heap.size, 1, none⟩ = some (.int .i64 v1) := Kept.cell k1 b1
  have c2 : w1.cell? ⟨w.heap.size, 2, none⟩ = some (.int .i64 v2) := Kept.cell k1 b2
  have c3 : w1.cell? ⟨w.heap.size, 3, none⟩ = some (.int .i64 v3) := Kept.cell k1 b3
  have c4 : w1.cell? ⟨w.heap.size, 4, none⟩ = some (.int .i64 v4) := Kept.cell k1 b4
  have c5 : w1.cell? ⟨w.heap.size, 5, none⟩ = some (.int .i64 v5) := Kept.cell k1 b5
  have c6 : w1.cell? ⟨w.heap.size, 6, none⟩ = some (.int .i64 v6) := Kept.cell k1 b6
  have c7 : w1.cell? ⟨w.heap.size, 7, none⟩ = some (.int .i64 v7) := Kept.cell k1 b7
  have c8 : w1.cell? ⟨w.heap.size, 8, none⟩ = some (.int .i64 v8) := Kept.cell k1 b8
  have c9 : w1.cell? ⟨w.heap.size, 9, none⟩ = some (.int .i64 v9) := Kept.cell k1 b9
  clear hA hwa
  go_upto_region 3 with (go_at_call 19; refine (hW _).mono ?_; rintro e w2 ⟨x2, rfl, O2, k2⟩)
  have K2 := Kept.trans k1 k2
  have W2 := kA.trans K2
  clear c0 c1 c2 c3 c4 c5 c6 c7 c8 c9 hW
  cases hbv : headB v with
  | false =>
    obtain rfl : E = 2 := by rw [← HE0.out.1]; exact (wr_no hbv).1
    clear O2
    go_upto_region 7 with fail
    have hRd2 := hRd _ (hb.kept W2)
    clear hRd
    rcases rd_cases l with ⟨hF, hz⟩ | ⟨hF, h64, hok, hz⟩
    · obtain ⟨rfl, rfl, rfl, rfl, rfl, rfl, rfl, rfl, rfl, rfl⟩ : r0 = 0 ∧ r1 = 0 ∧ r2 = 0 ∧ r3 = 0 ∧ r4 = 0 ∧ r5 = 0 ∧ r6 = 0 ∧ r7 = 0 ∧ r8 = 0 ∧ r9 = 0 := by
        have hR0 := HR0.out
        rw [hz] at hR0
        simpa [noV, eq_comm] using hR0
      have q : (F != 0) = true := by rw [bne_iff_ne, ← HF0.out]; exact hF
      clear hF hz HR0 HF0 hWr
      go_wp2_with (go_at_call 11; refine hRd2.mono ?_; rintro e w7 ⟨rfl, k7⟩)
      go_ret
      exact ⟨rfl, (Kept.trans W2 k7).trans (Kept.alloc _ _)⟩
    · obtain rfl : F = 0 := by rw [← HF0.out]; exact hF
      have hg : wrE (rdV l) = 0 ∧ wrL (rdV l) = l := by
        rw [hz]
        obtain ⟨g1, g2⟩ := wr_yes hok
        exact ⟨g1, by rw [g2, back_head h64 hr]⟩
      obtain rfl : G = 0 := by rw [← HG0.out.1]; exact hg.1
      have hM : l = M := by rw [← HG0.out.2]; exact hg.2.symm
      subst hM
      clear hg hok hz hF HF0 HR0 HG0
      go_upto_region 10 with (go_at_call 11; refine hRd2.mono ?_; rintro e w7 ⟨rfl, k7⟩)
      have hX := HBx.new w7 r0 r1 r2 r3 r4 r5 r6 r7 r8 r9
      have k8 : Kept w7 (w7.alloc (headO r0 r1 r2 r3 r4 r5 r6 r7 r8 r9)) := Kept.alloc _ _
      obtain ⟨w8, hw8⟩ : ∃ w8, w7.alloc (headO r0 r1 r2 r3 r4 r5 r6 r7 r8 r9) = w8 := ⟨_, rfl⟩
      rw [hw8] at hX k8 ⊢
      have x0 := (hX 0 (by decide)).1
      have x1 := (hX 1 (by decide)).1
      have x2 := (hX 2 (by decide)).1
      have x3 := (hX 3 (by decide)).1
      have x4 := (hX 4 (by decide)).1
      have x5 := (hX 5 (by decide)).1
      have x6 := (hX 6 (by decide)).1
      have x7 := (hX 7 (by decide)).1
      have x8 := (hX 8 (by decide)).1
      have x9 := (hX 9 (by decide)).1
      simp only [List.getD_cons_zero, List.getD_cons_succ] at x0 x1 x2 x3 x4 x5 x6 x7 x8 x9
      clear hX hw8
      go_upto_region 11 with (go_at_call 19; refine (hWr _).mono ?_; rintro e w9 ⟨x9, rfl, O9, k9⟩)
      obtain ⟨a9, c9, rfl, _, b9, _⟩ := O9.let hl
      have K9 := ((Kept.trans W2 k7).trans k8).trans k9
      have S1 := str_len (cap := c9) hl b9
      have S2 := str_len (cap := cap) hl (hb.kept K9)
      obtain ⟨ss, hss⟩ : ∃ s, strOfNums l = s := ⟨_, rfl⟩
      rw [hss] at S1 S2
      have q := beq_true (rfl : ss = ss)
      clear x0 x1 x2 x3 x4 x5 x6 x7 x8 x9 hss O9 b9 hWr hRd2
      go_wp2
      go_ret
      exact ⟨rfl, K9⟩
  | true =>
    obtain ⟨hE, hL⟩ := wr_yes hbv
    obtain rfl : E = 0 := by rw [← HE0.out.1]; exact hE
    have hLL : L = headL v := by rw [← HE0.out.2]; exact hL
    rw [hLL] at O2
    have hv10 : v.length = 10 := by rw [HV.out]; rfl
    have hhl := headL_length hv10
    have hbk := head_back hbv (fun n hn => (hvr n hn).2)
    have hok := rd_ok hhl (by rw [hbk]; exact hbv)
    obtain ⟨a2, c2, rfl, hc2, y2, _⟩ := O2.let hhl
    have hR2 := read_walk a2 64 c2 (headL v) v0 v1 v2 v3 v4 v5 v6 v7 v8 v9 0 w2 hhl hc2 y2 (putAll_range _) hok.1 (hok.2.trans (hbk.trans HV.out))
    clear hE hL hLL O2 hhl hbk hok y2 hbv hv10
    go_upto_region 5 with (go_at_call 11; refine hR2.mono ?_; rintro e w3 ⟨rfl, k3⟩)
    have hX := HBx.new w3 v0 v1 v2 v3 v4 v5 v6 v7 v8 v9
    have k4 : Kept w3 (w3.alloc (headO v0 v1 v2 v3 v4 v5 v6 v7 v8 v9)) := Kept.alloc _ _
    obtain ⟨w4, hw4⟩ : ∃ w4, w3.alloc (headO v0 v1 v2 v3 v4 v5 v6 v7 v8 v9) = w4 := ⟨_, rfl⟩
    rw [hw4] at hX k4 ⊢
    have x0 := (hX 0 (by decide)).1
    have x1 := (hX 1 (by decide)).1
    have x2 := (hX 2 (by decide)).1
    have x3 := (hX 3 (by decide)).1
    have x4 := (hX 4 (by decide)).1
    have x5 := (hX 5 (by decide)).1
    have x6 := (hX 6 (by decide)).1
    have x7 := (hX 7 (by decide)).1
    have x8 := (hX 8 (by decide)).1
    have x9 := (hX 9 (by decide)).1
    simp only [List.getD_cons_zero, List.getD_cons_succ] at x0 x1 x2 x3 x4 x5 x6 x7 x8 x9
    have K4 := (K2.trans k3).trans k4
    have W4 := kA.trans K4
    have c0 : w4.cell? ⟨w.heap.size, 0, none⟩ = some (.int .i64 v0) := Kept.cell K4 b0
    have c1 : w4.cell? ⟨w.heap.size, 1, none⟩ = some (.int .i64 v1) := Kept.cell K4 b1
    have c2 : w4.cell? ⟨w.heap.size, 2, none⟩ = some (.int .i64 v2) := Kept.cell K4 b2
    have c3 : w4.cell? ⟨w.heap.size, 3, none⟩ = some (.int .i64 v3) := Kept.cell K4 b3
    have c4 : w4.cell? ⟨w.heap.size, 4, none⟩ = some (.int .i64 v4) := Kept.cell K4 b4
    have c5 : w4.cell? ⟨w.heap.size, 5, none⟩ = some (.int .i64 v5) := Kept.cell K4 b5
    have c6 : w4.cell? ⟨w.heap.size, 6, none⟩ = some (.int .i64 v6) := Kept.cell K4 b6
    have c7 : w4.cell? ⟨w.heap.size, 7, none⟩ = some (.int .i64 v7) := Kept.cell K4 b7
    have c8 : w4.cell? ⟨w.heap.size, 8, none⟩ = some (.int .i64 v8) := Kept.cell K4 b8
    have c9 : w4.cell? ⟨w.heap.size, 9, none⟩ = some (.int .i64 v9) := Kept.cell K4 b9
    clear hX hw4 hR2
    go_upto_region 7 with fail
    clear x0 x1 x2 x3 x4 x5 x6 x7 x8 x9 c0 c1 c2 c3 c4 c5 c6 c7 c8 c9
    have hRd2 := hRd _ (hb.kept W4)
    clear hRd
    rcases rd_cases l with ⟨hF, hz⟩ | ⟨hF, h64, hok, hz⟩
    · obtain ⟨rfl, rfl, rfl, rfl, rfl, rfl, rfl, rfl, rfl, rfl⟩ : r0 = 0 ∧ r1 = 0 ∧ r2 = 0 ∧ r3 = 0 ∧ r4 = 0 ∧ r5 = 0 ∧ r6 = 0 ∧ r7 = 0 ∧ r8 = 0 ∧ r9 = 0 := by
        have hR0 := HR0.out
        rw [hz] at hR0
        simpa [noV, eq_comm] using hR0
      have q : (F != 0) = true := by rw [bne_iff_ne, ← HF0.out]; exact hF
      clear hF hz HR0 HF0 hWr
      go_wp2_with (go_at_call 11; refine hRd2.mono ?_; rintro e w7 ⟨rfl, k7⟩)
      go_ret
      exact ⟨rfl, (Kept.trans W4 k7).trans (Kept.alloc _ _)⟩
    · obtain rfl : F = 0 := by rw [← HF0.out]; exact hF
      have hg : wrE (rdV l) = 0 ∧ wrL (rdV l) = l := by
        rw [hz]
        obtain ⟨g1, g2⟩ := wr_yes hok
        exact ⟨g1, by rw [g2, back_head h64 hr]⟩
      obtain rfl : G = 0 := by rw [← HG0.out.1]; exact hg.1
      have hM : l = M := by rw [← HG0.out.2]; exact hg.2.symm
      subst hM
      clear hg hok hz hF HF0 HR0 HG0
      go_upto_region 10 with (go_at_call 11; refine hRd2.mono ?_; rintro e w7 ⟨rfl, k7⟩)
      have hX := HBx.new w7 r0 r1 r2 r3 r4 r5 r6 r7 r8 r9
      have k8 : Kept w7 (w7.alloc (headO r0 r1 r2 r3 r4 r5 r6 r7 r8 r9)) := Kept.alloc _ _
      obtain ⟨w8, hw8⟩ : ∃ w8, w7.alloc (headO r0 r1 r2 r3 r4 r5 r6 r7 r8 r9) = w8 := ⟨_, rfl⟩
      rw [hw8] at hX k8 ⊢
      have x0 := (hX 0 (by decide)).1
      have x1 := (hX 1 (by decide)).1
      have x2 := (hX 2 (by decide)).1
      have x3 := (hX 3 (by decide)).1
      have x4 := (hX 4 (by decide)).1
      have x5 := (hX 5 (by decide)).1
      have x6 := (hX 6 (by decide)).1
      have x7 := (hX 7 (by decide)).1
      have x8 := (hX 8 (by decide)).1
      have x9 := (hX 9 (by decide)).1
      simp only [List.getD_cons_zero, List.getD_cons_succ] at x0 x1 x2 x3 x4 x5 x6 x7 x8 x9
      clear hX hw8
      go_upto_region 11 with (go_at_call 19; refine (hWr _).mono ?_; rintro e w9 ⟨x9, rfl, O9, k9⟩)
      obtain ⟨a9, c9, rfl, _, b9, _⟩ := O9.let hl
      have K9 := ((Kept.trans W4 k7).trans k8).trans k9
      have S1 := str_len (cap := c9) hl b9
      have S2 := str_len (cap := cap) hl (hb.kept K9)
      obtain ⟨ss, hss⟩ : ∃ s, strOfNums l = s := ⟨_, rfl⟩
      rw [hss] at S1 S2
      have q := beq_true (rfl : ss = ss)
      clear x0 x1 x2 x3 x4 x5 x6 x7 x8 x9 hss O9 b9 hWr hRd2
      go_wp2
      go_ret
      exact ⟨rfl, K9⟩
end Go.Proofs.Ytdjokhokiklamaa
