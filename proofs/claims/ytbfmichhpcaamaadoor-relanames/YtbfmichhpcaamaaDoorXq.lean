/- What Check gives. -/
import Derived.Test.YtbfmichhpcaamaaDoorXp
namespace Go.Proofs.YtbfmichhpcaamaaDoor
open Go.RowKit

theorem all_okS {l : List SecV} {n : Nat} (hl : l.length = n) (h : ∀ j, j < n → okS (l.getD j secNo) = true) : l.all okS = true := by
  rw [List.all_eq_true]
  intro x hx
  obtain ⟨j, hj, rfl⟩ := List.mem_iff_getElem.1 hx
  have := h j (by omega)
  rwa [List.getD, List.getElem?_eq_getElem hj] at this
theorem some_noS {l : List SecV} {k : Nat} (hk : k < l.length) (h : okS (l.getD k secNo) = false) : l.all okS = false := by
  rw [List.all_eq_false]
  refine ⟨l.getD k secNo, ?_, by rw [h]; decide⟩
  rw [List.getD, List.getElem?_eq_getElem hk]
  exact List.getElem_mem hk

set_option maxRecDepth 20000 in
set_option maxHeartbeats 3200000 in
theorem xcheck_walk (sec off ty sy ad : Int) (a : Option Addr) (n cap : Nat) (l : List SecV) (y : Int) (w : World) (h0 : 0 ≤ ty) (h1 : ty < 256) (hl : l.length = n) (hcap : n ≤ cap) (hn : n ≤ maxLen) (hS : Secs w a l) (ho : off ≤ 9223372036854775807) :
    Calls Tryd.prog 9 #[relW sec off ty sy ad, .slice a n cap, .int .i64 y] w fun e w' => e = .returned (.int .i64 (chkX sec off ty sy ad l y)) ∧ Kept w w' := by
  obtain ⟨wa, hwa, B1, kA, sA⟩ := box_rela w sec off ty sy ad
  have hmx : maxLen ≤ 9223372036854775807 := by decide
  by_cases hm : 16 < n
  · rw [chkX_many (by omega)]
    have d1 : decide (16 < (n : Int)) = true := decide_eq_true (by omega)
    clear hS B1
    go_enter Tryd.func9, Tryd.ntmps9
    go_wp2
    go_ret
    exact ⟨rfl, kA⟩
  have d1 : decide (16 < (n : Int)) = false := decide_eq_false (by omega)
  by_cases hy0 : y < 0
  · rw [chkX_arg (by omega) (.inl hy0)]
    have d2 : decide (y < 0) = true := decide_eq_true hy0
    clear hS B1
    go_enter Tryd.func9, Tryd.ntmps9
    go_wp2
    go_ret
    exact ⟨rfl, kA⟩
  have d2 : decide (y < 0) = false := decide_eq_false hy0
  by_cases hy1 : 64 < y
  · rw [chkX_arg (by omega) (.inr hy1)]
    have d3 : decide (64 < y) = true := decide_eq_true hy1
    clear hS B1
    go_enter Tryd.func9, Tryd.ntmps9
    go_wp2
    go_ret
    exact ⟨rfl, kA⟩
  have d3 : decide (64 < y) = false := decide_eq_false hy1
  have HN : Hid (l.length = n ∧ n ≤ 16 ∧ 0 ≤ y ∧ y ≤ 64) := ⟨hl, by omega, by omega, by omega⟩
  have hn16 : n ≤ 16 := by omega
  clear hm hy0 hy1
  go_enter Tryd.func9, Tryd.ntmps9
  go_wp2
  go_loopw [21] (fun i wr => ∃ k : Nat, k ≤ n ∧ i = .int .i64 k ∧ Kept wa wr ∧ Hid (∀ j, j < k → okS (l.getD j secNo) = true)) (fun i _ => n - (intOf i).toNat)
  case atStart => exact ⟨0, Nat.zero_le _, rfl, Kept.refl _, fun j hj => absurd hj (Nat.not_lt_zero _)⟩
  case round =>
    obtain ⟨k, hk, rfl, S0, A⟩ := hrel
    have S := kA.trans S0
    by_cases hlt : k < n
    · obtain ⟨b, o, rfl, hAt⟩ := (hS.kept S).at (show k < l.length by omega)
      obtain ⟨v, hv⟩ : ∃ v, l.getD k secNo = v := ⟨_, rfl⟩
      have HV : Hid (l.getD k secNo = v) := hv
      obtain ⟨s, al, a', cp, sz, z⟩ := v
      rw [hv] at hAt
      have x0 : wr.cell? ⟨b, o + k * 4, none⟩ = some (.string s) := hAt.c0
      have x1 : wr.cell? ⟨b, o + k * 4 + 1, none⟩ = some (.int .i64 al) := hAt.c1
      have x2 : wr.cell? ⟨b, o + k * 4 + 2, none⟩ = some (.slice a' z.length cp) := hAt.c2
      have x3 : wr.cell? ⟨b, o + k * 4 + 3, none⟩ = some (.int .i64 sz) := hAt.c3
      have hsz : s.size ≤ maxLen := hAt.ok.size
      have HO : Hid (okS ⟨s, al, a', cp, sz, z⟩ = sectB (nm s) al z.length sz) := rfl
      obtain ⟨len, hlen⟩ : ∃ len, z.length = len := ⟨_, rfl⟩
      rw [hlen] at x2 HO
      have hC := fun w => check_walk s al a' len cp sz w hsz
      have ec : chkS (nm s) al len sz = if sectB (nm s) al len sz = true then 0 else 8 := rfl
      rw [ec] at hC
      have Z1 := Box.new wr ⟨#[]⟩ 0 (.slice none 0 0) 0
      obtain ⟨wb, hwb⟩ : ∃ wb, wr.alloc (.cells #[.string ⟨#[]⟩, .int .i64 0, .slice none 0 0, .int .i64 0] 47) = wb := ⟨_, rfl⟩
      have kB : Kept wr wb := by rw [← hwb]; exact Kept.alloc _ _
      rw [hwb] at Z1
      have Z2 := Z1.put s al (.slice a' len cp) sz
      have hsS := S0.size
      have K2 : Kept wa _ := below_put (S0.trans kB) hsS s al (.slice a' len cp) sz
      obtain ⟨z0, z1, z2, z3, y0, y1, y2, y3⟩ := Z1
      obtain ⟨wc, hwc⟩ : ∃ wc, put4 wb wr.heap.size s al (.slice a' len cp) sz = wc := ⟨_, rfl⟩
      rw [hwc] at Z2 K2
      obtain ⟨u0, u1, u2, u3, _, _, _, _⟩ := Z2
      cases hg : sectB (nm s) al len sz with
      | false =>
        rw [hg] at hC
        have HR : Hid (chkX sec off ty sy ad l y = 8) := chkX_sec (by omega) HN.out.2.2.1 HN.out.2.2.2 (some_noS (show k < l.length by omega) (by rw [HV.out, HO.out, hg]))
        clear hS hv hAt hlen hsz kB ec hg B1 A hwa
        go_wp2_with (go_at_call 19; refine (hC _).mono ?_; rintro e w4 ⟨rfl, k4⟩)
        go_ret
        exact ⟨by rw [HR.out]; rfl, (kA.trans K2).trans k4⟩
      | true =>
        rw [hg] at hC
        have A' : Hid (∀ j, j < k + 1 → okS (l.getD j secNo) = true) := fun j hj => by
          by_cases e : j = k
          · subst e; rw [HV.out, HO.out, hg]
          · exact A.out j (by omega)
        clear hS hv hAt hlen hsz kB ec hg B1 A hwa
        go_wp2_with (go_at_call 19; refine (hC _).mono ?_; rintro e w4 ⟨rfl, k4⟩)
        go_roundw
        case rel => exact ⟨k + 1, by omega, by go_num, K2.trans k4, A'⟩
        case measure => simp [intOf]; omega
    · obtain rfl : k = n := by omega
      have hall := all_okS HN.out.1 A.out
      have hin := chkX_in (sec := sec) (off := off) (ty := ty) (sy := sy) (ad := ad) (l := l) (n := y) (by omega) HN.out.2.2.1 HN.out.2.2.2 hall
      have hmay : mayX sec off ty sy ad l y = (adB ad && bndX ty sy y && plcX sec off ty ad l) := rfl
      rw [hmay] at hin
      have hA := fun w => isAddend_walk ad w
      have hBd := fun w => isBoundX_walk sec off ty sy ad y w h0 h1
      have hPl := fun w hS => isPlacedX_walk sec off ty sy ad a k cap l w h0 h1 hl hcap hn hS ho
      have B2 := B1.kept S0
      obtain ⟨g1, hg1⟩ : ∃ g, adB ad = g := ⟨_, rfl⟩
      obtain ⟨g2, hg2⟩ : ∃ g, bndX ty sy y = g := ⟨_, rfl⟩
      obtain ⟨g3, hg3⟩ : ∃ g, plcX sec off ty ad l = g := ⟨_, rfl⟩
      rw [hg1] at hin hA
      rw [hg2] at hin hBd
      rw [hg3] at hin hPl
      have B2' := B2
      obtain ⟨c0, c1, c2, c3, c4, _, _, _, _, _⟩ := B2'
      have HI : Hid (chkX sec off ty sy ad l y = if (g1 && g2 && g3) = true then 0 else 8) := hin
      clear hin hmay hall A hg1 hg2 hg3 hwa B1 h0 h1 ho hl hcap hn HN
      cases g1 with
      | false =>
        clear hBd hPl
        go_wp2_with (go_at_call 20; refine (hA _).mono ?_; rintro e w2 ⟨rfl, hw2⟩; have hw3 := hw2.symm; subst hw3; clear hw2)
        go_ret
        exact ⟨by rw [HI.out]; rfl, S⟩
      | true =>
        cases g2 with
        | false =>
          clear hPl
          go_wp2_with (first | (go_at_call 20; refine (hA _).mono ?_; rintro e w2 ⟨rfl, hw2⟩; have hw3 := hw2.symm; subst hw3; clear hw2) | (go_at_call 21; refine (hBd _).mono ?_; rintro e w5 ⟨rfl, k5⟩; clear c0 c1 c2 c3 c4; obtain ⟨c0, c1, c2, c3, c4, _, _, _, _, _⟩ := B2.kept k5))
          go_ret
          exact ⟨by rw [HI.out]; rfl, S.trans k5⟩
        | true =>
          cases g3 with
          | false =>
            go_wp2_with (first | (go_at_call 20; refine (hA _).mono ?_; rintro e w2 ⟨rfl, hw2⟩; have hw3 := hw2.symm; subst hw3; clear hw2) | (go_at_call 21; refine (hBd _).mono ?_; rintro e w5 ⟨rfl, k5⟩; clear c0 c1 c2 c3 c4; obtain ⟨c0, c1, c2, c3, c4, _, _, _, _, _⟩ := B2.kept k5) | (go_at_call 22; refine (hPl _ (hS.kept (S.trans k5))).mono ?_; rintro e w6 ⟨rfl, k6⟩))
            go_ret
            exact ⟨by rw [HI.out]; rfl, (S.trans k5).trans k6⟩
          | true =>
            go_wp2_with (first | (go_at_call 20; refine (hA _).mono ?_; rintro e w2 ⟨rfl, hw2⟩; have hw3 := hw2.symm; subst hw3; clear hw2) | (go_at_call 21; refine (hBd _).mono ?_; rintro e w5 ⟨rfl, k5⟩; clear c0 c1 c2 c3 c4; obtain ⟨c0, c1, c2, c3, c4, _, _, _, _, _⟩ := B2.kept k5) | (go_at_call 22; refine (hPl _ (hS.kept (S.trans k5))).mono ?_; rintro e w6 ⟨rfl, k6⟩))
            go_ret
            exact ⟨by rw [HI.out]; rfl, (S.trans k5).trans k6⟩
end Go.Proofs.YtbfmichhpcaamaaDoor
