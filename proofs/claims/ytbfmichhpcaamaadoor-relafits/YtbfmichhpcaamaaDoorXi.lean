/- The law RelaFits, walked. -/
import Derived.Test.YtbfmichhpcaamaaDoorXk
import Derived.RegionTactic
import Derived.ChangeAlike
namespace Go.Proofs.YtbfmichhpcaamaaDoor
open Go.RowKit

theorem wrapI {n : Int} (h0 : -9223372036854775808 ≤ n) (h1 : n ≤ 9223372036854775807) : IntKind.i64.wrap n = n := by
  have e : IntKind.i64.wrap n = if 9223372036854775808 ≤ n % 18446744073709551616 then n % 18446744073709551616 - 18446744073709551616 else n % 18446744073709551616 := by
    simp [IntKind.wrap, IntKind.bits, IntKind.signed]
  rw [e]
  split <;> omega
open Go.Sort in
set_option maxRecDepth 20000 in
set_option maxHeartbeats 3200000 in
theorem fitsX_walk (sec off ty sy ad : Int) (a : Option Addr) (n cap : Nat) (l : List SecV) (y : Int) (w : World) (hT : Tab w) (ok : RelaOk sec off ty sy ad) (hl : l.length = n) (hcap : n ≤ cap) (hn : n ≤ maxLen) (hS : Secs w a l) :
    Calls Tryd.prog 6 #[relW sec off ty sy ad, .slice a n cap, .int .i64 y] w fun e w' => e = .returned (.bool true) ∧ Kept w w' := by
  obtain ⟨wa, hwa, B1, kA, sA⟩ := box_rela w sec off ty sy ad
  have hA := alive_walk wa (hT.kept kA)
  have hmx : maxLen ≤ 9223372036854775807 := by decide
  have ht0 := ok.t0
  have ht1 := ok.t1
  have hou := ok.ou
  go_enter Tryd.func6, Tryd.ntmps6
  go_upto_region 2 with (go_at_call 12; refine hA.mono ?_; rintro e w1 ⟨rfl, k1⟩)
  have B2 := B1.kept k1
  have K1 := kA.trans k1
  clear B1 hA hwa k1 kA sA
  by_cases h20 : 20 < n
  · have d1 : decide ((20 : Int) < (n : Int)) = true := decide_eq_true (by omega)
    clear hS
    go_wp2
    go_ret
    exact ⟨rfl, K1⟩
  have d1 : decide ((20 : Int) < (n : Int)) = false := decide_eq_false (by omega)
  have hLg := large_walk a n cap l w1 hl hcap (by omega) (hS.kept K1)
  cases hg : largeB l with
  | true =>
    rw [hg] at hLg
    clear hS hg
    go_wp2_with (go_at_call 13; refine hLg.mono ?_; rintro e w9 ⟨rfl, hw9⟩; have hw8 := hw9.symm; subst hw8; clear hw9)
    go_ret
    exact ⟨rfl, K1⟩
  | false =>
    rw [hg] at hLg
    go_upto_region 4 with (go_at_call 13; refine hLg.mono ?_; rintro e w9 ⟨rfl, hw9⟩; have hw8 := hw9.symm; subst hw8; clear hw9)
    have hC := xcheck_walk sec off ty sy ad a n cap l y w1 ht0 ht1 hl hcap hn (hS.kept K1) hou
    have B2' := B2
    obtain ⟨c0, c1, c2, c3, c4, _, _, _, _, _⟩ := B2'
    obtain ⟨E, hE⟩ : ∃ E, chkX sec off ty sy ad l y = E := ⟨_, rfl⟩
    rw [hE] at hC
    by_cases hE0 : E = 0
    · subst hE0
      obtain ⟨h16, hy0, hy1, hall, hmay⟩ := chkX_ok hE
      have hcod := may_cod hmay ⟨hy0, hy1⟩ hall
      have hmore := may_more (m := 64) hmay hy1
      have h64 := chkX_in (sec := sec) (off := off) (ty := ty) (sy := sy) (ad := ad) (l := l) (n := 64) h16 (by decide) (by decide) hall
      rw [if_pos hmore] at h64
      obtain ⟨_, hab, hsec, hoff, hfit, hbnd, _⟩ := mayX_has hmay
      have hsy := bnd_lt hy0 hbnd
      have hF := fun w => field_walk ty w
      rw [show fdV ty = abtN ty from if_pos hab, show fdE ty = 0 from if_pos hab] at hF
      have ha8 := abt_le ty
      obtain ⟨k, hk⟩ : ∃ k : Nat, sec - 1 = k := ⟨(sec - 1).toNat, by omega⟩
      have hkl : k < l.length := by omega
      have hz4 := okS_len hall hkl
      rw [show (sec - 1).toNat = k by omega] at hfit
      obtain ⟨M, hM⟩ : ∃ M, abtN ty = M := ⟨_, rfl⟩
      rw [hM] at hF hfit hab ha8
      have hWx := xwrite_walk sec off ty sy ad
      have hwx := wx_ok hcod
      clear hmay hcod hmore hbnd hM hall hLg hg hE
      go_upto_region 6 with (go_at_call 9; refine hC.mono ?_; rintro e w3 ⟨rfl, k3⟩)
      have K3 := K1.trans k3
      have B3 := B2.kept k3
      clear c0 c1 c2 c3 c4 hC
      have B3' := B3
      obtain ⟨c0, c1, c2, c3, c4, _, _, _, _, _⟩ := B3'
      go_upto_region 7 with (go_at_call 8; refine (hF _).mono ?_; rintro e w9 ⟨rfl, hw9⟩; have hw8 := hw9.symm; subst hw8; clear hw9)
      have hW1 := hWx w3 (hT.kept K3) ht0 ht1
      rw [hwx.1, hwx.2] at hW1
      go_upto_region 8 with (go_at_call 15; refine hW1.mono ?_; rintro e w5 ⟨x5, rfl, O5, k5⟩)
      have K5 := K3.trans k5
      have B5 := B3.kept k5
      clear c0 c1 c2 c3 c4 hW1 hWx hwx O5 hF B2 B3
      have d2 : decide (sec < 1) = false := decide_eq_false (by omega)
      have d3 : decide ((n : Int) < sec) = false := decide_eq_false (by omega)
      have B5' := B5
      obtain ⟨c0, c1, c2, c3, c4, _, _, _, _, _⟩ := B5'
      go_upto_region 10 with fail
      obtain ⟨b, o, rfl, hAt⟩ := (hS.kept K5).at hkl
      obtain ⟨v, hv⟩ : ∃ v, l.getD k secNo = v := ⟨_, rfl⟩
      obtain ⟨s, al, a', cp, sz, z⟩ := v
      rw [hv] at hAt hz4 hfit
      have x2 : w5.cell? ⟨b, o + k * 4 + 2, none⟩ = some (.slice a' z.length cp) := hAt.c2
      replace hz4 : z.length ≤ 4096 := hz4
      replace hfit : off + M ≤ (z.length : Int) := hfit
      obtain ⟨len, hlen⟩ : ∃ len, z.length = len := ⟨_, rfl⟩
      rw [hlen] at x2 hz4 hfit
      obtain ⟨P, hP⟩ : ∃ P, off + M = P := ⟨_, rfl⟩
      rw [hP] at hfit
      have hP8 : IntKind.i64.wrap P = P := wrapI (by omega) (by omega)
      have hk8 : IntKind.i64.wrap (k : Int) = k := wrapI (by omega) (by omega)
      have hkn : (k : Int) < (n : Int) := by omega
      have e1 : decide (0 ≤ off) = true := decide_eq_true hoff
      have e2 : decide (P ≤ (len : Int)) = true := decide_eq_true hfit
      have e3 : decide (sy < y) = true := decide_eq_true hsy.2
      have cA : ∀ d os, Calls Tryd.prog 9 #[relW sec off ty sy ad, .slice (some ⟨b, o, none⟩) n cap, .int .i64 64] (grow (redrawn w5 d) os) fun e w'' => e = .returned (.int .i64 0) ∧ ∃ p : Regrown, w'' = grow (redrawn w5 p.d) p.os := fun d os => Calls.regrown_of (by rw [← h64]; exact xcheck_walk sec off ty sy ad _ n cap l 64 _ ht0 ht1 hl hcap hn ((hS.kept K5).kept (below_regrown w5 d os)) hou)
      have u0 := cell_regrown c0
      have u1 := cell_regrown c1
      have u2 := cell_regrown c2
      have u3 := cell_regrown c3
      have u4 := cell_regrown c4
      have ux := cell_regrown x2
      clear c0 c1 c2 c3 c4 x2 B5 hAt hv hlen hS hT h64 hsy hsec
      refine wp_region_quiet_below (by kernel_rfl) (by kernel_rfl) ?_
      repeat (quiet_step ((go_at_call 9; exact cA _ _)))
      refine wpQuiet_nil ?_
      intro w8 hw8
      have K8 : Kept w5 w8 := by
        obtain ⟨⟨dq, osq⟩, e⟩ := hw8
        rw [e]
        exact below_regrown w5 dq osq
      go_wp2
      go_ret
      exact ⟨rfl, K5.trans K8⟩
    · have q : (E != 0) = true := by rw [bne_iff_ne]; exact hE0
      clear hE hE0 hS hLg
      go_wp2_with (go_at_call 9; refine hC.mono ?_; rintro e w3 ⟨rfl, k3⟩)
      go_ret
      exact ⟨rfl, K1.trans k3⟩
end Go.Proofs.YtbfmichhpcaamaaDoor
