/- What Check gives. Where a relocation's bytes end, whether it has some, which two are a pair, which stands ahead; nops: the program's. What Pad gives, and the document's own Pad. How many bytes a section has, whether a symbol is within its section, nops: the program's, and the document's nops. -/
import Derived.Test.YtljmgbpecoifnaaGreatDoorJal
import Derived.Deep.DeepCutAuto
import Derived.RegionTactic
import Derived.Test.YtljmgbpecoifnaaGreatDoorJag
namespace Go.Proofs.YtljmgbpecoifnaaGreatDoor
open Go.RowKit

theorem all_okS {l : List SecV} {n : Nat} (hl : l.length = n) (h : ∀ j, j < n → okS (l.getD j secNo) = true) : l.all okS = true := by
  rw [List.all_eq_true]
  intro x hx
  obtain ⟨j, hj, rfl⟩ := List.mem_iff_getElem.1 hx
  have := h j (by omega)
  rwa [List.getD, List.getElem?_eq_getElem hj] at this
theorem some_noS {l : List SecV} {k : Nat} (hk : k < l.length) (h : okS (l.getD k secNo) = false) : l.all okS = false := by
  rw [List.all_eq_false]
  refine ⟨l.getD k secNo, ?_, by rw [h]; decide⟩
  rw [List.getD, List.getElem?_eq_getElem hk]
  exact List.getElem_mem hk

set_option maxRecDepth 20000 in
set_option maxHeartbeats 3200000 in
theorem xcheck_walk (sec off ty sy ad : Int) (a : Option Addr) (n cap : Nat) (l : List SecV) (y : Int) (w : World) (h0 : 0 ≤ ty) (h1 : ty < 256) (hl : l.length = n) (hcap : n ≤ cap) (hn : n ≤ maxLen) (hS : Secs w a l) (ho : off ≤ 9223372036854775807) :
    Calls Tryz.prog 47 #[relW sec off ty sy ad, .slice a n cap, .int .i64 y] w fun e w' => e = .returned (.int .i64 (chkX sec off ty sy ad l y)) ∧ Kept w w' := by
  obtain ⟨wa, hwa, B1, kA, sA⟩ := box_rela w sec off ty sy ad
  have hmx : maxLen ≤ 9223372036854775807 := by decide
  by_cases hm : 16 < n
  · rw [chkX_many (by omega)]
    have d1 : decide (16 < (n : Int)) = true := decide_eq_true (by omega)
    clear hS B1
    go_enter Tryz.func47, Tryz.ntmps47
    go_wp2
    go_ret
    exact ⟨rfl, kA⟩
  have d1 : decide (16 < (n : Int)) = false := decide_eq_false (by omega)
  by_cases hy0 : y < 0
  · rw [chkX_arg (by omega) (.inl hy0)]
    have d2 : decide (y < 0) = true := decide_eq_true hy0
    clear hS B1
    go_enter Tryz.func47, Tryz.ntmps47
    go_wp2
    go_ret
    exact ⟨rfl, kA⟩
  have d2 : decide (y < 0) = false := decide_eq_false hy0
  by_cases hy1 : 64 < y
  · rw [chkX_arg (by omega) (.inr hy1)]
    have d3 : decide (64 < y) = true := decide_eq_true hy1
    clear hS B1
    go_enter Tryz.func47, Tryz.ntmps47
    go_wp2
    go_ret
    exact ⟨rfl, kA⟩
  have d3 : decide (64 < y) = false := decide_eq_false hy1
  have HN : Hid (l.length = n ∧ n ≤ 16 ∧ 0 ≤ y ∧ y ≤ 64) := ⟨hl, by omega, by omega, by omega⟩
  have hn16 : n ≤ 16 := by omega
  clear hm hy0 hy1
  go_enter Tryz.func47, Tryz.ntmps47
  go_wp2
  go_loopw [21] (fun i wr => ∃ k : Nat, k ≤ n ∧ i = .int .i64 k ∧ Kept wa wr ∧ Hid (∀ j, j < k → okS (l.getD j secNo) = true)) (fun i _ => n - (intOf i).toNat)
  case atStart => exact ⟨0, Nat.zero_le _, rfl, Kept.refl _, fun j hj => absurd hj (Nat.not_lt_zero _)⟩
  case round =>
    obtain ⟨k, hk, rfl, S0, A⟩ := hrel
    have S := kA.trans S0
    by_cases hlt : k < n
    · obtain ⟨b, o, rfl, hAt⟩ := (hS.kept S).at (show k < l.length by omega)
      obtain ⟨v, hv⟩ : ∃ v, l.getD k secNo = v := ⟨_, rfl⟩
      have HV : Hid (l.getD k secNo = v) := hv
      obtain ⟨s, al, a', cp, sz, z⟩ := v
      rw [hv] at hAt
      have x0 : wr.cell? ⟨b, o + k * 4, none⟩ = some (.string s) := hAt.c0
      have x1 : wr.cell? ⟨b, o + k * 4 + 1, none⟩ = some (.int .i64 al) := hAt.c1
      have x2 : wr.cell? ⟨b, o + k * 4 + 2, none⟩ = some (.slice a' z.length cp) := hAt.c2
      have x3 : wr.cell? ⟨b, o + k * 4 + 3, none⟩ = some (.int .i64 sz) := hAt.c3
      have hsz : s.size ≤ maxLen := hAt.ok.size
      have HO : Hid (okS ⟨s, al, a', cp, sz, z⟩ = sectB (nm s) al z.length sz) := rfl
      obtain ⟨len, hlen⟩ : ∃ len, z.length = len := ⟨_, rfl⟩
      rw [hlen] at x2 HO
      have hC := fun w => check_walk s al a' len cp sz w hsz
      have ec : chkS (nm s) al len sz = if sectB (nm s) al len sz = true then 0 else 8 := rfl
      rw [ec] at hC
      have Z1 := Box.new wr ⟨#[]⟩ 0 (.slice none 0 0) 0
      obtain ⟨wb, hwb⟩ : ∃ wb, wr.alloc (.cells #[.string ⟨#[]⟩, .int .i64 0, .slice none 0 0, .int .i64 0] 37) = wb := ⟨_, rfl⟩
      have kB : Kept wr wb := by rw [← hwb]; exact Kept.alloc _ _
      rw [hwb] at Z1
      have Z2 := Z1.put s al (.slice a' len cp) sz
      have hsS := S0.size
      have K2 : Kept wa _ := below_put (S0.trans kB) hsS s al (.slice a' len cp) sz
      obtain ⟨z0, z1, z2, z3, y0, y1, y2, y3⟩ := Z1
      obtain ⟨wc, hwc⟩ : ∃ wc, put4 wb wr.heap.size s al (.slice a' len cp) sz = wc := ⟨_, rfl⟩
      rw [hwc] at Z2 K2
      obtain ⟨u0, u1, u2, u3, _, _, _, _⟩ := Z2
      cases hg : sectB (nm s) al len sz with
      | false =>
        rw [hg] at hC
        have HR : Hid (chkX sec off ty sy ad l y = 8) := chkX_sec (by omega) HN.out.2.2.1 HN.out.2.2.2 (some_noS (show k < l.length by omega) (by rw [HV.out, HO.out, hg]))
        clear hS hv hAt hlen hsz kB ec hg B1 A hwa
        go_wp2_with (go_at_call 43; refine (hC _).mono ?_; rintro e w4 ⟨rfl, k4⟩)
        go_ret
        exact ⟨by rw [HR.out]; rfl, (kA.trans K2).trans k4⟩
      | true =>
        rw [hg] at hC
        have A' : Hid (∀ j, j < k + 1 → okS (l.getD j secNo) = true) := fun j hj => by
          by_cases e : j = k
          · subst e; rw [HV.out, HO.out, hg]
          · exact A.out j (by omega)
        clear hS hv hAt hlen hsz kB ec hg B1 A hwa
        go_wp2_with (go_at_call 43; refine (hC _).mono ?_; rintro e w4 ⟨rfl, k4⟩)
        go_roundw
        case rel => exact ⟨k + 1, by omega, by go_num, K2.trans k4, A'⟩
        case measure => simp [intOf]; omega
    · obtain rfl : k = n := by omega
      have hall := all_okS HN.out.1 A.out
      have hin := chkX_in (sec := sec) (off := off) (ty := ty) (sy := sy) (ad := ad) (l := l) (n := y) (by omega) HN.out.2.2.1 HN.out.2.2.2 hall
      have hmay : mayX sec off ty sy ad l y = (adB ad && bndX ty sy y && plcX sec off ty ad l) := rfl
      rw [hmay] at hin
      have hA := fun w => isAddend_walk ad w
      have hBd := fun w => isBoundX_walk sec off ty sy ad y w h0 h1
      have hPl := fun w hS => isPlacedX_walk sec off ty sy ad a k cap l w h0 h1 hl hcap hn hS ho
      have B2 := B1.kept S0
      obtain ⟨g1, hg1⟩ : ∃ g, adB ad = g := ⟨_, rfl⟩
      obtain ⟨g2, hg2⟩ : ∃ g, bndX ty sy y = g := ⟨_, rfl⟩
      obtain ⟨g3, hg3⟩ : ∃ g, plcX sec off ty ad l = g := ⟨_, rfl⟩
      rw [hg1] at hin hA
      rw [hg2] at hin hBd
      rw [hg3] at hin hPl
      have B2' := B2
      obtain ⟨c0, c1, c2, c3, c4, _, _, _, _, _⟩ := B2'
      have HI : Hid (chkX sec off ty sy ad l y = if (g1 && g2 && g3) = true then 0 else 8) := hin
      clear hin hmay hall A hg1 hg2 hg3 hwa B1 h0 h1 ho hl hcap hn HN
      cases g1 with
      | false =>
        clear hBd hPl
        go_wp2_with (go_at_call 84; refine (hA _).mono ?_; rintro e w2 ⟨rfl, hw2⟩; have hw3 := hw2.symm; subst hw3; clear hw2)
        go_ret
        exact ⟨by rw [HI.out]; rfl, S⟩
      | true =>
        cases g2 with
        | false =>
          clear hPl
          go_wp2_with (first | (go_at_call 84; refine (hA _).mono ?_; rintro e w2 ⟨rfl, hw2⟩; have hw3 := hw2.symm; subst hw3; clear hw2) | (go_at_call 85; refine (hBd _).mono ?_; rintro e w5 ⟨rfl, k5⟩; clear c0 c1 c2 c3 c4; obtain ⟨c0, c1, c2, c3, c4, _, _, _, _, _⟩ := B2.kept k5))
          go_ret
          exact ⟨by rw [HI.out]; rfl, S.trans k5⟩
        | true =>
          cases g3 with
          | false =>
            go_wp2_with (first | (go_at_call 84; refine (hA _).mono ?_; rintro e w2 ⟨rfl, hw2⟩; have hw3 := hw2.symm; subst hw3; clear hw2) | (go_at_call 85; refine (hBd _).mono ?_; rintro e w5 ⟨rfl, k5⟩; clear c0 c1 c2 c3 c4; obtain ⟨c0, c1, c2, c3, c4, _, _, _, _, _⟩ := B2.kept k5) | (go_at_call 86; refine (hPl _ (hS.kept (S.trans k5))).mono ?_; rintro e w6 ⟨rfl, k6⟩))
            go_ret
            exact ⟨by rw [HI.out]; rfl, (S.trans k5).trans k6⟩
          | true =>
            go_wp2_with (first | (go_at_call 84; refine (hA _).mono ?_; rintro e w2 ⟨rfl, hw2⟩; have hw3 := hw2.symm; subst hw3; clear hw2) | (go_at_call 85; refine (hBd _).mono ?_; rintro e w5 ⟨rfl, k5⟩; clear c0 c1 c2 c3 c4; obtain ⟨c0, c1, c2, c3, c4, _, _, _, _, _⟩ := B2.kept k5) | (go_at_call 86; refine (hPl _ (hS.kept (S.trans k5))).mono ?_; rintro e w6 ⟨rfl, k6⟩))
            go_ret
            exact ⟨by rw [HI.out]; rfl, (S.trans k5).trans k6⟩

def addB (k : Int) : Bool := decide (33 ≤ k) && decide (k ≤ 36)
def subB (k : Int) : Bool := decide (37 ≤ k) && decide (k ≤ 40)

set_option maxRecDepth 20000 in
theorem isAdd_walk (k : Int) (w : World) : Calls Tryz.prog 124 #[.int .u8 k] w fun e w' => e = .returned (.bool (addB k)) ∧ w' = w := by
  unfold addB
  obtain ⟨g1, h1⟩ : ∃ g, decide (33 ≤ k) = g := ⟨_, rfl⟩
  obtain ⟨g2, h2⟩ : ∃ g, decide (k ≤ 36) = g := ⟨_, rfl⟩
  rw [h1, h2]
  cases g1 with
  | false =>
    go_enter Tryz.func124, Tryz.ntmps124
    go_wp2
    go_ret
    exact ⟨rfl, rfl⟩
  | true =>
    go_enter Tryz.func124, Tryz.ntmps124
    go_wp2
    go_ret
    exact ⟨by first | rfl | simp, rfl⟩

set_option maxRecDepth 20000 in
theorem isSub_walk (k : Int) (w : World) : Calls Tryz.prog 125 #[.int .u8 k] w fun e w' => e = .returned (.bool (subB k)) ∧ w' = w := by
  unfold subB
  obtain ⟨g1, h1⟩ : ∃ g, decide (37 ≤ k) = g := ⟨_, rfl⟩
  obtain ⟨g2, h2⟩ : ∃ g, decide (k ≤ 40) = g := ⟨_, rfl⟩
  rw [h1, h2]
  cases g1 with
  | false =>
    go_enter Tryz.func125, Tryz.ntmps125
    go_wp2
    go_ret
    exact ⟨rfl, rfl⟩
  | true =>
    go_enter Tryz.func125, Tryz.ntmps125
    go_wp2
    go_ret
    exact ⟨by first | rfl | simp, rfl⟩

/-- How many bytes one has (bytN of its parts). -/
def bytV (ty ad : Int) : Int := if ty = 43 then ad else abtN ty
theorem bytN_eq (r : RelM) : bytN r = bytV r.ty r.ad := rfl
set_option maxRecDepth 20000 in
theorem endOf_walk (sec off ty sy ad E : Int) (w : World) (h0 : 0 ≤ abtN ty) (hE : off + bytV ty ad = E) (hlo : -9223372036854775808 ≤ E) (hhi : E ≤ 9223372036854775807) :
    Calls Tryz.prog 87 #[relW sec off ty sy ad] w fun e w' => e = .returned (.int .i64 E) ∧ Kept w w' := by
  obtain ⟨wa, hwa, B1, kA, sA⟩ := box_rela w sec off ty sy ad
  obtain ⟨c0, c1, c2, c3, c4, _, _, _, _, _⟩ := B1
  by_cases ht : ty = 43
  · have hq : (ty == 43) = true := beq_iff_eq.2 ht
    rw [show bytV ty ad = ad from if_pos ht] at hE
    have hw : wrap64 (off + ad) = E := by rw [← hE] at hlo hhi ⊢; unfold wrap64; omega
    clear ht hE hlo hhi h0
    go_enter Tryz.func87, Tryz.ntmps87
    go_wp2
    go_ret
    exact ⟨by rw [← hw]; rfl, kA⟩
  · have hq : (ty == 43) = false := beq_eq_false_iff_ne.2 ht
    rw [show bytV ty ad = abtN ty from if_neg ht] at hE
    obtain ⟨m, hm⟩ : ∃ m, abtN ty = m := ⟨_, rfl⟩
    have hF := fun w => field_walk ty w
    rw [show fdV ty = abtN ty from if_pos h0, show fdE ty = 0 from if_pos h0, hm] at hF
    rw [hm] at hE
    have hw : wrap64 (off + m) = E := by rw [← hE] at hlo hhi ⊢; unfold wrap64; omega
    clear ht hE hlo hhi h0 hm
    go_enter Tryz.func87, Tryz.ntmps87
    go_wp2_with (go_at_call 121; refine (hF _).mono ?_; rintro e w2 ⟨rfl, hw2⟩; have hw3 := hw2.symm; subst hw3; clear hw2)
    go_ret
    exact ⟨by rw [← hw]; rfl, kA⟩

open Go.Sort in
set_option maxRecDepth 20000 in
theorem hasBytesO_walk (sec off ty sy ad E : Int) (g : Bool) (w : World) (h0 : 0 ≤ abtN ty) (hE : off + bytV ty ad = E) (hlo : -9223372036854775808 ≤ E) (hhi : E ≤ 9223372036854775807) (hg : decide (off < E) = g) :
    Calls Tryz.prog 89 #[relW sec off ty sy ad] w fun e w' => e = .returned (.bool g) ∧ Kept w w' := by
  obtain ⟨wa, hwa, B1, kA, sA⟩ := box_rela w sec off ty sy ad
  obtain ⟨c0, c1, c2, c3, c4, _, _, _, _, _⟩ := B1
  have cA : ∀ d os, Calls Tryz.prog 87 #[relW sec off ty sy ad] (grow (redrawn wa d) os) fun e w'' => e = .returned (.int .i64 E) ∧ ∃ p : Regrown, w'' = grow (redrawn wa p.d) p.os := fun d os => Calls.regrown_of (endOf_walk sec off ty sy ad E _ h0 hE hlo hhi)
  have x0 := cell_regrown c0
  have x1 := cell_regrown c1
  have x2 := cell_regrown c2
  have x3 := cell_regrown c3
  have x4 := cell_regrown c4
  clear h0 hE hlo hhi c0 c1 c2 c3 c4
  go_enter Tryz.func89, Tryz.ntmps89
  go_upto_region 1 with fail
  refine wp_region_quiet_below (by kernel_rfl) (by kernel_rfl) ?_
  repeat (quiet_step (exact cA _ _))
  refine wpQuiet_nil ?_
  intro w8 hw8
  have K8 : Kept wa w8 := by
    obtain ⟨⟨dq, osq⟩, e⟩ := hw8
    rw [e]
    exact below_regrown wa dq osq
  go_wp2
  go_ret
  exact ⟨rfl, kA.trans K8⟩

def aheadB (s o s' o' : Int) : Bool := decide (s < s') || ((s == s') && decide (o < o'))

set_option maxRecDepth 20000 in
theorem isAhead_walk (sec off ty sy ad sec' off' ty' sy' ad' : Int) (w : World) :
    Calls Tryz.prog 49 #[relW sec off ty sy ad, relW sec' off' ty' sy' ad'] w fun e w' => e = .returned (.bool (aheadB sec off sec' off')) ∧ Kept w w' := by
  unfold aheadB
  obtain ⟨wa, hwa, B1, kA, sA⟩ := box_rela w sec off ty sy ad
  obtain ⟨wb, hwb, B2, kB, sB⟩ := box_rela wa sec' off' ty' sy' ad'
  obtain ⟨c0, c1, c2, c3, c4, _, _, _, _, _⟩ := B1.kept kB
  rw [sA] at B2
  obtain ⟨d0, d1, d2, d3, d4, _, _, _, _, _⟩ := B2
  obtain ⟨g1, h1⟩ : ∃ g, decide (sec < sec') = g := ⟨_, rfl⟩
  obtain ⟨g2, h2⟩ : ∃ g, (sec == sec') = g := ⟨_, rfl⟩
  obtain ⟨g3, h3⟩ : ∃ g, decide (off < off') = g := ⟨_, rfl⟩
  rw [h1, h2, h3]
  cases g1 with
  | true =>
    go_enter Tryz.func49, Tryz.ntmps49
    go_wp2
    go_ret
    exact ⟨by first | rfl | simp, kA.trans kB⟩
  | false =>
    cases g2 with
    | false =>
      go_enter Tryz.func49, Tryz.ntmps49
      go_wp2
      go_ret
      exact ⟨by first | rfl | simp, kA.trans kB⟩
    | true =>
      go_enter Tryz.func49, Tryz.ntmps49
      go_wp2
      go_ret
      exact ⟨by first | rfl | simp, kA.trans kB⟩

/-- Does the one add to what the other takes from? -/
def pairB (ty off E ty' off' E' : Int) : Bool := addB ty && subB ty' && (off == off') && (E == E')

open Go.Sort in
set_option maxRecDepth 20000 in
set_option maxHeartbeats 1600000 in
theorem arePair_walk (sec off ty sy ad E sec' off' ty' sy' ad' E' : Int) (w : World) (h0 : 0 ≤ abtN ty) (hE : off + bytV ty ad = E) (hlo : -9223372036854775808 ≤ E) (hhi : E ≤ 9223372036854775807)
    (h0' : 0 ≤ abtN ty') (hE' : off' + bytV ty' ad' = E') (hlo' : -9223372036854775808 ≤ E') (hhi' : E' ≤ 9223372036854775807) :
    Calls Tryz.prog 90 #[relW sec off ty sy ad, relW sec' off' ty' sy' ad'] w fun e w' => e = .returned (.bool (pairB ty off E ty' off' E')) ∧ Kept w w' := by
  unfold pairB
  obtain ⟨wa, hwa, B1, kA, sA⟩ := box_rela w sec off ty sy ad
  obtain ⟨wb, hwb, B2, kB, sB⟩ := box_rela wa sec' off' ty' sy' ad'
  obtain ⟨c0, c1, c2, c3, c4, _, _, _, _, _⟩ := B1.kept kB
  rw [sA] at B2
  obtain ⟨d0, d1, d2, d3, d4, _, _, _, _, _⟩ := B2
  obtain ⟨g1, h1⟩ : ∃ g, addB ty = g := ⟨_, rfl⟩
  obtain ⟨g2, h2⟩ : ∃ g, subB ty' = g := ⟨_, rfl⟩
  obtain ⟨g3, h3⟩ : ∃ g, (off == off') = g := ⟨_, rfl⟩
  obtain ⟨g4, h4⟩ : ∃ g, (E == E') = g := ⟨_, rfl⟩
  have cA : ∀ d os, Calls Tryz.prog 124 #[.int .u8 ty] (grow (redrawn wb d) os) fun e w'' => e = .returned (.bool g1) ∧ ∃ p : Regrown, w'' = grow (redrawn wb p.d) p.os := fun d os => Calls.regrown_of ((isAdd_walk ty _).mono fun e w'' ⟨he, hw⟩ => ⟨by rw [he, h1], by rw [hw]; exact Kept.refl _⟩)
  have cB : ∀ d os, Calls Tryz.prog 125 #[.int .u8 ty'] (grow (redrawn wb d) os) fun e w'' => e = .returned (.bool g2) ∧ ∃ p : Regrown, w'' = grow (redrawn wb p.d) p.os := fun d os => Calls.regrown_of ((isSub_walk ty' _).mono fun e w'' ⟨he, hw⟩ => ⟨by rw [he, h2], by rw [hw]; exact Kept.refl _⟩)
  have cC : ∀ d os, Calls Tryz.prog 87 #[relW sec off ty sy ad] (grow (redrawn wb d) os) fun e w'' => e = .returned (.int .i64 E) ∧ ∃ p : Regrown, w'' = grow (redrawn wb p.d) p.os := fun d os => Calls.regrown_of (endOf_walk sec off ty sy ad E _ h0 hE hlo hhi)
  have cD : ∀ d os, Calls Tryz.prog 87 #[relW sec' off' ty' sy' ad'] (grow (redrawn wb d) os) fun e w'' => e = .returned (.int .i64 E') ∧ ∃ p : Regrown, w'' = grow (redrawn wb p.d) p.os := fun d os => Calls.regrown_of (endOf_walk sec' off' ty' sy' ad' E' _ h0' hE' hlo' hhi')
  rw [h1, h2, h3, h4]
  have x0 := cell_regrown c0
  have y0 := cell_regrown d0
  have x1 := cell_regrown c1
  have y1 := cell_regrown d1
  have x2 := cell_regrown c2
  have y2 := cell_regrown d2
  have x3 := cell_regrown c3
  have y3 := cell_regrown d3
  have x4 := cell_regrown c4
  have y4 := cell_regrown d4
  clear h0 hE hlo hhi h0' hE' hlo' hhi' h1 h2 c0 c1 c2 c3 c4 d0 d1 d2 d3 d4
  cases g1 with
  | false =>
    go_enter Tryz.func90, Tryz.ntmps90
    go_upto_region 1 with fail
    refine wp_region_quiet_below (by kernel_rfl) (by kernel_rfl) ?_
    repeat (quiet_step (first | with_reducible exact cA _ _ | with_reducible exact cB _ _ | with_reducible exact cC _ _ | with_reducible exact cD _ _))
    refine wpQuiet_nil ?_
    intro w8 hw8
    have K8 : Kept wb w8 := by
      obtain ⟨⟨dq, osq⟩, e⟩ := hw8
      rw [e]
      exact below_regrown wb dq osq
    go_wp2
    go_ret
    exact ⟨by first | rfl | simp, (kA.trans kB).trans K8⟩
  | true =>
    cases g2 with
    | false =>
      go_enter Tryz.func90, Tryz.ntmps90
      go_upto_region 1 with fail
      refine wp_region_quiet_below (by kernel_rfl) (by kernel_rfl) ?_
      repeat (quiet_step (first | with_reducible exact cA _ _ | with_reducible exact cB _ _ | with_reducible exact cC _ _ | with_reducible exact cD _ _))
      refine wpQuiet_nil ?_
      intro w8 hw8
      have K8 : Kept wb w8 := by
        obtain ⟨⟨dq, osq⟩, e⟩ := hw8
        rw [e]
        exact below_regrown wb dq osq
      go_wp2
      go_ret
      exact ⟨by first | rfl | simp, (kA.trans kB).trans K8⟩
    | true =>
      cases g3 with
      | false =>
        go_enter Tryz.func90, Tryz.ntmps90
        go_upto_region 1 with fail
        refine wp_region_quiet_below (by kernel_rfl) (by kernel_rfl) ?_
        repeat (quiet_step (first | with_reducible exact cA _ _ | with_reducible exact cB _ _ | with_reducible exact cC _ _ | with_reducible exact cD _ _))
        refine wpQuiet_nil ?_
        intro w8 hw8
        have K8 : Kept wb w8 := by
          obtain ⟨⟨dq, osq⟩, e⟩ := hw8
          rw [e]
          exact below_regrown wb dq osq
        go_wp2
        go_ret
        exact ⟨by first | rfl | simp, (kA.trans kB).trans K8⟩
      | true =>
        go_enter Tryz.func90, Tryz.ntmps90
        go_upto_region 1 with fail
        refine wp_region_quiet_below (by kernel_rfl) (by kernel_rfl) ?_
        repeat (quiet_step (first | with_reducible exact cA _ _ | with_reducible exact cB _ _ | with_reducible exact cC _ _ | with_reducible exact cD _ _))
        refine wpQuiet_nil ?_
        intro w8 hw8
        have K8 : Kept wb w8 := by
          obtain ⟨⟨dq, osq⟩, e⟩ := hw8
          rw [e]
          exact below_regrown wb dq osq
        go_wp2
        go_ret
        exact ⟨by first | rfl | simp, (kA.trans kB).trans K8⟩

theorem padK_zero {len m : Nat} (_h0 : 0 < m) (h : len % m = 0) : padK len m = 0 := by
  unfold padK; rw [h, Nat.sub_zero, Nat.mod_self]
theorem padK_pos {len m : Nat} (h0 : 0 < m) (h : 0 < len % m) : padK len m = m - len % m := by
  unfold padK; rw [Nat.mod_eq_of_lt (by omega)]
theorem padK_lt {len m : Nat} (h0 : 0 < m) : padK len m < m := Nat.mod_lt _ h0
theorem padK_mod {len m : Nat} (h0 : 0 < m) : (len + padK len m) % m = 0 := by
  have hl := Nat.mod_lt len h0
  have hd := Nat.div_add_mod len m
  by_cases h : len % m = 0
  · rw [padK_zero h0 h]; exact h
  · rw [padK_pos h0 (by omega)]
    have e : len + (m - len % m) = m * (len / m + 1) := by rw [Nat.mul_add, Nat.mul_one]; omega
    rw [e, Nat.mul_mod_right]
theorem padK_le (len m : Nat) (h0 : 0 < m) (h1 : m ≤ 4096) : padK len m ≤ 4096 := by have := padK_lt (len := len) h0; omega

theorem wpList_copy_at {P : Program} {w : World} {ops : Array Oper} {rest : List Oper} {o : Oper} {a : Act} {Q : Exit → Act → World → Prop} (hgd : o.guard = none) (d s : Operand) (dT sT : TypeId)
    (ho : o.op = .call { callee := .builtin .copy, args := #[d, s], argTypes := #[dT, sT] }) (hu : P.underlying dT = some (.slice 5)) (hsz : (P.info? 5).map (·.size) = some 1)
    (g dLen dCap sCap base : Nat) (ao : Option Addr) (l : List Int) (hd : a.eval d = .slice (some ⟨g, 0, none⟩) dLen dCap) (hs : a.eval s = .slice ao l.length sCap)
    (hle : l.length ≤ dLen) (hb : Byt w ao l) (hown : w.ownsRow base 5 1 (.slice (some ⟨g, 0, none⟩) dLen dCap) dLen (List.replicate dLen (.int .u8 0))) (w0 : World) (hbel : Below base w0 w)
    (h : ∀ w', Own w' base (.slice (some ⟨g, 0, none⟩) dLen dCap) (l ++ List.replicate (dLen - l.length) 0) → Below base w0 w' → wpList P ops Q rest (a.put o.dst (goInt l.length)) w') : wpList P ops Q (o :: rest) a w := by
  rcases hown.2 with ⟨h', _⟩ | ⟨g', cap', cur, h', hbg, hg, hnc, hcm, hcs, htake⟩
  · simp at h'
  · simp only [Value.slice.injEq, Option.some.injEq, Addr.mk.injEq, and_true, true_and] at h'
    obtain ⟨rfl, rfl⟩ := h'
    have hcur : dLen ≤ cur.toList.length := by simp; omega
    refine wpList_copy_splice hgd d s dT sT ho 5 hu hsz _ ao dLen dCap l.length sCap hd hs g 0 cur.toList 5 (by simpa using hg) (l.map (Value.int .u8)) (by rw [List.length_map]; exact (Nat.min_eq_left hle).symm) ?_ (by rw [List.length_map]; omega) (ints_oneCell .u8 l) base w0 hbel hbg ?_
    · intro hpos
      rcases hb with rfl | ⟨b, off, rfl, hc⟩
      · simp at hpos
      · refine ⟨rfl, _, rfl, fun j v hj => ?_⟩
        have hjl : j < l.length := by simpa using (List.getElem?_eq_some_iff.1 hj).1
        have e : (⟨b, off, none⟩ : Addr).add j = ⟨b, off + j, none⟩ := by unfold Addr.add; split <;> simp_all
        rw [e, hc j hjl, ← hj]
        simp [List.getD, hjl]
    · intro w' hg' hb'
      rw [List.length_map]
      refine h w' ⟨by simp, .inr ⟨g, dCap, (splice cur.toList 0 (l.map (Value.int .u8))).toArray, ?_, hbg, hg'.out, ?_, hcm, ?_, ?_⟩⟩ hb'
      · simp; omega
      · simp; omega
      · rw [List.size_toArray, length_splice _ _ _ (by rw [List.length_map]; omega)]; simpa using hcs
      · have hlen : (l ++ List.replicate (dLen - l.length) (0 : Int)).length = dLen := by simp; omega
        rw [hlen, Nat.mul_one]
        rw [Nat.mul_one] at htake
        have e1 : (cur.toList.drop l.length).take (dLen - l.length) = List.replicate (dLen - l.length) (.int .u8 0) := by
          rw [← List.drop_take, htake, List.drop_replicate]
        simp only [splice, List.take_zero, List.nil_append, List.length_map, Nat.zero_add, List.map_append, List.map_replicate]
        rw [List.take_append, List.length_map, List.take_of_length_le (by simpa using hle), e1]

/-- The row that was made holds noughts. -/
theorem made_own {w : World} {base g n : Nat} (h : w.ownsRow base 5 1 (.slice (some ⟨g, 0, none⟩) n n) n (madeCells #[Value.int .u8 0] n).toList) : w.ownsRow base 5 1 (.slice (some ⟨g, 0, none⟩) n n) n (List.replicate n (.int .u8 0)) := by
  rwa [toList_madeCells_one] at h

theorem pad_2 {l : List Int} {m : Int} (hm : muB m = false) : padL l m = [] ∧ padE m = 2 := by simp [padL, padE, hm]
theorem pad_0 {l : List Int} {m : Int} (hm : muB m = true) : padL l m = l ++ List.replicate (padK l.length m.toNat) 0 ∧ padE m = 0 := by simp [padL, padE, hm]

/-! ### The document's own Pad -/

/-- 'append(s, n)', s the call's own: the literal's row is laid first. -/
theorem Own.lit {w : World} {base : Nat} {v : Value} {xs : List Int} (h : Own w base v xs) (o : Obj) : Own (w.alloc o) base v xs := World.ownsRow.alloc h o

theorem padK_ne {len m k : Nat} (h0 : 0 < m) (h : k < padK len m) : (len + k) % m ≠ 0 := by
  have hl := Nat.mod_lt len h0
  by_cases hz : len % m = 0
  · rw [padK_zero h0 hz] at h; omega
  · rw [padK_pos h0 (by omega)] at h
    rw [Nat.add_mod, Nat.mod_eq_of_lt (show k < m by omega), Nat.mod_eq_of_lt (show len % m + k < m by omega)]
    omega

set_option maxRecDepth 20000 in
set_option maxHeartbeats 1600000 in
theorem padded_walk (a : Option Addr) (cap m : Nat) (l : List Int) (w : World) (hl : l.length ≤ 1000000) (hm0 : 1 ≤ m) (hm1 : m ≤ 4096) (hb : Byt w a l) (hnil : a = none → l.length = 0 ∧ cap = 0) :
    Calls Tryz.prog 70 #[.slice a l.length cap, .int .i64 (m : Int)] w fun e w' => ∃ v, e = .returned v ∧ Own w' w.heap.size v (l ++ List.replicate (padK l.length m) 0) ∧ Kept w w' := by
  obtain ⟨i0, hi, hz0, hz1, hz2⟩ := info_parts Tryz.infoByte
  go_enter Tryz.func70, Tryz.ntmps70
  go_wp2_with (at_builtin; refine wpList_append_byt rfl _ _ rfl w.heap.size (.slice none 0 0) [] l a cap rfl rfl (Own.nil _ _) hb hnil (by simp; omega) w (Kept.refl _) (Nat.le_refl _) ?_)
  intro v0 w1 R0 K0
  clear hb hnil
  go_wp2
  go_loopw [5] (fun v wr => ∃ k : Nat, k ≤ padK l.length m ∧ Own wr w.heap.size v (l ++ List.replicate k 0) ∧ Kept w wr) (fun v _ => padK l.length m + l.length - (match v with | .slice _ n _ => n | _ => 0))
  case atStart => exact ⟨0, Nat.zero_le _, by simpa using R0, K0⟩
  case round =>
    obtain ⟨k, hk, hown, hkept⟩ := hrel
    clear R0 K0
    obtain ⟨A, C, rfl, hC, hbyt⟩ := hown.byt
    obtain ⟨n, hn⟩ : ∃ n, (l ++ List.replicate k (0 : Int)).length = n := ⟨_, rfl⟩
    have hn1 : l.length + k = n := by rw [← hn]; simp
    have hown' : wr.ownsRow w.heap.size 5 1 (.slice A n C) n ((l ++ List.replicate k 0).map (Value.int .u8)) := by rw [← hn]; exact hown
    rw [hn]
    have hkb : k ≤ 4096 := Nat.le_trans hk (padK_le _ _ hm0 hm1)
    have hnb : n ≤ 1004096 := by omega
    have HN : Hid (l.length + k = n) := hn1
    clear hown hbyt hn hC
    by_cases hlt : k < padK l.length m
    · have hq : ((n : Nat) : Int) % (m : Int) = ((n % m : Nat) : Int) := by simp
      have hq0 : 0 < n % m := Nat.pos_of_ne_zero (by rw [← hn1]; exact padK_ne hm0 hlt)
      obtain ⟨q, hqe⟩ : ∃ q, n % m = q := ⟨_, rfl⟩
      rw [hqe] at hq hq0
      clear hqe hn1
      go_wp2_with (at_builtin; refine wpList_append_own _ rfl _ _ 35 rfl w.heap.size 5 i0 (.int .u8 0) 1 1 Tryz.underlying35 hi hz0 hz1 hz2 rfl (by decide) _ _ _ rfl (hown'.alloc _) ⟨wr.heap.size, 0, none⟩ 1 1 [.int .u8 0] rfl rfl ?c1 ?c2 ?c3 ?c4 ?c5 ?_)
      case c1 =>
        intro j u hj
        match j, hj with
        | 0, hj => simp at hj; subst hj; simp [Addr.add]
      case c2 => intro u hu; simp at hu; subst hu; rfl
      case c3 => unfold maxLen; omega
      case c4 => omega
      case c5 => have := hkept.size; simp; omega
      intro v' w2 hown2 hgrow _
      have R1 : Own w2 w.heap.size v' (l ++ List.replicate (k + 1) 0) := by
        unfold Own
        have e : (l ++ List.replicate (k + 1) (0 : Int)).length = n + 1 := by rw [← HN.out]; simp; omega
        rw [e, List.replicate_succ', List.map_append, List.map_append, List.map_replicate]
        exact hown2
      have R2 : Kept w w2 := (Below.alloc hkept hkept.size _).grown hgrow (by have := hkept.size; simp; omega) (fun j e => (hown'.lt j e).1)
      have R3 : ∃ A' C', v' = .slice A' (n + 1) C' := by
        rcases hown2.2 with ⟨_, hv⟩ | ⟨g, cap, cur, hv, _⟩
        · omega
        · exact ⟨_, _, hv⟩
      obtain ⟨A', C', rfl⟩ := R3
      clear hown2 hgrow hown' hkept
      go_wp2
      go_roundw
      case rel => exact ⟨k + 1, by omega, R1, R2⟩
      case measure => have := HN.out; simp; omega
    · obtain rfl : k = padK l.length m := by omega
      have hq : ((n : Nat) : Int) % (m : Int) = 0 := by
        have := padK_mod (len := l.length) hm0
        rw [hn1] at this
        omega
      have hown2 : Own wr w.heap.size (.slice A n C) (l ++ List.replicate (padK l.length m) 0) := by
        unfold Own
        rw [show (l ++ List.replicate (padK l.length m) (0 : Int)).length = n by rw [← hn1]; simp]
        exact hown'
      clear hn1 hown'
      go_wp2
      go_ret
      exact ⟨_, rfl, hown2, hkept⟩

def lenV : Value → Nat
  | .slice _ n _ => n
  | _ => 0
theorem w64 {n : Int} (h0 : -9223372036854775808 ≤ n) (h1 : n ≤ 9223372036854775807) : RowKit.wrap64 n = n := by unfold RowKit.wrap64; omega
theorem w64i {n : Int} (h0 : -9223372036854775808 ≤ n) (h1 : n ≤ 9223372036854775807) : IntKind.i64.wrap n = n := by rw [IntKind.wrap_i64]; omega
theorem sizeOf_walk (s : ByteArray) (al : Int) (a : Option Addr) (n cap : Nat) (sz E : Int) (w : World) (hE : (n : Int) + sz = E) (hlo : -9223372036854775808 ≤ E) (hhi : E ≤ 9223372036854775807) :
    Calls Tryz.prog 81 #[sectV s al a n cap sz] w fun e w' => e = .returned (.int .i64 E) ∧ Kept w w' := by
  have B1 := Box.new w s al (.slice a n cap) sz
  obtain ⟨wa, hwa⟩ : ∃ wa, w.alloc (.cells #[.string s, .int .i64 al, .slice a n cap, .int .i64 sz] 37) = wa := ⟨_, rfl⟩
  have kA : Kept w wa := by rw [← hwa]; exact Kept.alloc _ _
  rw [hwa] at B1
  obtain ⟨c0, c1, c2, c3, _, _, _, _⟩ := B1
  have hw : wrap64 ((n : Int) + sz) = E := by rw [← hE] at hlo hhi ⊢; unfold wrap64; omega
  clear hE hlo hhi
  go_enter Tryz.func81, Tryz.ntmps81
  go_wp2
  go_ret
  exact ⟨by rw [← hw]; rfl, kA⟩

theorem box_sym (w : World) (s : ByteArray) (bind : Int) (hid : Bool) (wh val sz : Int) : ∃ wa, w.alloc (symO s bind hid wh val sz) = wa ∧ SBx wa w.heap.size s bind hid wh val sz ∧ Kept w wa ∧ wa.heap.size = w.heap.size + 1 :=
  ⟨_, rfl, SBx.new _ _ _ _ _ _ _, Kept.alloc _ _, by simp⟩
theorem okS_sz {v : SecV} (h : okS v = true) : 0 ≤ v.sz ∧ (v.z.length : Int) + v.sz ≤ 4096 := by
  have := sectB_has h
  exact ⟨this.2.2.1, this.2.1⟩

open Go.Sort in
set_option maxRecDepth 20000 in
set_option maxHeartbeats 1600000 in
theorem isWithin_walk (s : ByteArray) (bind : Int) (hid : Bool) (wh val sz : Int) (a : Option Addr) (n cap : Nat) (l : List SecV) (w : World) (hl : l.length = n) (hn : n ≤ maxLen) (hS : Secs w a l) (hall : l.all okS = true) (hvz : 1 ≤ wh → wh ≤ n ∧ 0 ≤ val ∧ val ≤ 4096 ∧ 0 ≤ sz ∧ sz ≤ 4096) :
    Calls Tryz.prog 45 #[symW s bind hid wh val sz, .slice a n cap] w fun e w' => e = .returned (.bool (decide (wh < 1) || decide (val + sz ≤ ((l.getD (wh - 1).toNat secNo).z.length : Int) + (l.getD (wh - 1).toNat secNo).sz))) ∧ Kept w w' := by
  obtain ⟨wa, hwa, B1, kA, sA⟩ := box_sym w s bind hid wh val sz
  obtain ⟨c0, c1, c2, c3, c4, c5, _, _, _, _, _, _⟩ := id B1
  have x0 := cell_regrown c0
  have x1 := cell_regrown c1
  have x2 := cell_regrown c2
  have x3 := cell_regrown c3
  have x4 := cell_regrown c4
  have x5 := cell_regrown c5
  clear c0 c1 c2 c3 c4 c5
  by_cases hw1 : wh < 1
  · have d1 : decide (wh < 1) = true := decide_eq_true hw1
    have HB : Hid ((decide (wh < 1) || decide (val + sz ≤ ((l.getD (wh - 1).toNat secNo).z.length : Int) + (l.getD (wh - 1).toNat secNo).sz)) = true) := by unfold Hid; rw [d1]; rfl
    clear hw1 hall hvz
    go_enter Tryz.func45, Tryz.ntmps45
    go_upto_region 1 with fail
    have c3 := B1.c3
    go_big_quiet (fail)
    go_wp2
    go_ret
    exact ⟨by rw [HB.out]; rfl, kA.trans (Kept.drewN _ _)⟩
  · have d1 : decide (wh < 1) = false := decide_eq_false hw1
    obtain ⟨hwh, hv0, hv1, hz0, hz1⟩ := hvz (by omega)
    obtain ⟨k, hk⟩ : ∃ k : Nat, wh - 1 = k := ⟨(wh - 1).toNat, by omega⟩
    have hkn : k < n := by omega
    obtain ⟨b, o, rfl, hAt⟩ := (hS.kept kA).at (show k < l.length by omega)
    have hlen4 := okS_len hall (show k < l.length by omega)
    obtain ⟨v, hv⟩ : ∃ v, l.getD k secNo = v := ⟨_, rfl⟩
    have hok : okS v = true := by rw [← hv]; exact List.all_eq_true.1 hall _ (getD_in (by omega) _)
    have HB0 : Hid ((decide (wh < 1) || decide (val + sz ≤ ((l.getD (wh - 1).toNat secNo).z.length : Int) + (l.getD (wh - 1).toNat secNo).sz)) = decide (val + sz ≤ (v.z.length : Int) + v.sz)) := by
      unfold Hid
      rw [d1, Bool.false_or, show (wh - 1).toNat = k by omega, hv]
    rw [hv] at hAt hlen4
    have hsz := okS_sz hok
    obtain ⟨s', al, a', cp, sz', z⟩ := v
    have u0 : ∀ d os, (grow (redrawn wa d) os).cell? ⟨b, o + k * 4, none⟩ = some (.string s') := cell_regrown hAt.c0
    have u1 : ∀ d os, (grow (redrawn wa d) os).cell? ⟨b, o + k * 4 + 1, none⟩ = some (.int .i64 al) := cell_regrown hAt.c1
    have u2 : ∀ d os, (grow (redrawn wa d) os).cell? ⟨b, o + k * 4 + 2, none⟩ = some (.slice a' z.length cp) := cell_regrown hAt.c2
    have u3 : ∀ d os, (grow (redrawn wa d) os).cell? ⟨b, o + k * 4 + 3, none⟩ = some (.int .i64 sz') := cell_regrown hAt.c3
    obtain ⟨len, hlen⟩ : ∃ len, z.length = len := ⟨_, rfl⟩
    dsimp only at HB0 hlen4 hsz
    rw [hlen] at u2 HB0 hlen4
    obtain ⟨E, hE⟩ : ∃ E, (len : Int) + sz' = E := ⟨_, rfl⟩
    obtain ⟨T, hT⟩ : ∃ T, val + sz = T := ⟨_, rfl⟩
    obtain ⟨g, hg⟩ : ∃ g, decide (T ≤ E) = g := ⟨_, rfl⟩
    have HB1 : Hid ((decide (wh < 1) || decide (val + sz ≤ ((l.getD (wh - 1).toNat secNo).z.length : Int) + (l.getD (wh - 1).toNat secNo).sz)) = g) := by
      unfold Hid
      rw [HB0.out, ← hg, ← hT, ← hE]
    clear HB0
    have hwT : wrap64 (val + sz) = T := by rw [← hT]; unfold wrap64; omega
    have hwk : wrap64 (wh - 1) = k := by rw [hk]; unfold wrap64; unfold maxLen at hn; omega
    have hwT' : IntKind.i64.wrap (val + sz) = T := by rw [w64i (by omega) (by omega)]; exact hT
    have hwk' : IntKind.i64.wrap (wh - 1) = k := by unfold maxLen at hn; rw [w64i (by omega) (by omega)]; exact hk
    have cA : ∀ d os, Calls Tryz.prog 81 #[sectV s' al a' len cp sz'] (grow (redrawn wa d) os) fun e w'' => e = .returned (.int .i64 E) ∧ ∃ p : Regrown, w'' = grow (redrawn wa p.d) p.os := fun d os => Calls.regrown_of (sizeOf_walk s' al a' len cp sz' E _ hE (by omega) (by omega))
    clear hAt hS hv hok hlen hall hlen4 hsz hE hT hw1 hwh hv0 hv1 hz0 hz1 hk hvz
    go_enter Tryz.func45, Tryz.ntmps45
    go_upto_region 1 with fail
    refine wp_region_quiet_below (by kernel_rfl) (by kernel_rfl) ?_
    repeat (quiet_step (with_reducible exact cA _ _))
    refine wpQuiet_nil ?_
    intro w8 hw8
    have K8 : Kept wa w8 := by
      obtain ⟨⟨dq, osq⟩, e⟩ := hw8
      rw [e]
      exact below_regrown wa dq osq
    go_wp2
    go_ret
    exact ⟨by rw [HB1.out]; rfl, kA.trans K8⟩

/-! ### Nops -/
def fillP (m j : Nat) : List Int := (if m % 4 = 2 then [1, 0] else []) ++ (List.replicate j [19, 0, 0, 0]).flatten
theorem fillP_len (m j : Nat) : (fillP m j).length = (if m % 4 = 2 then 2 else 0) + 4 * j := by
  have e : ∀ k : Nat, ((List.replicate k [(19 : Int), 0, 0, 0]).flatten).length = 4 * k := by
    intro k
    induction k with
    | zero => rfl
    | succ k ih => rw [List.replicate_succ, List.flatten_cons, List.length_append, ih]; simp; omega
  unfold fillP
  rw [List.length_append, e]
  split <;> rfl
theorem fillP_succ (m j : Nat) : fillP m j ++ [19, 0, 0, 0] = fillP m (j + 1) := by
  unfold fillP
  rw [List.replicate_succ', List.flatten_append, List.append_assoc]
  rfl
theorem fillP_all (m : Nat) : fillP m (m / 4) = fillL m := rfl
theorem byt_lit2 (w : World) (x y : Int) : Byt (w.alloc (.cells #[.int .u8 x, .int .u8 y] 5)) (some ⟨w.heap.size, 0, none⟩) [x, y] :=
  .inr ⟨_, 0, rfl, fun i hi => by
    match i, hi with
    | 0, _ => simp
    | 1, _ => simp⟩
theorem byt_lit4 (w : World) (x y z u : Int) : Byt (w.alloc (.cells #[.int .u8 x, .int .u8 y, .int .u8 z, .int .u8 u] 5)) (some ⟨w.heap.size, 0, none⟩) [x, y, z, u] :=
  .inr ⟨_, 0, rfl, fun i hi => by
    match i, hi with
    | 0, _ => simp
    | 1, _ => simp
    | 2, _ => simp
    | 3, _ => simp⟩

set_option maxRecDepth 20000 in
set_option maxHeartbeats 1600000 in
theorem filling_walk (m : Nat) (w : World) (hm : m % 2 = 0) (h64 : m ≤ 64) :
    Calls Tryz.prog 88 #[.int .i64 (m : Int)] w fun e w' => ∃ v, e = .returned v ∧ Own w' w.heap.size v (fillL m) ∧ Kept w w' := by
  by_cases h2 : m % 4 = 2
  · have d1 : ((m : Int).tmod 4 == 2) = true := by rw [beq_iff_eq, Int.tmod_eq_emod_of_nonneg (by omega)]; omega
    have d2 : ((m : Int) % 4 == 2) = true := by rw [beq_iff_eq]; omega
    have hN := Own.nil (w.alloc (.cells #[.int .u8 1, .int .u8 0] 5)) w.heap.size
    have hB2 := byt_lit2 w 1 0
    have HS : Hid ([1, 0] = fillP m 0) := by unfold Hid fillP; rw [if_pos h2]; rfl
    go_enter Tryz.func88, Tryz.ntmps88
    go_wp2_with (at_builtin; refine wpList_append_byt rfl _ _ rfl w.heap.size (.slice none 0 0) [] [1, 0] (some ⟨w.heap.size, 0, none⟩) 2 rfl rfl hN hB2 (fun h => by cases h) (by simp) w (Kept.alloc _ _) (by simp) ?_; intro v0 w0 R0 K0)
    go_loopw [3] (fun v wr => ∃ j, j ≤ m / 4 ∧ Own wr w.heap.size v (fillP m j) ∧ Kept w wr) (fun v _ => 64 - lenV v)
    case atStart => exact ⟨0, Nat.zero_le _, by rw [← HS.out]; exact R0, K0⟩
    case round =>
      obtain ⟨j, hj, hO, hK⟩ := hrel
      obtain ⟨A, C, rfl, hc, hb, hn⟩ := hO.all
      have hL := fillP_len m j
      rw [if_pos h2] at hL
      obtain ⟨L, hLn⟩ : ∃ L, (fillP m j).length = L := ⟨_, rfl⟩
      rw [hLn] at hL ⊢
      by_cases hlt : j < m / 4
      · have hlt' : L < m := by omega
        have hO1 : Own wr w.heap.size (.slice A L C) (fillP m j) := by rw [hLn] at hO; exact hO
        have hO2 := own_keep hO1 (Kept.alloc wr (.cells #[.int .u8 19, .int .u8 0, .int .u8 0, .int .u8 0] 5))
        have hB4 := byt_lit4 wr 19 0 0 0
        have h64' : L + 4 ≤ 64 := by omega
        have hK2 : Kept w (wr.alloc (.cells #[.int .u8 19, .int .u8 0, .int .u8 0, .int .u8 0] 5)) := hK.trans (Kept.alloc _ _)
        have HX : Hid ((fillP m j).length = L) := hLn
        clear hO hO1 hb hn hc hLn hm
        go_wp2_with (at_builtin; refine wpList_append_byt rfl _ _ rfl w.heap.size (.slice A L C) (fillP m j) [19, 0, 0, 0] (some ⟨wr.heap.size, 0, none⟩) 4 rfl rfl hO2 hB4 (fun h => by cases h) (by rw [HX.out]; simp; omega) w hK2 (hK2.size) ?_; intro v1 w1 R1 K1)
        go_roundw
        case rel => exact ⟨j + 1, by omega, by rw [← fillP_succ]; exact R1, K1⟩
        case measure =>
          obtain ⟨A1, C1, rfl, _⟩ := R1.all
          rw [List.length_append, HX.out]
          simp [lenV]
          omega
      · obtain rfl : j = m / 4 := by omega
        have hnl : ¬ L < m := by omega
        have HF : Hid (Own wr w.heap.size (.slice A L C) (fillL m)) := by rw [hLn] at hO; exact hO
        clear hO hlt hm hL hLn hc hb hn
        go_wp2
        go_ret
        exact ⟨_, rfl, HF.out, hK⟩
  · have d1 : ((m : Int).tmod 4 == 2) = false := by rw [beq_eq_false_iff_ne, Int.tmod_eq_emod_of_nonneg (by omega)]; omega
    have d2 : ((m : Int) % 4 == 2) = false := by rw [beq_eq_false_iff_ne]; omega
    have HS : Hid ([] = fillP m 0) := by unfold Hid fillP; rw [if_neg h2]; rfl
    go_enter Tryz.func88, Tryz.ntmps88
    go_wp2
    go_loopw [3] (fun v wr => ∃ j, j ≤ m / 4 ∧ Own wr w.heap.size v (fillP m j) ∧ Kept w wr) (fun v _ => 64 - lenV v)
    case atStart => exact ⟨0, Nat.zero_le _, by rw [← HS.out]; exact Own.nil _ _, Kept.refl _⟩
    case round =>
      obtain ⟨j, hj, hO, hK⟩ := hrel
      obtain ⟨A, C, rfl, hc, hb, hn⟩ := hO.all
      have hL := fillP_len m j
      rw [if_neg h2] at hL
      obtain ⟨L, hLn⟩ : ∃ L, (fillP m j).length = L := ⟨_, rfl⟩
      rw [hLn] at hL ⊢
      by_cases hlt : j < m / 4
      · have hlt' : L < m := by omega
        have hO1 : Own wr w.heap.size (.slice A L C) (fillP m j) := by rw [hLn] at hO; exact hO
        have hO2 := own_keep hO1 (Kept.alloc wr (.cells #[.int .u8 19, .int .u8 0, .int .u8 0, .int .u8 0] 5))
        have hB4 := byt_lit4 wr 19 0 0 0
        have h64' : L + 4 ≤ 64 := by omega
        have hK2 : Kept w (wr.alloc (.cells #[.int .u8 19, .int .u8 0, .int .u8 0, .int .u8 0] 5)) := hK.trans (Kept.alloc _ _)
        have HX : Hid ((fillP m j).length = L) := hLn
        clear hO hO1 hb hn hc hLn hm
        go_wp2_with (at_builtin; refine wpList_append_byt rfl _ _ rfl w.heap.size (.slice A L C) (fillP m j) [19, 0, 0, 0] (some ⟨wr.heap.size, 0, none⟩) 4 rfl rfl hO2 hB4 (fun h => by cases h) (by rw [HX.out]; simp; omega) w hK2 (hK2.size) ?_; intro v1 w1 R1 K1)
        go_roundw
        case rel => exact ⟨j + 1, by omega, by rw [← fillP_succ]; exact R1, K1⟩
        case measure =>
          obtain ⟨A1, C1, rfl, _⟩ := R1.all
          rw [List.length_append, HX.out]
          simp [lenV]
          omega
      · obtain rfl : j = m / 4 := by omega
        have hnl : ¬ L < m := by omega
        have HF : Hid (Own wr w.heap.size (.slice A L C) (fillL m)) := by rw [hLn] at hO; exact hO
        clear hO hlt hm hL hLn hc hb hn
        go_wp2
        go_ret
        exact ⟨_, rfl, HF.out, hK⟩

set_option maxRecDepth 20000 in
set_option maxHeartbeats 1600000 in
theorem rfilled_walk (m : Nat) (w : World) (hm : m % 2 = 0) (h64 : m ≤ 64) :
    Calls Tryz.prog 107 #[.int .i64 (m : Int)] w fun e w' => ∃ v, e = .returned v ∧ Own w' w.heap.size v (fillL m) ∧ Kept w w' := by
  by_cases h2 : m % 4 = 2
  · have d1 : ((m : Int).tmod 4 == 2) = true := by rw [beq_iff_eq, Int.tmod_eq_emod_of_nonneg (by omega)]; omega
    have d2 : ((m : Int) % 4 == 2) = true := by rw [beq_iff_eq]; omega
    have hN := Own.nil (w.alloc (.cells #[.int .u8 1, .int .u8 0] 5)) w.heap.size
    have hB2 := byt_lit2 w 1 0
    have HS : Hid ([1, 0] = fillP m 0) := by unfold Hid fillP; rw [if_pos h2]; rfl
    go_enter Tryz.func107, Tryz.ntmps107
    go_wp2_with (at_builtin; refine wpList_append_byt rfl _ _ rfl w.heap.size (.slice none 0 0) [] [1, 0] (some ⟨w.heap.size, 0, none⟩) 2 rfl rfl hN hB2 (fun h => by cases h) (by simp) w (Kept.alloc _ _) (by simp) ?_; intro v0 w0 R0 K0)
    go_loopw [3] (fun v wr => ∃ j, j ≤ m / 4 ∧ Own wr w.heap.size v (fillP m j) ∧ Kept w wr) (fun v _ => 64 - lenV v)
    case atStart => exact ⟨0, Nat.zero_le _, by rw [← HS.out]; exact R0, K0⟩
    case round =>
      obtain ⟨j, hj, hO, hK⟩ := hrel
      obtain ⟨A, C, rfl, hc, hb, hn⟩ := hO.all
      have hL := fillP_len m j
      rw [if_pos h2] at hL
      obtain ⟨L, hLn⟩ : ∃ L, (fillP m j).length = L := ⟨_, rfl⟩
      rw [hLn] at hL ⊢
      by_cases hlt : j < m / 4
      · have hlt' : L < m := by omega
        have hO1 : Own wr w.heap.size (.slice A L C) (fillP m j) := by rw [hLn] at hO; exact hO
        have hO2 := own_keep hO1 (Kept.alloc wr (.cells #[.int .u8 19, .int .u8 0, .int .u8 0, .int .u8 0] 5))
        have hB4 := byt_lit4 wr 19 0 0 0
        have h64' : L + 4 ≤ 64 := by omega
        have hK2 : Kept w (wr.alloc (.cells #[.int .u8 19, .int .u8 0, .int .u8 0, .int .u8 0] 5)) := hK.trans (Kept.alloc _ _)
        have HX : Hid ((fillP m j).length = L) := hLn
        clear hO hO1 hb hn hc hLn hm
        go_wp2_with (at_builtin; refine wpList_append_byt rfl _ _ rfl w.heap.size (.slice A L C) (fillP m j) [19, 0, 0, 0] (some ⟨wr.heap.size, 0, none⟩) 4 rfl rfl hO2 hB4 (fun h => by cases h) (by rw [HX.out]; simp; omega) w hK2 (hK2.size) ?_; intro v1 w1 R1 K1)
        go_roundw
        case rel => exact ⟨j + 1, by omega, by rw [← fillP_succ]; exact R1, K1⟩
        case measure =>
          obtain ⟨A1, C1, rfl, _⟩ := R1.all
          rw [List.length_append, HX.out]
          simp [lenV]
          omega
      · obtain rfl : j = m / 4 := by omega
        have hnl : ¬ L < m := by omega
        have HF : Hid (Own wr w.heap.size (.slice A L C) (fillL m)) := by rw [hLn] at hO; exact hO
        clear hO hlt hm hL hLn hc hb hn
        go_wp2
        go_ret
        exact ⟨_, rfl, HF.out, hK⟩
  · have d1 : ((m : Int).tmod 4 == 2) = false := by rw [beq_eq_false_iff_ne, Int.tmod_eq_emod_of_nonneg (by omega)]; omega
    have d2 : ((m : Int) % 4 == 2) = false := by rw [beq_eq_false_iff_ne]; omega
    have HS : Hid ([] = fillP m 0) := by unfold Hid fillP; rw [if_neg h2]; rfl
    go_enter Tryz.func107, Tryz.ntmps107
    go_wp2
    go_loopw [3] (fun v wr => ∃ j, j ≤ m / 4 ∧ Own wr w.heap.size v (fillP m j) ∧ Kept w wr) (fun v _ => 64 - lenV v)
    case atStart => exact ⟨0, Nat.zero_le _, by rw [← HS.out]; exact Own.nil _ _, Kept.refl _⟩
    case round =>
      obtain ⟨j, hj, hO, hK⟩ := hrel
      obtain ⟨A, C, rfl, hc, hb, hn⟩ := hO.all
      have hL := fillP_len m j
      rw [if_neg h2] at hL
      obtain ⟨L, hLn⟩ : ∃ L, (fillP m j).length = L := ⟨_, rfl⟩
      rw [hLn] at hL ⊢
      by_cases hlt : j < m / 4
      · have hlt' : L < m := by omega
        have hO1 : Own wr w.heap.size (.slice A L C) (fillP m j) := by rw [hLn] at hO; exact hO
        have hO2 := own_keep hO1 (Kept.alloc wr (.cells #[.int .u8 19, .int .u8 0, .int .u8 0, .int .u8 0] 5))
        have hB4 := byt_lit4 wr 19 0 0 0
        have h64' : L + 4 ≤ 64 := by omega
        have hK2 : Kept w (wr.alloc (.cells #[.int .u8 19, .int .u8 0, .int .u8 0, .int .u8 0] 5)) := hK.trans (Kept.alloc _ _)
        have HX : Hid ((fillP m j).length = L) := hLn
        clear hO hO1 hb hn hc hLn hm
        go_wp2_with (at_builtin; refine wpList_append_byt rfl _ _ rfl w.heap.size (.slice A L C) (fillP m j) [19, 0, 0, 0] (some ⟨wr.heap.size, 0, none⟩) 4 rfl rfl hO2 hB4 (fun h => by cases h) (by rw [HX.out]; simp; omega) w hK2 (hK2.size) ?_; intro v1 w1 R1 K1)
        go_roundw
        case rel => exact ⟨j + 1, by omega, by rw [← fillP_succ]; exact R1, K1⟩
        case measure =>
          obtain ⟨A1, C1, rfl, _⟩ := R1.all
          rw [List.length_append, HX.out]
          simp [lenV]
          omega
      · obtain rfl : j = m / 4 := by omega
        have hnl : ¬ L < m := by omega
        have HF : Hid (Own wr w.heap.size (.slice A L C) (fillL m)) := by rw [hLn] at hO; exact hO
        clear hO hlt hm hL hLn hc hb hn
        go_wp2
        go_ret
        exact ⟨_, rfl, HF.out, hK⟩
end Go.Proofs.YtljmgbpecoifnaaGreatDoor
