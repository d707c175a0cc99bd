/- Whether a relocation's bytes are filled up: the program's. Which relocations an object may have: the program's. Whether relocations are apart: the program's. Which relocations an object may have: the program's, walked. -/
import Derived.Test.YtljmgbpecoifnaaGreatDoorJam
import Derived.Test.YtljmgbpecoifnaaGreatDoorJao
namespace Go.Proofs.YtljmgbpecoifnaaGreatDoor
open Go.RowKit

def fillV (sec off ty ad : Int) (l : List SecV) : Bool := decide (ty ≠ 43) || decide (((l.getD (sec - 1).toNat secNo).z.drop off.toNat).take ad.toNat = fillL ad.toNat)
theorem fillV_eq (r : RelM) (l : List SecV) : fillB r (l.map sctOf) = fillV r.sec r.off r.ty r.ad l := by
  unfold fillB fillV
  rw [show (l.map sctOf).getD (r.sec - 1).toNat sctNo = sctOf (l.getD (r.sec - 1).toNat secNo) from by
    rw [List.getD, List.getElem?_map, List.getD]
    cases l[(r.sec - 1).toNat]? with
    | none => rfl
    | some x => rfl]
  rfl

theorem fillL_range (m : Nat) : ∀ x ∈ fillL m, 0 ≤ x ∧ x < 256 := by
  intro x hx
  unfold fillL at hx
  rcases List.mem_append.1 hx with hx | hx
  · split at hx
    · simp at hx; omega
    · simp at hx
  · rw [List.mem_flatten] at hx
    obtain ⟨l, hl, hx⟩ := hx
    rw [List.mem_replicate] at hl
    rw [hl.2] at hx
    simp at hx
    omega

open Go.Sort in
set_option maxRecDepth 20000 in
set_option maxHeartbeats 3200000 in
theorem isFilledUp_walk (sec off ty sy ad : Int) (a : Option Addr) (n cap : Nat) (l : List SecV) (y : Int) (w : World) (_h0 : 0 ≤ ty) (_h1 : ty < 256) (hl : l.length = n) (hn : n ≤ 16) (hS : Secs w a l) (hall : l.all okS = true) (hmay : mayX sec off ty sy ad l y = true) :
    Calls Tryz.prog 48 #[relW sec off ty sy ad, .slice a n cap] w fun e w' => e = .returned (.bool (fillV sec off ty ad l)) ∧ Kept w w' := by
  obtain ⟨wa, hwa, B1, kA, sA⟩ := box_rela w sec off ty sy ad
  obtain ⟨c0, c1, c2, c3, c4, _, _, _, _, _⟩ := id B1
  by_cases ht : ty = 43
  · have hq : (ty != 43) = false := by rw [bne_eq_false_iff_eq]; exact ht
    have habt : abtN ty = 0 := by rw [ht]; decide
    unfold mayX plcX at hmay
    rw [Bool.and_eq_true, Bool.and_eq_true, Bool.and_eq_true, Bool.and_eq_true, Bool.and_eq_true, Bool.and_eq_true, decide_eq_true_eq, decide_eq_true_eq, decide_eq_true_eq] at hmay
    obtain ⟨_, ⟨_, hs1, hs2⟩, ⟨⟨_, ho0⟩, _⟩, hfil⟩ := hmay
    obtain ⟨k, hk⟩ : ∃ k : Nat, sec - 1 = k := ⟨(sec - 1).toNat, by omega⟩
    have hkn : k < n := by omega
    have hlen4 := okS_len hall (show k < l.length by omega)
    obtain ⟨b, o, rfl, hAt⟩ := (hS.kept kA).at (show k < l.length by omega)
    obtain ⟨v, hv⟩ : ∃ v, l.getD k secNo = v := ⟨_, rfl⟩
    rw [show (sec - 1).toNat = k by omega, hv] at hfil
    have HF : Hid (fillV sec off ty ad l = decide ((v.z.drop off.toNat).take ad.toNat = fillL ad.toNat)) := by
      unfold Hid fillV
      rw [decide_eq_false (fun h => h ht), Bool.false_or, show (sec - 1).toNat = k by omega, hv]
    rw [hv] at hAt hlen4
    unfold filX at hfil
    rw [if_neg (by omega), if_pos ht, decide_eq_true_eq] at hfil
    obtain ⟨f1, f2, f3, f4⟩ := hfil
    obtain ⟨O, rfl⟩ : ∃ O : Nat, off = O := ⟨off.toNat, by omega⟩
    obtain ⟨D, rfl⟩ : ∃ D : Nat, ad = D := ⟨ad.toNat, by omega⟩
    rw [Int.toNat_natCast, Int.toNat_natCast] at HF
    obtain ⟨s', al, a', cp, sz', z⟩ := v
    dsimp only at HF f4 hlen4
    have hok := hAt.ok
    obtain ⟨len, hlen⟩ : ∃ len, z.length = len := ⟨_, rfl⟩
    rw [hlen] at f4 hlen4
    have u2 : ∀ d os, (grow (redrawn wa d) os).cell? ⟨b, o + k * 4 + 2, none⟩ = some (.slice a' len cp) := by rw [← hlen]; exact cell_regrown hAt.c2
    have x0 := cell_regrown c0
    have x1 := cell_regrown c1
    have x2 := cell_regrown c2
    have x3 := cell_regrown c3
    have x4 := cell_regrown c4
    have hE : (O : Int) + bytV ty D = ((O + D : Nat) : Int) := by unfold bytV; rw [if_pos ht]; omega
    have cA : ∀ d os, Calls Tryz.prog 87 #[relW sec O ty sy D] (grow (redrawn wa d) os) fun e w'' => e = .returned (.int .i64 ((O + D : Nat) : Int)) ∧ ∃ p : Regrown, w'' = grow (redrawn wa p.d) p.os := fun d os => Calls.regrown_of (endOf_walk sec O ty sy D ((O + D : Nat) : Int) _ (by rw [habt]; omega) hE (by omega) (by omega))
    have hwk : wrap64 (sec - 1) = k := by rw [w64 (by omega) (by omega)]; exact hk
    have hwk' : IntKind.i64.wrap (sec - 1) = k := by rw [w64i (by omega) (by omega)]; exact hk
    have hcl : len ≤ cp := by rw [← hlen]; exact hok.len
    have hD64 : D ≤ 62 := by omega
    have hOD : O + D ≤ len := by omega
    have hev : D % 2 = 0 := by omega
    have hbz : Byt wa a' z := hok.byt
    have hzr : ∀ x ∈ z, 0 ≤ x ∧ x < 256 := hok.rng
    have ha0 : a' = none → len = 0 ∧ cp = 0 := by rw [← hlen]; exact hok.a0
    obtain ⟨E, hE2⟩ : ∃ E : Nat, O + D = E := ⟨_, rfl⟩
    rw [hE2] at cA hOD
    have hOE : O ≤ E := by omega
    have hEc : E ≤ cp := by omega
    have hOE' : (O : Int) ≤ (E : Int) := by omega
    have hEc' : (E : Int) ≤ (cp : Int) := by omega
    have hDE : E - O = D := by omega
    obtain ⟨P, hP⟩ : ∃ P, (z.drop O).take D = P := ⟨_, rfl⟩
    have hPl : P.length = D := by rw [← hP, List.length_take, List.length_drop]; omega
    have hPr : ∀ x ∈ P, 0 ≤ x ∧ x < 256 := fun x hx => hzr x (by rw [← hP] at hx; exact List.mem_of_mem_drop (List.mem_of_mem_take hx))
    have hfl : (fillL D).length = D := fillL_length hev
    have hfr := fillL_range D
    rw [hP] at HF
    obtain ⟨F, hF2⟩ : ∃ F, fillL D = F := ⟨_, rfl⟩
    have hFil := fun w => filling_walk D w hev (by omega)
    rw [hF2] at HF hfl hfr hFil
    have HX : Hid (∀ i, i < len → ∃ b off, a' = some ⟨b, off, none⟩ ∧ Byt wa (some ⟨b, off + O, none⟩) P) := by
      intro i hi
      rcases hbz with h | ⟨b, off, h, hc⟩
      · rw [h] at hlen; simp at hlen; omega
      · exact ⟨b, off, h, .inr ⟨b, off + O, rfl, fun i hi => by
          rw [← hP]
          exact Byt.part hc (by omega) i (by omega)⟩⟩
    clear hS hv hall hAt hok hk hs1 hs2 ho0 f1 f2 f3 f4 ht habt hE hlen4 hbz hzr hlen hev hP hF2 hn hl hcl
    by_cases hco : cp = O
    · have hD0 : D = 0 := by omega
      have hBP : ∀ W, Byt W a' P := fun W => .inl (List.eq_nil_of_length_eq_zero (by omega))
      have hEO : E ≤ O := by omega
      have hEO' : (E : Int) ≤ (O : Int) := by omega
      clear HX ha0 hE2 hD0
      go_enter Tryz.func48, Tryz.ntmps48
      go_upto_region 3 with fail
      clear c0 c1 c2 c3 c4
      refine wp_region_quiet_below (by kernel_rfl) (by kernel_rfl) ?_
      repeat (quiet_step (with_reducible exact cA _ _))
      refine wpQuiet_nil ?_
      intro w8 hw8
      have K8 : Kept wa w8 := by
        obtain ⟨⟨dq, osq⟩, e⟩ := hw8
        rw [e]
        exact below_regrown wa dq osq
      have c4 := (B1.kept K8).c4
      go_wp2_with (first
        | (go_at_call 88; refine (hFil _).mono ?_; rintro e w9 ⟨v, rfl, hv, k9⟩; obtain ⟨A2, C2, rfl, _, b2, _⟩ := hv.let hfl)
        | (go_at_call 74; refine (equal_walk _ A2 _ _ _ C2 P F w9 hPl hfl (hBP _) b2 hPr hfr).mono ?_; rintro e w10 ⟨rfl, hw10⟩; have hw11 := hw10.symm; subst hw11; clear hw10))
      go_ret
      exact ⟨by rw [HF.out]; rfl, (kA.trans K8).trans k9⟩
    · by_cases hD0 : D = 0
      · have hBP : ∀ W A, Byt W A P := fun W A => .inl (List.eq_nil_of_length_eq_zero (by omega))
        obtain ⟨ad, rfl⟩ : ∃ ad, a' = some ad := by
          cases a' with
          | none => exact absurd (ha0 rfl) (by omega)
          | some x => exact ⟨x, rfl⟩
        clear HX ha0 hE2 hD0
        go_enter Tryz.func48, Tryz.ntmps48
        go_upto_region 3 with fail
        clear c0 c1 c2 c3 c4
        refine wp_region_quiet_below (by kernel_rfl) (by kernel_rfl) ?_
        repeat (quiet_step (with_reducible exact cA _ _))
        refine wpQuiet_nil ?_
        intro w8 hw8
        have K8 : Kept wa w8 := by
          obtain ⟨⟨dq, osq⟩, e⟩ := hw8
          rw [e]
          exact below_regrown wa dq osq
        have c4 := (B1.kept K8).c4
        go_wp2_with (first
          | (go_at_call 88; refine (hFil _).mono ?_; rintro e w9 ⟨v, rfl, hv, k9⟩; obtain ⟨A2, C2, rfl, _, b2, _⟩ := hv.let hfl)
          | (go_at_call 74; refine (equal_walk _ A2 _ _ _ C2 P F w9 hPl hfl (hBP _ _) b2 hPr hfr).mono ?_; rintro e w10 ⟨rfl, hw10⟩; have hw11 := hw10.symm; subst hw11; clear hw10))
        go_ret
        exact ⟨by rw [HF.out]; rfl, (kA.trans K8).trans k9⟩
      · obtain ⟨b', off', rfl, hBP⟩ := HX.out 0 (by omega)
        clear ha0 hE2
        go_enter Tryz.func48, Tryz.ntmps48
        go_upto_region 3 with fail
        clear c0 c1 c2 c3 c4
        refine wp_region_quiet_below (by kernel_rfl) (by kernel_rfl) ?_
        repeat (quiet_step (with_reducible exact cA _ _))
        refine wpQuiet_nil ?_
        intro w8 hw8
        have K8 : Kept wa w8 := by
          obtain ⟨⟨dq, osq⟩, e⟩ := hw8
          rw [e]
          exact below_regrown wa dq osq
        have c4 := (B1.kept K8).c4
        go_wp2_with (first
          | (go_at_call 88; refine (hFil _).mono ?_; rintro e w9 ⟨v, rfl, hv, k9⟩; obtain ⟨A2, C2, rfl, _, b2, _⟩ := hv.let hfl)
          | (go_at_call 74; refine (equal_walk _ A2 _ _ _ C2 P F w9 hPl hfl ((hBP.kept K8).kept k9) b2 hPr hfr).mono ?_; rintro e w10 ⟨rfl, hw10⟩; have hw11 := hw10.symm; subst hw11; clear hw10))
        go_ret
        exact ⟨by rw [HF.out]; rfl, (kA.trans K8).trans k9⟩
  · have hq : (ty != 43) = true := by rw [bne_iff_ne]; exact ht
    have HB : Hid (fillV sec off ty ad l = true) := by unfold Hid fillV; rw [decide_eq_true ht]; rfl
    clear ht hmay hall hS hn hl
    go_enter Tryz.func48, Tryz.ntmps48
    go_wp2
    go_ret
    exact ⟨by rw [HB.out]; rfl, kA⟩

theorem w64_succ {k : Nat} (h : k < 1000000) : wrap64 ((k : Int) + 1) = ((k + 1 : Nat) : Int) := by rw [w64 (by omega) (by omega)]; omega
/-! ### What the program asks of two -/
/-- What is known of a relocation that may be. -/
structure FitR (r : RelM) : Prop where
  t0 : 0 ≤ abtN r.ty
  o0 : 0 ≤ r.off
  o1 : r.off ≤ 4096
  b0 : 0 ≤ bytN r
  b1 : bytN r ≤ 4096
def ordR (a b : RelM) : Prop := a.sec < b.sec ∨ a.sec = b.sec ∧ a.off ≤ b.off
def stopB (a b : RelM) : Bool := (b.sec != a.sec) || decide (a.off + bytN a ≤ b.off)
def okTwo (a b : RelM) : Bool := !decide (b.off < b.off + bytN b) || pairB a.ty a.off (a.off + bytN a) b.ty b.off (b.off + bytN b) || pairB b.ty b.off (b.off + bytN b) a.ty a.off (a.off + bytN a)
theorem pair_sum (a b : RelM) (e : a.off = b.off) : (pairB a.ty a.off (a.off + bytN a) b.ty b.off (b.off + bytN b) || pairB b.ty b.off (b.off + bytN b) a.ty a.off (a.off + bytN a)) = sumB a b := by
  have key : ∀ x y : RelM, x.off = y.off → (pairB x.ty x.off (x.off + bytN x) y.ty y.off (y.off + bytN y) = true ↔ 33 ≤ x.ty ∧ x.ty ≤ 36 ∧ y.ty = x.ty + 4) := by
    intro x y e
    unfold pairB addB subB
    simp only [Bool.and_eq_true, decide_eq_true_eq, beq_iff_eq]
    constructor
    · rintro ⟨⟨⟨⟨a1, a2⟩, b1, b2⟩, _⟩, h⟩
      refine ⟨a1, a2, ?_⟩
      have hx : bytN x = abtN x.ty := if_neg (by omega)
      have hy : bytN y = abtN y.ty := if_neg (by omega)
      rw [hx, hy, e] at h
      have h' : abtN x.ty = abtN y.ty := by omega
      have cx : x.ty = 33 ∨ x.ty = 34 ∨ x.ty = 35 ∨ x.ty = 36 := by omega
      have cy : y.ty = 37 ∨ y.ty = 38 ∨ y.ty = 39 ∨ y.ty = 40 := by omega
      rcases cx with c | c | c | c <;> rcases cy with d | d | d | d <;> rw [c, d] at h' ⊢ <;> first | rfl | (exact absurd h' (by decide))
    · rintro ⟨a1, a2, a3⟩
      refine ⟨⟨⟨⟨a1, a2⟩, by omega, by omega⟩, e⟩, ?_⟩
      have hx : bytN x = abtN x.ty := if_neg (by omega)
      have hy : bytN y = abtN y.ty := if_neg (by omega)
      have cx : x.ty = 33 ∨ x.ty = 34 ∨ x.ty = 35 ∨ x.ty = 36 := by omega
      have : abtN x.ty = abtN y.ty := by
        rw [a3]
        rcases cx with c | c | c | c <;> rw [c] <;> decide
      rw [hx, hy, e, this]
  rw [Bool.eq_iff_iff, Bool.or_eq_true, key a b e, key b a e.symm]
  unfold sumB
  rw [Bool.or_eq_true, decide_eq_true_eq, decide_eq_true_eq]
theorem apart_prog {a b : RelM} (ha : FitR a) (hb : FitR b) (ho : ordR a b) : apartB a b = (stopB a b || okTwo a b) := by
  have h1 := ha.b0
  have h2 := hb.b0
  unfold ordR at ho
  by_cases hs : b.sec = a.sec
  · have hle : a.off ≤ b.off := by omega
    by_cases hst : a.off + bytN a ≤ b.off
    · have e1 : stopB a b = true := by unfold stopB; rw [decide_eq_true hst, Bool.or_true]
      have e2 : apartB a b = true := by unfold apartB; rw [decide_eq_true hst]; simp
      rw [e1, e2]; rfl
    · have e1 : stopB a b = false := by
        unfold stopB
        rw [decide_eq_false hst, Bool.or_false, bne_eq_false_iff_eq]
        exact hs
      rw [e1, Bool.false_or]
      have hpos : bytN a ≠ 0 := by omega
      by_cases hz : bytN b = 0
      · have e2 : apartB a b = true := by unfold apartB; rw [decide_eq_true hz]; simp
        have e3 : okTwo a b = true := by unfold okTwo; rw [decide_eq_false (by omega)]; rfl
        rw [e2, e3]
      · have e3 : okTwo a b = (pairB a.ty a.off (a.off + bytN a) b.ty b.off (b.off + bytN b) || pairB b.ty b.off (b.off + bytN b) a.ty a.off (a.off + bytN a)) := by
          unfold okTwo
          rw [decide_eq_true (by omega)]
          rfl
        have e2 : apartB a b = (decide (a.off = b.off) && sumB a b) := by
          unfold apartB
          rw [decide_eq_false (by omega), decide_eq_false hpos, decide_eq_false hz, decide_eq_false hst, decide_eq_false (by omega)]
          rfl
        rw [e2, e3]
        by_cases ho2 : a.off = b.off
        · rw [decide_eq_true ho2, Bool.true_and, pair_sum a b ho2]
        · rw [decide_eq_false ho2, Bool.false_and]
          have : ∀ x y : RelM, x.off ≠ y.off → pairB x.ty x.off (x.off + bytN x) y.ty y.off (y.off + bytN y) = false := by
            intro x y h
            unfold pairB
            rw [show (x.off == y.off) = false from beq_eq_false_iff_ne.2 h]
            simp
          rw [this a b ho2, this b a (fun e => ho2 e.symm)]
          rfl
  · have e1 : stopB a b = true := by
      unfold stopB
      rw [show (b.sec != a.sec) = true from bne_iff_ne.2 hs]
      rfl
    have e2 : apartB a b = true := by unfold apartB; rw [decide_eq_true (show a.sec ≠ b.sec from fun e => hs e.symm)]; simp
    rw [e1, e2]; rfl
theorem stop_on {a b c : RelM} (hab : ordR a b) (hbc : ordR b c) (h : stopB a b = true) : stopB a c = true := by
  unfold ordR at hab hbc
  unfold stopB at h ⊢
  rw [Bool.or_eq_true, bne_iff_ne, decide_eq_true_eq] at h ⊢
  omega
/-- Are all apart? -/
def aptB (l : List RelM) : Bool := (List.range l.length).all fun j => (List.range j).all fun i => apartB (l.getD i relNo) (l.getD j relNo)
theorem aptB_of {l : List RelM} (h : ∀ i j, i < j → j < l.length → apartB (l.getD i relNo) (l.getD j relNo) = true) : aptB l = true := by
  unfold aptB
  rw [all_range]
  intro j hj
  rw [all_range]
  exact fun i hi => h i j hi hj
theorem aptB_no {l : List RelM} {i j : Nat} (hij : i < j) (hj : j < l.length) (h : apartB (l.getD i relNo) (l.getD j relNo) = false) : aptB l = false := by
  rw [Bool.eq_false_iff]
  intro e
  unfold aptB at e
  rw [all_range] at e
  have := e j hj
  rw [all_range] at this
  rw [this i hij] at h
  exact absurd h (by decide)

set_option maxRecDepth 20000 in
set_option maxHeartbeats 3200000 in
theorem areApart_walk (a : Option Addr) (n cap : Nat) (l : List RelM) (w : World) (hl : l.length = n) (hn : n ≤ 256) (hcap : n ≤ cap) (hR : RelR w a l) (hfit : ∀ i, i < n → FitR (l.getD i relNo)) (hord : ∀ i j, i < j → j < n → ordR (l.getD i relNo) (l.getD j relNo)) :
    Calls Tryz.prog 50 #[.slice a n cap] w fun e w' => e = .returned (.bool (aptB l)) ∧ Kept w w' := by
  go_enter Tryz.func50, Tryz.ntmps50
  go_wp2
  go_loopw [10] (fun i wr => ∃ k : Nat, k ≤ n ∧ i = .int .i64 k ∧ Kept w wr ∧ Hid (∀ x y, x < k → x < y → y < n → apartB (l.getD x relNo) (l.getD y relNo) = true)) (fun i _ => n - (intOf i).toNat)
  case atStart => exact ⟨0, Nat.zero_le _, rfl, Kept.refl _, fun x y hx => absurd hx (Nat.not_lt_zero _)⟩
  case round =>
    obtain ⟨k, hk, rfl, K, A⟩ := hrel
    by_cases hlt : k < n
    · obtain ⟨b, off, rfl, hAt⟩ := (hR.kept K).cells (show k < l.length by omega)
      obtain ⟨r, hr⟩ : ∃ r, l.getD k relNo = r := ⟨_, rfl⟩
      have fr := hfit k hlt
      rw [hr] at hAt fr
      have HV : Hid (l.getD k relNo = r) := hr
      obtain ⟨sec, of, ty, sy, ad⟩ := r
      have x0 : wr.cell? ⟨b, off + k * 5, none⟩ = some (.int .i64 sec) := hAt.c0
      have x1 : wr.cell? ⟨b, off + k * 5 + 1, none⟩ = some (.int .i64 of) := hAt.c1
      have x2 : wr.cell? ⟨b, off + k * 5 + 2, none⟩ = some (.int .u8 ty) := hAt.c2
      have x3 : wr.cell? ⟨b, off + k * 5 + 3, none⟩ = some (.int .i64 sy) := hAt.c3
      have x4 : wr.cell? ⟨b, off + k * 5 + 4, none⟩ = some (.int .i64 ad) := hAt.c4
      obtain ⟨wb, wc, hwb, hwc, Z1, Z2, K2, s2⟩ := put_rel wr sec of ty sy ad
      obtain ⟨gb, hgb⟩ : ∃ gb, wr.heap.size = gb := ⟨_, rfl⟩
      rw [hgb] at hwc Z1 Z2
      obtain ⟨z0, z1, z2, z3, z4, y0, y1, y2, y3, y4⟩ := Z1
      obtain ⟨u0, u1, u2, u3, u4, _, _, _, _, _⟩ := id Z2
      obtain ⟨E, hE⟩ : ∃ E, of + bytV ty ad = E := ⟨_, rfl⟩
      have f0 := fr.t0
      have f1 := fr.o0
      have f2 := fr.o1
      have f3 : 0 ≤ bytV ty ad := fr.b0
      have f4 : bytV ty ad ≤ 4096 := fr.b1
      dsimp only at f0 f1 f2
      have hEd := fun w => endOf_walk sec of ty sy ad E w f0 hE (by omega) (by omega)
      have KW := K.trans K2
      have hkk := w64_succ (k := k) (by omega)
      have hkn : k + 1 ≤ n := hlt
      clear hr hAt
      go_upto_region 5 with (go_at_call 87; refine (hEd _).mono ?_; rintro e w4 ⟨rfl, k4⟩)
      --BEGIN
      have K4 := KW.trans k4
      have Z4 := Z2.kept k4
      have HALL0 : Hid (∀ y, k < y → y < n → ordR ⟨sec, of, ty, sy, ad⟩ (l.getD y relNo)) := fun y h1 h2 => by have := hord k y h1 h2; rw [HV.out] at this; exact this
      have HFE : Hid (of + bytV ty ad = E ∧ 0 ≤ abtN ty ∧ FitR ⟨sec, of, ty, sy, ad⟩) := ⟨hE, f0, fr⟩
      have HEr : -9223372036854775808 ≤ E ∧ E ≤ 9223372036854775807 := by rw [← hE]; omega
      clear z0 z1 z2 z3 z4 y0 y1 y2 y3 y4 u0 u1 u2 u3 u4 x0 x1 x2 x3 x4 hwb hwc hEd hE f0 f1 f2 f3 f4 fr
      by_cases hco : cap = k + 1
      · have hkn2 : n ≤ k + 1 := by omega
        have hm0 : n - (k + 1) = 0 := by omega
        have HALL : Hid (∀ y, k < y → y < n → apartB ⟨sec, of, ty, sy, ad⟩ (l.getD y relNo) = true) := fun y h1 h2 => absurd h2 (by omega)
        clear hkn2
        go_wp2
        go_loopw [22] (fun i w2 => i = .int .i64 0 ∧ Kept w w2) (fun i _ => 0)
        case atStart => exact ⟨rfl, K4⟩
        case round =>
          obtain ⟨rfl, K5⟩ := hrel
          go_wp2
          go_roundw
          case rel =>
            refine ⟨k + 1, by omega, by go_num, K5, fun x y hx hxy hy => ?_⟩
            by_cases e : x = k
            · subst e
              rw [HV.out]
              exact HALL.out y hxy hy
            · exact A.out x y (by omega) hxy hy
          case measure => simp [intOf]; omega
      · obtain ⟨m, hm⟩ : ∃ m, n - (k + 1) = m := ⟨_, rfl⟩
        have hmn : m ≤ 256 := by omega
        have hkm : k + 1 + m = n := by omega
        go_wp2
        go_loopw [22] (fun i w2 => ∃ j : Nat, j ≤ m ∧ i = .int .i64 j ∧ Kept w w2 ∧ XBx w2 gb sec of ty sy ad ∧ Hid (∀ y, k < y → y < k + 1 + j → apartB ⟨sec, of, ty, sy, ad⟩ (l.getD y relNo) = true)) (fun i _ => m - (intOf i).toNat)
        case atStart => exact ⟨0, Nat.zero_le _, rfl, K4, Z4, fun y h1 h2 => absurd h2 (by omega)⟩
        case round =>
          clear Z4 K4
          obtain ⟨j, hj, rfl, K5, Z5, A5⟩ := hrel
          by_cases hjm : j < m
          · obtain ⟨b', o', hab, hAt2⟩ := (hR.kept K5).cells (show k + 1 + j < l.length by omega)
            obtain ⟨rfl, rfl⟩ : b' = b ∧ o' = off := by
              simp only [Option.some.injEq, Addr.mk.injEq, and_true] at hab
              exact ⟨hab.1.symm, hab.2.symm⟩
            obtain ⟨q, hq⟩ : ∃ q, l.getD (k + 1 + j) relNo = q := ⟨_, rfl⟩
            have fq := hfit (k + 1 + j) (by omega)
            rw [hq] at hAt2 fq
            have HQ : Hid (l.getD (k + 1 + j) relNo = q) := hq
            have hor := HALL0.out (k + 1 + j) (by omega) (by omega)
            rw [hq] at hor
            have hst := apart_prog HFE.out.2.2 fq hor
            obtain ⟨sec2, of2, ty2, sy2, ad2⟩ := q
            have ead : o' + (k + 1) * 5 + j * 5 = o' + (k + 1 + j) * 5 := by omega
            have x0 : wr.cell? ⟨b', o' + (k + 1) * 5 + j * 5, none⟩ = some (.int .i64 sec2) := by rw [ead]; exact hAt2.c0
            have x1 : wr.cell? ⟨b', o' + (k + 1) * 5 + j * 5 + 1, none⟩ = some (.int .i64 of2) := by rw [ead]; exact hAt2.c1
            have x2 : wr.cell? ⟨b', o' + (k + 1) * 5 + j * 5 + 2, none⟩ = some (.int .u8 ty2) := by rw [ead]; exact hAt2.c2
            have x3 : wr.cell? ⟨b', o' + (k + 1) * 5 + j * 5 + 3, none⟩ = some (.int .i64 sy2) := by rw [ead]; exact hAt2.c3
            have x4 : wr.cell? ⟨b', o' + (k + 1) * 5 + j * 5 + 4, none⟩ = some (.int .i64 ad2) := by rw [ead]; exact hAt2.c4
            obtain ⟨wb, wc, hwb, hwc, Y1, Y2, K6, s6⟩ := put_rel wr sec2 of2 ty2 sy2 ad2
            obtain ⟨z0, z1, z2, z3, z4, y0, y1, y2, y3, y4⟩ := Y1
            obtain ⟨u0, u1, u2, u3, u4, _, _, _, _, _⟩ := id Y2
            have Z6 := Z5.kept K6
            obtain ⟨v0, v1, v2, v3, v4, _, _, _, _, _⟩ := id Z6
            have K7 := K5.trans K6
            have HST : Hid (apartB ⟨sec, of, ty, sy, ad⟩ ⟨sec2, of2, ty2, sy2, ad2⟩ = (((sec2 != sec) || decide (E ≤ of2)) || okTwo ⟨sec, of, ty, sy, ad⟩ ⟨sec2, of2, ty2, sy2, ad2⟩)) := by
              unfold Hid
              rw [hst, ← HFE.out.1]
              rfl
            have HSS : Hid (((sec2 != sec) || decide (E ≤ of2)) = stopB ⟨sec, of, ty, sy, ad⟩ ⟨sec2, of2, ty2, sy2, ad2⟩) := by
              unfold Hid
              rw [← HFE.out.1]
              rfl
            have HSO : Hid (∀ y, k + 1 + j < y → y < n → ordR ⟨sec2, of2, ty2, sy2, ad2⟩ (l.getD y relNo)) := fun y h1 h2 => by have := hord (k + 1 + j) y h1 h2; rw [HQ.out] at this; exact this
            have HO2 : Hid (ordR ⟨sec, of, ty, sy, ad⟩ ⟨sec2, of2, ty2, sy2, ad2⟩) := hor
            have HF2 : Hid (FitR ⟨sec2, of2, ty2, sy2, ad2⟩) := fq
            clear hq hAt2 hst hor fq hab ead
            obtain ⟨q1, hq1⟩ : ∃ q, (sec2 != sec) = q := ⟨_, rfl⟩
            obtain ⟨q2, hq2⟩ : ∃ q, decide (E ≤ of2) = q := ⟨_, rfl⟩
            have HSTOP : q1 = true ∨ q2 = true → Hid (∀ y, k < y → y < n → apartB ⟨sec, of, ty, sy, ad⟩ (l.getD y relNo) = true) := by
              intro hst y h1 h2
              have h3 : stopB ⟨sec, of, ty, sy, ad⟩ ⟨sec2, of2, ty2, sy2, ad2⟩ = true := by
                rw [← HSS.out, hq1, hq2, Bool.or_eq_true]
                exact hst
              by_cases e1 : y < k + 1 + j
              · exact A5.out y h1 e1
              · by_cases e2 : y = k + 1 + j
                · subst e2
                  rw [HQ.out, HST.out, HSS.out, h3]
                  rfl
                · have h4 := stop_on HO2.out (HSO.out y (by omega) h2) h3
                  have h5 := HALL0.out y h1 h2
                  have h6 := hfit y h2
                  rw [apart_prog HFE.out.2.2 h6 h5, h4]
                  rfl
            cases q1 with
            | true =>
              have HALL := HSTOP (.inl rfl)
              clear hq2 HSTOP
              go_wp2
              go_roundw
              case rel =>
                refine ⟨k + 1, by omega, by go_num, K7, fun x y hx hxy hy => ?_⟩
                by_cases e : x = k
                · subst e
                  rw [HV.out]
                  exact HALL.out y hxy hy
                · exact A.out x y (by omega) hxy hy
              case measure => simp [intOf]; omega
            | false =>
              cases q2 with
              | true =>
                have HALL := HSTOP (.inr rfl)
                clear HSTOP
                go_wp2
                go_roundw
                case rel =>
                  refine ⟨k + 1, by omega, by go_num, K7, fun x y hx hxy hy => ?_⟩
                  by_cases e : x = k
                  · subst e
                    rw [HV.out]
                    exact HALL.out y hxy hy
                  · exact A.out x y (by omega) hxy hy
                case measure => simp [intOf]; omega
              | false =>
                have fq := HF2.out
                have g0 : 0 ≤ abtN ty2 := fq.t0
                obtain ⟨E2, hE2⟩ : ∃ E2, of2 + bytV ty2 ad2 = E2 := ⟨_, rfl⟩
                have g1 : 0 ≤ of2 := fq.o0
                have g2 : of2 ≤ 4096 := fq.o1
                have g3 : 0 ≤ bytV ty2 ad2 := fq.b0
                have g4 : bytV ty2 ad2 ≤ 4096 := fq.b1
                obtain ⟨hE2r0, hE2r1⟩ : -9223372036854775808 ≤ E2 ∧ E2 ≤ 9223372036854775807 := by rw [← hE2]; omega
                obtain ⟨h1, hh1⟩ : ∃ h, decide (of2 < E2) = h := ⟨_, rfl⟩
                have hHB := fun w => hasBytesO_walk sec2 of2 ty2 sy2 ad2 E2 h1 w g0 hE2 hE2r0 hE2r1 hh1
                have hP1 := fun w => arePair_walk sec of ty sy ad E sec2 of2 ty2 sy2 ad2 E2 w HFE.out.2.1 HFE.out.1 HEr.1 HEr.2 g0 hE2 hE2r0 hE2r1
                have hP2 := fun w => arePair_walk sec2 of2 ty2 sy2 ad2 E2 sec of ty sy ad E w g0 hE2 hE2r0 hE2r1 HFE.out.2.1 HFE.out.1 HEr.1 HEr.2
                obtain ⟨h2, hh2⟩ : ∃ h, pairB ty of E ty2 of2 E2 = h := ⟨_, rfl⟩
                obtain ⟨h3, hh3⟩ : ∃ h, pairB ty2 of2 E2 ty of E = h := ⟨_, rfl⟩
                have HOK : Hid (okTwo ⟨sec, of, ty, sy, ad⟩ ⟨sec2, of2, ty2, sy2, ad2⟩ = (!h1 || h2 || h3)) := by
                  unfold Hid
                  rw [← hh1, ← hh2, ← hh3, ← hE2, ← HFE.out.1]
                  rfl
                rw [hh2] at hP1
                rw [hh3] at hP2
                have HAP : Hid (apartB ⟨sec, of, ty, sy, ad⟩ ⟨sec2, of2, ty2, sy2, ad2⟩ = (!h1 || h2 || h3)) := by
                  unfold Hid
                  rw [HST.out, hq1, hq2, HOK.out]
                  rfl
                clear HSTOP hE2 g0 g1 g2 g3 g4 fq hh1 hh2 hh3
                go_upto_region 9 with fail
                clear z0 z1 z2 z3 z4 y0 y1 y2 y3 y4 x0 x1 x2 x3 x4 hwb hwc
                cases h1 with
                | false =>
                  go_wp2_with (first | (go_at_call 89; refine (hHB _).mono ?_; rintro e w8 ⟨rfl, k8⟩; clear u0 u1 u2 u3 u4 v0 v1 v2 v3 v4; obtain ⟨u0, u1, u2, u3, u4, _, _, _, _, _⟩ := id (Y2.kept k8); obtain ⟨v0, v1, v2, v3, v4, _, _, _, _, _⟩ := id (Z6.kept k8)))
                  go_roundw
                  case rel =>
                    refine ⟨j + 1, by omega, by go_num, K7.trans (k8), Z6.kept (k8), fun y a1 a2 => ?_⟩
                    by_cases e : y = k + 1 + j
                    · subst e; rw [HQ.out, HAP.out]; rfl
                    · exact A5.out y a1 (by omega)
                  case measure => simp [intOf]; omega
                | true =>
                  cases h2 with
                  | true =>
                    go_wp2_with (first | (go_at_call 89; refine (hHB _).mono ?_; rintro e w8 ⟨rfl, k8⟩; clear u0 u1 u2 u3 u4 v0 v1 v2 v3 v4; obtain ⟨u0, u1, u2, u3, u4, _, _, _, _, _⟩ := id (Y2.kept k8); obtain ⟨v0, v1, v2, v3, v4, _, _, _, _, _⟩ := id (Z6.kept k8)) | (go_at_call 90; refine (hP1 _).mono ?_; rintro e w9 ⟨rfl, k9⟩; clear hP1; clear u0 u1 u2 u3 u4 v0 v1 v2 v3 v4; obtain ⟨u0, u1, u2, u3, u4, _, _, _, _, _⟩ := id (Y2.kept (k8.trans k9)); obtain ⟨v0, v1, v2, v3, v4, _, _, _, _, _⟩ := id (Z6.kept (k8.trans k9))))
                    go_roundw
                    case rel =>
                      refine ⟨j + 1, by omega, by go_num, K7.trans (k8.trans k9), Z6.kept (k8.trans k9), fun y a1 a2 => ?_⟩
                      by_cases e : y = k + 1 + j
                      · subst e; rw [HQ.out, HAP.out]; rfl
                      · exact A5.out y a1 (by omega)
                    case measure => simp [intOf]; omega
                  | false =>
                    cases h3 with
                    | true =>
                      go_wp2_with (first | (go_at_call 89; refine (hHB _).mono ?_; rintro e w8 ⟨rfl, k8⟩; clear u0 u1 u2 u3 u4 v0 v1 v2 v3 v4; obtain ⟨u0, u1, u2, u3, u4, _, _, _, _, _⟩ := id (Y2.kept k8); obtain ⟨v0, v1, v2, v3, v4, _, _, _, _, _⟩ := id (Z6.kept k8)) | (go_at_call 90; refine (hP1 _).mono ?_; rintro e w9 ⟨rfl, k9⟩; clear hP1; clear u0 u1 u2 u3 u4 v0 v1 v2 v3 v4; obtain ⟨u0, u1, u2, u3, u4, _, _, _, _, _⟩ := id (Y2.kept (k8.trans k9)); obtain ⟨v0, v1, v2, v3, v4, _, _, _, _, _⟩ := id (Z6.kept (k8.trans k9))) | (go_at_call 90; refine (hP2 _).mono ?_; rintro e w10 ⟨rfl, k10⟩; clear u0 u1 u2 u3 u4 v0 v1 v2 v3 v4; obtain ⟨u0, u1, u2, u3, u4, _, _, _, _, _⟩ := id (Y2.kept ((k8.trans k9).trans k10)); obtain ⟨v0, v1, v2, v3, v4, _, _, _, _, _⟩ := id (Z6.kept ((k8.trans k9).trans k10))))
                      go_roundw
                      case rel =>
                        refine ⟨j + 1, by omega, by go_num, K7.trans ((k8.trans k9).trans k10), Z6.kept ((k8.trans k9).trans k10), fun y a1 a2 => ?_⟩
                        by_cases e : y = k + 1 + j
                        · subst e; rw [HQ.out, HAP.out]; rfl
                        · exact A5.out y a1 (by omega)
                      case measure => simp [intOf]; omega
                    | false =>
                      go_wp2_with (first | (go_at_call 89; refine (hHB _).mono ?_; rintro e w8 ⟨rfl, k8⟩; clear u0 u1 u2 u3 u4 v0 v1 v2 v3 v4; obtain ⟨u0, u1, u2, u3, u4, _, _, _, _, _⟩ := id (Y2.kept k8); obtain ⟨v0, v1, v2, v3, v4, _, _, _, _, _⟩ := id (Z6.kept k8)) | (go_at_call 90; refine (hP1 _).mono ?_; rintro e w9 ⟨rfl, k9⟩; clear hP1; clear u0 u1 u2 u3 u4 v0 v1 v2 v3 v4; obtain ⟨u0, u1, u2, u3, u4, _, _, _, _, _⟩ := id (Y2.kept (k8.trans k9)); obtain ⟨v0, v1, v2, v3, v4, _, _, _, _, _⟩ := id (Z6.kept (k8.trans k9))) | (go_at_call 90; refine (hP2 _).mono ?_; rintro e w10 ⟨rfl, k10⟩; clear u0 u1 u2 u3 u4 v0 v1 v2 v3 v4; obtain ⟨u0, u1, u2, u3, u4, _, _, _, _, _⟩ := id (Y2.kept ((k8.trans k9).trans k10)); obtain ⟨v0, v1, v2, v3, v4, _, _, _, _, _⟩ := id (Z6.kept ((k8.trans k9).trans k10))))
                      go_ret
                      have HB : aptB l = false := aptB_no (i := k) (j := k + 1 + j) (by omega) (by omega) (by rw [HV.out, HQ.out, HAP.out]; rfl)
                      exact ⟨by rw [HB]; rfl, K7.trans ((k8.trans k9).trans k10)⟩
          · obtain rfl : j = m := by omega
            have HALL : Hid (∀ y, k < y → y < n → apartB ⟨sec, of, ty, sy, ad⟩ (l.getD y relNo) = true) := fun y h1 h2 => A5.out y h1 (by omega)
            clear Z5 A5
            go_wp2
            go_roundw
            case rel =>
              refine ⟨k + 1, by omega, by go_num, K5, fun x y hx hxy hy => ?_⟩
              by_cases e : x = k
              · subst e
                rw [HV.out]
                exact HALL.out y hxy hy
              · exact A.out x y (by omega) hxy hy
            case measure => simp [intOf]; omega
    · obtain rfl : k = n := by omega
      have HB : Hid (aptB l = true) := aptB_of fun i j hij hj => A.out i j (by omega) hij (by omega)
      clear hR hfit hord
      go_wp2
      go_ret
      exact ⟨by rw [HB.out]; rfl, K⟩

theorem mayM_eq (r : RelM) (l : List SecV) (n : Int) : mayM r (l.map sctOf) n = mayX r.sec r.off r.ty r.sy r.ad l n := by
  unfold mayM plcM mayX plcX
  rw [getD_map' (no := secNo) (no' := sctNo) (f := sctOf) rfl, List.length_map]
  rfl
def progR (ss : List SecV) (n : Int) (rs : List RelM) (i : Nat) : Bool :=
  (mayX (rs.getD i relNo).sec (rs.getD i relNo).off (rs.getD i relNo).ty (rs.getD i relNo).sy (rs.getD i relNo).ad ss n && fillV (rs.getD i relNo).sec (rs.getD i relNo).off (rs.getD i relNo).ty (rs.getD i relNo).ad ss) &&
  (decide (i = 0) || !aheadB (rs.getD i relNo).sec (rs.getD i relNo).off (rs.getD (i - 1) relNo).sec (rs.getD (i - 1) relNo).off)
theorem ahead_ord (a b : RelM) : aheadB b.sec b.off a.sec a.off = false ↔ ordR a b := by
  unfold aheadB ordR
  rw [Bool.or_eq_false_iff, Bool.and_eq_false_iff, decide_eq_false_iff_not, decide_eq_false_iff_not, beq_eq_false_iff_ne]
  omega
theorem progR_ord {ss : List SecV} {n : Int} {rs : List RelM} (h : ∀ i, i < rs.length → progR ss n rs i = true) : ∀ i j, i < j → j < rs.length → ordR (rs.getD i relNo) (rs.getD j relNo) := by
  have one : ∀ i, i + 1 < rs.length → ordR (rs.getD i relNo) (rs.getD (i + 1) relNo) := by
    intro i hi
    have := h (i + 1) hi
    unfold progR at this
    rw [Bool.and_eq_true, Bool.or_eq_true, decide_eq_true_eq, Bool.not_eq_true', Nat.add_sub_cancel, ahead_ord] at this
    rcases this.2 with h | h
    · omega
    · exact h
  intro i j hij
  induction j with
  | zero => omega
  | succ j ih =>
    intro hj
    have h1 := one j hj
    by_cases e : i = j
    · subst e; exact h1
    · have h2 := ih (by omega) (by omega)
      unfold ordR at h1 h2 ⊢
      omega
theorem fit_of {ss : List SecV} {n : Int} {r : RelM} (hall : ss.all okS = true) (h : mayX r.sec r.off r.ty r.sy r.ad ss n = true) : FitR r := by
  unfold mayX plcX at h
  rw [Bool.and_eq_true, Bool.and_eq_true, Bool.and_eq_true, Bool.and_eq_true, Bool.and_eq_true, Bool.and_eq_true, decide_eq_true_eq, decide_eq_true_eq, decide_eq_true_eq] at h
  obtain ⟨_, ⟨h0, hs1, hs2⟩, ⟨⟨_, ho0⟩, hle⟩, hfil⟩ := h
  have h4 := okS_len hall (show (r.sec - 1).toNat < ss.length by omega)
  have h8 := abt_le r.ty
  refine ⟨h0, ho0, by omega, ?_, ?_⟩
  · unfold bytN
    split
    · rename_i e
      unfold filX at hfil
      rw [if_neg (by omega), if_pos e, decide_eq_true_eq] at hfil
      omega
    · exact h0
  · unfold bytN
    split
    · rename_i e
      unfold filX at hfil
      rw [if_neg (by omega), if_pos e, decide_eq_true_eq] at hfil
      omega
    · omega
theorem relsB_prog (ss : List SecV) (n : Int) (rs : List RelM) (_hall : ss.all okS = true) : relsB (ss.map sctOf) n rs = (decide (rs.length ≤ 256) && (List.range rs.length).all (progR ss n rs) && aptB rs) := by
  rw [Bool.eq_iff_iff]
  unfold relsB
  rw [Bool.and_eq_true, Bool.and_eq_true, Bool.and_eq_true, decide_eq_true_eq, all_range, all_range]
  constructor
  · rintro ⟨h256, h⟩
    have h1 : ∀ i, i < rs.length → ((mayX (rs.getD i relNo).sec (rs.getD i relNo).off (rs.getD i relNo).ty (rs.getD i relNo).sy (rs.getD i relNo).ad ss n && fillV (rs.getD i relNo).sec (rs.getD i relNo).off (rs.getD i relNo).ty (rs.getD i relNo).ad ss) = true ∧ ∀ k, k < i → ordR (rs.getD k relNo) (rs.getD i relNo) ∧ apartB (rs.getD k relNo) (rs.getD i relNo) = true) := by
      intro i hi
      have := h i hi
      unfold relAt at this
      rw [Bool.and_eq_true, all_range, mayM_eq, fillV_eq] at this
      refine ⟨this.1, fun k hk => ?_⟩
      have h2 := this.2 k hk
      unfold relTwo at h2
      rw [Bool.and_eq_true, decide_eq_true_eq] at h2
      exact h2
    refine ⟨⟨h256, fun i hi => ?_⟩, aptB_of fun i j hij hj => ((h1 j hj).2 i hij).2⟩
    unfold progR
    rw [Bool.and_eq_true, Bool.or_eq_true, decide_eq_true_eq, Bool.not_eq_true', ahead_ord]
    refine ⟨(h1 i hi).1, ?_⟩
    by_cases h0 : i = 0
    · exact .inl h0
    · exact .inr ((h1 i hi).2 (i - 1) (by omega)).1
  · rintro ⟨⟨h256, h⟩, ha⟩
    refine ⟨h256, fun i hi => ?_⟩
    have ho := progR_ord h
    have h1 := h i hi
    unfold progR at h1
    rw [Bool.and_eq_true] at h1
    unfold relAt
    rw [Bool.and_eq_true, all_range, mayM_eq, fillV_eq]
    refine ⟨h1.1, fun k hk => ?_⟩
    unfold relTwo
    rw [Bool.and_eq_true, decide_eq_true_eq]
    refine ⟨ho k i hk hi, ?_⟩
    unfold aptB at ha
    rw [all_range] at ha
    have := ha i hi
    rw [all_range] at this
    exact this k hk
theorem relsB_no {ss : List SecV} {n : Int} {rs : List RelM} (hall : ss.all okS = true) {k : Nat} (hk : k < rs.length) (h : progR ss n rs k = false) : relsB (ss.map sctOf) n rs = false := by
  rw [relsB_prog ss n rs hall]
  have : (List.range rs.length).all (progR ss n rs) = false := by
    rw [Bool.eq_false_iff]
    intro e
    rw [all_range] at e
    rw [e k hk] at h
    exact absurd h (by decide)
  rw [this, Bool.and_false, Bool.false_and]

open Go.Sort in
set_option maxRecDepth 20000 in
set_option maxHeartbeats 3200000 in
theorem haveRelas_walk (o : ObjV) (w : World) (hO : ObjOk w o) (h16 : o.sn ≤ 16) (h64 : o.yn ≤ 64) (hall : o.ss.all okS = true) :
    Calls Tryz.prog 23 #[objW o] w fun e w' => e = .returned (.bool (relsB (o.ss.map sctOf) o.yn o.rs)) ∧ Kept w w' := by
  obtain ⟨ss, sa, sn, sc, ys, ya, yn, yc, rs, ra, n, rc, gs, ga, gn, gc⟩ := o
  have hS : SecR w sa ss := hO.s
  have hR : RelR w ra rs := hO.r
  have hls : ss.length = sn := hO.hs
  have hl : rs.length = n := hO.hr
  have hcap : n ≤ rc := hO.rl.1
  have hscap : sn ≤ sc := hO.sl.1
  clear hO
  dsimp only at h16 h64 hall
  obtain ⟨wa, hwa, B1, kA, sA⟩ := box_obj w (.slice sa sn sc) (.slice ya yn yc) (.slice ra n rc) (.slice ga gn gc)
  have c2 := B1.c2
  by_cases h256 : 256 < n
  · have d1 : decide ((256 : Int) < (n : Int)) = true := decide_eq_true (by omega)
    have HB : Hid (relsB (ss.map sctOf) yn rs = false) := by unfold Hid; rw [relsB_prog _ _ _ hall, decide_eq_false (by omega)]; rfl
    clear h256 hS hR B1 h16 hall
    go_enter Tryz.func23, Tryz.ntmps23
    go_wp2
    go_ret
    exact ⟨by rw [HB.out]; rfl, kA⟩
  · have d1 : decide ((256 : Int) < (n : Int)) = false := decide_eq_false (by omega)
    have hn256 : n ≤ 256 := by omega
    clear h256
    go_enter Tryz.func23, Tryz.ntmps23
    go_wp2
    go_loopw [12] (fun i wr => ∃ k : Nat, k ≤ n ∧ i = .int .i64 k ∧ Kept wa wr ∧ Hid (∀ j, j < k → progR ss yn rs j = true)) (fun i _ => n - (intOf i).toNat)
    case atStart => exact ⟨0, Nat.zero_le _, rfl, Kept.refl _, fun j hj => absurd hj (Nat.not_lt_zero _)⟩
    case round =>
      obtain ⟨k, hk, rfl, K, A⟩ := hrel
      by_cases hlt : k < n
      · obtain ⟨b, off, rfl, hAt⟩ := (hR.kept (kA.trans K)).cells (show k < rs.length by omega)
        obtain ⟨r, hr⟩ : ∃ r, rs.getD k relNo = r := ⟨_, rfl⟩
        rw [hr] at hAt
        have HV : Hid (rs.getD k relNo = r) := hr
        have hok := hAt.ok
        obtain ⟨sec, of, ty, sy, ad⟩ := r
        have x0 : wr.cell? ⟨b, off + k * 5, none⟩ = some (.int .i64 sec) := hAt.c0
        have x1 : wr.cell? ⟨b, off + k * 5 + 1, none⟩ = some (.int .i64 of) := hAt.c1
        have x2 : wr.cell? ⟨b, off + k * 5 + 2, none⟩ = some (.int .u8 ty) := hAt.c2
        have x3 : wr.cell? ⟨b, off + k * 5 + 3, none⟩ = some (.int .i64 sy) := hAt.c3
        have x4 : wr.cell? ⟨b, off + k * 5 + 4, none⟩ = some (.int .i64 ad) := hAt.c4
        have t0 : 0 ≤ ty := hok.t0
        have t1 : ty < 256 := hok.t1
        have ou : of ≤ 9223372036854775807 := hok.ou
        obtain ⟨wb, wc, hwb, hwc, Y1, Y2, K6, s6⟩ := put_rel wr sec of ty sy ad
        obtain ⟨gb, hgb⟩ : ∃ gb, wr.heap.size = gb := ⟨_, rfl⟩
        rw [hgb] at hwc Y1 Y2
        obtain ⟨z0, z1, z2, z3, z4, y0, y1, y2, y3, y4⟩ := Y1
        obtain ⟨u0, u1, u2, u3, u4, _, _, _, _, _⟩ := id Y2
        have K7 := K.trans K6
        have B7 := B1.kept K7
        have e0 := B7.c0
        have e1 := B7.c1
        have e2 := B7.c2
        have hC := xcheck_walk sec of ty sy ad sa sn sc ss yn wc t0 t1 hls hscap (by unfold maxLen; omega) ((hS.kept (kA.trans K7)).secs) ou
        rw [chkX_in (by omega) (by omega) (by omega) hall] at hC
        obtain ⟨q1, hq1⟩ : ∃ q, mayX sec of ty sy ad ss yn = q := ⟨_, rfl⟩
        have HQ1 : Hid (mayX sec of ty sy ad ss yn = q1) := hq1
        rw [hq1] at hC
        clear hr hAt hok hq1 c2
        cases q1 with
        | false =>
          have HB : Hid (relsB (ss.map sctOf) yn rs = false) := relsB_no hall (show k < rs.length by omega) (by unfold progR; rw [HV.out]; dsimp only; rw [HQ1.out]; rfl)
          rw [if_neg (by decide)] at hC
          clear t0 t1 ou
          go_wp2_with (go_at_call 47; refine hC.mono ?_; rintro e w8 ⟨rfl, k8⟩)
          go_ret
          exact ⟨by rw [HB.out]; rfl, (kA.trans K7).trans k8⟩
        | true =>
          rw [if_pos rfl] at hC
          have hW := fun w (h : Secs w sa ss) => isFilledUp_walk sec of ty sy ad sa sn sc ss yn w t0 t1 hls h16 h hall HQ1.out
          obtain ⟨q2, hq2⟩ : ∃ q, fillV sec of ty ad ss = q := ⟨_, rfl⟩
          have HQ2 : Hid (fillV sec of ty ad ss = q2) := hq2
          rw [hq2] at hW
          clear hq2 t0 t1 ou
          cases q2 with
          | false =>
            have HB : Hid (relsB (ss.map sctOf) yn rs = false) := relsB_no hall (show k < rs.length by omega) (by unfold progR; rw [HV.out]; dsimp only; rw [HQ1.out, HQ2.out]; rfl)
            go_wp2_with (first
              | (go_at_call 47; refine hC.mono ?_; rintro e w8 ⟨rfl, k8⟩; have HW := hW w8 (((hS.kept kA).kept (K7.trans k8)).secs); clear u0 u1 u2 u3 u4 e0; obtain ⟨u0, u1, u2, u3, u4, _, _, _, _, _⟩ := id (Y2.kept k8); have e0 := (B7.kept k8).c0)
              | (go_at_call 48; refine HW.mono ?_; rintro e w9 ⟨rfl, k9⟩))
            go_ret
            exact ⟨by rw [HB.out]; rfl, (kA.trans K7).trans (k8.trans k9)⟩
          | true =>
            go_upto_region 8 with (first
              | (go_at_call 47; refine hC.mono ?_; rintro e w8 ⟨rfl, k8⟩; have HW := hW w8 (((hS.kept kA).kept (K7.trans k8)).secs); clear u0 u1 u2 u3 u4 e0; obtain ⟨u0, u1, u2, u3, u4, _, _, _, _, _⟩ := id (Y2.kept k8); have e0 := (B7.kept k8).c0)
              | (go_at_call 48; refine HW.mono ?_; rintro e w9 ⟨rfl, k9⟩))
            clear u0 u1 u2 u3 u4 e0 e1 e2 z0 z1 z2 z3 z4 y0 y1 y2 y3 y4 x0 x1 x2 x3 x4 hwb hwc hC hW HW
            have k89 := k8.trans k9
            have Y9 := Y2.kept k89
            have B9 := B7.kept k89
            have K9 := K7.trans k89
            by_cases h0 : k = 0
            · subst h0
              have HP : Hid (progR ss yn rs 0 = true) := by unfold Hid progR; rw [HV.out]; dsimp only; rw [HQ1.out, HQ2.out]; rfl
              go_big_quiet (fail)
              have K10 : Kept wa (w9.drewN nq) := K9.trans (Kept.drewN _ _)
              go_wp2
              go_roundw
              case rel =>
                refine ⟨1, by omega, by go_num, K10, fun j hj => ?_⟩
                obtain rfl : j = 0 := by omega
                exact HP.out
              case measure => simp [intOf]; omega
            · obtain ⟨p, hp⟩ : ∃ p : Nat, (k : Int) - 1 = p := ⟨k - 1, by omega⟩
              have hpk : p < n := by omega
              have hpk' : k - 1 = p := by omega
              have hk0 : 0 < k := by omega
              have dk : decide ((0 : Int) < (k : Int)) = true := decide_eq_true (by omega)
              have hwk' : IntKind.i64.wrap ((k : Int) - 1) = p := by rw [w64i (by omega) (by omega)]; exact hp
              obtain ⟨b', o', hab, hAt⟩ := ((hR.kept kA).kept K9).cells (show p < rs.length by omega)
              obtain ⟨rfl, rfl⟩ : b' = b ∧ o' = off := by
                simp only [Option.some.injEq, Addr.mk.injEq, and_true] at hab
                exact ⟨hab.1.symm, hab.2.symm⟩
              obtain ⟨q, hq⟩ : ∃ q, rs.getD p relNo = q := ⟨_, rfl⟩
              rw [hq] at hAt
              have HQP : Hid (rs.getD p relNo = q) := hq
              obtain ⟨sec2, of2, ty2, sy2, ad2⟩ := q
              have v0 : ∀ d os, (grow (redrawn w9 d) os).cell? ⟨b', o' + p * 5, none⟩ = some (.int .i64 sec2) := cell_regrown hAt.c0
              have v1 : ∀ d os, (grow (redrawn w9 d) os).cell? ⟨b', o' + p * 5 + 1, none⟩ = some (.int .i64 of2) := cell_regrown hAt.c1
              have v2 : ∀ d os, (grow (redrawn w9 d) os).cell? ⟨b', o' + p * 5 + 2, none⟩ = some (.int .u8 ty2) := cell_regrown hAt.c2
              have v3 : ∀ d os, (grow (redrawn w9 d) os).cell? ⟨b', o' + p * 5 + 3, none⟩ = some (.int .i64 sy2) := cell_regrown hAt.c3
              have v4 : ∀ d os, (grow (redrawn w9 d) os).cell? ⟨b', o' + p * 5 + 4, none⟩ = some (.int .i64 ad2) := cell_regrown hAt.c4
              have u0 := cell_regrown Y9.c0
              have u1 := cell_regrown Y9.c1
              have u2 := cell_regrown Y9.c2
              have u3 := cell_regrown Y9.c3
              have u4 := cell_regrown Y9.c4
              have e2 := cell_regrown B9.c2
              obtain ⟨g, hg⟩ : ∃ g, aheadB sec of sec2 of2 = g := ⟨_, rfl⟩
              have cA : ∀ d os, Calls Tryz.prog 49 #[relW sec of ty sy ad, relW sec2 of2 ty2 sy2 ad2] (grow (redrawn w9 d) os) fun e w'' => e = .returned (.bool g) ∧ ∃ p : Regrown, w'' = grow (redrawn w9 p.d) p.os := fun d os => Calls.regrown_of (by rw [← hg]; exact isAhead_walk sec of ty sy ad sec2 of2 ty2 sy2 ad2 _)
              have HP : Hid (progR ss yn rs k = !g) := by
                unfold Hid progR
                rw [HV.out, hpk', HQP.out]
                dsimp only
                rw [HQ1.out, HQ2.out, decide_eq_false h0, hg]
                rfl
              clear hab hq hg hAt hpk' hp h0
              refine wp_region_quiet_below (by kernel_rfl) (by kernel_rfl) ?_
              repeat (quiet_step (with_reducible exact cA _ _))
              refine wpQuiet_nil ?_
              intro w10 hw10
              have K10 : Kept w9 w10 := by
                obtain ⟨⟨dq, osq⟩, e⟩ := hw10
                rw [e]
                exact below_regrown w9 dq osq
              clear hw10 u0 u1 u2 u3 u4 v0 v1 v2 v3 v4 e2 cA hwk'
              cases g with
              | true =>
                have HB : Hid (relsB (ss.map sctOf) yn rs = false) := relsB_no hall (show k < rs.length by omega) HP.out
                go_wp2
                go_ret
                exact ⟨by rw [HB.out]; rfl, (kA.trans K9).trans K10⟩
              | false =>
                go_wp2
                go_roundw
                case rel =>
                  refine ⟨k + 1, by omega, by go_num, K9.trans K10, fun j hj => ?_⟩
                  by_cases e : j = k
                  · subst e; exact HP.out
                  · exact A.out j (by omega)
                case measure => simp [intOf]; omega
      · obtain rfl : k = n := by omega
        have hP : ∀ i, i < rs.length → progR ss yn rs i = true := fun i hi => A.out i (by omega)
        have HB : Hid (relsB (ss.map sctOf) yn rs = aptB rs) := by
          unfold Hid
          rw [relsB_prog _ _ _ hall, decide_eq_true (by omega), all_range.2 hP]
          rfl
        have hfit : ∀ i, i < k → FitR (rs.getD i relNo) := fun i hi => by
          have := hP i (by omega)
          unfold progR at this
          rw [Bool.and_eq_true, Bool.and_eq_true] at this
          exact fit_of hall this.1.1
        have e2 := (B1.kept K).c2
        have hD := areApart_walk ra k rc rs wr hl hn256 hcap ((hR.kept kA).kept K) hfit (fun i j hij hj => progR_ord hP i j hij (by omega))
        clear hS hR hP hfit B1
        go_wp2_with (go_at_call 50; refine hD.mono ?_; rintro e w4 ⟨rfl, k4⟩)
        go_ret
        exact ⟨by rw [HB.out]; rfl, (kA.trans K).trans k4⟩
end Go.Proofs.YtljmgbpecoifnaaGreatDoor
