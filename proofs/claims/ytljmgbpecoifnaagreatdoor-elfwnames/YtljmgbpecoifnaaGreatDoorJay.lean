/- What Write gives of an object: the program's. slices.Equal of numbers: the program's. slices.Equal of symbols: the program's. slices.Equal of relocations: the program's. -/
import Derived.Test.YtljmgbpecoifnaaGreatDoorJav
import Derived.Test.YtljmgbpecoifnaaGreatDoorJax
import Derived.Test.YtljmgbpecoifnaaGreatDoorJaj
import Derived.BigQuiet
namespace Go.Proofs.YtljmgbpecoifnaaGreatDoor
open Go.RowKit

set_option maxRecDepth 20000 in
set_option maxHeartbeats 6400000 in
theorem owrite_walk (o : ObjV) (w : World) (hO : ObjOk w o) (tk : TabK w) (tx : TabX w) (ty : Tab w) :
    Calls Tryz.prog 10 #[objW o] w fun e w' => ∃ v, e = .returned (.tuple #[v, .int .i64 (woE o.m)]) ∧ Own w' w.heap.size v (woL o.m) ∧ Kept w w' := by
  have hC := fun w' (k : Kept w w') => ocheck_walk o w' (hO.kept k)
  have hM : ∀ w', Kept w w' → chO o.m = 0 → Calls Tryz.prog 25 #[objW o] w' fun e w2 => ∃ fb B σ, e = .returned (.pointer (some ⟨fb, 0, none⟩)) ∧ w.heap.size ≤ B ∧ FileOk B w2 fb σ ∧ σ.b = fileO o.m ∧ σ.e = 0 ∧ Kept w' w2 := by
    intro w' hk h0
    have hk0 : okO o.m = true := by
      cases h : okO o.m with
      | true => rfl
      | false => unfold chO at h0; rw [h] at h0; exact absurd h0 (by decide)
    refine (gather_walk o w' ⟨hO.kept hk, (okO_iff o.m).1 hk0, tk.kept hk, tx.kept hk, ty.kept hk⟩).mono ?_
    rintro e w2 ⟨fb, B, σ, rfl, hB, hF, hG, hk2⟩
    unfold GSt at hG
    rw [if_neg (by decide), if_neg (by decide), if_neg (by decide)] at hG
    exact ⟨fb, B, σ, rfl, Nat.le_trans hk.size hB, hF, hG.1, hG.2, hk2⟩
  have hWo := wo_cases o.m
  have hch : chO o.m = if okO o.m = true then 0 else 8 := rfl
  generalize fileO o.m = L at hM hWo
  generalize woE o.m = E at hWo ⊢
  generalize woL o.m = R at hWo ⊢
  generalize chO o.m = c at hC hM hch
  generalize okO o.m = b at hWo hch
  obtain ⟨ss, sa, sn, sc, ys, ya, yn, yc, rs, ra, rn, rc, gs, ga, gn, gc⟩ := o
  clear hO
  obtain ⟨wa, hwa, B1, kA, sA⟩ := box_obj w (.slice sa sn sc) (.slice ya yn yc) (.slice ra rn rc) (.slice ga gn gc)
  obtain ⟨d0, d1, d2, d3, _, _, _, _⟩ := id B1
  have hC1 := hC wa kA
  cases b with
  | false =>
    have hc8 : c = 8 := by rw [hch]; rfl
    have HW : Hid (E = 8 ∧ R = []) := by
      rcases hWo with h | h | h
      · exact ⟨h.1, h.2.1⟩
      · exact absurd h.2.2.1 (by decide)
      · exact absurd h.2.2.1 (by decide)
    subst hc8
    clear hM hWo hch hC
    go_enter Tryz.func10, Tryz.ntmps10
    go_wp2_with (go_at_call 8; refine hC1.mono ?_; rintro e w2 ⟨rfl, k2⟩)
    go_ret2
    exact ⟨_, by rw [HW.out.1]; rfl, by rw [HW.out.2]; exact Own.nil _ _, kA.trans k2⟩
  | true =>
    have hc0 : c = 0 := by rw [hch]; rfl
    have HW : Hid ((E = 9 ∧ R = [] ∧ 65536 < L.length) ∨ (E = 0 ∧ R = L ∧ L.length ≤ 65536)) := by
      rcases hWo with h | h | h
      · exact absurd h.2.2 (by decide)
      · exact .inl ⟨h.1, h.2.1, h.2.2.2⟩
      · exact .inr ⟨h.1, h.2.1, h.2.2.2⟩
    subst hc0
    have hM' := fun w' k => hM w' k rfl
    clear hWo hch hC hM
    go_enter Tryz.func10, Tryz.ntmps10
    go_upto_region 4 with (go_at_call 8; refine hC1.mono ?_; rintro e w2 ⟨rfl, k2⟩; clear d0 d1 d2 d3; obtain ⟨d0, d1, d2, d3, _, _, _, _⟩ := id (B1.kept k2))
    have hM2 := hM' w2 (kA.trans k2)
    clear hM'
    go_upto_region 5 with (go_at_call 25; refine hM2.mono ?_; rintro e w3 ⟨fb, B, σ, rfl, hB, ok, hb, he, k3⟩)
    have c5 := ok.c5
    rw [he] at c5
    obtain ⟨n, hn⟩ : ∃ n, σ.b.length = n := ⟨_, rfl⟩
    have c0 := ok.c0
    rw [hn] at c0
    have hob := ok.ob
    rw [hn] at hob
    have K := (kA.trans k2).trans k3
    have HB : Hid (σ.b = L ∧ L.length = n) := ⟨hb, by rw [← hb]; exact hn⟩
    have HO : Hid (Own w3 w.heap.size (.slice (some ⟨σ.gb, 0, none⟩) n σ.cb) L) := by
      unfold Hid
      rw [← hb]
      exact own_base hob hB
    clear hM2 hb he hn hob
    by_cases h : 65536 < n
    · have q : decide ((65536 : Int) < (n : Int)) = true := decide_eq_true (by omega)
      have HR : Hid (E = 9 ∧ R = []) := by
        rcases HW.out with g | g
        · exact ⟨g.1, g.2.1⟩
        · have := g.2.2; rw [HB.out.2] at this; omega
      go_wp2
      go_ret2
      exact ⟨_, by rw [HR.out.1]; rfl, by rw [HR.out.2]; exact Own.nil _ _, K⟩
    · have q : decide ((65536 : Int) < (n : Int)) = false := decide_eq_false (by omega)
      have HR : Hid (E = 0 ∧ R = L) := by
        rcases HW.out with g | g
        · have := g.2.2; rw [HB.out.2] at this; omega
        · exact ⟨g.1, g.2.1⟩
      go_wp2
      go_ret2
      exact ⟨_, by rw [HR.out.1]; rfl, by rw [HR.out.2]; exact HO.out, K⟩

theorem eq_of_all {α : Type} {l m : List α} {n : Nat} (no : α) (hl : l.length = n) (hm : m.length = n) (h : ∀ i, i < n → l.getD i no = m.getD i no) : l = m := by
  apply List.ext_getElem (by omega)
  intro i h1 h2
  have := h i (by omega)
  rwa [getD_of_lt h1, getD_of_lt h2] at this
theorem Nums.cells {w : World} {a : Option Addr} {l : List Int} (h : Nums w a l) {i : Nat} (hi : i < l.length) : ∃ b o, a = some ⟨b, o, none⟩ ∧ w.cell? ⟨b, o + i, none⟩ = some (.int .i64 (l.getD i 0)) := by
  rcases h with rfl | ⟨b, off, rfl, hc⟩
  · simp at hi
  · exact ⟨b, off, rfl, hc i hi⟩
set_option maxRecDepth 20000 in
set_option maxHeartbeats 1600000 in
theorem equalI_walk (a a' : Option Addr) (n n' c c' : Nat) (l l' : List Int) (w : World) (hl : l.length = n) (hl' : l'.length = n') (hn : n ≤ 9223372036854775807) (hn' : n' ≤ 9223372036854775807) (h : Nums w a l) (h' : Nums w a' l') :
    Calls Tryz.prog 75 #[.slice a n c, .slice a' n' c'] w fun e w' => e = .returned (.bool (decide (l = l'))) ∧ Kept w w' := by
  by_cases hnn : n = n'
  · subst hnn
    have q : ((n : Int) != (n : Int)) = false := by simp
    go_enter Tryz.func75, Tryz.ntmps75
    go_wp2
    go_loopw [13] (fun i wr => ∃ k : Nat, k ≤ n ∧ i = .int .i64 k ∧ Kept w wr ∧ Hid (∀ j, j < k → l.getD j 0 = l'.getD j 0)) (fun i _ => n - (intOf i).toNat)
    case atStart => exact ⟨0, Nat.zero_le _, rfl, Kept.refl _, fun _ hj => absurd hj (Nat.not_lt_zero _)⟩
    case round =>
      obtain ⟨k, hk, rfl, K, A⟩ := hrel
      by_cases hlt : k < n
      · obtain ⟨b, off, rfl, x0⟩ := (h.kept K).cells (show k < l.length by omega)
        obtain ⟨b', off', rfl, y0⟩ := (h'.kept K).cells (show k < l'.length by omega)
        obtain ⟨x, hx⟩ : ∃ x, l.getD k 0 = x := ⟨_, rfl⟩
        obtain ⟨y, hy⟩ : ∃ y, l'.getD k 0 = y := ⟨_, rfl⟩
        rw [hx] at x0
        rw [hy] at y0
        have HX : Hid (l.getD k 0 = x ∧ l'.getD k 0 = y) := ⟨hx, hy⟩
        have hl2 : k < l.length := by omega
        clear hx hy
        by_cases e : x = y
        · have q1 : (x != y) = false := by rw [bne_eq_false_iff_eq]; exact e
          have HE : Hid (x = y) := e
          clear e
          go_upto_region 6 with fail
          go_big_quiet (fail)
          go_wp2
          go_roundw
          case rel =>
            refine ⟨k + 1, by omega, by go_num, ?_, fun j hj => ?_⟩
            · exact K.trans (Kept.drewN _ _)
            · by_cases ej : j = k
              · subst ej; rw [HX.out.1, HX.out.2, HE.out]
              · exact A.out j (by omega)
          case measure => simp [intOf]; omega
        · have q1 : (x != y) = true := by rw [bne_iff_ne]; exact e
          have HE : Hid (decide (l = l') = false) := decide_eq_false (fun h => e (by rw [← HX.out.1, ← HX.out.2, h]))
          clear e
          go_upto_region 6 with fail
          go_big_quiet (fail)
          go_wp2
          go_ret
          exact ⟨by rw [HE.out]; rfl, K.trans (Kept.drewN _ _)⟩
      · obtain rfl : k = n := by omega
        have HE : Hid (decide (l = l') = true) := decide_eq_true (eq_of_all 0 hl hl' A.out)
        go_wp2
        go_ret
        exact ⟨by rw [HE.out]; rfl, K⟩
  · have q : ((n : Int) != (n' : Int)) = true := by rw [bne_iff_ne]; omega
    have HE : Hid (decide (l = l') = false) := decide_eq_false (fun h => hnn (by rw [← hl, ← hl', h]))
    go_enter Tryz.func75, Tryz.ntmps75
    go_wp2
    go_ret
    exact ⟨by rw [HE.out]; rfl, Kept.refl _⟩

set_option maxRecDepth 20000 in
set_option maxHeartbeats 16000000 in
theorem neqY_run (w : World) (s s' : ByteArray) (bind bind' : Int) (hid hid' : Bool) (wh wh' val val' sz sz' : Int) :
    (binOp .neq 34 (symW s bind hid wh val sz) (symW s' bind' hid' wh' val' sz')).run Tryz.prog w = .ok (.bool (!((s.toList == s'.toList) && (bind == bind') && (hid == hid') && (wh == wh') && (val == val') && (sz == sz')))) w := by
  cases h0 : (s.toList == s'.toList) <;> cases h1 : (bind == bind') <;> cases h2 : (hid == hid') <;> cases h3 : (wh == wh') <;> cases h4 : (val == val') <;> cases h5 : (sz == sz') <;> go_simp
/-- A proposition as a Bool. -/
noncomputable def dB (p : Prop) : Bool := @decide p (Classical.propDecidable p)
theorem dB_true {p : Prop} (h : p) : dB p = true := by unfold dB; exact @decide_eq_true p (Classical.propDecidable p) h
theorem dB_false {p : Prop} (h : ¬ p) : dB p = false := by unfold dB; exact @decide_eq_false p (Classical.propDecidable p) h
theorem dB_iff (p : Prop) : dB p = true ↔ p := by
  constructor
  · intro h
    by_cases e : p
    · exact e
    · rw [dB_false e] at h; cases h
  · exact dB_true
theorem toList_inj {s t : ByteArray} : s.toList = t.toList ↔ s = t := by
  constructor
  · intro h
    rw [Lib.toList_data, Lib.toList_data] at h
    cases s; cases t
    simp only [ByteArray.mk.injEq]
    exact Array.toList_inj.1 h
  · intro h; rw [h]
def eqYV (x y : SymV) : Bool := (x.s.toList == y.s.toList) && (x.bind == y.bind) && (x.hid == y.hid) && (x.wh == y.wh) && (x.val == y.val) && (x.sz == y.sz)
theorem eqYV_iff (x y : SymV) : eqYV x y = true ↔ x = y := by
  obtain ⟨s, b, h, w, v, z⟩ := x
  obtain ⟨s', b', h', w', v', z'⟩ := y
  unfold eqYV
  simp [toList_inj, and_assoc]
set_option maxRecDepth 20000 in
set_option maxHeartbeats 1600000 in
theorem equalY_walk (a a' : Option Addr) (n n' c c' : Nat) (l l' : List SymV) (w : World) (hl : l.length = n) (hl' : l'.length = n') (hn : n ≤ 9223372036854775807) (hn' : n' ≤ 9223372036854775807) (h : SymR w a l) (h' : SymR w a' l') :
    Calls Tryz.prog 35 #[.slice a n c, .slice a' n' c'] w fun e w' => e = .returned (.bool (dB (l = l'))) ∧ Kept w w' := by
  by_cases hnn : n = n'
  · subst hnn
    have q : ((n : Int) != (n : Int)) = false := by simp
    go_enter Tryz.func35, Tryz.ntmps35
    go_wp2
    go_loopw [13] (fun i wr => ∃ k : Nat, k ≤ n ∧ i = .int .i64 k ∧ Kept w wr ∧ Hid (∀ j, j < k → l.getD j symV0 = l'.getD j symV0)) (fun i _ => n - (intOf i).toNat)
    case atStart => exact ⟨0, Nat.zero_le _, rfl, Kept.refl _, fun _ hj => absurd hj (Nat.not_lt_zero _)⟩
    case round =>
      obtain ⟨k, hk, rfl, K, A⟩ := hrel
      by_cases hlt : k < n
      · obtain ⟨b, off, rfl, hA⟩ := (h.kept K).cells (show k < l.length by omega)
        obtain ⟨b', off', rfl, hA'⟩ := (h'.kept K).cells (show k < l'.length by omega)
        obtain ⟨x, hx⟩ : ∃ x, l.getD k symV0 = x := ⟨_, rfl⟩
        obtain ⟨y, hy⟩ : ∃ y, l'.getD k symV0 = y := ⟨_, rfl⟩
        rw [hx] at hA
        rw [hy] at hA'
        have HX : Hid (l.getD k symV0 = x ∧ l'.getD k symV0 = y) := ⟨hx, hy⟩
        have hl2 : k < l.length := by omega
        clear hx hy
        obtain ⟨s, bind, hid, wh, val, sz⟩ := x
        obtain ⟨s', bind', hid', wh', val', sz'⟩ := y
        have x0 : wr.cell? ⟨b, off + k * 6, none⟩ = some (.string s) := hA.c0
        have x1 : wr.cell? ⟨b, off + k * 6 + 1, none⟩ = some (.int .u8 bind) := hA.c1
        have x2 : wr.cell? ⟨b, off + k * 6 + 2, none⟩ = some (.bool hid) := hA.c2
        have x3 : wr.cell? ⟨b, off + k * 6 + 3, none⟩ = some (.int .i64 wh) := hA.c3
        have x4 : wr.cell? ⟨b, off + k * 6 + 4, none⟩ = some (.int .i64 val) := hA.c4
        have x5 : wr.cell? ⟨b, off + k * 6 + 5, none⟩ = some (.int .i64 sz) := hA.c5
        have y0 : wr.cell? ⟨b', off' + k * 6, none⟩ = some (.string s') := hA'.c0
        have y1 : wr.cell? ⟨b', off' + k * 6 + 1, none⟩ = some (.int .u8 bind') := hA'.c1
        have y2 : wr.cell? ⟨b', off' + k * 6 + 2, none⟩ = some (.bool hid') := hA'.c2
        have y3 : wr.cell? ⟨b', off' + k * 6 + 3, none⟩ = some (.int .i64 wh') := hA'.c3
        have y4 : wr.cell? ⟨b', off' + k * 6 + 4, none⟩ = some (.int .i64 val') := hA'.c4
        have y5 : wr.cell? ⟨b', off' + k * 6 + 5, none⟩ = some (.int .i64 sz') := hA'.c5
        clear hA hA'
        have hN := fun w => neqY_run w s s' bind bind' hid hid' wh wh' val val' sz sz'
        obtain ⟨q9, hq9⟩ : ∃ q9, eqYV ⟨s, bind, hid, wh, val, sz⟩ ⟨s', bind', hid', wh', val', sz'⟩ = q9 := ⟨_, rfl⟩
        have HQ : Hid (q9 = true ↔ (⟨s, bind, hid, wh, val, sz⟩ : SymV) = ⟨s', bind', hid', wh', val', sz'⟩) := by unfold Hid; rw [← hq9]; exact eqYV_iff _ _
        have hN' : ∀ w, (binOp .neq 34 (symW s bind hid wh val sz) (symW s' bind' hid' wh' val' sz')).run Tryz.prog w = .ok (.bool (!q9)) w := fun w => by rw [← hq9]; exact hN w
        clear hN hq9
        cases q9 with
        | true =>
          have HE := HQ.out.1 rfl
          have HE : Hid ((⟨s, bind, hid, wh, val, sz⟩ : SymV) = ⟨s', bind', hid', wh', val', sz'⟩) := HE
          clear HQ
          go_upto_region 6 with fail
          go_big_quiet (fail)
          go_wp2
          go_roundw
          case rel =>
            refine ⟨k + 1, by omega, by go_num, ?_, fun j hj => ?_⟩
            · exact K.trans (Kept.drewN _ _)
            · by_cases ej : j = k
              · subst ej; rw [HX.out.1, HX.out.2, HE.out]
              · exact A.out j (by omega)
          case measure => simp [intOf]; omega
        | false =>
          have HE : Hid (dB (l = l') = false) := dB_false (fun h => by have := HQ.out.2 (by rw [← HX.out.1, ← HX.out.2, h]); cases this)
          clear HQ
          go_upto_region 6 with fail
          go_big_quiet (fail)
          go_wp2
          go_ret
          exact ⟨by rw [HE.out]; rfl, K.trans (Kept.drewN _ _)⟩
      · obtain rfl : k = n := by omega
        have HE : Hid (dB (l = l') = true) := dB_true (eq_of_all symV0 hl hl' A.out)
        go_wp2
        go_ret
        exact ⟨by rw [HE.out]; rfl, K⟩
  · have q : ((n : Int) != (n' : Int)) = true := by rw [bne_iff_ne]; omega
    have HE : Hid (dB (l = l') = false) := dB_false (fun h => hnn (by rw [← hl, ← hl', h]))
    go_enter Tryz.func35, Tryz.ntmps35
    go_wp2
    go_ret
    exact ⟨by rw [HE.out]; rfl, Kept.refl _⟩

set_option maxRecDepth 20000 in
set_option maxHeartbeats 16000000 in
theorem neqX_run (w : World) (sec sec' off off' ty ty' sy sy' ad ad' : Int) :
    (binOp .neq 32 (relW sec off ty sy ad) (relW sec' off' ty' sy' ad')).run Tryz.prog w = .ok (.bool (!((sec == sec') && (off == off') && (ty == ty') && (sy == sy') && (ad == ad')))) w := by
  cases h0 : (sec == sec') <;> cases h1 : (off == off') <;> cases h2 : (ty == ty') <;> cases h3 : (sy == sy') <;> cases h4 : (ad == ad') <;> go_simp
def eqXV (x y : RelM) : Bool := (x.sec == y.sec) && (x.off == y.off) && (x.ty == y.ty) && (x.sy == y.sy) && (x.ad == y.ad)
theorem eqXV_iff (x y : RelM) : eqXV x y = true ↔ x = y := by
  obtain ⟨s, b, h, w, v⟩ := x
  obtain ⟨s', b', h', w', v'⟩ := y
  unfold eqXV
  simp [and_assoc]
set_option maxRecDepth 20000 in
set_option maxHeartbeats 1600000 in
theorem equalX_walk (a a' : Option Addr) (n n' c c' : Nat) (l l' : List RelM) (w : World) (hl : l.length = n) (hl' : l'.length = n') (hn : n ≤ 9223372036854775807) (hn' : n' ≤ 9223372036854775807) (h : RelR w a l) (h' : RelR w a' l') :
    Calls Tryz.prog 36 #[.slice a n c, .slice a' n' c'] w fun e w' => e = .returned (.bool (dB (l = l'))) ∧ Kept w w' := by
  by_cases hnn : n = n'
  · subst hnn
    have q : ((n : Int) != (n : Int)) = false := by simp
    go_enter Tryz.func36, Tryz.ntmps36
    go_wp2
    go_loopw [13] (fun i wr => ∃ k : Nat, k ≤ n ∧ i = .int .i64 k ∧ Kept w wr ∧ Hid (∀ j, j < k → l.getD j relNo = l'.getD j relNo)) (fun i _ => n - (intOf i).toNat)
    case atStart => exact ⟨0, Nat.zero_le _, rfl, Kept.refl _, fun _ hj => absurd hj (Nat.not_lt_zero _)⟩
    case round =>
      obtain ⟨k, hk, rfl, K, A⟩ := hrel
      by_cases hlt : k < n
      · obtain ⟨b, off, rfl, hA⟩ := (h.kept K).cells (show k < l.length by omega)
        obtain ⟨b', off', rfl, hA'⟩ := (h'.kept K).cells (show k < l'.length by omega)
        obtain ⟨x, hx⟩ : ∃ x, l.getD k relNo = x := ⟨_, rfl⟩
        obtain ⟨y, hy⟩ : ∃ y, l'.getD k relNo = y := ⟨_, rfl⟩
        rw [hx] at hA
        rw [hy] at hA'
        have HX : Hid (l.getD k relNo = x ∧ l'.getD k relNo = y) := ⟨hx, hy⟩
        have hl2 : k < l.length := by omega
        clear hx hy
        obtain ⟨sec, of, ty, sy, ad⟩ := x
        obtain ⟨sec', of', ty', sy', ad'⟩ := y
        have x0 : wr.cell? ⟨b, off + k * 5, none⟩ = some (.int .i64 sec) := hA.c0
        have x1 : wr.cell? ⟨b, off + k * 5 + 1, none⟩ = some (.int .i64 of) := hA.c1
        have x2 : wr.cell? ⟨b, off + k * 5 + 2, none⟩ = some (.int .u8 ty) := hA.c2
        have x3 : wr.cell? ⟨b, off + k * 5 + 3, none⟩ = some (.int .i64 sy) := hA.c3
        have x4 : wr.cell? ⟨b, off + k * 5 + 4, none⟩ = some (.int .i64 ad) := hA.c4
        have y0 : wr.cell? ⟨b', off' + k * 5, none⟩ = some (.int .i64 sec') := hA'.c0
        have y1 : wr.cell? ⟨b', off' + k * 5 + 1, none⟩ = some (.int .i64 of') := hA'.c1
        have y2 : wr.cell? ⟨b', off' + k * 5 + 2, none⟩ = some (.int .u8 ty') := hA'.c2
        have y3 : wr.cell? ⟨b', off' + k * 5 + 3, none⟩ = some (.int .i64 sy') := hA'.c3
        have y4 : wr.cell? ⟨b', off' + k * 5 + 4, none⟩ = some (.int .i64 ad') := hA'.c4
        clear hA hA'
        have hN := fun w => neqX_run w sec sec' of of' ty ty' sy sy' ad ad'
        obtain ⟨q9, hq9⟩ : ∃ q9, eqXV ⟨sec, of, ty, sy, ad⟩ ⟨sec', of', ty', sy', ad'⟩ = q9 := ⟨_, rfl⟩
        have HQ : Hid (q9 = true ↔ (⟨sec, of, ty, sy, ad⟩ : RelM) = ⟨sec', of', ty', sy', ad'⟩) := by unfold Hid; rw [← hq9]; exact eqXV_iff _ _
        have hN' : ∀ w, (binOp .neq 32 (relW sec of ty sy ad) (relW sec' of' ty' sy' ad')).run Tryz.prog w = .ok (.bool (!q9)) w := fun w => by rw [← hq9]; exact hN w
        clear hN hq9
        cases q9 with
        | true =>
          have HE := HQ.out.1 rfl
          have HE : Hid ((⟨sec, of, ty, sy, ad⟩ : RelM) = ⟨sec', of', ty', sy', ad'⟩) := HE
          clear HQ
          go_upto_region 6 with fail
          go_big_quiet (fail)
          go_wp2
          go_roundw
          case rel =>
            refine ⟨k + 1, by omega, by go_num, ?_, fun j hj => ?_⟩
            · exact K.trans (Kept.drewN _ _)
            · by_cases ej : j = k
              · subst ej; rw [HX.out.1, HX.out.2, HE.out]
              · exact A.out j (by omega)
          case measure => simp [intOf]; omega
        | false =>
          have HE : Hid (dB (l = l') = false) := dB_false (fun h => by have := HQ.out.2 (by rw [← HX.out.1, ← HX.out.2, h]); cases this)
          clear HQ
          go_upto_region 6 with fail
          go_big_quiet (fail)
          go_wp2
          go_ret
          exact ⟨by rw [HE.out]; rfl, K.trans (Kept.drewN _ _)⟩
      · obtain rfl : k = n := by omega
        have HE : Hid (dB (l = l') = true) := dB_true (eq_of_all relNo hl hl' A.out)
        go_wp2
        go_ret
        exact ⟨by rw [HE.out]; rfl, K⟩
  · have q : ((n : Int) != (n' : Int)) = true := by rw [bne_iff_ne]; omega
    have HE : Hid (dB (l = l') = false) := dB_false (fun h => hnn (by rw [← hl, ← hl', h]))
    go_enter Tryz.func36, Tryz.ntmps36
    go_wp2
    go_ret
    exact ⟨by rw [HE.out]; rfl, Kept.refl _⟩
end Go.Proofs.YtljmgbpecoifnaaGreatDoor
