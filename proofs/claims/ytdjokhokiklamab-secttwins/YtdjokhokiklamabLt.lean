/- The law SectTwins, walked. -/
import Derived.Test.YtdjokhokiklamabKit
import Derived.Deep.RegionHeld3
namespace Go.Proofs.Ytdjokhokiklamab
open Go.RowKit

theorem sameB_symm (s t : ByteArray) (al al' sz sz' : Int) (l l' : List Int) : sameB t s al' al sz' sz l' l = sameB s t al al' sz sz' l l' := by
  unfold sameB
  rw [Bool.eq_iff_iff, decide_eq_true_eq, decide_eq_true_eq]
  constructor
  · rintro ⟨h1, h2, h3, h4⟩; exact ⟨h1.symm, h2.symm, h3.symm, h4.symm⟩
  · rintro ⟨h1, h2, h3, h4⟩; exact ⟨h1.symm, h2.symm, h3.symm, h4.symm⟩
theorem same_self (s : ByteArray) (al sz : Int) (l : List Int) : sameB s s al al sz sz l l = true := decide_eq_true ⟨rfl, rfl, rfl, rfl⟩
theorem cells8 {w w' : World} {A B : Nat} {v0 v1 v2 v3 u0 u1 u2 u3 : Value} (k : Kept w w') (h : w.cell? ⟨A, 0, none⟩ = some v0 ∧ w.cell? ⟨A, 1, none⟩ = some v1 ∧ w.cell? ⟨A, 2, none⟩ = some v2 ∧ w.cell? ⟨A, 3, none⟩ = some v3 ∧ w.cell? ⟨B, 0, none⟩ = some u0 ∧ w.cell? ⟨B, 1, none⟩ = some u1 ∧ w.cell? ⟨B, 2, none⟩ = some u2 ∧ w.cell? ⟨B, 3, none⟩ = some u3) :
    w'.cell? ⟨A, 0, none⟩ = some v0 ∧ w'.cell? ⟨A, 1, none⟩ = some v1 ∧ w'.cell? ⟨A, 2, none⟩ = some v2 ∧ w'.cell? ⟨A, 3, none⟩ = some v3 ∧ w'.cell? ⟨B, 0, none⟩ = some u0 ∧ w'.cell? ⟨B, 1, none⟩ = some u1 ∧ w'.cell? ⟨B, 2, none⟩ = some u2 ∧ w'.cell? ⟨B, 3, none⟩ = some u3 :=
  ⟨k.cell h.1, k.cell h.2.1, k.cell h.2.2.1, k.cell h.2.2.2.1, k.cell h.2.2.2.2.1, k.cell h.2.2.2.2.2.1, k.cell h.2.2.2.2.2.2.1, k.cell h.2.2.2.2.2.2.2⟩
theorem takeW {P : Program} {ops : Array Oper} {Q : Exit → Act → World → Prop} {md : Region.Mode} {S : World → Prop} (i : Nat) {dst : Option Tmp} {op : Op} {ty : TypeId} {p : String} {af : Array Edge} {g : Option (Nat × Bool)} {v : Value} {fuel : Nat} {listed : Array Bool} {a : Act} {w : World} (hi : ops[i]? = some { dst := dst, op := op, type := ty, pos := p, after := af, guard := g })
    (hs : Region.noSelect ops = true) (hf : Region.free md ops listed i = true) (hr : (Region.ready md ops listed).contains i = true)
    (hQ : ∀ c a w, Q (.panic c) (a.put dst v) w → Q (.panic c) a w) (hy : YieldsIf P ops S { dst := dst, op := op, type := ty, pos := p, after := af, guard := g } v a) (hS : S w)
    (h : wpAnyH P md ops Q S fuel (listed.setIfInBounds i true) (a.put dst v) w) : wpAnyH P md ops Q S (fuel + 1) listed a w :=
  wpAnyH_take hi hs hf hr hQ hy hS h
theorem oneW {P : Program} {ops : Array Oper} {Q : Exit → Act → World → Prop} {md : Region.Mode} {S : World → Prop} (i : Nat) {dst : Option Tmp} {op : Op} {ty : TypeId} {p : String} {af : Array Edge} {g : Option (Nat × Bool)} {fuel : Nat} {listed : Array Bool} {a : Act} {w : World} (hi : ops[i]? = some { dst := dst, op := op, type := ty, pos := p, after := af, guard := g })
    (hr : Region.ready md ops listed = [i])
    (h : ∀ K' : Act → World → Prop, Shut (∀ a w, S w → (S w → wpAnyH P md ops Q S fuel (listed.setIfInBounds i true) a w) → K' a w) → if Region.wanted { dst := dst, op := op, type := ty, pos := p, after := af, guard := g } (yielded ops a.tmps) = true then Oper.wp P { dst := dst, op := op, type := ty, pos := p, after := af, guard := g } a w K' Q else K' (a.put dst undef) w) : wpAnyH P md ops Q S (fuel + 1) listed a w :=
  wpAnyH_ready hr (by simp) (AllReadyH.cons hi h AllReadyH.nil)

set_option maxRecDepth 20000 in
set_option maxHeartbeats 3200000 in
theorem twins_walk (s : ByteArray) (al : Int) (a : Option Addr) (n cap : Nat) (sz : Int) (l : List Int) (t : ByteArray) (al' : Int) (a' : Option Addr) (n' cap' : Nat) (sz' : Int) (l' : List Int) (v0 v1 v2 v3 v4 v5 v6 v7 v8 v9 : Int) (v : List Int) (u0 u1 u2 u3 u4 u5 u6 u7 u8 u9 : Int) (u : List Int) (w : World)
    (hl : l.length = n) (hl' : l'.length = n') (hb : Byt w a l) (hb' : Byt w a' l') (hnil : a = none → n = 0 ∧ cap = 0) (hr : ∀ x ∈ l, 0 ≤ x ∧ x < 256) (hr' : ∀ x ∈ l', 0 ≤ x ∧ x < 256) (hv : v = [v0, v1, v2, v3, v4, v5, v6, v7, v8, v9]) (hu : u = [u0, u1, u2, u3, u4, u5, u6, u7, u8, u9])
    (hvr : ∀ n ∈ [v0, v1, v2, v3, v4, v5, v6, v7, v8, v9], -9223372036854775808 ≤ n ∧ n ≤ 9223372036854775807) (hur : ∀ n ∈ [u0, u1, u2, u3, u4, u5, u6, u7, u8, u9], -9223372036854775808 ≤ n ∧ n ≤ 9223372036854775807) :
    Calls Try.prog 3 #[sectV s al a n cap sz, sectV t al' a' n' cap' sz', headW' v0 v1 v2 v3 v4 v5 v6 v7 v8 v9, headW' u0 u1 u2 u3 u4 u5 u6 u7 u8 u9] w fun e w' => e = .returned (.bool true) ∧ Kept w w' := by
  rw [← hv] at hvr
  rw [← hu] at hur
  have B1 := Box.new w s al (.slice a n cap) sz
  obtain ⟨wa, hwa⟩ : ∃ wa, w.alloc (.cells #[.string s, .int .i64 al, .slice a n cap, .int .i64 sz] 24) = wa := ⟨_, rfl⟩
  rw [hwa] at B1
  have B2 := Box.new wa t al' (.slice a' n' cap') sz'
  have kA : Kept w wa := by rw [← hwa]; exact Kept.alloc _ _
  have sA : wa.heap.size = w.heap.size + 1 := by rw [← hwa]; simp
  obtain ⟨wb, hwb⟩ : ∃ wb, wa.alloc (.cells #[.string t, .int .i64 al', .slice a' n' cap', .int .i64 sz'] 24) = wb := ⟨_, rfl⟩
  rw [hwb] at B2
  have kB : Kept wa wb := by rw [← hwb]; exact Kept.alloc _ _
  have sB : wb.heap.size = w.heap.size + 2 := by rw [← hwb]; simp [sA]
  have H1 := HBx.new wb v0 v1 v2 v3 v4 v5 v6 v7 v8 v9
  obtain ⟨wc, hwc⟩ : ∃ wc, wb.alloc (headO v0 v1 v2 v3 v4 v5 v6 v7 v8 v9) = wc := ⟨_, rfl⟩
  rw [hwc] at H1
  have kC : Kept wb wc := by rw [← hwc]; exact Kept.alloc _ _
  have sC : wc.heap.size = w.heap.size + 3 := by rw [← hwc]; simp [sB]
  have H2 := HBx.new wc u0 u1 u2 u3 u4 u5 u6 u7 u8 u9
  obtain ⟨wd, hwd⟩ : ∃ wd, wc.alloc (headO u0 u1 u2 u3 u4 u5 u6 u7 u8 u9) = wd := ⟨_, rfl⟩
  rw [hwd] at H2
  have kD : Kept wc wd := by rw [← hwd]; exact Kept.alloc _ _
  rw [sA] at B2
  rw [sB] at H1
  rw [sC] at H2
  replace B1 := ((B1.kept kB).kept kC).kept kD
  replace B2 := (B2.kept kC).kept kD
  replace H1 := H1.kept kD
  have W0 : Kept w wd := ((kA.trans kB).trans kC).trans kD
  have hA := alive_walk wd
  go_enter Try.func3, Try.ntmps3
  go_upto_region 2 with (go_at_call 4; refine hA.mono ?_; rintro e w1 ⟨rfl, k1⟩)
  have W1 := W0.trans k1
  replace B1 := B1.kept k1
  replace B2 := B2.kept k1
  replace H1 := H1.kept k1
  replace H2 := H2.kept k1
  clear hA hwa hwb hwc hwd sA sB sC kA kB kC kD W0 k1
  have B1q := B1
  have B2q := B2
  obtain ⟨c0, c1, c2, c3, _, _, _, _⟩ := B1q
  obtain ⟨d0, d1, d2, d3, _, _, _, _⟩ := B2q
  by_cases h0 : 10000 < n
  · have e0 : decide ((10000 : Int) < (n : Int)) = true := decide_eq_true (by omega)
    go_wp2
    go_ret
    exact ⟨rfl, W1⟩
  have e0 : decide ((10000 : Int) < (n : Int)) = false := decide_eq_false (by omega)
  by_cases h1 : 10000 < n'
  · have e1 : decide ((10000 : Int) < (n' : Int)) = true := decide_eq_true (by omega)
    go_wp2
    go_ret
    exact ⟨rfl, W1⟩
  have e1 : decide ((10000 : Int) < (n' : Int)) = false := decide_eq_false (by omega)
  by_cases h2 : 1000 < s.size
  · have e2 : decide ((1000 : Int) < (s.size : Int)) = true := decide_eq_true (by omega)
    go_wp2
    go_ret
    exact ⟨rfl, W1⟩
  have e2 : decide ((1000 : Int) < (s.size : Int)) = false := decide_eq_false (by omega)
  by_cases h3 : 1000 < t.size
  · have e3 : decide ((1000 : Int) < (t.size : Int)) = true := decide_eq_true (by omega)
    go_wp2
    go_ret
    exact ⟨rfl, W1⟩
  have e3 : decide ((1000 : Int) < (t.size : Int)) = false := decide_eq_false (by omega)
  have hn : n ≤ 10000 := by omega
  clear h0 h1 h2 h3
  go_upto_region 4 with fail
  have S1 := str_len (cap := cap) hl (hb.kept W1)
  have S2 := str_len (cap := cap') hl' (hb'.kept W1)
  have hq := str_beq hr hr'
  obtain ⟨xs, hxs⟩ : ∃ x, strOfNums l = x := ⟨_, rfl⟩
  obtain ⟨ys, hys⟩ : ∃ y, strOfNums l' = y := ⟨_, rfl⟩
  rw [hxs] at S1 hq
  rw [hys] at S2 hq
  clear hxs hys
  obtain ⟨P, hP⟩ : ∃ P, sameB s t al al' sz sz' l l' = P := ⟨_, rfl⟩
  have HP : Hid (sameB s t al al' sz sz' l l' = P) := hP
  clear hP
  go_cut [10] (fun v wx => v = .bool P ∧ wx = w1)
  case first =>
    clear H1 H2 hnil hb hb' hl hl' hr hr' hvr hur hv hu
    by_cases h1 : s = t
    · have q1 : (s.toList == t.toList) = true := beq_true h1
      by_cases h2 : al = al'
      · have qa : (al == al') = true := by rw [beq_iff_eq]; exact h2
        by_cases h3 : sz = sz'
        · have qs : (sz == sz') = true := by rw [beq_iff_eq]; exact h3
          by_cases h4 : l = l'
          · have HS : Hid (P = true) := by unfold Hid; rw [← HP.out]; exact decide_eq_true ⟨h1, h2, h3, h4⟩
            rw [decide_eq_true h4] at hq
            clear h1 h2 h3 h4
            go_wp2
            go_meet
            exact ⟨by rw [HS.out], rfl⟩
          · have HS : Hid (P = false) := by unfold Hid; rw [← HP.out]; exact decide_eq_false (fun h => h4 h.2.2.2)
            rw [decide_eq_false h4] at hq
            clear h1 h2 h3 h4
            go_wp2
            go_meet
            exact ⟨by rw [HS.out], rfl⟩
        · have qs : (sz == sz') = false := by rw [beq_eq_false_iff_ne]; exact h3
          have HS : Hid (P = false) := by unfold Hid; rw [← HP.out]; exact decide_eq_false (fun h => h3 h.2.2.1)
          clear h1 h2 h3
          go_wp2
          go_meet
          exact ⟨by rw [HS.out], rfl⟩
      · have qa : (al == al') = false := by rw [beq_eq_false_iff_ne]; exact h2
        have HS : Hid (P = false) := by unfold Hid; rw [← HP.out]; exact decide_eq_false (fun h => h2 h.2.1)
        clear h1 h2
        go_wp2
        go_meet
        exact ⟨by rw [HS.out], rfl⟩
    · have q1 : (s.toList == t.toList) = false := beq_false h1
      have HS : Hid (P = false) := by unfold Hid; rw [← HP.out]; exact decide_eq_false (fun h => h1 h.1)
      clear h1
      go_wp2
      go_meet
      exact ⟨by rw [HS.out], rfl⟩
  case rest =>
    obtain ⟨rfl, hw⟩ := hcut
    have hw' := hw.symm
    subst hw'
    clear hw S1 S2 hq
    have hT := fun w' (k : Kept w w') => twin_walk s al a n cap sz l w' hl (by omega) (hb.kept k) hnil
    have hS1 := fun w' A C (hb2 : Byt w' A l) (k : Kept w w') => same_walk s s al al sz sz A a n C n cap l l w' hl hl hb2 (hb.kept k) hr hr
    have hS2 := fun w' (k : Kept w w') => same_walk s t al al' sz sz' a a' n cap n' cap' l l' w' hl hl' (hb.kept k) (hb'.kept k) hr hr'
    have hS3 := fun w' (k : Kept w w') => same_walk t s al' al sz' sz a' a n' cap' n cap l' l w' hl' hl (hb'.kept k) (hb.kept k) hr' hr
    rw [same_self] at hS1
    rw [sameB_symm, HP.out] at hS3
    rw [HP.out] at hS2
    have hS0 : w1.cell? ⟨w.heap.size, 0, none⟩ = some (.string s) ∧ w1.cell? ⟨w.heap.size, 1, none⟩ = some (.int .i64 al) ∧ w1.cell? ⟨w.heap.size, 2, none⟩ = some (.slice a n cap) ∧ w1.cell? ⟨w.heap.size, 3, none⟩ = some (.int .i64 sz) ∧ w1.cell? ⟨w.heap.size + 1, 0, none⟩ = some (.string t) ∧ w1.cell? ⟨w.heap.size + 1, 1, none⟩ = some (.int .i64 al') ∧ w1.cell? ⟨w.heap.size + 1, 2, none⟩ = some (.slice a' n' cap') ∧ w1.cell? ⟨w.heap.size + 1, 3, none⟩ = some (.int .i64 sz') := ⟨c0, c1, c2, c3, d0, d1, d2, d3⟩
    have qP : (P != P) = false := by simp
    clear HP hb hb' hr hr' hnil B1 B2 c0 c1 c2 c3 d0 d1 d2 d3
    go_upto_region 5 with fail
    go_cut [85] (fun v wx => v = .bool false ∧ Kept w1 wx)
    case first =>
      clear H1 H2 hvr hur hv hu
      refine wp_region_noPanic ?_
      refine wp_region_held_drew (S := fun w' => w'.cell? ⟨w.heap.size, 0, none⟩ = some (.string s) ∧ w'.cell? ⟨w.heap.size, 1, none⟩ = some (.int .i64 al) ∧ w'.cell? ⟨w.heap.size, 2, none⟩ = some (.slice a n cap) ∧ w'.cell? ⟨w.heap.size, 3, none⟩ = some (.int .i64 sz) ∧ w'.cell? ⟨w.heap.size + 1, 0, none⟩ = some (.string t) ∧ w'.cell? ⟨w.heap.size + 1, 1, none⟩ = some (.int .i64 al') ∧ w'.cell? ⟨w.heap.size + 1, 2, none⟩ = some (.slice a' n' cap') ∧ w'.cell? ⟨w.heap.size + 1, 3, none⟩ = some (.int .i64 sz')) (by kernel_rfl) (cells8 (kept_drew _) hS0) (fun hHeld => ?_)
      refine takeW 0 (v := ?_) rfl (by kernel_rfl) (by kernel_rfl) (by kernel_rfl) (fun _ _ _ h => h) (Or.inl ⟨by rfl, ?_⟩) hHeld ?_
      rotate_left
      · (intro w hSw; (try dsimp only at hSw); go_simp; with_reducible rfl)
      try simp only [Act.put, List.setIfInBounds_toArray, List.set_cons_zero, List.set_cons_succ]
      refine takeW 2 (v := ?_) rfl (by kernel_rfl) (by kernel_rfl) (by kernel_rfl) (fun _ _ _ h => h) (Or.inl ⟨by rfl, ?_⟩) hHeld ?_
      rotate_left
      · (intro w hSw; (try dsimp only at hSw); go_simp; with_reducible rfl)
      try simp only [Act.put, List.setIfInBounds_toArray, List.set_cons_zero, List.set_cons_succ]
      have K1 := W1.trans (kept_drew w1)
      refine oneW 1 rfl (by kernel_rfl) (fun K hK => ?_)
      go_simp
      refine (hT _ K1).mono ?_
      rintro e w2 ⟨x2, rfl, O2, k2⟩; obtain ⟨A2, C2, rfl, _, b2, _⟩ := O2.let hl
      go_wp2_with fail
      refine hK.out _ _ (cells8 k2 hHeld) (fun hHeld2 => ?_)
      clear hK K hHeld
      have hHeld := hHeld2
      clear hHeld2
      try simp only [Act.put, List.setIfInBounds_toArray, List.set_cons_zero, List.set_cons_succ]
      have K2 := K1.trans k2
      refine oneW 3 rfl (by kernel_rfl) (fun K hK => ?_)
      go_simp
      refine (hS1 _ A2 C2 b2 K2).mono ?_
      rintro e w3 ⟨rfl, k3⟩
      go_wp2_with fail
      refine hK.out _ _ (cells8 k3 hHeld) (fun hHeld2 => ?_)
      clear hK K hHeld
      have hHeld := hHeld2
      clear hHeld2
      try simp only [Act.put, List.setIfInBounds_toArray, List.set_cons_zero, List.set_cons_succ]
      have K3 := K2.trans k3
      refine takeW 4 (v := ?_) rfl (by kernel_rfl) (by kernel_rfl) (by kernel_rfl) (fun _ _ _ h => h) (Or.inl ⟨by rfl, ?_⟩) hHeld ?_
      rotate_left
      · (intro w hSw; (try dsimp only at hSw); go_simp; with_reducible rfl)
      try simp only [Act.put, List.setIfInBounds_toArray, List.set_cons_zero, List.set_cons_succ]
      refine takeW 5 (v := ?_) rfl (by kernel_rfl) (by kernel_rfl) (by kernel_rfl) (fun _ _ _ h => h) (Or.inl ⟨by rfl, ?_⟩) hHeld ?_
      rotate_left
      · (intro w hSw; (try dsimp only at hSw); go_simp; with_reducible rfl)
      try simp only [Act.put, List.setIfInBounds_toArray, List.set_cons_zero, List.set_cons_succ]
      refine takeW 6 (v := ?_) rfl (by kernel_rfl) (by kernel_rfl) (by kernel_rfl) (fun _ _ _ h => h) (Or.inl ⟨by rfl, ?_⟩) hHeld ?_
      rotate_left
      · (intro w hSw; (try dsimp only at hSw); go_simp; with_reducible rfl)
      try simp only [Act.put, List.setIfInBounds_toArray, List.set_cons_zero, List.set_cons_succ]
      refine takeW 7 (v := ?_) rfl (by kernel_rfl) (by kernel_rfl) (by kernel_rfl) (fun _ _ _ h => h) (Or.inl ⟨by rfl, ?_⟩) hHeld ?_
      rotate_left
      · (intro w hSw; (try dsimp only at hSw); go_simp; with_reducible rfl)
      try simp only [Act.put, List.setIfInBounds_toArray, List.set_cons_zero, List.set_cons_succ]
      refine takeW 9 (v := ?_) rfl (by kernel_rfl) (by kernel_rfl) (by kernel_rfl) (fun _ _ _ h => h) (Or.inl ⟨by rfl, ?_⟩) hHeld ?_
      rotate_left
      · (intro w hSw; (try dsimp only at hSw); go_simp; with_reducible rfl)
      try simp only [Act.put, List.setIfInBounds_toArray, List.set_cons_zero, List.set_cons_succ]
      refine oneW 8 rfl (by kernel_rfl) (fun K hK => ?_)
      go_simp
      refine (hS2 _ K3).mono ?_
      rintro e w4 ⟨rfl, k4⟩
      go_wp2_with fail
      refine hK.out _ _ (cells8 k4 hHeld) (fun hHeld2 => ?_)
      clear hK K hHeld
      have hHeld := hHeld2
      clear hHeld2
      try simp only [Act.put, List.setIfInBounds_toArray, List.set_cons_zero, List.set_cons_succ]
      have K4 := K3.trans k4
      refine takeW 10 (v := ?_) rfl (by kernel_rfl) (by kernel_rfl) (by kernel_rfl) (fun _ _ _ h => h) (Or.inl ⟨by rfl, ?_⟩) hHeld ?_
      rotate_left
      · (intro w hSw; (try dsimp only at hSw); go_simp; with_reducible rfl)
      try simp only [Act.put, List.setIfInBounds_toArray, List.set_cons_zero, List.set_cons_succ]
      refine takeW 11 (v := ?_) rfl (by kernel_rfl) (by kernel_rfl) (by kernel_rfl) (fun _ _ _ h => h) (Or.inl ⟨by rfl, ?_⟩) hHeld ?_
      rotate_left
      · (intro w hSw; (try dsimp only at hSw); go_simp; with_reducible rfl)
      try simp only [Act.put, List.setIfInBounds_toArray, List.set_cons_zero, List.set_cons_succ]
      refine takeW 12 (v := ?_) rfl (by kernel_rfl) (by kernel_rfl) (by kernel_rfl) (fun _ _ _ h => h) (Or.inl ⟨by rfl, ?_⟩) hHeld ?_
      rotate_left
      · (intro w hSw; (try dsimp only at hSw); go_simp; with_reducible rfl)
      try simp only [Act.put, List.setIfInBounds_toArray, List.set_cons_zero, List.set_cons_succ]
      refine takeW 13 (v := ?_) rfl (by kernel_rfl) (by kernel_rfl) (by kernel_rfl) (fun _ _ _ h => h) (Or.inl ⟨by rfl, ?_⟩) hHeld ?_
      rotate_left
      · (intro w hSw; (try dsimp only at hSw); go_simp; with_reducible rfl)
      try simp only [Act.put, List.setIfInBounds_toArray, List.set_cons_zero, List.set_cons_succ]
      refine takeW 14 (v := ?_) rfl (by kernel_rfl) (by kernel_rfl) (by kernel_rfl) (fun _ _ _ h => h) (Or.inl ⟨by rfl, ?_⟩) hHeld ?_
      rotate_left
      · (intro w hSw; (try dsimp only at hSw); go_simp; with_reducible rfl)
      try simp only [Act.put, List.setIfInBounds_toArray, List.set_cons_zero, List.set_cons_succ]
      refine takeW 16 (v := ?_) rfl (by kernel_rfl) (by kernel_rfl) (by kernel_rfl) (fun _ _ _ h => h) (Or.inl ⟨by rfl, ?_⟩) hHeld ?_
      rotate_left
      · (intro w hSw; (try dsimp only at hSw); go_simp; with_reducible rfl)
      try simp only [Act.put, List.setIfInBounds_toArray, List.set_cons_zero, List.set_cons_succ]
      refine oneW 15 rfl (by kernel_rfl) (fun K hK => ?_)
      go_simp
      refine (hS3 _ K4).mono ?_
      rintro e w5 ⟨rfl, k5⟩
      go_wp2_with fail
      refine hK.out _ _ (cells8 k5 hHeld) (fun hHeld2 => ?_)
      clear hK K hHeld
      have hHeld := hHeld2
      clear hHeld2
      try simp only [Act.put, List.setIfInBounds_toArray, List.set_cons_zero, List.set_cons_succ]
      refine takeW 17 (v := ?_) rfl (by kernel_rfl) (by kernel_rfl) (by kernel_rfl) (fun _ _ _ h => h) (Or.inl ⟨by rfl, ?_⟩) hHeld ?_
      rotate_left
      · (intro w hSw; (try dsimp only at hSw); go_simp; with_reducible rfl)
      try simp only [Act.put, List.setIfInBounds_toArray, List.set_cons_zero, List.set_cons_succ]
      refine takeW 18 (v := ?_) rfl (by kernel_rfl) (by kernel_rfl) (by kernel_rfl) (fun _ _ _ h => h) (Or.inl ⟨by rfl, ?_⟩) hHeld ?_
      rotate_left
      · (intro w hSw; (try dsimp only at hSw); go_simp; with_reducible rfl)
      try simp only [Act.put, List.setIfInBounds_toArray, List.set_cons_zero, List.set_cons_succ]
      refine wpAnyH_done (by kernel_rfl) ?_ _
      refine NoPanic.normal ?_
      have KK : Kept w1 w5 := ((((kept_drew w1).trans k2).trans k3).trans k4).trans k5
      go_wp2_with fail
      go_meet
      exact ⟨rfl, KK⟩
    case rest =>
      obtain ⟨rfl, kx⟩ := hcut
      have W2 := W1.trans kx
      replace H1 := H1.kept kx
      replace H2 := H2.kept kx
      clear hT hS1 hS2 hS3 hS0 qP kx
      have c0 := (H1 0 (by decide)).1
      have c1 := (H1 1 (by decide)).1
      have c2 := (H1 2 (by decide)).1
      have c3 := (H1 3 (by decide)).1
      have c4 := (H1 4 (by decide)).1
      have c5 := (H1 5 (by decide)).1
      have c6 := (H1 6 (by decide)).1
      have c7 := (H1 7 (by decide)).1
      have c8 := (H1 8 (by decide)).1
      have c9 := (H1 9 (by decide)).1
      have d0 := (H2 0 (by decide)).1
      have d1 := (H2 1 (by decide)).1
      have d2 := (H2 2 (by decide)).1
      have d3 := (H2 3 (by decide)).1
      have d4 := (H2 4 (by decide)).1
      have d5 := (H2 5 (by decide)).1
      have d6 := (H2 6 (by decide)).1
      have d7 := (H2 7 (by decide)).1
      have d8 := (H2 8 (by decide)).1
      have d9 := (H2 9 (by decide)).1
      simp only [List.getD_cons_zero, List.getD_cons_succ] at c0 c1 c2 c3 c4 c5 c6 c7 c8 c9 d0 d1 d2 d3 d4 d5 d6 d7 d8 d9
      have hG := fun w => write_walk v0 v1 v2 v3 v4 v5 v6 v7 v8 v9 v w hv hvr
      have hH := fun w => write_walk u0 u1 u2 u3 u4 u5 u6 u7 u8 u9 u w hu hur
      obtain ⟨Eg, hEg⟩ : ∃ E, wrE v = E := ⟨_, rfl⟩
      obtain ⟨Lg, hLg⟩ : ∃ L, wrL v = L := ⟨_, rfl⟩
      obtain ⟨Eh, hEh⟩ : ∃ E, wrE u = E := ⟨_, rfl⟩
      obtain ⟨Lh, hLh⟩ : ∃ L, wrL u = L := ⟨_, rfl⟩
      rw [hEg, hLg] at hG
      rw [hEh, hLh] at hH
      have HG : Hid (wrE v = Eg ∧ wrL v = Lg ∧ v = [v0, v1, v2, v3, v4, v5, v6, v7, v8, v9]) := ⟨hEg, hLg, hv⟩
      have HH : Hid (wrE u = Eh ∧ wrL u = Lh ∧ u = [u0, u1, u2, u3, u4, u5, u6, u7, u8, u9]) := ⟨hEh, hLh, hu⟩
      clear hEg hLg hEh hLh hv hu
      go_upto_region 8 with (go_at_call 7; refine (hG _).mono ?_; rintro e w6 ⟨x6, rfl, O6, k6⟩)
      replace d0 : w6.cell? ⟨w.heap.size + 3, 0, none⟩ = some (.int .i64 u0) := Kept.cell k6 d0
      replace d1 : w6.cell? ⟨w.heap.size + 3, 1, none⟩ = some (.int .i64 u1) := Kept.cell k6 d1
      replace d2 : w6.cell? ⟨w.heap.size + 3, 2, none⟩ = some (.int .i64 u2) := Kept.cell k6 d2
      replace d3 : w6.cell? ⟨w.heap.size + 3, 3, none⟩ = some (.int .i64 u3) := Kept.cell k6 d3
      replace d4 : w6.cell? ⟨w.heap.size + 3, 4, none⟩ = some (.int .i64 u4) := Kept.cell k6 d4
      replace d5 : w6.cell? ⟨w.heap.size + 3, 5, none⟩ = some (.int .i64 u5) := Kept.cell k6 d5
      replace d6 : w6.cell? ⟨w.heap.size + 3, 6, none⟩ = some (.int .i64 u6) := Kept.cell k6 d6
      replace d7 : w6.cell? ⟨w.heap.size + 3, 7, none⟩ = some (.int .i64 u7) := Kept.cell k6 d7
      replace d8 : w6.cell? ⟨w.heap.size + 3, 8, none⟩ = some (.int .i64 u8) := Kept.cell k6 d8
      replace d9 : w6.cell? ⟨w.heap.size + 3, 9, none⟩ = some (.int .i64 u9) := Kept.cell k6 d9
      clear hG
      go_upto_region 9 with (go_at_call 7; refine (hH _).mono ?_; rintro e w7 ⟨x7, rfl, O7, k7⟩)
      have K7 := k6.trans k7
      have W7 := W2.trans K7
      replace O6 := own_keep O6 k7
      obtain ⟨ng, hng⟩ : ∃ n, Lg.length = n := ⟨_, rfl⟩
      obtain ⟨nh, hnh⟩ : ∃ n, Lh.length = n := ⟨_, rfl⟩
      obtain ⟨A6, C6, rfl, _, b6, _⟩ := O6.let hng
      obtain ⟨A7, C7, rfl, _, b7, _⟩ := O7.let hnh
      clear hH O6 O7
      cases hbg : headB v with
      | false =>
        obtain rfl : Eg = 2 := by rw [← HG.out.1]; exact (wr_no hbg).1
        obtain rfl : ng = 0 := by rw [← hng, ← HG.out.2.1, (wr_no hbg).2]; rfl
        clear hbg b6 b7 hng hnh
        go_wp2
        go_ret
        exact ⟨rfl, W7⟩
      | true =>
        obtain rfl : Eg = 0 := by rw [← HG.out.1]; exact (wr_yes hbg).1
        cases hbh : headB u with
        | false =>
          obtain rfl : Eh = 2 := by rw [← HH.out.1]; exact (wr_no hbh).1
          clear hbg hbh b6 b7 hng hnh
          go_wp2
          go_ret
          exact ⟨rfl, W7⟩
        | true =>
          obtain rfl : Eh = 0 := by rw [← HH.out.1]; exact (wr_yes hbh).1
          have hLg : Lg = headL v := by rw [← HG.out.2.1]; exact (wr_yes hbg).2
          have hLh : Lh = headL u := by rw [← HH.out.2.1]; exact (wr_yes hbh).2
          obtain rfl : ng = 64 := by rw [← hng, hLg]; exact headL_length (by rw [HG.out.2.2]; rfl)
          obtain rfl : nh = 64 := by rw [← hnh, hLh]; exact headL_length (by rw [HH.out.2.2]; rfl)
          have hsb : ((strOfNums Lg).toList == (strOfNums Lh).toList) = decide (v = u) := by
            rw [str_beq (by rw [hLg]; exact putAll_range _) (by rw [hLh]; exact putAll_range _), Bool.eq_iff_iff, decide_eq_true_eq, decide_eq_true_eq, hLg, hLh]
            constructor
            · exact head_inj hbg hbh (fun n hn => (hvr n hn).2) (fun n hn => (hur n hn).2)
            · intro e; rw [e]
          have S6 : ∀ q, (convert 22 9 (.slice A6 64 C6)).run Try.prog (w7.drewN q) = .ok (.string (strOfNums Lg)) (w7.drewN q) := fun q => str_len hng (b6.drewN q)
          have S7 : ∀ q, (convert 22 9 (.slice A7 64 C7)).run Try.prog (w7.drewN q) = .ok (.string (strOfNums Lh)) (w7.drewN q) := fun q => str_len hnh (b7.drewN q)
          obtain ⟨xg, hxg⟩ : ∃ x, strOfNums Lg = x := ⟨_, rfl⟩
          obtain ⟨xh, hxh⟩ : ∃ x, strOfNums Lh = x := ⟨_, rfl⟩
          rw [hxg] at S6 hsb
          rw [hxh] at S7 hsb
          rw [HG.out.2.2, HH.out.2.2] at hsb
          replace c0 : w7.cell? ⟨w.heap.size + 2, 0, none⟩ = some (.int .i64 v0) := Kept.cell K7 c0
          replace c1 : w7.cell? ⟨w.heap.size + 2, 1, none⟩ = some (.int .i64 v1) := Kept.cell K7 c1
          replace c2 : w7.cell? ⟨w.heap.size + 2, 2, none⟩ = some (.int .i64 v2) := Kept.cell K7 c2
          replace c3 : w7.cell? ⟨w.heap.size + 2, 3, none⟩ = some (.int .i64 v3) := Kept.cell K7 c3
          replace c4 : w7.cell? ⟨w.heap.size + 2, 4, none⟩ = some (.int .i64 v4) := Kept.cell K7 c4
          replace c5 : w7.cell? ⟨w.heap.size + 2, 5, none⟩ = some (.int .i64 v5) := Kept.cell K7 c5
          replace c6 : w7.cell? ⟨w.heap.size + 2, 6, none⟩ = some (.int .i64 v6) := Kept.cell K7 c6
          replace c7 : w7.cell? ⟨w.heap.size + 2, 7, none⟩ = some (.int .i64 v7) := Kept.cell K7 c7
          replace c8 : w7.cell? ⟨w.heap.size + 2, 8, none⟩ = some (.int .i64 v8) := Kept.cell K7 c8
          replace c9 : w7.cell? ⟨w.heap.size + 2, 9, none⟩ = some (.int .i64 v9) := Kept.cell K7 c9
          replace d0 : w7.cell? ⟨w.heap.size + 3, 0, none⟩ = some (.int .i64 u0) := Kept.cell k7 d0
          replace d1 : w7.cell? ⟨w.heap.size + 3, 1, none⟩ = some (.int .i64 u1) := Kept.cell k7 d1
          replace d2 : w7.cell? ⟨w.heap.size + 3, 2, none⟩ = some (.int .i64 u2) := Kept.cell k7 d2
          replace d3 : w7.cell? ⟨w.heap.size + 3, 3, none⟩ = some (.int .i64 u3) := Kept.cell k7 d3
          replace d4 : w7.cell? ⟨w.heap.size + 3, 4, none⟩ = some (.int .i64 u4) := Kept.cell k7 d4
          replace d5 : w7.cell? ⟨w.heap.size + 3, 5, none⟩ = some (.int .i64 u5) := Kept.cell k7 d5
          replace d6 : w7.cell? ⟨w.heap.size + 3, 6, none⟩ = some (.int .i64 u6) := Kept.cell k7 d6
          replace d7 : w7.cell? ⟨w.heap.size + 3, 7, none⟩ = some (.int .i64 u7) := Kept.cell k7 d7
          replace d8 : w7.cell? ⟨w.heap.size + 3, 8, none⟩ = some (.int .i64 u8) := Kept.cell k7 d8
          replace d9 : w7.cell? ⟨w.heap.size + 3, 9, none⟩ = some (.int .i64 u9) := Kept.cell k7 d9
          clear hxg hxh hLg hLh hng hnh hbg hbh HG HH b6 b7 hvr hur H1 H2 W1 W2 k6 k7 K7
          go_upto_region 11 with fail
          by_cases j0 : v0 = u0
          case neg =>
            have e : (v0 == u0) = false := by rw [beq_eq_false_iff_ne]; exact j0
            rw [decide_eq_false (by simp; omega)] at hsb
            clear j0
            go_big_quiet (fail)
            go_wp2
            go_ret
            exact ⟨rfl, below_drewN W7 _⟩
          subst j0
          by_cases j1 : v1 = u1
          case neg =>
            have e : (v1 == u1) = false := by rw [beq_eq_false_iff_ne]; exact j1
            rw [decide_eq_false (by simp; omega)] at hsb
            clear j1
            go_big_quiet (fail)
            go_wp2
            go_ret
            exact ⟨rfl, below_drewN W7 _⟩
          subst j1
          by_cases j2 : v2 = u2
          case neg =>
            have e : (v2 == u2) = false := by rw [beq_eq_false_iff_ne]; exact j2
            rw [decide_eq_false (by simp; omega)] at hsb
            clear j2
            go_big_quiet (fail)
            go_wp2
            go_ret
            exact ⟨rfl, below_drewN W7 _⟩
          subst j2
          by_cases j3 : v3 = u3
          case neg =>
            have e : (v3 == u3) = false := by rw [beq_eq_false_iff_ne]; exact j3
            rw [decide_eq_false (by simp; omega)] at hsb
            clear j3
            go_big_quiet (fail)
            go_wp2
            go_ret
            exact ⟨rfl, below_drewN W7 _⟩
          subst j3
          by_cases j4 : v4 = u4
          case neg =>
            have e : (v4 == u4) = false := by rw [beq_eq_false_iff_ne]; exact j4
            rw [decide_eq_false (by simp; omega)] at hsb
            clear j4
            go_big_quiet (fail)
            go_wp2
            go_ret
            exact ⟨rfl, below_drewN W7 _⟩
          subst j4
          by_cases j5 : v5 = u5
          case neg =>
            have e : (v5 == u5) = false := by rw [beq_eq_false_iff_ne]; exact j5
            rw [decide_eq_false (by simp; omega)] at hsb
            clear j5
            go_big_quiet (fail)
            go_wp2
            go_ret
            exact ⟨rfl, below_drewN W7 _⟩
          subst j5
          by_cases j6 : v6 = u6
          case neg =>
            have e : (v6 == u6) = false := by rw [beq_eq_false_iff_ne]; exact j6
            rw [decide_eq_false (by simp; omega)] at hsb
            clear j6
            go_big_quiet (fail)
            go_wp2
            go_ret
            exact ⟨rfl, below_drewN W7 _⟩
          subst j6
          by_cases j7 : v7 = u7
          case neg =>
            have e : (v7 == u7) = false := by rw [beq_eq_false_iff_ne]; exact j7
            rw [decide_eq_false (by simp; omega)] at hsb
            clear j7
            go_big_quiet (fail)
            go_wp2
            go_ret
            exact ⟨rfl, below_drewN W7 _⟩
          subst j7
          by_cases j8 : v8 = u8
          case neg =>
            have e : (v8 == u8) = false := by rw [beq_eq_false_iff_ne]; exact j8
            rw [decide_eq_false (by simp; omega)] at hsb
            clear j8
            go_big_quiet (fail)
            go_wp2
            go_ret
            exact ⟨rfl, below_drewN W7 _⟩
          subst j8
          by_cases j9 : v9 = u9
          case neg =>
            have e : (v9 == u9) = false := by rw [beq_eq_false_iff_ne]; exact j9
            rw [decide_eq_false (by simp; omega)] at hsb
            clear j9
            go_big_quiet (fail)
            go_wp2
            go_ret
            exact ⟨rfl, below_drewN W7 _⟩
          subst j9
          rw [decide_eq_true rfl] at hsb
          go_big_quiet (fail)
          go_wp2
          go_ret
          exact ⟨rfl, below_drewN W7 _⟩
end Go.Proofs.Ytdjokhokiklamab
