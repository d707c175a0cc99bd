/- What the document's own Read gives. -/
import Derived.Test.YteehekoajemciaaDoorDb
import Derived.Test.YteehekoajemciaaDoorGe
import Derived.Deep.RegionHeld3
import Derived.Deep.RegionWith
import Derived.Deep.DeepCutAuto
import Derived.Deep.CutBlock
namespace Go.Proofs.YteehekoajemciaaDoor
open Go.RowKit

theorem num_at (b off cap : Nat) (l : List Int) (lo s : Nat) (n : Int) (w : World) (hl : l.length = 24) (hr : ∀ x ∈ l, 0 ≤ x ∧ x < 256) (hc : ∀ i, i < l.length → w.cell? ⟨b, off + i, none⟩ = some (.int .u8 (l.getD i 0))) (hs : s ≤ 8) (ho : lo + s ≤ 24) (hn : sOf (nuN ((l.drop lo).take s)) = n) :
    Calls Tryd.prog 27 #[.slice (some ⟨b, off + lo, none⟩) s cap] w fun e w' => e = .returned (.int .i64 n) ∧ w' = w := by
  have hlen : ((l.drop lo).take s).length = s := by rw [List.length_take, List.length_drop]; omega
  have := number_walk b (off + lo) cap ((l.drop lo).take s) w (fun x hx => hr x (List.mem_of_mem_drop (List.mem_of_mem_take hx))) (by omega) (by rw [hlen]; exact Byt.part hc (by omega))
  rwa [hlen, hn] at this
theorem one_at (l : List Int) (k : Nat) (hk : k < l.length) (hr : ∀ x ∈ l, 0 ≤ x ∧ x < 256) : sOf (nuN ((l.drop k).take 1)) = l.getD k 0 := by
  have e : (l.drop k).take 1 = [l.getD k 0] := by
    rw [List.drop_eq_getElem_cons hk, List.take_succ_cons, List.take_zero, List.getD, List.getElem?_eq_getElem hk]
    rfl
  have hx := hr (l.getD k 0) (by rw [List.getD, List.getElem?_eq_getElem hk]; exact List.getElem_mem hk)
  rw [e]
  have h2 : nuN [l.getD k 0] = (l.getD k 0).toNat := by
    unfold nuN leN
    simp [leN]
  rw [h2, sOf_small _ (by omega)]
  omega

theorem takeW {P : Program} {ops : Array Oper} {Q : Exit → Act → World → Prop} {md : Region.Mode} {S : World → Prop} (i : Nat) {dst : Option Tmp} {op : Op} {ty : TypeId} {p : String} {af : Array Edge} {g : Option (Nat × Bool)} {v : Value} {fuel : Nat} {listed : Array Bool} {a : Act} {w : World} (hi : ops[i]? = some { dst := dst, op := op, type := ty, pos := p, after := af, guard := g })
    (hs : Region.noSelect ops = true) (hf : Region.free md ops listed i = true) (hr : (Region.ready md ops listed).contains i = true)
    (hQ : ∀ c a w, Q (.panic c) (a.put dst v) w → Q (.panic c) a w) (hy : YieldsIf P ops S { dst := dst, op := op, type := ty, pos := p, after := af, guard := g } v a) (hS : S w)
    (h : wpAnyH P md ops Q S fuel (listed.setIfInBounds i true) (a.put dst v) w) : wpAnyH P md ops Q S (fuel + 1) listed a w :=
  wpAnyH_take hi hs hf hr hQ hy hS h
theorem oneW {P : Program} {ops : Array Oper} {Q : Exit → Act → World → Prop} {md : Region.Mode} {S : World → Prop} (i : Nat) {dst : Option Tmp} {op : Op} {ty : TypeId} {p : String} {af : Array Edge} {g : Option (Nat × Bool)} {fuel : Nat} {listed : Array Bool} {a : Act} {w : World} (hi : ops[i]? = some { dst := dst, op := op, type := ty, pos := p, after := af, guard := g })
    (hr : Region.ready md ops listed = [i])
    (h : ∀ K' : Act → World → Prop, Shut (∀ a w, S w → (S w → wpAnyH P md ops Q S fuel (listed.setIfInBounds i true) a w) → K' a w) → if Region.wanted { dst := dst, op := op, type := ty, pos := p, after := af, guard := g } (yielded ops a.tmps) = true then Oper.wp P { dst := dst, op := op, type := ty, pos := p, after := af, guard := g } a w K' Q else K' (a.put dst undef) w) : wpAnyH P md ops Q S (fuel + 1) listed a w :=
  wpAnyH_ready hr (by simp) (AllReadyH.cons hi h AllReadyH.nil)
/-- A symbol's cells, and the bytes. -/
abbrev SY (x : World) (bb : Nat) (bind : Int) (hid : Bool) (wh val sz : Int) (b off : Nat) (l : List Int) : Prop :=
  x.cell? ⟨bb, 0, none⟩ = some (.string ⟨#[]⟩) ∧ x.cell? ⟨bb, 1, none⟩ = some (.int .u8 bind) ∧ x.cell? ⟨bb, 2, none⟩ = some (.bool hid) ∧ x.cell? ⟨bb, 3, none⟩ = some (.int .i64 wh) ∧ x.cell? ⟨bb, 4, none⟩ = some (.int .i64 val) ∧ x.cell? ⟨bb, 5, none⟩ = some (.int .i64 sz) ∧ Byt x (some ⟨b, off, none⟩) l
theorem SY_mk {x : World} {bb : Nat} {bind : Int} {hid : Bool} {wh val sz : Int} {b off : Nat} {l : List Int} (h : SBx x bb ⟨#[]⟩ bind hid wh val sz) (hb : Byt x (some ⟨b, off, none⟩) l) : SY x bb bind hid wh val sz b off l :=
  ⟨h.c0, h.c1, h.c2, h.c3, h.c4, h.c5, hb⟩
theorem SY_kept {x x' : World} {bb : Nat} {bind : Int} {hid : Bool} {wh val sz : Int} {b off : Nat} {l : List Int} (h : SY x bb bind hid wh val sz b off l) (k : Kept x x') : SY x' bb bind hid wh val sz b off l :=
  ⟨k.cell h.1, k.cell h.2.1, k.cell h.2.2.1, k.cell h.2.2.2.1, k.cell h.2.2.2.2.1, k.cell h.2.2.2.2.2.1, h.2.2.2.2.2.2.kept k⟩

set_option maxRecDepth 20000 in
set_option maxHeartbeats 6400000 in
theorem rreadY_yes (b off cap : Nat) (l : List Int) (n o p u x z : Int) (w : World) (hl : l.length = 24) (hcap : 24 ≤ cap) (hr : ∀ x ∈ l, 0 ≤ x ∧ x < 256) (hc : ∀ i, i < l.length → w.cell? ⟨b, off + i, none⟩ = some (.int .u8 (l.getD i 0))) (hv : symV l = [n, o, p, u, x, z]) (bind : Int) (hid : Bool) (wh val sz name E : Int) (hV : Hid (rdY l = (bind, hid, wh, val, sz, name, E))) :
    Calls Tryd.prog 14 #[.slice (some ⟨b, off, none⟩) 24 cap] w fun e w' => e = .returned (.tuple #[symW ⟨#[]⟩ bind hid wh val sz, .int .i64 name, .int .i64 E]) ∧ Kept w w' := by
  have R1 := SBx.new w ⟨#[]⟩ 0 false 0 0 0
  obtain ⟨wa, hwa⟩ : ∃ wa, w.alloc (symO ⟨#[]⟩ 0 false 0 0 0) = wa := ⟨_, rfl⟩
  rw [hwa] at R1
  have kA : Kept w wa := by rw [← hwa]; exact Kept.alloc _ _
  have sA : wa.heap.size = w.heap.size + 1 := by rw [← hwa]; simp
  obtain ⟨q0, q1, q2, q3, _⟩ := back_sym hl hr hv
  have hN : ∀ w', Kept w w' → ∀ k, k < 6 → ∀ cap, Calls Tryd.prog 27 #[.slice (some ⟨b, off + offY k, none⟩) (symS.getD k 0) cap] w' fun e w'' => e = .returned (.int .i64 ((symV l).getD k 0)) ∧ w'' = w' := fun w' kw k hk cap =>
    num_at b off cap l (offY k) (symS.getD k 0) _ w' hl hr (fun i hi => kw.cell (hc i hi)) (by rcases symS_at k hk with e | e | e | e <;> rw [e] <;> decide) (offY_le hk) (symV_at l hk).symm
  rw [hv] at hN
  have N0 : ∀ w', Kept w w' → Calls Tryd.prog 27 #[.slice (some ⟨b, off, none⟩) 4 cap] w' fun e w'' => e = .returned (.int .i64 n) ∧ w'' = w' := fun w' kw => hN w' kw 0 (by decide) _
  have N3 : ∀ w', Kept w w' → Calls Tryd.prog 27 #[.slice (some ⟨b, off + 6, none⟩) 2 (cap - 6)] w' fun e w'' => e = .returned (.int .i64 u) ∧ w'' = w' := fun w' kw => hN w' kw 3 (by decide) _
  have N4 : ∀ w', Kept w w' → Calls Tryd.prog 27 #[.slice (some ⟨b, off + 8, none⟩) 8 (cap - 8)] w' fun e w'' => e = .returned (.int .i64 x) ∧ w'' = w' := fun w' kw => hN w' kw 4 (by decide) _
  have N5 : ∀ w', Kept w w' → Calls Tryd.prog 27 #[.slice (some ⟨b, off + 16, none⟩) 8 (cap - 16)] w' fun e w'' => e = .returned (.int .i64 z) ∧ w'' = w' := fun w' kw => hN w' kw 5 (by decide) _
  have ho : l.getD 4 0 = o := by
    have h1 := symV_at l (k := 1) (by decide)
    rw [hv] at h1
    rw [← one_at l 4 (by omega) hr]
    exact h1.symm
  have hp : l.getD 5 0 = p := by
    have h1 := symV_at l (k := 2) (by decide)
    rw [hv] at h1
    rw [← one_at l 5 (by omega) hr]
    exact h1.symm
  have b4 : w.cell? ⟨b, off + 4, none⟩ = some (.int .u8 o) := by rw [hc 4 (by omega), ho]
  have b5 : w.cell? ⟨b, off + 5, none⟩ = some (.int .u8 p) := by rw [hc 5 (by omega), hp]
  have hby : Byt w (some ⟨b, off, none⟩) l := .inr ⟨b, off, rfl, hc⟩
  have g4 : (4 : Int) ≤ (cap : Int) := by omega
  have g6 : (6 : Int) ≤ (cap : Int) := by omega
  have g8 : (8 : Int) ≤ (cap : Int) := by omega
  have g16 : (16 : Int) ≤ (cap : Int) := by omega
  have g24 : (24 : Int) ≤ (cap : Int) := by omega
  have r6 : ¬ cap = 6 := by omega
  have r8 : ¬ cap = 8 := by omega
  have r16 : ¬ cap = 16 := by omega
  obtain ⟨o6, ho6⟩ : ∃ o, off + 6 = o := ⟨_, rfl⟩
  obtain ⟨d6, hd6⟩ : ∃ o, cap - 6 = o := ⟨_, rfl⟩
  rw [ho6, hd6] at N3
  obtain ⟨o8, ho8⟩ : ∃ o, off + 8 = o := ⟨_, rfl⟩
  obtain ⟨d8, hd8⟩ : ∃ o, cap - 8 = o := ⟨_, rfl⟩
  rw [ho8, hd8] at N4
  obtain ⟨o16, ho16⟩ : ∃ o, off + 16 = o := ⟨_, rfl⟩
  obtain ⟨d16, hd16⟩ : ∃ o, cap - 16 = o := ⟨_, rfl⟩
  rw [ho16, hd16] at N5
  obtain ⟨o4, ho4⟩ : ∃ o, off + 4 = o := ⟨_, rfl⟩
  obtain ⟨o5, ho5⟩ : ∃ o, off + 5 = o := ⟨_, rfl⟩
  rw [ho4] at b4
  rw [ho5] at b5
  obtain ⟨Q, hQ⟩ : ∃ Q, o / 16 = Q := ⟨_, rfl⟩
  have hQ0 : 0 ≤ Q := by omega
  have hQ1 : Q ≤ 15 := by omega
  have ho0 : 0 ≤ o := q1.1
  have hQt : o.tdiv 16 = Q := by rw [Int.tdiv_eq_ediv_of_nonneg ho0]; exact hQ
  have hQ8 : IntKind.u8.wrap Q = Q := by
    have e : IntKind.u8.wrap Q = Q % 256 := rfl
    rw [e]; omega
  obtain ⟨g, hg⟩ : ∃ g, (p == 2) = g := ⟨_, rfl⟩
  have k1 : Kept w wa.drew := kA.trans (kept_drew _)
  have k2 : ∀ o, Kept w (wa.alloc o).drew := fun o => (kA.trans (Kept.alloc _ o)).trans (kept_drew _)
  have A0 : wa.drew.cell? ⟨b, o4, none⟩ = some (.int .u8 o) ∧ wa.drew.cell? ⟨b, o5, none⟩ = some (.int .u8 p) := ⟨k1.cell b4, k1.cell b5⟩
  have A1 : ∀ q, (wa.alloc q).drew.cell? ⟨b, o4, none⟩ = some (.int .u8 o) ∧ (wa.alloc q).drew.cell? ⟨b, o5, none⟩ = some (.int .u8 p) := fun q => ⟨(k2 q).cell b4, (k2 q).cell b5⟩
  have HD := ryOk_doc hl hr hv
  have HB0 : Hid (ryOk n o p u x z = false → rdY l = (0, false, 0, 0, 0, 0, 8)) := rdY_bad hl hv
  have HB1 : Hid (ryOk n o p u x z = true → rdY l = (o / 16, p == 2, uW u, x, z, n, 0)) := rdY_ok hl hv
  rw [hQ, hg] at HD HB1
  have HDD : Hid (ryOk n o p u x z = (decide (0 ≤ n ∧ n ≤ 65535) && standsB Q g (uW u) x z 16 && decide (symL n Q g (uW u) x z = l))) := HD
  clear hN hc HD ho hp q0 q1 q2 q3 hv
  go_enter Tryd.func14, Tryd.ntmps14
  go_upto_region 3 with fail
  go_cut [5] (fun v wx => v = .pointer (some ⟨w.heap.size + 1, 0, none⟩) ∧ wx = (wa.alloc (symO ⟨#[]⟩ Q g u x z)).drew)
  case first =>
    go_region_held3 (fun x : World => x.cell? ⟨b, o4, none⟩ = some (.int .u8 o) ∧ x.cell? ⟨b, o5, none⟩ = some (.int .u8 p))
      (first | with_reducible exact A0 | with_reducible exact A1 _)
      ((first
        | (go_at_call_of 27 (Value.slice (some ⟨b, o6, none⟩) 2 d6); (first | refine (N3 _ k1).mono ?_ | refine (N3 _ (k2 _)).mono ?_); rintro e w9 ⟨rfl, hw9⟩; have hw8 := hw9.symm; subst hw8; clear hw9)
        | (go_at_call_of 27 (Value.slice (some ⟨b, o8, none⟩) 8 d8); (first | refine (N4 _ k1).mono ?_ | refine (N4 _ (k2 _)).mono ?_); rintro e w9 ⟨rfl, hw9⟩; have hw8 := hw9.symm; subst hw8; clear hw9)
        | (go_at_call_of 27 (Value.slice (some ⟨b, o16, none⟩) 8 d16); (first | refine (N5 _ k1).mono ?_ | refine (N5 _ (k2 _)).mono ?_); rintro e w9 ⟨rfl, hw9⟩; have hw8 := hw9.symm; subst hw8; clear hw9)))
    all_goals
      go_wp2
      go_meet
      exact ⟨rfl, rfl⟩
  case rest =>
    obtain ⟨rfl, hw⟩ := hcut
    have X1 := (SBx.new wa ⟨#[]⟩ Q g u x z).kept (kept_drew _)
    have R2 := (R1.kept (Kept.alloc _ (symO ⟨#[]⟩ Q g u x z))).kept (kept_drew _)
    have KX := (kA.trans (Kept.alloc _ (symO ⟨#[]⟩ Q g u x z))).trans (kept_drew _)
    rw [← hw] at X1 R2 KX
    rw [sA] at X1
    clear hw A0 A1 k1 k2 N3 N4 N5 b4 b5 R1 hwa kA sA ho4 ho5 ho6 ho8 ho16 hd6 hd8 hd16 hg hQ hQt hQ8 ho0 g6 g8 g16 g24 r6 r8 r16
    have t3 := X1.c3
    have v3 := X1.f3
    go_upto_block 0 with fail
    go_cut [31] (fun _ wx => SBx wx (w.heap.size + 1) ⟨#[]⟩ Q g (uW u) x z ∧ SBx wx w.heap.size ⟨#[]⟩ 0 false 0 0 0 ∧ Kept w wx)
    case first =>
      clear N0 HB0 HB1 HDD hV hby hr hcap
      rcases (show u = 65521 ∨ u = 65522 ∨ (u ≠ 65521 ∧ u ≠ 65522) by omega) with h1 | h1 | h1
      · have HU : Hid (uW u = -1) := by unfold Hid uW; rw [if_pos h1]
        have q1 : (u == 65521) = true := by rw [beq_iff_eq]; exact h1
        have XD := X1.set3 (-1)
        have RD := R2.far (w.heap.size + 1) 3 (.int .i64 (-1)) (by omega)
        have KD := KX.setCell (p := ⟨w.heap.size + 1, 3, none⟩) (Nat.le_succ _) (.int .i64 (-1))
        clear h1
        go_wp2
        go_meet
        exact ⟨by rw [HU.out]; exact XD, RD, KD⟩
      · have HU : Hid (uW u = -2) := by unfold Hid uW; rw [if_neg (by omega), if_pos h1]
        have q1 : (u == 65521) = false := by rw [beq_eq_false_iff_ne]; omega
        have q2 : (u == 65522) = true := by rw [beq_iff_eq]; exact h1
        have XD := X1.set3 (-2)
        have RD := R2.far (w.heap.size + 1) 3 (.int .i64 (-2)) (by omega)
        have KD := KX.setCell (p := ⟨w.heap.size + 1, 3, none⟩) (Nat.le_succ _) (.int .i64 (-2))
        clear h1
        go_wp2
        go_meet
        exact ⟨by rw [HU.out]; exact XD, RD, KD⟩
      · have HU : Hid (uW u = u) := by unfold Hid uW; rw [if_neg h1.1, if_neg h1.2]
        have q1 : (u == 65521) = false := by rw [beq_eq_false_iff_ne]; exact h1.1
        have q2 : (u == 65522) = false := by rw [beq_eq_false_iff_ne]; exact h1.2
        clear h1
        go_wp2
        go_meet
        exact ⟨by rw [HU.out]; exact X1, R2, KX⟩
    case rest =>
      obtain ⟨XD, RD, KD⟩ := hcut
      obtain ⟨W, hW⟩ : ∃ W, uW u = W := ⟨_, rfl⟩
      rw [hW] at XD HB1 HDD
      clear X1 R2 KX t3 v3 hW
      have hI := fun w => rwithin_walk n 0 65535 w
      have hS := fun w => rstands_walk ⟨#[]⟩ Q g W x z 16 w hQ0
      have hB := fun w => rbytesY_walk ⟨#[]⟩ Q g W x z n w hQ0 hQ1
      have hSY := SY_mk XD (hby.kept KD)
      have hN0 := N0 _ KD
      have hSYd := SY_kept hSY (kept_drew _)
      clear N0
      go_upto_region 10 with (go_at_call 27; refine hN0.mono ?_; rintro e w9 ⟨rfl, hw9⟩; have hw8 := hw9.symm; subst hw8; clear hw9)
      clear hN0
      go_cut [56] (fun v wx => v = .bool (!ryOk n o p u x z) ∧ Kept wc wx)
      case first =>
        clear XD RD KD hSY
        cases hn : wiB n 0 65535 with
        | false =>
          have HK : Hid (ryOk n o p u x z = false) := by unfold Hid; rw [HDD.out, show decide (0 ≤ n ∧ n ≤ 65535) = false from hn]; rfl
          rw [hn] at hI
          clear hn HB0 HB1 HDD hV hS hB hby hr
          refine wp_region_noPanic ?_
          refine wp_region_held_drew (S := fun y => SY y (w.heap.size + 1) Q g W x z b off l) (by kernel_rfl) hSYd (fun hHeld => ?_)
          refine takeW 0 (v := ?_) rfl (by kernel_rfl) (by kernel_rfl) (by kernel_rfl) (fun _ _ _ h => h) (Or.inl ⟨by rfl, ?_⟩) hHeld ?_
          rotate_left
          · (intro w hSw; obtain ⟨sx0, sx1, sx2, sx3, sx4, sx5, sxb⟩ := hSw; go_simp; with_reducible rfl)
          try simp only [Act.put, List.setIfInBounds_toArray, List.set_cons_zero, List.set_cons_succ]
          refine oneW 1 rfl (by kernel_rfl) (fun K hK => ?_)
          go_simp
          (go_at_call 25; refine (hI _).mono ?_; rintro e w9 ⟨rfl, hw9⟩; have hw8 := hw9.symm; subst hw8; clear hw9)
          go_wp2_with fail
          refine hK.out _ _ (hHeld) (fun hHeld2 => ?_)
          clear hK K hHeld
          have hHeld := hHeld2
          clear hHeld2
          try simp only [Act.put, List.setIfInBounds_toArray, List.set_cons_zero, List.set_cons_succ]
          refine takeW 2 (v := ?_) rfl (by kernel_rfl) (by kernel_rfl) (by kernel_rfl) (fun _ _ _ h => h) (Or.inl ⟨by rfl, ?_⟩) hHeld ?_
          rotate_left
          · (intro w hSw; obtain ⟨sx0, sx1, sx2, sx3, sx4, sx5, sxb⟩ := hSw; go_simp; with_reducible rfl)
          try simp only [Act.put, List.setIfInBounds_toArray, List.set_cons_zero, List.set_cons_succ]
          refine takeW 3 (v := ?_) rfl (by kernel_rfl) (by kernel_rfl) (by kernel_rfl) (fun _ _ _ h => h) (Or.inl ⟨by rfl, ?_⟩) hHeld ?_
          rotate_left
          · (intro w hSw; obtain ⟨sx0, sx1, sx2, sx3, sx4, sx5, sxb⟩ := hSw; go_simp; with_reducible rfl)
          try simp only [Act.put, List.setIfInBounds_toArray, List.set_cons_zero, List.set_cons_succ]
          refine takeW 4 rfl (by kernel_rfl) (by kernel_rfl) (by kernel_rfl) (fun _ _ _ h => h) (Or.inr ⟨by rfl, rfl⟩) hHeld ?_
          try simp only [Act.put, List.setIfInBounds_toArray, List.set_cons_zero, List.set_cons_succ]
          refine takeW 5 rfl (by kernel_rfl) (by kernel_rfl) (by kernel_rfl) (fun _ _ _ h => h) (Or.inr ⟨by rfl, rfl⟩) hHeld ?_
          try simp only [Act.put, List.setIfInBounds_toArray, List.set_cons_zero, List.set_cons_succ]
          refine takeW 6 rfl (by kernel_rfl) (by kernel_rfl) (by kernel_rfl) (fun _ _ _ h => h) (Or.inr ⟨by rfl, rfl⟩) hHeld ?_
          try simp only [Act.put, List.setIfInBounds_toArray, List.set_cons_zero, List.set_cons_succ]
          refine takeW 7 (v := ?_) rfl (by kernel_rfl) (by kernel_rfl) (by kernel_rfl) (fun _ _ _ h => h) (Or.inl ⟨by rfl, ?_⟩) hHeld ?_
          rotate_left
          · (intro w hSw; obtain ⟨sx0, sx1, sx2, sx3, sx4, sx5, sxb⟩ := hSw; go_simp; with_reducible rfl)
          try simp only [Act.put, List.setIfInBounds_toArray, List.set_cons_zero, List.set_cons_succ]
          refine takeW 8 (v := ?_) rfl (by kernel_rfl) (by kernel_rfl) (by kernel_rfl) (fun _ _ _ h => h) (Or.inl ⟨by rfl, ?_⟩) hHeld ?_
          rotate_left
          · (intro w hSw; obtain ⟨sx0, sx1, sx2, sx3, sx4, sx5, sxb⟩ := hSw; go_simp; with_reducible rfl)
          try simp only [Act.put, List.setIfInBounds_toArray, List.set_cons_zero, List.set_cons_succ]
          refine takeW 9 rfl (by kernel_rfl) (by kernel_rfl) (by kernel_rfl) (fun _ _ _ h => h) (Or.inr ⟨by rfl, rfl⟩) hHeld ?_
          try simp only [Act.put, List.setIfInBounds_toArray, List.set_cons_zero, List.set_cons_succ]
          refine takeW 10 rfl (by kernel_rfl) (by kernel_rfl) (by kernel_rfl) (fun _ _ _ h => h) (Or.inr ⟨by rfl, rfl⟩) hHeld ?_
          try simp only [Act.put, List.setIfInBounds_toArray, List.set_cons_zero, List.set_cons_succ]
          refine takeW 11 rfl (by kernel_rfl) (by kernel_rfl) (by kernel_rfl) (fun _ _ _ h => h) (Or.inr ⟨by rfl, rfl⟩) hHeld ?_
          try simp only [Act.put, List.setIfInBounds_toArray, List.set_cons_zero, List.set_cons_succ]
          refine takeW 12 rfl (by kernel_rfl) (by kernel_rfl) (by kernel_rfl) (fun _ _ _ h => h) (Or.inr ⟨by rfl, rfl⟩) hHeld ?_
          try simp only [Act.put, List.setIfInBounds_toArray, List.set_cons_zero, List.set_cons_succ]
          refine takeW 13 rfl (by kernel_rfl) (by kernel_rfl) (by kernel_rfl) (fun _ _ _ h => h) (Or.inr ⟨by rfl, rfl⟩) hHeld ?_
          try simp only [Act.put, List.setIfInBounds_toArray, List.set_cons_zero, List.set_cons_succ]
          refine takeW 14 rfl (by kernel_rfl) (by kernel_rfl) (by kernel_rfl) (fun _ _ _ h => h) (Or.inr ⟨by rfl, rfl⟩) hHeld ?_
          try simp only [Act.put, List.setIfInBounds_toArray, List.set_cons_zero, List.set_cons_succ]
          refine takeW 15 rfl (by kernel_rfl) (by kernel_rfl) (by kernel_rfl) (fun _ _ _ h => h) (Or.inr ⟨by rfl, rfl⟩) hHeld ?_
          try simp only [Act.put, List.setIfInBounds_toArray, List.set_cons_zero, List.set_cons_succ]
          refine takeW 16 (v := ?_) rfl (by kernel_rfl) (by kernel_rfl) (by kernel_rfl) (fun _ _ _ h => h) (Or.inl ⟨by rfl, ?_⟩) hHeld ?_
          rotate_left
          · (intro w hSw; obtain ⟨sx0, sx1, sx2, sx3, sx4, sx5, sxb⟩ := hSw; go_simp; with_reducible rfl)
          try simp only [Act.put, List.setIfInBounds_toArray, List.set_cons_zero, List.set_cons_succ]
          refine wpAnyH_done (by kernel_rfl) ?_ _
          refine NoPanic.normal ?_
          as_aux_lemma =>
            go_wp2_with fail
            go_meet
            exact ⟨by rw [HK.out]; rfl, kept_drew _⟩
        | true =>
          rw [hn] at hI
          cases hst : standsB Q g W x z 16 with
          | false =>
            have HK : Hid (ryOk n o p u x z = false) := by unfold Hid; rw [HDD.out, hst, Bool.and_false]; rfl
            rw [hst] at hS
            clear hn HB0 HB1 HDD hV hB hby hr hst
            refine wp_region_noPanic ?_
            refine wp_region_held_drew (S := fun y => SY y (w.heap.size + 1) Q g W x z b off l) (by kernel_rfl) hSYd (fun hHeld => ?_)
            refine takeW 0 (v := ?_) rfl (by kernel_rfl) (by kernel_rfl) (by kernel_rfl) (fun _ _ _ h => h) (Or.inl ⟨by rfl, ?_⟩) hHeld ?_
            rotate_left
            · (intro w hSw; obtain ⟨sx0, sx1, sx2, sx3, sx4, sx5, sxb⟩ := hSw; go_simp; with_reducible rfl)
            try simp only [Act.put, List.setIfInBounds_toArray, List.set_cons_zero, List.set_cons_succ]
            refine oneW 1 rfl (by kernel_rfl) (fun K hK => ?_)
            go_simp
            (go_at_call 25; refine (hI _).mono ?_; rintro e w9 ⟨rfl, hw9⟩; have hw8 := hw9.symm; subst hw8; clear hw9)
            go_wp2_with fail
            refine hK.out _ _ (hHeld) (fun hHeld2 => ?_)
            clear hK K hHeld
            have hHeld := hHeld2
            clear hHeld2
            try simp only [Act.put, List.setIfInBounds_toArray, List.set_cons_zero, List.set_cons_succ]
            refine takeW 2 (v := ?_) rfl (by kernel_rfl) (by kernel_rfl) (by kernel_rfl) (fun _ _ _ h => h) (Or.inl ⟨by rfl, ?_⟩) hHeld ?_
            rotate_left
            · (intro w hSw; obtain ⟨sx0, sx1, sx2, sx3, sx4, sx5, sxb⟩ := hSw; go_simp; with_reducible rfl)
            try simp only [Act.put, List.setIfInBounds_toArray, List.set_cons_zero, List.set_cons_succ]
            refine takeW 3 (v := ?_) rfl (by kernel_rfl) (by kernel_rfl) (by kernel_rfl) (fun _ _ _ h => h) (Or.inl ⟨by rfl, ?_⟩) hHeld ?_
            rotate_left
            · (intro w hSw; obtain ⟨sx0, sx1, sx2, sx3, sx4, sx5, sxb⟩ := hSw; go_simp; with_reducible rfl)
            try simp only [Act.put, List.setIfInBounds_toArray, List.set_cons_zero, List.set_cons_succ]
            refine takeW 4 (v := ?_) rfl (by kernel_rfl) (by kernel_rfl) (by kernel_rfl) (fun _ _ _ h => h) (Or.inl ⟨by rfl, ?_⟩) hHeld ?_
            rotate_left
            · (intro w hSw; obtain ⟨sx0, sx1, sx2, sx3, sx4, sx5, sxb⟩ := hSw; go_simp; with_reducible rfl)
            try simp only [Act.put, List.setIfInBounds_toArray, List.set_cons_zero, List.set_cons_succ]
            refine oneW 5 rfl (by kernel_rfl) (fun K hK => ?_)
            go_simp
            (go_at_call 28; refine (hS _).mono ?_; rintro e w5 ⟨rfl, k5⟩)
            go_wp2_with fail
            refine hK.out _ _ (SY_kept hHeld k5) (fun hHeld2 => ?_)
            clear hK K hHeld
            have hHeld := hHeld2
            clear hHeld2
            try simp only [Act.put, List.setIfInBounds_toArray, List.set_cons_zero, List.set_cons_succ]
            refine takeW 6 (v := ?_) rfl (by kernel_rfl) (by kernel_rfl) (by kernel_rfl) (fun _ _ _ h => h) (Or.inl ⟨by rfl, ?_⟩) hHeld ?_
            rotate_left
            · (intro w hSw; obtain ⟨sx0, sx1, sx2, sx3, sx4, sx5, sxb⟩ := hSw; go_simp; with_reducible rfl)
            try simp only [Act.put, List.setIfInBounds_toArray, List.set_cons_zero, List.set_cons_succ]
            refine takeW 7 (v := ?_) rfl (by kernel_rfl) (by kernel_rfl) (by kernel_rfl) (fun _ _ _ h => h) (Or.inl ⟨by rfl, ?_⟩) hHeld ?_
            rotate_left
            · (intro w hSw; obtain ⟨sx0, sx1, sx2, sx3, sx4, sx5, sxb⟩ := hSw; go_simp; with_reducible rfl)
            try simp only [Act.put, List.setIfInBounds_toArray, List.set_cons_zero, List.set_cons_succ]
            refine takeW 8 (v := ?_) rfl (by kernel_rfl) (by kernel_rfl) (by kernel_rfl) (fun _ _ _ h => h) (Or.inl ⟨by rfl, ?_⟩) hHeld ?_
            rotate_left
            · (intro w hSw; obtain ⟨sx0, sx1, sx2, sx3, sx4, sx5, sxb⟩ := hSw; go_simp; with_reducible rfl)
            try simp only [Act.put, List.setIfInBounds_toArray, List.set_cons_zero, List.set_cons_succ]
            refine takeW 9 rfl (by kernel_rfl) (by kernel_rfl) (by kernel_rfl) (fun _ _ _ h => h) (Or.inr ⟨by rfl, rfl⟩) hHeld ?_
            try simp only [Act.put, List.setIfInBounds_toArray, List.set_cons_zero, List.set_cons_succ]
            refine takeW 10 rfl (by kernel_rfl) (by kernel_rfl) (by kernel_rfl) (fun _ _ _ h => h) (Or.inr ⟨by rfl, rfl⟩) hHeld ?_
            try simp only [Act.put, List.setIfInBounds_toArray, List.set_cons_zero, List.set_cons_succ]
            refine takeW 11 rfl (by kernel_rfl) (by kernel_rfl) (by kernel_rfl) (fun _ _ _ h => h) (Or.inr ⟨by rfl, rfl⟩) hHeld ?_
            try simp only [Act.put, List.setIfInBounds_toArray, List.set_cons_zero, List.set_cons_succ]
            refine takeW 12 rfl (by kernel_rfl) (by kernel_rfl) (by kernel_rfl) (fun _ _ _ h => h) (Or.inr ⟨by rfl, rfl⟩) hHeld ?_
            try simp only [Act.put, List.setIfInBounds_toArray, List.set_cons_zero, List.set_cons_succ]
            refine takeW 13 rfl (by kernel_rfl) (by kernel_rfl) (by kernel_rfl) (fun _ _ _ h => h) (Or.inr ⟨by rfl, rfl⟩) hHeld ?_
            try simp only [Act.put, List.setIfInBounds_toArray, List.set_cons_zero, List.set_cons_succ]
            refine takeW 14 rfl (by kernel_rfl) (by kernel_rfl) (by kernel_rfl) (fun _ _ _ h => h) (Or.inr ⟨by rfl, rfl⟩) hHeld ?_
            try simp only [Act.put, List.setIfInBounds_toArray, List.set_cons_zero, List.set_cons_succ]
            refine takeW 15 rfl (by kernel_rfl) (by kernel_rfl) (by kernel_rfl) (fun _ _ _ h => h) (Or.inr ⟨by rfl, rfl⟩) hHeld ?_
            try simp only [Act.put, List.setIfInBounds_toArray, List.set_cons_zero, List.set_cons_succ]
            refine takeW 16 (v := ?_) rfl (by kernel_rfl) (by kernel_rfl) (by kernel_rfl) (fun _ _ _ h => h) (Or.inl ⟨by rfl, ?_⟩) hHeld ?_
            rotate_left
            · (intro w hSw; obtain ⟨sx0, sx1, sx2, sx3, sx4, sx5, sxb⟩ := hSw; go_simp; with_reducible rfl)
            try simp only [Act.put, List.setIfInBounds_toArray, List.set_cons_zero, List.set_cons_succ]
            refine wpAnyH_done (by kernel_rfl) ?_ _
            refine NoPanic.normal ?_
            as_aux_lemma =>
              go_wp2_with fail
              go_meet
              exact ⟨by rw [HK.out]; rfl, (kept_drew _).trans k5⟩
          | true =>
            rw [hst] at hS
            have HE : Hid (ryOk n o p u x z = decide (symL n Q g W x z = l)) := by unfold Hid; rw [HDD.out, hst, show decide (0 ≤ n ∧ n ≤ 65535) = true from hn]; rfl
            have hq := str_beq (symL_range n Q g W x z) hr
            have hnL := symL_length n Q g W x z
            obtain ⟨L, hL⟩ : ∃ L, symL n Q g W x z = L := ⟨_, rfl⟩
            rw [hL] at hB HE hq hnL
            obtain ⟨s1, hs1⟩ : ∃ s, strOfNums L = s := ⟨_, rfl⟩
            obtain ⟨s2, hs2⟩ : ∃ s, strOfNums l = s := ⟨_, rfl⟩
            rw [hs1, hs2] at hq
            have HS1 : Hid (strOfNums L = s1) := hs1
            have HS2 : Hid (strOfNums l = s2) := hs2
            obtain ⟨G, hG⟩ : ∃ G, decide (L = l) = G := ⟨_, rfl⟩
            rw [hG] at hq HE
            have HQ : Hid ((s1.toList == s2.toList) = G) := hq
            clear hL hs1 hs2 hG hst hn hby hr HB0 HB1 HDD hV hq
            refine wp_region_noPanic ?_
            refine wp_region_held_drew (S := fun y => SY y (w.heap.size + 1) Q g W x z b off l) (by kernel_rfl) hSYd (fun hHeld => ?_)
            refine takeW 0 (v := ?_) rfl (by kernel_rfl) (by kernel_rfl) (by kernel_rfl) (fun _ _ _ h => h) (Or.inl ⟨by rfl, ?_⟩) hHeld ?_
            rotate_left
            · (intro w hSw; obtain ⟨sx0, sx1, sx2, sx3, sx4, sx5, sxb⟩ := hSw; go_simp; with_reducible rfl)
            try simp only [Act.put, List.setIfInBounds_toArray, List.set_cons_zero, List.set_cons_succ]
            refine oneW 1 rfl (by kernel_rfl) (fun K hK => ?_)
            go_simp
            (go_at_call 25; refine (hI _).mono ?_; rintro e w9 ⟨rfl, hw9⟩; have hw8 := hw9.symm; subst hw8; clear hw9)
            go_wp2_with fail
            refine hK.out _ _ (hHeld) (fun hHeld2 => ?_)
            clear hK K hHeld
            have hHeld := hHeld2
            clear hHeld2
            try simp only [Act.put, List.setIfInBounds_toArray, List.set_cons_zero, List.set_cons_succ]
            refine takeW 2 (v := ?_) rfl (by kernel_rfl) (by kernel_rfl) (by kernel_rfl) (fun _ _ _ h => h) (Or.inl ⟨by rfl, ?_⟩) hHeld ?_
            rotate_left
            · (intro w hSw; obtain ⟨sx0, sx1, sx2, sx3, sx4, sx5, sxb⟩ := hSw; go_simp; with_reducible rfl)
            try simp only [Act.put, List.setIfInBounds_toArray, List.set_cons_zero, List.set_cons_succ]
            refine takeW 3 (v := ?_) rfl (by kernel_rfl) (by kernel_rfl) (by kernel_rfl) (fun _ _ _ h => h) (Or.inl ⟨by rfl, ?_⟩) hHeld ?_
            rotate_left
            · (intro w hSw; obtain ⟨sx0, sx1, sx2, sx3, sx4, sx5, sxb⟩ := hSw; go_simp; with_reducible rfl)
            try simp only [Act.put, List.setIfInBounds_toArray, List.set_cons_zero, List.set_cons_succ]
            refine takeW 4 (v := ?_) rfl (by kernel_rfl) (by kernel_rfl) (by kernel_rfl) (fun _ _ _ h => h) (Or.inl ⟨by rfl, ?_⟩) hHeld ?_
            rotate_left
            · (intro w hSw; obtain ⟨sx0, sx1, sx2, sx3, sx4, sx5, sxb⟩ := hSw; go_simp; with_reducible rfl)
            try simp only [Act.put, List.setIfInBounds_toArray, List.set_cons_zero, List.set_cons_succ]
            refine oneW 5 rfl (by kernel_rfl) (fun K hK => ?_)
            go_simp
            (go_at_call 28; refine (hS _).mono ?_; rintro e w5 ⟨rfl, k5⟩)
            go_wp2_with fail
            refine hK.out _ _ (SY_kept hHeld k5) (fun hHeld2 => ?_)
            clear hK K hHeld
            have hHeld := hHeld2
            clear hHeld2
            try simp only [Act.put, List.setIfInBounds_toArray, List.set_cons_zero, List.set_cons_succ]
            refine takeW 6 (v := ?_) rfl (by kernel_rfl) (by kernel_rfl) (by kernel_rfl) (fun _ _ _ h => h) (Or.inl ⟨by rfl, ?_⟩) hHeld ?_
            rotate_left
            · (intro w hSw; obtain ⟨sx0, sx1, sx2, sx3, sx4, sx5, sxb⟩ := hSw; go_simp; with_reducible rfl)
            try simp only [Act.put, List.setIfInBounds_toArray, List.set_cons_zero, List.set_cons_succ]
            refine takeW 7 (v := ?_) rfl (by kernel_rfl) (by kernel_rfl) (by kernel_rfl) (fun _ _ _ h => h) (Or.inl ⟨by rfl, ?_⟩) hHeld ?_
            rotate_left
            · (intro w hSw; obtain ⟨sx0, sx1, sx2, sx3, sx4, sx5, sxb⟩ := hSw; go_simp; with_reducible rfl)
            try simp only [Act.put, List.setIfInBounds_toArray, List.set_cons_zero, List.set_cons_succ]
            refine takeW 8 (v := ?_) rfl (by kernel_rfl) (by kernel_rfl) (by kernel_rfl) (fun _ _ _ h => h) (Or.inl ⟨by rfl, ?_⟩) hHeld ?_
            rotate_left
            · (intro w hSw; obtain ⟨sx0, sx1, sx2, sx3, sx4, sx5, sxb⟩ := hSw; go_simp; with_reducible rfl)
            try simp only [Act.put, List.setIfInBounds_toArray, List.set_cons_zero, List.set_cons_succ]
            refine takeW 9 (v := ?_) rfl (by kernel_rfl) (by kernel_rfl) (by kernel_rfl) (fun _ _ _ h => h) (Or.inl ⟨by rfl, ?_⟩) hHeld ?_
            rotate_left
            · (intro w hSw; obtain ⟨sx0, sx1, sx2, sx3, sx4, sx5, sxb⟩ := hSw; go_simp; with_reducible rfl)
            try simp only [Act.put, List.setIfInBounds_toArray, List.set_cons_zero, List.set_cons_succ]
            refine takeW 10 (v := ?_) rfl (by kernel_rfl) (by kernel_rfl) (by kernel_rfl) (fun _ _ _ h => h) (Or.inl ⟨by rfl, ?_⟩) hHeld ?_
            rotate_left
            · (intro w hSw; obtain ⟨sx0, sx1, sx2, sx3, sx4, sx5, sxb⟩ := hSw; go_simp; with_reducible rfl)
            try simp only [Act.put, List.setIfInBounds_toArray, List.set_cons_zero, List.set_cons_succ]
            refine takeW 13 (v := ?_) rfl (by kernel_rfl) (by kernel_rfl) (by kernel_rfl) (fun _ _ _ h => h) (Or.inl ⟨by rfl, ?_⟩) hHeld ?_
            rotate_left
            · (intro w hSw; obtain ⟨sx0, sx1, sx2, sx3, sx4, sx5, sxb⟩ := hSw; go_simp; with_reducible rfl)
            try simp only [Act.put, List.setIfInBounds_toArray, List.set_cons_zero, List.set_cons_succ]
            refine takeW 14 (v := ?_) rfl (by kernel_rfl) (by kernel_rfl) (by kernel_rfl) (fun _ _ _ h => h) (Or.inl ⟨by rfl, ?_⟩) hHeld ?_
            rotate_left
            · (intro w hSw; obtain ⟨sx0, sx1, sx2, sx3, sx4, sx5, sxb⟩ := hSw; have T := str_len (cap := cap) hl sxb; rw [HS2.out] at T; go_simp; with_reducible rfl)
            try simp only [Act.put, List.setIfInBounds_toArray, List.set_cons_zero, List.set_cons_succ]
            refine oneW 11 rfl (by kernel_rfl) (fun K hK => ?_)
            go_simp
            (go_at_call 26; refine (hB _).mono ?_; rintro e w6 ⟨x6, rfl, O6, k6⟩; obtain ⟨A6, C6, rfl, _, b6, _⟩ := O6.let hnL; have T7 := str_len (cap := C6) hnL b6; rw [HS1.out] at T7; clear O6 b6)
            go_wp2_with fail
            refine hK.out _ _ (SY_kept hHeld k6) (fun hHeld2 => ?_)
            clear hK K hHeld
            have hHeld := hHeld2
            clear hHeld2
            try simp only [Act.put, List.setIfInBounds_toArray, List.set_cons_zero, List.set_cons_succ]
            refine oneW 12 rfl (by kernel_rfl) (fun K hK => ?_)
            go_simp
            refine hK.out _ _ (hHeld) (fun hHeld2 => ?_)
            clear hK K hHeld
            have hHeld := hHeld2
            clear hHeld2
            try simp only [Act.put, List.setIfInBounds_toArray, List.set_cons_zero, List.set_cons_succ]
            refine takeW 15 (v := ?_) rfl (by kernel_rfl) (by kernel_rfl) (by kernel_rfl) (fun _ _ _ h => h) (Or.inl ⟨by rfl, ?_⟩) hHeld ?_
            rotate_left
            · (intro w hSw; obtain ⟨sx0, sx1, sx2, sx3, sx4, sx5, sxb⟩ := hSw; go_simp; with_reducible rfl)
            try simp only [Act.put, List.setIfInBounds_toArray, List.set_cons_zero, List.set_cons_succ]
            refine takeW 16 (v := ?_) rfl (by kernel_rfl) (by kernel_rfl) (by kernel_rfl) (fun _ _ _ h => h) (Or.inl ⟨by rfl, ?_⟩) hHeld ?_
            rotate_left
            · (intro w hSw; obtain ⟨sx0, sx1, sx2, sx3, sx4, sx5, sxb⟩ := hSw; go_simp; with_reducible rfl)
            try simp only [Act.put, List.setIfInBounds_toArray, List.set_cons_zero, List.set_cons_succ]
            refine wpAnyH_done (by kernel_rfl) ?_ _
            refine NoPanic.normal ?_
            as_aux_lemma =>
              go_wp2_with fail
              go_meet
              exact ⟨by rw [HE.out, HQ.out], ((kept_drew _).trans k5).trans k6⟩
      case rest =>
        obtain ⟨rfl, k7⟩ := hcut
        have K7 := Kept.trans KD k7
        have Z3 := RD.kept k7
        have D3 := XD.kept k7
        clear hI hS hB hSY hSYd XD RD KD hby hr
        cases HK : ryOk n o p u x z with
        | false =>
          have hV' := hV.out
          rw [HB0.out HK] at hV'
          simp only [Prod.mk.injEq] at hV'
          obtain ⟨rfl, rfl, rfl, rfl, rfl, rfl, rfl⟩ := hV'
          have hR := Z3.put ⟨#[]⟩ 0 false 0 0 0
          have hW := below_put6 (b := w.heap.size) K7 (Nat.le_refl _) ⟨#[]⟩ 0 false 0 0 0
          obtain ⟨z0, z1, z2, z3, z4, z5, y0, y1, y2, y3, y4, y5⟩ := Z3
          clear HK HB0 HB1 HDD hV D3
          go_wp2
          exact bodyPost_ret (v := .tuple #[symW ⟨#[]⟩ 0 false 0 0 0, .int .i64 0, .int .i64 8]) (by simp [results, Tryd.results14, go_sem, hR.c0, hR.c1, hR.c2, hR.c3, hR.c4, hR.c5]) rfl ⟨rfl, hW⟩
        | true =>
          have hV' := hV.out
          rw [HB1.out HK] at hV'
          simp only [Prod.mk.injEq] at hV'
          obtain ⟨rfl, rfl, rfl, rfl, rfl, rfl, rfl⟩ := hV'
          have hR := Z3.put ⟨#[]⟩ Q g W x z
          have hW := below_put6 (b := w.heap.size) K7 (Nat.le_refl _) ⟨#[]⟩ Q g W x z
          obtain ⟨z0, z1, z2, z3, z4, z5, y0, y1, y2, y3, y4, y5⟩ := Z3
          obtain ⟨c0, c1, c2, c3, c4, c5, _, _, _, _, _, _⟩ := D3
          clear HK HB0 HB1 HDD hV
          go_wp2
          exact bodyPost_ret (v := .tuple #[symW ⟨#[]⟩ Q g W x z, .int .i64 n, .int .i64 0]) (by simp [results, Tryd.results14, go_sem, hR.c0, hR.c1, hR.c2, hR.c3, hR.c4, hR.c5]) rfl ⟨rfl, hW⟩

set_option maxHeartbeats 1600000 in
theorem rreadY_walk (a : Option Addr) (m cap : Nat) (l : List Int) (bind : Int) (hid : Bool) (wh val sz name E : Int) (w : World) (hl : l.length = m) (hcap : m ≤ cap) (hb : Byt w a l) (hr : ∀ x ∈ l, 0 ≤ x ∧ x < 256) (hV : Hid (rdY l = (bind, hid, wh, val, sz, name, E))) :
    Calls Tryd.prog 14 #[.slice a m cap] w fun e w' => e = .returned (.tuple #[symW ⟨#[]⟩ bind hid wh val sz, .int .i64 name, .int .i64 E]) ∧ Kept w w' := by
  by_cases hm : m = 24
  · subst hm
    rcases hb with rfl | ⟨b, off, rfl, hc⟩
    · simp at hl
    obtain ⟨n, o, p, u, x, z, hv⟩ := list6 (symV_length l)
    exact rreadY_yes b off cap l n o p u x z w hl hcap hr hc hv bind hid wh val sz name E hV
  · have R1 := SBx.new w ⟨#[]⟩ 0 false 0 0 0
    obtain ⟨wa, hwa⟩ : ∃ wa, w.alloc (symO ⟨#[]⟩ 0 false 0 0 0) = wa := ⟨_, rfl⟩
    rw [hwa] at R1
    have kA : Kept w wa := by rw [← hwa]; exact Kept.alloc _ _
    have h3 := rdY_len (b := l) (by omega)
    have hV' := hV.out
    rw [h3] at hV'
    simp only [Prod.mk.injEq] at hV'
    obtain ⟨rfl, rfl, rfl, rfl, rfl, rfl, rfl⟩ := hV'
    have q : ((m : Int) != 24) = true := by rw [bne_iff_ne]; omega
    have q' : (m != 24) = true := by rw [bne_iff_ne]; omega
    have hR := R1.put ⟨#[]⟩ 0 false 0 0 0
    have hW := below_put6 (b := w.heap.size) kA (Nat.le_refl _) ⟨#[]⟩ 0 false 0 0 0
    have R1' := R1
    obtain ⟨z0, z1, z2, z3, z4, z5, y0, y1, y2, y3, y4, y5⟩ := R1'
    clear hm h3 hV hb hr R1
    go_enter Tryd.func14, Tryd.ntmps14
    go_wp2
    exact bodyPost_ret (v := .tuple #[symW ⟨#[]⟩ 0 false 0 0 0, .int .i64 0, .int .i64 3]) (by simp [results, Tryd.results14, go_sem, hR.c0, hR.c1, hR.c2, hR.c3, hR.c4, hR.c5]) rfl ⟨rfl, hW⟩
end Go.Proofs.YteehekoajemciaaDoor
