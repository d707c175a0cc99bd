/- What the document's own Read gives. -/
import Derived.Test.YtdjokhokiklamaaRw
import Derived.Test.YtdjokhokiklamaaRe
import Derived.Deep.RegionHeld3
import Derived.Deep.DeepCutAuto
namespace Go.Proofs.Ytdjokhokiklamaa
open Go.RowKit

theorem num_at (b off cap : Nat) (l : List Int) (lo s : Nat) (n : Int) (w : World) (hl : l.length = 64) (hr : ∀ x ∈ l, 0 ≤ x ∧ x < 256) (hc : ∀ i, i < l.length → w.cell? ⟨b, off + i, none⟩ = some (.int .u8 (l.getD i 0))) (hs : s ≤ 8) (ho : lo + s ≤ 64) (hn : sOf (nuN ((l.drop lo).take s)) = n) :
    Calls Try.prog 36 #[.slice (some ⟨b, off + lo, none⟩) s cap] w fun e w' => e = .returned (.int .i64 n) ∧ w' = w := by
  have hlen : ((l.drop lo).take s).length = s := by rw [List.length_take, List.length_drop]; omega
  have := number_walk b (off + lo) cap ((l.drop lo).take s) w (fun x hx => hr x (List.mem_of_mem_drop (List.mem_of_mem_take hx))) (by omega) (by rw [hlen]; exact Byt.part hc (by omega))
  rwa [hlen, hn] at this

theorem takeW {P : Program} {ops : Array Oper} {Q : Exit → Act → World → Prop} {md : Region.Mode} {S : World → Prop} (i : Nat) {dst : Option Tmp} {op : Op} {ty : TypeId} {p : String} {af : Array Edge} {g : Option (Nat × Bool)} {v : Value} {fuel : Nat} {listed : Array Bool} {a : Act} {w : World} (hi : ops[i]? = some { dst := dst, op := op, type := ty, pos := p, after := af, guard := g })
    (hs : Region.noSelect ops = true) (hf : Region.free md ops listed i = true) (hr : (Region.ready md ops listed).contains i = true)
    (hQ : ∀ c a w, Q (.panic c) (a.put dst v) w → Q (.panic c) a w) (hy : YieldsIf P ops S { dst := dst, op := op, type := ty, pos := p, after := af, guard := g } v a) (hS : S w)
    (h : wpAnyH P md ops Q S fuel (listed.setIfInBounds i true) (a.put dst v) w) : wpAnyH P md ops Q S (fuel + 1) listed a w :=
  wpAnyH_take hi hs hf hr hQ hy hS h
theorem oneW {P : Program} {ops : Array Oper} {Q : Exit → Act → World → Prop} {md : Region.Mode} {S : World → Prop} (i : Nat) {dst : Option Tmp} {op : Op} {ty : TypeId} {p : String} {af : Array Edge} {g : Option (Nat × Bool)} {fuel : Nat} {listed : Array Bool} {a : Act} {w : World} (hi : ops[i]? = some { dst := dst, op := op, type := ty, pos := p, after := af, guard := g })
    (hr : Region.ready md ops listed = [i])
    (h : ∀ K' : Act → World → Prop, Shut (∀ a w, S w → (S w → wpAnyH P md ops Q S fuel (listed.setIfInBounds i true) a w) → K' a w) → if Region.wanted { dst := dst, op := op, type := ty, pos := p, after := af, guard := g } (yielded ops a.tmps) = true then Oper.wp P { dst := dst, op := op, type := ty, pos := p, after := af, guard := g } a w K' Q else K' (a.put dst undef) w) : wpAnyH P md ops Q S (fuel + 1) listed a w :=
  wpAnyH_ready hr (by simp) (AllReadyH.cons hi h AllReadyH.nil)
theorem twoW {P : Program} {ops : Array Oper} {Q : Exit → Act → World → Prop} {md : Region.Mode} {S : World → Prop} (i j : Nat) {dst dst' : Option Tmp} {op op' : Op} {ty ty' : TypeId} {p p' : String} {af af' : Array Edge} {g g' : Option (Nat × Bool)} {fuel : Nat} {listed : Array Bool} {a : Act} {w : World} (hi : ops[i]? = some { dst := dst, op := op, type := ty, pos := p, after := af, guard := g }) (hj : ops[j]? = some { dst := dst', op := op', type := ty', pos := p', after := af', guard := g' })
    (hr : Region.ready md ops listed = [i, j])
    (h : ∀ K' : Act → World → Prop, Shut (∀ a w, S w → (S w → wpAnyH P md ops Q S fuel (listed.setIfInBounds i true) a w) → K' a w) → if Region.wanted { dst := dst, op := op, type := ty, pos := p, after := af, guard := g } (yielded ops a.tmps) = true then Oper.wp P { dst := dst, op := op, type := ty, pos := p, after := af, guard := g } a w K' Q else K' (a.put dst undef) w)
    (h' : ∀ K' : Act → World → Prop, Shut (∀ a w, S w → (S w → wpAnyH P md ops Q S fuel (listed.setIfInBounds j true) a w) → K' a w) → if Region.wanted { dst := dst', op := op', type := ty', pos := p', after := af', guard := g' } (yielded ops a.tmps) = true then Oper.wp P { dst := dst', op := op', type := ty', pos := p', after := af', guard := g' } a w K' Q else K' (a.put dst' undef) w) : wpAnyH P md ops Q S (fuel + 1) listed a w :=
  wpAnyH_ready hr (by simp) (AllReadyH.cons hi h (AllReadyH.cons hj h' AllReadyH.nil))

set_option maxRecDepth 20000 in
set_option maxHeartbeats 6400000 in
theorem rread_yes (b off cap : Nat) (l : List Int) (n0 n1 n2 n3 n4 n5 n6 n7 n8 n9 : Int) (w : World) (hl : l.length = 64) (hcap : 64 ≤ cap) (hr : ∀ x ∈ l, 0 ≤ x ∧ x < 256) (hc : ∀ i, i < l.length → w.cell? ⟨b, off + i, none⟩ = some (.int .u8 (l.getD i 0))) (hv : headV l = [n0, n1, n2, n3, n4, n5, n6, n7, n8, n9]) (r0 r1 r2 r3 r4 r5 r6 r7 r8 r9 E : Int) (hE : Hid (rdE l = E)) (hV : Hid (rdV l = [r0, r1, r2, r3, r4, r5, r6, r7, r8, r9])) :
    Calls Try.prog 21 #[.slice (some ⟨b, off, none⟩) 64 cap] w fun e w' => e = .returned (.tuple #[headW' r0 r1 r2 r3 r4 r5 r6 r7 r8 r9, .int .i64 E]) ∧ Kept w w' := by
  have H1 := HBx.new w 0 0 0 0 0 0 0 0 0 0
  obtain ⟨wa, hwa⟩ : ∃ wa, w.alloc (headO 0 0 0 0 0 0 0 0 0 0) = wa := ⟨_, rfl⟩
  rw [hwa] at H1
  have kA : Kept w wa := by rw [← hwa]; exact Kept.alloc _ _
  have sA : wa.heap.size = w.heap.size + 1 := by rw [← hwa]; simp
  have hN : ∀ w', Kept w w' → ∀ k, k < 10 → ∀ cap, Calls Try.prog 36 #[.slice (some ⟨b, off + offS k, none⟩) (headS.getD k 0) cap] w' fun e w'' => e = .returned (.int .i64 ((headV l).getD k 0)) ∧ w'' = w' := fun w' kw k hk cap =>
    num_at b off cap l (offS k) (headS.getD k 0) _ w' hl hr (fun i hi => kw.cell (hc i hi)) (by rcases headS_at k hk with e | e <;> rw [e] <;> decide) (offS_le hk) (headV_at l hk).symm
  rw [hv] at hN
  have N0 : ∀ w', Kept w w' → Calls Try.prog 36 #[.slice (some ⟨b, off, none⟩) 4 (cap)] w' fun e w'' => e = .returned (.int .i64 n0) ∧ w'' = w' := fun w' kw => hN w' kw 0 (by decide) _
  have N1 : ∀ w', Kept w w' → Calls Try.prog 36 #[.slice (some ⟨b, off + 4, none⟩) 4 (cap - 4)] w' fun e w'' => e = .returned (.int .i64 n1) ∧ w'' = w' := fun w' kw => hN w' kw 1 (by decide) _
  have N2 : ∀ w', Kept w w' → Calls Try.prog 36 #[.slice (some ⟨b, off + 8, none⟩) 8 (cap - 8)] w' fun e w'' => e = .returned (.int .i64 n2) ∧ w'' = w' := fun w' kw => hN w' kw 2 (by decide) _
  have N3 : ∀ w', Kept w w' → Calls Try.prog 36 #[.slice (some ⟨b, off + 16, none⟩) 8 (cap - 16)] w' fun e w'' => e = .returned (.int .i64 n3) ∧ w'' = w' := fun w' kw => hN w' kw 3 (by decide) _
  have N4 : ∀ w', Kept w w' → Calls Try.prog 36 #[.slice (some ⟨b, off + 24, none⟩) 8 (cap - 24)] w' fun e w'' => e = .returned (.int .i64 n4) ∧ w'' = w' := fun w' kw => hN w' kw 4 (by decide) _
  have N5 : ∀ w', Kept w w' → Calls Try.prog 36 #[.slice (some ⟨b, off + 32, none⟩) 8 (cap - 32)] w' fun e w'' => e = .returned (.int .i64 n5) ∧ w'' = w' := fun w' kw => hN w' kw 5 (by decide) _
  have N6 : ∀ w', Kept w w' → Calls Try.prog 36 #[.slice (some ⟨b, off + 40, none⟩) 4 (cap - 40)] w' fun e w'' => e = .returned (.int .i64 n6) ∧ w'' = w' := fun w' kw => hN w' kw 6 (by decide) _
  have N7 : ∀ w', Kept w w' → Calls Try.prog 36 #[.slice (some ⟨b, off + 44, none⟩) 4 (cap - 44)] w' fun e w'' => e = .returned (.int .i64 n7) ∧ w'' = w' := fun w' kw => hN w' kw 7 (by decide) _
  have N8 : ∀ w', Kept w w' → Calls Try.prog 36 #[.slice (some ⟨b, off + 48, none⟩) 8 (cap - 48)] w' fun e w'' => e = .returned (.int .i64 n8) ∧ w'' = w' := fun w' kw => hN w' kw 8 (by decide) _
  have N9 : ∀ w', Kept w w' → Calls Try.prog 36 #[.slice (some ⟨b, off + 56, none⟩) 8 (cap - 56)] w' fun e w'' => e = .returned (.int .i64 n9) ∧ w'' = w' := fun w' kw => hN w' kw 9 (by decide) _
  have g0 : (4 : Int) ≤ (cap : Int) := by omega
  have g1 : (8 : Int) ≤ (cap : Int) := by omega
  have g2 : (16 : Int) ≤ (cap : Int) := by omega
  have g3 : (24 : Int) ≤ (cap : Int) := by omega
  have g4 : (32 : Int) ≤ (cap : Int) := by omega
  have g5 : (40 : Int) ≤ (cap : Int) := by omega
  have g6 : (44 : Int) ≤ (cap : Int) := by omega
  have g7 : (48 : Int) ≤ (cap : Int) := by omega
  have g8 : (56 : Int) ≤ (cap : Int) := by omega
  have g9 : (64 : Int) ≤ (cap : Int) := by omega
  have q1 : ¬ cap = 4 := by omega
  obtain ⟨o1, ho1⟩ : ∃ o, off + 4 = o := ⟨_, rfl⟩
  obtain ⟨d1, hd1⟩ : ∃ o, cap - 4 = o := ⟨_, rfl⟩
  rw [ho1, hd1] at N1
  have q2 : ¬ cap = 8 := by omega
  obtain ⟨o2, ho2⟩ : ∃ o, off + 8 = o := ⟨_, rfl⟩
  obtain ⟨d2, hd2⟩ : ∃ o, cap - 8 = o := ⟨_, rfl⟩
  rw [ho2, hd2] at N2
  have q3 : ¬ cap = 16 := by omega
  obtain ⟨o3, ho3⟩ : ∃ o, off + 16 = o := ⟨_, rfl⟩
  obtain ⟨d3, hd3⟩ : ∃ o, cap - 16 = o := ⟨_, rfl⟩
  rw [ho3, hd3] at N3
  have q4 : ¬ cap = 24 := by omega
  obtain ⟨o4, ho4⟩ : ∃ o, off + 24 = o := ⟨_, rfl⟩
  obtain ⟨d4, hd4⟩ : ∃ o, cap - 24 = o := ⟨_, rfl⟩
  rw [ho4, hd4] at N4
  have q5 : ¬ cap = 32 := by omega
  obtain ⟨o5, ho5⟩ : ∃ o, off + 32 = o := ⟨_, rfl⟩
  obtain ⟨d5, hd5⟩ : ∃ o, cap - 32 = o := ⟨_, rfl⟩
  rw [ho5, hd5] at N5
  have q6 : ¬ cap = 40 := by omega
  obtain ⟨o6, ho6⟩ : ∃ o, off + 40 = o := ⟨_, rfl⟩
  obtain ⟨d6, hd6⟩ : ∃ o, cap - 40 = o := ⟨_, rfl⟩
  rw [ho6, hd6] at N6
  have q7 : ¬ cap = 44 := by omega
  obtain ⟨o7, ho7⟩ : ∃ o, off + 44 = o := ⟨_, rfl⟩
  obtain ⟨d7, hd7⟩ : ∃ o, cap - 44 = o := ⟨_, rfl⟩
  rw [ho7, hd7] at N7
  have q8 : ¬ cap = 48 := by omega
  obtain ⟨o8, ho8⟩ : ∃ o, off + 48 = o := ⟨_, rfl⟩
  obtain ⟨d8, hd8⟩ : ∃ o, cap - 48 = o := ⟨_, rfl⟩
  rw [ho8, hd8] at N8
  have q9 : ¬ cap = 56 := by omega
  obtain ⟨o9, ho9⟩ : ∃ o, off + 56 = o := ⟨_, rfl⟩
  obtain ⟨d9, hd9⟩ : ∃ o, cap - 56 = o := ⟨_, rfl⟩
  rw [ho9, hd9] at N9
  have k1 : Kept w wa.drew := kA.trans (kept_drew _)
  have k2 : ∀ o, Kept w (wa.alloc o).drew := fun o => (kA.trans (Kept.alloc _ o)).trans (kept_drew _)
  clear hN hc hr
  go_enter Try.func21, Try.ntmps21
  go_upto_region 3 with fail
  go_cut [4] (fun v wx => v = .pointer (some ⟨w.heap.size + 1, 0, none⟩) ∧ wx = (wa.alloc (headO n0 n1 n2 n3 n4 n5 n6 n7 n8 n9)).drew)
  case first =>
    refine wp_region_noPanic ?_
    refine wp_region_held_drew (S := fun _ => True) (by kernel_rfl) trivial (fun _ => ?_)
    refine takeW 0 (v := ?_) rfl (by kernel_rfl) (by kernel_rfl) (by kernel_rfl) (fun _ _ _ h => h) (Or.inl ⟨by rfl, ?_⟩) trivial ?_
    rotate_left
    · (intro w hSw; go_simp; with_reducible rfl)
    try simp only [Act.put, List.setIfInBounds_toArray, List.set_cons_zero, List.set_cons_succ]
    refine takeW 1 (v := ?_) rfl (by kernel_rfl) (by kernel_rfl) (by kernel_rfl) (fun _ _ _ h => h) (Or.inl ⟨by rfl, ?_⟩) trivial ?_
    rotate_left
    · (intro w hSw; go_simp; with_reducible rfl)
    try simp only [Act.put, List.setIfInBounds_toArray, List.set_cons_zero, List.set_cons_succ]
    refine takeW 3 (v := ?_) rfl (by kernel_rfl) (by kernel_rfl) (by kernel_rfl) (fun _ _ _ h => h) (Or.inl ⟨by rfl, ?_⟩) trivial ?_
    rotate_left
    · (intro w hSw; go_simp; with_reducible rfl)
    try simp only [Act.put, List.setIfInBounds_toArray, List.set_cons_zero, List.set_cons_succ]
    refine takeW 4 (v := ?_) rfl (by kernel_rfl) (by kernel_rfl) (by kernel_rfl) (fun _ _ _ h => h) (Or.inl ⟨by rfl, ?_⟩) trivial ?_
    rotate_left
    · (intro w hSw; go_simp; with_reducible rfl)
    try simp only [Act.put, List.setIfInBounds_toArray, List.set_cons_zero, List.set_cons_succ]
    refine takeW 6 (v := ?_) rfl (by kernel_rfl) (by kernel_rfl) (by kernel_rfl) (fun _ _ _ h => h) (Or.inl ⟨by rfl, ?_⟩) trivial ?_
    rotate_left
    · (intro w hSw; go_simp; with_reducible rfl)
    try simp only [Act.put, List.setIfInBounds_toArray, List.set_cons_zero, List.set_cons_succ]
    refine takeW 7 (v := ?_) rfl (by kernel_rfl) (by kernel_rfl) (by kernel_rfl) (fun _ _ _ h => h) (Or.inl ⟨by rfl, ?_⟩) trivial ?_
    rotate_left
    · (intro w hSw; go_simp; with_reducible rfl)
    try simp only [Act.put, List.setIfInBounds_toArray, List.set_cons_zero, List.set_cons_succ]
    refine takeW 9 (v := ?_) rfl (by kernel_rfl) (by kernel_rfl) (by kernel_rfl) (fun _ _ _ h => h) (Or.inl ⟨by rfl, ?_⟩) trivial ?_
    rotate_left
    · (intro w hSw; go_simp; with_reducible rfl)
    try simp only [Act.put, List.setIfInBounds_toArray, List.set_cons_zero, List.set_cons_succ]
    refine takeW 10 (v := ?_) rfl (by kernel_rfl) (by kernel_rfl) (by kernel_rfl) (fun _ _ _ h => h) (Or.inl ⟨by rfl, ?_⟩) trivial ?_
    rotate_left
    · (intro w hSw; go_simp; with_reducible rfl)
    try simp only [Act.put, List.setIfInBounds_toArray, List.set_cons_zero, List.set_cons_succ]
    refine takeW 12 (v := ?_) rfl (by kernel_rfl) (by kernel_rfl) (by kernel_rfl) (fun _ _ _ h => h) (Or.inl ⟨by rfl, ?_⟩) trivial ?_
    rotate_left
    · (intro w hSw; go_simp; with_reducible rfl)
    try simp only [Act.put, List.setIfInBounds_toArray, List.set_cons_zero, List.set_cons_succ]
    refine takeW 13 (v := ?_) rfl (by kernel_rfl) (by kernel_rfl) (by kernel_rfl) (fun _ _ _ h => h) (Or.inl ⟨by rfl, ?_⟩) trivial ?_
    rotate_left
    · (intro w hSw; go_simp; with_reducible rfl)
    try simp only [Act.put, List.setIfInBounds_toArray, List.set_cons_zero, List.set_cons_succ]
    refine takeW 15 (v := ?_) rfl (by kernel_rfl) (by kernel_rfl) (by kernel_rfl) (fun _ _ _ h => h) (Or.inl ⟨by rfl, ?_⟩) trivial ?_
    rotate_left
    · (intro w hSw; go_simp; with_reducible rfl)
    try simp only [Act.put, List.setIfInBounds_toArray, List.set_cons_zero, List.set_cons_succ]
    refine takeW 16 (v := ?_) rfl (by kernel_rfl) (by kernel_rfl) (by kernel_rfl) (fun _ _ _ h => h) (Or.inl ⟨by rfl, ?_⟩) trivial ?_
    rotate_left
    · (intro w hSw; go_simp; with_reducible rfl)
    try simp only [Act.put, List.setIfInBounds_toArray, List.set_cons_zero, List.set_cons_succ]
    refine takeW 18 (v := ?_) rfl (by kernel_rfl) (by kernel_rfl) (by kernel_rfl) (fun _ _ _ h => h) (Or.inl ⟨by rfl, ?_⟩) trivial ?_
    rotate_left
    · (intro w hSw; go_simp; with_reducible rfl)
    try simp only [Act.put, List.setIfInBounds_toArray, List.set_cons_zero, List.set_cons_succ]
    refine takeW 19 (v := ?_) rfl (by kernel_rfl) (by kernel_rfl) (by kernel_rfl) (fun _ _ _ h => h) (Or.inl ⟨by rfl, ?_⟩) trivial ?_
    rotate_left
    · (intro w hSw; go_simp; with_reducible rfl)
    try simp only [Act.put, List.setIfInBounds_toArray, List.set_cons_zero, List.set_cons_succ]
    refine takeW 21 (v := ?_) rfl (by kernel_rfl) (by kernel_rfl) (by kernel_rfl) (fun _ _ _ h => h) (Or.inl ⟨by rfl, ?_⟩) trivial ?_
    rotate_left
    · (intro w hSw; go_simp; with_reducible rfl)
    try simp only [Act.put, List.setIfInBounds_toArray, List.set_cons_zero, List.set_cons_succ]
    refine takeW 22 (v := ?_) rfl (by kernel_rfl) (by kernel_rfl) (by kernel_rfl) (fun _ _ _ h => h) (Or.inl ⟨by rfl, ?_⟩) trivial ?_
    rotate_left
    · (intro w hSw; go_simp; with_reducible rfl)
    try simp only [Act.put, List.setIfInBounds_toArray, List.set_cons_zero, List.set_cons_succ]
    refine takeW 24 (v := ?_) rfl (by kernel_rfl) (by kernel_rfl) (by kernel_rfl) (fun _ _ _ h => h) (Or.inl ⟨by rfl, ?_⟩) trivial ?_
    rotate_left
    · (intro w hSw; go_simp; with_reducible rfl)
    try simp only [Act.put, List.setIfInBounds_toArray, List.set_cons_zero, List.set_cons_succ]
    refine takeW 25 (v := ?_) rfl (by kernel_rfl) (by kernel_rfl) (by kernel_rfl) (fun _ _ _ h => h) (Or.inl ⟨by rfl, ?_⟩) trivial ?_
    rotate_left
    · (intro w hSw; go_simp; with_reducible rfl)
    try simp only [Act.put, List.setIfInBounds_toArray, List.set_cons_zero, List.set_cons_succ]
    refine takeW 27 (v := ?_) rfl (by kernel_rfl) (by kernel_rfl) (by kernel_rfl) (fun _ _ _ h => h) (Or.inl ⟨by rfl, ?_⟩) trivial ?_
    rotate_left
    · (intro w hSw; go_simp; with_reducible rfl)
    try simp only [Act.put, List.setIfInBounds_toArray, List.set_cons_zero, List.set_cons_succ]
    refine takeW 28 (v := ?_) rfl (by kernel_rfl) (by kernel_rfl) (by kernel_rfl) (fun _ _ _ h => h) (Or.inl ⟨by rfl, ?_⟩) trivial ?_
    rotate_left
    · (intro w hSw; go_simp; with_reducible rfl)
    try simp only [Act.put, List.setIfInBounds_toArray, List.set_cons_zero, List.set_cons_succ]
    refine twoW 2 31 rfl rfl (by kernel_rfl) (fun K hK => ?_) (fun K hK => ?_)
    · skip
      go_simp
      refine (N0 _ k1).mono ?_
      rintro e w9 ⟨rfl, hw9⟩
      have hw8 := hw9.symm
      subst hw8
      clear hw9
      go_wp2_with fail
      refine hK.out _ _ trivial (fun _ => ?_)
      clear hK K
      try simp only [Act.put, List.setIfInBounds_toArray, List.set_cons_zero, List.set_cons_succ]
      refine twoW 5 31 rfl rfl (by kernel_rfl) (fun K hK => ?_) (fun K hK => ?_)
      · skip
        go_simp
        refine (N1 _ k1).mono ?_
        rintro e w9 ⟨rfl, hw9⟩
        have hw8 := hw9.symm
        subst hw8
        clear hw9
        go_wp2_with fail
        refine hK.out _ _ trivial (fun _ => ?_)
        clear hK K
        try simp only [Act.put, List.setIfInBounds_toArray, List.set_cons_zero, List.set_cons_succ]
        refine twoW 8 31 rfl rfl (by kernel_rfl) (fun K hK => ?_) (fun K hK => ?_)
        · skip
          go_simp
          refine (N2 _ k1).mono ?_
          rintro e w9 ⟨rfl, hw9⟩
          have hw8 := hw9.symm
          subst hw8
          clear hw9
          go_wp2_with fail
          refine hK.out _ _ trivial (fun _ => ?_)
          clear hK K
          try simp only [Act.put, List.setIfInBounds_toArray, List.set_cons_zero, List.set_cons_succ]
          refine twoW 11 31 rfl rfl (by kernel_rfl) (fun K hK => ?_) (fun K hK => ?_)
          · skip
            go_simp
            refine (N3 _ k1).mono ?_
            rintro e w9 ⟨rfl, hw9⟩
            have hw8 := hw9.symm
            subst hw8
            clear hw9
            go_wp2_with fail
            refine hK.out _ _ trivial (fun _ => ?_)
            clear hK K
            try simp only [Act.put, List.setIfInBounds_toArray, List.set_cons_zero, List.set_cons_succ]
            refine twoW 14 31 rfl rfl (by kernel_rfl) (fun K hK => ?_) (fun K hK => ?_)
            · skip
              go_simp
              refine (N4 _ k1).mono ?_
              rintro e w9 ⟨rfl, hw9⟩
              have hw8 := hw9.symm
              subst hw8
              clear hw9
              go_wp2_with fail
              refine hK.out _ _ trivial (fun _ => ?_)
              clear hK K
              try simp only [Act.put, List.setIfInBounds_toArray, List.set_cons_zero, List.set_cons_succ]
              refine twoW 17 31 rfl rfl (by kernel_rfl) (fun K hK => ?_) (fun K hK => ?_)
              · skip
                go_simp
                refine (N5 _ k1).mono ?_
                rintro e w9 ⟨rfl, hw9⟩
                have hw8 := hw9.symm
                subst hw8
                clear hw9
                go_wp2_with fail
                refine hK.out _ _ trivial (fun _ => ?_)
                clear hK K
                try simp only [Act.put, List.setIfInBounds_toArray, List.set_cons_zero, List.set_cons_succ]
                refine twoW 20 31 rfl rfl (by kernel_rfl) (fun K hK => ?_) (fun K hK => ?_)
                · skip
                  go_simp
                  refine (N6 _ k1).mono ?_
                  rintro e w9 ⟨rfl, hw9⟩
                  have hw8 := hw9.symm
                  subst hw8
                  clear hw9
                  go_wp2_with fail
                  refine hK.out _ _ trivial (fun _ => ?_)
                  clear hK K
                  try simp only [Act.put, List.setIfInBounds_toArray, List.set_cons_zero, List.set_cons_succ]
                  refine twoW 23 31 rfl rfl (by kernel_rfl) (fun K hK => ?_) (fun K hK => ?_)
                  · skip
                    go_simp
                    refine (N7 _ k1).mono ?_
                    rintro e w9 ⟨rfl, hw9⟩
                    have hw8 := hw9.symm
                    subst hw8
                    clear hw9
                    go_wp2_with fail
                    refine hK.out _ _ trivial (fun _ => ?_)
                    clear hK K
                    try simp only [Act.put, List.setIfInBounds_toArray, List.set_cons_zero, List.set_cons_succ]
                    refine twoW 26 31 rfl rfl (by kernel_rfl) (fun K hK => ?_) (fun K hK => ?_)
                    · skip
                      go_simp
                      refine (N8 _ k1).mono ?_
                      rintro e w9 ⟨rfl, hw9⟩
                      have hw8 := hw9.symm
                      subst hw8
                      clear hw9
                      go_wp2_with fail
                      refine hK.out _ _ trivial (fun _ => ?_)
                      clear hK K
                      try simp only [Act.put, List.setIfInBounds_toArray, List.set_cons_zero, List.set_cons_succ]
                      refine twoW 29 31 rfl rfl (by kernel_rfl) (fun K hK => ?_) (fun K hK => ?_)
                      · skip
                        go_simp
                        refine (N9 _ k1).mono ?_
                        rintro e w9 ⟨rfl, hw9⟩
                        have hw8 := hw9.symm
                        subst hw8
                        clear hw9
                        go_wp2_with fail
                        refine hK.out _ _ trivial (fun _ => ?_)
                        clear hK K
                        try simp only [Act.put, List.setIfInBounds_toArray, List.set_cons_zero, List.set_cons_succ]
                        refine takeW 30 (v := ?_) rfl (by kernel_rfl) (by kernel_rfl) (by kernel_rfl) (fun _ _ _ h => h) (Or.inl ⟨by rfl, ?_⟩) trivial ?_
                        rotate_left
                        · (intro w hSw; go_simp; with_reducible rfl)
                        try simp only [Act.put, List.setIfInBounds_toArray, List.set_cons_zero, List.set_cons_succ]
                        refine oneW 31 rfl (by kernel_rfl) (fun K hK => ?_)
                        go_simp
                        refine hK.out _ _ trivial (fun _ => ?_)
                        clear hK K
                        try simp only [Act.put, List.setIfInBounds_toArray, List.set_cons_zero, List.set_cons_succ]
                        refine oneW 32 rfl (by kernel_rfl) (fun K hK => ?_)
                        go_simp
                        refine hK.out _ _ trivial (fun _ => ?_)
                        clear hK K
                        try simp only [Act.put, List.setIfInBounds_toArray, List.set_cons_zero, List.set_cons_succ]
                        refine wpAnyH_done (by kernel_rfl) ?_ _
                        refine NoPanic.normal ?_
                        go_wp2_with fail; go_meet; exact ⟨rfl, rfl⟩
                      · skip
                        go_simp
                        refine hK.out _ _ trivial (fun _ => ?_)
                        clear hK K
                        try simp only [Act.put, List.setIfInBounds_toArray, List.set_cons_zero, List.set_cons_succ]
                        refine oneW 29 rfl (by kernel_rfl) (fun K hK => ?_)
                        go_simp
                        refine (N9 _ (k2 _)).mono ?_
                        rintro e w9 ⟨rfl, hw9⟩
                        have hw8 := hw9.symm
                        subst hw8
                        clear hw9
                        go_wp2_with fail
                        refine hK.out _ _ trivial (fun _ => ?_)
                        clear hK K
                        try simp only [Act.put, List.setIfInBounds_toArray, List.set_cons_zero, List.set_cons_succ]
                        refine takeW 30 (v := ?_) rfl (by kernel_rfl) (by kernel_rfl) (by kernel_rfl) (fun _ _ _ h => h) (Or.inl ⟨by rfl, ?_⟩) trivial ?_
                        rotate_left
                        · (intro w hSw; go_simp; with_reducible rfl)
                        try simp only [Act.put, List.setIfInBounds_toArray, List.set_cons_zero, List.set_cons_succ]
                        refine oneW 32 rfl (by kernel_rfl) (fun K hK => ?_)
                        go_simp
                        refine hK.out _ _ trivial (fun _ => ?_)
                        clear hK K
                        try simp only [Act.put, List.setIfInBounds_toArray, List.set_cons_zero, List.set_cons_succ]
                        refine wpAnyH_done (by kernel_rfl) ?_ _
                        refine NoPanic.normal ?_
                        go_wp2_with fail; go_meet; exact ⟨rfl, rfl⟩
                    · skip
                      go_simp
                      refine hK.out _ _ trivial (fun _ => ?_)
                      clear hK K
                      try simp only [Act.put, List.setIfInBounds_toArray, List.set_cons_zero, List.set_cons_succ]
                      refine oneW 26 rfl (by kernel_rfl) (fun K hK => ?_)
                      go_simp
                      refine (N8 _ (k2 _)).mono ?_
                      rintro e w9 ⟨rfl, hw9⟩
                      have hw8 := hw9.symm
                      subst hw8
                      clear hw9
                      go_wp2_with fail
                      refine hK.out _ _ trivial (fun _ => ?_)
                      clear hK K
                      try simp only [Act.put, List.setIfInBounds_toArray, List.set_cons_zero, List.set_cons_succ]
                      refine oneW 29 rfl (by kernel_rfl) (fun K hK => ?_)
                      go_simp
                      refine (N9 _ (k2 _)).mono ?_
                      rintro e w9 ⟨rfl, hw9⟩
                      have hw8 := hw9.symm
                      subst hw8
                      clear hw9
                      go_wp2_with fail
                      refine hK.out _ _ trivial (fun _ => ?_)
                      clear hK K
                      try simp only [Act.put, List.setIfInBounds_toArray, List.set_cons_zero, List.set_cons_succ]
                      refine takeW 30 (v := ?_) rfl (by kernel_rfl) (by kernel_rfl) (by kernel_rfl) (fun _ _ _ h => h) (Or.inl ⟨by rfl, ?_⟩) trivial ?_
                      rotate_left
                      · (intro w hSw; go_simp; with_reducible rfl)
                      try simp only [Act.put, List.setIfInBounds_toArray, List.set_cons_zero, List.set_cons_succ]
                      refine oneW 32 rfl (by kernel_rfl) (fun K hK => ?_)
                      go_simp
                      refine hK.out _ _ trivial (fun _ => ?_)
                      clear hK K
                      try simp only [Act.put, List.setIfInBounds_toArray, List.set_cons_zero, List.set_cons_succ]
                      refine wpAnyH_done (by kernel_rfl) ?_ _
                      refine NoPanic.normal ?_
                      go_wp2_with fail; go_meet; exact ⟨rfl, rfl⟩
                  · skip
                    go_simp
                    refine hK.out _ _ trivial (fun _ => ?_)
                    clear hK K
                    try simp only [Act.put, List.setIfInBounds_toArray, List.set_cons_zero, List.set_cons_succ]
                    refine oneW 23 rfl (by kernel_rfl) (fun K hK => ?_)
                    go_simp
                    refine (N7 _ (k2 _)).mono ?_
                    rintro e w9 ⟨rfl, hw9⟩
                    have hw8 := hw9.symm
                    subst hw8
                    clear hw9
                    go_wp2_with fail
                    refine hK.out _ _ trivial (fun _ => ?_)
                    clear hK K
                    try simp only [Act.put, List.setIfInBounds_toArray, List.set_cons_zero, List.set_cons_succ]
                    refine oneW 26 rfl (by kernel_rfl) (fun K hK => ?_)
                    go_simp
                    refine (N8 _ (k2 _)).mono ?_
                    rintro e w9 ⟨rfl, hw9⟩
                    have hw8 := hw9.symm
                    subst hw8
                    clear hw9
                    go_wp2_with fail
                    refine hK.out _ _ trivial (fun _ => ?_)
                    clear hK K
                    try simp only [Act.put, List.setIfInBounds_toArray, List.set_cons_zero, List.set_cons_succ]
                    refine oneW 29 rfl (by kernel_rfl) (fun K hK => ?_)
                    go_simp
                    refine (N9 _ (k2 _)).mono ?_
                    rintro e w9 ⟨rfl, hw9⟩
                    have hw8 := hw9.symm
                    subst hw8
                    clear hw9
                    go_wp2_with fail
                    refine hK.out _ _ trivial (fun _ => ?_)
                    clear hK K
                    try simp only [Act.put, List.setIfInBounds_toArray, List.set_cons_zero, List.set_cons_succ]
                    refine takeW 30 (v := ?_) rfl (by kernel_rfl) (by kernel_rfl) (by kernel_rfl) (fun _ _ _ h => h) (Or.inl ⟨by rfl, ?_⟩) trivial ?_
                    rotate_left
                    · (intro w hSw; go_simp; with_reducible rfl)
                    try simp only [Act.put, List.setIfInBounds_toArray, List.set_cons_zero, List.set_cons_succ]
                    refine oneW 32 rfl (by kernel_rfl) (fun K hK => ?_)
                    go_simp
                    refine hK.out _ _ trivial (fun _ => ?_)
                    clear hK K
                    try simp only [Act.put, List.setIfInBounds_toArray, List.set_cons_zero, List.set_cons_succ]
                    refine wpAnyH_done (by kernel_rfl) ?_ _
                    refine NoPanic.normal ?_
                    go_wp2_with fail; go_meet; exact ⟨rfl, rfl⟩
                · skip
                  go_simp
                  refine hK.out _ _ trivial (fun _ => ?_)
                  clear hK K
                  try simp only [Act.put, List.setIfInBounds_toArray, List.set_cons_zero, List.set_cons_succ]
                  refine oneW 20 rfl (by kernel_rfl) (fun K hK => ?_)
                  go_simp
                  refine (N6 _ (k2 _)).mono ?_
                  rintro e w9 ⟨rfl, hw9⟩
                  have hw8 := hw9.symm
                  subst hw8
                  clear hw9
                  go_wp2_with fail
                  refine hK.out _ _ trivial (fun _ => ?_)
                  clear hK K
                  try simp only [Act.put, List.setIfInBounds_toArray, List.set_cons_zero, List.set_cons_succ]
                  refine oneW 23 rfl (by kernel_rfl) (fun K hK => ?_)
                  go_simp
                  refine (N7 _ (k2 _)).mono ?_
                  rintro e w9 ⟨rfl, hw9⟩
                  have hw8 := hw9.symm
                  subst hw8
                  clear hw9
                  go_wp2_with fail
                  refine hK.out _ _ trivial (fun _ => ?_)
                  clear hK K
                  try simp only [Act.put, List.setIfInBounds_toArray, List.set_cons_zero, List.set_cons_succ]
                  refine oneW 26 rfl (by kernel_rfl) (fun K hK => ?_)
                  go_simp
                  refine (N8 _ (k2 _)).mono ?_
                  rintro e w9 ⟨rfl, hw9⟩
                  have hw8 := hw9.symm
                  subst hw8
                  clear hw9
                  go_wp2_with fail
                  refine hK.out _ _ trivial (fun _ => ?_)
                  clear hK K
                  try simp only [Act.put, List.setIfInBounds_toArray, List.set_cons_zero, List.set_cons_succ]
                  refine oneW 29 rfl (by kernel_rfl) (fun K hK => ?_)
                  go_simp
                  refine (N9 _ (k2 _)).mono ?_
                  rintro e w9 ⟨rfl, hw9⟩
                  have hw8 := hw9.symm
                  subst hw8
                  clear hw9
                  go_wp2_with fail
                  refine hK.out _ _ trivial (fun _ => ?_)
                  clear hK K
                  try simp only [Act.put, List.setIfInBounds_toArray, List.set_cons_zero, List.set_cons_succ]
                  refine takeW 30 (v := ?_) rfl (by kernel_rfl) (by kernel_rfl) (by kernel_rfl) (fun _ _ _ h => h) (Or.inl ⟨by rfl, ?_⟩) trivial ?_
                  rotate_left
                  · (intro w hSw; go_simp; with_reducible rfl)
                  try simp only [Act.put, List.setIfInBounds_toArray, List.set_cons_zero, List.set_cons_succ]
                  refine oneW 32 rfl (by kernel_rfl) (fun K hK => ?_)
                  go_simp
                  refine hK.out _ _ trivial (fun _ => ?_)
                  clear hK K
                  try simp only [Act.put, List.setIfInBounds_toArray, List.set_cons_zero, List.set_cons_succ]
                  refine wpAnyH_done (by kernel_rfl) ?_ _
                  refine NoPanic.normal ?_
                  go_wp2_with fail; go_meet; exact ⟨rfl, rfl⟩
              · skip
                go_simp
                refine hK.out _ _ trivial (fun _ => ?_)
                clear hK K
                try simp only [Act.put, List.setIfInBounds_toArray, List.set_cons_zero, List.set_cons_succ]
                refine oneW 17 rfl (by kernel_rfl) (fun K hK => ?_)
                go_simp
                refine (N5 _ (k2 _)).mono ?_
                rintro e w9 ⟨rfl, hw9⟩
                have hw8 := hw9.symm
                subst hw8
                clear hw9
                go_wp2_with fail
                refine hK.out _ _ trivial (fun _ => ?_)
                clear hK K
                try simp only [Act.put, List.setIfInBounds_toArray, List.set_cons_zero, List.set_cons_succ]
                refine oneW 20 rfl (by kernel_rfl) (fun K hK => ?_)
                go_simp
                refine (N6 _ (k2 _)).mono ?_
                rintro e w9 ⟨rfl, hw9⟩
                have hw8 := hw9.symm
                subst hw8
                clear hw9
                go_wp2_with fail
                refine hK.out _ _ trivial (fun _ => ?_)
                clear hK K
                try simp only [Act.put, List.setIfInBounds_toArray, List.set_cons_zero, List.set_cons_succ]
                refine oneW 23 rfl (by kernel_rfl) (fun K hK => ?_)
                go_simp
                refine (N7 _ (k2 _)).mono ?_
                rintro e w9 ⟨rfl, hw9⟩
                have hw8 := hw9.symm
                subst hw8
                clear hw9
                go_wp2_with fail
                refine hK.out _ _ trivial (fun _ => ?_)
                clear hK K
                try simp only [Act.put, List.setIfInBounds_toArray, List.set_cons_zero, List.set_cons_succ]
                refine oneW 26 rfl (by kernel_rfl) (fun K hK => ?_)
                go_simp
                refine (N8 _ (k2 _)).mono ?_
                rintro e w9 ⟨rfl, hw9⟩
                have hw8 := hw9.symm
                subst hw8
                clear hw9
                go_wp2_with fail
                refine hK.out _ _ trivial (fun _ => ?_)
                clear hK K
                try simp only [Act.put, List.setIfInBounds_toArray, List.set_cons_zero, List.set_cons_succ]
                refine oneW 29 rfl (by kernel_rfl) (fun K hK => ?_)
                go_simp
                refine (N9 _ (k2 _)).mono ?_
                rintro e w9 ⟨rfl, hw9⟩
                have hw8 := hw9.symm
                subst hw8
                clear hw9
                go_wp2_with fail
                refine hK.out _ _ trivial (fun _ => ?_)
                clear hK K
                try simp only [Act.put, List.setIfInBounds_toArray, List.set_cons_zero, List.set_cons_succ]
                refine takeW 30 (v := ?_) rfl (by kernel_rfl) (by kernel_rfl) (by kernel_rfl) (fun _ _ _ h => h) (Or.inl ⟨by rfl, ?_⟩) trivial ?_
                rotate_left
                · (intro w hSw; go_simp; with_reducible rfl)
                try simp only [Act.put, List.setIfInBounds_toArray, List.set_cons_zero, List.set_cons_succ]
                refine oneW 32 rfl (by kernel_rfl) (fun K hK => ?_)
                go_simp
                refine hK.out _ _ trivial (fun _ => ?_)
                clear hK K
                try simp only [Act.put, List.setIfInBounds_toArray, List.set_cons_zero, List.set_cons_succ]
                refine wpAnyH_done (by kernel_rfl) ?_ _
                refine NoPanic.normal ?_
                go_wp2_with fail; go_meet; exact ⟨rfl, rfl⟩
            · skip
              go_simp
              refine hK.out _ _ trivial (fun _ => ?_)
              clear hK K
              try simp only [Act.put, List.setIfInBounds_toArray, List.set_cons_zero, List.set_cons_succ]
              refine oneW 14 rfl (by kernel_rfl) (fun K hK => ?_)
              go_simp
              refine (N4 _ (k2 _)).mono ?_
              rintro e w9 ⟨rfl, hw9⟩
              have hw8 := hw9.symm
              subst hw8
              clear hw9
              go_wp2_with fail
              refine hK.out _ _ trivial (fun _ => ?_)
              clear hK K
              try simp only [Act.put, List.setIfInBounds_toArray, List.set_cons_zero, List.set_cons_succ]
              refine oneW 17 rfl (by kernel_rfl) (fun K hK => ?_)
              go_simp
              refine (N5 _ (k2 _)).mono ?_
              rintro e w9 ⟨rfl, hw9⟩
              have hw8 := hw9.symm
              subst hw8
              clear hw9
              go_wp2_with fail
              refine hK.out _ _ trivial (fun _ => ?_)
              clear hK K
              try simp only [Act.put, List.setIfInBounds_toArray, List.set_cons_zero, List.set_cons_succ]
              refine oneW 20 rfl (by kernel_rfl) (fun K hK => ?_)
              go_simp
              refine (N6 _ (k2 _)).mono ?_
              rintro e w9 ⟨rfl, hw9⟩
              have hw8 := hw9.symm
              subst hw8
              clear hw9
              go_wp2_with fail
              refine hK.out _ _ trivial (fun _ => ?_)
              clear hK K
              try simp only [Act.put, List.setIfInBounds_toArray, List.set_cons_zero, List.set_cons_succ]
              refine oneW 23 rfl (by kernel_rfl) (fun K hK => ?_)
              go_simp
              refine (N7 _ (k2 _)).mono ?_
              rintro e w9 ⟨rfl, hw9⟩
              have hw8 := hw9.symm
              subst hw8
              clear hw9
              go_wp2_with fail
              refine hK.out _ _ trivial (fun _ => ?_)
              clear hK K
              try simp only [Act.put, List.setIfInBounds_toArray, List.set_cons_zero, List.set_cons_succ]
              refine oneW 26 rfl (by kernel_rfl) (fun K hK => ?_)
              go_simp
              refine (N8 _ (k2 _)).mono ?_
              rintro e w9 ⟨rfl, hw9⟩
              have hw8 := hw9.symm
              subst hw8
              clear hw9
              go_wp2_with fail
              refine hK.out _ _ trivial (fun _ => ?_)
              clear hK K
              try simp only [Act.put, List.setIfInBounds_toArray, List.set_cons_zero, List.set_cons_succ]
              refine oneW 29 rfl (by kernel_rfl) (fun K hK => ?_)
              go_simp
              refine (N9 _ (k2 _)).mono ?_
              rintro e w9 ⟨rfl, hw9⟩
              have hw8 := hw9.symm
              subst hw8
              clear hw9
              go_wp2_with fail
              refine hK.out _ _ trivial (fun _ => ?_)
              clear hK K
              try simp only [Act.put, List.setIfInBounds_toArray, List.set_cons_zero, List.set_cons_succ]
              refine takeW 30 (v := ?_) rfl (by kernel_rfl) (by kernel_rfl) (by kernel_rfl) (fun _ _ _ h => h) (Or.inl ⟨by rfl, ?_⟩) trivial ?_
              rotate_left
              · (intro w hSw; go_simp; with_reducible rfl)
              try simp only [Act.put, List.setIfInBounds_toArray, List.set_cons_zero, List.set_cons_succ]
              refine oneW 32 rfl (by kernel_rfl) (fun K hK => ?_)
              go_simp
              refine hK.out _ _ trivial (fun _ => ?_)
              clear hK K
              try simp only [Act.put, List.setIfInBounds_toArray, List.set_cons_zero, List.set_cons_succ]
              refine wpAnyH_done (by kernel_rfl) ?_ _
              refine NoPanic.normal ?_
              go_wp2_with fail; go_meet; exact ⟨rfl, rfl⟩
          · skip
            go_simp
            refine hK.out _ _ trivial (fun _ => ?_)
            clear hK K
            try simp only [Act.put, List.setIfInBounds_toArray, List.set_cons_zero, List.set_cons_succ]
            refine oneW 11 rfl (by kernel_rfl) (fun K hK => ?_)
            go_simp
            refine (N3 _ (k2 _)).mono ?_
            rintro e w9 ⟨rfl, hw9⟩
            have hw8 := hw9.symm
            subst hw8
            clear hw9
            go_wp2_with fail
            refine hK.out _ _ trivial (fun _ => ?_)
            clear hK K
            try simp only [Act.put, List.setIfInBounds_toArray, List.set_cons_zero, List.set_cons_succ]
            refine oneW 14 rfl (by kernel_rfl) (fun K hK => ?_)
            go_simp
            refine (N4 _ (k2 _)).mono ?_
            rintro e w9 ⟨rfl, hw9⟩
            have hw8 := hw9.symm
            subst hw8
            clear hw9
            go_wp2_with fail
            refine hK.out _ _ trivial (fun _ => ?_)
            clear hK K
            try simp only [Act.put, List.setIfInBounds_toArray, List.set_cons_zero, List.set_cons_succ]
            refine oneW 17 rfl (by kernel_rfl) (fun K hK => ?_)
            go_simp
            refine (N5 _ (k2 _)).mono ?_
            rintro e w9 ⟨rfl, hw9⟩
            have hw8 := hw9.symm
            subst hw8
            clear hw9
            go_wp2_with fail
            refine hK.out _ _ trivial (fun _ => ?_)
            clear hK K
            try simp only [Act.put, List.setIfInBounds_toArray, List.set_cons_zero, List.set_cons_succ]
            refine oneW 20 rfl (by kernel_rfl) (fun K hK => ?_)
            go_simp
            refine (N6 _ (k2 _)).mono ?_
            rintro e w9 ⟨rfl, hw9⟩
            have hw8 := hw9.symm
            subst hw8
            clear hw9
            go_wp2_with fail
            refine hK.out _ _ trivial (fun _ => ?_)
            clear hK K
            try simp only [Act.put, List.setIfInBounds_toArray, List.set_cons_zero, List.set_cons_succ]
            refine oneW 23 rfl (by kernel_rfl) (fun K hK => ?_)
            go_simp
            refine (N7 _ (k2 _)).mono ?_
            rintro e w9 ⟨rfl, hw9⟩
            have hw8 := hw9.symm
            subst hw8
            clear hw9
            go_wp2_with fail
            refine hK.out _ _ trivial (fun _ => ?_)
            clear hK K
            try simp only [Act.put, List.setIfInBounds_toArray, List.set_cons_zero, List.set_cons_succ]
            refine oneW 26 rfl (by kernel_rfl) (fun K hK => ?_)
            go_simp
            refine (N8 _ (k2 _)).mono ?_
            rintro e w9 ⟨rfl, hw9⟩
            have hw8 := hw9.symm
            subst hw8
            clear hw9
            go_wp2_with fail
            refine hK.out _ _ trivial (fun _ => ?_)
            clear hK K
            try simp only [Act.put, List.setIfInBounds_toArray, List.set_cons_zero, List.set_cons_succ]
            refine oneW 29 rfl (by kernel_rfl) (fun K hK => ?_)
            go_simp
            refine (N9 _ (k2 _)).mono ?_
            rintro e w9 ⟨rfl, hw9⟩
            have hw8 := hw9.symm
            subst hw8
            clear hw9
            go_wp2_with fail
            refine hK.out _ _ trivial (fun _ => ?_)
            clear hK K
            try simp only [Act.put, List.setIfInBounds_toArray, List.set_cons_zero, List.set_cons_succ]
            refine takeW 30 (v := ?_) rfl (by kernel_rfl) (by kernel_rfl) (by kernel_rfl) (fun _ _ _ h => h) (Or.inl ⟨by rfl, ?_⟩) trivial ?_
            rotate_left
            · (intro w hSw; go_simp; with_reducible rfl)
            try simp only [Act.put, List.setIfInBounds_toArray, List.set_cons_zero, List.set_cons_succ]
            refine oneW 32 rfl (by kernel_rfl) (fun K hK => ?_)
            go_simp
            refine hK.out _ _ trivial (fun _ => ?_)
            clear hK K
            try simp only [Act.put, List.setIfInBounds_toArray, List.set_cons_zero, List.set_cons_succ]
            refine wpAnyH_done (by kernel_rfl) ?_ _
            refine NoPanic.normal ?_
            go_wp2_with fail; go_meet; exact ⟨rfl, rfl⟩
        · skip
          go_simp
          refine hK.out _ _ trivial (fun _ => ?_)
          clear hK K
          try simp only [Act.put, List.setIfInBounds_toArray, List.set_cons_zero, List.set_cons_succ]
          refine oneW 8 rfl (by kernel_rfl) (fun K hK => ?_)
          go_simp
          refine (N2 _ (k2 _)).mono ?_
          rintro e w9 ⟨rfl, hw9⟩
          have hw8 := hw9.symm
          subst hw8
          clear hw9
          go_wp2_with fail
          refine hK.out _ _ trivial (fun _ => ?_)
          clear hK K
          try simp only [Act.put, List.setIfInBounds_toArray, List.set_cons_zero, List.set_cons_succ]
          refine oneW 11 rfl (by kernel_rfl) (fun K hK => ?_)
          go_simp
          refine (N3 _ (k2 _)).mono ?_
          rintro e w9 ⟨rfl, hw9⟩
          have hw8 := hw9.symm
          subst hw8
          clear hw9
          go_wp2_with fail
          refine hK.out _ _ trivial (fun _ => ?_)
          clear hK K
          try simp only [Act.put, List.setIfInBounds_toArray, List.set_cons_zero, List.set_cons_succ]
          refine oneW 14 rfl (by kernel_rfl) (fun K hK => ?_)
          go_simp
          refine (N4 _ (k2 _)).mono ?_
          rintro e w9 ⟨rfl, hw9⟩
          have hw8 := hw9.symm
          subst hw8
          clear hw9
          go_wp2_with fail
          refine hK.out _ _ trivial (fun _ => ?_)
          clear hK K
          try simp only [Act.put, List.setIfInBounds_toArray, List.set_cons_zero, List.set_cons_succ]
          refine oneW 17 rfl (by kernel_rfl) (fun K hK => ?_)
          go_simp
          refine (N5 _ (k2 _)).mono ?_
          rintro e w9 ⟨rfl, hw9⟩
          have hw8 := hw9.symm
          subst hw8
          clear hw9
          go_wp2_with fail
          refine hK.out _ _ trivial (fun _ => ?_)
          clear hK K
          try simp only [Act.put, List.setIfInBounds_toArray, List.set_cons_zero, List.set_cons_succ]
          refine oneW 20 rfl (by kernel_rfl) (fun K hK => ?_)
          go_simp
          refine (N6 _ (k2 _)).mono ?_
          rintro e w9 ⟨rfl, hw9⟩
          have hw8 := hw9.symm
          subst hw8
          clear hw9
          go_wp2_with fail
          refine hK.out _ _ trivial (fun _ => ?_)
          clear hK K
          try simp only [Act.put, List.setIfInBounds_toArray, List.set_cons_zero, List.set_cons_succ]
          refine oneW 23 rfl (by kernel_rfl) (fun K hK => ?_)
          go_simp
          refine (N7 _ (k2 _)).mono ?_
          rintro e w9 ⟨rfl, hw9⟩
          have hw8 := hw9.symm
          subst hw8
          clear hw9
          go_wp2_with fail
          refine hK.out _ _ trivial (fun _ => ?_)
          clear hK K
          try simp only [Act.put, List.setIfInBounds_toArray, List.set_cons_zero, List.set_cons_succ]
          refine oneW 26 rfl (by kernel_rfl) (fun K hK => ?_)
          go_simp
          refine (N8 _ (k2 _)).mono ?_
          rintro e w9 ⟨rfl, hw9⟩
          have hw8 := hw9.symm
          subst hw8
          clear hw9
          go_wp2_with fail
          refine hK.out _ _ trivial (fun _ => ?_)
          clear hK K
          try simp only [Act.put, List.setIfInBounds_toArray, List.set_cons_zero, List.set_cons_succ]
          refine oneW 29 rfl (by kernel_rfl) (fun K hK => ?_)
          go_simp
          refine (N9 _ (k2 _)).mono ?_
          rintro e w9 ⟨rfl, hw9⟩
          have hw8 := hw9.symm
          subst hw8
          clear hw9
          go_wp2_with fail
          refine hK.out _ _ trivial (fun _ => ?_)
          clear hK K
          try simp only [Act.put, List.setIfInBounds_toArray, List.set_cons_zero, List.set_cons_succ]
          refine takeW 30 (v := ?_) rfl (by kernel_rfl) (by kernel_rfl) (by kernel_rfl) (fun _ _ _ h => h) (Or.inl ⟨by rfl, ?_⟩) trivial ?_
          rotate_left
          · (intro w hSw; go_simp; with_reducible rfl)
          try simp only [Act.put, List.setIfInBounds_toArray, List.set_cons_zero, List.set_cons_succ]
          refine oneW 32 rfl (by kernel_rfl) (fun K hK => ?_)
          go_simp
          refine hK.out _ _ trivial (fun _ => ?_)
          clear hK K
          try simp only [Act.put, List.setIfInBounds_toArray, List.set_cons_zero, List.set_cons_succ]
          refine wpAnyH_done (by kernel_rfl) ?_ _
          refine NoPanic.normal ?_
          go_wp2_with fail; go_meet; exact ⟨rfl, rfl⟩
      · skip
        go_simp
        refine hK.out _ _ trivial (fun _ => ?_)
        clear hK K
        try simp only [Act.put, List.setIfInBounds_toArray, List.set_cons_zero, List.set_cons_succ]
        refine oneW 5 rfl (by kernel_rfl) (fun K hK => ?_)
        go_simp
        refine (N1 _ (k2 _)).mono ?_
        rintro e w9 ⟨rfl, hw9⟩
        have hw8 := hw9.symm
        subst hw8
        clear hw9
        go_wp2_with fail
        refine hK.out _ _ trivial (fun _ => ?_)
        clear hK K
        try simp only [Act.put, List.setIfInBounds_toArray, List.set_cons_zero, List.set_cons_succ]
        refine oneW 8 rfl (by kernel_rfl) (fun K hK => ?_)
        go_simp
        refine (N2 _ (k2 _)).mono ?_
        rintro e w9 ⟨rfl, hw9⟩
        have hw8 := hw9.symm
        subst hw8
        clear hw9
        go_wp2_with fail
        refine hK.out _ _ trivial (fun _ => ?_)
        clear hK K
        try simp only [Act.put, List.setIfInBounds_toArray, List.set_cons_zero, List.set_cons_succ]
        refine oneW 11 rfl (by kernel_rfl) (fun K hK => ?_)
        go_simp
        refine (N3 _ (k2 _)).mono ?_
        rintro e w9 ⟨rfl, hw9⟩
        have hw8 := hw9.symm
        subst hw8
        clear hw9
        go_wp2_with fail
        refine hK.out _ _ trivial (fun _ => ?_)
        clear hK K
        try simp only [Act.put, List.setIfInBounds_toArray, List.set_cons_zero, List.set_cons_succ]
        refine oneW 14 rfl (by kernel_rfl) (fun K hK => ?_)
        go_simp
        refine (N4 _ (k2 _)).mono ?_
        rintro e w9 ⟨rfl, hw9⟩
        have hw8 := hw9.symm
        subst hw8
        clear hw9
        go_wp2_with fail
        refine hK.out _ _ trivial (fun _ => ?_)
        clear hK K
        try simp only [Act.put, List.setIfInBounds_toArray, List.set_cons_zero, List.set_cons_succ]
        refine oneW 17 rfl (by kernel_rfl) (fun K hK => ?_)
        go_simp
        refine (N5 _ (k2 _)).mono ?_
        rintro e w9 ⟨rfl, hw9⟩
        have hw8 := hw9.symm
        subst hw8
        clear hw9
        go_wp2_with fail
        refine hK.out _ _ trivial (fun _ => ?_)
        clear hK K
        try simp only [Act.put, List.setIfInBounds_toArray, List.set_cons_zero, List.set_cons_succ]
        refine oneW 20 rfl (by kernel_rfl) (fun K hK => ?_)
        go_simp
        refine (N6 _ (k2 _)).mono ?_
        rintro e w9 ⟨rfl, hw9⟩
        have hw8 := hw9.symm
        subst hw8
        clear hw9
        go_wp2_with fail
        refine hK.out _ _ trivial (fun _ => ?_)
        clear hK K
        try simp only [Act.put, List.setIfInBounds_toArray, List.set_cons_zero, List.set_cons_succ]
        refine oneW 23 rfl (by kernel_rfl) (fun K hK => ?_)
        go_simp
        refine (N7 _ (k2 _)).mono ?_
        rintro e w9 ⟨rfl, hw9⟩
        have hw8 := hw9.symm
        subst hw8
        clear hw9
        go_wp2_with fail
        refine hK.out _ _ trivial (fun _ => ?_)
        clear hK K
        try simp only [Act.put, List.setIfInBounds_toArray, List.set_cons_zero, List.set_cons_succ]
        refine oneW 26 rfl (by kernel_rfl) (fun K hK => ?_)
        go_simp
        refine (N8 _ (k2 _)).mono ?_
        rintro e w9 ⟨rfl, hw9⟩
        have hw8 := hw9.symm
        subst hw8
        clear hw9
        go_wp2_with fail
        refine hK.out _ _ trivial (fun _ => ?_)
        clear hK K
        try simp only [Act.put, List.setIfInBounds_toArray, List.set_cons_zero, List.set_cons_succ]
        refine oneW 29 rfl (by kernel_rfl) (fun K hK => ?_)
        go_simp
        refine (N9 _ (k2 _)).mono ?_
        rintro e w9 ⟨rfl, hw9⟩
        have hw8 := hw9.symm
        subst hw8
        clear hw9
        go_wp2_with fail
        refine hK.out _ _ trivial (fun _ => ?_)
        clear hK K
        try simp only [Act.put, List.setIfInBounds_toArray, List.set_cons_zero, List.set_cons_succ]
        refine takeW 30 (v := ?_) rfl (by kernel_rfl) (by kernel_rfl) (by kernel_rfl) (fun _ _ _ h => h) (Or.inl ⟨by rfl, ?_⟩) trivial ?_
        rotate_left
        · (intro w hSw; go_simp; with_reducible rfl)
        try simp only [Act.put, List.setIfInBounds_toArray, List.set_cons_zero, List.set_cons_succ]
        refine oneW 32 rfl (by kernel_rfl) (fun K hK => ?_)
        go_simp
        refine hK.out _ _ trivial (fun _ => ?_)
        clear hK K
        try simp only [Act.put, List.setIfInBounds_toArray, List.set_cons_zero, List.set_cons_succ]
        refine wpAnyH_done (by kernel_rfl) ?_ _
        refine NoPanic.normal ?_
        go_wp2_with fail; go_meet; exact ⟨rfl, rfl⟩
    · skip
      go_simp
      refine hK.out _ _ trivial (fun _ => ?_)
      clear hK K
      try simp only [Act.put, List.setIfInBounds_toArray, List.set_cons_zero, List.set_cons_succ]
      refine oneW 2 rfl (by kernel_rfl) (fun K hK => ?_)
      go_simp
      refine (N0 _ (k2 _)).mono ?_
      rintro e w9 ⟨rfl, hw9⟩
      have hw8 := hw9.symm
      subst hw8
      clear hw9
      go_wp2_with fail
      refine hK.out _ _ trivial (fun _ => ?_)
      clear hK K
      try simp only [Act.put, List.setIfInBounds_toArray, List.set_cons_zero, List.set_cons_succ]
      refine oneW 5 rfl (by kernel_rfl) (fun K hK => ?_)
      go_simp
      refine (N1 _ (k2 _)).mono ?_
      rintro e w9 ⟨rfl, hw9⟩
      have hw8 := hw9.symm
      subst hw8
      clear hw9
      go_wp2_with fail
      refine hK.out _ _ trivial (fun _ => ?_)
      clear hK K
      try simp only [Act.put, List.setIfInBounds_toArray, List.set_cons_zero, List.set_cons_succ]
      refine oneW 8 rfl (by kernel_rfl) (fun K hK => ?_)
      go_simp
      refine (N2 _ (k2 _)).mono ?_
      rintro e w9 ⟨rfl, hw9⟩
      have hw8 := hw9.symm
      subst hw8
      clear hw9
      go_wp2_with fail
      refine hK.out _ _ trivial (fun _ => ?_)
      clear hK K
      try simp only [Act.put, List.setIfInBounds_toArray, List.set_cons_zero, List.set_cons_succ]
      refine oneW 11 rfl (by kernel_rfl) (fun K hK => ?_)
      go_simp
      refine (N3 _ (k2 _)).mono ?_
      rintro e w9 ⟨rfl, hw9⟩
      have hw8 := hw9.symm
      subst hw8
      clear hw9
      go_wp2_with fail
      refine hK.out _ _ trivial (fun _ => ?_)
      clear hK K
      try simp only [Act.put, List.setIfInBounds_toArray, List.set_cons_zero, List.set_cons_succ]
      refine oneW 14 rfl (by kernel_rfl) (fun K hK => ?_)
      go_simp
      refine (N4 _ (k2 _)).mono ?_
      rintro e w9 ⟨rfl, hw9⟩
      have hw8 := hw9.symm
      subst hw8
      clear hw9
      go_wp2_with fail
      refine hK.out _ _ trivial (fun _ => ?_)
      clear hK K
      try simp only [Act.put, List.setIfInBounds_toArray, List.set_cons_zero, List.set_cons_succ]
      refine oneW 17 rfl (by kernel_rfl) (fun K hK => ?_)
      go_simp
      refine (N5 _ (k2 _)).mono ?_
      rintro e w9 ⟨rfl, hw9⟩
      have hw8 := hw9.symm
      subst hw8
      clear hw9
      go_wp2_with fail
      refine hK.out _ _ trivial (fun _ => ?_)
      clear hK K
      try simp only [Act.put, List.setIfInBounds_toArray, List.set_cons_zero, List.set_cons_succ]
      refine oneW 20 rfl (by kernel_rfl) (fun K hK => ?_)
      go_simp
      refine (N6 _ (k2 _)).mono ?_
      rintro e w9 ⟨rfl, hw9⟩
      have hw8 := hw9.symm
      subst hw8
      clear hw9
      go_wp2_with fail
      refine hK.out _ _ trivial (fun _ => ?_)
      clear hK K
      try simp only [Act.put, List.setIfInBounds_toArray, List.set_cons_zero, List.set_cons_succ]
      refine oneW 23 rfl (by kernel_rfl) (fun K hK => ?_)
      go_simp
      refine (N7 _ (k2 _)).mono ?_
      rintro e w9 ⟨rfl, hw9⟩
      have hw8 := hw9.symm
      subst hw8
      clear hw9
      go_wp2_with fail
      refine hK.out _ _ trivial (fun _ => ?_)
      clear hK K
      try simp only [Act.put, List.setIfInBounds_toArray, List.set_cons_zero, List.set_cons_succ]
      refine oneW 26 rfl (by kernel_rfl) (fun K hK => ?_)
      go_simp
      refine (N8 _ (k2 _)).mono ?_
      rintro e w9 ⟨rfl, hw9⟩
      have hw8 := hw9.symm
      subst hw8
      clear hw9
      go_wp2_with fail
      refine hK.out _ _ trivial (fun _ => ?_)
      clear hK K
      try simp only [Act.put, List.setIfInBounds_toArray, List.set_cons_zero, List.set_cons_succ]
      refine oneW 29 rfl (by kernel_rfl) (fun K hK => ?_)
      go_simp
      refine (N9 _ (k2 _)).mono ?_
      rintro e w9 ⟨rfl, hw9⟩
      have hw8 := hw9.symm
      subst hw8
      clear hw9
      go_wp2_with fail
      refine hK.out _ _ trivial (fun _ => ?_)
      clear hK K
      try simp only [Act.put, List.setIfInBounds_toArray, List.set_cons_zero, List.set_cons_succ]
      refine takeW 30 (v := ?_) rfl (by kernel_rfl) (by kernel_rfl) (by kernel_rfl) (fun _ _ _ h => h) (Or.inl ⟨by rfl, ?_⟩) trivial ?_
      rotate_left
      · (intro w hSw; go_simp; with_reducible rfl)
      try simp only [Act.put, List.setIfInBounds_toArray, List.set_cons_zero, List.set_cons_succ]
      refine oneW 32 rfl (by kernel_rfl) (fun K hK => ?_)
      go_simp
      refine hK.out _ _ trivial (fun _ => ?_)
      clear hK K
      try simp only [Act.put, List.setIfInBounds_toArray, List.set_cons_zero, List.set_cons_succ]
      refine wpAnyH_done (by kernel_rfl) ?_ _
      refine NoPanic.normal ?_
      go_wp2_with fail; go_meet; exact ⟨rfl, rfl⟩
  case rest =>
    obtain ⟨rfl, hx⟩ := hcut
    have B2 : HBx wc (w.heap.size + 1) [n0, n1, n2, n3, n4, n5, n6, n7, n8, n9] := by
      rw [hx]
      have := (HBx.new wa n0 n1 n2 n3 n4 n5 n6 n7 n8 n9).kept (kept_drew _)
      rwa [sA] at this
    have R2 : HBx wc w.heap.size noV := by
      rw [hx]
      exact (H1.kept (Kept.alloc _ _)).kept (kept_drew _)
    have kX : Kept w wc := by rw [hx]; exact k2 _
    have hM := rmayHead_walk n0 n1 n2 n3 n4 n5 n6 n7 n8 n9 (headV l) wc hv
    clear hx N0 N1 N2 N3 N4 N5 N6 N7 N8 N9 g0 g1 g2 g3 g4 g5 g6 g7 g8 g9 q1 ho1 hd1 q2 ho2 hd2 q3 ho3 hd3 q4 ho4 hd4 q5 ho5 hd5 q6 ho6 hd6 q7 ho7 hd7 q8 ho8 hd8 q9 ho9 hd9 k1 k2 H1 hwa kA sA
    have c0 := (B2 0 (by decide)).1
    have c1 := (B2 1 (by decide)).1
    have c2 := (B2 2 (by decide)).1
    have c3 := (B2 3 (by decide)).1
    have c4 := (B2 4 (by decide)).1
    have c5 := (B2 5 (by decide)).1
    have c6 := (B2 6 (by decide)).1
    have c7 := (B2 7 (by decide)).1
    have c8 := (B2 8 (by decide)).1
    have c9 := (B2 9 (by decide)).1
    simp only [List.getD_cons_zero, List.getD_cons_succ] at c0 c1 c2 c3 c4 c5 c6 c7 c8 c9
    cases hb : headB (headV l) with
    | false =>
      rw [hb] at hM
      have h8 := rd_bad hl hb
      obtain ⟨rfl, rfl, rfl, rfl, rfl, rfl, rfl, rfl, rfl, rfl⟩ : r0 = 0 ∧ r1 = 0 ∧ r2 = 0 ∧ r3 = 0 ∧ r4 = 0 ∧ r5 = 0 ∧ r6 = 0 ∧ r7 = 0 ∧ r8 = 0 ∧ r9 = 0 := by
        have := hV.out
        rw [h8.2] at this
        simpa [noV, eq_comm] using this
      obtain rfl : E = 8 := by rw [← hE.out, h8.1]
      clear hb h8 hV hE hv
      go_upto_region 5 with (go_at_call 34; refine hM.mono ?_; rintro e w2 ⟨rfl, K2⟩)
      have R3 := R2.kept K2
      have hR := R3.put 0 0 0 0 0 0 0 0 0 0
      have hW := below_put10 (b := w.heap.size) (kX.trans K2) (Nat.le_refl _) 0 0 0 0 0 0 0 0 0 0
      obtain ⟨z0, y0⟩ := R3 0 (by decide)
      obtain ⟨z1, y1⟩ := R3 1 (by decide)
      obtain ⟨z2, y2⟩ := R3 2 (by decide)
      obtain ⟨z3, y3⟩ := R3 3 (by decide)
      obtain ⟨z4, y4⟩ := R3 4 (by decide)
      obtain ⟨z5, y5⟩ := R3 5 (by decide)
      obtain ⟨z6, y6⟩ := R3 6 (by decide)
      obtain ⟨z7, y7⟩ := R3 7 (by decide)
      obtain ⟨z8, y8⟩ := R3 8 (by decide)
      obtain ⟨z9, y9⟩ := R3 9 (by decide)
      simp only [noV, List.getD_cons_zero, List.getD_cons_succ] at z0 z1 z2 z3 z4 z5 z6 z7 z8 z9
      clear c0 c1 c2 c3 c4 c5 c6 c7 c8 c9
      go_wp2
      exact bodyPost_ret (v := .tuple #[headW' 0 0 0 0 0 0 0 0 0 0, .int .i64 8]) (by simp [results, Try.results21, go_sem, (hR 0 (by decide)).1, (hR 1 (by decide)).1, (hR 2 (by decide)).1, (hR 3 (by decide)).1, (hR 4 (by decide)).1, (hR 5 (by decide)).1, (hR 6 (by decide)).1, (hR 7 (by decide)).1, (hR 8 (by decide)).1, (hR 9 (by decide)).1]) rfl ⟨rfl, hW⟩
    | true =>
      rw [hb] at hM
      have h0 := rd_ok hl hb
      obtain ⟨rfl, rfl, rfl, rfl, rfl, rfl, rfl, rfl, rfl, rfl⟩ : r0 = n0 ∧ r1 = n1 ∧ r2 = n2 ∧ r3 = n3 ∧ r4 = n4 ∧ r5 = n5 ∧ r6 = n6 ∧ r7 = n7 ∧ r8 = n8 ∧ r9 = n9 := by
        have := hV.out
        rw [h0.2, hv] at this
        simpa [eq_comm] using this
      obtain rfl : E = 0 := by rw [← hE.out, h0.1]
      clear hb h0 hV hE hv
      go_upto_region 6 with (go_at_call 34; refine hM.mono ?_; rintro e w2 ⟨rfl, K2⟩)
      have R3 := R2.kept K2
      have hR := R3.put r0 r1 r2 r3 r4 r5 r6 r7 r8 r9
      have hW := below_put10 (b := w.heap.size) (kX.trans K2) (Nat.le_refl _) r0 r1 r2 r3 r4 r5 r6 r7 r8 r9
      replace c0 : w2.cell? ⟨w.heap.size + 1, 0, none⟩ = some (.int .i64 r0) := K2.cell c0
      replace c1 : w2.cell? ⟨w.heap.size + 1, 1, none⟩ = some (.int .i64 r1) := K2.cell c1
      replace c2 : w2.cell? ⟨w.heap.size + 1, 2, none⟩ = some (.int .i64 r2) := K2.cell c2
      replace c3 : w2.cell? ⟨w.heap.size + 1, 3, none⟩ = some (.int .i64 r3) := K2.cell c3
      replace c4 : w2.cell? ⟨w.heap.size + 1, 4, none⟩ = some (.int .i64 r4) := K2.cell c4
      replace c5 : w2.cell? ⟨w.heap.size + 1, 5, none⟩ = some (.int .i64 r5) := K2.cell c5
      replace c6 : w2.cell? ⟨w.heap.size + 1, 6, none⟩ = some (.int .i64 r6) := K2.cell c6
      replace c7 : w2.cell? ⟨w.heap.size + 1, 7, none⟩ = some (.int .i64 r7) := K2.cell c7
      replace c8 : w2.cell? ⟨w.heap.size + 1, 8, none⟩ = some (.int .i64 r8) := K2.cell c8
      replace c9 : w2.cell? ⟨w.heap.size + 1, 9, none⟩ = some (.int .i64 r9) := K2.cell c9
      obtain ⟨z0, y0⟩ := R3 0 (by decide)
      obtain ⟨z1, y1⟩ := R3 1 (by decide)
      obtain ⟨z2, y2⟩ := R3 2 (by decide)
      obtain ⟨z3, y3⟩ := R3 3 (by decide)
      obtain ⟨z4, y4⟩ := R3 4 (by decide)
      obtain ⟨z5, y5⟩ := R3 5 (by decide)
      obtain ⟨z6, y6⟩ := R3 6 (by decide)
      obtain ⟨z7, y7⟩ := R3 7 (by decide)
      obtain ⟨z8, y8⟩ := R3 8 (by decide)
      obtain ⟨z9, y9⟩ := R3 9 (by decide)
      simp only [noV, List.getD_cons_zero, List.getD_cons_succ] at z0 z1 z2 z3 z4 z5 z6 z7 z8 z9
      go_wp2
      exact bodyPost_ret (v := .tuple #[headW' r0 r1 r2 r3 r4 r5 r6 r7 r8 r9, .int .i64 0]) (by simp [results, Try.results21, go_sem, (hR 0 (by decide)).1, (hR 1 (by decide)).1, (hR 2 (by decide)).1, (hR 3 (by decide)).1, (hR 4 (by decide)).1, (hR 5 (by decide)).1, (hR 6 (by decide)).1, (hR 7 (by decide)).1, (hR 8 (by decide)).1, (hR 9 (by decide)).1]) rfl ⟨rfl, hW⟩

set_option maxHeartbeats 1600000 in
theorem rread_walk (a : Option Addr) (m cap : Nat) (l : List Int) (r0 r1 r2 r3 r4 r5 r6 r7 r8 r9 E : Int) (w : World) (hl : l.length = m) (hcap : m ≤ cap) (hb : Byt w a l) (hr : ∀ x ∈ l, 0 ≤ x ∧ x < 256) (hE : Hid (rdE l = E)) (hV : Hid (rdV l = [r0, r1, r2, r3, r4, r5, r6, r7, r8, r9])) :
    Calls Try.prog 21 #[.slice a m cap] w fun e w' => e = .returned (.tuple #[headW' r0 r1 r2 r3 r4 r5 r6 r7 r8 r9, .int .i64 E]) ∧ Kept w w' := by
  by_cases hm : m = 64
  · subst hm
    rcases hb with rfl | ⟨b, off, rfl, hc⟩
    · simp at hl
    obtain ⟨n0, n1, n2, n3, n4, n5, n6, n7, n8, n9, hv⟩ := list10 (headV_length l)
    exact rread_yes b off cap l n0 n1 n2 n3 n4 n5 n6 n7 n8 n9 w hl hcap hr hc hv r0 r1 r2 r3 r4 r5 r6 r7 r8 r9 E hE hV
  · have H1 := HBx.new w 0 0 0 0 0 0 0 0 0 0
    obtain ⟨wa, hwa⟩ : ∃ wa, w.alloc (headO 0 0 0 0 0 0 0 0 0 0) = wa := ⟨_, rfl⟩
    rw [hwa] at H1
    have kA : Kept w wa := by rw [← hwa]; exact Kept.alloc _ _
    have h3 := rd_len (b := l) (by omega)
    obtain ⟨rfl, rfl, rfl, rfl, rfl, rfl, rfl, rfl, rfl, rfl⟩ : r0 = 0 ∧ r1 = 0 ∧ r2 = 0 ∧ r3 = 0 ∧ r4 = 0 ∧ r5 = 0 ∧ r6 = 0 ∧ r7 = 0 ∧ r8 = 0 ∧ r9 = 0 := by
      have := hV.out
      rw [h3.2] at this
      simpa [noV, eq_comm] using this
    obtain rfl : E = 3 := by rw [← hE.out, h3.1]
    have q : ((m : Int) != 64) = true := by rw [bne_iff_ne]; omega
    have q' : (m != 64) = true := by rw [bne_iff_ne]; omega
    obtain ⟨z0, y0⟩ := H1 0 (by decide)
    obtain ⟨z1, y1⟩ := H1 1 (by decide)
    obtain ⟨z2, y2⟩ := H1 2 (by decide)
    obtain ⟨z3, y3⟩ := H1 3 (by decide)
    obtain ⟨z4, y4⟩ := H1 4 (by decide)
    obtain ⟨z5, y5⟩ := H1 5 (by decide)
    obtain ⟨z6, y6⟩ := H1 6 (by decide)
    obtain ⟨z7, y7⟩ := H1 7 (by decide)
    obtain ⟨z8, y8⟩ := H1 8 (by decide)
    obtain ⟨z9, y9⟩ := H1 9 (by decide)
    simp only [List.getD_cons_zero, List.getD_cons_succ] at z0 z1 z2 z3 z4 z5 z6 z7 z8 z9
    have hR := H1.put 0 0 0 0 0 0 0 0 0 0
    have hW := below_put10 (b := w.heap.size) kA (Nat.le_refl _) 0 0 0 0 0 0 0 0 0 0
    clear hr hb hV hE h3
    go_enter Try.func21, Try.ntmps21
    go_wp2
    exact bodyPost_ret (v := .tuple #[headW' 0 0 0 0 0 0 0 0 0 0, .int .i64 3]) (by simp [results, Try.results21, go_sem, (hR 0 (by decide)).1, (hR 1 (by decide)).1, (hR 2 (by decide)).1, (hR 3 (by decide)).1, (hR 4 (by decide)).1, (hR 5 (by decide)).1, (hR 6 (by decide)).1, (hR 7 (by decide)).1, (hR 8 (by decide)).1, (hR 9 (by decide)).1]) rfl ⟨rfl, hW⟩
end Go.Proofs.Ytdjokhokiklamaa
