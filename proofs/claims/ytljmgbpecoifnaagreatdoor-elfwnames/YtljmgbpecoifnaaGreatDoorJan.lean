/- How a file under way is added to: the program's. How a part of a file under way is begun: the program's. The parts of a file under way. How parts are begun, and put: the program's, by the parts that are there. -/
import Derived.Test.YtljmgbpecoifnaaGreatDoorJak
import Derived.Test.YtljmgbpecoifnaaGreatDoorJag
import Derived.Test.YtljmgbpecoifnaaGreatDoorJam
import Derived.BigRegion
import Derived.Deep.RegionHeld3
import Derived.Deep.AppendLies
import Derived.Test.YtljmgbpecoifnaaGreatDoorJab
namespace Go.Proofs.YtljmgbpecoifnaaGreatDoor
open Go.RowKit

set_option maxRecDepth 20000 in
set_option maxHeartbeats 1600000 in
theorem fadd_walk (B fb : Nat) (σ : FSt) (a : Option Addr) (n cap : Nat) (l : List Int) (w : World) (hF : FileOk B w fb σ) (hl : l.length = n) (hb : Byt w a l) (hnil : a = none → n = 0 ∧ cap = 0) (hlen : σ.b.length + n ≤ 10000000) :
    Calls Tryz.prog 99 #[.pointer (some ⟨fb, 0, none⟩), .slice a n cap, .int .i64 0] w fun e w' => e = .returned (.tuple #[]) ∧ ∃ g c, Went B fb σ w { σ with gb := g, cb := c, b := σ.b ++ l } w' := by
  obtain ⟨L, hL⟩ : ∃ L, σ.b.length = L := ⟨_, rfl⟩
  have k0 := hF.c0
  have f0 := hF.f0
  have hO := hF.ob
  rw [hL] at k0 hO hlen
  have hsz := hF.size
  have HL : Hid ((σ.b ++ l).length = L + n) := by unfold Hid; rw [List.length_append, hL, hl]
  go_enter Tryz.func99, Tryz.ntmps99
  go_wp2_with (at_builtin; refine wpList_append_bytA rfl _ _ rfl B σ.gb L σ.cb σ.b l a n cap hL hl rfl rfl hO hb hnil hlen hsz ?_; intro g2 c2 w2 O2 G2 W2; have hW2 := hF.bytes HL.out O2 G2 W2; have f2 : w2.frozen? ⟨fb, 0, none⟩ = false := (grown_frozen G2 (block_lt_of_cell hF.c0) (fun e => hF.d1.1 e.symm)).trans hF.f0; obtain ⟨v2, k2⟩ : ∃ v, w2.cell? ⟨fb, 0, none⟩ = some v := ⟨_, grown_cell G2 hF.c0 (fun e => hF.d1.1 e.symm)⟩)
  go_end0
  exact ⟨rfl, g2, c2, hW2⟩

set_option maxRecDepth 20000 in
set_option maxHeartbeats 3200000 in
theorem fput_walk (B fb : Nat) (σ : FSt) (a : Option Addr) (n cap : Nat) (l : List Int) (i : Nat) (w : World) (hF : FileOk B w fb σ) (hl : l.length = n) (hb : Byt w a l) (hnil : a = none → n = 0 ∧ cap = 0) (hlen : σ.b.length + n ≤ 10000000) (hi : σ.hs.length = i + 1) (hi2 : i ≤ 1000) (hx0 : 0 ≤ (σ.hs.getD i []).getD 5 0) (hx1 : (σ.hs.getD i []).getD 5 0 ≤ 100000000) :
    Calls Tryz.prog 93 #[.pointer (some ⟨fb, 0, none⟩), .slice a n cap, .int .i64 0] w fun e w' => e = .returned (.tuple #[]) ∧ ∃ g c, Went B fb σ w { σ with gb := g, cb := c, b := σ.b ++ l, hs := setH σ.hs i 5 ((σ.hs.getD i []).getD 5 0 + n) } w' := by
  have hA := fadd_walk B fb σ a n cap l w hF hl hb hnil hlen
  obtain ⟨x, hx⟩ : ∃ x, (σ.hs.getD i []).getD 5 0 = x := ⟨_, rfl⟩
  have HX : Hid ((σ.hs.getD i []).getD 5 0 = x) := hx
  rw [hx] at hx0 hx1 ⊢
  have hw1 : IntKind.i64.wrap (x + (n : Int)) = x + n := w64i (by omega) (by omega)
  have hw2 : wrap64 (x + (n : Int)) = x + n := w64 (by omega) (by omega)
  obtain ⟨N, hN⟩ : ∃ N, σ.hs.length = N := ⟨_, rfl⟩
  rw [hN] at hi
  have hw3 : wrap64 ((N : Int) - 1) = i := by rw [w64 (by omega) (by omega)]; omega
  have hw4 : IntKind.i64.wrap ((N : Int) - 1) = i := by rw [w64i (by omega) (by omega)]; omega
  have hiN : i < N := by omega
  clear hx
  go_enter Tryz.func93, Tryz.ntmps93
  go_upto_region 1 with (go_at_call 99; refine hA.mono ?_; rintro e w2 ⟨rfl, g, c, hW⟩)
  have ok := hW.ok
  have k1 := ok.c1
  obtain ⟨k2, k3, hW2⟩ := ok.head (i := i) (j := 5) (by show i < σ.hs.length; omega) (by decide) (x + n)
  rw [HX.out] at k2
  dsimp only at k1
  rw [hN] at k1
  clear hA ok hi
  go_region_with (fail)
  all_goals
    go_wp2
    go_end0
    exact ⟨rfl, g, c, (hW.trans hW2).kept (kept_drew _)⟩

/-- 'append(heads, h)' at a step of a region that draws. -/
theorem step_append_headA {W : World} {ops : Array Oper} {o : Oper} {a : Act} {K : Act → World → Prop} {Q : Exit → Act → World → Prop} {E : Prop} (hgd : o.guard = none) (s x : Operand)
    (ho : o.op = .call { callee := .builtin .append, args := #[s, x], argTypes := #[58, 58] }) (B g c n Lb : Nat) (hs : List (List Int)) (v0 v1 v2 v3 v4 v5 v6 v7 v8 v9 : Int) (hl : hs.length = n) (hn : n ≤ 10000)
    (hes : a.eval s = .slice (some ⟨g, 0, none⟩) n c) (hx : a.eval x = .slice (some ⟨Lb, 0, none⟩) 1 1) (hown : OwnH W B (.slice (some ⟨g, 0, none⟩) n c) hs)
    (hB : W.heap[Lb]? = some (headO v0 v1 v2 v3 v4 v5 v6 v7 v8 v9)) (hbase : B ≤ W.heap.size)
    (h : ∀ g' c' w', OwnH w' B (.slice (some ⟨g', 0, none⟩) (n + 1) c') (hs ++ [[v0, v1, v2, v3, v4, v5, v6, v7, v8, v9]]) → W.grownBy w' (some g) → (g' = g ∨ g' = W.heap.size) → K (a.put o.dst (.slice (some ⟨g', 0, none⟩) (n + 1) c')) w') :
    if Region.wanted o (yielded ops a.tmps) = true then Oper.wp Tryz.prog o a W K Q else E := by
  obtain ⟨i0, hi, hz0, hz1, hz2⟩ := info_parts Tryz.infoHead
  subst hl
  refine step_append_lies W hgd s x 58 ho B 53 i0 _ 10 80 Tryz.underlying58 hi hz0 hz1 hz2 rfl (by decide) (.slice (some ⟨g, 0, none⟩) hs.length c) hs.length (hsC hs) hes hown ⟨Lb, 0, none⟩ 1 1 (([v0, v1, v2, v3, v4, v5, v6, v7, v8, v9] : List Int).map (Value.int .i64)) hx rfl (World.news_of_block hB) (ints_oneCell .i64 _) (by decide) (by unfold maxLen; omega) (by omega) hbase W.heap.size rfl ?_
  intro g' c' w' h1 h2 h3 _
  refine h g' c' w' ?_ (by simpa [Value.ownBlock] using h2) ?_
  · unfold OwnH
    rw [hsC_append, List.length_append]
    simpa [hsC] using h1
  · rcases h3 with h3 | h3
    · injection h3 with h3
      exact .inl h3.symm
    · exact .inr h3

theorem Went.from {B fb : Nat} {a b : FSt} {w wa x : World} (h : Went B fb a wa b x) (k : Kept w wa) : Went B fb a w b x :=
  ⟨h.ok, (Turn.of_kept (FS fb a) k).trans h.turn (fun _ e => .inl e), fun i hi => (h.new i hi).imp id (fun e => Nat.le_trans k.size e)⟩
/-- A store into a block that is none of the file's. -/
theorem Went.set {B fb : Nat} {a b : FSt} {w x : World} (h : Went B fb a w b x) {p : Addr} (u : Value) (hp : w.heap.size ≤ p.block) (hn : ¬ FS fb b p.block) (ht : b.vt.ownBlock ≠ some p.block) : Went B fb a w b (x.setCell p u) :=
  ⟨h.ok.turn (S := fun k => k = p.block) ((Turn.refl _ _).set p u (.inl rfl)) (fun k hk e => by
    subst e
    rcases hk with hk | hk
    · exact hn hk
    · exact ht hk), h.turn.set p u (.inr hp), h.new⟩

/-- What is read while a head is appended. -/
abbrev SB (fb wh : Nat) (hv : Value) (v0 v1 v2 v3 v4 v5 v6 v7 v8 v9 : Int) (x : World) : Prop :=
  x.cell? ⟨fb, 1, none⟩ = some hv ∧ x.frozen? ⟨fb, 1, none⟩ = false ∧ x.cell? ⟨wh, 0, none⟩ = some (.int .i64 v0) ∧ x.cell? ⟨wh, 1, none⟩ = some (.int .i64 v1) ∧ x.cell? ⟨wh, 2, none⟩ = some (.int .i64 v2) ∧ x.cell? ⟨wh, 3, none⟩ = some (.int .i64 v3) ∧ x.cell? ⟨wh, 4, none⟩ = some (.int .i64 v4) ∧
  x.cell? ⟨wh, 5, none⟩ = some (.int .i64 v5) ∧ x.cell? ⟨wh, 6, none⟩ = some (.int .i64 v6) ∧ x.cell? ⟨wh, 7, none⟩ = some (.int .i64 v7) ∧ x.cell? ⟨wh, 8, none⟩ = some (.int .i64 v8) ∧ x.cell? ⟨wh, 9, none⟩ = some (.int .i64 v9)
theorem SB_drew {fb wh : Nat} {hv : Value} {v0 v1 v2 v3 v4 v5 v6 v7 v8 v9 : Int} {x : World} (h : SB fb wh hv v0 v1 v2 v3 v4 v5 v6 v7 v8 v9 x) : SB fb wh hv v0 v1 v2 v3 v4 v5 v6 v7 v8 v9 x.drew := h
theorem SB_alloc {fb wh : Nat} {hv : Value} {v0 v1 v2 v3 v4 v5 v6 v7 v8 v9 : Int} {x : World} (h : SB fb wh hv v0 v1 v2 v3 v4 v5 v6 v7 v8 v9 x) (o : Obj) : SB fb wh hv v0 v1 v2 v3 v4 v5 v6 v7 v8 v9 (x.alloc o) := by
  obtain ⟨a, b, c0, c1, c2, c3, c4, c5, c6, c7, c8, c9⟩ := h
  have k := Kept.alloc x o
  exact ⟨k.cell a, (Below.frozen k (block_lt_of_cell a)).trans b, k.cell c0, k.cell c1, k.cell c2, k.cell c3, k.cell c4, k.cell c5, k.cell c6, k.cell c7, k.cell c8, k.cell c9⟩
theorem SB_grown {fb wh g : Nat} {hv : Value} {v0 v1 v2 v3 v4 v5 v6 v7 v8 v9 : Int} {x y : World} (h : SB fb wh hv v0 v1 v2 v3 v4 v5 v6 v7 v8 v9 x) (k : x.grownBy y (some g)) (h1 : fb ≠ g) (h2 : wh ≠ g) : SB fb wh hv v0 v1 v2 v3 v4 v5 v6 v7 v8 v9 y := by
  obtain ⟨a, b, c0, c1, c2, c3, c4, c5, c6, c7, c8, c9⟩ := h
  exact ⟨grown_cell k a h1, (grown_frozen k (block_lt_of_cell a) h1).trans b, grown_cell k c0 h2, grown_cell k c1 h2, grown_cell k c2 h2, grown_cell k c3 h2, grown_cell k c4 h2, grown_cell k c5 h2, grown_cell k c6 h2, grown_cell k c7 h2, grown_cell k c8 h2, grown_cell k c9 h2⟩

abbrev SC (fb wh : Nat) (v0 v1 v2 v3 v4 v5 v6 v7 v8 v9 : Int) (x : World) : Prop :=
  x.frozen? ⟨fb, 1, none⟩ = false ∧ x.cell? ⟨wh, 0, none⟩ = some (.int .i64 v0) ∧ x.cell? ⟨wh, 1, none⟩ = some (.int .i64 v1) ∧ x.cell? ⟨wh, 2, none⟩ = some (.int .i64 v2) ∧ x.cell? ⟨wh, 3, none⟩ = some (.int .i64 v3) ∧ x.cell? ⟨wh, 4, none⟩ = some (.int .i64 v4) ∧
  x.cell? ⟨wh, 5, none⟩ = some (.int .i64 v5) ∧ x.cell? ⟨wh, 6, none⟩ = some (.int .i64 v6) ∧ x.cell? ⟨wh, 7, none⟩ = some (.int .i64 v7) ∧ x.cell? ⟨wh, 8, none⟩ = some (.int .i64 v8) ∧ x.cell? ⟨wh, 9, none⟩ = some (.int .i64 v9)
theorem SC_set {fb wh : Nat} {v0 v1 v2 v3 v4 v5 v6 v7 v8 v9 : Int} {x : World} (h : SC fb wh v0 v1 v2 v3 v4 v5 v6 v7 v8 v9 x) (u : Value) (hne : fb ≠ wh) : SC fb wh v0 v1 v2 v3 v4 v5 v6 v7 v8 v9 (x.setCell ⟨fb, 1, none⟩ u) := by
  obtain ⟨b, c0, c1, c2, c3, c4, c5, c6, c7, c8, c9⟩ := h
  exact ⟨set_frozen b, set_far c0 hne, set_far c1 hne, set_far c2 hne, set_far c3 hne, set_far c4 hne, set_far c5 hne, set_far c6 hne, set_far c7 hne, set_far c8 hne, set_far c9 hne⟩
/-- An operation that yields one value, whatever comes up first. -/
theorem takeW {P : Program} {ops : Array Oper} {Q : Exit → Act → World → Prop} {md : Region.Mode} {S : World → Prop} (i : Nat) {dst : Option Tmp} {op : Op} {ty : TypeId} {p : String} {af : Array Edge} {g : Option (Nat × Bool)} {v : Value} {fuel : Nat} {listed : Array Bool} {a : Act} {w : World} (hi : ops[i]? = some { dst := dst, op := op, type := ty, pos := p, after := af, guard := g })
    (hs : Region.noSelect ops = true) (hf : Region.free md ops listed i = true) (hr : (Region.ready md ops listed).contains i = true)
    (hQ : ∀ c a w, Q (.panic c) (a.put dst v) w → Q (.panic c) a w) (hy : YieldsIf P ops S { dst := dst, op := op, type := ty, pos := p, after := af, guard := g } v a) (hS : S w)
    (h : wpAnyH P md ops Q S fuel (listed.setIfInBounds i true) (a.put dst v) w) : wpAnyH P md ops Q S (fuel + 1) listed a w :=
  wpAnyH_take hi hs hf hr hQ hy hS h
theorem oneW {P : Program} {ops : Array Oper} {Q : Exit → Act → World → Prop} {md : Region.Mode} {S : World → Prop} (i : Nat) {dst : Option Tmp} {op : Op} {ty : TypeId} {p : String} {af : Array Edge} {g : Option (Nat × Bool)} {fuel : Nat} {listed : Array Bool} {a : Act} {w : World} (hi : ops[i]? = some { dst := dst, op := op, type := ty, pos := p, after := af, guard := g })
    (hr : Region.ready md ops listed = [i])
    (h : ∀ K' : Act → World → Prop, Shut (∀ a w, S w → (S w → wpAnyH P md ops Q S fuel (listed.setIfInBounds i true) a w) → K' a w) → if Region.wanted { dst := dst, op := op, type := ty, pos := p, after := af, guard := g } (yielded ops a.tmps) = true then Oper.wp P { dst := dst, op := op, type := ty, pos := p, after := af, guard := g } a w K' Q else K' (a.put dst undef) w) : wpAnyH P md ops Q S (fuel + 1) listed a w :=
  wpAnyH_ready hr (by simp) (AllReadyH.cons hi h AllReadyH.nil)
theorem twoW {P : Program} {ops : Array Oper} {Q : Exit → Act → World → Prop} {md : Region.Mode} {S : World → Prop} (i j : Nat) {dst dst' : Option Tmp} {op op' : Op} {ty ty' : TypeId} {p p' : String} {af af' : Array Edge} {g g' : Option (Nat × Bool)} {fuel : Nat} {listed : Array Bool} {a : Act} {w : World} (hi : ops[i]? = some { dst := dst, op := op, type := ty, pos := p, after := af, guard := g }) (hj : ops[j]? = some { dst := dst', op := op', type := ty', pos := p', after := af', guard := g' })
    (hr : Region.ready md ops listed = [i, j])
    (h : ∀ K' : Act → World → Prop, Shut (∀ a w, S w → (S w → wpAnyH P md ops Q S fuel (listed.setIfInBounds i true) a w) → K' a w) → if Region.wanted { dst := dst, op := op, type := ty, pos := p, after := af, guard := g } (yielded ops a.tmps) = true then Oper.wp P { dst := dst, op := op, type := ty, pos := p, after := af, guard := g } a w K' Q else K' (a.put dst undef) w)
    (h' : ∀ K' : Act → World → Prop, Shut (∀ a w, S w → (S w → wpAnyH P md ops Q S fuel (listed.setIfInBounds j true) a w) → K' a w) → if Region.wanted { dst := dst', op := op', type := ty', pos := p', after := af', guard := g' } (yielded ops a.tmps) = true then Oper.wp P { dst := dst', op := op', type := ty', pos := p', after := af', guard := g' } a w K' Q else K' (a.put dst' undef) w) : wpAnyH P md ops Q S (fuel + 1) listed a w :=
  wpAnyH_ready hr (by simp) (AllReadyH.cons hi h (AllReadyH.cons hj h' AllReadyH.nil))

set_option maxRecDepth 20000 in
set_option maxHeartbeats 6400000 in
theorem fbegin_walk (B fb : Nat) (σ : FSt) (s : ByteArray) (v0 v1 v2 v3 v4 v5 v6 v7 v9 : Int) (m : Nat) (w : World) (hF : FileOk B w fb σ) (h1 : 1 ≤ m) (h64 : m ≤ 64) (hlen : σ.b.length ≤ 1000000) (hhl : σ.hs.length ≤ 1000) (hnl : σ.ns.length ≤ 1000) :
    Calls Tryz.prog 92 #[.pointer (some ⟨fb, 0, none⟩), .string s, headW' v0 v1 v2 v3 v4 v5 v6 v7 (m : Int) v9] w fun e w' => e = .returned (.tuple #[]) ∧ ∃ g c gh ch gn cn, Went B fb σ w { σ with gb := g, cb := c, gh := gh, ch := ch, gn := gn, cn := cn, b := padB σ.b m, hs := σ.hs ++ [[v0, v1, v2, v3, ((padB σ.b m).length : Int), v5, v6, v7, (m : Int), v9]], ns := σ.ns ++ [s] } w' := by
  have H1 := HBx.new w v0 v1 v2 v3 v4 v5 v6 v7 m v9
  obtain ⟨wa, hwa⟩ : ∃ wa, w.alloc (headO v0 v1 v2 v3 v4 v5 v6 v7 m v9) = wa := ⟨_, rfl⟩
  have kA : Kept w wa := by rw [← hwa]; exact Kept.alloc _ _
  have sA : wa.heap.size = w.heap.size + 1 := by rw [← hwa]; simp
  rw [hwa] at H1
  have hFa := hF.kept kA
  have hfill := ffill_walk B fb m σ wa hFa h1 h64 hlen
  have c8 : wa.cell? ⟨w.heap.size, 8, none⟩ = some (.int .i64 (m : Int)) := (H1 8 (by decide)).1
  have hnb : ¬ FS fb σ w.heap.size := fun e => by have := (hF.lt _ e).2; omega
  have hnt : σ.vt.ownBlock ≠ some w.heap.size := fun e => by have := (hF.ot.lt _ e).2; omega
  obtain ⟨L, hL⟩ : ∃ L, (padB σ.b m).length = L := ⟨_, rfl⟩
  rw [hL]
  obtain ⟨n, hn⟩ : ∃ n, σ.hs.length = n := ⟨_, rfl⟩
  obtain ⟨nn, hnn⟩ : ∃ nn, σ.ns.length = nn := ⟨_, rfl⟩
  obtain ⟨wh, hwh⟩ : ∃ wh, w.heap.size = wh := ⟨_, rfl⟩
  rw [hwh] at H1 c8 hnb hnt sA
  go_enter Tryz.func92, Tryz.ntmps92
  go_upto_region 2 with (go_at_call 98; refine hfill.mono ?_; rintro e w2 ⟨rfl, g, c, hW⟩)
  have hnb2 : ¬ FS fb { σ with gb := g, cb := c, b := padB σ.b m } wh := hW.not (by omega) hnb
  have H2 : HBx w2 wh [v0, v1, v2, v3, v4, v5, v6, v7, (m : Int), v9] := fun k hk => by
    exact ⟨hW.turn.cell (H1 k hk).1 hnb, (hW.turn.frozen (show wh < wa.heap.size by omega) hnb).trans (H1 k hk).2⟩
  have k0 := hW.ok.c0
  dsimp only at k0
  rw [hL] at k0
  obtain ⟨d4, f4⟩ := H2 4 (by decide)
  have H3 : HBx (w2.setCell ⟨wh, 4, none⟩ (.int .i64 (L : Int))) wh [v0, v1, v2, v3, (L : Int), v5, v6, v7, (m : Int), v9] := fun k hk => by
    by_cases e : k = 4
    · subst e
      exact ⟨World.cell?_setCell_same _ _ _ d4, set_frozen f4⟩
    · refine ⟨?_, set_frozen (H2 k hk).2⟩
      rw [set_other (H2 k hk).1 (fun e' => e e'.symm)]
      match k, e, hk with
      | 0, _, _ | 1, _, _ | 2, _, _ | 3, _, _ | 5, _, _ | 6, _, _ | 7, _, _ | 8, _, _ | 9, _, _ => rfl
      | k + 10, _, h => exact absurd h (by omega)
  have hW3 : Went B fb σ w _ (w2.setCell ⟨wh, 4, none⟩ (.int .i64 (L : Int))) := (hW.from kA).set (p := ⟨wh, 4, none⟩) (.int .i64 (L : Int)) (by rw [hwh]; exact Nat.le_refl _) hnb2 hnt
  obtain ⟨w3, hw3⟩ : ∃ w3, w2.setCell ⟨wh, 4, none⟩ (.int .i64 (L : Int)) = w3 := ⟨_, rfl⟩
  rw [hw3] at H3 hW3
  have q4 : w2.cell? ⟨wh, 4, none⟩ = some (.int .i64 v4) := d4
  have ok3 := hW3.ok
  have k1 : w3.cell? ⟨fb, 1, none⟩ = some (.slice (some ⟨σ.gh, 0, none⟩) n σ.ch) := by rw [← hn]; exact ok3.c1
  have f1 := ok3.f1
  have b0 : w3.cell? ⟨wh, 0, none⟩ = some (.int .i64 v0) := (H3 0 (by decide)).1
  have b1 : w3.cell? ⟨wh, 1, none⟩ = some (.int .i64 v1) := (H3 1 (by decide)).1
  have b2 : w3.cell? ⟨wh, 2, none⟩ = some (.int .i64 v2) := (H3 2 (by decide)).1
  have b3 : w3.cell? ⟨wh, 3, none⟩ = some (.int .i64 v3) := (H3 3 (by decide)).1
  have b4 : w3.cell? ⟨wh, 4, none⟩ = some (.int .i64 (L : Int)) := (H3 4 (by decide)).1
  have b5 : w3.cell? ⟨wh, 5, none⟩ = some (.int .i64 v5) := (H3 5 (by decide)).1
  have b6 : w3.cell? ⟨wh, 6, none⟩ = some (.int .i64 v6) := (H3 6 (by decide)).1
  have b7 : w3.cell? ⟨wh, 7, none⟩ = some (.int .i64 v7) := (H3 7 (by decide)).1
  have b8 : w3.cell? ⟨wh, 8, none⟩ = some (.int .i64 (m : Int)) := (H3 8 (by decide)).1
  have b9 : w3.cell? ⟨wh, 9, none⟩ = some (.int .i64 v9) := (H3 9 (by decide)).1
  clear hfill c8 H1 hFa
  go_upto_region 3 with fail
  clear k0 f4 q4 d4 hw3 H2
  have A0 : SB fb wh (.slice (some ⟨σ.gh, 0, none⟩) n σ.ch) v0 v1 v2 v3 L v5 v6 v7 m v9 w3 := ⟨k1, f1, b0, b1, b2, b3, b4, b5, b6, b7, b8, b9⟩
  have A0' := SB_drew A0
  have A1 := SB_drew (SB_alloc A0 (headO v0 v1 v2 v3 L v5 v6 v7 m v9))
  have hO3 := ok3.oh
  dsimp only at hO3
  rw [hn] at hO3
  have ok4 := (ok3.kept (Kept.alloc w3 (headO v0 v1 v2 v3 L v5 v6 v7 m v9))).kept (kept_drew _)
  have hO4 : OwnH ((w3.alloc (headO v0 v1 v2 v3 L v5 v6 v7 m v9)).drew) B (.slice (some ⟨σ.gh, 0, none⟩) n σ.ch) σ.hs := World.ownsRow.drew (World.ownsRow.alloc hO3 _)
  have hH4 : ((w3.alloc (headO v0 v1 v2 v3 L v5 v6 v7 m v9)).drew).heap[w3.heap.size]? = some (headO v0 v1 v2 v3 L v5 v6 v7 m v9) := heap_alloc_new w3 _
  have hsz4 := ok4.size
  have hfg : fb ≠ σ.gh := fun e => ok3.d2.1 e.symm
  have hwg : wh ≠ σ.gh := fun e => hnb2 (by rw [e]; exact .inr (.inr (.inl rfl)))
  have hnl' : n ≤ 10000 := by omega
  obtain ⟨k1', f1', e0, e1, e2, e3, e4, e5, e6, e7, e8, e9⟩ := SB_alloc A0 (headO v0 v1 v2 v3 L v5 v6 v7 m v9)
  have hfw : fb ≠ wh := fun e => hnb2 (.inl e.symm)
  clear H3
  refine wp_region_noPanic ?_
  refine wp_region_held_drew (S := fun x => SC fb wh v0 v1 v2 v3 L v5 v6 v7 m v9 x) (by kernel_rfl) A0'.2 ?_
  intro hHeld
  try simp only [Array.size, List.length_cons, List.length_nil, Array.replicate]
  refine takeW 0 (v := ?_) rfl (by kernel_rfl) (by kernel_rfl) (by kernel_rfl) (fun _ _ _ h => h) (Or.inl ⟨by rfl, ?_⟩) hHeld ?_
  rotate_left
  · (intro w hSw; obtain ⟨sf, s0, s1, s2, s3, s4, s5, s6, s7, s8, s9⟩ := hSw; go_simp; with_reducible rfl)
  try simp only [Act.put, List.setIfInBounds_toArray, List.set_cons_zero, List.set_cons_succ]
  refine takeW 1 (v := ?_) rfl (by kernel_rfl) (by kernel_rfl) (by kernel_rfl) (fun _ _ _ h => h) (Or.inl ⟨by rfl, ?_⟩) hHeld ?_
  rotate_left
  · (intro w hSw; obtain ⟨sf, s0, s1, s2, s3, s4, s5, s6, s7, s8, s9⟩ := hSw; go_simp; with_reducible rfl)
  try simp only [Act.put, List.setIfInBounds_toArray, List.set_cons_zero, List.set_cons_succ]
  refine takeW 2 (v := ?_) rfl (by kernel_rfl) (by kernel_rfl) (by kernel_rfl) (fun _ _ _ h => h) (Or.inl ⟨by rfl, ?_⟩) hHeld ?_
  rotate_left
  · (intro w hSw; obtain ⟨sf, s0, s1, s2, s3, s4, s5, s6, s7, s8, s9⟩ := hSw; go_simp; with_reducible rfl)
  try simp only [Act.put, List.setIfInBounds_toArray, List.set_cons_zero, List.set_cons_succ]
  refine takeW 3 (v := ?_) rfl (by kernel_rfl) (by kernel_rfl) (by kernel_rfl) (fun _ _ _ h => h) (Or.inl ⟨by rfl, ?_⟩) hHeld ?_
  rotate_left
  · (intro w hSw; obtain ⟨sf, s0, s1, s2, s3, s4, s5, s6, s7, s8, s9⟩ := hSw; go_simp; with_reducible rfl)
  try simp only [Act.put, List.setIfInBounds_toArray, List.set_cons_zero, List.set_cons_succ]
  refine takeW 5 (v := ?_) rfl (by kernel_rfl) (by kernel_rfl) (by kernel_rfl) (fun _ _ _ h => h) (Or.inl ⟨by rfl, ?_⟩) hHeld ?_
  rotate_left
  · (intro w hSw; obtain ⟨sf, s0, s1, s2, s3, s4, s5, s6, s7, s8, s9⟩ := hSw; go_simp; with_reducible rfl)
  try simp only [Act.put, List.setIfInBounds_toArray, List.set_cons_zero, List.set_cons_succ]
  refine twoW 4 6 rfl rfl (by kernel_rfl) ?_ ?_
  · intro K9 hK9
    go_simp
    refine hK9.out _ _ A0'.2 (fun _ => ?_)
    clear hK9 K9
    try simp only [List.setIfInBounds_toArray]
    refine oneW 6 rfl (by kernel_rfl) ?_
    intro K9 hK9
    go_simp
    refine hK9.out _ _ A1.2 (fun _ => ?_)
    clear hK9 K9
    try simp only [List.setIfInBounds_toArray]
    refine oneW 7 rfl (by kernel_rfl) ?_
    intro K9 hK9
    refine step_append_headA (W := (w3.alloc (headO v0 v1 v2 v3 L v5 v6 v7 m v9)).drew) (by rfl) _ _ (by rfl) B σ.gh σ.ch n w3.heap.size σ.hs v0 v1 v2 v3 L v5 v6 v7 m v9 hn hnl' (by rfl) (by rfl) hO4 hH4 hsz4 ?_
    intro g2 c2 w5 O5 G5 W5
    have A2 := SB_grown A1 G5 hfg hwg
    obtain ⟨k5, f5, _⟩ := id A2
    refine hK9.out _ _ A2.2 (fun hHeld2 => ?_)
    clear hK9 K9
    try simp only [Act.put, List.setIfInBounds_toArray, List.set_cons_zero, List.set_cons_succ]
    refine takeW 8 (v := ?_) rfl (by kernel_rfl) (by kernel_rfl) (by kernel_rfl) (fun _ _ _ h => h) (Or.inl ⟨by rfl, ?_⟩) hHeld2 ?_
    rotate_left
    · (intro w hSw; obtain ⟨sf, s0, s1, s2, s3, s4, s5, s6, s7, s8, s9⟩ := hSw; go_simp; with_reducible rfl)
    try simp only [Act.put, List.setIfInBounds_toArray, List.set_cons_zero, List.set_cons_succ]
    refine takeW 9 (v := ?_) rfl (by kernel_rfl) (by kernel_rfl) (by kernel_rfl) (fun _ _ _ h => h) (Or.inl ⟨by rfl, ?_⟩) hHeld2 ?_
    rotate_left
    · (intro w hSw; obtain ⟨sf, s0, s1, s2, s3, s4, s5, s6, s7, s8, s9⟩ := hSw; go_simp; with_reducible rfl)
    try simp only [Act.put, List.setIfInBounds_toArray, List.set_cons_zero, List.set_cons_succ]
    refine oneW 10 rfl (by kernel_rfl) ?_
    intro K9 hK9
    go_simp
    refine hK9.out _ _ (SC_set A2.2 _ hfw) (fun _ => ?_)
    clear hK9 K9
    try simp only [List.setIfInBounds_toArray]
    refine wpAnyH_done (by kernel_rfl) ?_ _
    refine NoPanic.normal ?_
    clear hHeld2
    have hW6 := hW3.trans (((Went.refl ok3).kept ((Kept.alloc w3 (headO v0 v1 v2 v3 L v5 v6 v7 m v9)).trans (kept_drew _))).trans (ok4.heads rfl (by show σ.hs.length + 1 = n + 1; rw [hn]) O5 G5 W5))
    obtain ⟨w6, hw6⟩ : ∃ w6, w5.setCell ⟨fb, 1, none⟩ (.slice (some ⟨g2, 0, none⟩) (n + 1) c2) = w6 := ⟨_, rfl⟩
    rw [hw6] at hW6
    have ok6 := hW6.ok
    have p2 : w6.cell? ⟨fb, 2, none⟩ = some (.slice (some ⟨σ.gn, 0, none⟩) nn σ.cn) := by rw [← hnn]; exact ok6.c2
    have q2 := ok6.f2
    have ok7 := ok6.kept (Kept.alloc w6 (.cells #[.string s] 9))
    have hO7 : OwnS (w6.alloc (.cells #[.string s] 9)) B (.slice (some ⟨σ.gn, 0, none⟩) nn σ.cn) σ.ns := by rw [← hnn]; exact ok7.on
    have hc7 : (w6.alloc (.cells #[.string s] 9)).cell? ⟨w6.heap.size, 0, none⟩ = some (.string s) := by simp
    have hsz7 := ok7.size
    have hnn2 : nn + 1 ≤ 1000000 := by omega
    have HN7 : Hid (σ.ns.length + 1 = nn + 1) := by unfold Hid; rw [hnn]
    clear k5 f5 A2 O5 G5 W5 k1 f1 b0 b1 b2 b3 b4 b5 b6 b7 b8 b9 hO4 hH4
    go_wp2_with (at_builtin; refine wpList_append_nameA rfl _ _ rfl B σ.gn nn σ.cn σ.ns s ⟨w6.heap.size, 0, none⟩ 1 hnn rfl rfl hO7 hc7 hnn2 hsz7 ?_; intro g4 c4 w8 O8 G8 W8; have hW9 := ok7.names HN7.out O8 G8 W8; have f8 : w8.frozen? ⟨fb, 2, none⟩ = false := (grown_frozen G8 (block_lt_of_cell ok7.c2) (fun e => ok7.d3.1 e.symm)).trans ok7.f2; obtain ⟨v8', k8⟩ : ∃ v, w8.cell? ⟨fb, 2, none⟩ = some v := ⟨_, grown_cell G8 ok7.c2 (fun e => ok7.d3.1 e.symm)⟩)
    go_end0
    exact ⟨rfl, g, c, g2, c2, g4, c4, (hW6.kept (Kept.alloc _ _)).trans hW9⟩
  · intro K9 hK9
    go_simp
    refine hK9.out _ _ A1.2 (fun _ => ?_)
    clear hK9 K9
    try simp only [List.setIfInBounds_toArray]
    refine oneW 4 rfl (by kernel_rfl) ?_
    intro K9 hK9
    go_simp
    refine hK9.out _ _ A1.2 (fun _ => ?_)
    clear hK9 K9
    try simp only [List.setIfInBounds_toArray]
    refine oneW 7 rfl (by kernel_rfl) ?_
    intro K9 hK9
    refine step_append_headA (W := (w3.alloc (headO v0 v1 v2 v3 L v5 v6 v7 m v9)).drew) (by rfl) _ _ (by rfl) B σ.gh σ.ch n w3.heap.size σ.hs v0 v1 v2 v3 L v5 v6 v7 m v9 hn hnl' (by rfl) (by rfl) hO4 hH4 hsz4 ?_
    intro g2 c2 w5 O5 G5 W5
    have A2 := SB_grown A1 G5 hfg hwg
    obtain ⟨k5, f5, _⟩ := id A2
    refine hK9.out _ _ A2.2 (fun hHeld2 => ?_)
    clear hK9 K9
    try simp only [Act.put, List.setIfInBounds_toArray, List.set_cons_zero, List.set_cons_succ]
    refine takeW 8 (v := ?_) rfl (by kernel_rfl) (by kernel_rfl) (by kernel_rfl) (fun _ _ _ h => h) (Or.inl ⟨by rfl, ?_⟩) hHeld2 ?_
    rotate_left
    · (intro w hSw; obtain ⟨sf, s0, s1, s2, s3, s4, s5, s6, s7, s8, s9⟩ := hSw; go_simp; with_reducible rfl)
    try simp only [Act.put, List.setIfInBounds_toArray, List.set_cons_zero, List.set_cons_succ]
    refine takeW 9 (v := ?_) rfl (by kernel_rfl) (by kernel_rfl) (by kernel_rfl) (fun _ _ _ h => h) (Or.inl ⟨by rfl, ?_⟩) hHeld2 ?_
    rotate_left
    · (intro w hSw; obtain ⟨sf, s0, s1, s2, s3, s4, s5, s6, s7, s8, s9⟩ := hSw; go_simp; with_reducible rfl)
    try simp only [Act.put, List.setIfInBounds_toArray, List.set_cons_zero, List.set_cons_succ]
    refine oneW 10 rfl (by kernel_rfl) ?_
    intro K9 hK9
    go_simp
    refine hK9.out _ _ (SC_set A2.2 _ hfw) (fun _ => ?_)
    clear hK9 K9
    try simp only [List.setIfInBounds_toArray]
    refine wpAnyH_done (by kernel_rfl) ?_ _
    refine NoPanic.normal ?_
    clear hHeld2
    have hW6 := hW3.trans (((Went.refl ok3).kept ((Kept.alloc w3 (headO v0 v1 v2 v3 L v5 v6 v7 m v9)).trans (kept_drew _))).trans (ok4.heads rfl (by show σ.hs.length + 1 = n + 1; rw [hn]) O5 G5 W5))
    obtain ⟨w6, hw6⟩ : ∃ w6, w5.setCell ⟨fb, 1, none⟩ (.slice (some ⟨g2, 0, none⟩) (n + 1) c2) = w6 := ⟨_, rfl⟩
    rw [hw6] at hW6
    have ok6 := hW6.ok
    have p2 : w6.cell? ⟨fb, 2, none⟩ = some (.slice (some ⟨σ.gn, 0, none⟩) nn σ.cn) := by rw [← hnn]; exact ok6.c2
    have q2 := ok6.f2
    have ok7 := ok6.kept (Kept.alloc w6 (.cells #[.string s] 9))
    have hO7 : OwnS (w6.alloc (.cells #[.string s] 9)) B (.slice (some ⟨σ.gn, 0, none⟩) nn σ.cn) σ.ns := by rw [← hnn]; exact ok7.on
    have hc7 : (w6.alloc (.cells #[.string s] 9)).cell? ⟨w6.heap.size, 0, none⟩ = some (.string s) := by simp
    have hsz7 := ok7.size
    have hnn2 : nn + 1 ≤ 1000000 := by omega
    have HN7 : Hid (σ.ns.length + 1 = nn + 1) := by unfold Hid; rw [hnn]
    clear k5 f5 A2 O5 G5 W5 k1 f1 b0 b1 b2 b3 b4 b5 b6 b7 b8 b9 hO4 hH4
    go_wp2_with (at_builtin; refine wpList_append_nameA rfl _ _ rfl B σ.gn nn σ.cn σ.ns s ⟨w6.heap.size, 0, none⟩ 1 hnn rfl rfl hO7 hc7 hnn2 hsz7 ?_; intro g4 c4 w8 O8 G8 W8; have hW9 := ok7.names HN7.out O8 G8 W8; have f8 : w8.frozen? ⟨fb, 2, none⟩ = false := (grown_frozen G8 (block_lt_of_cell ok7.c2) (fun e => ok7.d3.1 e.symm)).trans ok7.f2; obtain ⟨v8', k8⟩ : ∃ v, w8.cell? ⟨fb, 2, none⟩ = some v := ⟨_, grown_cell G8 ok7.c2 (fun e => ok7.d3.1 e.symm)⟩)
    go_end0
    exact ⟨rfl, g, c, g2, c2, g4, c4, (hW6.kept (Kept.alloc _ _)).trans hW9⟩

/-- The heads of parts, while no place of a name is known. -/
def hds0 (n : Nat) (ps : List PartM) : List (List Int) := (ps.zip (layO n ps)).map fun q => hdV q.1 0 q.2
theorem hds0_length (n : Nat) (ps : List PartM) : (hds0 n ps).length = ps.length := by simp [hds0, layO_length]
theorem hds0_append (n : Nat) (ps : List PartM) (p : PartM) : hds0 n (ps ++ [p]) = hds0 n ps ++ [hdV p 0 (layN n ps + padN (layN n ps) p.al)] := by
  unfold hds0
  rw [layO_append, List.zip_append (by rw [layO_length]), List.map_append]
  rfl
/-- These parts are there. -/
structure PSt (ps : List PartM) (σ : FSt) : Prop where
  b : σ.b = layB (List.replicate 64 0) ps
  hs : σ.hs = List.replicate 10 0 :: hds0 64 ps
  ns : σ.ns.map nm = [] :: ps.map (·.nm)
  e : σ.e = 0
theorem PSt.hl {ps : List PartM} {σ : FSt} (h : PSt ps σ) : σ.hs.length = ps.length + 1 := by rw [h.hs, List.length_cons, hds0_length]
theorem PSt.nl {ps : List PartM} {σ : FSt} (h : PSt ps σ) : σ.ns.length = ps.length + 1 := by
  have := congrArg List.length h.ns
  simpa using this
theorem PSt.bl {ps : List PartM} {σ : FSt} (h : PSt ps σ) : σ.b.length = layN 64 ps := by rw [h.b, layB_length, List.length_replicate]
/-- A part is begun. -/
theorem PSt.begin {ps : List PartM} {σ : FSt} (h : PSt ps σ) {p : PartM} {s : ByteArray} (hz : p.z = []) (hn : nm s = p.nm) {g c gh ch gn cn : Nat} {v : List Int} (hv : v = hdV p 0 (padB σ.b p.al).length) :
    PSt (ps ++ [p]) { σ with gb := g, cb := c, gh := gh, ch := ch, gn := gn, cn := cn, b := padB σ.b p.al, hs := σ.hs ++ [v], ns := σ.ns ++ [s] } := by
  refine ⟨?_, ?_, ?_, h.e⟩
  · show padB σ.b p.al = _
    rw [layB_append, h.b]
    show _ = padB (layB (List.replicate 64 0) ps) p.al ++ p.z
    rw [hz, List.append_nil]
  · show σ.hs ++ [v] = _
    rw [h.hs, hds0_append, hv, padB_length, h.bl]
    rfl
  · show (σ.ns ++ [s]).map nm = _
    rw [List.map_append, h.ns, List.map_append, List.map_singleton, List.map_singleton, hn]
    rfl
/-- More bytes of the part that was begun last. -/
theorem PSt.put {ps : List PartM} {σ : FSt} {p : PartM} (h : PSt (ps ++ [p]) σ) (l : List Int) (h8 : p.ty = 8 → l = []) {g c : Nat} {x : Int} (hx : x = (σ.hs.getD (ps.length + 1) []).getD 5 0 + l.length) :
    PSt (ps ++ [{ p with z := p.z ++ l }]) { σ with gb := g, cb := c, b := σ.b ++ l, hs := setH σ.hs (ps.length + 1) 5 x } := by
  have hlast : σ.hs = (List.replicate 10 0 :: hds0 64 ps) ++ [hdV p 0 (layN 64 ps + padN (layN 64 ps) p.al)] := by rw [h.hs, hds0_append]; rfl
  have hpre : (List.replicate 10 (0 : Int) :: hds0 64 ps).length = ps.length + 1 := by rw [List.length_cons, hds0_length]
  have hget : σ.hs.getD (ps.length + 1) [] = hdV p 0 (layN 64 ps + padN (layN 64 ps) p.al) := by
    rw [hlast, List.getD, List.getElem?_append_right (by omega), hpre, Nat.sub_self]
    rfl
  refine ⟨?_, ?_, ?_, h.e⟩
  · show σ.b ++ l = _
    rw [h.b, layB_append, layB_append]
    show (padB (layB (List.replicate 64 0) ps) p.al ++ p.z) ++ l = padB (layB (List.replicate 64 0) ps) p.al ++ (p.z ++ l)
    rw [List.append_assoc]
  · show setH σ.hs (ps.length + 1) 5 x = _
    unfold setH
    rw [hds0_append, hget]
    rw [hlast, List.set_append_right _ _ (by omega), hpre, Nat.sub_self, hx, hget]
    rw [← List.cons_append]
    congr 1
    rw [List.set_cons_zero]
    congr 1
    unfold hdV
    simp only [List.set_cons_succ, List.set_cons_zero, List.getD_cons_zero, List.getD_cons_succ]
    by_cases e : p.ty = 8
    · rw [if_pos e, if_pos e, h8 e]
      simp
    · rw [if_neg e, if_neg e, List.length_append]
      simp
  · show σ.ns.map nm = _
    rw [h.ns, List.map_append, List.map_append]
    rfl
/-- How many bytes parts have at most. -/
def wtP (ps : List PartM) : Nat := (ps.map fun p => 64 + p.z.length).sum
theorem layN_le {ps : List PartM} (h : ∀ p ∈ ps, 1 ≤ p.al ∧ p.al ≤ 64) (n : Nat) : layN n ps ≤ n + wtP ps := by
  induction ps generalizing n with
  | nil => simp [layN, wtP]
  | cons p r ih =>
    have h1 := ih (fun q hq => h q (by simp [hq])) (n + padN n p.al + p.z.length)
    have h2 := h p (by simp)
    have h3 := padN_lt (len := n) (m := p.al) (by omega)
    have e : wtP (p :: r) = 64 + p.z.length + wtP r := by simp [wtP]
    rw [layN, e]
    omega
theorem wtP_append (a b : List PartM) : wtP (a ++ b) = wtP a + wtP b := by unfold wtP; rw [List.map_append, List.sum_append]

def Keep (σ σ' : FSt) : Prop := σ'.sy = σ.sy ∧ σ'.vt = σ.vt ∧ σ'.tb = σ.tb
theorem Keep.refl (σ : FSt) : Keep σ σ := ⟨rfl, rfl, rfl⟩
theorem Keep.trans {a b c : FSt} (h : Keep a b) (k : Keep b c) : Keep a c := ⟨k.1.trans h.1, k.2.1.trans h.2.1, k.2.2.trans h.2.2⟩
theorem PSt.at {ps : List PartM} {σ : FSt} {p : PartM} (h : PSt (ps ++ [p]) σ) : (σ.hs.getD (ps.length + 1) []).getD 5 0 = if p.ty = 8 then p.sz else (p.z.length : Int) := by
  have hpre : (List.replicate 10 (0 : Int) :: hds0 64 ps).length = ps.length + 1 := by rw [List.length_cons, hds0_length]
  have e : σ.hs.getD (ps.length + 1) [] = hdV p 0 (layN 64 ps + padN (layN 64 ps) p.al) := by
    rw [h.hs, hds0_append, ← List.cons_append, List.getD, List.getElem?_append_right (by omega), hpre, Nat.sub_self]
    rfl
  rw [e]
  rfl
theorem pbegin_walk (B fb : Nat) (σ : FSt) (ps : List PartM) (p : PartM) (s : ByteArray) (v5 : Int) (w : World) (hF : FileOk B w fb σ) (hP : PSt ps σ) (hz : p.z = []) (hn : nm s = p.nm) (h5 : v5 = if p.ty = 8 then p.sz else 0) (h1 : 1 ≤ p.al) (h64 : p.al ≤ 64) (hl : layN 64 ps ≤ 1000000) (hk : ps.length ≤ 900) :
    Calls Tryz.prog 92 #[.pointer (some ⟨fb, 0, none⟩), .string s, headW' 0 p.ty p.fl 0 0 v5 p.lk p.nf (p.al : Int) p.en] w fun e w' => e = .returned (.tuple #[]) ∧ ∃ σ', Went B fb σ w σ' w' ∧ PSt (ps ++ [p]) σ' ∧ Keep σ σ' := by
  have h := fbegin_walk B fb σ s 0 p.ty p.fl 0 0 v5 p.lk p.nf p.en p.al w hF h1 h64 (by rw [hP.bl]; exact hl) (by rw [hP.hl]; omega) (by rw [hP.nl]; omega)
  refine h.mono ?_
  rintro e w' ⟨rfl, g, c, gh, ch, gn, cn, hW⟩
  refine ⟨rfl, _, hW, hP.begin hz hn ?_, rfl, rfl, rfl⟩
  unfold hdV
  rw [h5, hz]
  rfl
theorem pput_walk (B fb : Nat) (σ : FSt) (ps : List PartM) (p : PartM) (a : Option Addr) (n cap : Nat) (l : List Int) (w : World) (hF : FileOk B w fb σ) (hP : PSt (ps ++ [p]) σ) (hln : l.length = n) (hb : Byt w a l) (hnil : a = none → n = 0 ∧ cap = 0) (h8 : p.ty = 8 → l = []) (hs0 : 0 ≤ p.sz) (hs1 : p.sz ≤ 1000000) (hl : layN 64 (ps ++ [p]) ≤ 1000000) (hzl : p.z.length ≤ 1000000) (hn : n ≤ 1000000) (hk : ps.length ≤ 900) :
    Calls Tryz.prog 93 #[.pointer (some ⟨fb, 0, none⟩), .slice a n cap, .int .i64 0] w fun e w' => e = .returned (.tuple #[]) ∧ ∃ σ', Went B fb σ w σ' w' ∧ PSt (ps ++ [{ p with z := p.z ++ l }]) σ' ∧ Keep σ σ' := by
  have hat := hP.at
  have hr : 0 ≤ (σ.hs.getD (ps.length + 1) []).getD 5 0 ∧ (σ.hs.getD (ps.length + 1) []).getD 5 0 ≤ 100000000 := by
    rw [hat]
    split <;> omega
  have h := fput_walk B fb σ a n cap l (ps.length + 1) w hF hln hb hnil (by rw [hP.bl]; omega) (by rw [hP.hl, List.length_append]; rfl) (by omega) hr.1 hr.2
  refine h.mono ?_
  rintro e w' ⟨rfl, g, c, hW⟩
  exact ⟨rfl, _, hW, hP.put l h8 (by rw [hln]), rfl, rfl, rfl⟩
end Go.Proofs.YtljmgbpecoifnaaGreatDoor
