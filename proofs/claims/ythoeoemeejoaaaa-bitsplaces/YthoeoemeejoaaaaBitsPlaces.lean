/- Proved: the law BitsPlaces of the package quoinlaw01 returns true for every word and every slice of places: Scatter and Gather of the package bits answer what the document's own functions answer, and the places stay. No conditions. -/
import Derived.Test.YthoeoemeejoaaaaRows
import Derived.WalkKit
import Derived.ProofKit
import Derived.OpenShut
import Derived.ShutString
import Derived.Test.YthoeoemeejoaaaaPlC
import Derived.WalkSmall
import Derived.ChangeOld
import Derived.Below
namespace Go.Proofs.Ythoeoemeejoaaaa.bitsPlaces
open Go.ChangeShapes Go.WideShapes Go.ChangeAt Go.RowKit
open Go.ChangeMaps (open_string shut_string)
set_option linter.unusedVariables false

theorem own : ownKnob Try.prog.godebug = none := by kernel_rfl
theorem laidOut : laidOutB Try.prog = true := by kernel_rfl

/-- WHAT THE WALK IS TOLD OF A SLICE OF INTEGERS THAT CAME IN: it is nil; or it leads to a row of 'cap' cells, the numbers 'zs' (the first 'len' are its elements, the rest its spare room), each fitting its kind. -/
def IsRow (k : IntKind) (w : World) (a : Option Addr) (len cap : Nat) (zs : List Int) : Prop :=
  (a = none ∧ len = 0 ∧ cap = 0 ∧ zs = []) ∨
  ∃ x, a = some x ∧ len ≤ cap ∧ cap ≤ maxLen ∧ zs.length = cap ∧ (∀ i, i < zs.length → w.cell? (x.add i) = some (.int k (zs.getD i 0))) ∧ ∀ n ∈ zs, (Lit.int k n).wf = true

theorem Try.info3 : (Try.prog.info? 3).map (fun i => (i.zero, i.size, i.bytes)) = some (some (.int .i64 0), 1, 8) := by kernel_rfl

theorem same_u (a c : Option Addr) (len cap cap' : Nat) (hl : len ≤ 100) (p : Nat → Int) (w : World) (ha : Cells w a len p) (hc : Cells w c len p) :
    Calls Try.prog 22 #[.slice a len cap, .slice c len cap'] w fun e w' => e = .returned (.bool true) ∧ ∃ m, w' = w.drewN m := by
  rcases ha with rfl | ⟨b, off, rfl, ha⟩
  · exact same_walk_none a c cap cap' w
  · rcases hc with rfl | ⟨b', off', rfl, hc⟩
    · exact same_walk_none _ _ cap cap' w
    · exact same_walk_some b off b' off' len cap cap' hl p w ha hc

/-- the elements, as cells -/
def cellsTo (p : Nat → Int) (len : Nat) : List Value := (List.range len).map fun i => Value.int .i64 (p i)
theorem cellsTo_len (p : Nat → Int) (len : Nat) : (cellsTo p len).length = len := by simp [cellsTo]
theorem cellsTo_at {p : Nat → Int} {len j : Nat} {u : Value} (h : (cellsTo p len)[j]? = some u) : j < len ∧ u = .int .i64 (p j) := by
  unfold cellsTo at h
  rw [List.getElem?_eq_some_iff] at h
  obtain ⟨hj, h⟩ := h
  simp at hj h
  exact ⟨hj, h.symm⟩
theorem cellsTo_mk {p : Nat → Int} {len j : Nat} (h : j < len) : (cellsTo p len)[j]? = some (.int .i64 (p j)) := by simp [cellsTo, h]

theorem Addr.add_flat (b off j : Nat) : (⟨b, off, none⟩ : Addr).add j = ⟨b, off + j, none⟩ := by
  unfold Addr.add; split <;> simp_all

/-- what is known of the slice behind the append -/
theorem own_cells {w' : World} {base len : Nat} {v' : Value} {p : Nat → Int} (h : w'.ownsRow base 3 1 v' len (cellsTo p len)) (hp : 0 < len) :
    ∃ A C, v' = .slice A len C ∧ Cells w' A len p := by
  have hcell := @World.ownsRow.cells w' base 3 1 v' len (cellsTo p len) h
  rcases h.2 with ⟨_, hn⟩ | ⟨g, cap, cur, hv, _⟩
  · omega
  · refine ⟨some ⟨g, 0, none⟩, cap, hv, .inr ⟨g, 0, rfl, fun i hi => ?_⟩⟩
    have := hcell (g := g) (by rw [hv]; rfl) i _ (cellsTo_mk (p := p) hi)
    rwa [Addr.add_flat] at this

theorem some_walk (x : Int) (b off len cap : Nat) (p : Nat → Int) (w : World) (x0 : 0 ≤ x) (x1 : x < 4294967296) (hp : 0 < len) (hl : len ≤ 100)
    (hc : ∀ i, i < len → w.cell? ⟨b, off + i, none⟩ = some (.int .i64 (p i))) :
    Calls Try.prog 5 #[.int .u32 x, .slice (some ⟨b, off, none⟩) len cap] w fun e w' => e = .returned (.bool true) ∧ Below w.heap.size w w' := by
  obtain ⟨i0, hi, hz0, hz1, hz2⟩ := info_parts Try.info3
  have hnews : ∀ j u, (cellsTo p len)[j]? = some u → w.cell? ((⟨b, off, none⟩ : Addr).add j) = some u := by
    intro j u hu
    obtain ⟨hj, rfl⟩ := cellsTo_at hu
    rw [Addr.add_flat]; exact hc j hj
  have hone : ∀ u ∈ cellsTo p len, u.oneCell' = true := by
    intro u hu
    obtain ⟨i, _, rfl⟩ := List.mem_map.1 hu
    rfl
  go_enter Try.func5, Try.ntmps5
  go_wp2_with (at_builtin; refine wpList_append_own _ rfl (.tmp 17) (.tmp 18) 22 rfl w.heap.size 3 i0 (.int .i64 0) 1 8 Try.underlying22 hi hz0 hz1 hz2 rfl (by decide) (.slice none 0 0) 0 [] rfl (World.ownsRow_nil _ _ _ _) ⟨b, off, none⟩ len cap (cellsTo p len) rfl ?c0 hnews hone ?c3 ?c4 ?c5 ?_)
  case c0 => rw [cellsTo_len, Nat.mul_one]
  case c3 => unfold maxLen; omega
  case c4 => omega
  case c5 => exact Nat.le_refl _
  · intro v' w1 hown hg _
    obtain ⟨A, C, hv, hC1⟩ := own_cells hown hp
    have hbel : Below w.heap.size w w1 := (Below.refl _ _).grown hg (Nat.le_refl _) (fun k e => by cases e)
    have hC : Cells w1 (some ⟨b, off, none⟩) len p := .inr ⟨b, off, rfl, fun i hi => hg.cell (hc i hi) (by simp [Value.ownBlock])⟩
    rw [hv]
    clear hown hg hv hnews hone hi hz0 hz1 hz2 hc
    go_wp2_with (first
      | (go_at_call 9; refine (scatter_u x x0 x1 A len C p _ hC1).mono ?_; rintro e w' ⟨rfl, rfl⟩)
      | (go_at_call 20; refine (rscatter_u x x0 x1 _ len cap p _ hC).mono ?_; rintro e w' ⟨rfl, m, rfl⟩)
      | (go_at_call 10; refine (gather_u x x0 x1 A len C p _ (hC1.drewN _)).mono ?_; rintro e w' ⟨rfl, rfl⟩)
      | (go_at_call 21; refine (rgather_u x x0 x1 _ len cap p _ (hC.drewN _)).mono ?_; rintro e w' ⟨rfl, m, rfl⟩)
      | (go_at_call 22; refine (same_u A _ len C cap hl p _ (hC1.drewN _) (hC.drewN _)).mono ?_; rintro e w' ⟨rfl, m, rfl⟩))
    go_ret
    exact ⟨rfl, below_drewN hbel _⟩

theorem none_walk (x : Int) (a : Option Addr) (cap : Nat) (w : World) (x0 : 0 ≤ x) (x1 : x < 4294967296) :
    Calls Try.prog 5 #[.int .u32 x, .slice a 0 cap] w fun e w' => e = .returned (.bool true) ∧ Below w.heap.size w w' := by
  have hC : ∀ w a, Cells w a 0 (fun _ => 0) := fun _ _ => .inl rfl
  cases a with
  | none =>
    go_enter Try.func5, Try.ntmps5
    go_wp2_with (first
      | (go_at_call 9; refine (scatter_u x x0 x1 _ 0 _ (fun _ => 0) _ (hC _ _)).mono ?_; rintro e w' ⟨rfl, rfl⟩)
      | (go_at_call 20; refine (rscatter_u x x0 x1 _ 0 _ (fun _ => 0) _ (hC _ _)).mono ?_; rintro e w' ⟨rfl, m, rfl⟩)
      | (go_at_call 10; refine (gather_u x x0 x1 _ 0 _ (fun _ => 0) _ (hC _ _)).mono ?_; rintro e w' ⟨rfl, rfl⟩)
      | (go_at_call 21; refine (rgather_u x x0 x1 _ 0 _ (fun _ => 0) _ (hC _ _)).mono ?_; rintro e w' ⟨rfl, m, rfl⟩)
      | (go_at_call 22; refine (same_u _ _ 0 _ _ (by decide) (fun _ => 0) _ (hC _ _) (hC _ _)).mono ?_; rintro e w' ⟨rfl, m, rfl⟩))
    go_ret
    exact ⟨rfl, below_drewN (Below.refl _ _) _⟩
  | some ad =>
    obtain ⟨i0, hi, hz0, hz1, hz2⟩ := info_parts Try.info3
    go_enter Try.func5, Try.ntmps5
    go_wp2_with (at_builtin; refine wpList_append_own _ rfl (.tmp 17) (.tmp 18) 22 rfl w.heap.size 3 i0 (.int .i64 0) 1 8 Try.underlying22 hi hz0 hz1 hz2 rfl (by decide) (.slice none 0 0) 0 [] rfl (World.ownsRow_nil _ _ _ _) ad 0 cap [] rfl rfl ?c1 ?c2 ?c3 ?c4 ?c5 ?_)
    case c1 => intro j u hu; simp at hu
    case c2 => intro u hu; simp at hu
    case c3 => unfold maxLen; omega
    case c4 => omega
    case c5 => exact Nat.le_refl _
    · intro v' w1 hown hg hnil
      have hv : v' = .slice none 0 0 := by simpa using hnil
      have hbel : Below w.heap.size w w1 := (Below.refl _ _).grown hg (Nat.le_refl _) (fun k e => by cases e)
      rw [hv]
      clear hown hg hv hnil hi hz0 hz1 hz2
      go_wp2_with (first
        | (go_at_call 9; refine (scatter_u x x0 x1 _ 0 _ (fun _ => 0) _ (hC _ _)).mono ?_; rintro e w' ⟨rfl, rfl⟩)
        | (go_at_call 20; refine (rscatter_u x x0 x1 _ 0 _ (fun _ => 0) _ (hC _ _)).mono ?_; rintro e w' ⟨rfl, m, rfl⟩)
        | (go_at_call 10; refine (gather_u x x0 x1 _ 0 _ (fun _ => 0) _ (hC _ _)).mono ?_; rintro e w' ⟨rfl, rfl⟩)
        | (go_at_call 21; refine (rgather_u x x0 x1 _ 0 _ (fun _ => 0) _ (hC _ _)).mono ?_; rintro e w' ⟨rfl, m, rfl⟩)
        | (go_at_call 22; refine (same_u _ _ 0 _ _ (by decide) (fun _ => 0) _ (hC _ _) (hC _ _)).mono ?_; rintro e w' ⟨rfl, m, rfl⟩))
      go_ret
      exact ⟨rfl, below_drewN hbel _⟩

theorem row_cells {k : IntKind} {w : World} {a : Option Addr} {len cap : Nat} {zs : List Int} (hk : k = .i64) (h : IsRow k w a len cap zs) : Cells w a len (fun i => zs.getD i 0) := by
  subst hk
  rcases h with ⟨rfl, rfl, rfl, rfl⟩ | ⟨x, rfl, hl, hm, hz, hcell, hwz⟩
  · exact .inl rfl
  · by_cases h0 : len = 0
    · exact .inl h0
    · obtain ⟨b, off, spot⟩ := x
      have hc := hcell 0 (by omega)
      have hspot : spot = none := by simpa [Addr.add] using World.cell?_spot hc
      subst hspot
      refine .inr ⟨b, off, rfl, fun i hi => ?_⟩
      have h1 := hcell i (by omega)
      by_cases hi0 : i = 0
      · subst hi0; simpa [Addr.add] using h1
      · simpa [Addr.add, hi0] using h1

/-! ### STEP 1: THE WALK: the Go text returns true, AND WRITES NOTHING THAT WAS THERE: 'Below w.heap.size w w'' (Derived/Below.lean: '.refl', '.alloc', '.drew', '.setCell' at a new block, '.trans'). Open each 'IsRow' by 'rcases' AHEAD of 'go_enter'; part every test ahead of the walk. -/
theorem walk (a0 : Int) (a1 : Option Addr) (len1 cap1 : Nat) (z1 : List Int) (w : World) (w0 : (Lit.int .u32 a0).wf = true) (w1 : IsRow .i64 w a1 len1 cap1 z1) :
    Calls Try.prog 5 #[.int .u32 a0, .slice a1 len1 cap1] w fun e w' => e = .returned (.bool true) ∧ Below w.heap.size w w' := by
  obtain ⟨x0, x1⟩ : 0 ≤ a0 ∧ a0 < 4294967296 := wf_u32 w0
  by_cases hl : 100 < len1
  · go_enter Try.func5, Try.ntmps5
    go_wp2
    go_ret
    exact ⟨rfl, Below.refl _ _⟩
  · have hC := row_cells rfl w1
    clear w1 w0
    by_cases h0 : len1 = 0
    · subst h0
      exact none_walk a0 a1 cap1 w x0 x1
    · rcases hC with h | ⟨b, off, rfl, hc⟩
      · exact absurd h h0
      · exact some_walk a0 b off len1 cap1 _ w x0 x1 (by omega) (by omega) hc

/-! ### THE ROW's STEP: WRITTEN OUT: LEAVE IT -/
set_option maxRecDepth 100000 in
theorem lifted (os : Os) (started : os.Started) (H : Type) (enc : TypeId × Value → H) :
    ReturnsInHanded {} Try.checked os 5 .any (Rows.bitsPlacesSpec.pre6 enc Try.prog Try.f5 Rows.bitsPlacesRow.domain false) (Rows.bitsPlacesSpec.post enc Try.prog Try.f5 false true false false) := by
  refine returnsInHanded_of_change (C := Try.checked) own started (by kernel_rfl) Try.func5
    (ChangeSpec.witness6 (enc := enc) (C := Try.checked) false ⟨#[], #[.int .u32 0, .slice none 0 0], []⟩ 8 (by kernel_rfl) (by kernel_rfl) (by kernel_rfl) (by kernel_rfl)) ?_
  intro W base args ds gs before hval0 hW hcnd _
  have hval : ∀ (j : Nat) t v, Try.f5.params[j]? = some t → args[j]? = some v → Value.okWide Try.prog W .any base t v := hval0
  have hW' := hW
  obtain ⟨p, q, hA0, hV, rfl, hfz, hnd⟩ := hW
  have hA : DataW.TrodAll enc Try.prog W 0 (fun _ => true) true Try.f5.params.toList args.toList ds p := hA0
  rw [Try.params5] at hA hval
  obtain ⟨v0, vs0, d0, ds0, p0, q0, hargs, rfl, rfl, h0, r0⟩ := trodAll_cons hA
  obtain ⟨v1, vs1, d1, ds1, p1, q1, rfl, rfl, rfl, h1, r1⟩ := trodAll_cons r0
  obtain ⟨rfl, rfl, rfl⟩ := trodAll_nil r1
  obtain rfl : args = #[v0, v1] := by cases args; simp_all
  obtain ⟨rfl, rfl⟩ := trodVars_none hV
  obtain ⟨a0, rfl, rfl, rfl, w0⟩ := open_int Try.underlying23 (hval 0 23 v0 rfl rfl) h0
  obtain ⟨a1, len1, cap1, rfl⟩ := okWide_slice Try.underlying22 (hval 1 22 v1 rfl rfl)
  have k1 := h1
  have lt1 : ∀ x ∈ p1, x.block < W.heap.size := by obtain ⟨m, hm⟩ := k1; exact DataW.trod_lt m _ _ _ hm
  obtain ⟨z1, w1⟩ : ∃ zs, IsRow .i64 W a1 len1 cap1 zs := by
    obtain ⟨fuel, hf⟩ := h1
    rcases open_ints Try.underlying22 Try.underlying3 (by kernel_rfl) hf with ⟨hcs, _⟩ | ⟨x, l, c, zs, hcs, _, hl, hm, hz, _, hcell, hwz⟩
    · simp [Value.cells] at hcs
      obtain ⟨rfl, rfl, rfl⟩ := hcs
      exact ⟨[], .inl ⟨rfl, rfl, rfl, rfl⟩⟩
    · simp [Value.cells] at hcs
      obtain ⟨rfl, rfl, rfl⟩ := hcs
      exact ⟨zs, .inr ⟨_, rfl, hl, hm, by simpa using hz, hcell, hwz⟩⟩
  clear hA0 hval0
  refine (walk a0 a1 len1 cap1 z1 W w0 w1).mono fun e W' ⟨he, bel⟩ => ?_
  subst he
  exact ⟨_, rfl, _, _, _, [], _, [], hW', trodAll_mk1 (shut_bool Try.underlying4 _), (trodAll_cons_mk (shut_int Try.underlying23 w0) (trodAll_cons_mk (Below.trod laidOut (by kernel_rfl) (of_decide_eq_true (by kernel_rfl)) k1 bel lt1) trodAll_mk0)), rfl, bel.frame _, fun h => by cases h⟩

theorem over : Rows.bitsPlacesRow.holds Try.pinned (OpenSpec.ofChange Rows.bitsPlacesSpec) :=
  OpenClaim.holds_of_wide 5 Try.f5 rfl rfl rfl rfl rfl rfl rfl ⟨rfl, rfl, rfl, rfl, rfl⟩ rfl rfl rfl rfl rfl (by kernel_rfl) Try.func5 (by kernel_rfl)
    (of_decide_eq_true (by kernel_rfl)) (by unfold Func.isWrapper; first | (rw [if_pos (by decide +kernel)]; kernel_rfl) | (rw [if_neg (by decide +kernel)]; exact ⟨rfl, rfl⟩))
    (fun os started H enc _ => lifted os started H enc)

/-- THE STATEMENT -/
theorem proved : Rows.BitsPlacesSaid := over
end Go.Proofs.Ythoeoemeejoaaaa.bitsPlaces

namespace Go.Proofs.Ythoeoemeejoaaaa
theorem bitsPlaces_holds : Rows.BitsPlacesSaid := bitsPlaces.proved
#print axioms bitsPlaces_holds
end Go.Proofs.Ythoeoemeejoaaaa
