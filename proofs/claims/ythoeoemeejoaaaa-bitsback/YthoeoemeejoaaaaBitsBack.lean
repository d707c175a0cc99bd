/- Proved: the law BitsBack of the package quoinlaw01 returns true for every two words and every slice of places: what was scattered is gathered, and what is gathered, scattered, is the word's bits at these places. No conditions. -/
import Derived.Test.YthoeoemeejoaaaaRows
import Derived.WalkKit
import Derived.ProofKit
import Derived.OpenShut
import Derived.ShutString
import Derived.Test.YthoeoemeejoaaaaPlB
import Derived.ChangeOld
import Derived.Below
import Derived.WalkSmall
namespace Go.Proofs.Ythoeoemeejoaaaa.bitsBack
open Go.ChangeShapes Go.WideShapes Go.ChangeAt Go.RowKit
open Go.ChangeMaps (open_string shut_string)
set_option linter.unusedVariables false

theorem own : ownKnob Try.prog.godebug = none := by kernel_rfl
theorem laidOut : laidOutB Try.prog = true := by kernel_rfl

/-- WHAT THE WALK IS TOLD OF A SLICE OF INTEGERS THAT CAME IN: it is nil; or it leads to a row of 'cap' cells, the numbers 'zs' (the first 'len' are its elements, the rest its spare room), each fitting its kind. -/
def IsRow (k : IntKind) (w : World) (a : Option Addr) (len cap : Nat) (zs : List Int) : Prop :=
  (a = none ∧ len = 0 ∧ cap = 0 ∧ zs = []) ∨
  ∃ x, a = some x ∧ len ≤ cap ∧ cap ≤ maxLen ∧ zs.length = cap ∧ (∀ i, i < zs.length → w.cell? (x.add i) = some (.int k (zs.getD i 0))) ∧ ∀ n ∈ zs, (Lit.int k n).wf = true

/-! ### THE PLAIN FACTS -/
theorem row_cells {k : IntKind} {w : World} {a : Option Addr} {len cap : Nat} {zs : List Int} (hk : k = .i64) (h : IsRow k w a len cap zs) : Cells w a len (fun i => zs.getD i 0) := by
  subst hk
  rcases h with ⟨rfl, rfl, rfl, rfl⟩ | ⟨x, rfl, hl, hm, hz, hcell, hwz⟩
  · exact .inl rfl
  · by_cases h0 : len = 0
    · exact .inl h0
    · obtain ⟨b, off, spot⟩ := x
      have hc := hcell 0 (by omega)
      have hspot : spot = none := by simpa [Addr.add] using World.cell?_spot hc
      subst hspot
      refine .inr ⟨b, off, rfl, fun i hi => ?_⟩
      have h1 := hcell i (by omega)
      by_cases hi0 : i = 0
      · subst hi0; simpa [Addr.add] using h1
      · simpa [Addr.add, hi0] using h1

theorem none_walk (x v : Int) (a : Option Addr) (cap : Nat) (w : World) (x0 : 0 ≤ x) (x1 : x < 4294967296) (v0 : 0 ≤ v) (v1 : v < 4294967296) :
    Calls Try.prog 7 #[.int .u32 x, .int .u32 v, .slice a 0 cap] w fun e w' => e = .returned (.bool true) ∧ ∃ m, w' = w.drewN m := by
  have hv := fun w => scatter_u v v0 v1 a 0 cap (fun _ => 0) w (.inl rfl)
  have hz := fun w => scatter_u 0 (by decide) (by decide) a 0 cap (fun _ => 0) w (.inl rfl)
  have hg := fun w => gather_u x x0 x1 a 0 cap (fun _ => 0) w (.inl rfl)
  have hg0 := fun w => gather_u 0 (by decide) (by decide) a 0 cap (fun _ => 0) w (.inl rfl)
  have he : errOf (fun _ => 0) 0 = 0 := rfl
  have hand : bits .and .u32 x 0 = 0 := by
    rw [u32_and _ _ x0 x1 (by decide) (by decide)]; simp
  simp only [scatV, scatE, gathV, he, if_true, gathTo, scatTo, orTo, okE] at hv hz hg hg0
  simp at hz hg hg0
  by_cases h : v < 1
  · obtain rfl : v = 0 := by omega
    clear hv
    go_enter Try.func7, Try.ntmps7
    go_wp2_with (first
      | (go_at_call 13; refine (alive_walk _).mono ?_; rintro e w' ⟨rfl, m, rfl⟩)
      | (go_at_call 9; refine (hz _).mono ?_; rintro e w' ⟨rfl, rfl⟩)
      | (go_at_call_of 10 (Value.int .u32 x); refine (hg _).mono ?_; rintro e w' ⟨rfl, rfl⟩)
      | (go_at_call 10; refine (hg0 _).mono ?_; rintro e w' ⟨rfl, rfl⟩))
    go_loop [16, 17] (fun s i => i = .int .i64 0 ∧ s = .int .u32 0) (fun _ i => 0 - (intOf i).toNat)
    case atStart => exact ⟨rfl, rfl⟩
    case round =>
      obtain ⟨rfl, rfl⟩ := hrel
      go_wp2
      go_ret
      exact ⟨rfl, _, rfl⟩
  · simp [h] at hv
    go_enter Try.func7, Try.ntmps7
    go_wp2_with (first
      | (go_at_call 13; refine (alive_walk _).mono ?_; rintro e w' ⟨rfl, m, rfl⟩)
      | (go_at_call_of 9 (Value.int .u32 v); refine (hv _).mono ?_; rintro e w' ⟨rfl, rfl⟩)
      | (go_at_call 9; refine (hz _).mono ?_; rintro e w' ⟨rfl, rfl⟩)
      | (go_at_call_of 10 (Value.int .u32 x); refine (hg _).mono ?_; rintro e w' ⟨rfl, rfl⟩))
    go_loop [16, 17] (fun s i => i = .int .i64 0 ∧ s = .int .u32 0) (fun _ i => 0 - (intOf i).toNat)
    case atStart => exact ⟨rfl, rfl⟩
    case round =>
      obtain ⟨rfl, rfl⟩ := hrel
      go_wp2
      go_ret
      exact ⟨rfl, _, rfl⟩

theorem bad_walk (x v : Int) (a : Option Addr) (len cap : Nat) (p : Nat → Int) (w : World) (x0 : 0 ≤ x) (x1 : x < 4294967296) (v0 : 0 ≤ v) (v1 : v < 4294967296)
    (hl : len ≤ 100) (hc : Cells w a len p) (he : errOf p len ≠ 0) :
    Calls Try.prog 7 #[.int .u32 x, .int .u32 v, .slice a len cap] w fun e w' => e = .returned (.bool true) ∧ ∃ m, w' = w.drewN m := by
  have hv := fun m => scatter_u v v0 v1 a len cap p (w.drewN m) (hc.drewN m)
  have hg := fun m => gather_u x x0 x1 a len cap p (w.drewN m) (hc.drewN m)
  have ht : (errOf p len != 0) = true := by simpa using he
  have ht' : (errOf p len == 0) = false := by simpa using he
  simp only [scatV, scatE, gathV, he, if_false] at hv hg
  generalize errOf p len = E at *
  clear hc x0 x1 v0 v1
  go_enter Try.func7, Try.ntmps7
  go_wp2_with (first
    | (go_at_call 13; refine (alive_walk _).mono ?_; rintro e w' ⟨rfl, m, rfl⟩)
    | (go_at_call 9; refine (hv _).mono ?_; rintro e w' ⟨rfl, rfl⟩)
    | (go_at_call 10; refine (hg _).mono ?_; rintro e w' ⟨rfl, rfl⟩))
  go_ret
  exact ⟨rfl, _, rfl⟩

theorem good_walk (x v : Int) (b off len cap : Nat) (p : Nat → Int) (w : World) (x0 : 0 ≤ x) (x1 : x < 4294967296) (v0 : 0 ≤ v) (v1 : v < 4294967296)
    (hc : ∀ i, i < len → w.cell? ⟨b, off + i, none⟩ = some (.int .i64 (p i))) (he : errOf p len = 0) :
    Calls Try.prog 7 #[.int .u32 x, .int .u32 v, .slice (some ⟨b, off, none⟩) len cap] w fun e w' => e = .returned (.bool true) ∧ ∃ m, w' = w.drewN m := by
  obtain ⟨hl, hvd⟩ := errOf_zero he
  have hC : Cells w (some ⟨b, off, none⟩) len p := .inr ⟨b, off, rfl, hc⟩
  have hG := gathTo_lt x.toNat p len
  have hG32 : gathTo x.toNat p len < 2 ^ 32 := Nat.lt_of_lt_of_le hG (Nat.pow_le_pow_right (by decide) hl)
  have hGI : ((gathTo x.toNat p len : Nat) : Int) < 2 ^ len := by
    have h : ((gathTo x.toNat p len : Nat) : Int) < ((2 ^ len : Nat) : Int) := by omega
    simpa using h
  have hv := fun m => scatter_u v v0 v1 (some ⟨b, off, none⟩) len cap p (w.drewN m) (hC.drewN m)
  have hg := fun m => gather_u x x0 x1 (some ⟨b, off, none⟩) len cap p (w.drewN m) (hC.drewN m)
  have hs := fun m => scatter_u (gathTo x.toNat p len : Nat) (by omega) (by omega) (some ⟨b, off, none⟩) len cap p (w.drewN m) (hC.drewN m)
  have hand : bits .and .u32 x (seenTo p len) = (scatTo (gathTo x.toNat p len) p len : Nat) := by
    rw [scat_gath, u32_and _ _ x0 x1 (by omega) (by have := seenTo_lt hvd; omega), Int.toNat_natCast]
  simp only [scatV, scatE, gathV, he, if_true, hGI, okE, Int.toNat_natCast, decide_true] at hv hg hs
  generalize hgg : gathTo x.toNat p len = G at *
  generalize scatTo G p len = D at *
  by_cases hlt : v < 2 ^ len
  · have hsc := scatTo_lt v.toNat hvd
    have hb := fun m => gather_u (scatTo v.toNat p len : Nat) (by omega) (by omega) (some ⟨b, off, none⟩) len cap p (w.drewN m) (hC.drewN m)
    have hvN : v.toNat < 2 ^ len := by
      have h : ((v.toNat : Nat) : Int) < 2 ^ len := by omega
      exact cast_lt_pow.mp h
    simp only [gathV, he, if_true, Int.toNat_natCast, gath_scat v.toNat hvd hvN] at hb
    have hvv : ((v.toNat : Nat) : Int) = v := by omega
    rw [hvv] at hb
    simp only [hlt, if_true, decide_true] at hv
    generalize scatTo v.toNat p len = S at *
    clear hC hG hG32 hGI hgg he hvN hvv hsc x0 x1 v0 v1
    go_enter Try.func7, Try.ntmps7
    go_wp2_with (first
      | (go_at_call 13; refine (alive_walk _).mono ?_; rintro e w' ⟨rfl, m, rfl⟩)
      | (go_at_call_of 9 (Value.int .u32 v); refine (hv _).mono ?_; rintro e w' ⟨rfl, rfl⟩)
      | (go_at_call 9; refine (hs _).mono ?_; rintro e w' ⟨rfl, rfl⟩)
      | (go_at_call_of 10 (Value.int .u32 x); refine (hg _).mono ?_; rintro e w' ⟨rfl, rfl⟩)
      | (go_at_call 10; refine (hb _).mono ?_; rintro e w' ⟨rfl, rfl⟩))
    go_loop [16, 17] (fun s i => ∃ k : Nat, k ≤ len ∧ i = .int .i64 k ∧ s = .int .u32 (seenTo p k)) (fun _ i => len - (intOf i).toNat)
    case atStart => exact ⟨0, by omega, rfl, rfl⟩
    case round =>
      obtain ⟨k, hk, rfl, rfl⟩ := hrel
      have hcell : k < len → w.cell? ⟨b, off + k, none⟩ = some (.int .i64 (p k)) := fun h => hc k h
      have hpk : k < len → 0 ≤ p k ∧ p k < 32 := fun h => vld_at hvd h
      clear hc
      go_wp2
      · have hlt : k < len := by assumption
        rw [seen_put (vld_le hvd (by omega)) (hpk hlt).1 (hpk hlt).2]
        exact ⟨⟨k + 1, by omega, by go_num, rfl⟩, by simp [intOf]; omega⟩
      · obtain rfl : k = len := by omega
        have hd : (((D : Nat) : Int) == bits .and .u32 x (seenTo p k)) = true := by rw [hand]; simp
        go_ret
        exact ⟨congrArg (fun t => Ending.returned (Value.bool t)) hd, _, rfl⟩
  · simp only [hlt, if_false, decide_false] at hv
    simp at hv
    clear hC hG hG32 hGI hgg he x0 x1 v0 v1
    go_enter Try.func7, Try.ntmps7
    go_wp2_with (first
      | (go_at_call 13; refine (alive_walk _).mono ?_; rintro e w' ⟨rfl, m, rfl⟩)
      | (go_at_call_of 9 (Value.int .u32 v); refine (hv _).mono ?_; rintro e w' ⟨rfl, rfl⟩)
      | (go_at_call 9; refine (hs _).mono ?_; rintro e w' ⟨rfl, rfl⟩)
      | (go_at_call_of 10 (Value.int .u32 x); refine (hg _).mono ?_; rintro e w' ⟨rfl, rfl⟩))
    go_loop [16, 17] (fun s i => ∃ k : Nat, k ≤ len ∧ i = .int .i64 k ∧ s = .int .u32 (seenTo p k)) (fun _ i => len - (intOf i).toNat)
    case atStart => exact ⟨0, by omega, rfl, rfl⟩
    case round =>
      obtain ⟨k, hk, rfl, rfl⟩ := hrel
      have hcell : k < len → w.cell? ⟨b, off + k, none⟩ = some (.int .i64 (p k)) := fun h => hc k h
      have hpk : k < len → 0 ≤ p k ∧ p k < 32 := fun h => vld_at hvd h
      clear hc
      go_wp2
      · have hlt : k < len := by assumption
        rw [seen_put (vld_le hvd (by omega)) (hpk hlt).1 (hpk hlt).2]
        exact ⟨⟨k + 1, by omega, by go_num, rfl⟩, by simp [intOf]; omega⟩
      · obtain rfl : k = len := by omega
        have hd : (((D : Nat) : Int) == bits .and .u32 x (seenTo p k)) = true := by rw [hand]; simp
        go_ret
        exact ⟨congrArg (fun t => Ending.returned (Value.bool t)) hd, _, rfl⟩

/-! ### STEP 1: THE WALK: the Go text returns true, AND WRITES NOTHING THAT WAS THERE: 'Below w.heap.size w w'' (Derived/Below.lean: '.refl', '.alloc', '.drew', '.setCell' at a new block, '.trans'). Open each 'IsRow' by 'rcases' AHEAD of 'go_enter'; part every test ahead of the walk. -/
theorem walk (a0 : Int) (a1 : Int) (a2 : Option Addr) (len2 cap2 : Nat) (z2 : List Int) (w : World) (w0 : (Lit.int .u32 a0).wf = true) (w1 : (Lit.int .u32 a1).wf = true) (w2 : IsRow .i64 w a2 len2 cap2 z2) :
    Calls Try.prog 7 #[.int .u32 a0, .int .u32 a1, .slice a2 len2 cap2] w fun e w' => e = .returned (.bool true) ∧ Below w.heap.size w w' := by
  obtain ⟨x0, x1⟩ : 0 ≤ a0 ∧ a0 < 4294967296 := wf_u32 w0
  obtain ⟨v0, v1⟩ : 0 ≤ a1 ∧ a1 < 4294967296 := wf_u32 w1
  have hC := row_cells rfl w2
  clear w0 w1 w2
  suffices h : Calls Try.prog 7 #[.int .u32 a0, .int .u32 a1, .slice a2 len2 cap2] w fun e w' => e = .returned (.bool true) ∧ ∃ m, w' = w.drewN m from
    h.mono fun e w' ⟨he, m, hm⟩ => ⟨he, by subst hm; exact below_drewN (Below.refl _ _) m⟩
  by_cases hl : 100 < len2
  · clear hC x0 x1 v0 v1
    go_enter Try.func7, Try.ntmps7
    go_wp2_with (first
      | (go_at_call 13; refine (alive_walk _).mono ?_; rintro e w' ⟨rfl, m, rfl⟩))
    go_ret
    exact ⟨rfl, _, rfl⟩
  · by_cases he : errOf (fun i => z2.getD i 0) len2 = 0
    · rcases hC with rfl | ⟨b, off, rfl, hc⟩
      · exact none_walk a0 a1 a2 cap2 w x0 x1 v0 v1
      · exact good_walk a0 a1 b off len2 cap2 _ w x0 x1 v0 v1 hc he
    · exact bad_walk a0 a1 a2 len2 cap2 _ w x0 x1 v0 v1 (by omega) hC he

/-! ### THE ROW's STEP: WRITTEN OUT: LEAVE IT -/
set_option maxRecDepth 100000 in
theorem lifted (os : Os) (started : os.Started) (H : Type) (enc : TypeId × Value → H) :
    ReturnsInHanded {} Try.checked os 7 .any (Rows.bitsBackSpec.pre6 enc Try.prog Try.f7 Rows.bitsBackRow.domain false) (Rows.bitsBackSpec.post enc Try.prog Try.f7 false true false false) := by
  refine returnsInHanded_of_change (C := Try.checked) own started (by kernel_rfl) Try.func7
    (ChangeSpec.witness6 (enc := enc) (C := Try.checked) false ⟨#[], #[.int .u32 0, .int .u32 0, .slice none 0 0], []⟩ 8 (by kernel_rfl) (by kernel_rfl) (by kernel_rfl) (by kernel_rfl)) ?_
  intro W base args ds gs before hval0 hW hcnd _
  have hval : ∀ (j : Nat) t v, Try.f7.params[j]? = some t → args[j]? = some v → Value.okWide Try.prog W .any base t v := hval0
  have hW' := hW
  obtain ⟨p, q, hA0, hV, rfl, hfz, hnd⟩ := hW
  have hA : DataW.TrodAll enc Try.prog W 0 (fun _ => true) true Try.f7.params.toList args.toList ds p := hA0
  rw [Try.params7] at hA hval
  obtain ⟨v0, vs0, d0, ds0, p0, q0, hargs, rfl, rfl, h0, r0⟩ := trodAll_cons hA
  obtain ⟨v1, vs1, d1, ds1, p1, q1, rfl, rfl, rfl, h1, r1⟩ := trodAll_cons r0
  obtain ⟨v2, vs2, d2, ds2, p2, q2, rfl, rfl, rfl, h2, r2⟩ := trodAll_cons r1
  obtain ⟨rfl, rfl, rfl⟩ := trodAll_nil r2
  obtain rfl : args = #[v0, v1, v2] := by cases args; simp_all
  obtain ⟨rfl, rfl⟩ := trodVars_none hV
  obtain ⟨a0, rfl, rfl, rfl, w0⟩ := open_int Try.underlying23 (hval 0 23 v0 rfl rfl) h0
  obtain ⟨a1, rfl, rfl, rfl, w1⟩ := open_int Try.underlying23 (hval 1 23 v1 rfl rfl) h1
  obtain ⟨a2, len2, cap2, rfl⟩ := okWide_slice Try.underlying22 (hval 2 22 v2 rfl rfl)
  have k2 := h2
  have lt2 : ∀ x ∈ p2, x.block < W.heap.size := by obtain ⟨m, hm⟩ := k2; exact DataW.trod_lt m _ _ _ hm
  obtain ⟨z2, w2⟩ : ∃ zs, IsRow .i64 W a2 len2 cap2 zs := by
    obtain ⟨fuel, hf⟩ := h2
    rcases open_ints Try.underlying22 Try.underlying3 (by kernel_rfl) hf with ⟨hcs, _⟩ | ⟨x, l, c, zs, hcs, _, hl, hm, hz, _, hcell, hwz⟩
    · simp [Value.cells] at hcs
      obtain ⟨rfl, rfl, rfl⟩ := hcs
      exact ⟨[], .inl ⟨rfl, rfl, rfl, rfl⟩⟩
    · simp [Value.cells] at hcs
      obtain ⟨rfl, rfl, rfl⟩ := hcs
      exact ⟨zs, .inr ⟨_, rfl, hl, hm, by simpa using hz, hcell, hwz⟩⟩
  clear hA0 hval0
  refine (walk a0 a1 a2 len2 cap2 z2 W w0 w1 w2).mono fun e W' ⟨he, bel⟩ => ?_
  subst he
  exact ⟨_, rfl, _, _, _, [], _, [], hW', trodAll_mk1 (shut_bool Try.underlying4 _), (trodAll_cons_mk (shut_int Try.underlying23 w0) (trodAll_cons_mk (shut_int Try.underlying23 w1) (trodAll_cons_mk (Below.trod laidOut (by kernel_rfl) (of_decide_eq_true (by kernel_rfl)) k2 bel lt2) trodAll_mk0))), rfl, bel.frame _, fun h => by cases h⟩

theorem over : Rows.bitsBackRow.holds Try.pinned (OpenSpec.ofChange Rows.bitsBackSpec) :=
  OpenClaim.holds_of_wide 7 Try.f7 rfl rfl rfl rfl rfl rfl rfl ⟨rfl, rfl, rfl, rfl, rfl⟩ rfl rfl rfl rfl rfl (by kernel_rfl) Try.func7 (by kernel_rfl)
    (of_decide_eq_true (by kernel_rfl)) (by unfold Func.isWrapper; first | (rw [if_pos (by decide +kernel)]; kernel_rfl) | (rw [if_neg (by decide +kernel)]; exact ⟨rfl, rfl⟩))
    (fun os started H enc _ => lifted os started H enc)

/-- THE STATEMENT -/
theorem proved : Rows.BitsBackSaid := over
end Go.Proofs.Ythoeoemeejoaaaa.bitsBack

namespace Go.Proofs.Ythoeoemeejoaaaa
theorem bitsBack_holds : Rows.BitsBackSaid := bitsBack.proved
#print axioms bitsBack_holds
end Go.Proofs.Ythoeoemeejoaaaa
