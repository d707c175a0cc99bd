/- What enc.Places gives, and the document's own Places. -/
import Derived.Test.YtpaeemijpincpaaDoorRuns
namespace Go.Proofs.YtpaeemijpincpaaDoor
open Go.RowKit

theorem runs_none (w : World) :
    Calls Tryd.prog 37 #[.slice none 0 0] w fun r w' => r = .returned (.slice none 0 0) ∧ w' = w := by
  go_enter Tryd.func37, Tryd.ntmps37
  go_wp2
  go_loop [3, 4] (fun v i => v = .slice none 0 0 ∧ i = .int .i64 0) (fun _ _ => 0)
  case atStart => exact ⟨rfl, rfl⟩
  case round =>
    obtain ⟨rfl, rfl⟩ := hrel
    go_wp2
    go_ret
    exact ⟨rfl, rfl⟩

/-- The places of a form's number, its lowest bit's first. -/
def placeL (c : Int) : List Int :=
  if c = 85 then seg 12 20
  else if c = 74 then seg 21 10 ++ seg 20 1 ++ seg 12 8 ++ seg 31 1
  else if c = 73 ∨ c = 76 ∨ c = 67 ∨ c = 90 then seg 20 12
  else if c = 66 then seg 8 4 ++ seg 25 6 ++ seg 7 1 ++ seg 31 1
  else if c = 83 then seg 7 5 ++ seg 25 7
  else if c = 54 then seg 20 6
  else if c = 53 then seg 20 5
  else if c = 70 then seg 20 8
  else if c = 108 ∨ c = 65 then seg 25 2
  else []
def placeP (c : Int) (i : Nat) : Int := (placeL c).getD i 0
def plErr (c : Int) : Int := if c ∈ letters then 0 else 2

theorem szInt : (Tryd.prog.info? 3).map (·.size) = some 1 := by kernel_rfl
theorem zeInt : ((Tryd.prog.info? 3).bind (·.zero)).isSome = true := by kernel_rfl
def intVals (l : List Int) : List Value := l.map (Value.int .i64)
theorem intVals_one (l : List Int) : ∀ v ∈ intVals l, v.cells = #[v] := by
  intro v hv
  obtain ⟨x, _, rfl⟩ := List.mem_map.1 hv
  rfl
theorem intVals_cells {w : World} {b : Nat} {l : List Int} (h : ∀ j v, (intVals l)[j]? = some v → w.cell? ⟨b, j, none⟩ = some v) (n : Nat) (hn : n = l.length) :
    ∀ i, i < n → w.cell? ⟨b, 0 + i, none⟩ = some (.int .i64 (l.getD i 0)) := by
  intro i hi
  rw [Nat.zero_add]
  exact h i _ (by simp [intVals, List.getD, (by omega : i < l.length)])

/-- What is known behind a call of Places. -/
def PlacesPost (c : Int) (w : World) (e : Ending) (w' : World) : Prop :=
  ∃ a cap, e = .returned (.tuple #[.slice a (placeL c).length cap, .int .i64 (plErr c)]) ∧ Cells w' a (placeL c).length (placeP c) ∧ Kept w w'

theorem placesPost_of {c : Int} {w w' : World} {base : Nat} {v : Value} {l : List Int} (hl : l = placeL c) (he : plErr c = 0) (ho : Own w' base v l) (k : Kept w w') :
    PlacesPost c w (.returned (.tuple #[v, .int .i64 0])) w' := by
  subst hl
  obtain ⟨a, cap, rfl, hC⟩ := ho.cells
  exact ⟨a, cap, by rw [he], hC, k⟩

theorem places_85 (w : World) : Calls Tryd.prog 21 #[.int .u8 85] w fun e w' => PlacesPost 85 w e w' := by
  go_enter Tryd.func21, Tryd.ntmps21
  go_wp2_with (first
    | (refine wpList_lit rfl 47 3 2 _ rfl (intVals [12, 31]) Tryd.underlying47 szInt zeInt (by kernel_rfl) (by omega) (by omega) (intVals_one _) (by kernel_rfl) ?_; intro b0 w0 k0 c0)
    | (go_at_call 37; refine (runs_walk b0 0 1 2 2 (fun i => ([12, 31] : List Int).getD i 0) w0 (by decide) (by decide) (by decide) (intVals_cells c0 _ rfl) (by decide)).mono ?_; rintro e w' ⟨v', rfl, ho, hk⟩))
  go_ret2
  exact placesPost_of (by decide +kernel) (by decide +kernel) ho (Kept.trans k0 hk)

theorem places_74 (w : World) : Calls Tryd.prog 21 #[.int .u8 74] w fun e w' => PlacesPost 74 w e w' := by
  go_enter Tryd.func21, Tryd.ntmps21
  go_wp2_with (first
    | (refine wpList_lit rfl 47 3 8 _ rfl (intVals [21, 30, 20, 20, 12, 19, 31, 31]) Tryd.underlying47 szInt zeInt (by kernel_rfl) (by omega) (by omega) (intVals_one _) (by kernel_rfl) ?_; intro b0 w0 k0 c0)
    | (go_at_call 37; refine (runs_walk b0 0 4 8 8 (fun i => ([21, 30, 20, 20, 12, 19, 31, 31] : List Int).getD i 0) w0 (by decide) (by decide) (by decide) (intVals_cells c0 _ rfl) (by decide)).mono ?_; rintro e w' ⟨v', rfl, ho, hk⟩))
  go_ret2
  exact placesPost_of (by decide +kernel) (by decide +kernel) ho (Kept.trans k0 hk)

theorem places_76 (w : World) : Calls Tryd.prog 21 #[.int .u8 76] w fun e w' => PlacesPost 76 w e w' := by
  go_enter Tryd.func21, Tryd.ntmps21
  go_wp2_with (first
    | (refine wpList_lit rfl 47 3 2 _ rfl (intVals [20, 31]) Tryd.underlying47 szInt zeInt (by kernel_rfl) (by omega) (by omega) (intVals_one _) (by kernel_rfl) ?_; intro b0 w0 k0 c0)
    | (go_at_call 37; refine (runs_walk b0 0 1 2 2 (fun i => ([20, 31] : List Int).getD i 0) w0 (by decide) (by decide) (by decide) (intVals_cells c0 _ rfl) (by decide)).mono ?_; rintro e w' ⟨v', rfl, ho, hk⟩))
  go_ret2
  exact placesPost_of (by decide +kernel) (by decide +kernel) ho (Kept.trans k0 hk)

theorem places_66 (w : World) : Calls Tryd.prog 21 #[.int .u8 66] w fun e w' => PlacesPost 66 w e w' := by
  go_enter Tryd.func21, Tryd.ntmps21
  go_wp2_with (first
    | (refine wpList_lit rfl 47 3 8 _ rfl (intVals [8, 11, 25, 30, 7, 7, 31, 31]) Tryd.underlying47 szInt zeInt (by kernel_rfl) (by omega) (by omega) (intVals_one _) (by kernel_rfl) ?_; intro b0 w0 k0 c0)
    | (go_at_call 37; refine (runs_walk b0 0 4 8 8 (fun i => ([8, 11, 25, 30, 7, 7, 31, 31] : List Int).getD i 0) w0 (by decide) (by decide) (by decide) (intVals_cells c0 _ rfl) (by decide)).mono ?_; rintro e w' ⟨v', rfl, ho, hk⟩))
  go_ret2
  exact placesPost_of (by decide +kernel) (by decide +kernel) ho (Kept.trans k0 hk)

theorem places_83 (w : World) : Calls Tryd.prog 21 #[.int .u8 83] w fun e w' => PlacesPost 83 w e w' := by
  go_enter Tryd.func21, Tryd.ntmps21
  go_wp2_with (first
    | (refine wpList_lit rfl 47 3 4 _ rfl (intVals [7, 11, 25, 31]) Tryd.underlying47 szInt zeInt (by kernel_rfl) (by omega) (by omega) (intVals_one _) (by kernel_rfl) ?_; intro b0 w0 k0 c0)
    | (go_at_call 37; refine (runs_walk b0 0 2 4 4 (fun i => ([7, 11, 25, 31] : List Int).getD i 0) w0 (by decide) (by decide) (by decide) (intVals_cells c0 _ rfl) (by decide)).mono ?_; rintro e w' ⟨v', rfl, ho, hk⟩))
  go_ret2
  exact placesPost_of (by decide +kernel) (by decide +kernel) ho (Kept.trans k0 hk)

theorem places_73 (w : World) : Calls Tryd.prog 21 #[.int .u8 73] w fun e w' => PlacesPost 73 w e w' := by
  go_enter Tryd.func21, Tryd.ntmps21
  go_wp2_with (first
    | (refine wpList_lit rfl 47 3 2 _ rfl (intVals [20, 31]) Tryd.underlying47 szInt zeInt (by kernel_rfl) (by omega) (by omega) (intVals_one _) (by kernel_rfl) ?_; intro b0 w0 k0 c0)
    | (go_at_call 37; refine (runs_walk b0 0 1 2 2 (fun i => ([20, 31] : List Int).getD i 0) w0 (by decide) (by decide) (by decide) (intVals_cells c0 _ rfl) (by decide)).mono ?_; rintro e w' ⟨v', rfl, ho, hk⟩))
  go_ret2
  exact placesPost_of (by decide +kernel) (by decide +kernel) ho (Kept.trans k0 hk)

theorem places_54 (w : World) : Calls Tryd.prog 21 #[.int .u8 54] w fun e w' => PlacesPost 54 w e w' := by
  go_enter Tryd.func21, Tryd.ntmps21
  go_wp2_with (first
    | (refine wpList_lit rfl 47 3 2 _ rfl (intVals [20, 25]) Tryd.underlying47 szInt zeInt (by kernel_rfl) (by omega) (by omega) (intVals_one _) (by kernel_rfl) ?_; intro b0 w0 k0 c0)
    | (go_at_call 37; refine (runs_walk b0 0 1 2 2 (fun i => ([20, 25] : List Int).getD i 0) w0 (by decide) (by decide) (by decide) (intVals_cells c0 _ rfl) (by decide)).mono ?_; rintro e w' ⟨v', rfl, ho, hk⟩))
  go_ret2
  exact placesPost_of (by decide +kernel) (by decide +kernel) ho (Kept.trans k0 hk)

theorem places_82 (w : World) : Calls Tryd.prog 21 #[.int .u8 82] w fun e w' => PlacesPost 82 w e w' := by
  go_enter Tryd.func21, Tryd.ntmps21
  go_wp2_with (go_at_call 37; refine (runs_none _).mono ?_; rintro e w' ⟨rfl, rfl⟩)
  go_ret2
  exact placesPost_of (l := []) (by decide +kernel) (by decide +kernel) (World.ownsRow_nil _ 0 _ _) (Kept.refl _)

theorem places_53 (w : World) : Calls Tryd.prog 21 #[.int .u8 53] w fun e w' => PlacesPost 53 w e w' := by
  go_enter Tryd.func21, Tryd.ntmps21
  go_wp2_with (first
    | (refine wpList_lit rfl 47 3 2 _ rfl (intVals [20, 24]) Tryd.underlying47 szInt zeInt (by kernel_rfl) (by omega) (by omega) (intVals_one _) (by kernel_rfl) ?_; intro b0 w0 k0 c0)
    | (go_at_call 37; refine (runs_walk b0 0 1 2 2 (fun i => ([20, 24] : List Int).getD i 0) w0 (by decide) (by decide) (by decide) (intVals_cells c0 _ rfl) (by decide)).mono ?_; rintro e w' ⟨v', rfl, ho, hk⟩))
  go_ret2
  exact placesPost_of (by decide +kernel) (by decide +kernel) ho (Kept.trans k0 hk)

theorem places_70 (w : World) : Calls Tryd.prog 21 #[.int .u8 70] w fun e w' => PlacesPost 70 w e w' := by
  go_enter Tryd.func21, Tryd.ntmps21
  go_wp2_with (first
    | (refine wpList_lit rfl 47 3 2 _ rfl (intVals [20, 27]) Tryd.underlying47 szInt zeInt (by kernel_rfl) (by omega) (by omega) (intVals_one _) (by kernel_rfl) ?_; intro b0 w0 k0 c0)
    | (go_at_call 37; refine (runs_walk b0 0 1 2 2 (fun i => ([20, 27] : List Int).getD i 0) w0 (by decide) (by decide) (by decide) (intVals_cells c0 _ rfl) (by decide)).mono ?_; rintro e w' ⟨v', rfl, ho, hk⟩))
  go_ret2
  exact placesPost_of (by decide +kernel) (by decide +kernel) ho (Kept.trans k0 hk)

theorem places_78 (w : World) : Calls Tryd.prog 21 #[.int .u8 78] w fun e w' => PlacesPost 78 w e w' := by
  go_enter Tryd.func21, Tryd.ntmps21
  go_wp2_with (go_at_call 37; refine (runs_none _).mono ?_; rintro e w' ⟨rfl, rfl⟩)
  go_ret2
  exact placesPost_of (l := []) (by decide +kernel) (by decide +kernel) (World.ownsRow_nil _ 0 _ _) (Kept.refl _)

theorem places_67 (w : World) : Calls Tryd.prog 21 #[.int .u8 67] w fun e w' => PlacesPost 67 w e w' := by
  go_enter Tryd.func21, Tryd.ntmps21
  go_wp2_with (first
    | (refine wpList_lit rfl 47 3 2 _ rfl (intVals [20, 31]) Tryd.underlying47 szInt zeInt (by kernel_rfl) (by omega) (by omega) (intVals_one _) (by kernel_rfl) ?_; intro b0 w0 k0 c0)
    | (go_at_call 37; refine (runs_walk b0 0 1 2 2 (fun i => ([20, 31] : List Int).getD i 0) w0 (by decide) (by decide) (by decide) (intVals_cells c0 _ rfl) (by decide)).mono ?_; rintro e w' ⟨v', rfl, ho, hk⟩))
  go_ret2
  exact placesPost_of (by decide +kernel) (by decide +kernel) ho (Kept.trans k0 hk)

theorem places_90 (w : World) : Calls Tryd.prog 21 #[.int .u8 90] w fun e w' => PlacesPost 90 w e w' := by
  go_enter Tryd.func21, Tryd.ntmps21
  go_wp2_with (first
    | (refine wpList_lit rfl 47 3 2 _ rfl (intVals [20, 31]) Tryd.underlying47 szInt zeInt (by kernel_rfl) (by omega) (by omega) (intVals_one _) (by kernel_rfl) ?_; intro b0 w0 k0 c0)
    | (go_at_call 37; refine (runs_walk b0 0 1 2 2 (fun i => ([20, 31] : List Int).getD i 0) w0 (by decide) (by decide) (by decide) (intVals_cells c0 _ rfl) (by decide)).mono ?_; rintro e w' ⟨v', rfl, ho, hk⟩))
  go_ret2
  exact placesPost_of (by decide +kernel) (by decide +kernel) ho (Kept.trans k0 hk)

theorem places_108 (w : World) : Calls Tryd.prog 21 #[.int .u8 108] w fun e w' => PlacesPost 108 w e w' := by
  go_enter Tryd.func21, Tryd.ntmps21
  go_wp2_with (first
    | (refine wpList_lit rfl 47 3 2 _ rfl (intVals [25, 26]) Tryd.underlying47 szInt zeInt (by kernel_rfl) (by omega) (by omega) (intVals_one _) (by kernel_rfl) ?_; intro b0 w0 k0 c0)
    | (go_at_call 37; refine (runs_walk b0 0 1 2 2 (fun i => ([25, 26] : List Int).getD i 0) w0 (by decide) (by decide) (by decide) (intVals_cells c0 _ rfl) (by decide)).mono ?_; rintro e w' ⟨v', rfl, ho, hk⟩))
  go_ret2
  exact placesPost_of (by decide +kernel) (by decide +kernel) ho (Kept.trans k0 hk)

theorem places_65 (w : World) : Calls Tryd.prog 21 #[.int .u8 65] w fun e w' => PlacesPost 65 w e w' := by
  go_enter Tryd.func21, Tryd.ntmps21
  go_wp2_with (first
    | (refine wpList_lit rfl 47 3 2 _ rfl (intVals [25, 26]) Tryd.underlying47 szInt zeInt (by kernel_rfl) (by omega) (by omega) (intVals_one _) (by kernel_rfl) ?_; intro b0 w0 k0 c0)
    | (go_at_call 37; refine (runs_walk b0 0 1 2 2 (fun i => ([25, 26] : List Int).getD i 0) w0 (by decide) (by decide) (by decide) (intVals_cells c0 _ rfl) (by decide)).mono ?_; rintro e w' ⟨v', rfl, ho, hk⟩))
  go_ret2
  exact placesPost_of (by decide +kernel) (by decide +kernel) ho (Kept.trans k0 hk)

theorem places_none (c : Int) (hc : c ∉ letters) (w : World) : Calls Tryd.prog 21 #[.int .u8 c] w fun e w' => PlacesPost c w e w' := by
  have hl : placeL c = [] := by
    simp only [letters, List.mem_cons, List.not_mem_nil, or_false, not_or] at hc
    simp [placeL, hc]
  have he : plErr c = 2 := by unfold plErr; rw [if_neg hc]
  simp only [letters, List.mem_cons, List.not_mem_nil, or_false, not_or] at hc
  go_enter Tryd.func21, Tryd.ntmps21
  go_wp2
  go_ret2
  exact ⟨none, 0, by rw [hl, he]; rfl, .inl (by rw [hl]; rfl), Kept.refl _⟩

theorem places_walk (c : Int) (w : World) : Calls Tryd.prog 21 #[.int .u8 c] w fun e w' => PlacesPost c w e w' := by
  by_cases hc : c ∈ letters
  · simp only [letters, List.mem_cons, List.not_mem_nil, or_false] at hc
    rcases hc with rfl | rfl | rfl | rfl | rfl | rfl | rfl | rfl | rfl | rfl | rfl | rfl | rfl | rfl | rfl
    · exact places_85 w
    · exact places_74 w
    · exact places_76 w
    · exact places_66 w
    · exact places_83 w
    · exact places_73 w
    · exact places_54 w
    · exact places_82 w
    · exact places_53 w
    · exact places_70 w
    · exact places_78 w
    · exact places_67 w
    · exact places_90 w
    · exact places_108 w
    · exact places_65 w
  · exact places_none c hc w

end Go.Proofs.YtpaeemijpincpaaDoor
