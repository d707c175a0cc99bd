/- What the document's own Places gives. -/
import Derived.Test.YtpaeemijpincpaaDoorPlc
namespace Go.Proofs.YtpaeemijpincpaaDoor
open Go.RowKit

theorem rplaces_85 (w : World) : Calls Tryd.prog 24 #[.int .u8 85] w fun e w' => PlacesPost 85 w e w' := by
  go_enter Tryd.func24, Tryd.ntmps24
  go_wp2_with (first
    | (go_at_call 46; refine (from_walk w.heap.size (.slice none 0 0) [] 12 20 w (by decide) (by decide) (by decide) (by decide) (Nat.le_refl _) (World.ownsRow_nil _ _ _ _)).mono ?_; rintro e w1 ⟨v1, rfl, o1, k1⟩))
  go_ret2
  exact placesPost_of (by decide +kernel) (by decide +kernel) o1 k1

theorem rplaces_74 (w : World) : Calls Tryd.prog 24 #[.int .u8 74] w fun e w' => PlacesPost 74 w e w' := by
  go_enter Tryd.func24, Tryd.ntmps24
  go_wp2_with (first
    | (go_at_call 46; refine (from_walk w.heap.size v3 _ 31 1 w3 (by decide) (by decide) (by decide) (by decide) (k3.size) o3).mono ?_; rintro e w4 ⟨v4, rfl, o4, kk⟩; have k4 := Below.trans k3 kk; clear kk)
    | (go_at_call 46; refine (from_walk w.heap.size v2 _ 12 8 w2 (by decide) (by decide) (by decide) (by decide) (k2.size) o2).mono ?_; rintro e w3 ⟨v3, rfl, o3, kk⟩; have k3 := Below.trans k2 kk; clear kk)
    | (go_at_call 46; refine (from_walk w.heap.size v1 _ 20 1 w1 (by decide) (by decide) (by decide) (by decide) (k1.size) o1).mono ?_; rintro e w2 ⟨v2, rfl, o2, kk⟩; have k2 := Below.trans k1 kk; clear kk)
    | (go_at_call 46; refine (from_walk w.heap.size (.slice none 0 0) [] 21 10 w (by decide) (by decide) (by decide) (by decide) (Nat.le_refl _) (World.ownsRow_nil _ _ _ _)).mono ?_; rintro e w1 ⟨v1, rfl, o1, k1⟩))
  go_ret2
  exact placesPost_of (by decide +kernel) (by decide +kernel) o4 k4

theorem rplaces_76 (w : World) : Calls Tryd.prog 24 #[.int .u8 76] w fun e w' => PlacesPost 76 w e w' := by
  go_enter Tryd.func24, Tryd.ntmps24
  go_wp2_with (first
    | (go_at_call 46; refine (from_walk w.heap.size (.slice none 0 0) [] 20 12 w (by decide) (by decide) (by decide) (by decide) (Nat.le_refl _) (World.ownsRow_nil _ _ _ _)).mono ?_; rintro e w1 ⟨v1, rfl, o1, k1⟩))
  go_ret2
  exact placesPost_of (by decide +kernel) (by decide +kernel) o1 k1

theorem rplaces_66 (w : World) : Calls Tryd.prog 24 #[.int .u8 66] w fun e w' => PlacesPost 66 w e w' := by
  go_enter Tryd.func24, Tryd.ntmps24
  go_wp2_with (first
    | (go_at_call 46; refine (from_walk w.heap.size v3 _ 31 1 w3 (by decide) (by decide) (by decide) (by decide) (k3.size) o3).mono ?_; rintro e w4 ⟨v4, rfl, o4, kk⟩; have k4 := Below.trans k3 kk; clear kk)
    | (go_at_call 46; refine (from_walk w.heap.size v2 _ 7 1 w2 (by decide) (by decide) (by decide) (by decide) (k2.size) o2).mono ?_; rintro e w3 ⟨v3, rfl, o3, kk⟩; have k3 := Below.trans k2 kk; clear kk)
    | (go_at_call 46; refine (from_walk w.heap.size v1 _ 25 6 w1 (by decide) (by decide) (by decide) (by decide) (k1.size) o1).mono ?_; rintro e w2 ⟨v2, rfl, o2, kk⟩; have k2 := Below.trans k1 kk; clear kk)
    | (go_at_call 46; refine (from_walk w.heap.size (.slice none 0 0) [] 8 4 w (by decide) (by decide) (by decide) (by decide) (Nat.le_refl _) (World.ownsRow_nil _ _ _ _)).mono ?_; rintro e w1 ⟨v1, rfl, o1, k1⟩))
  go_ret2
  exact placesPost_of (by decide +kernel) (by decide +kernel) o4 k4

theorem rplaces_83 (w : World) : Calls Tryd.prog 24 #[.int .u8 83] w fun e w' => PlacesPost 83 w e w' := by
  go_enter Tryd.func24, Tryd.ntmps24
  go_wp2_with (first
    | (go_at_call 46; refine (from_walk w.heap.size v1 _ 25 7 w1 (by decide) (by decide) (by decide) (by decide) (k1.size) o1).mono ?_; rintro e w2 ⟨v2, rfl, o2, kk⟩; have k2 := Below.trans k1 kk; clear kk)
    | (go_at_call 46; refine (from_walk w.heap.size (.slice none 0 0) [] 7 5 w (by decide) (by decide) (by decide) (by decide) (Nat.le_refl _) (World.ownsRow_nil _ _ _ _)).mono ?_; rintro e w1 ⟨v1, rfl, o1, k1⟩))
  go_ret2
  exact placesPost_of (by decide +kernel) (by decide +kernel) o2 k2

theorem rplaces_73 (w : World) : Calls Tryd.prog 24 #[.int .u8 73] w fun e w' => PlacesPost 73 w e w' := by
  go_enter Tryd.func24, Tryd.ntmps24
  go_wp2_with (first
    | (go_at_call 46; refine (from_walk w.heap.size (.slice none 0 0) [] 20 12 w (by decide) (by decide) (by decide) (by decide) (Nat.le_refl _) (World.ownsRow_nil _ _ _ _)).mono ?_; rintro e w1 ⟨v1, rfl, o1, k1⟩))
  go_ret2
  exact placesPost_of (by decide +kernel) (by decide +kernel) o1 k1

theorem rplaces_54 (w : World) : Calls Tryd.prog 24 #[.int .u8 54] w fun e w' => PlacesPost 54 w e w' := by
  go_enter Tryd.func24, Tryd.ntmps24
  go_wp2_with (first
    | (go_at_call 46; refine (from_walk w.heap.size (.slice none 0 0) [] 20 6 w (by decide) (by decide) (by decide) (by decide) (Nat.le_refl _) (World.ownsRow_nil _ _ _ _)).mono ?_; rintro e w1 ⟨v1, rfl, o1, k1⟩))
  go_ret2
  exact placesPost_of (by decide +kernel) (by decide +kernel) o1 k1

theorem rplaces_82 (w : World) : Calls Tryd.prog 24 #[.int .u8 82] w fun e w' => PlacesPost 82 w e w' := by
  go_enter Tryd.func24, Tryd.ntmps24
  go_wp2
  go_ret2
  exact placesPost_of (l := []) (by decide +kernel) (by decide +kernel) (World.ownsRow_nil _ 0 _ _) (Kept.refl _)

theorem rplaces_53 (w : World) : Calls Tryd.prog 24 #[.int .u8 53] w fun e w' => PlacesPost 53 w e w' := by
  go_enter Tryd.func24, Tryd.ntmps24
  go_wp2_with (first
    | (go_at_call 46; refine (from_walk w.heap.size (.slice none 0 0) [] 20 5 w (by decide) (by decide) (by decide) (by decide) (Nat.le_refl _) (World.ownsRow_nil _ _ _ _)).mono ?_; rintro e w1 ⟨v1, rfl, o1, k1⟩))
  go_ret2
  exact placesPost_of (by decide +kernel) (by decide +kernel) o1 k1

theorem rplaces_70 (w : World) : Calls Tryd.prog 24 #[.int .u8 70] w fun e w' => PlacesPost 70 w e w' := by
  go_enter Tryd.func24, Tryd.ntmps24
  go_wp2_with (first
    | (go_at_call 46; refine (from_walk w.heap.size (.slice none 0 0) [] 20 8 w (by decide) (by decide) (by decide) (by decide) (Nat.le_refl _) (World.ownsRow_nil _ _ _ _)).mono ?_; rintro e w1 ⟨v1, rfl, o1, k1⟩))
  go_ret2
  exact placesPost_of (by decide +kernel) (by decide +kernel) o1 k1

theorem rplaces_78 (w : World) : Calls Tryd.prog 24 #[.int .u8 78] w fun e w' => PlacesPost 78 w e w' := by
  go_enter Tryd.func24, Tryd.ntmps24
  go_wp2
  go_ret2
  exact placesPost_of (l := []) (by decide +kernel) (by decide +kernel) (World.ownsRow_nil _ 0 _ _) (Kept.refl _)

theorem rplaces_67 (w : World) : Calls Tryd.prog 24 #[.int .u8 67] w fun e w' => PlacesPost 67 w e w' := by
  go_enter Tryd.func24, Tryd.ntmps24
  go_wp2_with (first
    | (go_at_call 46; refine (from_walk w.heap.size (.slice none 0 0) [] 20 12 w (by decide) (by decide) (by decide) (by decide) (Nat.le_refl _) (World.ownsRow_nil _ _ _ _)).mono ?_; rintro e w1 ⟨v1, rfl, o1, k1⟩))
  go_ret2
  exact placesPost_of (by decide +kernel) (by decide +kernel) o1 k1

theorem rplaces_90 (w : World) : Calls Tryd.prog 24 #[.int .u8 90] w fun e w' => PlacesPost 90 w e w' := by
  go_enter Tryd.func24, Tryd.ntmps24
  go_wp2_with (first
    | (go_at_call 46; refine (from_walk w.heap.size (.slice none 0 0) [] 20 12 w (by decide) (by decide) (by decide) (by decide) (Nat.le_refl _) (World.ownsRow_nil _ _ _ _)).mono ?_; rintro e w1 ⟨v1, rfl, o1, k1⟩))
  go_ret2
  exact placesPost_of (by decide +kernel) (by decide +kernel) o1 k1

theorem rplaces_108 (w : World) : Calls Tryd.prog 24 #[.int .u8 108] w fun e w' => PlacesPost 108 w e w' := by
  go_enter Tryd.func24, Tryd.ntmps24
  go_wp2_with (first
    | (go_at_call 46; refine (from_walk w.heap.size (.slice none 0 0) [] 25 2 w (by decide) (by decide) (by decide) (by decide) (Nat.le_refl _) (World.ownsRow_nil _ _ _ _)).mono ?_; rintro e w1 ⟨v1, rfl, o1, k1⟩))
  go_ret2
  exact placesPost_of (by decide +kernel) (by decide +kernel) o1 k1

theorem rplaces_65 (w : World) : Calls Tryd.prog 24 #[.int .u8 65] w fun e w' => PlacesPost 65 w e w' := by
  go_enter Tryd.func24, Tryd.ntmps24
  go_wp2_with (first
    | (go_at_call 46; refine (from_walk w.heap.size (.slice none 0 0) [] 25 2 w (by decide) (by decide) (by decide) (by decide) (Nat.le_refl _) (World.ownsRow_nil _ _ _ _)).mono ?_; rintro e w1 ⟨v1, rfl, o1, k1⟩))
  go_ret2
  exact placesPost_of (by decide +kernel) (by decide +kernel) o1 k1

theorem rplaces_none (c : Int) (hc : c ∉ letters) (w : World) : Calls Tryd.prog 24 #[.int .u8 c] w fun e w' => PlacesPost c w e w' := by
  have hl : placeL c = [] := by
    simp only [letters, List.mem_cons, List.not_mem_nil, or_false, not_or] at hc
    simp [placeL, hc]
  have he : plErr c = 2 := by unfold plErr; rw [if_neg hc]
  simp only [letters, List.mem_cons, List.not_mem_nil, or_false, not_or] at hc
  go_enter Tryd.func24, Tryd.ntmps24
  go_wp2
  go_ret2
  exact ⟨none, 0, by rw [hl, he]; rfl, .inl (by rw [hl]; rfl), Kept.refl _⟩

theorem rplaces_walk (c : Int) (w : World) : Calls Tryd.prog 24 #[.int .u8 c] w fun e w' => PlacesPost c w e w' := by
  by_cases hc : c ∈ letters
  · simp only [letters, List.mem_cons, List.not_mem_nil, or_false] at hc
    rcases hc with rfl | rfl | rfl | rfl | rfl | rfl | rfl | rfl | rfl | rfl | rfl | rfl | rfl | rfl | rfl
    · exact rplaces_85 w
    · exact rplaces_74 w
    · exact rplaces_76 w
    · exact rplaces_66 w
    · exact rplaces_83 w
    · exact rplaces_73 w
    · exact rplaces_54 w
    · exact rplaces_82 w
    · exact rplaces_53 w
    · exact rplaces_70 w
    · exact rplaces_78 w
    · exact rplaces_67 w
    · exact rplaces_90 w
    · exact rplaces_108 w
    · exact rplaces_65 w
  · exact rplaces_none c hc w

end Go.Proofs.YtpaeemijpincpaaDoor
