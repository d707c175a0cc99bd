/- The document's own parts in one form; what its Bits, its Base give. -/
import Derived.Test.YtpaeemijpincpaaDoorPa
import Derived.Test.YtpaeemijpincpaaDoorPb
import Derived.Test.YtpaeemijpincpaaDoorSum
namespace Go.Proofs.YtpaeemijpincpaaDoor
open Go.RowKit

theorem tab_g0 : ∀ k, k < 6 → 99 = codeC (4 + k) ∧ nthV [0, 1, 4, 5, 6, 7] k = fC (4 + k) ∧ 0 = gC (4 + k) := by decide +kernel
theorem tab_g1 : ∀ k, k < 7 → 3 = codeC (10 + k) ∧ (k : Int) = fC (10 + k) ∧ 0 = gC (10 + k) := by decide +kernel
theorem tab_g2 : ∀ k, k < 4 → 35 = codeC (17 + k) ∧ (k : Int) = fC (17 + k) ∧ 0 = gC (17 + k) := by decide +kernel
theorem tab_g3 : ∀ k, k < 9 → 19 = codeC (21 + k) ∧ nthV [0, 2, 3, 4, 6, 7, 1, 5, 5] k = fC (21 + k) ∧ nthV [0, 0, 0, 0, 0, 0, 0, 0, 32] k = gC (21 + k) := by decide +kernel
theorem tab_g4 : ∀ k, k < 10 → 51 = codeC (30 + k) ∧ nthV [0, 0, 1, 2, 3, 4, 5, 5, 6, 7] k = fC (30 + k) ∧ nthV [0, 32, 0, 0, 0, 0, 0, 32, 0, 0] k = gC (30 + k) := by decide +kernel
theorem tab_g5 : ∀ k, k < 4 → 27 = codeC (40 + k) ∧ nthV [0, 1, 5, 5] k = fC (40 + k) ∧ nthV [0, 0, 0, 32] k = gC (40 + k) := by decide +kernel
theorem tab_g6 : ∀ k, k < 5 → 59 = codeC (44 + k) ∧ nthV [0, 0, 1, 5, 5] k = fC (44 + k) ∧ nthV [0, 32, 0, 0, 32] k = gC (44 + k) := by decide +kernel
theorem tab_g7 : ∀ k, k < 8 → 51 = codeC (49 + k) ∧ (k : Int) = fC (49 + k) ∧ 1 = gC (49 + k) := by decide +kernel
theorem tab_g8 : ∀ k, k < 5 → 59 = codeC (57 + k) ∧ nthV [0, 4, 5, 6, 7] k = fC (57 + k) ∧ 1 = gC (57 + k) := by decide +kernel
theorem tab_g9 : ∀ k, k < 6 → 115 = codeC (66 + k) ∧ nthV [1, 2, 3, 5, 6, 7] k = fC (66 + k) ∧ 0 = gC (66 + k) := by decide +kernel
theorem tab_w : ∀ k, k < 11 → 47 = codeC (72 + k) ∧ 2 = fC (72 + k) ∧ 4 * nthV [2, 3, 1, 0, 4, 12, 8, 16, 20, 24, 28] k = gC (72 + k) := by decide +kernel
theorem tab_d : ∀ k, k < 11 → 47 = codeC (83 + k) ∧ 3 = fC (83 + k) ∧ 4 * nthV [2, 3, 1, 0, 4, 12, 8, 16, 20, 24, 28] k = gC (83 + k) := by decide +kernel

def PartsPost (i : Nat) (w : World) (e : Ending) (w' : World) : Prop := e = .returned (.tuple #[.int .i64 (codeC i), .int .i64 (fC i), .int .i64 (gC i)]) ∧ Kept w w'

theorem partsPost_of {i : Nat} {w : World} {c f g : Int} {s : ByteArray} (hs : s = nm i) (h : Calls Tryd.prog 39 #[.string s] w fun e w' => e = .returned (.tuple #[.int .i64 c, .int .i64 f, .int .i64 g]) ∧ Kept w w') (ht : c = codeC i ∧ f = fC i ∧ g = gC i) :
    Calls Tryd.prog 39 #[.string (nm i)] w (PartsPost i w) := by
  obtain ⟨rfl, rfl, rfl⟩ := ht
  subst hs
  exact h

theorem parts_walk (i : Nat) (hi : i < 94) (w : World) : Calls Tryd.prog 39 #[.string (nm i)] w (PartsPost i w) := by
  by_cases h0 : i = 0
  · subst h0
    exact partsPost_of (by decide +kernel) (parts_0 w) (by decide +kernel)
  by_cases h1 : i = 1
  · subst h1
    exact partsPost_of (by decide +kernel) (parts_1 w) (by decide +kernel)
  by_cases h2 : i = 2
  · subst h2
    exact partsPost_of (by decide +kernel) (parts_2 w) (by decide +kernel)
  by_cases h3 : i = 3
  · subst h3
    exact partsPost_of (by decide +kernel) (parts_3 w) (by decide +kernel)
  by_cases h4 : i < 10
  · obtain ⟨k, rfl⟩ : ∃ k, i = 4 + k := ⟨i - 4, by omega⟩
    exact partsPost_of rfl (parts_g0 k (by omega) w) (tab_g0 k (by omega))
  by_cases h10 : i < 17
  · obtain ⟨k, rfl⟩ : ∃ k, i = 10 + k := ⟨i - 10, by omega⟩
    exact partsPost_of rfl (parts_g1 k (by omega) w) (tab_g1 k (by omega))
  by_cases h17 : i < 21
  · obtain ⟨k, rfl⟩ : ∃ k, i = 17 + k := ⟨i - 17, by omega⟩
    exact partsPost_of rfl (parts_g2 k (by omega) w) (tab_g2 k (by omega))
  by_cases h21 : i < 30
  · obtain ⟨k, rfl⟩ : ∃ k, i = 21 + k := ⟨i - 21, by omega⟩
    exact partsPost_of rfl (parts_g3 k (by omega) w) (tab_g3 k (by omega))
  by_cases h30 : i < 40
  · obtain ⟨k, rfl⟩ : ∃ k, i = 30 + k := ⟨i - 30, by omega⟩
    exact partsPost_of rfl (parts_g4 k (by omega) w) (tab_g4 k (by omega))
  by_cases h40 : i < 44
  · obtain ⟨k, rfl⟩ : ∃ k, i = 40 + k := ⟨i - 40, by omega⟩
    exact partsPost_of rfl (parts_g5 k (by omega) w) (tab_g5 k (by omega))
  by_cases h44 : i < 49
  · obtain ⟨k, rfl⟩ : ∃ k, i = 44 + k := ⟨i - 44, by omega⟩
    exact partsPost_of rfl (parts_g6 k (by omega) w) (tab_g6 k (by omega))
  by_cases h49 : i < 57
  · obtain ⟨k, rfl⟩ : ∃ k, i = 49 + k := ⟨i - 49, by omega⟩
    exact partsPost_of rfl (parts_g7 k (by omega) w) (tab_g7 k (by omega))
  by_cases h57 : i < 62
  · obtain ⟨k, rfl⟩ : ∃ k, i = 57 + k := ⟨i - 57, by omega⟩
    exact partsPost_of rfl (parts_g8 k (by omega) w) (tab_g8 k (by omega))
  by_cases h62 : i = 62
  · subst h62
    exact partsPost_of (by decide +kernel) (parts_62 w) (by decide +kernel)
  by_cases h63 : i = 63
  · subst h63
    exact partsPost_of (by decide +kernel) (parts_63 w) (by decide +kernel)
  by_cases h64 : i = 64
  · subst h64
    exact partsPost_of (by decide +kernel) (parts_64 w) (by decide +kernel)
  by_cases h65 : i = 65
  · subst h65
    exact partsPost_of (by decide +kernel) (parts_65 w) (by decide +kernel)
  by_cases h66 : i < 72
  · obtain ⟨k, rfl⟩ : ∃ k, i = 66 + k := ⟨i - 66, by omega⟩
    exact partsPost_of rfl (parts_g9 k (by omega) w) (tab_g9 k (by omega))
  by_cases h72 : i < 83
  · obtain ⟨k, rfl⟩ : ∃ k, i = 72 + k := ⟨i - 72, by omega⟩
    exact partsPost_of rfl (parts_w k (by omega) w) (tab_w k (by omega))
  by_cases h83 : i < 94
  · obtain ⟨k, rfl⟩ : ∃ k, i = 83 + k := ⟨i - 83, by omega⟩
    exact partsPost_of rfl (parts_d k (by omega) w) (tab_d k (by omega))
  omega

theorem ebreak_name : ∀ i, i < 94 → ((nm i).toList == [101, 98, 114, 101, 97, 107]) = decide (i = 65) := by decide +kernel

theorem two_12 (w : World) : Calls Tryd.prog 26 #[.int .i64 12] w fun e w' => e = .returned (.int .i64 4096) ∧ w' = w := by
  have h := two_walk_at 12 (by decide) w
  have e : (2 : Int) ^ 12 = 4096 := by decide
  rw [e] at h
  exact h
theorem two_25 (w : World) : Calls Tryd.prog 26 #[.int .i64 25] w fun e w' => e = .returned (.int .i64 33554432) ∧ w' = w := by
  have h := two_walk_at 25 (by decide) w
  have e : (2 : Int) ^ 25 = 33554432 := by decide
  rw [e] at h
  exact h
theorem two_20 (w : World) : Calls Tryd.prog 26 #[.int .i64 20] w fun e w' => e = .returned (.int .i64 1048576) ∧ w' = w := by
  have h := two_walk_at 20 (by decide) w
  have e : (2 : Int) ^ 20 = 1048576 := by decide
  rw [e] at h
  exact h

set_option maxHeartbeats 1600000 in
theorem rbits_walk (op : Int) (h0 : 0 ≤ op) (h1 : op ≤ 255) (hop : isOp op = true) (w : World) :
    Calls Tryd.prog 22 #[.int .u8 op] w fun e w' => e = .returned (.int .u32 (baseC (op.toNat - 1))) ∧ Kept w w' := by
  have hb := isOp_true hop
  have hn : nameV op = nm (op.toNat - 1) := by unfold nameV; rw [if_pos hop]
  have hi : op.toNat - 1 < 94 := by omega
  have hs := sums _ hi
  have hbd := parts_bound _ hi
  have heb := ebreak_name _ hi
  have hlt := baseC_lt _ hi
  have cP := fun w => parts_walk _ hi w
  have c12 := two_12
  have c25 := two_25
  have c20 := two_20
  generalize op.toNat - 1 = i at *
  generalize baseC i = B at *
  unfold PartsPost at cP
  have hK := Kept.refl w
  by_cases hz : i = 65
  · have heb' : ((nm i).toList == [101, 98, 114, 101, 97, 107]) = true := by rw [heb]; exact decide_eq_true hz
    rw [if_pos hz] at hs
    clear heb hz
    generalize codeC i = c at *
    generalize fC i = f at *
    generalize gC i = g at *
    clear hb
    go_enter Tryd.func22, Tryd.ntmps22
    go_wp2_with (first
      | (go_at_call 38; refine (refName_walk _ h0 h1 _).mono ?_; rintro e w' ⟨rfl, hk⟩; have hK := Kept.trans hK hk; clear hk)
      | (go_at_call 39; refine (cP _).mono ?_; rintro e w' ⟨rfl, hk⟩; have hK := Kept.trans hK hk; clear hk)
      | (go_at_call_of 26 (Value.int .i64 12); refine (c12 _).mono ?_; rintro e w' ⟨rfl, rfl⟩)
      | (go_at_call_of 26 (Value.int .i64 25); refine (c25 _).mono ?_; rintro e w' ⟨rfl, rfl⟩)
      | (go_at_call_of 26 (Value.int .i64 20); refine (c20 _).mono ?_; rintro e w' ⟨rfl, rfl⟩))
    go_ret
    exact ⟨rfl, hK⟩
  · have heb' : ((nm i).toList == [101, 98, 114, 101, 97, 107]) = false := by rw [heb]; exact decide_eq_false hz
    rw [if_neg hz, Int.add_zero] at hs
    clear heb hz
    generalize codeC i = c at *
    generalize fC i = f at *
    generalize gC i = g at *
    clear hb
    go_enter Tryd.func22, Tryd.ntmps22
    go_wp2_with (first
      | (go_at_call 38; refine (refName_walk _ h0 h1 _).mono ?_; rintro e w' ⟨rfl, hk⟩; have hK := Kept.trans hK hk; clear hk)
      | (go_at_call 39; refine (cP _).mono ?_; rintro e w' ⟨rfl, hk⟩; have hK := Kept.trans hK hk; clear hk)
      | (go_at_call_of 26 (Value.int .i64 12); refine (c12 _).mono ?_; rintro e w' ⟨rfl, rfl⟩)
      | (go_at_call_of 26 (Value.int .i64 25); refine (c25 _).mono ?_; rintro e w' ⟨rfl, rfl⟩)
      | (go_at_call_of 26 (Value.int .i64 20); refine (c20 _).mono ?_; rintro e w' ⟨rfl, rfl⟩))
    go_ret
    exact ⟨rfl, hK⟩

end Go.Proofs.YtpaeemijpincpaaDoor
