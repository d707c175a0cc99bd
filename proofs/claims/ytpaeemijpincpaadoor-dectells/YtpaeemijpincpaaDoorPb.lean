/- What the document's own parts gives: the atomics. -/
import Derived.Test.YtpaeemijpincpaaDoorTb
namespace Go.Proofs.YtpaeemijpincpaaDoor
open Go.RowKit

theorem new_0 : ∀ k, k < 11 → ((nm (72 + k)).toList == [108, 117, 105]) = false := by decide +kernel
theorem new_1 : ∀ k, k < 11 → ((nm (72 + k)).toList == [97, 117, 105, 112, 99]) = false := by decide +kernel
theorem new_2 : ∀ k, k < 11 → ((nm (72 + k)).toList == [106, 97, 108]) = false := by decide +kernel
theorem new_3 : ∀ k, k < 11 → ((nm (72 + k)).toList == [106, 97, 108, 114]) = false := by decide +kernel
theorem new_4 : ∀ k, k < 11 → ((nm (72 + k)).toList == [102, 101, 110, 99, 101]) = false := by decide +kernel
theorem new_5 : ∀ k, k < 11 → ((nm (72 + k)).toList == [102, 101, 110, 99, 101, 46, 105]) = false := by decide +kernel
theorem new_6 : ∀ k, k < 11 → ((nm (72 + k)).toList == [101, 99, 97, 108, 108]) = false := by decide +kernel
theorem new_7 : ∀ k, k < 11 → ((nm (72 + k)).toList == [101, 98, 114, 101, 97, 107]) = false := by decide +kernel
theorem kdw_0 : ∀ k, k < 11 → kindV (nm (72 + k)) kl0 = -1 := by decide +kernel
theorem kdw_1 : ∀ k, k < 11 → kindV (nm (72 + k)) kl1 = -1 := by decide +kernel
theorem kdw_2 : ∀ k, k < 11 → kindV (nm (72 + k)) kl2 = -1 := by decide +kernel
theorem kdw_3 : ∀ k, k < 11 → kindV (nm (72 + k)) kl3 = -1 := by decide +kernel
theorem kdw_4 : ∀ k, k < 11 → kindV (nm (72 + k)) kl4 = -1 := by decide +kernel
theorem kdw_5 : ∀ k, k < 11 → kindV (nm (72 + k)) kl5 = -1 := by decide +kernel
theorem kdw_6 : ∀ k, k < 11 → kindV (nm (72 + k)) kl6 = -1 := by decide +kernel
theorem kdw_7 : ∀ k, k < 11 → kindV (nm (72 + k)) kl7 = -1 := by decide +kernel
theorem kdw_8 : ∀ k, k < 11 → kindV (nm (72 + k)) kl8 = -1 := by decide +kernel
theorem kdw_9 : ∀ k, k < 11 → kindV (nm (72 + k)) kl9 = -1 := by decide +kernel
theorem exw : ∀ k, k < 11 → kindV ((nm (72 + k)).extract 0 ((nm (72 + k)).size - 2)) kl10 = k := by decide +kernel
theorem lastw : ∀ k, k < 11 → ∀ h : (nm (72 + k)).size - 1 < (nm (72 + k)).size, ((((nm (72 + k))[(nm (72 + k)).size - 1]'h).toNat : Int) == 100) = false := by decide +kernel
theorem szw : ∀ k, k < 11 → 4 ≤ (nm (72 + k)).size ∧ (nm (72 + k)).size ≤ 9 := by decide +kernel
set_option maxHeartbeats 1600000 in
set_option maxRecDepth 20000 in
theorem parts_w (k : Nat) (hlt : k < 11) (w : World) : Calls Tryd.prog 39 #[.string (nm (72 + k))] w fun e w' => e = .returned (.tuple #[.int .i64 47, .int .i64 2, .int .i64 (4 * nthV [2, 3, 1, 0, 4, 12, 8, 16, 20, 24, 28] k)]) ∧ Kept w w' := by
  have n0 := new_0 k hlt
  have n1 := new_1 k hlt
  have n2 := new_2 k hlt
  have n3 := new_3 k hlt
  have n4 := new_4 k hlt
  have n5 := new_5 k hlt
  have n6 := new_6 k hlt
  have n7 := new_7 k hlt
  have k0 := kdw_0 k hlt
  have k1 := kdw_1 k hlt
  have k2 := kdw_2 k hlt
  have k3 := kdw_3 k hlt
  have k4 := kdw_4 k hlt
  have k5 := kdw_5 k hlt
  have k6 := kdw_6 k hlt
  have k7 := kdw_7 k hlt
  have k8 := kdw_8 k hlt
  have k9 := kdw_9 k hlt
  have hnb := nthV_bound k [2, 3, 1, 0, 4, 12, 8, 16, 20, 24, 28] (by decide)
  have hsz := szw k hlt
  have hK := Kept.refl w
  have hx := exw k hlt
  have hlast := lastw k hlt
  generalize nm (72 + k) = s at *
  go_enter Tryd.func39, Tryd.ntmps39
  go_wp2_with (first
    | (refine wpList_litAt 35 rfl rfl 90 9 6 _ rfl (strVals kl0) Tryd.underlying90 szStr zeStr (by kernel_rfl) (by omega) (by omega) (strVals_one _) (by kernel_rfl) ?_; intro b w' hk hc; have hK' := Kept.trans hK hk; clear hK; have hK := hK'; clear hK' hk)
    | (refine wpList_litAt 43 rfl rfl 90 9 7 _ rfl (strVals kl1) Tryd.underlying90 szStr zeStr (by kernel_rfl) (by omega) (by omega) (strVals_one _) (by kernel_rfl) ?_; intro b w' hk hc; have hK' := Kept.trans hK hk; clear hK; have hK := hK'; clear hK' hk)
    | (refine wpList_litAt 49 rfl rfl 90 9 4 _ rfl (strVals kl2) Tryd.underlying90 szStr zeStr (by kernel_rfl) (by omega) (by omega) (strVals_one _) (by kernel_rfl) ?_; intro b w' hk hc; have hK' := Kept.trans hK hk; clear hK; have hK := hK'; clear hK' hk)
    | (refine wpList_litAt 55 rfl rfl 90 9 9 _ rfl (strVals kl3) Tryd.underlying90 szStr zeStr (by kernel_rfl) (by omega) (by omega) (strVals_one _) (by kernel_rfl) ?_; intro b w' hk hc; have hK' := Kept.trans hK hk; clear hK; have hK := hK'; clear hK' hk)
    | (refine wpList_litAt 66 rfl rfl 90 9 10 _ rfl (strVals kl4) Tryd.underlying90 szStr zeStr (by kernel_rfl) (by omega) (by omega) (strVals_one _) (by kernel_rfl) ?_; intro b w' hk hc; have hK' := Kept.trans hK hk; clear hK; have hK := hK'; clear hK' hk)
    | (refine wpList_litAt 77 rfl rfl 90 9 4 _ rfl (strVals kl5) Tryd.underlying90 szStr zeStr (by kernel_rfl) (by omega) (by omega) (strVals_one _) (by kernel_rfl) ?_; intro b w' hk hc; have hK' := Kept.trans hK hk; clear hK; have hK := hK'; clear hK' hk)
    | (refine wpList_litAt 88 rfl rfl 90 9 5 _ rfl (strVals kl6) Tryd.underlying90 szStr zeStr (by kernel_rfl) (by omega) (by omega) (strVals_one _) (by kernel_rfl) ?_; intro b w' hk hc; have hK' := Kept.trans hK hk; clear hK; have hK := hK'; clear hK' hk)
    | (refine wpList_litAt 99 rfl rfl 90 9 8 _ rfl (strVals kl7) Tryd.underlying90 szStr zeStr (by kernel_rfl) (by omega) (by omega) (strVals_one _) (by kernel_rfl) ?_; intro b w' hk hc; have hK' := Kept.trans hK hk; clear hK; have hK := hK'; clear hK' hk)
    | (refine wpList_litAt 105 rfl rfl 90 9 5 _ rfl (strVals kl8) Tryd.underlying90 szStr zeStr (by kernel_rfl) (by omega) (by omega) (strVals_one _) (by kernel_rfl) ?_; intro b w' hk hc; have hK' := Kept.trans hK hk; clear hK; have hK := hK'; clear hK' hk)
    | (refine wpList_litAt 113 rfl rfl 90 9 6 _ rfl (strVals kl9) Tryd.underlying90 szStr zeStr (by kernel_rfl) (by omega) (by omega) (strVals_one _) (by kernel_rfl) ?_; intro b w' hk hc; have hK' := Kept.trans hK hk; clear hK; have hK := hK'; clear hK' hk)
    | (refine wpList_litAt 132 rfl rfl 90 9 11 _ rfl (strVals kl10) Tryd.underlying90 szStr zeStr (by kernel_rfl) (by omega) (by omega) (strVals_one _) (by kernel_rfl) ?_; intro b w' hk hc; have hK' := Kept.trans hK hk; clear hK; have hK := hK'; clear hK' hk)
    | (refine wpList_litAt 136 rfl rfl 47 3 11 _ rfl (intVals [2, 3, 1, 0, 4, 12, 8, 16, 20, 24, 28]) Tryd.underlying47 szInt zeInt (by kernel_rfl) (by omega) (by omega) (intVals_one _) (by kernel_rfl) ?_; intro b w' hk hc; have hK' := Kept.trans hK hk; clear hK; have hK := hK'; clear hK' hk)
    | (go_at_call 54; refine (kind_walk _ _ _ _ _ (by kernel_rfl) (by omega) hc).mono ?_; rintro e w' ⟨rfl, rfl⟩; clear hc)
    | (go_at_call 55; refine (nth_walk _ _ _ _ _ (by kernel_rfl) hlt hc).mono ?_; rintro e w' ⟨rfl, rfl⟩; clear hc))
  go_ret3
  exact ⟨rfl, hK⟩

theorem ned_0 : ∀ k, k < 11 → ((nm (83 + k)).toList == [108, 117, 105]) = false := by decide +kernel
theorem ned_1 : ∀ k, k < 11 → ((nm (83 + k)).toList == [97, 117, 105, 112, 99]) = false := by decide +kernel
theorem ned_2 : ∀ k, k < 11 → ((nm (83 + k)).toList == [106, 97, 108]) = false := by decide +kernel
theorem ned_3 : ∀ k, k < 11 → ((nm (83 + k)).toList == [106, 97, 108, 114]) = false := by decide +kernel
theorem ned_4 : ∀ k, k < 11 → ((nm (83 + k)).toList == [102, 101, 110, 99, 101]) = false := by decide +kernel
theorem ned_5 : ∀ k, k < 11 → ((nm (83 + k)).toList == [102, 101, 110, 99, 101, 46, 105]) = false := by decide +kernel
theorem ned_6 : ∀ k, k < 11 → ((nm (83 + k)).toList == [101, 99, 97, 108, 108]) = false := by decide +kernel
theorem ned_7 : ∀ k, k < 11 → ((nm (83 + k)).toList == [101, 98, 114, 101, 97, 107]) = false := by decide +kernel
theorem kdd_0 : ∀ k, k < 11 → kindV (nm (83 + k)) kl0 = -1 := by decide +kernel
theorem kdd_1 : ∀ k, k < 11 → kindV (nm (83 + k)) kl1 = -1 := by decide +kernel
theorem kdd_2 : ∀ k, k < 11 → kindV (nm (83 + k)) kl2 = -1 := by decide +kernel
theorem kdd_3 : ∀ k, k < 11 → kindV (nm (83 + k)) kl3 = -1 := by decide +kernel
theorem kdd_4 : ∀ k, k < 11 → kindV (nm (83 + k)) kl4 = -1 := by decide +kernel
theorem kdd_5 : ∀ k, k < 11 → kindV (nm (83 + k)) kl5 = -1 := by decide +kernel
theorem kdd_6 : ∀ k, k < 11 → kindV (nm (83 + k)) kl6 = -1 := by decide +kernel
theorem kdd_7 : ∀ k, k < 11 → kindV (nm (83 + k)) kl7 = -1 := by decide +kernel
theorem kdd_8 : ∀ k, k < 11 → kindV (nm (83 + k)) kl8 = -1 := by decide +kernel
theorem kdd_9 : ∀ k, k < 11 → kindV (nm (83 + k)) kl9 = -1 := by decide +kernel
theorem exd : ∀ k, k < 11 → kindV ((nm (83 + k)).extract 0 ((nm (83 + k)).size - 2)) kl10 = k := by decide +kernel
theorem lastd : ∀ k, k < 11 → ∀ h : (nm (83 + k)).size - 1 < (nm (83 + k)).size, ((((nm (83 + k))[(nm (83 + k)).size - 1]'h).toNat : Int) == 100) = true := by decide +kernel
theorem szd : ∀ k, k < 11 → 4 ≤ (nm (83 + k)).size ∧ (nm (83 + k)).size ≤ 9 := by decide +kernel
set_option maxHeartbeats 1600000 in
set_option maxRecDepth 20000 in
theorem parts_d (k : Nat) (hlt : k < 11) (w : World) : Calls Tryd.prog 39 #[.string (nm (83 + k))] w fun e w' => e = .returned (.tuple #[.int .i64 47, .int .i64 3, .int .i64 (4 * nthV [2, 3, 1, 0, 4, 12, 8, 16, 20, 24, 28] k)]) ∧ Kept w w' := by
  have n0 := ned_0 k hlt
  have n1 := ned_1 k hlt
  have n2 := ned_2 k hlt
  have n3 := ned_3 k hlt
  have n4 := ned_4 k hlt
  have n5 := ned_5 k hlt
  have n6 := ned_6 k hlt
  have n7 := ned_7 k hlt
  have k0 := kdd_0 k hlt
  have k1 := kdd_1 k hlt
  have k2 := kdd_2 k hlt
  have k3 := kdd_3 k hlt
  have k4 := kdd_4 k hlt
  have k5 := kdd_5 k hlt
  have k6 := kdd_6 k hlt
  have k7 := kdd_7 k hlt
  have k8 := kdd_8 k hlt
  have k9 := kdd_9 k hlt
  have hnb := nthV_bound k [2, 3, 1, 0, 4, 12, 8, 16, 20, 24, 28] (by decide)
  have hsz := szd k hlt
  have hK := Kept.refl w
  have hx := exd k hlt
  have hlast := lastd k hlt
  generalize nm (83 + k) = s at *
  go_enter Tryd.func39, Tryd.ntmps39
  go_wp2_with (first
    | (refine wpList_litAt 35 rfl rfl 90 9 6 _ rfl (strVals kl0) Tryd.underlying90 szStr zeStr (by kernel_rfl) (by omega) (by omega) (strVals_one _) (by kernel_rfl) ?_; intro b w' hk hc; have hK' := Kept.trans hK hk; clear hK; have hK := hK'; clear hK' hk)
    | (refine wpList_litAt 43 rfl rfl 90 9 7 _ rfl (strVals kl1) Tryd.underlying90 szStr zeStr (by kernel_rfl) (by omega) (by omega) (strVals_one _) (by kernel_rfl) ?_; intro b w' hk hc; have hK' := Kept.trans hK hk; clear hK; have hK := hK'; clear hK' hk)
    | (refine wpList_litAt 49 rfl rfl 90 9 4 _ rfl (strVals kl2) Tryd.underlying90 szStr zeStr (by kernel_rfl) (by omega) (by omega) (strVals_one _) (by kernel_rfl) ?_; intro b w' hk hc; have hK' := Kept.trans hK hk; clear hK; have hK := hK'; clear hK' hk)
    | (refine wpList_litAt 55 rfl rfl 90 9 9 _ rfl (strVals kl3) Tryd.underlying90 szStr zeStr (by kernel_rfl) (by omega) (by omega) (strVals_one _) (by kernel_rfl) ?_; intro b w' hk hc; have hK' := Kept.trans hK hk; clear hK; have hK := hK'; clear hK' hk)
    | (refine wpList_litAt 66 rfl rfl 90 9 10 _ rfl (strVals kl4) Tryd.underlying90 szStr zeStr (by kernel_rfl) (by omega) (by omega) (strVals_one _) (by kernel_rfl) ?_; intro b w' hk hc; have hK' := Kept.trans hK hk; clear hK; have hK := hK'; clear hK' hk)
    | (refine wpList_litAt 77 rfl rfl 90 9 4 _ rfl (strVals kl5) Tryd.underlying90 szStr zeStr (by kernel_rfl) (by omega) (by omega) (strVals_one _) (by kernel_rfl) ?_; intro b w' hk hc; have hK' := Kept.trans hK hk; clear hK; have hK := hK'; clear hK' hk)
    | (refine wpList_litAt 88 rfl rfl 90 9 5 _ rfl (strVals kl6) Tryd.underlying90 szStr zeStr (by kernel_rfl) (by omega) (by omega) (strVals_one _) (by kernel_rfl) ?_; intro b w' hk hc; have hK' := Kept.trans hK hk; clear hK; have hK := hK'; clear hK' hk)
    | (refine wpList_litAt 99 rfl rfl 90 9 8 _ rfl (strVals kl7) Tryd.underlying90 szStr zeStr (by kernel_rfl) (by omega) (by omega) (strVals_one _) (by kernel_rfl) ?_; intro b w' hk hc; have hK' := Kept.trans hK hk; clear hK; have hK := hK'; clear hK' hk)
    | (refine wpList_litAt 105 rfl rfl 90 9 5 _ rfl (strVals kl8) Tryd.underlying90 szStr zeStr (by kernel_rfl) (by omega) (by omega) (strVals_one _) (by kernel_rfl) ?_; intro b w' hk hc; have hK' := Kept.trans hK hk; clear hK; have hK := hK'; clear hK' hk)
    | (refine wpList_litAt 113 rfl rfl 90 9 6 _ rfl (strVals kl9) Tryd.underlying90 szStr zeStr (by kernel_rfl) (by omega) (by omega) (strVals_one _) (by kernel_rfl) ?_; intro b w' hk hc; have hK' := Kept.trans hK hk; clear hK; have hK := hK'; clear hK' hk)
    | (refine wpList_litAt 132 rfl rfl 90 9 11 _ rfl (strVals kl10) Tryd.underlying90 szStr zeStr (by kernel_rfl) (by omega) (by omega) (strVals_one _) (by kernel_rfl) ?_; intro b w' hk hc; have hK' := Kept.trans hK hk; clear hK; have hK := hK'; clear hK' hk)
    | (refine wpList_litAt 136 rfl rfl 47 3 11 _ rfl (intVals [2, 3, 1, 0, 4, 12, 8, 16, 20, 24, 28]) Tryd.underlying47 szInt zeInt (by kernel_rfl) (by omega) (by omega) (intVals_one _) (by kernel_rfl) ?_; intro b w' hk hc; have hK' := Kept.trans hK hk; clear hK; have hK := hK'; clear hK' hk)
    | (go_at_call 54; refine (kind_walk _ _ _ _ _ (by kernel_rfl) (by omega) hc).mono ?_; rintro e w' ⟨rfl, rfl⟩; clear hc)
    | (go_at_call 55; refine (nth_walk _ _ _ _ _ (by kernel_rfl) hlt hc).mono ?_; rintro e w' ⟨rfl, rfl⟩; clear hc))
  go_ret3
  exact ⟨rfl, hK⟩

end Go.Proofs.YtpaeemijpincpaaDoor
