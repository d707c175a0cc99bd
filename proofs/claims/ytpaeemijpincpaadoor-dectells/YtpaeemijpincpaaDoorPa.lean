/- What the document's own parts gives, name by name. -/
import Derived.Test.YtpaeemijpincpaaDoorTb
namespace Go.Proofs.YtpaeemijpincpaaDoor
open Go.RowKit

set_option maxRecDepth 20000 in
theorem parts_0 (w : World) : Calls Tryd.prog 39 #[.string ⟨#[108, 117, 105]⟩] w fun e w' => e = .returned (.tuple #[.int .i64 55, .int .i64 0, .int .i64 0]) ∧ Kept w w' := by
  go_enter Tryd.func39, Tryd.ntmps39
  go_wp2
  go_ret3
  exact ⟨rfl, Kept.refl _⟩

set_option maxRecDepth 20000 in
theorem parts_1 (w : World) : Calls Tryd.prog 39 #[.string ⟨#[97, 117, 105, 112, 99]⟩] w fun e w' => e = .returned (.tuple #[.int .i64 23, .int .i64 0, .int .i64 0]) ∧ Kept w w' := by
  go_enter Tryd.func39, Tryd.ntmps39
  go_wp2
  go_ret3
  exact ⟨rfl, Kept.refl _⟩

set_option maxRecDepth 20000 in
theorem parts_2 (w : World) : Calls Tryd.prog 39 #[.string ⟨#[106, 97, 108]⟩] w fun e w' => e = .returned (.tuple #[.int .i64 111, .int .i64 0, .int .i64 0]) ∧ Kept w w' := by
  go_enter Tryd.func39, Tryd.ntmps39
  go_wp2
  go_ret3
  exact ⟨rfl, Kept.refl _⟩

set_option maxRecDepth 20000 in
theorem parts_3 (w : World) : Calls Tryd.prog 39 #[.string ⟨#[106, 97, 108, 114]⟩] w fun e w' => e = .returned (.tuple #[.int .i64 103, .int .i64 0, .int .i64 0]) ∧ Kept w w' := by
  go_enter Tryd.func39, Tryd.ntmps39
  go_wp2
  go_ret3
  exact ⟨rfl, Kept.refl _⟩

set_option maxRecDepth 20000 in
theorem parts_62 (w : World) : Calls Tryd.prog 39 #[.string ⟨#[102, 101, 110, 99, 101]⟩] w fun e w' => e = .returned (.tuple #[.int .i64 15, .int .i64 0, .int .i64 0]) ∧ Kept w w' := by
  go_enter Tryd.func39, Tryd.ntmps39
  go_wp2
  go_ret3
  exact ⟨rfl, Kept.refl _⟩

set_option maxRecDepth 20000 in
theorem parts_63 (w : World) : Calls Tryd.prog 39 #[.string ⟨#[102, 101, 110, 99, 101, 46, 105]⟩] w fun e w' => e = .returned (.tuple #[.int .i64 15, .int .i64 1, .int .i64 0]) ∧ Kept w w' := by
  go_enter Tryd.func39, Tryd.ntmps39
  go_wp2
  go_ret3
  exact ⟨rfl, Kept.refl _⟩

set_option maxRecDepth 20000 in
theorem parts_64 (w : World) : Calls Tryd.prog 39 #[.string ⟨#[101, 99, 97, 108, 108]⟩] w fun e w' => e = .returned (.tuple #[.int .i64 115, .int .i64 0, .int .i64 0]) ∧ Kept w w' := by
  go_enter Tryd.func39, Tryd.ntmps39
  go_wp2
  go_ret3
  exact ⟨rfl, Kept.refl _⟩

set_option maxRecDepth 20000 in
theorem parts_65 (w : World) : Calls Tryd.prog 39 #[.string ⟨#[101, 98, 114, 101, 97, 107]⟩] w fun e w' => e = .returned (.tuple #[.int .i64 115, .int .i64 0, .int .i64 0]) ∧ Kept w w' := by
  go_enter Tryd.func39, Tryd.ntmps39
  go_wp2
  go_ret3
  exact ⟨rfl, Kept.refl _⟩

theorem ne0_0 : ∀ k, k < 6 → ((nm (4 + k)).toList == [108, 117, 105]) = false := by decide +kernel
theorem ne0_1 : ∀ k, k < 6 → ((nm (4 + k)).toList == [97, 117, 105, 112, 99]) = false := by decide +kernel
theorem ne0_2 : ∀ k, k < 6 → ((nm (4 + k)).toList == [106, 97, 108]) = false := by decide +kernel
theorem ne0_3 : ∀ k, k < 6 → ((nm (4 + k)).toList == [106, 97, 108, 114]) = false := by decide +kernel
theorem ne0_4 : ∀ k, k < 6 → ((nm (4 + k)).toList == [102, 101, 110, 99, 101]) = false := by decide +kernel
theorem ne0_5 : ∀ k, k < 6 → ((nm (4 + k)).toList == [102, 101, 110, 99, 101, 46, 105]) = false := by decide +kernel
theorem ne0_6 : ∀ k, k < 6 → ((nm (4 + k)).toList == [101, 99, 97, 108, 108]) = false := by decide +kernel
theorem ne0_7 : ∀ k, k < 6 → ((nm (4 + k)).toList == [101, 98, 114, 101, 97, 107]) = false := by decide +kernel
theorem kd0_0 : ∀ k, k < 6 → kindV (nm (4 + k)) kl0 = k := by decide +kernel
set_option maxRecDepth 20000 in
theorem parts_g0 (k : Nat) (hlt : k < 6) (w : World) : Calls Tryd.prog 39 #[.string (nm (4 + k))] w fun e w' => e = .returned (.tuple #[.int .i64 99, .int .i64 (nthV [0, 1, 4, 5, 6, 7] k), .int .i64 0]) ∧ Kept w w' := by
  have n0 := ne0_0 k hlt
  have n1 := ne0_1 k hlt
  have n2 := ne0_2 k hlt
  have n3 := ne0_3 k hlt
  have n4 := ne0_4 k hlt
  have n5 := ne0_5 k hlt
  have n6 := ne0_6 k hlt
  have n7 := ne0_7 k hlt
  have k0 := kd0_0 k hlt
  have hK := Kept.refl w
  generalize nm (4 + k) = s at *
  go_enter Tryd.func39, Tryd.ntmps39
  go_wp2_with (first
    | (refine wpList_litAt 35 rfl rfl 90 9 6 _ rfl (strVals kl0) Tryd.underlying90 szStr zeStr (by kernel_rfl) (by omega) (by omega) (strVals_one _) (by kernel_rfl) ?_; intro b w' hk hc; have hK' := Kept.trans hK hk; clear hK; have hK := hK'; clear hK' hk)
    | (refine wpList_litAt 40 rfl rfl 47 3 6 _ rfl (intVals [0, 1, 4, 5, 6, 7]) Tryd.underlying47 szInt zeInt (by kernel_rfl) (by omega) (by omega) (intVals_one _) (by kernel_rfl) ?_; intro b w' hk hc; have hK' := Kept.trans hK hk; clear hK; have hK := hK'; clear hK' hk)
    | (go_at_call 54; refine (kind_walk _ _ _ _ _ (by kernel_rfl) (by omega) hc).mono ?_; rintro e w' ⟨rfl, rfl⟩; clear hc)
    | (go_at_call 55; refine (nth_walk _ _ _ _ _ (by kernel_rfl) hlt hc).mono ?_; rintro e w' ⟨rfl, rfl⟩; clear hc))
  go_ret3
  exact ⟨rfl, hK⟩

theorem ne1_0 : ∀ k, k < 7 → ((nm (10 + k)).toList == [108, 117, 105]) = false := by decide +kernel
theorem ne1_1 : ∀ k, k < 7 → ((nm (10 + k)).toList == [97, 117, 105, 112, 99]) = false := by decide +kernel
theorem ne1_2 : ∀ k, k < 7 → ((nm (10 + k)).toList == [106, 97, 108]) = false := by decide +kernel
theorem ne1_3 : ∀ k, k < 7 → ((nm (10 + k)).toList == [106, 97, 108, 114]) = false := by decide +kernel
theorem ne1_4 : ∀ k, k < 7 → ((nm (10 + k)).toList == [102, 101, 110, 99, 101]) = false := by decide +kernel
theorem ne1_5 : ∀ k, k < 7 → ((nm (10 + k)).toList == [102, 101, 110, 99, 101, 46, 105]) = false := by decide +kernel
theorem ne1_6 : ∀ k, k < 7 → ((nm (10 + k)).toList == [101, 99, 97, 108, 108]) = false := by decide +kernel
theorem ne1_7 : ∀ k, k < 7 → ((nm (10 + k)).toList == [101, 98, 114, 101, 97, 107]) = false := by decide +kernel
theorem kd1_0 : ∀ k, k < 7 → kindV (nm (10 + k)) kl0 = -1 := by decide +kernel
theorem kd1_1 : ∀ k, k < 7 → kindV (nm (10 + k)) kl1 = k := by decide +kernel
set_option maxRecDepth 20000 in
theorem parts_g1 (k : Nat) (hlt : k < 7) (w : World) : Calls Tryd.prog 39 #[.string (nm (10 + k))] w fun e w' => e = .returned (.tuple #[.int .i64 3, .int .i64 (k : Int), .int .i64 0]) ∧ Kept w w' := by
  have n0 := ne1_0 k hlt
  have n1 := ne1_1 k hlt
  have n2 := ne1_2 k hlt
  have n3 := ne1_3 k hlt
  have n4 := ne1_4 k hlt
  have n5 := ne1_5 k hlt
  have n6 := ne1_6 k hlt
  have n7 := ne1_7 k hlt
  have k0 := kd1_0 k hlt
  have k1 := kd1_1 k hlt
  have hK := Kept.refl w
  generalize nm (10 + k) = s at *
  go_enter Tryd.func39, Tryd.ntmps39
  go_wp2_with (first
    | (refine wpList_litAt 35 rfl rfl 90 9 6 _ rfl (strVals kl0) Tryd.underlying90 szStr zeStr (by kernel_rfl) (by omega) (by omega) (strVals_one _) (by kernel_rfl) ?_; intro b w' hk hc; have hK' := Kept.trans hK hk; clear hK; have hK := hK'; clear hK' hk)
    | (refine wpList_litAt 43 rfl rfl 90 9 7 _ rfl (strVals kl1) Tryd.underlying90 szStr zeStr (by kernel_rfl) (by omega) (by omega) (strVals_one _) (by kernel_rfl) ?_; intro b w' hk hc; have hK' := Kept.trans hK hk; clear hK; have hK := hK'; clear hK' hk)
    | (go_at_call 54; refine (kind_walk _ _ _ _ _ (by kernel_rfl) (by omega) hc).mono ?_; rintro e w' ⟨rfl, rfl⟩; clear hc))
  go_ret3
  exact ⟨rfl, hK⟩

theorem ne2_0 : ∀ k, k < 4 → ((nm (17 + k)).toList == [108, 117, 105]) = false := by decide +kernel
theorem ne2_1 : ∀ k, k < 4 → ((nm (17 + k)).toList == [97, 117, 105, 112, 99]) = false := by decide +kernel
theorem ne2_2 : ∀ k, k < 4 → ((nm (17 + k)).toList == [106, 97, 108]) = false := by decide +kernel
theorem ne2_3 : ∀ k, k < 4 → ((nm (17 + k)).toList == [106, 97, 108, 114]) = false := by decide +kernel
theorem ne2_4 : ∀ k, k < 4 → ((nm (17 + k)).toList == [102, 101, 110, 99, 101]) = false := by decide +kernel
theorem ne2_5 : ∀ k, k < 4 → ((nm (17 + k)).toList == [102, 101, 110, 99, 101, 46, 105]) = false := by decide +kernel
theorem ne2_6 : ∀ k, k < 4 → ((nm (17 + k)).toList == [101, 99, 97, 108, 108]) = false := by decide +kernel
theorem ne2_7 : ∀ k, k < 4 → ((nm (17 + k)).toList == [101, 98, 114, 101, 97, 107]) = false := by decide +kernel
theorem kd2_0 : ∀ k, k < 4 → kindV (nm (17 + k)) kl0 = -1 := by decide +kernel
theorem kd2_1 : ∀ k, k < 4 → kindV (nm (17 + k)) kl1 = -1 := by decide +kernel
theorem kd2_2 : ∀ k, k < 4 → kindV (nm (17 + k)) kl2 = k := by decide +kernel
set_option maxRecDepth 20000 in
theorem parts_g2 (k : Nat) (hlt : k < 4) (w : World) : Calls Tryd.prog 39 #[.string (nm (17 + k))] w fun e w' => e = .returned (.tuple #[.int .i64 35, .int .i64 (k : Int), .int .i64 0]) ∧ Kept w w' := by
  have n0 := ne2_0 k hlt
  have n1 := ne2_1 k hlt
  have n2 := ne2_2 k hlt
  have n3 := ne2_3 k hlt
  have n4 := ne2_4 k hlt
  have n5 := ne2_5 k hlt
  have n6 := ne2_6 k hlt
  have n7 := ne2_7 k hlt
  have k0 := kd2_0 k hlt
  have k1 := kd2_1 k hlt
  have k2 := kd2_2 k hlt
  have hK := Kept.refl w
  generalize nm (17 + k) = s at *
  go_enter Tryd.func39, Tryd.ntmps39
  go_wp2_with (first
    | (refine wpList_litAt 35 rfl rfl 90 9 6 _ rfl (strVals kl0) Tryd.underlying90 szStr zeStr (by kernel_rfl) (by omega) (by omega) (strVals_one _) (by kernel_rfl) ?_; intro b w' hk hc; have hK' := Kept.trans hK hk; clear hK; have hK := hK'; clear hK' hk)
    | (refine wpList_litAt 43 rfl rfl 90 9 7 _ rfl (strVals kl1) Tryd.underlying90 szStr zeStr (by kernel_rfl) (by omega) (by omega) (strVals_one _) (by kernel_rfl) ?_; intro b w' hk hc; have hK' := Kept.trans hK hk; clear hK; have hK := hK'; clear hK' hk)
    | (refine wpList_litAt 49 rfl rfl 90 9 4 _ rfl (strVals kl2) Tryd.underlying90 szStr zeStr (by kernel_rfl) (by omega) (by omega) (strVals_one _) (by kernel_rfl) ?_; intro b w' hk hc; have hK' := Kept.trans hK hk; clear hK; have hK := hK'; clear hK' hk)
    | (go_at_call 54; refine (kind_walk _ _ _ _ _ (by kernel_rfl) (by omega) hc).mono ?_; rintro e w' ⟨rfl, rfl⟩; clear hc))
  go_ret3
  exact ⟨rfl, hK⟩

theorem ne3_0 : ∀ k, k < 9 → ((nm (21 + k)).toList == [108, 117, 105]) = false := by decide +kernel
theorem ne3_1 : ∀ k, k < 9 → ((nm (21 + k)).toList == [97, 117, 105, 112, 99]) = false := by decide +kernel
theorem ne3_2 : ∀ k, k < 9 → ((nm (21 + k)).toList == [106, 97, 108]) = false := by decide +kernel
theorem ne3_3 : ∀ k, k < 9 → ((nm (21 + k)).toList == [106, 97, 108, 114]) = false := by decide +kernel
theorem ne3_4 : ∀ k, k < 9 → ((nm (21 + k)).toList == [102, 101, 110, 99, 101]) = false := by decide +kernel
theorem ne3_5 : ∀ k, k < 9 → ((nm (21 + k)).toList == [102, 101, 110, 99, 101, 46, 105]) = false := by decide +kernel
theorem ne3_6 : ∀ k, k < 9 → ((nm (21 + k)).toList == [101, 99, 97, 108, 108]) = false := by decide +kernel
theorem ne3_7 : ∀ k, k < 9 → ((nm (21 + k)).toList == [101, 98, 114, 101, 97, 107]) = false := by decide +kernel
theorem kd3_0 : ∀ k, k < 9 → kindV (nm (21 + k)) kl0 = -1 := by decide +kernel
theorem kd3_1 : ∀ k, k < 9 → kindV (nm (21 + k)) kl1 = -1 := by decide +kernel
theorem kd3_2 : ∀ k, k < 9 → kindV (nm (21 + k)) kl2 = -1 := by decide +kernel
theorem kd3_3 : ∀ k, k < 9 → kindV (nm (21 + k)) kl3 = k := by decide +kernel
set_option maxRecDepth 20000 in
theorem parts_g3 (k : Nat) (hlt : k < 9) (w : World) : Calls Tryd.prog 39 #[.string (nm (21 + k))] w fun e w' => e = .returned (.tuple #[.int .i64 19, .int .i64 (nthV [0, 2, 3, 4, 6, 7, 1, 5, 5] k), .int .i64 (nthV [0, 0, 0, 0, 0, 0, 0, 0, 32] k)]) ∧ Kept w w' := by
  have n0 := ne3_0 k hlt
  have n1 := ne3_1 k hlt
  have n2 := ne3_2 k hlt
  have n3 := ne3_3 k hlt
  have n4 := ne3_4 k hlt
  have n5 := ne3_5 k hlt
  have n6 := ne3_6 k hlt
  have n7 := ne3_7 k hlt
  have k0 := kd3_0 k hlt
  have k1 := kd3_1 k hlt
  have k2 := kd3_2 k hlt
  have k3 := kd3_3 k hlt
  have hK := Kept.refl w
  generalize nm (21 + k) = s at *
  go_enter Tryd.func39, Tryd.ntmps39
  go_wp2_with (first
    | (refine wpList_litAt 35 rfl rfl 90 9 6 _ rfl (strVals kl0) Tryd.underlying90 szStr zeStr (by kernel_rfl) (by omega) (by omega) (strVals_one _) (by kernel_rfl) ?_; intro b w' hk hc; have hK' := Kept.trans hK hk; clear hK; have hK := hK'; clear hK' hk)
    | (refine wpList_litAt 43 rfl rfl 90 9 7 _ rfl (strVals kl1) Tryd.underlying90 szStr zeStr (by kernel_rfl) (by omega) (by omega) (strVals_one _) (by kernel_rfl) ?_; intro b w' hk hc; have hK' := Kept.trans hK hk; clear hK; have hK := hK'; clear hK' hk)
    | (refine wpList_litAt 49 rfl rfl 90 9 4 _ rfl (strVals kl2) Tryd.underlying90 szStr zeStr (by kernel_rfl) (by omega) (by omega) (strVals_one _) (by kernel_rfl) ?_; intro b w' hk hc; have hK' := Kept.trans hK hk; clear hK; have hK := hK'; clear hK' hk)
    | (refine wpList_litAt 55 rfl rfl 90 9 9 _ rfl (strVals kl3) Tryd.underlying90 szStr zeStr (by kernel_rfl) (by omega) (by omega) (strVals_one _) (by kernel_rfl) ?_; intro b w' hk hc; have hK' := Kept.trans hK hk; clear hK; have hK := hK'; clear hK' hk)
    | (refine wpList_litAt 60 rfl rfl 47 3 9 _ rfl (intVals [0, 2, 3, 4, 6, 7, 1, 5, 5]) Tryd.underlying47 szInt zeInt (by kernel_rfl) (by omega) (by omega) (intVals_one _) (by kernel_rfl) ?_; intro b w' hk hc; have hK' := Kept.trans hK hk; clear hK; have hK := hK'; clear hK' hk)
    | (refine wpList_litAt 63 rfl rfl 47 3 9 _ rfl (intVals [0, 0, 0, 0, 0, 0, 0, 0, 32]) Tryd.underlying47 szInt zeInt (by kernel_rfl) (by omega) (by omega) (intVals_one _) (by kernel_rfl) ?_; intro b w' hk hc; have hK' := Kept.trans hK hk; clear hK; have hK := hK'; clear hK' hk)
    | (go_at_call 54; refine (kind_walk _ _ _ _ _ (by kernel_rfl) (by omega) hc).mono ?_; rintro e w' ⟨rfl, rfl⟩; clear hc)
    | (go_at_call 55; refine (nth_walk _ _ _ _ _ (by kernel_rfl) hlt hc).mono ?_; rintro e w' ⟨rfl, rfl⟩; clear hc))
  go_ret3
  exact ⟨rfl, hK⟩

theorem ne4_0 : ∀ k, k < 10 → ((nm (30 + k)).toList == [108, 117, 105]) = false := by decide +kernel
theorem ne4_1 : ∀ k, k < 10 → ((nm (30 + k)).toList == [97, 117, 105, 112, 99]) = false := by decide +kernel
theorem ne4_2 : ∀ k, k < 10 → ((nm (30 + k)).toList == [106, 97, 108]) = false := by decide +kernel
theorem ne4_3 : ∀ k, k < 10 → ((nm (30 + k)).toList == [106, 97, 108, 114]) = false := by decide +kernel
theorem ne4_4 : ∀ k, k < 10 → ((nm (30 + k)).toList == [102, 101, 110, 99, 101]) = false := by decide +kernel
theorem ne4_5 : ∀ k, k < 10 → ((nm (30 + k)).toList == [102, 101, 110, 99, 101, 46, 105]) = false := by decide +kernel
theorem ne4_6 : ∀ k, k < 10 → ((nm (30 + k)).toList == [101, 99, 97, 108, 108]) = false := by decide +kernel
theorem ne4_7 : ∀ k, k < 10 → ((nm (30 + k)).toList == [101, 98, 114, 101, 97, 107]) = false := by decide +kernel
theorem kd4_0 : ∀ k, k < 10 → kindV (nm (30 + k)) kl0 = -1 := by decide +kernel
theorem kd4_1 : ∀ k, k < 10 → kindV (nm (30 + k)) kl1 = -1 := by decide +kernel
theorem kd4_2 : ∀ k, k < 10 → kindV (nm (30 + k)) kl2 = -1 := by decide +kernel
theorem kd4_3 : ∀ k, k < 10 → kindV (nm (30 + k)) kl3 = -1 := by decide +kernel
theorem kd4_4 : ∀ k, k < 10 → kindV (nm (30 + k)) kl4 = k := by decide +kernel
set_option maxRecDepth 20000 in
theorem parts_g4 (k : Nat) (hlt : k < 10) (w : World) : Calls Tryd.prog 39 #[.string (nm (30 + k))] w fun e w' => e = .returned (.tuple #[.int .i64 51, .int .i64 (nthV [0, 0, 1, 2, 3, 4, 5, 5, 6, 7] k), .int .i64 (nthV [0, 32, 0, 0, 0, 0, 0, 32, 0, 0] k)]) ∧ Kept w w' := by
  have n0 := ne4_0 k hlt
  have n1 := ne4_1 k hlt
  have n2 := ne4_2 k hlt
  have n3 := ne4_3 k hlt
  have n4 := ne4_4 k hlt
  have n5 := ne4_5 k hlt
  have n6 := ne4_6 k hlt
  have n7 := ne4_7 k hlt
  have k0 := kd4_0 k hlt
  have k1 := kd4_1 k hlt
  have k2 := kd4_2 k hlt
  have k3 := kd4_3 k hlt
  have k4 := kd4_4 k hlt
  have hK := Kept.refl w
  generalize nm (30 + k) = s at *
  go_enter Tryd.func39, Tryd.ntmps39
  go_wp2_with (first
    | (refine wpList_litAt 35 rfl rfl 90 9 6 _ rfl (strVals kl0) Tryd.underlying90 szStr zeStr (by kernel_rfl) (by omega) (by omega) (strVals_one _) (by kernel_rfl) ?_; intro b w' hk hc; have hK' := Kept.trans hK hk; clear hK; have hK := hK'; clear hK' hk)
    | (refine wpList_litAt 43 rfl rfl 90 9 7 _ rfl (strVals kl1) Tryd.underlying90 szStr zeStr (by kernel_rfl) (by omega) (by omega) (strVals_one _) (by kernel_rfl) ?_; intro b w' hk hc; have hK' := Kept.trans hK hk; clear hK; have hK := hK'; clear hK' hk)
    | (refine wpList_litAt 49 rfl rfl 90 9 4 _ rfl (strVals kl2) Tryd.underlying90 szStr zeStr (by kernel_rfl) (by omega) (by omega) (strVals_one _) (by kernel_rfl) ?_; intro b w' hk hc; have hK' := Kept.trans hK hk; clear hK; have hK := hK'; clear hK' hk)
    | (refine wpList_litAt 55 rfl rfl 90 9 9 _ rfl (strVals kl3) Tryd.underlying90 szStr zeStr (by kernel_rfl) (by omega) (by omega) (strVals_one _) (by kernel_rfl) ?_; intro b w' hk hc; have hK' := Kept.trans hK hk; clear hK; have hK := hK'; clear hK' hk)
    | (refine wpList_litAt 66 rfl rfl 90 9 10 _ rfl (strVals kl4) Tryd.underlying90 szStr zeStr (by kernel_rfl) (by omega) (by omega) (strVals_one _) (by kernel_rfl) ?_; intro b w' hk hc; have hK' := Kept.trans hK hk; clear hK; have hK := hK'; clear hK' hk)
    | (refine wpList_litAt 71 rfl rfl 47 3 10 _ rfl (intVals [0, 0, 1, 2, 3, 4, 5, 5, 6, 7]) Tryd.underlying47 szInt zeInt (by kernel_rfl) (by omega) (by omega) (intVals_one _) (by kernel_rfl) ?_; intro b w' hk hc; have hK' := Kept.trans hK hk; clear hK; have hK := hK'; clear hK' hk)
    | (refine wpList_litAt 74 rfl rfl 47 3 10 _ rfl (intVals [0, 32, 0, 0, 0, 0, 0, 32, 0, 0]) Tryd.underlying47 szInt zeInt (by kernel_rfl) (by omega) (by omega) (intVals_one _) (by kernel_rfl) ?_; intro b w' hk hc; have hK' := Kept.trans hK hk; clear hK; have hK := hK'; clear hK' hk)
    | (go_at_call 54; refine (kind_walk _ _ _ _ _ (by kernel_rfl) (by omega) hc).mono ?_; rintro e w' ⟨rfl, rfl⟩; clear hc)
    | (go_at_call 55; refine (nth_walk _ _ _ _ _ (by kernel_rfl) hlt hc).mono ?_; rintro e w' ⟨rfl, rfl⟩; clear hc))
  go_ret3
  exact ⟨rfl, hK⟩

theorem ne5_0 : ∀ k, k < 4 → ((nm (40 + k)).toList == [108, 117, 105]) = false := by decide +kernel
theorem ne5_1 : ∀ k, k < 4 → ((nm (40 + k)).toList == [97, 117, 105, 112, 99]) = false := by decide +kernel
theorem ne5_2 : ∀ k, k < 4 → ((nm (40 + k)).toList == [106, 97, 108]) = false := by decide +kernel
theorem ne5_3 : ∀ k, k < 4 → ((nm (40 + k)).toList == [106, 97, 108, 114]) = false := by decide +kernel
theorem ne5_4 : ∀ k, k < 4 → ((nm (40 + k)).toList == [102, 101, 110, 99, 101]) = false := by decide +kernel
theorem ne5_5 : ∀ k, k < 4 → ((nm (40 + k)).toList == [102, 101, 110, 99, 101, 46, 105]) = false := by decide +kernel
theorem ne5_6 : ∀ k, k < 4 → ((nm (40 + k)).toList == [101, 99, 97, 108, 108]) = false := by decide +kernel
theorem ne5_7 : ∀ k, k < 4 → ((nm (40 + k)).toList == [101, 98, 114, 101, 97, 107]) = false := by decide +kernel
theorem kd5_0 : ∀ k, k < 4 → kindV (nm (40 + k)) kl0 = -1 := by decide +kernel
theorem kd5_1 : ∀ k, k < 4 → kindV (nm (40 + k)) kl1 = -1 := by decide +kernel
theorem kd5_2 : ∀ k, k < 4 → kindV (nm (40 + k)) kl2 = -1 := by decide +kernel
theorem kd5_3 : ∀ k, k < 4 → kindV (nm (40 + k)) kl3 = -1 := by decide +kernel
theorem kd5_4 : ∀ k, k < 4 → kindV (nm (40 + k)) kl4 = -1 := by decide +kernel
theorem kd5_5 : ∀ k, k < 4 → kindV (nm (40 + k)) kl5 = k := by decide +kernel
set_option maxRecDepth 20000 in
theorem parts_g5 (k : Nat) (hlt : k < 4) (w : World) : Calls Tryd.prog 39 #[.string (nm (40 + k))] w fun e w' => e = .returned (.tuple #[.int .i64 27, .int .i64 (nthV [0, 1, 5, 5] k), .int .i64 (nthV [0, 0, 0, 32] k)]) ∧ Kept w w' := by
  have n0 := ne5_0 k hlt
  have n1 := ne5_1 k hlt
  have n2 := ne5_2 k hlt
  have n3 := ne5_3 k hlt
  have n4 := ne5_4 k hlt
  have n5 := ne5_5 k hlt
  have n6 := ne5_6 k hlt
  have n7 := ne5_7 k hlt
  have k0 := kd5_0 k hlt
  have k1 := kd5_1 k hlt
  have k2 := kd5_2 k hlt
  have k3 := kd5_3 k hlt
  have k4 := kd5_4 k hlt
  have k5 := kd5_5 k hlt
  have hK := Kept.refl w
  generalize nm (40 + k) = s at *
  go_enter Tryd.func39, Tryd.ntmps39
  go_wp2_with (first
    | (refine wpList_litAt 35 rfl rfl 90 9 6 _ rfl (strVals kl0) Tryd.underlying90 szStr zeStr (by kernel_rfl) (by omega) (by omega) (strVals_one _) (by kernel_rfl) ?_; intro b w' hk hc; have hK' := Kept.trans hK hk; clear hK; have hK := hK'; clear hK' hk)
    | (refine wpList_litAt 43 rfl rfl 90 9 7 _ rfl (strVals kl1) Tryd.underlying90 szStr zeStr (by kernel_rfl) (by omega) (by omega) (strVals_one _) (by kernel_rfl) ?_; intro b w' hk hc; have hK' := Kept.trans hK hk; clear hK; have hK := hK'; clear hK' hk)
    | (refine wpList_litAt 49 rfl rfl 90 9 4 _ rfl (strVals kl2) Tryd.underlying90 szStr zeStr (by kernel_rfl) (by omega) (by omega) (strVals_one _) (by kernel_rfl) ?_; intro b w' hk hc; have hK' := Kept.trans hK hk; clear hK; have hK := hK'; clear hK' hk)
    | (refine wpList_litAt 55 rfl rfl 90 9 9 _ rfl (strVals kl3) Tryd.underlying90 szStr zeStr (by kernel_rfl) (by omega) (by omega) (strVals_one _) (by kernel_rfl) ?_; intro b w' hk hc; have hK' := Kept.trans hK hk; clear hK; have hK := hK'; clear hK' hk)
    | (refine wpList_litAt 66 rfl rfl 90 9 10 _ rfl (strVals kl4) Tryd.underlying90 szStr zeStr (by kernel_rfl) (by omega) (by omega) (strVals_one _) (by kernel_rfl) ?_; intro b w' hk hc; have hK' := Kept.trans hK hk; clear hK; have hK := hK'; clear hK' hk)
    | (refine wpList_litAt 77 rfl rfl 90 9 4 _ rfl (strVals kl5) Tryd.underlying90 szStr zeStr (by kernel_rfl) (by omega) (by omega) (strVals_one _) (by kernel_rfl) ?_; intro b w' hk hc; have hK' := Kept.trans hK hk; clear hK; have hK := hK'; clear hK' hk)
    | (refine wpList_litAt 82 rfl rfl 47 3 4 _ rfl (intVals [0, 1, 5, 5]) Tryd.underlying47 szInt zeInt (by kernel_rfl) (by omega) (by omega) (intVals_one _) (by kernel_rfl) ?_; intro b w' hk hc; have hK' := Kept.trans hK hk; clear hK; have hK := hK'; clear hK' hk)
    | (refine wpList_litAt 85 rfl rfl 47 3 4 _ rfl (intVals [0, 0, 0, 32]) Tryd.underlying47 szInt zeInt (by kernel_rfl) (by omega) (by omega) (intVals_one _) (by kernel_rfl) ?_; intro b w' hk hc; have hK' := Kept.trans hK hk; clear hK; have hK := hK'; clear hK' hk)
    | (go_at_call 54; refine (kind_walk _ _ _ _ _ (by kernel_rfl) (by omega) hc).mono ?_; rintro e w' ⟨rfl, rfl⟩; clear hc)
    | (go_at_call 55; refine (nth_walk _ _ _ _ _ (by kernel_rfl) hlt hc).mono ?_; rintro e w' ⟨rfl, rfl⟩; clear hc))
  go_ret3
  exact ⟨rfl, hK⟩

theorem ne6_0 : ∀ k, k < 5 → ((nm (44 + k)).toList == [108, 117, 105]) = false := by decide +kernel
theorem ne6_1 : ∀ k, k < 5 → ((nm (44 + k)).toList == [97, 117, 105, 112, 99]) = false := by decide +kernel
theorem ne6_2 : ∀ k, k < 5 → ((nm (44 + k)).toList == [106, 97, 108]) = false := by decide +kernel
theorem ne6_3 : ∀ k, k < 5 → ((nm (44 + k)).toList == [106, 97, 108, 114]) = false := by decide +kernel
theorem ne6_4 : ∀ k, k < 5 → ((nm (44 + k)).toList == [102, 101, 110, 99, 101]) = false := by decide +kernel
theorem ne6_5 : ∀ k, k < 5 → ((nm (44 + k)).toList == [102, 101, 110, 99, 101, 46, 105]) = false := by decide +kernel
theorem ne6_6 : ∀ k, k < 5 → ((nm (44 + k)).toList == [101, 99, 97, 108, 108]) = false := by decide +kernel
theorem ne6_7 : ∀ k, k < 5 → ((nm (44 + k)).toList == [101, 98, 114, 101, 97, 107]) = false := by decide +kernel
theorem kd6_0 : ∀ k, k < 5 → kindV (nm (44 + k)) kl0 = -1 := by decide +kernel
theorem kd6_1 : ∀ k, k < 5 → kindV (nm (44 + k)) kl1 = -1 := by decide +kernel
theorem kd6_2 : ∀ k, k < 5 → kindV (nm (44 + k)) kl2 = -1 := by decide +kernel
theorem kd6_3 : ∀ k, k < 5 → kindV (nm (44 + k)) kl3 = -1 := by decide +kernel
theorem kd6_4 : ∀ k, k < 5 → kindV (nm (44 + k)) kl4 = -1 := by decide +kernel
theorem kd6_5 : ∀ k, k < 5 → kindV (nm (44 + k)) kl5 = -1 := by decide +kernel
theorem kd6_6 : ∀ k, k < 5 → kindV (nm (44 + k)) kl6 = k := by decide +kernel
set_option maxRecDepth 20000 in
theorem parts_g6 (k : Nat) (hlt : k < 5) (w : World) : Calls Tryd.prog 39 #[.string (nm (44 + k))] w fun e w' => e = .returned (.tuple #[.int .i64 59, .int .i64 (nthV [0, 0, 1, 5, 5] k), .int .i64 (nthV [0, 32, 0, 0, 32] k)]) ∧ Kept w w' := by
  have n0 := ne6_0 k hlt
  have n1 := ne6_1 k hlt
  have n2 := ne6_2 k hlt
  have n3 := ne6_3 k hlt
  have n4 := ne6_4 k hlt
  have n5 := ne6_5 k hlt
  have n6 := ne6_6 k hlt
  have n7 := ne6_7 k hlt
  have k0 := kd6_0 k hlt
  have k1 := kd6_1 k hlt
  have k2 := kd6_2 k hlt
  have k3 := kd6_3 k hlt
  have k4 := kd6_4 k hlt
  have k5 := kd6_5 k hlt
  have k6 := kd6_6 k hlt
  have hK := Kept.refl w
  generalize nm (44 + k) = s at *
  go_enter Tryd.func39, Tryd.ntmps39
  go_wp2_with (first
    | (refine wpList_litAt 35 rfl rfl 90 9 6 _ rfl (strVals kl0) Tryd.underlying90 szStr zeStr (by kernel_rfl) (by omega) (by omega) (strVals_one _) (by kernel_rfl) ?_; intro b w' hk hc; have hK' := Kept.trans hK hk; clear hK; have hK := hK'; clear hK' hk)
    | (refine wpList_litAt 43 rfl rfl 90 9 7 _ rfl (strVals kl1) Tryd.underlying90 szStr zeStr (by kernel_rfl) (by omega) (by omega) (strVals_one _) (by kernel_rfl) ?_; intro b w' hk hc; have hK' := Kept.trans hK hk; clear hK; have hK := hK'; clear hK' hk)
    | (refine wpList_litAt 49 rfl rfl 90 9 4 _ rfl (strVals kl2) Tryd.underlying90 szStr zeStr (by kernel_rfl) (by omega) (by omega) (strVals_one _) (by kernel_rfl) ?_; intro b w' hk hc; have hK' := Kept.trans hK hk; clear hK; have hK := hK'; clear hK' hk)
    | (refine wpList_litAt 55 rfl rfl 90 9 9 _ rfl (strVals kl3) Tryd.underlying90 szStr zeStr (by kernel_rfl) (by omega) (by omega) (strVals_one _) (by kernel_rfl) ?_; intro b w' hk hc; have hK' := Kept.trans hK hk; clear hK; have hK := hK'; clear hK' hk)
    | (refine wpList_litAt 66 rfl rfl 90 9 10 _ rfl (strVals kl4) Tryd.underlying90 szStr zeStr (by kernel_rfl) (by omega) (by omega) (strVals_one _) (by kernel_rfl) ?_; intro b w' hk hc; have hK' := Kept.trans hK hk; clear hK; have hK := hK'; clear hK' hk)
    | (refine wpList_litAt 77 rfl rfl 90 9 4 _ rfl (strVals kl5) Tryd.underlying90 szStr zeStr (by kernel_rfl) (by omega) (by omega) (strVals_one _) (by kernel_rfl) ?_; intro b w' hk hc; have hK' := Kept.trans hK hk; clear hK; have hK := hK'; clear hK' hk)
    | (refine wpList_litAt 88 rfl rfl 90 9 5 _ rfl (strVals kl6) Tryd.underlying90 szStr zeStr (by kernel_rfl) (by omega) (by omega) (strVals_one _) (by kernel_rfl) ?_; intro b w' hk hc; have hK' := Kept.trans hK hk; clear hK; have hK := hK'; clear hK' hk)
    | (refine wpList_litAt 93 rfl rfl 47 3 5 _ rfl (intVals [0, 0, 1, 5, 5]) Tryd.underlying47 szInt zeInt (by kernel_rfl) (by omega) (by omega) (intVals_one _) (by kernel_rfl) ?_; intro b w' hk hc; have hK' := Kept.trans hK hk; clear hK; have hK := hK'; clear hK' hk)
    | (refine wpList_litAt 96 rfl rfl 47 3 5 _ rfl (intVals [0, 32, 0, 0, 32]) Tryd.underlying47 szInt zeInt (by kernel_rfl) (by omega) (by omega) (intVals_one _) (by kernel_rfl) ?_; intro b w' hk hc; have hK' := Kept.trans hK hk; clear hK; have hK := hK'; clear hK' hk)
    | (go_at_call 54; refine (kind_walk _ _ _ _ _ (by kernel_rfl) (by omega) hc).mono ?_; rintro e w' ⟨rfl, rfl⟩; clear hc)
    | (go_at_call 55; refine (nth_walk _ _ _ _ _ (by kernel_rfl) hlt hc).mono ?_; rintro e w' ⟨rfl, rfl⟩; clear hc))
  go_ret3
  exact ⟨rfl, hK⟩

theorem ne7_0 : ∀ k, k < 8 → ((nm (49 + k)).toList == [108, 117, 105]) = false := by decide +kernel
theorem ne7_1 : ∀ k, k < 8 → ((nm (49 + k)).toList == [97, 117, 105, 112, 99]) = false := by decide +kernel
theorem ne7_2 : ∀ k, k < 8 → ((nm (49 + k)).toList == [106, 97, 108]) = false := by decide +kernel
theorem ne7_3 : ∀ k, k < 8 → ((nm (49 + k)).toList == [106, 97, 108, 114]) = false := by decide +kernel
theorem ne7_4 : ∀ k, k < 8 → ((nm (49 + k)).toList == [102, 101, 110, 99, 101]) = false := by decide +kernel
theorem ne7_5 : ∀ k, k < 8 → ((nm (49 + k)).toList == [102, 101, 110, 99, 101, 46, 105]) = false := by decide +kernel
theorem ne7_6 : ∀ k, k < 8 → ((nm (49 + k)).toList == [101, 99, 97, 108, 108]) = false := by decide +kernel
theorem ne7_7 : ∀ k, k < 8 → ((nm (49 + k)).toList == [101, 98, 114, 101, 97, 107]) = false := by decide +kernel
theorem kd7_0 : ∀ k, k < 8 → kindV (nm (49 + k)) kl0 = -1 := by decide +kernel
theorem kd7_1 : ∀ k, k < 8 → kindV (nm (49 + k)) kl1 = -1 := by decide +kernel
theorem kd7_2 : ∀ k, k < 8 → kindV (nm (49 + k)) kl2 = -1 := by decide +kernel
theorem kd7_3 : ∀ k, k < 8 → kindV (nm (49 + k)) kl3 = -1 := by decide +kernel
theorem kd7_4 : ∀ k, k < 8 → kindV (nm (49 + k)) kl4 = -1 := by decide +kernel
theorem kd7_5 : ∀ k, k < 8 → kindV (nm (49 + k)) kl5 = -1 := by decide +kernel
theorem kd7_6 : ∀ k, k < 8 → kindV (nm (49 + k)) kl6 = -1 := by decide +kernel
theorem kd7_7 : ∀ k, k < 8 → kindV (nm (49 + k)) kl7 = k := by decide +kernel
set_option maxRecDepth 20000 in
theorem parts_g7 (k : Nat) (hlt : k < 8) (w : World) : Calls Tryd.prog 39 #[.string (nm (49 + k))] w fun e w' => e = .returned (.tuple #[.int .i64 51, .int .i64 (k : Int), .int .i64 1]) ∧ Kept w w' := by
  have n0 := ne7_0 k hlt
  have n1 := ne7_1 k hlt
  have n2 := ne7_2 k hlt
  have n3 := ne7_3 k hlt
  have n4 := ne7_4 k hlt
  have n5 := ne7_5 k hlt
  have n6 := ne7_6 k hlt
  have n7 := ne7_7 k hlt
  have k0 := kd7_0 k hlt
  have k1 := kd7_1 k hlt
  have k2 := kd7_2 k hlt
  have k3 := kd7_3 k hlt
  have k4 := kd7_4 k hlt
  have k5 := kd7_5 k hlt
  have k6 := kd7_6 k hlt
  have k7 := kd7_7 k hlt
  have hK := Kept.refl w
  generalize nm (49 + k) = s at *
  go_enter Tryd.func39, Tryd.ntmps39
  go_wp2_with (first
    | (refine wpList_litAt 35 rfl rfl 90 9 6 _ rfl (strVals kl0) Tryd.underlying90 szStr zeStr (by kernel_rfl) (by omega) (by omega) (strVals_one _) (by kernel_rfl) ?_; intro b w' hk hc; have hK' := Kept.trans hK hk; clear hK; have hK := hK'; clear hK' hk)
    | (refine wpList_litAt 43 rfl rfl 90 9 7 _ rfl (strVals kl1) Tryd.underlying90 szStr zeStr (by kernel_rfl) (by omega) (by omega) (strVals_one _) (by kernel_rfl) ?_; intro b w' hk hc; have hK' := Kept.trans hK hk; clear hK; have hK := hK'; clear hK' hk)
    | (refine wpList_litAt 49 rfl rfl 90 9 4 _ rfl (strVals kl2) Tryd.underlying90 szStr zeStr (by kernel_rfl) (by omega) (by omega) (strVals_one _) (by kernel_rfl) ?_; intro b w' hk hc; have hK' := Kept.trans hK hk; clear hK; have hK := hK'; clear hK' hk)
    | (refine wpList_litAt 55 rfl rfl 90 9 9 _ rfl (strVals kl3) Tryd.underlying90 szStr zeStr (by kernel_rfl) (by omega) (by omega) (strVals_one _) (by kernel_rfl) ?_; intro b w' hk hc; have hK' := Kept.trans hK hk; clear hK; have hK := hK'; clear hK' hk)
    | (refine wpList_litAt 66 rfl rfl 90 9 10 _ rfl (strVals kl4) Tryd.underlying90 szStr zeStr (by kernel_rfl) (by omega) (by omega) (strVals_one _) (by kernel_rfl) ?_; intro b w' hk hc; have hK' := Kept.trans hK hk; clear hK; have hK := hK'; clear hK' hk)
    | (refine wpList_litAt 77 rfl rfl 90 9 4 _ rfl (strVals kl5) Tryd.underlying90 szStr zeStr (by kernel_rfl) (by omega) (by omega) (strVals_one _) (by kernel_rfl) ?_; intro b w' hk hc; have hK' := Kept.trans hK hk; clear hK; have hK := hK'; clear hK' hk)
    | (refine wpList_litAt 88 rfl rfl 90 9 5 _ rfl (strVals kl6) Tryd.underlying90 szStr zeStr (by kernel_rfl) (by omega) (by omega) (strVals_one _) (by kernel_rfl) ?_; intro b w' hk hc; have hK' := Kept.trans hK hk; clear hK; have hK := hK'; clear hK' hk)
    | (refine wpList_litAt 99 rfl rfl 90 9 8 _ rfl (strVals kl7) Tryd.underlying90 szStr zeStr (by kernel_rfl) (by omega) (by omega) (strVals_one _) (by kernel_rfl) ?_; intro b w' hk hc; have hK' := Kept.trans hK hk; clear hK; have hK := hK'; clear hK' hk)
    | (go_at_call 54; refine (kind_walk _ _ _ _ _ (by kernel_rfl) (by omega) hc).mono ?_; rintro e w' ⟨rfl, rfl⟩; clear hc))
  go_ret3
  exact ⟨rfl, hK⟩

theorem ne8_0 : ∀ k, k < 5 → ((nm (57 + k)).toList == [108, 117, 105]) = false := by decide +kernel
theorem ne8_1 : ∀ k, k < 5 → ((nm (57 + k)).toList == [97, 117, 105, 112, 99]) = false := by decide +kernel
theorem ne8_2 : ∀ k, k < 5 → ((nm (57 + k)).toList == [106, 97, 108]) = false := by decide +kernel
theorem ne8_3 : ∀ k, k < 5 → ((nm (57 + k)).toList == [106, 97, 108, 114]) = false := by decide +kernel
theorem ne8_4 : ∀ k, k < 5 → ((nm (57 + k)).toList == [102, 101, 110, 99, 101]) = false := by decide +kernel
theorem ne8_5 : ∀ k, k < 5 → ((nm (57 + k)).toList == [102, 101, 110, 99, 101, 46, 105]) = false := by decide +kernel
theorem ne8_6 : ∀ k, k < 5 → ((nm (57 + k)).toList == [101, 99, 97, 108, 108]) = false := by decide +kernel
theorem ne8_7 : ∀ k, k < 5 → ((nm (57 + k)).toList == [101, 98, 114, 101, 97, 107]) = false := by decide +kernel
theorem kd8_0 : ∀ k, k < 5 → kindV (nm (57 + k)) kl0 = -1 := by decide +kernel
theorem kd8_1 : ∀ k, k < 5 → kindV (nm (57 + k)) kl1 = -1 := by decide +kernel
theorem kd8_2 : ∀ k, k < 5 → kindV (nm (57 + k)) kl2 = -1 := by decide +kernel
theorem kd8_3 : ∀ k, k < 5 → kindV (nm (57 + k)) kl3 = -1 := by decide +kernel
theorem kd8_4 : ∀ k, k < 5 → kindV (nm (57 + k)) kl4 = -1 := by decide +kernel
theorem kd8_5 : ∀ k, k < 5 → kindV (nm (57 + k)) kl5 = -1 := by decide +kernel
theorem kd8_6 : ∀ k, k < 5 → kindV (nm (57 + k)) kl6 = -1 := by decide +kernel
theorem kd8_7 : ∀ k, k < 5 → kindV (nm (57 + k)) kl7 = -1 := by decide +kernel
theorem kd8_8 : ∀ k, k < 5 → kindV (nm (57 + k)) kl8 = k := by decide +kernel
set_option maxRecDepth 20000 in
theorem parts_g8 (k : Nat) (hlt : k < 5) (w : World) : Calls Tryd.prog 39 #[.string (nm (57 + k))] w fun e w' => e = .returned (.tuple #[.int .i64 59, .int .i64 (nthV [0, 4, 5, 6, 7] k), .int .i64 1]) ∧ Kept w w' := by
  have n0 := ne8_0 k hlt
  have n1 := ne8_1 k hlt
  have n2 := ne8_2 k hlt
  have n3 := ne8_3 k hlt
  have n4 := ne8_4 k hlt
  have n5 := ne8_5 k hlt
  have n6 := ne8_6 k hlt
  have n7 := ne8_7 k hlt
  have k0 := kd8_0 k hlt
  have k1 := kd8_1 k hlt
  have k2 := kd8_2 k hlt
  have k3 := kd8_3 k hlt
  have k4 := kd8_4 k hlt
  have k5 := kd8_5 k hlt
  have k6 := kd8_6 k hlt
  have k7 := kd8_7 k hlt
  have k8 := kd8_8 k hlt
  have hK := Kept.refl w
  generalize nm (57 + k) = s at *
  go_enter Tryd.func39, Tryd.ntmps39
  go_wp2_with (first
    | (refine wpList_litAt 35 rfl rfl 90 9 6 _ rfl (strVals kl0) Tryd.underlying90 szStr zeStr (by kernel_rfl) (by omega) (by omega) (strVals_one _) (by kernel_rfl) ?_; intro b w' hk hc; have hK' := Kept.trans hK hk; clear hK; have hK := hK'; clear hK' hk)
    | (refine wpList_litAt 43 rfl rfl 90 9 7 _ rfl (strVals kl1) Tryd.underlying90 szStr zeStr (by kernel_rfl) (by omega) (by omega) (strVals_one _) (by kernel_rfl) ?_; intro b w' hk hc; have hK' := Kept.trans hK hk; clear hK; have hK := hK'; clear hK' hk)
    | (refine wpList_litAt 49 rfl rfl 90 9 4 _ rfl (strVals kl2) Tryd.underlying90 szStr zeStr (by kernel_rfl) (by omega) (by omega) (strVals_one _) (by kernel_rfl) ?_; intro b w' hk hc; have hK' := Kept.trans hK hk; clear hK; have hK := hK'; clear hK' hk)
    | (refine wpList_litAt 55 rfl rfl 90 9 9 _ rfl (strVals kl3) Tryd.underlying90 szStr zeStr (by kernel_rfl) (by omega) (by omega) (strVals_one _) (by kernel_rfl) ?_; intro b w' hk hc; have hK' := Kept.trans hK hk; clear hK; have hK := hK'; clear hK' hk)
    | (refine wpList_litAt 66 rfl rfl 90 9 10 _ rfl (strVals kl4) Tryd.underlying90 szStr zeStr (by kernel_rfl) (by omega) (by omega) (strVals_one _) (by kernel_rfl) ?_; intro b w' hk hc; have hK' := Kept.trans hK hk; clear hK; have hK := hK'; clear hK' hk)
    | (refine wpList_litAt 77 rfl rfl 90 9 4 _ rfl (strVals kl5) Tryd.underlying90 szStr zeStr (by kernel_rfl) (by omega) (by omega) (strVals_one _) (by kernel_rfl) ?_; intro b w' hk hc; have hK' := Kept.trans hK hk; clear hK; have hK := hK'; clear hK' hk)
    | (refine wpList_litAt 88 rfl rfl 90 9 5 _ rfl (strVals kl6) Tryd.underlying90 szStr zeStr (by kernel_rfl) (by omega) (by omega) (strVals_one _) (by kernel_rfl) ?_; intro b w' hk hc; have hK' := Kept.trans hK hk; clear hK; have hK := hK'; clear hK' hk)
    | (refine wpList_litAt 99 rfl rfl 90 9 8 _ rfl (strVals kl7) Tryd.underlying90 szStr zeStr (by kernel_rfl) (by omega) (by omega) (strVals_one _) (by kernel_rfl) ?_; intro b w' hk hc; have hK' := Kept.trans hK hk; clear hK; have hK := hK'; clear hK' hk)
    | (refine wpList_litAt 105 rfl rfl 90 9 5 _ rfl (strVals kl8) Tryd.underlying90 szStr zeStr (by kernel_rfl) (by omega) (by omega) (strVals_one _) (by kernel_rfl) ?_; intro b w' hk hc; have hK' := Kept.trans hK hk; clear hK; have hK := hK'; clear hK' hk)
    | (refine wpList_litAt 110 rfl rfl 47 3 5 _ rfl (intVals [0, 4, 5, 6, 7]) Tryd.underlying47 szInt zeInt (by kernel_rfl) (by omega) (by omega) (intVals_one _) (by kernel_rfl) ?_; intro b w' hk hc; have hK' := Kept.trans hK hk; clear hK; have hK := hK'; clear hK' hk)
    | (go_at_call 54; refine (kind_walk _ _ _ _ _ (by kernel_rfl) (by omega) hc).mono ?_; rintro e w' ⟨rfl, rfl⟩; clear hc)
    | (go_at_call 55; refine (nth_walk _ _ _ _ _ (by kernel_rfl) hlt hc).mono ?_; rintro e w' ⟨rfl, rfl⟩; clear hc))
  go_ret3
  exact ⟨rfl, hK⟩

theorem ne9_0 : ∀ k, k < 6 → ((nm (66 + k)).toList == [108, 117, 105]) = false := by decide +kernel
theorem ne9_1 : ∀ k, k < 6 → ((nm (66 + k)).toList == [97, 117, 105, 112, 99]) = false := by decide +kernel
theorem ne9_2 : ∀ k, k < 6 → ((nm (66 + k)).toList == [106, 97, 108]) = false := by decide +kernel
theorem ne9_3 : ∀ k, k < 6 → ((nm (66 + k)).toList == [106, 97, 108, 114]) = false := by decide +kernel
theorem ne9_4 : ∀ k, k < 6 → ((nm (66 + k)).toList == [102, 101, 110, 99, 101]) = false := by decide +kernel
theorem ne9_5 : ∀ k, k < 6 → ((nm (66 + k)).toList == [102, 101, 110, 99, 101, 46, 105]) = false := by decide +kernel
theorem ne9_6 : ∀ k, k < 6 → ((nm (66 + k)).toList == [101, 99, 97, 108, 108]) = false := by decide +kernel
theorem ne9_7 : ∀ k, k < 6 → ((nm (66 + k)).toList == [101, 98, 114, 101, 97, 107]) = false := by decide +kernel
theorem kd9_0 : ∀ k, k < 6 → kindV (nm (66 + k)) kl0 = -1 := by decide +kernel
theorem kd9_1 : ∀ k, k < 6 → kindV (nm (66 + k)) kl1 = -1 := by decide +kernel
theorem kd9_2 : ∀ k, k < 6 → kindV (nm (66 + k)) kl2 = -1 := by decide +kernel
theorem kd9_3 : ∀ k, k < 6 → kindV (nm (66 + k)) kl3 = -1 := by decide +kernel
theorem kd9_4 : ∀ k, k < 6 → kindV (nm (66 + k)) kl4 = -1 := by decide +kernel
theorem kd9_5 : ∀ k, k < 6 → kindV (nm (66 + k)) kl5 = -1 := by decide +kernel
theorem kd9_6 : ∀ k, k < 6 → kindV (nm (66 + k)) kl6 = -1 := by decide +kernel
theorem kd9_7 : ∀ k, k < 6 → kindV (nm (66 + k)) kl7 = -1 := by decide +kernel
theorem kd9_8 : ∀ k, k < 6 → kindV (nm (66 + k)) kl8 = -1 := by decide +kernel
theorem kd9_9 : ∀ k, k < 6 → kindV (nm (66 + k)) kl9 = k := by decide +kernel
set_option maxRecDepth 20000 in
theorem parts_g9 (k : Nat) (hlt : k < 6) (w : World) : Calls Tryd.prog 39 #[.string (nm (66 + k))] w fun e w' => e = .returned (.tuple #[.int .i64 115, .int .i64 (nthV [1, 2, 3, 5, 6, 7] k), .int .i64 0]) ∧ Kept w w' := by
  have n0 := ne9_0 k hlt
  have n1 := ne9_1 k hlt
  have n2 := ne9_2 k hlt
  have n3 := ne9_3 k hlt
  have n4 := ne9_4 k hlt
  have n5 := ne9_5 k hlt
  have n6 := ne9_6 k hlt
  have n7 := ne9_7 k hlt
  have k0 := kd9_0 k hlt
  have k1 := kd9_1 k hlt
  have k2 := kd9_2 k hlt
  have k3 := kd9_3 k hlt
  have k4 := kd9_4 k hlt
  have k5 := kd9_5 k hlt
  have k6 := kd9_6 k hlt
  have k7 := kd9_7 k hlt
  have k8 := kd9_8 k hlt
  have k9 := kd9_9 k hlt
  have hK := Kept.refl w
  generalize nm (66 + k) = s at *
  go_enter Tryd.func39, Tryd.ntmps39
  go_wp2_with (first
    | (refine wpList_litAt 35 rfl rfl 90 9 6 _ rfl (strVals kl0) Tryd.underlying90 szStr zeStr (by kernel_rfl) (by omega) (by omega) (strVals_one _) (by kernel_rfl) ?_; intro b w' hk hc; have hK' := Kept.trans hK hk; clear hK; have hK := hK'; clear hK' hk)
    | (refine wpList_litAt 43 rfl rfl 90 9 7 _ rfl (strVals kl1) Tryd.underlying90 szStr zeStr (by kernel_rfl) (by omega) (by omega) (strVals_one _) (by kernel_rfl) ?_; intro b w' hk hc; have hK' := Kept.trans hK hk; clear hK; have hK := hK'; clear hK' hk)
    | (refine wpList_litAt 49 rfl rfl 90 9 4 _ rfl (strVals kl2) Tryd.underlying90 szStr zeStr (by kernel_rfl) (by omega) (by omega) (strVals_one _) (by kernel_rfl) ?_; intro b w' hk hc; have hK' := Kept.trans hK hk; clear hK; have hK := hK'; clear hK' hk)
    | (refine wpList_litAt 55 rfl rfl 90 9 9 _ rfl (strVals kl3) Tryd.underlying90 szStr zeStr (by kernel_rfl) (by omega) (by omega) (strVals_one _) (by kernel_rfl) ?_; intro b w' hk hc; have hK' := Kept.trans hK hk; clear hK; have hK := hK'; clear hK' hk)
    | (refine wpList_litAt 66 rfl rfl 90 9 10 _ rfl (strVals kl4) Tryd.underlying90 szStr zeStr (by kernel_rfl) (by omega) (by omega) (strVals_one _) (by kernel_rfl) ?_; intro b w' hk hc; have hK' := Kept.trans hK hk; clear hK; have hK := hK'; clear hK' hk)
    | (refine wpList_litAt 77 rfl rfl 90 9 4 _ rfl (strVals kl5) Tryd.underlying90 szStr zeStr (by kernel_rfl) (by omega) (by omega) (strVals_one _) (by kernel_rfl) ?_; intro b w' hk hc; have hK' := Kept.trans hK hk; clear hK; have hK := hK'; clear hK' hk)
    | (refine wpList_litAt 88 rfl rfl 90 9 5 _ rfl (strVals kl6) Tryd.underlying90 szStr zeStr (by kernel_rfl) (by omega) (by omega) (strVals_one _) (by kernel_rfl) ?_; intro b w' hk hc; have hK' := Kept.trans hK hk; clear hK; have hK := hK'; clear hK' hk)
    | (refine wpList_litAt 99 rfl rfl 90 9 8 _ rfl (strVals kl7) Tryd.underlying90 szStr zeStr (by kernel_rfl) (by omega) (by omega) (strVals_one _) (by kernel_rfl) ?_; intro b w' hk hc; have hK' := Kept.trans hK hk; clear hK; have hK := hK'; clear hK' hk)
    | (refine wpList_litAt 105 rfl rfl 90 9 5 _ rfl (strVals kl8) Tryd.underlying90 szStr zeStr (by kernel_rfl) (by omega) (by omega) (strVals_one _) (by kernel_rfl) ?_; intro b w' hk hc; have hK' := Kept.trans hK hk; clear hK; have hK := hK'; clear hK' hk)
    | (refine wpList_litAt 113 rfl rfl 90 9 6 _ rfl (strVals kl9) Tryd.underlying90 szStr zeStr (by kernel_rfl) (by omega) (by omega) (strVals_one _) (by kernel_rfl) ?_; intro b w' hk hc; have hK' := Kept.trans hK hk; clear hK; have hK := hK'; clear hK' hk)
    | (refine wpList_litAt 118 rfl rfl 47 3 6 _ rfl (intVals [1, 2, 3, 5, 6, 7]) Tryd.underlying47 szInt zeInt (by kernel_rfl) (by omega) (by omega) (intVals_one _) (by kernel_rfl) ?_; intro b w' hk hc; have hK' := Kept.trans hK hk; clear hK; have hK := hK'; clear hK' hk)
    | (go_at_call 54; refine (kind_walk _ _ _ _ _ (by kernel_rfl) (by omega) hc).mono ?_; rintro e w' ⟨rfl, rfl⟩; clear hc)
    | (go_at_call 55; refine (nth_walk _ _ _ _ _ (by kernel_rfl) hlt hc).mono ?_; rintro e w' ⟨rfl, rfl⟩; clear hc))
  go_ret3
  exact ⟨rfl, hK⟩

end Go.Proofs.YtpaeemijpincpaaDoor
