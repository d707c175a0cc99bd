/- cdec.readUpper. cdec.readSame. cdec.readSame, two registers. -/
import Derived.Test.YtbmcanpjpibecaaDoorCr
import Derived.Deep.DeepCutAuto
import Derived.Test.YtbmcanpjpibecaaDoorOg
import Derived.Deep.RegionHeld3
namespace Go.Proofs.YtbmcanpjpibecaaDoor
open Go.RowKit

/-- What lies there in a reader: the half word that the closures hold, the room for the result. -/
structure InU (W w : World) (b H : Nat) : Prop where
  kept : Kept W w
  h : w.cell? ⟨b, 0, none⟩ = some (.int .u32 (H : Int))
  res : Box w W.heap.size 0 0 0 0 0
theorem InU.on {W w w' : World} {b H : Nat} (h : InU W w b H) (k : Kept w w') : InU W w' b H := ⟨h.kept.trans k, k.cell h.h, h.res.kept k⟩
theorem InU.begin (w : World) (b H : Nat) (hc : w.cell? ⟨b, 0, none⟩ = some (.int .u32 (H : Int))) : InU w (w.alloc (.cells #[.int .u8 0, .int .i64 0, .int .i64 0, .int .i64 0, .int .i64 0] 27)) b H :=
  ⟨Kept.alloc _ _, (Kept.alloc _ _).cell hc, Box.make w 0 0 0 0 0⟩
/-- Of lui's 20 bits those above the six are as the sign is. -/
def upN (n : Int) : Int := if n < 0 then n + 1048576 else n
theorem and_up (n : Int) (h0 : -64 ≤ n) (h1 : n < 64) : bits .and .i64 n 1048575 = upN n := by
  have h' : ∀ k, k < 128 → bits .and .i64 ((k : Nat) - 64 : Int) 1048575 = upN ((k : Nat) - 64 : Int) := by decide +kernel
  have := h' (n + 64).toNat (by omega)
  have e : (((n + 64).toNat : Nat) : Int) - 64 = n := by omega
  rwa [e] at this
set_option maxRecDepth 20000 in
set_option maxHeartbeats 3200000 in
theorem upper_2 (H b : Nat) (hH : H ≤ 65535) (hi : Int) (h2 : hi = 2) (w : World) (hc0 : w.cell? ⟨b, 0, none⟩ = some (.int .u32 (H : Int))) :
    Calls Tryd.prog 35 #[.int .i64 hi, .func (.func 33) #[] #[.pointer (some ⟨b, 0, none⟩)]] w fun e w' => e = .returned (insnV 22 2 2 0 (16 * gS H [6, 2, 5, 3, 4, 12])) ∧ Kept w w' := by
  subst h2
  have hI := InU.begin w b H hc0
  clear hc0
  have q5 := gS_rng H [6, 2, 5, 3, 4, 12] 64 (by decide)
  go_enter Tryd.func35, Tryd.ntmps35
  go_upto_region 1 with fail
  generalize (w.alloc (.cells #[.int .u8 0, .int .i64 0, .int .i64 0, .int .i64 0, .int .i64 0] 27)) = W0 at hI ⊢
  have hh := hI.h
  obtain ⟨d0, d1, d2, d3, d4, f0, f1, f2, f3, f4⟩ := hI.res
  go_wp2_with (first
    | (refine wpList_litN 8 rfl rfl 43 3 6 _ rfl [6, 2, 5, 3, 4, 12] Tryd.underlying43 szI5 zeI5 rfl (by decide) (by decide) (by kernel_rfl) ?_; intro bl w' hk hc; have hI' := hI.on hk; clear hI d0 d1 d2 d3 d4 f0 f1 f2 f3 f4 hh hk; have hI := hI'; clear hI'; have hh := hI.h; obtain ⟨d0, d1, d2, d3, d4, f0, f1, f2, f3, f4⟩ := hI.res)
    | (go_at_call 33; refine (signed_walk H hH _ _ _ _ _ rfl (by decide) (by decide) (by decide) _ hh hc).mono ?_; rintro e w' ⟨rfl, hk⟩; clear hc; have hI' := hI.on hk; clear hI d0 d1 d2 d3 d4 f0 f1 f2 f3 f4 hh hk; have hI := hI'; clear hI'; have hh := hI.h; obtain ⟨d0, d1, d2, d3, d4, f0, f1, f2, f3, f4⟩ := hI.res))
  have hR := hI.res.put 22 2 2 0 (16 * gS H [6, 2, 5, 3, 4, 12])
  have hK := below_put hI.kept (b := w.heap.size) (by omega) 22 2 2 0 (16 * gS H [6, 2, 5, 3, 4, 12])
  refine bodyPost_ret (v := insnV 22 2 2 0 (16 * gS H [6, 2, 5, 3, 4, 12])) (by simp [results, Tryd.results35, go_sem, hR.c0, hR.c1, hR.c2, hR.c3, hR.c4]) rfl ⟨rfl, hK⟩

set_option maxRecDepth 20000 in
set_option maxHeartbeats 3200000 in
theorem upper_n (H b : Nat) (hH : H ≤ 65535) (hi : Int) (h2 : ¬ hi = 2) (w : World) (hc0 : w.cell? ⟨b, 0, none⟩ = some (.int .u32 (H : Int))) :
    Calls Tryd.prog 35 #[.int .i64 hi, .func (.func 33) #[] #[.pointer (some ⟨b, 0, none⟩)]] w fun e w' => e = .returned (insnV 1 hi 0 0 (upN (gS H [2, 3, 4, 5, 6, 12]))) ∧ Kept w w' := by
  have h3 : (hi == 2) = false := by simpa using h2
  have hu := and_up (gS H [2, 3, 4, 5, 6, 12]) (gS_rng H [2, 3, 4, 5, 6, 12] 64 (by decide)).1 (gS_rng H [2, 3, 4, 5, 6, 12] 64 (by decide)).2
  have hI := InU.begin w b H hc0
  clear hc0
  go_enter Tryd.func35, Tryd.ntmps35
  go_upto_region 1 with fail
  generalize (w.alloc (.cells #[.int .u8 0, .int .i64 0, .int .i64 0, .int .i64 0, .int .i64 0] 27)) = W0 at hI ⊢
  have hh := hI.h
  obtain ⟨d0, d1, d2, d3, d4, f0, f1, f2, f3, f4⟩ := hI.res
  go_wp2_with (first
    | (refine wpList_litN 14 rfl rfl 43 3 6 _ rfl [2, 3, 4, 5, 6, 12] Tryd.underlying43 szI5 zeI5 rfl (by decide) (by decide) (by kernel_rfl) ?_; intro bl w' hk hc; have hI' := hI.on hk; clear hI d0 d1 d2 d3 d4 f0 f1 f2 f3 f4 hh hk; have hI := hI'; clear hI'; have hh := hI.h; obtain ⟨d0, d1, d2, d3, d4, f0, f1, f2, f3, f4⟩ := hI.res)
    | (go_at_call 33; refine (signed_walk H hH _ _ _ _ _ rfl (by decide) (by decide) (by decide) _ hh hc).mono ?_; rintro e w' ⟨rfl, hk⟩; clear hc; have hI' := hI.on hk; clear hI d0 d1 d2 d3 d4 f0 f1 f2 f3 f4 hh hk; have hI := hI'; clear hI'; have hh := hI.h; obtain ⟨d0, d1, d2, d3, d4, f0, f1, f2, f3, f4⟩ := hI.res))
  have hR := hI.res.put 1 hi 0 0 (upN (gS H [2, 3, 4, 5, 6, 12]))
  have hK := below_put hI.kept (b := w.heap.size) (by omega) 1 hi 0 0 (upN (gS H [2, 3, 4, 5, 6, 12]))
  refine bodyPost_ret (v := insnV 1 hi 0 0 (upN (gS H [2, 3, 4, 5, 6, 12]))) (by simp [results, Tryd.results35, go_sem, hR.c0, hR.c1, hR.c2, hR.c3, hR.c4]) rfl ⟨rfl, hK⟩

set_option maxRecDepth 20000 in
set_option maxHeartbeats 3200000 in
theorem same_0 (H b : Nat) (hH : H ≤ 65535) (hk2 : (gL H [10, 11] : Int) = 0) (w : World) (hc0 : w.cell? ⟨b, 0, none⟩ = some (.int .u32 (H : Int))) :
    Calls Tryd.prog 36 #[.func (.func 31) #[] #[.pointer (some ⟨b, 0, none⟩)], .func (.func 33) #[] #[.pointer (some ⟨b, 0, none⟩)]] w fun e w' => e = .returned (insnV 29 (8 + gL H [7, 8, 9]) (8 + gL H [7, 8, 9]) 0 (gL H [2, 3, 4, 5, 6, 12])) ∧ Kept w w' := by
  have hI := InU.begin w b H hc0
  clear hc0
  have q4 := gL_rng H [7, 8, 9] 8 (by decide)
  go_enter Tryd.func36, Tryd.ntmps36
  go_upto_region 1 with fail
  generalize (w.alloc (.cells #[.int .u8 0, .int .i64 0, .int .i64 0, .int .i64 0, .int .i64 0] 27)) = W0 at hI ⊢
  have hh := hI.h
  obtain ⟨d0, d1, d2, d3, d4, f0, f1, f2, f3, f4⟩ := hI.res
  go_wp2_with (first
    | (refine wpList_litN 7 rfl rfl 43 3 3 _ rfl [7, 8, 9] Tryd.underlying43 szI5 zeI5 rfl (by decide) (by decide) (by kernel_rfl) ?_; intro bl w' hk hc; have hI' := hI.on hk; clear hI d0 d1 d2 d3 d4 f0 f1 f2 f3 f4 hh hk; have hI := hI'; clear hI'; have hh := hI.h; obtain ⟨d0, d1, d2, d3, d4, f0, f1, f2, f3, f4⟩ := hI.res)
    | (refine wpList_litN 11 rfl rfl 43 3 2 _ rfl [10, 11] Tryd.underlying43 szI5 zeI5 rfl (by decide) (by decide) (by kernel_rfl) ?_; intro bl w' hk hc; have hI' := hI.on hk; clear hI d0 d1 d2 d3 d4 f0 f1 f2 f3 f4 hh hk; have hI := hI'; clear hI'; have hh := hI.h; obtain ⟨d0, d1, d2, d3, d4, f0, f1, f2, f3, f4⟩ := hI.res)
    | (refine wpList_litN 18 rfl rfl 43 3 6 _ rfl [2, 3, 4, 5, 6, 12] Tryd.underlying43 szI5 zeI5 rfl (by decide) (by decide) (by kernel_rfl) ?_; intro bl w' hk hc; have hI' := hI.on hk; clear hI d0 d1 d2 d3 d4 f0 f1 f2 f3 f4 hh hk; have hI := hI'; clear hI'; have hh := hI.h; obtain ⟨d0, d1, d2, d3, d4, f0, f1, f2, f3, f4⟩ := hI.res)
    | (go_at_call 31; refine (plain_walk H hH _ _ _ _ _ rfl (by decide) (by decide) _ hh hc).mono ?_; rintro e w' ⟨rfl, rfl⟩; clear hc))
  have hR := hI.res.put 29 (8 + gL H [7, 8, 9]) (8 + gL H [7, 8, 9]) 0 (gL H [2, 3, 4, 5, 6, 12])
  have hK := below_put hI.kept (b := w.heap.size) (by omega) 29 (8 + gL H [7, 8, 9]) (8 + gL H [7, 8, 9]) 0 (gL H [2, 3, 4, 5, 6, 12])
  refine bodyPost_ret (v := insnV 29 (8 + gL H [7, 8, 9]) (8 + gL H [7, 8, 9]) 0 (gL H [2, 3, 4, 5, 6, 12])) (by simp [results, Tryd.results36, go_sem, hR.c0, hR.c1, hR.c2, hR.c3, hR.c4]) rfl ⟨rfl, hK⟩

set_option maxRecDepth 20000 in
set_option maxHeartbeats 3200000 in
theorem same_1 (H b : Nat) (hH : H ≤ 65535) (hk2 : (gL H [10, 11] : Int) = 1) (w : World) (hc0 : w.cell? ⟨b, 0, none⟩ = some (.int .u32 (H : Int))) :
    Calls Tryd.prog 36 #[.func (.func 31) #[] #[.pointer (some ⟨b, 0, none⟩)], .func (.func 33) #[] #[.pointer (some ⟨b, 0, none⟩)]] w fun e w' => e = .returned (insnV 30 (8 + gL H [7, 8, 9]) (8 + gL H [7, 8, 9]) 0 (gL H [2, 3, 4, 5, 6, 12])) ∧ Kept w w' := by
  have hI := InU.begin w b H hc0
  clear hc0
  have q4 := gL_rng H [7, 8, 9] 8 (by decide)
  go_enter Tryd.func36, Tryd.ntmps36
  go_upto_region 1 with fail
  generalize (w.alloc (.cells #[.int .u8 0, .int .i64 0, .int .i64 0, .int .i64 0, .int .i64 0] 27)) = W0 at hI ⊢
  have hh := hI.h
  obtain ⟨d0, d1, d2, d3, d4, f0, f1, f2, f3, f4⟩ := hI.res
  go_wp2_with (first
    | (refine wpList_litN 7 rfl rfl 43 3 3 _ rfl [7, 8, 9] Tryd.underlying43 szI5 zeI5 rfl (by decide) (by decide) (by kernel_rfl) ?_; intro bl w' hk hc; have hI' := hI.on hk; clear hI d0 d1 d2 d3 d4 f0 f1 f2 f3 f4 hh hk; have hI := hI'; clear hI'; have hh := hI.h; obtain ⟨d0, d1, d2, d3, d4, f0, f1, f2, f3, f4⟩ := hI.res)
    | (refine wpList_litN 11 rfl rfl 43 3 2 _ rfl [10, 11] Tryd.underlying43 szI5 zeI5 rfl (by decide) (by decide) (by kernel_rfl) ?_; intro bl w' hk hc; have hI' := hI.on hk; clear hI d0 d1 d2 d3 d4 f0 f1 f2 f3 f4 hh hk; have hI := hI'; clear hI'; have hh := hI.h; obtain ⟨d0, d1, d2, d3, d4, f0, f1, f2, f3, f4⟩ := hI.res)
    | (refine wpList_litN 26 rfl rfl 43 3 6 _ rfl [2, 3, 4, 5, 6, 12] Tryd.underlying43 szI5 zeI5 rfl (by decide) (by decide) (by kernel_rfl) ?_; intro bl w' hk hc; have hI' := hI.on hk; clear hI d0 d1 d2 d3 d4 f0 f1 f2 f3 f4 hh hk; have hI := hI'; clear hI'; have hh := hI.h; obtain ⟨d0, d1, d2, d3, d4, f0, f1, f2, f3, f4⟩ := hI.res)
    | (go_at_call 31; refine (plain_walk H hH _ _ _ _ _ rfl (by decide) (by decide) _ hh hc).mono ?_; rintro e w' ⟨rfl, rfl⟩; clear hc))
  have hR := hI.res.put 30 (8 + gL H [7, 8, 9]) (8 + gL H [7, 8, 9]) 0 (gL H [2, 3, 4, 5, 6, 12])
  have hK := below_put hI.kept (b := w.heap.size) (by omega) 30 (8 + gL H [7, 8, 9]) (8 + gL H [7, 8, 9]) 0 (gL H [2, 3, 4, 5, 6, 12])
  refine bodyPost_ret (v := insnV 30 (8 + gL H [7, 8, 9]) (8 + gL H [7, 8, 9]) 0 (gL H [2, 3, 4, 5, 6, 12])) (by simp [results, Tryd.results36, go_sem, hR.c0, hR.c1, hR.c2, hR.c3, hR.c4]) rfl ⟨rfl, hK⟩

set_option maxRecDepth 20000 in
set_option maxHeartbeats 3200000 in
theorem same_2 (H b : Nat) (hH : H ≤ 65535) (hk2 : (gL H [10, 11] : Int) = 2) (w : World) (hc0 : w.cell? ⟨b, 0, none⟩ = some (.int .u32 (H : Int))) :
    Calls Tryd.prog 36 #[.func (.func 31) #[] #[.pointer (some ⟨b, 0, none⟩)], .func (.func 33) #[] #[.pointer (some ⟨b, 0, none⟩)]] w fun e w' => e = .returned (insnV 27 (8 + gL H [7, 8, 9]) (8 + gL H [7, 8, 9]) 0 (gS H [2, 3, 4, 5, 6, 12])) ∧ Kept w w' := by
  have hI := InU.begin w b H hc0
  clear hc0
  have q4 := gL_rng H [7, 8, 9] 8 (by decide)
  go_enter Tryd.func36, Tryd.ntmps36
  go_upto_region 1 with fail
  generalize (w.alloc (.cells #[.int .u8 0, .int .i64 0, .int .i64 0, .int .i64 0, .int .i64 0] 27)) = W0 at hI ⊢
  have hh := hI.h
  obtain ⟨d0, d1, d2, d3, d4, f0, f1, f2, f3, f4⟩ := hI.res
  go_wp2_with (first
    | (refine wpList_litN 7 rfl rfl 43 3 3 _ rfl [7, 8, 9] Tryd.underlying43 szI5 zeI5 rfl (by decide) (by decide) (by kernel_rfl) ?_; intro bl w' hk hc; have hI' := hI.on hk; clear hI d0 d1 d2 d3 d4 f0 f1 f2 f3 f4 hh hk; have hI := hI'; clear hI'; have hh := hI.h; obtain ⟨d0, d1, d2, d3, d4, f0, f1, f2, f3, f4⟩ := hI.res)
    | (refine wpList_litN 11 rfl rfl 43 3 2 _ rfl [10, 11] Tryd.underlying43 szI5 zeI5 rfl (by decide) (by decide) (by kernel_rfl) ?_; intro bl w' hk hc; have hI' := hI.on hk; clear hI d0 d1 d2 d3 d4 f0 f1 f2 f3 f4 hh hk; have hI := hI'; clear hI'; have hh := hI.h; obtain ⟨d0, d1, d2, d3, d4, f0, f1, f2, f3, f4⟩ := hI.res)
    | (refine wpList_litN 34 rfl rfl 43 3 6 _ rfl [2, 3, 4, 5, 6, 12] Tryd.underlying43 szI5 zeI5 rfl (by decide) (by decide) (by kernel_rfl) ?_; intro bl w' hk hc; have hI' := hI.on hk; clear hI d0 d1 d2 d3 d4 f0 f1 f2 f3 f4 hh hk; have hI := hI'; clear hI'; have hh := hI.h; obtain ⟨d0, d1, d2, d3, d4, f0, f1, f2, f3, f4⟩ := hI.res)
    | (go_at_call 31; refine (plain_walk H hH _ _ _ _ _ rfl (by decide) (by decide) _ hh hc).mono ?_; rintro e w' ⟨rfl, rfl⟩; clear hc)
    | (go_at_call 33; refine (signed_walk H hH _ _ _ _ _ rfl (by decide) (by decide) (by decide) _ hh hc).mono ?_; rintro e w' ⟨rfl, hk⟩; clear hc; have hI' := hI.on hk; clear hI d0 d1 d2 d3 d4 f0 f1 f2 f3 f4 hh hk; have hI := hI'; clear hI'; have hh := hI.h; obtain ⟨d0, d1, d2, d3, d4, f0, f1, f2, f3, f4⟩ := hI.res))
  have hR := hI.res.put 27 (8 + gL H [7, 8, 9]) (8 + gL H [7, 8, 9]) 0 (gS H [2, 3, 4, 5, 6, 12])
  have hK := below_put hI.kept (b := w.heap.size) (by omega) 27 (8 + gL H [7, 8, 9]) (8 + gL H [7, 8, 9]) 0 (gS H [2, 3, 4, 5, 6, 12])
  refine bodyPost_ret (v := insnV 27 (8 + gL H [7, 8, 9]) (8 + gL H [7, 8, 9]) 0 (gS H [2, 3, 4, 5, 6, 12])) (by simp [results, Tryd.results36, go_sem, hR.c0, hR.c1, hR.c2, hR.c3, hR.c4]) rfl ⟨rfl, hK⟩

theorem far_keep {w' : World} {B b i : Nat} {v x0 x1 x2 x3 x4 : Value} {o1 o2 : Obj} (h : w'.cell? ⟨b, i, none⟩ = some v) (n : B ≠ b) : (((((((w'.setCell ⟨B, 0, none⟩ x0).setCell ⟨B, 1, none⟩ x1).setCell ⟨B, 2, none⟩ x2).setCell ⟨B, 3, none⟩ x3).setCell ⟨B, 4, none⟩ x4).alloc o1).alloc o2).drew.cell? ⟨b, i, none⟩ = some v := by
  have h5 := set_far (i := 4) (u := x4) (set_far (i := 3) (u := x3) (set_far (i := 2) (u := x2) (set_far (i := 1) (u := x1) (set_far (i := 0) (u := x0) h n) n) n) n) n
  exact Kept.cell (Below.drew ((Kept.alloc _ o1).trans (Kept.alloc _ o2))) h5
theorem lt3 {j : Nat} (h : j < 3) : j = 0 ∨ j = 1 ∨ j = 2 := by omega
set_option maxRecDepth 20000 in
set_option maxHeartbeats 3200000 in
theorem same_3 (H b : Nat) (hH : H ≤ 65535) (hk2 : (gL H [10, 11] : Int) = 3) (w : World) (hc0 : w.cell? ⟨b, 0, none⟩ = some (.int .u32 (H : Int))) (hT0 : Tab w) :
    Calls Tryd.prog 36 #[.func (.func 31) #[] #[.pointer (some ⟨b, 0, none⟩)], .func (.func 33) #[] #[.pointer (some ⟨b, 0, none⟩)]] w fun e w' => e = .returned (insnV (pairC (gL H [5, 6, 12])) (8 + gL H [7, 8, 9]) (8 + gL H [7, 8, 9]) (8 + gL H [2, 3, 4]) 0) ∧ Kept w w' := by
  have hg : gL H [5, 6, 12] < 8 := gL_lt H [5, 6, 12]
  have lb := block_lt_of_cell hc0
  have lz := block_lt_of_cell (hT0 0 (by decide))
  have nb : b ≠ w.heap.size := Nat.ne_of_lt lb
  have nz : 0 ≠ w.heap.size := Nat.ne_of_lt lz
  have nb' : w.heap.size ≠ b := Nat.ne_of_gt lb
  have nz' : w.heap.size ≠ 0 := Nat.ne_of_gt lz
  clear lb lz
  have hT := hT0.kept (Kept.alloc w (.cells #[.int .u8 0, .int .i64 0, .int .i64 0, .int .i64 0, .int .i64 0] 27))
  clear hT0
  have hI := InU.begin w b H hc0
  clear hc0
  have q4 := gL_rng H [7, 8, 9] 8 (by decide)
  have q5 := gL_rng H [2, 3, 4] 8 (by decide)
  have q6 := gL_rng H [5, 6, 12] 8 (by decide)
  go_enter Tryd.func36, Tryd.ntmps36
  go_upto_region 1 with fail
  generalize (w.alloc (.cells #[.int .u8 0, .int .i64 0, .int .i64 0, .int .i64 0, .int .i64 0] 27)) = W0 at hI hT ⊢
  have hh := hI.h
  have hp := hT _ hg
  obtain ⟨d0, d1, d2, d3, d4, f0, f1, f2, f3, f4⟩ := hI.res
  go_upto_region 9 with (first
    | (refine wpList_litN 7 rfl rfl 43 3 3 _ rfl [7, 8, 9] Tryd.underlying43 szI5 zeI5 rfl (by decide) (by decide) (by kernel_rfl) ?_; intro bl w' hk hc; have hI' := hI.on hk; have hT' := hT.kept hk; clear hI hT d0 d1 d2 d3 d4 f0 f1 f2 f3 f4 hh hp hk; have hI := hI'; have hT := hT'; clear hI' hT'; have hh := hI.h; have hp := hT _ hg; obtain ⟨d0, d1, d2, d3, d4, f0, f1, f2, f3, f4⟩ := hI.res)
    | (refine wpList_litN 11 rfl rfl 43 3 2 _ rfl [10, 11] Tryd.underlying43 szI5 zeI5 rfl (by decide) (by decide) (by kernel_rfl) ?_; intro bl w' hk hc; have hI' := hI.on hk; have hT' := hT.kept hk; clear hI hT d0 d1 d2 d3 d4 f0 f1 f2 f3 f4 hh hp hk; have hI := hI'; have hT := hT'; clear hI' hT'; have hh := hI.h; have hp := hT _ hg; obtain ⟨d0, d1, d2, d3, d4, f0, f1, f2, f3, f4⟩ := hI.res)
    | (go_at_call 31; refine (plain_walk H hH _ _ _ _ _ rfl (by decide) (by decide) _ hh hc).mono ?_; rintro e w' ⟨rfl, rfl⟩; clear hc))
  clear hk2
  have hn := World.new_ne _ _ hh
  have lB := hI.res.lt
  have lB1 := Nat.lt_succ_of_lt lB
  have nB := Nat.ne_of_lt lB
  have nB1 := Nat.ne_of_lt lB1
  have nB' := Nat.ne_of_gt lB
  have nB1' := Nat.ne_of_gt lB1
  have hn2 := World.new_ne _ _ hp
  go_cut [48] (fun _ wx => Box wx w.heap.size (pairC (gL H [5, 6, 12])) (8 + gL H [7, 8, 9]) (8 + gL H [7, 8, 9]) (IntKind.i64.wrap (8 + (gL H [2, 3, 4] : Int))) 0 ∧ Kept w wx)
  case first =>
    go_region_held3 (fun w' => w'.cell? ⟨b, 0, none⟩ = some (.int .u32 (H : Int)) ∧ w'.cell? ⟨0, gL H [5, 6, 12], none⟩ = some (.int .u8 (pairC (gL H [5, 6, 12])))) (first | with_reducible exact ⟨far_keep hh nb', far_keep hp nz'⟩ | go_keep)
      (first
        | (go_at_call 31; refine (plain_walk H hH [5, 6, 12] 3 3 b _ rfl (by decide) (by decide) _ ?_ ?_).mono ?_; (simp [*]); (intro j hj; rcases lt3 hj with rfl | rfl | rfl <;> simp); rintro e w' ⟨rfl, rfl⟩)
        | (go_at_call 31; refine (plain_walk H hH [2, 3, 4] 3 3 b _ rfl (by decide) (by decide) _ ?_ ?_).mono ?_; (simp [*]); (intro j hj; rcases lt3 hj with rfl | rfl | rfl <;> simp); rintro e w' ⟨rfl, rfl⟩))
    all_goals
      as_aux_lemma =>
        go_wp2_with fail
        go_meet
        exact ⟨(hI.res.put _ _ _ _ _).kept (Below.drew ((Kept.alloc _ _).trans (Kept.alloc _ _))), (below_put hI.kept (Nat.le_refl _) _ _ _ _ _).trans (Below.drew (((Below.refl _ _).alloc (by simp; omega) _).alloc (by simp; omega) _))⟩
  case rest =>
    obtain ⟨hR, hW⟩ := hcut
    have hwr : IntKind.i64.wrap (8 + (gL H [2, 3, 4] : Int)) = 8 + (gL H [2, 3, 4] : Int) := i64_wrap_id (by omega) (by omega)
    rw [hwr] at hR
    clear hwr
    go_wp2
    refine bodyPost_ret (v := insnV (pairC (gL H [5, 6, 12])) (8 + gL H [7, 8, 9]) (8 + gL H [7, 8, 9]) (8 + gL H [2, 3, 4]) 0) (by simp [results, Tryd.results36, go_sem, hR.c0, hR.c1, hR.c2, hR.c3, hR.c4]) rfl ⟨rfl, hW⟩
end Go.Proofs.YtbmcanpjpibecaaDoor
