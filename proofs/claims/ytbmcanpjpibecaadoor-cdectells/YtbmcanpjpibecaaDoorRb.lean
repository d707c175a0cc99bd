/- What cdec.read reads, case by case (Rb). -/
import Derived.Test.YtbmcanpjpibecaaDoorCr
import Derived.Deep.DeepCutAuto
namespace Go.Proofs.YtbmcanpjpibecaaDoor
open Go.RowKit

set_option maxRecDepth 20000 in
set_option maxHeartbeats 3200000 in
theorem read_19 (H : Nat) (hH : H ≤ 65535) (ht : H &&& 57347 = 8193) (w : World) :
    Calls Tryd.prog 20 #[.int .u32 (H : Int)] w fun e w' => e = .returned (insnV 41 (gL H [7, 8, 9, 10, 11]) (gL H [7, 8, 9, 10, 11]) 0 (gS H [2, 3, 4, 5, 6, 12])) ∧ Kept w w' := by
  have hI := InR.begin w H
  have hX := and_top H hH
  rw [ht] at hX
  have q1 := gL_rng H [2, 3, 4, 5, 6] 32 (by decide)
  have q2 := gL_rng H [7, 8, 9, 10, 11] 32 (by decide)
  have q3 := gL_rng H [2, 3, 4] 8 (by decide)
  have q4 := gL_rng H [7, 8, 9] 8 (by decide)
  have q5 := gS_rng H [2, 3, 4, 5, 6, 12] 64 (by decide)
  have hmf : ∀ (fn : Fn) (first cap : Array Value) (w : World), (Instr.makeFunc fn first cap).run Tryd.prog w = .ok (.func fn first cap) w := fun _ _ _ _ => rfl
  go_enter Tryd.func20, Tryd.ntmps20
  go_upto_region 1 with fail
  generalize ((w.alloc (.cells #[.int .u32 (H : Int)] 41)).alloc (.cells #[.int .u8 0, .int .i64 0, .int .i64 0, .int .i64 0, .int .i64 0] 27)) = W0 at hI ⊢
  have hh := hI.h
  obtain ⟨d0, d1, d2, d3, d4, f0, f1, f2, f3, f4⟩ := hI.res
  go_wp2_with (first
    | (refine wpList_litN 12 rfl rfl 43 3 5 _ rfl [2, 3, 4, 5, 6] Tryd.underlying43 szI5 zeI5 rfl (by decide) (by decide) (by kernel_rfl) ?_; intro bl w' hk hc; have hI' := hI.on hk; clear hI d0 d1 d2 d3 d4 f0 f1 f2 f3 f4 hh hk; have hI := hI'; clear hI'; have hh := hI.h; obtain ⟨d0, d1, d2, d3, d4, f0, f1, f2, f3, f4⟩ := hI.res)
    | (refine wpList_litN 15 rfl rfl 43 3 5 _ rfl [7, 8, 9, 10, 11] Tryd.underlying43 szI5 zeI5 rfl (by decide) (by decide) (by kernel_rfl) ?_; intro bl w' hk hc; have hI' := hI.on hk; clear hI d0 d1 d2 d3 d4 f0 f1 f2 f3 f4 hh hk; have hI := hI'; clear hI'; have hh := hI.h; obtain ⟨d0, d1, d2, d3, d4, f0, f1, f2, f3, f4⟩ := hI.res)
    | (refine wpList_litN 18 rfl rfl 43 3 3 _ rfl [2, 3, 4] Tryd.underlying43 szI5 zeI5 rfl (by decide) (by decide) (by kernel_rfl) ?_; intro bl w' hk hc; have hI' := hI.on hk; clear hI d0 d1 d2 d3 d4 f0 f1 f2 f3 f4 hh hk; have hI := hI'; clear hI'; have hh := hI.h; obtain ⟨d0, d1, d2, d3, d4, f0, f1, f2, f3, f4⟩ := hI.res)
    | (refine wpList_litN 22 rfl rfl 43 3 3 _ rfl [7, 8, 9] Tryd.underlying43 szI5 zeI5 rfl (by decide) (by decide) (by kernel_rfl) ?_; intro bl w' hk hc; have hI' := hI.on hk; clear hI d0 d1 d2 d3 d4 f0 f1 f2 f3 f4 hh hk; have hI := hI'; clear hI'; have hh := hI.h; obtain ⟨d0, d1, d2, d3, d4, f0, f1, f2, f3, f4⟩ := hI.res)
    | (refine wpList_litN 84 rfl rfl 43 3 6 _ rfl [2, 3, 4, 5, 6, 12] Tryd.underlying43 szI5 zeI5 rfl (by decide) (by decide) (by kernel_rfl) ?_; intro bl w' hk hc; have hI' := hI.on hk; clear hI d0 d1 d2 d3 d4 f0 f1 f2 f3 f4 hh hk; have hI := hI'; clear hI'; have hh := hI.h; obtain ⟨d0, d1, d2, d3, d4, f0, f1, f2, f3, f4⟩ := hI.res)
    | (go_at_call 31; refine (plain_walk H hH _ _ _ _ _ rfl (by decide) (by decide) _ hh hc).mono ?_; rintro e w' ⟨rfl, rfl⟩; clear hc)
    | (go_at_call 33; refine (signed_walk H hH _ _ _ _ _ rfl (by decide) (by decide) (by decide) _ hh hc).mono ?_; rintro e w' ⟨rfl, hk⟩; clear hc; have hI' := hI.on hk; clear hI d0 d1 d2 d3 d4 f0 f1 f2 f3 f4 hh hk; have hI := hI'; clear hI'; have hh := hI.h; obtain ⟨d0, d1, d2, d3, d4, f0, f1, f2, f3, f4⟩ := hI.res))
  have hR := hI.res.put 41 (gL H [7, 8, 9, 10, 11]) (gL H [7, 8, 9, 10, 11]) 0 (gS H [2, 3, 4, 5, 6, 12])
  have hK := below_put hI.kept (b := w.heap.size + 1) (by omega) 41 (gL H [7, 8, 9, 10, 11]) (gL H [7, 8, 9, 10, 11]) 0 (gS H [2, 3, 4, 5, 6, 12])
  refine bodyPost_ret (v := insnV 41 (gL H [7, 8, 9, 10, 11]) (gL H [7, 8, 9, 10, 11]) 0 (gS H [2, 3, 4, 5, 6, 12])) (by simp [results, Tryd.results20, go_sem, hR.c0, hR.c1, hR.c2, hR.c3, hR.c4]) rfl ⟨rfl, hK⟩

set_option maxRecDepth 20000 in
set_option maxHeartbeats 3200000 in
theorem read_21 (H : Nat) (hH : H ≤ 65535) (ht : H &&& 57347 = 16385) (w : World) :
    Calls Tryd.prog 20 #[.int .u32 (H : Int)] w fun e w' => e = .returned (insnV 22 (gL H [7, 8, 9, 10, 11]) 0 0 (gS H [2, 3, 4, 5, 6, 12])) ∧ Kept w w' := by
  have hI := InR.begin w H
  have hX := and_top H hH
  rw [ht] at hX
  have q1 := gL_rng H [2, 3, 4, 5, 6] 32 (by decide)
  have q2 := gL_rng H [7, 8, 9, 10, 11] 32 (by decide)
  have q3 := gL_rng H [2, 3, 4] 8 (by decide)
  have q4 := gL_rng H [7, 8, 9] 8 (by decide)
  have q5 := gS_rng H [2, 3, 4, 5, 6, 12] 64 (by decide)
  have hmf : ∀ (fn : Fn) (first cap : Array Value) (w : World), (Instr.makeFunc fn first cap).run Tryd.prog w = .ok (.func fn first cap) w := fun _ _ _ _ => rfl
  go_enter Tryd.func20, Tryd.ntmps20
  go_upto_region 1 with fail
  generalize ((w.alloc (.cells #[.int .u32 (H : Int)] 41)).alloc (.cells #[.int .u8 0, .int .i64 0, .int .i64 0, .int .i64 0, .int .i64 0] 27)) = W0 at hI ⊢
  have hh := hI.h
  obtain ⟨d0, d1, d2, d3, d4, f0, f1, f2, f3, f4⟩ := hI.res
  go_wp2_with (first
    | (refine wpList_litN 12 rfl rfl 43 3 5 _ rfl [2, 3, 4, 5, 6] Tryd.underlying43 szI5 zeI5 rfl (by decide) (by decide) (by kernel_rfl) ?_; intro bl w' hk hc; have hI' := hI.on hk; clear hI d0 d1 d2 d3 d4 f0 f1 f2 f3 f4 hh hk; have hI := hI'; clear hI'; have hh := hI.h; obtain ⟨d0, d1, d2, d3, d4, f0, f1, f2, f3, f4⟩ := hI.res)
    | (refine wpList_litN 15 rfl rfl 43 3 5 _ rfl [7, 8, 9, 10, 11] Tryd.underlying43 szI5 zeI5 rfl (by decide) (by decide) (by kernel_rfl) ?_; intro bl w' hk hc; have hI' := hI.on hk; clear hI d0 d1 d2 d3 d4 f0 f1 f2 f3 f4 hh hk; have hI := hI'; clear hI'; have hh := hI.h; obtain ⟨d0, d1, d2, d3, d4, f0, f1, f2, f3, f4⟩ := hI.res)
    | (refine wpList_litN 18 rfl rfl 43 3 3 _ rfl [2, 3, 4] Tryd.underlying43 szI5 zeI5 rfl (by decide) (by decide) (by kernel_rfl) ?_; intro bl w' hk hc; have hI' := hI.on hk; clear hI d0 d1 d2 d3 d4 f0 f1 f2 f3 f4 hh hk; have hI := hI'; clear hI'; have hh := hI.h; obtain ⟨d0, d1, d2, d3, d4, f0, f1, f2, f3, f4⟩ := hI.res)
    | (refine wpList_litN 22 rfl rfl 43 3 3 _ rfl [7, 8, 9] Tryd.underlying43 szI5 zeI5 rfl (by decide) (by decide) (by kernel_rfl) ?_; intro bl w' hk hc; have hI' := hI.on hk; clear hI d0 d1 d2 d3 d4 f0 f1 f2 f3 f4 hh hk; have hI := hI'; clear hI'; have hh := hI.h; obtain ⟨d0, d1, d2, d3, d4, f0, f1, f2, f3, f4⟩ := hI.res)
    | (refine wpList_litN 91 rfl rfl 43 3 6 _ rfl [2, 3, 4, 5, 6, 12] Tryd.underlying43 szI5 zeI5 rfl (by decide) (by decide) (by kernel_rfl) ?_; intro bl w' hk hc; have hI' := hI.on hk; clear hI d0 d1 d2 d3 d4 f0 f1 f2 f3 f4 hh hk; have hI := hI'; clear hI'; have hh := hI.h; obtain ⟨d0, d1, d2, d3, d4, f0, f1, f2, f3, f4⟩ := hI.res)
    | (go_at_call 31; refine (plain_walk H hH _ _ _ _ _ rfl (by decide) (by decide) _ hh hc).mono ?_; rintro e w' ⟨rfl, rfl⟩; clear hc)
    | (go_at_call 33; refine (signed_walk H hH _ _ _ _ _ rfl (by decide) (by decide) (by decide) _ hh hc).mono ?_; rintro e w' ⟨rfl, hk⟩; clear hc; have hI' := hI.on hk; clear hI d0 d1 d2 d3 d4 f0 f1 f2 f3 f4 hh hk; have hI := hI'; clear hI'; have hh := hI.h; obtain ⟨d0, d1, d2, d3, d4, f0, f1, f2, f3, f4⟩ := hI.res))
  have hR := hI.res.put 22 (gL H [7, 8, 9, 10, 11]) 0 0 (gS H [2, 3, 4, 5, 6, 12])
  have hK := below_put hI.kept (b := w.heap.size + 1) (by omega) 22 (gL H [7, 8, 9, 10, 11]) 0 0 (gS H [2, 3, 4, 5, 6, 12])
  refine bodyPost_ret (v := insnV 22 (gL H [7, 8, 9, 10, 11]) 0 0 (gS H [2, 3, 4, 5, 6, 12])) (by simp [results, Tryd.results20, go_sem, hR.c0, hR.c1, hR.c2, hR.c3, hR.c4]) rfl ⟨rfl, hK⟩

set_option maxRecDepth 20000 in
set_option maxHeartbeats 3200000 in
theorem read_27 (H : Nat) (hH : H ≤ 65535) (ht : H &&& 57347 = 40961) (w : World) :
    Calls Tryd.prog 20 #[.int .u32 (H : Int)] w fun e w' => e = .returned (insnV 3 0 0 0 (2 * gS H [3, 4, 5, 11, 2, 7, 6, 9, 10, 8, 12])) ∧ Kept w w' := by
  have hI := InR.begin w H
  have hX := and_top H hH
  rw [ht] at hX
  have q1 := gL_rng H [2, 3, 4, 5, 6] 32 (by decide)
  have q2 := gL_rng H [7, 8, 9, 10, 11] 32 (by decide)
  have q3 := gL_rng H [2, 3, 4] 8 (by decide)
  have q4 := gL_rng H [7, 8, 9] 8 (by decide)
  have q5 := gS_rng H [3, 4, 5, 11, 2, 7, 6, 9, 10, 8, 12] 2048 (by decide)
  have hmf : ∀ (fn : Fn) (first cap : Array Value) (w : World), (Instr.makeFunc fn first cap).run Tryd.prog w = .ok (.func fn first cap) w := fun _ _ _ _ => rfl
  go_enter Tryd.func20, Tryd.ntmps20
  go_upto_region 1 with fail
  generalize ((w.alloc (.cells #[.int .u32 (H : Int)] 41)).alloc (.cells #[.int .u8 0, .int .i64 0, .int .i64 0, .int .i64 0, .int .i64 0] 27)) = W0 at hI ⊢
  have hh := hI.h
  obtain ⟨d0, d1, d2, d3, d4, f0, f1, f2, f3, f4⟩ := hI.res
  go_wp2_with (first
    | (refine wpList_litN 12 rfl rfl 43 3 5 _ rfl [2, 3, 4, 5, 6] Tryd.underlying43 szI5 zeI5 rfl (by decide) (by decide) (by kernel_rfl) ?_; intro bl w' hk hc; have hI' := hI.on hk; clear hI d0 d1 d2 d3 d4 f0 f1 f2 f3 f4 hh hk; have hI := hI'; clear hI'; have hh := hI.h; obtain ⟨d0, d1, d2, d3, d4, f0, f1, f2, f3, f4⟩ := hI.res)
    | (refine wpList_litN 15 rfl rfl 43 3 5 _ rfl [7, 8, 9, 10, 11] Tryd.underlying43 szI5 zeI5 rfl (by decide) (by decide) (by kernel_rfl) ?_; intro bl w' hk hc; have hI' := hI.on hk; clear hI d0 d1 d2 d3 d4 f0 f1 f2 f3 f4 hh hk; have hI := hI'; clear hI'; have hh := hI.h; obtain ⟨d0, d1, d2, d3, d4, f0, f1, f2, f3, f4⟩ := hI.res)
    | (refine wpList_litN 18 rfl rfl 43 3 3 _ rfl [2, 3, 4] Tryd.underlying43 szI5 zeI5 rfl (by decide) (by decide) (by kernel_rfl) ?_; intro bl w' hk hc; have hI' := hI.on hk; clear hI d0 d1 d2 d3 d4 f0 f1 f2 f3 f4 hh hk; have hI := hI'; clear hI'; have hh := hI.h; obtain ⟨d0, d1, d2, d3, d4, f0, f1, f2, f3, f4⟩ := hI.res)
    | (refine wpList_litN 22 rfl rfl 43 3 3 _ rfl [7, 8, 9] Tryd.underlying43 szI5 zeI5 rfl (by decide) (by decide) (by kernel_rfl) ?_; intro bl w' hk hc; have hI' := hI.on hk; clear hI d0 d1 d2 d3 d4 f0 f1 f2 f3 f4 hh hk; have hI := hI'; clear hI'; have hh := hI.h; obtain ⟨d0, d1, d2, d3, d4, f0, f1, f2, f3, f4⟩ := hI.res)
    | (refine wpList_litN 107 rfl rfl 43 3 11 _ rfl [3, 4, 5, 11, 2, 7, 6, 9, 10, 8, 12] Tryd.underlying43 szI5 zeI5 rfl (by decide) (by decide) (by kernel_rfl) ?_; intro bl w' hk hc; have hI' := hI.on hk; clear hI d0 d1 d2 d3 d4 f0 f1 f2 f3 f4 hh hk; have hI := hI'; clear hI'; have hh := hI.h; obtain ⟨d0, d1, d2, d3, d4, f0, f1, f2, f3, f4⟩ := hI.res)
    | (go_at_call 31; refine (plain_walk H hH _ _ _ _ _ rfl (by decide) (by decide) _ hh hc).mono ?_; rintro e w' ⟨rfl, rfl⟩; clear hc)
    | (go_at_call 33; refine (signed_walk H hH _ _ _ _ _ rfl (by decide) (by decide) (by decide) _ hh hc).mono ?_; rintro e w' ⟨rfl, hk⟩; clear hc; have hI' := hI.on hk; clear hI d0 d1 d2 d3 d4 f0 f1 f2 f3 f4 hh hk; have hI := hI'; clear hI'; have hh := hI.h; obtain ⟨d0, d1, d2, d3, d4, f0, f1, f2, f3, f4⟩ := hI.res))
  have hR := hI.res.put 3 0 0 0 (2 * gS H [3, 4, 5, 11, 2, 7, 6, 9, 10, 8, 12])
  have hK := below_put hI.kept (b := w.heap.size + 1) (by omega) 3 0 0 0 (2 * gS H [3, 4, 5, 11, 2, 7, 6, 9, 10, 8, 12])
  refine bodyPost_ret (v := insnV 3 0 0 0 (2 * gS H [3, 4, 5, 11, 2, 7, 6, 9, 10, 8, 12])) (by simp [results, Tryd.results20, go_sem, hR.c0, hR.c1, hR.c2, hR.c3, hR.c4]) rfl ⟨rfl, hK⟩

set_option maxRecDepth 20000 in
set_option maxHeartbeats 3200000 in
theorem read_29 (H : Nat) (hH : H ≤ 65535) (ht : H &&& 57347 = 49153) (w : World) :
    Calls Tryd.prog 20 #[.int .u32 (H : Int)] w fun e w' => e = .returned (insnV 5 0 (8 + gL H [7, 8, 9]) 0 (2 * gS H [3, 4, 10, 11, 2, 5, 6, 12])) ∧ Kept w w' := by
  have hI := InR.begin w H
  have hX := and_top H hH
  rw [ht] at hX
  have q1 := gL_rng H [2, 3, 4, 5, 6] 32 (by decide)
  have q2 := gL_rng H [7, 8, 9, 10, 11] 32 (by decide)
  have q3 := gL_rng H [2, 3, 4] 8 (by decide)
  have q4 := gL_rng H [7, 8, 9] 8 (by decide)
  have q5 := gS_rng H [3, 4, 10, 11, 2, 5, 6, 12] 256 (by decide)
  have hmf : ∀ (fn : Fn) (first cap : Array Value) (w : World), (Instr.makeFunc fn first cap).run Tryd.prog w = .ok (.func fn first cap) w := fun _ _ _ _ => rfl
  go_enter Tryd.func20, Tryd.ntmps20
  go_upto_region 1 with fail
  generalize ((w.alloc (.cells #[.int .u32 (H : Int)] 41)).alloc (.cells #[.int .u8 0, .int .i64 0, .int .i64 0, .int .i64 0, .int .i64 0] 27)) = W0 at hI ⊢
  have hh := hI.h
  obtain ⟨d0, d1, d2, d3, d4, f0, f1, f2, f3, f4⟩ := hI.res
  go_wp2_with (first
    | (refine wpList_litN 12 rfl rfl 43 3 5 _ rfl [2, 3, 4, 5, 6] Tryd.underlying43 szI5 zeI5 rfl (by decide) (by decide) (by kernel_rfl) ?_; intro bl w' hk hc; have hI' := hI.on hk; clear hI d0 d1 d2 d3 d4 f0 f1 f2 f3 f4 hh hk; have hI := hI'; clear hI'; have hh := hI.h; obtain ⟨d0, d1, d2, d3, d4, f0, f1, f2, f3, f4⟩ := hI.res)
    | (refine wpList_litN 15 rfl rfl 43 3 5 _ rfl [7, 8, 9, 10, 11] Tryd.underlying43 szI5 zeI5 rfl (by decide) (by decide) (by kernel_rfl) ?_; intro bl w' hk hc; have hI' := hI.on hk; clear hI d0 d1 d2 d3 d4 f0 f1 f2 f3 f4 hh hk; have hI := hI'; clear hI'; have hh := hI.h; obtain ⟨d0, d1, d2, d3, d4, f0, f1, f2, f3, f4⟩ := hI.res)
    | (refine wpList_litN 18 rfl rfl 43 3 3 _ rfl [2, 3, 4] Tryd.underlying43 szI5 zeI5 rfl (by decide) (by decide) (by kernel_rfl) ?_; intro bl w' hk hc; have hI' := hI.on hk; clear hI d0 d1 d2 d3 d4 f0 f1 f2 f3 f4 hh hk; have hI := hI'; clear hI'; have hh := hI.h; obtain ⟨d0, d1, d2, d3, d4, f0, f1, f2, f3, f4⟩ := hI.res)
    | (refine wpList_litN 22 rfl rfl 43 3 3 _ rfl [7, 8, 9] Tryd.underlying43 szI5 zeI5 rfl (by decide) (by decide) (by kernel_rfl) ?_; intro bl w' hk hc; have hI' := hI.on hk; clear hI d0 d1 d2 d3 d4 f0 f1 f2 f3 f4 hh hk; have hI := hI'; clear hI'; have hh := hI.h; obtain ⟨d0, d1, d2, d3, d4, f0, f1, f2, f3, f4⟩ := hI.res)
    | (refine wpList_litN 115 rfl rfl 43 3 8 _ rfl [3, 4, 10, 11, 2, 5, 6, 12] Tryd.underlying43 szI5 zeI5 rfl (by decide) (by decide) (by kernel_rfl) ?_; intro bl w' hk hc; have hI' := hI.on hk; clear hI d0 d1 d2 d3 d4 f0 f1 f2 f3 f4 hh hk; have hI := hI'; clear hI'; have hh := hI.h; obtain ⟨d0, d1, d2, d3, d4, f0, f1, f2, f3, f4⟩ := hI.res)
    | (go_at_call 31; refine (plain_walk H hH _ _ _ _ _ rfl (by decide) (by decide) _ hh hc).mono ?_; rintro e w' ⟨rfl, rfl⟩; clear hc)
    | (go_at_call 33; refine (signed_walk H hH _ _ _ _ _ rfl (by decide) (by decide) (by decide) _ hh hc).mono ?_; rintro e w' ⟨rfl, hk⟩; clear hc; have hI' := hI.on hk; clear hI d0 d1 d2 d3 d4 f0 f1 f2 f3 f4 hh hk; have hI := hI'; clear hI'; have hh := hI.h; obtain ⟨d0, d1, d2, d3, d4, f0, f1, f2, f3, f4⟩ := hI.res))
  have hR := hI.res.put 5 0 (8 + gL H [7, 8, 9]) 0 (2 * gS H [3, 4, 10, 11, 2, 5, 6, 12])
  have hK := below_put hI.kept (b := w.heap.size + 1) (by omega) 5 0 (8 + gL H [7, 8, 9]) 0 (2 * gS H [3, 4, 10, 11, 2, 5, 6, 12])
  refine bodyPost_ret (v := insnV 5 0 (8 + gL H [7, 8, 9]) 0 (2 * gS H [3, 4, 10, 11, 2, 5, 6, 12])) (by simp [results, Tryd.results20, go_sem, hR.c0, hR.c1, hR.c2, hR.c3, hR.c4]) rfl ⟨rfl, hK⟩

set_option maxRecDepth 20000 in
set_option maxHeartbeats 3200000 in
theorem read_31 (H : Nat) (hH : H ≤ 65535) (ht : H &&& 57347 = 57345) (w : World) :
    Calls Tryd.prog 20 #[.int .u32 (H : Int)] w fun e w' => e = .returned (insnV 6 0 (8 + gL H [7, 8, 9]) 0 (2 * gS H [3, 4, 10, 11, 2, 5, 6, 12])) ∧ Kept w w' := by
  have hI := InR.begin w H
  have hX := and_top H hH
  rw [ht] at hX
  have q1 := gL_rng H [2, 3, 4, 5, 6] 32 (by decide)
  have q2 := gL_rng H [7, 8, 9, 10, 11] 32 (by decide)
  have q3 := gL_rng H [2, 3, 4] 8 (by decide)
  have q4 := gL_rng H [7, 8, 9] 8 (by decide)
  have q5 := gS_rng H [3, 4, 10, 11, 2, 5, 6, 12] 256 (by decide)
  have hmf : ∀ (fn : Fn) (first cap : Array Value) (w : World), (Instr.makeFunc fn first cap).run Tryd.prog w = .ok (.func fn first cap) w := fun _ _ _ _ => rfl
  go_enter Tryd.func20, Tryd.ntmps20
  go_upto_region 1 with fail
  generalize ((w.alloc (.cells #[.int .u32 (H : Int)] 41)).alloc (.cells #[.int .u8 0, .int .i64 0, .int .i64 0, .int .i64 0, .int .i64 0] 27)) = W0 at hI ⊢
  have hh := hI.h
  obtain ⟨d0, d1, d2, d3, d4, f0, f1, f2, f3, f4⟩ := hI.res
  go_wp2_with (first
    | (refine wpList_litN 12 rfl rfl 43 3 5 _ rfl [2, 3, 4, 5, 6] Tryd.underlying43 szI5 zeI5 rfl (by decide) (by decide) (by kernel_rfl) ?_; intro bl w' hk hc; have hI' := hI.on hk; clear hI d0 d1 d2 d3 d4 f0 f1 f2 f3 f4 hh hk; have hI := hI'; clear hI'; have hh := hI.h; obtain ⟨d0, d1, d2, d3, d4, f0, f1, f2, f3, f4⟩ := hI.res)
    | (refine wpList_litN 15 rfl rfl 43 3 5 _ rfl [7, 8, 9, 10, 11] Tryd.underlying43 szI5 zeI5 rfl (by decide) (by decide) (by kernel_rfl) ?_; intro bl w' hk hc; have hI' := hI.on hk; clear hI d0 d1 d2 d3 d4 f0 f1 f2 f3 f4 hh hk; have hI := hI'; clear hI'; have hh := hI.h; obtain ⟨d0, d1, d2, d3, d4, f0, f1, f2, f3, f4⟩ := hI.res)
    | (refine wpList_litN 18 rfl rfl 43 3 3 _ rfl [2, 3, 4] Tryd.underlying43 szI5 zeI5 rfl (by decide) (by decide) (by kernel_rfl) ?_; intro bl w' hk hc; have hI' := hI.on hk; clear hI d0 d1 d2 d3 d4 f0 f1 f2 f3 f4 hh hk; have hI := hI'; clear hI'; have hh := hI.h; obtain ⟨d0, d1, d2, d3, d4, f0, f1, f2, f3, f4⟩ := hI.res)
    | (refine wpList_litN 22 rfl rfl 43 3 3 _ rfl [7, 8, 9] Tryd.underlying43 szI5 zeI5 rfl (by decide) (by decide) (by kernel_rfl) ?_; intro bl w' hk hc; have hI' := hI.on hk; clear hI d0 d1 d2 d3 d4 f0 f1 f2 f3 f4 hh hk; have hI := hI'; clear hI'; have hh := hI.h; obtain ⟨d0, d1, d2, d3, d4, f0, f1, f2, f3, f4⟩ := hI.res)
    | (refine wpList_litN 123 rfl rfl 43 3 8 _ rfl [3, 4, 10, 11, 2, 5, 6, 12] Tryd.underlying43 szI5 zeI5 rfl (by decide) (by decide) (by kernel_rfl) ?_; intro bl w' hk hc; have hI' := hI.on hk; clear hI d0 d1 d2 d3 d4 f0 f1 f2 f3 f4 hh hk; have hI := hI'; clear hI'; have hh := hI.h; obtain ⟨d0, d1, d2, d3, d4, f0, f1, f2, f3, f4⟩ := hI.res)
    | (go_at_call 31; refine (plain_walk H hH _ _ _ _ _ rfl (by decide) (by decide) _ hh hc).mono ?_; rintro e w' ⟨rfl, rfl⟩; clear hc)
    | (go_at_call 33; refine (signed_walk H hH _ _ _ _ _ rfl (by decide) (by decide) (by decide) _ hh hc).mono ?_; rintro e w' ⟨rfl, hk⟩; clear hc; have hI' := hI.on hk; clear hI d0 d1 d2 d3 d4 f0 f1 f2 f3 f4 hh hk; have hI := hI'; clear hI'; have hh := hI.h; obtain ⟨d0, d1, d2, d3, d4, f0, f1, f2, f3, f4⟩ := hI.res))
  have hR := hI.res.put 6 0 (8 + gL H [7, 8, 9]) 0 (2 * gS H [3, 4, 10, 11, 2, 5, 6, 12])
  have hK := below_put hI.kept (b := w.heap.size + 1) (by omega) 6 0 (8 + gL H [7, 8, 9]) 0 (2 * gS H [3, 4, 10, 11, 2, 5, 6, 12])
  refine bodyPost_ret (v := insnV 6 0 (8 + gL H [7, 8, 9]) 0 (2 * gS H [3, 4, 10, 11, 2, 5, 6, 12])) (by simp [results, Tryd.results20, go_sem, hR.c0, hR.c1, hR.c2, hR.c3, hR.c4]) rfl ⟨rfl, hK⟩

end Go.Proofs.YtbmcanpjpibecaaDoor
