/- What cdec.read reads, case by case (Ra). -/
import Derived.Test.YtbmcanpjpibecaaDoorCr
import Derived.Deep.DeepCutAuto
namespace Go.Proofs.YtbmcanpjpibecaaDoor
open Go.RowKit

set_option maxRecDepth 20000 in
set_option maxHeartbeats 3200000 in
theorem read_7 (H : Nat) (hH : H ≤ 65535) (ht : H &&& 57347 = 0) (w : World) :
    Calls Tryd.prog 20 #[.int .u32 (H : Int)] w fun e w' => e = .returned (insnV 22 (8 + gL H [2, 3, 4]) 2 0 (4 * gL H [6, 5, 11, 12, 7, 8, 9, 10])) ∧ Kept w w' := by
  have hI := InR.begin w H
  have hX := and_top H hH
  rw [ht] at hX
  have q1 := gL_rng H [2, 3, 4, 5, 6] 32 (by decide)
  have q2 := gL_rng H [7, 8, 9, 10, 11] 32 (by decide)
  have q3 := gL_rng H [2, 3, 4] 8 (by decide)
  have q4 := gL_rng H [7, 8, 9] 8 (by decide)
  have q5 := gL_rng H [6, 5, 11, 12, 7, 8, 9, 10] 256 (by decide)
  have hmf : ∀ (fn : Fn) (first cap : Array Value) (w : World), (Instr.makeFunc fn first cap).run Tryd.prog w = .ok (.func fn first cap) w := fun _ _ _ _ => rfl
  go_enter Tryd.func20, Tryd.ntmps20
  go_upto_region 1 with fail
  generalize ((w.alloc (.cells #[.int .u32 (H : Int)] 41)).alloc (.cells #[.int .u8 0, .int .i64 0, .int .i64 0, .int .i64 0, .int .i64 0] 27)) = W0 at hI ⊢
  have hh := hI.h
  obtain ⟨d0, d1, d2, d3, d4, f0, f1, f2, f3, f4⟩ := hI.res
  go_wp2_with (first
    | (refine wpList_litN 12 rfl rfl 43 3 5 _ rfl [2, 3, 4, 5, 6] Tryd.underlying43 szI5 zeI5 rfl (by decide) (by decide) (by kernel_rfl) ?_; intro bl w' hk hc; have hI' := hI.on hk; clear hI d0 d1 d2 d3 d4 f0 f1 f2 f3 f4 hh hk; have hI := hI'; clear hI'; have hh := hI.h; obtain ⟨d0, d1, d2, d3, d4, f0, f1, f2, f3, f4⟩ := hI.res)
    | (refine wpList_litN 15 rfl rfl 43 3 5 _ rfl [7, 8, 9, 10, 11] Tryd.underlying43 szI5 zeI5 rfl (by decide) (by decide) (by kernel_rfl) ?_; intro bl w' hk hc; have hI' := hI.on hk; clear hI d0 d1 d2 d3 d4 f0 f1 f2 f3 f4 hh hk; have hI := hI'; clear hI'; have hh := hI.h; obtain ⟨d0, d1, d2, d3, d4, f0, f1, f2, f3, f4⟩ := hI.res)
    | (refine wpList_litN 18 rfl rfl 43 3 3 _ rfl [2, 3, 4] Tryd.underlying43 szI5 zeI5 rfl (by decide) (by decide) (by kernel_rfl) ?_; intro bl w' hk hc; have hI' := hI.on hk; clear hI d0 d1 d2 d3 d4 f0 f1 f2 f3 f4 hh hk; have hI := hI'; clear hI'; have hh := hI.h; obtain ⟨d0, d1, d2, d3, d4, f0, f1, f2, f3, f4⟩ := hI.res)
    | (refine wpList_litN 22 rfl rfl 43 3 3 _ rfl [7, 8, 9] Tryd.underlying43 szI5 zeI5 rfl (by decide) (by decide) (by kernel_rfl) ?_; intro bl w' hk hc; have hI' := hI.on hk; clear hI d0 d1 d2 d3 d4 f0 f1 f2 f3 f4 hh hk; have hI := hI'; clear hI'; have hh := hI.h; obtain ⟨d0, d1, d2, d3, d4, f0, f1, f2, f3, f4⟩ := hI.res)
    | (refine wpList_litN 31 rfl rfl 43 3 8 _ rfl [6, 5, 11, 12, 7, 8, 9, 10] Tryd.underlying43 szI5 zeI5 rfl (by decide) (by decide) (by kernel_rfl) ?_; intro bl w' hk hc; have hI' := hI.on hk; clear hI d0 d1 d2 d3 d4 f0 f1 f2 f3 f4 hh hk; have hI := hI'; clear hI'; have hh := hI.h; obtain ⟨d0, d1, d2, d3, d4, f0, f1, f2, f3, f4⟩ := hI.res)
    | (go_at_call 31; refine (plain_walk H hH _ _ _ _ _ rfl (by decide) (by decide) _ hh hc).mono ?_; rintro e w' ⟨rfl, rfl⟩; clear hc))
  have hR := hI.res.put 22 (8 + gL H [2, 3, 4]) 2 0 (4 * gL H [6, 5, 11, 12, 7, 8, 9, 10])
  have hK := below_put hI.kept (b := w.heap.size + 1) (by omega) 22 (8 + gL H [2, 3, 4]) 2 0 (4 * gL H [6, 5, 11, 12, 7, 8, 9, 10])
  refine bodyPost_ret (v := insnV 22 (8 + gL H [2, 3, 4]) 2 0 (4 * gL H [6, 5, 11, 12, 7, 8, 9, 10])) (by simp [results, Tryd.results20, go_sem, hR.c0, hR.c1, hR.c2, hR.c3, hR.c4]) rfl ⟨rfl, hK⟩

set_option maxRecDepth 20000 in
set_option maxHeartbeats 3200000 in
theorem read_9 (H : Nat) (hH : H ≤ 65535) (ht : H &&& 57347 = 16384) (w : World) :
    Calls Tryd.prog 20 #[.int .u32 (H : Int)] w fun e w' => e = .returned (insnV 13 (8 + gL H [2, 3, 4]) (8 + gL H [7, 8, 9]) 0 (4 * gL H [6, 10, 11, 12, 5])) ∧ Kept w w' := by
  have hI := InR.begin w H
  have hX := and_top H hH
  rw [ht] at hX
  have q1 := gL_rng H [2, 3, 4, 5, 6] 32 (by decide)
  have q2 := gL_rng H [7, 8, 9, 10, 11] 32 (by decide)
  have q3 := gL_rng H [2, 3, 4] 8 (by decide)
  have q4 := gL_rng H [7, 8, 9] 8 (by decide)
  have q5 := gL_rng H [6, 10, 11, 12, 5] 32 (by decide)
  have hmf : ∀ (fn : Fn) (first cap : Array Value) (w : World), (Instr.makeFunc fn first cap).run Tryd.prog w = .ok (.func fn first cap) w := fun _ _ _ _ => rfl
  go_enter Tryd.func20, Tryd.ntmps20
  go_upto_region 1 with fail
  generalize ((w.alloc (.cells #[.int .u32 (H : Int)] 41)).alloc (.cells #[.int .u8 0, .int .i64 0, .int .i64 0, .int .i64 0, .int .i64 0] 27)) = W0 at hI ⊢
  have hh := hI.h
  obtain ⟨d0, d1, d2, d3, d4, f0, f1, f2, f3, f4⟩ := hI.res
  go_wp2_with (first
    | (refine wpList_litN 12 rfl rfl 43 3 5 _ rfl [2, 3, 4, 5, 6] Tryd.underlying43 szI5 zeI5 rfl (by decide) (by decide) (by kernel_rfl) ?_; intro bl w' hk hc; have hI' := hI.on hk; clear hI d0 d1 d2 d3 d4 f0 f1 f2 f3 f4 hh hk; have hI := hI'; clear hI'; have hh := hI.h; obtain ⟨d0, d1, d2, d3, d4, f0, f1, f2, f3, f4⟩ := hI.res)
    | (refine wpList_litN 15 rfl rfl 43 3 5 _ rfl [7, 8, 9, 10, 11] Tryd.underlying43 szI5 zeI5 rfl (by decide) (by decide) (by kernel_rfl) ?_; intro bl w' hk hc; have hI' := hI.on hk; clear hI d0 d1 d2 d3 d4 f0 f1 f2 f3 f4 hh hk; have hI := hI'; clear hI'; have hh := hI.h; obtain ⟨d0, d1, d2, d3, d4, f0, f1, f2, f3, f4⟩ := hI.res)
    | (refine wpList_litN 18 rfl rfl 43 3 3 _ rfl [2, 3, 4] Tryd.underlying43 szI5 zeI5 rfl (by decide) (by decide) (by kernel_rfl) ?_; intro bl w' hk hc; have hI' := hI.on hk; clear hI d0 d1 d2 d3 d4 f0 f1 f2 f3 f4 hh hk; have hI := hI'; clear hI'; have hh := hI.h; obtain ⟨d0, d1, d2, d3, d4, f0, f1, f2, f3, f4⟩ := hI.res)
    | (refine wpList_litN 22 rfl rfl 43 3 3 _ rfl [7, 8, 9] Tryd.underlying43 szI5 zeI5 rfl (by decide) (by decide) (by kernel_rfl) ?_; intro bl w' hk hc; have hI' := hI.on hk; clear hI d0 d1 d2 d3 d4 f0 f1 f2 f3 f4 hh hk; have hI := hI'; clear hI'; have hh := hI.h; obtain ⟨d0, d1, d2, d3, d4, f0, f1, f2, f3, f4⟩ := hI.res)
    | (refine wpList_litN 40 rfl rfl 43 3 5 _ rfl [6, 10, 11, 12, 5] Tryd.underlying43 szI5 zeI5 rfl (by decide) (by decide) (by kernel_rfl) ?_; intro bl w' hk hc; have hI' := hI.on hk; clear hI d0 d1 d2 d3 d4 f0 f1 f2 f3 f4 hh hk; have hI := hI'; clear hI'; have hh := hI.h; obtain ⟨d0, d1, d2, d3, d4, f0, f1, f2, f3, f4⟩ := hI.res)
    | (go_at_call 31; refine (plain_walk H hH _ _ _ _ _ rfl (by decide) (by decide) _ hh hc).mono ?_; rintro e w' ⟨rfl, rfl⟩; clear hc))
  have hR := hI.res.put 13 (8 + gL H [2, 3, 4]) (8 + gL H [7, 8, 9]) 0 (4 * gL H [6, 10, 11, 12, 5])
  have hK := below_put hI.kept (b := w.heap.size + 1) (by omega) 13 (8 + gL H [2, 3, 4]) (8 + gL H [7, 8, 9]) 0 (4 * gL H [6, 10, 11, 12, 5])
  refine bodyPost_ret (v := insnV 13 (8 + gL H [2, 3, 4]) (8 + gL H [7, 8, 9]) 0 (4 * gL H [6, 10, 11, 12, 5])) (by simp [results, Tryd.results20, go_sem, hR.c0, hR.c1, hR.c2, hR.c3, hR.c4]) rfl ⟨rfl, hK⟩

set_option maxRecDepth 20000 in
set_option maxHeartbeats 3200000 in
theorem read_11 (H : Nat) (hH : H ≤ 65535) (ht : H &&& 57347 = 24576) (w : World) :
    Calls Tryd.prog 20 #[.int .u32 (H : Int)] w fun e w' => e = .returned (insnV 14 (8 + gL H [2, 3, 4]) (8 + gL H [7, 8, 9]) 0 (8 * gL H [10, 11, 12, 5, 6])) ∧ Kept w w' := by
  have hI := InR.begin w H
  have hX := and_top H hH
  rw [ht] at hX
  have q1 := gL_rng H [2, 3, 4, 5, 6] 32 (by decide)
  have q2 := gL_rng H [7, 8, 9, 10, 11] 32 (by decide)
  have q3 := gL_rng H [2, 3, 4] 8 (by decide)
  have q4 := gL_rng H [7, 8, 9] 8 (by decide)
  have q5 := gL_rng H [10, 11, 12, 5, 6] 32 (by decide)
  have hmf : ∀ (fn : Fn) (first cap : Array Value) (w : World), (Instr.makeFunc fn first cap).run Tryd.prog w = .ok (.func fn first cap) w := fun _ _ _ _ => rfl
  go_enter Tryd.func20, Tryd.ntmps20
  go_upto_region 1 with fail
  generalize ((w.alloc (.cells #[.int .u32 (H : Int)] 41)).alloc (.cells #[.int .u8 0, .int .i64 0, .int .i64 0, .int .i64 0, .int .i64 0] 27)) = W0 at hI ⊢
  have hh := hI.h
  obtain ⟨d0, d1, d2, d3, d4, f0, f1, f2, f3, f4⟩ := hI.res
  go_wp2_with (first
    | (refine wpList_litN 12 rfl rfl 43 3 5 _ rfl [2, 3, 4, 5, 6] Tryd.underlying43 szI5 zeI5 rfl (by decide) (by decide) (by kernel_rfl) ?_; intro bl w' hk hc; have hI' := hI.on hk; clear hI d0 d1 d2 d3 d4 f0 f1 f2 f3 f4 hh hk; have hI := hI'; clear hI'; have hh := hI.h; obtain ⟨d0, d1, d2, d3, d4, f0, f1, f2, f3, f4⟩ := hI.res)
    | (refine wpList_litN 15 rfl rfl 43 3 5 _ rfl [7, 8, 9, 10, 11] Tryd.underlying43 szI5 zeI5 rfl (by decide) (by decide) (by kernel_rfl) ?_; intro bl w' hk hc; have hI' := hI.on hk; clear hI d0 d1 d2 d3 d4 f0 f1 f2 f3 f4 hh hk; have hI := hI'; clear hI'; have hh := hI.h; obtain ⟨d0, d1, d2, d3, d4, f0, f1, f2, f3, f4⟩ := hI.res)
    | (refine wpList_litN 18 rfl rfl 43 3 3 _ rfl [2, 3, 4] Tryd.underlying43 szI5 zeI5 rfl (by decide) (by decide) (by kernel_rfl) ?_; intro bl w' hk hc; have hI' := hI.on hk; clear hI d0 d1 d2 d3 d4 f0 f1 f2 f3 f4 hh hk; have hI := hI'; clear hI'; have hh := hI.h; obtain ⟨d0, d1, d2, d3, d4, f0, f1, f2, f3, f4⟩ := hI.res)
    | (refine wpList_litN 22 rfl rfl 43 3 3 _ rfl [7, 8, 9] Tryd.underlying43 szI5 zeI5 rfl (by decide) (by decide) (by kernel_rfl) ?_; intro bl w' hk hc; have hI' := hI.on hk; clear hI d0 d1 d2 d3 d4 f0 f1 f2 f3 f4 hh hk; have hI := hI'; clear hI'; have hh := hI.h; obtain ⟨d0, d1, d2, d3, d4, f0, f1, f2, f3, f4⟩ := hI.res)
    | (refine wpList_litN 49 rfl rfl 43 3 5 _ rfl [10, 11, 12, 5, 6] Tryd.underlying43 szI5 zeI5 rfl (by decide) (by decide) (by kernel_rfl) ?_; intro bl w' hk hc; have hI' := hI.on hk; clear hI d0 d1 d2 d3 d4 f0 f1 f2 f3 f4 hh hk; have hI := hI'; clear hI'; have hh := hI.h; obtain ⟨d0, d1, d2, d3, d4, f0, f1, f2, f3, f4⟩ := hI.res)
    | (go_at_call 31; refine (plain_walk H hH _ _ _ _ _ rfl (by decide) (by decide) _ hh hc).mono ?_; rintro e w' ⟨rfl, rfl⟩; clear hc))
  have hR := hI.res.put 14 (8 + gL H [2, 3, 4]) (8 + gL H [7, 8, 9]) 0 (8 * gL H [10, 11, 12, 5, 6])
  have hK := below_put hI.kept (b := w.heap.size + 1) (by omega) 14 (8 + gL H [2, 3, 4]) (8 + gL H [7, 8, 9]) 0 (8 * gL H [10, 11, 12, 5, 6])
  refine bodyPost_ret (v := insnV 14 (8 + gL H [2, 3, 4]) (8 + gL H [7, 8, 9]) 0 (8 * gL H [10, 11, 12, 5, 6])) (by simp [results, Tryd.results20, go_sem, hR.c0, hR.c1, hR.c2, hR.c3, hR.c4]) rfl ⟨rfl, hK⟩

set_option maxRecDepth 20000 in
set_option maxHeartbeats 3200000 in
theorem read_13 (H : Nat) (hH : H ≤ 65535) (ht : H &&& 57347 = 49152) (w : World) :
    Calls Tryd.prog 20 #[.int .u32 (H : Int)] w fun e w' => e = .returned (insnV 20 0 (8 + gL H [7, 8, 9]) (8 + gL H [2, 3, 4]) (4 * gL H [6, 10, 11, 12, 5])) ∧ Kept w w' := by
  have hI := InR.begin w H
  have hX := and_top H hH
  rw [ht] at hX
  have q1 := gL_rng H [2, 3, 4, 5, 6] 32 (by decide)
  have q2 := gL_rng H [7, 8, 9, 10, 11] 32 (by decide)
  have q3 := gL_rng H [2, 3, 4] 8 (by decide)
  have q4 := gL_rng H [7, 8, 9] 8 (by decide)
  have q5 := gL_rng H [6, 10, 11, 12, 5] 32 (by decide)
  have hmf : ∀ (fn : Fn) (first cap : Array Value) (w : World), (Instr.makeFunc fn first cap).run Tryd.prog w = .ok (.func fn first cap) w := fun _ _ _ _ => rfl
  go_enter Tryd.func20, Tryd.ntmps20
  go_upto_region 1 with fail
  generalize ((w.alloc (.cells #[.int .u32 (H : Int)] 41)).alloc (.cells #[.int .u8 0, .int .i64 0, .int .i64 0, .int .i64 0, .int .i64 0] 27)) = W0 at hI ⊢
  have hh := hI.h
  obtain ⟨d0, d1, d2, d3, d4, f0, f1, f2, f3, f4⟩ := hI.res
  go_wp2_with (first
    | (refine wpList_litN 12 rfl rfl 43 3 5 _ rfl [2, 3, 4, 5, 6] Tryd.underlying43 szI5 zeI5 rfl (by decide) (by decide) (by kernel_rfl) ?_; intro bl w' hk hc; have hI' := hI.on hk; clear hI d0 d1 d2 d3 d4 f0 f1 f2 f3 f4 hh hk; have hI := hI'; clear hI'; have hh := hI.h; obtain ⟨d0, d1, d2, d3, d4, f0, f1, f2, f3, f4⟩ := hI.res)
    | (refine wpList_litN 15 rfl rfl 43 3 5 _ rfl [7, 8, 9, 10, 11] Tryd.underlying43 szI5 zeI5 rfl (by decide) (by decide) (by kernel_rfl) ?_; intro bl w' hk hc; have hI' := hI.on hk; clear hI d0 d1 d2 d3 d4 f0 f1 f2 f3 f4 hh hk; have hI := hI'; clear hI'; have hh := hI.h; obtain ⟨d0, d1, d2, d3, d4, f0, f1, f2, f3, f4⟩ := hI.res)
    | (refine wpList_litN 18 rfl rfl 43 3 3 _ rfl [2, 3, 4] Tryd.underlying43 szI5 zeI5 rfl (by decide) (by decide) (by kernel_rfl) ?_; intro bl w' hk hc; have hI' := hI.on hk; clear hI d0 d1 d2 d3 d4 f0 f1 f2 f3 f4 hh hk; have hI := hI'; clear hI'; have hh := hI.h; obtain ⟨d0, d1, d2, d3, d4, f0, f1, f2, f3, f4⟩ := hI.res)
    | (refine wpList_litN 22 rfl rfl 43 3 3 _ rfl [7, 8, 9] Tryd.underlying43 szI5 zeI5 rfl (by decide) (by decide) (by kernel_rfl) ?_; intro bl w' hk hc; have hI' := hI.on hk; clear hI d0 d1 d2 d3 d4 f0 f1 f2 f3 f4 hh hk; have hI := hI'; clear hI'; have hh := hI.h; obtain ⟨d0, d1, d2, d3, d4, f0, f1, f2, f3, f4⟩ := hI.res)
    | (refine wpList_litN 58 rfl rfl 43 3 5 _ rfl [6, 10, 11, 12, 5] Tryd.underlying43 szI5 zeI5 rfl (by decide) (by decide) (by kernel_rfl) ?_; intro bl w' hk hc; have hI' := hI.on hk; clear hI d0 d1 d2 d3 d4 f0 f1 f2 f3 f4 hh hk; have hI := hI'; clear hI'; have hh := hI.h; obtain ⟨d0, d1, d2, d3, d4, f0, f1, f2, f3, f4⟩ := hI.res)
    | (go_at_call 31; refine (plain_walk H hH _ _ _ _ _ rfl (by decide) (by decide) _ hh hc).mono ?_; rintro e w' ⟨rfl, rfl⟩; clear hc))
  have hR := hI.res.put 20 0 (8 + gL H [7, 8, 9]) (8 + gL H [2, 3, 4]) (4 * gL H [6, 10, 11, 12, 5])
  have hK := below_put hI.kept (b := w.heap.size + 1) (by omega) 20 0 (8 + gL H [7, 8, 9]) (8 + gL H [2, 3, 4]) (4 * gL H [6, 10, 11, 12, 5])
  refine bodyPost_ret (v := insnV 20 0 (8 + gL H [7, 8, 9]) (8 + gL H [2, 3, 4]) (4 * gL H [6, 10, 11, 12, 5])) (by simp [results, Tryd.results20, go_sem, hR.c0, hR.c1, hR.c2, hR.c3, hR.c4]) rfl ⟨rfl, hK⟩

set_option maxRecDepth 20000 in
set_option maxHeartbeats 3200000 in
theorem read_15 (H : Nat) (hH : H ≤ 65535) (ht : H &&& 57347 = 57344) (w : World) :
    Calls Tryd.prog 20 #[.int .u32 (H : Int)] w fun e w' => e = .returned (insnV 21 0 (8 + gL H [7, 8, 9]) (8 + gL H [2, 3, 4]) (8 * gL H [10, 11, 12, 5, 6])) ∧ Kept w w' := by
  have hI := InR.begin w H
  have hX := and_top H hH
  rw [ht] at hX
  have q1 := gL_rng H [2, 3, 4, 5, 6] 32 (by decide)
  have q2 := gL_rng H [7, 8, 9, 10, 11] 32 (by decide)
  have q3 := gL_rng H [2, 3, 4] 8 (by decide)
  have q4 := gL_rng H [7, 8, 9] 8 (by decide)
  have q5 := gL_rng H [10, 11, 12, 5, 6] 32 (by decide)
  have hmf : ∀ (fn : Fn) (first cap : Array Value) (w : World), (Instr.makeFunc fn first cap).run Tryd.prog w = .ok (.func fn first cap) w := fun _ _ _ _ => rfl
  go_enter Tryd.func20, Tryd.ntmps20
  go_upto_region 1 with fail
  generalize ((w.alloc (.cells #[.int .u32 (H : Int)] 41)).alloc (.cells #[.int .u8 0, .int .i64 0, .int .i64 0, .int .i64 0, .int .i64 0] 27)) = W0 at hI ⊢
  have hh := hI.h
  obtain ⟨d0, d1, d2, d3, d4, f0, f1, f2, f3, f4⟩ := hI.res
  go_wp2_with (first
    | (refine wpList_litN 12 rfl rfl 43 3 5 _ rfl [2, 3, 4, 5, 6] Tryd.underlying43 szI5 zeI5 rfl (by decide) (by decide) (by kernel_rfl) ?_; intro bl w' hk hc; have hI' := hI.on hk; clear hI d0 d1 d2 d3 d4 f0 f1 f2 f3 f4 hh hk; have hI := hI'; clear hI'; have hh := hI.h; obtain ⟨d0, d1, d2, d3, d4, f0, f1, f2, f3, f4⟩ := hI.res)
    | (refine wpList_litN 15 rfl rfl 43 3 5 _ rfl [7, 8, 9, 10, 11] Tryd.underlying43 szI5 zeI5 rfl (by decide) (by decide) (by kernel_rfl) ?_; intro bl w' hk hc; have hI' := hI.on hk; clear hI d0 d1 d2 d3 d4 f0 f1 f2 f3 f4 hh hk; have hI := hI'; clear hI'; have hh := hI.h; obtain ⟨d0, d1, d2, d3, d4, f0, f1, f2, f3, f4⟩ := hI.res)
    | (refine wpList_litN 18 rfl rfl 43 3 3 _ rfl [2, 3, 4] Tryd.underlying43 szI5 zeI5 rfl (by decide) (by decide) (by kernel_rfl) ?_; intro bl w' hk hc; have hI' := hI.on hk; clear hI d0 d1 d2 d3 d4 f0 f1 f2 f3 f4 hh hk; have hI := hI'; clear hI'; have hh := hI.h; obtain ⟨d0, d1, d2, d3, d4, f0, f1, f2, f3, f4⟩ := hI.res)
    | (refine wpList_litN 22 rfl rfl 43 3 3 _ rfl [7, 8, 9] Tryd.underlying43 szI5 zeI5 rfl (by decide) (by decide) (by kernel_rfl) ?_; intro bl w' hk hc; have hI' := hI.on hk; clear hI d0 d1 d2 d3 d4 f0 f1 f2 f3 f4 hh hk; have hI := hI'; clear hI'; have hh := hI.h; obtain ⟨d0, d1, d2, d3, d4, f0, f1, f2, f3, f4⟩ := hI.res)
    | (refine wpList_litN 67 rfl rfl 43 3 5 _ rfl [10, 11, 12, 5, 6] Tryd.underlying43 szI5 zeI5 rfl (by decide) (by decide) (by kernel_rfl) ?_; intro bl w' hk hc; have hI' := hI.on hk; clear hI d0 d1 d2 d3 d4 f0 f1 f2 f3 f4 hh hk; have hI := hI'; clear hI'; have hh := hI.h; obtain ⟨d0, d1, d2, d3, d4, f0, f1, f2, f3, f4⟩ := hI.res)
    | (go_at_call 31; refine (plain_walk H hH _ _ _ _ _ rfl (by decide) (by decide) _ hh hc).mono ?_; rintro e w' ⟨rfl, rfl⟩; clear hc))
  have hR := hI.res.put 21 0 (8 + gL H [7, 8, 9]) (8 + gL H [2, 3, 4]) (8 * gL H [10, 11, 12, 5, 6])
  have hK := below_put hI.kept (b := w.heap.size + 1) (by omega) 21 0 (8 + gL H [7, 8, 9]) (8 + gL H [2, 3, 4]) (8 * gL H [10, 11, 12, 5, 6])
  refine bodyPost_ret (v := insnV 21 0 (8 + gL H [7, 8, 9]) (8 + gL H [2, 3, 4]) (8 * gL H [10, 11, 12, 5, 6])) (by simp [results, Tryd.results20, go_sem, hR.c0, hR.c1, hR.c2, hR.c3, hR.c4]) rfl ⟨rfl, hK⟩

set_option maxRecDepth 20000 in
set_option maxHeartbeats 3200000 in
theorem read_17 (H : Nat) (hH : H ≤ 65535) (ht : H &&& 57347 = 1) (w : World) :
    Calls Tryd.prog 20 #[.int .u32 (H : Int)] w fun e w' => e = .returned (insnV 22 (gL H [7, 8, 9, 10, 11]) (gL H [7, 8, 9, 10, 11]) 0 (gS H [2, 3, 4, 5, 6, 12])) ∧ Kept w w' := by
  have hI := InR.begin w H
  have hX := and_top H hH
  rw [ht] at hX
  have q1 := gL_rng H [2, 3, 4, 5, 6] 32 (by decide)
  have q2 := gL_rng H [7, 8, 9, 10, 11] 32 (by decide)
  have q3 := gL_rng H [2, 3, 4] 8 (by decide)
  have q4 := gL_rng H [7, 8, 9] 8 (by decide)
  have q5 := gS_rng H [2, 3, 4, 5, 6, 12] 64 (by decide)
  have hmf : ∀ (fn : Fn) (first cap : Array Value) (w : World), (Instr.makeFunc fn first cap).run Tryd.prog w = .ok (.func fn first cap) w := fun _ _ _ _ => rfl
  go_enter Tryd.func20, Tryd.ntmps20
  go_upto_region 1 with fail
  generalize ((w.alloc (.cells #[.int .u32 (H : Int)] 41)).alloc (.cells #[.int .u8 0, .int .i64 0, .int .i64 0, .int .i64 0, .int .i64 0] 27)) = W0 at hI ⊢
  have hh := hI.h
  obtain ⟨d0, d1, d2, d3, d4, f0, f1, f2, f3, f4⟩ := hI.res
  go_wp2_with (first
    | (refine wpList_litN 12 rfl rfl 43 3 5 _ rfl [2, 3, 4, 5, 6] Tryd.underlying43 szI5 zeI5 rfl (by decide) (by decide) (by kernel_rfl) ?_; intro bl w' hk hc; have hI' := hI.on hk; clear hI d0 d1 d2 d3 d4 f0 f1 f2 f3 f4 hh hk; have hI := hI'; clear hI'; have hh := hI.h; obtain ⟨d0, d1, d2, d3, d4, f0, f1, f2, f3, f4⟩ := hI.res)
    | (refine wpList_litN 15 rfl rfl 43 3 5 _ rfl [7, 8, 9, 10, 11] Tryd.underlying43 szI5 zeI5 rfl (by decide) (by decide) (by kernel_rfl) ?_; intro bl w' hk hc; have hI' := hI.on hk; clear hI d0 d1 d2 d3 d4 f0 f1 f2 f3 f4 hh hk; have hI := hI'; clear hI'; have hh := hI.h; obtain ⟨d0, d1, d2, d3, d4, f0, f1, f2, f3, f4⟩ := hI.res)
    | (refine wpList_litN 18 rfl rfl 43 3 3 _ rfl [2, 3, 4] Tryd.underlying43 szI5 zeI5 rfl (by decide) (by decide) (by kernel_rfl) ?_; intro bl w' hk hc; have hI' := hI.on hk; clear hI d0 d1 d2 d3 d4 f0 f1 f2 f3 f4 hh hk; have hI := hI'; clear hI'; have hh := hI.h; obtain ⟨d0, d1, d2, d3, d4, f0, f1, f2, f3, f4⟩ := hI.res)
    | (refine wpList_litN 22 rfl rfl 43 3 3 _ rfl [7, 8, 9] Tryd.underlying43 szI5 zeI5 rfl (by decide) (by decide) (by kernel_rfl) ?_; intro bl w' hk hc; have hI' := hI.on hk; clear hI d0 d1 d2 d3 d4 f0 f1 f2 f3 f4 hh hk; have hI := hI'; clear hI'; have hh := hI.h; obtain ⟨d0, d1, d2, d3, d4, f0, f1, f2, f3, f4⟩ := hI.res)
    | (refine wpList_litN 76 rfl rfl 43 3 6 _ rfl [2, 3, 4, 5, 6, 12] Tryd.underlying43 szI5 zeI5 rfl (by decide) (by decide) (by kernel_rfl) ?_; intro bl w' hk hc; have hI' := hI.on hk; clear hI d0 d1 d2 d3 d4 f0 f1 f2 f3 f4 hh hk; have hI := hI'; clear hI'; have hh := hI.h; obtain ⟨d0, d1, d2, d3, d4, f0, f1, f2, f3, f4⟩ := hI.res)
    | (go_at_call 31; refine (plain_walk H hH _ _ _ _ _ rfl (by decide) (by decide) _ hh hc).mono ?_; rintro e w' ⟨rfl, rfl⟩; clear hc)
    | (go_at_call 33; refine (signed_walk H hH _ _ _ _ _ rfl (by decide) (by decide) (by decide) _ hh hc).mono ?_; rintro e w' ⟨rfl, hk⟩; clear hc; have hI' := hI.on hk; clear hI d0 d1 d2 d3 d4 f0 f1 f2 f3 f4 hh hk; have hI := hI'; clear hI'; have hh := hI.h; obtain ⟨d0, d1, d2, d3, d4, f0, f1, f2, f3, f4⟩ := hI.res))
  have hR := hI.res.put 22 (gL H [7, 8, 9, 10, 11]) (gL H [7, 8, 9, 10, 11]) 0 (gS H [2, 3, 4, 5, 6, 12])
  have hK := below_put hI.kept (b := w.heap.size + 1) (by omega) 22 (gL H [7, 8, 9, 10, 11]) (gL H [7, 8, 9, 10, 11]) 0 (gS H [2, 3, 4, 5, 6, 12])
  refine bodyPost_ret (v := insnV 22 (gL H [7, 8, 9, 10, 11]) (gL H [7, 8, 9, 10, 11]) 0 (gS H [2, 3, 4, 5, 6, 12])) (by simp [results, Tryd.results20, go_sem, hR.c0, hR.c1, hR.c2, hR.c3, hR.c4]) rfl ⟨rfl, hK⟩

end Go.Proofs.YtbmcanpjpibecaaDoor
