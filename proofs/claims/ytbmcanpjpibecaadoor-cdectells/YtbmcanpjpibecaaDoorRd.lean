/- What cdec.read reads: the cases that it hands on, and what is like no row. What cdec.read reads: the cases that it hands on, and what is like no row. cdec.readWhole. -/
import Derived.Test.YtbmcanpjpibecaaDoorCr
import Derived.Deep.DeepCutAuto
namespace Go.Proofs.YtbmcanpjpibecaaDoor
open Go.RowKit

set_option maxRecDepth 20000 in
set_option maxHeartbeats 3200000 in
theorem read_23 (H : Nat) (hH : H ≤ 65535) (ht : H &&& 57347 = 24577) (op d s t imm : Int) (hU : ∀ b w, w.cell? ⟨b, 0, none⟩ = some (.int .u32 (H : Int)) → Calls Tryd.prog 35 #[.int .i64 (gL H [7, 8, 9, 10, 11]), .func (.func 33) #[] #[.pointer (some ⟨b, 0, none⟩)]] w fun e w' => e = .returned (insnV op d s t imm) ∧ Kept w w') (w : World) :
    Calls Tryd.prog 20 #[.int .u32 (H : Int)] w fun e w' => e = .returned (insnV op d s t imm) ∧ Kept w w' := by
  have hI := InR.begin w H
  have hX := and_top H hH
  rw [ht] at hX
  have q1 := gL_rng H [2, 3, 4, 5, 6] 32 (by decide)
  have q2 := gL_rng H [7, 8, 9, 10, 11] 32 (by decide)
  have q3 := gL_rng H [2, 3, 4] 8 (by decide)
  have q4 := gL_rng H [7, 8, 9] 8 (by decide)
  have hmf : ∀ (fn : Fn) (first cap : Array Value) (w : World), (Instr.makeFunc fn first cap).run Tryd.prog w = .ok (.func fn first cap) w := fun _ _ _ _ => rfl
  go_enter Tryd.func20, Tryd.ntmps20
  go_upto_region 1 with fail
  generalize ((w.alloc (.cells #[.int .u32 (H : Int)] 41)).alloc (.cells #[.int .u8 0, .int .i64 0, .int .i64 0, .int .i64 0, .int .i64 0] 27)) = W0 at hI ⊢
  have hh := hI.h
  obtain ⟨d0, d1, d2, d3, d4, f0, f1, f2, f3, f4⟩ := hI.res
  go_wp2_with (first
    | (refine wpList_litN 12 rfl rfl 43 3 5 _ rfl [2, 3, 4, 5, 6] Tryd.underlying43 szI5 zeI5 rfl (by decide) (by decide) (by kernel_rfl) ?_; intro bl w' hk hc; have hI' := hI.on hk; clear hI d0 d1 d2 d3 d4 f0 f1 f2 f3 f4 hh hk; have hI := hI'; clear hI'; have hh := hI.h; obtain ⟨d0, d1, d2, d3, d4, f0, f1, f2, f3, f4⟩ := hI.res)
    | (refine wpList_litN 15 rfl rfl 43 3 5 _ rfl [7, 8, 9, 10, 11] Tryd.underlying43 szI5 zeI5 rfl (by decide) (by decide) (by kernel_rfl) ?_; intro bl w' hk hc; have hI' := hI.on hk; clear hI d0 d1 d2 d3 d4 f0 f1 f2 f3 f4 hh hk; have hI := hI'; clear hI'; have hh := hI.h; obtain ⟨d0, d1, d2, d3, d4, f0, f1, f2, f3, f4⟩ := hI.res)
    | (refine wpList_litN 18 rfl rfl 43 3 3 _ rfl [2, 3, 4] Tryd.underlying43 szI5 zeI5 rfl (by decide) (by decide) (by kernel_rfl) ?_; intro bl w' hk hc; have hI' := hI.on hk; clear hI d0 d1 d2 d3 d4 f0 f1 f2 f3 f4 hh hk; have hI := hI'; clear hI'; have hh := hI.h; obtain ⟨d0, d1, d2, d3, d4, f0, f1, f2, f3, f4⟩ := hI.res)
    | (refine wpList_litN 22 rfl rfl 43 3 3 _ rfl [7, 8, 9] Tryd.underlying43 szI5 zeI5 rfl (by decide) (by decide) (by kernel_rfl) ?_; intro bl w' hk hc; have hI' := hI.on hk; clear hI d0 d1 d2 d3 d4 f0 f1 f2 f3 f4 hh hk; have hI := hI'; clear hI'; have hh := hI.h; obtain ⟨d0, d1, d2, d3, d4, f0, f1, f2, f3, f4⟩ := hI.res)
    | (go_at_call 31; refine (plain_walk H hH _ _ _ _ _ rfl (by decide) (by decide) _ hh hc).mono ?_; rintro e w' ⟨rfl, rfl⟩; clear hc)
    | (go_at_call 35; refine (hU _ _ hh).mono ?_; rintro e w' ⟨rfl, hk⟩; have hI' := hI.on hk; clear hI d0 d1 d2 d3 d4 f0 f1 f2 f3 f4 hh hk; have hI := hI'; clear hI'; have hh := hI.h; obtain ⟨d0, d1, d2, d3, d4, f0, f1, f2, f3, f4⟩ := hI.res))
  have hR := hI.res.put op d s t imm
  have hK := below_put hI.kept (b := w.heap.size + 1) (by omega) op d s t imm
  refine bodyPost_ret (v := insnV op d s t imm) (by simp [results, Tryd.results20, go_sem, hR.c0, hR.c1, hR.c2, hR.c3, hR.c4]) rfl ⟨rfl, hK⟩

set_option maxRecDepth 20000 in
set_option maxHeartbeats 3200000 in
theorem read_25 (H : Nat) (hH : H ≤ 65535) (ht : H &&& 57347 = 32769) (op d s t imm : Int) (W1 : World) (hU : ∀ b w, w.cell? ⟨b, 0, none⟩ = some (.int .u32 (H : Int)) → Kept W1 w → Calls Tryd.prog 36 #[.func (.func 31) #[] #[.pointer (some ⟨b, 0, none⟩)], .func (.func 33) #[] #[.pointer (some ⟨b, 0, none⟩)]] w fun e w' => e = .returned (insnV op d s t imm) ∧ Kept w w') (w : World) (hW1 : Kept W1 w) :
    Calls Tryd.prog 20 #[.int .u32 (H : Int)] w fun e w' => e = .returned (insnV op d s t imm) ∧ Kept w w' := by
  have hI := InR.begin w H
  have hX := and_top H hH
  rw [ht] at hX
  have q1 := gL_rng H [2, 3, 4, 5, 6] 32 (by decide)
  have q2 := gL_rng H [7, 8, 9, 10, 11] 32 (by decide)
  have q3 := gL_rng H [2, 3, 4] 8 (by decide)
  have q4 := gL_rng H [7, 8, 9] 8 (by decide)
  have hmf : ∀ (fn : Fn) (first cap : Array Value) (w : World), (Instr.makeFunc fn first cap).run Tryd.prog w = .ok (.func fn first cap) w := fun _ _ _ _ => rfl
  go_enter Tryd.func20, Tryd.ntmps20
  go_upto_region 1 with fail
  generalize ((w.alloc (.cells #[.int .u32 (H : Int)] 41)).alloc (.cells #[.int .u8 0, .int .i64 0, .int .i64 0, .int .i64 0, .int .i64 0] 27)) = W0 at hI ⊢
  have hh := hI.h
  obtain ⟨d0, d1, d2, d3, d4, f0, f1, f2, f3, f4⟩ := hI.res
  go_wp2_with (first
    | (refine wpList_litN 12 rfl rfl 43 3 5 _ rfl [2, 3, 4, 5, 6] Tryd.underlying43 szI5 zeI5 rfl (by decide) (by decide) (by kernel_rfl) ?_; intro bl w' hk hc; have hI' := hI.on hk; clear hI d0 d1 d2 d3 d4 f0 f1 f2 f3 f4 hh hk; have hI := hI'; clear hI'; have hh := hI.h; obtain ⟨d0, d1, d2, d3, d4, f0, f1, f2, f3, f4⟩ := hI.res)
    | (refine wpList_litN 15 rfl rfl 43 3 5 _ rfl [7, 8, 9, 10, 11] Tryd.underlying43 szI5 zeI5 rfl (by decide) (by decide) (by kernel_rfl) ?_; intro bl w' hk hc; have hI' := hI.on hk; clear hI d0 d1 d2 d3 d4 f0 f1 f2 f3 f4 hh hk; have hI := hI'; clear hI'; have hh := hI.h; obtain ⟨d0, d1, d2, d3, d4, f0, f1, f2, f3, f4⟩ := hI.res)
    | (refine wpList_litN 18 rfl rfl 43 3 3 _ rfl [2, 3, 4] Tryd.underlying43 szI5 zeI5 rfl (by decide) (by decide) (by kernel_rfl) ?_; intro bl w' hk hc; have hI' := hI.on hk; clear hI d0 d1 d2 d3 d4 f0 f1 f2 f3 f4 hh hk; have hI := hI'; clear hI'; have hh := hI.h; obtain ⟨d0, d1, d2, d3, d4, f0, f1, f2, f3, f4⟩ := hI.res)
    | (refine wpList_litN 22 rfl rfl 43 3 3 _ rfl [7, 8, 9] Tryd.underlying43 szI5 zeI5 rfl (by decide) (by decide) (by kernel_rfl) ?_; intro bl w' hk hc; have hI' := hI.on hk; clear hI d0 d1 d2 d3 d4 f0 f1 f2 f3 f4 hh hk; have hI := hI'; clear hI'; have hh := hI.h; obtain ⟨d0, d1, d2, d3, d4, f0, f1, f2, f3, f4⟩ := hI.res)
    | (go_at_call 31; refine (plain_walk H hH _ _ _ _ _ rfl (by decide) (by decide) _ hh hc).mono ?_; rintro e w' ⟨rfl, rfl⟩; clear hc)
    | (go_at_call 36; refine (hU _ _ hh (hW1.trans hI.kept)).mono ?_; rintro e w' ⟨rfl, hk⟩; have hI' := hI.on hk; clear hI d0 d1 d2 d3 d4 f0 f1 f2 f3 f4 hh hk; have hI := hI'; clear hI'; have hh := hI.h; obtain ⟨d0, d1, d2, d3, d4, f0, f1, f2, f3, f4⟩ := hI.res))
  have hR := hI.res.put op d s t imm
  have hK := below_put hI.kept (b := w.heap.size + 1) (by omega) op d s t imm
  refine bodyPost_ret (v := insnV op d s t imm) (by simp [results, Tryd.results20, go_sem, hR.c0, hR.c1, hR.c2, hR.c3, hR.c4]) rfl ⟨rfl, hK⟩

set_option maxRecDepth 20000 in
set_option maxHeartbeats 3200000 in
theorem read_39 (H : Nat) (hH : H ≤ 65535) (ht : H &&& 57347 = 32770) (op d s t imm : Int) (hU : ∀ w, Calls Tryd.prog 37 #[.int .i64 (gL H [2, 3, 4, 5, 6]), .int .i64 (gL H [7, 8, 9, 10, 11]), .int .i64 (gL H [12])] w fun e w' => e = .returned (insnV op d s t imm) ∧ Kept w w') (w : World) :
    Calls Tryd.prog 20 #[.int .u32 (H : Int)] w fun e w' => e = .returned (insnV op d s t imm) ∧ Kept w w' := by
  have hI := InR.begin w H
  have hX := and_top H hH
  rw [ht] at hX
  have q1 := gL_rng H [2, 3, 4, 5, 6] 32 (by decide)
  have q2 := gL_rng H [7, 8, 9, 10, 11] 32 (by decide)
  have q3 := gL_rng H [2, 3, 4] 8 (by decide)
  have q4 := gL_rng H [7, 8, 9] 8 (by decide)
  have hmf : ∀ (fn : Fn) (first cap : Array Value) (w : World), (Instr.makeFunc fn first cap).run Tryd.prog w = .ok (.func fn first cap) w := fun _ _ _ _ => rfl
  go_enter Tryd.func20, Tryd.ntmps20
  go_upto_region 1 with fail
  generalize ((w.alloc (.cells #[.int .u32 (H : Int)] 41)).alloc (.cells #[.int .u8 0, .int .i64 0, .int .i64 0, .int .i64 0, .int .i64 0] 27)) = W0 at hI ⊢
  have hh := hI.h
  obtain ⟨d0, d1, d2, d3, d4, f0, f1, f2, f3, f4⟩ := hI.res
  go_wp2_with (first
    | (refine wpList_litN 12 rfl rfl 43 3 5 _ rfl [2, 3, 4, 5, 6] Tryd.underlying43 szI5 zeI5 rfl (by decide) (by decide) (by kernel_rfl) ?_; intro bl w' hk hc; have hI' := hI.on hk; clear hI d0 d1 d2 d3 d4 f0 f1 f2 f3 f4 hh hk; have hI := hI'; clear hI'; have hh := hI.h; obtain ⟨d0, d1, d2, d3, d4, f0, f1, f2, f3, f4⟩ := hI.res)
    | (refine wpList_litN 15 rfl rfl 43 3 5 _ rfl [7, 8, 9, 10, 11] Tryd.underlying43 szI5 zeI5 rfl (by decide) (by decide) (by kernel_rfl) ?_; intro bl w' hk hc; have hI' := hI.on hk; clear hI d0 d1 d2 d3 d4 f0 f1 f2 f3 f4 hh hk; have hI := hI'; clear hI'; have hh := hI.h; obtain ⟨d0, d1, d2, d3, d4, f0, f1, f2, f3, f4⟩ := hI.res)
    | (refine wpList_litN 18 rfl rfl 43 3 3 _ rfl [2, 3, 4] Tryd.underlying43 szI5 zeI5 rfl (by decide) (by decide) (by kernel_rfl) ?_; intro bl w' hk hc; have hI' := hI.on hk; clear hI d0 d1 d2 d3 d4 f0 f1 f2 f3 f4 hh hk; have hI := hI'; clear hI'; have hh := hI.h; obtain ⟨d0, d1, d2, d3, d4, f0, f1, f2, f3, f4⟩ := hI.res)
    | (refine wpList_litN 22 rfl rfl 43 3 3 _ rfl [7, 8, 9] Tryd.underlying43 szI5 zeI5 rfl (by decide) (by decide) (by kernel_rfl) ?_; intro bl w' hk hc; have hI' := hI.on hk; clear hI d0 d1 d2 d3 d4 f0 f1 f2 f3 f4 hh hk; have hI := hI'; clear hI'; have hh := hI.h; obtain ⟨d0, d1, d2, d3, d4, f0, f1, f2, f3, f4⟩ := hI.res)
    | (refine wpList_litN 156 rfl rfl 43 3 1 _ rfl [12] Tryd.underlying43 szI5 zeI5 rfl (by decide) (by decide) (by kernel_rfl) ?_; intro bl w' hk hc; have hI' := hI.on hk; clear hI d0 d1 d2 d3 d4 f0 f1 f2 f3 f4 hh hk; have hI := hI'; clear hI'; have hh := hI.h; obtain ⟨d0, d1, d2, d3, d4, f0, f1, f2, f3, f4⟩ := hI.res)
    | (go_at_call 31; refine (plain_walk H hH _ _ _ _ _ rfl (by decide) (by decide) _ hh hc).mono ?_; rintro e w' ⟨rfl, rfl⟩; clear hc)
    | (go_at_call 37; refine (hU _).mono ?_; rintro e w' ⟨rfl, hk⟩; have hI' := hI.on hk; clear hI d0 d1 d2 d3 d4 f0 f1 f2 f3 f4 hh hk; have hI := hI'; clear hI'; have hh := hI.h; obtain ⟨d0, d1, d2, d3, d4, f0, f1, f2, f3, f4⟩ := hI.res))
  have hR := hI.res.put op d s t imm
  have hK := below_put hI.kept (b := w.heap.size + 1) (by omega) op d s t imm
  refine bodyPost_ret (v := insnV op d s t imm) (by simp [results, Tryd.results20, go_sem, hR.c0, hR.c1, hR.c2, hR.c3, hR.c4]) rfl ⟨rfl, hK⟩

set_option maxRecDepth 20000 in
set_option maxHeartbeats 3200000 in
theorem read_44 (H : Nat) (hH : H ≤ 65535) (ht : ¬ (H &&& 57347) ∈ ([0, 16384, 24576, 49152, 57344, 1, 8193, 16385, 24577, 32769, 40961, 49153, 57345, 2, 16386, 24578, 32770, 49154, 57346] : List Nat))  (w : World) :
    Calls Tryd.prog 20 #[.int .u32 (H : Int)] w fun e w' => e = .returned (insnV 0 0 0 0 0) ∧ Kept w w' := by
  have hI := InR.begin w H
  have hX := and_top H hH
  generalize hx : ((H &&& 57347 : Nat) : Int) = x at hX
  have n0 : (x == 0) = false := by rw [← hx]; exact beq_eq_false_iff_ne.2 fun e => ht (by rw [show H &&& 57347 = 0 by omega]; decide)
  have n16384 : (x == 16384) = false := by rw [← hx]; exact beq_eq_false_iff_ne.2 fun e => ht (by rw [show H &&& 57347 = 16384 by omega]; decide)
  have n24576 : (x == 24576) = false := by rw [← hx]; exact beq_eq_false_iff_ne.2 fun e => ht (by rw [show H &&& 57347 = 24576 by omega]; decide)
  have n49152 : (x == 49152) = false := by rw [← hx]; exact beq_eq_false_iff_ne.2 fun e => ht (by rw [show H &&& 57347 = 49152 by omega]; decide)
  have n57344 : (x == 57344) = false := by rw [← hx]; exact beq_eq_false_iff_ne.2 fun e => ht (by rw [show H &&& 57347 = 57344 by omega]; decide)
  have n1 : (x == 1) = false := by rw [← hx]; exact beq_eq_false_iff_ne.2 fun e => ht (by rw [show H &&& 57347 = 1 by omega]; decide)
  have n8193 : (x == 8193) = false := by rw [← hx]; exact beq_eq_false_iff_ne.2 fun e => ht (by rw [show H &&& 57347 = 8193 by omega]; decide)
  have n16385 : (x == 16385) = false := by rw [← hx]; exact beq_eq_false_iff_ne.2 fun e => ht (by rw [show H &&& 57347 = 16385 by omega]; decide)
  have n24577 : (x == 24577) = false := by rw [← hx]; exact beq_eq_false_iff_ne.2 fun e => ht (by rw [show H &&& 57347 = 24577 by omega]; decide)
  have n32769 : (x == 32769) = false := by rw [← hx]; exact beq_eq_false_iff_ne.2 fun e => ht (by rw [show H &&& 57347 = 32769 by omega]; decide)
  have n40961 : (x == 40961) = false := by rw [← hx]; exact beq_eq_false_iff_ne.2 fun e => ht (by rw [show H &&& 57347 = 40961 by omega]; decide)
  have n49153 : (x == 49153) = false := by rw [← hx]; exact beq_eq_false_iff_ne.2 fun e => ht (by rw [show H &&& 57347 = 49153 by omega]; decide)
  have n57345 : (x == 57345) = false := by rw [← hx]; exact beq_eq_false_iff_ne.2 fun e => ht (by rw [show H &&& 57347 = 57345 by omega]; decide)
  have n2 : (x == 2) = false := by rw [← hx]; exact beq_eq_false_iff_ne.2 fun e => ht (by rw [show H &&& 57347 = 2 by omega]; decide)
  have n16386 : (x == 16386) = false := by rw [← hx]; exact beq_eq_false_iff_ne.2 fun e => ht (by rw [show H &&& 57347 = 16386 by omega]; decide)
  have n24578 : (x == 24578) = false := by rw [← hx]; exact beq_eq_false_iff_ne.2 fun e => ht (by rw [show H &&& 57347 = 24578 by omega]; decide)
  have n32770 : (x == 32770) = false := by rw [← hx]; exact beq_eq_false_iff_ne.2 fun e => ht (by rw [show H &&& 57347 = 32770 by omega]; decide)
  have n49154 : (x == 49154) = false := by rw [← hx]; exact beq_eq_false_iff_ne.2 fun e => ht (by rw [show H &&& 57347 = 49154 by omega]; decide)
  have n57346 : (x == 57346) = false := by rw [← hx]; exact beq_eq_false_iff_ne.2 fun e => ht (by rw [show H &&& 57347 = 57346 by omega]; decide)
  clear hx
  have q1 := gL_rng H [2, 3, 4, 5, 6] 32 (by decide)
  have q2 := gL_rng H [7, 8, 9, 10, 11] 32 (by decide)
  have q3 := gL_rng H [2, 3, 4] 8 (by decide)
  have q4 := gL_rng H [7, 8, 9] 8 (by decide)
  have hmf : ∀ (fn : Fn) (first cap : Array Value) (w : World), (Instr.makeFunc fn first cap).run Tryd.prog w = .ok (.func fn first cap) w := fun _ _ _ _ => rfl
  go_enter Tryd.func20, Tryd.ntmps20
  go_upto_region 1 with fail
  generalize ((w.alloc (.cells #[.int .u32 (H : Int)] 41)).alloc (.cells #[.int .u8 0, .int .i64 0, .int .i64 0, .int .i64 0, .int .i64 0] 27)) = W0 at hI ⊢
  have hh := hI.h
  obtain ⟨d0, d1, d2, d3, d4, f0, f1, f2, f3, f4⟩ := hI.res
  go_wp2_with (first
    | (refine wpList_litN 12 rfl rfl 43 3 5 _ rfl [2, 3, 4, 5, 6] Tryd.underlying43 szI5 zeI5 rfl (by decide) (by decide) (by kernel_rfl) ?_; intro bl w' hk hc; have hI' := hI.on hk; clear hI d0 d1 d2 d3 d4 f0 f1 f2 f3 f4 hh hk; have hI := hI'; clear hI'; have hh := hI.h; obtain ⟨d0, d1, d2, d3, d4, f0, f1, f2, f3, f4⟩ := hI.res)
    | (refine wpList_litN 15 rfl rfl 43 3 5 _ rfl [7, 8, 9, 10, 11] Tryd.underlying43 szI5 zeI5 rfl (by decide) (by decide) (by kernel_rfl) ?_; intro bl w' hk hc; have hI' := hI.on hk; clear hI d0 d1 d2 d3 d4 f0 f1 f2 f3 f4 hh hk; have hI := hI'; clear hI'; have hh := hI.h; obtain ⟨d0, d1, d2, d3, d4, f0, f1, f2, f3, f4⟩ := hI.res)
    | (refine wpList_litN 18 rfl rfl 43 3 3 _ rfl [2, 3, 4] Tryd.underlying43 szI5 zeI5 rfl (by decide) (by decide) (by kernel_rfl) ?_; intro bl w' hk hc; have hI' := hI.on hk; clear hI d0 d1 d2 d3 d4 f0 f1 f2 f3 f4 hh hk; have hI := hI'; clear hI'; have hh := hI.h; obtain ⟨d0, d1, d2, d3, d4, f0, f1, f2, f3, f4⟩ := hI.res)
    | (refine wpList_litN 22 rfl rfl 43 3 3 _ rfl [7, 8, 9] Tryd.underlying43 szI5 zeI5 rfl (by decide) (by decide) (by kernel_rfl) ?_; intro bl w' hk hc; have hI' := hI.on hk; clear hI d0 d1 d2 d3 d4 f0 f1 f2 f3 f4 hh hk; have hI := hI'; clear hI'; have hh := hI.h; obtain ⟨d0, d1, d2, d3, d4, f0, f1, f2, f3, f4⟩ := hI.res)
    | (go_at_call 31; refine (plain_walk H hH _ _ _ _ _ rfl (by decide) (by decide) _ hh hc).mono ?_; rintro e w' ⟨rfl, rfl⟩; clear hc))
  have hR := hI.res.put 0 0 0 0 0
  have hK := below_put hI.kept (b := w.heap.size + 1) (by omega) 0 0 0 0 0
  refine bodyPost_ret (v := insnV 0 0 0 0 0) (by simp [results, Tryd.results20, go_sem, hR.c0, hR.c1, hR.c2, hR.c3, hR.c4]) rfl ⟨rfl, hK⟩

set_option maxRecDepth 20000 in
set_option maxHeartbeats 3200000 in
theorem whole_a (low high fu : Int) (hl : low = 0) (hf : fu = 0) (w : World) :
    Calls Tryd.prog 37 #[.int .i64 low, .int .i64 high, .int .i64 fu] w fun e w' => e = .returned (insnV 4 0 high 0 0) ∧ Kept w w' := by
  have hI := Box.make w 0 0 0 0 0
  have hK0 := Kept.alloc w (.cells #[.int .u8 0, .int .i64 0, .int .i64 0, .int .i64 0, .int .i64 0] 27)
  subst hl hf
  go_enter Tryd.func37, Tryd.ntmps37
  go_upto_region 1 with fail
  generalize (w.alloc (.cells #[.int .u8 0, .int .i64 0, .int .i64 0, .int .i64 0, .int .i64 0] 27)) = W0 at hI hK0 ⊢
  have hB := hI
  obtain ⟨d0, d1, d2, d3, d4, f0, f1, f2, f3, f4⟩ := hI
  go_wp2
  have hR := hB.put 4 0 high 0 0
  have hK := below_put hK0 (b := w.heap.size) (by omega) 4 0 high 0 0
  refine bodyPost_ret (v := insnV 4 0 high 0 0) (by simp [results, Tryd.results37, go_sem, hR.c0, hR.c1, hR.c2, hR.c3, hR.c4]) rfl ⟨rfl, hK⟩

set_option maxRecDepth 20000 in
set_option maxHeartbeats 3200000 in
theorem whole_b (low high fu : Int) (hl : low = 0) (hh : high = 0) (h_fu : ¬ fu = 0) (w : World) :
    Calls Tryd.prog 37 #[.int .i64 low, .int .i64 high, .int .i64 fu] w fun e w' => e = .returned (insnV 66 0 0 0 0) ∧ Kept w w' := by
  have hI := Box.make w 0 0 0 0 0
  have hK0 := Kept.alloc w (.cells #[.int .u8 0, .int .i64 0, .int .i64 0, .int .i64 0, .int .i64 0] 27)
  subst hl hh
  have n_fu : (fu == 0) = false := by simpa using h_fu
  go_enter Tryd.func37, Tryd.ntmps37
  go_upto_region 1 with fail
  generalize (w.alloc (.cells #[.int .u8 0, .int .i64 0, .int .i64 0, .int .i64 0, .int .i64 0] 27)) = W0 at hI hK0 ⊢
  have hB := hI
  obtain ⟨d0, d1, d2, d3, d4, f0, f1, f2, f3, f4⟩ := hI
  go_wp2
  have hR := hB.put 66 0 0 0 0
  have hK := below_put hK0 (b := w.heap.size) (by omega) 66 0 0 0 0
  refine bodyPost_ret (v := insnV 66 0 0 0 0) (by simp [results, Tryd.results37, go_sem, hR.c0, hR.c1, hR.c2, hR.c3, hR.c4]) rfl ⟨rfl, hK⟩

set_option maxRecDepth 20000 in
set_option maxHeartbeats 3200000 in
theorem whole_c (low high fu : Int) (hl : low = 0) (h_high : ¬ high = 0) (h_fu : ¬ fu = 0) (w : World) :
    Calls Tryd.prog 37 #[.int .i64 low, .int .i64 high, .int .i64 fu] w fun e w' => e = .returned (insnV 4 1 high 0 0) ∧ Kept w w' := by
  have hI := Box.make w 0 0 0 0 0
  have hK0 := Kept.alloc w (.cells #[.int .u8 0, .int .i64 0, .int .i64 0, .int .i64 0, .int .i64 0] 27)
  subst hl
  have n_fu : (fu == 0) = false := by simpa using h_fu
  have n_high : (high == 0) = false := by simpa using h_high
  go_enter Tryd.func37, Tryd.ntmps37
  go_upto_region 1 with fail
  generalize (w.alloc (.cells #[.int .u8 0, .int .i64 0, .int .i64 0, .int .i64 0, .int .i64 0] 27)) = W0 at hI hK0 ⊢
  have hB := hI
  obtain ⟨d0, d1, d2, d3, d4, f0, f1, f2, f3, f4⟩ := hI
  go_wp2
  have hR := hB.put 4 1 high 0 0
  have hK := below_put hK0 (b := w.heap.size) (by omega) 4 1 high 0 0
  refine bodyPost_ret (v := insnV 4 1 high 0 0) (by simp [results, Tryd.results37, go_sem, hR.c0, hR.c1, hR.c2, hR.c3, hR.c4]) rfl ⟨rfl, hK⟩

set_option maxRecDepth 20000 in
set_option maxHeartbeats 3200000 in
theorem whole_d (low high fu : Int) (h_low : ¬ low = 0) (hf : fu = 0) (w : World) :
    Calls Tryd.prog 37 #[.int .i64 low, .int .i64 high, .int .i64 fu] w fun e w' => e = .returned (insnV 31 high 0 low 0) ∧ Kept w w' := by
  have hI := Box.make w 0 0 0 0 0
  have hK0 := Kept.alloc w (.cells #[.int .u8 0, .int .i64 0, .int .i64 0, .int .i64 0, .int .i64 0] 27)
  subst hf
  have n_low : (low == 0) = false := by simpa using h_low
  go_enter Tryd.func37, Tryd.ntmps37
  go_upto_region 1 with fail
  generalize (w.alloc (.cells #[.int .u8 0, .int .i64 0, .int .i64 0, .int .i64 0, .int .i64 0] 27)) = W0 at hI hK0 ⊢
  have hB := hI
  obtain ⟨d0, d1, d2, d3, d4, f0, f1, f2, f3, f4⟩ := hI
  go_wp2
  have hR := hB.put 31 high 0 low 0
  have hK := below_put hK0 (b := w.heap.size) (by omega) 31 high 0 low 0
  refine bodyPost_ret (v := insnV 31 high 0 low 0) (by simp [results, Tryd.results37, go_sem, hR.c0, hR.c1, hR.c2, hR.c3, hR.c4]) rfl ⟨rfl, hK⟩

set_option maxRecDepth 20000 in
set_option maxHeartbeats 3200000 in
theorem whole_e (low high fu : Int) (h_low : ¬ low = 0) (h_fu : ¬ fu = 0) (w : World) :
    Calls Tryd.prog 37 #[.int .i64 low, .int .i64 high, .int .i64 fu] w fun e w' => e = .returned (insnV 31 high high low 0) ∧ Kept w w' := by
  have hI := Box.make w 0 0 0 0 0
  have hK0 := Kept.alloc w (.cells #[.int .u8 0, .int .i64 0, .int .i64 0, .int .i64 0, .int .i64 0] 27)
  have n_low : (low == 0) = false := by simpa using h_low
  have n_fu : (fu == 0) = false := by simpa using h_fu
  go_enter Tryd.func37, Tryd.ntmps37
  go_upto_region 1 with fail
  generalize (w.alloc (.cells #[.int .u8 0, .int .i64 0, .int .i64 0, .int .i64 0, .int .i64 0] 27)) = W0 at hI hK0 ⊢
  have hB := hI
  obtain ⟨d0, d1, d2, d3, d4, f0, f1, f2, f3, f4⟩ := hI
  go_wp2
  have hR := hB.put 31 high high low 0
  have hK := below_put hK0 (b := w.heap.size) (by omega) 31 high high low 0
  refine bodyPost_ret (v := insnV 31 high high low 0) (by simp [results, Tryd.results37, go_sem, hR.c0, hR.c1, hR.c2, hR.c3, hR.c4]) rfl ⟨rfl, hK⟩
end Go.Proofs.YtbmcanpjpibecaaDoor
