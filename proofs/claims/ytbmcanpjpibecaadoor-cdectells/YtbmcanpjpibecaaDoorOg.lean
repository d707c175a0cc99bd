/- The document's own Of, over what its callees give. -/
import Derived.Test.YtbmcanpjpibecaaDoorBx
import Derived.Test.YtbmcanpjpibecaaDoorDm
import Derived.Deep.DeepCutAuto
namespace Go.Proofs.YtbmcanpjpibecaaDoor
open Go.RowKit

theorem i64_wrap_id {m : Int} (h0 : 0 ≤ m) (h1 : m ≤ 65535) : IntKind.i64.wrap m = m := by
  simp [IntKind.wrap, IntKind.bits, IntKind.signed]
  omega
/-- What lies there behind Of's first statement: the row, and the room for the result. -/
structure InOf (W w : World) (nv fv : ByteArray) (kd : UInt8) (bi by_ : Int) (a : Option Addr) (len cap : Nat) : Prop where
  kept : Kept W w
  r0 : w.cell? ⟨W.heap.size, 0, none⟩ = some (.string nv)
  r1 : w.cell? ⟨W.heap.size, 1, none⟩ = some (.int .i64 bi)
  r2 : w.cell? ⟨W.heap.size, 2, none⟩ = some (.string fv)
  r3 : w.cell? ⟨W.heap.size, 3, none⟩ = some (.string ⟨#[kd]⟩)
  r4 : w.cell? ⟨W.heap.size, 4, none⟩ = some (.int .i64 by_)
  r5 : w.cell? ⟨W.heap.size, 5, none⟩ = some (.slice a len cap)
  res : Box w (W.heap.size + 1) 0 0 0 0 0
theorem InOf.on {W w w' : World} {nv fv : ByteArray} {kd : UInt8} {bi by_ : Int} {a : Option Addr} {len cap : Nat} (h : InOf W w nv fv kd bi by_ a len cap) (k : Kept w w') : InOf W w' nv fv kd bi by_ a len cap :=
  ⟨h.kept.trans k, k.cell h.r0, k.cell h.r1, k.cell h.r2, k.cell h.r3, k.cell h.r4, k.cell h.r5, h.res.kept k⟩
theorem InOf.begin (w : World) (nv fv : ByteArray) (kd : UInt8) (bi by_ : Int) (a : Option Addr) (len cap : Nat) : InOf w ((w.alloc (.cells #[.string nv, .int .i64 bi, .string fv, .string ⟨#[kd]⟩, .int .i64 by_, .slice a len cap] 56)).alloc (.cells #[.int .u8 0, .int .i64 0, .int .i64 0, .int .i64 0, .int .i64 0] 27)) nv fv kd bi by_ a len cap := by
  refine ⟨(Kept.alloc _ _).trans (Kept.alloc _ _), by simp, by simp, by simp, by simp, by simp, by simp, ?_⟩
  constructor <;> simp

open Go.Sort in
set_option maxRecDepth 20000 in
set_option maxHeartbeats 3200000 in
theorem of_miss (nv fv : ByteArray) (kd : UInt8) (bi by_ H mk bo : Int) (a : Option Addr) (len cap : Nat) (w : World) (hH : 0 ≤ H ∧ H ≤ 65535)
    (hM : ∀ w', Kept w w' → Calls Tryd.prog 39 #[.agg #[.string nv, .int .i64 bi, .string fv, .string ⟨#[kd]⟩, .int .i64 by_, .slice a len cap]] w' fun e w'' => e = .returned (.int .i64 mk) ∧ Kept w' w'')
    (hB : ∀ w, Calls Tryd.prog 38 #[.int .i64 H, .int .i64 mk] w fun e w' => e = .returned (.int .i64 bo) ∧ Kept w w')
    (hne : ¬ bo = bi) :
    Calls Tryd.prog 23 #[.agg #[.string nv, .int .i64 bi, .string fv, .string ⟨#[kd]⟩, .int .i64 by_, .slice a len cap], .int .u16 H] w fun e w' => e = .returned (.tuple #[insnV 0 0 0 0 0, .bool false]) ∧ Kept w w' := by
  have hI := InOf.begin w nv fv kd bi by_ a len cap
  go_enter Tryd.func23, Tryd.ntmps23
  go_upto_region 1 with fail
  generalize ((w.alloc (.cells #[.string nv, .int .i64 bi, .string fv, .string ⟨#[kd]⟩, .int .i64 by_, .slice a len cap] 56)).alloc (.cells #[.int .u8 0, .int .i64 0, .int .i64 0, .int .i64 0, .int .i64 0] 27)) = W0 at hI ⊢
  have cM : ∀ d' os, Calls Tryd.prog 39 #[.agg #[.string nv, .int .i64 bi, .string fv, .string ⟨#[kd]⟩, .int .i64 by_, .slice a len cap]] (grow (redrawn W0 d') os) fun e w'' => e = .returned (.int .i64 mk) ∧ ∃ p : Regrown, w'' = grow (redrawn W0 p.d) p.os := fun d' os => Calls.regrown_of (hM _ (hI.kept.trans (below_regrown W0 d' os)))
  have cB : ∀ d' os, Calls Tryd.prog 38 #[.int .i64 H, .int .i64 mk] (grow (redrawn W0 d') os) fun e w'' => e = .returned (.int .i64 bo) ∧ ∃ p : Regrown, w'' = grow (redrawn W0 p.d) p.os := fun d' os => Calls.regrown_of (hB _)
  have g0 := cell_regrown hI.r0
  have g1 := cell_regrown hI.r1
  have g2 := cell_regrown hI.r2
  have g3 := cell_regrown hI.r3
  have g4 := cell_regrown hI.r4
  have g5 := cell_regrown hI.r5
  have hne' : (bo == bi) = false := by simpa using hne
  have hne2 : (bo != bi) = true := by simpa using hne
  have z3 : wrap64 H = H := wrap64_id (by omega) (by omega)
  have z4 : IntKind.i64.wrap H = H := i64_wrap_id (by omega) (by omega)
  refine wp_region_quiet_below (by kernel_rfl) (by kernel_rfl) ?_
  repeat (quiet_step (first | exact cM _ _ | exact cB _ _))
  refine wpQuiet_nil ?_
  intro _ hw'
  obtain ⟨⟨dq, osq⟩, hw''⟩ := hw'
  subst hw''
  have hI2 := hI.on (below_regrown W0 dq osq)
  clear hI g0 g1 g2 g3 g4 g5 cM cB
  generalize grow (redrawn W0 dq) osq = W2 at hI2 ⊢
  have hA := hI2.res
  obtain ⟨d0, d1, d2, d3, d4, f0, f1, f2, f3, f4⟩ := hA
  have hR := hI2.res.put 0 0 0 0 0
  have hK := below_put hI2.kept (b := w.heap.size + 1) (by omega) 0 0 0 0 0
  go_wp2
  refine bodyPost_ret (v := .tuple #[insnV 0 0 0 0 0, .bool false]) (by simp [results, Tryd.results23, go_sem, hR.c0, hR.c1, hR.c2, hR.c3, hR.c4]) rfl ⟨rfl, hK⟩
end Go.Proofs.YtbmcanpjpibecaaDoor
