/- What a row of cenc's gives of an instruction. -/
import Derived.Test.YtpimdldgejlekaaPr
import Derived.Deep.DeepCutAuto
namespace Go.Proofs.Ytpimdldgejlekaa
open Go.RowKit

theorem half_other (op o bi fo kd by_ d s t imm : Int) (ln cap : Nat) (a : Option Addr) (w : World) (hne : (op == o) = false) :
    Calls Try.prog 14 #[.agg #[.int .u8 o, .int .u32 bi, .int .u8 fo, .int .u8 kd, .int .i64 by_, .slice a ln cap], insnV op d s t imm] w fun e w' => e = .returned (.tuple #[.int .u16 0, .bool false]) ∧ Kept w w' := by
  have hne' : (op != o) = true := by rw [bne, hne]; rfl
  have hne2 : ¬ op = o := by simpa using hne
  go_enter Try.func14, Try.ntmps14
  go_wp2
  go_ret2
  exact ⟨rfl, (Kept.alloc _ _).trans (Kept.alloc _ _)⟩

set_option maxRecDepth 20000 in
set_option maxHeartbeats 3200000 in
theorem half_gen (op bi fo kd by_ d s t imm lo hi nv sc H : Int) (ln cap : Nat) (a : Option Addr) (w : World) (rp fb : Bool)
    (hH : rp = true → fb = true → IntKind.u16.wrap (bits .or .u32 (bits .or .u32 (bits .or .u32 bi (lo * 4)) (hi * 128)) sc) = H) (hlo : rp = true → 0 ≤ lo ∧ lo ≤ 31) (hhi : rp = true → 0 ≤ hi ∧ hi ≤ 31)
    (hG : ∀ w, Calls Try.prog 23 #[insnV op d s t imm, .int .u8 fo] w fun e w' => e = .returned (.tuple #[.int .i64 lo, .int .i64 hi, .bool rp]) ∧ Kept w w')
    (hN : ∀ w, Calls Try.prog 24 #[.agg #[.int .u8 op, .int .u32 bi, .int .u8 fo, .int .u8 kd, .int .i64 by_, .slice a ln cap], .int .i64 imm] w fun e w' => e = .returned (.tuple #[.int .u32 nv, .bool fb]) ∧ Kept w w')
    (hS : ∀ w', Kept w w' → Calls Try.prog 25 #[.int .u32 nv, .slice a ln cap] w' fun e w'' => e = .returned (.tuple #[.int .u32 sc, .int .i64 0]) ∧ w'' = w') :
    Calls Try.prog 14 #[.agg #[.int .u8 op, .int .u32 bi, .int .u8 fo, .int .u8 kd, .int .i64 by_, .slice a ln cap], insnV op d s t imm] w fun e w' => e = .returned (.tuple #[.int .u16 (cond (rp && fb) H 0), .bool (rp && fb)]) ∧ Kept w w' := by
  have hK0 : Kept w ((w.alloc (.cells #[.int .u8 op, .int .u32 bi, .int .u8 fo, .int .u8 kd, .int .i64 by_, .slice a ln cap] 43)).alloc (.cells #[.int .u8 op, .int .i64 d, .int .i64 s, .int .i64 t, .int .i64 imm] 27)) := (Kept.alloc _ _).trans (Kept.alloc _ _)
  go_enter Try.func14, Try.ntmps14
  go_upto_region 4 with (go_at_call 23; refine (hG _).mono ?_; rintro e w1 ⟨rfl, hk1⟩)
  have r0 : w1.cell? ⟨w.heap.size, 0, none⟩ = some (.int .u8 op) := Kept.cell hk1 (by simp)
  have r1 : w1.cell? ⟨w.heap.size, 1, none⟩ = some (.int .u32 bi) := Kept.cell hk1 (by simp)
  have r2 : w1.cell? ⟨w.heap.size, 2, none⟩ = some (.int .u8 fo) := Kept.cell hk1 (by simp)
  have r3 : w1.cell? ⟨w.heap.size, 3, none⟩ = some (.int .u8 kd) := Kept.cell hk1 (by simp)
  have r4 : w1.cell? ⟨w.heap.size, 4, none⟩ = some (.int .i64 by_) := Kept.cell hk1 (by simp)
  have r5 : w1.cell? ⟨w.heap.size, 5, none⟩ = some (.slice a ln cap) := Kept.cell hk1 (by simp)
  have i4 : w1.cell? ⟨w.heap.size + 1, 4, none⟩ = some (.int .i64 imm) := Kept.cell hk1 (by simp)
  have hK1 := hK0.trans hk1
  clear hk1 hK0
  go_upto_region 5 with (go_at_call 24; refine (hN _).mono ?_; rintro e w2 ⟨rfl, hk2⟩)
  replace r1 := Kept.cell hk2 r1
  replace r5 := Kept.cell hk2 r5
  clear r0 r2 r3 r4 i4
  have hK2 := hK1.trans hk2
  clear hk2 hK1
  cases rp
  · go_wp2
    go_ret2
    exact ⟨rfl, hK2⟩
  · cases fb
    · go_wp2
      go_ret2
      exact ⟨rfl, hK2⟩
    · have hlo := hlo rfl
      have hhi := hhi rfl
      have hH := hH rfl rfl
      go_wp2_with (go_at_call 25; refine (hS _ hK2).mono ?_; rintro e w3 ⟨rfl, rfl⟩)
      go_ret2
      exact ⟨by first | rfl | (rw [← hH]; rfl), hK2⟩
end Go.Proofs.Ytpimdldgejlekaa
