/- CdecTells. -/
import Derived.Test.YtbmcanpjpibecaaDoorKit
import Derived.Test.YtbmcanpjpibecaaDoorOj
import Derived.Deep.DeepCutAuto
namespace Go.Proofs.YtbmcanpjpibecaaDoor
open Go.RowKit

set_option maxRecDepth 20000 in
set_option maxHeartbeats 3200000 in
theorem tells_gen (x op d s t imm er sz : Int) (w : World) (hR : ∀ w', Kept w w' → Calls Tryd.prog 13 #[.int .u16 x] w' fun e w'' => e = .returned (.tuple #[insnV op d s t imm, .int .i64 er]) ∧ Kept w' w'')
    (hQ : ∀ w, Calls Tryd.prog 14 #[.int .u16 x] w fun e w' => e = .returned (.tuple #[insnV op d s t imm, .int .i64 er]) ∧ Kept w w') (hS : ∀ w, Calls Tryd.prog 12 #[.int .u16 x] w fun e w' => e = .returned (.int .i64 sz) ∧ w' = w)
    (hZ : ∀ w, Calls Tryd.prog 15 #[.int .u16 x] w fun e w' => e = .returned (.int .i64 sz) ∧ w' = w) :
    Calls Tryd.prog 4 #[.int .u16 x] w fun e w' => e = .returned (.bool true) ∧ Kept w w' := by
  go_enter Tryd.func4, Tryd.ntmps4
  go_upto_region 2 with (go_at_call 13; refine (hR _ (Kept.refl _)).mono ?_; rintro e w1 ⟨rfl, hk1⟩)
  have hB := Box.make w1 op d s t imm
  have hK := hk1.trans (Kept.alloc w1 (.cells #[.int .u8 op, .int .i64 d, .int .i64 s, .int .i64 t, .int .i64 imm] 27))
  clear hk1 hR
  generalize w1.alloc (.cells #[.int .u8 op, .int .i64 d, .int .i64 s, .int .i64 t, .int .i64 imm] 27) = W1 at hB hK ⊢
  go_upto_region 3 with (go_at_call 14; refine (hQ _).mono ?_; rintro e w2 ⟨rfl, hk2⟩)
  have hC := Box.make w2 op d s t imm
  have hB2 := (hB.kept hk2).kept (Kept.alloc w2 (.cells #[.int .u8 op, .int .i64 d, .int .i64 s, .int .i64 t, .int .i64 imm] 27))
  have hK2 := (hK.trans hk2).trans (Kept.alloc w2 (.cells #[.int .u8 op, .int .i64 d, .int .i64 s, .int .i64 t, .int .i64 imm] 27))
  clear hB hK hk2 hQ
  generalize w2.alloc (.cells #[.int .u8 op, .int .i64 d, .int .i64 s, .int .i64 t, .int .i64 imm] 27) = W2 at hB2 hC hK2 ⊢
  obtain ⟨bd0, bd1, bd2, bd3, bd4, _, _, _, _, _⟩ := hB2
  obtain ⟨be0, be1, be2, be3, be4, _, _, _, _, _⟩ := hC
  go_wp2_with (first
    | (go_at_call 12; refine (hS _).mono ?_; rintro e w' ⟨rfl, rfl⟩)
    | (go_at_call 15; refine (hZ _).mono ?_; rintro e w' ⟨rfl, rfl⟩))
  go_ret
  exact ⟨rfl, hK2⟩
theorem cdecTells_all (H : Nat) (hH : H ≤ 65535) (w : World) (hT : Tab w) : Calls Tryd.prog 4 #[.int .u16 (H : Int)] w fun e w' => e = .returned (.bool true) ∧ Kept w w' := by
  have hZ := fun w => size_walk (H : Int) (by omega) w
  have e : (if (H : Int) % 4 = 3 then (4 : Int) else 2) = if H % 4 = 3 then 4 else 2 := by
    by_cases h : H % 4 = 3
    · rw [if_pos h, if_pos (by omega)]
    · rw [if_neg h, if_neg (by omega)]
  rw [e] at hZ
  exact tells_gen _ _ _ _ _ _ _ _ w (fun w' k => insn_walk6 H hH w' (hT.kept k)) (fun w => insnR_walk H hH w) (fun w => csize_walk H hH w) hZ
end Go.Proofs.YtbmcanpjpibecaaDoor
