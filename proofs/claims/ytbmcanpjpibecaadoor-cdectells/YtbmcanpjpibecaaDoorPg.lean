/- Which registers cenc's own forms have, and what stands for them. -/
import Derived.Test.YtbmcanpjpibecaaDoorRi
import Derived.Test.YtbmcanpjpibecaaDoorSt
import Derived.Deep.DeepCutAuto
namespace Go.Proofs.YtbmcanpjpibecaaDoor
open Go.RowKit

theorem few_walk (n : Int) (w : World) : Calls Tryd.prog 51 #[.int .i64 n] w fun e w' => e = .returned (.bool (highB n)) ∧ w' = w := by
  by_cases h1 : 8 ≤ n
  · by_cases h2 : n < 16
    · have e : highB n = true := decide_eq_true ⟨h1, by omega⟩
      rw [e]
      go_enter Tryd.func51, Tryd.ntmps51
      go_wp2
      go_ret
      first | exact ⟨rfl, rfl⟩ | exact ⟨congrArg Ending.returned (congrArg Value.bool (decide_eq_true h2)), rfl⟩
    · have e : highB n = false := decide_eq_false (by omega)
      rw [e]
      go_enter Tryd.func51, Tryd.ntmps51
      go_wp2
      go_ret
      first | exact ⟨rfl, rfl⟩ | exact ⟨congrArg Ending.returned (congrArg Value.bool (decide_eq_false h2)), rfl⟩
  · have e : highB n = false := decide_eq_false (by omega)
    rw [e]
    go_enter Tryd.func51, Tryd.ntmps51
    go_wp2
    go_ret
    exact ⟨rfl, rfl⟩
theorem few_of {n : Int} {c : Bool} (h : highB n = c) (w : World) : Calls Tryd.prog 51 #[.int .i64 n] w fun e w' => e = .returned (.bool c) ∧ w' = w := h ▸ few_walk n w

/-- Are the registers such as cenc's form has? (What the instruction can't have is not asked for.) -/
def rightP (f : UInt8) (d s t : Int) : Bool :=
  if f = 97 then highB d && (s == 2) else
  if f = 108 then highB d && highB s else
  if f = 115 then highB s && highB t else
  if f = 110 then (d == 0) && (s == 0) else
  if f = 114 then (d == s) && (d != 0) else
  if f = 122 then (d != 0) && (s == 0) else
  if f = 117 then (d != 0) && (d != 2) else
  if f = 112 then (d == s) && (d == 2) else
  if f = 113 then (d == s) && highB d else
  if f = 109 then (d == s) && highB d && highB t else
  if f = 106 then (d == 0) else
  if f = 98 then highB s && (t == 0) else
  if f = 119 then (d != 0) && (s == 2) else
  if f = 74 then (d == 0) && (s != 0) else
  if f = 75 then (d == 1) && (s != 0) else
  if f = 118 then (d != 0) && (s == 0) && (t != 0) else
  if f = 100 then (d == s) && (d != 0) && (t != 0) else
  (s == 2)

set_option maxRecDepth 20000 in
set_option maxHeartbeats 3200000 in
theorem regs_97 (op d s t imm : Int) (hd : 0 ≤ d ∧ d ≤ 31) (_hs : 0 ≤ s ∧ s ≤ 31) (_ht : 0 ≤ t ∧ t ≤ 31) (w : World) : Calls Tryd.prog 28 #[.agg #[.int .u8 op, .int .i64 d, .int .i64 s, .int .i64 t, .int .i64 imm], .int .u8 97] w fun e w' => e = .returned (.tuple #[.int .i64 (d - 8), .int .i64 (0), .bool (highB d && (s == 2))]) ∧ Kept w w' := by
  cases h0 : highB d <;> cases h1 : (s == 2)
  all_goals
    go_enter Tryd.func28, Tryd.ntmps28
    go_wp2
    go_big_quiet ((first | (go_at_call_of 51 (Value.int .i64 d); exact Calls.quiet_of_same (few_of h0 _))))
    go_wp2
    go_ret3
    exact ⟨rfl, Kept.trans (Kept.alloc _ _) (Kept.drewN _ _)⟩

set_option maxRecDepth 20000 in
set_option maxHeartbeats 3200000 in
theorem regs_108 (op d s t imm : Int) (hd : 0 ≤ d ∧ d ≤ 31) (hs : 0 ≤ s ∧ s ≤ 31) (_ht : 0 ≤ t ∧ t ≤ 31) (w : World) : Calls Tryd.prog 28 #[.agg #[.int .u8 op, .int .i64 d, .int .i64 s, .int .i64 t, .int .i64 imm], .int .u8 108] w fun e w' => e = .returned (.tuple #[.int .i64 (d - 8), .int .i64 (s - 8), .bool (highB d && highB s)]) ∧ Kept w w' := by
  cases h0 : highB d <;> cases h1 : highB s
  all_goals
    go_enter Tryd.func28, Tryd.ntmps28
    go_wp2
    go_big_quiet ((first | (go_at_call_of 51 (Value.int .i64 d); exact Calls.quiet_of_same (few_of h0 _)) | (go_at_call_of 51 (Value.int .i64 s); exact Calls.quiet_of_same (few_of h1 _))))
    go_wp2
    go_ret3
    exact ⟨rfl, Kept.trans (Kept.alloc _ _) (Kept.drewN _ _)⟩

set_option maxRecDepth 20000 in
set_option maxHeartbeats 3200000 in
theorem regs_115 (op d s t imm : Int) (_hd : 0 ≤ d ∧ d ≤ 31) (hs : 0 ≤ s ∧ s ≤ 31) (ht : 0 ≤ t ∧ t ≤ 31) (w : World) : Calls Tryd.prog 28 #[.agg #[.int .u8 op, .int .i64 d, .int .i64 s, .int .i64 t, .int .i64 imm], .int .u8 115] w fun e w' => e = .returned (.tuple #[.int .i64 (t - 8), .int .i64 (s - 8), .bool (highB s && highB t)]) ∧ Kept w w' := by
  cases h0 : highB s <;> cases h1 : highB t
  all_goals
    go_enter Tryd.func28, Tryd.ntmps28
    go_wp2
    go_big_quiet ((first | (go_at_call_of 51 (Value.int .i64 s); exact Calls.quiet_of_same (few_of h0 _)) | (go_at_call_of 51 (Value.int .i64 t); exact Calls.quiet_of_same (few_of h1 _))))
    go_wp2
    go_ret3
    exact ⟨rfl, Kept.trans (Kept.alloc _ _) (Kept.drewN _ _)⟩

set_option maxRecDepth 20000 in
set_option maxHeartbeats 3200000 in
theorem regs_110 (op d s t imm : Int) (_hd : 0 ≤ d ∧ d ≤ 31) (_hs : 0 ≤ s ∧ s ≤ 31) (_ht : 0 ≤ t ∧ t ≤ 31) (w : World) : Calls Tryd.prog 28 #[.agg #[.int .u8 op, .int .i64 d, .int .i64 s, .int .i64 t, .int .i64 imm], .int .u8 110] w fun e w' => e = .returned (.tuple #[.int .i64 (0), .int .i64 (0), .bool ((d == 0) && (s == 0))]) ∧ Kept w w' := by
  cases h0 : (d == 0) <;> cases h1 : (s == 0)
  all_goals
    go_enter Tryd.func28, Tryd.ntmps28
    go_wp2
    go_big_quiet ((first | fail))
    go_wp2
    go_ret3
    exact ⟨rfl, Kept.trans (Kept.alloc _ _) (Kept.drewN _ _)⟩

set_option maxRecDepth 20000 in
set_option maxHeartbeats 3200000 in
theorem regs_114 (op d s t imm : Int) (_hd : 0 ≤ d ∧ d ≤ 31) (_hs : 0 ≤ s ∧ s ≤ 31) (_ht : 0 ≤ t ∧ t ≤ 31) (w : World) : Calls Tryd.prog 28 #[.agg #[.int .u8 op, .int .i64 d, .int .i64 s, .int .i64 t, .int .i64 imm], .int .u8 114] w fun e w' => e = .returned (.tuple #[.int .i64 (0), .int .i64 (d), .bool ((d == s) && (d != 0))]) ∧ Kept w w' := by
  cases h0 : (d == s) <;> cases h1 : (d != 0)
  all_goals
    go_enter Tryd.func28, Tryd.ntmps28
    go_wp2
    go_big_quiet ((first | fail))
    go_wp2
    go_ret3
    exact ⟨rfl, Kept.trans (Kept.alloc _ _) (Kept.drewN _ _)⟩

set_option maxRecDepth 20000 in
set_option maxHeartbeats 3200000 in
theorem regs_122 (op d s t imm : Int) (_hd : 0 ≤ d ∧ d ≤ 31) (_hs : 0 ≤ s ∧ s ≤ 31) (_ht : 0 ≤ t ∧ t ≤ 31) (w : World) : Calls Tryd.prog 28 #[.agg #[.int .u8 op, .int .i64 d, .int .i64 s, .int .i64 t, .int .i64 imm], .int .u8 122] w fun e w' => e = .returned (.tuple #[.int .i64 (0), .int .i64 (d), .bool ((d != 0) && (s == 0))]) ∧ Kept w w' := by
  cases h0 : (d != 0) <;> cases h1 : (s == 0)
  all_goals
    go_enter Tryd.func28, Tryd.ntmps28
    go_wp2
    go_big_quiet ((first | fail))
    go_wp2
    go_ret3
    exact ⟨rfl, Kept.trans (Kept.alloc _ _) (Kept.drewN _ _)⟩

set_option maxRecDepth 20000 in
set_option maxHeartbeats 3200000 in
theorem regs_117 (op d s t imm : Int) (_hd : 0 ≤ d ∧ d ≤ 31) (_hs : 0 ≤ s ∧ s ≤ 31) (_ht : 0 ≤ t ∧ t ≤ 31) (w : World) : Calls Tryd.prog 28 #[.agg #[.int .u8 op, .int .i64 d, .int .i64 s, .int .i64 t, .int .i64 imm], .int .u8 117] w fun e w' => e = .returned (.tuple #[.int .i64 (0), .int .i64 (d), .bool ((d != 0) && (d != 2))]) ∧ Kept w w' := by
  cases h0 : (d != 0) <;> cases h1 : (d != 2)
  all_goals
    go_enter Tryd.func28, Tryd.ntmps28
    go_wp2
    go_big_quiet ((first | fail))
    go_wp2
    go_ret3
    exact ⟨rfl, Kept.trans (Kept.alloc _ _) (Kept.drewN _ _)⟩

set_option maxRecDepth 20000 in
set_option maxHeartbeats 3200000 in
theorem regs_112 (op d s t imm : Int) (_hd : 0 ≤ d ∧ d ≤ 31) (_hs : 0 ≤ s ∧ s ≤ 31) (_ht : 0 ≤ t ∧ t ≤ 31) (w : World) : Calls Tryd.prog 28 #[.agg #[.int .u8 op, .int .i64 d, .int .i64 s, .int .i64 t, .int .i64 imm], .int .u8 112] w fun e w' => e = .returned (.tuple #[.int .i64 (0), .int .i64 (0), .bool ((d == s) && (d == 2))]) ∧ Kept w w' := by
  cases h0 : (d == s) <;> cases h1 : (d == 2)
  all_goals
    go_enter Tryd.func28, Tryd.ntmps28
    go_wp2
    go_big_quiet ((first | fail))
    go_wp2
    go_ret3
    exact ⟨rfl, Kept.trans (Kept.alloc _ _) (Kept.drewN _ _)⟩

set_option maxRecDepth 20000 in
set_option maxHeartbeats 3200000 in
theorem regs_113 (op d s t imm : Int) (hd : 0 ≤ d ∧ d ≤ 31) (_hs : 0 ≤ s ∧ s ≤ 31) (_ht : 0 ≤ t ∧ t ≤ 31) (w : World) : Calls Tryd.prog 28 #[.agg #[.int .u8 op, .int .i64 d, .int .i64 s, .int .i64 t, .int .i64 imm], .int .u8 113] w fun e w' => e = .returned (.tuple #[.int .i64 (0), .int .i64 (d - 8), .bool ((d == s) && highB d)]) ∧ Kept w w' := by
  cases h0 : (d == s) <;> cases h1 : highB d
  all_goals
    go_enter Tryd.func28, Tryd.ntmps28
    go_wp2
    go_big_quiet ((first | (go_at_call_of 51 (Value.int .i64 d); exact Calls.quiet_of_same (few_of h1 _))))
    go_wp2
    go_ret3
    exact ⟨rfl, Kept.trans (Kept.alloc _ _) (Kept.drewN _ _)⟩

set_option maxRecDepth 20000 in
set_option maxHeartbeats 3200000 in
theorem regs_109 (op d s t imm : Int) (hd : 0 ≤ d ∧ d ≤ 31) (_hs : 0 ≤ s ∧ s ≤ 31) (ht : 0 ≤ t ∧ t ≤ 31) (w : World) : Calls Tryd.prog 28 #[.agg #[.int .u8 op, .int .i64 d, .int .i64 s, .int .i64 t, .int .i64 imm], .int .u8 109] w fun e w' => e = .returned (.tuple #[.int .i64 (t - 8), .int .i64 (d - 8), .bool ((d == s) && highB d && highB t)]) ∧ Kept w w' := by
  cases h0 : (d == s) <;> cases h1 : highB d <;> cases h2 : highB t
  all_goals
    go_enter Tryd.func28, Tryd.ntmps28
    go_wp2
    go_big_quiet ((first | (go_at_call_of 51 (Value.int .i64 d); exact Calls.quiet_of_same (few_of h1 _)) | (go_at_call_of 51 (Value.int .i64 t); exact Calls.quiet_of_same (few_of h2 _))))
    go_wp2
    go_ret3
    exact ⟨rfl, Kept.trans (Kept.alloc _ _) (Kept.drewN _ _)⟩

set_option maxRecDepth 20000 in
set_option maxHeartbeats 3200000 in
theorem regs_106 (op d s t imm : Int) (_hd : 0 ≤ d ∧ d ≤ 31) (_hs : 0 ≤ s ∧ s ≤ 31) (_ht : 0 ≤ t ∧ t ≤ 31) (w : World) : Calls Tryd.prog 28 #[.agg #[.int .u8 op, .int .i64 d, .int .i64 s, .int .i64 t, .int .i64 imm], .int .u8 106] w fun e w' => e = .returned (.tuple #[.int .i64 (0), .int .i64 (0), .bool ((d == 0))]) ∧ Kept w w' := by
  cases h0 : (d == 0)
  all_goals
    go_enter Tryd.func28, Tryd.ntmps28
    go_wp2
    go_big_quiet ((first | fail))
    go_wp2
    go_ret3
    exact ⟨rfl, Kept.trans (Kept.alloc _ _) (Kept.drewN _ _)⟩

set_option maxRecDepth 20000 in
set_option maxHeartbeats 3200000 in
theorem regs_98 (op d s t imm : Int) (_hd : 0 ≤ d ∧ d ≤ 31) (hs : 0 ≤ s ∧ s ≤ 31) (_ht : 0 ≤ t ∧ t ≤ 31) (w : World) : Calls Tryd.prog 28 #[.agg #[.int .u8 op, .int .i64 d, .int .i64 s, .int .i64 t, .int .i64 imm], .int .u8 98] w fun e w' => e = .returned (.tuple #[.int .i64 (0), .int .i64 (s - 8), .bool (highB s && (t == 0))]) ∧ Kept w w' := by
  cases h0 : highB s <;> cases h1 : (t == 0)
  all_goals
    go_enter Tryd.func28, Tryd.ntmps28
    go_wp2
    go_big_quiet ((first | (go_at_call_of 51 (Value.int .i64 s); exact Calls.quiet_of_same (few_of h0 _))))
    go_wp2
    go_ret3
    exact ⟨rfl, Kept.trans (Kept.alloc _ _) (Kept.drewN _ _)⟩

set_option maxRecDepth 20000 in
set_option maxHeartbeats 3200000 in
theorem regs_119 (op d s t imm : Int) (_hd : 0 ≤ d ∧ d ≤ 31) (_hs : 0 ≤ s ∧ s ≤ 31) (_ht : 0 ≤ t ∧ t ≤ 31) (w : World) : Calls Tryd.prog 28 #[.agg #[.int .u8 op, .int .i64 d, .int .i64 s, .int .i64 t, .int .i64 imm], .int .u8 119] w fun e w' => e = .returned (.tuple #[.int .i64 (0), .int .i64 (d), .bool ((d != 0) && (s == 2))]) ∧ Kept w w' := by
  cases h0 : (d != 0) <;> cases h1 : (s == 2)
  all_goals
    go_enter Tryd.func28, Tryd.ntmps28
    go_wp2
    go_big_quiet ((first | fail))
    go_wp2
    go_ret3
    exact ⟨rfl, Kept.trans (Kept.alloc _ _) (Kept.drewN _ _)⟩

set_option maxRecDepth 20000 in
set_option maxHeartbeats 3200000 in
theorem regs_74 (op d s t imm : Int) (_hd : 0 ≤ d ∧ d ≤ 31) (_hs : 0 ≤ s ∧ s ≤ 31) (_ht : 0 ≤ t ∧ t ≤ 31) (w : World) : Calls Tryd.prog 28 #[.agg #[.int .u8 op, .int .i64 d, .int .i64 s, .int .i64 t, .int .i64 imm], .int .u8 74] w fun e w' => e = .returned (.tuple #[.int .i64 (0), .int .i64 (s), .bool ((d == 0) && (s != 0))]) ∧ Kept w w' := by
  cases h0 : (d == 0) <;> cases h1 : (s != 0)
  all_goals
    go_enter Tryd.func28, Tryd.ntmps28
    go_wp2
    go_big_quiet ((first | fail))
    go_wp2
    go_ret3
    exact ⟨rfl, Kept.trans (Kept.alloc _ _) (Kept.drewN _ _)⟩

set_option maxRecDepth 20000 in
set_option maxHeartbeats 3200000 in
theorem regs_75 (op d s t imm : Int) (_hd : 0 ≤ d ∧ d ≤ 31) (_hs : 0 ≤ s ∧ s ≤ 31) (_ht : 0 ≤ t ∧ t ≤ 31) (w : World) : Calls Tryd.prog 28 #[.agg #[.int .u8 op, .int .i64 d, .int .i64 s, .int .i64 t, .int .i64 imm], .int .u8 75] w fun e w' => e = .returned (.tuple #[.int .i64 (0), .int .i64 (s), .bool ((d == 1) && (s != 0))]) ∧ Kept w w' := by
  cases h0 : (d == 1) <;> cases h1 : (s != 0)
  all_goals
    go_enter Tryd.func28, Tryd.ntmps28
    go_wp2
    go_big_quiet ((first | fail))
    go_wp2
    go_ret3
    exact ⟨rfl, Kept.trans (Kept.alloc _ _) (Kept.drewN _ _)⟩

set_option maxRecDepth 20000 in
set_option maxHeartbeats 3200000 in
theorem regs_118 (op d s t imm : Int) (_hd : 0 ≤ d ∧ d ≤ 31) (_hs : 0 ≤ s ∧ s ≤ 31) (_ht : 0 ≤ t ∧ t ≤ 31) (w : World) : Calls Tryd.prog 28 #[.agg #[.int .u8 op, .int .i64 d, .int .i64 s, .int .i64 t, .int .i64 imm], .int .u8 118] w fun e w' => e = .returned (.tuple #[.int .i64 (t), .int .i64 (d), .bool ((d != 0) && (s == 0) && (t != 0))]) ∧ Kept w w' := by
  cases h0 : (d != 0) <;> cases h1 : (s == 0) <;> cases h2 : (t != 0)
  all_goals
    go_enter Tryd.func28, Tryd.ntmps28
    go_wp2
    go_big_quiet ((first | fail))
    go_wp2
    go_ret3
    exact ⟨rfl, Kept.trans (Kept.alloc _ _) (Kept.drewN _ _)⟩

set_option maxRecDepth 20000 in
set_option maxHeartbeats 3200000 in
theorem regs_100 (op d s t imm : Int) (_hd : 0 ≤ d ∧ d ≤ 31) (_hs : 0 ≤ s ∧ s ≤ 31) (_ht : 0 ≤ t ∧ t ≤ 31) (w : World) : Calls Tryd.prog 28 #[.agg #[.int .u8 op, .int .i64 d, .int .i64 s, .int .i64 t, .int .i64 imm], .int .u8 100] w fun e w' => e = .returned (.tuple #[.int .i64 (t), .int .i64 (d), .bool ((d == s) && (d != 0) && (t != 0))]) ∧ Kept w w' := by
  cases h0 : (d == s) <;> cases h1 : (d != 0) <;> cases h2 : (t != 0)
  all_goals
    go_enter Tryd.func28, Tryd.ntmps28
    go_wp2
    go_big_quiet ((first | fail))
    go_wp2
    go_ret3
    exact ⟨rfl, Kept.trans (Kept.alloc _ _) (Kept.drewN _ _)⟩

set_option maxRecDepth 20000 in
set_option maxHeartbeats 3200000 in
theorem regs_116 (op d s t imm : Int) (_hd : 0 ≤ d ∧ d ≤ 31) (_hs : 0 ≤ s ∧ s ≤ 31) (_ht : 0 ≤ t ∧ t ≤ 31) (w : World) : Calls Tryd.prog 28 #[.agg #[.int .u8 op, .int .i64 d, .int .i64 s, .int .i64 t, .int .i64 imm], .int .u8 116] w fun e w' => e = .returned (.tuple #[.int .i64 (t), .int .i64 (0), .bool ((s == 2))]) ∧ Kept w w' := by
  cases h0 : (s == 2)
  all_goals
    go_enter Tryd.func28, Tryd.ntmps28
    go_wp2
    go_big_quiet ((first | fail))
    go_wp2
    go_ret3
    exact ⟨rfl, Kept.trans (Kept.alloc _ _) (Kept.drewN _ _)⟩

theorem regsP_walk (f : UInt8) (hf : f ∈ ([97, 108, 115, 110, 114, 122, 117, 112, 113, 109, 106, 98, 119, 74, 75, 118, 100, 116] : List UInt8)) (op d s t imm : Int) (hd : 0 ≤ d ∧ d ≤ 31) (hs : 0 ≤ s ∧ s ≤ 31) (ht : 0 ≤ t ∧ t ≤ 31) (w : World) :
    Calls Tryd.prog 28 #[insnV op d s t imm, .int .u8 (f.toNat : Int)] w fun e w' => e = .returned (.tuple #[.int .i64 (lowV f d s t), .int .i64 (hiV f d s t), .bool (rightP f d s t)]) ∧ Kept w w' := by
  simp only [List.mem_cons, List.not_mem_nil, or_false] at hf
  rcases hf with rfl | rfl | rfl | rfl | rfl | rfl | rfl | rfl | rfl | rfl | rfl | rfl | rfl | rfl | rfl | rfl | rfl | rfl
  · exact regs_97 op d s t imm hd hs ht w
  · exact regs_108 op d s t imm hd hs ht w
  · exact regs_115 op d s t imm hd hs ht w
  · exact regs_110 op d s t imm hd hs ht w
  · exact regs_114 op d s t imm hd hs ht w
  · exact regs_122 op d s t imm hd hs ht w
  · exact regs_117 op d s t imm hd hs ht w
  · exact regs_112 op d s t imm hd hs ht w
  · exact regs_113 op d s t imm hd hs ht w
  · exact regs_109 op d s t imm hd hs ht w
  · exact regs_106 op d s t imm hd hs ht w
  · exact regs_98 op d s t imm hd hs ht w
  · exact regs_119 op d s t imm hd hs ht w
  · exact regs_74 op d s t imm hd hs ht w
  · exact regs_75 op d s t imm hd hs ht w
  · exact regs_118 op d s t imm hd hs ht w
  · exact regs_100 op d s t imm hd hs ht w
  · exact regs_116 op d s t imm hd hs ht w
end Go.Proofs.YtbmcanpjpibecaaDoor
