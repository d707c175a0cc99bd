/- What the document's own 'high', Right and stand give. -/
import Derived.Test.YtbmcanpjpibecaaDoorRs
namespace Go.Proofs.YtbmcanpjpibecaaDoor
open Go.RowKit

/-- Is a register from 8 to 15? -/
def highB (n : Int) : Bool := decide (8 ≤ n ∧ n ≤ 15)
theorem high_walk (n : Int) (w : World) : Calls Tryd.prog 59 #[.int .i64 n] w fun e w' => e = .returned (.bool (highB n)) ∧ w' = w := by
  by_cases h1 : 8 ≤ n
  · by_cases h2 : n ≤ 15
    · have e : highB n = true := decide_eq_true ⟨h1, h2⟩
      rw [e]
      go_enter Tryd.func59, Tryd.ntmps59
      go_wp2
      go_ret
      first | exact ⟨rfl, rfl⟩ | exact ⟨congrArg Ending.returned (congrArg Value.bool (decide_eq_true h2)), rfl⟩
    · have e : highB n = false := decide_eq_false (by omega)
      rw [e]
      go_enter Tryd.func59, Tryd.ntmps59
      go_wp2
      go_ret
      first | exact ⟨rfl, rfl⟩ | exact ⟨congrArg Ending.returned (congrArg Value.bool (decide_eq_false h2)), rfl⟩
  · have e : highB n = false := decide_eq_false (by omega)
    rw [e]
    go_enter Tryd.func59, Tryd.ntmps59
    go_wp2
    go_ret
    exact ⟨rfl, rfl⟩

/-- Are the registers as a form tells? -/
def rightB (f : UInt8) (d s t : Int) : Bool :=
  if f = 97 then highB d && (s == 2) && (t == 0) else
  if f = 108 then highB d && highB s && (t == 0) else
  if f = 115 then highB s && highB t && (d == 0) else
  if f = 110 then (d == 0) && (s == 0) && (t == 0) else
  if f = 106 then (d == 0) && (s == 0) && (t == 0) else
  if f = 114 then (d == s) && (d != 0) && (t == 0) else
  if f = 122 then (d != 0) && (s == 0) && (t == 0) else
  if f = 117 then (d != 0) && (d != 2) && (s == 0) && (t == 0) else
  if f = 112 then (d == 2) && (s == 2) && (t == 0) else
  if f = 113 then (d == s) && highB d && (t == 0) else
  if f = 109 then (d == s) && highB d && highB t else
  if f = 98 then (d == 0) && highB s && (t == 0) else
  if f = 119 then (d != 0) && (s == 2) && (t == 0) else
  if f = 74 then (d == 0) && (s != 0) && (t == 0) else
  if f = 75 then (d == 1) && (s != 0) && (t == 0) else
  if f = 118 then (d != 0) && (s == 0) && (t != 0) else
  if f = 100 then (d == s) && (d != 0) && (t != 0) else
  (d == 0) && (s == 2)

set_option maxRecDepth 20000 in
set_option maxHeartbeats 3200000 in
theorem right_97 (op d s t imm : Int) (w : World) : Calls Tryd.prog 44 #[.string ⟨#[97]⟩, .agg #[.int .u8 op, .int .i64 d, .int .i64 s, .int .i64 t, .int .i64 imm]] w fun e w' => e = .returned (.bool (highB d && (s == 2) && (t == 0))) ∧ Kept w w' := by
  cases h0 : highB d <;> cases h1 : (s == 2) <;> cases h2 : (t == 0)
  all_goals
    go_enter Tryd.func44, Tryd.ntmps44
    go_wp2_with (go_at_call 59; refine (high_walk _ _).mono ?_; rintro e w' ⟨rfl, rfl⟩)
    go_ret
    exact ⟨rfl, Kept.alloc _ _⟩

set_option maxRecDepth 20000 in
set_option maxHeartbeats 3200000 in
theorem right_108 (op d s t imm : Int) (w : World) : Calls Tryd.prog 44 #[.string ⟨#[108]⟩, .agg #[.int .u8 op, .int .i64 d, .int .i64 s, .int .i64 t, .int .i64 imm]] w fun e w' => e = .returned (.bool (highB d && highB s && (t == 0))) ∧ Kept w w' := by
  cases h0 : highB d <;> cases h1 : highB s <;> cases h2 : (t == 0)
  all_goals
    go_enter Tryd.func44, Tryd.ntmps44
    go_wp2_with (go_at_call 59; refine (high_walk _ _).mono ?_; rintro e w' ⟨rfl, rfl⟩)
    go_ret
    exact ⟨rfl, Kept.alloc _ _⟩

set_option maxRecDepth 20000 in
set_option maxHeartbeats 3200000 in
theorem right_115 (op d s t imm : Int) (w : World) : Calls Tryd.prog 44 #[.string ⟨#[115]⟩, .agg #[.int .u8 op, .int .i64 d, .int .i64 s, .int .i64 t, .int .i64 imm]] w fun e w' => e = .returned (.bool (highB s && highB t && (d == 0))) ∧ Kept w w' := by
  cases h0 : highB s <;> cases h1 : highB t <;> cases h2 : (d == 0)
  all_goals
    go_enter Tryd.func44, Tryd.ntmps44
    go_wp2_with (go_at_call 59; refine (high_walk _ _).mono ?_; rintro e w' ⟨rfl, rfl⟩)
    go_ret
    exact ⟨rfl, Kept.alloc _ _⟩

set_option maxRecDepth 20000 in
set_option maxHeartbeats 3200000 in
theorem right_110 (op d s t imm : Int) (w : World) : Calls Tryd.prog 44 #[.string ⟨#[110]⟩, .agg #[.int .u8 op, .int .i64 d, .int .i64 s, .int .i64 t, .int .i64 imm]] w fun e w' => e = .returned (.bool ((d == 0) && (s == 0) && (t == 0))) ∧ Kept w w' := by
  cases h0 : (d == 0) <;> cases h1 : (s == 0) <;> cases h2 : (t == 0)
  all_goals
    go_enter Tryd.func44, Tryd.ntmps44
    go_wp2_with (go_at_call 59; refine (high_walk _ _).mono ?_; rintro e w' ⟨rfl, rfl⟩)
    go_ret
    exact ⟨rfl, Kept.alloc _ _⟩

set_option maxRecDepth 20000 in
set_option maxHeartbeats 3200000 in
theorem right_106 (op d s t imm : Int) (w : World) : Calls Tryd.prog 44 #[.string ⟨#[106]⟩, .agg #[.int .u8 op, .int .i64 d, .int .i64 s, .int .i64 t, .int .i64 imm]] w fun e w' => e = .returned (.bool ((d == 0) && (s == 0) && (t == 0))) ∧ Kept w w' := by
  cases h0 : (d == 0) <;> cases h1 : (s == 0) <;> cases h2 : (t == 0)
  all_goals
    go_enter Tryd.func44, Tryd.ntmps44
    go_wp2_with (go_at_call 59; refine (high_walk _ _).mono ?_; rintro e w' ⟨rfl, rfl⟩)
    go_ret
    exact ⟨rfl, Kept.alloc _ _⟩

set_option maxRecDepth 20000 in
set_option maxHeartbeats 3200000 in
theorem right_114 (op d s t imm : Int) (w : World) : Calls Tryd.prog 44 #[.string ⟨#[114]⟩, .agg #[.int .u8 op, .int .i64 d, .int .i64 s, .int .i64 t, .int .i64 imm]] w fun e w' => e = .returned (.bool ((d == s) && (d != 0) && (t == 0))) ∧ Kept w w' := by
  cases h0 : (d == s) <;> cases h1 : (d != 0) <;> cases h2 : (t == 0)
  all_goals
    go_enter Tryd.func44, Tryd.ntmps44
    go_wp2_with (go_at_call 59; refine (high_walk _ _).mono ?_; rintro e w' ⟨rfl, rfl⟩)
    go_ret
    exact ⟨rfl, Kept.alloc _ _⟩

set_option maxRecDepth 20000 in
set_option maxHeartbeats 3200000 in
theorem right_122 (op d s t imm : Int) (w : World) : Calls Tryd.prog 44 #[.string ⟨#[122]⟩, .agg #[.int .u8 op, .int .i64 d, .int .i64 s, .int .i64 t, .int .i64 imm]] w fun e w' => e = .returned (.bool ((d != 0) && (s == 0) && (t == 0))) ∧ Kept w w' := by
  cases h0 : (d != 0) <;> cases h1 : (s == 0) <;> cases h2 : (t == 0)
  all_goals
    go_enter Tryd.func44, Tryd.ntmps44
    go_wp2_with (go_at_call 59; refine (high_walk _ _).mono ?_; rintro e w' ⟨rfl, rfl⟩)
    go_ret
    exact ⟨rfl, Kept.alloc _ _⟩

set_option maxRecDepth 20000 in
set_option maxHeartbeats 3200000 in
theorem right_117 (op d s t imm : Int) (w : World) : Calls Tryd.prog 44 #[.string ⟨#[117]⟩, .agg #[.int .u8 op, .int .i64 d, .int .i64 s, .int .i64 t, .int .i64 imm]] w fun e w' => e = .returned (.bool ((d != 0) && (d != 2) && (s == 0) && (t == 0))) ∧ Kept w w' := by
  cases h0 : (d != 0) <;> cases h1 : (d != 2) <;> cases h2 : (s == 0) <;> cases h3 : (t == 0)
  all_goals
    go_enter Tryd.func44, Tryd.ntmps44
    go_wp2_with (go_at_call 59; refine (high_walk _ _).mono ?_; rintro e w' ⟨rfl, rfl⟩)
    go_ret
    exact ⟨rfl, Kept.alloc _ _⟩

set_option maxRecDepth 20000 in
set_option maxHeartbeats 3200000 in
theorem right_112 (op d s t imm : Int) (w : World) : Calls Tryd.prog 44 #[.string ⟨#[112]⟩, .agg #[.int .u8 op, .int .i64 d, .int .i64 s, .int .i64 t, .int .i64 imm]] w fun e w' => e = .returned (.bool ((d == 2) && (s == 2) && (t == 0))) ∧ Kept w w' := by
  cases h0 : (d == 2) <;> cases h1 : (s == 2) <;> cases h2 : (t == 0)
  all_goals
    go_enter Tryd.func44, Tryd.ntmps44
    go_wp2_with (go_at_call 59; refine (high_walk _ _).mono ?_; rintro e w' ⟨rfl, rfl⟩)
    go_ret
    exact ⟨rfl, Kept.alloc _ _⟩

set_option maxRecDepth 20000 in
set_option maxHeartbeats 3200000 in
theorem right_113 (op d s t imm : Int) (w : World) : Calls Tryd.prog 44 #[.string ⟨#[113]⟩, .agg #[.int .u8 op, .int .i64 d, .int .i64 s, .int .i64 t, .int .i64 imm]] w fun e w' => e = .returned (.bool ((d == s) && highB d && (t == 0))) ∧ Kept w w' := by
  cases h0 : (d == s) <;> cases h1 : highB d <;> cases h2 : (t == 0)
  all_goals
    go_enter Tryd.func44, Tryd.ntmps44
    go_wp2_with (go_at_call 59; refine (high_walk _ _).mono ?_; rintro e w' ⟨rfl, rfl⟩)
    go_ret
    exact ⟨rfl, Kept.alloc _ _⟩

set_option maxRecDepth 20000 in
set_option maxHeartbeats 3200000 in
theorem right_109 (op d s t imm : Int) (w : World) : Calls Tryd.prog 44 #[.string ⟨#[109]⟩, .agg #[.int .u8 op, .int .i64 d, .int .i64 s, .int .i64 t, .int .i64 imm]] w fun e w' => e = .returned (.bool ((d == s) && highB d && highB t)) ∧ Kept w w' := by
  cases h0 : (d == s) <;> cases h1 : highB d <;> cases h2 : highB t
  all_goals
    go_enter Tryd.func44, Tryd.ntmps44
    go_wp2_with (go_at_call 59; refine (high_walk _ _).mono ?_; rintro e w' ⟨rfl, rfl⟩)
    go_ret
    exact ⟨rfl, Kept.alloc _ _⟩

set_option maxRecDepth 20000 in
set_option maxHeartbeats 3200000 in
theorem right_98 (op d s t imm : Int) (w : World) : Calls Tryd.prog 44 #[.string ⟨#[98]⟩, .agg #[.int .u8 op, .int .i64 d, .int .i64 s, .int .i64 t, .int .i64 imm]] w fun e w' => e = .returned (.bool ((d == 0) && highB s && (t == 0))) ∧ Kept w w' := by
  cases h0 : (d == 0) <;> cases h1 : highB s <;> cases h2 : (t == 0)
  all_goals
    go_enter Tryd.func44, Tryd.ntmps44
    go_wp2_with (go_at_call 59; refine (high_walk _ _).mono ?_; rintro e w' ⟨rfl, rfl⟩)
    go_ret
    exact ⟨rfl, Kept.alloc _ _⟩

set_option maxRecDepth 20000 in
set_option maxHeartbeats 3200000 in
theorem right_119 (op d s t imm : Int) (w : World) : Calls Tryd.prog 44 #[.string ⟨#[119]⟩, .agg #[.int .u8 op, .int .i64 d, .int .i64 s, .int .i64 t, .int .i64 imm]] w fun e w' => e = .returned (.bool ((d != 0) && (s == 2) && (t == 0))) ∧ Kept w w' := by
  cases h0 : (d != 0) <;> cases h1 : (s == 2) <;> cases h2 : (t == 0)
  all_goals
    go_enter Tryd.func44, Tryd.ntmps44
    go_wp2_with (go_at_call 59; refine (high_walk _ _).mono ?_; rintro e w' ⟨rfl, rfl⟩)
    go_ret
    exact ⟨rfl, Kept.alloc _ _⟩

set_option maxRecDepth 20000 in
set_option maxHeartbeats 3200000 in
theorem right_74 (op d s t imm : Int) (w : World) : Calls Tryd.prog 44 #[.string ⟨#[74]⟩, .agg #[.int .u8 op, .int .i64 d, .int .i64 s, .int .i64 t, .int .i64 imm]] w fun e w' => e = .returned (.bool ((d == 0) && (s != 0) && (t == 0))) ∧ Kept w w' := by
  cases h0 : (d == 0) <;> cases h1 : (s != 0) <;> cases h2 : (t == 0)
  all_goals
    go_enter Tryd.func44, Tryd.ntmps44
    go_wp2_with (go_at_call 59; refine (high_walk _ _).mono ?_; rintro e w' ⟨rfl, rfl⟩)
    go_ret
    exact ⟨rfl, Kept.alloc _ _⟩

set_option maxRecDepth 20000 in
set_option maxHeartbeats 3200000 in
theorem right_75 (op d s t imm : Int) (w : World) : Calls Tryd.prog 44 #[.string ⟨#[75]⟩, .agg #[.int .u8 op, .int .i64 d, .int .i64 s, .int .i64 t, .int .i64 imm]] w fun e w' => e = .returned (.bool ((d == 1) && (s != 0) && (t == 0))) ∧ Kept w w' := by
  cases h0 : (d == 1) <;> cases h1 : (s != 0) <;> cases h2 : (t == 0)
  all_goals
    go_enter Tryd.func44, Tryd.ntmps44
    go_wp2_with (go_at_call 59; refine (high_walk _ _).mono ?_; rintro e w' ⟨rfl, rfl⟩)
    go_ret
    exact ⟨rfl, Kept.alloc _ _⟩

set_option maxRecDepth 20000 in
set_option maxHeartbeats 3200000 in
theorem right_118 (op d s t imm : Int) (w : World) : Calls Tryd.prog 44 #[.string ⟨#[118]⟩, .agg #[.int .u8 op, .int .i64 d, .int .i64 s, .int .i64 t, .int .i64 imm]] w fun e w' => e = .returned (.bool ((d != 0) && (s == 0) && (t != 0))) ∧ Kept w w' := by
  cases h0 : (d != 0) <;> cases h1 : (s == 0) <;> cases h2 : (t != 0)
  all_goals
    go_enter Tryd.func44, Tryd.ntmps44
    go_wp2_with (go_at_call 59; refine (high_walk _ _).mono ?_; rintro e w' ⟨rfl, rfl⟩)
    go_ret
    exact ⟨rfl, Kept.alloc _ _⟩

set_option maxRecDepth 20000 in
set_option maxHeartbeats 3200000 in
theorem right_100 (op d s t imm : Int) (w : World) : Calls Tryd.prog 44 #[.string ⟨#[100]⟩, .agg #[.int .u8 op, .int .i64 d, .int .i64 s, .int .i64 t, .int .i64 imm]] w fun e w' => e = .returned (.bool ((d == s) && (d != 0) && (t != 0))) ∧ Kept w w' := by
  cases h0 : (d == s) <;> cases h1 : (d != 0) <;> cases h2 : (t != 0)
  all_goals
    go_enter Tryd.func44, Tryd.ntmps44
    go_wp2_with (go_at_call 59; refine (high_walk _ _).mono ?_; rintro e w' ⟨rfl, rfl⟩)
    go_ret
    exact ⟨rfl, Kept.alloc _ _⟩

set_option maxRecDepth 20000 in
set_option maxHeartbeats 3200000 in
theorem right_116 (op d s t imm : Int) (w : World) : Calls Tryd.prog 44 #[.string ⟨#[116]⟩, .agg #[.int .u8 op, .int .i64 d, .int .i64 s, .int .i64 t, .int .i64 imm]] w fun e w' => e = .returned (.bool ((d == 0) && (s == 2))) ∧ Kept w w' := by
  cases h0 : (d == 0) <;> cases h1 : (s == 2)
  all_goals
    go_enter Tryd.func44, Tryd.ntmps44
    go_wp2_with (go_at_call 59; refine (high_walk _ _).mono ?_; rintro e w' ⟨rfl, rfl⟩)
    go_ret
    exact ⟨rfl, Kept.alloc _ _⟩

end Go.Proofs.YtbmcanpjpibecaaDoor
