/- Where registers stand, by the document. -/
import Derived.Test.YtbmcanpjpibecaaDoorRs
namespace Go.Proofs.YtbmcanpjpibecaaDoor
open Go.RowKit

def lowV (f : UInt8) (d _s t : Int) : Int :=
  if f = 97 then d - 8 else
  if f = 108 then d - 8 else
  if f = 115 then t - 8 else
  if f = 109 then t - 8 else
  if f = 118 then t else
  if f = 100 then t else
  if f = 116 then t else
  0

def hiV (f : UInt8) (d s _t : Int) : Int :=
  if f = 108 then s - 8 else
  if f = 115 then s - 8 else
  if f = 114 then d else
  if f = 122 then d else
  if f = 117 then d else
  if f = 119 then d else
  if f = 113 then d - 8 else
  if f = 109 then d - 8 else
  if f = 98 then s - 8 else
  if f = 74 then s else
  if f = 75 then s else
  if f = 118 then d else
  if f = 100 then d else
  0

set_option maxRecDepth 20000 in
theorem stand_97 (op d s t imm : Int) (hd : 0 ≤ d ∧ d ≤ 31) (_hs : 0 ≤ s ∧ s ≤ 31) (_ht : 0 ≤ t ∧ t ≤ 31) (w : World) : Calls Tryd.prog 61 #[.string ⟨#[97]⟩, .agg #[.int .u8 op, .int .i64 d, .int .i64 s, .int .i64 t, .int .i64 imm]] w fun e w' => e = .returned (.tuple #[.int .i64 (d - 8), .int .i64 (0)]) ∧ Kept w w' := by
  go_enter Tryd.func61, Tryd.ntmps61
  go_wp2
  try (go_big_quiet (fail); go_wp2)
  go_ret2
  first
  | exact ⟨rfl, Kept.alloc _ _⟩
  | exact ⟨rfl, Kept.trans (Kept.alloc _ _) (Kept.drewN _ _)⟩

set_option maxRecDepth 20000 in
theorem stand_108 (op d s t imm : Int) (hd : 0 ≤ d ∧ d ≤ 31) (hs : 0 ≤ s ∧ s ≤ 31) (_ht : 0 ≤ t ∧ t ≤ 31) (w : World) : Calls Tryd.prog 61 #[.string ⟨#[108]⟩, .agg #[.int .u8 op, .int .i64 d, .int .i64 s, .int .i64 t, .int .i64 imm]] w fun e w' => e = .returned (.tuple #[.int .i64 (d - 8), .int .i64 (s - 8)]) ∧ Kept w w' := by
  go_enter Tryd.func61, Tryd.ntmps61
  go_wp2
  try (go_big_quiet (fail); go_wp2)
  go_ret2
  first
  | exact ⟨rfl, Kept.alloc _ _⟩
  | exact ⟨rfl, Kept.trans (Kept.alloc _ _) (Kept.drewN _ _)⟩

set_option maxRecDepth 20000 in
theorem stand_115 (op d s t imm : Int) (_hd : 0 ≤ d ∧ d ≤ 31) (hs : 0 ≤ s ∧ s ≤ 31) (ht : 0 ≤ t ∧ t ≤ 31) (w : World) : Calls Tryd.prog 61 #[.string ⟨#[115]⟩, .agg #[.int .u8 op, .int .i64 d, .int .i64 s, .int .i64 t, .int .i64 imm]] w fun e w' => e = .returned (.tuple #[.int .i64 (t - 8), .int .i64 (s - 8)]) ∧ Kept w w' := by
  go_enter Tryd.func61, Tryd.ntmps61
  go_wp2
  try (go_big_quiet (fail); go_wp2)
  go_ret2
  first
  | exact ⟨rfl, Kept.alloc _ _⟩
  | exact ⟨rfl, Kept.trans (Kept.alloc _ _) (Kept.drewN _ _)⟩

set_option maxRecDepth 20000 in
theorem stand_114 (op d s t imm : Int) (_hd : 0 ≤ d ∧ d ≤ 31) (_hs : 0 ≤ s ∧ s ≤ 31) (_ht : 0 ≤ t ∧ t ≤ 31) (w : World) : Calls Tryd.prog 61 #[.string ⟨#[114]⟩, .agg #[.int .u8 op, .int .i64 d, .int .i64 s, .int .i64 t, .int .i64 imm]] w fun e w' => e = .returned (.tuple #[.int .i64 (0), .int .i64 (d)]) ∧ Kept w w' := by
  go_enter Tryd.func61, Tryd.ntmps61
  go_wp2
  try (go_big_quiet (fail); go_wp2)
  go_ret2
  first
  | exact ⟨rfl, Kept.alloc _ _⟩
  | exact ⟨rfl, Kept.trans (Kept.alloc _ _) (Kept.drewN _ _)⟩

set_option maxRecDepth 20000 in
theorem stand_122 (op d s t imm : Int) (_hd : 0 ≤ d ∧ d ≤ 31) (_hs : 0 ≤ s ∧ s ≤ 31) (_ht : 0 ≤ t ∧ t ≤ 31) (w : World) : Calls Tryd.prog 61 #[.string ⟨#[122]⟩, .agg #[.int .u8 op, .int .i64 d, .int .i64 s, .int .i64 t, .int .i64 imm]] w fun e w' => e = .returned (.tuple #[.int .i64 (0), .int .i64 (d)]) ∧ Kept w w' := by
  go_enter Tryd.func61, Tryd.ntmps61
  go_wp2
  try (go_big_quiet (fail); go_wp2)
  go_ret2
  first
  | exact ⟨rfl, Kept.alloc _ _⟩
  | exact ⟨rfl, Kept.trans (Kept.alloc _ _) (Kept.drewN _ _)⟩

set_option maxRecDepth 20000 in
theorem stand_117 (op d s t imm : Int) (_hd : 0 ≤ d ∧ d ≤ 31) (_hs : 0 ≤ s ∧ s ≤ 31) (_ht : 0 ≤ t ∧ t ≤ 31) (w : World) : Calls Tryd.prog 61 #[.string ⟨#[117]⟩, .agg #[.int .u8 op, .int .i64 d, .int .i64 s, .int .i64 t, .int .i64 imm]] w fun e w' => e = .returned (.tuple #[.int .i64 (0), .int .i64 (d)]) ∧ Kept w w' := by
  go_enter Tryd.func61, Tryd.ntmps61
  go_wp2
  try (go_big_quiet (fail); go_wp2)
  go_ret2
  first
  | exact ⟨rfl, Kept.alloc _ _⟩
  | exact ⟨rfl, Kept.trans (Kept.alloc _ _) (Kept.drewN _ _)⟩

set_option maxRecDepth 20000 in
theorem stand_119 (op d s t imm : Int) (_hd : 0 ≤ d ∧ d ≤ 31) (_hs : 0 ≤ s ∧ s ≤ 31) (_ht : 0 ≤ t ∧ t ≤ 31) (w : World) : Calls Tryd.prog 61 #[.string ⟨#[119]⟩, .agg #[.int .u8 op, .int .i64 d, .int .i64 s, .int .i64 t, .int .i64 imm]] w fun e w' => e = .returned (.tuple #[.int .i64 (0), .int .i64 (d)]) ∧ Kept w w' := by
  go_enter Tryd.func61, Tryd.ntmps61
  go_wp2
  try (go_big_quiet (fail); go_wp2)
  go_ret2
  first
  | exact ⟨rfl, Kept.alloc _ _⟩
  | exact ⟨rfl, Kept.trans (Kept.alloc _ _) (Kept.drewN _ _)⟩

set_option maxRecDepth 20000 in
theorem stand_113 (op d s t imm : Int) (hd : 0 ≤ d ∧ d ≤ 31) (_hs : 0 ≤ s ∧ s ≤ 31) (_ht : 0 ≤ t ∧ t ≤ 31) (w : World) : Calls Tryd.prog 61 #[.string ⟨#[113]⟩, .agg #[.int .u8 op, .int .i64 d, .int .i64 s, .int .i64 t, .int .i64 imm]] w fun e w' => e = .returned (.tuple #[.int .i64 (0), .int .i64 (d - 8)]) ∧ Kept w w' := by
  go_enter Tryd.func61, Tryd.ntmps61
  go_wp2
  try (go_big_quiet (fail); go_wp2)
  go_ret2
  first
  | exact ⟨rfl, Kept.alloc _ _⟩
  | exact ⟨rfl, Kept.trans (Kept.alloc _ _) (Kept.drewN _ _)⟩

set_option maxRecDepth 20000 in
theorem stand_109 (op d s t imm : Int) (hd : 0 ≤ d ∧ d ≤ 31) (_hs : 0 ≤ s ∧ s ≤ 31) (ht : 0 ≤ t ∧ t ≤ 31) (w : World) : Calls Tryd.prog 61 #[.string ⟨#[109]⟩, .agg #[.int .u8 op, .int .i64 d, .int .i64 s, .int .i64 t, .int .i64 imm]] w fun e w' => e = .returned (.tuple #[.int .i64 (t - 8), .int .i64 (d - 8)]) ∧ Kept w w' := by
  go_enter Tryd.func61, Tryd.ntmps61
  go_wp2
  try (go_big_quiet (fail); go_wp2)
  go_ret2
  first
  | exact ⟨rfl, Kept.alloc _ _⟩
  | exact ⟨rfl, Kept.trans (Kept.alloc _ _) (Kept.drewN _ _)⟩

set_option maxRecDepth 20000 in
theorem stand_98 (op d s t imm : Int) (_hd : 0 ≤ d ∧ d ≤ 31) (hs : 0 ≤ s ∧ s ≤ 31) (_ht : 0 ≤ t ∧ t ≤ 31) (w : World) : Calls Tryd.prog 61 #[.string ⟨#[98]⟩, .agg #[.int .u8 op, .int .i64 d, .int .i64 s, .int .i64 t, .int .i64 imm]] w fun e w' => e = .returned (.tuple #[.int .i64 (0), .int .i64 (s - 8)]) ∧ Kept w w' := by
  go_enter Tryd.func61, Tryd.ntmps61
  go_wp2
  try (go_big_quiet (fail); go_wp2)
  go_ret2
  first
  | exact ⟨rfl, Kept.alloc _ _⟩
  | exact ⟨rfl, Kept.trans (Kept.alloc _ _) (Kept.drewN _ _)⟩

set_option maxRecDepth 20000 in
theorem stand_74 (op d s t imm : Int) (_hd : 0 ≤ d ∧ d ≤ 31) (_hs : 0 ≤ s ∧ s ≤ 31) (_ht : 0 ≤ t ∧ t ≤ 31) (w : World) : Calls Tryd.prog 61 #[.string ⟨#[74]⟩, .agg #[.int .u8 op, .int .i64 d, .int .i64 s, .int .i64 t, .int .i64 imm]] w fun e w' => e = .returned (.tuple #[.int .i64 (0), .int .i64 (s)]) ∧ Kept w w' := by
  go_enter Tryd.func61, Tryd.ntmps61
  go_wp2
  try (go_big_quiet (fail); go_wp2)
  go_ret2
  first
  | exact ⟨rfl, Kept.alloc _ _⟩
  | exact ⟨rfl, Kept.trans (Kept.alloc _ _) (Kept.drewN _ _)⟩

set_option maxRecDepth 20000 in
theorem stand_75 (op d s t imm : Int) (_hd : 0 ≤ d ∧ d ≤ 31) (_hs : 0 ≤ s ∧ s ≤ 31) (_ht : 0 ≤ t ∧ t ≤ 31) (w : World) : Calls Tryd.prog 61 #[.string ⟨#[75]⟩, .agg #[.int .u8 op, .int .i64 d, .int .i64 s, .int .i64 t, .int .i64 imm]] w fun e w' => e = .returned (.tuple #[.int .i64 (0), .int .i64 (s)]) ∧ Kept w w' := by
  go_enter Tryd.func61, Tryd.ntmps61
  go_wp2
  try (go_big_quiet (fail); go_wp2)
  go_ret2
  first
  | exact ⟨rfl, Kept.alloc _ _⟩
  | exact ⟨rfl, Kept.trans (Kept.alloc _ _) (Kept.drewN _ _)⟩

set_option maxRecDepth 20000 in
theorem stand_118 (op d s t imm : Int) (_hd : 0 ≤ d ∧ d ≤ 31) (_hs : 0 ≤ s ∧ s ≤ 31) (_ht : 0 ≤ t ∧ t ≤ 31) (w : World) : Calls Tryd.prog 61 #[.string ⟨#[118]⟩, .agg #[.int .u8 op, .int .i64 d, .int .i64 s, .int .i64 t, .int .i64 imm]] w fun e w' => e = .returned (.tuple #[.int .i64 (t), .int .i64 (d)]) ∧ Kept w w' := by
  go_enter Tryd.func61, Tryd.ntmps61
  go_wp2
  try (go_big_quiet (fail); go_wp2)
  go_ret2
  first
  | exact ⟨rfl, Kept.alloc _ _⟩
  | exact ⟨rfl, Kept.trans (Kept.alloc _ _) (Kept.drewN _ _)⟩

set_option maxRecDepth 20000 in
theorem stand_100 (op d s t imm : Int) (_hd : 0 ≤ d ∧ d ≤ 31) (_hs : 0 ≤ s ∧ s ≤ 31) (_ht : 0 ≤ t ∧ t ≤ 31) (w : World) : Calls Tryd.prog 61 #[.string ⟨#[100]⟩, .agg #[.int .u8 op, .int .i64 d, .int .i64 s, .int .i64 t, .int .i64 imm]] w fun e w' => e = .returned (.tuple #[.int .i64 (t), .int .i64 (d)]) ∧ Kept w w' := by
  go_enter Tryd.func61, Tryd.ntmps61
  go_wp2
  try (go_big_quiet (fail); go_wp2)
  go_ret2
  first
  | exact ⟨rfl, Kept.alloc _ _⟩
  | exact ⟨rfl, Kept.trans (Kept.alloc _ _) (Kept.drewN _ _)⟩

set_option maxRecDepth 20000 in
theorem stand_116 (op d s t imm : Int) (_hd : 0 ≤ d ∧ d ≤ 31) (_hs : 0 ≤ s ∧ s ≤ 31) (_ht : 0 ≤ t ∧ t ≤ 31) (w : World) : Calls Tryd.prog 61 #[.string ⟨#[116]⟩, .agg #[.int .u8 op, .int .i64 d, .int .i64 s, .int .i64 t, .int .i64 imm]] w fun e w' => e = .returned (.tuple #[.int .i64 (t), .int .i64 (0)]) ∧ Kept w w' := by
  go_enter Tryd.func61, Tryd.ntmps61
  go_wp2
  try (go_big_quiet (fail); go_wp2)
  go_ret2
  first
  | exact ⟨rfl, Kept.alloc _ _⟩
  | exact ⟨rfl, Kept.trans (Kept.alloc _ _) (Kept.drewN _ _)⟩

set_option maxRecDepth 20000 in
theorem stand_110 (op d s t imm : Int) (_hd : 0 ≤ d ∧ d ≤ 31) (_hs : 0 ≤ s ∧ s ≤ 31) (_ht : 0 ≤ t ∧ t ≤ 31) (w : World) : Calls Tryd.prog 61 #[.string ⟨#[110]⟩, .agg #[.int .u8 op, .int .i64 d, .int .i64 s, .int .i64 t, .int .i64 imm]] w fun e w' => e = .returned (.tuple #[.int .i64 (0), .int .i64 (0)]) ∧ Kept w w' := by
  go_enter Tryd.func61, Tryd.ntmps61
  go_wp2
  try (go_big_quiet (fail); go_wp2)
  go_ret2
  first
  | exact ⟨rfl, Kept.alloc _ _⟩
  | exact ⟨rfl, Kept.trans (Kept.alloc _ _) (Kept.drewN _ _)⟩

set_option maxRecDepth 20000 in
theorem stand_106 (op d s t imm : Int) (_hd : 0 ≤ d ∧ d ≤ 31) (_hs : 0 ≤ s ∧ s ≤ 31) (_ht : 0 ≤ t ∧ t ≤ 31) (w : World) : Calls Tryd.prog 61 #[.string ⟨#[106]⟩, .agg #[.int .u8 op, .int .i64 d, .int .i64 s, .int .i64 t, .int .i64 imm]] w fun e w' => e = .returned (.tuple #[.int .i64 (0), .int .i64 (0)]) ∧ Kept w w' := by
  go_enter Tryd.func61, Tryd.ntmps61
  go_wp2
  try (go_big_quiet (fail); go_wp2)
  go_ret2
  first
  | exact ⟨rfl, Kept.alloc _ _⟩
  | exact ⟨rfl, Kept.trans (Kept.alloc _ _) (Kept.drewN _ _)⟩

set_option maxRecDepth 20000 in
theorem stand_112 (op d s t imm : Int) (_hd : 0 ≤ d ∧ d ≤ 31) (_hs : 0 ≤ s ∧ s ≤ 31) (_ht : 0 ≤ t ∧ t ≤ 31) (w : World) : Calls Tryd.prog 61 #[.string ⟨#[112]⟩, .agg #[.int .u8 op, .int .i64 d, .int .i64 s, .int .i64 t, .int .i64 imm]] w fun e w' => e = .returned (.tuple #[.int .i64 (0), .int .i64 (0)]) ∧ Kept w w' := by
  go_enter Tryd.func61, Tryd.ntmps61
  go_wp2
  try (go_big_quiet (fail); go_wp2)
  go_ret2
  first
  | exact ⟨rfl, Kept.alloc _ _⟩
  | exact ⟨rfl, Kept.trans (Kept.alloc _ _) (Kept.drewN _ _)⟩

end Go.Proofs.YtbmcanpjpibecaaDoor
