/- The document's own put: the registers that stand in a half word. -/
import Derived.Test.YtbmcanpjpibecaaDoorDn
import Derived.Deep.DeepCutAuto
namespace Go.Proofs.YtbmcanpjpibecaaDoor
open Go.RowKit

set_option maxRecDepth 20000 in
set_option maxHeartbeats 6400000 in
theorem put_97 (op imm x : Int) (h0 : 0 ≤ x) (h1 : x ≤ 65535) (w : World) :
    Calls Tryd.prog 43 #[.string ⟨#[97]⟩, insnV op 0 0 0 imm, .int .i64 x] w fun e w' => e = .returned (insnV op (x / 4 % 8 + 8) (2) (0) imm) ∧ Kept w w' := by
  go_enter Tryd.func43, Tryd.ntmps43
  go_wp2
  refine bodyPost_ret (v := insnV op (x / 4 % 8 + 8) (2) (0) imm) (by simp [results, Tryd.results43, go_sem]) rfl ⟨rfl, (Kept.alloc _ _).trans (Kept.alloc _ _)⟩

set_option maxRecDepth 20000 in
set_option maxHeartbeats 6400000 in
theorem put_108 (op imm x : Int) (h0 : 0 ≤ x) (h1 : x ≤ 65535) (w : World) :
    Calls Tryd.prog 43 #[.string ⟨#[108]⟩, insnV op 0 0 0 imm, .int .i64 x] w fun e w' => e = .returned (insnV op (x / 4 % 8 + 8) (x / 128 % 8 + 8) (0) imm) ∧ Kept w w' := by
  go_enter Tryd.func43, Tryd.ntmps43
  go_wp2
  refine bodyPost_ret (v := insnV op (x / 4 % 8 + 8) (x / 128 % 8 + 8) (0) imm) (by simp [results, Tryd.results43, go_sem]) rfl ⟨rfl, (Kept.alloc _ _).trans (Kept.alloc _ _)⟩

set_option maxRecDepth 20000 in
set_option maxHeartbeats 6400000 in
theorem put_115 (op imm x : Int) (h0 : 0 ≤ x) (h1 : x ≤ 65535) (w : World) :
    Calls Tryd.prog 43 #[.string ⟨#[115]⟩, insnV op 0 0 0 imm, .int .i64 x] w fun e w' => e = .returned (insnV op (0) (x / 128 % 8 + 8) (x / 4 % 8 + 8) imm) ∧ Kept w w' := by
  go_enter Tryd.func43, Tryd.ntmps43
  go_wp2
  refine bodyPost_ret (v := insnV op (0) (x / 128 % 8 + 8) (x / 4 % 8 + 8) imm) (by simp [results, Tryd.results43, go_sem]) rfl ⟨rfl, (Kept.alloc _ _).trans (Kept.alloc _ _)⟩

set_option maxRecDepth 20000 in
set_option maxHeartbeats 6400000 in
theorem put_110 (op imm x : Int) (h0 : 0 ≤ x) (h1 : x ≤ 65535) (w : World) :
    Calls Tryd.prog 43 #[.string ⟨#[110]⟩, insnV op 0 0 0 imm, .int .i64 x] w fun e w' => e = .returned (insnV op (0) (0) (0) imm) ∧ Kept w w' := by
  go_enter Tryd.func43, Tryd.ntmps43
  go_wp2
  refine bodyPost_ret (v := insnV op (0) (0) (0) imm) (by simp [results, Tryd.results43, go_sem]) rfl ⟨rfl, (Kept.alloc _ _).trans (Kept.alloc _ _)⟩

set_option maxRecDepth 20000 in
set_option maxHeartbeats 6400000 in
theorem put_106 (op imm x : Int) (h0 : 0 ≤ x) (h1 : x ≤ 65535) (w : World) :
    Calls Tryd.prog 43 #[.string ⟨#[106]⟩, insnV op 0 0 0 imm, .int .i64 x] w fun e w' => e = .returned (insnV op (0) (0) (0) imm) ∧ Kept w w' := by
  go_enter Tryd.func43, Tryd.ntmps43
  go_wp2
  refine bodyPost_ret (v := insnV op (0) (0) (0) imm) (by simp [results, Tryd.results43, go_sem]) rfl ⟨rfl, (Kept.alloc _ _).trans (Kept.alloc _ _)⟩

set_option maxRecDepth 20000 in
set_option maxHeartbeats 6400000 in
theorem put_114 (op imm x : Int) (h0 : 0 ≤ x) (h1 : x ≤ 65535) (w : World) :
    Calls Tryd.prog 43 #[.string ⟨#[114]⟩, insnV op 0 0 0 imm, .int .i64 x] w fun e w' => e = .returned (insnV op (x / 128 % 32) (x / 128 % 32) (0) imm) ∧ Kept w w' := by
  go_enter Tryd.func43, Tryd.ntmps43
  go_wp2
  refine bodyPost_ret (v := insnV op (x / 128 % 32) (x / 128 % 32) (0) imm) (by simp [results, Tryd.results43, go_sem]) rfl ⟨rfl, (Kept.alloc _ _).trans (Kept.alloc _ _)⟩

set_option maxRecDepth 20000 in
set_option maxHeartbeats 6400000 in
theorem put_122 (op imm x : Int) (h0 : 0 ≤ x) (h1 : x ≤ 65535) (w : World) :
    Calls Tryd.prog 43 #[.string ⟨#[122]⟩, insnV op 0 0 0 imm, .int .i64 x] w fun e w' => e = .returned (insnV op (x / 128 % 32) (0) (0) imm) ∧ Kept w w' := by
  go_enter Tryd.func43, Tryd.ntmps43
  go_wp2
  refine bodyPost_ret (v := insnV op (x / 128 % 32) (0) (0) imm) (by simp [results, Tryd.results43, go_sem]) rfl ⟨rfl, (Kept.alloc _ _).trans (Kept.alloc _ _)⟩

set_option maxRecDepth 20000 in
set_option maxHeartbeats 6400000 in
theorem put_117 (op imm x : Int) (h0 : 0 ≤ x) (h1 : x ≤ 65535) (w : World) :
    Calls Tryd.prog 43 #[.string ⟨#[117]⟩, insnV op 0 0 0 imm, .int .i64 x] w fun e w' => e = .returned (insnV op (x / 128 % 32) (0) (0) imm) ∧ Kept w w' := by
  go_enter Tryd.func43, Tryd.ntmps43
  go_wp2
  refine bodyPost_ret (v := insnV op (x / 128 % 32) (0) (0) imm) (by simp [results, Tryd.results43, go_sem]) rfl ⟨rfl, (Kept.alloc _ _).trans (Kept.alloc _ _)⟩

set_option maxRecDepth 20000 in
set_option maxHeartbeats 6400000 in
theorem put_112 (op imm x : Int) (h0 : 0 ≤ x) (h1 : x ≤ 65535) (w : World) :
    Calls Tryd.prog 43 #[.string ⟨#[112]⟩, insnV op 0 0 0 imm, .int .i64 x] w fun e w' => e = .returned (insnV op (2) (2) (0) imm) ∧ Kept w w' := by
  go_enter Tryd.func43, Tryd.ntmps43
  go_wp2
  refine bodyPost_ret (v := insnV op (2) (2) (0) imm) (by simp [results, Tryd.results43, go_sem]) rfl ⟨rfl, (Kept.alloc _ _).trans (Kept.alloc _ _)⟩

set_option maxRecDepth 20000 in
set_option maxHeartbeats 6400000 in
theorem put_113 (op imm x : Int) (h0 : 0 ≤ x) (h1 : x ≤ 65535) (w : World) :
    Calls Tryd.prog 43 #[.string ⟨#[113]⟩, insnV op 0 0 0 imm, .int .i64 x] w fun e w' => e = .returned (insnV op (x / 128 % 8 + 8) (x / 128 % 8 + 8) (0) imm) ∧ Kept w w' := by
  go_enter Tryd.func43, Tryd.ntmps43
  go_wp2
  refine bodyPost_ret (v := insnV op (x / 128 % 8 + 8) (x / 128 % 8 + 8) (0) imm) (by simp [results, Tryd.results43, go_sem]) rfl ⟨rfl, (Kept.alloc _ _).trans (Kept.alloc _ _)⟩

set_option maxRecDepth 20000 in
set_option maxHeartbeats 6400000 in
theorem put_109 (op imm x : Int) (h0 : 0 ≤ x) (h1 : x ≤ 65535) (w : World) :
    Calls Tryd.prog 43 #[.string ⟨#[109]⟩, insnV op 0 0 0 imm, .int .i64 x] w fun e w' => e = .returned (insnV op (x / 128 % 8 + 8) (x / 128 % 8 + 8) (x / 4 % 8 + 8) imm) ∧ Kept w w' := by
  go_enter Tryd.func43, Tryd.ntmps43
  go_wp2
  refine bodyPost_ret (v := insnV op (x / 128 % 8 + 8) (x / 128 % 8 + 8) (x / 4 % 8 + 8) imm) (by simp [results, Tryd.results43, go_sem]) rfl ⟨rfl, (Kept.alloc _ _).trans (Kept.alloc _ _)⟩

set_option maxRecDepth 20000 in
set_option maxHeartbeats 6400000 in
theorem put_98 (op imm x : Int) (h0 : 0 ≤ x) (h1 : x ≤ 65535) (w : World) :
    Calls Tryd.prog 43 #[.string ⟨#[98]⟩, insnV op 0 0 0 imm, .int .i64 x] w fun e w' => e = .returned (insnV op (0) (x / 128 % 8 + 8) (0) imm) ∧ Kept w w' := by
  go_enter Tryd.func43, Tryd.ntmps43
  go_wp2
  refine bodyPost_ret (v := insnV op (0) (x / 128 % 8 + 8) (0) imm) (by simp [results, Tryd.results43, go_sem]) rfl ⟨rfl, (Kept.alloc _ _).trans (Kept.alloc _ _)⟩

set_option maxRecDepth 20000 in
set_option maxHeartbeats 6400000 in
theorem put_119 (op imm x : Int) (h0 : 0 ≤ x) (h1 : x ≤ 65535) (w : World) :
    Calls Tryd.prog 43 #[.string ⟨#[119]⟩, insnV op 0 0 0 imm, .int .i64 x] w fun e w' => e = .returned (insnV op (x / 128 % 32) (2) (0) imm) ∧ Kept w w' := by
  go_enter Tryd.func43, Tryd.ntmps43
  go_wp2
  refine bodyPost_ret (v := insnV op (x / 128 % 32) (2) (0) imm) (by simp [results, Tryd.results43, go_sem]) rfl ⟨rfl, (Kept.alloc _ _).trans (Kept.alloc _ _)⟩

set_option maxRecDepth 20000 in
set_option maxHeartbeats 6400000 in
theorem put_74 (op imm x : Int) (h0 : 0 ≤ x) (h1 : x ≤ 65535) (w : World) :
    Calls Tryd.prog 43 #[.string ⟨#[74]⟩, insnV op 0 0 0 imm, .int .i64 x] w fun e w' => e = .returned (insnV op (0) (x / 128 % 32) (0) imm) ∧ Kept w w' := by
  go_enter Tryd.func43, Tryd.ntmps43
  go_wp2
  refine bodyPost_ret (v := insnV op (0) (x / 128 % 32) (0) imm) (by simp [results, Tryd.results43, go_sem]) rfl ⟨rfl, (Kept.alloc _ _).trans (Kept.alloc _ _)⟩

set_option maxRecDepth 20000 in
set_option maxHeartbeats 6400000 in
theorem put_75 (op imm x : Int) (h0 : 0 ≤ x) (h1 : x ≤ 65535) (w : World) :
    Calls Tryd.prog 43 #[.string ⟨#[75]⟩, insnV op 0 0 0 imm, .int .i64 x] w fun e w' => e = .returned (insnV op (1) (x / 128 % 32) (0) imm) ∧ Kept w w' := by
  go_enter Tryd.func43, Tryd.ntmps43
  go_wp2
  refine bodyPost_ret (v := insnV op (1) (x / 128 % 32) (0) imm) (by simp [results, Tryd.results43, go_sem]) rfl ⟨rfl, (Kept.alloc _ _).trans (Kept.alloc _ _)⟩

set_option maxRecDepth 20000 in
set_option maxHeartbeats 6400000 in
theorem put_118 (op imm x : Int) (h0 : 0 ≤ x) (h1 : x ≤ 65535) (w : World) :
    Calls Tryd.prog 43 #[.string ⟨#[118]⟩, insnV op 0 0 0 imm, .int .i64 x] w fun e w' => e = .returned (insnV op (x / 128 % 32) (0) (x / 4 % 32) imm) ∧ Kept w w' := by
  go_enter Tryd.func43, Tryd.ntmps43
  go_wp2
  refine bodyPost_ret (v := insnV op (x / 128 % 32) (0) (x / 4 % 32) imm) (by simp [results, Tryd.results43, go_sem]) rfl ⟨rfl, (Kept.alloc _ _).trans (Kept.alloc _ _)⟩

set_option maxRecDepth 20000 in
set_option maxHeartbeats 6400000 in
theorem put_100 (op imm x : Int) (h0 : 0 ≤ x) (h1 : x ≤ 65535) (w : World) :
    Calls Tryd.prog 43 #[.string ⟨#[100]⟩, insnV op 0 0 0 imm, .int .i64 x] w fun e w' => e = .returned (insnV op (x / 128 % 32) (x / 128 % 32) (x / 4 % 32) imm) ∧ Kept w w' := by
  go_enter Tryd.func43, Tryd.ntmps43
  go_wp2
  refine bodyPost_ret (v := insnV op (x / 128 % 32) (x / 128 % 32) (x / 4 % 32) imm) (by simp [results, Tryd.results43, go_sem]) rfl ⟨rfl, (Kept.alloc _ _).trans (Kept.alloc _ _)⟩

set_option maxRecDepth 20000 in
set_option maxHeartbeats 6400000 in
theorem put_116 (op imm x : Int) (h0 : 0 ≤ x) (h1 : x ≤ 65535) (w : World) :
    Calls Tryd.prog 43 #[.string ⟨#[116]⟩, insnV op 0 0 0 imm, .int .i64 x] w fun e w' => e = .returned (insnV op (0) (2) (x / 4 % 32) imm) ∧ Kept w w' := by
  go_enter Tryd.func43, Tryd.ntmps43
  go_wp2
  refine bodyPost_ret (v := insnV op (0) (2) (x / 4 % 32) imm) (by simp [results, Tryd.results43, go_sem]) rfl ⟨rfl, (Kept.alloc _ _).trans (Kept.alloc _ _)⟩

theorem put_walk6 (f : UInt8) (hf : f ∈ ([97, 108, 115, 110, 106, 114, 122, 117, 112, 113, 109, 98, 119, 74, 75, 118, 100, 116] : List UInt8)) (op imm x : Int) (h0 : 0 ≤ x) (h1 : x ≤ 65535) (w : World) :
    Calls Tryd.prog 43 #[.string ⟨#[f]⟩, insnV op 0 0 0 imm, .int .i64 x] w fun e w' => e = .returned (insnV op (oD f x) (oS f x) (oT f x) imm) ∧ Kept w w' := by
  simp only [List.mem_cons, List.not_mem_nil, or_false] at hf
  rcases hf with rfl | rfl | rfl | rfl | rfl | rfl | rfl | rfl | rfl | rfl | rfl | rfl | rfl | rfl | rfl | rfl | rfl | rfl
  · rw [show oD 97 x = x / 4 % 8 + 8 by simp [oD] <;> omega, show oS 97 x = 2 by simp [oS] <;> omega, show oT 97 x = 0 by simp [oT] <;> omega]
    exact put_97 op imm x h0 h1 w
  · rw [show oD 108 x = x / 4 % 8 + 8 by simp [oD] <;> omega, show oS 108 x = x / 128 % 8 + 8 by simp [oS] <;> omega, show oT 108 x = 0 by simp [oT] <;> omega]
    exact put_108 op imm x h0 h1 w
  · rw [show oD 115 x = 0 by simp [oD] <;> omega, show oS 115 x = x / 128 % 8 + 8 by simp [oS] <;> omega, show oT 115 x = x / 4 % 8 + 8 by simp [oT] <;> omega]
    exact put_115 op imm x h0 h1 w
  · rw [show oD 110 x = 0 by simp [oD] <;> omega, show oS 110 x = 0 by simp [oS] <;> omega, show oT 110 x = 0 by simp [oT] <;> omega]
    exact put_110 op imm x h0 h1 w
  · rw [show oD 106 x = 0 by simp [oD] <;> omega, show oS 106 x = 0 by simp [oS] <;> omega, show oT 106 x = 0 by simp [oT] <;> omega]
    exact put_106 op imm x h0 h1 w
  · rw [show oD 114 x = x / 128 % 32 by simp [oD] <;> omega, show oS 114 x = x / 128 % 32 by simp [oS] <;> omega, show oT 114 x = 0 by simp [oT] <;> omega]
    exact put_114 op imm x h0 h1 w
  · rw [show oD 122 x = x / 128 % 32 by simp [oD] <;> omega, show oS 122 x = 0 by simp [oS] <;> omega, show oT 122 x = 0 by simp [oT] <;> omega]
    exact put_122 op imm x h0 h1 w
  · rw [show oD 117 x = x / 128 % 32 by simp [oD] <;> omega, show oS 117 x = 0 by simp [oS] <;> omega, show oT 117 x = 0 by simp [oT] <;> omega]
    exact put_117 op imm x h0 h1 w
  · rw [show oD 112 x = 2 by simp [oD] <;> omega, show oS 112 x = 2 by simp [oS] <;> omega, show oT 112 x = 0 by simp [oT] <;> omega]
    exact put_112 op imm x h0 h1 w
  · rw [show oD 113 x = x / 128 % 8 + 8 by simp [oD] <;> omega, show oS 113 x = x / 128 % 8 + 8 by simp [oS] <;> omega, show oT 113 x = 0 by simp [oT] <;> omega]
    exact put_113 op imm x h0 h1 w
  · rw [show oD 109 x = x / 128 % 8 + 8 by simp [oD] <;> omega, show oS 109 x = x / 128 % 8 + 8 by simp [oS] <;> omega, show oT 109 x = x / 4 % 8 + 8 by simp [oT] <;> omega]
    exact put_109 op imm x h0 h1 w
  · rw [show oD 98 x = 0 by simp [oD] <;> omega, show oS 98 x = x / 128 % 8 + 8 by simp [oS] <;> omega, show oT 98 x = 0 by simp [oT] <;> omega]
    exact put_98 op imm x h0 h1 w
  · rw [show oD 119 x = x / 128 % 32 by simp [oD] <;> omega, show oS 119 x = 2 by simp [oS] <;> omega, show oT 119 x = 0 by simp [oT] <;> omega]
    exact put_119 op imm x h0 h1 w
  · rw [show oD 74 x = 0 by simp [oD] <;> omega, show oS 74 x = x / 128 % 32 by simp [oS] <;> omega, show oT 74 x = 0 by simp [oT] <;> omega]
    exact put_74 op imm x h0 h1 w
  · rw [show oD 75 x = 1 by simp [oD] <;> omega, show oS 75 x = x / 128 % 32 by simp [oS] <;> omega, show oT 75 x = 0 by simp [oT] <;> omega]
    exact put_75 op imm x h0 h1 w
  · rw [show oD 118 x = x / 128 % 32 by simp [oD] <;> omega, show oS 118 x = 0 by simp [oS] <;> omega, show oT 118 x = x / 4 % 32 by simp [oT] <;> omega]
    exact put_118 op imm x h0 h1 w
  · rw [show oD 100 x = x / 128 % 32 by simp [oD] <;> omega, show oS 100 x = x / 128 % 32 by simp [oS] <;> omega, show oT 100 x = x / 4 % 32 by simp [oT] <;> omega]
    exact put_100 op imm x h0 h1 w
  · rw [show oD 116 x = 0 by simp [oD] <;> omega, show oS 116 x = 2 by simp [oS] <;> omega, show oT 116 x = x / 4 % 32 by simp [oT] <;> omega]
    exact put_116 op imm x h0 h1 w
end Go.Proofs.YtbmcanpjpibecaaDoor
