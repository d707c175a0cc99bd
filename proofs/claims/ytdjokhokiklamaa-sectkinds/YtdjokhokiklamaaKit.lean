/- What all the laws of sect lean on. -/
import Derived.Test.YtdjokhokiklamaaSa
import Derived.Test.YtdjokhokiklamaaRe
import Derived.Test.YtdjokhokiklamaaCi
import Derived.Test.YtdjokhokiklamaaOp
namespace Go.Proofs.Ytdjokhokiklamaa
open Go.RowKit

def lData : ByteArray := ⟨#[46, 100, 97, 116, 97, 46, 120]⟩
theorem kind_data_x : kindN (nm ⟨#[46, 100, 97, 116, 97, 46, 120]⟩) = 3 ∧ kE (nm ⟨#[46, 100, 97, 116, 97, 46, 120]⟩) = 0 := by decide +kernel
def v1 : List Int := [0, 0, 0, 0, 0, 1, 0, 0, 0, 0]
theorem v1_all : wrE v1 = 0 ∧ (wrL v1).length = 64 ∧ (wrL v1).getD 32 0 = 1 ∧ ∀ n ∈ v1, -9223372036854775808 ≤ n ∧ n ≤ 9223372036854775807 := by decide +kernel

set_option maxHeartbeats 1600000 in
theorem alive_walk (w : World) : Calls Try.prog 12 #[] w fun e w' => e = .returned (.bool true) ∧ Kept w w' := by
  have hK := fun w => kind_walk ⟨#[46, 100, 97, 116, 97, 46, 120]⟩ w (by decide)
  rw [kind_data_x.1, kind_data_x.2] at hK
  have hW := fun w => write_walk 0 0 0 0 0 1 0 0 0 0 v1 w rfl v1_all.2.2.2
  rw [v1_all.1] at hW
  go_enter Try.func12, Try.ntmps12
  go_upto_region 2 with (go_at_call 9; refine (hK _).mono ?_; rintro e w1 ⟨rfl, k1⟩)
  go_upto_region 3 with (go_at_call 19; refine (hW _).mono ?_; rintro e w2 ⟨x, rfl, O2, k2⟩)
  obtain ⟨g, cap, rfl, hcap, _, _, hc⟩ := O2.some (by rw [v1_all.2.1]; decide)
  have c32 := hc 32 (by rw [v1_all.2.1]; decide)
  rw [v1_all.2.2.1] at c32
  rw [v1_all.2.1] at hcap ⊢
  have hc0 : (32 : Int) < (cap : Int) := by omega
  clear hK hW O2 hc
  go_wp2
  go_ret
  exact ⟨rfl, k1.trans k2⟩
end Go.Proofs.Ytdjokhokiklamaa
