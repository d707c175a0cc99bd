/- The law's first example: a file's first bytes. -/
import Derived.Test.YtljmgbpecoifnaaGreatDoorKt
namespace Go.Proofs.YtljmgbpecoifnaaGreatDoor
open Go.RowKit

def obE : ObjV := ⟨[], none, 0, 0, [], none, 0, 0, [], none, 0, 0, [], none, 0, 0⟩
theorem obE_ok (w : World) : ObjOk w obE := ⟨.inl rfl, .inl rfl, .inl rfl, .inl rfl, ⟨Nat.le_refl _, Nat.zero_le _, fun _ => ⟨rfl, rfl⟩⟩, ⟨Nat.le_refl _, Nat.zero_le _, fun _ => ⟨rfl, rfl⟩⟩, ⟨Nat.le_refl _, Nat.zero_le _, fun _ => ⟨rfl, rfl⟩⟩, ⟨Nat.le_refl _, Nat.zero_le _, fun _ => ⟨rfl, rfl⟩⟩, rfl, rfl, rfl, rfl⟩
theorem obE_all : woE obE.m = 0 ∧ (woL obE.m).length = 376 ∧ (woL obE.m).take 8 = [127, 69, 76, 70, 2, 1, 1, 0] ∧ (woL obE.m).getD 60 0 = 4 := by decide +kernel
theorem obE_str : strOfNums [127, 69, 76, 70, 2, 1, 1, 0] = ⟨#[127, 69, 76, 70, 2, 1, 1, 0]⟩ := by kernel_rfl
set_option maxRecDepth 20000 in
set_option maxHeartbeats 1600000 in
theorem alive_walk (w : World) (hT : Tabs w) : Calls Tryz.prog 11 #[] w fun e w' => e = .returned (.bool true) ∧ Kept w w' := by
  have hW := write_obj obE w (obE_ok w) hT
  obtain ⟨e1, e2, e3, e4⟩ := obE_all
  rw [e1] at hW
  obtain ⟨L, hL⟩ : ∃ L, woL obE.m = L := ⟨_, rfl⟩
  rw [hL] at hW e2 e3 e4
  clear hL
  go_enter Tryz.func11, Tryz.ntmps11
  go_upto_region 2 with (go_at_call 10; refine hW.mono ?_; rintro e w1 ⟨x1, rfl, O1, k1⟩)
  obtain ⟨g, C, hx, hc, _, _, hcell⟩ := O1.some (by rw [e2]; decide)
  rw [e2] at hx hc
  subst hx
  have c60 := hcell 60 (by rw [e2]; decide)
  rw [e4] at c60
  have y8 : Byt w1 (some ⟨g, 0, none⟩) (L.take 8) := .inr ⟨g, 0, rfl, fun i hi => by
    have hi' : i < 8 := by rw [List.length_take] at hi; omega
    rw [Nat.zero_add, hcell i (by omega)]
    congr 2
    rw [List.getD, List.getD, List.getElem?_take_of_lt hi']⟩
  rw [e3] at y8
  have S1 := str_len (cap := C) (show List.length [127, 69, 76, 70, 2, 1, 1, 0] = 8 from rfl) y8
  rw [obE_str] at S1
  clear O1 hW hT e1 e2 e3 e4 y8 hcell
  trace_state
  go_wp2
  go_ret
  exact ⟨rfl, k1⟩
end Go.Proofs.YtljmgbpecoifnaaGreatDoor
