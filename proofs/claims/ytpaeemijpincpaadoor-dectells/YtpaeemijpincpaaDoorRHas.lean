/- What the document's own 'has' and Fixed give. -/
import Derived.Test.YtpaeemijpincpaaDoorIns
import Derived.Test.YtpaeemijpincpaaDoorRW
namespace Go.Proofs.YtpaeemijpincpaaDoor
open Go.RowKit

/-- The first instruction of a form. -/
def fIx (c : Int) : Nat := (List.range 94).findIdx (fun k => (formC k : Int) == c)
theorem fIx_lt : ∀ c ∈ letters, fIx c < 94 := by decide +kernel
theorem fIx_form : ∀ c ∈ letters, (formC (fIx c) : Int) = c := by decide +kernel
theorem fIx_miss {c : Int} {k : Nat} (h : k < fIx c) : ((formC k : Int) != c) = true := by
  have h1 := List.not_of_lt_findIdx (xs := List.range 94) (p := fun k => (formC k : Int) == c) h
  have h2 := List.findIdx_le_length (xs := List.range 94) (p := fun k => (formC k : Int) == c)
  simpa using h1
theorem may_rd : ∀ k : Nat, k < 94 → mayB ((k : Int) + 1) 1 0 0 0 = hasRd (formC k) := by decide +kernel
theorem may_rs1 : ∀ k : Nat, k < 94 → mayB ((k : Int) + 1) 0 1 0 0 = hasRs1 (formC k) := by decide +kernel
theorem may_rs2 : ∀ k : Nat, k < 94 → mayB ((k : Int) + 1) 0 0 1 0 = hasRs2 (formC k) := by decide +kernel
theorem rform_k {k : Nat} (hk : k < 94) (w : World) :
    Calls Tryd.prog 40 #[.int .u8 ((k : Int) + 1)] w fun e w' => e = .returned (.tuple #[.int .u8 (formC k), .int .i64 0]) ∧ Kept w w' := by
  have h := refForm_walk ((k : Int) + 1) (by omega) (by omega) w
  have e2 : opErr ((k : Int) + 1) = 0 := by unfold opErr; rw [if_pos (isOp_succ hk)]
  rwa [formV_succ hk, e2] at h

set_option maxRecDepth 20000 in
set_option maxHeartbeats 1600000 in
theorem has_walk (c : Int) (hc : c ∈ letters) (w : World) :
    Calls Tryd.prog 25 #[.int .u8 c] w fun e w' => e = .returned (.tuple #[.bool (hasRd c), .bool (hasRs1 c), .bool (hasRs2 c)]) ∧ Kept w w' := by
  have hl := fIx_lt c hc
  go_enter Tryd.func25, Tryd.ntmps25
  go_wp2
  go_loopw [9] (fun i wr => ∃ k : Nat, k ≤ fIx c ∧ i = .int .u8 ((k : Int) + 1) ∧ Kept w wr ∧ Box wr w.heap.size 0 1 0 0 0) (fun i _ => 95 - (intOf i).toNat)
  case atStart =>
    refine ⟨0, by omega, rfl, Kept.alloc _ _, ?_⟩
    constructor <;> simp
  case round =>
    obtain ⟨k, hk, rfl, hK, hB⟩ := hrel
    have hk94 : k < 94 := by omega
    rcases Nat.lt_or_ge k (fIx c) with hlt | hge
    · have hm := fIx_miss hlt
      go_wp2_with (go_at_call 40; refine (rform_k hk94 _).mono ?_; rintro e w2 ⟨rfl, hk2⟩)
      exact ⟨⟨k + 1, by omega, by simp, hK.trans hk2, hB.kept hk2⟩, by simp [intOf]; omega⟩
    · have hkk : fIx c = k := by omega
      have hf : (formC k : Int) = c := by rw [← hkk]; exact fIx_form c hc
      have hm : ((formC k : Int) != c) = false := by rw [hf]; exact bne_self_eq_false _
      have m1 := may_rd k hk94
      have m2 := may_rs1 k hk94
      have m3 := may_rs2 k hk94
      rw [hf] at m1 m2 m3
      have h0 : (0 : Int) ≤ (k : Int) + 1 := by omega
      have h1 : (k : Int) + 1 ≤ 255 := by omega
      clear hf hkk
      go_wp2_with (first
        | (go_at_call 40; refine (rform_k hk94 _).mono ?_; rintro e w2 ⟨rfl, hk2⟩; have hB2 := hB.kept hk2; have hK2 := hK.trans hk2; have hBx := hB2; obtain ⟨c0, c1, c2, c3, c4, f0, f1, f2, f3, f4⟩ := hBx)
        | (go_at_call 44; refine (mayRef_walk _ _ _ _ _ h0 h1 _).mono ?_; rintro e w3 ⟨rfl, hk3⟩; have hB3 := (hB2.put _ _ _ _ _).kept hk3; have hK3 := Kept.trans (below_put hK2 (Nat.le_refl _) _ _ _ _ _) hk3; clear c0 c1 c2 c3 c4 f0 f1 f2 f3 f4 hB2 hK2 hk3; have hB2 := hB3; have hK2 := hK3; clear hB3 hK3; have hBx := hB2; obtain ⟨c0, c1, c2, c3, c4, f0, f1, f2, f3, f4⟩ := hBx))
      go_ret3
      exact ⟨rfl, hK2⟩
end Go.Proofs.YtpaeemijpincpaaDoor
