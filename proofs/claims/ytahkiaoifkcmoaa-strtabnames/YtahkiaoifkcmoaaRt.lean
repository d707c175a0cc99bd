/- The document's own: the text at a place, the name at a place; which names may be; whether two lists are the same; which names are great. -/
import Derived.Test.YtahkiaoifkcmoaaGt
namespace Go.Proofs.Ytahkiaoifkcmoaa
open Go.RowKit

/-- Ahead of its end a name has no 0; at its end there is one. -/
theorem nmAt_ne {l : List Int} (h : chkB l = true) {p : Nat} (hp : p < l.length) {i : Nat} (hi : i < (nmAt l p).length) : l.getD (p + i) 0 ≠ 0 := by
  rw [nmAt_getD h hp hi]
  have : (nmAt l p).getD i 0 = (nmAt l p)[i] := by simp [List.getD, hi]
  rw [this]
  exact nmAt_no0 l p _ (List.getElem_mem hi)
theorem nmAt_eq {l : List Int} (h : chkB l = true) {p : Nat} (hp : p < l.length) : p + (nmAt l p).length < l.length ∧ l.getD (p + (nmAt l p).length) 0 = 0 := by
  obtain ⟨h0, hl⟩ := chk_last h
  obtain ⟨h1, h2, _⟩ := nmAt_end h0 hl p hp
  exact ⟨h1, by rw [getD_any h1 0 1]; exact h2⟩

set_option maxHeartbeats 1600000 in
theorem texts_walk (b off n cap p : Nat) (l : List Int) (w : World) (hl : l.length = n) (hcap : n ≤ cap) (hc : chkB l = true) (hp : p < n)
    (hcell : ∀ i, i < l.length → w.cell? ⟨b, off + i, none⟩ = some (.int .u8 (l.getD i 0))) :
    Calls Try.prog 23 #[.slice (some ⟨b, off, none⟩) n cap, .int .i64 (p : Int)] w fun e w' => e = .returned (.tuple #[.string (strOfNums (nmAt l p)), .bool true]) ∧ w' = w := by
  have hn := (chk_true hc).2.1
  obtain ⟨e1, e2⟩ := nmAt_eq hc (show p < l.length by omega)
  have hB : Byt w (some ⟨b, off + p, none⟩) (nmAt l p) := .inr ⟨b, off + p, rfl, fun i hi => by
    rw [Nat.add_assoc, hcell (p + i) (by omega), nmAt_getD hc (by omega) hi]⟩
  have hS := str_run w (some ⟨b, off + p, none⟩) (nmAt l p) (cap - p) hB
  have hne : ∀ i, i < (nmAt l p).length → l.getD (p + i) 0 ≠ 0 := fun i hi => nmAt_ne hc (by omega) hi
  obtain ⟨q, hq⟩ : ∃ q, (nmAt l p).length = q := ⟨_, rfl⟩
  obtain ⟨s, hs⟩ : ∃ s, strOfNums (nmAt l p) = s := ⟨_, rfl⟩
  rw [hq] at hS e1 e2 hne
  rw [hs] at hS ⊢
  rw [hl] at hn e1 hcell
  clear hB hq hs hc
  go_enter Try.func23, Try.ntmps23
  go_wp2
  go_loop [6] (fun i => ∃ j : Nat, p ≤ j ∧ j ≤ p + q ∧ i = .int .i64 j) (fun i => p + q - (intOf i).toNat)
  case atStart => exact ⟨p, Nat.le_refl _, by omega, rfl⟩
  case round =>
    obtain ⟨j, hj0, hj1, rfl⟩ := hrel
    have hcj := hcell j (by omega)
    by_cases hlt : j < p + q
    · have hx : l.getD j 0 ≠ 0 := by have := hne (j - p) (by omega); rwa [show p + (j - p) = j by omega] at this
      obtain ⟨x, hxe⟩ : ∃ x, l.getD j 0 = x := ⟨_, rfl⟩
      rw [hxe] at hcj hx
      have hx' : (x == 0) = false := by simpa using hx
      have hjn : j < n := by omega
      clear hxe hcell hne
      go_wp2
      go_round
      case rel => exact ⟨j + 1, by omega, by omega, by go_num⟩
      case measure => simp [intOf]; omega
    · obtain rfl : j = p + q := by omega
      rw [e2] at hcj
      have h1 : p + q - p = q := by omega
      have hpc : p < cap := by omega
      have hqc : p + q ≤ cap := by omega
      clear hcell hne
      go_wp2
      go_ret2
      exact ⟨rfl, rfl⟩
end Go.Proofs.Ytahkiaoifkcmoaa
