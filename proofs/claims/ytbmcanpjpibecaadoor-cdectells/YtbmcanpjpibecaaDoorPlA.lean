/- What the calls of the package bits that take places, and the document's own answers, give. -/
import Derived.Test.YtbmcanpjpibecaaDoorUni
import Derived.Test.YtbmcanpjpibecaaDoorPlaces
namespace Go.Proofs.YtbmcanpjpibecaaDoor
open Go.ChangeShapes Go.WideShapes Go.ChangeAt Go.RowKit

/-- a slice of ints whose elements are p 0, p 1, ..: nothing is known of its spare room -/
def Cells (w : World) (a : Option Addr) (len : Nat) (p : Nat → Int) : Prop :=
  len = 0 ∨ ∃ b off, a = some ⟨b, off, none⟩ ∧ ∀ i, i < len → w.cell? ⟨b, off + i, none⟩ = some (.int .i64 (p i))

theorem Cells.drewN {w : World} {a : Option Addr} {len : Nat} {p : Nat → Int} (h : Cells w a len p) (m : Nat) : Cells (w.drewN m) a len p := h

theorem and_one (s q : Nat) (hs : s < 4294967296) : bits .and .u32 ((s : Int) / 2 ^ q) 1 = ((s / 2 ^ q % 2 : Nat) : Int) := by
  have := and_mask s q 1 hs (by decide)
  simpa using this

theorem check_walk_none (a : Option Addr) (cap : Nat) (p : Nat → Int) (w : World) :
    Calls Tryd.prog 53 #[.slice a 0 cap] w fun e w' => e = .returned (.int .i64 (errOf p 0)) ∧ w' = w := by
  rw [errOf_ok (by decide) (vld_zero p)]
  go_enter Tryd.func53, Tryd.ntmps53
  go_wp2
  go_loop [11] (fun i => i = .int .i64 0) (fun i => 0 - (intOf i).toNat)
  case atStart => rfl
  case round =>
    subst hrel
    go_wp2
    go_ret
    exact ⟨rfl, rfl⟩

theorem seen_hit {p : Nat → Int} {k : Nat} (hv : vld p k) (h0 : 0 ≤ p k) :
    (bits .and .u32 ((seenTo p k : Int) / 2 ^ (p k).toNat) 1 == 1) = true ↔ ∃ j, j < k ∧ p j = p k := by
  rw [and_one _ _ (seenTo_lt hv), bit_two]
  have e := seenTo_bit p k (p k).toNat
  constructor
  · intro h
    have hb : (seenTo p k).testBit (p k).toNat = true := by
      cases hb : (seenTo p k).testBit (p k).toNat with
      | true => rfl
      | false => simp [hb] at h
    obtain ⟨i, hi, hpi⟩ := e.mp hb
    exact ⟨i, hi, by have := vld_at hv hi; omega⟩
  · rintro ⟨j, hj, hp⟩
    rw [e.mpr ⟨j, hj, by rw [hp]⟩]; rfl

theorem seen_put {p : Nat → Int} {k : Nat} (hv : vld p k) (h0 : 0 ≤ p k) (h1 : p k < 32) :
    bits .or .u32 (seenTo p k : Int) (2 ^ (p k).toNat % 4294967296) = (seenTo p (k + 1) : Nat) := by
  have hq : (p k).toNat < 32 := by omega
  have hp := pow_lt32 hq
  have e : (2 : Int) ^ (p k).toNat % 4294967296 = ((2 ^ (p k).toNat : Nat) : Int) := by
    have : (2 : Int) ^ (p k).toNat = ((2 ^ (p k).toNat : Nat) : Int) := by simp
    rw [this]
    generalize 2 ^ (p k).toNat = z at *
    omega
  rw [e, u32_or_nat _ _ (seenTo_lt hv) (by omega), seenTo_succ]

theorem bad_at {p : Nat → Int} {len k : Nat} (hl : len ≤ 32) (hk : k < len) (h : p k < 0 ∨ 32 ≤ p k ∨ ∃ j, j < k ∧ p j = p k) : errOf p len = 2 := by
  refine errOf_bad (by omega) fun hv => ?_
  obtain ⟨h1, h2⟩ := hv k hk
  rcases h with h | h | ⟨j, hj, h⟩
  · omega
  · omega
  · exact h2 j hj h

theorem check_walk_some (b off len cap : Nat) (p : Nat → Int) (hl : len ≤ 32) (w : World)
    (hc : ∀ i, i < len → w.cell? ⟨b, off + i, none⟩ = some (.int .i64 (p i))) :
    Calls Tryd.prog 53 #[.slice (some ⟨b, off, none⟩) len cap] w fun e w' => e = .returned (.int .i64 (errOf p len)) ∧ w' = w := by
  go_enter Tryd.func53, Tryd.ntmps53
  go_wp2
  go_loop [3, 11] (fun s i => ∃ k : Nat, k ≤ len ∧ vld p k ∧ i = .int .i64 k ∧ s = .int .u32 (seenTo p k)) (fun _ i => len - (intOf i).toNat)
  case atStart => exact ⟨0, by omega, vld_zero p, rfl, rfl⟩
  case round =>
    obtain ⟨k, hk, hv, rfl, rfl⟩ := hrel
    have hcell : k < len → w.cell? ⟨b, off + k, none⟩ = some (.int .i64 (p k)) := fun h => hc k h
    clear hc
    go_wp2
    · have hlt : k < len := by assumption
      have h0 : 0 ≤ p k := by assumption
      have h1 : p k < 32 := by assumption
      have ht : (p k < 0 ∨ 32 ≤ p k) ∨ (bits .and .u32 ((seenTo p k : Int) / 2 ^ (p k).toNat) 1 == 1) = true := by assumption
      have ht' : (bits .and .u32 ((seenTo p k : Int) / 2 ^ (p k).toNat) 1 == 1) = true := by
        rcases ht with (h | h) | h
        · omega
        · omega
        · exact h
      rw [bad_at hl hlt (.inr (.inr ((seen_hit hv h0).mp ht')))]
      go_ret
      exact ⟨rfl, rfl⟩
    · have hlt : k < len := by assumption
      have h0 : 0 ≤ p k := by assumption
      have h1 : p k < 32 := by assumption
      have ht : (0 ≤ p k ∧ p k < 32) ∧ (bits .and .u32 ((seenTo p k : Int) / 2 ^ (p k).toNat) 1 == 1) = false := by assumption
      have hno : ∀ j, j < k → p j ≠ p k := fun j hj e => by
        have := (seen_hit hv h0).mpr ⟨j, hj, e⟩
        rw [ht.2] at this
        cases this
      rw [seen_put hv h0 h1]
      exact ⟨⟨k + 1, by omega, vld_succ hv h0 h1 hno, by go_num, rfl⟩, by simp [intOf]; omega⟩
    · have hlt : k < len := by assumption
      have h1 : 32 ≤ p k := by assumption
      rw [bad_at hl hlt (.inr (.inl h1))]
      go_ret
      exact ⟨rfl, rfl⟩
    · have hlt : k < len := by assumption
      have h1 : p k < 0 := by assumption
      rw [bad_at hl hlt (.inl h1)]
      go_ret
      exact ⟨rfl, rfl⟩
    · have hge : ¬ k < len := by assumption
      obtain rfl : k = len := by omega
      rw [errOf_ok (by omega) hv]
      go_ret
      exact ⟨rfl, rfl⟩

theorem check_walk_many (a : Option Addr) (len cap : Nat) (p : Nat → Int) (hl : 32 < len) (w : World) :
    Calls Tryd.prog 53 #[.slice a len cap] w fun e w' => e = .returned (.int .i64 (errOf p len)) ∧ w' = w := by
  rw [errOf_many hl]
  go_enter Tryd.func53, Tryd.ntmps53
  go_wp2
  go_ret
  exact ⟨rfl, rfl⟩

theorem chkPl_walk (a : Option Addr) (len cap : Nat) (p : Nat → Int) (w : World) (hc : Cells w a len p) :
    Calls Tryd.prog 53 #[.slice a len cap] w fun e w' => e = .returned (.int .i64 (errOf p len)) ∧ w' = w := by
  by_cases hl : 32 < len
  · exact check_walk_many a len cap p hl w
  · rcases hc with rfl | ⟨b, off, rfl, hc⟩
    · exact check_walk_none a cap p w
    · exact check_walk_some b off len cap p (by omega) w hc
end Go.Proofs.YtbmcanpjpibecaaDoor
