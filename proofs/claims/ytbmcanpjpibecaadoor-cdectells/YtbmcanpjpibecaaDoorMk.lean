/- The document's own mask: the bits of a row that are no field's. -/
import Derived.Test.YtbmcanpjpibecaaDoorBo
import Derived.Deep.DeepCutAuto
namespace Go.Proofs.YtbmcanpjpibecaaDoor
open Go.RowKit

theorem two_p (p : Int) (h0 : 0 ≤ p) (h1 : p ≤ 12) (w : World) : Calls Tryd.prog 55 #[.int .i64 p] w fun e w' => e = .returned (.int .i64 (2 ^ p.toNat)) ∧ w' = w := by
  have h := two_walk_at p.toNat (by omega) w
  rwa [Int.toNat_of_nonneg h0] at h
def sumP (p : Nat → Int) : Nat → Int
  | 0 => 0
  | j + 1 => sumP p j + 2 ^ (p j).toNat
theorem pow_12 {p : Int} (h1 : p ≤ 12) : 1 ≤ (2 : Int) ^ p.toNat ∧ (2 : Int) ^ p.toNat ≤ 4096 := by
  have h2 := two_pow_pos' p.toNat
  have h3 := two_pow_le' (b := 12) (show p.toNat ≤ 12 by omega)
  omega
theorem sumP_range (p : Nat → Int) : ∀ j, (∀ i, i < j → p i ≤ 12) → 0 ≤ sumP p j ∧ sumP p j ≤ 4096 * j
  | 0, _ => by simp [sumP]
  | j + 1, h => by
    have := sumP_range p j fun i hi => h i (by omega)
    have := pow_12 (h j (by omega))
    simp only [sumP]
    omega
/-- How many bits a form's fields have, at bit 2 and at bit 7. -/
def lowW (f : UInt8) : Int := if f ∈ ([97, 108, 115, 109] : List UInt8) then 3 else if f ∈ ([118, 100, 116] : List UInt8) then 5 else 0
def highW (f : UInt8) : Int := if f ∈ ([108, 115, 113, 109, 98] : List UInt8) then 3 else if f ∈ ([114, 122, 117, 119, 74, 75, 118, 100] : List UInt8) then 5 else 0

theorem two_3 (w : World) : Calls Tryd.prog 55 #[.int .i64 3] w fun e w' => e = .returned (.int .i64 8) ∧ w' = w := two_p 3 (by decide) (by decide) w
theorem two_5 (w : World) : Calls Tryd.prog 55 #[.int .i64 5] w fun e w' => e = .returned (.int .i64 32) ∧ w' = w := two_p 5 (by decide) (by decide) w
theorem two_0 (w : World) : Calls Tryd.prog 55 #[.int .i64 0] w fun e w' => e = .returned (.int .i64 1) ∧ w' = w := two_p 0 (by decide) (by decide) w
set_option maxRecDepth 20000 in
set_option maxHeartbeats 6400000 in
theorem mask_walk6 (f : UInt8) (hf : f ∈ ([97, 108, 115, 110, 106, 114, 122, 117, 112, 113, 109, 98, 119, 74, 75, 118, 100, 116] : List UInt8)) (nv kv : ByteArray) (bv by_ : Int) (a : Option Addr) (len cap : Nat) (p : Nat → Int) (hl : len ≤ 11) (hp : ∀ i, i < len → 0 ≤ p i ∧ p i ≤ 12) (w : World) (hC : Cells w a len p) :
    Calls Tryd.prog 39 #[.agg #[.string nv, .int .i64 bv, .string ⟨#[f]⟩, .string kv, .int .i64 by_, .slice a len cap]] w fun e w' => e = .returned (.int .i64 (65535 - sumP p len - 4 * (2 ^ (lowW f).toNat - 1) - 128 * (2 ^ (highW f).toNat - 1))) ∧ Kept w w' := by
  replace hC := hC.kept (Kept.alloc w (.cells #[.string nv, .int .i64 bv, .string ⟨#[f]⟩, .string kv, .int .i64 by_, .slice a len cap] 56))
  go_enter Tryd.func39, Tryd.ntmps39
  go_wp2
  go_loop [3, 4] (fun s i => ∃ k : Nat, k ≤ len ∧ i = .int .i64 (k : Int) ∧ s = .int .i64 (65535 - sumP p k)) (fun _ i => len - (intOf i).toNat)
  case atStart => exact ⟨0, by omega, rfl, by simp [sumP]⟩
  case round =>
    obtain ⟨k, hk, rfl, rfl⟩ := hrel
    rcases Nat.lt_or_ge k len with hkl | hkl
    · rcases hC with h0 | ⟨b, off, rfl, hc⟩
      · omega
      have hcell := hc k hkl
      have hpk := hp k hkl
      have h2 := fun w => two_p (p k) hpk.1 hpk.2 w
      have hkI : (k : Int) < len := by omega
      have hs := sumP_range p k fun i hi => (hp i (by omega)).2
      have hpw := pow_12 hpk.2
      have hn : 65535 - sumP p (k + 1) = 65535 - sumP p k - 2 ^ (p k).toNat := by simp only [sumP]; omega
      generalize (2 : Int) ^ (p k).toNat = x at h2 hpw hn
      generalize sumP p k = S at hs hn
      go_wp2_with (go_at_call 55; refine (h2 _).mono ?_; rintro e w' ⟨rfl, rfl⟩)
      exact ⟨⟨k + 1, by omega, by simp, by rw [hn]⟩, by simp [intOf]; omega⟩
    · obtain rfl : k = len := by omega
      have hkI : ¬ (k : Int) < k := by omega
      have hs := sumP_range p k fun i hi => (hp i (by omega)).2
      have hs2 : sumP p k ≤ 45056 := by omega
      clear hC hp
      generalize hSS : sumP p k = S at hs hs2
      simp only [List.mem_cons, List.not_mem_nil, or_false] at hf
      rcases hf with rfl | rfl | rfl | rfl | rfl | rfl | rfl | rfl | rfl | rfl | rfl | rfl | rfl | rfl | rfl | rfl | rfl | rfl
      all_goals
        as_aux_lemma =>
          go_wp2_with (first
            | (go_at_call_of 55 (Value.int .i64 3); refine (two_3 _).mono ?_; rintro e w' ⟨rfl, rfl⟩)
            | (go_at_call_of 55 (Value.int .i64 5); refine (two_5 _).mono ?_; rintro e w' ⟨rfl, rfl⟩)
            | (go_at_call_of 55 (Value.int .i64 0); refine (two_0 _).mono ?_; rintro e w' ⟨rfl, rfl⟩))
          go_ret
          refine ⟨congrArg Ending.returned (congrArg (Value.int .i64) ?_), Kept.alloc _ _⟩
          rw [hSS]
          simp [lowW, highW]
          try omega
end Go.Proofs.YtbmcanpjpibecaaDoor
