/- What Scatter and Gather of the package bits give. -/
import Derived.Test.YtbmcanpjpibecaaDoorPlA
namespace Go.Proofs.YtbmcanpjpibecaaDoor
open Go.ChangeShapes Go.WideShapes Go.ChangeAt Go.RowKit

theorem scat_put {p : Nat → Int} {k : Nat} (v : Nat) (hx : v < 4294967296) (hv : vld p (k + 1)) :
    bits .or .u32 (scatTo v p k : Int) (bits .and .u32 ((v : Int) / 2 ^ k) 1 * 2 ^ (p k).toNat % 4294967296) = (scatTo v p (k + 1) : Nat) := by
  have hp := vld_at hv (k := k) (by omega)
  have hq := pow_lt32 (q := (p k).toNat) (by omega)
  have hb := bit_le v k (p k).toNat
  rw [and_one v k hx]
  have e : ((v / 2 ^ k % 2 : Nat) : Int) * 2 ^ (p k).toNat % 4294967296 = ((v / 2 ^ k % 2 * 2 ^ (p k).toNat : Nat) : Int) := by
    have : ((v / 2 ^ k % 2 : Nat) : Int) * 2 ^ (p k).toNat = ((v / 2 ^ k % 2 * 2 ^ (p k).toNat : Nat) : Int) := by rw [Int.natCast_mul]; simp
    rw [this]
    generalize v / 2 ^ k % 2 * 2 ^ (p k).toNat = z at *
    omega
  rw [e, u32_or_nat _ _ (scatTo_lt v (vld_le hv (by omega))) (by omega), scatTo_succ]

theorem gath_put {p : Nat → Int} {k : Nat} (x : Nat) (hk : k < 32) (hx : x < 4294967296) :
    bits .or .u32 (gathTo x p k : Int) (bits .and .u32 ((x : Int) / 2 ^ (p k).toNat) 1 * 2 ^ k % 4294967296) = (gathTo x p (k + 1) : Nat) := by
  have hq := pow_lt32 hk
  have hb := bit_le x (p k).toNat k
  have hg := Nat.lt_trans (gathTo_lt x p k) hq
  rw [and_one x _ hx]
  have e : ((x / 2 ^ (p k).toNat % 2 : Nat) : Int) * 2 ^ k % 4294967296 = ((x / 2 ^ (p k).toNat % 2 * 2 ^ k : Nat) : Int) := by
    have : ((x / 2 ^ (p k).toNat % 2 : Nat) : Int) * 2 ^ k = ((x / 2 ^ (p k).toNat % 2 * 2 ^ k : Nat) : Int) := by rw [Int.natCast_mul]; simp
    rw [this]
    generalize x / 2 ^ (p k).toNat % 2 * 2 ^ k = z at *
    omega
  rw [e, u32_or_nat _ _ (by omega) (by omega), gathTo_succ]

theorem scatter_walk_no (v : Int) (a : Option Addr) (len cap : Nat) (p : Nat → Int) (w : World) (hc : Cells w a len p) (he : errOf p len ≠ 0) :
    Calls Tryd.prog 30 #[.int .u32 v, .slice a len cap] w fun e w' => e = .returned (.tuple #[.int .u32 0, .int .i64 (errOf p len)]) ∧ w' = w := by
  have ht : (errOf p len != 0) = true := by simpa using he
  have hw := chkPl_walk a len cap p w hc
  generalize errOf p len = E at *
  clear hc
  go_enter Tryd.func30, Tryd.ntmps30
  go_wp2_with (first
    | (go_at_call 53; refine hw.mono ?_; rintro e w' ⟨rfl, rfl⟩))
  go_ret2
  exact ⟨rfl, rfl⟩

theorem scatter_walk_big (v : Int) (a : Option Addr) (len cap : Nat) (p : Nat → Int) (w : World) (hc : Cells w a len p) (he : errOf p len = 0) (hv : 2 ^ len ≤ v) :
    Calls Tryd.prog 30 #[.int .u32 v, .slice a len cap] w fun e w' => e = .returned (.tuple #[.int .u32 0, .int .i64 2]) ∧ w' = w := by
  obtain ⟨hl, -⟩ := errOf_zero he
  have hw := chkPl_walk a len cap p w hc
  rw [he] at hw
  have hv' : 2 ^ len - 1 < v := by omega
  clear hc he
  go_enter Tryd.func30, Tryd.ntmps30
  go_wp2_with (first
    | (go_at_call 53; refine hw.mono ?_; rintro e w' ⟨rfl, rfl⟩)
    | (go_at_call 54; refine (mask_walk len hl _).mono ?_; rintro e w' ⟨rfl, rfl⟩))
  go_ret2
  exact ⟨rfl, rfl⟩

theorem scatter_walk_none (v : Nat) (a : Option Addr) (cap : Nat) (p : Nat → Int) (w : World) (hv : (v : Int) < 2 ^ 0) :
    Calls Tryd.prog 30 #[.int .u32 v, .slice a 0 cap] w fun e w' => e = .returned (.tuple #[.int .u32 0, .int .i64 0]) ∧ w' = w := by
  have hw := chkPl_walk a 0 cap p w (.inl rfl)
  rw [errOf_ok (by decide) (vld_zero p)] at hw
  have hm := mask_walk 0 (by decide) w
  simp at hm
  have hv' : v = 0 := by omega
  subst hv'
  go_enter Tryd.func30, Tryd.ntmps30
  go_wp2_with (first
    | (go_at_call 53; refine hw.mono ?_; rintro e w' ⟨rfl, rfl⟩)
    | (go_at_call 54; refine hm.mono ?_; rintro e w' ⟨rfl, rfl⟩))
  go_loop [7, 22] (fun s i => i = .int .i64 0 ∧ s = .int .u32 0) (fun _ i => 0 - (intOf i).toNat)
  case atStart => exact ⟨rfl, rfl⟩
  case round =>
    obtain ⟨rfl, rfl⟩ := hrel
    go_wp2
    go_ret2
    exact ⟨rfl, rfl⟩

theorem scatter_walk_some (v : Nat) (hx : v < 4294967296) (b off len cap : Nat) (p : Nat → Int) (w : World)
    (hc : ∀ i, i < len → w.cell? ⟨b, off + i, none⟩ = some (.int .i64 (p i))) (he : errOf p len = 0) (hv : (v : Int) < 2 ^ len) :
    Calls Tryd.prog 30 #[.int .u32 v, .slice (some ⟨b, off, none⟩) len cap] w fun e w' => e = .returned (.tuple #[.int .u32 (scatTo v p len), .int .i64 0]) ∧ w' = w := by
  obtain ⟨hl, hvd⟩ := errOf_zero he
  have hw := chkPl_walk (some ⟨b, off, none⟩) len cap p w (.inr ⟨b, off, rfl, hc⟩)
  rw [he] at hw
  have hv' : (v : Int) ≤ 2 ^ len - 1 := by omega
  clear he hv
  go_enter Tryd.func30, Tryd.ntmps30
  go_wp2_with (first
    | (go_at_call 53; refine hw.mono ?_; rintro e w' ⟨rfl, rfl⟩)
    | (go_at_call 54; refine (mask_walk len hl _).mono ?_; rintro e w' ⟨rfl, rfl⟩))
  go_loop [7, 22] (fun s i => ∃ k : Nat, k ≤ len ∧ i = .int .i64 k ∧ s = .int .u32 (scatTo v p k)) (fun _ i => len - (intOf i).toNat)
  case atStart => exact ⟨0, by omega, rfl, rfl⟩
  case round =>
    obtain ⟨k, hk, rfl, rfl⟩ := hrel
    have hcell : k < len → w'.cell? ⟨b, off + k, none⟩ = some (.int .i64 (p k)) := fun h => hc k h
    have hpk : k < len → 0 ≤ p k ∧ p k < 32 := fun h => vld_at hvd h
    clear hc
    go_wp2
    · have hlt : k < len := by assumption
      rw [scat_put v hx (vld_le hvd (by omega))]
      exact ⟨⟨k + 1, by omega, by go_num, rfl⟩, by simp [intOf]; omega⟩
    · obtain rfl : k = len := by omega
      go_ret2
      exact ⟨rfl, rfl⟩

theorem gather_walk_no (x : Int) (a : Option Addr) (len cap : Nat) (p : Nat → Int) (w : World) (hc : Cells w a len p) (he : errOf p len ≠ 0) :
    Calls Tryd.prog 32 #[.int .u32 x, .slice a len cap] w fun e w' => e = .returned (.tuple #[.int .u32 0, .int .i64 (errOf p len)]) ∧ w' = w := by
  have ht : (errOf p len != 0) = true := by simpa using he
  have hw := chkPl_walk a len cap p w hc
  generalize errOf p len = E at *
  clear hc
  go_enter Tryd.func32, Tryd.ntmps32
  go_wp2_with (first
    | (go_at_call 53; refine hw.mono ?_; rintro e w' ⟨rfl, rfl⟩))
  go_ret2
  exact ⟨rfl, rfl⟩

theorem gather_walk_none (x : Nat) (a : Option Addr) (cap : Nat) (p : Nat → Int) (w : World) :
    Calls Tryd.prog 32 #[.int .u32 x, .slice a 0 cap] w fun e w' => e = .returned (.tuple #[.int .u32 0, .int .i64 0]) ∧ w' = w := by
  have hw := chkPl_walk a 0 cap p w (.inl rfl)
  rw [errOf_ok (by decide) (vld_zero p)] at hw
  go_enter Tryd.func32, Tryd.ntmps32
  go_wp2_with (first
    | (go_at_call 53; refine hw.mono ?_; rintro e w' ⟨rfl, rfl⟩))
  go_loop [7, 17] (fun s i => i = .int .i64 0 ∧ s = .int .u32 0) (fun _ i => 0 - (intOf i).toNat)
  case atStart => exact ⟨rfl, rfl⟩
  case round =>
    obtain ⟨rfl, rfl⟩ := hrel
    go_wp2
    go_ret2
    exact ⟨rfl, rfl⟩

theorem gather_walk_some (x : Nat) (hx : x < 4294967296) (b off len cap : Nat) (p : Nat → Int) (w : World)
    (hc : ∀ i, i < len → w.cell? ⟨b, off + i, none⟩ = some (.int .i64 (p i))) (he : errOf p len = 0) :
    Calls Tryd.prog 32 #[.int .u32 x, .slice (some ⟨b, off, none⟩) len cap] w fun e w' => e = .returned (.tuple #[.int .u32 (gathTo x p len), .int .i64 0]) ∧ w' = w := by
  obtain ⟨hl, hvd⟩ := errOf_zero he
  have hw := chkPl_walk (some ⟨b, off, none⟩) len cap p w (.inr ⟨b, off, rfl, hc⟩)
  rw [he] at hw
  clear he
  go_enter Tryd.func32, Tryd.ntmps32
  go_wp2_with (first
    | (go_at_call 53; refine hw.mono ?_; rintro e w' ⟨rfl, rfl⟩))
  go_loop [7, 17] (fun s i => ∃ k : Nat, k ≤ len ∧ i = .int .i64 k ∧ s = .int .u32 (gathTo x p k)) (fun _ i => len - (intOf i).toNat)
  case atStart => exact ⟨0, by omega, rfl, rfl⟩
  case round =>
    obtain ⟨k, hk, rfl, rfl⟩ := hrel
    have hcell : k < len → w'.cell? ⟨b, off + k, none⟩ = some (.int .i64 (p k)) := fun h => hc k h
    have hpk : k < len → 0 ≤ p k ∧ p k < 32 := fun h => vld_at hvd h
    clear hc
    go_wp2
    · have hlt : k < len := by assumption
      rw [gath_put x (by omega) hx]
      exact ⟨⟨k + 1, by omega, by go_num, rfl⟩, by simp [intOf]; omega⟩
    · obtain rfl : k = len := by omega
      go_ret2
      exact ⟨rfl, rfl⟩

/-! ### each in one form -/
def scatE (v : Int) (p : Nat → Int) (len : Nat) : Int := if errOf p len = 0 then okE (decide (v < 2 ^ len)) else errOf p len
def scatV (v : Int) (p : Nat → Int) (len : Nat) : Int := if errOf p len = 0 then (if v < 2 ^ len then (scatTo v.toNat p len : Nat) else 0) else 0
def gathV (x : Int) (p : Nat → Int) (len : Nat) : Int := if errOf p len = 0 then (gathTo x.toNat p len : Nat) else 0

theorem scatter_u (v : Int) (h0 : 0 ≤ v) (h1 : v < 4294967296) (a : Option Addr) (len cap : Nat) (p : Nat → Int) (w : World) (hc : Cells w a len p) :
    Calls Tryd.prog 30 #[.int .u32 v, .slice a len cap] w fun e w' => e = .returned (.tuple #[.int .u32 (scatV v p len), .int .i64 (scatE v p len)]) ∧ w' = w := by
  by_cases he : errOf p len = 0
  · obtain ⟨n, rfl⟩ : ∃ k : Nat, v = k := ⟨v.toNat, by omega⟩
    by_cases hv : (n : Int) < 2 ^ len
    · rcases hc with rfl | ⟨b, off, rfl, hc⟩
      · obtain rfl : n = 0 := by simp at hv; omega
        have h := scatter_walk_none 0 a cap p w (by decide)
        simpa [scatV, scatE, okE, he, scatTo, orTo] using h
      · have h := scatter_walk_some n (by omega) b off len cap p w hc he hv
        simpa [scatV, scatE, okE, he, hv] using h
    · have h := scatter_walk_big n a len cap p w hc he (by omega)
      simpa [scatV, scatE, okE, he, hv] using h
  · have h := scatter_walk_no v a len cap p w hc he
    simpa [scatV, scatE, he] using h

theorem gather_u (x : Int) (h0 : 0 ≤ x) (h1 : x < 4294967296) (a : Option Addr) (len cap : Nat) (p : Nat → Int) (w : World) (hc : Cells w a len p) :
    Calls Tryd.prog 32 #[.int .u32 x, .slice a len cap] w fun e w' => e = .returned (.tuple #[.int .u32 (gathV x p len), .int .i64 (errOf p len)]) ∧ w' = w := by
  by_cases he : errOf p len = 0
  · obtain ⟨n, rfl⟩ : ∃ k : Nat, x = k := ⟨x.toNat, by omega⟩
    rcases hc with rfl | ⟨b, off, rfl, hc⟩
    · have h := gather_walk_none n a cap p w
      simpa [gathV, he, gathTo, orTo] using h
    · have h := gather_walk_some n (by omega) b off len cap p w hc he
      simpa [gathV, he] using h
  · have h := gather_walk_no x a len cap p w hc he
    simpa [gathV, he] using h
end Go.Proofs.YtbmcanpjpibecaaDoor
