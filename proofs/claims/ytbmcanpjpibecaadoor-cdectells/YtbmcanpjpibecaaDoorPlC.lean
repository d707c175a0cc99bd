/- What the document's own answers on places give. -/
import Derived.Test.YtbmcanpjpibecaaDoorPlB
namespace Go.Proofs.YtbmcanpjpibecaaDoor
open Go.ChangeShapes Go.WideShapes Go.ChangeAt Go.RowKit

theorem asked_walk_many (a : Option Addr) (len cap : Nat) (p : Nat → Int) (hl : 32 < len) (w : World) :
    Calls Tryd.prog 57 #[.slice a len cap] w fun e w' => e = .returned (.int .i64 (errOf p len)) ∧ ∃ m, w' = w.drewN m := by
  rw [errOf_many hl]
  go_enter Tryd.func57, Tryd.ntmps57
  go_wp2
  go_ret
  exact ⟨rfl, 0, rfl⟩

theorem asked_walk_none (a : Option Addr) (cap : Nat) (p : Nat → Int) (w : World) :
    Calls Tryd.prog 57 #[.slice a 0 cap] w fun e w' => e = .returned (.int .i64 (errOf p 0)) ∧ ∃ m, w' = w.drewN m := by
  rw [errOf_ok (by decide) (vld_zero p)]
  go_enter Tryd.func57, Tryd.ntmps57
  go_wp2
  go_loop [3] (fun i => i = .int .i64 0) (fun i => 0 - (intOf i).toNat)
  case atStart => rfl
  case round =>
    subst hrel
    go_wp2
    go_ret
    exact ⟨rfl, 0, rfl⟩

theorem asked_walk_some (b off len cap : Nat) (p : Nat → Int) (hl : len ≤ 32) (w : World)
    (hc : ∀ i, i < len → w.cell? ⟨b, off + i, none⟩ = some (.int .i64 (p i))) :
    Calls Tryd.prog 57 #[.slice (some ⟨b, off, none⟩) len cap] w fun e w' => e = .returned (.int .i64 (errOf p len)) ∧ ∃ m, w' = w.drewN m := by
  go_enter Tryd.func57, Tryd.ntmps57
  go_wp2
  go_loopw [3] (fun i wr => ∃ k m : Nat, k ≤ len ∧ vld p k ∧ i = .int .i64 k ∧ wr = w.drewN m) (fun i _ => len - (intOf i).toNat)
  case atStart => exact ⟨0, 0, by omega, vld_zero p, rfl, rfl⟩
  case round =>
    obtain ⟨k, m, hk, hv, rfl, rfl⟩ := hrel
    have hcell : k < len → w.cell? ⟨b, off + k, none⟩ = some (.int .i64 (p k)) := fun h => hc k h
    go_wp2
    · have hlt : k < len := by assumption
      have h0 : 0 ≤ p k := by assumption
      have ht : p k < 0 ∨ 31 < p k := by assumption
      rw [bad_at hl hlt (.inr (.inl (by omega)))]
      go_ret
      exact ⟨rfl, _, rfl⟩
    · have hlt : k < len := by assumption
      have h0 : 0 ≤ p k := by assumption
      have ht : 0 ≤ p k ∧ p k ≤ 31 := by assumption
      have hcell0 : w.cell? ⟨b, off + k, none⟩ = some (.int .i64 (p k)) := hc k hlt
      clear hcell
      go_loopw [4] (fun j wr => ∃ q n : Nat, q ≤ k ∧ (∀ j, j < q → p j ≠ p k) ∧ j = .int .i64 q ∧ wr = w.drewN n) (fun j _ => k - (intOf j).toNat)
      case atStart => exact ⟨0, m, by omega, fun j hj => by omega, rfl, rfl⟩
      case round =>
        obtain ⟨q, n, hq, hno, rfl, rfl⟩ := hrel
        have hcellq : q < k → w.cell? ⟨b, off + q, none⟩ = some (.int .i64 (p q)) := fun h => hc q (by omega)
        clear hc
        go_wp2
        · have hqk : q < k := by assumption
          have hcq := hcellq hqk
          have hql : (q : Int) < len := by omega
          have hkl : (k : Int) < len := by omega
          go_quiet (fail)
          go_wp2
          · have he : (p q == p k) = true := by assumption
            rw [bad_at hl hlt (.inr (.inr ⟨q, hqk, by simpa using he⟩))]
            go_ret
            exact ⟨rfl, n + nq, by simp⟩
          · have he : (p q == p k) = false := by assumption
            have hne : p q ≠ p k := by simpa using he
            refine ⟨⟨q + 1, _, by omega, fun j hj => ?_, by go_num, rfl⟩, by simp [intOf]; omega⟩
            by_cases hjq : j = q
            · subst hjq; exact hne
            · exact hno j (by omega)
        · obtain rfl : q = k := by omega
          exact ⟨⟨q + 1, _, by omega, vld_succ hv h0 (by omega) hno, by go_num, rfl⟩, by simp [intOf]; omega⟩
    · have hlt : k < len := by assumption
      have h1 : p k < 0 := by assumption
      rw [bad_at hl hlt (.inl h1)]
      go_ret
      exact ⟨rfl, _, rfl⟩
    · obtain rfl : k = len := by omega
      rw [errOf_ok (by omega) hv]
      go_ret
      exact ⟨rfl, _, rfl⟩

theorem asked_walk (a : Option Addr) (len cap : Nat) (p : Nat → Int) (w : World) (hc : Cells w a len p) :
    Calls Tryd.prog 57 #[.slice a len cap] w fun e w' => e = .returned (.int .i64 (errOf p len)) ∧ ∃ m, w' = w.drewN m := by
  by_cases hl : 32 < len
  · exact asked_walk_many a len cap p hl w
  · rcases hc with rfl | ⟨b, off, rfl, hc⟩
    · exact asked_walk_none a cap p w
    · exact asked_walk_some b off len cap p (by omega) w hc

theorem two_pl (q : Int) (h0 : 0 ≤ q) (h1 : q < 32) (w : World) :
    Calls Tryd.prog 55 #[.int .i64 q] w fun e w' => e = .returned (.int .i64 (2 ^ q.toNat)) ∧ w' = w := by
  obtain ⟨n, rfl⟩ : ∃ k : Nat, q = k := ⟨q.toNat, by omega⟩
  exact two_walk_at n (by omega) w

theorem bits_pl (x : Nat) (hx : x < 4294967296) (q : Int) (h0 : 0 ≤ q) (h1 : q < 32) (w : World) :
    Calls Tryd.prog 58 #[.int .u32 x, .int .i64 q, .int .i64 1] w fun e w' => e = .returned (.int .u32 ((x / 2 ^ q.toNat % 2 : Nat) : Int)) ∧ ∃ m, w' = w.drewN m := by
  obtain ⟨n, rfl⟩ : ∃ k : Nat, q = k := ⟨q.toNat, by omega⟩
  have h := bits_walk x n 1 hx (by omega) (by omega) w
  simpa using h

theorem rscat_put {p : Nat → Int} {k : Nat} (v : Nat) (hv : vld p (k + 1)) :
    wrap64 ((scatTo v p k : Int) + wrap64 ((v : Int) / 2 ^ k % 2 * 2 ^ (p k).toNat)) = (scatTo v p (k + 1) : Nat) := by
  have hp := vld_at hv (k := k) (by omega)
  have hq := pow_lt32 (q := (p k).toNat) (by omega)
  have hb := bit_le v k (p k).toNat
  have h1 := scatTo_lt v (vld_le hv (k := k) (by omega))
  have e : (v : Int) / 2 ^ k % 2 * 2 ^ (p k).toNat = ((v / 2 ^ k % 2 * 2 ^ (p k).toNat : Nat) : Int) := by rw [Int.natCast_mul]; simp
  have e2 : scatTo v p (k + 1) = scatTo v p k + v / 2 ^ k % 2 * 2 ^ (p k).toNat := by
    rw [scatTo_sum v hv, scatTo_sum v (vld_le hv (by omega))]; rfl
  rw [e, e2]
  generalize v / 2 ^ k % 2 * 2 ^ (p k).toNat = z at *
  generalize scatTo v p k = s at *
  rw [wrap64_id (n := (z : Int)) (by omega) (by omega), wrap64_id (by omega) (by omega)]
  omega

theorem rgath_put {p : Nat → Int} {k : Nat} (x : Nat) (hk : k < 32) :
    wrap64 ((gathTo x p k : Int) + wrap64 ((x : Int) / 2 ^ (p k).toNat % 2 * 2 ^ k)) = (gathTo x p (k + 1) : Nat) := by
  have hq := pow_lt32 hk
  have hb := bit_le x (p k).toNat k
  have h1 := gathTo_lt x p k
  have e : (x : Int) / 2 ^ (p k).toNat % 2 * 2 ^ k = ((x / 2 ^ (p k).toNat % 2 * 2 ^ k : Nat) : Int) := by rw [Int.natCast_mul]; simp
  have e2 : gathTo x p (k + 1) = gathTo x p k + x / 2 ^ (p k).toNat % 2 * 2 ^ k := by
    rw [gathTo_sum x, gathTo_sum x]; rfl
  rw [e, e2]
  generalize x / 2 ^ (p k).toNat % 2 * 2 ^ k = z at *
  generalize gathTo x p k = s at *
  rw [wrap64_id (n := (z : Int)) (by omega) (by omega), wrap64_id (by omega) (by omega)]
  omega

theorem rscatter_walk_some (v : Nat) (hx : v < 4294967296) (b off len cap : Nat) (p : Nat → Int) (w : World)
    (hc : ∀ i, i < len → w.cell? ⟨b, off + i, none⟩ = some (.int .i64 (p i))) (he : errOf p len = 0) (hv : (v : Int) < 2 ^ len) :
    Calls Tryd.prog 60 #[.int .u32 v, .slice (some ⟨b, off, none⟩) len cap] w fun e w' => e = .returned (.tuple #[.int .u32 (scatTo v p len), .int .i64 0]) ∧ ∃ m, w' = w.drewN m := by
  obtain ⟨hl, hvd⟩ := errOf_zero he
  have hw := asked_walk (some ⟨b, off, none⟩) len cap p w (.inr ⟨b, off, rfl, hc⟩)
  rw [he] at hw
  clear he
  go_enter Tryd.func60, Tryd.ntmps60
  go_wp2_with (first
    | (go_at_call 57; refine hw.mono ?_; rintro e w' ⟨rfl, m0, rfl⟩)
    | (go_at_call 55; refine (two_walk_at len (by omega) _).mono ?_; rintro e w' ⟨rfl, rfl⟩))
  go_loopw [7, 8] (fun s i wr => ∃ k m : Nat, k ≤ len ∧ i = .int .i64 k ∧ s = .int .i64 (scatTo v p k) ∧ wr = w.drewN m) (fun _ i _ => len - (intOf i).toNat)
  case atStart => exact ⟨0, _, by omega, rfl, rfl, rfl⟩
  case round =>
    obtain ⟨k, m, hk, rfl, rfl, hwr⟩ := hrel
    have hcell : k < len → wr.cell? ⟨b, off + k, none⟩ = some (.int .i64 (p k)) := fun h => by rw [hwr]; exact hc k h
    have hpk : k < len → 0 ≤ p k ∧ p k < 32 := fun h => vld_at hvd h
    have HW : Hid (wr = w.drewN m) := hwr
    clear hc hwr
    go_wp2
    · have hlt : k < len := by assumption
      have hck := hcell hlt
      obtain ⟨hp0, hp1⟩ := hpk hlt
      have hkl : (k : Int) < len := by omega
      go_quiet ((first
        | (go_at_call 55; exact Calls.quiet_of_same (two_pl (p k) hp0 hp1 _))
        | (go_at_call 58; exact Calls.quiet_of (bits_pl v hx k (by omega) (by omega) _))))
      go_wp2
      rw [rscat_put v (vld_le hvd (by omega))]
      exact ⟨⟨k + 1, m + nq, by omega, by go_num, rfl, by rw [HW.out]; simp⟩, by simp [intOf]; omega⟩
    · obtain rfl : k = len := by omega
      have e : ((scatTo v p k : Nat) : Int) % 4294967296 = (scatTo v p k : Nat) := by have := scatTo_lt v hvd; omega
      rw [e]
      go_ret2
      exact ⟨rfl, m, HW.out⟩

theorem rscatter_walk_no (v : Int) (a : Option Addr) (len cap : Nat) (p : Nat → Int) (w : World) (hc : Cells w a len p) (he : errOf p len ≠ 0) :
    Calls Tryd.prog 60 #[.int .u32 v, .slice a len cap] w fun e w' => e = .returned (.tuple #[.int .u32 0, .int .i64 (errOf p len)]) ∧ ∃ m, w' = w.drewN m := by
  have ht : (errOf p len != 0) = true := by simpa using he
  have hw := asked_walk a len cap p w hc
  generalize errOf p len = E at *
  clear hc
  go_enter Tryd.func60, Tryd.ntmps60
  go_wp2_with (first
    | (go_at_call 57; refine hw.mono ?_; rintro e w' ⟨rfl, m0, rfl⟩))
  go_ret2
  exact ⟨rfl, _, rfl⟩

theorem rscatter_walk_big (v : Int) (h0 : 0 ≤ v) (h1 : v < 4294967296) (a : Option Addr) (len cap : Nat) (p : Nat → Int) (w : World) (hc : Cells w a len p) (he : errOf p len = 0) (hv : 2 ^ len ≤ v) :
    Calls Tryd.prog 60 #[.int .u32 v, .slice a len cap] w fun e w' => e = .returned (.tuple #[.int .u32 0, .int .i64 2]) ∧ ∃ m, w' = w.drewN m := by
  obtain ⟨hl, -⟩ := errOf_zero he
  have hw := asked_walk a len cap p w hc
  rw [he] at hw
  clear hc he
  go_enter Tryd.func60, Tryd.ntmps60
  go_wp2_with (first
    | (go_at_call 57; refine hw.mono ?_; rintro e w' ⟨rfl, m0, rfl⟩)
    | (go_at_call 55; refine (two_walk_at len (by omega) _).mono ?_; rintro e w' ⟨rfl, rfl⟩))
  go_ret2
  exact ⟨rfl, _, rfl⟩

theorem rscatter_walk_none (a : Option Addr) (cap : Nat) (p : Nat → Int) (w : World) :
    Calls Tryd.prog 60 #[.int .u32 0, .slice a 0 cap] w fun e w' => e = .returned (.tuple #[.int .u32 0, .int .i64 0]) ∧ ∃ m, w' = w.drewN m := by
  have hw := asked_walk a 0 cap p w (.inl rfl)
  rw [errOf_ok (by decide) (vld_zero p)] at hw
  have hm := fun w => two_walk_at 0 (by decide) w
  simp at hm
  go_enter Tryd.func60, Tryd.ntmps60
  go_wp2_with (first
    | (go_at_call 57; refine hw.mono ?_; rintro e w' ⟨rfl, m0, rfl⟩)
    | (go_at_call 55; refine (hm _).mono ?_; rintro e w' ⟨rfl, rfl⟩))
  go_loop [7, 8] (fun s i => i = .int .i64 0 ∧ s = .int .i64 0) (fun _ i => 0 - (intOf i).toNat)
  case atStart => exact ⟨rfl, rfl⟩
  case round =>
    obtain ⟨rfl, rfl⟩ := hrel
    go_wp2
    go_ret2
    exact ⟨rfl, _, rfl⟩

theorem rgather_walk_no (x : Int) (a : Option Addr) (len cap : Nat) (p : Nat → Int) (w : World) (hc : Cells w a len p) (he : errOf p len ≠ 0) :
    Calls Tryd.prog 41 #[.int .u32 x, .slice a len cap] w fun e w' => e = .returned (.tuple #[.int .u32 0, .int .i64 (errOf p len)]) ∧ ∃ m, w' = w.drewN m := by
  have ht : (errOf p len != 0) = true := by simpa using he
  have hw := asked_walk a len cap p w hc
  generalize errOf p len = E at *
  clear hc
  go_enter Tryd.func41, Tryd.ntmps41
  go_wp2_with (first
    | (go_at_call 57; refine hw.mono ?_; rintro e w' ⟨rfl, m0, rfl⟩))
  go_ret2
  exact ⟨rfl, _, rfl⟩

theorem rgather_walk_none (x : Nat) (a : Option Addr) (cap : Nat) (p : Nat → Int) (w : World) :
    Calls Tryd.prog 41 #[.int .u32 x, .slice a 0 cap] w fun e w' => e = .returned (.tuple #[.int .u32 0, .int .i64 0]) ∧ ∃ m, w' = w.drewN m := by
  have hw := asked_walk a 0 cap p w (.inl rfl)
  rw [errOf_ok (by decide) (vld_zero p)] at hw
  go_enter Tryd.func41, Tryd.ntmps41
  go_wp2_with (first
    | (go_at_call 57; refine hw.mono ?_; rintro e w' ⟨rfl, m0, rfl⟩))
  go_loop [7, 8] (fun s i => i = .int .i64 0 ∧ s = .int .i64 0) (fun _ i => 0 - (intOf i).toNat)
  case atStart => exact ⟨rfl, rfl⟩
  case round =>
    obtain ⟨rfl, rfl⟩ := hrel
    go_wp2
    go_ret2
    exact ⟨rfl, _, rfl⟩

theorem rgather_walk_some (x : Nat) (hx : x < 4294967296) (b off len cap : Nat) (p : Nat → Int) (w : World)
    (hc : ∀ i, i < len → w.cell? ⟨b, off + i, none⟩ = some (.int .i64 (p i))) (he : errOf p len = 0) :
    Calls Tryd.prog 41 #[.int .u32 x, .slice (some ⟨b, off, none⟩) len cap] w fun e w' => e = .returned (.tuple #[.int .u32 (gathTo x p len), .int .i64 0]) ∧ ∃ m, w' = w.drewN m := by
  obtain ⟨hl, hvd⟩ := errOf_zero he
  have hw := asked_walk (some ⟨b, off, none⟩) len cap p w (.inr ⟨b, off, rfl, hc⟩)
  rw [he] at hw
  clear he
  go_enter Tryd.func41, Tryd.ntmps41
  go_wp2_with (first
    | (go_at_call 57; refine hw.mono ?_; rintro e w' ⟨rfl, m0, rfl⟩))
  go_loopw [7, 8] (fun s i wr => ∃ k m : Nat, k ≤ len ∧ i = .int .i64 k ∧ s = .int .i64 (gathTo x p k) ∧ wr = w.drewN m) (fun _ i _ => len - (intOf i).toNat)
  case atStart => exact ⟨0, _, by omega, rfl, rfl, rfl⟩
  case round =>
    obtain ⟨k, m, hk, rfl, rfl, hwr⟩ := hrel
    have hcell : k < len → wr.cell? ⟨b, off + k, none⟩ = some (.int .i64 (p k)) := fun h => by rw [hwr]; exact hc k h
    have hpk : k < len → 0 ≤ p k ∧ p k < 32 := fun h => vld_at hvd h
    have HW : Hid (wr = w.drewN m) := hwr
    clear hc hwr
    go_wp2_with (first
      | (go_at_call 55; refine (two_walk_at k (by omega) _).mono ?_; rintro e w' ⟨rfl, rfl⟩)
      | (go_at_call 58; refine (bits_pl x hx (p k) (hpk (by omega)).1 (hpk (by omega)).2 _).mono ?_; rintro e w' ⟨rfl, nq, rfl⟩))
    · have hlt : k < len := by assumption
      rw [rgath_put x (by omega)]
      exact ⟨⟨k + 1, m + nq, by omega, by go_num, rfl, by rw [HW.out]; simp⟩, by simp [intOf]; omega⟩
    · obtain rfl : k = len := by omega
      have e : ((gathTo x p k : Nat) : Int) % 4294967296 = (gathTo x p k : Nat) := by
        have h1 := gathTo_lt x p k
        have h2 := Nat.pow_le_pow_right (n := 2) (by decide) hl
        omega
      rw [e]
      go_ret2
      exact ⟨rfl, m, HW.out⟩

theorem rscatter_u (v : Int) (h0 : 0 ≤ v) (h1 : v < 4294967296) (a : Option Addr) (len cap : Nat) (p : Nat → Int) (w : World) (hc : Cells w a len p) :
    Calls Tryd.prog 60 #[.int .u32 v, .slice a len cap] w fun e w' => e = .returned (.tuple #[.int .u32 (scatV v p len), .int .i64 (scatE v p len)]) ∧ ∃ m, w' = w.drewN m := by
  by_cases he : errOf p len = 0
  · obtain ⟨n, rfl⟩ : ∃ k : Nat, v = k := ⟨v.toNat, by omega⟩
    by_cases hv : (n : Int) < 2 ^ len
    · rcases hc with rfl | ⟨b, off, rfl, hc⟩
      · obtain rfl : n = 0 := by simp at hv; omega
        have h := rscatter_walk_none a cap p w
        simpa [scatV, scatE, okE, he, scatTo, orTo] using h
      · have h := rscatter_walk_some n (by omega) b off len cap p w hc he hv
        simpa [scatV, scatE, okE, he, hv] using h
    · have h := rscatter_walk_big n (by omega) h1 a len cap p w hc he (by omega)
      simpa [scatV, scatE, okE, he, hv] using h
  · have h := rscatter_walk_no v a len cap p w hc he
    simpa [scatV, scatE, he] using h

theorem rgather_u (x : Int) (h0 : 0 ≤ x) (h1 : x < 4294967296) (a : Option Addr) (len cap : Nat) (p : Nat → Int) (w : World) (hc : Cells w a len p) :
    Calls Tryd.prog 41 #[.int .u32 x, .slice a len cap] w fun e w' => e = .returned (.tuple #[.int .u32 (gathV x p len), .int .i64 (errOf p len)]) ∧ ∃ m, w' = w.drewN m := by
  by_cases he : errOf p len = 0
  · obtain ⟨n, rfl⟩ : ∃ k : Nat, x = k := ⟨x.toNat, by omega⟩
    rcases hc with rfl | ⟨b, off, rfl, hc⟩
    · have h := rgather_walk_none n a cap p w
      simpa [gathV, he, gathTo, orTo] using h
    · have h := rgather_walk_some n (by omega) b off len cap p w hc he
      simpa [gathV, he] using h
  · have h := rgather_walk_no x a len cap p w hc he
    simpa [gathV, he] using h

end Go.Proofs.YtbmcanpjpibecaaDoor
