/- What Get gives, and the document's own Get. -/
import Derived.Test.YtbfmichhpcaamaaDoorPu
namespace Go.Proofs.YtbfmichhpcaamaaDoor
open Go.RowKit

/-- The bytes from a place on. -/
theorem Byt.part {w : World} {b off : Nat} {l : List Int} {at_ size : Nat} (hc : ∀ i, i < l.length → w.cell? ⟨b, off + i, none⟩ = some (.int .u8 (l.getD i 0))) (h : at_ + size ≤ l.length) :
    ∀ i, i < size → w.cell? ⟨b, off + at_ + i, none⟩ = some (.int .u8 (((l.drop at_).take size).getD i 0)) := by
  intro i hi
  rw [Nat.add_assoc, hc (at_ + i) (by omega)]
  simp [List.getD, hi]

theorem take_snoc_int (l : List Int) (k : Nat) (h : k < l.length) : l.take (k + 1) = l.take k ++ [l.getD k 0] := by
  rw [List.take_succ_eq_append_getElem h]
  simp [List.getD, h]

theorem i64_wrap (u : Nat) : IntKind.i64.wrap (u : Int) = sOf u := by
  have e : IntKind.i64.wrap (u : Int) = if 9223372036854775808 ≤ (u : Int) % 18446744073709551616 then (u : Int) % 18446744073709551616 - 18446744073709551616 else (u : Int) % 18446744073709551616 := by
    simp [IntKind.wrap, IntKind.bits, IntKind.signed]
  rw [e]
  unfold sOf
  split <;> omega

/-- A byte laid above the bytes that are there. -/
theorem or_byte (u b k : Nat) (hk : k < 8) (hu : u < 256 ^ k) (hb : b < 256) : bits .or .u64 (u : Int) ((b : Int) * 2 ^ (8 * k) % 18446744073709551616) = ((u + b * 256 ^ k : Nat) : Int) := by
  have h256 : (256 : Nat) ^ k = 2 ^ (8 * k) := by rw [Nat.pow_mul]
  have hbk : b * 256 ^ k < 18446744073709551616 := by
    have h1 : 256 ^ k ≤ 256 ^ 7 := Nat.pow_le_pow_right (by decide) (by omega)
    have h2 : b * 256 ^ k ≤ 255 * 256 ^ 7 := Nat.mul_le_mul (by omega) h1
    exact Nat.lt_of_le_of_lt h2 (by decide)
  have hu' : u < 18446744073709551616 := by
    have h1 : 256 ^ k ≤ 256 ^ 8 := Nat.pow_le_pow_right (by decide) (by omega)
    exact Nat.lt_of_lt_of_le hu (Nat.le_trans h1 (by decide))
  have e1 : (b : Int) * 2 ^ (8 * k) % 18446744073709551616 = ((b * 256 ^ k : Nat) : Int) := by
    rw [show (b : Int) * 2 ^ (8 * k) = ((b * 256 ^ k : Nat) : Int) by rw [h256]; simp]
    generalize b * 256 ^ k = z at hbk
    omega
  rw [e1, u64_or_nat _ _ hu' hbk]
  congr 1
  rw [h256] at hu ⊢
  rw [Nat.or_comm, Nat.mul_comm, ← Nat.two_pow_add_eq_or_of_lt hu, Nat.add_comm]

set_option maxHeartbeats 1600000 in
theorem get_yes (b off at_ size cap : Nat) (l : List Int) (w : World) (hl : ∀ x ∈ l, 0 ≤ x ∧ x < 256) (hlen : l.length ≤ 1000000) (hcap : l.length ≤ cap) (hs : szB (size : Int) = true) (hin : at_ + size ≤ l.length)
    (hc : ∀ i, i < l.length → w.cell? ⟨b, off + i, none⟩ = some (.int .u8 (l.getD i 0))) :
    Calls Tryd.prog 23 #[.slice (some ⟨b, off, none⟩) l.length cap, .int .i64 (at_ : Int), .int .i64 (size : Int)] w fun e w' => e = .returned (.tuple #[.int .i64 (sOf (nuN ((l.drop at_).take size))), .int .i64 0]) ∧ w' = w := by
  have hsz : 1 ≤ size ∧ size ≤ 8 := by rcases szB_true hs with h | h | h | h <;> omega
  obtain ⟨hs1, hs8⟩ := hsz
  have hpart := Byt.part hc hin
  obtain ⟨m, hm⟩ : ∃ m, (l.drop at_).take size = m := ⟨_, rfl⟩
  have hml : m.length = size := by rw [← hm]; simp; omega
  have hmr : ∀ x ∈ m, 0 ≤ x ∧ x < 256 := by
    intro x hx
    rw [← hm] at hx
    exact hl x (List.mem_of_mem_drop (List.mem_of_mem_take hx))
  rw [hm] at hpart ⊢
  clear hm hc hl
  obtain ⟨n, hn⟩ : ∃ n, n = l.length := ⟨_, rfl⟩
  rw [← hn] at hlen hcap hin ⊢
  clear hn
  go_enter Tryd.func23, Tryd.ntmps23
  go_wp2_with (go_at_call 39; refine (isSize_walk _ _).mono ?_; rintro e w' ⟨rfl, rfl⟩)
  go_loop [8, 31] (fun x i => ∃ k : Nat, k ≤ size ∧ i = .int .i64 k ∧ x = .int .u64 ((nuN (m.take k) : Nat) : Int)) (fun _ i => size - (intOf i).toNat)
  case atStart => exact ⟨0, Nat.zero_le _, rfl, rfl⟩
  case round =>
    obtain ⟨k, hk, rfl, rfl⟩ := hrel
    by_cases hlt : k < size
    · have hcell := hpart k hlt
      have htk := take_snoc_int m k (by omega)
      have hx := hmr (m.getD k 0) (by
        have : m.getD k 0 = m[k]'(by omega) := by simp [List.getD, show k < m.length by omega]
        rw [this]; exact List.getElem_mem _)
      obtain ⟨c, hcc⟩ : ∃ c : Nat, m.getD k 0 = (c : Int) := ⟨(m.getD k 0).toNat, by omega⟩
      rw [hcc] at hcell hx htk
      have hc256 : c < 256 := by omega
      have hX : nuN (m.take k) < 256 ^ k := by
        have := nuN_lt (m.take k) (fun x hx => hmr x (List.mem_of_mem_take hx))
        rwa [List.length_take, Nat.min_eq_left (by omega)] at this
      have hst : nuN (m.take (k + 1)) = nuN (m.take k) + c * 256 ^ k := by
        rw [htk, nuN_snoc, List.length_take, Nat.min_eq_left (by omega)]
        rfl
      have hor := or_byte (nuN (m.take k)) c k (by omega) hX hc256
      have HO : Hid (bits .or .u64 ((nuN (m.take k) : Nat) : Int) ((c : Int) * 2 ^ (8 * k) % 18446744073709551616) = ((nuN (m.take (k + 1)) : Nat) : Int)) := by rw [hst]; exact hor
      have hX64 : nuN (m.take k) < 18446744073709551616 := Nat.lt_of_lt_of_le hX (Nat.le_trans (Nat.pow_le_pow_right (by decide) (show k ≤ 8 by omega)) (by decide))
      clear hst hor htk hx hcc hX hpart
      go_wp2
      go_round
      case rel => exact ⟨k + 1, by omega, by go_num, by rw [← HO.out]; rfl⟩
      case measure => simp [intOf]; omega
    · obtain rfl : k = size := by omega
      have hw := i64_wrap (nuN (m.take k))
      have ht : m.take k = m := List.take_of_length_le (by omega)
      have HT : Hid (m.take k = m) := ht
      clear ht
      go_wp2
      go_ret2
      exact ⟨by simp [HT.out], rfl⟩

theorem get_size (a : Option Addr) (len cap : Nat) (at_ size : Int) (w : World) (hs : szB size = false) :
    Calls Tryd.prog 23 #[.slice a len cap, .int .i64 at_, .int .i64 size] w fun e w' => e = .returned (.tuple #[.int .i64 0, .int .i64 2]) ∧ w' = w := by
  go_enter Tryd.func23, Tryd.ntmps23
  go_wp2_with (go_at_call 39; refine (isSize_walk _ _).mono ?_; rintro e w' ⟨rfl, rfl⟩)
  go_ret2
  exact ⟨rfl, rfl⟩

theorem get_out (a : Option Addr) (len cap : Nat) (at_ size : Int) (w : World) (hlen : len ≤ 1000000) (hs : szB size = true) (h : at_ < 0 ∨ (len : Int) < at_ + size) :
    Calls Tryd.prog 23 #[.slice a len cap, .int .i64 at_, .int .i64 size] w fun e w' => e = .returned (.tuple #[.int .i64 0, .int .i64 8]) ∧ w' = w := by
  have h8 : 1 ≤ size ∧ size ≤ 8 := by rcases szB_true hs with h | h | h | h <;> omega
  obtain ⟨h1, h8⟩ := h8
  by_cases hneg : at_ < 0
  · go_enter Tryd.func23, Tryd.ntmps23
    go_wp2_with (go_at_call 39; refine (isSize_walk _ _).mono ?_; rintro e w' ⟨rfl, rfl⟩)
    go_ret2
    exact ⟨rfl, rfl⟩
  · have hgt : (len : Int) - size < at_ := by omega
    clear h
    go_enter Tryd.func23, Tryd.ntmps23
    go_wp2_with (go_at_call 39; refine (isSize_walk _ _).mono ?_; rintro e w' ⟨rfl, rfl⟩)
    go_ret2
    exact ⟨rfl, rfl⟩

theorem get_no {l : List Int} {at_ size : Int} (hs : szB size = false) : getV l at_ size = 0 ∧ getE l at_ size = 2 := by simp [getV, getE, hs]
theorem get_far {l : List Int} {at_ size : Int} (hs : szB size = true) (hi : inB l at_ size = false) : getV l at_ size = 0 ∧ getE l at_ size = 8 := by simp [getV, getE, hs, hi]
theorem get_in {l : List Int} {at_ size : Int} (hs : szB size = true) (hi : inB l at_ size = true) : getV l at_ size = sOf (nuN ((l.drop at_.toNat).take size.toNat)) ∧ getE l at_ size = 0 := by simp [getV, getE, hs, hi]

/-- What Get gives. -/
theorem get_walk (a : Option Addr) (cap : Nat) (l : List Int) (at_ size : Int) (w : World) (hl : ∀ x ∈ l, 0 ≤ x ∧ x < 256) (hlen : l.length ≤ 1000000) (hcap : l.length ≤ cap) (hb : Byt w a l) :
    Calls Tryd.prog 23 #[.slice a l.length cap, .int .i64 at_, .int .i64 size] w fun e w' => e = .returned (.tuple #[.int .i64 (getV l at_ size), .int .i64 (getE l at_ size)]) ∧ w' = w := by
  cases hs : szB size
  · rw [(get_no hs).1, (get_no hs).2]
    exact get_size a _ cap at_ size w hs
  · cases hi : inB l at_ size
    · have := of_decide_eq_false hi
      rw [(get_far hs hi).1, (get_far hs hi).2]
      exact get_out a _ cap at_ size w hlen hs (by omega)
    · rw [(get_in hs hi).1, (get_in hs hi).2]
      obtain ⟨h0, h1⟩ := of_decide_eq_true hi
      have h8 : 1 ≤ size ∧ size ≤ 8 := by rcases szB_true hs with h | h | h | h <;> omega
      have es := szB_nat hs
      have ea : ((at_.toNat : Nat) : Int) = at_ := by omega
      rcases hb with rfl | ⟨b, off, rfl, hc⟩
      · simp at h1; omega
      · have := get_yes b off at_.toNat size.toNat cap l w hl hlen hcap (by rw [es]; exact hs) (by omega) hc
        rw [es, ea] at this
        exact this

/-- The bytes from the highest one down. -/
theorem nuN_drop (m : List Int) (k : Nat) (h : k < m.length) : nuN (m.drop k) = (m.getD k 0).toNat + 256 * nuN (m.drop (k + 1)) := by
  rw [List.drop_eq_getElem_cons h, nuN_cons]
  simp [List.getD, h]

set_option maxHeartbeats 1600000 in
theorem number_walk (b off cap : Nat) (m : List Int) (w : World) (hmr : ∀ x ∈ m, 0 ≤ x ∧ x < 256) (h8 : m.length ≤ 8)
    (hc : ∀ i, i < m.length → w.cell? ⟨b, off + i, none⟩ = some (.int .u8 (m.getD i 0))) :
    Calls Tryd.prog 30 #[.slice (some ⟨b, off, none⟩) m.length cap] w fun e w' => e = .returned (.int .i64 (sOf (nuN m))) ∧ w' = w := by
  obtain ⟨size, hsz⟩ : ∃ size, m.length = size := ⟨_, rfl⟩
  rw [hsz] at h8 hc ⊢
  go_enter Tryd.func30, Tryd.ntmps30
  go_wp2
  go_loop [3, 4] (fun x i => ∃ k : Nat, k ≤ size ∧ i = .int .i64 ((k : Int) - 1) ∧ x = .int .u64 ((nuN (m.drop k) : Nat) : Int)) (fun _ i => (intOf i + 1).toNat)
  case atStart => exact ⟨size, Nat.le_refl _, by simp, by rw [← hsz]; simp [nuN, leN]⟩
  case round =>
    obtain ⟨k, hk, rfl, rfl⟩ := hrel
    by_cases hlt : 0 < k
    · obtain ⟨j, rfl⟩ : ∃ j, k = j + 1 := ⟨k - 1, by omega⟩
      have ej : ((j + 1 : Nat) : Int) - 1 = (j : Int) := by omega
      rw [ej]
      have hcell := hc j (by omega)
      have hd := nuN_drop m j (by omega)
      have hx := hmr (m.getD j 0) (by
        have : m.getD j 0 = m[j]'(by omega) := by simp [List.getD, show j < m.length by omega]
        rw [this]; exact List.getElem_mem _)
      obtain ⟨c, hcc⟩ : ∃ c : Nat, m.getD j 0 = (c : Int) := ⟨(m.getD j 0).toNat, by omega⟩
      rw [hcc] at hcell hx hd
      have hc256 : c < 256 := by omega
      have hlt2 : nuN (m.drop j) < 18446744073709551616 := by
        have := nuN_lt (m.drop j) (fun x hx => hmr x (List.mem_of_mem_drop hx))
        exact Nat.lt_of_lt_of_le this (Nat.le_trans (Nat.pow_le_pow_right (by decide) (show (m.drop j).length ≤ 8 by simp; omega)) (by decide))
      have hd' : nuN (m.drop j) = c + 256 * nuN (m.drop (j + 1)) := by simpa using hd
      obtain ⟨q, hq⟩ : ∃ q, nuN (m.drop (j + 1)) = q := ⟨_, rfl⟩
      rw [hq] at hd' ⊢
      have hq64 : q * 256 + c < 18446744073709551616 := by omega
      have HD : Hid (nuN (m.drop j) = c + 256 * q) := hd'
      clear hd hd' hx hcc hq hc hlt2
      go_wp2
      go_round
      case rel => exact ⟨j, by omega, by go_num, by rw [HD.out]; go_num⟩
      case measure => simp [intOf]
    · obtain rfl : k = 0 := by omega
      have hw := i64_wrap (nuN m)
      go_wp2
      go_ret
      exact ⟨by simp, rfl⟩
end Go.Proofs.YtbfmichhpcaamaaDoor
