/- What Put gives, and the document's own Put. -/
import Derived.Test.YtbfmichhpcaamaaDoorBy
namespace Go.Proofs.YtbfmichhpcaamaaDoor
open Go.RowKit

theorem wrap_u (n : Int) : IntKind.u64.wrap n = ((uOf n : Nat) : Int) := by
  rw [uOf_cast]; rfl
theorem ret_bool {a b : Bool} (h : a = b) : Ending.returned (.bool a) = .returned (.bool b) := by rw [h]
theorem fit_eq (n : Int) (q : Int) (hq : q = 256 ∨ q = 65536 ∨ q = 4294967296) (h0 : -9223372036854775808 ≤ n) (h1 : n ≤ 9223372036854775807) : (IntKind.u64.wrap n / q == 0) = decide (0 ≤ n ∧ n < q) := by
  rw [wrap_u, uOf_cast, Bool.eq_iff_iff]
  simp only [beq_iff_eq, decide_eq_true_eq]
  rcases hq with rfl | rfl | rfl <;> omega

theorem fits_walk (n size : Int) (w : World) (h0 : -9223372036854775808 ≤ n) (h1 : n ≤ 9223372036854775807) (hs : szB size = true) :
    Calls Tryd.prog 40 #[.int .i64 n, .int .i64 size] w fun e w' => e = .returned (.bool (mayB n size)) ∧ w' = w := by
  rcases szB_true hs with rfl | rfl | rfl | rfl
  · rw [mayB_1]
    go_enter Tryd.func40, Tryd.ntmps40
    go_wp2
    go_ret
    exact ⟨ret_bool (fit_eq n _ (by simp) h0 h1), rfl⟩
  · rw [mayB_2]
    go_enter Tryd.func40, Tryd.ntmps40
    go_wp2
    go_ret
    exact ⟨ret_bool (fit_eq n _ (by simp) h0 h1), rfl⟩
  · rw [mayB_4]
    go_enter Tryd.func40, Tryd.ntmps40
    go_wp2
    go_ret
    exact ⟨ret_bool (fit_eq n _ (by simp) h0 h1), rfl⟩
  · rw [mayB_8]
    go_enter Tryd.func40, Tryd.ntmps40
    go_wp2
    go_ret
    exact ⟨rfl, rfl⟩

/-- The bytes that are laid so far, and noughts. -/
def rowAt (u k size : Nat) : List Int := byN u k ++ List.replicate (size - k) 0
theorem rowAt_length (u k size : Nat) (h : k ≤ size) : (rowAt u k size).length = size := by simp [rowAt, byN_length]; omega
theorem rowAt_set (u k size : Nat) (h : k < size) : (rowAt u k size).set k ((u / 256 ^ k % 256 : Nat) : Int) = rowAt u (k + 1) size := by
  obtain ⟨m, hm⟩ : ∃ m, size - k = m + 1 := ⟨size - k - 1, by omega⟩
  have hm' : size - (k + 1) = m := by omega
  unfold rowAt
  rw [hm, hm', List.set_append_right _ _ (by rw [byN_length]; exact Nat.le_refl _), byN_length, Nat.sub_self, List.replicate_succ, List.set_cons_zero, byN_snoc, List.append_assoc]
  rfl

set_option maxHeartbeats 1600000 in
theorem put_yes (n : Int) (size : Nat) (w : World) (h0 : -9223372036854775808 ≤ n) (h1 : n ≤ 9223372036854775807) (hs : szB (size : Int) = true) (hm : mayB n size = true) :
    Calls Tryd.prog 27 #[.int .i64 n, .int .i64 (size : Int)] w fun e w' => ∃ v, e = .returned (.tuple #[v, .int .i64 0]) ∧ Own w' w.heap.size v (byN (uOf n) size) ∧ Kept w w' := by
  obtain ⟨i0, hi, hz0, hz1, hz2⟩ := info_parts Tryd.infoByte
  have hsz : size ≤ 8 := by rcases szB_true hs with h | h | h | h <;> omega
  go_enter Tryd.func27, Tryd.ntmps27
  go_wp2_with (first
    | (go_at_call 39; refine (isSize_walk _ _).mono ?_; rintro e w' ⟨rfl, rfl⟩)
    | (go_at_call 40; refine (fits_walk _ _ _ h0 h1 hs).mono ?_; rintro e w' ⟨rfl, rfl⟩)
    | (at_make; refine wpList_make_full _ rfl _ _ 33 rfl _ 5 i0 (.int .u8 0) 1 Tryd.underlying33 hi hz0 hz1 _ _ _ _ size rfl rfl rfl rfl (by rw [hz2]; omega) (by unfold maxLen; omega) (Nat.le_refl _) ?_))
  intro w1 hown hgrow
  have R0 : Own w1 w'.heap.size (.slice (some ⟨w'.heap.size, 0, none⟩) size size) (rowAt (uOf n) 0 size) := by
    have e : (rowAt (uOf n) 0 size).map (Value.int .u8) = List.replicate size (Value.int .u8 0) := by simp [rowAt, byN, leB]
    unfold Own
    rw [rowAt_length _ _ _ (Nat.zero_le _), e, ← toList_madeCells_one]
    simpa using hown
  have K0 : Kept w' w1 := (Below.refl _ _).grown hgrow (Nat.le_refl _) (fun k e => by cases e)
  have hu := wrap_u n
  have hul := uOf_lt n
  clear hown hgrow
  go_wp2
  go_loopw [24] (fun i wr => ∃ k : Nat, k ≤ size ∧ i = .int .i64 k ∧ Own wr w'.heap.size (.slice (some ⟨w'.heap.size, 0, none⟩) size size) (rowAt (uOf n) k size) ∧ Kept w' wr) (fun i _ => size - (intOf i).toNat)
  case atStart => exact ⟨0, Nat.zero_le _, rfl, R0, K0⟩
  case round =>
    obtain ⟨k, hk, rfl, hown, hkept⟩ := hrel
    clear R0 K0
    by_cases hlt : k < size
    · have hown' := hown
      unfold Own at hown'
      rw [rowAt_length _ _ _ hk] at hown'
      have hc : wr.cell? ⟨w'.heap.size, k, none⟩ = some (.int .u8 ((rowAt (uOf n) k size)[k]'(by rw [rowAt_length _ _ _ hk]; exact hlt))) := by
        rw [hown'.cellAt k (by omega)]
        simp [rowAt_length _ _ _ hk, hlt]
      have hf := hown'.frozenAt k
      have hv : ((uOf n : Nat) : Int) / 2 ^ (8 * k) % 256 = ((uOf n / 256 ^ k % 256 : Nat) : Int) := by
        rw [show (256 : Nat) ^ k = 2 ^ (8 * k) by rw [Nat.pow_mul]]
        simp
      obtain ⟨S1, S2⟩ := hown'.stored k (.int .u8 ((uOf n / 256 ^ k % 256 : Nat) : Int))
      have S1' : Own (wr.setCell ⟨w'.heap.size, k, none⟩ (.int .u8 ((uOf n / 256 ^ k % 256 : Nat) : Int))) w'.heap.size (.slice (some ⟨w'.heap.size, 0, none⟩) size size) (rowAt (uOf n) (k + 1) size) := by
        unfold Own
        rw [rowAt_length _ _ _ hlt, ← rowAt_set _ _ _ hlt, List.map_set]
        exact S1
      have S2' : Kept w' (wr.setCell ⟨w'.heap.size, k, none⟩ (.int .u8 ((uOf n / 256 ^ k % 256 : Nat) : Int))) := hkept.grown S2 hkept.size (fun j e => by cases e; exact Nat.le_refl _)
      have HV : Hid (((uOf n : Nat) : Int) / 2 ^ (8 * k) % 256 = ((uOf n / 256 ^ k % 256 : Nat) : Int)) := hv
      clear hv S1 S2 hown'
      go_wp2
      go_roundw
      case rel => exact ⟨k + 1, by omega, by go_num, by rw [HV.out]; exact S1', by rw [HV.out]; exact S2'⟩
      case measure => simp [intOf]; omega
    · obtain rfl : k = size := by omega
      have hrow : rowAt (uOf n) k k = byN (uOf n) k := by simp [rowAt]
      rw [hrow] at hown
      clear hrow
      go_wp2
      go_ret2
      exact ⟨_, rfl, hown, hkept⟩

theorem put_no (n size : Int) (w : World) (h0 : -9223372036854775808 ≤ n) (h1 : n ≤ 9223372036854775807) (hm : mayB n size = false) :
    Calls Tryd.prog 27 #[.int .i64 n, .int .i64 size] w fun e w' => e = .returned (.tuple #[.slice none 0 0, .int .i64 2]) ∧ w' = w := by
  cases hs : szB size
  · go_enter Tryd.func27, Tryd.ntmps27
    go_wp2_with (go_at_call 39; refine (isSize_walk _ _).mono ?_; rintro e w' ⟨rfl, rfl⟩)
    go_ret2
    exact ⟨rfl, rfl⟩
  · go_enter Tryd.func27, Tryd.ntmps27
    go_wp2_with (first
      | (go_at_call 39; refine (isSize_walk _ _).mono ?_; rintro e w' ⟨rfl, rfl⟩)
      | (go_at_call 40; refine (fits_walk _ _ _ h0 h1 hs).mono ?_; rintro e w' ⟨rfl, rfl⟩))
    go_ret2
    exact ⟨rfl, rfl⟩

theorem mayB_sz {n size : Int} (h : mayB n size = true) : szB size = true := by
  unfold mayB at h
  rw [Bool.and_eq_true] at h
  exact h.1
theorem szB_nat {size : Int} (h : szB size = true) : ((size.toNat : Nat) : Int) = size := by rcases szB_true h with rfl | rfl | rfl | rfl <;> rfl

/-- What Put gives. -/
theorem put_walk (n size : Int) (w : World) (h0 : -9223372036854775808 ≤ n) (h1 : n ≤ 9223372036854775807) :
    Calls Tryd.prog 27 #[.int .i64 n, .int .i64 size] w fun e w' => ∃ v, e = .returned (.tuple #[v, .int .i64 (putE n size)]) ∧ Own w' w.heap.size v (putL n size) ∧ Kept w w' := by
  unfold putE putL
  cases hm : mayB n size
  · refine (put_no n size w h0 h1 hm).mono ?_
    rintro e w' ⟨rfl, rfl⟩
    exact ⟨_, rfl, Own.nil _ _, Kept.refl _⟩
  · have hs := mayB_sz hm
    have e := szB_nat hs
    have := put_yes n size.toNat w h0 h1 (by rw [e]; exact hs) (by rw [e]; exact hm)
    rw [e] at this
    exact this

end Go.Proofs.YtbfmichhpcaamaaDoor
