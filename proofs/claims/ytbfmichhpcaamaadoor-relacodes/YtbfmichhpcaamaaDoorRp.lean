/- What the document's own Put gives. -/
import Derived.Test.YtbfmichhpcaamaaDoorPu
namespace Go.Proofs.YtbfmichhpcaamaaDoor
open Go.RowKit

set_option maxHeartbeats 1600000 in
theorem bytes_walk (n : Int) (size : Nat) (w : World) (hsz : size ≤ 8) :
    Calls Tryd.prog 42 #[.int .i64 n, .int .i64 (size : Int)] w fun e w' => ∃ v, e = .returned v ∧ Own w' w.heap.size v (byN (uOf n) size) ∧ Kept w w' := by
  obtain ⟨i0, hi, hz0, hz1, hz2⟩ := info_parts Tryd.infoByte
  have hu := wrap_u n
  have hul := uOf_lt n
  go_enter Tryd.func42, Tryd.ntmps42
  go_wp2
  go_loopw [5, 6, 7] (fun v x i wr => ∃ k : Nat, k ≤ size ∧ i = .int .i64 k ∧ x = .int .u64 ((uOf n / 256 ^ k : Nat) : Int) ∧ Own wr w.heap.size v (byN (uOf n) k) ∧ Kept w wr) (fun _ _ i _ => size - (intOf i).toNat)
  case atStart => exact ⟨0, Nat.zero_le _, rfl, by simp, Own.nil _ _, Kept.refl _⟩
  case round =>
    obtain ⟨k, hk, rfl, rfl, hown, hkept⟩ := hrel
    have hlen := byN_length (uOf n) k
    have hq : uOf n / 256 ^ k < 18446744073709551616 := Nat.lt_of_le_of_lt (Nat.div_le_self _ _) hul
    obtain ⟨q, hqe⟩ : ∃ q, uOf n / 256 ^ k = q := ⟨_, rfl⟩
    have HQ : Hid (uOf n / 256 ^ k = q) := hqe
    rw [hqe] at hq ⊢
    have HL : Hid ((byN (uOf n) k).length = k) := hlen
    clear hqe hlen
    by_cases hlt : k < size
    · go_wp2_with (at_builtin; refine wpList_append_own _ rfl _ _ 33 rfl w.heap.size 5 i0 (.int .u8 0) 1 1 Tryd.underlying33 hi hz0 hz1 hz2 rfl (by decide) _ _ _ rfl (hown.alloc _) ⟨wr.heap.size, 0, none⟩ 1 1 [.int .u8 ((q : Int) % 256)] rfl rfl ?c1 ?c2 ?c3 ?c4 ?c5 ?_)
      case c1 =>
        intro j u hj
        match j, hj with
        | 0, hj => simp at hj; subst hj; simp [Addr.add]
      case c2 => intro u hu; simp at hu; subst hu; rfl
      case c3 => have := HL.out; unfold maxLen; omega
      case c4 => have := HL.out; omega
      case c5 => have := hkept.size; simp; omega
      intro v' w1 hown' hgrow _
      have R1 : Own w1 w.heap.size v' (byN (uOf n) (k + 1)) := by
        rw [byN_snoc, HQ.out]
        simpa [Own] using hown'
      have R2 : Kept w w1 := (Below.alloc hkept hkept.size _).grown hgrow (by have := hkept.size; simp; omega) (fun j e => (hown.lt j e).1)
      have R3 : uOf n / 256 ^ (k + 1) = q / 256 := by rw [Nat.pow_succ, ← Nat.div_div_eq_div_mul, HQ.out]
      have HR : Hid (uOf n / 256 ^ (k + 1) = q / 256) := R3
      clear hown' hgrow hown hkept R3
      go_wp2
      go_roundw
      case rel => exact ⟨k + 1, by omega, by go_num, by rw [HR.out]; simp, R1, R2⟩
      case measure => simp [intOf]; omega
    · obtain rfl : k = size := by omega
      go_wp2
      go_ret
      exact ⟨_, rfl, hown, hkept⟩

end Go.Proofs.YtbfmichhpcaamaaDoor
