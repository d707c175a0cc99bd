/- The law StrtabNames, walked. -/
import Derived.Test.YtahkiaoifkcmoaaSw
import Derived.Lib.SlBytesConst
namespace Go.Proofs.Ytahkiaoifkcmoaa
open Go.RowKit

theorem build_many (a : Option Addr) (cap n : Nat) (w : World) (hm : 1024 < n) :
    Calls Try.prog 10 #[.slice a n cap] w fun e w' => e = .returned (.tuple #[.slice none 0 0, .slice none 0 0, .int .i64 4]) ∧ w' = w := by
  go_enter Try.func10, Try.ntmps10
  go_wp2
  go_ret3
  exact ⟨rfl, rfl⟩
def exT : List Int := [0, 97, 98, 0, 99, 0]
theorem exT_get : getS exT 2 = [98] ∧ getR exT 2 = 0 ∧ getS exT 3 = [] ∧ getR exT 3 = 0 ∧ getS exT 6 = [] ∧ getR exT 6 = 8 := by decide +kernel
theorem exT_range : ∀ x ∈ exT, 0 ≤ x ∧ x < 256 := by decide +kernel
theorem exT_byt (w : World) : Byt (w.alloc (.cells #[.int .u8 0, .int .u8 97, .int .u8 98, .int .u8 0, .int .u8 99, .int .u8 0] 5 (6, 7))) (some ⟨w.heap.size, 0, none⟩) exT := by
  refine .inr ⟨w.heap.size, 0, rfl, fun i hi => ?_⟩
  match i, hi with
  | 0, _ => rw [Nat.zero_add, World.cell?_alloc_mark]; rfl
  | 1, _ => rw [Nat.zero_add, World.cell?_alloc_mark]; rfl
  | 2, _ => rw [Nat.zero_add, World.cell?_alloc_mark]; rfl
  | 3, _ => rw [Nat.zero_add, World.cell?_alloc_mark]; rfl
  | 4, _ => rw [Nat.zero_add, World.cell?_alloc_mark]; rfl
  | 5, _ => rw [Nat.zero_add, World.cell?_alloc_mark]; rfl
def exW : List ByteArray := [⟨#[97, 0]⟩]
theorem exW_e : bldE exW = 3 ∧ bldT exW = [] ∧ bldP exW = [] := by decide +kernel
theorem exW_strs (w : World) : Strs (w.alloc (.cells #[.string ⟨#[97, 0]⟩] 9)) (some ⟨w.heap.size, 0, none⟩) exW := by
  refine .inr ⟨w.heap.size, 0, rfl, fun i hi => ?_⟩
  match i, hi with
  | 0, _ => simp [exW]
theorem build_wrong (w : World) : Calls Try.prog 10 #[.slice (some ⟨w.heap.size, 0, none⟩) 1 1] (w.alloc (.cells #[.string ⟨#[97, 0]⟩] 9)) fun e w' => (∃ v p, e = .returned (.tuple #[v, p, .int .i64 3])) ∧ Kept w w' := by
  refine (build_walk (some ⟨w.heap.size, 0, none⟩) 1 1 exW _ rfl (by decide +kernel) (exW_strs w)).mono ?_
  rintro e w' ⟨v, p, rfl, _, _, k⟩
  rw [exW_e.1]
  exact ⟨⟨_, _, rfl⟩, (Kept.alloc _ _).trans k⟩
theorem check_none (w : World) : Calls Try.prog 12 #[.slice none 0 0] w fun e w' => e = .returned (.int .i64 8) ∧ w' = w :=
  check_len none 0 0 [] w rfl (by omega) (Nat.le_refl _) (.inl rfl)
theorem check_one (w : World) : Calls Try.prog 12 #[.slice (some ⟨w.heap.size, 0, none⟩) 1 1] (w.alloc (.cells #[.int .u8 0] 5)) fun e w' => e = .returned (.int .i64 0) ∧ Kept w w' := by
  refine (check_len (some ⟨w.heap.size, 0, none⟩) 1 1 [0] _ rfl (by omega) (Nat.le_refl _) (.inr ⟨w.heap.size, 0, rfl, fun i hi => ?_⟩)).mono ?_
  · match i, hi with
    | 0, _ => simp
  · rintro e w' ⟨rfl, rfl⟩
    exact ⟨by rw [show chkE [0] = 0 by decide +kernel], Kept.alloc _ _⟩
theorem check_two (w : World) : Calls Try.prog 12 #[.slice (some ⟨w.heap.size, 0, none⟩) 2 2] (w.alloc (.cells #[.int .u8 0, .int .u8 1] 5)) fun e w' => e = .returned (.int .i64 8) ∧ Kept w w' := by
  refine (check_len (some ⟨w.heap.size, 0, none⟩) 2 2 [0, 1] _ rfl (by omega) (Nat.le_refl _) (.inr ⟨w.heap.size, 0, rfl, fun i hi => ?_⟩)).mono ?_
  · match i, hi with
    | 0, _ => simp
    | 1, _ => simp
  · rintro e w' ⟨rfl, rfl⟩
    exact ⟨by rw [show chkE [0, 1] = 8 by decide +kernel], Kept.alloc _ _⟩

set_option maxRecDepth 20000 in
set_option maxHeartbeats 3200000 in
theorem names_walk (w : World) : Calls Try.prog 3 #[] w fun e w' => e = .returned (.bool true) ∧ Kept w w' := by
  obtain ⟨i0, hi, hz0, hz1, hz2⟩ := info_parts Try.infoStr
  have hg := exT_get
  have hb := exT_byt w
  have g2 := get_walk (some ⟨w.heap.size, 0, none⟩) 6 6 exT 2 _ exT_range rfl (by omega) (Nat.le_refl _) hb
  have g3 := get_walk (some ⟨w.heap.size, 0, none⟩) 6 6 exT 3 _ exT_range rfl (by omega) (Nat.le_refl _) hb
  have g6 := get_walk (some ⟨w.heap.size, 0, none⟩) 6 6 exT 6 _ exT_range rfl (by omega) (Nat.le_refl _) hb
  rw [hg.1, hg.2.1] at g2
  rw [hg.2.2.1, hg.2.2.2.1] at g3
  rw [hg.2.2.2.2.1, hg.2.2.2.2.2] at g6
  obtain ⟨sb, hsb⟩ : ∃ sb, strOfNums [98] = sb := ⟨_, rfl⟩
  have q1 : (sb.toList == [98]) = true := by rw [← hsb, Lib.strOfNums_toList]; rfl
  have q2 : (⟨#[]⟩ : ByteArray).toList.isEmpty = true := by rw [Lib.toList_data]; rfl
  rw [hsb] at g2
  rw [str_empty] at g3 g6
  clear hsb hg hb
  have kc : (convert 22 22 (.slice (some ⟨w.heap.size, 0, none⟩) 6 6)).run Try.prog (w.alloc (.cells #[.int .u8 0, .int .u8 97, .int .u8 98, .int .u8 0, .int .u8 99, .int .u8 0] 5)) = .ok (.slice (some ⟨w.heap.size, 0, none⟩) 6 6) (w.alloc (.cells #[.int .u8 0, .int .u8 97, .int .u8 98, .int .u8 0, .int .u8 99, .int .u8 0] 5 (6, 7))) := Lib.run_convert_bytes_const (P := Try.prog) w 22 5 _ 6 6 Try.underlying22 Try.underlying5
  go_enter Try.func3, Try.ntmps3
  go_upto_region 3 with (go_at_call 9; refine g2.mono ?_; rintro e w1 ⟨rfl, h1⟩; have h2 := h1.symm; subst h2; clear h1)
  go_upto_region 4 with (go_at_call 9; refine g3.mono ?_; rintro e w1 ⟨rfl, h1⟩; have h2 := h1.symm; subst h2; clear h1)
  go_upto_region 5 with (go_at_call 9; refine g6.mono ?_; rintro e w1 ⟨rfl, h1⟩; have h2 := h1.symm; subst h2; clear h1)
  obtain ⟨w1, hw1⟩ : ∃ w1, (w.alloc (.cells #[.int .u8 0, .int .u8 97, .int .u8 98, .int .u8 0, .int .u8 99, .int .u8 0] 5 (6, 7))) = w1 := ⟨_, rfl⟩
  have K1 : Kept w w1 := by rw [← hw1]; exact Kept.alloc _ _
  rw [hw1]
  clear hw1 g2 g3 g6
  go_upto_region 6 with (go_at_call 10; refine (build_wrong _).mono ?_; rintro e w2 ⟨⟨v, p, rfl⟩, k2⟩)
  go_upto_region 7 with (first
    | (at_make; refine wpList_make_full _ rfl _ _ 29 rfl w2.heap.size 9 i0 (.string ByteArray.empty) 1 Try.underlying29 hi hz0 hz1 _ _ _ _ 1025 rfl rfl rfl rfl (by rw [hz2]; decide) (by unfold maxLen; decide) (Nat.le_refl _) ?_; intro w3 _ hgr; have K3 : Kept w2 w3 := (Below.refl _ _).grown hgr (Nat.le_refl _) (fun k e => by cases e); clear hgr)
    | (go_at_call 10; refine (build_many _ _ 1025 _ (by decide)).mono ?_; rintro e w4 ⟨rfl, h1⟩; have h2 := h1.symm; subst h2; clear h1))
  clear hi hz0 hz1 hz2
  have K4 : Kept w w3 := (K1.trans k2).trans K3
  clear K1 k2 K3
  go_wp2_with (first
    | (go_at_call 11; refine (alive_walk _).mono ?_; rintro e w5 ⟨rfl, k5⟩)
    | (go_at_call_of 12 (Value.slice none 0 0); refine (check_none _).mono ?_; rintro e w6 ⟨rfl, h1⟩; have h2 := h1.symm; subst h2; clear h1)
    | (go_at_call_of 12 (Value.slice (some ⟨w5.heap.size, 0, none⟩) 1 1); refine (check_one _).mono ?_; rintro e w7 ⟨rfl, k7⟩)
    | (go_at_call_of 12 (Value.slice (some ⟨w7.heap.size, 0, none⟩) 2 2); refine (check_two _).mono ?_; rintro e w8 ⟨rfl, k8⟩))
  go_ret
  exact ⟨rfl, ((K4.trans k5).trans k7).trans k8⟩
end Go.Proofs.Ytahkiaoifkcmoaa
