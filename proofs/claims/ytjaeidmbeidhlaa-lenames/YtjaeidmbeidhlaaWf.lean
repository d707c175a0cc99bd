/- The law LeNames, walked. -/
import Derived.Test.YtjaeidmbeidhlaaWc
namespace Go.Proofs.Ytjaeidmbeidhlaa
open Go.RowKit

/-- The bytes of a literal. -/
theorem lit_byt (w : World) (l : List Int) : Byt (w.alloc (.cells (l.map (Value.int .u8)).toArray 5)) (some ⟨w.heap.size, 0, none⟩) l := by
  refine .inr ⟨w.heap.size, 0, rfl, fun i hi => ?_⟩
  rw [cell_of_row (w.alloc (.cells (l.map (Value.int .u8)).toArray 5)) w.heap.size (0 + i) _ 5 (0, 0) (heap_alloc_new w _)]
  simp [List.getD, hi]

theorem names_put : byN (uOf (-1)) 8 = [255, 255, 255, 255, 255, 255, 255, 255] := by decide +kernel
theorem names_get : getV [7, 2, 1] 1 2 = 258 ∧ getE [7, 2, 1] 1 2 = 0 := by decide +kernel

theorem get_three (w : World) : Calls Try.prog 10 #[.slice (some ⟨w.heap.size, 0, none⟩) 3 3, .int .i64 1, .int .i64 2] (w.alloc (.cells #[.int .u8 7, .int .u8 2, .int .u8 1] 5)) fun e w' => e = .returned (.tuple #[.int .i64 258, .int .i64 0]) ∧ Kept w w' := by
  have := get_walk (some ⟨w.heap.size, 0, none⟩) 3 [7, 2, 1] 1 2 _ (by decide) (by decide) (by decide) (lit_byt w [7, 2, 1])
  rw [names_get.1, names_get.2] at this
  refine this.mono ?_
  rintro e w' ⟨rfl, rfl⟩
  exact ⟨rfl, Kept.alloc _ _⟩

theorem get_lit (a : Option Addr) (at_ size : Int) (w : World) (o : Obj) (hs : szB size = true) (h : at_ < 0 ∨ 1 < at_ + size) : Calls Try.prog 10 #[.slice a 1 1, .int .i64 at_, .int .i64 size] (w.alloc o) fun e w' => e = .returned (.tuple #[.int .i64 0, .int .i64 8]) ∧ Kept w w' := by
  refine (get_out a 1 1 at_ size _ (by decide) hs (by omega)).mono ?_
  rintro e w' ⟨rfl, rfl⟩
  exact ⟨rfl, Kept.alloc _ _⟩

theorem pad_lit (a : Option Addr) (w : World) (o : Obj) : Calls Try.prog 11 #[.slice a 1 1, .int .i64 0] (w.alloc o) fun e w' => e = .returned (.tuple #[.slice none 0 0, .int .i64 2]) ∧ Kept w w' := by
  refine (pad_no a 1 1 0 _ (by decide)).mono ?_
  rintro e w' ⟨rfl, rfl⟩
  exact ⟨rfl, Kept.alloc _ _⟩

theorem pad_three (w : World) : Calls Try.prog 11 #[.slice (some ⟨w.heap.size, 0, none⟩) 3 3, .int .i64 4] (w.alloc (.cells #[.int .u8 1, .int .u8 2, .int .u8 3] 5)) fun e w' => ∃ g c, e = .returned (.tuple #[.slice (some ⟨g, 0, none⟩) 4 c, .int .i64 0]) ∧ Byt w' (some ⟨g, 0, none⟩) [1, 2, 3, 0] ∧ Kept w w' := by
  refine (pad_some (some ⟨w.heap.size, 0, none⟩) 3 4 [1, 2, 3] _ (by decide) (lit_byt w [1, 2, 3]) (by decide)).mono ?_
  rintro e w' ⟨g, c, rfl, hc, hcell, hk⟩
  refine ⟨g, c, rfl, .inr ⟨g, 0, rfl, fun i hi => ?_⟩, (Kept.alloc _ _).trans hk⟩
  rw [Nat.zero_add]
  exact hcell i hi

theorem pad_none (w : World) : Calls Try.prog 11 #[.slice none 0 0, .int .i64 4] w fun e w' => ∃ g c, e = .returned (.tuple #[.slice (some ⟨g, 0, none⟩) 0 c, .int .i64 0]) ∧ Kept w w' := by
  refine (pad_some none 0 4 [] _ (by decide) (.inl rfl) (by decide)).mono ?_
  rintro e w' ⟨g, c, rfl, hc, hcell, hk⟩
  exact ⟨g, c, rfl, hk⟩

set_option maxHeartbeats 1600000 in
theorem leNames_walk (w : World) : Calls Try.prog 3 #[] w fun e w' => e = .returned (.bool true) ∧ Kept w w' := by
  go_enter Try.func3, Try.ntmps3
  go_upto_region 2 with (go_at_call 9; refine (put_some (-1) 8 _ (by decide) (by decide) (mayB_8 _)).mono ?_; rintro e w1 ⟨g1, c1, rfl, hc1, hb1, hk1⟩)
  have B1 : Byt w1 (some ⟨g1, 0, none⟩) [255, 255, 255, 255, 255, 255, 255, 255] := by
    have := hb1
    rwa [show Int.toNat 8 = 8 from rfl, names_put] at this
  clear hb1 hc1
  go_upto_region 3 with (go_at_call 9; refine (put_no 256 1 _ (by decide) (by decide) (by decide)).mono ?_; rintro e w2 ⟨rfl, hw2⟩; subst hw2)
  go_upto_region 4 with (go_at_call 9; refine (put_no 1 3 _ (by decide) (by decide) (by decide)).mono ?_; rintro e w2 ⟨rfl, hw2⟩; subst hw2)
  go_upto_region 5 with (go_at_call 10; refine (get_three _).mono ?_; rintro e w3 ⟨rfl, hk3⟩)
  go_upto_region 6 with (go_at_call 10; refine (get_lit _ 0 2 _ _ (by decide) (by decide)).mono ?_; rintro e w4 ⟨rfl, hk4⟩)
  go_upto_region 7 with (go_at_call 10; refine (get_lit _ (-1) 1 _ _ (by decide) (by decide)).mono ?_; rintro e w5 ⟨rfl, hk5⟩)
  go_upto_region 8 with (go_at_call 11; refine (pad_three _).mono ?_; rintro e w6 ⟨g6, c6, rfl, B6, hk6⟩)
  go_upto_region 9 with (go_at_call 11; refine (pad_none _).mono ?_; rintro e w7 ⟨g7, c7, rfl, hk7⟩)
  go_upto_region 10 with (go_at_call 11; refine (pad_lit _ _ _).mono ?_; rintro e w8 ⟨rfl, hk8⟩)
  have K8 : Kept w w8 := (((((hk1.trans hk3).trans hk4).trans hk5).trans hk6).trans hk7).trans hk8
  have B1' := ((((((B1.kept hk3).kept hk4).kept hk5).kept hk6).kept hk7).kept hk8)
  have B6' := (B6.kept hk7).kept hk8
  clear hk1 hk3 hk4 hk5 hk6 hk7 hk8 B1 B6
  have t1 : ((strOfNums [255, 255, 255, 255, 255, 255, 255, 255]).toList == [255, 255, 255, 255, 255, 255, 255, 255]) = true := by decide +kernel
  have t2 : ((strOfNums [1, 2, 3, 0]).toList == [1, 2, 3, 0]) = true := by decide +kernel
  go_wp2_with (go_at_call 12; refine (alive_walk _).mono ?_; rintro e w9 ⟨rfl, hk9⟩; have hT1 := str_len w9 _ _ 8 c1 _ (B1'.kept hk9) rfl rfl; have hT2 := str_len w9 _ _ 4 c6 _ (B6'.kept hk9) rfl rfl; have K9 := K8.trans hk9; clear B1' B6' hk9 K8)
  go_ret
  exact ⟨rfl, K9⟩
end Go.Proofs.Ytjaeidmbeidhlaa
