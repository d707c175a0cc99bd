/- The document's own rows of names, as its function gives them. -/
import Derived.Test.YtbmcanpjpibecaaDoorLits
namespace Go.Proofs.YtbmcanpjpibecaaDoor
open Go.RowKit

/-- The world holds the document's rows, from block b on. -/
def RowsAt (w : World) (b : Nat) : Prop := ∀ i, i < 22 → ∃ c : Nat, w.cell? ⟨b, i, none⟩ = some (.slice (some ⟨c, 0, none⟩) (rowLen i) (rowLen i)) ∧ ∀ j, j < rowLen i → w.cell? ⟨c, j, none⟩ = some (.string (rowStr i j))

theorem sz9 : (Tryd.prog.info? 9).map (·.size) = some 1 := by kernel_rfl
theorem ze9 : ((Tryd.prog.info? 9).bind (·.zero)).isSome = true := by kernel_rfl
theorem sz56 : (Tryd.prog.info? 103).map (·.size) = some 1 := by kernel_rfl
theorem ze56 : ((Tryd.prog.info? 103).bind (·.zero)).isSome = true := by kernel_rfl

/-- A row of the document's lies at block c. -/
def RowAt (w : World) (c i : Nat) : Prop := ∀ j v, (rowVals i)[j]? = some v → w.cell? ⟨c, j, none⟩ = some v

theorem RowAt.kept {w w' : World} {c i : Nat} (h : RowAt w c i) (k : Kept w w') : RowAt w' c i := fun j v hv => k.cell (h j v hv)

theorem all_walk (w : World) : Calls Tryd.prog 63 #[] w fun e w' => ∃ b : Nat, e = .returned (.slice (some ⟨b, 0, none⟩) 22 22) ∧ Kept w w' ∧ RowsAt w' b := by
  go_enter Tryd.func63, Tryd.ntmps63
  go_wp2_with (
    refine wpList_lit rfl 103 9 3 _ rfl (rowVals 0) Tryd.underlying103 sz9 ze9 (by kernel_rfl) (by omega) (by omega) (rowVals_one 0) (by kernel_rfl) ?_; intro b0 w0 k0 c0;
    refine wpList_lit rfl 103 9 2 _ rfl (rowVals 1) Tryd.underlying103 sz9 ze9 (by kernel_rfl) (by omega) (by omega) (rowVals_one 1) (by kernel_rfl) ?_; intro b1 w1 k1 c1;
    refine wpList_lit rfl 103 9 2 _ rfl (rowVals 2) Tryd.underlying103 sz9 ze9 (by kernel_rfl) (by omega) (by omega) (rowVals_one 2) (by kernel_rfl) ?_; intro b2 w2 k2 c2;
    refine wpList_lit rfl 103 9 7 _ rfl (rowVals 3) Tryd.underlying103 sz9 ze9 (by kernel_rfl) (by omega) (by omega) (rowVals_one 3) (by kernel_rfl) ?_; intro b3 w3 k3 c3;
    refine wpList_lit rfl 103 9 8 _ rfl (rowVals 4) Tryd.underlying103 sz9 ze9 (by kernel_rfl) (by omega) (by omega) (rowVals_one 4) (by kernel_rfl) ?_; intro b4 w4 k4 c4;
    refine wpList_lit rfl 103 9 5 _ rfl (rowVals 5) Tryd.underlying103 sz9 ze9 (by kernel_rfl) (by omega) (by omega) (rowVals_one 5) (by kernel_rfl) ?_; intro b5 w5 k5 c5;
    refine wpList_lit rfl 103 9 7 _ rfl (rowVals 6) Tryd.underlying103 sz9 ze9 (by kernel_rfl) (by omega) (by omega) (rowVals_one 6) (by kernel_rfl) ?_; intro b6 w6 k6 c6;
    refine wpList_lit rfl 103 9 4 _ rfl (rowVals 7) Tryd.underlying103 sz9 ze9 (by kernel_rfl) (by omega) (by omega) (rowVals_one 7) (by kernel_rfl) ?_; intro b7 w7 k7 c7;
    refine wpList_lit rfl 103 9 11 _ rfl (rowVals 8) Tryd.underlying103 sz9 ze9 (by kernel_rfl) (by omega) (by omega) (rowVals_one 8) (by kernel_rfl) ?_; intro b8 w8 k8 c8;
    refine wpList_lit rfl 103 9 2 _ rfl (rowVals 9) Tryd.underlying103 sz9 ze9 (by kernel_rfl) (by omega) (by omega) (rowVals_one 9) (by kernel_rfl) ?_; intro b9 w9 k9 c9;
    refine wpList_lit rfl 103 9 4 _ rfl (rowVals 10) Tryd.underlying103 sz9 ze9 (by kernel_rfl) (by omega) (by omega) (rowVals_one 10) (by kernel_rfl) ?_; intro b10 w10 k10 c10;
    refine wpList_lit rfl 103 9 6 _ rfl (rowVals 11) Tryd.underlying103 sz9 ze9 (by kernel_rfl) (by omega) (by omega) (rowVals_one 11) (by kernel_rfl) ?_; intro b11 w11 k11 c11;
    refine wpList_lit rfl 103 9 9 _ rfl (rowVals 12) Tryd.underlying103 sz9 ze9 (by kernel_rfl) (by omega) (by omega) (rowVals_one 12) (by kernel_rfl) ?_; intro b12 w12 k12 c12;
    refine wpList_lit rfl 103 9 6 _ rfl (rowVals 13) Tryd.underlying103 sz9 ze9 (by kernel_rfl) (by omega) (by omega) (rowVals_one 13) (by kernel_rfl) ?_; intro b13 w13 k13 c13;
    refine wpList_lit rfl 103 9 2 _ rfl (rowVals 14) Tryd.underlying103 sz9 ze9 (by kernel_rfl) (by omega) (by omega) (rowVals_one 14) (by kernel_rfl) ?_; intro b14 w14 k14 c14;
    refine wpList_lit rfl 103 9 4 _ rfl (rowVals 15) Tryd.underlying103 sz9 ze9 (by kernel_rfl) (by omega) (by omega) (rowVals_one 15) (by kernel_rfl) ?_; intro b15 w15 k15 c15;
    refine wpList_lit rfl 103 9 4 _ rfl (rowVals 16) Tryd.underlying103 sz9 ze9 (by kernel_rfl) (by omega) (by omega) (rowVals_one 16) (by kernel_rfl) ?_; intro b16 w16 k16 c16;
    refine wpList_lit rfl 103 9 4 _ rfl (rowVals 17) Tryd.underlying103 sz9 ze9 (by kernel_rfl) (by omega) (by omega) (rowVals_one 17) (by kernel_rfl) ?_; intro b17 w17 k17 c17;
    refine wpList_lit rfl 103 9 2 _ rfl (rowVals 18) Tryd.underlying103 sz9 ze9 (by kernel_rfl) (by omega) (by omega) (rowVals_one 18) (by kernel_rfl) ?_; intro b18 w18 k18 c18;
    refine wpList_lit rfl 103 9 11 _ rfl (rowVals 19) Tryd.underlying103 sz9 ze9 (by kernel_rfl) (by omega) (by omega) (rowVals_one 19) (by kernel_rfl) ?_; intro b19 w19 k19 c19;
    refine wpList_lit rfl 103 9 2 _ rfl (rowVals 20) Tryd.underlying103 sz9 ze9 (by kernel_rfl) (by omega) (by omega) (rowVals_one 20) (by kernel_rfl) ?_; intro b20 w20 k20 c20;
    refine wpList_lit rfl 103 9 11 _ rfl (rowVals 21) Tryd.underlying103 sz9 ze9 (by kernel_rfl) (by omega) (by omega) (rowVals_one 21) (by kernel_rfl) ?_; intro b21 w21 k21 c21;
    refine wpList_lit rfl 101 103 22 _ rfl [.slice (some ⟨b0, 0, none⟩) 3 3, .slice (some ⟨b1, 0, none⟩) 2 2, .slice (some ⟨b2, 0, none⟩) 2 2, .slice (some ⟨b3, 0, none⟩) 7 7, .slice (some ⟨b4, 0, none⟩) 8 8, .slice (some ⟨b5, 0, none⟩) 5 5, .slice (some ⟨b6, 0, none⟩) 7 7, .slice (some ⟨b7, 0, none⟩) 4 4, .slice (some ⟨b8, 0, none⟩) 11 11, .slice (some ⟨b9, 0, none⟩) 2 2, .slice (some ⟨b10, 0, none⟩) 4 4, .slice (some ⟨b11, 0, none⟩) 6 6, .slice (some ⟨b12, 0, none⟩) 9 9, .slice (some ⟨b13, 0, none⟩) 6 6, .slice (some ⟨b14, 0, none⟩) 2 2, .slice (some ⟨b15, 0, none⟩) 4 4, .slice (some ⟨b16, 0, none⟩) 4 4, .slice (some ⟨b17, 0, none⟩) 4 4, .slice (some ⟨b18, 0, none⟩) 2 2, .slice (some ⟨b19, 0, none⟩) 11 11, .slice (some ⟨b20, 0, none⟩) 2 2, .slice (some ⟨b21, 0, none⟩) 11 11] Tryd.underlying101 sz56 ze56 (by kernel_rfl) (by omega) (by omega) (by simp [Value.cells]) (by kernel_rfl) ?_; intro b w' k c)
  go_ret
  have q21 : Kept w21 w' := k
  have q20 : Kept w20 w' := Kept.trans k21 q21
  have q19 : Kept w19 w' := Kept.trans k20 q20
  have q18 : Kept w18 w' := Kept.trans k19 q19
  have q17 : Kept w17 w' := Kept.trans k18 q18
  have q16 : Kept w16 w' := Kept.trans k17 q17
  have q15 : Kept w15 w' := Kept.trans k16 q16
  have q14 : Kept w14 w' := Kept.trans k15 q15
  have q13 : Kept w13 w' := Kept.trans k14 q14
  have q12 : Kept w12 w' := Kept.trans k13 q13
  have q11 : Kept w11 w' := Kept.trans k12 q12
  have q10 : Kept w10 w' := Kept.trans k11 q11
  have q9 : Kept w9 w' := Kept.trans k10 q10
  have q8 : Kept w8 w' := Kept.trans k9 q9
  have q7 : Kept w7 w' := Kept.trans k8 q8
  have q6 : Kept w6 w' := Kept.trans k7 q7
  have q5 : Kept w5 w' := Kept.trans k6 q6
  have q4 : Kept w4 w' := Kept.trans k5 q5
  have q3 : Kept w3 w' := Kept.trans k4 q4
  have q2 : Kept w2 w' := Kept.trans k3 q3
  have q1 : Kept w1 w' := Kept.trans k2 q2
  have q0 : Kept w0 w' := Kept.trans k1 q1
  refine ⟨b, rfl, Kept.trans k0 q0, fun i hi => ?_⟩
  match i, hi with
  | 0, _ => exact ⟨b0, c 0 _ rfl, fun j hj => Kept.cell q0 (c0 j _ (rowVals_at 0 j hj))⟩
  | 1, _ => exact ⟨b1, c 1 _ rfl, fun j hj => Kept.cell q1 (c1 j _ (rowVals_at 1 j hj))⟩
  | 2, _ => exact ⟨b2, c 2 _ rfl, fun j hj => Kept.cell q2 (c2 j _ (rowVals_at 2 j hj))⟩
  | 3, _ => exact ⟨b3, c 3 _ rfl, fun j hj => Kept.cell q3 (c3 j _ (rowVals_at 3 j hj))⟩
  | 4, _ => exact ⟨b4, c 4 _ rfl, fun j hj => Kept.cell q4 (c4 j _ (rowVals_at 4 j hj))⟩
  | 5, _ => exact ⟨b5, c 5 _ rfl, fun j hj => Kept.cell q5 (c5 j _ (rowVals_at 5 j hj))⟩
  | 6, _ => exact ⟨b6, c 6 _ rfl, fun j hj => Kept.cell q6 (c6 j _ (rowVals_at 6 j hj))⟩
  | 7, _ => exact ⟨b7, c 7 _ rfl, fun j hj => Kept.cell q7 (c7 j _ (rowVals_at 7 j hj))⟩
  | 8, _ => exact ⟨b8, c 8 _ rfl, fun j hj => Kept.cell q8 (c8 j _ (rowVals_at 8 j hj))⟩
  | 9, _ => exact ⟨b9, c 9 _ rfl, fun j hj => Kept.cell q9 (c9 j _ (rowVals_at 9 j hj))⟩
  | 10, _ => exact ⟨b10, c 10 _ rfl, fun j hj => Kept.cell q10 (c10 j _ (rowVals_at 10 j hj))⟩
  | 11, _ => exact ⟨b11, c 11 _ rfl, fun j hj => Kept.cell q11 (c11 j _ (rowVals_at 11 j hj))⟩
  | 12, _ => exact ⟨b12, c 12 _ rfl, fun j hj => Kept.cell q12 (c12 j _ (rowVals_at 12 j hj))⟩
  | 13, _ => exact ⟨b13, c 13 _ rfl, fun j hj => Kept.cell q13 (c13 j _ (rowVals_at 13 j hj))⟩
  | 14, _ => exact ⟨b14, c 14 _ rfl, fun j hj => Kept.cell q14 (c14 j _ (rowVals_at 14 j hj))⟩
  | 15, _ => exact ⟨b15, c 15 _ rfl, fun j hj => Kept.cell q15 (c15 j _ (rowVals_at 15 j hj))⟩
  | 16, _ => exact ⟨b16, c 16 _ rfl, fun j hj => Kept.cell q16 (c16 j _ (rowVals_at 16 j hj))⟩
  | 17, _ => exact ⟨b17, c 17 _ rfl, fun j hj => Kept.cell q17 (c17 j _ (rowVals_at 17 j hj))⟩
  | 18, _ => exact ⟨b18, c 18 _ rfl, fun j hj => Kept.cell q18 (c18 j _ (rowVals_at 18 j hj))⟩
  | 19, _ => exact ⟨b19, c 19 _ rfl, fun j hj => Kept.cell q19 (c19 j _ (rowVals_at 19 j hj))⟩
  | 20, _ => exact ⟨b20, c 20 _ rfl, fun j hj => Kept.cell q20 (c20 j _ (rowVals_at 20 j hj))⟩
  | 21, _ => exact ⟨b21, c 21 _ rfl, fun j hj => Kept.cell q21 (c21 j _ (rowVals_at 21 j hj))⟩
  | n + 22, h => exact absurd h (by omega)

end Go.Proofs.YtbmcanpjpibecaaDoor
