/- What the document's own Write gives. The table of sizes, and a symbol that lies in a block. -/
import Derived.Test.YtljmgbpecoifnaaGreatDoorJag
import Derived.Test.YtljmgbpecoifnaaGreatDoorJaf
import Derived.Test.YtljmgbpecoifnaaGreatDoorJac
import Derived.Lib.LaidTab
import Derived.Deep.MidRow
import Derived.Deep.Fields
namespace Go.Proofs.YtljmgbpecoifnaaGreatDoor
open Go.RowKit

theorem okF_8 (n : Int) : okF 8 n = decide (0 ≤ n) := by unfold okF; simp
theorem okF_4 (n : Int) : okF 4 n = decide (0 ≤ n ∧ n < 4294967296) := by unfold okF; simp
theorem own_app {w : World} {base : Nat} {x : Value} {l m : List Int} (h : Own w base x l) (e : l = m) : Own w base x m := e ▸ h

set_option maxRecDepth 20000 in
set_option maxHeartbeats 3200000 in
theorem rbytes_walk (v0 v1 v2 v3 v4 v5 v6 v7 v8 v9 : Int) (v : List Int) (w : World) (hv : v = [v0, v1, v2, v3, v4, v5, v6, v7, v8, v9]) :
    Calls Tryz.prog 71 #[headW' v0 v1 v2 v3 v4 v5 v6 v7 v8 v9] w fun e w' => ∃ x, e = .returned x ∧ Own w' w.heap.size x (headL v) ∧ Kept w w' := by
  have H1 := HBx.new w v0 v1 v2 v3 v4 v5 v6 v7 v8 v9
  have hv10 : v.length = 10 := by rw [hv]; rfl
  have HV : Hid (v.length = 10) := hv10
  obtain ⟨wa, hwa⟩ : ∃ wa, w.alloc (headO v0 v1 v2 v3 v4 v5 v6 v7 v8 v9) = wa := ⟨_, rfl⟩
  rw [hwa] at H1
  have kA : Kept w wa := by rw [← hwa]; exact Kept.alloc _ _
  have hB4 : ∀ n w, Calls Tryz.prog 112 #[.int .i64 n, .int .i64 4] w fun e w' => ∃ x, e = .returned x ∧ Own w' w.heap.size x (byN (uOf n) 4) ∧ Kept w w' := fun n w => bytes_walk n 4 w (by decide)
  have hB8 : ∀ n w, Calls Tryz.prog 112 #[.int .i64 n, .int .i64 8] w fun e w' => ∃ x, e = .returned x ∧ Own w' w.heap.size x (byN (uOf n) 8) ∧ Kept w w' := fun n w => bytes_walk n 8 w (by decide)
  have c0 := (H1 0 (by decide)).1
  have c1 := (H1 1 (by decide)).1
  have c2 := (H1 2 (by decide)).1
  have c3 := (H1 3 (by decide)).1
  have c4 := (H1 4 (by decide)).1
  have c5 := (H1 5 (by decide)).1
  have c6 := (H1 6 (by decide)).1
  have c7 := (H1 7 (by decide)).1
  have c8 := (H1 8 (by decide)).1
  have c9 := (H1 9 (by decide)).1
  simp only [List.getD_cons_zero, List.getD_cons_succ] at c0 c1 c2 c3 c4 c5 c6 c7 c8 c9
  have E0 : Hid (headP v 0 ++ byN (uOf v0) 4 = headP v 1) := by
    unfold Hid
    rw [headP_succ hv10 (by decide), hv]
    rfl
  have E1 : Hid (headP v 1 ++ byN (uOf v1) 4 = headP v 2) := by
    unfold Hid
    rw [headP_succ hv10 (by decide), hv]
    rfl
  have E2 : Hid (headP v 2 ++ byN (uOf v2) 8 = headP v 3) := by
    unfold Hid
    rw [headP_succ hv10 (by decide), hv]
    rfl
  have E3 : Hid (headP v 3 ++ byN (uOf v3) 8 = headP v 4) := by
    unfold Hid
    rw [headP_succ hv10 (by decide), hv]
    rfl
  have E4 : Hid (headP v 4 ++ byN (uOf v4) 8 = headP v 5) := by
    unfold Hid
    rw [headP_succ hv10 (by decide), hv]
    rfl
  have E5 : Hid (headP v 5 ++ byN (uOf v5) 8 = headP v 6) := by
    unfold Hid
    rw [headP_succ hv10 (by decide), hv]
    rfl
  have E6 : Hid (headP v 6 ++ byN (uOf v6) 4 = headP v 7) := by
    unfold Hid
    rw [headP_succ hv10 (by decide), hv]
    rfl
  have E7 : Hid (headP v 7 ++ byN (uOf v7) 4 = headP v 8) := by
    unfold Hid
    rw [headP_succ hv10 (by decide), hv]
    rfl
  have E8 : Hid (headP v 8 ++ byN (uOf v8) 8 = headP v 9) := by
    unfold Hid
    rw [headP_succ hv10 (by decide), hv]
    rfl
  have E9 : Hid (headP v 9 ++ byN (uOf v9) 8 = headP v 10) := by
    unfold Hid
    rw [headP_succ hv10 (by decide), hv]
    rfl
  have L0 := headP_le hv10 0 (by decide)
  have L1 := headP_le hv10 1 (by decide)
  have L2 := headP_le hv10 2 (by decide)
  have L3 := headP_le hv10 3 (by decide)
  have L4 := headP_le hv10 4 (by decide)
  have L5 := headP_le hv10 5 (by decide)
  have L6 := headP_le hv10 6 (by decide)
  have L7 := headP_le hv10 7 (by decide)
  have L8 := headP_le hv10 8 (by decide)
  have L9 := headP_le hv10 9 (by decide)
  clear H1 hv10 hv
  have hsa : w.heap.size ≤ wa.heap.size := kA.size
  go_enter Tryz.func71, Tryz.ntmps71
  go_upto_region 2 with (go_at_call 112; refine (hB4 _ _).mono ?_; rintro e w1 ⟨x1, rfl, O1, K1⟩)
  replace O1 : Own w1 wa.heap.size x1 (headP v 1) := own_app O1 E0.out
  clear c0 E0 L0
  have d1 : w1.cell? ⟨w.heap.size, 1, none⟩ = some (.int .i64 v1) := Kept.cell K1 c1
  go_upto_region 3 with (first
    | (go_at_call 112; refine (hB4 _ _).mono ?_; rintro e wq ⟨xq, rfl, Oq, Kq⟩; obtain ⟨Aq, Cq, rfl, _, bq, nq⟩ := Oq.let (byN_length _ _); have P1 := own_keep O1 Kq)
    | (at_builtin; refine wpList_append_byt rfl _ _ rfl wa.heap.size x1 (headP v 1) (byN (uOf v1) 4) Aq Cq rfl (by rw [byN_length]; rfl) P1 bq (by rw [byN_length]; exact nq) (by rw [byN_length]; omega) wa (Kept.trans K1 Kq) (Kept.trans K1 Kq).size ?_; intro x2 w2 O2 K2))
  replace O2 : Own w2 wa.heap.size x2 (headP v 2) := own_app O2 E1.out
  clear O1 P1 d1 K1 Oq Kq bq nq
  clear c1 E1 L1
  have d2 : w2.cell? ⟨w.heap.size, 2, none⟩ = some (.int .i64 v2) := Kept.cell K2 c2
  go_upto_region 4 with (first
    | (go_at_call 112; refine (hB8 _ _).mono ?_; rintro e wq ⟨xq, rfl, Oq, Kq⟩; obtain ⟨Aq, Cq, rfl, _, bq, nq⟩ := Oq.let (byN_length _ _); have P2 := own_keep O2 Kq)
    | (at_builtin; refine wpList_append_byt rfl _ _ rfl wa.heap.size x2 (headP v 2) (byN (uOf v2) 8) Aq Cq rfl (by rw [byN_length]; rfl) P2 bq (by rw [byN_length]; exact nq) (by rw [byN_length]; omega) wa (Kept.trans K2 Kq) (Kept.trans K2 Kq).size ?_; intro x3 w3 O3 K3))
  replace O3 : Own w3 wa.heap.size x3 (headP v 3) := own_app O3 E2.out
  clear O2 P2 d2 K2 Oq Kq bq nq
  clear c2 E2 L2
  have d3 : w3.cell? ⟨w.heap.size, 3, none⟩ = some (.int .i64 v3) := Kept.cell K3 c3
  go_upto_region 5 with (first
    | (go_at_call 112; refine (hB8 _ _).mono ?_; rintro e wq ⟨xq, rfl, Oq, Kq⟩; obtain ⟨Aq, Cq, rfl, _, bq, nq⟩ := Oq.let (byN_length _ _); have P3 := own_keep O3 Kq)
    | (at_builtin; refine wpList_append_byt rfl _ _ rfl wa.heap.size x3 (headP v 3) (byN (uOf v3) 8) Aq Cq rfl (by rw [byN_length]; rfl) P3 bq (by rw [byN_length]; exact nq) (by rw [byN_length]; omega) wa (Kept.trans K3 Kq) (Kept.trans K3 Kq).size ?_; intro x4 w4 O4 K4))
  replace O4 : Own w4 wa.heap.size x4 (headP v 4) := own_app O4 E3.out
  clear O3 P3 d3 K3 Oq Kq bq nq
  clear c3 E3 L3
  have d4 : w4.cell? ⟨w.heap.size, 4, none⟩ = some (.int .i64 v4) := Kept.cell K4 c4
  go_upto_region 6 with (first
    | (go_at_call 112; refine (hB8 _ _).mono ?_; rintro e wq ⟨xq, rfl, Oq, Kq⟩; obtain ⟨Aq, Cq, rfl, _, bq, nq⟩ := Oq.let (byN_length _ _); have P4 := own_keep O4 Kq)
    | (at_builtin; refine wpList_append_byt rfl _ _ rfl wa.heap.size x4 (headP v 4) (byN (uOf v4) 8) Aq Cq rfl (by rw [byN_length]; rfl) P4 bq (by rw [byN_length]; exact nq) (by rw [byN_length]; omega) wa (Kept.trans K4 Kq) (Kept.trans K4 Kq).size ?_; intro x5 w5 O5 K5))
  replace O5 : Own w5 wa.heap.size x5 (headP v 5) := own_app O5 E4.out
  clear O4 P4 d4 K4 Oq Kq bq nq
  clear c4 E4 L4
  have d5 : w5.cell? ⟨w.heap.size, 5, none⟩ = some (.int .i64 v5) := Kept.cell K5 c5
  go_upto_region 7 with (first
    | (go_at_call 112; refine (hB8 _ _).mono ?_; rintro e wq ⟨xq, rfl, Oq, Kq⟩; obtain ⟨Aq, Cq, rfl, _, bq, nq⟩ := Oq.let (byN_length _ _); have P5 := own_keep O5 Kq)
    | (at_builtin; refine wpList_append_byt rfl _ _ rfl wa.heap.size x5 (headP v 5) (byN (uOf v5) 8) Aq Cq rfl (by rw [byN_length]; rfl) P5 bq (by rw [byN_length]; exact nq) (by rw [byN_length]; omega) wa (Kept.trans K5 Kq) (Kept.trans K5 Kq).size ?_; intro x6 w6 O6 K6))
  replace O6 : Own w6 wa.heap.size x6 (headP v 6) := own_app O6 E5.out
  clear O5 P5 d5 K5 Oq Kq bq nq
  clear c5 E5 L5
  have d6 : w6.cell? ⟨w.heap.size, 6, none⟩ = some (.int .i64 v6) := Kept.cell K6 c6
  go_upto_region 8 with (first
    | (go_at_call 112; refine (hB4 _ _).mono ?_; rintro e wq ⟨xq, rfl, Oq, Kq⟩; obtain ⟨Aq, Cq, rfl, _, bq, nq⟩ := Oq.let (byN_length _ _); have P6 := own_keep O6 Kq)
    | (at_builtin; refine wpList_append_byt rfl _ _ rfl wa.heap.size x6 (headP v 6) (byN (uOf v6) 4) Aq Cq rfl (by rw [byN_length]; rfl) P6 bq (by rw [byN_length]; exact nq) (by rw [byN_length]; omega) wa (Kept.trans K6 Kq) (Kept.trans K6 Kq).size ?_; intro x7 w7 O7 K7))
  replace O7 : Own w7 wa.heap.size x7 (headP v 7) := own_app O7 E6.out
  clear O6 P6 d6 K6 Oq Kq bq nq
  clear c6 E6 L6
  have d7 : w7.cell? ⟨w.heap.size, 7, none⟩ = some (.int .i64 v7) := Kept.cell K7 c7
  go_upto_region 9 with (first
    | (go_at_call 112; refine (hB4 _ _).mono ?_; rintro e wq ⟨xq, rfl, Oq, Kq⟩; obtain ⟨Aq, Cq, rfl, _, bq, nq⟩ := Oq.let (byN_length _ _); have P7 := own_keep O7 Kq)
    | (at_builtin; refine wpList_append_byt rfl _ _ rfl wa.heap.size x7 (headP v 7) (byN (uOf v7) 4) Aq Cq rfl (by rw [byN_length]; rfl) P7 bq (by rw [byN_length]; exact nq) (by rw [byN_length]; omega) wa (Kept.trans K7 Kq) (Kept.trans K7 Kq).size ?_; intro x8 w8 O8 K8))
  replace O8 : Own w8 wa.heap.size x8 (headP v 8) := own_app O8 E7.out
  clear O7 P7 d7 K7 Oq Kq bq nq
  clear c7 E7 L7
  have d8 : w8.cell? ⟨w.heap.size, 8, none⟩ = some (.int .i64 v8) := Kept.cell K8 c8
  go_upto_region 10 with (first
    | (go_at_call 112; refine (hB8 _ _).mono ?_; rintro e wq ⟨xq, rfl, Oq, Kq⟩; obtain ⟨Aq, Cq, rfl, _, bq, nq⟩ := Oq.let (byN_length _ _); have P8 := own_keep O8 Kq)
    | (at_builtin; refine wpList_append_byt rfl _ _ rfl wa.heap.size x8 (headP v 8) (byN (uOf v8) 8) Aq Cq rfl (by rw [byN_length]; rfl) P8 bq (by rw [byN_length]; exact nq) (by rw [byN_length]; omega) wa (Kept.trans K8 Kq) (Kept.trans K8 Kq).size ?_; intro x9 w9 O9 K9))
  replace O9 : Own w9 wa.heap.size x9 (headP v 9) := own_app O9 E8.out
  clear O8 P8 d8 K8 Oq Kq bq nq
  clear c8 E8 L8
  have d9 : w9.cell? ⟨w.heap.size, 9, none⟩ = some (.int .i64 v9) := Kept.cell K9 c9
  go_wp2_with (first
    | (go_at_call 112; refine (hB8 _ _).mono ?_; rintro e wq ⟨xq, rfl, Oq, Kq⟩; obtain ⟨Aq, Cq, rfl, _, bq, nq⟩ := Oq.let (byN_length _ _); have P9 := own_keep O9 Kq)
    | (at_builtin; refine wpList_append_byt rfl _ _ rfl wa.heap.size x9 (headP v 9) (byN (uOf v9) 8) Aq Cq rfl (by rw [byN_length]; rfl) P9 bq (by rw [byN_length]; exact nq) (by rw [byN_length]; omega) wa (Kept.trans K9 Kq) (Kept.trans K9 Kq).size ?_; intro x10 w10 O10 K10))
  replace O10 : Own w10 wa.heap.size x10 (headP v 10) := own_app O10 E9.out
  clear O9 P9 d9 K9 Oq Kq bq nq
  rw [headP_ten HV.out] at O10
  go_ret
  exact ⟨_, rfl, own_base O10 hsa, Kept.trans kA K10⟩

/-- An array of numbers, as a row lists it. -/
def intData {H : Type} (k : IntKind) (zs : List Int) : DataW H := .agg (zs.map fun z => .lit (.int k z))

/-- AN ARRAY OF NUMBERS THAT READS AS THE LIST HOLDS THE LIST's NUMBERS, CELL FOR CELL. -/
theorem cells_of_ints {H : Type} {enc : TypeId × Value → H} {P : Program} {w : World} {base : Nat} {sp : Nat → Bool} {held : Bool} {fuel : Nat} {t e : TypeId} {n : Nat} {k : IntKind} {cs : List Value} {zs : List Int} {p : List MemPlace}
    (ht : P.underlying t = some (.array n e)) (he : P.underlying e = some (.int k)) (hce : P.cellsOf e = 1) (hct : P.cellsOf t = n)
    (h : DataW.trod enc P w base sp held fuel t cs = some (intData k zs, p)) : cs = zs.map fun z => Value.int k z := by
  cases fuel with
  | zero => simp [DataW.trod] at h
  | succ fuel =>
    simp only [DataW.trod, ht, hce, hct, Nat.mul_one] at h
    split at h
    · rename_i hl
      obtain ⟨xs, hm, hx⟩ := Option.map_eq_some_iff.1 h
      have hxs : xs.map (·.1) = zs.map fun z => (DataW.lit (.int k z) : DataW H) := by
        have := congrArg Prod.fst hx
        simpa [intData] using this
      have hxl : xs.length = n := by simpa using Lib.mapM_length hm
      have hzl : zs.length = n := by
        have := congrArg List.length hxs
        simp at this
        omega
      apply List.ext_getElem?
      intro i
      by_cases hi : i < n
      · obtain ⟨b, hb, hf⟩ := Lib.mapM_at hm i i (by simp [hi])
        obtain ⟨s, hc, rfl, _⟩ := DataW.trod_int he hf
        have h1 : cs[i]? = some (.int k s) := by
          have := congrArg (·[0]?) hc
          simpa [List.getElem?_take, List.getElem?_drop] using this
        have h2 : (xs.map (·.1))[i]? = some (DataW.lit (.int k s) : DataW H) := by simp [hb]
        rw [hxs] at h2
        simp only [List.getElem?_map, Option.map_eq_some_iff, DataW.lit.injEq, Lit.int.injEq, true_and] at h2
        obtain ⟨z', hz', hzs⟩ := h2
        subst hzs
        simp [h1, hz']
      · rw [List.getElem?_eq_none (by omega), List.getElem?_eq_none (by simp; omega)]
    · cases h

/-- FROM THE ROW's CONDITION TO THE VARIABLE's CELLS: it stands first on the list. -/
theorem ints_of_head {P : Program} {W : World} {name : String} {k : IntKind} {zs : List Int} {rest : List (String × DataW Unit)} {g : Nat} {t e : TypeId} {n : Nat}
    (hg : P.globalNamed name = some g) (hty : (P.globals[g]?).map (·.type) = some t) (ht : P.underlying t = some (.array n e)) (he : P.underlying e = some (.int k)) (hce : P.cellsOf e = 1) (hct : P.cellsOf t = n)
    (h : laidMet P ((name, intData k zs) :: rest) W) (i : Nat) (hi : i < zs.length) : W.cell? ⟨g, i, none⟩ = some (.int k (zs.getD i 0)) := by
  obtain ⟨ps, ⟨g', t', cs, fuel, p, q, hg', ht', hvar, hd, _, _⟩, _⟩ := h
  obtain rfl := Option.some.inj (hg.symm.trans hg')
  obtain rfl := Option.some.inj (hty.symm.trans ht')
  have hcs := cells_of_ints ht he hce hct hd
  have := World.var?_cell hg hvar i
  have h2 : cs[i]? = some (Value.int k (zs.getD i 0)) := by
    rw [← Array.getElem?_toList, hcs]
    simp [List.getD, hi]
  rw [this, h2]


/-- The sizes, in their order. -/
def sizeTab : List Int := [4, 1, 1, 2, 8, 8]
theorem gSizes : Tryz.prog.globalNamed "quoin/sym.sizes" = some 2 := by kernel_rfl
theorem gSizesType : (Tryz.prog.globals[2]?).map (·.type) = some 158 := by kernel_rfl
theorem cellsSizes : Tryz.prog.cellsOf 158 = 6 := by kernel_rfl
theorem cellsOneInt : Tryz.prog.cellsOf 3 = 1 := by kernel_rfl
/-- The world holds the sizes. -/
def Tab (w : World) : Prop := ∀ i, i < 6 → w.cell? ⟨2, i, none⟩ = some (.int .i64 ((symS.getD i 0 : Nat) : Int))
theorem Tab.kept {w w' : World} (h : Tab w) (k : Kept w w') : Tab w' := fun i hi => k.cell (h i hi)
theorem tab_of_laid {W : World} (h : laidMetH Tryz.prog [("quoin/sym.sizes", Rows.laid_quoin_sym_sizes)] W) : Tab W := by
  have h' : laidMet Tryz.prog [("quoin/sym.sizes", intData .i64 sizeTab)] W := h
  intro i hi
  have := ints_of_head gSizes gSizesType Tryz.underlying158 Tryz.underlying3 cellsOneInt cellsSizes h' i (by simpa [sizeTab] using hi)
  rw [this]
  match i, hi with
  | 0, _ => rfl
  | 1, _ => rfl
  | 2, _ => rfl
  | 3, _ => rfl
  | 4, _ => rfl
  | 5, _ => rfl
theorem Tab.all {w : World} (h : Tab w) : w.cell? ⟨2, 0, none⟩ = some (.int .i64 4) ∧ w.cell? ⟨2, 1, none⟩ = some (.int .i64 1) ∧ w.cell? ⟨2, 2, none⟩ = some (.int .i64 1) ∧ w.cell? ⟨2, 3, none⟩ = some (.int .i64 2) ∧ w.cell? ⟨2, 4, none⟩ = some (.int .i64 8) ∧ w.cell? ⟨2, 5, none⟩ = some (.int .i64 8) :=
  ⟨h 0 (by decide), h 1 (by decide), h 2 (by decide), h 3 (by decide), h 4 (by decide), h 5 (by decide)⟩

abbrev symW (s : ByteArray) (bind : Int) (hid : Bool) (wh val sz : Int) : Value := .agg #[.string s, .int .u8 bind, .bool hid, .int .i64 wh, .int .i64 val, .int .i64 sz]
abbrev symO (s : ByteArray) (bind : Int) (hid : Bool) (wh val sz : Int) : Obj := .cells #[.string s, .int .u8 bind, .bool hid, .int .i64 wh, .int .i64 val, .int .i64 sz] 34
/-- A symbol that lies in a block. -/
structure SBx (w : World) (b : Nat) (s : ByteArray) (bind : Int) (hid : Bool) (wh val sz : Int) : Prop where
  c0 : w.cell? ⟨b, 0, none⟩ = some (.string s)
  c1 : w.cell? ⟨b, 1, none⟩ = some (.int .u8 bind)
  c2 : w.cell? ⟨b, 2, none⟩ = some (.bool hid)
  c3 : w.cell? ⟨b, 3, none⟩ = some (.int .i64 wh)
  c4 : w.cell? ⟨b, 4, none⟩ = some (.int .i64 val)
  c5 : w.cell? ⟨b, 5, none⟩ = some (.int .i64 sz)
  f0 : w.frozen? ⟨b, 0, none⟩ = false
  f1 : w.frozen? ⟨b, 1, none⟩ = false
  f2 : w.frozen? ⟨b, 2, none⟩ = false
  f3 : w.frozen? ⟨b, 3, none⟩ = false
  f4 : w.frozen? ⟨b, 4, none⟩ = false
  f5 : w.frozen? ⟨b, 5, none⟩ = false
theorem SBx.lt {w : World} {b : Nat} {s : ByteArray} {bind : Int} {hid : Bool} {wh val sz : Int} (h : SBx w b s bind hid wh val sz) : b < w.heap.size := block_lt_of_cell h.c0
theorem SBx.below {w w' : World} {b n : Nat} {s : ByteArray} {bind : Int} {hid : Bool} {wh val sz : Int} (h : SBx w b s bind hid wh val sz) (k : Below n w w') (hb : b < n) : SBx w' b s bind hid wh val sz :=
  ⟨(k.cell hb).trans h.c0, (k.cell hb).trans h.c1, (k.cell hb).trans h.c2, (k.cell hb).trans h.c3, (k.cell hb).trans h.c4, (k.cell hb).trans h.c5, (k.frozen hb).trans h.f0, (k.frozen hb).trans h.f1, (k.frozen hb).trans h.f2, (k.frozen hb).trans h.f3, (k.frozen hb).trans h.f4, (k.frozen hb).trans h.f5⟩
theorem SBx.kept {w w' : World} {b : Nat} {s : ByteArray} {bind : Int} {hid : Bool} {wh val sz : Int} (h : SBx w b s bind hid wh val sz) (k : Kept w w') : SBx w' b s bind hid wh val sz := h.below k h.lt
theorem SBx.set0 {w : World} {b : Nat} {s : ByteArray} {bind : Int} {hid : Bool} {wh val sz : Int} (h : SBx w b s bind hid wh val sz) (u : ByteArray) : SBx (w.setCell ⟨b, 0, none⟩ (.string u)) b u bind hid wh val sz :=
  ⟨World.cell?_setCell_same _ _ _ h.c0, set_other h.c1 (by decide), set_other h.c2 (by decide), set_other h.c3 (by decide), set_other h.c4 (by decide), set_other h.c5 (by decide), set_frozen h.f0, set_frozen h.f1, set_frozen h.f2, set_frozen h.f3, set_frozen h.f4, set_frozen h.f5⟩
theorem SBx.set1 {w : World} {b : Nat} {s : ByteArray} {bind : Int} {hid : Bool} {wh val sz : Int} (h : SBx w b s bind hid wh val sz) (u : Int) : SBx (w.setCell ⟨b, 1, none⟩ (.int .u8 u)) b s u hid wh val sz :=
  ⟨set_other h.c0 (by decide), World.cell?_setCell_same _ _ _ h.c1, set_other h.c2 (by decide), set_other h.c3 (by decide), set_other h.c4 (by decide), set_other h.c5 (by decide), set_frozen h.f0, set_frozen h.f1, set_frozen h.f2, set_frozen h.f3, set_frozen h.f4, set_frozen h.f5⟩
theorem SBx.set2 {w : World} {b : Nat} {s : ByteArray} {bind : Int} {hid : Bool} {wh val sz : Int} (h : SBx w b s bind hid wh val sz) (u : Bool) : SBx (w.setCell ⟨b, 2, none⟩ (.bool u)) b s bind u wh val sz :=
  ⟨set_other h.c0 (by decide), set_other h.c1 (by decide), World.cell?_setCell_same _ _ _ h.c2, set_other h.c3 (by decide), set_other h.c4 (by decide), set_other h.c5 (by decide), set_frozen h.f0, set_frozen h.f1, set_frozen h.f2, set_frozen h.f3, set_frozen h.f4, set_frozen h.f5⟩
theorem SBx.set3 {w : World} {b : Nat} {s : ByteArray} {bind : Int} {hid : Bool} {wh val sz : Int} (h : SBx w b s bind hid wh val sz) (u : Int) : SBx (w.setCell ⟨b, 3, none⟩ (.int .i64 u)) b s bind hid u val sz :=
  ⟨set_other h.c0 (by decide), set_other h.c1 (by decide), set_other h.c2 (by decide), World.cell?_setCell_same _ _ _ h.c3, set_other h.c4 (by decide), set_other h.c5 (by decide), set_frozen h.f0, set_frozen h.f1, set_frozen h.f2, set_frozen h.f3, set_frozen h.f4, set_frozen h.f5⟩
theorem SBx.set4 {w : World} {b : Nat} {s : ByteArray} {bind : Int} {hid : Bool} {wh val sz : Int} (h : SBx w b s bind hid wh val sz) (u : Int) : SBx (w.setCell ⟨b, 4, none⟩ (.int .i64 u)) b s bind hid wh u sz :=
  ⟨set_other h.c0 (by decide), set_other h.c1 (by decide), set_other h.c2 (by decide), set_other h.c3 (by decide), World.cell?_setCell_same _ _ _ h.c4, set_other h.c5 (by decide), set_frozen h.f0, set_frozen h.f1, set_frozen h.f2, set_frozen h.f3, set_frozen h.f4, set_frozen h.f5⟩
theorem SBx.set5 {w : World} {b : Nat} {s : ByteArray} {bind : Int} {hid : Bool} {wh val sz : Int} (h : SBx w b s bind hid wh val sz) (u : Int) : SBx (w.setCell ⟨b, 5, none⟩ (.int .i64 u)) b s bind hid wh val u :=
  ⟨set_other h.c0 (by decide), set_other h.c1 (by decide), set_other h.c2 (by decide), set_other h.c3 (by decide), set_other h.c4 (by decide), World.cell?_setCell_same _ _ _ h.c5, set_frozen h.f0, set_frozen h.f1, set_frozen h.f2, set_frozen h.f3, set_frozen h.f4, set_frozen h.f5⟩
theorem SBx.far {w : World} {b : Nat} {s : ByteArray} {bind : Int} {hid : Bool} {wh val sz : Int} (h : SBx w b s bind hid wh val sz) (b' i : Nat) (u : Value) (hb : b' ≠ b) : SBx (w.setCell ⟨b', i, none⟩ u) b s bind hid wh val sz :=
  ⟨set_far h.c0 hb, set_far h.c1 hb, set_far h.c2 hb, set_far h.c3 hb, set_far h.c4 hb, set_far h.c5 hb, set_frozen h.f0, set_frozen h.f1, set_frozen h.f2, set_frozen h.f3, set_frozen h.f4, set_frozen h.f5⟩
theorem SBx.new (w : World) (s : ByteArray) (bind : Int) (hid : Bool) (wh val sz : Int) : SBx (w.alloc (symO s bind hid wh val sz)) w.heap.size s bind hid wh val sz := by
  constructor <;> simp
/-- The six cells of a symbol, put one after another. -/
abbrev put6 (w : World) (b : Nat) (s : ByteArray) (bind : Int) (hid : Bool) (wh val sz : Int) : World :=
  (((((w.setCell ⟨b, 0, none⟩ (.string s)).setCell ⟨b, 1, none⟩ (.int .u8 bind)).setCell ⟨b, 2, none⟩ (.bool hid)).setCell ⟨b, 3, none⟩ (.int .i64 wh)).setCell ⟨b, 4, none⟩ (.int .i64 val)).setCell ⟨b, 5, none⟩ (.int .i64 sz)
theorem SBx.put {w : World} {b : Nat} {s : ByteArray} {bind : Int} {hid : Bool} {wh val sz : Int} (h : SBx w b s bind hid wh val sz) (s' : ByteArray) (bind' : Int) (hid' : Bool) (wh' val' sz' : Int) : SBx (put6 w b s' bind' hid' wh' val' sz') b s' bind' hid' wh' val' sz' :=
  (((((h.set0 _).set1 _).set2 _).set3 _).set4 _).set5 _
theorem below_put6 {w : World} {b B : Nat} {a : World} (h : Below B a w) (hp : B ≤ b) (s : ByteArray) (bind : Int) (hid : Bool) (wh val sz : Int) : Below B a (put6 w b s bind hid wh val sz) :=
  (((((h.setCell hp _).setCell hp _).setCell hp _).setCell hp _).setCell hp _).setCell hp _
theorem SBx.grown {w w' : World} {b g : Nat} {s : ByteArray} {bind : Int} {hid : Bool} {wh val sz : Int} (h : SBx w b s bind hid wh val sz) (hg : w.grownBy w' (some g)) (hb : b ≠ g) : SBx w' b s bind hid wh val sz :=
  ⟨grown_cell hg h.c0 hb, grown_cell hg h.c1 hb, grown_cell hg h.c2 hb, grown_cell hg h.c3 hb, grown_cell hg h.c4 hb, grown_cell hg h.c5 hb, (grown_frozen hg h.lt hb).trans h.f0, (grown_frozen hg h.lt hb).trans h.f1, (grown_frozen hg h.lt hb).trans h.f2, (grown_frozen hg h.lt hb).trans h.f3, (grown_frozen hg h.lt hb).trans h.f4, (grown_frozen hg h.lt hb).trans h.f5⟩
end Go.Proofs.YtljmgbpecoifnaaGreatDoor
