/- A symbol's bytes: the document's. -/
import Derived.Test.YteehekoajemciaaDoorDc
import Derived.Test.YteehekoajemciaaDoorRp
import Derived.Deep.DeepCutAuto
namespace Go.Proofs.YteehekoajemciaaDoor
open Go.RowKit

theorem byN_one {n : Int} (h0 : 0 ≤ n) (h1 : n < 256) : byN (uOf n) 1 = [n] := by
  have e : uOf n = n.toNat := uOf_nonneg n h0 (by omega)
  rw [e]
  unfold byN leB leB
  simp only [List.map_cons, List.map_nil]
  congr 1
  omega
theorem symP_one (name bind : Int) (hid : Bool) (wh val sz : Int) : byN (uOf name) 4 = symP (symN name bind hid wh val sz) 1 := by
  rw [symP_succ rfl (by decide), symP_zero]
  rfl
theorem symP_three {name bind : Int} (hid : Bool) (wh val sz : Int) (h0 : 0 ≤ bind) (h1 : bind ≤ 15) : symP (symN name bind hid wh val sz) 1 ++ [16 * bind, hidN hid] = symP (symN name bind hid wh val sz) 3 := by
  have hh := hidN_range hid
  have e1 : symP (symN name bind hid wh val sz) 2 = symP (symN name bind hid wh val sz) 1 ++ byN (uOf (16 * bind)) 1 := symP_succ rfl (by decide)
  have e2 : symP (symN name bind hid wh val sz) 3 = symP (symN name bind hid wh val sz) 2 ++ byN (uOf (hidN hid)) 1 := symP_succ rfl (by decide)
  rw [e2, e1, byN_one (by omega) (by omega), byN_one (by omega) (by omega), List.append_assoc]
  rfl
theorem byt_two (w : World) (x y : Int) : Byt (w.alloc (.cells #[.int .u8 x, .int .u8 y] 5)) (some ⟨w.heap.size, 0, none⟩) [x, y] := by
  refine .inr ⟨w.heap.size, 0, rfl, fun i hi => ?_⟩
  match i, hi with
  | 0, _ => simp
  | 1, _ => simp

set_option maxRecDepth 20000 in
set_option maxHeartbeats 3200000 in
theorem rbytesY_walk (s : ByteArray) (bind : Int) (hid : Bool) (wh val sz name : Int) (w : World) (hb0 : 0 ≤ bind) (hb1 : bind ≤ 15) :
    Calls Tryd.prog 26 #[symW s bind hid wh val sz, .int .i64 name] w fun e w' => ∃ x, e = .returned x ∧ Own w' w.heap.size x (symL name bind hid wh val sz) ∧ Kept w w' := by
  have B1 := SBx.new w s bind hid wh val sz
  obtain ⟨wa, hwa⟩ : ∃ wa, w.alloc (symO s bind hid wh val sz) = wa := ⟨_, rfl⟩
  rw [hwa] at B1
  have kA : Kept w wa := by rw [← hwa]; exact Kept.alloc _ _
  obtain ⟨c0, c1, c2, c3, c4, c5, _, _, _, _, _, _⟩ := B1
  have hB4 : ∀ n w, Calls Tryd.prog 36 #[.int .i64 n, .int .i64 4] w fun e w' => ∃ x, e = .returned x ∧ Own w' w.heap.size x (byN (uOf n) 4) ∧ Kept w w' := fun n w => bytes_walk n 4 w (by decide)
  have hB2 : ∀ n w, Calls Tryd.prog 36 #[.int .i64 n, .int .i64 2] w fun e w' => ∃ x, e = .returned x ∧ Own w' w.heap.size x (byN (uOf n) 2) ∧ Kept w w' := fun n w => bytes_walk n 2 w (by decide)
  have hB8 : ∀ n w, Calls Tryd.prog 36 #[.int .i64 n, .int .i64 8] w fun e w' => ∃ x, e = .returned x ∧ Own w' w.heap.size x (byN (uOf n) 8) ∧ Kept w w' := fun n w => bytes_walk n 8 w (by decide)
  have E1 : Hid (byN (uOf name) 4 = symP (symN name bind hid wh val sz) 1) := symP_one name bind hid wh val sz
  have E3 : Hid (symP (symN name bind hid wh val sz) 1 ++ [16 * bind, hidN hid] = symP (symN name bind hid wh val sz) 3) := symP_three hid wh val sz hb0 hb1
  have E4 : Hid (symP (symN name bind hid wh val sz) 3 ++ byN (uOf (wU wh)) 2 = symP (symN name bind hid wh val sz) 4) := (symP_succ rfl (by decide)).symm
  have E5 : Hid (symP (symN name bind hid wh val sz) 4 ++ byN (uOf val) 8 = symP (symN name bind hid wh val sz) 5) := (symP_succ rfl (by decide)).symm
  have E6 : Hid (symP (symN name bind hid wh val sz) 5 ++ byN (uOf sz) 8 = symL name bind hid wh val sz) := (symP_succ (v := symN name bind hid wh val sz) rfl (by decide : 5 < 6)).symm.trans (symP_six rfl)
  have L1 := symP_le (symN_length name bind hid wh val sz) 1 (by decide)
  have L3 := symP_le (symN_length name bind hid wh val sz) 3 (by decide)
  have L4 := symP_le (symN_length name bind hid wh val sz) 4 (by decide)
  have L5 := symP_le (symN_length name bind hid wh val sz) 5 (by decide)
  obtain ⟨v, hv⟩ : ∃ v, symN name bind hid wh val sz = v := ⟨_, rfl⟩
  rw [hv] at E1 E3 E4 E5 E6 L1 L3 L4 L5
  obtain ⟨L, hL⟩ : ∃ L, symL name bind hid wh val sz = L := ⟨_, rfl⟩
  rw [hL] at E6 ⊢
  obtain ⟨Z, hZ⟩ : ∃ Z, 16 * bind = Z := ⟨_, rfl⟩
  rw [hZ] at E3
  have hZ0 : 0 ≤ Z := by omega
  have hZ1 : Z < 256 := by omega
  have hZ8 : IntKind.u8.wrap Z = Z := by
    have e : IntKind.u8.wrap Z = Z % 256 := rfl
    rw [e]; omega
  obtain ⟨U, q1, q2, hU, e1, e2, hq⟩ : ∃ U q1 q2, wU wh = U ∧ (wh == -1) = q1 ∧ (wh == -2) = q2 ∧ ((q1 = true ∧ U = 65521) ∨ (q1 = false ∧ q2 = true ∧ U = 65522) ∨ (q1 = false ∧ q2 = false ∧ U = wh)) := by
    refine ⟨_, _, _, rfl, rfl, rfl, ?_⟩
    unfold wU
    by_cases h1 : wh = -1
    · left; rw [if_pos h1, h1]; exact ⟨rfl, rfl⟩
    · right
      rw [if_neg h1]
      have f1 : (wh == -1) = false := by rw [beq_eq_false_iff_ne]; exact h1
      by_cases h2 : wh = -2
      · left; rw [if_pos h2]; exact ⟨f1, by rw [beq_iff_eq]; exact h2, rfl⟩
      · right; rw [if_neg h2]; exact ⟨f1, by rw [beq_eq_false_iff_ne]; exact h2, rfl⟩
  rw [hU] at E4
  have hsa : w.heap.size ≤ wa.heap.size := kA.size
  clear hv hL hU
  rcases hq with ⟨rfl, rfl⟩ | ⟨rfl, rfl, rfl⟩ | ⟨rfl, rfl, rfl⟩ <;> cases hid <;>
  · go_enter Tryd.func26, Tryd.ntmps26
    go_upto_region 11 with (go_at_call 36; refine (hB4 _ _).mono ?_; rintro e w1 ⟨x1, rfl, O1, K1⟩)
    replace O1 : Own w1 wa.heap.size x1 (symP v 1) := own_app O1 E1.out
    have d1 : w1.cell? ⟨w.heap.size, 1, none⟩ = some (.int .u8 bind) := Kept.cell K1 c1
    go_upto_region 12 with (at_builtin; refine wpList_append_byt rfl _ _ rfl wa.heap.size x1 (symP v 1) [Z, _] (some ⟨w1.heap.size, 0, none⟩) 2 rfl rfl (own_keep O1 (Kept.alloc _ _)) (byt_two w1 _ _) (fun h => by cases h) (by simp; omega) wa (Kept.trans K1 (Kept.alloc _ _)) (Kept.trans K1 (Kept.alloc _ _)).size ?_; intro x3 w3 O3 K3)
    replace O3 : Own w3 wa.heap.size x3 (symP v 3) := own_app O3 E3.out
    clear O1 d1 K1
    go_upto_region 13 with (first
      | (go_at_call 36; refine (hB2 _ _).mono ?_; rintro e wq ⟨xq, rfl, Oq, Kq⟩; obtain ⟨Aq, Cq, rfl, _, bq, nq⟩ := Oq.let (byN_length _ _); have P3 := own_keep O3 Kq)
      | (at_builtin; refine wpList_append_byt rfl _ _ rfl wa.heap.size x3 (symP v 3) (byN _ 2) Aq Cq rfl (by rw [byN_length]; rfl) P3 bq (by rw [byN_length]; exact nq) (by rw [byN_length]; omega) wa (Kept.trans K3 Kq) (Kept.trans K3 Kq).size ?_; intro x4 w4 O4 K4))
    replace O4 : Own w4 wa.heap.size x4 (symP v 4) := own_app O4 E4.out
    clear O3 P3 K3 Oq Kq bq nq
    have d4 : w4.cell? ⟨w.heap.size, 4, none⟩ = some (.int .i64 val) := Kept.cell K4 c4
    go_upto_region 14 with (first
      | (go_at_call 36; refine (hB8 _ _).mono ?_; rintro e wq ⟨xq, rfl, Oq, Kq⟩; obtain ⟨Aq, Cq, rfl, _, bq, nq⟩ := Oq.let (byN_length _ _); have P4 := own_keep O4 Kq)
      | (at_builtin; refine wpList_append_byt rfl _ _ rfl wa.heap.size x4 (symP v 4) (byN (uOf val) 8) Aq Cq rfl (by rw [byN_length]; rfl) P4 bq (by rw [byN_length]; exact nq) (by rw [byN_length]; omega) wa (Kept.trans K4 Kq) (Kept.trans K4 Kq).size ?_; intro x5 w5 O5 K5))
    replace O5 : Own w5 wa.heap.size x5 (symP v 5) := own_app O5 E5.out
    clear O4 P4 K4 Oq Kq bq nq d4
    have d5 : w5.cell? ⟨w.heap.size, 5, none⟩ = some (.int .i64 sz) := Kept.cell K5 c5
    go_wp2_with (first
      | (go_at_call 36; refine (hB8 _ _).mono ?_; rintro e wq ⟨xq, rfl, Oq, Kq⟩; obtain ⟨Aq, Cq, rfl, _, bq, nq⟩ := Oq.let (byN_length _ _); have P5 := own_keep O5 Kq)
      | (at_builtin; refine wpList_append_byt rfl _ _ rfl wa.heap.size x5 (symP v 5) (byN (uOf sz) 8) Aq Cq rfl (by rw [byN_length]; rfl) P5 bq (by rw [byN_length]; exact nq) (by rw [byN_length]; omega) wa (Kept.trans K5 Kq) (Kept.trans K5 Kq).size ?_; intro x6 w6 O6 K6))
    replace O6 : Own w6 wa.heap.size x6 L := own_app O6 E6.out
    go_ret
    exact ⟨_, rfl, own_base O6 hsa, Kept.trans kA K6⟩

set_option maxHeartbeats 1600000 in
theorem rwriteY_walk (s : ByteArray) (bind : Int) (hid : Bool) (wh val sz name : Int) (w : World) (hs : s.size ≤ maxLen) (hb : 0 ≤ bind) :
    Calls Tryd.prog 13 #[symW s bind hid wh val sz, .int .i64 name] w fun e w' => ∃ x, e = .returned (.tuple #[x, .int .i64 (wyE (nm s) bind hid wh val sz name)]) ∧ Own w' w.heap.size x (wyL (nm s) bind hid wh val sz name) ∧ Kept w w' := by
  have B1 := SBx.new w s bind hid wh val sz
  obtain ⟨wa, hwa⟩ : ∃ wa, w.alloc (symO s bind hid wh val sz) = wa := ⟨_, rfl⟩
  rw [hwa] at B1
  have kA : Kept w wa := by rw [← hwa]; exact Kept.alloc _ _
  have B1' := B1
  obtain ⟨c0, c1, c2, c3, c4, c5, _, _, _, _, _, _⟩ := B1'
  have hM := fun w => rmayY_walk s bind hid wh val sz 16 w hs hb
  have hI := fun w => rwithin_walk name 0 65535 w
  cases hok : okY (nm s) bind hid wh val sz 16 with
  | false =>
    rw [hok] at hM
    rw [(wy_bad hok).1, (wy_bad hok).2]
    clear hok
    go_enter Tryd.func13, Tryd.ntmps13
    go_wp2_with (go_at_call 24; refine (hM _).mono ?_; rintro e w1 ⟨rfl, k1⟩)
    go_ret2
    exact ⟨_, rfl, Own.nil _ _, kA.trans k1⟩
  | true =>
    rw [hok] at hM
    cases hn : wiB name 0 65535 with
    | false =>
      have := wiB_false hn
      rw [hn] at hI
      have hw := wy_arg (name := name) hok (by omega)
      rw [hw.1, hw.2]
      clear hok this hn hw
      go_enter Tryd.func13, Tryd.ntmps13
      go_wp2_with (first
        | (go_at_call 24; refine (hM _).mono ?_; rintro e w1 ⟨rfl, k1⟩)
        | (go_at_call 25; refine (hI _).mono ?_; rintro e w2 ⟨rfl, hw2⟩; have hw3 := hw2.symm; subst hw3; clear hw2))
      go_ret2
      exact ⟨_, rfl, Own.nil _ _, kA.trans k1⟩
    | true =>
      have hn' := wiB_true hn
      rw [hn] at hI
      have hw := wy_ok hok hn'.1 hn'.2
      rw [hw.1, hw.2]
      have hH := stands_has (okY_has hok).2
      have hB := fun w => rbytesY_walk s bind hid wh val sz name w hb (by omega)
      have hsa : w.heap.size ≤ wa.heap.size := kA.size
      clear hok hn' hn hw hH
      go_enter Tryd.func13, Tryd.ntmps13
      go_wp2_with (first
        | (go_at_call 24; refine (hM _).mono ?_; rintro e w1 ⟨rfl, k1⟩; clear c0 c1 c2 c3 c4 c5; obtain ⟨c0, c1, c2, c3, c4, c5, _, _, _, _, _, _⟩ := B1.kept k1)
        | (go_at_call 25; refine (hI _).mono ?_; rintro e w2 ⟨rfl, hw2⟩; have hw3 := hw2.symm; subst hw3; clear hw2)
        | (go_at_call 26; refine (hB _).mono ?_; rintro e w4 ⟨x4, rfl, O4, k4⟩))
      go_ret2
      exact ⟨_, rfl, own_base O4 (Nat.le_trans hsa k1.size), (kA.trans k1).trans k4⟩
end Go.Proofs.YteehekoajemciaaDoor
