/- What the document's own Write gives. -/
import Derived.Test.YtdjokhokiklamaaWr
import Derived.Test.YtdjokhokiklamaaRp
namespace Go.Proofs.Ytdjokhokiklamaa
open Go.RowKit

theorem okF_8 (n : Int) : okF 8 n = decide (0 ≤ n) := by unfold okF; simp
theorem okF_4 (n : Int) : okF 4 n = decide (0 ≤ n ∧ n < 4294967296) := by unfold okF; simp
theorem rsmall_walk (n : Int) (w : World) : Calls Try.prog 43 #[.int .i64 n] w fun e w' => e = .returned (.bool (okF 4 n)) ∧ w' = w := by
  rw [okF_4]
  by_cases h0 : 0 ≤ n
  · have d0 : decide ((0 : Int) ≤ n) = true := decide_eq_true h0
    by_cases h1 : n < 4294967296
    · have d1 : decide (n < 4294967296) = true := decide_eq_true h1
      rw [decide_eq_true (⟨h0, h1⟩ : _ ∧ _)]
      go_enter Try.func43, Try.ntmps43
      go_wp2
      go_ret
      exact ⟨rfl, rfl⟩
    · have d1 : decide (n < 4294967296) = false := decide_eq_false h1
      rw [decide_eq_false (by omega : ¬ (0 ≤ n ∧ n < 4294967296))]
      go_enter Try.func43, Try.ntmps43
      go_wp2
      go_ret
      exact ⟨rfl, rfl⟩
  · have d0 : decide ((0 : Int) ≤ n) = false := decide_eq_false h0
    rw [decide_eq_false (by omega : ¬ (0 ≤ n ∧ n < 4294967296))]
    go_enter Try.func43, Try.ntmps43
    go_wp2
    go_ret
    exact ⟨rfl, rfl⟩

set_option maxRecDepth 20000 in
set_option maxHeartbeats 3200000 in
theorem rmayHead_walk (v0 v1 v2 v3 v4 v5 v6 v7 v8 v9 : Int) (v : List Int) (w : World) (hv : v = [v0, v1, v2, v3, v4, v5, v6, v7, v8, v9]) :
    Calls Try.prog 34 #[headW' v0 v1 v2 v3 v4 v5 v6 v7 v8 v9] w fun e w' => e = .returned (.bool (headB v)) ∧ Kept w w' := by
  have H1 := HBx.new w v0 v1 v2 v3 v4 v5 v6 v7 v8 v9
  obtain ⟨wa, hwa⟩ : ∃ wa, w.alloc (headO v0 v1 v2 v3 v4 v5 v6 v7 v8 v9) = wa := ⟨_, rfl⟩
  rw [hwa] at H1
  have kA : Kept w wa := by rw [← hwa]; exact Kept.alloc _ _
  have c0 := (H1 0 (by decide)).1
  have c1 := (H1 1 (by decide)).1
  have c2 := (H1 2 (by decide)).1
  have c3 := (H1 3 (by decide)).1
  have c4 := (H1 4 (by decide)).1
  have c5 := (H1 5 (by decide)).1
  have c6 := (H1 6 (by decide)).1
  have c7 := (H1 7 (by decide)).1
  have c8 := (H1 8 (by decide)).1
  have c9 := (H1 9 (by decide)).1
  simp only [List.getD_cons_zero, List.getD_cons_succ] at c0 c1 c2 c3 c4 c5 c6 c7 c8 c9
  clear H1
  cases q0 : okF 4 v0 with
  | false =>
    have HB : Hid (headB v = false) := headB_no (k := 0) (by decide) (by rw [hv]; exact q0)
    clear hv
    go_enter Try.func34, Try.ntmps34
    go_wp2_with (go_at_call 43; refine (rsmall_walk _ _).mono ?_; rintro e w2 ⟨rfl, hw2⟩; have hw3 := hw2.symm; subst hw3; clear hw2)
    go_ret
    exact ⟨by rw [HB.out]; rfl, kA⟩
  | true =>
    cases q1 : okF 4 v1 with
    | false =>
      have HB : Hid (headB v = false) := headB_no (k := 1) (by decide) (by rw [hv]; exact q1)
      clear hv
      go_enter Try.func34, Try.ntmps34
      go_wp2_with (go_at_call 43; refine (rsmall_walk _ _).mono ?_; rintro e w2 ⟨rfl, hw2⟩; have hw3 := hw2.symm; subst hw3; clear hw2)
      go_ret
      exact ⟨by rw [HB.out]; rfl, kA⟩
    | true =>
      cases q6 : okF 4 v6 with
      | false =>
        have HB : Hid (headB v = false) := headB_no (k := 6) (by decide) (by rw [hv]; exact q6)
        clear hv
        go_enter Try.func34, Try.ntmps34
        go_wp2_with (go_at_call 43; refine (rsmall_walk _ _).mono ?_; rintro e w2 ⟨rfl, hw2⟩; have hw3 := hw2.symm; subst hw3; clear hw2)
        go_ret
        exact ⟨by rw [HB.out]; rfl, kA⟩
      | true =>
        cases q7 : okF 4 v7 with
        | false =>
          have HB : Hid (headB v = false) := headB_no (k := 7) (by decide) (by rw [hv]; exact q7)
          clear hv
          go_enter Try.func34, Try.ntmps34
          go_wp2_with (go_at_call 43; refine (rsmall_walk _ _).mono ?_; rintro e w2 ⟨rfl, hw2⟩; have hw3 := hw2.symm; subst hw3; clear hw2)
          go_ret
          exact ⟨by rw [HB.out]; rfl, kA⟩
        | true =>
          cases q2 : decide (0 ≤ v2) with
          | false =>
            have HB : Hid (headB v = false) := headB_no (k := 2) (by decide) (by rw [hv]; show okF 8 v2 = false; rw [okF_8]; exact q2)
            clear hv
            go_enter Try.func34, Try.ntmps34
            go_wp2_with (go_at_call 43; refine (rsmall_walk _ _).mono ?_; rintro e w2 ⟨rfl, hw2⟩; have hw3 := hw2.symm; subst hw3; clear hw2)
            go_ret
            exact ⟨by rw [HB.out]; rfl, kA⟩
          | true =>
            cases q3 : decide (0 ≤ v3) with
            | false =>
              have HB : Hid (headB v = false) := headB_no (k := 3) (by decide) (by rw [hv]; show okF 8 v3 = false; rw [okF_8]; exact q3)
              clear hv
              go_enter Try.func34, Try.ntmps34
              go_wp2_with (go_at_call 43; refine (rsmall_walk _ _).mono ?_; rintro e w2 ⟨rfl, hw2⟩; have hw3 := hw2.symm; subst hw3; clear hw2)
              go_ret
              exact ⟨by rw [HB.out]; rfl, kA⟩
            | true =>
              cases q4 : decide (0 ≤ v4) with
              | false =>
                have HB : Hid (headB v = false) := headB_no (k := 4) (by decide) (by rw [hv]; show okF 8 v4 = false; rw [okF_8]; exact q4)
                clear hv
                go_enter Try.func34, Try.ntmps34
                go_wp2_with (go_at_call 43; refine (rsmall_walk _ _).mono ?_; rintro e w2 ⟨rfl, hw2⟩; have hw3 := hw2.symm; subst hw3; clear hw2)
                go_ret
                exact ⟨by rw [HB.out]; rfl, kA⟩
              | true =>
                cases q5 : decide (0 ≤ v5) with
                | false =>
                  have HB : Hid (headB v = false) := headB_no (k := 5) (by decide) (by rw [hv]; show okF 8 v5 = false; rw [okF_8]; exact q5)
                  clear hv
                  go_enter Try.func34, Try.ntmps34
                  go_wp2_with (go_at_call 43; refine (rsmall_walk _ _).mono ?_; rintro e w2 ⟨rfl, hw2⟩; have hw3 := hw2.symm; subst hw3; clear hw2)
                  go_ret
                  exact ⟨by rw [HB.out]; rfl, kA⟩
                | true =>
                  cases q8 : decide (0 ≤ v8) with
                  | false =>
                    have HB : Hid (headB v = false) := headB_no (k := 8) (by decide) (by rw [hv]; show okF 8 v8 = false; rw [okF_8]; exact q8)
                    clear hv
                    go_enter Try.func34, Try.ntmps34
                    go_wp2_with (go_at_call 43; refine (rsmall_walk _ _).mono ?_; rintro e w2 ⟨rfl, hw2⟩; have hw3 := hw2.symm; subst hw3; clear hw2)
                    go_ret
                    exact ⟨by rw [HB.out]; rfl, kA⟩
                  | true =>
                    cases q9 : decide (0 ≤ v9) with
                    | false =>
                      have HB : Hid (headB v = false) := headB_no (k := 9) (by decide) (by rw [hv]; show okF 8 v9 = false; rw [okF_8]; exact q9)
                      clear hv
                      go_enter Try.func34, Try.ntmps34
                      go_wp2_with (go_at_call 43; refine (rsmall_walk _ _).mono ?_; rintro e w2 ⟨rfl, hw2⟩; have hw3 := hw2.symm; subst hw3; clear hw2)
                      go_ret
                      exact ⟨by rw [HB.out]; rfl, kA⟩
                    | true =>
                      have HB : Hid (headB v = true) := headB_mk (by rw [hv]; rfl) fun k hk => by
                        rw [hv]
                        match k, hk with
                        | 0, _ => exact q0
                        | 1, _ => exact q1
                        | 2, _ => (show okF 8 v2 = true; rw [okF_8]; exact q2)
                        | 3, _ => (show okF 8 v3 = true; rw [okF_8]; exact q3)
                        | 4, _ => (show okF 8 v4 = true; rw [okF_8]; exact q4)
                        | 5, _ => (show okF 8 v5 = true; rw [okF_8]; exact q5)
                        | 6, _ => exact q6
                        | 7, _ => exact q7
                        | 8, _ => (show okF 8 v8 = true; rw [okF_8]; exact q8)
                        | 9, _ => (show okF 8 v9 = true; rw [okF_8]; exact q9)
                      clear hv
                      go_enter Try.func34, Try.ntmps34
                      go_wp2_with (go_at_call 43; refine (rsmall_walk _ _).mono ?_; rintro e w2 ⟨rfl, hw2⟩; have hw3 := hw2.symm; subst hw3; clear hw2)
                      go_ret
                      exact ⟨by rw [HB.out]; rfl, kA⟩

theorem own_app {w : World} {base : Nat} {x : Value} {l m : List Int} (h : Own w base x l) (e : l = m) : Own w base x m := e ▸ h

set_option maxRecDepth 20000 in
set_option maxHeartbeats 3200000 in
theorem rbytes_walk (v0 v1 v2 v3 v4 v5 v6 v7 v8 v9 : Int) (v : List Int) (w : World) (hv : v = [v0, v1, v2, v3, v4, v5, v6, v7, v8, v9]) :
    Calls Try.prog 35 #[headW' v0 v1 v2 v3 v4 v5 v6 v7 v8 v9] w fun e w' => ∃ x, e = .returned x ∧ Own w' w.heap.size x (headL v) ∧ Kept w w' := by
  have H1 := HBx.new w v0 v1 v2 v3 v4 v5 v6 v7 v8 v9
  have hv10 : v.length = 10 := by rw [hv]; rfl
  have HV : Hid (v.length = 10) := hv10
  obtain ⟨wa, hwa⟩ : ∃ wa, w.alloc (headO v0 v1 v2 v3 v4 v5 v6 v7 v8 v9) = wa := ⟨_, rfl⟩
  rw [hwa] at H1
  have kA : Kept w wa := by rw [← hwa]; exact Kept.alloc _ _
  have hB4 : ∀ n w, Calls Try.prog 44 #[.int .i64 n, .int .i64 4] w fun e w' => ∃ x, e = .returned x ∧ Own w' w.heap.size x (byN (uOf n) 4) ∧ Kept w w' := fun n w => bytes_walk n 4 w (by decide)
  have hB8 : ∀ n w, Calls Try.prog 44 #[.int .i64 n, .int .i64 8] w fun e w' => ∃ x, e = .returned x ∧ Own w' w.heap.size x (byN (uOf n) 8) ∧ Kept w w' := fun n w => bytes_walk n 8 w (by decide)
  have c0 := (H1 0 (by decide)).1
  have c1 := (H1 1 (by decide)).1
  have c2 := (H1 2 (by decide)).1
  have c3 := (H1 3 (by decide)).1
  have c4 := (H1 4 (by decide)).1
  have c5 := (H1 5 (by decide)).1
  have c6 := (H1 6 (by decide)).1
  have c7 := (H1 7 (by decide)).1
  have c8 := (H1 8 (by decide)).1
  have c9 := (H1 9 (by decide)).1
  simp only [List.getD_cons_zero, List.getD_cons_succ] at c0 c1 c2 c3 c4 c5 c6 c7 c8 c9
  have E0 : Hid (headP v 0 ++ byN (uOf v0) 4 = headP v 1) := by
    unfold Hid
    rw [headP_succ hv10 (by decide), hv]
    rfl
  have E1 : Hid (headP v 1 ++ byN (uOf v1) 4 = headP v 2) := by
    unfold Hid
    rw [headP_succ hv10 (by decide), hv]
    rfl
  have E2 : Hid (headP v 2 ++ byN (uOf v2) 8 = headP v 3) := by
    unfold Hid
    rw [headP_succ hv10 (by decide), hv]
    rfl
  have E3 : Hid (headP v 3 ++ byN (uOf v3) 8 = headP v 4) := by
    unfold Hid
    rw [headP_succ hv10 (by decide), hv]
    rfl
  have E4 : Hid (headP v 4 ++ byN (uOf v4) 8 = headP v 5) := by
    unfold Hid
    rw [headP_succ hv10 (by decide), hv]
    rfl
  have E5 : Hid (headP v 5 ++ byN (uOf v5) 8 = headP v 6) := by
    unfold Hid
    rw [headP_succ hv10 (by decide), hv]
    rfl
  have E6 : Hid (headP v 6 ++ byN (uOf v6) 4 = headP v 7) := by
    unfold Hid
    rw [headP_succ hv10 (by decide), hv]
    rfl
  have E7 : Hid (headP v 7 ++ byN (uOf v7) 4 = headP v 8) := by
    unfold Hid
    rw [headP_succ hv10 (by decide), hv]
    rfl
  have E8 : Hid (headP v 8 ++ byN (uOf v8) 8 = headP v 9) := by
    unfold Hid
    rw [headP_succ hv10 (by decide), hv]
    rfl
  have E9 : Hid (headP v 9 ++ byN (uOf v9) 8 = headP v 10) := by
    unfold Hid
    rw [headP_succ hv10 (by decide), hv]
    rfl
  have L0 := headP_le hv10 0 (by decide)
  have L1 := headP_le hv10 1 (by decide)
  have L2 := headP_le hv10 2 (by decide)
  have L3 := headP_le hv10 3 (by decide)
  have L4 := headP_le hv10 4 (by decide)
  have L5 := headP_le hv10 5 (by decide)
  have L6 := headP_le hv10 6 (by decide)
  have L7 := headP_le hv10 7 (by decide)
  have L8 := headP_le hv10 8 (by decide)
  have L9 := headP_le hv10 9 (by decide)
  clear H1 hv10 hv
  have hsa : w.heap.size ≤ wa.heap.size := kA.size
  go_enter Try.func35, Try.ntmps35
  go_upto_region 2 with (go_at_call 44; refine (hB4 _ _).mono ?_; rintro e w1 ⟨x1, rfl, O1, K1⟩)
  replace O1 : Own w1 wa.heap.size x1 (headP v 1) := own_app O1 E0.out
  clear c0 E0 L0
  have d1 : w1.cell? ⟨w.heap.size, 1, none⟩ = some (.int .i64 v1) := Kept.cell K1 c1
  go_upto_region 3 with (first
    | (go_at_call 44; refine (hB4 _ _).mono ?_; rintro e wq ⟨xq, rfl, Oq, Kq⟩; obtain ⟨Aq, Cq, rfl, _, bq, nq⟩ := Oq.let (byN_length _ _); have P1 := own_keep O1 Kq)
    | (at_builtin; refine wpList_append_byt rfl _ _ rfl wa.heap.size x1 (headP v 1) (byN (uOf v1) 4) Aq Cq rfl (by rw [byN_length]; rfl) P1 bq (by rw [byN_length]; exact nq) (by rw [byN_length]; omega) wa (Kept.trans K1 Kq) (Kept.trans K1 Kq).size ?_; intro x2 w2 O2 K2))
  replace O2 : Own w2 wa.heap.size x2 (headP v 2) := own_app O2 E1.out
  clear O1 P1 d1 K1 Oq Kq bq nq
  clear c1 E1 L1
  have d2 : w2.cell? ⟨w.heap.size, 2, none⟩ = some (.int .i64 v2) := Kept.cell K2 c2
  go_upto_region 4 with (first
    | (go_at_call 44; refine (hB8 _ _).mono ?_; rintro e wq ⟨xq, rfl, Oq, Kq⟩; obtain ⟨Aq, Cq, rfl, _, bq, nq⟩ := Oq.let (byN_length _ _); have P2 := own_keep O2 Kq)
    | (at_builtin; refine wpList_append_byt rfl _ _ rfl wa.heap.size x2 (headP v 2) (byN (uOf v2) 8) Aq Cq rfl (by rw [byN_length]; rfl) P2 bq (by rw [byN_length]; exact nq) (by rw [byN_length]; omega) wa (Kept.trans K2 Kq) (Kept.trans K2 Kq).size ?_; intro x3 w3 O3 K3))
  replace O3 : Own w3 wa.heap.size x3 (headP v 3) := own_app O3 E2.out
  clear O2 P2 d2 K2 Oq Kq bq nq
  clear c2 E2 L2
  have d3 : w3.cell? ⟨w.heap.size, 3, none⟩ = some (.int .i64 v3) := Kept.cell K3 c3
  go_upto_region 5 with (first
    | (go_at_call 44; refine (hB8 _ _).mono ?_; rintro e wq ⟨xq, rfl, Oq, Kq⟩; obtain ⟨Aq, Cq, rfl, _, bq, nq⟩ := Oq.let (byN_length _ _); have P3 := own_keep O3 Kq)
    | (at_builtin; refine wpList_append_byt rfl _ _ rfl wa.heap.size x3 (headP v 3) (byN (uOf v3) 8) Aq Cq rfl (by rw [byN_length]; rfl) P3 bq (by rw [byN_length]; exact nq) (by rw [byN_length]; omega) wa (Kept.trans K3 Kq) (Kept.trans K3 Kq).size ?_; intro x4 w4 O4 K4))
  replace O4 : Own w4 wa.heap.size x4 (headP v 4) := own_app O4 E3.out
  clear O3 P3 d3 K3 Oq Kq bq nq
  clear c3 E3 L3
  have d4 : w4.cell? ⟨w.heap.size, 4, none⟩ = some (.int .i64 v4) := Kept.cell K4 c4
  go_upto_region 6 with (first
    | (go_at_call 44; refine (hB8 _ _).mono ?_; rintro e wq ⟨xq, rfl, Oq, Kq⟩; obtain ⟨Aq, Cq, rfl, _, bq, nq⟩ := Oq.let (byN_length _ _); have P4 := own_keep O4 Kq)
    | (at_builtin; refine wpList_append_byt rfl _ _ rfl wa.heap.size x4 (headP v 4) (byN (uOf v4) 8) Aq Cq rfl (by rw [byN_length]; rfl) P4 bq (by rw [byN_length]; exact nq) (by rw [byN_length]; omega) wa (Kept.trans K4 Kq) (Kept.trans K4 Kq).size ?_; intro x5 w5 O5 K5))
  replace O5 : Own w5 wa.heap.size x5 (headP v 5) := own_app O5 E4.out
  clear O4 P4 d4 K4 Oq Kq bq nq
  clear c4 E4 L4
  have d5 : w5.cell? ⟨w.heap.size, 5, none⟩ = some (.int .i64 v5) := Kept.cell K5 c5
  go_upto_region 7 with (first
    | (go_at_call 44; refine (hB8 _ _).mono ?_; rintro e wq ⟨xq, rfl, Oq, Kq⟩; obtain ⟨Aq, Cq, rfl, _, bq, nq⟩ := Oq.let (byN_length _ _); have P5 := own_keep O5 Kq)
    | (at_builtin; refine wpList_append_byt rfl _ _ rfl wa.heap.size x5 (headP v 5) (byN (uOf v5) 8) Aq Cq rfl (by rw [byN_length]; rfl) P5 bq (by rw [byN_length]; exact nq) (by rw [byN_length]; omega) wa (Kept.trans K5 Kq) (Kept.trans K5 Kq).size ?_; intro x6 w6 O6 K6))
  replace O6 : Own w6 wa.heap.size x6 (headP v 6) := own_app O6 E5.out
  clear O5 P5 d5 K5 Oq Kq bq nq
  clear c5 E5 L5
  have d6 : w6.cell? ⟨w.heap.size, 6, none⟩ = some (.int .i64 v6) := Kept.cell K6 c6
  go_upto_region 8 with (first
    | (go_at_call 44; refine (hB4 _ _).mono ?_; rintro e wq ⟨xq, rfl, Oq, Kq⟩; obtain ⟨Aq, Cq, rfl, _, bq, nq⟩ := Oq.let (byN_length _ _); have P6 := own_keep O6 Kq)
    | (at_builtin; refine wpList_append_byt rfl _ _ rfl wa.heap.size x6 (headP v 6) (byN (uOf v6) 4) Aq Cq rfl (by rw [byN_length]; rfl) P6 bq (by rw [byN_length]; exact nq) (by rw [byN_length]; omega) wa (Kept.trans K6 Kq) (Kept.trans K6 Kq).size ?_; intro x7 w7 O7 K7))
  replace O7 : Own w7 wa.heap.size x7 (headP v 7) := own_app O7 E6.out
  clear O6 P6 d6 K6 Oq Kq bq nq
  clear c6 E6 L6
  have d7 : w7.cell? ⟨w.heap.size, 7, none⟩ = some (.int .i64 v7) := Kept.cell K7 c7
  go_upto_region 9 with (first
    | (go_at_call 44; refine (hB4 _ _).mono ?_; rintro e wq ⟨xq, rfl, Oq, Kq⟩; obtain ⟨Aq, Cq, rfl, _, bq, nq⟩ := Oq.let (byN_length _ _); have P7 := own_keep O7 Kq)
    | (at_builtin; refine wpList_append_byt rfl _ _ rfl wa.heap.size x7 (headP v 7) (byN (uOf v7) 4) Aq Cq rfl (by rw [byN_length]; rfl) P7 bq (by rw [byN_length]; exact nq) (by rw [byN_length]; omega) wa (Kept.trans K7 Kq) (Kept.trans K7 Kq).size ?_; intro x8 w8 O8 K8))
  replace O8 : Own w8 wa.heap.size x8 (headP v 8) := own_app O8 E7.out
  clear O7 P7 d7 K7 Oq Kq bq nq
  clear c7 E7 L7
  have d8 : w8.cell? ⟨w.heap.size, 8, none⟩ = some (.int .i64 v8) := Kept.cell K8 c8
  go_upto_region 10 with (first
    | (go_at_call 44; refine (hB8 _ _).mono ?_; rintro e wq ⟨xq, rfl, Oq, Kq⟩; obtain ⟨Aq, Cq, rfl, _, bq, nq⟩ := Oq.let (byN_length _ _); have P8 := own_keep O8 Kq)
    | (at_builtin; refine wpList_append_byt rfl _ _ rfl wa.heap.size x8 (headP v 8) (byN (uOf v8) 8) Aq Cq rfl (by rw [byN_length]; rfl) P8 bq (by rw [byN_length]; exact nq) (by rw [byN_length]; omega) wa (Kept.trans K8 Kq) (Kept.trans K8 Kq).size ?_; intro x9 w9 O9 K9))
  replace O9 : Own w9 wa.heap.size x9 (headP v 9) := own_app O9 E8.out
  clear O8 P8 d8 K8 Oq Kq bq nq
  clear c8 E8 L8
  have d9 : w9.cell? ⟨w.heap.size, 9, none⟩ = some (.int .i64 v9) := Kept.cell K9 c9
  go_wp2_with (first
    | (go_at_call 44; refine (hB8 _ _).mono ?_; rintro e wq ⟨xq, rfl, Oq, Kq⟩; obtain ⟨Aq, Cq, rfl, _, bq, nq⟩ := Oq.let (byN_length _ _); have P9 := own_keep O9 Kq)
    | (at_builtin; refine wpList_append_byt rfl _ _ rfl wa.heap.size x9 (headP v 9) (byN (uOf v9) 8) Aq Cq rfl (by rw [byN_length]; rfl) P9 bq (by rw [byN_length]; exact nq) (by rw [byN_length]; omega) wa (Kept.trans K9 Kq) (Kept.trans K9 Kq).size ?_; intro x10 w10 O10 K10))
  replace O10 : Own w10 wa.heap.size x10 (headP v 10) := own_app O10 E9.out
  clear O9 P9 d9 K9 Oq Kq bq nq
  rw [headP_ten HV.out] at O10
  go_ret
  exact ⟨_, rfl, own_base O10 hsa, Kept.trans kA K10⟩

set_option maxHeartbeats 1600000 in
theorem rwrite_walk (v0 v1 v2 v3 v4 v5 v6 v7 v8 v9 : Int) (v : List Int) (w : World) (hv : v = [v0, v1, v2, v3, v4, v5, v6, v7, v8, v9]) :
    Calls Try.prog 20 #[headW' v0 v1 v2 v3 v4 v5 v6 v7 v8 v9] w fun e w' => ∃ x, e = .returned (.tuple #[x, .int .i64 (wrE v)]) ∧ Own w' w.heap.size x (wrL v) ∧ Kept w w' := by
  have H1 := HBx.new w v0 v1 v2 v3 v4 v5 v6 v7 v8 v9
  obtain ⟨wa, hwa⟩ : ∃ wa, w.alloc (headO v0 v1 v2 v3 v4 v5 v6 v7 v8 v9) = wa := ⟨_, rfl⟩
  rw [hwa] at H1
  have kA : Kept w wa := by rw [← hwa]; exact Kept.alloc _ _
  have hM := fun w => rmayHead_walk v0 v1 v2 v3 v4 v5 v6 v7 v8 v9 v w hv
  have hB := fun w => rbytes_walk v0 v1 v2 v3 v4 v5 v6 v7 v8 v9 v w hv
  obtain ⟨E, hE⟩ : ∃ E, wrE v = E := ⟨_, rfl⟩
  obtain ⟨L, hL⟩ : ∃ L, wrL v = L := ⟨_, rfl⟩
  rw [hE, hL]
  have c0 := (H1 0 (by decide)).1
  have c1 := (H1 1 (by decide)).1
  have c2 := (H1 2 (by decide)).1
  have c3 := (H1 3 (by decide)).1
  have c4 := (H1 4 (by decide)).1
  have c5 := (H1 5 (by decide)).1
  have c6 := (H1 6 (by decide)).1
  have c7 := (H1 7 (by decide)).1
  have c8 := (H1 8 (by decide)).1
  have c9 := (H1 9 (by decide)).1
  simp only [List.getD_cons_zero, List.getD_cons_succ] at c0 c1 c2 c3 c4 c5 c6 c7 c8 c9
  clear H1 hv
  cases hb : headB v with
  | false =>
    rw [hb] at hM
    obtain rfl : E = 2 := by rw [← hE, (wr_no hb).1]
    have HL : Hid (L = []) := by unfold Hid; rw [← hL, (wr_no hb).2]
    clear hb hE hL hB
    go_enter Try.func20, Try.ntmps20
    go_wp2_with (go_at_call 34; refine (hM _).mono ?_; rintro e w1 ⟨rfl, K1⟩)
    go_ret2
    exact ⟨_, rfl, by rw [HL.out]; exact Own.nil _ _, kA.trans K1⟩
  | true =>
    rw [hb] at hM
    obtain rfl : E = 0 := by rw [← hE, (wr_yes hb).1]
    have HL : Hid (L = headL v) := by unfold Hid; rw [← hL, (wr_yes hb).2]
    have hsa : w.heap.size ≤ wa.heap.size := kA.size
    clear hb hE hL
    go_enter Try.func20, Try.ntmps20
    go_wp2_with (first
      | (go_at_call 34; refine (hM _).mono ?_; rintro e w1 ⟨rfl, K1⟩; have d0 : w1.cell? ⟨w.heap.size, 0, none⟩ = some (.int .i64 v0) := K1.cell c0; have d1 : w1.cell? ⟨w.heap.size, 1, none⟩ = some (.int .i64 v1) := K1.cell c1; have d2 : w1.cell? ⟨w.heap.size, 2, none⟩ = some (.int .i64 v2) := K1.cell c2; have d3 : w1.cell? ⟨w.heap.size, 3, none⟩ = some (.int .i64 v3) := K1.cell c3; have d4 : w1.cell? ⟨w.heap.size, 4, none⟩ = some (.int .i64 v4) := K1.cell c4; have d5 : w1.cell? ⟨w.heap.size, 5, none⟩ = some (.int .i64 v5) := K1.cell c5; have d6 : w1.cell? ⟨w.heap.size, 6, none⟩ = some (.int .i64 v6) := K1.cell c6; have d7 : w1.cell? ⟨w.heap.size, 7, none⟩ = some (.int .i64 v7) := K1.cell c7; have d8 : w1.cell? ⟨w.heap.size, 8, none⟩ = some (.int .i64 v8) := K1.cell c8; have d9 : w1.cell? ⟨w.heap.size, 9, none⟩ = some (.int .i64 v9) := K1.cell c9; clear c0 c1 c2 c3 c4 c5 c6 c7 c8 c9)
      | (go_at_call 35; refine (hB _).mono ?_; rintro e w2 ⟨x2, rfl, O2, K2⟩))
    go_ret2
    exact ⟨_, rfl, by rw [HL.out]; exact own_base O2 (Nat.le_trans hsa K1.size), (kA.trans K1).trans K2⟩
end Go.Proofs.Ytdjokhokiklamaa
