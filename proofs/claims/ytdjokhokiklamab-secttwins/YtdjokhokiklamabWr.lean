/- What Write gives. -/
import Derived.Test.YtdjokhokiklamabHb
import Derived.Deep.RegionWith
namespace Go.Proofs.Ytdjokhokiklamab
open Go.RowKit

/-- While the fields are gone through. -/
structure WSt (w : World) (b f : Nat) (v : List Int) (k : Nat) (x : Value) (wr : World) : Prop where
  own : ∃ g cap len, x = .slice (some ⟨g, 0, none⟩) len cap ∧ (headP v k).length = len ∧ g ≠ b ∧ g ≠ f ∧ Own wr w.heap.size (.slice (some ⟨g, 0, none⟩) len cap) (headP v k)
  fld : Fld wr f b
  box : HBx wr b v
  kept : Kept w wr
  all : ∀ j, j < k → okF (headS.getD j 0) (v.getD j 0) = true

theorem hmk (w : World) : (Instr.makeSlice 22 (.int .i64 0) (.int .i64 64)).run Try.prog w = .ok (.slice (some ⟨w.heap.size, 0, none⟩) 0 64) (w.alloc (.cells (Array.replicate 64 (.int .u8 0)) 5)) := by kernel_rfl

theorem own_keep {w w' : World} {base : Nat} {x : Value} {l : List Int} (h : Own w base x l) (k : Kept w w') : Own w' base x l := h.kept k fun g e => (h.lt g e).2

set_option maxRecDepth 20000 in
set_option maxHeartbeats 3200000 in
theorem write_walk (v0 v1 v2 v3 v4 v5 v6 v7 v8 v9 : Int) (v : List Int) (w : World) (hv : v = [v0, v1, v2, v3, v4, v5, v6, v7, v8, v9]) (hr : ∀ n ∈ v, -9223372036854775808 ≤ n ∧ n ≤ 9223372036854775807) :
    Calls Try.prog 7 #[headW' v0 v1 v2 v3 v4 v5 v6 v7 v8 v9] w fun e w' => ∃ x, e = .returned (.tuple #[x, .int .i64 (wrE v)]) ∧ Own w' w.heap.size x (wrL v) ∧ Kept w w' := by
  have H1 := HBx.new w v0 v1 v2 v3 v4 v5 v6 v7 v8 v9
  rw [← hv] at H1
  have hv10 : v.length = 10 := by rw [hv]; rfl
  have HV : Hid (v.length = 10) := hv10
  obtain ⟨wa, hwa⟩ : ∃ wa, w.alloc (headO v0 v1 v2 v3 v4 v5 v6 v7 v8 v9) = wa := ⟨_, rfl⟩
  rw [hwa] at H1
  have kA : Kept w wa := by rw [← hwa]; exact Kept.alloc _ _
  have sA : wa.heap.size = w.heap.size + 1 := by rw [← hwa]; simp
  have O1 := own_made wa
  have hm := hmk wa
  obtain ⟨wb, hwb⟩ : ∃ wb, wa.alloc (.cells (Array.replicate 64 (.int .u8 0)) 5) = wb := ⟨_, rfl⟩
  rw [hwb] at O1 hm
  have kB : Kept wa wb := by rw [← hwb]; exact Kept.alloc _ _
  have sB : wb.heap.size = w.heap.size + 2 := by rw [← hwb]; simp [sA]
  have hF := fields_walk w.heap.size wb
  rw [sA] at O1 hm
  rw [sB] at hF
  clear hv hv10
  go_enter Try.func7, Try.ntmps7
  go_wp2_with (go_at_call 11; refine hF.mono ?_; rintro e wc ⟨rfl, hfl, kC⟩)
  have S0 : WSt w w.heap.size (w.heap.size + 2) v 0 (.slice (some ⟨w.heap.size + 1, 0, none⟩) 0 64) wc :=
    ⟨⟨_, _, 0, rfl, rfl, by omega, by omega, own_keep (own_base O1 (by omega)) kC⟩, hfl, (H1.kept kB).kept kC, (kA.trans kB).trans kC, fun j hj => absurd hj (Nat.not_lt_zero _)⟩
  clear H1 hwa kA sA O1 hm hwb kB sB hF kC hfl
  go_loopw [4, 12] (fun x i wr => ∃ k : Nat, k ≤ 10 ∧ i = .int .i64 k ∧ WSt w w.heap.size (w.heap.size + 2) v k x wr) (fun _ i _ => 10 - (intOf i).toNat)
  case atStart => exact ⟨0, Nat.zero_le _, rfl, S0⟩
  case round =>
    obtain ⟨k, hk, rfl, S⟩ := hrel
    clear S0
    by_cases hlt : k < 10
    · obtain ⟨p0, p1⟩ := S.fld k hlt
      have c0 := (S.box k hlt).1
      have hs := headS_at k hlt
      obtain ⟨n, hn⟩ : ∃ n, v.getD k 0 = n := ⟨_, rfl⟩
      obtain ⟨s, hse⟩ : ∃ s, headS.getD k 0 = s := ⟨_, rfl⟩
      have hnr : -9223372036854775808 ≤ n ∧ n ≤ 9223372036854775807 := hr n (by
        have hl : k < v.length := by rw [HV.out]; exact hlt
        rw [← hn, List.getD, List.getElem?_eq_getElem hl]
        exact List.getElem_mem hl)
      obtain ⟨hn0, hn1⟩ := hnr
      rw [hn] at c0
      rw [hse] at p1 hs
      have HN : Hid (v.getD k 0 = n) := hn
      have HS : Hid (headS.getD k 0 = s) := hse
      have hlt' := S.box.lt
      clear hn hse hr
      by_cases hneg : n < 0
      · have HB : Hid (wrE v = 2 ∧ wrL v = []) := wr_no (headB_no hlt (by rw [HN.out]; exact okF_neg hneg))
        have d : decide (n < 0) = true := decide_eq_true hneg
        go_wp2
        go_ret2
        exact ⟨_, by rw [HB.out.1]; rfl, by rw [HB.out.2]; exact Own.nil _ _, S.kept.trans (Kept.alloc _ _)⟩
      · have d : decide (n < 0) = false := decide_eq_false hneg
        have hok := okF_may (s := s) hs (show 0 ≤ n by omega)
        cases hm : mayB n (s : Int) with
        | false =>
          have HB : Hid (wrE v = 2 ∧ wrL v = []) := wr_no (headB_no hlt (by rw [HN.out, HS.out, hok, hm]))
          have hP := fun w => put_no n (s : Int) w hn0 hn1 hm
          clear hok hm hs
          go_upto_region 7 with fail
          go_region_with (go_at_call 12; refine (hP _).mono ?_; rintro e w2 ⟨rfl, hw2⟩; have hw3 := hw2.symm; subst hw3; clear hw2)
          all_goals
            go_wp2
            go_ret2
            exact ⟨_, by rw [HB.out.1]; rfl, by rw [HB.out.2]; exact Own.nil _ _, (S.kept.trans (Kept.alloc _ _)).trans (kept_drew _)⟩
        | true =>
          have hP := fun w => put_yes n s w hn0 hn1 (mayB_sz hm) hm
          have HK : Hid (okF s n = true) := by unfold Hid; rw [hok, hm]
          obtain ⟨g, cap, len, rfl, hlen, hgb, hgf, hO⟩ := S.own
          have hle := headP_le HV.out k hk
          have HL : Hid ((headP v k).length = len) := hlen
          have hpos : 0 < s := by omega
          have hsl : len + s ≤ 10000000 := by omega
          have hf := block_lt_of_cell p0
          clear hok hm hlen hle
          go_upto_region 7 with fail
          go_region_with (go_at_call 12; refine (hP _).mono ?_; rintro e w2 ⟨x2, rfl, hO2, hk2⟩; obtain ⟨A2, C2, rfl, _, hb2, _⟩ := hO2.let (byN_length _ _); have K2 := ((Kept.alloc wr _).trans (kept_drew _)).trans hk2; have hO' := own_keep hO K2)
          all_goals
            have F2 := S.fld.kept K2
            have B2 := S.box.kept K2
            have W2 := S.kept.trans K2
            have hsz2 : w.heap.size ≤ w2.heap.size := W2.size
            have l1 : w.heap.size < w2.heap.size := B2.lt
            have l2 : w.heap.size + 2 < w2.heap.size := Nat.lt_of_lt_of_le hf K2.size
            have hgw := (hO'.lt g rfl).1
            clear hP hO hk2 hO2
            go_wp2_with (at_builtin; refine wpList_append_bytL rfl _ _ rfl w.heap.size g len cap (headP v k) (byN (uOf n) s) A2 s C2 HL.out (byN_length _ _) rfl rfl hO' hb2 hpos hsl hsz2 ?_; intro g3 c3 w3 hO3 hg3 hor)
            have S' : WSt w w.heap.size (w.heap.size + 2) v (k + 1) (.slice (some ⟨g3, 0, none⟩) (len + s) c3) w3 := by
              have e : headP v (k + 1) = headP v k ++ byN (uOf n) s := by rw [headP_succ HV.out hlt, HN.out, HS.out]
              refine ⟨⟨g3, c3, len + s, rfl, ?_, ?_, ?_, ?_⟩, F2.grown hg3 (Ne.symm hgf), B2.grown hg3 (Ne.symm hgb), ?_, ?_⟩
              · rw [e, List.length_append, byN_length, HL.out]
              · rcases hor with rfl | rfl <;> omega
              · rcases hor with rfl | rfl <;> omega
              · rw [e]; exact hO3
              · exact W2.grown hg3 hsz2 (fun j ej => by cases ej; exact hgw)
              · intro j hj
                by_cases ej : j = k
                · subst ej; rw [HN.out, HS.out]; exact HK.out
                · exact S.all j (by omega)
            clear F2 B2 W2 hO' hO3 hg3 S
            go_wp2
            go_roundw
            case rel => exact ⟨k + 1, by omega, by go_num, S'⟩
            case measure => simp [intOf]; omega
    · obtain rfl : k = 10 := by omega
      have hb := headB_mk HV.out S.all
      have HB : Hid (wrE v = 0 ∧ wrL v = headL v) := wr_yes hb
      obtain ⟨g, cap, len, rfl, _, _, _, hO⟩ := S.own
      rw [headP_ten HV.out] at hO
      clear hb
      go_wp2
      go_ret2
      exact ⟨_, by rw [HB.out.1]; rfl, by rw [HB.out.2]; exact hO, S.kept⟩
end Go.Proofs.Ytdjokhokiklamab
