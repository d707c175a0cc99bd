/- What Write gives. -/
import Derived.Test.YtbfmichhpcaamaaDoorXc
import Derived.Test.YtbfmichhpcaamaaDoorPu
import Derived.Deep.DeepCutAuto
namespace Go.Proofs.YtbfmichhpcaamaaDoor
open Go.RowKit

abbrev numsX (n0 n1 n2 n3 : Int) : Value := .agg #[.int .i64 n0, .int .i64 n1, .int .i64 n2, .int .i64 n3]
theorem ix4 (n0 n1 n2 n3 : Int) (k : Nat) (hk : k < 4) (w : World) : (Instr.index 55 (numsX n0 n1 n2 n3) (.int .i64 (k : Int))).run Tryd.prog w = .ok (.int .i64 ([n0, n1, n2, n3].getD k 0)) w := by
  rcases (show k = 0 ∨ k = 1 ∨ k = 2 ∨ k = 3 by omega) with rfl | rfl | rfl | rfl <;> kernel_rfl
theorem hmkX (w : World) : (Instr.makeSlice 33 (.int .i64 0) (.int .i64 24)).run Tryd.prog w = .ok (.slice (some ⟨w.heap.size, 0, none⟩) 0 24) (w.alloc (.cells (Array.replicate 24 (.int .u8 0)) 5)) := by kernel_rfl
theorem own_madeX (w : World) : Own (w.alloc (.cells (Array.replicate 24 (.int .u8 0)) 5)) w.heap.size (.slice (some ⟨w.heap.size, 0, none⟩) 0 24) [] :=
  ⟨rfl, .inr ⟨w.heap.size, 24, _, rfl, Nat.le_refl _, heap_alloc_new w _, Nat.zero_le _, by decide, by simp, by simp⟩⟩
theorem ownX_keep {w w' : World} {base : Nat} {x : Value} {l : List Int} (h : Own w base x l) (k : Kept w w') : Own w' base x l := h.kept k fun g e => (h.lt g e).2

/-- While the numbers are gone through. -/
structure XSt (w : World) (v : List Int) (k : Nat) (x : Value) (wr : World) : Prop where
  own : ∃ g cap len, x = .slice (some ⟨g, 0, none⟩) len cap ∧ (relP v k).length = len ∧ Own wr w.heap.size (.slice (some ⟨g, 0, none⟩) len cap) (relP v k)
  tab : TabX wr
  kept : Kept w wr

set_option maxRecDepth 20000 in
set_option maxHeartbeats 3200000 in
theorem xwrite_walk (sec off ty sy ad : Int) (w : World) (hT : TabX w) (h0 : 0 ≤ ty) (h1 : ty < 256) :
    Calls Tryd.prog 15 #[relW sec off ty sy ad] w fun e w' => ∃ x, e = .returned (.tuple #[x, .int .i64 (wxE off ty sy ad)]) ∧ Own w' w.heap.size x (wxL off ty sy ad) ∧ Kept w w' := by
  obtain ⟨wa, hwa, B1, kA, sA⟩ := box_rela w sec off ty sy ad
  have B1' := B1
  obtain ⟨c0, c1, c2, c3, c4, _, _, _, _, _⟩ := B1'
  have hC := fun w => hasBytes_walk sec off ty sy ad w
  have HT := hT.lt
  cases hok : codX off ty sy ad with
  | false =>
    rw [hok] at hC
    rw [(wx_no hok).1, (wx_no hok).2]
    clear hok
    go_enter Tryd.func15, Tryd.ntmps15
    go_wp2_with (go_at_call 26; refine (hC _).mono ?_; rintro e w1 ⟨rfl, k1⟩)
    go_ret2
    exact ⟨_, rfl, Own.nil _ _, kA.trans k1⟩
  | true =>
    rw [hok] at hC
    rw [(wx_ok hok).1, (wx_ok hok).2]
    have HM : Hid (∀ k, k < 4 → mayB ((relN off ty sy ad).getD k 0) ((relS.getD k 0 : Nat) : Int) = true) := fun k hk => relN_may hok hk
    have HR : Hid (∀ k, k < 4 → -9223372036854775808 ≤ (relN off ty sy ad).getD k 0 ∧ (relN off ty sy ad).getD k 0 ≤ 9223372036854775807) := fun k hk => relN_range hok hk
    have hIx : ∀ k : Nat, k < 4 → ∀ w, (Instr.index 55 (numsX off ty (sy + 1) ad) (.int .i64 (k : Int))).run Tryd.prog w = .ok (.int .i64 ((relN off ty sy ad).getD k 0)) w := fun k hk w => ix4 _ _ _ _ k hk w
    obtain ⟨_, hof, hsy, had⟩ := codX_has hok
    have hv4 := relN_length off ty sy ad
    have HL : Hid (relL off ty sy ad = relP (relN off ty sy ad) 4) := (relP_four hv4).symm
    obtain ⟨v, hv⟩ : ∃ v, relN off ty sy ad = v := ⟨_, rfl⟩
    rw [hv] at HM HR hIx HL hv4
    have HV : Hid (v.length = 4) := hv4
    clear hok hv hv4
    go_enter Tryd.func15, Tryd.ntmps15
    go_upto_region 3 with (go_at_call 26; refine (hC _).mono ?_; rintro e w1 ⟨rfl, k1⟩)
    have K1 := kA.trans k1
    have hm := hmkX w1
    have O1 := own_madeX w1
    have k2 : Kept w1 (w1.alloc (.cells (Array.replicate 24 (.int .u8 0)) 5)) := Kept.alloc _ _
    obtain ⟨w2, hw2⟩ : ∃ w2, w1.alloc (.cells (Array.replicate 24 (.int .u8 0)) 5) = w2 := ⟨_, rfl⟩
    rw [hw2] at hm O1 k2
    have B2 := B1.kept k1
    have K2 := K1.trans k2
    clear c0 c1 c2 c3 c4 hC hw2
    obtain ⟨c0, c1, c2, c3, c4, _, _, _, _, _⟩ := B2.kept k2
    have hs1 := K1.size
    obtain ⟨b1, hb1⟩ : ∃ b, w1.heap.size = b := ⟨_, rfl⟩
    rw [hb1] at O1 hm hs1
    clear hb1
    have S0 : XSt w v 0 (.slice (some ⟨b1, 0, none⟩) 0 24) w2 :=
      ⟨⟨_, _, 0, rfl, rfl, own_base O1 hs1⟩, hT.kept K2, K2⟩
    go_upto_region 5 with fail
    clear c0 c1 c2 c3 c4 B1 B2 O1 hm K1 K2 k1 k2 kA hwa hT
    go_loopw [4, 24] (fun x i wr => ∃ k : Nat, k ≤ 4 ∧ i = .int .i64 k ∧ XSt w v k x wr) (fun _ i _ => 4 - (intOf i).toNat)
    case atStart => exact ⟨0, Nat.zero_le _, rfl, S0⟩
    case round =>
      obtain ⟨k, hk, rfl, S⟩ := hrel
      clear S0
      by_cases hlt : k < 4
      · have t0 := S.tab k hlt
        have hI := hIx k hlt
        have hmb := HM.out k hlt
        obtain ⟨hn0, hn1⟩ := HR.out k hlt
        have hss := relS_at k hlt
        obtain ⟨n, hn⟩ : ∃ n, v.getD k 0 = n := ⟨_, rfl⟩
        obtain ⟨z, hz⟩ : ∃ z, relS.getD k 0 = z := ⟨_, rfl⟩
        rw [hn] at hI hmb hn0 hn1
        rw [hz] at t0 hmb hss
        have HE : Hid (relP v (k + 1) = relP v k ++ byN (uOf n) z) := by unfold Hid; rw [relP_succ HV.out hlt, hn, hz]
        have hP := fun w => put_yes n z w hn0 hn1 (mayB_sz hmb) hmb
        obtain ⟨g, cap, len, rfl, hlen, hO⟩ := S.own
        have hle := relP_le HV.out k hk
        have HLn : Hid ((relP v k).length = len) := hlen
        have hpos : 0 < z := by omega
        have hsl : len + z ≤ 10000000 := by omega
        clear hmb hlen hle hn hz hss hIx
        go_upto_region 10 with (go_at_call 27; refine (hP _).mono ?_; rintro e w4 ⟨x2, rfl, hO2, hk2⟩; obtain ⟨A2, C2, rfl, _, hb2, _⟩ := hO2.let (byN_length _ _); have hO' := ownX_keep hO hk2)
        have T2 := S.tab.kept hk2
        have W2 := S.kept.trans hk2
        have hsz2 : w.heap.size ≤ w4.heap.size := W2.size
        have hgw := (hO'.lt g rfl).1
        clear hP hO hk2 hO2 t0 hI
        go_wp2_with (at_builtin; refine wpList_append_bytL rfl _ _ rfl w.heap.size g len cap (relP v k) (byN (uOf n) z) A2 z C2 HLn.out (byN_length _ _) rfl rfl hO' hb2 hpos hsl hsz2 ?_; intro g3 c3 w5 hO3 hg3 hor)
        have S' : XSt w v (k + 1) (.slice (some ⟨g3, 0, none⟩) (len + z) c3) w5 := by
          refine ⟨⟨g3, c3, len + z, rfl, ?_, ?_⟩, T2.grown hg3 (by omega), ?_⟩
          · rw [HE.out, List.length_append, byN_length, HLn.out]
          · rw [HE.out]; exact hO3
          · exact W2.grown hg3 hsz2 (fun j ej => by cases ej; exact hgw)
        clear T2 W2 hO' hO3 hg3 S
        go_wp2
        go_roundw
        case rel => exact ⟨k + 1, by omega, by go_num, S'⟩
        case measure => simp [intOf]; omega
      · obtain rfl : k = 4 := by omega
        obtain ⟨g, cap, len, rfl, _, hO⟩ := S.own
        have hK := S.kept
        clear S
        go_wp2
        go_ret2
        exact ⟨_, rfl, by rw [HL.out]; exact hO, hK⟩
end Go.Proofs.YtbfmichhpcaamaaDoor
