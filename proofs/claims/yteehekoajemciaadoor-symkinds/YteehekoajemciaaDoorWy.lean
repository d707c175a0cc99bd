/- What Write gives. -/
import Derived.Test.YteehekoajemciaaDoorNs
import Derived.Test.YteehekoajemciaaDoorPu
namespace Go.Proofs.YteehekoajemciaaDoor
open Go.RowKit

theorem ix6 (n0 n1 n2 n3 n4 n5 : Int) (k : Nat) (hk : k < 6) (w : World) : (Instr.index 44 (numsW n0 n1 n2 n3 n4 n5) (.int .i64 (k : Int))).run Tryd.prog w = .ok (.int .i64 ([n0, n1, n2, n3, n4, n5].getD k 0)) w := by
  rcases (show k = 0 ∨ k = 1 ∨ k = 2 ∨ k = 3 ∨ k = 4 ∨ k = 5 by omega) with rfl | rfl | rfl | rfl | rfl | rfl <;> kernel_rfl
theorem hmk24 (w : World) : (Instr.makeSlice 26 (.int .i64 0) (.int .i64 24)).run Tryd.prog w = .ok (.slice (some ⟨w.heap.size, 0, none⟩) 0 24) (w.alloc (.cells (Array.replicate 24 (.int .u8 0)) 5)) := by kernel_rfl
theorem own_made24 (w : World) : Own (w.alloc (.cells (Array.replicate 24 (.int .u8 0)) 5)) w.heap.size (.slice (some ⟨w.heap.size, 0, none⟩) 0 24) [] :=
  ⟨rfl, .inr ⟨w.heap.size, 24, _, rfl, Nat.le_refl _, heap_alloc_new w _, Nat.zero_le _, by decide, by simp, by simp⟩⟩
theorem Tab.grown {w w' : World} {g : Nat} (h : Tab w) (hg : w.grownBy w' (some g)) (hb : 0 ≠ g) : Tab w' := fun i hi => grown_cell hg (h i hi) hb
theorem Tab.lt {w : World} (h : Tab w) : 0 < w.heap.size := block_lt_of_cell (h 0 (by decide))

/-- While the numbers are gone through. -/
structure YSt (w : World) (v : List Int) (k : Nat) (x : Value) (wr : World) : Prop where
  own : ∃ g cap len, x = .slice (some ⟨g, 0, none⟩) len cap ∧ (symP v k).length = len ∧ Own wr w.heap.size (.slice (some ⟨g, 0, none⟩) len cap) (symP v k)
  tab : Tab wr
  kept : Kept w wr

set_option maxRecDepth 20000 in
set_option maxHeartbeats 3200000 in
theorem ywrite_walk (s : ByteArray) (bind : Int) (hid : Bool) (wh val sz name : Int) (w : World) (hT : Tab w) (hs : s.size ≤ maxLen) (hb : 0 ≤ bind) :
    Calls Tryd.prog 10 #[symW s bind hid wh val sz, .int .i64 name] w fun e w' => ∃ x, e = .returned (.tuple #[x, .int .i64 (wyE (nm s) bind hid wh val sz name)]) ∧ Own w' w.heap.size x (wyL (nm s) bind hid wh val sz name) ∧ Kept w w' := by
  have B1 := SBx.new w s bind hid wh val sz
  obtain ⟨wa, hwa⟩ : ∃ wa, w.alloc (symO s bind hid wh val sz) = wa := ⟨_, rfl⟩
  rw [hwa] at B1
  have kA : Kept w wa := by rw [← hwa]; exact Kept.alloc _ _
  have B1' := B1
  obtain ⟨c0, c1, c2, c3, c4, c5, _, _, _, _, _, _⟩ := B1'
  have hC := fun w => ycheck_walk s bind hid wh val sz 16 w hs hb
  rw [chkY_in (by decide) (by decide)] at hC
  have HT := hT.lt
  cases hok : okY (nm s) bind hid wh val sz 16 with
  | false =>
    rw [hok] at hC
    rw [(wy_bad hok).1, (wy_bad hok).2]
    clear hok
    go_enter Tryd.func10, Tryd.ntmps10
    go_wp2_with (go_at_call 9; refine (hC _).mono ?_; rintro e w1 ⟨rfl, k1⟩)
    go_ret2
    exact ⟨_, rfl, Own.nil _ _, kA.trans k1⟩
  | true =>
    rw [hok] at hC
    by_cases hn0 : name < 0
    · rw [(wy_arg hok (.inl hn0)).1, (wy_arg hok (.inl hn0)).2]
      have d0 : decide (name < 0) = true := decide_eq_true hn0
      clear hok
      go_enter Tryd.func10, Tryd.ntmps10
      go_wp2_with (go_at_call 9; refine (hC _).mono ?_; rintro e w1 ⟨rfl, k1⟩)
      go_ret2
      exact ⟨_, rfl, Own.nil _ _, kA.trans k1⟩
    have d0 : decide (name < 0) = false := decide_eq_false hn0
    by_cases hn1 : 65536 ≤ name
    · rw [(wy_arg hok (.inr (by omega))).1, (wy_arg hok (.inr (by omega))).2]
      have d1 : decide (65536 ≤ name) = true := decide_eq_true hn1
      clear hok
      go_enter Tryd.func10, Tryd.ntmps10
      go_wp2_with (go_at_call 9; refine (hC _).mono ?_; rintro e w1 ⟨rfl, k1⟩)
      go_ret2
      exact ⟨_, rfl, Own.nil _ _, kA.trans k1⟩
    have d1 : decide (65536 ≤ name) = false := decide_eq_false hn1
    have hw0 := wy_ok hok (show 0 ≤ name by omega) (show name ≤ 65535 by omega)
    rw [hw0.1, hw0.2]
    have hst := (okY_has hok).2
    have hH := stands_has hst
    have hNo := fun w => numbersOf_walk s bind hid wh val sz name w hb (by omega) hH.2.2.1
    have hv6 := symN_length name bind hid wh val sz
    have HM : Hid (∀ k, k < 6 → mayB ((symN name bind hid wh val sz).getD k 0) ((symS.getD k 0 : Nat) : Int) = true) := fun k hk => symN_may (by omega) hst hk
    have HR : Hid (∀ k, k < 6 → -9223372036854775808 ≤ (symN name bind hid wh val sz).getD k 0 ∧ (symN name bind hid wh val sz).getD k 0 ≤ 9223372036854775807) := fun k hk => symN_range (by omega) hst hk
    have HL : Hid (symL name bind hid wh val sz = putAll (symS.zip (symN name bind hid wh val sz))) := rfl
    have hIx := ix6 name (16 * bind) (hidN hid) (wU wh) val sz
    obtain ⟨v, hv⟩ : ∃ v, symN name bind hid wh val sz = v := ⟨_, rfl⟩
    have hv' : [name, 16 * bind, hidN hid, wU wh, val, sz] = v := hv
    rw [hv'] at hIx
    rw [hv] at hv6
    replace HM : Hid (∀ k, k < 6 → mayB (v.getD k 0) ((symS.getD k 0 : Nat) : Int) = true) := by rw [← hv]; exact HM
    replace HR : Hid (∀ k, k < 6 → -9223372036854775808 ≤ v.getD k 0 ∧ v.getD k 0 ≤ 9223372036854775807) := by rw [← hv]; exact HR
    replace HL : Hid (symL name bind hid wh val sz = symP v 6) := by unfold Hid; rw [HL.out, hv, symP_six hv6]
    have HV : Hid (v.length = 6) := hv6
    obtain ⟨N1, hN1⟩ : ∃ n, 16 * bind = n := ⟨_, rfl⟩
    obtain ⟨N2, hN2⟩ : ∃ n, hidN hid = n := ⟨_, rfl⟩
    obtain ⟨N3, hN3⟩ : ∃ n, wU wh = n := ⟨_, rfl⟩
    rw [hN1, hN2, hN3] at hNo hIx
    clear hok hw0 hst hH hv hv' hv6 hN1 hN2 hN3
    go_enter Tryd.func10, Tryd.ntmps10
    go_upto_region 6 with (go_at_call 9; refine (hC _).mono ?_; rintro e w1 ⟨rfl, k1⟩)
    have B2 := B1.kept k1
    have K1 := kA.trans k1
    have O1 := own_made24 w1
    have hm := hmk24 w1
    have k2 : Kept w1 (w1.alloc (.cells (Array.replicate 24 (.int .u8 0)) 5)) := Kept.alloc _ _
    obtain ⟨w2, hw2⟩ : ∃ w2, w1.alloc (.cells (Array.replicate 24 (.int .u8 0)) 5) = w2 := ⟨_, rfl⟩
    rw [hw2] at O1 hm k2
    have K2 := K1.trans k2
    clear c0 c1 c2 c3 c4 c5 hC hw2
    obtain ⟨c0, c1, c2, c3, c4, c5, _, _, _, _, _, _⟩ := B2.kept k2
    have hs1 := K1.size
    obtain ⟨b1, hb1⟩ : ∃ b, w1.heap.size = b := ⟨_, rfl⟩
    rw [hb1] at O1 hm hs1
    clear hb1
    go_upto_region 8 with (go_at_call 19; refine (hNo _).mono ?_; rintro e w3 ⟨rfl, k3⟩)
    have S0 : YSt w v 0 (.slice (some ⟨b1, 0, none⟩) 0 24) w3 :=
      ⟨⟨_, _, 0, rfl, rfl, own_keep (own_base O1 hs1) k3⟩, hT.kept (K2.trans k3), K2.trans k3⟩
    clear c0 c1 c2 c3 c4 c5 hNo B1 B2 O1 hm K1 K2 k1 k2 k3 kA hwa hT
    go_loopw [7, 27] (fun x i wr => ∃ k : Nat, k ≤ 6 ∧ i = .int .i64 k ∧ YSt w v k x wr) (fun _ i _ => 6 - (intOf i).toNat)
    case atStart => exact ⟨0, Nat.zero_le _, rfl, S0⟩
    case round =>
      obtain ⟨k, hk, rfl, S⟩ := hrel
      clear S0
      by_cases hlt : k < 6
      · have t0 := S.tab k hlt
        have hI := hIx k hlt
        have hmb := HM.out k hlt
        obtain ⟨hn0, hn1⟩ := HR.out k hlt
        have hss := symS_at k hlt
        obtain ⟨n, hn⟩ : ∃ n, v.getD k 0 = n := ⟨_, rfl⟩
        obtain ⟨z, hz⟩ : ∃ z, symS.getD k 0 = z := ⟨_, rfl⟩
        rw [hn] at hI hmb hn0 hn1
        rw [hz] at t0 hmb hss
        have HE : Hid (symP v (k + 1) = symP v k ++ byN (uOf n) z) := by unfold Hid; rw [symP_succ HV.out hlt, hn, hz]
        have hP := fun w => put_yes n z w hn0 hn1 (mayB_sz hmb) hmb
        obtain ⟨g, cap, len, rfl, hlen, hO⟩ := S.own
        have hle := symP_le HV.out k hk
        have HLn : Hid ((symP v k).length = len) := hlen
        have hpos : 0 < z := by omega
        have hsl : len + z ≤ 10000000 := by omega
        clear hmb hlen hle hn hz hss hIx
        go_upto_region 13 with (go_at_call 20; refine (hP _).mono ?_; rintro e w4 ⟨x2, rfl, hO2, hk2⟩; obtain ⟨A2, C2, rfl, _, hb2, _⟩ := hO2.let (byN_length _ _); have hO' := own_keep hO hk2)
        have T2 := S.tab.kept hk2
        have W2 := S.kept.trans hk2
        have hsz2 : w.heap.size ≤ w4.heap.size := W2.size
        have hgw := (hO'.lt g rfl).1
        clear hP hO hk2 hO2 t0 hI
        go_wp2_with (at_builtin; refine wpList_append_bytL rfl _ _ rfl w.heap.size g len cap (symP v k) (byN (uOf n) z) A2 z C2 HLn.out (byN_length _ _) rfl rfl hO' hb2 hpos hsl hsz2 ?_; intro g3 c3 w5 hO3 hg3 hor)
        have S' : YSt w v (k + 1) (.slice (some ⟨g3, 0, none⟩) (len + z) c3) w5 := by
          refine ⟨⟨g3, c3, len + z, rfl, ?_, ?_⟩, T2.grown hg3 (by omega), ?_⟩
          · rw [HE.out, List.length_append, byN_length, HLn.out]
          · rw [HE.out]; exact hO3
          · exact W2.grown hg3 hsz2 (fun j ej => by cases ej; exact hgw)
        clear T2 W2 hO' hO3 hg3 S
        go_wp2
        go_roundw
        case rel => exact ⟨k + 1, by omega, by go_num, S'⟩
        case measure => simp [intOf]; omega
      · obtain rfl : k = 6 := by omega
        obtain ⟨g, cap, len, rfl, _, hO⟩ := S.own
        have hK := S.kept
        clear S
        go_wp2
        go_ret2
        exact ⟨_, rfl, by rw [HL.out]; exact hO, hK⟩
end Go.Proofs.YteehekoajemciaaDoor
