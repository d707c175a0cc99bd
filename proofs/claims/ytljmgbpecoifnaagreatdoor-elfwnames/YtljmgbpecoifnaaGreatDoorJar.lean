/- What Write gives. How the relocations are put: the program's. Appends within the capacity: of a string, and of noughts that are made. The file's head: the program's. -/
import Derived.Test.YtljmgbpecoifnaaGreatDoorJal
import Derived.Test.YtljmgbpecoifnaaGreatDoorJag
import Derived.Deep.DeepCutAuto
import Derived.Test.YtljmgbpecoifnaaGreatDoorJap
import Derived.Test.YtljmgbpecoifnaaGreatDoorJaq
namespace Go.Proofs.YtljmgbpecoifnaaGreatDoor
open Go.RowKit

abbrev numsX (n0 n1 n2 n3 : Int) : Value := .agg #[.int .i64 n0, .int .i64 n1, .int .i64 n2, .int .i64 n3]
set_option maxRecDepth 20000 in
theorem ix4 (n0 n1 n2 n3 : Int) (k : Nat) (hk : k < 4) (w : World) : (Instr.index 154 (numsX n0 n1 n2 n3) (.int .i64 (k : Int))).run Tryz.prog w = .ok (.int .i64 ([n0, n1, n2, n3].getD k 0)) w := by
  rcases (show k = 0 ∨ k = 1 ∨ k = 2 ∨ k = 3 by omega) with rfl | rfl | rfl | rfl <;> kernel_rfl
set_option maxRecDepth 20000 in
theorem hmkX (w : World) : (Instr.makeSlice 35 (.int .i64 0) (.int .i64 24)).run Tryz.prog w = .ok (.slice (some ⟨w.heap.size, 0, none⟩) 0 24) (w.alloc (.cells (Array.replicate 24 (.int .u8 0)) 5)) := by kernel_rfl
theorem own_madeX (w : World) : Own (w.alloc (.cells (Array.replicate 24 (.int .u8 0)) 5)) w.heap.size (.slice (some ⟨w.heap.size, 0, none⟩) 0 24) [] :=
  ⟨rfl, .inr ⟨w.heap.size, 24, _, rfl, Nat.le_refl _, heap_alloc_new w _, Nat.zero_le _, by decide, by simp, by simp⟩⟩
theorem ownX_keep {w w' : World} {base : Nat} {x : Value} {l : List Int} (h : Own w base x l) (k : Kept w w') : Own w' base x l := h.kept k fun g e => (h.lt g e).2

/-- While the numbers are gone through. -/
structure XSt (w : World) (v : List Int) (k : Nat) (x : Value) (wr : World) : Prop where
  own : ∃ g cap len, x = .slice (some ⟨g, 0, none⟩) len cap ∧ (relP v k).length = len ∧ Own wr w.heap.size (.slice (some ⟨g, 0, none⟩) len cap) (relP v k)
  tab : TabX wr
  kept : Kept w wr

set_option maxRecDepth 20000 in
set_option maxHeartbeats 3200000 in
theorem xwrite_walk (sec off ty sy ad : Int) (w : World) (hT : TabX w) (h0 : 0 ≤ ty) (h1 : ty < 256) :
    Calls Tryz.prog 95 #[relW sec off ty sy ad] w fun e w' => ∃ x, e = .returned (.tuple #[x, .int .i64 (wxE off ty sy ad)]) ∧ Own w' w.heap.size x (wxL off ty sy ad) ∧ Kept w w' := by
  obtain ⟨wa, hwa, B1, kA, sA⟩ := box_rela w sec off ty sy ad
  have B1' := B1
  obtain ⟨c0, c1, c2, c3, c4, _, _, _, _, _⟩ := B1'
  have hC := fun w => hasBytes_walk sec off ty sy ad w
  have HT := hT.lt
  cases hok : codX off ty sy ad with
  | false =>
    rw [hok] at hC
    rw [(wx_no hok).1, (wx_no hok).2]
    clear hok
    go_enter Tryz.func95, Tryz.ntmps95
    go_wp2_with (go_at_call 130; refine (hC _).mono ?_; rintro e w1 ⟨rfl, k1⟩)
    go_ret2
    exact ⟨_, rfl, Own.nil _ _, kA.trans k1⟩
  | true =>
    rw [hok] at hC
    rw [(wx_ok hok).1, (wx_ok hok).2]
    have HM : Hid (∀ k, k < 4 → mayB ((relN off ty sy ad).getD k 0) ((relS.getD k 0 : Nat) : Int) = true) := fun k hk => relN_may hok hk
    have HR : Hid (∀ k, k < 4 → -9223372036854775808 ≤ (relN off ty sy ad).getD k 0 ∧ (relN off ty sy ad).getD k 0 ≤ 9223372036854775807) := fun k hk => relN_range hok hk
    have hIx : ∀ k : Nat, k < 4 → ∀ w, (Instr.index 154 (numsX off ty (sy + 1) ad) (.int .i64 (k : Int))).run Tryz.prog w = .ok (.int .i64 ((relN off ty sy ad).getD k 0)) w := fun k hk w => ix4 _ _ _ _ k hk w
    obtain ⟨_, hof, hsy, had⟩ := codX_has hok
    have hv4 := relN_length off ty sy ad
    have HL : Hid (relL off ty sy ad = relP (relN off ty sy ad) 4) := (relP_four hv4).symm
    obtain ⟨v, hv⟩ : ∃ v, relN off ty sy ad = v := ⟨_, rfl⟩
    rw [hv] at HM HR hIx HL hv4
    have HV : Hid (v.length = 4) := hv4
    clear hok hv hv4
    go_enter Tryz.func95, Tryz.ntmps95
    go_upto_region 3 with (go_at_call 130; refine (hC _).mono ?_; rintro e w1 ⟨rfl, k1⟩)
    have K1 := kA.trans k1
    have hm := hmkX w1
    have O1 := own_madeX w1
    have k2 : Kept w1 (w1.alloc (.cells (Array.replicate 24 (.int .u8 0)) 5)) := Kept.alloc _ _
    obtain ⟨w2, hw2⟩ : ∃ w2, w1.alloc (.cells (Array.replicate 24 (.int .u8 0)) 5) = w2 := ⟨_, rfl⟩
    rw [hw2] at hm O1 k2
    have B2 := B1.kept k1
    have K2 := K1.trans k2
    clear c0 c1 c2 c3 c4 hC hw2
    obtain ⟨c0, c1, c2, c3, c4, _, _, _, _, _⟩ := B2.kept k2
    have hs1 := K1.size
    obtain ⟨b1, hb1⟩ : ∃ b, w1.heap.size = b := ⟨_, rfl⟩
    rw [hb1] at O1 hm hs1
    clear hb1
    have S0 : XSt w v 0 (.slice (some ⟨b1, 0, none⟩) 0 24) w2 :=
      ⟨⟨_, _, 0, rfl, rfl, own_base O1 hs1⟩, hT.kept K2, K2⟩
    go_upto_region 5 with fail
    clear c0 c1 c2 c3 c4 B1 B2 O1 hm K1 K2 k1 k2 kA hwa hT
    go_loopw [4, 24] (fun x i wr => ∃ k : Nat, k ≤ 4 ∧ i = .int .i64 k ∧ XSt w v k x wr) (fun _ i _ => 4 - (intOf i).toNat)
    case atStart => exact ⟨0, Nat.zero_le _, rfl, S0⟩
    case round =>
      obtain ⟨k, hk, rfl, S⟩ := hrel
      clear S0
      by_cases hlt : k < 4
      · have t0 := S.tab k hlt
        have hI := hIx k hlt
        have hmb := HM.out k hlt
        obtain ⟨hn0, hn1⟩ := HR.out k hlt
        have hss := relS_at k hlt
        obtain ⟨n, hn⟩ : ∃ n, v.getD k 0 = n := ⟨_, rfl⟩
        obtain ⟨z, hz⟩ : ∃ z, relS.getD k 0 = z := ⟨_, rfl⟩
        rw [hn] at hI hmb hn0 hn1
        rw [hz] at t0 hmb hss
        have HE : Hid (relP v (k + 1) = relP v k ++ byN (uOf n) z) := by unfold Hid; rw [relP_succ HV.out hlt, hn, hz]
        have hP := fun w => put_yes n z w hn0 hn1 (mayB_sz hmb) hmb
        obtain ⟨g, cap, len, rfl, hlen, hO⟩ := S.own
        have hle := relP_le HV.out k hk
        have HLn : Hid ((relP v k).length = len) := hlen
        have hpos : 0 < z := by omega
        have hsl : len + z ≤ 10000000 := by omega
        clear hmb hlen hle hn hz hss hIx
        go_upto_region 10 with (go_at_call 94; refine (hP _).mono ?_; rintro e w4 ⟨x2, rfl, hO2, hk2⟩; obtain ⟨A2, C2, rfl, _, hb2, _⟩ := hO2.let (byN_length _ _); have hO' := ownX_keep hO hk2)
        have T2 := S.tab.kept hk2
        have W2 := S.kept.trans hk2
        have hsz2 : w.heap.size ≤ w4.heap.size := W2.size
        have hgw := (hO'.lt g rfl).1
        clear hP hO hk2 hO2 t0 hI
        go_wp2_with (at_builtin; refine wpList_append_bytL rfl _ _ rfl w.heap.size g len cap (relP v k) (byN (uOf n) z) A2 z C2 HLn.out (byN_length _ _) rfl rfl hO' hb2 hpos hsl hsz2 ?_; intro g3 c3 w5 hO3 hg3 hor)
        have S' : XSt w v (k + 1) (.slice (some ⟨g3, 0, none⟩) (len + z) c3) w5 := by
          refine ⟨⟨g3, c3, len + z, rfl, ?_, ?_⟩, T2.grown hg3 (by omega), ?_⟩
          · rw [HE.out, List.length_append, byN_length, HLn.out]
          · rw [HE.out]; exact hO3
          · exact W2.grown hg3 hsz2 (fun j ej => by cases ej; exact hgw)
        clear T2 W2 hO' hO3 hg3 S
        go_wp2
        go_roundw
        case rel => exact ⟨k + 1, by omega, by go_num, S'⟩
        case measure => simp [intOf]; omega
      · obtain rfl : k = 4 := by omega
        obtain ⟨g, cap, len, rfl, _, hO⟩ := S.own
        have hK := S.kept
        clear S
        go_wp2
        go_ret2
        exact ⟨_, rfl, by rw [HL.out]; exact hO, hK⟩

theorem five_le {s : ByteArray} (h : s.size ≤ 1000) : (⟨#[46, 114, 101, 108, 97]⟩ : ByteArray).size + s.size ≤ 9223372036854775807 := by show 5 + s.size ≤ _; omega
theorem wm_nat {m : Nat} (h : m < 16) : wrap64 (m : Int) = m := w64 (by omega) (by omega)
theorem wm_nat' {m : Nat} (h : m < 16) : IntKind.i64.wrap (m : Int) = m := w64i (by omega) (by omega)
theorem nm_rela : nm ⟨#[46, 114, 101, 108, 97]⟩ = rlNm := by decide +kernel
theorem rlK_length_le (o : ObjM) (f : Int) (k : Nat) : (rlK o f k).length ≤ o.ss.length := by
  unfold rlK relPs
  rw [List.length_map]
  refine Nat.le_trans (List.length_filter_le _ _) ?_
  show (wR o k).ss.zipIdx.length ≤ _
  rw [List.length_zipIdx]
  exact Nat.le_refl _
theorem layN_z {ps : List PartM} {P : PartM} (h : layN 64 (ps ++ [P]) ≤ 800000) : P.z.length ≤ 1000000 := by
  rw [layN_append] at h
  have h : layN 64 ps + padN (layN 64 ps) P.al + P.z.length ≤ _ := h
  generalize layN 64 ps = N at h
  generalize padN N P.al = M at h
  omega

set_option maxRecDepth 20000 in
set_option maxHeartbeats 6400000 in
theorem putRelas_walk (B fb : Nat) (σ : FSt) (ps : List PartM) (o : ObjV) (W w : World) (hF : FileOk B w fb σ) (hP : PSt ps σ) (hO : ObjOk W o) (hWw : Kept W w) (hWB : W.heap.size ≤ B) (hT : TabX W) (hsn : o.sn ≤ 16) (hrn : o.rn ≤ 256)
    (hrs : ∀ j, j < o.rn → codX (o.rs.getD j relNo).off (o.rs.getD j relNo).ty (o.rs.getD j relNo).sy (o.rs.getD j relNo).ad = true ∧ 1 ≤ (o.rs.getD j relNo).sec ∧ (o.rs.getD j relNo).sec ≤ o.sn)
    (hro : o.rs.Pairwise fun a b => a.sec ≤ b.sec) (hgs : ∀ j, j < o.sn → (o.ss.getD j secNo).s.size ≤ 1000)
    (hbnd : ∀ k, k ≤ o.rn → layN 64 (ps ++ rlK o.m σ.sy k) ≤ 800000) (hpl : ps.length ≤ 800) :
    Calls Tryz.prog 56 #[.pointer (some ⟨fb, 0, none⟩), objW o] w fun e w' => e = .returned (.tuple #[]) ∧ ∃ σ', Went B fb σ w σ' w' ∧ PSt (ps ++ rlK o.m σ.sy o.rn) σ' ∧ Keep σ σ' := by
  have HMr : Hid (o.m.rs = o.rs) := rfl
  have HMl : Hid (o.m.ss.length = o.sn) := by
    show (o.ss.map sctOf).length = o.sn
    rw [List.length_map, hO.hs]
  have HMs : Hid (∀ j, j < o.sn → (o.m.ss.getD j sctNo).nm = nm (o.ss.getD j secNo).s) := fun j hj => by
    show ((o.ss.map sctOf).getD j sctNo).nm = _
    rw [getD_map' (f := sctOf) (no := secNo) (no' := sctNo) rfl]
    rfl
  obtain ⟨M, hM⟩ : ∃ M, o.m = M := ⟨_, rfl⟩
  rw [hM] at HMr HMl HMs hbnd ⊢
  clear hM
  obtain ⟨ss, sa, sn, sc, ys, ya, yn, yc, rs, ra, n, rc, gs, ga, gn, gc⟩ := o
  have hS : SecR W sa ss := hO.s
  have hR : RelR W ra rs := hO.r
  have hls : ss.length = sn := hO.hs
  have hl : rs.length = n := hO.hr
  clear hO
  dsimp only at hsn hrn hrs hro hgs hbnd HMr HMl HMs ⊢
  obtain ⟨F, hF0⟩ : ∃ F, σ.sy = F := ⟨_, rfl⟩
  rw [hF0] at hbnd ⊢
  obtain ⟨wa, hwa, B1, kA, sA⟩ := box_obj w (.slice sa sn sc) (.slice ya yn yc) (.slice ra n rc) (.slice ga gn gc)
  have c2 := B1.c2
  have hFa := hF.kept kA
  have hnb : ¬ FS fb σ w.heap.size := fun e => by have := (hF.lt _ e).2; omega
  go_enter Tryz.func56, Tryz.ntmps56
  go_wp2
  go_loopw [4, 11] (fun l i wr => ∃ (k : Nat) (τ : FSt), k ≤ n ∧ i = .int .i64 k ∧ l = .int .i64 (prvR rs k) ∧ Went B fb σ wa τ wr ∧ PSt (ps ++ rlK M F k) τ ∧ Keep σ τ) (fun _ i _ => n - (intOf i).toNat)
  case atStart => exact ⟨0, σ, Nat.zero_le _, rfl, rfl, Went.refl hFa, by rw [rlK_zero, List.append_nil]; exact hP, Keep.refl _⟩
  case round =>
    obtain ⟨k, τ, hk, rfl, rfl, hW, hP2, hK⟩ := hrel
    have hKW : Kept W wr := Below.trans (hWw.trans kA) ((hW.below hFa).mono hWB)
    by_cases hlt : k < n
    · obtain ⟨b, off, rfl, hAt⟩ := (hR.kept hKW).cells (show k < rs.length by omega)
      obtain ⟨r, hr⟩ : ∃ r, rs.getD k relNo = r := ⟨_, rfl⟩
      obtain ⟨hcod, hs1, hs2⟩ := hrs k hlt
      rw [hr] at hAt hcod hs1 hs2
      have HV : Hid (rs.getD k relNo = r) := hr
      have hok := hAt.ok
      obtain ⟨sec, of, ty, sy, ad⟩ := r
      dsimp only at hcod hs1 hs2
      obtain ⟨m, rfl⟩ : ∃ m : Nat, sec = (m : Int) + 1 := ⟨(sec - 1).toNat, by omega⟩
      have hm : m < sn := by omega
      have hm16 : m < 16 := by omega
      have hwm := wm_nat hm16
      have hwm' := wm_nat' hm16
      have HC : Hid (codX of ty sy ad = true) := hcod
      have x0 : wr.cell? ⟨b, off + k * 5, none⟩ = some (.int .i64 ((m : Int) + 1)) := hAt.c0
      have x1 : wr.cell? ⟨b, off + k * 5 + 1, none⟩ = some (.int .i64 of) := hAt.c1
      have x2 : wr.cell? ⟨b, off + k * 5 + 2, none⟩ = some (.int .u8 ty) := hAt.c2
      have x3 : wr.cell? ⟨b, off + k * 5 + 3, none⟩ = some (.int .i64 sy) := hAt.c3
      have x4 : wr.cell? ⟨b, off + k * 5 + 4, none⟩ = some (.int .i64 ad) := hAt.c4
      have t0 : 0 ≤ ty := hok.t0
      have t1 : ty < 256 := hok.t1
      obtain ⟨wb, wc, hwb, hwc, Y1, Y2, K6, s6⟩ := put_rel wr ((m : Int) + 1) of ty sy ad
      obtain ⟨gb, hgb⟩ : ∃ gb, wr.heap.size = gb := ⟨_, rfl⟩
      rw [hgb] at hwc Y1 Y2 s6
      obtain ⟨z0, z1, z2, z3, z4, y0, y1, y2, y3, y4⟩ := Y1
      obtain ⟨u0, u1, u2, u3, u4, _, _, _, _, _⟩ := id Y2
      have hWc := hW.kept K6
      have hKWc := hKW.trans K6
      have hngb : ¬ FS fb τ gb := fun e => by have := (hW.ok.lt _ e).2; omega
      obtain ⟨p, hp⟩ : ∃ p, prvR rs k = p := ⟨_, rfl⟩
      have HP : Hid (prvR rs k = p) := hp
      have hk' : k < M.rs.length := by rw [HMr.out]; omega
      have hs' : (M.rs.getD k relNo).sec = (m : Int) + 1 := by rw [HMr.out, HV.out]
      have hm' : m < M.ss.length := by rw [HMl.out]; exact hm
      have hro' : M.rs.Pairwise fun a b => a.sec ≤ b.sec := by rw [HMr.out]; exact hro
      have HRM : Hid (relM (M.rs.getD k relNo) = relL of ty sy ad) := by unfold Hid; rw [HMr.out, HV.out]; rfl
      have HNX : Hid (prvR rs (k + 1) = (m : Int) + 1) := by unfold Hid prvR; rw [if_neg (by omega), Nat.add_sub_cancel, HV.out]
      obtain ⟨NM, hNM⟩ : ∃ NM, (M.ss.getD m sctNo).nm = NM := ⟨_, rfl⟩
      have HB1 : Hid (layN 64 (ps ++ rlK M F k) ≤ 800000) := hbnd k hk
      have HSL : Hid ((ps ++ rlK M F k).length ≤ 900) := by
        unfold Hid
        rw [List.length_append]
        have := rlK_length_le M F k
        rw [HMl.out] at this
        omega
      rw [hp]
      by_cases hn : (m : Int) + 1 = p
      · have d1 : ((m : Int) + 1 == p) = true := beq_iff_eq.2 hn
        have d2 : ((m : Int) + 1 != p) = false := by rw [bne, d1]; rfl
        have HE : Hid ((m : Int) + 1 = p) := hn
        obtain ⟨A, z, hA1, hA2⟩ := rl_same (f := F) hk' hs' hm' hro' (by rw [HMr.out, HV.out, HP.out]; exact hn)
        rw [hNM, HRM.out] at hA2
        rw [hNM] at hA1
        have HA1 : Hid (rlK M F k = A ++ [rlP NM F ((m : Int) + 1) z]) := hA1
        have HA2 : Hid (rlK M F (k + 1) = A ++ [rlP NM F ((m : Int) + 1) (z ++ relL of ty sy ad)]) := hA2
        have hP4 : PSt (ps ++ A ++ [rlP NM F ((m : Int) + 1) z]) τ := by rw [List.append_assoc, ← HA1.out]; exact hP2
        have HB4 : Hid (layN 64 (ps ++ A ++ [rlP NM F ((m : Int) + 1) z]) ≤ 800000) := by unfold Hid; rw [List.append_assoc, ← HA1.out]; exact HB1.out
        have HZ : Hid (z.length ≤ 1000000) := layN_z HB4.out
        have HSL4 : Hid ((ps ++ A).length ≤ 900) := by
          have := HSL.out
          rw [HA1.out] at this
          unfold Hid
          rw [List.length_append] at this ⊢
          rw [List.length_append] at this
          omega
        clear hn hA1 hA2 hr hp hNM hs' hk' hm' hAt hok hcod hbnd HB1 HSL
        go_upto_region 9 with fail
        have hT4 := hT.kept hKWc
        go_wp2_with (first
          | (go_at_call 95; refine (xwrite_walk ((m : Int) + 1) of ty sy ad wc hT4 t0 t1).mono ?_; rintro e w5 ⟨v5, rfl, hO5, k5⟩; rw [(wx_ok HC.out).1]; rw [(wx_ok HC.out).2] at hO5; obtain ⟨A5, C5, rfl, _, hb5, hn5⟩ := hO5.let (relL_length _ _ _ _); have hPu := pput_walk B fb τ (ps ++ A) (rlP NM F ((m : Int) + 1) z) A5 24 C5 (relL of ty sy ad) w5 (hWc.ok.kept k5) hP4 (relL_length _ _ _ _) hb5 hn5 (by simp [rlP]) (by simp [rlP]) (by simp [rlP]) (Nat.le_trans HB4.out (by decide)) HZ.out (by decide) HSL4.out)
          | (go_at_call 93; refine hPu.mono ?_; rintro e w6 ⟨rfl, τ3, hW6, hP6, hK6⟩))
        go_roundw
        case rel =>
          refine ⟨k + 1, τ3, by omega, by go_num, ?_, (hWc.kept k5).trans hW6, ?_, hK.trans hK6⟩
          · rw [HNX.out, HE.out]
          · rw [HA2.out, ← List.append_assoc]
            exact hP6
        case measure => simp [intOf]; omega
      · have d1 : ((m : Int) + 1 == p) = false := beq_eq_false_iff_ne.2 hn
        have d2 : ((m : Int) + 1 != p) = true := by rw [bne, d1]; rfl
        have hA2 := rl_new (f := F) hk' hs' hm' hro' (by rw [HMr.out, HV.out, HP.out]; exact hn)
        rw [hNM, HRM.out] at hA2
        have HA2 : Hid (rlK M F (k + 1) = rlK M F k ++ [rlP NM F ((m : Int) + 1) (relL of ty sy ad)]) := hA2
        obtain ⟨sb, so, rfl, hSt⟩ := (hS.kept hKWc).cells (show m < ss.length by rw [hls]; exact hm)
        obtain ⟨s, hs⟩ : ∃ s, (ss.getD m secNo).s = s := ⟨_, rfl⟩
        have q0 : wc.cell? ⟨sb, so + m * 4, none⟩ = some (.string s) := by rw [← hs]; exact hSt.c0
        have hss := hgs m hm
        rw [hs] at hss
        have hnms : Hid (NM = nm s) := by unfold Hid; rw [← hNM, HMs.out m hm, hs]
        have hadd : ∀ x : World, (Op.stringOp .add ⟨#[46, 114, 101, 108, 97]⟩ s).run Tryz.prog x = .ok (.string (⟨#[46, 114, 101, 108, 97]⟩ ++ s)) x := fun x => run_string_add_sum x _ _ (five_le hss)
        have f0 : wc.cell? ⟨w.heap.size, 0, none⟩ = some (.slice (some ⟨sb, so, none⟩) sn sc) := K6.cell (hW.turn.cell B1.c0 hnb)
        have hWd := hWc.kept (kept_drew wc)
        have f3 : wc.cell? ⟨fb, 3, none⟩ = some (.int .i64 F) := by have h3 := hWc.ok.c3; rw [hK.1, hF0] at h3; exact h3
        have hB := pbegin_walk B fb τ (ps ++ rlK M F k) (rlP NM F ((m : Int) + 1) []) (⟨#[46, 114, 101, 108, 97]⟩ ++ s) 0 wc.drew hWd.ok hP2 rfl (by rw [nm_append, nm_rela, hnms.out]; rfl) rfl (by simp [rlP]) (by simp [rlP]) (Nat.le_trans HB1.out (by decide)) HSL.out
        unfold rlP at hB
        dsimp only at hB
        clear hn hA2 hr hp hNM hs' hk' hm' hAt hok hcod hbnd hss hs hSt
        go_upto_region 7 with fail
        go_region_with (go_at_call 92; refine hB.mono ?_; rintro e w4 ⟨rfl, τ2, hW4, hP4, hK4⟩)
        all_goals
          have hP4' : PSt (ps ++ rlK M F k ++ [rlP NM F ((m : Int) + 1) []]) τ2 := hP4
          have hL0 : Hid (layN 64 (ps ++ rlK M F k ++ [rlP NM F ((m : Int) + 1) []]) ≤ 1000000) := layN_some HB1.out (by simp [rlP]) (by simp [rlP]) (by simp [rlP])
          have g0 := hW4.turn.cell (show wc.drew.cell? ⟨gb, 0, none⟩ = _ from u0) hngb
          have g1 := hW4.turn.cell (show wc.drew.cell? ⟨gb, 1, none⟩ = _ from u1) hngb
          have g2 := hW4.turn.cell (show wc.drew.cell? ⟨gb, 2, none⟩ = _ from u2) hngb
          have g3 := hW4.turn.cell (show wc.drew.cell? ⟨gb, 3, none⟩ = _ from u3) hngb
          have g4 := hW4.turn.cell (show wc.drew.cell? ⟨gb, 4, none⟩ = _ from u4) hngb
          have hWt := hWd.trans hW4
          have hKt := hK.trans hK4
          have hT4 : TabX w4 := hT.kept (Below.trans (hWw.trans kA) ((hWt.below hFa).mono hWB))
          clear hadd f3 x0 x1 x2 x3 x4 y0 y1 y2 y3 y4 z0 z1 z2 z3 z4 u0 u1 u2 u3 u4 hwb hwc hB hP4 hWc hP2 f0 q0
          go_wp2_with (first
            | (go_at_call 95; refine (xwrite_walk ((m : Int) + 1) of ty sy ad w4 hT4 t0 t1).mono ?_; rintro e w5 ⟨v5, rfl, hO5, k5⟩; rw [(wx_ok HC.out).1]; rw [(wx_ok HC.out).2] at hO5; obtain ⟨A5, C5, rfl, _, hb5, hn5⟩ := hO5.let (relL_length _ _ _ _); have hPu := pput_walk B fb τ2 (ps ++ rlK M F k) (rlP NM F ((m : Int) + 1) []) A5 24 C5 (relL of ty sy ad) w5 (hW4.ok.kept k5) hP4' (relL_length _ _ _ _) hb5 hn5 (by simp [rlP]) (by simp [rlP]) (by simp [rlP]) hL0.out (by simp [rlP]) (by decide) HSL.out)
            | (go_at_call 93; refine hPu.mono ?_; rintro e w6 ⟨rfl, τ3, hW6, hP6, hK6⟩))
          go_roundw
          case rel =>
            refine ⟨k + 1, τ3, by omega, by go_num, ?_, (hWt.kept k5).trans hW6, ?_, hKt.trans hK6⟩
            · rw [HNX.out]
            · rw [HA2.out, ← List.append_assoc]
              exact hP6
          case measure => simp [intOf]; omega
    · obtain rfl : k = n := by omega
      clear hbnd
      go_wp2
      go_end0
      exact ⟨rfl, τ, hW.from kA, hP2, hK⟩

theorem Tryz.underI : Tryz.prog.underlying 3 = some (.int .i64) := by kernel_rfl
set_option maxRecDepth 20000 in
theorem run_append_strF (w : World) (base : Nat) (ty : TypeId) (g cap : Nat) (xs : List Int) (s : ByteArray) (hown : Own w base (.slice (some ⟨g, 0, none⟩) xs.length cap) xs) (hroom : xs.length + s.size ≤ cap) :
    ∃ w', (Builtin.append_ #[35, 9] ty #[.slice (some ⟨g, 0, none⟩) xs.length cap, .string s]).run Tryz.prog w = .ok (.slice (some ⟨g, 0, none⟩) (xs.length + s.size) cap) w' ∧ Own w' base (.slice (some ⟨g, 0, none⟩) (xs.length + s.size) cap) (xs ++ nm s) ∧ w.grownBy w' (some g) := by
  obtain ⟨i0, hi, hz0, hz1, hz2⟩ := info_parts Tryz.infoByte
  have hsrc := Src.ofString (P := Tryz.prog) w (tx := 9) Tryz.underlying9 s
  have hnl : (byteCells s).length = s.size := byteCells_length s
  have hll : (xs ++ nm s).length = xs.length + s.size := by rw [List.length_append, nm_length]
  have hcs' : (xs.map (Value.int .u8) ++ byteCells s) = (xs ++ nm s).map (Value.int .u8) := by rw [byteCells_nm, List.map_append]
  rcases hown.2 with ⟨h', _⟩ | ⟨g', cap', cur, h', hbg, hg, hnc, hcm, hcs, htake⟩
  · simp at h'
  · simp only [Value.slice.injEq, Option.some.injEq, Addr.mk.injEq, and_true, true_and] at h'
    obtain ⟨rfl, rfl⟩ := h'
    rw [Nat.mul_one] at hcs htake
    have hst := run_storeCells_at Tryz.prog g (xs.length * 1) 5 (byteCells s) 0 cur w hg (by rw [hnl, hcs]; omega) hsrc.one
    simp only [Nat.add_zero] at hst
    have hr : (Builtin.append_ #[35, 9] ty #[.slice (some ⟨g, 0, none⟩) xs.length cap, .string s]).run Tryz.prog w =
        .ok (.slice (some ⟨g, 0, none⟩) (xs.length + s.size) cap) (w.setRow g (cur.toList.take (xs.length * 1) ++ byteCells s ++ cur.toList.drop (xs.length * 1 + (byteCells s).length)).toArray) := by
      simp [Builtin.append_, run_underlying Tryz.underlying35, run_underlying Tryz.underlying9, sizeOf, typeInfo, hi, hz1, hsrc.len, hroom, hsrc.cells, Addr.add_lit] at hst ⊢
      simp [hst]
    refine ⟨_, hr, ⟨by simp, .inr ⟨g, cap, _, by rw [hll], hbg, setRow_heap w g cur _ 5 _ hg, by rw [hll]; exact hroom, hcm, ?_, ?_⟩⟩, ⟨rfl, rfl, rfl, by simp, fun k _ hk => setRow_other w g k _ (fun e => hk (by simp [e]))⟩⟩
    · simp only [List.size_toArray, List.length_append, List.length_take, List.length_drop, Array.length_toList, hnl]
      omega
    · show List.take ((xs ++ nm s).length * 1) (List.take (xs.length * 1) cur.toList ++ byteCells s ++ List.drop (xs.length * 1 + (byteCells s).length) cur.toList) = _
      rw [Nat.mul_one, Nat.mul_one, htake, hcs']
      have : (xs ++ nm s).length = ((xs ++ nm s).map (Value.int .u8)).length := by rw [List.length_map]
      rw [this]
      exact List.take_left
theorem wpList_append_strF {w : World} {ops : Array Oper} {rest : List Oper} {o : Oper} {a : Act} {Q : Exit → Act → World → Prop} (hgd : o.guard = none) (s x : Operand)
    (ho : o.op = .call { callee := .builtin .append, args := #[s, x], argTypes := #[35, 9] }) (base g len cap : Nat) (xs : List Int) (str : ByteArray) (hl : xs.length = len) (hs : a.eval s = .slice (some ⟨g, 0, none⟩) len cap) (hx : a.eval x = .string str)
    (hown : Own w base (.slice (some ⟨g, 0, none⟩) len cap) xs) (hroom : len + str.size ≤ cap)
    (h : ∀ w', Own w' base (.slice (some ⟨g, 0, none⟩) (len + str.size) cap) (xs ++ nm str) → w.grownBy w' (some g) → wpList Tryz.prog ops Q rest (a.put o.dst (.slice (some ⟨g, 0, none⟩) (len + str.size) cap)) w') : wpList Tryz.prog ops Q (o :: rest) a w := by
  subst hl
  obtain ⟨w', hr, h1, h2⟩ := run_append_strF w base o.type g cap xs str hown hroom
  refine wpList_plain hgd fun K hK => ?_
  unfold Oper.wp execOp
  simp only [ho, resolve, invoke, builtin, Sem.run_bind, Sem.run_pure, Result.andThen_ok, List.map_toArray, List.map_cons, List.map_nil, hs, hx, hr]
  exact hK _ _ (h w' h1 h2)
theorem zeroCells_u8 (k : Nat) : (Builtin.zeroCells #[Value.int .u8 0] k).toList = List.replicate k (Value.int .u8 0) := by
  apply List.ext_getElem
  · simp [Builtin.zeroCells]
  · intro i h1 h2
    simp [Builtin.zeroCells, Nat.mod_one]
set_option maxRecDepth 20000 in
/-- 'append(b, make([]byte, k)...)', carried out at once, within the capacity. -/
theorem run_append_made (w : World) (base : Nat) (ty : TypeId) (g cap k : Nat) (xs : List Int) (hown : Own w base (.slice (some ⟨g, 0, none⟩) xs.length cap) xs) (hk : 0 < k) (hk2 : k ≤ 100000) (hroom : xs.length + k ≤ cap) :
    ∃ w', (Builtin.append_ #[35, 3] ty #[.slice (some ⟨g, 0, none⟩) xs.length cap, .int .i64 (k : Int)]).run Tryz.prog w = .ok (.slice (some ⟨g, 0, none⟩) (xs.length + k) cap) w' ∧ Own w' base (.slice (some ⟨g, 0, none⟩) (xs.length + k) cap) (xs ++ List.replicate k 0) ∧ w.grownBy w' (some g) := by
  obtain ⟨i0, hi, hz0, hz1, hz2⟩ := info_parts Tryz.infoByte
  have hll : (xs ++ List.replicate k 0).length = xs.length + k := by rw [List.length_append, List.length_replicate]
  have hcs' : (xs.map (Value.int .u8) ++ List.replicate k (Value.int .u8 0)) = (xs ++ List.replicate k 0).map (Value.int .u8) := by rw [List.map_append, List.map_replicate]
  rcases hown.2 with ⟨h', _⟩ | ⟨g', cap', cur, h', hbg, hg, hnc, hcm, hcs, htake⟩
  · simp at h'
  · simp only [Value.slice.injEq, Option.some.injEq, Addr.mk.injEq, and_true, true_and] at h'
    obtain ⟨rfl, rfl⟩ := h'
    rw [Nat.mul_one] at hcs htake
    have hst := run_storeCells_at Tryz.prog g (xs.length * 1) 5 (List.replicate k (Value.int .u8 0)) 0 cur w hg (by rw [List.length_replicate, hcs]; omega) (by intro u hu; rw [(List.mem_replicate.1 hu).2]; rfl)
    simp only [Nat.add_zero] at hst
    have hwr : IntKind.i64.wrap (k : Int) = k := w64i (by omega) (by omega)
    have hng : ¬ ((k : Int) < 0) := by omega
    have hbg2 : ¬ ((281474976710656 : Int) < (k : Int) * (i0.bytes : Int)) := by rw [hz2]; omega
    have hk0 : ¬ k = 0 := by omega
    have hr : (Builtin.append_ #[35, 3] ty #[.slice (some ⟨g, 0, none⟩) xs.length cap, .int .i64 (k : Int)]).run Tryz.prog w =
        .ok (.slice (some ⟨g, 0, none⟩) (xs.length + k) cap) (w.setRow g (cur.toList.take (xs.length * 1) ++ List.replicate k (Value.int .u8 0) ++ cur.toList.drop (xs.length * 1 + (List.replicate k (Value.int .u8 0)).length)).toArray) := by
      simp [Builtin.append_, run_underlying Tryz.underlying35, run_underlying Tryz.underI, sizeOf, typeInfo, zeroValue, asInt, asIntOf, hi, hz0, hz1, hwr, hng, hbg2, hk0, hroom, Addr.add_lit, Value.cells, zeroCells_u8] at hst ⊢
      simp [hst]
    refine ⟨_, hr, ⟨by simp, .inr ⟨g, cap, _, by rw [hll], hbg, setRow_heap w g cur _ 5 _ hg, by rw [hll]; exact hroom, hcm, ?_, ?_⟩⟩, ⟨rfl, rfl, rfl, by simp, fun k _ hk => setRow_other w g k _ (fun e => hk (by simp [e]))⟩⟩
    · simp only [List.size_toArray, List.length_append, List.length_take, List.length_drop, Array.length_toList, List.length_replicate]
      omega
    · show List.take ((xs ++ List.replicate k 0).length * 1) (List.take (xs.length * 1) cur.toList ++ List.replicate k (Value.int .u8 0) ++ List.drop (xs.length * 1 + (List.replicate k (Value.int .u8 0)).length) cur.toList) = _
      rw [Nat.mul_one, Nat.mul_one, htake, hcs']
      have : (xs ++ List.replicate k 0).length = ((xs ++ List.replicate k 0).map (Value.int .u8)).length := by rw [List.length_map]
      rw [this]
      exact List.take_left
theorem wpList_append_made {w : World} {ops : Array Oper} {rest : List Oper} {o : Oper} {a : Act} {Q : Exit → Act → World → Prop} (hgd : o.guard = none) (s x : Operand)
    (ho : o.op = .call { callee := .builtin .append, args := #[s, x], argTypes := #[35, 3] }) (base g len cap k : Nat) (xs : List Int) (hl : xs.length = len) (hs : a.eval s = .slice (some ⟨g, 0, none⟩) len cap) (hx : a.eval x = .int .i64 (k : Int))
    (hown : Own w base (.slice (some ⟨g, 0, none⟩) len cap) xs) (hk : 0 < k) (hk2 : k ≤ 100000) (hroom : len + k ≤ cap)
    (h : ∀ w', Own w' base (.slice (some ⟨g, 0, none⟩) (len + k) cap) (xs ++ List.replicate k 0) → w.grownBy w' (some g) → wpList Tryz.prog ops Q rest (a.put o.dst (.slice (some ⟨g, 0, none⟩) (len + k) cap)) w') : wpList Tryz.prog ops Q (o :: rest) a w := by
  subst hl
  obtain ⟨w', hr, h1, h2⟩ := run_append_made w base o.type g cap k xs hown hk hk2 hroom
  refine wpList_plain hgd fun K hK => ?_
  unfold Oper.wp execOp
  simp only [ho, resolve, invoke, builtin, Sem.run_bind, Sem.run_pure, Result.andThen_ok, List.map_toArray, List.map_cons, List.map_nil, hs, hx, hr]
  exact hK _ _ (h w' h1 h2)
/-- 'append(b, x, y ..)' of bytes that lie in a block, within the capacity. -/
theorem wpList_append_bytF {w : World} {ops : Array Oper} {rest : List Oper} {o : Oper} {a : Act} {Q : Exit → Act → World → Prop} (hgd : o.guard = none) (s x : Operand)
    (ho : o.op = .call { callee := .builtin .append, args := #[s, x], argTypes := #[35, 35] }) (base g len cap : Nat) (xs l : List Int) (ad : Addr) (m c : Nat) (hl : xs.length = len) (hm : l.length = m) (hs : a.eval s = .slice (some ⟨g, 0, none⟩) len cap) (hx : a.eval x = .slice (some ad) m c)
    (hown : Own w base (.slice (some ⟨g, 0, none⟩) len cap) xs) (hb : ∀ j, j < m → w.cell? (ad.add j) = some (.int .u8 (l.getD j 0))) (hroom : len + m ≤ cap)
    (h : ∀ w', Own w' base (.slice (some ⟨g, 0, none⟩) (len + m) cap) (xs ++ l) → w.grownBy w' (some g) → wpList Tryz.prog ops Q rest (a.put o.dst (.slice (some ⟨g, 0, none⟩) (len + m) cap)) w') : wpList Tryz.prog ops Q (o :: rest) a w := by
  subst hl
  subst hm
  obtain ⟨i0, hi, hz0, hz1, hz2⟩ := info_parts Tryz.infoByte
  refine wpList_append_fits w hgd s x 35 ho base 5 i0 1 Tryz.underlying35 hi hz1 g xs.length cap (xs.map (Value.int .u8)) hs hown ad l.length c (l.map (Value.int .u8)) hx (by simp) ?_ (ints_oneCell .u8 l) hroom ?_
  · intro j u hj
    have hjl : j < l.length := by simpa using (List.getElem?_eq_some_iff.1 hj).1
    rw [hb j hjl, ← hj]
    simp [List.getD, hjl]
  · intro w' h1 h2
    refine h w' ?_ h2
    unfold Own
    rw [List.length_append, List.map_append]
    exact h1

def fhN (p m : Nat) : List (Int × Nat) := [(1, 2), (243, 2), (1, 4), (0, 8), (0, 8), ((p : Int), 8), (1, 4), (64, 2), (0, 2), (0, 2), (64, 2), ((m : Int), 2), ((m : Int) - 1, 2)]
def fhH : List Int := [127, 69, 76, 70, 2, 1, 1, 0, 0, 0, 0, 0, 0, 0, 0, 0]
def fhP (p m k : Nat) : List Int := fhH ++ ((fhN p m).take k).flatMap fun q => byN (uOf q.1) q.2
theorem fhP_all (p m : Nat) : fhP p m 13 = fhL p m := by
  unfold fhP fhL fhN fhH
  simp only [List.take_succ_cons, List.take_zero, List.flatMap_cons, List.flatMap_nil, List.append_nil]
  rw [show byN (uOf 0) 8 ++ (byN (uOf 0) 8 ++ (byN (uOf (p : Int)) 8 ++ (byN (uOf 1) 4 ++ (byN (uOf 64) 2 ++ (byN (uOf 0) 2 ++ (byN (uOf 0) 2 ++ (byN (uOf 64) 2 ++ (byN (uOf (m : Int)) 2 ++ byN (uOf ((m : Int) - 1)) 2)))))))) = (byN (uOf 0) 8 ++ byN (uOf 0) 8) ++ (byN (uOf (p : Int)) 8 ++ (byN (uOf 1) 4 ++ ((byN (uOf 64) 2 ++ (byN (uOf 0) 2 ++ (byN (uOf 0) 2 ++ byN (uOf 64) 2))) ++ (byN (uOf (m : Int)) 2 ++ byN (uOf ((m : Int) - 1)) 2)))) from by simp only [List.append_assoc]]
  rw [show byN (uOf 0) 8 ++ byN (uOf 0) 8 = List.replicate 16 0 from by decide +kernel, show byN (uOf 64) 2 ++ (byN (uOf 0) 2 ++ (byN (uOf 0) 2 ++ byN (uOf 64) 2)) = [64, 0, 0, 0, 0, 0, 64, 0] from by decide +kernel]
theorem fhP_succ (p m k : Nat) (hk : k < 13) : fhP p m (k + 1) = fhP p m k ++ byN (uOf ((fhN p m).getD k (0, 0)).1) ((fhN p m).getD k (0, 0)).2 := by
  unfold fhP
  rw [take_snoc (0, 0) (fhN p m) k hk, List.flatMap_append, List.flatMap_singleton, List.append_assoc]
theorem fhN_sz (p m k : Nat) (hk : k < 13) : 0 < ((fhN p m).getD k (0, 0)).2 ∧ ((fhN p m).getD k (0, 0)).2 ≤ 8 := by
  match k, hk with
  | 0, _ | 1, _ | 2, _ | 3, _ | 4, _ | 5, _ | 6, _ | 7, _ | 8, _ | 9, _ | 10, _ | 11, _ | 12, _ => exact ⟨by simp [fhN], by simp [fhN]⟩
theorem fhN_may (p m k : Nat) (hp : p ≤ 100000000) (h1 : 1 ≤ m) (hm : m ≤ 60000) (hk : k < 13) : mayB ((fhN p m).getD k (0, 0)).1 (((fhN p m).getD k (0, 0)).2 : Nat) = true ∧ 0 ≤ ((fhN p m).getD k (0, 0)).1 ∧ ((fhN p m).getD k (0, 0)).1 ≤ 100000000 := by
  match k, hk with
  | 0, _ => exact ⟨(mayB_2 1).trans (by decide), by simp [fhN], by simp [fhN]⟩
  | 2, _ | 6, _ => exact ⟨(mayB_4 1).trans (by decide), by simp [fhN], by simp [fhN]⟩
  | 1, _ => exact ⟨(mayB_2 243).trans (by decide), by simp [fhN], by simp [fhN]⟩
  | 3, _ | 4, _ => exact ⟨mayB_8 0, by simp [fhN], by simp [fhN]⟩
  | 5, _ => exact ⟨mayB_8 p, by simp [fhN], by simp [fhN]; omega⟩
  | 7, _ | 10, _ => exact ⟨(mayB_2 64).trans (by decide), by simp [fhN], by simp [fhN]⟩
  | 8, _ | 9, _ => exact ⟨(mayB_2 0).trans (by decide), by simp [fhN], by simp [fhN]⟩
  | 11, _ => exact ⟨(mayB_2 m).trans (decide_eq_true (by omega)), by simp [fhN], by simp [fhN]; omega⟩
  | 12, _ => exact ⟨(mayB_2 ((m : Int) - 1)).trans (decide_eq_true (by omega)), by simp [fhN]; omega, by simp [fhN]; omega⟩
theorem fhP_len (p m k : Nat) (hk : k ≤ 13) : 16 ≤ (fhP p m k).length ∧ (fhP p m k).length ≤ 64 := by
  match k, hk with
  | 0, _ | 1, _ | 2, _ | 3, _ | 4, _ | 5, _ | 6, _ | 7, _ | 8, _ | 9, _ | 10, _ | 11, _ | 12, _ | 13, _ => exact ⟨by simp [fhP, fhN, fhH, byN_length], by simp [fhP, fhN, fhH, byN_length]⟩

/-- The table of the numbers and their sizes. -/
def FhR (w : World) (g p m : Nat) : Prop := ∀ k, k < 13 → w.cell? ⟨g, k * 2, none⟩ = some (.int .i64 ((fhN p m).getD k (0, 0)).1) ∧ w.cell? ⟨g, k * 2 + 1, none⟩ = some (.int .i64 (((fhN p m).getD k (0, 0)).2 : Nat))
theorem FhR.kept {w w' : World} {g p m : Nat} (h : FhR w g p m) (k : Kept w w') : FhR w' g p m := fun i hi => ⟨k.cell (h i hi).1, k.cell (h i hi).2⟩
def fhO (p m : Nat) : Obj := .cells #[.int .i64 1, .int .i64 2, .int .i64 243, .int .i64 2, .int .i64 1, .int .i64 4, .int .i64 0, .int .i64 8, .int .i64 0, .int .i64 8, .int .i64 (p : Int), .int .i64 8, .int .i64 1, .int .i64 4, .int .i64 64, .int .i64 2, .int .i64 0, .int .i64 2, .int .i64 0, .int .i64 2, .int .i64 64, .int .i64 2, .int .i64 (m : Int), .int .i64 2, .int .i64 ((m : Int) - 1), .int .i64 2] 161
theorem fhR_new (w : World) (p m : Nat) : FhR (w.alloc (fhO p m)) w.heap.size p m := fun k hk => by
  match k, hk with
  | 0, _ | 1, _ | 2, _ | 3, _ | 4, _ | 5, _ | 6, _ | 7, _ | 8, _ | 9, _ | 10, _ | 11, _ | 12, _ => exact ⟨by simp [fhO, fhN], by simp [fhO, fhN]⟩
theorem nm_sign : nm ⟨#[127, 69, 76, 70]⟩ = [127, 69, 76, 70] := by decide +kernel
end Go.Proofs.YtljmgbpecoifnaaGreatDoor
