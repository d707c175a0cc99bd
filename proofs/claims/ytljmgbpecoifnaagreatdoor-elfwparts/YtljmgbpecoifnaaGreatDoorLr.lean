/- A file's heads tell places within it: the law's walk, its loop. -/
import Derived.Test.YtljmgbpecoifnaaGreatDoorLq
import Derived.Lib.QuietBelow
namespace Go.Proofs.YtljmgbpecoifnaaGreatDoor
open Go.RowKit Go.Sort

theorem secP_has {gs : List GrpM} {s : SctM} {j : Nat} (h1 : 1 ≤ s.al) : ((secP gs s j).al : Int) = s.al ∧ (secP gs s j).z = s.z ∧ ((secP gs s j).ty = 8 → (secP gs s j).sz = s.sz) := by
  refine ⟨?_, rfl, ?_⟩
  · show ((s.al.toNat : Nat) : Int) = s.al; omega
  · unfold secP
    dsimp only
    intro h
    by_cases e : kindN s.nm = 4
    · rw [if_pos e]
    · rw [if_neg e] at h; cases h
theorem byt_cut {w : World} {g : Nat} {L : List Int} (h : ∀ i, i < L.length → w.cell? ⟨g, i, none⟩ = some (.int .u8 (L.getD i 0))) {lo k : Nat} (hk : lo + k ≤ L.length) : Byt w (some ⟨g, lo, none⟩) ((L.drop lo).take k) :=
  .inr ⟨g, lo, rfl, fun i hi => by
    have hi' : i < k := by rw [List.length_take] at hi; omega
    rw [h (lo + i) (by omega)]
    congr 2
    rw [List.getD, List.getD, List.getElem?_take_of_lt hi', List.getElem?_drop]⟩
theorem wr_n {x : Int} {n : Nat} (h : x = n) (hn : n ≤ 1000000) : Go.RowKit.wrap64 x = n ∧ IntKind.i64.wrap x = n := by
  subst h
  exact ⟨w64 (by omega) (by omega), w64i (by omega) (by omega)⟩
theorem wr_parts {sn m p n X : Nat} (hX : 64 * m = X) (hp : p + X = n) (hn : n ≤ 65536) (hs : sn ≤ 65536) :
    (Go.RowKit.wrap64 (4 + (sn : Int)) = 4 + (sn : Int) ∧ IntKind.i64.wrap (4 + (sn : Int)) = 4 + (sn : Int)) ∧ (Go.RowKit.wrap64 (64 * (m : Int)) = (X : Int) ∧ IntKind.i64.wrap (64 * (m : Int)) = (X : Int)) ∧ Go.RowKit.wrap64 ((p : Int) + (X : Int)) = (n : Int) ∧ IntKind.i64.wrap ((p : Int) + (X : Int)) = (n : Int) := by
  have h1 := wr_n (x := 4 + (sn : Int)) (n := 4 + sn) (by omega) (by omega)
  have h2 := wr_n (x := 64 * (m : Int)) (n := X) (by omega) (by omega)
  have h3 := wr_n (x := (p : Int) + (X : Int)) (n := n) (by omega) (by omega)
  have e : ((4 + sn : Nat) : Int) = 4 + (sn : Int) := by omega
  rw [e] at h1
  exact ⟨h1, h2, h3⟩
theorem wr_loop {p j Y Z U : Nat} (hY : 64 * (j + 1) = Y) (hZ : p + Y = Z) (hU : Z + 64 = U) (hn : U ≤ 65536) :
    (Go.RowKit.wrap64 (64 * ((j : Int) + 1)) = (Y : Int) ∧ IntKind.i64.wrap (64 * ((j : Int) + 1)) = (Y : Int)) ∧ (Go.RowKit.wrap64 ((p : Int) + (Y : Int)) = (Z : Int) ∧ IntKind.i64.wrap ((p : Int) + (Y : Int)) = (Z : Int)) ∧ Go.RowKit.wrap64 ((Z : Int) + 64) = (U : Int) ∧ IntKind.i64.wrap ((Z : Int) + 64) = (U : Int) :=
  ⟨wr_n (x := 64 * ((j : Int) + 1)) (n := Y) (by omega) (by omega), wr_n (x := (p : Int) + (Y : Int)) (n := Z) (by omega) (by omega), wr_n (x := (Z : Int) + 64) (n := U) (by omega) (by omega)⟩
theorem wr_end {a b V : Nat} (h : a + b = V) (hn : V ≤ 65536) : Go.RowKit.wrap64 ((a : Int) + (b : Int)) = (V : Int) ∧ IntKind.i64.wrap ((a : Int) + (b : Int)) = (V : Int) := wr_n (by omega) (by omega)
theorem wr_inc {j : Nat} (h : j ≤ 65536) : Go.RowKit.wrap64 ((j : Int) + 1 + 1) = (j : Int) + 1 + 1 ∧ IntKind.i64.wrap ((j : Int) + 1 + 1) = (j : Int) + 1 + 1 := by
  have h1 := wr_n (x := (j : Int) + 1 + 1) (n := j + 1 + 1) (by omega) (by omega)
  have e : ((j + 1 + 1 : Nat) : Int) = (j : Int) + 1 + 1 := by omega
  rw [e] at h1
  exact h1
theorem wr_back {j : Nat} (h : j ≤ 65536) : Go.RowKit.wrap64 (j : Int) = (j : Int) ∧ IntKind.i64.wrap (j : Int) = (j : Int) := wr_n rfl (by omega)
set_option maxRecDepth 20000 in
set_option maxHeartbeats 32000000 in
theorem partsL_walk (o : ObjV) (w : World) (hT : Tabs w) (hO : ObjOk w o) :
    Calls Tryz.prog 5 #[objW o] w fun e w' => e = .returned (.bool true) ∧ Kept w w' := by
  have hG1 := fun w' (k : Kept w w') => ogreat_walk o w' (hO.kept k)
  have hW1 := fun w' (k : Kept w w') => write_obj o w' (hO.kept k) (hT.kept k)
  have hr1 := woL_range hO
  have hH : woE o.m = 0 → ∃ p n, HdsOk o.m (woL o.m) p n := fun h0 => by
    rcases wo_cases o.m with ⟨e, _⟩ | ⟨e, _⟩ | ⟨_, e, hk, hl⟩
    · omega
    · omega
    · rw [e]
      exact ⟨_, _, hdsOk_of ((okO_iff o.m).1 hk) hl⟩
  have hL0 : woE o.m ≠ 0 → woL o.m = [] := fun h => by unfold woL; rw [if_neg h]
  have hms : o.m.ss.length = o.sn := by show (o.ss.map sctOf).length = _; rw [List.length_map]; exact hO.hs
  have hmg : ∀ j, o.m.ss.getD j sctNo = sctOf (o.ss.getD j secNo) := fun j => getD_map' (f := sctOf) (no := secNo) (no' := sctNo) rfl _ _
  generalize woE o.m = E at hW1 hH hL0
  generalize woL o.m = L at hW1 hH hL0 hr1
  generalize o.m = M at hH hms hmg
  obtain ⟨ss, sa, sn, sc, ys, ya, yn, yc, rs, ra, rn, rc, gs, ga, gn, gc⟩ := o
  have hSR : SecR w sa ss := hO.s
  have hls : ss.length = sn := hO.hs
  dsimp only at hms hmg
  clear hO
  obtain ⟨wa, hwa, A1, kA, sA⟩ := box_obj w (.slice sa sn sc) (.slice ya yn yc) (.slice ra rn rc) (.slice ga gn gc)
  have hAl := alive_walk wa (hT.kept kA)
  clear hT
  go_enter Tryz.func5, Tryz.ntmps5
  go_upto_region 4 with (go_at_call 11; refine hAl.mono ?_; rintro e w2 ⟨rfl, k2⟩)
  have K2 := kA.trans k2
  obtain ⟨c0, c1, c2, c3, _, _, _, _⟩ := id (A1.kept k2)
  have hG1' := hG1 w2 K2
  clear hG1 hAl
  go_upto_region 6 with (go_at_call 12; refine hG1'.mono ?_; rintro e w3 ⟨⟨g1, rfl⟩, k3⟩; cases g1)
  rotate_left
  · go_ret
    exact ⟨rfl, K2.trans k3⟩
  have K3 := K2.trans k3
  have A3 := (A1.kept k2).kept k3
  clear c0 c1 c2 c3 hG1'
  obtain ⟨c0, c1, c2, c3, _, _, _, _⟩ := id A3
  obtain ⟨n, hn⟩ : ∃ n, L.length = n := ⟨_, rfl⟩
  have hW1' := hW1 w3 K3
  go_upto_region 7 with (go_at_call 10; refine hW1'.mono ?_; rintro e w4 ⟨x1, rfl, O1, k4⟩; obtain ⟨a1, C1, rfl, hnC, y1, _⟩ := O1.let hn)
  have K4 := K3.trans k4
  have A4 := A3.kept k4
  clear hW1 hW1' c0 c1 c2 c3
  by_cases e1 : E = 0
  · obtain ⟨p, n', H⟩ := hH e1
    have hnn := H.len
    rw [hn] at hnn
    subst hnn
    subst e1
    clear hH hL0
    have hn0 : 0 < L.length := by have := H.p0; have := H.pn; omega
    obtain ⟨g, C, hx, _, _, _, hcell⟩ := O1.some hn0
    rw [hn] at hx
    simp only [Value.slice.injEq] at hx
    obtain ⟨rfl, _, rfl⟩ := hx
    have h40 : getV L 40 8 = (p : Int) ∧ getE L 40 8 = 0 := by
      have hi : inB L 40 8 = true := decide_eq_true (by have := H.p0; have := H.pn; omega)
      have := get_in (l := L) (at_ := 40) (size := 8) rfl hi
      exact ⟨this.1.trans H.fs.1, this.2⟩
    have h60 : getV L 60 2 = ((firstN M + 3 : Nat) : Int) ∧ getE L 60 2 = 0 := by
      have hi : inB L 60 2 = true := decide_eq_true (by have := H.p0; have := H.pn; omega)
      have := get_in (l := L) (at_ := 60) (size := 2) rfl hi
      exact ⟨this.1.trans H.fs.2, this.2⟩
    have hGet := fun at_ size => get_walk (some ⟨g, 0, none⟩) C1 L at_ size w4 hr1 (by rw [hn]; have := H.n1; omega) (by rw [hn]; exact hnC) y1
    rw [hn] at hGet
    have hg40 := hGet 40 8
    have hg60 := hGet 60 2
    rw [h40.1, h40.2] at hg40
    rw [h60.1, h60.2] at hg60
    obtain ⟨m, hm⟩ : ∃ m, firstN M + 3 = m := ⟨_, rfl⟩
    rw [hm] at hg60
    have HM : Hid (firstN M + 3 = m) := hm
    have hpn : p + 64 * m = n := by have := H.pn; omega
    have hmn : sn + 4 ≤ m := by have := H.mn; omega
    have hp0 := H.p0
    have hn1 := H.n1
    clear hGet h40 h60 hm O1
    obtain ⟨c0, c1, c2, c3, _, _, _, _⟩ := id A4
    obtain ⟨X, hX⟩ : ∃ X, 64 * m = X := ⟨_, rfl⟩
    have hpX : p + X = n := by omega
    have hsn6 : sn ≤ 65536 := by omega
    have q1 : decide ((m : Int) < 4 + (sn : Int)) = false := decide_eq_false (by omega)
    have q2 : decide ((p : Int) < 64) = false := decide_eq_false (by omega)
    have q2' : decide (p < 64) = false := decide_eq_false (by omega)
    have q3 : ((n : Int) != (n : Int)) = false := by simp
    obtain ⟨⟨r1, r1'⟩, ⟨r2, r2'⟩, r3, r3'⟩ := wr_parts hX hpX hn1 hsn6
    clear hX hpX hsn6
    go_upto_region 13 with (first
      | (go_at_call_of 19 (Value.int .i64 40); refine hg40.mono ?_; rintro e w5 ⟨rfl, hw5⟩; have hw5' := hw5.symm; subst hw5'; clear hw5)
      | (go_at_call_of 19 (Value.int .i64 60); refine hg60.mono ?_; rintro e w6 ⟨rfl, hw6⟩; have hw6' := hw6.symm; subst hw6'; clear hw6))
    clear r1 r1' r2 r2' r3 r3' q1 q2 q2' q3 hg40 hg60 c1 c2 c3 y1
    go_wp2
    go_loopw [10, 11] (fun x i wr => ∃ (k e : Nat), 1 ≤ k ∧ k ≤ m ∧ i = .int .i64 k ∧ x = .int .i64 e ∧ Kept w4 wr ∧ e ≤ p ∧ Hid (∀ j, k ≤ j + 1 → j < firstN M + 2 → e ≤ (layO 64 (allP (partsO M))).getD j 0)) (fun _ i _ => m - (intOf i).toNat)
    case atStart => exact ⟨1, 64, by omega, by omega, by go_num, rfl, Kept.refl _, hp0, fun j _ hj => (H.lo j hj).1⟩
    case round =>
      obtain ⟨k, e, hk1, hkm, rfl, rfl, K, hep, HE⟩ := hrel
      clear c0
      have A5 := A4.kept K
      obtain ⟨c0, _, _, _, _, _, _, _⟩ := id A5
      obtain ⟨j, rfl⟩ : ∃ j, k = j + 1 := ⟨k - 1, by omega⟩
      by_cases hlt : j + 1 < m
      · have HLT : Hid (j + 1 < m) := hlt
        have hj : j < firstN M + 2 := by have := HM.out; omega
        obtain ⟨hr64, hrE, hrV⟩ := H.rd j hj
        obtain ⟨hlo1, hlo2⟩ := H.lo j hj
        obtain ⟨hal1, hal2, hal3⟩ := H.al j hj
        obtain ⟨hsz1, hsz2⟩ := H.sz j hj
        have hpt := H.pt j hj
        have hHE := HE.out j (by omega) hj
        have HNX : Hid (∀ j', j < j' → j' < firstN M + 2 → (layO 64 (allP (partsO M))).getD j 0 + ((allP (partsO M)).getD j partNo).z.length ≤ (layO 64 (allP (partsO M))).getD j' 0) := fun j' h1 h2 => H.nx j j' h1 h2
        obtain ⟨pl, hpl⟩ : ∃ pl, plc (fsts (namesP (partsO M))) ((allP (partsO M)).getD j partNo).nm = pl := ⟨_, rfl⟩
        rw [hpl] at hrV
        obtain ⟨P, hP⟩ : ∃ P, (allP (partsO M)).getD j partNo = P := ⟨_, rfl⟩
        obtain ⟨of, hof⟩ : ∃ of, (layO 64 (allP (partsO M))).getD j 0 = of := ⟨_, rfl⟩
        have HP : Hid ((allP (partsO M)).getD j partNo = P ∧ (layO 64 (allP (partsO M))).getD j 0 = of) := ⟨hP, hof⟩
        rw [hP, hof] at hrV hlo2 hal3 HNX hpt
        rw [hP] at hal1 hal2 hsz1 hsz2
        rw [hof] at hlo1 hHE
        clear hpl hP hof
        obtain ⟨pnm, ty, fl, lk, nf, A, en, sz, z⟩ := P
        dsimp only at hrV hlo2 hal1 hal2 hal3 hsz1 hsz2 hpt HNX
        obtain ⟨zl, hzl⟩ : ∃ zl, z.length = zl := ⟨_, rfl⟩
        rw [hzl] at hlo2 hpt HNX
        have HZ : Hid (z.length = zl) := hzl
        obtain ⟨S, hS⟩ : ∃ S : Int, (if ty = 8 then sz else (z.length : Int)) = S := ⟨_, rfl⟩
        have HS : Hid ((if ty = 8 then sz else (z.length : Int)) = S) := hS
        have hV : Hid (rdV ((L.drop (p + 64 * (j + 1))).take 64) = [(pl : Int), ty, fl, 0, (of : Int), S, lk, nf, (A : Int), en]) := by
          unfold Hid
          rw [hrV]
          unfold hdV
          dsimp only
          rw [hS]
        obtain ⟨Y, hY⟩ : ∃ Y, 64 * (j + 1) = Y := ⟨_, rfl⟩
        rw [hY] at hr64 hrE hV
        obtain ⟨Z, hZ⟩ : ∃ Z, p + Y = Z := ⟨_, rfl⟩
        rw [hZ] at hr64 hrE hV
        obtain ⟨U, hU⟩ : ∃ U, Z + 64 = U := ⟨_, rfl⟩
        have hUn : U ≤ n := by omega
        have hbH : Byt wr (some ⟨g, Z, none⟩) ((L.drop Z).take 64) := (byt_cut hcell (by rw [hn]; omega)).kept K
        have hRd := read_walk (some ⟨g, Z, none⟩) 64 (C1 - Z) ((L.drop Z).take 64) pl ty fl 0 of S lk nf A en 0 wr hr64 (by omega) hbH (fun x hx => hr1 x (List.mem_of_mem_drop (List.mem_of_mem_take hx))) hrE hV
        have hUZ : U - Z = 64 := by omega
        have hCZ : ¬ C1 = Z := by omega
        have hUC : U ≤ C1 := by omega
        have hZU : Z ≤ U := by omega
        have s1 : decide ((of : Int) < (e : Int)) = false := decide_eq_false (by omega)
        have s1' : decide (of < e) = false := decide_eq_false (by omega)
        have s2 : decide ((A : Int) < 1) = false := decide_eq_false (by omega)
        have s2' : ((A : Int) == 0) = false := beq_eq_false_iff_ne.2 (by omega)
        have s3 : ((of : Int).tmod (A : Int)) = 0 := by rw [Int.tmod_eq_emod_of_nonneg (by omega)]; omega
        have s4 : (of : Int) % (A : Int) = 0 := by omega
        have hA0 : ¬ (A : Int) = 0 := by omega
        have HJ : Hid (Y = 64 * (j + 1) ∧ Z = p + Y ∧ U = Z + 64) := ⟨hY.symm, hZ.symm, hU.symm⟩
        have hofp : of + zl ≤ 65536 := by omega
        obtain ⟨⟨r1, r1'⟩, ⟨r2, r2'⟩, r3, r3'⟩ := wr_loop hY hZ hU (Nat.le_trans hUn hn1)
        go_upto_region 18 with (go_at_call 20; refine hRd.mono ?_; rintro e9 w5 ⟨rfl, k5⟩; obtain ⟨wx, w9, hwx, hwy, Z1, Z2, K6, s6⟩ := put_head w5 pl ty fl 0 of S lk nf A en; obtain ⟨gh, hgh⟩ : ∃ gh, w5.heap.size = gh := ⟨_, rfl⟩; rw [hgh] at hwy Z1 Z2 s6; obtain ⟨⟨z0, z1, z2, z3, z4, z5, z6, z7, z8, z9⟩, ⟨q0, q1, q2, q3, q4, q5, q6, q7, q8, q9⟩⟩ := Z1.ten; obtain ⟨⟨u0, u1, u2, u3, u4, u5, u6, u7, u8, u9⟩, _⟩ := Z2.ten)
        clear r1 r1' r2 r2' r3 r3' hRd hrE hr64 hbH hrV z0 z1 z2 z3 z4 z5 z6 z7 z8 z9 q0 q1 q2 q3 q4 q5 q6 q7 q8 q9
        have K9 : Kept w4 _ := (K.trans k5).trans K6
        have A9 := (A5.kept k5).kept K6
        have H9 : HBx w9 gh [(pl : Int), ty, fl, 0, (of : Int), S, lk, nf, (A : Int), en] := Z2
        clear c0
        obtain ⟨c0, _, _, _, _, _, _, _⟩ := id A9
        by_cases ht : ty = 8
        · subst ht
          have s5 : decide ((p : Int) < (e : Int)) = false := decide_eq_false (by omega)
          have s5' : decide (p < e) = false := decide_eq_false (by omega)
          have hSz : S = sz := by rw [← hS, if_pos rfl]
          have HNXT : Hid (∀ j', j + 1 + 1 ≤ j' + 1 → j' < firstN M + 2 → e ≤ (layO 64 (allP (partsO M))).getD j' 0) := fun j' h1 h2 => HE.out j' (by omega) h2
          by_cases hjs : sn < j + 1
          · have d1 : decide ((sn : Int) < (j : Int) + 1) = true := decide_eq_true (by omega)
            clear hSz hS hV
            go_wp2
            go_roundw
            case rel => exact ⟨j + 1 + 1, e, by omega, Nat.succ_le_of_lt HLT.out, by go_num, rfl, K9, hep, HNXT⟩
            case measure =>
              have h9 := HLT.out
              clear HLT
              simp [intOf]
              omega
          · have d1 : decide ((sn : Int) < (j : Int) + 1) = false := decide_eq_false (by omega)
            have hjsn : j < sn := by omega
            obtain ⟨b, off, rfl, hAt⟩ := (hSR.kept (K4.trans K9)).cells (show j < ss.length by omega)
            have hsc := H.sc j (by rw [hms]; exact hjsn)
            have hsb := H.sb j (by rw [hms]; exact hjsn)
            obtain ⟨v, hv⟩ : ∃ v, ss.getD j secNo = v := ⟨_, rfl⟩
            rw [hmg, hv] at hsc hsb
            rw [HP.out.1] at hsc
            rw [hv] at hAt
            obtain ⟨s, al, a', cp, sz', z'⟩ := v
            obtain ⟨g1, g2, g3⟩ : (A : Int) = al ∧ z = z' ∧ ((8 : Int) = 8 → sz = sz') := by
              have h := secP_has (gs := M.gs) (s := sctOf ⟨s, al, a', cp, sz', z'⟩) (j := j) hsb.1
              rw [← hsc] at h
              exact h
            clear hsc hsb
            subst g1
            subst g2
            have x0 : w9.cell? ⟨b, off + j * 4, none⟩ = some (.string s) := hAt.c0
            have x1 : w9.cell? ⟨b, off + j * 4 + 1, none⟩ = some (.int .i64 (A : Int)) := hAt.c1
            have x2 : w9.cell? ⟨b, off + j * 4 + 2, none⟩ = some (.slice a' zl cp) := by rw [← hzl]; exact hAt.c2
            have x3 : w9.cell? ⟨b, off + j * 4 + 3, none⟩ = some (.int .i64 sz') := hAt.c3
            obtain ⟨wb, wc, hwb, hwc, Q1, Q2, K10, s10⟩ := put_sec w9 s (A : Int) (.slice a' zl cp) sz'
            have T9 := H9.kept K10
            rw [s6] at hwc Q1 Q2 s10
            obtain ⟨z0, z1, z2, z3, p0, p1, p2, p3⟩ := Q1
            obtain ⟨v0, v1, v2, v3, _, _, _, _⟩ := id Q2
            obtain ⟨⟨u0, u1, u2, u3, u4, u5, u6, u7, u8, u9⟩, _⟩ := T9.ten
            have m1 : ((A : Int) != (A : Int)) = false := by simp
            have hbD := hAt.ok.byt.kept K10
            have HWI : Hid (Go.RowKit.wrap64 ((j : Int) + 1 + 1) = (j : Int) + 1 + 1 ∧ IntKind.i64.wrap ((j : Int) + 1 + 1) = (j : Int) + 1 + 1) := wr_inc (show j ≤ 65536 by omega)
            have HWJ : Hid (Go.RowKit.wrap64 (j : Int) = (j : Int) ∧ IntKind.i64.wrap (j : Int) = (j : Int)) := wr_back (show j ≤ 65536 by omega)
            have hszz : sz = sz' := g3 rfl
            have hSz2 : S = sz' := hSz.trans hszz
            have m2 : (S != sz') = false := by rw [bne_eq_false_iff_eq]; exact hSz2
            obtain ⟨wj1, wj2⟩ := HWJ.out
            clear hSz hS hV hszz hSz2 g3 hv hAt
            go_upto_region 26 with fail
            clear hr1 hmg hms hls hcell H hpn hmn hp0 hn1 hnC hn0 hUn hUZ hCZ hUC hZU s1 s1' s2 s2' s3 s4 hA0 hofp hSR hHE hlo1 hlo2 hal1 hal2 hal3 hsz1 hsz2 d1 hjs hjsn hY hZ hU hk1 hkm hlt hj wj1 wj2 s5 s5'
            clear z0 z1 z2 z3 p0 p1 p2 p3 x0 x1 x2 x3 c0
            go_big_quiet (fail)
            obtain ⟨wi1, wi2⟩ := HWI.out
            go_wp2
            clear wi1 wi2
            go_roundw
            case rel => exact ⟨j + 1 + 1, e, by omega, Nat.succ_le_of_lt HLT.out, by go_num, rfl, (K9.trans K10).trans (Kept.drewN _ _), hep, HNXT⟩
            case measure =>
              have h9 := HLT.out
              clear HLT
              simp [intOf]
              omega
        · have t1 : (ty != 8) = true := by rw [bne_iff_ne]; exact ht
          have t2 : (ty == 8) = false := beq_eq_false_iff_ne.2 ht
          obtain rfl : S = (zl : Int) := by rw [← hS, if_neg ht, hzl]
          obtain ⟨V, hVV⟩ : ∃ V, of + zl = V := ⟨_, rfl⟩
          have s5 : decide ((p : Int) < (V : Int)) = false := decide_eq_false (by omega)
          have s5' : decide (p < V) = false := decide_eq_false (by omega)
          have hVp : V ≤ p := by omega
          have HNXT : Hid (∀ j', j + 1 + 1 ≤ j' + 1 → j' < firstN M + 2 → V ≤ (layO 64 (allP (partsO M))).getD j' 0) := fun j' h1 h2 => by rw [← hVV]; exact HNX j' (by omega) h2
          have HWV : Hid (Go.RowKit.wrap64 ((of : Int) + (zl : Int)) = (V : Int) ∧ IntKind.i64.wrap ((of : Int) + (zl : Int)) = (V : Int)) := wr_end hVV (show V ≤ 65536 by omega)
          by_cases hjs : sn < j + 1
          · have d1 : decide ((sn : Int) < (j : Int) + 1) = true := decide_eq_true (by omega)
            obtain ⟨wv1, wv2⟩ := HWV.out
            clear ht hS hV hVV
            go_wp2
            clear wv1 wv2
            go_roundw
            case rel => exact ⟨j + 1 + 1, V, by omega, Nat.succ_le_of_lt HLT.out, by go_num, rfl, K9, hVp, HNXT⟩
            case measure =>
              have h9 := HLT.out
              clear HLT
              simp [intOf]
              omega
          · have d1 : decide ((sn : Int) < (j : Int) + 1) = false := decide_eq_false (by omega)
            have hjsn : j < sn := by omega
            obtain ⟨b, off, rfl, hAt⟩ := (hSR.kept (K4.trans K9)).cells (show j < ss.length by omega)
            have hsc := H.sc j (by rw [hms]; exact hjsn)
            have hsb := H.sb j (by rw [hms]; exact hjsn)
            obtain ⟨v, hv⟩ : ∃ v, ss.getD j secNo = v := ⟨_, rfl⟩
            rw [hmg, hv] at hsc hsb
            rw [HP.out.1] at hsc
            rw [hv] at hAt
            obtain ⟨s, al, a', cp, sz', z'⟩ := v
            obtain ⟨g1, g2, g3⟩ : (A : Int) = al ∧ z = z' ∧ (ty = 8 → sz = sz') := by
              have h := secP_has (gs := M.gs) (s := sctOf ⟨s, al, a', cp, sz', z'⟩) (j := j) hsb.1
              rw [← hsc] at h
              exact h
            clear hsc hsb
            subst g1
            subst g2
            have x0 : w9.cell? ⟨b, off + j * 4, none⟩ = some (.string s) := hAt.c0
            have x1 : w9.cell? ⟨b, off + j * 4 + 1, none⟩ = some (.int .i64 (A : Int)) := hAt.c1
            have x2 : w9.cell? ⟨b, off + j * 4 + 2, none⟩ = some (.slice a' zl cp) := by rw [← hzl]; exact hAt.c2
            have x3 : w9.cell? ⟨b, off + j * 4 + 3, none⟩ = some (.int .i64 sz') := hAt.c3
            obtain ⟨wb, wc, hwb, hwc, Q1, Q2, K10, s10⟩ := put_sec w9 s (A : Int) (.slice a' zl cp) sz'
            have T9 := H9.kept K10
            rw [s6] at hwc Q1 Q2 s10
            obtain ⟨z0, z1, z2, z3, p0, p1, p2, p3⟩ := Q1
            obtain ⟨v0, v1, v2, v3, _, _, _, _⟩ := id Q2
            obtain ⟨⟨u0, u1, u2, u3, u4, u5, u6, u7, u8, u9⟩, _⟩ := T9.ten
            have m1 : ((A : Int) != (A : Int)) = false := by simp
            have hbD := hAt.ok.byt.kept K10
            have HWI : Hid (Go.RowKit.wrap64 ((j : Int) + 1 + 1) = (j : Int) + 1 + 1 ∧ IntKind.i64.wrap ((j : Int) + 1 + 1) = (j : Int) + 1 + 1) := wr_inc (show j ≤ 65536 by omega)
            have HWJ : Hid (Go.RowKit.wrap64 (j : Int) = (j : Int) ∧ IntKind.i64.wrap (j : Int) = (j : Int)) := wr_back (show j ≤ 65536 by omega)
            have hVof : V - of = zl := by omega
            have hCof : ¬ C1 = of := by omega
            have hoV : of ≤ V := by omega
            have hVC : V ≤ C1 := by omega
            obtain ⟨sg, hsg⟩ : ∃ s, strOfNums z = s := ⟨_, rfl⟩
            have hbF : Byt wc (some ⟨g, of, none⟩) z := by rw [← hpt]; exact ((byt_cut hcell (by rw [hn]; omega)).kept K9).kept K10
            have f1 : ∀ q, (convert 35 9 (.slice (some ⟨g, of, none⟩) zl (C1 - of))).run Tryz.prog (wc.drewN q) = .ok (.string sg) (wc.drewN q) := fun q => by rw [← hsg]; exact str_len hzl (hbF.kept (Kept.drewN _ _))
            have f2 : ∀ q, (convert 35 9 (.slice a' zl cp)).run Tryz.prog (wc.drewN q) = .ok (.string sg) (wc.drewN q) := fun q => by rw [← hsg]; exact str_len hzl (hbD.kept (Kept.drewN _ _))
            have f3 := beq_true (rfl : sg = sg)
            obtain ⟨wv1, wv2⟩ := HWV.out
            obtain ⟨wj1, wj2⟩ := HWJ.out
            clear ht hS hV hVV g3 hv hAt hsg hbF hbD hpt
            go_upto_region 26 with fail
            clear hr1 hmg hms hls hcell H hpn hmn hp0 hn1 hnC hn0 hUn hUZ hCZ hUC hZU s1 s1' s2 s2' s3 s4 hA0 hofp hSR hHE hlo1 hlo2 hal1 hal2 hal3 hsz1 hsz2 d1 hjs hjsn hY hZ hU hk1 hkm hlt hj wj1 wj2 s5 s5' wv1 wv2
            clear z0 z1 z2 z3 p0 p1 p2 p3 x0 x1 x2 x3 c0
            go_big_quiet (fail)
            obtain ⟨wi1, wi2⟩ := HWI.out
            go_wp2
            clear wi1 wi2
            go_roundw
            case rel => exact ⟨j + 1 + 1, V, by omega, Nat.succ_le_of_lt HLT.out, by go_num, rfl, (K9.trans K10).trans (Kept.drewN _ _), hVp, HNXT⟩
            case measure =>
              have h9 := HLT.out
              clear HLT
              simp [intOf]
              omega
      · obtain rfl : j + 1 = m := by omega
        go_wp2
        go_ret
        exact ⟨rfl, K4.trans K⟩
  · have hE := hL0 e1
    have q1 : (E != 0) = true := by rw [bne_iff_ne]; exact e1
    obtain rfl : n = 0 := by rw [← hn, hE]; rfl
    clear hH hL0 hE e1
    go_wp2
    go_ret
    exact ⟨rfl, K4⟩
end Go.Proofs.YtljmgbpecoifnaaGreatDoor
