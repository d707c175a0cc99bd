/- slices.EqualFunc of sections: the program's. Whether two groups are the same; slices.EqualFunc of groups: the program's. slices.EqualFunc of groups; whether two objects are the same: the program's. Whether two objects are the same: the program's. -/
import Derived.Test.YtljmgbpecoifnaaGreatDoorJay
import Derived.Test.YtljmgbpecoifnaaGreatDoorJaf
import Derived.Test.YtljmgbpecoifnaaGreatDoorJao
namespace Go.Proofs.YtljmgbpecoifnaaGreatDoor
open Go.RowKit

def sctEq (x y : SecV) : Bool := sameB x.s y.s x.al y.al x.sz y.sz x.z y.z
theorem sctEq_iff (x y : SecV) : sctEq x y = true ↔ sctOf x = sctOf y := by
  unfold sctEq sameB sctOf
  rw [decide_eq_true_eq]
  constructor
  · rintro ⟨h1, h2, h3, h4⟩
    rw [h1, h2, h3, h4]
  · intro h
    injection h with h1 h2 h3 h4
    exact ⟨nm_inj h1, h2, h4, h3⟩
set_option maxRecDepth 20000 in
set_option maxHeartbeats 3200000 in
theorem equalS_walk (a a' : Option Addr) (n n' c c' : Nat) (l l' : List SecV) (w : World) (hl : l.length = n) (hl' : l'.length = n') (hn : n ≤ 9223372036854775807) (hn' : n' ≤ 9223372036854775807) (h : SecR w a l) (h' : SecR w a' l') :
    Calls Tryz.prog 33 #[.slice a n c, .slice a' n' c', .func (.func 34) #[] #[]] w fun e w' => e = .returned (.bool (dB (l.map sctOf = l'.map sctOf))) ∧ Kept w w' := by
  by_cases hnn : n = n'
  · subst hnn
    have q : ((n : Int) != (n : Int)) = false := by simp
    go_enter Tryz.func33, Tryz.ntmps33
    go_wp2
    go_loopw [17] (fun i wr => ∃ k : Nat, k ≤ n ∧ i = .int .i64 k ∧ Kept w wr ∧ Hid (∀ j, j < k → sctOf (l.getD j secNo) = sctOf (l'.getD j secNo))) (fun i _ => n - (intOf i).toNat)
    case atStart => exact ⟨0, Nat.zero_le _, rfl, Kept.refl _, fun _ hj => absurd hj (Nat.not_lt_zero _)⟩
    case round =>
      obtain ⟨k, hk, rfl, K, A⟩ := hrel
      by_cases hlt : k < n
      · obtain ⟨b, off, rfl, hA⟩ := (h.kept K).cells (show k < l.length by omega)
        obtain ⟨b', off', rfl, hA'⟩ := (h'.kept K).cells (show k < l'.length by omega)
        obtain ⟨x, hx⟩ : ∃ x, l.getD k secNo = x := ⟨_, rfl⟩
        obtain ⟨y, hy⟩ : ∃ y, l'.getD k secNo = y := ⟨_, rfl⟩
        rw [hx] at hA
        rw [hy] at hA'
        have HX : Hid (l.getD k secNo = x ∧ l'.getD k secNo = y ∧ k < l.length) := ⟨hx, hy, by omega⟩
        clear hx hy
        have HQ := sctEq_iff x y
        obtain ⟨s, al, xa, xc, sz, z⟩ := x
        obtain ⟨s', al', ya, yc, sz', z'⟩ := y
        obtain ⟨m, hm⟩ : ∃ m, z.length = m := ⟨_, rfl⟩
        obtain ⟨m', hm'⟩ : ∃ m', z'.length = m' := ⟨_, rfl⟩
        have x0 : wr.cell? ⟨b, off + k * 4, none⟩ = some (.string s) := hA.c0
        have x1 : wr.cell? ⟨b, off + k * 4 + 1, none⟩ = some (.int .i64 al) := hA.c1
        have x2 : wr.cell? ⟨b, off + k * 4 + 2, none⟩ = some (.slice xa m xc) := by rw [← hm]; exact hA.c2
        have x3 : wr.cell? ⟨b, off + k * 4 + 3, none⟩ = some (.int .i64 sz) := hA.c3
        obtain ⟨wb, wc, hwb, hwc, Z1, Z2, K2, s2⟩ := put_sec wr s al (.slice xa m xc) sz
        have hA2 := hA'.kept K2
        have y0 : wc.cell? ⟨b', off' + k * 4, none⟩ = some (.string s') := hA2.c0
        have y1 : wc.cell? ⟨b', off' + k * 4 + 1, none⟩ = some (.int .i64 al') := hA2.c1
        have y2 : wc.cell? ⟨b', off' + k * 4 + 2, none⟩ = some (.slice ya m' yc) := by rw [← hm']; exact hA2.c2
        have y3 : wc.cell? ⟨b', off' + k * 4 + 3, none⟩ = some (.int .i64 sz') := hA2.c3
        obtain ⟨wd, we, hwd, hwe, Y1, Y2, K3, s3⟩ := put_sec wc s' al' (.slice ya m' yc) sz'
        obtain ⟨gb, hgb⟩ : ∃ gb, wr.heap.size = gb := ⟨_, rfl⟩
        rw [hgb] at hwc Z1 Z2 s2
        rw [s2] at hwe Y1 Y2 s3
        have Z3 := Z2.kept K3
        obtain ⟨z0, z1, z2, z3, p0, p1, p2, p3⟩ := Z1
        obtain ⟨u0, u1, u2, u3, _, _, _, _⟩ := id Z3
        obtain ⟨v0, v1, v2, v3, r0, r1, r2, r3⟩ := Y1
        obtain ⟨t0, t1, t2, t3, _, _, _, _⟩ := id Y2
        have hS := same_walk s s' al al' sz sz' xa ya m xc m' yc z z' we hm hm' (hA.ok.byt.kept (K2.trans K3)) (hA'.ok.byt.kept (K2.trans K3)) hA.ok.rng hA'.ok.rng
        obtain ⟨q9, hq9⟩ : ∃ q9, sameB s s' al al' sz sz' z z' = q9 := ⟨_, rfl⟩
        rw [hq9] at hS
        have HQ : Hid (q9 = true ↔ sctOf ⟨s, al, xa, xc, sz, z⟩ = sctOf ⟨s', al', ya, yc, sz', z'⟩) := by unfold Hid; rw [← hq9]; exact HQ
        clear hA hA' hA2 hq9 hm hm'
        cases q9 with
        | true =>
          have HE : Hid (sctOf ⟨s, al, xa, xc, sz, z⟩ = sctOf ⟨s', al', ya, yc, sz', z'⟩) := HQ.out.1 rfl
          clear HQ
          go_wp2_with (go_at_call 34; refine hS.mono ?_; rintro e w5 ⟨rfl, k5⟩)
          go_roundw
          case rel =>
            refine ⟨k + 1, by omega, by go_num, ((K.trans K2).trans K3).trans k5, fun j hj => ?_⟩
            by_cases ej : j = k
            · subst ej; rw [HX.out.1, HX.out.2.1, HE.out]
            · exact A.out j (by omega)
          case measure => simp [intOf]; omega
        | false =>
          have HE : Hid (dB (l.map sctOf = l'.map sctOf) = false) := dB_false (fun h => by
            have h2 : (l.map sctOf).getD k sctNo = (l'.map sctOf).getD k sctNo := by rw [h]
            rw [getD_map' (f := sctOf) (no := secNo) (no' := sctNo) rfl, getD_map' (f := sctOf) (no := secNo) (no' := sctNo) rfl, HX.out.1, HX.out.2.1] at h2
            have := HQ.out.2 h2
            cases this)
          clear HQ
          go_wp2_with (go_at_call 34; refine hS.mono ?_; rintro e w5 ⟨rfl, k5⟩)
          go_ret
          exact ⟨by rw [HE.out]; rfl, ((K.trans K2).trans K3).trans k5⟩
      · obtain rfl : k = n := by omega
        have HE : Hid (dB (l.map sctOf = l'.map sctOf) = true) := dB_true (eq_of_all (n := k) sctNo (by rw [List.length_map]; exact hl) (by rw [List.length_map]; exact hl') (fun i hi => by
          rw [getD_map' (f := sctOf) (no := secNo) (no' := sctNo) rfl, getD_map' (f := sctOf) (no := secNo) (no' := sctNo) rfl]
          exact A.out i hi))
        go_wp2
        go_ret
        exact ⟨by rw [HE.out]; rfl, K⟩
  · have q : ((n : Int) != (n' : Int)) = true := by rw [bne_iff_ne]; omega
    have HE : Hid (dB (l.map sctOf = l'.map sctOf) = false) := dB_false (fun h => hnn (by
      have := congrArg List.length h
      rw [List.length_map, List.length_map] at this
      omega))
    go_enter Tryz.func33, Tryz.ntmps33
    go_wp2
    go_ret
    exact ⟨by rw [HE.out]; rfl, Kept.refl _⟩

def grpEq (x y : GrpV) : Bool := (x.s.toList == y.s.toList) && decide (x.l = y.l)
theorem grpEq_iff (x y : GrpV) : grpEq x y = true ↔ grpOfV x = grpOfV y := by
  unfold grpEq grpOfV
  rw [Bool.and_eq_true, decide_eq_true_eq, beq_iff_eq, toList_inj]
  constructor
  · rintro ⟨h1, h2⟩
    rw [h1, h2]
  · intro h
    injection h with h1 h2
    exact ⟨nm_inj h1, h2⟩
set_option maxRecDepth 20000 in
set_option maxHeartbeats 3200000 in
theorem sameGroup_walk (s s' : ByteArray) (a a' : Option Addr) (n n' c c' : Nat) (l l' : List Int) (w : World) (hl : l.length = n) (hl' : l'.length = n') (hn : n ≤ 9223372036854775807) (hn' : n' ≤ 9223372036854775807) (h : Nums w a l) (h' : Nums w a' l') :
    Calls Tryz.prog 38 #[.agg #[.string s, .slice a n c], .agg #[.string s', .slice a' n' c']] w fun e w' => e = .returned (.bool ((s.toList == s'.toList) && decide (l = l'))) ∧ Kept w w' := by
  obtain ⟨wa, hwa, A1, kA, sA⟩ := box_grp w (.string s) (.slice a n c)
  obtain ⟨wb, hwb, B1, kB, sB⟩ := box_grp wa (.string s') (.slice a' n' c')
  obtain ⟨g, hg⟩ : ∃ g, w.heap.size = g := ⟨_, rfl⟩
  rw [hg] at A1 sA
  rw [sA] at B1 sB
  obtain ⟨c0, c1, _, _⟩ := A1.kept kB
  obtain ⟨d0, d1, _, _⟩ := id B1
  have KB := kA.trans kB
  have hE := fun w' (k : Kept wb w') => equalI_walk a a' n n' c c' l l' w' hl hl' hn hn' ((h.kept KB).kept k) ((h'.kept KB).kept k)
  cases hs : (s.toList == s'.toList) with
  | true =>
    go_enter Tryz.func38, Tryz.ntmps38
    go_wp2_with (go_at_call 75; refine (hE _ (by first | exact Kept.refl _ | exact kept_drew _)).mono ?_; rintro e w2 ⟨rfl, k2⟩)
    go_ret
    exact ⟨rfl, KB.trans k2⟩
  | false =>
    clear hE
    go_enter Tryz.func38, Tryz.ntmps38
    go_wp2
    go_ret
    exact ⟨rfl, KB⟩

set_option maxRecDepth 20000 in
set_option maxHeartbeats 3200000 in
theorem equalG_walk (a a' : Option Addr) (n n' c c' : Nat) (l l' : List GrpV) (w : World) (hl : l.length = n) (hl' : l'.length = n') (hn : n ≤ 9223372036854775807) (hn' : n' ≤ 9223372036854775807) (h : GrpR w a l) (h' : GrpR w a' l') :
    Calls Tryz.prog 37 #[.slice a n c, .slice a' n' c', .func (.func 38) #[] #[]] w fun e w' => e = .returned (.bool (dB (l.map grpOfV = l'.map grpOfV))) ∧ Kept w w' := by
  by_cases hnn : n = n'
  · subst hnn
    have q : ((n : Int) != (n : Int)) = false := by simp
    go_enter Tryz.func37, Tryz.ntmps37
    go_wp2
    go_loopw [17] (fun i wr => ∃ k : Nat, k ≤ n ∧ i = .int .i64 k ∧ Kept w wr ∧ Hid (∀ j, j < k → grpOfV (l.getD j grpV0) = grpOfV (l'.getD j grpV0))) (fun i _ => n - (intOf i).toNat)
    case atStart => exact ⟨0, Nat.zero_le _, rfl, Kept.refl _, fun _ hj => absurd hj (Nat.not_lt_zero _)⟩
    case round =>
      obtain ⟨k, hk, rfl, K, A⟩ := hrel
      by_cases hlt : k < n
      · obtain ⟨b, off, rfl, hA⟩ := (h.kept K).cells (show k < l.length by omega)
        obtain ⟨b', off', rfl, hA'⟩ := (h'.kept K).cells (show k < l'.length by omega)
        obtain ⟨x, hx⟩ : ∃ x, l.getD k grpV0 = x := ⟨_, rfl⟩
        obtain ⟨y, hy⟩ : ∃ y, l'.getD k grpV0 = y := ⟨_, rfl⟩
        rw [hx] at hA
        rw [hy] at hA'
        have HX : Hid (l.getD k grpV0 = x ∧ l'.getD k grpV0 = y ∧ k < l.length) := ⟨hx, hy, by omega⟩
        clear hx hy
        have HQ := grpEq_iff x y
        obtain ⟨s, xa, xc, z⟩ := x
        obtain ⟨s', ya, yc, z'⟩ := y
        obtain ⟨m, hm⟩ : ∃ m, z.length = m := ⟨_, rfl⟩
        obtain ⟨m', hm'⟩ : ∃ m', z'.length = m' := ⟨_, rfl⟩
        have x0 : wr.cell? ⟨b, off + k * 2, none⟩ = some (.string s) := hA.c0
        have x1 : wr.cell? ⟨b, off + k * 2 + 1, none⟩ = some (.slice xa m xc) := by rw [← hm]; exact hA.c1
        obtain ⟨wb, wc, hwb, hwc, Z1, Z2, K2, s2⟩ := put_grp wr s (.slice xa m xc)
        have y0 : wc.cell? ⟨b', off' + k * 2, none⟩ = some (.string s') := K2.cell hA'.c0
        have y1 : wc.cell? ⟨b', off' + k * 2 + 1, none⟩ = some (.slice ya m' yc) := by rw [← hm']; exact K2.cell hA'.c1
        obtain ⟨wd, we, hwd, hwe, Y1, Y2, K3, s3⟩ := put_grp wc s' (.slice ya m' yc)
        obtain ⟨gb, hgb⟩ : ∃ gb, wr.heap.size = gb := ⟨_, rfl⟩
        rw [hgb] at hwc Z1 Z2 s2
        rw [s2] at hwe Y1 Y2 s3
        have Z3 := Z2.kept K3
        obtain ⟨z0, z1, p0, p1⟩ := Z1
        obtain ⟨u0, u1, _, _⟩ := id Z3
        obtain ⟨v0, v1, r0, r1⟩ := Y1
        obtain ⟨t0, t1, _, _⟩ := id Y2
        have hm9 : m ≤ 9223372036854775807 := by have h1 : z.length ≤ xc := hA.ok.len; have h2 : xc ≤ maxLen := hA.ok.cap; unfold maxLen at h2; omega
        have hm8 : m' ≤ 9223372036854775807 := by have h1 : z'.length ≤ yc := hA'.ok.len; have h2 : yc ≤ maxLen := hA'.ok.cap; unfold maxLen at h2; omega
        have hS := sameGroup_walk s s' xa ya m m' xc yc z z' we hm hm' hm9 hm8 (hA.ok.ints.kept (K2.trans K3)) (hA'.ok.ints.kept (K2.trans K3))
        obtain ⟨q9, hq9⟩ : ∃ q9, ((s.toList == s'.toList) && decide (z = z')) = q9 := ⟨_, rfl⟩
        rw [hq9] at hS
        have HQ : Hid (q9 = true ↔ grpOfV ⟨s, xa, xc, z⟩ = grpOfV ⟨s', ya, yc, z'⟩) := by unfold Hid; rw [← hq9]; exact HQ
        clear hA hA' hq9 hm hm' hm8 hm9
        cases q9 with
        | true =>
          have HE : Hid (grpOfV ⟨s, xa, xc, z⟩ = grpOfV ⟨s', ya, yc, z'⟩) := HQ.out.1 rfl
          clear HQ
          go_wp2_with (go_at_call 38; refine hS.mono ?_; rintro e w5 ⟨rfl, k5⟩)
          go_roundw
          case rel =>
            refine ⟨k + 1, by omega, by go_num, ((K.trans K2).trans K3).trans k5, fun j hj => ?_⟩
            by_cases ej : j = k
            · subst ej; rw [HX.out.1, HX.out.2.1, HE.out]
            · exact A.out j (by omega)
          case measure => simp [intOf]; omega
        | false =>
          have HE : Hid (dB (l.map grpOfV = l'.map grpOfV) = false) := dB_false (fun h => by
            have h2 : (l.map grpOfV).getD k grpNo = (l'.map grpOfV).getD k grpNo := by rw [h]
            rw [getD_map' (f := grpOfV) (no := grpV0) (no' := grpNo) rfl, getD_map' (f := grpOfV) (no := grpV0) (no' := grpNo) rfl, HX.out.1, HX.out.2.1] at h2
            have := HQ.out.2 h2
            cases this)
          clear HQ
          go_wp2_with (go_at_call 38; refine hS.mono ?_; rintro e w5 ⟨rfl, k5⟩)
          go_ret
          exact ⟨by rw [HE.out]; rfl, ((K.trans K2).trans K3).trans k5⟩
      · obtain rfl : k = n := by omega
        have HE : Hid (dB (l.map grpOfV = l'.map grpOfV) = true) := dB_true (eq_of_all (n := k) grpNo (by rw [List.length_map]; exact hl) (by rw [List.length_map]; exact hl') (fun i hi => by
          rw [getD_map' (f := grpOfV) (no := grpV0) (no' := grpNo) rfl, getD_map' (f := grpOfV) (no := grpV0) (no' := grpNo) rfl]
          exact A.out i hi))
        go_wp2
        go_ret
        exact ⟨by rw [HE.out]; rfl, K⟩
  · have q : ((n : Int) != (n' : Int)) = true := by rw [bne_iff_ne]; omega
    have HE : Hid (dB (l.map grpOfV = l'.map grpOfV) = false) := dB_false (fun h => hnn (by
      have := congrArg List.length h
      rw [List.length_map, List.length_map] at this
      omega))
    go_enter Tryz.func37, Tryz.ntmps37
    go_wp2
    go_ret
    exact ⟨by rw [HE.out]; rfl, Kept.refl _⟩

theorem symOfV_inj {x y : SymV} (h : symOfV x = symOfV y) : x = y := by
  obtain ⟨s, b, hd, w, v, z⟩ := x
  obtain ⟨s', b', hd', w', v', z'⟩ := y
  unfold symOfV at h
  injection h with h1 h2 h3 h4 h5 h6
  have e1 : s = s' := nm_inj h1
  dsimp only at h2 h3 h4 h5 h6
  rw [e1, h2, h3, h4, h5, h6]
theorem objM_eq (o p : ObjV) : o.m = p.m ↔ o.ss.map sctOf = p.ss.map sctOf ∧ o.ys = p.ys ∧ o.rs = p.rs ∧ o.gs.map grpOfV = p.gs.map grpOfV := by
  unfold ObjV.m
  rw [ObjM.mk.injEq]
  constructor
  · rintro ⟨h1, h2, h3, h4⟩
    exact ⟨h1, (List.map_inj_right (fun x y => symOfV_inj)).1 h2, h3, h4⟩
  · rintro ⟨h1, h2, h3, h4⟩
    exact ⟨h1, by rw [h2], h3, h4⟩
theorem ObjOk.max {w : World} {o : ObjV} (h : ObjOk w o) : o.sn ≤ 9223372036854775807 ∧ o.yn ≤ 9223372036854775807 ∧ o.rn ≤ 9223372036854775807 ∧ o.gn ≤ 9223372036854775807 := by
  have h1 := h.sl
  have h2 := h.yl
  have h3 := h.rl
  have h4 := h.gl
  unfold maxLen at h1 h2 h3 h4
  omega
set_option maxRecDepth 20000 in
set_option maxHeartbeats 3200000 in
theorem osame_walk (o p : ObjV) (w : World) (hO : ObjOk w o) (hP : ObjOk w p) :
    Calls Tryz.prog 17 #[objW o, objW p] w fun e w' => e = .returned (.bool (dB (o.m = p.m))) ∧ Kept w w' := by
  obtain ⟨m1, m2, m3, m4⟩ := hO.max
  obtain ⟨n1, n2, n3, n4⟩ := hP.max
  have e1 := fun w' (k : Kept w w') => equalS_walk o.sa p.sa o.sn p.sn o.sc p.sc o.ss p.ss w' hO.hs hP.hs m1 n1 (hO.s.kept k) (hP.s.kept k)
  have e2 := fun w' (k : Kept w w') => equalY_walk o.ya p.ya o.yn p.yn o.yc p.yc o.ys p.ys w' hO.hy hP.hy m2 n2 (hO.y.kept k) (hP.y.kept k)
  have e3 := fun w' (k : Kept w w') => equalX_walk o.ra p.ra o.rn p.rn o.rc p.rc o.rs p.rs w' hO.hr hP.hr m3 n3 (hO.r.kept k) (hP.r.kept k)
  have e4 := fun w' (k : Kept w w') => equalG_walk o.ga p.ga o.gn p.gn o.gc p.gc o.gs p.gs w' hO.hg hP.hg m4 n4 (hO.g.kept k) (hP.g.kept k)
  have i1 := dB_iff (o.ss.map sctOf = p.ss.map sctOf)
  have i2 := dB_iff (o.ys = p.ys)
  have i3 := dB_iff (o.rs = p.rs)
  have i4 := dB_iff (o.gs.map grpOfV = p.gs.map grpOfV)
  generalize dB (o.ss.map sctOf = p.ss.map sctOf) = g1 at e1 i1
  generalize dB (o.ys = p.ys) = g2 at e2 i2
  generalize dB (o.rs = p.rs) = g3 at e3 i3
  generalize dB (o.gs.map grpOfV = p.gs.map grpOfV) = g4 at e4 i4
  have HA : Hid (dB (o.m = p.m) = (g1 && (g2 && (g3 && g4)))) := by
    unfold Hid
    rw [Bool.eq_iff_iff, dB_iff, objM_eq, Bool.and_eq_true, Bool.and_eq_true, Bool.and_eq_true, i1, i2, i3, i4]
  clear i1 i2 i3 i4 hO hP m1 m2 m3 m4 n1 n2 n3 n4
  generalize dB (o.m = p.m) = G at HA ⊢
  obtain ⟨ss, sa, sn, sc, ys, ya, yn, yc, rs, ra, rn, rc, gs, ga, gn, gc⟩ := o
  obtain ⟨ss', sa', sn', sc', ys', ya', yn', yc', rs', ra', rn', rc', gs', ga', gn', gc'⟩ := p
  dsimp only at e1 e2 e3 e4
  obtain ⟨wa, hwa, A1, kA, sA⟩ := box_obj w (.slice sa sn sc) (.slice ya yn yc) (.slice ra rn rc) (.slice ga gn gc)
  obtain ⟨wb, hwb, B1, kB, sB⟩ := box_obj wa (.slice sa' sn' sc') (.slice ya' yn' yc') (.slice ra' rn' rc') (.slice ga' gn' gc')
  obtain ⟨g, hg⟩ : ∃ g, w.heap.size = g := ⟨_, rfl⟩
  rw [hg] at A1 sA
  rw [sA] at B1 sB
  have KB := kA.trans kB
  have A2 := A1.kept kB
  obtain ⟨c0, c1, c2, c3, _, _, _, _⟩ := id A2
  obtain ⟨d0, d1, d2, d3, _, _, _, _⟩ := id B1
  cases g1 with
  | false =>
    clear e2 e3 e4
    go_enter Tryz.func17, Tryz.ntmps17
    go_wp2_with (first
      | (go_at_call 33; refine (e1 _ KB).mono ?_; rintro e w1 ⟨rfl, k1⟩; have K1 : Kept w w1 := KB.trans k1; clear c0 c1 c2 c3 d0 d1 d2 d3; have A3 := A2.kept k1; have B2 := B1.kept k1; obtain ⟨c0, c1, c2, c3, _, _, _, _⟩ := id A3; obtain ⟨d0, d1, d2, d3, _, _, _, _⟩ := id B2))
    go_ret
    exact ⟨by rw [HA.out]; rfl, K1⟩
  | true =>
    cases g2 with
    | false =>
      clear e3 e4
      go_enter Tryz.func17, Tryz.ntmps17
      go_wp2_with (first
        | (go_at_call 33; refine (e1 _ KB).mono ?_; rintro e w1 ⟨rfl, k1⟩; have K1 : Kept w w1 := KB.trans k1; clear c0 c1 c2 c3 d0 d1 d2 d3; have A3 := A2.kept k1; have B2 := B1.kept k1; obtain ⟨c0, c1, c2, c3, _, _, _, _⟩ := id A3; obtain ⟨d0, d1, d2, d3, _, _, _, _⟩ := id B2)
        | (go_at_call 35; refine (e2 w1 K1).mono ?_; rintro e w2 ⟨rfl, k2⟩; have K2 : Kept w w2 := K1.trans k2; clear c0 c1 c2 c3 d0 d1 d2 d3; have A4 := A3.kept k2; have B3 := B2.kept k2; obtain ⟨c0, c1, c2, c3, _, _, _, _⟩ := id A4; obtain ⟨d0, d1, d2, d3, _, _, _, _⟩ := id B3))
      go_ret
      exact ⟨by rw [HA.out]; rfl, K2⟩
    | true =>
      cases g3 with
      | false =>
        clear e4
        go_enter Tryz.func17, Tryz.ntmps17
        go_wp2_with (first
          | (go_at_call 33; refine (e1 _ KB).mono ?_; rintro e w1 ⟨rfl, k1⟩; have K1 : Kept w w1 := KB.trans k1; clear c0 c1 c2 c3 d0 d1 d2 d3; have A3 := A2.kept k1; have B2 := B1.kept k1; obtain ⟨c0, c1, c2, c3, _, _, _, _⟩ := id A3; obtain ⟨d0, d1, d2, d3, _, _, _, _⟩ := id B2)
          | (go_at_call 35; refine (e2 w1 K1).mono ?_; rintro e w2 ⟨rfl, k2⟩; have K2 : Kept w w2 := K1.trans k2; clear c0 c1 c2 c3 d0 d1 d2 d3; have A4 := A3.kept k2; have B3 := B2.kept k2; obtain ⟨c0, c1, c2, c3, _, _, _, _⟩ := id A4; obtain ⟨d0, d1, d2, d3, _, _, _, _⟩ := id B3)
          | (go_at_call 36; refine (e3 w2 K2).mono ?_; rintro e w3 ⟨rfl, k3⟩; have K3 : Kept w w3 := K2.trans k3; clear c0 c1 c2 c3 d0 d1 d2 d3; have A5 := A4.kept k3; have B4 := B3.kept k3; obtain ⟨c0, c1, c2, c3, _, _, _, _⟩ := id A5; obtain ⟨d0, d1, d2, d3, _, _, _, _⟩ := id B4))
        go_ret
        exact ⟨by rw [HA.out]; rfl, K3⟩
      | true =>
        cases g4 with
        | false =>
          go_enter Tryz.func17, Tryz.ntmps17
          go_wp2_with (first
            | (go_at_call 33; refine (e1 _ KB).mono ?_; rintro e w1 ⟨rfl, k1⟩; have K1 : Kept w w1 := KB.trans k1; clear c0 c1 c2 c3 d0 d1 d2 d3; have A3 := A2.kept k1; have B2 := B1.kept k1; obtain ⟨c0, c1, c2, c3, _, _, _, _⟩ := id A3; obtain ⟨d0, d1, d2, d3, _, _, _, _⟩ := id B2)
            | (go_at_call 35; refine (e2 w1 K1).mono ?_; rintro e w2 ⟨rfl, k2⟩; have K2 : Kept w w2 := K1.trans k2; clear c0 c1 c2 c3 d0 d1 d2 d3; have A4 := A3.kept k2; have B3 := B2.kept k2; obtain ⟨c0, c1, c2, c3, _, _, _, _⟩ := id A4; obtain ⟨d0, d1, d2, d3, _, _, _, _⟩ := id B3)
            | (go_at_call 36; refine (e3 w2 K2).mono ?_; rintro e w3 ⟨rfl, k3⟩; have K3 : Kept w w3 := K2.trans k3; clear c0 c1 c2 c3 d0 d1 d2 d3; have A5 := A4.kept k3; have B4 := B3.kept k3; obtain ⟨c0, c1, c2, c3, _, _, _, _⟩ := id A5; obtain ⟨d0, d1, d2, d3, _, _, _, _⟩ := id B4)
            | (go_at_call 37; refine (e4 w3 K3).mono ?_; rintro e w4 ⟨rfl, k4⟩; have K4 : Kept w w4 := K3.trans k4; clear c0 c1 c2 c3 d0 d1 d2 d3; have A6 := A5.kept k4; have B5 := B4.kept k4; obtain ⟨c0, c1, c2, c3, _, _, _, _⟩ := id A6; obtain ⟨d0, d1, d2, d3, _, _, _, _⟩ := id B5))
          go_ret
          exact ⟨by rw [HA.out]; rfl, K4⟩
        | true =>
          go_enter Tryz.func17, Tryz.ntmps17
          go_wp2_with (first
            | (go_at_call 33; refine (e1 _ KB).mono ?_; rintro e w1 ⟨rfl, k1⟩; have K1 : Kept w w1 := KB.trans k1; clear c0 c1 c2 c3 d0 d1 d2 d3; have A3 := A2.kept k1; have B2 := B1.kept k1; obtain ⟨c0, c1, c2, c3, _, _, _, _⟩ := id A3; obtain ⟨d0, d1, d2, d3, _, _, _, _⟩ := id B2)
            | (go_at_call 35; refine (e2 w1 K1).mono ?_; rintro e w2 ⟨rfl, k2⟩; have K2 : Kept w w2 := K1.trans k2; clear c0 c1 c2 c3 d0 d1 d2 d3; have A4 := A3.kept k2; have B3 := B2.kept k2; obtain ⟨c0, c1, c2, c3, _, _, _, _⟩ := id A4; obtain ⟨d0, d1, d2, d3, _, _, _, _⟩ := id B3)
            | (go_at_call 36; refine (e3 w2 K2).mono ?_; rintro e w3 ⟨rfl, k3⟩; have K3 : Kept w w3 := K2.trans k3; clear c0 c1 c2 c3 d0 d1 d2 d3; have A5 := A4.kept k3; have B4 := B3.kept k3; obtain ⟨c0, c1, c2, c3, _, _, _, _⟩ := id A5; obtain ⟨d0, d1, d2, d3, _, _, _, _⟩ := id B4)
            | (go_at_call 37; refine (e4 w3 K3).mono ?_; rintro e w4 ⟨rfl, k4⟩; have K4 : Kept w w4 := K3.trans k4; clear c0 c1 c2 c3 d0 d1 d2 d3; have A6 := A5.kept k4; have B5 := B4.kept k4; obtain ⟨c0, c1, c2, c3, _, _, _, _⟩ := id A6; obtain ⟨d0, d1, d2, d3, _, _, _, _⟩ := id B5))
          go_ret
          exact ⟨by rw [HA.out]; rfl, K4⟩
end Go.Proofs.YtljmgbpecoifnaaGreatDoor
