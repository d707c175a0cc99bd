/- Unlike objects have unlike files: the law's walk. -/
import Derived.Test.YtljmgbpecoifnaaGreatDoorLa
import Derived.Lib.QuietBelow
namespace Go.Proofs.YtljmgbpecoifnaaGreatDoor
open Go.RowKit Go.Sort

theorem woL_range {w : World} {o : ObjV} (h : ObjOk w o) : ∀ x ∈ woL o.m, 0 ≤ x ∧ x < 256 := by
  rcases wo_cases o.m with ⟨_, e, _⟩ | ⟨_, e, _⟩ | ⟨_, e, hk, _⟩
  · rw [e]; intro x hx; cases hx
  · rw [e]; intro x hx; cases hx
  · rw [e]
    refine fileO_range (okO_OkO ((okO_iff o.m).1 hk)) ?_
    intro s hs x hx
    obtain ⟨v, hv, rfl⟩ := List.mem_map.1 (show s ∈ o.ss.map sctOf from hs)
    obtain ⟨i, hi, rfl⟩ := mem_at hv secNo
    obtain ⟨_, _, _, hA⟩ := h.s.cells hi
    exact hA.ok.rng x hx
set_option maxRecDepth 20000 in
set_option maxHeartbeats 6400000 in
theorem apartO_walk (o p : ObjV) (w : World) (hT : Tabs w) (hO : ObjOk w o) (hP : ObjOk w p) :
    Calls Tryz.prog 6 #[objW o, objW p] w fun e w' => e = .returned (.bool true) ∧ Kept w w' := by
  have hG1 := fun w' (k : Kept w w') => ogreat_walk o w' (hO.kept k)
  have hG2 := fun w' (k : Kept w w') => ogreat_walk p w' (hP.kept k)
  have hW1 := fun w' (k : Kept w w') => write_obj o w' (hO.kept k) (hT.kept k)
  have hW2 := fun w' (k : Kept w w') => write_obj p w' (hP.kept k) (hT.kept k)
  have hS := fun w' (k : Kept w w') => osame_walk o p w' (hO.kept k) (hP.kept k)
  have hr1 := woL_range hO
  have hr2 := woL_range hP
  have hij := @wo_inj o.m p.m
  generalize woE o.m = E1 at hW1 hij
  generalize woL o.m = L1 at hW1 hij hr1
  generalize woE p.m = E2 at hW2 hij
  generalize woL p.m = L2 at hW2 hij hr2
  have hd := dB_iff (o.m = p.m)
  generalize dB (o.m = p.m) = S at hS hd
  obtain ⟨ss, sa, sn, sc, ys, ya, yn, yc, rs, ra, rn, rc, gs, ga, gn, gc⟩ := o
  obtain ⟨ss', sa', sn', sc', ys', ya', yn', yc', rs', ra', rn', rc', gs', ga', gn', gc'⟩ := p
  have HIJ : Hid (E1 = 0 → E2 = 0 → (strOfNums L1 = strOfNums L2 ↔ S = true)) := fun h1 h2 => by
    rw [hd, ← hij h1 h2]
    exact ⟨fun h => str_inj hr1 hr2 h, fun h => by rw [h]⟩
  clear hij hd hr1 hr2 hO hP
  obtain ⟨wa, hwa, A1, kA, sA⟩ := box_obj w (.slice sa sn sc) (.slice ya yn yc) (.slice ra rn rc) (.slice ga gn gc)
  obtain ⟨wb, hwb, B1, kB, sB⟩ := box_obj wa (.slice sa' sn' sc') (.slice ya' yn' yc') (.slice ra' rn' rc') (.slice ga' gn' gc')
  obtain ⟨g, hg⟩ : ∃ g, w.heap.size = g := ⟨_, rfl⟩
  rw [hg] at A1 sA
  rw [sA] at B1 sB
  have KB := kA.trans kB
  have A2 := A1.kept kB
  have hAl := alive_walk wb (hT.kept KB)
  clear hT
  go_enter Tryz.func6, Tryz.ntmps6
  go_upto_region 4 with (go_at_call 11; refine hAl.mono ?_; rintro e w2 ⟨rfl, k2⟩)
  have K2 := KB.trans k2
  obtain ⟨c0, c1, c2, c3, _, _, _, _⟩ := id (A2.kept k2)
  obtain ⟨d0, d1, d2, d3, _, _, _, _⟩ := id (B1.kept k2)
  have hG1' := hG1 w2 K2
  clear hG1 hAl
  go_upto_region 6 with (first
    | (go_at_call_of 12 (Value.agg #[.slice sa sn sc, .slice ya yn yc, .slice ra rn rc, .slice ga gn gc]); refine hG1'.mono ?_; rintro e w3 ⟨⟨g1, rfl⟩, k3⟩; have K3 := K2.trans k3; have hG2' := hG2 w3 K3; clear d0 d1 d2 d3; obtain ⟨d0, d1, d2, d3, _, _, _, _⟩ := id ((B1.kept k2).kept k3); cases g1)
    | (go_at_call_of 12 (Value.agg #[.slice sa' sn' sc', .slice ya' yn' yc', .slice ra' rn' rc', .slice ga' gn' gc']); refine hG2'.mono ?_; rintro e w4 ⟨⟨g2, rfl⟩, k4⟩; have K4 := K3.trans k4; cases g2))
  rotate_left
  · go_ret
    exact ⟨rfl, K4⟩
  · go_ret
    exact ⟨rfl, K3⟩
  have A4 := ((A2.kept k2).kept k3).kept k4
  have B4 := ((B1.kept k2).kept k3).kept k4
  clear c0 c1 c2 c3 d0 d1 d2 d3 hG2 hG1' hG2'
  obtain ⟨c0, c1, c2, c3, _, _, _, _⟩ := id A4
  obtain ⟨n1, hn1⟩ : ∃ n1, L1.length = n1 := ⟨_, rfl⟩
  obtain ⟨n2, hn2⟩ : ∃ n2, L2.length = n2 := ⟨_, rfl⟩
  have hW1' := hW1 w4 K4
  go_upto_region 7 with (go_at_call 10; refine hW1'.mono ?_; rintro e w5 ⟨x1, rfl, O1, k5⟩; obtain ⟨a1, C1, rfl, _, y1, _⟩ := O1.let hn1)
  clear hW1 hW1' O1 c0 c1 c2 c3
  have K5 := K4.trans k5
  obtain ⟨d0, d1, d2, d3, _, _, _, _⟩ := id (B4.kept k5)
  have hW2' := hW2 w5 K5
  go_upto_region 8 with (go_at_call 10; refine hW2'.mono ?_; rintro e w6 ⟨x2, rfl, O2, k6⟩; obtain ⟨a2, C2, rfl, _, y2, _⟩ := O2.let hn2)
  have K6 := K5.trans k6
  have A6 := (A4.kept k5).kept k6
  have B6 := (B4.kept k5).kept k6
  have y1' := y1.kept k6
  clear hW2 hW2' O2 d0 d1 d2 d3 y1
  by_cases e1 : E1 = 0
  · by_cases e2 : E2 = 0
    · have hst := HIJ.out e1 e2
      subst e1 e2
      obtain ⟨s1, hs1⟩ : ∃ s, strOfNums L1 = s := ⟨_, rfl⟩
      obtain ⟨s2, hs2⟩ : ∃ s, strOfNums L2 = s := ⟨_, rfl⟩
      rw [hs1, hs2] at hst
      have HST : Hid (s1 = s2 ↔ S = true) := hst
      clear hst HIJ
      go_upto_region 10 with fail
      have cS : ∀ d os, Calls Tryz.prog 17 #[.agg #[.slice sa sn sc, .slice ya yn yc, .slice ra rn rc, .slice ga gn gc], .agg #[.slice sa' sn' sc', .slice ya' yn' yc', .slice ra' rn' rc', .slice ga' gn' gc']] (grow (redrawn w6 d) os) fun e w'' => e = .returned (.bool S) ∧ ∃ p : Regrown, w'' = grow (redrawn w6 p.d) p.os := fun d os => Calls.regrown_of (hS _ (K6.trans (below_regrown w6 d os)))
      obtain ⟨c0, c1, c2, c3, _, _, _, _⟩ := A6
      obtain ⟨d0, d1, d2, d3, _, _, _, _⟩ := B6
      have x0 := cell_regrown c0
      have x1 := cell_regrown c1
      have x2 := cell_regrown c2
      have x3 := cell_regrown c3
      have z0 := cell_regrown d0
      have z1 := cell_regrown d1
      have z2 := cell_regrown d2
      have z3 := cell_regrown d3
      have t1 : ∀ d os, (convert 35 9 (.slice a1 n1 C1)).run Tryz.prog (grow (redrawn w6 d) os) = .ok (.string s1) (grow (redrawn w6 d) os) := fun d os => by rw [← hs1]; exact str_len hn1 (y1'.kept (below_regrown w6 d os))
      have t2 : ∀ d os, (convert 35 9 (.slice a2 n2 C2)).run Tryz.prog (grow (redrawn w6 d) os) = .ok (.string s2) (grow (redrawn w6 d) os) := fun d os => by rw [← hs2]; exact str_len hn2 (y2.kept (below_regrown w6 d os))
      clear hs1 hs2 hn1 hn2 y1' y2 hS c0 c1 c2 c3 d0 d1 d2 d3
      cases S with
      | true =>
        have hq := beq_true (HST.out.2 rfl)
        clear HST
        refine wp_region_quiet_below (by kernel_rfl) (by kernel_rfl) ?_
        repeat (quiet_step ((go_at_call 17; exact cS _ _)))
        refine wpQuiet_nil ?_
        intro w8 hw8
        have K8 : Kept w6 w8 := by
          obtain ⟨⟨dq, osq⟩, e⟩ := hw8
          rw [e]
          exact below_regrown w6 dq osq
        go_wp2
        go_ret
        exact ⟨rfl, K6.trans K8⟩
      | false =>
        have hq := beq_false (fun h => by have := HST.out.1 h; cases this)
        clear HST
        refine wp_region_quiet_below (by kernel_rfl) (by kernel_rfl) ?_
        repeat (quiet_step ((go_at_call 17; exact cS _ _)))
        refine wpQuiet_nil ?_
        intro w8 hw8
        have K8 : Kept w6 w8 := by
          obtain ⟨⟨dq, osq⟩, e⟩ := hw8
          rw [e]
          exact below_regrown w6 dq osq
        go_wp2
        go_ret
        exact ⟨rfl, K6.trans K8⟩
    · have q1 : (E1 != 0) = false := by rw [bne_eq_false_iff_eq]; exact e1
      have q2 : (E2 != 0) = true := by rw [bne_iff_ne]; exact e2
      clear hS HIJ e1 e2
      go_wp2
      go_ret
      exact ⟨rfl, K6⟩
  · have q1 : (E1 != 0) = true := by rw [bne_iff_ne]; exact e1
    clear hS HIJ e1
    go_wp2
    go_ret
    exact ⟨rfl, K6⟩
end Go.Proofs.YtljmgbpecoifnaaGreatDoor
