/- The limits, and the chapter's examples: the law's walk. -/
import Derived.Test.YtljmgbpecoifnaaGreatDoorLu
namespace Go.Proofs.YtljmgbpecoifnaaGreatDoor
open Go.RowKit

def symsO (b sb yb : Nat) (y2 : SymV) : ObjV := ⟨[txtS b], some ⟨sb, 0, none⟩, 1, 1, [symF, y2], some ⟨yb, 0, none⟩, 2, 2, [], none, 0, 0, [], none, 0, 0⟩
theorem relR_two {w : World} {rb : Nat} {x y : RelM} (hx : RelVOk x) (hy : RelVOk y) (hc : ∀ j, j < 5 → w.cell? ⟨rb, j, none⟩ = (relC x)[j]?) (hd : ∀ j, j < 5 → w.cell? ⟨rb, 5 + j, none⟩ = (relC y)[j]?) : RelR w (some ⟨rb, 0, none⟩) [x, y] := by
  refine .inr ⟨rb, 0, rfl, fun i hi => ?_⟩
  rcases (show i = 0 ∨ i = 1 by simp at hi; omega) with rfl | rfl
  · exact ⟨hx, fun j hj => by rw [Nat.zero_mul, Nat.zero_add]; exact hc j hj⟩
  · exact ⟨hy, fun j hj => by rw [Nat.one_mul, Nat.zero_add]; exact hd j hj⟩
theorem symR_two {w : World} {yb : Nat} {x y : SymV} (hx : SymVOk x) (hy : SymVOk y) (hc : ∀ j, j < 6 → w.cell? ⟨yb, j, none⟩ = (symC x)[j]?) (hd : ∀ j, j < 6 → w.cell? ⟨yb, 6 + j, none⟩ = (symC y)[j]?) : SymR w (some ⟨yb, 0, none⟩) [x, y] := by
  refine .inr ⟨yb, 0, rfl, fun i hi => ?_⟩
  rcases (show i = 0 ∨ i = 1 by simp at hi; omega) with rfl | rfl
  · exact ⟨hx, fun j hj => by rw [Nat.zero_mul, Nat.zero_add]; exact hc j hj⟩
  · exact ⟨hy, fun j hj => by rw [Nat.one_mul, Nat.zero_add]; exact hd j hj⟩
theorem relV_ok (of ty : Int) (h0 : 0 ≤ of) (h1 : of ≤ 100) (h2 : 0 ≤ ty) (h3 : ty < 256) : RelVOk ⟨1, of, ty, 0, 0⟩ :=
  ⟨(by decide : (-9223372036854775808 : Int) ≤ 1), (by decide : (1 : Int) ≤ 9223372036854775807), by show (-9223372036854775808 : Int) ≤ of; omega, by show of ≤ (9223372036854775807 : Int); omega, h2, h3, (by decide : (-9223372036854775808 : Int) ≤ 0), (by decide : (0 : Int) ≤ 9223372036854775807), (by decide : (-9223372036854775808 : Int) ≤ 0), (by decide : (0 : Int) ≤ 9223372036854775807)⟩
theorem put_obj (w : World) (v0 v1 v2 v3 : Value) : ∃ wa wb, w.alloc (.cells #[.slice none 0 0, .slice none 0 0, .slice none 0 0, .slice none 0 0] 29) = wa ∧ ((((wa.setCell ⟨w.heap.size, 0, none⟩ v0).setCell ⟨w.heap.size, 1, none⟩ v1).setCell ⟨w.heap.size, 2, none⟩ v2).setCell ⟨w.heap.size, 3, none⟩ v3) = wb ∧
    OBx wa w.heap.size (.slice none 0 0) (.slice none 0 0) (.slice none 0 0) (.slice none 0 0) ∧ OBx wb w.heap.size v0 v1 v2 v3 ∧ Kept w wb ∧ wb.heap.size = w.heap.size + 1 :=
  ⟨_, _, rfl, rfl, OBx.new _ _ _ _ _, ((((OBx.new _ _ _ _ _).set0 _).set1 _).set2 _).set3 _, ((((Kept.alloc _ _).setCell (Nat.le_refl _) _).setCell (Nat.le_refl _) _).setCell (Nat.le_refl _) _).setCell (Nat.le_refl _) _, by simp⟩
/-- An object of the law's own, checked. -/
theorem chk_rels (x y : RelM) (_hx : RelVOk x) (_hy : RelVOk y) (c : Int) (hc : chO (txtM [fM] [x, y]) = c) (w : World) (rb : Nat) (hR : RelR w (some ⟨rb, 0, none⟩) [x, y]) :
    Calls Tryz.prog 9 #[.slice (some ⟨rb, 0, none⟩) 2 2] w fun e w' => ∃ v, e = .returned v ∧ (∀ w2, Kept w' w2 → Calls Tryz.prog 8 #[v] w2 fun e w3 => e = .returned (.int .i64 c) ∧ Kept w2 w3) ∧ Kept w w' := by
  refine (text_walk (some ⟨rb, 0, none⟩) 2 2 [x, y] w hR rfl ⟨Nat.le_refl _, (by decide : 2 ≤ maxLen), fun e => by cases e⟩).mono ?_
  rintro e w' ⟨b, sb, yb, rfl, hO, hk⟩
  refine ⟨_, rfl, fun w2 hk2 => ?_, hk⟩
  have := ocheck_walk _ w2 (hO.kept hk2)
  rw [show (txtO b sb yb (some ⟨rb, 0, none⟩) 2 2 [x, y]).m = txtM [fM] [x, y] from rfl, hc] at this
  exact this
theorem text0_walk (w : World) : Calls Tryz.prog 9 #[.slice none 0 0] w fun e w' => ∃ b sb yb, e = .returned (.agg #[.slice (some ⟨sb, 0, none⟩) 1 1, .slice (some ⟨yb, 0, none⟩) 1 1, .slice none 0 0, .slice none 0 0]) ∧ SecR w' (some ⟨sb, 0, none⟩) [txtS b] ∧ Kept w w' := by
  refine (text_walk none 0 0 [] w (.inl rfl) rfl ⟨Nat.le_refl _, Nat.zero_le _, fun _ => ⟨rfl, rfl⟩⟩).mono ?_
  rintro e w' ⟨b, sb, yb, rfl, hO, hk⟩
  exact ⟨b, sb, yb, rfl, hO.s, hk⟩
theorem step_make {P : Program} {ops : Array Oper} {o : Oper} {a : Act} {w : World} {K : Act → World → Prop} {Q : Exit → Act → World → Prop} {E : Prop} (hgd : o.guard = none) (n c : Operand) (t : TypeId)
    (ho : o.op = .makeSlice t n c) (vn vc v' : Value) (w' : World) (hn : a.eval n = vn) (hc : a.eval c = vc) (hr : (Instr.makeSlice t vn vc).run P w = .ok v' w')
    (h : K (a.put o.dst v') w') : if Region.wanted o (yielded ops a.tmps) = true then Oper.wp P o a w K Q else E := by
  have hw : Region.wanted o (yielded ops a.tmps) = true := by simp [Region.wanted, hgd]
  rw [if_pos hw]
  unfold Oper.wp
  simp [execOp, ho, hn, hc, hr, Result.andThen]
  exact h
set_option maxRecDepth 20000 in
set_option maxHeartbeats 6400000 in
theorem names_walk (w : World) (hT : Tabs w) : Calls Tryz.prog 3 #[] w fun e w' => e = .returned (.bool true) ∧ Kept w w' := by
  obtain ⟨w1, hw1⟩ : ∃ w1, w.alloc (.cells #[.int .i64 1, .int .i64 0, .int .u8 18, .int .i64 0, .int .i64 0, .int .i64 1, .int .i64 4, .int .u8 17, .int .i64 0, .int .i64 0] 32) = w1 := ⟨_, rfl⟩
  have k1 : Kept w w1 := by rw [← hw1]; exact Kept.alloc _ _
  have R1 : RelR w1 (some ⟨w.heap.size, 0, none⟩) [⟨1, 0, 18, 0, 0⟩, ⟨1, 4, 17, 0, 0⟩] := by
    rw [← hw1]
    refine relR_two (relV_ok 0 18 (by decide) (by decide) (by decide) (by decide)) (relV_ok 4 17 (by decide) (by decide) (by decide) (by decide)) ?_ ?_
    · intro j hj
      match j, hj with
      | 0, _ | 1, _ | 2, _ | 3, _ | 4, _ => simp [relC]
    · intro j hj
      match j, hj with
      | 0, _ | 1, _ | 2, _ | 3, _ | 4, _ => simp [relC]
  have C1 := chk_rels _ _ (relV_ok 0 18 (by decide) (by decide) (by decide) (by decide)) (relV_ok 4 17 (by decide) (by decide) (by decide) (by decide)) 8 chk_1 w1 w.heap.size R1
  go_enter Tryz.func3, Tryz.ntmps3
  go_upto_region 2 with (first
    | (go_at_call 9; refine C1.mono ?_; rintro e w2 ⟨v1, rfl, hC1, k2⟩; have hC1' := hC1 w2 (Kept.refl _))
    | (go_at_call 8; refine hC1'.mono ?_; rintro e w3 ⟨rfl, k3⟩))
  have K3 := (k1.trans k2).trans k3
  clear C1 hC1 hC1' R1 hw1
  obtain ⟨w4, hw4⟩ : ∃ w4, w3.alloc (.cells #[.int .i64 1, .int .i64 0, .int .u8 35, .int .i64 0, .int .i64 0, .int .i64 1, .int .i64 0, .int .u8 39, .int .i64 0, .int .i64 0] 32) = w4 := ⟨_, rfl⟩
  have k4 : Kept w3 w4 := by rw [← hw4]; exact Kept.alloc _ _
  have R2 : RelR w4 (some ⟨w3.heap.size, 0, none⟩) [⟨1, 0, 35, 0, 0⟩, ⟨1, 0, 39, 0, 0⟩] := by
    rw [← hw4]
    refine relR_two (relV_ok 0 35 (by decide) (by decide) (by decide) (by decide)) (relV_ok 0 39 (by decide) (by decide) (by decide) (by decide)) ?_ ?_
    · intro j hj
      match j, hj with
      | 0, _ | 1, _ | 2, _ | 3, _ | 4, _ => simp [relC]
    · intro j hj
      match j, hj with
      | 0, _ | 1, _ | 2, _ | 3, _ | 4, _ => simp [relC]
  have C2 := chk_rels _ _ (relV_ok 0 35 (by decide) (by decide) (by decide) (by decide)) (relV_ok 0 39 (by decide) (by decide) (by decide) (by decide)) 0 chk_2 w4 w3.heap.size R2
  go_upto_region 3 with (first
    | (go_at_call 9; refine C2.mono ?_; rintro e w5 ⟨v2, rfl, hC2, k5⟩; have hC2' := hC2 w5 (Kept.refl _))
    | (go_at_call 8; refine hC2'.mono ?_; rintro e w6 ⟨rfl, k6⟩))
  have K6 := ((K3.trans k4).trans k5).trans k6
  clear C2 hC2 hC2' R2 hw4
  have Xc := text0_walk w6
  go_upto_region 4 with (go_at_call 9; refine Xc.mono ?_; rintro e w7c ⟨bc, sbc, ybc, rfl, hSc, k7c⟩; obtain ⟨wac, wbc, hwa, hwb, Z1, Z2c, k8c, s8⟩ := put_obj w7c (.slice (some ⟨sbc, 0, none⟩) 1 1) (.slice (some ⟨ybc, 0, none⟩) 1 1) (.slice none 0 0) (.slice none 0 0); obtain ⟨z0, z1, z2, z3, f0, f1, f2, f3⟩ := Z1; obtain ⟨u0, u1, u2, u3, q0, q1, q2, q3⟩ := id Z2c)
  clear hwa hwb z0 z1 z2 z3 f0 f1 f2 f3 Xc q0 q2 q3
  refine wp_region_lit ?_
  refine wpList_struct rfl 34 _ rfl #[.string ⟨#[102]⟩, .int .u8 1, .bool false, .int .i64 0, .int .i64 0, .int .i64 0] (by kernel_rfl) ?_
  refine wpList_struct rfl 34 _ rfl #[.string ⟨#[108]⟩, .int .u8 0, .bool false, .int .i64 1, .int .i64 0, .int .i64 0] (by kernel_rfl) ?_
  refine wpList_litS rfl 25 34 2 6 _ rfl [.agg #[.string ⟨#[102]⟩, .int .u8 1, .bool false, .int .i64 0, .int .i64 0, .int .i64 0], .agg #[.string ⟨#[108]⟩, .int .u8 0, .bool false, .int .i64 1, .int .i64 0, .int .i64 0]] Tryz.underlying25 (by kernel_rfl) (by kernel_rfl) rfl (by decide) (by decide) (by decide) (fun v hv => by simp only [List.mem_cons, List.not_mem_nil, or_false] at hv; rcases hv with rfl | rfl <;> rfl) (by kernel_rfl) ?_
  intro yc w9c k9c hc9
  have hq0 : ∀ (j : Nat) (u : Value), (#[.string ⟨#[102]⟩, .int .u8 1, .bool false, .int .i64 0, .int .i64 0, .int .i64 0] : Array Value)[j]? = some u → w9c.cell? ⟨yc, j, none⟩ = some u := fun j u h => by
    have := hc9 0 j _ u rfl h
    rwa [Nat.zero_mul, Nat.zero_add] at this
  have hq1 : ∀ (j : Nat) (u : Value), (#[.string ⟨#[108]⟩, .int .u8 0, .bool false, .int .i64 1, .int .i64 0, .int .i64 0] : Array Value)[j]? = some u → w9c.cell? ⟨yc, 6 + j, none⟩ = some u := fun j u h => by
    have := hc9 1 j _ u rfl h
    rwa [Nat.one_mul] at this
  have Z9 := Z2c.kept k9c
  have hnec : w7c.heap.size ≠ yc := fun e => by
    have a := hq0 0 _ rfl
    rw [← e, Z9.c0] at a
    cases a
  have Y9 : SymR (w9c.setCell ⟨w7c.heap.size, 1, none⟩ (.slice (some ⟨yc, 0, none⟩) 2 2)) (some ⟨yc, 0, none⟩) [symF, ⟨⟨#[108]⟩, 0, false, 1, 0, 0⟩] := symR_two (symF_ok _ _ _ (by decide) (by decide) (by decide) (by decide) (by decide)) (symF_ok _ _ _ (by decide) (by decide) (by decide) (by decide) (by decide)) (fun j hj => by
      match j, hj with
      | 0, _ => exact set_far (hq0 0 _ rfl) hnec
      | 1, _ => exact set_far (hq0 1 _ rfl) hnec
      | 2, _ => exact set_far (hq0 2 _ rfl) hnec
      | 3, _ => exact set_far (hq0 3 _ rfl) hnec
      | 4, _ => exact set_far (hq0 4 _ rfl) hnec
      | 5, _ => exact set_far (hq0 5 _ rfl) hnec) (fun j hj => by
      match j, hj with
      | 0, _ => exact set_far (hq1 0 _ rfl) hnec
      | 1, _ => exact set_far (hq1 1 _ rfl) hnec
      | 2, _ => exact set_far (hq1 2 _ rfl) hnec
      | 3, _ => exact set_far (hq1 3 _ rfl) hnec
      | 4, _ => exact set_far (hq1 4 _ rfl) hnec
      | 5, _ => exact set_far (hq1 5 _ rfl) hnec)
  have k10c : Kept w7c (w9c.setCell ⟨w7c.heap.size, 1, none⟩ (.slice (some ⟨yc, 0, none⟩) 2 2)) := (k8c.trans k9c).setCell (p := ⟨w7c.heap.size, 1, none⟩) (Nat.le_refl _) _
  have HOc : Hid (ObjOk (w9c.setCell ⟨w7c.heap.size, 1, none⟩ (.slice (some ⟨yc, 0, none⟩) 2 2)) (symsO bc sbc yc ⟨⟨#[108]⟩, 0, false, 1, 0, 0⟩)) := ⟨hSc.kept k10c, Y9, .inl rfl, .inl rfl, ⟨Nat.le_refl _, (by decide : 1 ≤ maxLen), fun e => by cases e⟩, ⟨Nat.le_refl _, (by decide : 2 ≤ maxLen), fun e => by cases e⟩, ⟨Nat.le_refl _, Nat.zero_le _, fun _ => ⟨rfl, rfl⟩⟩, ⟨Nat.le_refl _, Nat.zero_le _, fun _ => ⟨rfl, rfl⟩⟩, rfl, rfl, rfl, rfl⟩
  have Z10c := Z9.set1 (.slice (some ⟨yc, 0, none⟩) 2 2)
  obtain ⟨v0, v1', v2', v3, g0, g1, g2, g3⟩ := id Z9
  clear u0 u1 u2 u3 q1 hc9 hq0 hq1 s8
  go_upto_region 5 with fail
  obtain ⟨wzc, hwzc⟩ : ∃ wz, w9c.setCell ⟨w7c.heap.size, 1, none⟩ (.slice (some ⟨yc, 0, none⟩) 2 2) = wz := ⟨_, rfl⟩
  rw [hwzc] at k10c HOc Z10c ⊢
  have Kzc : Kept w wzc := (K6.trans k7c).trans k10c
  clear v0 v1' v2' v3 g0 g1 g2 g3 Z9 Z2c Y9 hwzc k9c hSc k8c
  obtain ⟨nxc, hnxc⟩ : ∃ n, w7c.heap.size = n := ⟨_, rfl⟩
  rw [hnxc] at Z10c ⊢
  clear hnxc k10c hnec k7c
  have Xd := text0_walk wzc
  go_upto_region 6 with (go_at_call 9; refine Xd.mono ?_; rintro e w7d ⟨bd, sbd, ybd, rfl, hSd, k7d⟩; obtain ⟨wad, wbd, hwa, hwb, Z1, Z2d, k8d, s8⟩ := put_obj w7d (.slice (some ⟨sbd, 0, none⟩) 1 1) (.slice (some ⟨ybd, 0, none⟩) 1 1) (.slice none 0 0) (.slice none 0 0); obtain ⟨z0, z1, z2, z3, f0, f1, f2, f3⟩ := Z1; obtain ⟨u0, u1, u2, u3, q0, q1, q2, q3⟩ := id Z2d)
  clear hwa hwb z0 z1 z2 z3 f0 f1 f2 f3 Xd q0 q2 q3
  refine wp_region_lit ?_
  refine wpList_struct rfl 34 _ rfl #[.string ⟨#[102]⟩, .int .u8 1, .bool false, .int .i64 0, .int .i64 0, .int .i64 0] (by kernel_rfl) ?_
  refine wpList_struct rfl 34 _ rfl #[.string ⟨#[102]⟩, .int .u8 2, .bool false, .int .i64 0, .int .i64 0, .int .i64 0] (by kernel_rfl) ?_
  refine wpList_litS rfl 25 34 2 6 _ rfl [.agg #[.string ⟨#[102]⟩, .int .u8 1, .bool false, .int .i64 0, .int .i64 0, .int .i64 0], .agg #[.string ⟨#[102]⟩, .int .u8 2, .bool false, .int .i64 0, .int .i64 0, .int .i64 0]] Tryz.underlying25 (by kernel_rfl) (by kernel_rfl) rfl (by decide) (by decide) (by decide) (fun v hv => by simp only [List.mem_cons, List.not_mem_nil, or_false] at hv; rcases hv with rfl | rfl <;> rfl) (by kernel_rfl) ?_
  intro yd w9d k9d hc9
  have hq0 : ∀ (j : Nat) (u : Value), (#[.string ⟨#[102]⟩, .int .u8 1, .bool false, .int .i64 0, .int .i64 0, .int .i64 0] : Array Value)[j]? = some u → w9d.cell? ⟨yd, j, none⟩ = some u := fun j u h => by
    have := hc9 0 j _ u rfl h
    rwa [Nat.zero_mul, Nat.zero_add] at this
  have hq1 : ∀ (j : Nat) (u : Value), (#[.string ⟨#[102]⟩, .int .u8 2, .bool false, .int .i64 0, .int .i64 0, .int .i64 0] : Array Value)[j]? = some u → w9d.cell? ⟨yd, 6 + j, none⟩ = some u := fun j u h => by
    have := hc9 1 j _ u rfl h
    rwa [Nat.one_mul] at this
  have Z9 := Z2d.kept k9d
  have hned : w7d.heap.size ≠ yd := fun e => by
    have a := hq0 0 _ rfl
    rw [← e, Z9.c0] at a
    cases a
  have Y9 : SymR (w9d.setCell ⟨w7d.heap.size, 1, none⟩ (.slice (some ⟨yd, 0, none⟩) 2 2)) (some ⟨yd, 0, none⟩) [symF, ⟨⟨#[102]⟩, 2, false, 0, 0, 0⟩] := symR_two (symF_ok _ _ _ (by decide) (by decide) (by decide) (by decide) (by decide)) (symF_ok _ _ _ (by decide) (by decide) (by decide) (by decide) (by decide)) (fun j hj => by
      match j, hj with
      | 0, _ => exact set_far (hq0 0 _ rfl) hned
      | 1, _ => exact set_far (hq0 1 _ rfl) hned
      | 2, _ => exact set_far (hq0 2 _ rfl) hned
      | 3, _ => exact set_far (hq0 3 _ rfl) hned
      | 4, _ => exact set_far (hq0 4 _ rfl) hned
      | 5, _ => exact set_far (hq0 5 _ rfl) hned) (fun j hj => by
      match j, hj with
      | 0, _ => exact set_far (hq1 0 _ rfl) hned
      | 1, _ => exact set_far (hq1 1 _ rfl) hned
      | 2, _ => exact set_far (hq1 2 _ rfl) hned
      | 3, _ => exact set_far (hq1 3 _ rfl) hned
      | 4, _ => exact set_far (hq1 4 _ rfl) hned
      | 5, _ => exact set_far (hq1 5 _ rfl) hned)
  have k10d : Kept w7d (w9d.setCell ⟨w7d.heap.size, 1, none⟩ (.slice (some ⟨yd, 0, none⟩) 2 2)) := (k8d.trans k9d).setCell (p := ⟨w7d.heap.size, 1, none⟩) (Nat.le_refl _) _
  have HOd : Hid (ObjOk (w9d.setCell ⟨w7d.heap.size, 1, none⟩ (.slice (some ⟨yd, 0, none⟩) 2 2)) (symsO bd sbd yd ⟨⟨#[102]⟩, 2, false, 0, 0, 0⟩)) := ⟨hSd.kept k10d, Y9, .inl rfl, .inl rfl, ⟨Nat.le_refl _, (by decide : 1 ≤ maxLen), fun e => by cases e⟩, ⟨Nat.le_refl _, (by decide : 2 ≤ maxLen), fun e => by cases e⟩, ⟨Nat.le_refl _, Nat.zero_le _, fun _ => ⟨rfl, rfl⟩⟩, ⟨Nat.le_refl _, Nat.zero_le _, fun _ => ⟨rfl, rfl⟩⟩, rfl, rfl, rfl, rfl⟩
  have Z10d := Z9.set1 (.slice (some ⟨yd, 0, none⟩) 2 2)
  obtain ⟨v0, v1', v2', v3, g0, g1, g2, g3⟩ := id Z9
  clear u0 u1 u2 u3 q1 hc9 hq0 hq1 s8
  go_upto_region 7 with fail
  obtain ⟨wzd, hwzd⟩ : ∃ wz, w9d.setCell ⟨w7d.heap.size, 1, none⟩ (.slice (some ⟨yd, 0, none⟩) 2 2) = wz := ⟨_, rfl⟩
  rw [hwzd] at k10d HOd Z10d ⊢
  have Kzd : Kept w wzd := (Kzc.trans k7d).trans k10d
  have Kcd : Kept wzc wzd := k7d.trans k10d
  have hCc : ∀ w2, Kept wzc w2 → Calls Tryz.prog 8 #[.agg #[.slice (some ⟨sbc, 0, none⟩) 1 1, .slice (some ⟨yc, 0, none⟩) 2 2, .slice none 0 0, .slice none 0 0]] w2 fun e w3 => e = .returned (.int .i64 8) ∧ Kept w2 w3 := fun w2 hk => by
    have := ocheck_walk _ w2 (HOc.out.kept hk)
    rw [show (symsO bc sbc yc ⟨⟨#[108]⟩, 0, false, 1, 0, 0⟩).m = txtM [fM, ⟨nm ⟨#[108]⟩, 0, false, 1, 0, 0⟩] [] from rfl, chk_3] at this
    exact this
  have hCd : ∀ w2, Kept wzd w2 → Calls Tryz.prog 8 #[.agg #[.slice (some ⟨sbd, 0, none⟩) 1 1, .slice (some ⟨yd, 0, none⟩) 2 2, .slice none 0 0, .slice none 0 0]] w2 fun e w3 => e = .returned (.int .i64 8) ∧ Kept w2 w3 := fun w2 hk => by
    have := ocheck_walk _ w2 (HOd.out.kept hk)
    rw [show (symsO bd sbd yd ⟨⟨#[102]⟩, 2, false, 0, 0, 0⟩).m = txtM [fM, ⟨nm ⟨#[102]⟩, 2, false, 0, 0, 0⟩] [] from rfl, chk_4] at this
    exact this
  clear v0 v1' v2' v3 g0 g1 g2 g3 Z9 Z2d Y9 hwzd k9d hSd k8d
  obtain ⟨nxd, hnxd⟩ : ∃ n, w7d.heap.size = n := ⟨_, rfl⟩
  rw [hnxd] at Z10d ⊢
  clear hnxd k10d hned k7d
  obtain ⟨wa, wb, hwa, hwb, Z1, Z2, k8, s8⟩ := put_obj wzd (.slice none 0 0) (.slice none 0 0) (.slice none 0 0) (.slice none 0 0)
  obtain ⟨nf, hnf⟩ : ∃ nf, wzd.heap.size = nf := ⟨_, rfl⟩
  rw [hnf] at hwb Z1 Z2 s8
  obtain ⟨z0, z1, z2, z3, f0, f1, f2, f3⟩ := Z1
  have F0 : FullSt (nf + 1) nf 0 [] none 0 wb := ⟨rfl, World.ownsRow_nil _ _ _ _, Z2, fun v hv => by cases hv⟩
  obtain ⟨na, hna⟩ : ∃ n, w.heap.size = n := ⟨_, rfl⟩
  obtain ⟨nb, hnb⟩ : ∃ n, w3.heap.size = n := ⟨_, rfl⟩
  rw [hna, hnb]
  clear hna hnb
  go_wp2
  go_loopw [6] (fun i wr => ∃ (k : Nat) (l : List SecV) (va : Option Addr) (vc : Nat), k ≤ 16 ∧ i = .int .i64 k ∧ FullSt (nf + 1) nf k l va vc wr ∧ Kept wzd wr) (fun i _ => 16 - (intOf i).toNat)
  case atStart => exact ⟨0, [], none, 0, Nat.zero_le _, rfl, F0, k8⟩
  case round =>
    obtain ⟨k, l, va, vc, hk, rfl, F, K⟩ := hrel
    clear z0 z1 z2 z3 f0 f1 f2 f3
    by_cases hlt : k < 16
    · obtain ⟨wd, hm, hbD, kD, sD⟩ := mk_dat wr.drew
      have hnfr : nf < wr.heap.size := F.box.lt
      obtain ⟨b, hb⟩ : ∃ b, wr.heap.size = b := ⟨_, rfl⟩
      have hm' : (Instr.makeSlice 35 (.int .i64 4096) (.int .i64 4096)).run Tryz.prog wr.drew = .ok (.slice (some ⟨b, 0, none⟩) 4096 4096) wd := by rw [← hb]; exact hm
      have hbD' : Byt wd (some ⟨b, 0, none⟩) dat0 := by rw [← hb]; exact hbD
      have kD' : Kept wr wd := (kept_drew wr).trans kD
      have hbw : b < wd.heap.size := by rw [← hb]; exact sD
      obtain ⟨we, hwe⟩ : ∃ we, wd.alloc (.cells #[.string ⟨#[46, 100, 97, 116, 97]⟩, .int .i64 1, .slice (some ⟨b, 0, none⟩) 4096 4096, .int .i64 0] 37) = we := ⟨_, rfl⟩
      have kE : Kept wd we := by rw [← hwe]; exact Kept.alloc _ _
      have kWE := kD'.trans kE
      have ownE : OwnSec we (nf + 1) (.slice va k vc) l := row_kept F.own kWE
      have hszE : nf + 1 ≤ we.heap.size := by have := kWE.size; omega
      obtain ⟨va', vc', wf, hap, ownF, G, hor⟩ := app_sec we (nf + 1) 24 va k vc l ownE F.len (datS b) wd.heap.size (fun j hj => by
        rw [datS_cells, ← hwe]
        match j, hj with
        | 0, _ => simp
        | 1, _ => simp
        | 2, _ => simp
        | 3, _ => simp) (by omega) hszE
      have hvb : ∀ g, Value.ownBlock (.slice va k vc) = some g → nf + 1 ≤ g ∧ g < wr.heap.size := F.own.lt
      have bE := F.box.kept kWE
      have hngv : some nf ≠ Value.ownBlock (.slice va k vc) := fun e => by have := (hvb _ e.symm).1; omega
      have cF0 := G.cell bE.c0 hngv
      have fF0 : wf.frozen? ⟨nf, 0, none⟩ = false := by
        have := G.block nf (by have := kWE.size; omega) hngv
        have h2 := bE.f0
        unfold World.frozen? at h2 ⊢
        rw [this]
        exact h2
      obtain ⟨c0, c1, c2, c3, g0, g1, g2, g3⟩ := id F.box
      have HF : FullSt (nf + 1) nf (k + 1) (l ++ [datS b]) va' vc' (wf.setCell ⟨nf, 0, none⟩ (.slice va' (k + 1) vc')) ∧ Kept wzd (wf.setCell ⟨nf, 0, none⟩ (.slice va' (k + 1) vc')) := full_more hnf F K hb kD' hbD' hbw kE ownF G hor
      have bD := F.box.kept kD'
      have hc0r : wr.drew.cell? ⟨nf, 0, none⟩ = some (.slice va k vc) := c0
      have hc0d := bD.c0
      have hc0e := bE.c0
      clear ownE ownF hor hbD hbD' F F0 hm G bE bD
      go_upto_region 11 with fail
      refine wp_region_noPanic ?_
      refine wp_region_held_drew (S := fun _ => True) (by kernel_rfl) True.intro ?_
      intro hHeld
      try simp only [Array.size, List.length_cons, List.length_nil, Array.replicate]
      refine takeW 0 (v := ?_) rfl (by kernel_rfl) (by kernel_rfl) (by kernel_rfl) (fun _ _ _ h => h) (Or.inl ⟨by rfl, ?_⟩) hHeld ?_
      rotate_left
      · (intro w hSw; go_simp; with_reducible rfl)
      try simp only [Act.put, List.setIfInBounds_toArray, List.set_cons_zero, List.set_cons_succ]
      refine twoW 1 2 rfl rfl (by kernel_rfl) ?_ ?_
      · intro K9 hK9
        go_simp
        refine hK9.out _ _ hHeld (fun _ => ?_)
        clear hK9 K9
        try simp only [List.setIfInBounds_toArray]
        refine oneW 2 rfl (by kernel_rfl) ?_
        intro K9 hK9
        refine step_make rfl _ _ _ rfl _ _ _ _ rfl rfl hm' ?_
        refine hK9.out _ _ hHeld (fun _ => ?_)
        clear hK9 K9
        try simp only [Act.put, List.setIfInBounds_toArray, List.set_cons_zero, List.set_cons_succ]
        refine takeW 3 (v := ?_) rfl (by kernel_rfl) (by kernel_rfl) (by kernel_rfl) (fun _ _ _ h => h) (Or.inl ⟨by rfl, ?_⟩) hHeld ?_
        rotate_left
        · (intro w hSw; go_simp; with_reducible rfl)
        try simp only [Act.put, List.setIfInBounds_toArray, List.set_cons_zero, List.set_cons_succ]
        refine oneW 4 rfl (by kernel_rfl) ?_
        intro K9 hK9
        go_simp
        refine hK9.out _ _ hHeld (fun _ => ?_)
        clear hK9 K9
        try simp only [List.setIfInBounds_toArray]
        refine oneW 5 rfl (by kernel_rfl) ?_
        intro K9 hK9
        refine step_app rfl _ _ _ rfl _ _ _ _ rfl rfl hap ?_
        refine hK9.out _ _ hHeld (fun _ => ?_)
        clear hK9 K9
        try simp only [Act.put, List.setIfInBounds_toArray, List.set_cons_zero, List.set_cons_succ]
        refine takeW 6 (v := ?_) rfl (by kernel_rfl) (by kernel_rfl) (by kernel_rfl) (fun _ _ _ h => h) (Or.inl ⟨by rfl, ?_⟩) hHeld ?_
        rotate_left
        · (intro w hSw; go_simp; with_reducible rfl)
        try simp only [Act.put, List.setIfInBounds_toArray, List.set_cons_zero, List.set_cons_succ]
        refine oneW 7 rfl (by kernel_rfl) ?_
        intro K9 hK9
        go_simp
        refine hK9.out _ _ hHeld (fun _ => ?_)
        clear hK9 K9
        try simp only [List.setIfInBounds_toArray]
        refine wpAnyH_done (by kernel_rfl) ?_ _
        refine NoPanic.normal ?_
        clear hHeld
        go_wp2
        go_roundw
        case rel => exact ⟨k + 1, _, _, _, by omega, by go_num, HF.1, HF.2⟩
        case measure =>
          simp [intOf]
          omega
      · intro K9 hK9
        refine step_make rfl _ _ _ rfl _ _ _ _ rfl rfl hm' ?_
        refine hK9.out _ _ hHeld (fun _ => ?_)
        clear hK9 K9
        try simp only [Act.put, List.setIfInBounds_toArray, List.set_cons_zero, List.set_cons_succ]
        refine takeW 3 (v := ?_) rfl (by kernel_rfl) (by kernel_rfl) (by kernel_rfl) (fun _ _ _ h => h) (Or.inl ⟨by rfl, ?_⟩) hHeld ?_
        rotate_left
        · (intro w hSw; go_simp; with_reducible rfl)
        try simp only [Act.put, List.setIfInBounds_toArray, List.set_cons_zero, List.set_cons_succ]
        refine twoW 1 4 rfl rfl (by kernel_rfl) ?_ ?_
        · intro K9 hK9
          go_simp
          refine hK9.out _ _ hHeld (fun _ => ?_)
          clear hK9 K9
          try simp only [List.setIfInBounds_toArray]
          refine oneW 4 rfl (by kernel_rfl) ?_
          intro K9 hK9
          go_simp
          refine hK9.out _ _ hHeld (fun _ => ?_)
          clear hK9 K9
          try simp only [List.setIfInBounds_toArray]
          refine oneW 5 rfl (by kernel_rfl) ?_
          intro K9 hK9
          refine step_app rfl _ _ _ rfl _ _ _ _ rfl rfl hap ?_
          refine hK9.out _ _ hHeld (fun _ => ?_)
          clear hK9 K9
          try simp only [Act.put, List.setIfInBounds_toArray, List.set_cons_zero, List.set_cons_succ]
          refine takeW 6 (v := ?_) rfl (by kernel_rfl) (by kernel_rfl) (by kernel_rfl) (fun _ _ _ h => h) (Or.inl ⟨by rfl, ?_⟩) hHeld ?_
          rotate_left
          · (intro w hSw; go_simp; with_reducible rfl)
          try simp only [Act.put, List.setIfInBounds_toArray, List.set_cons_zero, List.set_cons_succ]
          refine oneW 7 rfl (by kernel_rfl) ?_
          intro K9 hK9
          go_simp
          refine hK9.out _ _ hHeld (fun _ => ?_)
          clear hK9 K9
          try simp only [List.setIfInBounds_toArray]
          refine wpAnyH_done (by kernel_rfl) ?_ _
          refine NoPanic.normal ?_
          clear hHeld
          go_wp2
          go_roundw
          case rel => exact ⟨k + 1, _, _, _, by omega, by go_num, HF.1, HF.2⟩
          case measure =>
            simp [intOf]
            omega
        · intro K9 hK9
          go_simp
          refine hK9.out _ _ hHeld (fun _ => ?_)
          clear hK9 K9
          try simp only [List.setIfInBounds_toArray]
          refine oneW 1 rfl (by kernel_rfl) ?_
          intro K9 hK9
          go_simp
          refine hK9.out _ _ hHeld (fun _ => ?_)
          clear hK9 K9
          try simp only [List.setIfInBounds_toArray]
          refine oneW 5 rfl (by kernel_rfl) ?_
          intro K9 hK9
          refine step_app rfl _ _ _ rfl _ _ _ _ rfl rfl hap ?_
          refine hK9.out _ _ hHeld (fun _ => ?_)
          clear hK9 K9
          try simp only [Act.put, List.setIfInBounds_toArray, List.set_cons_zero, List.set_cons_succ]
          refine takeW 6 (v := ?_) rfl (by kernel_rfl) (by kernel_rfl) (by kernel_rfl) (fun _ _ _ h => h) (Or.inl ⟨by rfl, ?_⟩) hHeld ?_
          rotate_left
          · (intro w hSw; go_simp; with_reducible rfl)
          try simp only [Act.put, List.setIfInBounds_toArray, List.set_cons_zero, List.set_cons_succ]
          refine oneW 7 rfl (by kernel_rfl) ?_
          intro K9 hK9
          go_simp
          refine hK9.out _ _ hHeld (fun _ => ?_)
          clear hK9 K9
          try simp only [List.setIfInBounds_toArray]
          refine wpAnyH_done (by kernel_rfl) ?_ _
          refine NoPanic.normal ?_
          clear hHeld
          go_wp2
          go_roundw
          case rel => exact ⟨k + 1, _, _, _, by omega, by go_num, HF.1, HF.2⟩
          case measure =>
            simp [intOf]
            omega
    · obtain rfl : k = 16 := by omega
      have hTr := hT.kept (Kzd.trans K)
      have hWr := write_obj _ wr F.obj hTr
      rw [full_m F.len (fun v hv => by obtain ⟨b, e, _⟩ := F.dat v hv; exact ⟨b, e⟩), full_wo] at hWr
      obtain ⟨c0, c1, c2, c3, g0, g1, g2, g3⟩ := id F.box
      have Zc := (Z10c.kept Kcd).kept K
      have Zd := Z10d.kept K
      have hAl := fun w2 (h : Kept wr w2) => alive_walk w2 (hTr.kept h)
      clear F0 hlt
      obtain ⟨x0, x1, x2, x3, _, _, _, _⟩ := id Zc
      obtain ⟨y0, y1, y2, y3, _, _, _, _⟩ := id Zd
      go_upto_region 13 with (go_at_call 10; refine hWr.mono ?_; rintro e w9 ⟨v9, rfl, _, k9⟩; have hAl' := hAl w9 k9; have Zc9 := Zc.kept k9; have Zd9 := Zd.kept k9)
      clear c0 c1 c2 c3 g0 g1 g2 g3 x0 x1 x2 x3 y0 y1 y2 y3
      go_wp2_with (first
        | (go_at_call 11; refine hAl'.mono ?_; rintro e wA ⟨rfl, kA⟩; have hC1 := hCc wA (((Kcd.trans K).trans k9).trans kA); obtain ⟨x0, x1, x2, x3, _, _, _, _⟩ := id (Zc9.kept kA); clear hAl')
        | (go_at_call 8; refine hC1.mono ?_; rintro e wB ⟨rfl, kB⟩; clear hC1; have hC2 := hCd wB (((K.trans k9).trans kA).trans kB); obtain ⟨y0, y1, y2, y3, _, _, _, _⟩ := id ((Zd9.kept kA).kept kB))
        | (go_at_call 8; refine hC2.mono ?_; rintro e wC ⟨rfl, kC⟩; clear hC2))
      go_ret
      exact ⟨rfl, ((((Kzd.trans K).trans k9).trans kA).trans kB).trans kC⟩
end Go.Proofs.YtljmgbpecoifnaaGreatDoor
