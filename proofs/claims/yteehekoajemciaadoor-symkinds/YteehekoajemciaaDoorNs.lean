/- A symbol's six numbers: the program's. -/
import Derived.Test.YteehekoajemciaaDoorCs
import Derived.Deep.RegionWith
import Derived.Deep.RegionHeld3
import Derived.Deep.DeepCutAuto
import Derived.RegionTactic
import Derived.BigRegion
namespace Go.Proofs.YteehekoajemciaaDoor
open Go.RowKit

abbrev numsW (n0 n1 n2 n3 n4 n5 : Int) : Value := .agg #[.int .i64 n0, .int .i64 n1, .int .i64 n2, .int .i64 n3, .int .i64 n4, .int .i64 n5]
abbrev numsO (n0 n1 n2 n3 n4 n5 : Int) : Obj := .cells #[.int .i64 n0, .int .i64 n1, .int .i64 n2, .int .i64 n3, .int .i64 n4, .int .i64 n5] 44
/-- Six numbers that lie in a block. -/
structure NBx (w : World) (b : Nat) (n0 n1 n2 n3 n4 n5 : Int) : Prop where
  c0 : w.cell? ⟨b, 0, none⟩ = some (.int .i64 n0)
  c1 : w.cell? ⟨b, 1, none⟩ = some (.int .i64 n1)
  c2 : w.cell? ⟨b, 2, none⟩ = some (.int .i64 n2)
  c3 : w.cell? ⟨b, 3, none⟩ = some (.int .i64 n3)
  c4 : w.cell? ⟨b, 4, none⟩ = some (.int .i64 n4)
  c5 : w.cell? ⟨b, 5, none⟩ = some (.int .i64 n5)
  f0 : w.frozen? ⟨b, 0, none⟩ = false
  f1 : w.frozen? ⟨b, 1, none⟩ = false
  f2 : w.frozen? ⟨b, 2, none⟩ = false
  f3 : w.frozen? ⟨b, 3, none⟩ = false
  f4 : w.frozen? ⟨b, 4, none⟩ = false
  f5 : w.frozen? ⟨b, 5, none⟩ = false
theorem NBx.new (w : World) (n0 n1 n2 n3 n4 n5 : Int) : NBx (w.alloc (numsO n0 n1 n2 n3 n4 n5)) w.heap.size n0 n1 n2 n3 n4 n5 := by
  constructor <;> simp
theorem NBx.lt {w : World} {b : Nat} {n0 n1 n2 n3 n4 n5 : Int} (h : NBx w b n0 n1 n2 n3 n4 n5) : b < w.heap.size := block_lt_of_cell h.c0
theorem NBx.kept {w w' : World} {b : Nat} {n0 n1 n2 n3 n4 n5 : Int} (h : NBx w b n0 n1 n2 n3 n4 n5) (k : Kept w w') : NBx w' b n0 n1 n2 n3 n4 n5 :=
  ⟨k.cell h.c0, k.cell h.c1, k.cell h.c2, k.cell h.c3, k.cell h.c4, k.cell h.c5, (k.frozen h.lt).trans h.f0, (k.frozen h.lt).trans h.f1, (k.frozen h.lt).trans h.f2, (k.frozen h.lt).trans h.f3, (k.frozen h.lt).trans h.f4, (k.frozen h.lt).trans h.f5⟩
abbrev putN (w : World) (b : Nat) (n0 n1 n2 n3 n4 n5 : Int) : World :=
  (((((w.setCell ⟨b, 0, none⟩ (.int .i64 n0)).setCell ⟨b, 1, none⟩ (.int .i64 n1)).setCell ⟨b, 2, none⟩ (.int .i64 n2)).setCell ⟨b, 3, none⟩ (.int .i64 n3)).setCell ⟨b, 4, none⟩ (.int .i64 n4)).setCell ⟨b, 5, none⟩ (.int .i64 n5)
theorem NBx.put {w : World} {b : Nat} {m0 m1 m2 m3 m4 m5 : Int} (h : NBx w b m0 m1 m2 m3 m4 m5) (n0 n1 n2 n3 n4 n5 : Int) : NBx (putN w b n0 n1 n2 n3 n4 n5) b n0 n1 n2 n3 n4 n5 := by
  have s0 : NBx (w.setCell ⟨b, 0, none⟩ (.int .i64 n0)) b n0 m1 m2 m3 m4 m5 := ⟨World.cell?_setCell_same _ _ _ h.c0, set_other h.c1 (by decide), set_other h.c2 (by decide), set_other h.c3 (by decide), set_other h.c4 (by decide), set_other h.c5 (by decide), set_frozen h.f0, set_frozen h.f1, set_frozen h.f2, set_frozen h.f3, set_frozen h.f4, set_frozen h.f5⟩
  have s1 : NBx _ b n0 n1 m2 m3 m4 m5 := ⟨set_other s0.c0 (by decide), World.cell?_setCell_same _ ⟨b, 1, none⟩ (.int .i64 n1) s0.c1, set_other s0.c2 (by decide), set_other s0.c3 (by decide), set_other s0.c4 (by decide), set_other s0.c5 (by decide), set_frozen s0.f0, set_frozen s0.f1, set_frozen s0.f2, set_frozen s0.f3, set_frozen s0.f4, set_frozen s0.f5⟩
  have s2 : NBx _ b n0 n1 n2 m3 m4 m5 := ⟨set_other s1.c0 (by decide), set_other s1.c1 (by decide), World.cell?_setCell_same _ ⟨b, 2, none⟩ (.int .i64 n2) s1.c2, set_other s1.c3 (by decide), set_other s1.c4 (by decide), set_other s1.c5 (by decide), set_frozen s1.f0, set_frozen s1.f1, set_frozen s1.f2, set_frozen s1.f3, set_frozen s1.f4, set_frozen s1.f5⟩
  have s3 : NBx _ b n0 n1 n2 n3 m4 m5 := ⟨set_other s2.c0 (by decide), set_other s2.c1 (by decide), set_other s2.c2 (by decide), World.cell?_setCell_same _ ⟨b, 3, none⟩ (.int .i64 n3) s2.c3, set_other s2.c4 (by decide), set_other s2.c5 (by decide), set_frozen s2.f0, set_frozen s2.f1, set_frozen s2.f2, set_frozen s2.f3, set_frozen s2.f4, set_frozen s2.f5⟩
  have s4 : NBx _ b n0 n1 n2 n3 n4 m5 := ⟨set_other s3.c0 (by decide), set_other s3.c1 (by decide), set_other s3.c2 (by decide), set_other s3.c3 (by decide), World.cell?_setCell_same _ ⟨b, 4, none⟩ (.int .i64 n4) s3.c4, set_other s3.c5 (by decide), set_frozen s3.f0, set_frozen s3.f1, set_frozen s3.f2, set_frozen s3.f3, set_frozen s3.f4, set_frozen s3.f5⟩
  exact ⟨set_other s4.c0 (by decide), set_other s4.c1 (by decide), set_other s4.c2 (by decide), set_other s4.c3 (by decide), set_other s4.c4 (by decide), World.cell?_setCell_same _ ⟨b, 5, none⟩ (.int .i64 n5) s4.c5, set_frozen s4.f0, set_frozen s4.f1, set_frozen s4.f2, set_frozen s4.f3, set_frozen s4.f4, set_frozen s4.f5⟩
theorem below_putN {w : World} {b B : Nat} {a : World} (h : Below B a w) (hp : B ≤ b) (n0 n1 n2 n3 n4 n5 : Int) : Below B a (putN w b n0 n1 n2 n3 n4 n5) :=
  (((((h.setCell hp _).setCell hp _).setCell hp _).setCell hp _).setCell hp _).setCell hp _

theorem wrap_place {wh : Int} (hw : wh = 0 ∨ wh = -1 ∨ wh = -2 ∨ (1 ≤ wh ∧ wh ≤ 16)) : IntKind.u16.wrap (trn wh) = wU wh := by
  rcases hw with rfl | rfl | rfl | hw
  · decide
  · decide
  · decide
  · have e1 : trn wh = wh := by unfold trn; rw [if_neg (by omega)]
    have e2 : wU wh = wh := by unfold wU; rw [if_neg (by omega), if_neg (by omega)]
    have e3 : IntKind.u16.wrap wh = wh % 65536 := rfl
    rw [e1, e2, e3]
    omega
theorem wU_range {wh : Int} (hw : wh = 0 ∨ wh = -1 ∨ wh = -2 ∨ (1 ≤ wh ∧ wh ≤ 16)) : 0 ≤ wU wh ∧ wU wh ≤ 65535 := by
  rcases hw with rfl | rfl | rfl | hw
  · decide
  · decide
  · decide
  · have e2 : wU wh = wh := by unfold wU; rw [if_neg (by omega), if_neg (by omega)]
    omega

theorem wrap64 {n : Int} (h0 : -9223372036854775808 ≤ n) (h1 : n ≤ 9223372036854775807) : IntKind.i64.wrap n = n := by
  have e : IntKind.i64.wrap n = if 9223372036854775808 ≤ n % 18446744073709551616 then n % 18446744073709551616 - 18446744073709551616 else n % 18446744073709551616 := by
    simp [IntKind.wrap, IntKind.bits, IntKind.signed]
  rw [e]
  split <;> omega
/-- Four of a symbol's cells. -/
abbrev S4 (x : World) (b : Nat) (bind wh val sz : Int) : Prop := x.cell? ⟨b, 1, none⟩ = some (.int .u8 bind) ∧ x.cell? ⟨b, 3, none⟩ = some (.int .i64 wh) ∧ x.cell? ⟨b, 4, none⟩ = some (.int .i64 val) ∧ x.cell? ⟨b, 5, none⟩ = some (.int .i64 sz)
theorem S4_drew {x : World} {b : Nat} {bind wh val sz : Int} (h : S4 x b bind wh val sz) : S4 x.drew b bind wh val sz := h
theorem putN_far {w : World} {b b' j : Nat} {v : Value} (hc : w.cell? ⟨b, j, none⟩ = some v) (hb : b' ≠ b) (n0 n1 n2 n3 n4 n5 : Int) : (putN w b' n0 n1 n2 n3 n4 n5).cell? ⟨b, j, none⟩ = some v :=
  set_far (set_far (set_far (set_far (set_far (set_far hc hb) hb) hb) hb) hb) hb
theorem S4_putN {x : World} {b b' : Nat} {bind wh val sz : Int} (h : S4 x b bind wh val sz) (hb : b' ≠ b) (n0 n1 n2 n3 n4 n5 : Int) : S4 (putN x b' n0 n1 n2 n3 n4 n5) b bind wh val sz :=
  ⟨putN_far h.1 hb _ _ _ _ _ _, putN_far h.2.1 hb _ _ _ _ _ _, putN_far h.2.2.1 hb _ _ _ _ _ _, putN_far h.2.2.2 hb _ _ _ _ _ _⟩

set_option maxRecDepth 20000 in
set_option maxHeartbeats 3200000 in
theorem numbersOf_walk (s : ByteArray) (bind : Int) (hid : Bool) (wh val sz name : Int) (w : World) (hb0 : 0 ≤ bind) (hb2 : bind ≤ 2) (hw : wh = 0 ∨ wh = -1 ∨ wh = -2 ∨ (1 ≤ wh ∧ wh ≤ 16)) :
    Calls Tryd.prog 19 #[symW s bind hid wh val sz, .int .i64 name] w fun e w' => e = .returned (numsW name (16 * bind) (hidN hid) (wU wh) val sz) ∧ Kept w w' := by
  have B1 := SBx.new w s bind hid wh val sz
  obtain ⟨wa, hwa⟩ : ∃ wa, w.alloc (symO s bind hid wh val sz) = wa := ⟨_, rfl⟩
  rw [hwa] at B1
  have kA : Kept w wa := by rw [← hwa]; exact Kept.alloc _ _
  have sA : wa.heap.size = w.heap.size + 1 := by rw [← hwa]; simp
  have N1 := NBx.new wa 0 0 0 0 0 0
  obtain ⟨wb, hwb⟩ : ∃ wb, wa.alloc (numsO 0 0 0 0 0 0) = wb := ⟨_, rfl⟩
  rw [hwb, sA] at N1
  have kB : Kept wa wb := by rw [← hwb]; exact Kept.alloc _ _
  obtain ⟨c0, c1, c2, c3, c4, c5, _, _, _, _, _, _⟩ := B1.kept kB
  have N1' := N1
  obtain ⟨d0, d1, d2, d3, d4, d5, f0, f1, f2, f3, f4, f5⟩ := N1'
  have K := kA.trans kB
  have hT := fun w => turned_walk wh w (by omega) (by omega)
  have hwp := wrap_place hw
  have hwr := wU_range hw
  obtain ⟨T, hT0⟩ : ∃ T, trn wh = T := ⟨_, rfl⟩
  rw [hT0] at hT hwp
  obtain ⟨U, hU0⟩ : ∃ U, wU wh = U := ⟨_, rfl⟩
  rw [hU0] at hwp hwr ⊢
  obtain ⟨hU1, hU2⟩ := hwr
  have hm : bind * 16 = 16 * bind := Int.mul_comm _ _
  obtain ⟨Z, hZ0⟩ : ∃ Z, 16 * bind = Z := ⟨_, rfl⟩
  rw [hZ0] at hm ⊢
  have hZ1 : 0 ≤ Z := by omega
  have hZ2 : Z ≤ 32 := by omega
  clear hw hT0 hU0 hZ0 B1
  have w1 : IntKind.i64.wrap bind = bind := wrap64 (by omega) (by omega)
  have w2' : IntKind.i64.wrap Z = Z := wrap64 (by omega) (by omega)
  have w3' : IntKind.i64.wrap U = U := wrap64 (by omega) (by omega)
  have A0 : S4 wb w.heap.size bind wh val sz := ⟨c1, c3, c4, c5⟩
  cases hid with
  | false =>
    have N2 := (N1.put name Z 0 U val sz).kept (kept_drew _)
    have K2 : Kept w _ := below_putN (b := w.heap.size + 1) K (Nat.le_succ _) name Z 0 U val sz
    have A0' := S4_drew A0
    have A1' := S4_drew (S4_putN A0 (by omega : w.heap.size + 1 ≠ w.heap.size) name Z 0 U val sz)
    go_enter Tryd.func19, Tryd.ntmps19
    go_upto_region 4 with fail
    go_region_held3 (fun x : World => x.cell? ⟨w.heap.size, 1, none⟩ = some (.int .u8 bind) ∧ x.cell? ⟨w.heap.size, 3, none⟩ = some (.int .i64 wh) ∧ x.cell? ⟨w.heap.size, 4, none⟩ = some (.int .i64 val) ∧ x.cell? ⟨w.heap.size, 5, none⟩ = some (.int .i64 sz))
      (first | with_reducible exact A0' | with_reducible exact A1')
      ((go_at_call 31; refine (hT _).mono ?_; rintro e w2 ⟨rfl, hw2⟩; have hw3 := hw2.symm; subst hw3; clear hw2))
    all_goals
      go_wp2
      exact bodyPost_ret (v := numsW name Z 0 U val sz) (by simp [results, Tryd.results19, go_sem, N2.c0, N2.c1, N2.c2, N2.c3, N2.c4, N2.c5]) rfl ⟨rfl, K2.trans (kept_drew _)⟩
  | true =>
    have N2 := (N1.put name Z 2 U val sz).kept (kept_drew _)
    have K2 : Kept w _ := below_putN (b := w.heap.size + 1) K (Nat.le_succ _) name Z 2 U val sz
    have A0' := S4_drew A0
    have A1' := S4_drew (S4_putN A0 (by omega : w.heap.size + 1 ≠ w.heap.size) name Z 2 U val sz)
    go_enter Tryd.func19, Tryd.ntmps19
    go_upto_region 4 with fail
    go_region_held3 (fun x : World => x.cell? ⟨w.heap.size, 1, none⟩ = some (.int .u8 bind) ∧ x.cell? ⟨w.heap.size, 3, none⟩ = some (.int .i64 wh) ∧ x.cell? ⟨w.heap.size, 4, none⟩ = some (.int .i64 val) ∧ x.cell? ⟨w.heap.size, 5, none⟩ = some (.int .i64 sz))
      (first | with_reducible exact A0' | with_reducible exact A1')
      ((go_at_call 31; refine (hT _).mono ?_; rintro e w2 ⟨rfl, hw2⟩; have hw3 := hw2.symm; subst hw3; clear hw2))
    all_goals
      go_wp2
      exact bodyPost_ret (v := numsW name Z 2 U val sz) (by simp [results, Tryd.results19, go_sem, N2.c0, N2.c1, N2.c2, N2.c3, N2.c4, N2.c5]) rfl ⟨rfl, K2.trans (kept_drew _)⟩
end Go.Proofs.YteehekoajemciaaDoor
