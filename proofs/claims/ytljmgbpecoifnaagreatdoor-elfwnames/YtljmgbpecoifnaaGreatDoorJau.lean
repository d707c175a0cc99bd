/- A symbol's six numbers: the program's. What Write gives. The table of the symbols: its bytes, its names; a file's table of names, set. How the symbols are put: the program's walk. -/
import Derived.Test.YtljmgbpecoifnaaGreatDoorJao
import Derived.Deep.RegionWith
import Derived.Deep.RegionHeld3
import Derived.Deep.DeepCutAuto
import Derived.RegionTactic
import Derived.BigRegion
import Derived.Test.YtljmgbpecoifnaaGreatDoorJag
import Derived.Test.YtljmgbpecoifnaaGreatDoorJat
namespace Go.Proofs.YtljmgbpecoifnaaGreatDoor
open Go.RowKit

abbrev numsW (n0 n1 n2 n3 n4 n5 : Int) : Value := .agg #[.int .i64 n0, .int .i64 n1, .int .i64 n2, .int .i64 n3, .int .i64 n4, .int .i64 n5]
abbrev numsO (n0 n1 n2 n3 n4 n5 : Int) : Obj := .cells #[.int .i64 n0, .int .i64 n1, .int .i64 n2, .int .i64 n3, .int .i64 n4, .int .i64 n5] 159
/-- Six numbers that lie in a block. -/
structure NBx (w : World) (b : Nat) (n0 n1 n2 n3 n4 n5 : Int) : Prop where
  c0 : w.cell? ⟨b, 0, none⟩ = some (.int .i64 n0)
  c1 : w.cell? ⟨b, 1, none⟩ = some (.int .i64 n1)
  c2 : w.cell? ⟨b, 2, none⟩ = some (.int .i64 n2)
  c3 : w.cell? ⟨b, 3, none⟩ = some (.int .i64 n3)
  c4 : w.cell? ⟨b, 4, none⟩ = some (.int .i64 n4)
  c5 : w.cell? ⟨b, 5, none⟩ = some (.int .i64 n5)
  f0 : w.frozen? ⟨b, 0, none⟩ = false
  f1 : w.frozen? ⟨b, 1, none⟩ = false
  f2 : w.frozen? ⟨b, 2, none⟩ = false
  f3 : w.frozen? ⟨b, 3, none⟩ = false
  f4 : w.frozen? ⟨b, 4, none⟩ = false
  f5 : w.frozen? ⟨b, 5, none⟩ = false
theorem NBx.new (w : World) (n0 n1 n2 n3 n4 n5 : Int) : NBx (w.alloc (numsO n0 n1 n2 n3 n4 n5)) w.heap.size n0 n1 n2 n3 n4 n5 := by
  constructor <;> simp
theorem NBx.lt {w : World} {b : Nat} {n0 n1 n2 n3 n4 n5 : Int} (h : NBx w b n0 n1 n2 n3 n4 n5) : b < w.heap.size := block_lt_of_cell h.c0
theorem NBx.kept {w w' : World} {b : Nat} {n0 n1 n2 n3 n4 n5 : Int} (h : NBx w b n0 n1 n2 n3 n4 n5) (k : Kept w w') : NBx w' b n0 n1 n2 n3 n4 n5 :=
  ⟨k.cell h.c0, k.cell h.c1, k.cell h.c2, k.cell h.c3, k.cell h.c4, k.cell h.c5, (k.frozen h.lt).trans h.f0, (k.frozen h.lt).trans h.f1, (k.frozen h.lt).trans h.f2, (k.frozen h.lt).trans h.f3, (k.frozen h.lt).trans h.f4, (k.frozen h.lt).trans h.f5⟩
abbrev putN (w : World) (b : Nat) (n0 n1 n2 n3 n4 n5 : Int) : World :=
  (((((w.setCell ⟨b, 0, none⟩ (.int .i64 n0)).setCell ⟨b, 1, none⟩ (.int .i64 n1)).setCell ⟨b, 2, none⟩ (.int .i64 n2)).setCell ⟨b, 3, none⟩ (.int .i64 n3)).setCell ⟨b, 4, none⟩ (.int .i64 n4)).setCell ⟨b, 5, none⟩ (.int .i64 n5)
theorem NBx.put {w : World} {b : Nat} {m0 m1 m2 m3 m4 m5 : Int} (h : NBx w b m0 m1 m2 m3 m4 m5) (n0 n1 n2 n3 n4 n5 : Int) : NBx (putN w b n0 n1 n2 n3 n4 n5) b n0 n1 n2 n3 n4 n5 := by
  have s0 : NBx (w.setCell ⟨b, 0, none⟩ (.int .i64 n0)) b n0 m1 m2 m3 m4 m5 := ⟨World.cell?_setCell_same _ _ _ h.c0, set_other h.c1 (by decide), set_other h.c2 (by decide), set_other h.c3 (by decide), set_other h.c4 (by decide), set_other h.c5 (by decide), set_frozen h.f0, set_frozen h.f1, set_frozen h.f2, set_frozen h.f3, set_frozen h.f4, set_frozen h.f5⟩
  have s1 : NBx _ b n0 n1 m2 m3 m4 m5 := ⟨set_other s0.c0 (by decide), World.cell?_setCell_same _ ⟨b, 1, none⟩ (.int .i64 n1) s0.c1, set_other s0.c2 (by decide), set_other s0.c3 (by decide), set_other s0.c4 (by decide), set_other s0.c5 (by decide), set_frozen s0.f0, set_frozen s0.f1, set_frozen s0.f2, set_frozen s0.f3, set_frozen s0.f4, set_frozen s0.f5⟩
  have s2 : NBx _ b n0 n1 n2 m3 m4 m5 := ⟨set_other s1.c0 (by decide), set_other s1.c1 (by decide), World.cell?_setCell_same _ ⟨b, 2, none⟩ (.int .i64 n2) s1.c2, set_other s1.c3 (by decide), set_other s1.c4 (by decide), set_other s1.c5 (by decide), set_frozen s1.f0, set_frozen s1.f1, set_frozen s1.f2, set_frozen s1.f3, set_frozen s1.f4, set_frozen s1.f5⟩
  have s3 : NBx _ b n0 n1 n2 n3 m4 m5 := ⟨set_other s2.c0 (by decide), set_other s2.c1 (by decide), set_other s2.c2 (by decide), World.cell?_setCell_same _ ⟨b, 3, none⟩ (.int .i64 n3) s2.c3, set_other s2.c4 (by decide), set_other s2.c5 (by decide), set_frozen s2.f0, set_frozen s2.f1, set_frozen s2.f2, set_frozen s2.f3, set_frozen s2.f4, set_frozen s2.f5⟩
  have s4 : NBx _ b n0 n1 n2 n3 n4 m5 := ⟨set_other s3.c0 (by decide), set_other s3.c1 (by decide), set_other s3.c2 (by decide), set_other s3.c3 (by decide), World.cell?_setCell_same _ ⟨b, 4, none⟩ (.int .i64 n4) s3.c4, set_other s3.c5 (by decide), set_frozen s3.f0, set_frozen s3.f1, set_frozen s3.f2, set_frozen s3.f3, set_frozen s3.f4, set_frozen s3.f5⟩
  exact ⟨set_other s4.c0 (by decide), set_other s4.c1 (by decide), set_other s4.c2 (by decide), set_other s4.c3 (by decide), set_other s4.c4 (by decide), World.cell?_setCell_same _ ⟨b, 5, none⟩ (.int .i64 n5) s4.c5, set_frozen s4.f0, set_frozen s4.f1, set_frozen s4.f2, set_frozen s4.f3, set_frozen s4.f4, set_frozen s4.f5⟩
theorem below_putN {w : World} {b B : Nat} {a : World} (h : Below B a w) (hp : B ≤ b) (n0 n1 n2 n3 n4 n5 : Int) : Below B a (putN w b n0 n1 n2 n3 n4 n5) :=
  (((((h.setCell hp _).setCell hp _).setCell hp _).setCell hp _).setCell hp _).setCell hp _

theorem wrap_place {wh : Int} (hw : wh = 0 ∨ wh = -1 ∨ wh = -2 ∨ (1 ≤ wh ∧ wh ≤ 16)) : IntKind.u16.wrap (trn wh) = wU wh := by
  rcases hw with rfl | rfl | rfl | hw
  · decide
  · decide
  · decide
  · have e1 : trn wh = wh := by unfold trn; rw [if_neg (by omega)]
    have e2 : wU wh = wh := by unfold wU; rw [if_neg (by omega), if_neg (by omega)]
    have e3 : IntKind.u16.wrap wh = wh % 65536 := rfl
    rw [e1, e2, e3]
    omega
theorem wU_range {wh : Int} (hw : wh = 0 ∨ wh = -1 ∨ wh = -2 ∨ (1 ≤ wh ∧ wh ≤ 16)) : 0 ≤ wU wh ∧ wU wh ≤ 65535 := by
  rcases hw with rfl | rfl | rfl | hw
  · decide
  · decide
  · decide
  · have e2 : wU wh = wh := by unfold wU; rw [if_neg (by omega), if_neg (by omega)]
    omega

theorem wrap64 {n : Int} (h0 : -9223372036854775808 ≤ n) (h1 : n ≤ 9223372036854775807) : IntKind.i64.wrap n = n := by
  have e : IntKind.i64.wrap n = if 9223372036854775808 ≤ n % 18446744073709551616 then n % 18446744073709551616 - 18446744073709551616 else n % 18446744073709551616 := by
    simp [IntKind.wrap, IntKind.bits, IntKind.signed]
  rw [e]
  split <;> omega
/-- Four of a symbol's cells. -/
abbrev S4 (x : World) (b : Nat) (bind wh val sz : Int) : Prop := x.cell? ⟨b, 1, none⟩ = some (.int .u8 bind) ∧ x.cell? ⟨b, 3, none⟩ = some (.int .i64 wh) ∧ x.cell? ⟨b, 4, none⟩ = some (.int .i64 val) ∧ x.cell? ⟨b, 5, none⟩ = some (.int .i64 sz)
theorem S4_drew {x : World} {b : Nat} {bind wh val sz : Int} (h : S4 x b bind wh val sz) : S4 x.drew b bind wh val sz := h
theorem putN_far {w : World} {b b' j : Nat} {v : Value} (hc : w.cell? ⟨b, j, none⟩ = some v) (hb : b' ≠ b) (n0 n1 n2 n3 n4 n5 : Int) : (putN w b' n0 n1 n2 n3 n4 n5).cell? ⟨b, j, none⟩ = some v :=
  set_far (set_far (set_far (set_far (set_far (set_far hc hb) hb) hb) hb) hb) hb
theorem S4_putN {x : World} {b b' : Nat} {bind wh val sz : Int} (h : S4 x b bind wh val sz) (hb : b' ≠ b) (n0 n1 n2 n3 n4 n5 : Int) : S4 (putN x b' n0 n1 n2 n3 n4 n5) b bind wh val sz :=
  ⟨putN_far h.1 hb _ _ _ _ _ _, putN_far h.2.1 hb _ _ _ _ _ _, putN_far h.2.2.1 hb _ _ _ _ _ _, putN_far h.2.2.2 hb _ _ _ _ _ _⟩

set_option maxRecDepth 20000 in
set_option maxHeartbeats 3200000 in
theorem numbersOf_walk (s : ByteArray) (bind : Int) (hid : Bool) (wh val sz name : Int) (w : World) (hb0 : 0 ≤ bind) (hb2 : bind ≤ 2) (hw : wh = 0 ∨ wh = -1 ∨ wh = -2 ∨ (1 ≤ wh ∧ wh ≤ 16)) :
    Calls Tryz.prog 133 #[symW s bind hid wh val sz, .int .i64 name] w fun e w' => e = .returned (numsW name (16 * bind) (hidN hid) (wU wh) val sz) ∧ Kept w w' := by
  have B1 := SBx.new w s bind hid wh val sz
  obtain ⟨wa, hwa⟩ : ∃ wa, w.alloc (symO s bind hid wh val sz) = wa := ⟨_, rfl⟩
  rw [hwa] at B1
  have kA : Kept w wa := by rw [← hwa]; exact Kept.alloc _ _
  have sA : wa.heap.size = w.heap.size + 1 := by rw [← hwa]; simp
  have N1 := NBx.new wa 0 0 0 0 0 0
  obtain ⟨wb, hwb⟩ : ∃ wb, wa.alloc (numsO 0 0 0 0 0 0) = wb := ⟨_, rfl⟩
  rw [hwb, sA] at N1
  have kB : Kept wa wb := by rw [← hwb]; exact Kept.alloc _ _
  obtain ⟨c0, c1, c2, c3, c4, c5, _, _, _, _, _, _⟩ := B1.kept kB
  have N1' := N1
  obtain ⟨d0, d1, d2, d3, d4, d5, f0, f1, f2, f3, f4, f5⟩ := N1'
  have K := kA.trans kB
  have hT := fun w => turned_walk wh w (by omega) (by omega)
  have hwp := wrap_place hw
  have hwr := wU_range hw
  obtain ⟨T, hT0⟩ : ∃ T, trn wh = T := ⟨_, rfl⟩
  rw [hT0] at hT hwp
  obtain ⟨U, hU0⟩ : ∃ U, wU wh = U := ⟨_, rfl⟩
  rw [hU0] at hwp hwr ⊢
  obtain ⟨hU1, hU2⟩ := hwr
  have hm : bind * 16 = 16 * bind := Int.mul_comm _ _
  obtain ⟨Z, hZ0⟩ : ∃ Z, 16 * bind = Z := ⟨_, rfl⟩
  rw [hZ0] at hm ⊢
  have hZ1 : 0 ≤ Z := by omega
  have hZ2 : Z ≤ 32 := by omega
  clear hw hT0 hU0 hZ0 B1
  have w1 : IntKind.i64.wrap bind = bind := wrap64 (by omega) (by omega)
  have w2' : IntKind.i64.wrap Z = Z := wrap64 (by omega) (by omega)
  have w3' : IntKind.i64.wrap U = U := wrap64 (by omega) (by omega)
  have A0 : S4 wb w.heap.size bind wh val sz := ⟨c1, c3, c4, c5⟩
  cases hid with
  | false =>
    have N2 := (N1.put name Z 0 U val sz).kept (kept_drew _)
    have K2 : Kept w _ := below_putN (b := w.heap.size + 1) K (Nat.le_succ _) name Z 0 U val sz
    have A0' := S4_drew A0
    have A1' := S4_drew (S4_putN A0 (by omega : w.heap.size + 1 ≠ w.heap.size) name Z 0 U val sz)
    go_enter Tryz.func133, Tryz.ntmps133
    go_upto_region 4 with fail
    go_region_held3 (fun x : World => x.cell? ⟨w.heap.size, 1, none⟩ = some (.int .u8 bind) ∧ x.cell? ⟨w.heap.size, 3, none⟩ = some (.int .i64 wh) ∧ x.cell? ⟨w.heap.size, 4, none⟩ = some (.int .i64 val) ∧ x.cell? ⟨w.heap.size, 5, none⟩ = some (.int .i64 sz))
      (first | with_reducible exact A0' | with_reducible exact A1')
      ((go_at_call 157; refine (hT _).mono ?_; rintro e w2 ⟨rfl, hw2⟩; have hw3 := hw2.symm; subst hw3; clear hw2))
    all_goals
      go_wp2
      exact bodyPost_ret (v := numsW name Z 0 U val sz) (by simp [results, Tryz.results133, go_sem, N2.c0, N2.c1, N2.c2, N2.c3, N2.c4, N2.c5]) rfl ⟨rfl, K2.trans (kept_drew _)⟩
  | true =>
    have N2 := (N1.put name Z 2 U val sz).kept (kept_drew _)
    have K2 : Kept w _ := below_putN (b := w.heap.size + 1) K (Nat.le_succ _) name Z 2 U val sz
    have A0' := S4_drew A0
    have A1' := S4_drew (S4_putN A0 (by omega : w.heap.size + 1 ≠ w.heap.size) name Z 2 U val sz)
    go_enter Tryz.func133, Tryz.ntmps133
    go_upto_region 4 with fail
    go_region_held3 (fun x : World => x.cell? ⟨w.heap.size, 1, none⟩ = some (.int .u8 bind) ∧ x.cell? ⟨w.heap.size, 3, none⟩ = some (.int .i64 wh) ∧ x.cell? ⟨w.heap.size, 4, none⟩ = some (.int .i64 val) ∧ x.cell? ⟨w.heap.size, 5, none⟩ = some (.int .i64 sz))
      (first | with_reducible exact A0' | with_reducible exact A1')
      ((go_at_call 157; refine (hT _).mono ?_; rintro e w2 ⟨rfl, hw2⟩; have hw3 := hw2.symm; subst hw3; clear hw2))
    all_goals
      go_wp2
      exact bodyPost_ret (v := numsW name Z 2 U val sz) (by simp [results, Tryz.results133, go_sem, N2.c0, N2.c1, N2.c2, N2.c3, N2.c4, N2.c5]) rfl ⟨rfl, K2.trans (kept_drew _)⟩

theorem ix6 (n0 n1 n2 n3 n4 n5 : Int) (k : Nat) (hk : k < 6) (w : World) : (Instr.index 159 (numsW n0 n1 n2 n3 n4 n5) (.int .i64 (k : Int))).run Tryz.prog w = .ok (.int .i64 ([n0, n1, n2, n3, n4, n5].getD k 0)) w := by
  rcases (show k = 0 ∨ k = 1 ∨ k = 2 ∨ k = 3 ∨ k = 4 ∨ k = 5 by omega) with rfl | rfl | rfl | rfl | rfl | rfl <;> kernel_rfl
theorem hmk24 (w : World) : (Instr.makeSlice 35 (.int .i64 0) (.int .i64 24)).run Tryz.prog w = .ok (.slice (some ⟨w.heap.size, 0, none⟩) 0 24) (w.alloc (.cells (Array.replicate 24 (.int .u8 0)) 5)) := by kernel_rfl
theorem own_made24 (w : World) : Own (w.alloc (.cells (Array.replicate 24 (.int .u8 0)) 5)) w.heap.size (.slice (some ⟨w.heap.size, 0, none⟩) 0 24) [] :=
  ⟨rfl, .inr ⟨w.heap.size, 24, _, rfl, Nat.le_refl _, heap_alloc_new w _, Nat.zero_le _, by decide, by simp, by simp⟩⟩
theorem Tab.grown {w w' : World} {g : Nat} (h : Tab w) (hg : w.grownBy w' (some g)) (hb : 2 ≠ g) : Tab w' := fun i hi => grown_cell hg (h i hi) hb
theorem Tab.lt {w : World} (h : Tab w) : 2 < w.heap.size := block_lt_of_cell (h 0 (by decide))

/-- While the numbers are gone through. -/
structure YSt (w : World) (v : List Int) (k : Nat) (x : Value) (wr : World) : Prop where
  own : ∃ g cap len, x = .slice (some ⟨g, 0, none⟩) len cap ∧ (symP v k).length = len ∧ Own wr w.heap.size (.slice (some ⟨g, 0, none⟩) len cap) (symP v k)
  tab : Tab wr
  kept : Kept w wr

set_option maxRecDepth 20000 in
set_option maxHeartbeats 3200000 in
theorem ywrite_walk (s : ByteArray) (bind : Int) (hid : Bool) (wh val sz name : Int) (w : World) (hT : Tab w) (hs : s.size ≤ maxLen) (hb : 0 ≤ bind) :
    Calls Tryz.prog 97 #[symW s bind hid wh val sz, .int .i64 name] w fun e w' => ∃ x, e = .returned (.tuple #[x, .int .i64 (wyE (nm s) bind hid wh val sz name)]) ∧ Own w' w.heap.size x (wyL (nm s) bind hid wh val sz name) ∧ Kept w w' := by
  have B1 := SBx.new w s bind hid wh val sz
  obtain ⟨wa, hwa⟩ : ∃ wa, w.alloc (symO s bind hid wh val sz) = wa := ⟨_, rfl⟩
  rw [hwa] at B1
  have kA : Kept w wa := by rw [← hwa]; exact Kept.alloc _ _
  have B1' := B1
  obtain ⟨c0, c1, c2, c3, c4, c5, _, _, _, _, _, _⟩ := B1'
  have hC := fun w => ycheck_walk s bind hid wh val sz 16 w hs hb
  rw [chkY_in (by decide) (by decide)] at hC
  have HT := hT.lt
  cases hok : okY (nm s) bind hid wh val sz 16 with
  | false =>
    rw [hok] at hC
    rw [(wy_bad hok).1, (wy_bad hok).2]
    clear hok
    go_enter Tryz.func97, Tryz.ntmps97
    go_wp2_with (go_at_call 44; refine (hC _).mono ?_; rintro e w1 ⟨rfl, k1⟩)
    go_ret2
    exact ⟨_, rfl, Own.nil _ _, kA.trans k1⟩
  | true =>
    rw [hok] at hC
    by_cases hn0 : name < 0
    · rw [(wy_arg hok (.inl hn0)).1, (wy_arg hok (.inl hn0)).2]
      have d0 : decide (name < 0) = true := decide_eq_true hn0
      clear hok
      go_enter Tryz.func97, Tryz.ntmps97
      go_wp2_with (go_at_call 44; refine (hC _).mono ?_; rintro e w1 ⟨rfl, k1⟩)
      go_ret2
      exact ⟨_, rfl, Own.nil _ _, kA.trans k1⟩
    have d0 : decide (name < 0) = false := decide_eq_false hn0
    by_cases hn1 : 65536 ≤ name
    · rw [(wy_arg hok (.inr (by omega))).1, (wy_arg hok (.inr (by omega))).2]
      have d1 : decide (65536 ≤ name) = true := decide_eq_true hn1
      clear hok
      go_enter Tryz.func97, Tryz.ntmps97
      go_wp2_with (go_at_call 44; refine (hC _).mono ?_; rintro e w1 ⟨rfl, k1⟩)
      go_ret2
      exact ⟨_, rfl, Own.nil _ _, kA.trans k1⟩
    have d1 : decide (65536 ≤ name) = false := decide_eq_false hn1
    have hw0 := wy_ok hok (show 0 ≤ name by omega) (show name ≤ 65535 by omega)
    rw [hw0.1, hw0.2]
    have hst := (okY_has hok).2
    have hH := stands_has hst
    have hNo := fun w => numbersOf_walk s bind hid wh val sz name w hb (by omega) hH.2.2.1
    have hv6 := symN_length name bind hid wh val sz
    have HM : Hid (∀ k, k < 6 → mayB ((symN name bind hid wh val sz).getD k 0) ((symS.getD k 0 : Nat) : Int) = true) := fun k hk => symN_may (by omega) hst hk
    have HR : Hid (∀ k, k < 6 → -9223372036854775808 ≤ (symN name bind hid wh val sz).getD k 0 ∧ (symN name bind hid wh val sz).getD k 0 ≤ 9223372036854775807) := fun k hk => symN_range (by omega) hst hk
    have HL : Hid (symL name bind hid wh val sz = putAll (symS.zip (symN name bind hid wh val sz))) := rfl
    have hIx := ix6 name (16 * bind) (hidN hid) (wU wh) val sz
    obtain ⟨v, hv⟩ : ∃ v, symN name bind hid wh val sz = v := ⟨_, rfl⟩
    have hv' : [name, 16 * bind, hidN hid, wU wh, val, sz] = v := hv
    rw [hv'] at hIx
    rw [hv] at hv6
    replace HM : Hid (∀ k, k < 6 → mayB (v.getD k 0) ((symS.getD k 0 : Nat) : Int) = true) := by rw [← hv]; exact HM
    replace HR : Hid (∀ k, k < 6 → -9223372036854775808 ≤ v.getD k 0 ∧ v.getD k 0 ≤ 9223372036854775807) := by rw [← hv]; exact HR
    replace HL : Hid (symL name bind hid wh val sz = symP v 6) := by unfold Hid; rw [HL.out, hv, symP_six hv6]
    have HV : Hid (v.length = 6) := hv6
    obtain ⟨N1, hN1⟩ : ∃ n, 16 * bind = n := ⟨_, rfl⟩
    obtain ⟨N2, hN2⟩ : ∃ n, hidN hid = n := ⟨_, rfl⟩
    obtain ⟨N3, hN3⟩ : ∃ n, wU wh = n := ⟨_, rfl⟩
    rw [hN1, hN2, hN3] at hNo hIx
    clear hok hw0 hst hH hv hv' hv6 hN1 hN2 hN3
    go_enter Tryz.func97, Tryz.ntmps97
    go_upto_region 6 with (go_at_call 44; refine (hC _).mono ?_; rintro e w1 ⟨rfl, k1⟩)
    have B2 := B1.kept k1
    have K1 := kA.trans k1
    have O1 := own_made24 w1
    have hm := hmk24 w1
    have k2 : Kept w1 (w1.alloc (.cells (Array.replicate 24 (.int .u8 0)) 5)) := Kept.alloc _ _
    obtain ⟨w2, hw2⟩ : ∃ w2, w1.alloc (.cells (Array.replicate 24 (.int .u8 0)) 5) = w2 := ⟨_, rfl⟩
    rw [hw2] at O1 hm k2
    have K2 := K1.trans k2
    clear c0 c1 c2 c3 c4 c5 hC hw2
    obtain ⟨c0, c1, c2, c3, c4, c5, _, _, _, _, _, _⟩ := B2.kept k2
    have hs1 := K1.size
    obtain ⟨b1, hb1⟩ : ∃ b, w1.heap.size = b := ⟨_, rfl⟩
    rw [hb1] at O1 hm hs1
    clear hb1
    go_upto_region 8 with (go_at_call 133; refine (hNo _).mono ?_; rintro e w3 ⟨rfl, k3⟩)
    have S0 : YSt w v 0 (.slice (some ⟨b1, 0, none⟩) 0 24) w3 :=
      ⟨⟨_, _, 0, rfl, rfl, own_keep (own_base O1 hs1) k3⟩, hT.kept (K2.trans k3), K2.trans k3⟩
    clear c0 c1 c2 c3 c4 c5 hNo B1 B2 O1 hm K1 K2 k1 k2 k3 kA hwa hT
    go_loopw [7, 27] (fun x i wr => ∃ k : Nat, k ≤ 6 ∧ i = .int .i64 k ∧ YSt w v k x wr) (fun _ i _ => 6 - (intOf i).toNat)
    case atStart => exact ⟨0, Nat.zero_le _, rfl, S0⟩
    case round =>
      obtain ⟨k, hk, rfl, S⟩ := hrel
      clear S0
      by_cases hlt : k < 6
      · have t0 := S.tab k hlt
        have hI := hIx k hlt
        have hmb := HM.out k hlt
        obtain ⟨hn0, hn1⟩ := HR.out k hlt
        have hss := symS_at k hlt
        obtain ⟨n, hn⟩ : ∃ n, v.getD k 0 = n := ⟨_, rfl⟩
        obtain ⟨z, hz⟩ : ∃ z, symS.getD k 0 = z := ⟨_, rfl⟩
        rw [hn] at hI hmb hn0 hn1
        rw [hz] at t0 hmb hss
        have HE : Hid (symP v (k + 1) = symP v k ++ byN (uOf n) z) := by unfold Hid; rw [symP_succ HV.out hlt, hn, hz]
        have hP := fun w => put_yes n z w hn0 hn1 (mayB_sz hmb) hmb
        obtain ⟨g, cap, len, rfl, hlen, hO⟩ := S.own
        have hle := symP_le HV.out k hk
        have HLn : Hid ((symP v k).length = len) := hlen
        have hpos : 0 < z := by omega
        have hsl : len + z ≤ 10000000 := by omega
        clear hmb hlen hle hn hz hss hIx
        go_upto_region 13 with (go_at_call 94; refine (hP _).mono ?_; rintro e w4 ⟨x2, rfl, hO2, hk2⟩; obtain ⟨A2, C2, rfl, _, hb2, _⟩ := hO2.let (byN_length _ _); have hO' := own_keep hO hk2)
        have T2 := S.tab.kept hk2
        have W2 := S.kept.trans hk2
        have hsz2 : w.heap.size ≤ w4.heap.size := W2.size
        have hgw := (hO'.lt g rfl).1
        clear hP hO hk2 hO2 t0 hI
        go_wp2_with (at_builtin; refine wpList_append_bytL rfl _ _ rfl w.heap.size g len cap (symP v k) (byN (uOf n) z) A2 z C2 HLn.out (byN_length _ _) rfl rfl hO' hb2 hpos hsl hsz2 ?_; intro g3 c3 w5 hO3 hg3 hor)
        have S' : YSt w v (k + 1) (.slice (some ⟨g3, 0, none⟩) (len + z) c3) w5 := by
          refine ⟨⟨g3, c3, len + z, rfl, ?_, ?_⟩, T2.grown hg3 (by omega), ?_⟩
          · rw [HE.out, List.length_append, byN_length, HLn.out]
          · rw [HE.out]; exact hO3
          · exact W2.grown hg3 hsz2 (fun j ej => by cases ej; exact hgw)
        clear T2 W2 hO' hO3 hg3 S
        go_wp2
        go_roundw
        case rel => exact ⟨k + 1, by omega, by go_num, S'⟩
        case measure => simp [intOf]; omega
      · obtain rfl : k = 6 := by omega
        obtain ⟨g, cap, len, rfl, _, hO⟩ := S.own
        have hK := S.kept
        clear S
        go_wp2
        go_ret2
        exact ⟨_, rfl, by rw [HL.out]; exact hO, hK⟩

def nmK (ys : List SymV) (k : Nat) : List ByteArray := (ys.take k).map (·.s)
theorem nmK_length {ys : List SymV} {k : Nat} (h : k ≤ ys.length) : (nmK ys k).length = k := by unfold nmK; rw [List.length_map, List.length_take]; omega
theorem nmK_succ {ys : List SymV} {k : Nat} (h : k < ys.length) : nmK ys (k + 1) = nmK ys k ++ [(ys.getD k symV0).s] := by
  unfold nmK
  rw [take_snoc symV0 ys k h, List.map_append, List.map_singleton]
theorem nmK_all {ys : List SymV} {n : Nat} (h : ys.length = n) : nmK ys n = ys.map (·.s) := by unfold nmK; rw [List.take_of_length_le (by omega)]
def locK (ys : List SymV) (k : Nat) : Nat := ((ys.take k).filter fun y => y.bind == 0).length
theorem locK_loc {ys : List SymV} {k : Nat} (h : k < ys.length) (hb : (ys.getD k symV0).bind = 0) : locK ys (k + 1) = locK ys k + 1 := by
  unfold locK
  rw [take_snoc symV0 ys k h, List.filter_append, List.filter_cons_of_pos (by simpa using hb), List.filter_nil, List.length_append]
  rfl
theorem locK_not {ys : List SymV} {k : Nat} (h : k < ys.length) (hb : (ys.getD k symV0).bind ≠ 0) : locK ys (k + 1) = locK ys k := by
  unfold locK
  rw [take_snoc symV0 ys k h, List.filter_append, List.filter_cons_of_neg (by simpa using hb), List.filter_nil, List.append_nil]
theorem locK_le (ys : List SymV) (k : Nat) : locK ys k ≤ k := by
  unfold locK
  refine Nat.le_trans (List.length_filter_le _ _) ?_
  rw [List.length_take]
  omega
theorem locK_all {o : ObjV} {n : Nat} (h : o.ys.length = n) : locK o.ys n = locsN o.m := by
  unfold locK locsN
  rw [List.take_of_length_le (by omega)]
  show _ = ((o.ys.map symOfV).filter fun y => y.bind == 0).length
  rw [List.filter_map, List.length_map]
  rfl
def syPart (f L : Nat) (z : List Int) : PartM := ⟨syNm, 2, 0, (f : Int) + 1, (L : Int) + 1, 8, 24, 0, z⟩
theorem nm_symtab : nm ⟨#[46, 115, 121, 109, 116, 97, 98]⟩ = syNm := by decide +kernel
def symK (fs : List (List Int)) (ys : List SymV) (k : Nat) : List Int := List.replicate 24 0 ++ (ys.take k).flatMap fun y => symM fs (symOfV y)
theorem symK_zero (fs : List (List Int)) (ys : List SymV) : symK fs ys 0 = List.replicate 24 0 := by simp [symK]
theorem symK_succ {fs : List (List Int)} {ys : List SymV} {k : Nat} (h : k < ys.length) : symK fs ys (k + 1) = symK fs ys k ++ symM fs (symOfV (ys.getD k symV0)) := by
  unfold symK
  rw [take_snoc symV0 ys k h, List.flatMap_append, List.flatMap_singleton, List.append_assoc]
theorem symK_length {fs : List (List Int)} {ys : List SymV} {k : Nat} (h : k ≤ ys.length) : (symK fs ys k).length = 24 + 24 * k := by
  unfold symK
  rw [List.length_append, List.length_replicate, flat_length (k := 24) (fun y => symM fs (symOfV y)) _ (fun x _ => symL_length _ _ _ _ _ _), List.length_take]
  rw [Nat.min_eq_left h]
theorem symPt_eq {o : ObjV} {n f : Nat} (h : o.ys.length = n) : symPt o.m f = syPart f (locK o.ys n) (symK (fsts (yNames o.m)) o.ys n) := by
  have e : symsL o.m = symK (fsts (yNames o.m)) o.ys n := by
    unfold symsL symK
    rw [List.take_of_length_le (by omega)]
    show _ ++ (o.ys.map symOfV).flatMap _ = _
    rw [List.flatMap_map]
  unfold symPt syPart
  rw [e, locK_all h]
theorem bld_syms {o : ObjV} (h : OkO o.m) : bldE (o.ys.map (·.s)) = 0 ∧ bldT (o.ys.map (·.s)) = tbl (fsts (yNames o.m)) ∧ bldP (o.ys.map (·.s)) = plcI (o.ys.map (·.s)) ∧ (tbl (fsts (yNames o.m))).length ≤ 5000 := by
  have e : nms (o.ys.map (·.s)) = yNames o.m := by
    unfold nms yNames
    show _ = (o.ys.map symOfV).map (·.nm)
    rw [List.map_map, List.map_map]
    rfl
  have hr : ∀ s ∈ o.ys.map (·.s), wrongB s = false := by
    intro s hs
    obtain ⟨y, hy, rfl⟩ := List.mem_map.1 hs
    have hm := mayNm_true (h.ys (symOfV y) (List.mem_map.2 ⟨y, hy, rfl⟩)).1
    have hl : (nm y.s).length ≤ 32 := hm.2.1
    refine right_of (by rw [← nm_length]; omega) fun x hx => ?_
    have := of_decide_eq_true (hm.2.2 x hx)
    omega
  have hn : o.ys.length ≤ 64 := by
    have := h.yn
    have e2 : o.m.ys.length = o.ys.length := by show (o.ys.map symOfV).length = _; rw [List.length_map]
    omega
  have ht := tbl_bound hr
  rw [List.length_map] at ht
  have hbad : badB (o.ys.map (·.s)) = false := by
    unfold badB
    rw [List.any_eq_false]
    intro s hs
    rw [hr s hs]
    decide
  obtain ⟨h1, h2, h3⟩ := bld_ok (ss := o.ys.map (·.s)) (by rw [List.length_map]; omega) hbad (by omega)
  rw [e] at h2 ht
  exact ⟨h1, h2, h3, by omega⟩
theorem plcI_syms {o : ObjV} {i : Nat} (hi : i < o.ys.length) : (plcI (o.ys.map (·.s))).getD i 0 = (plc (fsts (yNames o.m)) (nm (o.ys.getD i symV0).s) : Int) := by
  have e : nms (o.ys.map (·.s)) = yNames o.m := by
    unfold nms yNames
    show _ = (o.ys.map symOfV).map (·.nm)
    rw [List.map_map, List.map_map]
    rfl
  unfold plcI plcs
  rw [e, List.getD, List.getElem?_map, List.getElem?_map]
  unfold yNames
  show Option.getD (Option.map _ (Option.map _ (((o.ys.map symOfV).map (·.nm))[i]?))) 0 = _
  rw [List.getElem?_map, List.getElem?_map, List.getElem?_eq_getElem hi, getD_of_lt hi]
  rfl
theorem sym_at {o : ObjV} (h : OkO o.m) {k : Nat} (hk : k < o.ys.length) {s : ByteArray} {bind : Int} {hid : Bool} {wh val sz : Int} (hy : o.ys.getD k symV0 = ⟨s, bind, hid, wh, val, sz⟩) :
    okY (nm s) bind hid wh val sz 16 = true ∧ plc (fsts (yNames o.m)) (nm s) ≤ 65535 ∧ (plcI (o.ys.map (·.s))).getD k 0 = (plc (fsts (yNames o.m)) (nm s) : Int) ∧ symM (fsts (yNames o.m)) (symOfV (o.ys.getD k symV0)) = symL (plc (fsts (yNames o.m)) (nm s)) bind hid wh val sz := by
  have hm : symOfV (o.ys.getD k symV0) ∈ o.m.ys := List.mem_map.2 ⟨_, getD_in hk _, rfl⟩
  have h1 := h.ys _ hm
  have h2 := yplc_le h hm
  have h3 := plcI_syms hk
  rw [hy] at h1 h2 h3 ⊢
  refine ⟨?_, h2.1, h3, rfl⟩
  unfold okY
  rw [Bool.and_eq_true]
  exact ⟨h1.1, stands_more (by have := h.sn; omega) h1.2⟩
/-- The table of names is set. -/
theorem FileOk.table {B : Nat} {w : World} {fb : Nat} {σ : FSt} (h : FileOk B w fb σ) {v : Value} {T : List Int} (ho : Own w B v T) (hd : ∀ g, v.ownBlock = some g → ¬ FS fb σ g) : Went B fb σ w { σ with vt := v, tb := T } (w.setCell ⟨fb, 4, none⟩ v) := by
  have n0 : v.ownBlock ≠ some fb := fun e => hd _ e (.inl rfl)
  have n1 : v.ownBlock ≠ some σ.gb := fun e => hd _ e (.inr (.inl rfl))
  have n2 : v.ownBlock ≠ some σ.gh := fun e => hd _ e (.inr (.inr (.inl rfl)))
  have n3 : v.ownBlock ≠ some σ.gn := fun e => hd _ e (.inr (.inr (.inr rfl)))
  refine ⟨⟨set_other h.c0 (by decide), set_other h.c1 (by decide), set_other h.c2 (by decide), set_other h.c3 (by decide), World.cell?_setCell_same _ _ _ h.c4, set_other h.c5 (by decide), set_frozen h.f0, set_frozen h.f1, set_frozen h.f2, set_frozen h.f3, set_frozen h.f4, set_frozen h.f5,
    row_far h.ob _ _ (fun g e => by injection e with e; subst e; exact fun e => h.d1.1 e.symm), row_far h.oh _ _ (fun g e => by injection e with e; subst e; exact fun e => h.d2.1 e.symm), row_far h.on _ _ (fun g e => by injection e with e; subst e; exact fun e => h.d3.1 e.symm),
    row_far ho _ _ (fun g e e2 => n0 (by rw [e]; exact congrArg some e2.symm)), h.h10, ⟨h.d1.1, h.d1.2.1, h.d1.2.2.1, n1⟩, ⟨h.d2.1, h.d2.2.1, n2⟩, ⟨h.d3.1, n3⟩, n0, h.hB⟩, ?_, ?_⟩
  · exact (Turn.refl _ _).set _ _ (.inl (.inl rfl))
  · exact fun k hk => .inl hk
theorem OwnI.each {w : World} {base : Nat} {v : Value} {l : List Int} (h : OwnI w base v l) {n : Nat} (hn : l.length = n) : ∃ a cap, v = .slice a n cap ∧ (0 < n → ∃ g, a = some ⟨g, 0, none⟩ ∧ base ≤ g ∧ g < w.heap.size ∧ ∀ i, i < n → w.cell? ⟨g, i, none⟩ = some (.int .i64 (l.getD i 0))) := by
  by_cases hp : 0 < n
  · obtain ⟨g, cap, hv, h1, h2, h3⟩ := h.pos hn hp
    exact ⟨_, cap, hv, fun _ => ⟨g, rfl, h1, h2, h3⟩⟩
  · obtain ⟨a, cap, hv, _⟩ := h.let hn
    exact ⟨a, cap, hv, fun e => absurd e hp⟩
theorem byt_made24 (w : World) : Byt (w.alloc (.cells (Array.replicate 24 (.int .u8 0)) 5)) (some ⟨w.heap.size, 0, none⟩) (List.replicate 24 0) :=
  .inr ⟨_, 0, rfl, fun i hi => by
    have hi' : i < 24 := by simpa using hi
    rw [Nat.zero_add, List.getD, List.getElem?_replicate, if_pos hi', Option.getD_some]
    simp [hi']⟩

theorem hmkS (w : World) : (Instr.makeSlice 35 (.int .i64 24) (.int .i64 24)).run Tryz.prog w = .ok (.slice (some ⟨w.heap.size, 0, none⟩) 24 24) (w.alloc (.cells (Array.replicate 24 (.int .u8 0)) 5)) := by kernel_rfl
theorem wr_up {L : Nat} (h : L ≤ 64) : Go.RowKit.wrap64 ((L : Int) + 1) = ((L + 1 : Nat) : Int) := w64 (by omega) (by omega)
theorem wr_up' {L : Nat} (h : L ≤ 64) : IntKind.i64.wrap ((L : Int) + 1) = ((L + 1 : Nat) : Int) := w64i (by omega) (by omega)
theorem wr_one {L : Nat} (h : L ≤ 1000) : Go.RowKit.wrap64 ((L : Int) + 1) = (L : Int) + 1 := w64 (by omega) (by omega)
theorem wr_one' {L : Nat} (h : L ≤ 1000) : IntKind.i64.wrap ((L : Int) + 1) = (L : Int) + 1 := w64i (by omega) (by omega)
theorem layN_more {ps : List PartM} {f L : Nat} {z : List Int} (h : layN 64 ps ≤ 800000) (h3 : z.length ≤ 2000) : layN 64 (ps ++ [syPart f L z]) ≤ 1000000 := by
  rw [layN_append]
  show layN 64 ps + padN (layN 64 ps) 8 + z.length ≤ _
  have h4 := padN_lt (len := layN 64 ps) (m := 8) (by omega)
  generalize layN 64 ps = N at h h4 ⊢
  generalize padN N 8 = M at h4 ⊢
  omega
theorem own_base' {w : World} {base base' : Nat} {e : TypeId} {c n : Nat} {v : Value} {l : List Value} (h : w.ownsRow base e c v n l) (hb : base' ≤ base) : w.ownsRow base' e c v n l := by
  refine ⟨h.1, ?_⟩
  rcases h.2 with h' | ⟨g, cap, cur, hv, hg, rest⟩
  · exact .inl h'
  · exact .inr ⟨g, cap, cur, hv, Nat.le_trans hb hg, rest⟩
set_option maxRecDepth 20000 in
/-- 'append(names, s)', with what stays. -/
theorem wpList_append_nameB {w : World} {ops : Array Oper} {rest : List Oper} {o : Oper} {a : Act} {Q : Exit → Act → World → Prop} (hgd : o.guard = none) (s x : Operand)
    (ho : o.op = .call { callee := .builtin .append, args := #[s, x], argTypes := #[59, 59] }) (base : Nat) (va : Option Addr) (m vc : Nat) (xs : List ByteArray) (str : ByteArray) (ad : Addr) (c : Nat) (hm : xs.length = m) (hs : a.eval s = .slice va m vc) (hx : a.eval x = .slice (some ad) 1 c)
    (hown : OwnS w base (.slice va m vc) xs) (hc : w.cell? ad = some (.string str)) (hlen : m + 1 ≤ 1000000) (hbase : base ≤ w.heap.size)
    (h : ∀ va' vc' w', OwnS w' base (.slice va' (m + 1) vc') (xs ++ [str]) → w.grownBy w' (Value.ownBlock (.slice va m vc)) → wpList Tryz.prog ops Q rest (a.put o.dst (.slice va' (m + 1) vc')) w') : wpList Tryz.prog ops Q (o :: rest) a w := by
  subst hm
  obtain ⟨i0, hi, hz0, hz1, hz2⟩ := info_parts Tryz.infoStr
  refine wpList_append_own _ hgd s x 59 ho base 9 i0 (.string ByteArray.empty) 1 16 Tryz.underlying59 hi hz0 hz1 hz2 rfl (by decide) _ xs.length _ hs hown ad 1 c [.string str] hx rfl ?_ (strs_oneCell [str]) (by unfold maxLen; omega) (by omega) hbase ?_
  · intro j u hj
    match j, hj with
    | 0, hj => simp at hj; subst hj; simpa [Addr.add] using hc
  · intro v' w' h1 h2 _
    have h3 : OwnS w' base v' (xs ++ [str]) := by unfold OwnS; simpa using h1
    obtain ⟨a', c', rfl, _⟩ := h3.let (n := xs.length + 1) (by simp)
    exact h a' c' w' h3 h2
set_option maxRecDepth 20000 in
set_option maxHeartbeats 6400000 in
theorem putSymbols_walk (B fb : Nat) (σ : FSt) (ps : List PartM) (o : ObjV) (W w : World) (f : Nat) (hF : FileOk B w fb σ) (hP : PSt ps σ) (hO : ObjOk W o) (hWw : Kept W w) (hWB : W.heap.size ≤ B) (hT : Tab W) (hok : OkO o.m) (hsy : σ.sy = (f : Int)) (hf : f ≤ 1000) (hl0 : layN 64 ps ≤ 700000) (hpl : ps.length ≤ 800) :
    Calls Tryz.prog 57 #[.pointer (some ⟨fb, 0, none⟩), objW o] w fun e w' => e = .returned (.tuple #[]) ∧ ∃ σ', Went B fb σ w σ' w' ∧ PSt (ps ++ [symPt o.m f]) σ' ∧ σ'.sy = σ.sy ∧ σ'.tb = tbl (fsts (yNames o.m)) := by
  have hyn : o.yn ≤ 64 := by
    have h1 := hok.yn
    have h2 := hO.hy
    have e2 : o.m.ys.length = o.ys.length := by show (o.ys.map symOfV).length = _; rw [List.length_map]
    omega
  obtain ⟨e1, e2, e3, e4⟩ := bld_syms hok
  have HA : ∀ k, k < o.yn → ∀ s bind hid wh val sz, o.ys.getD k symV0 = ⟨s, bind, hid, wh, val, sz⟩ → okY (nm s) bind hid wh val sz 16 = true ∧ plc (fsts (yNames o.m)) (nm s) ≤ 65535 ∧ (plcI (o.ys.map (·.s))).getD k 0 = (plc (fsts (yNames o.m)) (nm s) : Int) ∧ symM (fsts (yNames o.m)) (symOfV (o.ys.getD k symV0)) = symL (plc (fsts (yNames o.m)) (nm s)) bind hid wh val sz :=
    fun k hk s bind hid wh val sz hy => sym_at hok (by rw [hO.hy]; exact hk) hy
  rw [symPt_eq (n := o.yn) hO.hy]
  obtain ⟨FS', hFS⟩ : ∃ FS', fsts (yNames o.m) = FS' := ⟨_, rfl⟩
  rw [hFS] at HA e2 e4 ⊢
  clear hok hFS
  obtain ⟨ss, sa, sn, sc, ys, ya, n, yc, rs, ra, rn, rc, gs, ga, gn, gc⟩ := o
  have hY : SymR W ya ys := hO.y
  have hl : ys.length = n := hO.hy
  clear hO
  dsimp only at hyn e1 e2 e3 HA ⊢
  have HE : Hid (bldE (ys.map (·.s)) = 0 ∧ bldT (ys.map (·.s)) = tbl FS' ∧ bldP (ys.map (·.s)) = plcI (ys.map (·.s))) := ⟨e1, e2, e3⟩
  obtain ⟨wa, hwa, B1, kA, sA⟩ := box_obj w (.slice sa sn sc) (.slice ya n yc) (.slice ra rn rc) (.slice ga gn gc)
  have c1 := B1.c1
  have hFa := hF.kept kA
  have hnb : ¬ FS fb σ w.heap.size := fun e => by have := (hF.lt _ e).2; omega
  have hBa := hFa.size
  clear e1 e2 e3
  go_enter Tryz.func57, Tryz.ntmps57
  go_wp2
  go_loopw [4, 5, 16] (fun v l i wr => ∃ (k L : Nat) (va : Option Addr) (vc : Nat), k ≤ n ∧ i = .int .i64 k ∧ l = .int .i64 (L : Nat) ∧ v = .slice va k vc ∧ locK ys k = L ∧ OwnS wr wa.heap.size (.slice va k vc) (nmK ys k) ∧ Kept wa wr) (fun _ _ i _ => n - (intOf i).toNat)
  case atStart => exact ⟨0, 0, none, 0, Nat.zero_le _, rfl, rfl, rfl, rfl, OwnS.nil _ _, Kept.refl _⟩
  case round =>
    obtain ⟨k, L, va, vc, hk, rfl, rfl, rfl, hL, hOw, K⟩ := hrel
    have hLk : L ≤ 64 := by have := locK_le ys k; omega
    have HL : Hid (locK ys k = L) := hL
    clear hL
    by_cases hlt : k < n
    · obtain ⟨b, off, rfl, hAt⟩ := (hY.kept ((hWw.trans kA).trans K)).cells (show k < ys.length by omega)
      obtain ⟨y, hy⟩ : ∃ y, ys.getD k symV0 = y := ⟨_, rfl⟩
      rw [hy] at hAt
      have HV : Hid (ys.getD k symV0 = y) := hy
      obtain ⟨s, bind, hid, wh, val, sz⟩ := y
      have x0 : wr.cell? ⟨b, off + k * 6, none⟩ = some (.string s) := hAt.c0
      have x1 : wr.cell? ⟨b, off + k * 6 + 1, none⟩ = some (.int .u8 bind) := hAt.c1
      have x2 : wr.cell? ⟨b, off + k * 6 + 2, none⟩ = some (.bool hid) := hAt.c2
      have x3 : wr.cell? ⟨b, off + k * 6 + 3, none⟩ = some (.int .i64 wh) := hAt.c3
      have x4 : wr.cell? ⟨b, off + k * 6 + 4, none⟩ = some (.int .i64 val) := hAt.c4
      have x5 : wr.cell? ⟨b, off + k * 6 + 5, none⟩ = some (.int .i64 sz) := hAt.c5
      obtain ⟨wb, wc, hwb, hwc, Z1, Z2, K2, s2⟩ := put_sym wr s bind hid wh val sz
      obtain ⟨z0, z1, z2, z3, z4, z5, y0, y1, y2, y3, y4, y5⟩ := Z1
      obtain ⟨u0, u1, u2, u3, u4, u5, _, _, _, _, _, _⟩ := id Z2
      have KW := K.trans K2
      have hOw2 : OwnS wc wa.heap.size (.slice va k vc) (nmK ys k) := row_kept hOw K2
      have hO6 : OwnS (wc.alloc (.cells #[.string s] 9)) wa.heap.size (.slice va k vc) (nmK ys k) := row_kept hOw2 (Kept.alloc _ _)
      have K6 : Kept wa (wc.alloc (.cells #[.string s] 9)) := KW.trans (Kept.alloc _ _)
      have hcell : (wc.alloc (.cells #[.string s] 9)).cell? ⟨wr.heap.size + 1, 0, none⟩ = some (.string s) := by rw [← s2]; simp
      have HE2 : Hid (nmK ys (k + 1) = nmK ys k ++ [s]) := by unfold Hid; rw [nmK_succ (by omega), hy]
      have Z3 := Z2.kept (Kept.alloc wc (.cells #[.string s] 9))
      have hvb : ∀ g, Value.ownBlock (.slice va k vc) = some g → wa.heap.size ≤ g ∧ g < wr.heap.size := hOw.lt
      have hkl : (nmK ys k).length = k := nmK_length (by omega)
      have hk9 : k + 1 ≤ 1000000 := by omega
      have h1L : Go.RowKit.wrap64 ((L : Int) + 1) = ((L + 1 : Nat) : Int) := wr_up hLk
      have h2L : IntKind.i64.wrap ((L : Int) + 1) = ((L + 1 : Nat) : Int) := wr_up' hLk
      clear hAt hOw hOw2 HA hy
      by_cases hb : bind = 0
      · have HLs : Hid (locK ys (k + 1) = L + 1) := by unfold Hid; rw [locK_loc (by omega) (by rw [HV.out]; exact hb), HL.out]
        have q1 : (bind == 0) = true := beq_iff_eq.2 hb
        clear hb
        go_wp2_with (at_builtin; refine wpList_append_nameB rfl _ _ rfl wa.heap.size va k vc (nmK ys k) s ⟨wr.heap.size + 1, 0, none⟩ 1 hkl rfl rfl hO6 hcell hk9 K6.size ?_; intro va7 vc7 w7 R7 G7; have K7 : Kept wa w7 := K6.grown G7 K6.size (fun g e => (hvb g e).1); have b7 : w7.cell? ⟨wr.heap.size, 1, none⟩ = some (.int .u8 bind) := G7.cell Z3.c1 (fun e => Nat.lt_irrefl _ (hvb _ e.symm).2))
        go_roundw
        case rel => exact ⟨k + 1, L + 1, va7, vc7, by omega, by go_num, rfl, rfl, HLs.out, by rw [HE2.out]; exact R7, K7⟩
        case measure => simp [intOf]; omega
      · have HLs : Hid (locK ys (k + 1) = L) := by unfold Hid; rw [locK_not (by omega) (by rw [HV.out]; exact hb), HL.out]
        have q1 : (bind == 0) = false := beq_eq_false_iff_ne.2 hb
        clear hb
        go_wp2_with (at_builtin; refine wpList_append_nameB rfl _ _ rfl wa.heap.size va k vc (nmK ys k) s ⟨wr.heap.size + 1, 0, none⟩ 1 hkl rfl rfl hO6 hcell hk9 K6.size ?_; intro va7 vc7 w7 R7 G7; have K7 : Kept wa w7 := K6.grown G7 K6.size (fun g e => (hvb g e).1); have b7 : w7.cell? ⟨wr.heap.size, 1, none⟩ = some (.int .u8 bind) := G7.cell Z3.c1 (fun e => Nat.lt_irrefl _ (hvb _ e.symm).2))
        go_roundw
        case rel => exact ⟨k + 1, L, va7, vc7, by omega, by go_num, rfl, rfl, HLs.out, by rw [HE2.out]; exact R7, K7⟩
        case measure => simp [intOf]; omega
    · obtain rfl : k = n := by omega
      rw [nmK_all hl] at hOw
      have hFr := hFa.kept K
      have hll : (ys.map (·.s)).length = k := by rw [List.length_map]; exact hl
      have hBu : Calls Tryz.prog 96 #[.slice va k vc] wr fun e w' => BPost wr (ys.map (·.s)) e w' := by
        obtain ⟨a', c', hv, hSt⟩ := hOw.let hll
        simp only [Value.slice.injEq] at hv
        obtain ⟨rfl, _, rfl⟩ := hv
        refine build_walk va vc k (ys.map (·.s)) wr hll (fun s hs => ?_) hSt
        have := (wrong_false (bad_false (bld_zero HE.out.1).2.1 s hs)).1
        unfold maxLen
        omega
      obtain ⟨T, hT0⟩ : ∃ T, tbl FS' = T := ⟨_, rfl⟩
      obtain ⟨m, hm⟩ : ∃ m, T.length = m := ⟨_, rfl⟩
      rw [hT0] at HE e4
      rw [hm] at e4
      have HT : Hid (tbl FS' = T ∧ T.length = m) := ⟨hT0, hm⟩
      have HBr : Hid (B ≤ wr.heap.size) := hFr.size
      have hpl' : (plcI (ys.map (·.s))).length = k := by rw [plcI_length]; exact hll
      have w1f : Go.RowKit.wrap64 ((f : Int) + 1) = (f : Int) + 1 := wr_one hf
      have w2f : IntKind.i64.wrap ((f : Int) + 1) = (f : Int) + 1 := wr_one' hf
      have hL1000 : L ≤ 1000 := Nat.le_trans hLk (by decide)
      have w1L : Go.RowKit.wrap64 ((L : Int) + 1) = (L : Int) + 1 := wr_one hL1000
      have w2L : IntKind.i64.wrap ((L : Int) + 1) = (L : Int) + 1 := wr_one' hL1000
      clear hOw hT0 hm
      go_upto_region 14 with (go_at_call 96; refine hBu.mono ?_; rintro e w3 ⟨v3, p3, rfl, hO3, hI3, k3⟩; rw [HE.out.1]; rw [HE.out.2.1] at hO3; rw [HE.out.2.2] at hI3; obtain ⟨A3, C3, rfl, _, hb3, hn3⟩ := hO3.let HT.out.2; obtain ⟨pa, pc, rfl, hpc⟩ := hI3.each hpl'; have ok3 := hFr.kept k3; have c4 := ok3.c4; have f4 := ok3.f4)
      have hT4 := ok3.table (own_base' hO3 HBr.out) (fun g e hg => by have h1 := (hO3.lt g e).1; have h2 := (hFr.lt _ hg).2; omega)
      have hP4 : PSt ps { σ with vt := .slice A3 m C3, tb := T } := ⟨hP.b, hP.hs, hP.ns, hP.e⟩
      clear hBu c4 f4
      generalize hw4 : w3.setCell _ _ = w4 at hT4 ⊢
      have c3 : w4.cell? ⟨fb, 3, none⟩ = some (.int .i64 (f : Int)) := by rw [← hsy]; exact hT4.ok.c3
      have hB := pbegin_walk B fb _ ps (syPart f L []) ⟨#[46, 115, 121, 109, 116, 97, 98]⟩ 0 w4 hT4.ok hP4 rfl nm_symtab rfl (by simp [syPart]) (by simp [syPart]) (by omega) (by omega)
      have HL1 : Hid (layN 64 (ps ++ [syPart f L []]) ≤ 1000000) := layN_one (by omega) (by simp [syPart]) (by simp [syPart]) rfl
      unfold syPart at hB
      dsimp only at hB
      clear hw4
      go_upto_region 15 with (go_at_call 92; refine hB.mono ?_; rintro e w5 ⟨rfl, τ, hW5, hP5, hK5⟩)
      have hP5' : PSt (ps ++ [syPart f L []]) τ := hP5
      have hm5 := hmkS w5
      have hPu := pput_walk B fb τ ps (syPart f L []) (some ⟨w5.heap.size, 0, none⟩) 24 24 (List.replicate 24 0) _ (hW5.ok.kept (Kept.alloc w5 _)) hP5' (by simp) (byt_made24 w5) (fun e => by cases e) (by simp [syPart]) (by simp [syPart]) (by simp [syPart]) HL1.out (by simp [syPart]) (by decide) (by omega)
      clear hB c3 hP5
      go_upto_region 16 with (go_at_call 93; refine hPu.mono ?_; rintro e w6 ⟨rfl, ρ, hW6, hP6, hK6⟩)
      have hW36 := ((hT4.trans hW5).kept (Kept.alloc w5 _)).trans hW6
      have hWall : Went B fb σ wa ρ w6 := (((Went.refl hFa).kept K).kept k3).trans hW36
      have hP6' : PSt (ps ++ [syPart f L (symK FS' ys 0)]) ρ := by rw [symK_zero]; exact hP6
      have c16 := hWall.turn.cell c1 hnb
      have hp6 : 0 < k → ∃ g, pa = some ⟨g, 0, none⟩ ∧ g < w6.heap.size ∧ ¬ FS fb ρ g ∧ ∀ i, i < k → w6.cell? ⟨g, i, none⟩ = some (.int .i64 ((plcI (ys.map (·.s))).getD i 0)) := fun hp => by
        obtain ⟨g, h1, h2, h3, h4⟩ := hpc hp
        have hng : ¬ FS fb σ g := fun e => by have := (hFr.lt _ e).2; omega
        exact ⟨g, h1, Nat.lt_of_lt_of_le h3 hW36.turn.size, hW36.not h3 hng, fun i hi => hW36.turn.cell (h4 i hi) hng⟩
      have HKP : Hid (Keep { σ with vt := .slice A3 m C3, tb := T } ρ) := hK5.trans hK6
      clear hPu hP6 hpc hm5 hb3 hn3 hO3 hI3 hT4 hW5 hW6 hP4 hP5'
      go_wp2
      go_loopw [63] (fun i wr => ∃ (j : Nat) (κ : FSt), j ≤ k ∧ i = .int .i64 j ∧ Went B fb ρ w6 κ wr ∧ PSt (ps ++ [syPart f L (symK FS' ys j)]) κ ∧ Keep ρ κ) (fun i _ => k - (intOf i).toNat)
      case atStart => exact ⟨0, ρ, Nat.zero_le _, rfl, Went.refl hWall.ok, hP6', Keep.refl _⟩
      case round =>
        obtain ⟨j, κ, hj, rfl, hWj, hPj, hKj⟩ := hrel
        by_cases hjt : j < k
        · obtain ⟨gp, rfl, hg0, hg1, hgc⟩ := hp6 (by omega)
          have hKWj : Kept W wr := Below.trans (hWw.trans kA) (((hWall.trans hWj).below hFa).mono hWB)
          obtain ⟨b, off, rfl, hAt⟩ := (hY.kept hKWj).cells (show j < ys.length by omega)
          obtain ⟨y, hy⟩ : ∃ y, ys.getD j symV0 = y := ⟨_, rfl⟩
          rw [hy] at hAt
          obtain ⟨s, bind, hid, wh, val, sz⟩ := y
          obtain ⟨ha1, ha2, ha3, ha4⟩ := HA j hjt s bind hid wh val sz hy
          have p0 := hWj.turn.cell (hgc j hjt) hg1
          rw [ha3] at p0
          generalize plc FS' (nm s) = q at ha2 p0 ha4
          have x0 : wr.cell? ⟨b, off + j * 6, none⟩ = some (.string s) := hAt.c0
          have x1 : wr.cell? ⟨b, off + j * 6 + 1, none⟩ = some (.int .u8 bind) := hAt.c1
          have x2 : wr.cell? ⟨b, off + j * 6 + 2, none⟩ = some (.bool hid) := hAt.c2
          have x3 : wr.cell? ⟨b, off + j * 6 + 3, none⟩ = some (.int .i64 wh) := hAt.c3
          have x4 : wr.cell? ⟨b, off + j * 6 + 4, none⟩ = some (.int .i64 val) := hAt.c4
          have x5 : wr.cell? ⟨b, off + j * 6 + 5, none⟩ = some (.int .i64 sz) := hAt.c5
          have hsz : s.size ≤ maxLen := hAt.ok.size
          have hb0 : 0 ≤ bind := hAt.ok.b0
          obtain ⟨wb, wc, hwb, hwc, Z1, Z2, K2, s2⟩ := put_sym wr s bind hid wh val sz
          obtain ⟨gb, hgb⟩ : ∃ gb, wr.heap.size = gb := ⟨_, rfl⟩
          rw [hgb] at hwc Z1 Z2 s2
          obtain ⟨z0, z1, z2, z3, z4, z5, y0, y1, y2, y3, y4, y5⟩ := Z1
          obtain ⟨u0, u1, u2, u3, u4, u5, _, _, _, _, _, _⟩ := id Z2
          have hWc := hWj.kept K2
          have p1 := K2.cell p0
          have hTd : Tab wc.drew := (hT.kept (hKWj.trans K2)).kept (kept_drew wc)
          have hYw := ywrite_walk s bind hid wh val sz (q : Int) wc.drew hTd hsz hb0
          obtain ⟨r1, r2⟩ := wy_ok ha1 (show (0 : Int) ≤ (q : Int) by omega) (show (q : Int) ≤ 65535 by omega)
          rw [r1, r2] at hYw
          have HS : Hid (symK FS' ys (j + 1) = symK FS' ys j ++ symL q bind hid wh val sz) := by unfold Hid; rw [symK_succ (by omega), ha4]
          have HZ : Hid ((symK FS' ys j).length ≤ 2000) := by unfold Hid; rw [symK_length (by omega)]; omega
          have HLj : Hid (layN 64 (ps ++ [syPart f L (symK FS' ys j)]) ≤ 1000000) := layN_more (by omega) HZ.out
          have hok9 := (hWc.kept (kept_drew wc)).ok
          have hpl9 : ps.length ≤ 900 := by omega
          clear ha1 ha2 ha3 ha4 hAt hy hgc HA p0 hp6 r1 r2
          go_upto_region 19 with fail
          go_region_with (first
            | (go_at_call 97; refine hYw.mono ?_; rintro e w8 ⟨x8, rfl, O8, k8⟩; obtain ⟨A8, C8, rfl, _, b8, n8⟩ := O8.let (symL_length _ _ _ _ _ _); have hPu8 := pput_walk B fb κ ps (syPart f L (symK FS' ys j)) A8 24 C8 (symL q bind hid wh val sz) w8 (hok9.kept k8) hPj (symL_length _ _ _ _ _ _) b8 n8 (by simp [syPart]) (by simp [syPart]) (by simp [syPart]) HLj.out (Nat.le_trans HZ.out (by decide)) (by decide) hpl9)
            | (go_at_call 93; refine hPu8.mono ?_; rintro e w9 ⟨rfl, ρ2, hW9, hP9, hK9⟩))
          all_goals
            go_wp2
            go_roundw
            case rel => exact ⟨j + 1, ρ2, by omega, by go_num, (hWc.kept (kept_drew wc) |>.kept k8).trans hW9, by rw [HS.out]; exact hP9, hKj.trans hK9⟩
            case measure => simp [intOf]; omega
        · obtain rfl : j = k := by omega
          clear hp6 HA
          go_wp2
          go_end0
          have hKa := HKP.out.trans hKj
          refine ⟨rfl, κ, (hWall.trans hWj).from kA, ?_, hKa.1, ?_⟩
          · rw [HL.out]; exact hPj
          · rw [hKa.2.2]; exact HT.out.1.symm
end Go.Proofs.YtljmgbpecoifnaaGreatDoor
