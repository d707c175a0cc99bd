/- The symbol of six numbers; whether a symbol is written as just these bytes. -/
import Derived.Test.YteehekoajemciaaDoorWy
namespace Go.Proofs.YteehekoajemciaaDoor
open Go.RowKit

theorem NBx.far {w : World} {b : Nat} {n0 n1 n2 n3 n4 n5 : Int} (h : NBx w b n0 n1 n2 n3 n4 n5) (b' i : Nat) (u : Value) (hb : b' ≠ b) : NBx (w.setCell ⟨b', i, none⟩ u) b n0 n1 n2 n3 n4 n5 :=
  ⟨set_far h.c0 hb, set_far h.c1 hb, set_far h.c2 hb, set_far h.c3 hb, set_far h.c4 hb, set_far h.c5 hb, set_frozen h.f0, set_frozen h.f1, set_frozen h.f2, set_frozen h.f3, set_frozen h.f4, set_frozen h.f5⟩
theorem i16_wrap {u : Int} (h0 : 0 ≤ u) (h1 : u < 65536) : IntKind.i16.wrap u = if u < 32768 then u else u - 65536 := by
  have e : IntKind.i16.wrap u = if 32768 ≤ u % 65536 then u % 65536 - 65536 else u % 65536 := by
    simp [IntKind.wrap, IntKind.bits, IntKind.signed]
  rw [e]
  split <;> split <;> omega
theorem trn_tW {u : Int} (h0 : 0 ≤ u) (h1 : u < 65536) : trn (if u < 32768 then u else u - 65536) = tW u := by
  unfold trn tW
  split <;> split <;> omega
theorem u8_wrap {q : Int} (h0 : 0 ≤ q) (h1 : q < 256) : IntKind.u8.wrap q = q := by
  have e : IntKind.u8.wrap q = q % 256 := rfl
  rw [e]; omega

set_option maxRecDepth 20000 in
set_option maxHeartbeats 3200000 in
theorem symbolOf_walk (n o p u x z : Int) (w : World) (ho0 : 0 ≤ o) (ho1 : o < 256) (hu0 : 0 ≤ u) (hu1 : u < 65536) :
    Calls Tryd.prog 22 #[numsW n o p u x z] w fun e w' => e = .returned (.tuple #[symW ⟨#[]⟩ (o / 16) (p == 2) (tW u) x z, .int .i64 n]) ∧ Kept w w' := by
  have N1 := NBx.new w n o p u x z
  obtain ⟨wa, hwa⟩ : ∃ wa, w.alloc (numsO n o p u x z) = wa := ⟨_, rfl⟩
  rw [hwa] at N1
  have kA : Kept w wa := by rw [← hwa]; exact Kept.alloc _ _
  have sA : wa.heap.size = w.heap.size + 1 := by rw [← hwa]; simp
  have B2 := SBx.new wa ⟨#[]⟩ 0 false 0 0 0
  obtain ⟨wb, hwb⟩ : ∃ wb, wa.alloc (symO ⟨#[]⟩ 0 false 0 0 0) = wb := ⟨_, rfl⟩
  rw [hwb, sA] at B2
  have kB : Kept wa wb := by rw [← hwb]; exact Kept.alloc _ _
  have N2 := N1.kept kB
  have K2 := kA.trans kB
  have hI := i16_wrap hu0 hu1
  have ht := trn_tW hu0 hu1
  have hIr : -32768 ≤ (if u < 32768 then u else u - 65536) ∧ (if u < 32768 then u else u - 65536) ≤ 32767 := by split <;> omega
  obtain ⟨I, hI0⟩ : ∃ I, (if u < 32768 then u else u - 65536) = I := ⟨_, rfl⟩
  rw [hI0] at hI ht hIr
  obtain ⟨hI1, hI2⟩ := hIr
  have hI3 : IntKind.i64.wrap I = I := wrap64 (by omega) (by omega)
  have hT := fun w => turned_walk I w (by omega) (by omega)
  rw [ht] at hT
  obtain ⟨W, hW0⟩ : ∃ W, tW u = W := ⟨_, rfl⟩
  rw [hW0] at hT ⊢
  obtain ⟨Q, hQ⟩ : ∃ Q, o / 16 = Q := ⟨_, rfl⟩
  have hQ0 : 0 ≤ Q := by omega
  have hQ1 : Q < 16 := by omega
  have hQt : o.tdiv 16 = Q := by rw [Int.tdiv_eq_ediv_of_nonneg ho0]; exact hQ
  have hQ8 : IntKind.u8.wrap Q = Q := u8_wrap hQ0 (by omega)
  have hQ64 : IntKind.i64.wrap Q = Q := wrap64 (by omega) (by omega)
  rw [hQ]
  clear hI0 ht hW0
  -- the worlds
  have B3 := B2.set1 Q
  have N3 := N2.far (w.heap.size + 1) 1 (.int .u8 Q) (by omega)
  have K3 := K2.setCell (p := ⟨w.heap.size + 1, 1, none⟩) (Nat.le_succ _) (.int .u8 Q)
  obtain ⟨w3, hw3⟩ : ∃ w3, wb.setCell ⟨w.heap.size + 1, 1, none⟩ (.int .u8 Q) = w3 := ⟨_, rfl⟩
  rw [hw3] at B3 N3 K3
  obtain ⟨g, hg⟩ : ∃ g, (p == 2) = g := ⟨_, rfl⟩
  rw [hg]
  have B4 := B3.set2 g
  have N4 := N3.far (w.heap.size + 1) 2 (.bool g) (by omega)
  have K4 := K3.setCell (p := ⟨w.heap.size + 1, 2, none⟩) (Nat.le_succ _) (.bool g)
  obtain ⟨w4, hw4⟩ : ∃ w4, w3.setCell ⟨w.heap.size + 1, 2, none⟩ (.bool g) = w4 := ⟨_, rfl⟩
  rw [hw4] at B4 N4 K4
  have B5 := B4.set3 W
  have N5 := N4.far (w.heap.size + 1) 3 (.int .i64 W) (by omega)
  have K5 := K4.setCell (p := ⟨w.heap.size + 1, 3, none⟩) (Nat.le_succ _) (.int .i64 W)
  obtain ⟨w5, hw5⟩ : ∃ w5, w4.setCell ⟨w.heap.size + 1, 3, none⟩ (.int .i64 W) = w5 := ⟨_, rfl⟩
  rw [hw5] at B5 N5 K5
  have B6 := B5.set4 x
  have N6 := N5.far (w.heap.size + 1) 4 (.int .i64 x) (by omega)
  have K6 := K5.setCell (p := ⟨w.heap.size + 1, 4, none⟩) (Nat.le_succ _) (.int .i64 x)
  obtain ⟨w6, hw6⟩ : ∃ w6, w5.setCell ⟨w.heap.size + 1, 4, none⟩ (.int .i64 x) = w6 := ⟨_, rfl⟩
  rw [hw6] at B6 N6 K6
  have B7 := B6.set5 z
  have N7 := N6.far (w.heap.size + 1) 5 (.int .i64 z) (by omega)
  have K7 := K6.setCell (p := ⟨w.heap.size + 1, 5, none⟩) (Nat.le_succ _) (.int .i64 z)
  obtain ⟨w7, hw7⟩ : ∃ w7, w6.setCell ⟨w.heap.size + 1, 5, none⟩ (.int .i64 z) = w7 := ⟨_, rfl⟩
  rw [hw7] at B7 N7 K7
  have l1 := N2.c1
  have s1 := B2.c1
  have f1 := B2.f1
  have l2 := N3.c2
  have s2 := B3.c2
  have f2 := B3.f2
  have l3 := N4.c3
  have s3 := B4.c3
  have f3 := B4.f3
  have l4 := N5.c4
  have s4 := B5.c4
  have f4 := B5.f4
  have l5 := N6.c5
  have s5 := B6.c5
  have f5 := B6.f5
  have l0 := N7.c0
  have B7' := B7
  obtain ⟨x0, x1, x2, x3, x4, x5, y0, y1, y2, y3, y4, y5⟩ := B7'
  have hR := (B7.put ⟨#[]⟩ Q g W x z).kept (kept_drew _)
  have hK := below_put6 (b := w.heap.size + 1) K7 (Nat.le_succ _) ⟨#[]⟩ Q g W x z
  clear N1 N2 N3 N4 N5 N6 N7 B2 B3 B4 B5 B6 B7 K2 K3 K4 K5 K6 K7 kA kB hu0 hu1
  go_enter Tryd.func22, Tryd.ntmps22
  go_upto_region 6 with (go_at_call 31; refine (hT _).mono ?_; rintro e w9 ⟨rfl, hw9⟩; have hw8 := hw9.symm; subst hw8; clear hw9)
  go_region
  all_goals
    go_wp2
    exact bodyPost_ret (v := .tuple #[symW ⟨#[]⟩ Q g W x z, .int .i64 n]) (by simp [results, Tryd.results22, go_sem, hR.c0, hR.c1, hR.c2, hR.c3, hR.c4, hR.c5]) rfl ⟨rfl, Kept.trans hK (kept_drew _)⟩

theorem some_may : mayNm (nm ⟨#[115, 111, 109, 101]⟩) = true := by decide +kernel
/-- Is a symbol, of some name, written as just these bytes? -/
def wrtB (bind : Int) (hid : Bool) (wh val sz name : Int) (l : List Int) : Bool := decide (wyE (nm ⟨#[115, 111, 109, 101]⟩) bind hid wh val sz name = 0) && decide (wyL (nm ⟨#[115, 111, 109, 101]⟩) bind hid wh val sz name = l)
set_option maxRecDepth 20000 in
set_option maxHeartbeats 3200000 in
theorem isWritten_walk (s : ByteArray) (bind : Int) (hid : Bool) (wh val sz name : Int) (a : Option Addr) (m cap : Nat) (l : List Int) (w : World) (hT : Tab w) (hb : 0 ≤ bind) (hl : l.length = m) (hB : Byt w a l) (hr : ∀ x ∈ l, 0 ≤ x ∧ x < 256) :
    Calls Tryd.prog 23 #[symW s bind hid wh val sz, .int .i64 name, .slice a m cap] w fun e w' => e = .returned (.bool (wrtB bind hid wh val sz name l)) ∧ Kept w w' := by
  have B1 := SBx.new w s bind hid wh val sz
  obtain ⟨wa, hwa⟩ : ∃ wa, w.alloc (symO s bind hid wh val sz) = wa := ⟨_, rfl⟩
  rw [hwa] at B1
  have kA : Kept w wa := by rw [← hwa]; exact Kept.alloc _ _
  have B2 := B1.set0 ⟨#[115, 111, 109, 101]⟩
  have K2 := kA.setCell (p := ⟨w.heap.size, 0, none⟩) (Nat.le_refl _) (.string ⟨#[115, 111, 109, 101]⟩)
  obtain ⟨wb, hwb⟩ : ∃ wb, wa.setCell ⟨w.heap.size, 0, none⟩ (.string ⟨#[115, 111, 109, 101]⟩) = wb := ⟨_, rfl⟩
  rw [hwb] at B2 K2
  have s0 := B1.c0
  have f0 := B1.f0
  obtain ⟨c0, c1, c2, c3, c4, c5, _, _, _, _, _, _⟩ := B2
  have hW := ywrite_walk ⟨#[115, 111, 109, 101]⟩ bind hid wh val sz name wb (hT.kept K2) (by decide) hb
  have hrg := wyL_range (nm ⟨#[115, 111, 109, 101]⟩) bind hid wh val sz name
  unfold wrtB
  obtain ⟨E, hE⟩ : ∃ E, wyE (nm ⟨#[115, 111, 109, 101]⟩) bind hid wh val sz name = E := ⟨_, rfl⟩
  obtain ⟨L, hL⟩ : ∃ L, wyL (nm ⟨#[115, 111, 109, 101]⟩) bind hid wh val sz name = L := ⟨_, rfl⟩
  rw [hE, hL] at hW ⊢
  rw [hL] at hrg
  obtain ⟨nL, hnL⟩ : ∃ n, L.length = n := ⟨_, rfl⟩
  clear hE hL B1 hT
  by_cases h0 : E = 0
  · subst h0
    rw [decide_eq_true (rfl : (0 : Int) = 0), Bool.true_and]
    go_enter Tryd.func23, Tryd.ntmps23
    go_upto_region 3 with (go_at_call 10; refine hW.mono ?_; rintro e w1 ⟨x1, rfl, O1, k1⟩)
    obtain ⟨A1, C1, rfl, _, y1, _⟩ := O1.let hnL
    have hQ := equal_walk A1 a nL C1 m cap L l w1 hnL hl y1 (hB.kept (Kept.trans K2 k1)) hrg hr
    clear O1 y1 hW hrg hr hB
    go_wp2_with (go_at_call 34; refine hQ.mono ?_; rintro e w9 ⟨rfl, hw9⟩; have hw8 := hw9.symm; subst hw8; clear hw9)
    go_ret
    exact ⟨rfl, Kept.trans K2 k1⟩
  · have q : (E == 0) = false := by rw [beq_eq_false_iff_ne]; exact h0
    rw [decide_eq_false h0, Bool.false_and]
    clear h0
    go_enter Tryd.func23, Tryd.ntmps23
    go_wp2_with (go_at_call 10; refine hW.mono ?_; rintro e w1 ⟨x1, rfl, O1, k1⟩)
    go_ret
    exact ⟨rfl, Kept.trans K2 k1⟩
end Go.Proofs.YteehekoajemciaaDoor
