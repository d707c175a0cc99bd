/- The law's own objects. -/
import Derived.Test.YtljmgbpecoifnaaGreatDoorLa
namespace Go.Proofs.YtljmgbpecoifnaaGreatDoor
open Go.RowKit

def txtS (b : Nat) : SecV := ⟨⟨#[46, 116, 101, 120, 116]⟩, 4, some ⟨b, 0, none⟩, 8, 0, [0, 0, 0, 0, 0, 0, 0, 0]⟩
def symF : SymV := ⟨⟨#[102]⟩, 1, false, 0, 0, 0⟩
def txtO (b sb yb : Nat) (ra : Option Addr) (rn rc : Nat) (rs : List RelM) : ObjV := ⟨[txtS b], some ⟨sb, 0, none⟩, 1, 1, [symF], some ⟨yb, 0, none⟩, 1, 1, rs, ra, rn, rc, [], none, 0, 0⟩
theorem hmk8 (w : World) : (Instr.makeSlice 35 (.int .i64 8) (.int .i64 8)).run Tryz.prog w = .ok (.slice (some ⟨w.heap.size, 0, none⟩) 8 8) (w.alloc (.cells (Array.replicate 8 (.int .u8 0)) 5)) := by kernel_rfl
theorem byt_8 (w : World) : Byt (w.alloc (.cells (Array.replicate 8 (.int .u8 0)) 5)) (some ⟨w.heap.size, 0, none⟩) [0, 0, 0, 0, 0, 0, 0, 0] := by
  refine .inr ⟨w.heap.size, 0, rfl, fun i hi => ?_⟩
  rcases (show i = 0 ∨ i = 1 ∨ i = 2 ∨ i = 3 ∨ i = 4 ∨ i = 5 ∨ i = 6 ∨ i = 7 by simp at hi; omega) with rfl | rfl | rfl | rfl | rfl | rfl | rfl | rfl <;> simp
theorem txt_ok {w : World} {b : Nat} (h : Byt w (some ⟨b, 0, none⟩) [0, 0, 0, 0, 0, 0, 0, 0]) : SecOk w (txtS b) :=
  ⟨(by decide : (⟨#[46, 116, 101, 120, 116]⟩ : ByteArray).size ≤ maxLen), (by decide : 8 ≤ 8), (by decide : 8 ≤ maxLen), h, (fun e => by cases e), (by decide : (-9223372036854775808 : Int) ≤ 4), (by decide : (4 : Int) ≤ 9223372036854775807),
    (by decide : (-9223372036854775808 : Int) ≤ 0), (by decide : (0 : Int) ≤ 9223372036854775807), (by decide : ∀ x ∈ ([0, 0, 0, 0, 0, 0, 0, 0] : List Int), 0 ≤ x ∧ x < 256)⟩
theorem secR_one {w : World} {sb b : Nat} (hb : Byt w (some ⟨b, 0, none⟩) [0, 0, 0, 0, 0, 0, 0, 0]) (c0 : w.cell? ⟨sb, 0, none⟩ = some (.string ⟨#[46, 116, 101, 120, 116]⟩)) (c1 : w.cell? ⟨sb, 1, none⟩ = some (.int .i64 4)) (c2 : w.cell? ⟨sb, 2, none⟩ = some (.slice (some ⟨b, 0, none⟩) 8 8)) (c3 : w.cell? ⟨sb, 3, none⟩ = some (.int .i64 0)) : SecR w (some ⟨sb, 0, none⟩) [txtS b] := by
  refine .inr ⟨sb, 0, rfl, fun i hi => ?_⟩
  obtain rfl : i = 0 := by simp at hi; omega
  refine ⟨txt_ok hb, fun j hj => ?_⟩
  match j, hj with
  | 0, _ => exact c0
  | 1, _ => exact c1
  | 2, _ => exact c2
  | 3, _ => exact c3
theorem symF_ok (s : ByteArray) (bind wh : Int) (hs : s.size ≤ 10) (h0 : 0 ≤ bind) (h1 : bind < 256) (h2 : 0 ≤ wh) (h3 : wh ≤ 100) : SymVOk ⟨s, bind, false, wh, 0, 0⟩ :=
  ⟨by show s.size ≤ maxLen; unfold maxLen; omega, h0, h1, by show (-9223372036854775808 : Int) ≤ wh; omega, by show wh ≤ (9223372036854775807 : Int); omega, (by decide : (-9223372036854775808 : Int) ≤ 0), (by decide : (0 : Int) ≤ 9223372036854775807), (by decide : (-9223372036854775808 : Int) ≤ 0), (by decide : (0 : Int) ≤ 9223372036854775807)⟩
theorem symR_one {w : World} {yb : Nat} (c0 : w.cell? ⟨yb, 0, none⟩ = some (.string ⟨#[102]⟩)) (c1 : w.cell? ⟨yb, 1, none⟩ = some (.int .u8 1)) (c2 : w.cell? ⟨yb, 2, none⟩ = some (.bool false)) (c3 : w.cell? ⟨yb, 3, none⟩ = some (.int .i64 0)) (c4 : w.cell? ⟨yb, 4, none⟩ = some (.int .i64 0)) (c5 : w.cell? ⟨yb, 5, none⟩ = some (.int .i64 0)) : SymR w (some ⟨yb, 0, none⟩) [symF] := by
  refine .inr ⟨yb, 0, rfl, fun i hi => ?_⟩
  obtain rfl : i = 0 := by simp at hi; omega
  refine ⟨symF_ok _ _ _ (by decide) (by decide) (by decide) (by decide) (by decide), fun j hj => ?_⟩
  match j, hj with
  | 0, _ => exact c0
  | 1, _ => exact c1
  | 2, _ => exact c2
  | 3, _ => exact c3
  | 4, _ => exact c4
  | 5, _ => exact c5
set_option maxRecDepth 20000 in
set_option maxHeartbeats 3200000 in
theorem text_walk (ra : Option Addr) (rn rc : Nat) (rs : List RelM) (w : World) (hR : RelR w ra rs) (hl : rs.length = rn) (hc : rn ≤ rc ∧ rc ≤ maxLen ∧ (ra = none → rn = 0 ∧ rc = 0)) :
    Calls Tryz.prog 9 #[.slice ra rn rc] w fun e w' => ∃ b sb yb, e = .returned (objW (txtO b sb yb ra rn rc rs)) ∧ ObjOk w' (txtO b sb yb ra rn rc rs) ∧ Kept w w' := by
  obtain ⟨wa, hwa, B1, kA, sA⟩ := box_obj w (.slice none 0 0) (.slice none 0 0) (.slice none 0 0) (.slice none 0 0)
  obtain ⟨g, hg⟩ : ∃ g, w.heap.size = g := ⟨_, rfl⟩
  rw [hg] at B1 sA
  have hgle : w.heap.size ≤ g := Nat.le_of_eq hg
  have hm := hmk8 wa
  have O1 := byt_8 wa
  obtain ⟨wb, hwb⟩ : ∃ wb, wa.alloc (.cells (Array.replicate 8 (.int .u8 0)) 5) = wb := ⟨_, rfl⟩
  have kB : Kept wa wb := by rw [← hwb]; exact Kept.alloc _ _
  have sB : wb.heap.size = g + 1 + 1 := by rw [← hwb]; simp [sA]
  rw [hwb] at hm O1
  rw [sA] at hm O1
  have S2 := Box.new wb ⟨#[46, 116, 101, 120, 116]⟩ 4 (.slice (some ⟨g + 1, 0, none⟩) 8 8) 0
  obtain ⟨wc, hwc⟩ : ∃ wc, wb.alloc (.cells #[.string ⟨#[46, 116, 101, 120, 116]⟩, .int .i64 4, .slice (some ⟨g + 1, 0, none⟩) 8 8, .int .i64 0] 37) = wc := ⟨_, rfl⟩
  have kC : Kept wb wc := by rw [← hwc]; exact Kept.alloc _ _
  have sC : wc.heap.size = g + 1 + 1 + 1 := by rw [← hwc]; simp [sB]
  rw [hwc] at S2
  rw [sB] at S2
  have Y3 := SBx.new wc ⟨#[102]⟩ 1 false 0 0 0
  obtain ⟨wd, hwd⟩ : ∃ wd, wc.alloc (symO ⟨#[102]⟩ 1 false 0 0 0) = wd := ⟨_, rfl⟩
  have kD : Kept wc wd := by rw [← hwd]; exact Kept.alloc _ _
  rw [hwd] at Y3
  rw [sC] at Y3
  have B4 := ((B1.kept kB).kept kC).kept kD
  obtain ⟨c0, c1, c2, c3, f0, f1, f2, f3⟩ := id B4
  have K4 := ((kA.trans kB).trans kC).trans kD
  have B5 := (((B4.set0 (.slice (some ⟨g + 1 + 1, 0, none⟩) 1 1)).set1 (.slice (some ⟨g + 1 + 1 + 1, 0, none⟩) 1 1)).set2 (.slice ra rn rc)).set3 (.slice none 0 0)
  have K5 := (((K4.setCell (p := ⟨g, 0, none⟩) hgle (.slice (some ⟨g + 1 + 1, 0, none⟩) 1 1)).setCell (p := ⟨g, 1, none⟩) hgle (.slice (some ⟨g + 1 + 1 + 1, 0, none⟩) 1 1)).setCell (p := ⟨g, 2, none⟩) hgle (.slice ra rn rc)).setCell (p := ⟨g, 3, none⟩) hgle (.slice none 0 0)
  go_enter Tryz.func9, Tryz.ntmps9
  have T5 : Turn (fun k => k = g) wd _ := ((((Turn.refl (fun k => k = g) wd).set ⟨g, 0, none⟩ (.slice (some ⟨g + 1 + 1, 0, none⟩) 1 1) (.inl rfl)).set ⟨g, 1, none⟩ (.slice (some ⟨g + 1 + 1 + 1, 0, none⟩) 1 1) (.inl rfl)).set ⟨g, 2, none⟩ (.slice ra rn rc) (.inl rfl)).set ⟨g, 3, none⟩ (.slice none 0 0) (.inl rfl)
  have S4 := S2.kept kD
  have O4 := (O1.kept kC).kept kD
  have O5 : Byt ((((wd.setCell ⟨g, 0, none⟩ (.slice (some ⟨g + 1 + 1, 0, none⟩) 1 1)).setCell ⟨g, 1, none⟩ (.slice (some ⟨g + 1 + 1 + 1, 0, none⟩) 1 1)).setCell ⟨g, 2, none⟩ (.slice ra rn rc)).setCell ⟨g, 3, none⟩ (.slice none 0 0)) (some ⟨g + 1, 0, none⟩) [0, 0, 0, 0, 0, 0, 0, 0] := by
    rcases O4 with h | ⟨b, off, e, h⟩
    · cases h
    · injection e with e
      injection e with e1 e2
      subst e1 e2
      exact .inr ⟨_, _, rfl, fun i hi => T5.cell (h i hi) (by show ¬ g + 1 = g; omega)⟩
  have n2 : ¬ g + 1 + 1 = g := by omega
  have n3 : ¬ g + 1 + 1 + 1 = g := by omega
  have HO : Hid (ObjOk _ (txtO (g + 1) (g + 1 + 1) (g + 1 + 1 + 1) ra rn rc rs)) := ⟨secR_one O5 (T5.cell S4.c0 n2) (T5.cell S4.c1 n2) (T5.cell S4.c2 n2) (T5.cell S4.c3 n2),
    symR_one (T5.cell Y3.c0 n3) (T5.cell Y3.c1 n3) (T5.cell Y3.c2 n3) (T5.cell Y3.c3 n3) (T5.cell Y3.c4 n3) (T5.cell Y3.c5 n3), hR.kept K5, .inl rfl, ⟨Nat.le_refl _, (by decide : 1 ≤ maxLen), fun e => by cases e⟩, ⟨Nat.le_refl _, (by decide : 1 ≤ maxLen), fun e => by cases e⟩, hc, ⟨Nat.le_refl _, Nat.zero_le _, fun _ => ⟨rfl, rfl⟩⟩, rfl, rfl, hl, rfl⟩
  clear O1 O4 O5 S2 S4 Y3 T5 hR
  go_wp2
  exact bodyPost_ret (v := .agg #[.slice (some ⟨g + 1 + 1, 0, none⟩) 1 1, .slice (some ⟨g + 1 + 1 + 1, 0, none⟩) 1 1, .slice ra rn rc, .slice none 0 0]) (by simp [results, Tryz.results9, go_sem, B5.c0, B5.c1, B5.c2, B5.c3]) rfl ⟨_, _, _, rfl, HO.out, K5⟩
end Go.Proofs.YtljmgbpecoifnaaGreatDoor
