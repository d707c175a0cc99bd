/- The file's head: the program's walk. How the heads are put, and the file's own: the program's. How the heads are put, and the file's own: the program's walk. The table of the heads' names, by the parts that are there; heads' places set. -/
import Derived.Test.YtljmgbpecoifnaaGreatDoorJar
namespace Go.Proofs.YtljmgbpecoifnaaGreatDoor
open Go.RowKit

theorem kept_grown {w0 w w' : World} {g : Nat} (k : Kept w0 w) (h : w.grownBy w' (some g)) (hg : w0.heap.size ≤ g) : Kept w0 w' := k.grown h k.size (fun j ej => by cases ej; exact hg)
theorem byt_sgn4 (w : World) (j : Nat) (hj : j < 4) : (w.alloc (.cells #[.int .u8 2, .int .u8 1, .int .u8 1, .int .u8 0] 5)).cell? ((⟨w.heap.size, 0, none⟩ : Addr).add j) = some (.int .u8 (([2, 1, 1, 0] : List Int).getD j 0)) := by
  match j, hj with
  | 0, _ => simp [Addr.add]
  | 1, _ => simp [Addr.add]
  | 2, _ => simp [Addr.add]
  | 3, _ => simp [Addr.add]
theorem put_num (w : World) (x y : Int) : ∃ wa wb, w.alloc (.cells #[.int .i64 0, .int .i64 0] 161) = wa ∧ put2 wa w.heap.size (.int .i64 x) (.int .i64 y) = wb ∧
    GBx wa w.heap.size (.int .i64 0) (.int .i64 0) ∧ GBx wb w.heap.size (.int .i64 x) (.int .i64 y) ∧ Kept w wb ∧ wb.heap.size = w.heap.size + 1 := by
  have G0 : GBx (w.alloc (.cells #[.int .i64 0, .int .i64 0] 161)) w.heap.size (.int .i64 0) (.int .i64 0) := by constructor <;> simp
  exact ⟨_, _, rfl, rfl, G0, G0.put _ _, ((Kept.alloc _ _).setCell (Nat.le_refl _) _).setCell (Nat.le_refl _) _, by simp⟩
set_option maxRecDepth 20000 in
set_option maxHeartbeats 6400000 in
theorem fileHead_walk (B fb p m : Nat) (σ : FSt) (w : World) (hF : FileOk B w fb σ) (hp : p ≤ 100000000) (hm : σ.hs.length = m) (h1 : 1 ≤ m) (h2 : m ≤ 60000) :
    Calls Tryz.prog 101 #[.pointer (some ⟨fb, 0, none⟩), .int .i64 (p : Int)] w fun e w' => ∃ a c, e = .returned (.slice a 64 c) ∧ Own w' w.heap.size (.slice a 64 c) (fhL p m) ∧ Kept w w' := by
  have O1 := own_made w
  have hmk1 := hmk w
  obtain ⟨wb, hwb⟩ : ∃ wb, w.alloc (.cells (Array.replicate 64 (.int .u8 0)) 5) = wb := ⟨_, rfl⟩
  rw [hwb] at O1 hmk1
  have kB : Kept w wb := by rw [← hwb]; exact Kept.alloc _ _
  have sB : wb.heap.size = w.heap.size + 1 := by rw [← hwb]; simp
  obtain ⟨G, hG⟩ : ∃ G, w.heap.size = G := ⟨_, rfl⟩
  rw [hG] at O1 hmk1 sB ⊢
  have HG : Hid (w.heap.size = G) := hG
  have hm1 : wrap64 ((m : Int) - 1) = (m : Int) - 1 := w64 (by omega) (by omega)
  have hm2 : IntKind.i64.wrap ((m : Int) - 1) = (m : Int) - 1 := w64i (by omega) (by omega)
  clear hwb hG
  go_enter Tryz.func101, Tryz.ntmps101
  go_upto_region 5 with (first
    | (at_builtin; refine wpList_append_strF rfl _ _ rfl G G 0 64 [] ⟨#[127, 69, 76, 70]⟩ rfl rfl rfl O1 (by decide) ?_; intro w1 O2 g1; have k1 := kept_grown kB g1 (Nat.le_of_eq HG.out); rw [nm_sign] at O2)
    | (at_builtin; refine wpList_append_bytF rfl _ _ rfl G G 4 64 [127, 69, 76, 70] [2, 1, 1, 0] ⟨w1.heap.size, 0, none⟩ 4 4 rfl rfl rfl rfl (w := w1.alloc (.cells #[.int .u8 2, .int .u8 1, .int .u8 1, .int .u8 0] 5)) (own_keep O2 (Kept.alloc _ _)) (byt_sgn4 w1) (by decide) ?_; intro w2 O3 g2; have k2 := kept_grown (k1.trans (Kept.alloc _ _)) g2 (Nat.le_of_eq HG.out))
    | (at_builtin; refine wpList_append_made rfl _ _ rfl G G 8 64 8 [127, 69, 76, 70, 2, 1, 1, 0] rfl rfl rfl O3 (by decide) (by decide) (by decide) ?_; intro w3 O4 g3; have k3 := kept_grown k2 g3 (Nat.le_of_eq HG.out)))
  clear hmk1 O1 g1 O2 g2 O3 g3 k1 k2 kB sB
  have ok3 := hF.kept k3
  have c1 := ok3.c1
  rw [hm] at c1
  have hlt := block_lt_of_cell c1
  go_upto_region 7 with fail
  have T0 : FhR (w3.alloc (fhO p m)) w3.heap.size p m := fhR_new w3 p m
  have O5 : Own (w3.alloc (fhO p m)) G (.slice (some ⟨G, 0, none⟩) 16 64) (fhP p m 0) := own_keep O4 (Kept.alloc _ _)
  have k4 : Kept w (w3.alloc (fhO p m)) := k3.trans (Kept.alloc _ _)
  have hGg : G < w3.heap.size := (O4.lt _ rfl).2
  unfold fhO at T0 O5 k4
  obtain ⟨gr, hgr⟩ : ∃ gr, w3.heap.size = gr := ⟨_, rfl⟩
  rw [hgr] at T0 hGg
  clear O4 ok3 c1 k3 hlt
  rw [hgr]
  generalize hw4 : w3.alloc _ = w4 at T0 O5 k4 ⊢
  clear hw4 hgr
  go_loopw [5, 43] (fun x i wr => ∃ (k g c n : Nat), k ≤ 13 ∧ i = .int .i64 k ∧ x = .slice (some ⟨g, 0, none⟩) n c ∧ (fhP p m k).length = n ∧ Own wr G (.slice (some ⟨g, 0, none⟩) n c) (fhP p m k) ∧ Kept w wr ∧ FhR wr gr p m ∧ g ≠ gr) (fun _ i _ => 13 - (intOf i).toNat)
  case atStart => exact ⟨0, G, 64, 16, Nat.zero_le _, rfl, rfl, rfl, O5, k4, T0, by omega⟩
  case round =>
    obtain ⟨k, g, c, n, hk, rfl, rfl, hn, hO, hK, hT, hgg⟩ := hrel
    by_cases hlt : k < 13
    · obtain ⟨x0, x1⟩ := hT k hlt
      obtain ⟨hm3, hx0, hx1⟩ := fhN_may p m k hp h1 h2 hlt
      obtain ⟨hs0, hs1⟩ := fhN_sz p m k hlt
      have hS := fhP_succ p m k hlt
      have hL := (fhP_len p m k hk).2
      obtain ⟨q, hq⟩ : ∃ q, (fhN p m).getD k (0, 0) = q := ⟨_, rfl⟩
      rw [hq] at x0 x1 hm3 hx0 hx1 hs0 hs1 hS
      obtain ⟨x, s⟩ := q
      dsimp only at x0 x1 hm3 hx0 hx1 hs0 hs1 hS
      have HS : Hid (fhP p m (k + 1) = fhP p m k ++ byN (uOf x) s) := hS
      have HN : Hid ((fhP p m k).length = n) := hn
      obtain ⟨wb, wc, hwb, hwc, Z1, Z2, K2, s2⟩ := put_num wr x (s : Int)
      obtain ⟨gb, hgb⟩ : ∃ gb, wr.heap.size = gb := ⟨_, rfl⟩
      rw [hgb] at hwc Z1 Z2 s2
      obtain ⟨z0, z1, y0, y1⟩ := Z1
      obtain ⟨u0, u1, _, _⟩ := id Z2
      have hP := fun w => put_yes x s w (by omega) (by omega) (mayB_sz hm3) hm3
      have hO2 := own_keep hO K2
      have hK2 := hK.trans K2
      have hsl : n + s ≤ 10000000 := by omega
      have hGc : G ≤ wc.heap.size := by have := hK2.size; have := HG.out; omega
      clear hq hn hS hL hO hm3
      go_wp2_with (first
        | (go_at_call 94; refine (hP _).mono ?_; rintro e w5 ⟨x5, rfl, O6, k5⟩; obtain ⟨A5, C5, rfl, _, b5, n5⟩ := O6.let (byN_length _ _); have O7 := own_keep hO2 k5; have sz5 : G ≤ w5.heap.size := Nat.le_trans hGc k5.size; have K5 := hK2.trans k5; have T5 := (hT.kept K2).kept k5)
        | (at_builtin; refine wpList_append_bytA rfl _ _ rfl G g n c (fhP p m k) (byN (uOf x) s) A5 s C5 HN.out (byN_length _ _) rfl rfl O7 b5 n5 hsl sz5 ?_; intro g7 c7 w7 O8 G8 hor))
      go_roundw
      case rel =>
        have hgr5 : gr < w5.heap.size := block_lt_of_cell (T5 0 (by decide)).1
        refine ⟨k + 1, g7, c7, n + s, by omega, by go_num, rfl, ?_, ?_, ?_, ?_, ?_⟩
        · rw [HS.out, List.length_append, HN.out, byN_length]
        · rw [HS.out]; exact O8
        · exact kept_grown K5 G8 (by have := (O7.lt _ rfl).1; rw [HG.out]; exact this)
        · exact fun j hj => ⟨grown_cell G8 (T5 j hj).1 (Ne.symm hgg), grown_cell G8 (T5 j hj).2 (Ne.symm hgg)⟩
        · rcases hor with rfl | rfl
          · exact hgg
          · omega
      case measure => simp [intOf]; omega
    · obtain rfl : k = 13 := by omega
      rw [fhP_all] at hn hO
      have hn64 : n = 64 := by rw [← hn, fhL_length]
      subst hn64
      clear hn
      go_wp2
      go_ret
      exact ⟨_, _, rfl, hO, hK⟩

theorem ten_of {v : List Int} (h : v.length = 10) : ∃ v0 v1 v2 v3 v4 v5 v6 v7 v8 v9, v = [v0, v1, v2, v3, v4, v5, v6, v7, v8, v9] := by
  match v, h with
  | [v0, v1, v2, v3, v4, v5, v6, v7, v8, v9], _ => exact ⟨_, _, _, _, _, _, _, _, _, _, rfl⟩
theorem put_head (w : World) (v0 v1 v2 v3 v4 v5 v6 v7 v8 v9 : Int) : ∃ wa wb, w.alloc (headO 0 0 0 0 0 0 0 0 0 0) = wa ∧ put10 wa w.heap.size v0 v1 v2 v3 v4 v5 v6 v7 v8 v9 = wb ∧
    HBx wa w.heap.size [0, 0, 0, 0, 0, 0, 0, 0, 0, 0] ∧ HBx wb w.heap.size [v0, v1, v2, v3, v4, v5, v6, v7, v8, v9] ∧ Kept w wb ∧ wb.heap.size = w.heap.size + 1 :=
  ⟨_, _, rfl, rfl, HBx.new _ _ _ _ _ _ _ _ _ _ _, (HBx.new _ _ _ _ _ _ _ _ _ _ _).put _ _ _ _ _ _ _ _ _ _, below_put10 (Kept.alloc _ _) (Nat.le_refl _) _ _ _ _ _ _ _ _ _ _, by simp⟩
/-- A head of a file under way, where it lies. -/
theorem FileOk.cells {B : Nat} {w : World} {fb : Nat} {σ : FSt} (h : FileOk B w fb σ) {i : Nat} (hi : i < σ.hs.length) {v0 v1 v2 v3 v4 v5 v6 v7 v8 v9 : Int} (hv : σ.hs.getD i [] = [v0, v1, v2, v3, v4, v5, v6, v7, v8, v9]) :
    w.cell? ⟨σ.gh, i * 10, none⟩ = some (.int .i64 v0) ∧ w.cell? ⟨σ.gh, i * 10 + 1, none⟩ = some (.int .i64 v1) ∧ w.cell? ⟨σ.gh, i * 10 + 2, none⟩ = some (.int .i64 v2) ∧ w.cell? ⟨σ.gh, i * 10 + 3, none⟩ = some (.int .i64 v3) ∧ w.cell? ⟨σ.gh, i * 10 + 4, none⟩ = some (.int .i64 v4) ∧
    w.cell? ⟨σ.gh, i * 10 + 5, none⟩ = some (.int .i64 v5) ∧ w.cell? ⟨σ.gh, i * 10 + 6, none⟩ = some (.int .i64 v6) ∧ w.cell? ⟨σ.gh, i * 10 + 7, none⟩ = some (.int .i64 v7) ∧ w.cell? ⟨σ.gh, i * 10 + 8, none⟩ = some (.int .i64 v8) ∧ w.cell? ⟨σ.gh, i * 10 + 9, none⟩ = some (.int .i64 v9) := by
  have g : ∀ j, j < 10 → w.cell? ⟨σ.gh, i * 10 + j, none⟩ = some (.int .i64 ((σ.hs.getD i []).getD j 0)) := fun j hj => (h.head hi hj 0).1
  rw [hv] at g
  exact ⟨g 0 (by decide), g 1 (by decide), g 2 (by decide), g 3 (by decide), g 4 (by decide), g 5 (by decide), g 6 (by decide), g 7 (by decide), g 8 (by decide), g 9 (by decide)⟩
theorem hdsL_take {l : List (List Int)} {k : Nat} (h : k < l.length) : hdsL (l.take (k + 1)) = hdsL (l.take k) ++ headL (l.getD k []) := by
  unfold hdsL
  rw [take_snoc [] l k h, List.flatMap_append, List.flatMap_singleton]
/-- 'copy(f.bytes, l)' -/
theorem FileOk.over {B : Nat} {w : World} {fb : Nat} {σ : FSt} (h : FileOk B w fb σ) {ao : Option Addr} {l : List Int} {c L : Nat} (hl : l.length = 64) (hL : σ.b.length = L) (h64 : 64 ≤ L) (hb : Byt w ao l) (ty : TypeId) :
    ∃ w', (Builtin.copy_ #[35, 35] ty #[.slice (some ⟨σ.gb, 0, none⟩) L σ.cb, .slice ao 64 c]).run Tryz.prog w = .ok (goInt 64) w' ∧ Went B fb σ w { σ with b := l ++ σ.b.drop 64 } w' := by
  subst hL
  rcases hb with rfl | ⟨b, off, rfl, hc⟩
  · simp at hl
  have hown := h.ob
  rcases hown.2 with ⟨h', _⟩ | ⟨g', cap', cur, h', hbg, hg, hnc, hcm, hcs, htake⟩
  · simp at h'
  · simp only [Value.slice.injEq, Option.some.injEq, Addr.mk.injEq, and_true, true_and] at h'
    obtain ⟨hg1, hc1⟩ := h'
    rw [Nat.mul_one] at hcs htake
    have hr := run_copy_row (P := Tryz.prog) w 35 35 ty 5 g' 0 σ.b.length σ.cb ⟨b, off, none⟩ 64 c cur 5 (l.map (Value.int .u8)) Tryz.underlying35 (by kernel_rfl) hg (by rw [List.length_map, hl]; exact (Nat.min_eq_left h64).symm) (by
      intro j v hj
      have hjl : j < l.length := by simpa using (List.getElem?_eq_some_iff.1 hj).1
      have e : (⟨b, off, none⟩ : Addr).add j = ⟨b, off + j, none⟩ := by unfold Addr.add; split <;> simp_all
      rw [e, hc j hjl, ← hj]
      simp [List.getD, hjl]) (by rw [List.length_map, hl]; omega) (ints_oneCell .u8 l)
    rw [List.length_map, hl] at hr
    rw [← hg1] at hr hg
    refine ⟨_, hr, ?_⟩
    have hne : σ.gb ≠ fb := h.d1.1
    have hT : Turn (FS fb σ) w (w.setRow σ.gb (cur.toList.take 0 ++ l.map (Value.int .u8) ++ cur.toList.drop (0 + 64)).toArray) :=
      ⟨rfl, rfl, rfl, by simp, fun k _ hn => setRow_other w σ.gb k _ (fun e => hn (.inr (.inl (by rw [e]))))⟩
    have hT2 : Turn (fun k => k = σ.gb) w (w.setRow σ.gb (cur.toList.take 0 ++ l.map (Value.int .u8) ++ cur.toList.drop (0 + 64)).toArray) :=
      ⟨rfl, rfl, rfl, by simp, fun k _ hn => setRow_other w σ.gb k _ (fun e => hn (by rw [e]))⟩
    have hlf : fb < w.heap.size := block_lt_of_cell h.c0
    have hnf : ¬ fb = σ.gb := fun e => hne e.symm
    have hlen : (l ++ σ.b.drop 64).length = σ.b.length := by rw [List.length_append, List.length_drop, hl]; omega
    refine ⟨⟨?_, hT2.cell h.c1 hnf, hT2.cell h.c2 hnf, hT2.cell h.c3 hnf, hT2.cell h.c4 hnf, hT2.cell h.c5 hnf, (hT2.frozen hlf hnf).trans h.f0, (hT2.frozen hlf hnf).trans h.f1, (hT2.frozen hlf hnf).trans h.f2, (hT2.frozen hlf hnf).trans h.f3, (hT2.frozen hlf hnf).trans h.f4, (hT2.frozen hlf hnf).trans h.f5, ?_,
      hT2.row h.oh (fun g e => by injection e with e; subst e; exact fun e => h.d1.2.1 e.symm), hT2.row h.on (fun g e => by injection e with e; subst e; exact fun e => h.d1.2.2.1 e.symm), hT2.row h.ot (fun g e e2 => h.d1.2.2.2 (by rw [e, e2])), h.h10, h.d1, h.d2, h.d3, h.d4, h.hB⟩, hT, fun k hk => .inl hk⟩
    · show _ = some (Value.slice _ (l ++ σ.b.drop 64).length _)
      rw [hlen]
      exact hT2.cell h.c0 hnf
    · show Own _ _ (Value.slice _ (l ++ σ.b.drop 64).length _) _
      rw [hlen]
      refine ⟨by simp, .inr ⟨σ.gb, σ.cb, _, by rw [hlen], h.ob.lt _ rfl |>.1, setRow_heap w σ.gb cur _ 5 _ hg, by rw [hlen]; rw [hc1]; exact hnc, by rw [hc1]; exact hcm, ?_, ?_⟩⟩
      · simp only [List.take_zero, List.nil_append, List.size_toArray, List.length_append, List.length_map, List.length_drop, Array.length_toList, hl]
        omega
      · rw [Nat.mul_one, hlen]
        simp only [List.take_zero, List.nil_append, Nat.zero_add]
        have e1 : σ.b.length = (l.map (Value.int .u8)).length + (σ.b.length - 64) := by rw [List.length_map, hl]; omega
        have e2 : (cur.toList.drop 64).take (σ.b.length - 64) = (σ.b.drop 64).map (Value.int .u8) := by
          rw [← List.drop_take, htake, List.map_drop]
        rw [e1, List.take_length_add_append, e2, List.map_append]

set_option maxRecDepth 20000 in
set_option maxHeartbeats 6400000 in
theorem putHeads_walk (B fb : Nat) (σ : FSt) (v : Value) (v0 v1 v2 v3 : Value) (w : World) (hv : v = .agg #[v0, v1, v2, v3]) (hF : FileOk B w fb σ) (h64 : 64 ≤ σ.b.length) (hlen : σ.b.length ≤ 1000000) (hm1 : 1 ≤ σ.hs.length) (hm2 : σ.hs.length ≤ 1000)
    (hok : ∀ i, i < σ.hs.length → headB (σ.hs.getD i []) = true ∧ ∀ n ∈ σ.hs.getD i [], 0 ≤ n ∧ n ≤ 9223372036854775807) :
    Calls Tryz.prog 60 #[.pointer (some ⟨fb, 0, none⟩), v] w fun e w' => e = .returned (.tuple #[]) ∧ ∃ σ', Went B fb σ w σ' w' ∧ σ'.b = fhL (padB σ.b 8).length σ.hs.length ++ (padB σ.b 8 ++ hdsL σ.hs).drop 64 ∧ σ'.e = σ.e := by
  subst hv
  obtain ⟨wa, hwa, B1, kA, sA⟩ := box_obj w v0 v1 v2 v3
  have hFa := hF.kept kA
  have hFi := ffill_walk B fb 8 σ wa hFa (by decide) (by decide) hlen
  obtain ⟨PL, hPL⟩ : ∃ PL, (padB σ.b 8).length = PL := ⟨_, rfl⟩
  have hPL2 : 64 ≤ PL ∧ PL ≤ 1000010 := by
    have := padB_length σ.b 8
    have := padN_lt (len := σ.b.length) (m := 8) (by decide)
    omega
  obtain ⟨n, hn⟩ : ∃ n, σ.hs.length = n := ⟨_, rfl⟩
  have HPL : Hid ((padB σ.b 8).length = PL) := hPL
  have HN : Hid (σ.hs.length = n) := hn
  rw [hn] at hm1 hm2 hok
  clear hn hPL
  go_enter Tryz.func60, Tryz.ntmps60
  go_upto_region 2 with (go_at_call 98; refine hFi.mono ?_; rintro e w2 ⟨rfl, g, c, hW⟩)
  have ok2 := hW.ok
  have c0 : w2.cell? ⟨fb, 0, none⟩ = some (.slice (some ⟨g, 0, none⟩) PL c) := by rw [← HPL.out]; exact ok2.c0
  have c1 : w2.cell? ⟨fb, 1, none⟩ = some (.slice (some ⟨σ.gh, 0, none⟩) n σ.ch) := by rw [← HN.out]; exact ok2.c1
  have hngh : ¬ FS fb { σ with gb := g, cb := c, b := padB σ.b 8 } w2.heap.size := fun e => by have := (ok2.lt _ e).2; omega
  clear hFi ok2
  go_wp2
  go_loopw [19] (fun i wr => ∃ (k : Nat) (τ : FSt), k ≤ n ∧ i = .int .i64 k ∧ Went B fb σ wa τ wr ∧ τ.b = padB σ.b 8 ++ hdsL (σ.hs.take k) ∧ τ.hs = σ.hs ∧ τ.e = σ.e ∧ τ.gh = σ.gh) (fun i _ => n - (intOf i).toNat)
  case atStart => exact ⟨0, _, Nat.zero_le _, rfl, hW, by simp [hdsL], rfl, rfl, rfl⟩
  case round =>
    obtain ⟨k, τ, hk, rfl, hWk, hb, hh, he, hgh⟩ := hrel
    clear c0 c1
    by_cases hlt : k < n
    · have hk1 : k < σ.hs.length := by rw [HN.out]; exact hlt
      obtain ⟨hB1, hB2⟩ := hok k hlt
      have ok := hWk.ok
      obtain ⟨y0, y1, y2, y3, y4, y5, y6, y7, y8, y9, hy⟩ := ten_of (hF.h10 _ (getD_in hk1 []))
      obtain ⟨x0, x1, x2, x3, x4, x5, x6, x7, x8, x9⟩ := ok.cells (i := k) (by rw [hh]; exact hk1) (by rw [hh]; exact hy)
      rw [hgh] at x0 x1 x2 x3 x4 x5 x6 x7 x8 x9
      have HD : Hid (hdsL (σ.hs.take (k + 1)) = hdsL (σ.hs.take k) ++ headL [y0, y1, y2, y3, y4, y5, y6, y7, y8, y9]) := by unfold Hid; rw [hdsL_take hk1, hy]
      rw [hy] at hB1 hB2
      obtain ⟨wb, wc, hwb, hwc, Z1, Z2, K2, s2⟩ := put_head wr y0 y1 y2 y3 y4 y5 y6 y7 y8 y9
      obtain ⟨gb, hgb⟩ : ∃ gb, wr.heap.size = gb := ⟨_, rfl⟩
      rw [hgb] at hwc Z1 Z2 s2
      obtain ⟨⟨z0, z1, z2, z3, z4, z5, z6, z7, z8, z9⟩, ⟨q0, q1, q2, q3, q4, q5, q6, q7, q8, q9⟩⟩ := Z1.ten
      obtain ⟨⟨u0, u1, u2, u3, u4, u5, u6, u7, u8, u9⟩, _⟩ := Z2.ten
      have hWc := hWk.kept K2
      have hWr := write_walk y0 y1 y2 y3 y4 y5 y6 y7 y8 y9 _ wc rfl (fun n hn => by have := hB2 n hn; omega)
      rw [(wr_yes hB1).1, (wr_yes hB1).2] at hWr
      have hL : Hid (τ.b.length + 64 ≤ 10000000) := by
        unfold Hid
        rw [hb, List.length_append, HPL.out, hdsL_length (fun v hv => hF.h10 v (List.mem_of_mem_take hv)), List.length_take]
        omega
      have HL64 : Hid ((headL [y0, y1, y2, y3, y4, y5, y6, y7, y8, y9]).length = 64) := headL_length rfl
      have HB : Hid (τ.b = padB σ.b 8 ++ hdsL (σ.hs.take k)) := hb
      have HH : Hid (τ.hs = σ.hs ∧ τ.e = σ.e ∧ τ.gh = σ.gh) := ⟨hh, he, hgh⟩
      clear hy hB1 hB2 hb hh he hgh ok
      go_wp2_with (first
        | (go_at_call 100; refine hWr.mono ?_; rintro e w5 ⟨x, rfl, O5, k5⟩; obtain ⟨A5, C5, rfl, _, b5, n5⟩ := O5.let HL64.out; have hA := fadd_walk B fb τ A5 64 C5 (headL [y0, y1, y2, y3, y4, y5, y6, y7, y8, y9]) w5 (hWc.ok.kept k5) HL64.out b5 n5 hL.out)
        | (go_at_call 99; refine hA.mono ?_; rintro e w6 ⟨rfl, g6, c6, hW6⟩))
      go_roundw
      case rel =>
        exact ⟨k + 1, _, by omega, by go_num, (hWc.kept k5).trans hW6, by rw [HD.out, ← List.append_assoc, ← HB.out], HH.out.1, HH.out.2.1, HH.out.2.2⟩
      case measure => simp [intOf]; omega
    · obtain rfl : k = n := by omega
      have ok := hWk.ok
      have hL : τ.b.length = PL + 64 * k := by
        rw [hb, List.length_append, HPL.out, hdsL_length (fun v hv => hF.h10 v (List.mem_of_mem_take hv)), List.length_take, HN.out, Nat.min_self]
      obtain ⟨L, hL2⟩ : ∃ L, τ.b.length = L := ⟨_, rfl⟩
      have hL64 : 64 ≤ L := by omega
      have c0 : wr.cell? ⟨fb, 0, none⟩ = some (.slice (some ⟨τ.gb, 0, none⟩) L τ.cb) := by rw [← hL2]; exact ok.c0
      have okd := ok.kept (kept_drew wr)
      have hH := (fileHead_walk B fb PL k τ wr.drew okd (by omega) (by rw [hh]; exact HN.out) hm1 (by omega)).mono (R' := fun e w' => ∃ a c, e = .returned (.slice a 64 c) ∧ Byt w' a (fhL PL k) ∧ Kept wr.drew w') (by
        rintro e w' ⟨a, c, rfl, hO, hk⟩
        obtain ⟨A, C, hv, _, hb, _⟩ := hO.let (fhL_length _ _)
        simp only [Value.slice.injEq] at hv
        obtain ⟨rfl, _, rfl⟩ := hv
        exact ⟨_, _, rfl, hb, hk⟩)
      have HB : Hid (τ.b = padB σ.b 8 ++ hdsL σ.hs) := by unfold Hid; rw [hb, List.take_of_length_le (by rw [HN.out]; omega)]
      have HL2 : Hid (τ.b.length = L) := hL2
      have HE : Hid (τ.e = σ.e) := he
      clear hL hL2 hb hh he hok hlt ok
      go_upto_region 8 with fail
      go_region_with (go_at_call 101; refine hH.mono ?_; rintro e w5 ⟨a5, c5, rfl, b5, k5⟩; have HO5 := (okd.kept k5).over (c := c5) (fhL_length PL k) HL2.out hL64 b5 3; obtain ⟨w6, hcp, hW6⟩ := HO5; have c05 := k5.cell (show wr.drew.cell? ⟨fb, 0, none⟩ = _ from c0))
      all_goals
        go_wp2
        go_end0
        refine ⟨rfl, _, ((hWk.kept (kept_drew wr)).kept k5).trans hW6 |>.from kA, ?_, HE.out⟩
        show fhL PL k ++ τ.b.drop 64 = _
        rw [HPL.out, HN.out, HB.out]

def shPart (z : List Int) : PartM := ⟨shNm, 3, 0, 0, 0, 1, 0, 0, z⟩
theorem nm_shstrtab : nm ⟨#[46, 115, 104, 115, 116, 114, 116, 97, 98]⟩ = shNm := by decide +kernel
theorem fsts_none (ns : List (List Int)) : fsts ([] :: ns) = fsts ns := by
  unfold fsts
  rw [List.foldl_cons, fsStep_old (.inl rfl)]
theorem nms_of {ns : List ByteArray} {bs : List PartM} (h : ns.map nm = [] :: (bs ++ [shPart []]).map (·.nm)) : nms ns = [] :: namesP bs := by
  unfold nms namesP
  rw [h, List.map_append]
  rfl
/-- The names of parts are no longer than 60 bytes, and hold no nought. -/
def NmOk (bs : List PartM) : Prop := ∀ p ∈ bs, p.nm.length ≤ 60 ∧ ∀ x ∈ p.nm, x ≠ 0
theorem names_right {ns : List ByteArray} {bs : List PartM} (h : ns.map nm = [] :: (bs ++ [shPart []]).map (·.nm)) (hb : NmOk bs) : ∀ s ∈ ns, wrongB s = false := by
  intro s hs
  have hm : nm s ∈ ([] :: (bs ++ [shPart []]).map (·.nm)) := by rw [← h]; exact List.mem_map_of_mem hs
  have hl : s.size = (nm s).length := (nm_length s).symm
  rcases List.mem_cons.1 hm with e | hm
  · exact right_of (by rw [hl, e]; decide) (by rw [e]; intro x hx; cases hx)
  · rw [List.map_append] at hm
    rcases List.mem_append.1 hm with hm | hm
    · obtain ⟨p, hp, e⟩ := List.mem_map.1 hm
      have := hb p hp
      exact right_of (by rw [hl, ← e]; omega) (by rw [← e]; exact this.2)
    · rw [List.map_singleton, List.mem_singleton] at hm
      exact right_of (by rw [hl, hm]; decide) (by rw [hm]; decide)
theorem bld_names {ns : List ByteArray} {bs : List PartM} (h : ns.map nm = [] :: (bs ++ [shPart []]).map (·.nm)) (hb : NmOk bs) (hl : bs.length ≤ 900) :
    bldE ns = 0 ∧ bldT ns = tbl (fsts (namesP bs)) ∧ bldP ns = plcI ns ∧ (tbl (fsts (namesP bs))).length ≤ 65000 := by
  have hr := names_right h hb
  have hn : ns.length = bs.length + 2 := by
    have := congrArg List.length h
    simpa using this
  have hbad : badB ns = false := by
    unfold badB
    rw [List.any_eq_false]
    intro s hs
    rw [hr s hs]
    decide
  have ht := tbl_bound hr
  have e : fsts (nms ns) = fsts (namesP bs) := by rw [nms_of h, fsts_none]
  obtain ⟨h1, h2, h3⟩ := bld_ok (ss := ns) (by omega) hbad (by omega)
  rw [e] at h2 ht
  exact ⟨h1, h2, h3, by omega⟩
theorem plcI_names {ns : List ByteArray} {bs : List PartM} (h : ns.map nm = [] :: (bs ++ [shPart []]).map (·.nm)) {i : Nat} (hi : i < bs.length + 2) :
    (plcI ns).getD i 0 = if i = 0 then 0 else (plc (fsts (namesP bs)) ((allP bs).getD (i - 1) partNo).nm : Int) := by
  have e : plcI ns = (([] :: namesP bs).map (plc (fsts (namesP bs)))).map fun (n : Nat) => (n : Int) := by
    unfold plcI plcs
    rw [nms_of h, fsts_none]
  have hl : (namesP bs).length = bs.length + 1 := by simp [namesP]
  rw [e, List.map_map, List.getD, List.getElem?_map]
  match i, hi with
  | 0, _ => simp [plc]
  | i + 1, hi =>
    rw [List.getElem?_cons_succ, ← allP_names, List.getElem?_map]
    have h1 : i < (allP bs).length := by rw [allP_length]; omega
    rw [List.getElem?_eq_getElem h1]
    simp [List.getD, List.getElem?_eq_getElem h1]
/-- Heads whose places were set, up to the k-th. -/
def HSet (hs0 : List (List Int)) (pl : List Int) (k : Nat) (hs : List (List Int)) : Prop :=
  hs.length = hs0.length ∧ ∀ i, i < hs0.length → hs.getD i [] = if i < k then (hs0.getD i []).set 0 (pl.getD i 0) else hs0.getD i []
theorem HSet.zero (hs0 : List (List Int)) (pl : List Int) : HSet hs0 pl 0 hs0 := ⟨rfl, fun i _ => by rw [if_neg (by omega)]⟩
theorem HSet.succ {hs0 hs : List (List Int)} {pl : List Int} {k : Nat} (h : HSet hs0 pl k hs) (hk : k < hs0.length) : HSet hs0 pl (k + 1) (setH hs k 0 (pl.getD k 0)) := by
  refine ⟨by rw [setH_length, h.1], fun i hi => ?_⟩
  have hk' : k < hs.length := by rw [h.1]; exact hk
  unfold setH
  by_cases e : i = k
  · subst e
    rw [if_pos (by omega), List.getD, List.getElem?_set_self hk', Option.getD_some, h.2 i hi, if_neg (by omega)]
  · rw [List.getD, List.getElem?_set_ne (fun e' => e e'.symm)]
    have := h.2 i hi
    rw [List.getD] at this
    rw [this]
    by_cases h1 : i < k
    · rw [if_pos h1, if_pos (by omega)]
    · rw [if_neg h1, if_neg (by omega)]
theorem HSet.all {ns : List ByteArray} {bs : List PartM} {hs : List (List Int)} (hn : ns.map nm = [] :: (bs ++ [shPart []]).map (·.nm)) (h : HSet (List.replicate 10 0 :: hds0 64 (allP bs)) (plcI ns) (bs.length + 2) hs) : hs = List.replicate 10 0 :: headsP bs := by
  have hl : (List.replicate 10 (0 : Int) :: hds0 64 (allP bs)).length = bs.length + 2 := by rw [List.length_cons, hds0_length, allP_length]
  obtain ⟨h1, h2⟩ := h
  rw [hl] at h1 h2
  apply List.ext_getElem (by rw [h1, List.length_cons, headsP_length])
  intro i hi1 hi2
  have h3 := h2 i (by omega)
  rw [if_pos (by omega), getD_of_lt hi1, plcI_names hn (by omega)] at h3
  rw [h3]
  match i with
  | 0 => simp
  | i + 1 =>
    have hi : i < bs.length + 1 := by omega
    have hi' : i < (allP bs).length := by rw [allP_length]; exact hi
    have h5 : i < (layO 64 (allP bs)).length := by rw [layO_length]; exact hi'
    have h6 := headsP_at bs i hi
    have hi3 : i < (headsP bs).length := by rw [headsP_length]; exact hi
    rw [getD_of_lt hi3] at h6
    rw [List.getElem_cons_succ, h6, if_neg (by omega), Nat.add_sub_cancel, List.getD_cons_succ]
    have hz : i < ((allP bs).zip (layO 64 (allP bs))).length := by rw [List.length_zip]; omega
    have e : (hds0 64 (allP bs)).getD i [] = hdV ((allP bs).getD i partNo) 0 ((layO 64 (allP bs)).getD i 0) := by
      unfold hds0
      rw [List.getD, List.getElem?_map, List.getElem?_eq_getElem hz, List.getElem_zip, getD_of_lt hi', getD_of_lt h5]
      rfl
    rw [e]
    rfl
theorem shP_eq (bs : List PartM) : shP bs = shPart (tbl (fsts (namesP bs))) := rfl
end Go.Proofs.YtljmgbpecoifnaaGreatDoor
