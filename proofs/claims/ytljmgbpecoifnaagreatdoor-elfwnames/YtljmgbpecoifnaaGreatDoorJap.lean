/- What Read gives. How the sections are put: the program's. How the symbols' names are put: the program's. How the groups are put: the program's. -/
import Derived.Test.YtljmgbpecoifnaaGreatDoorJag
import Derived.Test.YtljmgbpecoifnaaGreatDoorJao
import Derived.Test.YtljmgbpecoifnaaGreatDoorJan
import Derived.Test.YtljmgbpecoifnaaGreatDoorFg
import Derived.Test.YtljmgbpecoifnaaGreatDoorJae
import Derived.Test.YtljmgbpecoifnaaGreatDoorJam
namespace Go.Proofs.YtljmgbpecoifnaaGreatDoor
open Go.RowKit

/-- The ten cells of a head, put one after another. -/
abbrev put10 (w : World) (b : Nat) (v0 v1 v2 v3 v4 v5 v6 v7 v8 v9 : Int) : World :=
  (((((((((w.setCell ⟨b, 0, none⟩ (.int .i64 v0)).setCell ⟨b, 1, none⟩ (.int .i64 v1)).setCell ⟨b, 2, none⟩ (.int .i64 v2)).setCell ⟨b, 3, none⟩ (.int .i64 v3)).setCell ⟨b, 4, none⟩ (.int .i64 v4)).setCell ⟨b, 5, none⟩ (.int .i64 v5)).setCell ⟨b, 6, none⟩ (.int .i64 v6)).setCell ⟨b, 7, none⟩ (.int .i64 v7)).setCell ⟨b, 8, none⟩ (.int .i64 v8)).setCell ⟨b, 9, none⟩ (.int .i64 v9)
theorem HBx.set {w : World} {b : Nat} {f : Nat → Int} (h : ∀ j, j < 10 → w.cell? ⟨b, j, none⟩ = some (.int .i64 (f j)) ∧ w.frozen? ⟨b, j, none⟩ = false) (k : Nat) (n : Int) (hk : k < 10) :
    ∀ j, j < 10 → (w.setCell ⟨b, k, none⟩ (.int .i64 n)).cell? ⟨b, j, none⟩ = some (.int .i64 (if j = k then n else f j)) ∧ (w.setCell ⟨b, k, none⟩ (.int .i64 n)).frozen? ⟨b, j, none⟩ = false := fun j hj => by
  refine ⟨?_, set_frozen (h j hj).2⟩
  by_cases e : j = k
  · subst e
    rw [if_pos rfl]
    exact World.cell?_setCell_same _ _ _ (h j hk).1
  · rw [if_neg e]
    exact set_other (h j hj).1 (Ne.symm e)
theorem HBx.far {w : World} {b : Nat} {v : List Int} (h : HBx w b v) (b' i : Nat) (u : Value) (hb : b' ≠ b) : HBx (w.setCell ⟨b', i, none⟩ u) b v := fun j hj => ⟨set_far (h j hj).1 hb, set_frozen (h j hj).2⟩
theorem Fld.far {w : World} {f b : Nat} (h : Fld w f b) (b' i : Nat) (u : Value) (hb : b' ≠ f) : Fld (w.setCell ⟨b', i, none⟩ u) f b := fun j hj => ⟨set_far (h j hj).1 hb, set_far (h j hj).2 hb⟩
theorem HBx.put {w : World} {b : Nat} {v : List Int} (h : HBx w b v) (v0 v1 v2 v3 v4 v5 v6 v7 v8 v9 : Int) : HBx (put10 w b v0 v1 v2 v3 v4 v5 v6 v7 v8 v9) b [v0, v1, v2, v3, v4, v5, v6, v7, v8, v9] := fun k hk => by
  have h0 := HBx.set (f := fun j => v.getD j 0) h 0 v0 (by decide)
  have h1 := HBx.set h0 1 v1 (by decide)
  have h2 := HBx.set h1 2 v2 (by decide)
  have h3 := HBx.set h2 3 v3 (by decide)
  have h4 := HBx.set h3 4 v4 (by decide)
  have h5 := HBx.set h4 5 v5 (by decide)
  have h6 := HBx.set h5 6 v6 (by decide)
  have h7 := HBx.set h6 7 v7 (by decide)
  have h8 := HBx.set h7 8 v8 (by decide)
  have h9 := HBx.set h8 9 v9 (by decide)
  obtain ⟨H1, H2⟩ := h9 k hk
  refine ⟨?_, H2⟩
  rw [H1]
  clear h0 h1 h2 h3 h4 h5 h6 h7 h8 h9 H1 H2 h
  match k, hk with
  | 0, _ => simp
  | 1, _ => simp
  | 2, _ => simp
  | 3, _ => simp
  | 4, _ => simp
  | 5, _ => simp
  | 6, _ => simp
  | 7, _ => simp
  | 8, _ => simp
  | 9, _ => simp
theorem below_put10 {B b : Nat} {a w : World} (h : Below B a w) (hp : B ≤ b) (v0 v1 v2 v3 v4 v5 v6 v7 v8 v9 : Int) : Below B a (put10 w b v0 v1 v2 v3 v4 v5 v6 v7 v8 v9) :=
  ((((((((((h.setCell hp _).setCell hp _).setCell hp _).setCell hp _).setCell hp _).setCell hp _).setCell hp _).setCell hp _).setCell hp _).setCell hp _)

/-- While the fields are gone through. -/
structure RSt (w : World) (r b f : Nat) (a : Option Addr) (l : List Int) (k : Nat) (wr : World) : Prop where
  fld : Fld wr f b
  box : ∀ j, j < 10 → wr.cell? ⟨b, j, none⟩ = some (.int .i64 (if j < k then (headV l).getD j 0 else 0)) ∧ wr.frozen? ⟨b, j, none⟩ = false
  res : HBx wr r noV
  kept : Kept w wr
  byt : Byt wr a l
  all : ∀ j, j < k → 0 ≤ (headV l).getD j 0

theorem byt_far {w : World} {a : Option Addr} {l : List Int} {B : Nat} (h : Byt w a l) (hB : Byt w a l → ∀ b off, a = some ⟨b, off, none⟩ → 0 < l.length → b < B) {w' : World} (k : Below B w w') : Byt w' a l := by
  rcases h with h | ⟨b, off, rfl, hc⟩
  · exact .inl h
  · by_cases hl : 0 < l.length
    · refine .inr ⟨b, off, rfl, fun i hi => (k.cell ?_).trans (hc i hi)⟩
      exact hB (.inr ⟨b, off, rfl, hc⟩) b off rfl hl
    · exact .inl (List.eq_nil_of_length_eq_zero (by omega))
theorem byt_lt {w : World} {a : Option Addr} {l : List Int} (h : Byt w a l) : ∀ b off, a = some ⟨b, off, none⟩ → 0 < l.length → b < w.heap.size := by
  intro b off ha hl
  rcases h with rfl | ⟨b', off', ha', hc⟩
  · simp at hl
  · rw [ha] at ha'
    cases ha'
    exact block_lt_of_cell (hc 0 hl)
/-- Bytes that lay there when the call began, wherever the call wrote of its own. -/
theorem byt_old {w wr : World} {a : Option Addr} {l : List Int} (h : Byt w a l) (k : Kept w wr) : Byt wr a l := h.kept k

theorem getV_at {l : List Int} {k : Nat} (hk : k < 10) (hl : l.length = 64) : getV l (offS k : Int) (headS.getD k 0 : Nat) = (headV l).getD k 0 ∧ getE l (offS k : Int) (headS.getD k 0 : Nat) = 0 := by
  have hs : szB ((headS.getD k 0 : Nat) : Int) = true := by rcases headS_at k hk with e | e <;> rw [e] <;> rfl
  have hi : inB l (offS k : Int) ((headS.getD k 0 : Nat) : Int) = true := by
    have := offS_le hk
    exact decide_eq_true (by omega)
  obtain ⟨h1, h2⟩ := get_in hs hi
  refine ⟨?_, h2⟩
  rw [h1, headV_at l hk, Int.toNat_natCast, Int.toNat_natCast]

set_option maxRecDepth 20000 in
set_option maxHeartbeats 3200000 in
theorem read_walk (a : Option Addr) (m cap : Nat) (l : List Int) (r0 r1 r2 r3 r4 r5 r6 r7 r8 r9 E : Int) (w : World) (hl : l.length = m) (hcap : m ≤ cap) (hb : Byt w a l) (hr : ∀ x ∈ l, 0 ≤ x ∧ x < 256) (hE : Hid (rdE l = E)) (hV : Hid (rdV l = [r0, r1, r2, r3, r4, r5, r6, r7, r8, r9])) :
    Calls Tryz.prog 20 #[.slice a m cap] w fun e w' => e = .returned (.tuple #[headW' r0 r1 r2 r3 r4 r5 r6 r7 r8 r9, .int .i64 E]) ∧ Kept w w' := by
  have H1 := HBx.new w 0 0 0 0 0 0 0 0 0 0
  obtain ⟨wa, hwa⟩ : ∃ wa, w.alloc (headO 0 0 0 0 0 0 0 0 0 0) = wa := ⟨_, rfl⟩
  rw [hwa] at H1
  have kA : Kept w wa := by rw [← hwa]; exact Kept.alloc _ _
  have sA : wa.heap.size = w.heap.size + 1 := by rw [← hwa]; simp
  by_cases hm : m = 64
  · subst hm
    have H2 := HBx.new wa 0 0 0 0 0 0 0 0 0 0
    obtain ⟨wb, hwb⟩ : ∃ wb, wa.alloc (headO 0 0 0 0 0 0 0 0 0 0) = wb := ⟨_, rfl⟩
    rw [hwb, sA] at H2
    have kB : Kept wa wb := by rw [← hwb]; exact Kept.alloc _ _
    have sB : wb.heap.size = w.heap.size + 2 := by rw [← hwb]; simp [sA]
    have hF := fields_walk (w.heap.size + 1) wb
    rw [sB] at hF
    have HL : Hid (l.length = 64) := hl
    have hG : ∀ w', Byt w' a l → ∀ k, k < 10 → Calls Tryz.prog 19 #[.slice a 64 cap, .int .i64 (offS k : Nat), .int .i64 (headS.getD k 0 : Nat)] w' fun e w'' => e = .returned (.tuple #[.int .i64 ((headV l).getD k 0), .int .i64 0]) ∧ w'' = w' := fun w' hb k hk => by
      have := get_walk a cap l (offS k : Nat) (headS.getD k 0 : Nat) w' hr (by omega) (by omega) hb
      rwa [(getV_at hk hl).1, (getV_at hk hl).2, hl] at this
    clear hl
    go_enter Tryz.func20, Tryz.ntmps20
    go_wp2_with (go_at_call 42; refine hF.mono ?_; rintro e wc ⟨rfl, hfl, kC⟩)
    have S0 : RSt w w.heap.size (w.heap.size + 1) (w.heap.size + 2) a l 0 wc :=
      ⟨hfl, fun j hj => by
        obtain ⟨h1, h2⟩ := (H2.kept kC) j hj
        refine ⟨?_, h2⟩
        rw [h1, if_neg (Nat.not_lt_zero _)]
        match j, hj with
        | 0, _ => rfl
        | 1, _ => rfl
        | 2, _ => rfl
        | 3, _ => rfl
        | 4, _ => rfl
        | 5, _ => rfl
        | 6, _ => rfl
        | 7, _ => rfl
        | 8, _ => rfl
        | 9, _ => rfl, (H1.kept kB).kept kC, (kA.trans kB).trans kC, ((hb.kept kA).kept kB).kept kC, fun j hj => absurd hj (Nat.not_lt_zero _)⟩
    clear H1 hwa kA sA hwb kB sB hF kC hfl H2
    go_loopw [5, 16] (fun x i wr => ∃ k : Nat, k ≤ 10 ∧ i = .int .i64 k ∧ x = .int .i64 (offS k : Nat) ∧ RSt w w.heap.size (w.heap.size + 1) (w.heap.size + 2) a l k wr) (fun _ i _ => 10 - (intOf i).toNat)
    case atStart => exact ⟨0, Nat.zero_le _, rfl, rfl, S0⟩
    case round =>
      obtain ⟨k, hk, rfl, rfl, S⟩ := hrel
      clear S0
      have hltR := S.res.lt
      by_cases hlt : k < 10
      · obtain ⟨p0, p1⟩ := S.fld k hlt
        obtain ⟨c0, cf⟩ := S.box k hlt
        rw [if_neg (Nat.lt_irrefl _)] at c0
        have hltB := block_lt_of_cell c0
        have hltF := block_lt_of_cell p0
        have hs := headS_at k hlt
        have hG1 := fun w' hb => hG w' hb k hlt
        have hle := offS_le hlt
        have HO : Hid (offS (k + 1) = offS k + headS.getD k 0) := offS_succ hlt
        obtain ⟨n, hn⟩ : ∃ n, (headV l).getD k 0 = n := ⟨_, rfl⟩
        obtain ⟨s, hse⟩ : ∃ s, headS.getD k 0 = s := ⟨_, rfl⟩
        obtain ⟨o, ho⟩ : ∃ o, offS k = o := ⟨_, rfl⟩
        rw [hn, hse, ho] at hG1
        rw [hse] at p1 hs hle HO
        rw [ho] at hle HO ⊢
        have HN : Hid ((headV l).getD k 0 = n) := hn
        have B1 : Byt (wr.alloc (.cells #[.pointer (some ⟨w.heap.size + 1, k, none⟩), .int .i64 (s : Int)] 81)) a l := S.byt.kept (Kept.alloc _ _)
        have hG2 := hG1 _ B1
        clear hn hse ho hG hG1 B1
        by_cases hneg : n < 0
        · have hE8 := rd_bad HL.out (headB_no hlt (by rw [HN.out]; exact okF_neg hneg))
          obtain ⟨rfl, rfl, rfl, rfl, rfl, rfl, rfl, rfl, rfl, rfl⟩ : r0 = 0 ∧ r1 = 0 ∧ r2 = 0 ∧ r3 = 0 ∧ r4 = 0 ∧ r5 = 0 ∧ r6 = 0 ∧ r7 = 0 ∧ r8 = 0 ∧ r9 = 0 := by
            have := hV.out
            rw [hE8.2] at this
            simpa [noV, eq_comm] using this
          obtain rfl : E = 8 := by rw [← hE.out, hE8.1]
          have d : decide (n < 0) = true := decide_eq_true hneg
          have hR := S.res.put 0 0 0 0 0 0 0 0 0 0
          have hW := below_put10 (b := w.heap.size) S.kept (Nat.le_refl _) 0 0 0 0 0 0 0 0 0 0
          obtain ⟨z0, y0⟩ := S.res 0 (by decide)
          obtain ⟨z1, y1⟩ := S.res 1 (by decide)
          obtain ⟨z2, y2⟩ := S.res 2 (by decide)
          obtain ⟨z3, y3⟩ := S.res 3 (by decide)
          obtain ⟨z4, y4⟩ := S.res 4 (by decide)
          obtain ⟨z5, y5⟩ := S.res 5 (by decide)
          obtain ⟨z6, y6⟩ := S.res 6 (by decide)
          obtain ⟨z7, y7⟩ := S.res 7 (by decide)
          obtain ⟨z8, y8⟩ := S.res 8 (by decide)
          obtain ⟨z9, y9⟩ := S.res 9 (by decide)
          simp only [noV, List.getD_cons_zero, List.getD_cons_succ] at z0 z1 z2 z3 z4 z5 z6 z7 z8 z9
          clear hE8 hV hE hr hb
          go_wp2_with (go_at_call 19; refine hG2.mono ?_; rintro e w2 ⟨rfl, hw2⟩; have hw3 := hw2.symm; subst hw3; clear hw2)
          have hR2 := hR.kept (Kept.alloc _ (.cells #[.pointer (some ⟨w.heap.size + 1, k, none⟩), .int .i64 (s : Int)] 81))
          exact bodyPost_ret (v := .tuple #[headW' 0 0 0 0 0 0 0 0 0 0, .int .i64 8]) (by simp [results, Tryz.results20, go_sem, (hR2 0 (by decide)).1, (hR2 1 (by decide)).1, (hR2 2 (by decide)).1, (hR2 3 (by decide)).1, (hR2 4 (by decide)).1, (hR2 5 (by decide)).1, (hR2 6 (by decide)).1, (hR2 7 (by decide)).1, (hR2 8 (by decide)).1, (hR2 9 (by decide)).1]) rfl ⟨rfl, Kept.trans hW (Kept.alloc _ _)⟩
        · have d : decide (n < 0) = false := decide_eq_false hneg
          have S' : RSt w w.heap.size (w.heap.size + 1) (w.heap.size + 2) a l (k + 1) ((wr.setCell ⟨w.heap.size + 1, k, none⟩ (.int .i64 n)).alloc (.cells #[.pointer (some ⟨w.heap.size + 1, k, none⟩), .int .i64 (s : Int)] 81)) := by
            have hK := S.kept.setCell (p := ⟨w.heap.size + 1, k, none⟩) (Nat.le_succ _) (.int .i64 n)
            refine ⟨(S.fld.far _ _ _ (by omega)).kept (Kept.alloc _ _), ?_, (S.res.far _ _ _ (by omega)).kept (Kept.alloc _ _), Kept.trans hK (Kept.alloc _ _), (hb.kept hK).kept (Kept.alloc _ _), ?_⟩
            · intro j hj
              obtain ⟨h1, h2⟩ := HBx.set S.box k n hlt j hj
              refine ⟨?_, ?_⟩
              · refine (Kept.alloc _ _).cell (h1.trans ?_)
                by_cases e : j = k
                · subst e; rw [if_pos rfl, if_pos (Nat.lt_succ_self _), HN.out]
                · rw [if_neg e]
                  by_cases e2 : j < k
                  · rw [if_pos e2, if_pos (by omega)]
                  · rw [if_neg e2, if_neg (by omega)]
              · exact ((Kept.alloc _ _).frozen (block_lt_of_cell h1)).trans h2
            · intro j hj
              by_cases e : j = k
              · subst e; rw [HN.out]; omega
              · exact S.all j (by omega)
          clear hr hb hV hE S
          go_wp2_with (go_at_call 19; refine hG2.mono ?_; rintro e w2 ⟨rfl, hw2⟩; have hw3 := hw2.symm; subst hw3; clear hw2)
          go_roundw
          case rel => exact ⟨k + 1, by omega, by go_num, by rw [HO.out]; go_num, S'⟩
          case measure => simp [intOf]; omega
      · obtain rfl : k = 10 := by omega
        have hok := rd_ok HL.out (headB_mk (headV_length l) fun j hj => okF_get hr HL.out hj (S.all j hj))
        have hv : headV l = [r0, r1, r2, r3, r4, r5, r6, r7, r8, r9] := by rw [← hok.2]; exact hV.out
        obtain rfl : E = 0 := by rw [← hE.out, hok.1]
        have hbx := S.box
        rw [hv] at hbx
        have x0 := (hbx 0 (by decide)).1
        have x1 := (hbx 1 (by decide)).1
        have x2 := (hbx 2 (by decide)).1
        have x3 := (hbx 3 (by decide)).1
        have x4 := (hbx 4 (by decide)).1
        have x5 := (hbx 5 (by decide)).1
        have x6 := (hbx 6 (by decide)).1
        have x7 := (hbx 7 (by decide)).1
        have x8 := (hbx 8 (by decide)).1
        have x9 := (hbx 9 (by decide)).1
        rw [if_pos (by decide)] at x0 x1 x2 x3 x4 x5 x6 x7 x8 x9
        simp only [List.getD_cons_zero, List.getD_cons_succ] at x0 x1 x2 x3 x4 x5 x6 x7 x8 x9
        have hR := S.res.put r0 r1 r2 r3 r4 r5 r6 r7 r8 r9
        have hW := below_put10 (b := w.heap.size) S.kept (Nat.le_refl _) r0 r1 r2 r3 r4 r5 r6 r7 r8 r9
        obtain ⟨z0, y0⟩ := S.res 0 (by decide)
        obtain ⟨z1, y1⟩ := S.res 1 (by decide)
        obtain ⟨z2, y2⟩ := S.res 2 (by decide)
        obtain ⟨z3, y3⟩ := S.res 3 (by decide)
        obtain ⟨z4, y4⟩ := S.res 4 (by decide)
        obtain ⟨z5, y5⟩ := S.res 5 (by decide)
        obtain ⟨z6, y6⟩ := S.res 6 (by decide)
        obtain ⟨z7, y7⟩ := S.res 7 (by decide)
        obtain ⟨z8, y8⟩ := S.res 8 (by decide)
        obtain ⟨z9, y9⟩ := S.res 9 (by decide)
        simp only [noV, List.getD_cons_zero, List.getD_cons_succ] at z0 z1 z2 z3 z4 z5 z6 z7 z8 z9
        clear hok hv hbx hV hE hr hb hG
        go_wp2
        exact bodyPost_ret (v := .tuple #[headW' r0 r1 r2 r3 r4 r5 r6 r7 r8 r9, .int .i64 0]) (by simp [results, Tryz.results20, go_sem, (hR 0 (by decide)).1, (hR 1 (by decide)).1, (hR 2 (by decide)).1, (hR 3 (by decide)).1, (hR 4 (by decide)).1, (hR 5 (by decide)).1, (hR 6 (by decide)).1, (hR 7 (by decide)).1, (hR 8 (by decide)).1, (hR 9 (by decide)).1]) rfl ⟨rfl, hW⟩
  · have h3 := rd_len (b := l) (by omega)
    have HQ : Hid ([r0, r1, r2, r3, r4, r5, r6, r7, r8, r9] = noV ∧ E = 3) := ⟨by rw [← hV.out, h3.2], by rw [← hE.out, h3.1]⟩
    obtain ⟨rfl, rfl, rfl, rfl, rfl, rfl, rfl, rfl, rfl, rfl⟩ : r0 = 0 ∧ r1 = 0 ∧ r2 = 0 ∧ r3 = 0 ∧ r4 = 0 ∧ r5 = 0 ∧ r6 = 0 ∧ r7 = 0 ∧ r8 = 0 ∧ r9 = 0 := by
      have := HQ.out.1
      simpa [noV] using this
    obtain rfl : E = 3 := HQ.out.2
    have q : ((m : Int) != 64) = true := by rw [bne_iff_ne]; omega
    have q' : (m != 64) = true := by rw [bne_iff_ne]; omega
    obtain ⟨z0, y0⟩ := H1 0 (by decide)
    obtain ⟨z1, y1⟩ := H1 1 (by decide)
    obtain ⟨z2, y2⟩ := H1 2 (by decide)
    obtain ⟨z3, y3⟩ := H1 3 (by decide)
    obtain ⟨z4, y4⟩ := H1 4 (by decide)
    obtain ⟨z5, y5⟩ := H1 5 (by decide)
    obtain ⟨z6, y6⟩ := H1 6 (by decide)
    obtain ⟨z7, y7⟩ := H1 7 (by decide)
    obtain ⟨z8, y8⟩ := H1 8 (by decide)
    obtain ⟨z9, y9⟩ := H1 9 (by decide)
    simp only [List.getD_cons_zero, List.getD_cons_succ] at z0 z1 z2 z3 z4 z5 z6 z7 z8 z9
    have hR := H1.put 0 0 0 0 0 0 0 0 0 0
    have hW := below_put10 (b := w.heap.size) kA (Nat.le_refl _) 0 0 0 0 0 0 0 0 0 0
    clear hr hb hV hE h3
    go_enter Tryz.func20, Tryz.ntmps20
    go_wp2
    exact bodyPost_ret (v := .tuple #[headW' 0 0 0 0 0 0 0 0 0 0, .int .i64 3]) (by simp [results, Tryz.results20, go_sem, (hR 0 (by decide)).1, (hR 1 (by decide)).1, (hR 2 (by decide)).1, (hR 3 (by decide)).1, (hR 4 (by decide)).1, (hR 5 (by decide)).1, (hR 6 (by decide)).1, (hR 7 (by decide)).1, (hR 8 (by decide)).1, (hR 9 (by decide)).1]) rfl ⟨rfl, hW⟩

/-- The world holds the flags of the kinds. -/
def TabK (w : World) : Prop := ∀ i, i < 5 → w.cell? ⟨0, i, none⟩ = some (.int .i64 (flagK i))
theorem TabK.kept {w w' : World} (h : TabK w) (k : Kept w w') : TabK w' := fun i hi => k.cell (h i hi)
theorem TabK.lt {w : World} (h : TabK w) : 0 < w.heap.size := block_lt_of_cell (h 0 (by decide))
/-- The parts of sections. -/
def secK (gs : List GrpM) (ss : List SctM) (k : Nat) : List PartM := (ss.zipIdx.map fun q => secP gs q.1 q.2).take k
theorem secK_length {gs : List GrpM} {ss : List SctM} {k : Nat} (h : k ≤ ss.length) : (secK gs ss k).length = k := by unfold secK; rw [List.length_take]; simp; omega
theorem secK_succ {gs : List GrpM} {ss : List SctM} {k : Nat} (h : k < ss.length) : secK gs ss (k + 1) = secK gs ss k ++ [secP gs (ss.getD k sctNo) k] := by
  unfold secK
  rw [take_snoc partNo _ k (by simpa using h)]
  congr 2
  rw [List.getD, List.getElem?_map, List.getElem?_zipIdx, List.getElem?_eq_getElem h, getD_of_lt h]
  simp
theorem secK_all (o : ObjM) : secK o.gs o.ss o.ss.length = secPs o := by unfold secK secPs; rw [List.take_of_length_le (by simp)]
theorem grpd_inGr (gs : List GrpV) (n : Int) : grpd (gs.map grpOfV) n = inGr gs n := by
  unfold grpd inGr
  rw [List.any_map]
  rfl

theorem HBx.setL {w : World} {b : Nat} {v : List Int} (h : HBx w b v) (hv : v.length = 10) {k : Nat} (hk : k < 10) (x : Int) : HBx (w.setCell ⟨b, k, none⟩ (.int .i64 x)) b (v.set k x) := fun j hj => by
  by_cases e : j = k
  · subst e
    refine ⟨?_, set_frozen (h j hj).2⟩
    rw [World.cell?_setCell_same _ _ _ (h j hj).1]
    simp [List.getD, hv, hj]
  · refine ⟨?_, set_frozen (h j hj).2⟩
    rw [set_other (h j hj).1 (fun e' => e e'.symm), show (v.set k x).getD j 0 = v.getD j 0 from by rw [List.getD, List.getElem?_set_ne (fun e' => e e'.symm)]; rfl]
theorem HBx.ten {w : World} {b : Nat} {v0 v1 v2 v3 v4 v5 v6 v7 v8 v9 : Int} (h : HBx w b [v0, v1, v2, v3, v4, v5, v6, v7, v8, v9]) :
    (w.cell? ⟨b, 0, none⟩ = some (.int .i64 v0) ∧ w.cell? ⟨b, 1, none⟩ = some (.int .i64 v1) ∧ w.cell? ⟨b, 2, none⟩ = some (.int .i64 v2) ∧ w.cell? ⟨b, 3, none⟩ = some (.int .i64 v3) ∧ w.cell? ⟨b, 4, none⟩ = some (.int .i64 v4) ∧ w.cell? ⟨b, 5, none⟩ = some (.int .i64 v5) ∧ w.cell? ⟨b, 6, none⟩ = some (.int .i64 v6) ∧ w.cell? ⟨b, 7, none⟩ = some (.int .i64 v7) ∧ w.cell? ⟨b, 8, none⟩ = some (.int .i64 v8) ∧ w.cell? ⟨b, 9, none⟩ = some (.int .i64 v9)) ∧
    (w.frozen? ⟨b, 0, none⟩ = false ∧ w.frozen? ⟨b, 1, none⟩ = false ∧ w.frozen? ⟨b, 2, none⟩ = false ∧ w.frozen? ⟨b, 3, none⟩ = false ∧ w.frozen? ⟨b, 4, none⟩ = false ∧ w.frozen? ⟨b, 5, none⟩ = false ∧ w.frozen? ⟨b, 6, none⟩ = false ∧ w.frozen? ⟨b, 7, none⟩ = false ∧ w.frozen? ⟨b, 8, none⟩ = false ∧ w.frozen? ⟨b, 9, none⟩ = false) :=
  ⟨⟨(h 0 (by decide)).1, (h 1 (by decide)).1, (h 2 (by decide)).1, (h 3 (by decide)).1, (h 4 (by decide)).1, (h 5 (by decide)).1, (h 6 (by decide)).1, (h 7 (by decide)).1, (h 8 (by decide)).1, (h 9 (by decide)).1⟩,
   ⟨(h 0 (by decide)).2, (h 1 (by decide)).2, (h 2 (by decide)).2, (h 3 (by decide)).2, (h 4 (by decide)).2, (h 5 (by decide)).2, (h 6 (by decide)).2, (h 7 (by decide)).2, (h 8 (by decide)).2, (h 9 (by decide)).2⟩⟩
theorem okS_al {v : SecV} (h : okS v = true) : ∃ A : Nat, v.al = A ∧ 1 ≤ A ∧ A ≤ 64 := by
  have h1 := sectB_has h
  obtain ⟨_, _, _, _, h5, h6⟩ := h1
  refine ⟨v.al.toNat, by omega, by omega, ?_⟩
  have : v.al ∣ 64 := Int.dvd_of_emod_eq_zero h6
  have := Int.le_of_dvd (by decide) this
  omega

theorem layN_one {ps : List PartM} {P : PartM} (h : layN 64 ps ≤ 900000) (h1 : 1 ≤ P.al) (h2 : P.al ≤ 64) (h3 : P.z = []) : layN 64 (ps ++ [P]) ≤ 1000000 := by
  rw [layN_append]
  show layN 64 ps + padN (layN 64 ps) P.al + P.z.length ≤ _
  have h4 := padN_lt (len := layN 64 ps) (m := P.al) (by omega)
  rw [h3]
  generalize layN 64 ps = N at h h4 ⊢
  generalize padN N P.al = M at h4 ⊢
  simp
  omega
/-- What is read while a section's head is made. -/
abbrev SJ (Q sb : Nat) (fl sz A : Int) (x : World) : Prop := x.cell? ⟨0, Q, none⟩ = some (.int .i64 fl) ∧ x.cell? ⟨sb, 3, none⟩ = some (.int .i64 sz) ∧ x.cell? ⟨sb, 1, none⟩ = some (.int .i64 A)
theorem SJ_drew {Q sb : Nat} {fl sz A : Int} {x : World} (h : SJ Q sb fl sz A x) : SJ Q sb fl sz A x.drew := h
theorem SJ_put {Q sb b : Nat} {fl sz A : Int} {x : World} (h : SJ Q sb fl sz A x) (h1 : b ≠ 0) (h2 : b ≠ sb) (v0 v1 v2 v3 v4 v5 v6 v7 v8 v9 : Int) : SJ Q sb fl sz A (put10 x b v0 v1 v2 v3 v4 v5 v6 v7 v8 v9) :=
  ⟨set_far (set_far (set_far (set_far (set_far (set_far (set_far (set_far (set_far (set_far h.1 h1) h1) h1) h1) h1) h1) h1) h1) h1) h1,
   set_far (set_far (set_far (set_far (set_far (set_far (set_far (set_far (set_far (set_far h.2.1 h2) h2) h2) h2) h2) h2) h2) h2) h2) h2,
   set_far (set_far (set_far (set_far (set_far (set_far (set_far (set_far (set_far (set_far h.2.2 h2) h2) h2) h2) h2) h2) h2) h2) h2) h2⟩

set_option maxRecDepth 20000 in
set_option maxHeartbeats 6400000 in
theorem putSections_walk (B fb : Nat) (σ : FSt) (o : ObjV) (W w : World) (hF : FileOk B w fb σ) (hP : PSt [] σ) (hO : ObjOk W o) (hWw : Kept W w) (hWB : W.heap.size ≤ B) (hT : TabK W) (h16 : o.sn ≤ 16) (hall : o.ss.all okS = true) (hgn : o.gn ≤ 16) (hgl : ∀ j, j < o.gn → (o.gs.getD j grpV0).l.length ≤ 1000)
    (hbnd : ∀ k, k ≤ o.sn → layN 64 (secK (o.gs.map grpOfV) (o.ss.map sctOf) k) ≤ 900000) :
    Calls Tryz.prog 54 #[.pointer (some ⟨fb, 0, none⟩), objW o] w fun e w' => e = .returned (.tuple #[]) ∧ ∃ σ', Went B fb σ w σ' w' ∧ PSt (secK (o.gs.map grpOfV) (o.ss.map sctOf) o.sn) σ' ∧ Keep σ σ' := by
  obtain ⟨ss, sa, n, sc, ys, ya, yn, yc, rs, ra, rn, rc, gs, ga, gn, gc⟩ := o
  have hS : SecR W sa ss := hO.s
  have hG : GrpR W ga gs := hO.g
  have hl : ss.length = n := hO.hs
  have hlg : gs.length = gn := hO.hg
  clear hO
  dsimp only at h16 hall hgn hgl hbnd ⊢
  obtain ⟨wa, hwa, B1, kA, sA⟩ := box_obj w (.slice sa n sc) (.slice ya yn yc) (.slice ra rn rc) (.slice ga gn gc)
  have c0 := B1.c0
  have hFa := hF.kept kA
  have hnb : ¬ FS fb σ w.heap.size := fun e => by have := (hF.lt _ e).2; omega
  have hfbl : fb < w.heap.size := block_lt_of_cell hF.c0
  go_enter Tryz.func54, Tryz.ntmps54
  go_wp2
  go_loopw [12] (fun i wr => ∃ (k : Nat) (τ : FSt), k ≤ n ∧ i = .int .i64 k ∧ Went B fb σ wa τ wr ∧ PSt (secK (gs.map grpOfV) (ss.map sctOf) k) τ ∧ Keep σ τ) (fun i _ => n - (intOf i).toNat)
  case atStart => exact ⟨0, σ, Nat.zero_le _, rfl, Went.refl hFa, hP, Keep.refl _⟩
  case round =>
    obtain ⟨k, τ, hk, rfl, hW, hP2, hK⟩ := hrel
    have hKW : Kept W wr := Below.trans (hWw.trans kA) ((hW.below hFa).mono hWB)
    by_cases hlt : k < n
    · obtain ⟨b, off, rfl, hAt⟩ := (hS.kept hKW).cells (show k < ss.length by omega)
      obtain ⟨v, hv⟩ : ∃ v, ss.getD k secNo = v := ⟨_, rfl⟩
      have HV : Hid (ss.getD k secNo = v) := hv
      rw [hv] at hAt
      have hok : okS v = true := by rw [← hv]; exact List.all_eq_true.1 hall _ (getD_in (by omega) _)
      obtain ⟨A, hA, hA1, hA64⟩ := okS_al hok
      have hsz := okS_sz hok
      have hkd := (sectB_true hok).1
      have hAtk := hAt.ok
      have hAtW : SecOk W v := by
        obtain ⟨_, _, _, h⟩ := hS.cells (show k < ss.length by omega)
        rw [hv] at h
        exact h.ok
      obtain ⟨s, al, a', cp, sz, z⟩ := v
      dsimp only at hA hsz hkd
      subst hA
      obtain ⟨len, hlen⟩ : ∃ len, z.length = len := ⟨_, rfl⟩
      have x0 : wr.cell? ⟨b, off + k * 4, none⟩ = some (.string s) := hAt.c0
      have x1 : wr.cell? ⟨b, off + k * 4 + 1, none⟩ = some (.int .i64 (A : Int)) := hAt.c1
      have x2 : wr.cell? ⟨b, off + k * 4 + 2, none⟩ = some (.slice a' len cp) := by rw [← hlen]; exact hAt.c2
      have x3 : wr.cell? ⟨b, off + k * 4 + 3, none⟩ = some (.int .i64 sz) := hAt.c3
      have hss : s.size ≤ maxLen := hAtk.size
      obtain ⟨wb, wc, hwb, hwc, Z1, Z2, K2, s2⟩ := put_sec wr s A (.slice a' len cp) sz
      obtain ⟨sb, hsb⟩ : ∃ sb, wr.heap.size = sb := ⟨_, rfl⟩
      rw [hsb] at hwc Z1 Z2 s2
      obtain ⟨z0, z1, z2, z3, y0, y1, y2, y3⟩ := Z1
      obtain ⟨e0, e1, e2, e3, _, _, _, _⟩ := id Z2
      have hWc := hW.kept K2
      have hKd := fun w => kind_walk s w hss
      obtain ⟨Q, hQ⟩ : ∃ Q, kindN (nm s) = Q := ⟨_, rfl⟩
      have hkE : kE (nm s) = 0 := by unfold kE; rw [if_neg (by omega)]
      rw [hkE, hQ] at hKd
      have hQ0 : Q ≠ 0 := by omega
      have hQ5 : Q < 5 := by rw [← hQ]; exact Nat.lt_succ_of_le (kindN_le _)
      clear hv hAt hkE
      go_upto_region 7 with (go_at_call 76; refine (hKd _).mono ?_; rintro e w4 ⟨rfl, k4⟩)
      have hW4 := hWc.kept k4
      have Z4 := Z2.kept k4
      have hT4 := (hT.kept ((hKW.trans K2).trans k4)) Q hQ5
      obtain ⟨e0, e1, e2, e3, _, _, _, _⟩ := id Z4
      have hkf : (Q : Int) < 5 := by omega
      have H5 := HBx.new w4 0 0 0 0 0 0 0 0 0 0
      obtain ⟨w5, hw5⟩ : ∃ w5, w4.alloc (headO 0 0 0 0 0 0 0 0 0 0) = w5 := ⟨_, rfl⟩
      have k5 : Kept w4 w5 := by rw [← hw5]; exact Kept.alloc _ _
      obtain ⟨hb, hhb⟩ : ∃ hb, w4.heap.size = hb := ⟨_, rfl⟩
      rw [hw5, hhb] at H5
      obtain ⟨⟨p0, p1, p2, p3, p4, p5, p6, p7, p8, p9⟩, q0, q1, q2, q3, q4, q5, q6, q7, q8, q9⟩ := H5.ten
      obtain ⟨e0', e1', e2', e3', _, _, _, _⟩ := id (Z4.kept k5)
      have hT5 := k5.cell hT4
      obtain ⟨fl, hfl⟩ : ∃ fl, flagK Q = fl := ⟨_, rfl⟩
      rw [hfl] at hT4 hT5
      clear x0 x1 x2 x3 z0 z1 z2 z3 y0 y1 y2 y3 hwb hwc hKd
      have hbg : hb ≠ 0 := fun e => by have := hT.lt; have := hKW.size; have := K2.size; have := k4.size; omega
      have hbs : hb ≠ sb := fun e => by have := k4.size; omega
      have A0 : SJ Q sb fl sz A w4 := ⟨hT4, e3, e1⟩
      have A0' := SJ_drew A0
      have A1 : SJ Q sb fl sz A w5 := ⟨hT5, e3', e1'⟩
      have A1' := SJ_drew A1
      have A2' := SJ_drew (SJ_put A1 hbg hbs 0 1 fl 0 0 sz 0 0 A 0)
      go_region_held3 (fun x : World => SJ Q sb fl sz A x)
        (first | with_reducible exact A0' | with_reducible exact A1' | with_reducible exact A2')
        ((fail))
      have H6 : HBx (put10 w5 hb 0 1 fl 0 0 sz 0 0 A 0).drew hb [0, 1, fl, 0, 0, sz, 0, 0, (A : Int), 0] := (H5.put 0 1 fl 0 0 sz 0 0 A 0).kept (kept_drew _)
      have K6 : Kept w4 (put10 w5 hb 0 1 fl 0 0 sz 0 0 A 0).drew := (below_put10 (b := hb) k5 (by omega) 0 1 fl 0 0 sz 0 0 A 0).trans ((kept_drew _).mono (by have h1 := k5.size; simpa using h1))
      obtain ⟨w6, hw6⟩ : ∃ w6, (put10 w5 hb 0 1 fl 0 0 sz 0 0 A 0).drew = w6 := ⟨_, rfl⟩
      rw [hw6] at H6 K6 ⊢
      have hbw : hb ≠ w.heap.size := fun e => by have h1 := hW.turn.size; have h2 := K2.size; have h3 := k4.size; omega
      have hnsb : ¬ FS fb τ sb := fun e => by have := (hW.ok.lt _ e).2; omega
      have hc3 : w6.cell? ⟨w.heap.size, 3, none⟩ = some (.slice ga gn gc) := K6.cell (k4.cell (K2.cell (hW.turn.cell B1.c3 hnb)))
      have hc2W := hAtW
      have hKW6 : Kept W w6 := ((hKW.trans K2).trans k4).trans K6
      have hpl : secK (gs.map grpOfV) (ss.map sctOf) (k + 1) = secK (gs.map grpOfV) (ss.map sctOf) k ++ [secP (gs.map grpOfV) ⟨nm s, A, z, sz⟩ k] := by
        rw [secK_succ (by rw [List.length_map]; omega), getD_map' (f := sctOf) (no := secNo) (no' := sctNo) rfl, HV.out]
        rfl
      have HSL : Hid ((secK (gs.map grpOfV) (ss.map sctOf) k).length ≤ 900) := by unfold Hid; rw [secK_length (by rw [List.length_map]; omega)]; omega
      have HB1 : Hid (layN 64 (secK (gs.map grpOfV) (ss.map sctOf) k) ≤ 1000000) := Nat.le_trans (hbnd k hk) (by decide)
      have HB2 : Hid (∀ P : PartM, 1 ≤ P.al → P.al ≤ 64 → P.z = [] → layN 64 (secK (gs.map grpOfV) (ss.map sctOf) k ++ [P]) ≤ 1000000) := fun P h1 h2 h3 => layN_one (hbnd k hk) h1 h2 h3
      have hfl0 : 0 ≤ fl ∧ fl ≤ 6 := by
        rw [← hfl]
        unfold flagK
        split
        · decide
        · split
          · decide
          · split <;> decide
      have hwf : wrap64 (fl + 512) = fl + 512 := w64 (by omega) (by omega)
      have hwf' : IntKind.i64.wrap (fl + 512) = fl + 512 := w64i (by omega) (by omega)
      obtain ⟨g, hg⟩ : ∃ g, inGr gs ((k : Int) + 1) = g := ⟨_, rfl⟩
      have hgd : grpd (gs.map grpOfV) ((k : Int) + 1) = g := by rw [grpd_inGr, hg]
      have HPL := hpl
      have HQQ : Hid (kindN (nm s) = Q) := hQ
      have HFL : Hid (flagK Q = fl) := hfl
      have HOK : Hid (okS ⟨s, (A : Int), a', cp, sz, z⟩ = true) := hok
      clear H5 hw5 hw6 A0 A0' A1 A1' A2' hT4 hT5 e0 e1 e2 e3 e0' e1' e2' e3' p0 p1 p2 p3 p4 p5 p6 p7 p8 p9 q0 q1 q2 q3 q4 q5 q6 q7 q8 q9 hc2W hpl hQ hfl hok hkd hbnd
      have hzz : if Q = 4 then len = 0 else sz = 0 := by
        have h1 := (sectB_true HOK.out).2.2
        unfold sizesB at h1
        dsimp only at h1
        rw [HQQ.out, hlen] at h1
        by_cases h4 : Q = 4
        · rw [if_pos h4] at h1 ⊢
          exact (of_decide_eq_true h1).1
        · rw [if_neg h4] at h1 ⊢
          exact (of_decide_eq_true h1).2
      by_cases h4 : Q = 4
      · rw [if_pos h4] at hzz
        cases g with
        | true =>
          have d4 : ((Q : Int) == 4) = true := beq_iff_eq.2 (by omega)
          have H4 : Hid (Q = 4) := h4
          have HZ : Hid (len = 0) := hzz
          clear h4 hzz
          have H7 : HBx (w6.setCell ⟨hb, 1, none⟩ (.int .i64 8)) hb [0, 8, fl, 0, 0, sz, 0, 0, (A : Int), 0] := H6.setL rfl (by decide) 8
          have K7 : Kept w4 (w6.setCell ⟨hb, 1, none⟩ (.int .i64 8)) := K6.setCell (by show w4.heap.size ≤ hb; omega) (.int .i64 8)
          have hc7 : (w6.setCell ⟨hb, 1, none⟩ (.int .i64 8)).cell? ⟨w.heap.size, 3, none⟩ = some (.slice ga gn gc) := set_far hc3 hbw
          obtain ⟨⟨_, r1, _, _, _, _, _, _, _, _⟩, _, r2, _, _, _, _, _, _, _, _⟩ := H6.ten
          obtain ⟨w7, hw7⟩ : ∃ w7, w6.setCell ⟨hb, 1, none⟩ (.int .i64 8) = w7 := ⟨_, rfl⟩
          rw [hw7] at H7 K7 hc7
          have hKW7 : Kept W w7 := ((hKW.trans K2).trans k4).trans K7
          have hIG := isInGroup_walk ga gn gc gs ((k : Int) + 1) w7 hlg (by omega) hgl (hG.kept hKW7)
          rw [hg] at hIG
          go_upto_region 11 with (go_at_call 91; refine hIG.mono ?_; rintro e w8 ⟨rfl, k8⟩)
          have H8 := H7.kept k8
          have K8 := K7.trans k8
          have H9 : HBx (w8.setCell ⟨hb, 2, none⟩ (.int .i64 (fl + 512))) hb [0, 8, fl + 512, 0, 0, sz, 0, 0, (A : Int), 0] := H8.setL rfl (by decide) (fl + 512)
          have K9 : Kept w4 (w8.setCell ⟨hb, 2, none⟩ (.int .i64 (fl + 512))) := K8.setCell (by show w4.heap.size ≤ hb; omega) (.int .i64 (fl + 512))
          obtain ⟨⟨_, _, r3, _, _, _, _, _, _, _⟩, _, _, r4, _, _, _, _, _, _, _⟩ := H8.ten
          obtain ⟨w9, hw9⟩ : ∃ w9, w8.setCell ⟨hb, 2, none⟩ (.int .i64 (fl + 512)) = w9 := ⟨_, rfl⟩
          rw [hw9] at H9 K9
          have hW9 := hW4.kept K9
          obtain ⟨⟨p0, p1, p2, p3, p4, p5, p6, p7, p8, p9⟩, _⟩ := H9.ten
          obtain ⟨e0, e1, e2, e3, _, _, _, _⟩ := id (Z4.kept K9)
          obtain ⟨P, hP0⟩ : ∃ P : PartM, P = ⟨nm s, 8, fl + 512, 0, 0, A, 0, sz, []⟩ := ⟨_, rfl⟩
          have hPS : secP (gs.map grpOfV) ⟨nm s, A, z, sz⟩ k = { P with z := P.z ++ z } := by
            unfold secP
            rw [hP0]
            dsimp only
            rw [HQQ.out, HFL.out, hgd, if_pos H4.out, if_pos H4.out, Int.toNat_natCast]
            simp
          have hB := pbegin_walk B fb τ (secK (gs.map grpOfV) (ss.map sctOf) k) P s sz w9 hW9.ok hP2 (by rw [hP0]) (by rw [hP0]) (by rw [hP0]; rfl) (by rw [hP0]; exact hA1) (by rw [hP0]; exact hA64) HB1.out HSL.out
          rw [hP0] at hB
          dsimp only at hB
          go_upto_region 13 with (go_at_call 92; refine hB.mono ?_; rintro e w10 ⟨rfl, τ2, hW10, hP10, hK10⟩)
          rw [← hP0] at hP10
          have e2' := hW10.turn.cell e2 hnsb
          have hWt := (hW9.trans hW10)
          have hBy : Byt w10 a' z := hAtW.byt.kept (Below.trans (hWw.trans kA) ((hWt.below hFa).mono hWB))
          have hL10 := HB2.out P (by rw [hP0]; exact hA1) (by rw [hP0]; exact hA64) (by rw [hP0])
          have hPu := pput_walk B fb τ2 (secK (gs.map grpOfV) (ss.map sctOf) k) P a' len cp z w10 hW10.ok hP10 hlen hBy (by rw [← hlen]; exact hAtW.a0) (by rw [hP0]; intro _; exact List.eq_nil_of_length_eq_zero (by rw [hlen]; exact HZ.out)) (by rw [hP0]; dsimp only; omega) (by rw [hP0]; dsimp only; omega) hL10 (by rw [hP0]; simp) (by omega) HSL.out
          rw [← hPS] at hPu
          go_wp2_with (go_at_call 93; refine hPu.mono ?_; rintro e w11 ⟨rfl, τ3, hW11, hP11, hK11⟩)
          go_roundw
          case rel => exact ⟨k + 1, τ3, by omega, by go_num, hWt.trans hW11, by rw [HPL]; exact hP11, (hK.trans hK10).trans hK11⟩
          case measure => simp [intOf]; omega
        | false =>
          have d4 : ((Q : Int) == 4) = true := beq_iff_eq.2 (by omega)
          have H4 : Hid (Q = 4) := h4
          have HZ : Hid (len = 0) := hzz
          clear h4 hzz
          have H7 : HBx (w6.setCell ⟨hb, 1, none⟩ (.int .i64 8)) hb [0, 8, fl, 0, 0, sz, 0, 0, (A : Int), 0] := H6.setL rfl (by decide) 8
          have K7 : Kept w4 (w6.setCell ⟨hb, 1, none⟩ (.int .i64 8)) := K6.setCell (by show w4.heap.size ≤ hb; omega) (.int .i64 8)
          have hc7 : (w6.setCell ⟨hb, 1, none⟩ (.int .i64 8)).cell? ⟨w.heap.size, 3, none⟩ = some (.slice ga gn gc) := set_far hc3 hbw
          obtain ⟨⟨_, r1, _, _, _, _, _, _, _, _⟩, _, r2, _, _, _, _, _, _, _, _⟩ := H6.ten
          obtain ⟨w7, hw7⟩ : ∃ w7, w6.setCell ⟨hb, 1, none⟩ (.int .i64 8) = w7 := ⟨_, rfl⟩
          rw [hw7] at H7 K7 hc7
          have hKW7 : Kept W w7 := ((hKW.trans K2).trans k4).trans K7
          have hIG := isInGroup_walk ga gn gc gs ((k : Int) + 1) w7 hlg (by omega) hgl (hG.kept hKW7)
          rw [hg] at hIG
          go_upto_region 12 with (go_at_call 91; refine hIG.mono ?_; rintro e w8 ⟨rfl, k8⟩)
          have H8 := H7.kept k8
          have K8 := K7.trans k8
          have H9 := H8
          have K9 := K8
          have hW9 := hW4.kept K9
          obtain ⟨⟨p0, p1, p2, p3, p4, p5, p6, p7, p8, p9⟩, _⟩ := H9.ten
          obtain ⟨e0, e1, e2, e3, _, _, _, _⟩ := id (Z4.kept K9)
          obtain ⟨P, hP0⟩ : ∃ P : PartM, P = ⟨nm s, 8, fl, 0, 0, A, 0, sz, []⟩ := ⟨_, rfl⟩
          have hPS : secP (gs.map grpOfV) ⟨nm s, A, z, sz⟩ k = { P with z := P.z ++ z } := by
            unfold secP
            rw [hP0]
            dsimp only
            rw [HQQ.out, HFL.out, hgd, if_pos H4.out, if_pos H4.out, Int.toNat_natCast]
            simp
          have hB := pbegin_walk B fb τ (secK (gs.map grpOfV) (ss.map sctOf) k) P s sz w8 hW9.ok hP2 (by rw [hP0]) (by rw [hP0]) (by rw [hP0]; rfl) (by rw [hP0]; exact hA1) (by rw [hP0]; exact hA64) HB1.out HSL.out
          rw [hP0] at hB
          dsimp only at hB
          go_upto_region 13 with (go_at_call 92; refine hB.mono ?_; rintro e w10 ⟨rfl, τ2, hW10, hP10, hK10⟩)
          rw [← hP0] at hP10
          have e2' := hW10.turn.cell e2 hnsb
          have hWt := (hW9.trans hW10)
          have hBy : Byt w10 a' z := hAtW.byt.kept (Below.trans (hWw.trans kA) ((hWt.below hFa).mono hWB))
          have hL10 := HB2.out P (by rw [hP0]; exact hA1) (by rw [hP0]; exact hA64) (by rw [hP0])
          have hPu := pput_walk B fb τ2 (secK (gs.map grpOfV) (ss.map sctOf) k) P a' len cp z w10 hW10.ok hP10 hlen hBy (by rw [← hlen]; exact hAtW.a0) (by rw [hP0]; intro _; exact List.eq_nil_of_length_eq_zero (by rw [hlen]; exact HZ.out)) (by rw [hP0]; dsimp only; omega) (by rw [hP0]; dsimp only; omega) hL10 (by rw [hP0]; simp) (by omega) HSL.out
          rw [← hPS] at hPu
          go_wp2_with (go_at_call 93; refine hPu.mono ?_; rintro e w11 ⟨rfl, τ3, hW11, hP11, hK11⟩)
          go_roundw
          case rel => exact ⟨k + 1, τ3, by omega, by go_num, hWt.trans hW11, by rw [HPL]; exact hP11, (hK.trans hK10).trans hK11⟩
          case measure => simp [intOf]; omega
      · rw [if_neg h4] at hzz
        cases g with
        | true =>
          have d4 : ((Q : Int) == 4) = false := beq_eq_false_iff_ne.2 (by omega)
          have H4 : Hid (¬ Q = 4) := h4
          have HZ : Hid (sz = 0) := hzz
          clear h4 hzz
          obtain ⟨w7, hw7⟩ : ∃ w7, w6 = w7 := ⟨_, rfl⟩
          subst hw7
          have H7 := H6
          have K7 := K6
          have hc7 := hc3
          have hKW7 : Kept W w6 := ((hKW.trans K2).trans k4).trans K7
          have hIG := isInGroup_walk ga gn gc gs ((k : Int) + 1) w6 hlg (by omega) hgl (hG.kept hKW7)
          rw [hg] at hIG
          go_upto_region 11 with (go_at_call 91; refine hIG.mono ?_; rintro e w8 ⟨rfl, k8⟩)
          have H8 := H7.kept k8
          have K8 := K7.trans k8
          have H9 : HBx (w8.setCell ⟨hb, 2, none⟩ (.int .i64 (fl + 512))) hb [0, 1, fl + 512, 0, 0, sz, 0, 0, (A : Int), 0] := H8.setL rfl (by decide) (fl + 512)
          have K9 : Kept w4 (w8.setCell ⟨hb, 2, none⟩ (.int .i64 (fl + 512))) := K8.setCell (by show w4.heap.size ≤ hb; omega) (.int .i64 (fl + 512))
          obtain ⟨⟨_, _, r3, _, _, _, _, _, _, _⟩, _, _, r4, _, _, _, _, _, _, _⟩ := H8.ten
          obtain ⟨w9, hw9⟩ : ∃ w9, w8.setCell ⟨hb, 2, none⟩ (.int .i64 (fl + 512)) = w9 := ⟨_, rfl⟩
          rw [hw9] at H9 K9
          have hW9 := hW4.kept K9
          obtain ⟨⟨p0, p1, p2, p3, p4, p5, p6, p7, p8, p9⟩, _⟩ := H9.ten
          obtain ⟨e0, e1, e2, e3, _, _, _, _⟩ := id (Z4.kept K9)
          obtain ⟨P, hP0⟩ : ∃ P : PartM, P = ⟨nm s, 1, fl + 512, 0, 0, A, 0, 0, []⟩ := ⟨_, rfl⟩
          have hPS : secP (gs.map grpOfV) ⟨nm s, A, z, sz⟩ k = { P with z := P.z ++ z } := by
            unfold secP
            rw [hP0]
            dsimp only
            rw [HQQ.out, HFL.out, hgd, if_neg H4.out, if_neg H4.out, Int.toNat_natCast]
            simp
          have hB := pbegin_walk B fb τ (secK (gs.map grpOfV) (ss.map sctOf) k) P s sz w9 hW9.ok hP2 (by rw [hP0]) (by rw [hP0]) (by rw [hP0]; dsimp only; rw [if_neg (by decide)]; exact HZ.out) (by rw [hP0]; exact hA1) (by rw [hP0]; exact hA64) HB1.out HSL.out
          rw [hP0] at hB
          dsimp only at hB
          go_upto_region 13 with (go_at_call 92; refine hB.mono ?_; rintro e w10 ⟨rfl, τ2, hW10, hP10, hK10⟩)
          rw [← hP0] at hP10
          have e2' := hW10.turn.cell e2 hnsb
          have hWt := (hW9.trans hW10)
          have hBy : Byt w10 a' z := hAtW.byt.kept (Below.trans (hWw.trans kA) ((hWt.below hFa).mono hWB))
          have hL10 := HB2.out P (by rw [hP0]; exact hA1) (by rw [hP0]; exact hA64) (by rw [hP0])
          have hPu := pput_walk B fb τ2 (secK (gs.map grpOfV) (ss.map sctOf) k) P a' len cp z w10 hW10.ok hP10 hlen hBy (by rw [← hlen]; exact hAtW.a0) (by rw [hP0]; intro e; cases e) (by rw [hP0]; dsimp only; omega) (by rw [hP0]; dsimp only; omega) hL10 (by rw [hP0]; simp) (by omega) HSL.out
          rw [← hPS] at hPu
          go_wp2_with (go_at_call 93; refine hPu.mono ?_; rintro e w11 ⟨rfl, τ3, hW11, hP11, hK11⟩)
          go_roundw
          case rel => exact ⟨k + 1, τ3, by omega, by go_num, hWt.trans hW11, by rw [HPL]; exact hP11, (hK.trans hK10).trans hK11⟩
          case measure => simp [intOf]; omega
        | false =>
          have d4 : ((Q : Int) == 4) = false := beq_eq_false_iff_ne.2 (by omega)
          have H4 : Hid (¬ Q = 4) := h4
          have HZ : Hid (sz = 0) := hzz
          clear h4 hzz
          obtain ⟨w7, hw7⟩ : ∃ w7, w6 = w7 := ⟨_, rfl⟩
          subst hw7
          have H7 := H6
          have K7 := K6
          have hc7 := hc3
          have hKW7 : Kept W w6 := ((hKW.trans K2).trans k4).trans K7
          have hIG := isInGroup_walk ga gn gc gs ((k : Int) + 1) w6 hlg (by omega) hgl (hG.kept hKW7)
          rw [hg] at hIG
          go_upto_region 12 with (go_at_call 91; refine hIG.mono ?_; rintro e w8 ⟨rfl, k8⟩)
          have H8 := H7.kept k8
          have K8 := K7.trans k8
          have H9 := H8
          have K9 := K8
          have hW9 := hW4.kept K9
          obtain ⟨⟨p0, p1, p2, p3, p4, p5, p6, p7, p8, p9⟩, _⟩ := H9.ten
          obtain ⟨e0, e1, e2, e3, _, _, _, _⟩ := id (Z4.kept K9)
          obtain ⟨P, hP0⟩ : ∃ P : PartM, P = ⟨nm s, 1, fl, 0, 0, A, 0, 0, []⟩ := ⟨_, rfl⟩
          have hPS : secP (gs.map grpOfV) ⟨nm s, A, z, sz⟩ k = { P with z := P.z ++ z } := by
            unfold secP
            rw [hP0]
            dsimp only
            rw [HQQ.out, HFL.out, hgd, if_neg H4.out, if_neg H4.out, Int.toNat_natCast]
            simp
          have hB := pbegin_walk B fb τ (secK (gs.map grpOfV) (ss.map sctOf) k) P s sz w8 hW9.ok hP2 (by rw [hP0]) (by rw [hP0]) (by rw [hP0]; dsimp only; rw [if_neg (by decide)]; exact HZ.out) (by rw [hP0]; exact hA1) (by rw [hP0]; exact hA64) HB1.out HSL.out
          rw [hP0] at hB
          dsimp only at hB
          go_upto_region 13 with (go_at_call 92; refine hB.mono ?_; rintro e w10 ⟨rfl, τ2, hW10, hP10, hK10⟩)
          rw [← hP0] at hP10
          have e2' := hW10.turn.cell e2 hnsb
          have hWt := (hW9.trans hW10)
          have hBy : Byt w10 a' z := hAtW.byt.kept (Below.trans (hWw.trans kA) ((hWt.below hFa).mono hWB))
          have hL10 := HB2.out P (by rw [hP0]; exact hA1) (by rw [hP0]; exact hA64) (by rw [hP0])
          have hPu := pput_walk B fb τ2 (secK (gs.map grpOfV) (ss.map sctOf) k) P a' len cp z w10 hW10.ok hP10 hlen hBy (by rw [← hlen]; exact hAtW.a0) (by rw [hP0]; intro e; cases e) (by rw [hP0]; dsimp only; omega) (by rw [hP0]; dsimp only; omega) hL10 (by rw [hP0]; simp) (by omega) HSL.out
          rw [← hPS] at hPu
          go_wp2_with (go_at_call 93; refine hPu.mono ?_; rintro e w11 ⟨rfl, τ3, hW11, hP11, hK11⟩)
          go_roundw
          case rel => exact ⟨k + 1, τ3, by omega, by go_num, hWt.trans hW11, by rw [HPL]; exact hP11, (hK.trans hK10).trans hK11⟩
          case measure => simp [intOf]; omega
    · obtain rfl : k = n := by omega
      clear hbnd hS hG
      go_wp2
      go_end0
      exact ⟨rfl, τ, hW.from kA, hP2, hK⟩

theorem nm_strtab : nm ⟨#[46, 115, 116, 114, 116, 97, 98]⟩ = stNm := by decide +kernel
def stPart (z : List Int) : PartM := ⟨stNm, 3, 0, 0, 0, 1, 0, 0, z⟩
set_option maxRecDepth 20000 in
set_option maxHeartbeats 3200000 in
theorem putSymbolNames_walk (B fb : Nat) (σ : FSt) (ps : List PartM) (v : Value) (v0 v1 v2 v3 : Value) (w : World) (hv : v = .agg #[v0, v1, v2, v3]) (hF : FileOk B w fb σ) (hP : PSt ps σ) (hl : layN 64 ps ≤ 900000) (hk : ps.length ≤ 900) (ht : σ.tb.length ≤ 100000) :
    Calls Tryz.prog 58 #[.pointer (some ⟨fb, 0, none⟩), v] w fun e w' => e = .returned (.tuple #[]) ∧ ∃ σ', Went B fb σ w σ' w' ∧ PSt (ps ++ [stPart σ.tb]) σ' ∧ Keep σ σ' := by
  subst hv
  obtain ⟨wa, hwa, B1, kA, sA⟩ := box_obj w v0 v1 v2 v3
  have hFa := hF.kept kA
  have hB := pbegin_walk B fb σ ps (stPart []) ⟨#[46, 115, 116, 114, 116, 97, 98]⟩ 0 wa hFa hP rfl nm_strtab rfl (by decide) (by decide) (by omega) hk
  have HL1 : Hid (layN 64 (ps ++ [stPart []]) ≤ 1000000) := layN_one hl (by decide) (by decide) rfl
  have HT : Hid (σ.tb.length ≤ 100000) := ht
  clear hl ht
  unfold stPart at hB
  dsimp only at hB
  go_enter Tryz.func58, Tryz.ntmps58
  go_upto_region 2 with (go_at_call 92; refine hB.mono ?_; rintro e w2 ⟨rfl, τ, hW, hP2, hK⟩)
  have ok2 := hW.ok
  have c4 := ok2.c4
  obtain ⟨n, hn⟩ : ∃ n, τ.tb.length = n := ⟨_, rfl⟩
  obtain ⟨A, C, hvt, _, hby, hnil⟩ := ok2.ot.let hn
  rw [hvt] at c4
  have hPu := pput_walk B fb τ ps (stPart []) A n C τ.tb w2 ok2 hP2 hn hby hnil (fun e => by cases e) (by decide) (by decide) HL1.out (by decide) (by rw [← hn, hK.2.2]; have := HT.out; omega) hk
  have HTB : Hid (τ.tb = σ.tb) := hK.2.2
  clear hB hvt hn
  go_wp2_with (go_at_call 93; refine hPu.mono ?_; rintro e w3 ⟨rfl, τ2, hW3, hP3, hK3⟩)
  go_end0
  refine ⟨rfl, τ2, (hW.from kA).trans hW3, ?_, hK.trans hK3⟩
  rw [← HTB.out]
  exact hP3

theorem nm_append (s t : ByteArray) : nm (s ++ t) = nm s ++ nm t := by
  unfold nm
  rw [← List.map_append]
  congr 1
theorem nm_group : nm ⟨#[46, 103, 114, 111, 117, 112, 46]⟩ = gpNm := by decide +kernel
def gfL (l : List Int) : List Int := l.flatMap fun n => byN (uOf n) 4
theorem gfL_length (l : List Int) : (gfL l).length = 4 * l.length := by
  induction l with
  | nil => rfl
  | cons a t ih =>
    unfold gfL at ih ⊢
    rw [List.flatMap_cons, List.length_append, byN_length, ih, List.length_cons]
    omega
theorem gfL_take {l : List Int} {k : Nat} (h : k < l.length) : gfL (l.take (k + 1)) = gfL (l.take k) ++ byN (uOf (l.getD k 0)) 4 := by
  unfold gfL
  rw [take_snoc 0 l k h, List.flatMap_append, List.flatMap_singleton]
def gpPart (f : Int) (nm : List Int) (z : List Int) : PartM := ⟨gpNm ++ nm, 17, 0, f, 0, 4, 4, 0, z⟩
theorem grpP_part (f : Int) (g : GrpV) : grpP f (grpOfV g) = gpPart f (nm g.s) (byN (uOf 1) 4 ++ gfL g.l) := rfl
def grK (f : Int) (gs : List GrpV) (k : Nat) : List PartM := (gs.take k).map fun g => grpP f (grpOfV g)
theorem grK_succ {f : Int} {gs : List GrpV} {k : Nat} (h : k < gs.length) : grK f gs (k + 1) = grK f gs k ++ [grpP f (grpOfV (gs.getD k grpV0))] := by
  unfold grK
  rw [take_snoc grpV0 gs k h, List.map_append, List.map_singleton]

theorem putNum_walk (n : Int) (w : World) (h0 : 0 ≤ n) (h1 : n ≤ 16) :
    Calls Tryz.prog 94 #[.int .i64 n, .int .i64 4] w fun e w' => ∃ A C, e = .returned (.tuple #[.slice A 4 C, .int .i64 0]) ∧ Byt w' A (byN (uOf n) 4) ∧ (A = none → 4 = 0 ∧ C = 0) ∧ Kept w w' := by
  refine (put_walk n 4 w (by omega) (by omega)).mono ?_
  rintro e w' ⟨v, rfl, hO, hk⟩
  have hm : mayB n 4 = true := by rw [mayB_4]; exact decide_eq_true (by omega)
  have e1 : putL n 4 = byN (uOf n) 4 := by unfold putL; rw [if_pos hm]; rfl
  have e2 : putE n 4 = 0 := by unfold putE; rw [if_pos hm]
  rw [e1] at hO
  rw [e2]
  obtain ⟨A, C, rfl, _, hb, hn⟩ := hO.let (byN_length _ _)
  exact ⟨A, C, rfl, hb, hn, hk⟩
theorem layN_some {ps : List PartM} {P : PartM} (h : layN 64 ps ≤ 800000) (h1 : 1 ≤ P.al) (h2 : P.al ≤ 64) (h3 : P.z.length ≤ 1000) : layN 64 (ps ++ [P]) ≤ 1000000 := by
  rw [layN_append]
  show layN 64 ps + padN (layN 64 ps) P.al + P.z.length ≤ _
  have h4 := padN_lt (len := layN 64 ps) (m := P.al) (by omega)
  generalize layN 64 ps = N at h h4 ⊢
  generalize padN N P.al = M at h4 ⊢
  omega

set_option maxRecDepth 20000 in
set_option maxHeartbeats 6400000 in
theorem putGroups_walk (B fb : Nat) (σ : FSt) (ps : List PartM) (o : ObjV) (W w : World) (hF : FileOk B w fb σ) (hP : PSt ps σ) (hO : ObjOk W o) (hWw : Kept W w) (hWB : W.heap.size ≤ B) (hgn : o.gn ≤ 16) (hgl : ∀ j, j < o.gn → (o.gs.getD j grpV0).l.length ≤ 16) (hgr : ∀ j, j < o.gn → ∀ i, i < (o.gs.getD j grpV0).l.length → 0 ≤ (o.gs.getD j grpV0).l.getD i 0 ∧ (o.gs.getD j grpV0).l.getD i 0 ≤ 16)
    (hgs : ∀ j, j < o.gn → (o.gs.getD j grpV0).s.size ≤ 1000) (hbnd : ∀ k, k ≤ o.gn → layN 64 (ps ++ grK σ.sy o.gs k) ≤ 800000) (hpl : ps.length ≤ 800) :
    Calls Tryz.prog 55 #[.pointer (some ⟨fb, 0, none⟩), objW o] w fun e w' => e = .returned (.tuple #[]) ∧ ∃ σ', Went B fb σ w σ' w' ∧ PSt (ps ++ grK σ.sy o.gs o.gn) σ' ∧ Keep σ σ' := by
  obtain ⟨ss, sa, sn, sc, ys, ya, yn, yc, rs, ra, rn, rc, gs, ga, n, gc⟩ := o
  have hG : GrpR W ga gs := hO.g
  have hl : gs.length = n := hO.hg
  clear hO
  dsimp only at hgn hgl hgr hgs hbnd ⊢
  obtain ⟨F, hF0⟩ : ∃ F, σ.sy = F := ⟨_, rfl⟩
  rw [hF0] at hbnd ⊢
  obtain ⟨wa, hwa, B1, kA, sA⟩ := box_obj w (.slice sa sn sc) (.slice ya yn yc) (.slice ra rn rc) (.slice ga n gc)
  have c3 := B1.c3
  have hFa := hF.kept kA
  go_enter Tryz.func55, Tryz.ntmps55
  go_wp2
  go_loopw [11] (fun i wr => ∃ (k : Nat) (τ : FSt), k ≤ n ∧ i = .int .i64 k ∧ Went B fb σ wa τ wr ∧ PSt (ps ++ grK F gs k) τ ∧ Keep σ τ) (fun i _ => n - (intOf i).toNat)
  case atStart => exact ⟨0, σ, Nat.zero_le _, rfl, Went.refl hFa, by simpa [grK] using hP, Keep.refl _⟩
  case round =>
    obtain ⟨k, τ, hk, rfl, hW, hP2, hK⟩ := hrel
    have hKW : Kept W wr := Below.trans (hWw.trans kA) ((hW.below hFa).mono hWB)
    by_cases hlt : k < n
    · obtain ⟨b, off, rfl, hAt⟩ := (hG.kept hKW).cells (show k < gs.length by omega)
      obtain ⟨v, hv⟩ : ∃ v, gs.getD k grpV0 = v := ⟨_, rfl⟩
      have HV : Hid (gs.getD k grpV0 = v) := hv
      rw [hv] at hAt
      have hok : GrpOk W v := by
        obtain ⟨_, _, _, h⟩ := hG.cells (show k < gs.length by omega)
        rw [hv] at h
        exact h.ok
      have hgs1 := hgs k hlt
      have hgl1 := hgl k hlt
      have hgr1 := hgr k hlt
      rw [hv] at hgl1 hgr1 hgs1
      obtain ⟨s, a', cp, l⟩ := v
      dsimp only at hgl1 hgr1 hgs1
      obtain ⟨m, hm⟩ : ∃ m, l.length = m := ⟨_, rfl⟩
      have x0 : wr.cell? ⟨b, off + k * 2, none⟩ = some (.string s) := hAt.c0
      have x1 : wr.cell? ⟨b, off + k * 2 + 1, none⟩ = some (.slice a' m cp) := by rw [← hm]; exact hAt.c1
      obtain ⟨wb, wc, hwb, hwc, Z1, Z2, K2, s2⟩ := put_grp wr s (.slice a' m cp)
      obtain ⟨gb, hgb⟩ : ∃ gb, wr.heap.size = gb := ⟨_, rfl⟩
      rw [hgb] at hwc Z1 Z2 s2
      obtain ⟨z0, z1, y0, y1⟩ := Z1
      obtain ⟨u0, u1, _, _⟩ := id Z2
      have hWc := hW.kept K2
      have hWd := hWc.kept (kept_drew wc)
      have f3 : wc.cell? ⟨fb, 3, none⟩ = some (.int .i64 F) := by rw [← hF0, ← hK.1]; exact hWc.ok.c3
      have hngb : ¬ FS fb τ gb := fun e => by have := (hW.ok.lt _ e).2; omega
      have HB1 : Hid (layN 64 (ps ++ grK F gs k) ≤ 800000) := hbnd k hk
      have HSL : Hid ((ps ++ grK F gs k).length ≤ 900) := by unfold Hid grK; rw [List.length_append, List.length_map, List.length_take]; omega
      have hB := pbegin_walk B fb τ (ps ++ grK F gs k) (gpPart F (nm s) []) (⟨#[46, 103, 114, 111, 117, 112, 46]⟩ ++ s) 0 wc.drew hWd.ok hP2 rfl (by rw [nm_append, nm_group]; rfl) rfl (by simp [gpPart]) (by simp [gpPart]) (Nat.le_trans HB1.out (by decide)) HSL.out
      unfold gpPart at hB
      dsimp only at hB
      have HM : Hid (m ≤ 16) := by unfold Hid; omega
      have hadd : ∀ x : World, (Op.stringOp .add ⟨#[46, 103, 114, 111, 117, 112, 46]⟩ s).run Tryz.prog x = .ok (.string (⟨#[46, 103, 114, 111, 117, 112, 46]⟩ ++ s)) x := fun x => run_string_add_sum x _ _ (by show 7 + s.size ≤ _; omega)
      clear hv hAt hbnd hgs1
      go_upto_region 4 with fail
      go_region_with (go_at_call 92; refine hB.mono ?_; rintro e w4 ⟨rfl, τ2, hW4, hP4, hK4⟩)
      all_goals
        have hP4' : PSt (ps ++ grK F gs k ++ [gpPart F (nm s) []]) τ2 := hP4
        have hL0 : Hid (layN 64 (ps ++ grK F gs k ++ [gpPart F (nm s) []]) ≤ 1000000) := layN_some HB1.out (by simp [gpPart]) (by simp [gpPart]) (by simp [gpPart])
        have hI : Ints W a' l := hok.ints
        have hngb2 : ¬ FS fb τ2 gb := hW4.not (by show gb < wc.heap.size; omega) hngb
        have hu1 : w4.cell? ⟨gb, 1, none⟩ = some (.slice a' m cp) := hW4.turn.cell (show wc.drew.cell? ⟨gb, 1, none⟩ = _ from u1) hngb
        have hWt := hWd.trans hW4
        have hKt := hK.trans hK4
        clear hadd f3 x0 x1 y0 y1 z0 z1 u0 u1 hwb hwc hB hP4 hWc hP2
        go_upto_region 6 with (first
          | (go_at_call 94; refine (putNum_walk 1 w4 (by decide) (by decide)).mono ?_; rintro e w5 ⟨A5, C5, rfl, hb5, hn5, k5⟩; have hPu := pput_walk B fb τ2 (ps ++ grK F gs k) (gpPart F (nm s) []) A5 4 C5 (byN (uOf 1) 4) w5 (hW4.ok.kept k5) hP4' (byN_length _ _) hb5 hn5 (by simp [gpPart]) (by simp [gpPart]) (by simp [gpPart]) hL0.out (by simp [gpPart]) (by decide) HSL.out)
          | (go_at_call 93; refine hPu.mono ?_; rintro e w6 ⟨rfl, τ3, hW6, hP6, hK6⟩))
        have hP6' : PSt (ps ++ grK F gs k ++ [gpPart F (nm s) (byN (uOf 1) 4 ++ gfL (l.take 0))]) τ3 := by
          rw [show gfL (l.take 0) = [] from by simp [gfL], List.append_nil]
          exact hP6
        have hu2 : w6.cell? ⟨gb, 1, none⟩ = some (.slice a' m cp) := hW6.turn.cell (k5.cell hu1) hngb2
        have hWs := (hWt.kept k5).trans hW6
        have hKs := hKt.trans hK6
        clear hPu hb5 hn5 hu1 hP4' hP6
        go_wp2
        go_loopw [33] (fun i w2 => ∃ (j : Nat) (ρ : FSt), j ≤ m ∧ i = .int .i64 j ∧ Went B fb σ wa ρ w2 ∧ PSt (ps ++ grK F gs k ++ [gpPart F (nm s) (byN (uOf 1) 4 ++ gfL (l.take j))]) ρ ∧ Keep σ ρ) (fun i _ => m - (intOf i).toNat)
        case atStart => exact ⟨0, τ3, Nat.zero_le _, rfl, hWs, hP6', hKs⟩
        case round =>
          obtain ⟨j, ρ, hj, rfl, hWj, hPj, hKj⟩ := hrel
          clear hu2 hP6'
          by_cases hjt : j < m
          · have hKWj : Kept W wr := Below.trans (hWw.trans kA) ((hWj.below hFa).mono hWB)
            obtain ⟨ab, ao, rfl, c0⟩ := (hI.kept hKWj).at (show j < l.length by omega)
            obtain ⟨x, hx⟩ : ∃ x, l.getD j 0 = x := ⟨_, rfl⟩
            obtain ⟨hx0, hx1⟩ := hgr1 j (by omega)
            rw [hx] at hx0 hx1 c0
            have HX : Hid (gfL (l.take (j + 1)) = gfL (l.take j) ++ byN (uOf x) 4) := by unfold Hid; rw [gfL_take (by omega), hx]
            have hz : Hid ((gpPart F (nm s) (byN (uOf 1) 4 ++ gfL (l.take j))).z.length ≤ 1000) := by
              show (byN (uOf 1) 4 ++ gfL (l.take j)).length ≤ 1000
              rw [List.length_append, byN_length, gfL_length, List.length_take]
              omega
            have hLj : Hid (layN 64 (ps ++ grK F gs k ++ [gpPart F (nm s) (byN (uOf 1) 4 ++ gfL (l.take j))]) ≤ 1000000) := layN_some HB1.out (by simp [gpPart]) (by simp [gpPart]) hz.out
            clear hx
            go_wp2_with (first
              | (go_at_call 94; refine (putNum_walk x _ hx0 hx1).mono ?_; rintro e w8 ⟨A8, C8, rfl, hb8, hn8, k8⟩; have hPu8 := pput_walk B fb ρ (ps ++ grK F gs k) (gpPart F (nm s) (byN (uOf 1) 4 ++ gfL (l.take j))) A8 4 C8 (byN (uOf x) 4) w8 (hWj.ok.kept k8) hPj (byN_length _ _) hb8 hn8 (by simp [gpPart]) (by simp [gpPart]) (by simp [gpPart]) hLj.out (Nat.le_trans hz.out (by decide)) (by decide) HSL.out)
              | (go_at_call 93; refine hPu8.mono ?_; rintro e w9 ⟨rfl, ρ2, hW9, hP9, hK9⟩))
            go_roundw
            case rel => exact ⟨j + 1, ρ2, by omega, by go_num, (hWj.kept k8).trans hW9, by rw [HX.out, ← List.append_assoc]; exact hP9, hKj.trans hK9⟩
            case measure => simp [intOf]; omega
          · obtain rfl : j = m := by omega
            go_wp2
            go_roundw
            case rel =>
              refine ⟨k + 1, ρ, by omega, by go_num, hWj, ?_, hKj⟩
              rw [grK_succ (by omega), HV.out, ← List.append_assoc, grpP_part]
              rw [List.take_of_length_le (by omega)] at hPj
              exact hPj
            case measure => simp [intOf]; omega
    · obtain rfl : k = n := by omega
      clear hbnd hG
      go_wp2
      go_end0
      exact ⟨rfl, τ, hW.from kA, hP2, hK⟩
end Go.Proofs.YtljmgbpecoifnaaGreatDoor
