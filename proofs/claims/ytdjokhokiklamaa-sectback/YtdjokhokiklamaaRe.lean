/- What Read gives. -/
import Derived.Test.YtdjokhokiklamaaWr
import Derived.Test.YtdjokhokiklamaaGe
namespace Go.Proofs.Ytdjokhokiklamaa
open Go.RowKit

/-- The ten cells of a head, put one after another. -/
abbrev put10 (w : World) (b : Nat) (v0 v1 v2 v3 v4 v5 v6 v7 v8 v9 : Int) : World :=
  (((((((((w.setCell ⟨b, 0, none⟩ (.int .i64 v0)).setCell ⟨b, 1, none⟩ (.int .i64 v1)).setCell ⟨b, 2, none⟩ (.int .i64 v2)).setCell ⟨b, 3, none⟩ (.int .i64 v3)).setCell ⟨b, 4, none⟩ (.int .i64 v4)).setCell ⟨b, 5, none⟩ (.int .i64 v5)).setCell ⟨b, 6, none⟩ (.int .i64 v6)).setCell ⟨b, 7, none⟩ (.int .i64 v7)).setCell ⟨b, 8, none⟩ (.int .i64 v8)).setCell ⟨b, 9, none⟩ (.int .i64 v9)
theorem HBx.set {w : World} {b : Nat} {f : Nat → Int} (h : ∀ j, j < 10 → w.cell? ⟨b, j, none⟩ = some (.int .i64 (f j)) ∧ w.frozen? ⟨b, j, none⟩ = false) (k : Nat) (n : Int) (hk : k < 10) :
    ∀ j, j < 10 → (w.setCell ⟨b, k, none⟩ (.int .i64 n)).cell? ⟨b, j, none⟩ = some (.int .i64 (if j = k then n else f j)) ∧ (w.setCell ⟨b, k, none⟩ (.int .i64 n)).frozen? ⟨b, j, none⟩ = false := fun j hj => by
  refine ⟨?_, set_frozen (h j hj).2⟩
  by_cases e : j = k
  · subst e
    rw [if_pos rfl]
    exact World.cell?_setCell_same _ _ _ (h j hk).1
  · rw [if_neg e]
    exact set_other (h j hj).1 (Ne.symm e)
theorem HBx.far {w : World} {b : Nat} {v : List Int} (h : HBx w b v) (b' i : Nat) (u : Value) (hb : b' ≠ b) : HBx (w.setCell ⟨b', i, none⟩ u) b v := fun j hj => ⟨set_far (h j hj).1 hb, set_frozen (h j hj).2⟩
theorem Fld.far {w : World} {f b : Nat} (h : Fld w f b) (b' i : Nat) (u : Value) (hb : b' ≠ f) : Fld (w.setCell ⟨b', i, none⟩ u) f b := fun j hj => ⟨set_far (h j hj).1 hb, set_far (h j hj).2 hb⟩
theorem HBx.put {w : World} {b : Nat} {v : List Int} (h : HBx w b v) (v0 v1 v2 v3 v4 v5 v6 v7 v8 v9 : Int) : HBx (put10 w b v0 v1 v2 v3 v4 v5 v6 v7 v8 v9) b [v0, v1, v2, v3, v4, v5, v6, v7, v8, v9] := fun k hk => by
  have h0 := HBx.set (f := fun j => v.getD j 0) h 0 v0 (by decide)
  have h1 := HBx.set h0 1 v1 (by decide)
  have h2 := HBx.set h1 2 v2 (by decide)
  have h3 := HBx.set h2 3 v3 (by decide)
  have h4 := HBx.set h3 4 v4 (by decide)
  have h5 := HBx.set h4 5 v5 (by decide)
  have h6 := HBx.set h5 6 v6 (by decide)
  have h7 := HBx.set h6 7 v7 (by decide)
  have h8 := HBx.set h7 8 v8 (by decide)
  have h9 := HBx.set h8 9 v9 (by decide)
  obtain ⟨H1, H2⟩ := h9 k hk
  refine ⟨?_, H2⟩
  rw [H1]
  clear h0 h1 h2 h3 h4 h5 h6 h7 h8 h9 H1 H2 h
  match k, hk with
  | 0, _ => simp
  | 1, _ => simp
  | 2, _ => simp
  | 3, _ => simp
  | 4, _ => simp
  | 5, _ => simp
  | 6, _ => simp
  | 7, _ => simp
  | 8, _ => simp
  | 9, _ => simp
theorem below_put10 {B b : Nat} {a w : World} (h : Below B a w) (hp : B ≤ b) (v0 v1 v2 v3 v4 v5 v6 v7 v8 v9 : Int) : Below B a (put10 w b v0 v1 v2 v3 v4 v5 v6 v7 v8 v9) :=
  ((((((((((h.setCell hp _).setCell hp _).setCell hp _).setCell hp _).setCell hp _).setCell hp _).setCell hp _).setCell hp _).setCell hp _).setCell hp _)

/-- While the fields are gone through. -/
structure RSt (w : World) (r b f : Nat) (a : Option Addr) (l : List Int) (k : Nat) (wr : World) : Prop where
  fld : Fld wr f b
  box : ∀ j, j < 10 → wr.cell? ⟨b, j, none⟩ = some (.int .i64 (if j < k then (headV l).getD j 0 else 0)) ∧ wr.frozen? ⟨b, j, none⟩ = false
  res : HBx wr r noV
  kept : Kept w wr
  byt : Byt wr a l
  all : ∀ j, j < k → 0 ≤ (headV l).getD j 0

theorem byt_far {w : World} {a : Option Addr} {l : List Int} {B : Nat} (h : Byt w a l) (hB : Byt w a l → ∀ b off, a = some ⟨b, off, none⟩ → 0 < l.length → b < B) {w' : World} (k : Below B w w') : Byt w' a l := by
  rcases h with h | ⟨b, off, rfl, hc⟩
  · exact .inl h
  · by_cases hl : 0 < l.length
    · refine .inr ⟨b, off, rfl, fun i hi => (k.cell ?_).trans (hc i hi)⟩
      exact hB (.inr ⟨b, off, rfl, hc⟩) b off rfl hl
    · exact .inl (List.eq_nil_of_length_eq_zero (by omega))
theorem byt_lt {w : World} {a : Option Addr} {l : List Int} (h : Byt w a l) : ∀ b off, a = some ⟨b, off, none⟩ → 0 < l.length → b < w.heap.size := by
  intro b off ha hl
  rcases h with rfl | ⟨b', off', ha', hc⟩
  · simp at hl
  · rw [ha] at ha'
    cases ha'
    exact block_lt_of_cell (hc 0 hl)
/-- Bytes that lay there when the call began, wherever the call wrote of its own. -/
theorem byt_old {w wr : World} {a : Option Addr} {l : List Int} (h : Byt w a l) (k : Kept w wr) : Byt wr a l := h.kept k

theorem getV_at {l : List Int} {k : Nat} (hk : k < 10) (hl : l.length = 64) : getV l (offS k : Int) (headS.getD k 0 : Nat) = (headV l).getD k 0 ∧ getE l (offS k : Int) (headS.getD k 0 : Nat) = 0 := by
  have hs : szB ((headS.getD k 0 : Nat) : Int) = true := by rcases headS_at k hk with e | e <;> rw [e] <;> rfl
  have hi : inB l (offS k : Int) ((headS.getD k 0 : Nat) : Int) = true := by
    have := offS_le hk
    exact decide_eq_true (by omega)
  obtain ⟨h1, h2⟩ := get_in hs hi
  refine ⟨?_, h2⟩
  rw [h1, headV_at l hk, Int.toNat_natCast, Int.toNat_natCast]

set_option maxRecDepth 20000 in
set_option maxHeartbeats 3200000 in
theorem read_walk (a : Option Addr) (m cap : Nat) (l : List Int) (r0 r1 r2 r3 r4 r5 r6 r7 r8 r9 E : Int) (w : World) (hl : l.length = m) (hcap : m ≤ cap) (hb : Byt w a l) (hr : ∀ x ∈ l, 0 ≤ x ∧ x < 256) (hE : Hid (rdE l = E)) (hV : Hid (rdV l = [r0, r1, r2, r3, r4, r5, r6, r7, r8, r9])) :
    Calls Try.prog 11 #[.slice a m cap] w fun e w' => e = .returned (.tuple #[headW' r0 r1 r2 r3 r4 r5 r6 r7 r8 r9, .int .i64 E]) ∧ Kept w w' := by
  have H1 := HBx.new w 0 0 0 0 0 0 0 0 0 0
  obtain ⟨wa, hwa⟩ : ∃ wa, w.alloc (headO 0 0 0 0 0 0 0 0 0 0) = wa := ⟨_, rfl⟩
  rw [hwa] at H1
  have kA : Kept w wa := by rw [← hwa]; exact Kept.alloc _ _
  have sA : wa.heap.size = w.heap.size + 1 := by rw [← hwa]; simp
  by_cases hm : m = 64
  · subst hm
    have H2 := HBx.new wa 0 0 0 0 0 0 0 0 0 0
    obtain ⟨wb, hwb⟩ : ∃ wb, wa.alloc (headO 0 0 0 0 0 0 0 0 0 0) = wb := ⟨_, rfl⟩
    rw [hwb, sA] at H2
    have kB : Kept wa wb := by rw [← hwb]; exact Kept.alloc _ _
    have sB : wb.heap.size = w.heap.size + 2 := by rw [← hwb]; simp [sA]
    have hF := fields_walk (w.heap.size + 1) wb
    rw [sB] at hF
    have HL : Hid (l.length = 64) := hl
    have hG : ∀ w', Byt w' a l → ∀ k, k < 10 → Calls Try.prog 28 #[.slice a 64 cap, .int .i64 (offS k : Nat), .int .i64 (headS.getD k 0 : Nat)] w' fun e w'' => e = .returned (.tuple #[.int .i64 ((headV l).getD k 0), .int .i64 0]) ∧ w'' = w' := fun w' hb k hk => by
      have := get_walk a cap l (offS k : Nat) (headS.getD k 0 : Nat) w' hr (by omega) (by omega) hb
      rwa [(getV_at hk hl).1, (getV_at hk hl).2, hl] at this
    clear hl
    go_enter Try.func11, Try.ntmps11
    go_wp2_with (go_at_call 27; refine hF.mono ?_; rintro e wc ⟨rfl, hfl, kC⟩)
    have S0 : RSt w w.heap.size (w.heap.size + 1) (w.heap.size + 2) a l 0 wc :=
      ⟨hfl, fun j hj => by
        obtain ⟨h1, h2⟩ := (H2.kept kC) j hj
        refine ⟨?_, h2⟩
        rw [h1, if_neg (Nat.not_lt_zero _)]
        match j, hj with
        | 0, _ => rfl
        | 1, _ => rfl
        | 2, _ => rfl
        | 3, _ => rfl
        | 4, _ => rfl
        | 5, _ => rfl
        | 6, _ => rfl
        | 7, _ => rfl
        | 8, _ => rfl
        | 9, _ => rfl, (H1.kept kB).kept kC, (kA.trans kB).trans kC, ((hb.kept kA).kept kB).kept kC, fun j hj => absurd hj (Nat.not_lt_zero _)⟩
    clear H1 hwa kA sA hwb kB sB hF kC hfl H2
    go_loopw [5, 16] (fun x i wr => ∃ k : Nat, k ≤ 10 ∧ i = .int .i64 k ∧ x = .int .i64 (offS k : Nat) ∧ RSt w w.heap.size (w.heap.size + 1) (w.heap.size + 2) a l k wr) (fun _ i _ => 10 - (intOf i).toNat)
    case atStart => exact ⟨0, Nat.zero_le _, rfl, rfl, S0⟩
    case round =>
      obtain ⟨k, hk, rfl, rfl, S⟩ := hrel
      clear S0
      have hltR := S.res.lt
      by_cases hlt : k < 10
      · obtain ⟨p0, p1⟩ := S.fld k hlt
        obtain ⟨c0, cf⟩ := S.box k hlt
        rw [if_neg (Nat.lt_irrefl _)] at c0
        have hltB := block_lt_of_cell c0
        have hltF := block_lt_of_cell p0
        have hs := headS_at k hlt
        have hG1 := fun w' hb => hG w' hb k hlt
        have hle := offS_le hlt
        have HO : Hid (offS (k + 1) = offS k + headS.getD k 0) := offS_succ hlt
        obtain ⟨n, hn⟩ : ∃ n, (headV l).getD k 0 = n := ⟨_, rfl⟩
        obtain ⟨s, hse⟩ : ∃ s, headS.getD k 0 = s := ⟨_, rfl⟩
        obtain ⟨o, ho⟩ : ∃ o, offS k = o := ⟨_, rfl⟩
        rw [hn, hse, ho] at hG1
        rw [hse] at p1 hs hle HO
        rw [ho] at hle HO ⊢
        have HN : Hid ((headV l).getD k 0 = n) := hn
        have B1 : Byt (wr.alloc (.cells #[.pointer (some ⟨w.heap.size + 1, k, none⟩), .int .i64 (s : Int)] 60)) a l := S.byt.kept (Kept.alloc _ _)
        have hG2 := hG1 _ B1
        clear hn hse ho hG hG1 B1
        by_cases hneg : n < 0
        · have hE8 := rd_bad HL.out (headB_no hlt (by rw [HN.out]; exact okF_neg hneg))
          obtain ⟨rfl, rfl, rfl, rfl, rfl, rfl, rfl, rfl, rfl, rfl⟩ : r0 = 0 ∧ r1 = 0 ∧ r2 = 0 ∧ r3 = 0 ∧ r4 = 0 ∧ r5 = 0 ∧ r6 = 0 ∧ r7 = 0 ∧ r8 = 0 ∧ r9 = 0 := by
            have := hV.out
            rw [hE8.2] at this
            simpa [noV, eq_comm] using this
          obtain rfl : E = 8 := by rw [← hE.out, hE8.1]
          have d : decide (n < 0) = true := decide_eq_true hneg
          have hR := S.res.put 0 0 0 0 0 0 0 0 0 0
          have hW := below_put10 (b := w.heap.size) S.kept (Nat.le_refl _) 0 0 0 0 0 0 0 0 0 0
          obtain ⟨z0, y0⟩ := S.res 0 (by decide)
          obtain ⟨z1, y1⟩ := S.res 1 (by decide)
          obtain ⟨z2, y2⟩ := S.res 2 (by decide)
          obtain ⟨z3, y3⟩ := S.res 3 (by decide)
          obtain ⟨z4, y4⟩ := S.res 4 (by decide)
          obtain ⟨z5, y5⟩ := S.res 5 (by decide)
          obtain ⟨z6, y6⟩ := S.res 6 (by decide)
          obtain ⟨z7, y7⟩ := S.res 7 (by decide)
          obtain ⟨z8, y8⟩ := S.res 8 (by decide)
          obtain ⟨z9, y9⟩ := S.res 9 (by decide)
          simp only [noV, List.getD_cons_zero, List.getD_cons_succ] at z0 z1 z2 z3 z4 z5 z6 z7 z8 z9
          clear hE8 hV hE hr hb
          go_wp2_with (go_at_call 28; refine hG2.mono ?_; rintro e w2 ⟨rfl, hw2⟩; have hw3 := hw2.symm; subst hw3; clear hw2)
          have hR2 := hR.kept (Kept.alloc _ (.cells #[.pointer (some ⟨w.heap.size + 1, k, none⟩), .int .i64 (s : Int)] 60))
          exact bodyPost_ret (v := .tuple #[headW' 0 0 0 0 0 0 0 0 0 0, .int .i64 8]) (by simp [results, Try.results11, go_sem, (hR2 0 (by decide)).1, (hR2 1 (by decide)).1, (hR2 2 (by decide)).1, (hR2 3 (by decide)).1, (hR2 4 (by decide)).1, (hR2 5 (by decide)).1, (hR2 6 (by decide)).1, (hR2 7 (by decide)).1, (hR2 8 (by decide)).1, (hR2 9 (by decide)).1]) rfl ⟨rfl, Kept.trans hW (Kept.alloc _ _)⟩
        · have d : decide (n < 0) = false := decide_eq_false hneg
          have S' : RSt w w.heap.size (w.heap.size + 1) (w.heap.size + 2) a l (k + 1) ((wr.setCell ⟨w.heap.size + 1, k, none⟩ (.int .i64 n)).alloc (.cells #[.pointer (some ⟨w.heap.size + 1, k, none⟩), .int .i64 (s : Int)] 60)) := by
            have hK := S.kept.setCell (p := ⟨w.heap.size + 1, k, none⟩) (Nat.le_succ _) (.int .i64 n)
            refine ⟨(S.fld.far _ _ _ (by omega)).kept (Kept.alloc _ _), ?_, (S.res.far _ _ _ (by omega)).kept (Kept.alloc _ _), Kept.trans hK (Kept.alloc _ _), (hb.kept hK).kept (Kept.alloc _ _), ?_⟩
            · intro j hj
              obtain ⟨h1, h2⟩ := HBx.set S.box k n hlt j hj
              refine ⟨?_, ?_⟩
              · refine (Kept.alloc _ _).cell (h1.trans ?_)
                by_cases e : j = k
                · subst e; rw [if_pos rfl, if_pos (Nat.lt_succ_self _), HN.out]
                · rw [if_neg e]
                  by_cases e2 : j < k
                  · rw [if_pos e2, if_pos (by omega)]
                  · rw [if_neg e2, if_neg (by omega)]
              · exact ((Kept.alloc _ _).frozen (block_lt_of_cell h1)).trans h2
            · intro j hj
              by_cases e : j = k
              · subst e; rw [HN.out]; omega
              · exact S.all j (by omega)
          clear hr hb hV hE S
          go_wp2_with (go_at_call 28; refine hG2.mono ?_; rintro e w2 ⟨rfl, hw2⟩; have hw3 := hw2.symm; subst hw3; clear hw2)
          go_roundw
          case rel => exact ⟨k + 1, by omega, by go_num, by rw [HO.out]; go_num, S'⟩
          case measure => simp [intOf]; omega
      · obtain rfl : k = 10 := by omega
        have hok := rd_ok HL.out (headB_mk (headV_length l) fun j hj => okF_get hr HL.out hj (S.all j hj))
        have hv : headV l = [r0, r1, r2, r3, r4, r5, r6, r7, r8, r9] := by rw [← hok.2]; exact hV.out
        obtain rfl : E = 0 := by rw [← hE.out, hok.1]
        have hbx := S.box
        rw [hv] at hbx
        have x0 := (hbx 0 (by decide)).1
        have x1 := (hbx 1 (by decide)).1
        have x2 := (hbx 2 (by decide)).1
        have x3 := (hbx 3 (by decide)).1
        have x4 := (hbx 4 (by decide)).1
        have x5 := (hbx 5 (by decide)).1
        have x6 := (hbx 6 (by decide)).1
        have x7 := (hbx 7 (by decide)).1
        have x8 := (hbx 8 (by decide)).1
        have x9 := (hbx 9 (by decide)).1
        rw [if_pos (by decide)] at x0 x1 x2 x3 x4 x5 x6 x7 x8 x9
        simp only [List.getD_cons_zero, List.getD_cons_succ] at x0 x1 x2 x3 x4 x5 x6 x7 x8 x9
        have hR := S.res.put r0 r1 r2 r3 r4 r5 r6 r7 r8 r9
        have hW := below_put10 (b := w.heap.size) S.kept (Nat.le_refl _) r0 r1 r2 r3 r4 r5 r6 r7 r8 r9
        obtain ⟨z0, y0⟩ := S.res 0 (by decide)
        obtain ⟨z1, y1⟩ := S.res 1 (by decide)
        obtain ⟨z2, y2⟩ := S.res 2 (by decide)
        obtain ⟨z3, y3⟩ := S.res 3 (by decide)
        obtain ⟨z4, y4⟩ := S.res 4 (by decide)
        obtain ⟨z5, y5⟩ := S.res 5 (by decide)
        obtain ⟨z6, y6⟩ := S.res 6 (by decide)
        obtain ⟨z7, y7⟩ := S.res 7 (by decide)
        obtain ⟨z8, y8⟩ := S.res 8 (by decide)
        obtain ⟨z9, y9⟩ := S.res 9 (by decide)
        simp only [noV, List.getD_cons_zero, List.getD_cons_succ] at z0 z1 z2 z3 z4 z5 z6 z7 z8 z9
        clear hok hv hbx hV hE hr hb hG
        go_wp2
        exact bodyPost_ret (v := .tuple #[headW' r0 r1 r2 r3 r4 r5 r6 r7 r8 r9, .int .i64 0]) (by simp [results, Try.results11, go_sem, (hR 0 (by decide)).1, (hR 1 (by decide)).1, (hR 2 (by decide)).1, (hR 3 (by decide)).1, (hR 4 (by decide)).1, (hR 5 (by decide)).1, (hR 6 (by decide)).1, (hR 7 (by decide)).1, (hR 8 (by decide)).1, (hR 9 (by decide)).1]) rfl ⟨rfl, hW⟩
  · have h3 := rd_len (b := l) (by omega)
    have HQ : Hid ([r0, r1, r2, r3, r4, r5, r6, r7, r8, r9] = noV ∧ E = 3) := ⟨by rw [← hV.out, h3.2], by rw [← hE.out, h3.1]⟩
    obtain ⟨rfl, rfl, rfl, rfl, rfl, rfl, rfl, rfl, rfl, rfl⟩ : r0 = 0 ∧ r1 = 0 ∧ r2 = 0 ∧ r3 = 0 ∧ r4 = 0 ∧ r5 = 0 ∧ r6 = 0 ∧ r7 = 0 ∧ r8 = 0 ∧ r9 = 0 := by
      have := HQ.out.1
      simpa [noV] using this
    obtain rfl : E = 3 := HQ.out.2
    have q : ((m : Int) != 64) = true := by rw [bne_iff_ne]; omega
    have q' : (m != 64) = true := by rw [bne_iff_ne]; omega
    obtain ⟨z0, y0⟩ := H1 0 (by decide)
    obtain ⟨z1, y1⟩ := H1 1 (by decide)
    obtain ⟨z2, y2⟩ := H1 2 (by decide)
    obtain ⟨z3, y3⟩ := H1 3 (by decide)
    obtain ⟨z4, y4⟩ := H1 4 (by decide)
    obtain ⟨z5, y5⟩ := H1 5 (by decide)
    obtain ⟨z6, y6⟩ := H1 6 (by decide)
    obtain ⟨z7, y7⟩ := H1 7 (by decide)
    obtain ⟨z8, y8⟩ := H1 8 (by decide)
    obtain ⟨z9, y9⟩ := H1 9 (by decide)
    simp only [List.getD_cons_zero, List.getD_cons_succ] at z0 z1 z2 z3 z4 z5 z6 z7 z8 z9
    have hR := H1.put 0 0 0 0 0 0 0 0 0 0
    have hW := below_put10 (b := w.heap.size) kA (Nat.le_refl _) 0 0 0 0 0 0 0 0 0 0
    clear hr hb hV hE h3
    go_enter Try.func11, Try.ntmps11
    go_wp2
    exact bodyPost_ret (v := .tuple #[headW' 0 0 0 0 0 0 0 0 0 0, .int .i64 3]) (by simp [results, Try.results11, go_sem, (hR 0 (by decide)).1, (hR 1 (by decide)).1, (hR 2 (by decide)).1, (hR 3 (by decide)).1, (hR 4 (by decide)).1, (hR 5 (by decide)).1, (hR 6 (by decide)).1, (hR 7 (by decide)).1, (hR 8 (by decide)).1, (hR 9 (by decide)).1]) rfl ⟨rfl, hW⟩
end Go.Proofs.Ytdjokhokiklamaa
