/- What the document's own Read gives. -/
import Derived.Test.YtbfmichhpcaamaaDoorXc
import Derived.Test.YtbfmichhpcaamaaDoorGe
import Derived.Deep.RegionHeld3
import Derived.Deep.RegionWith
import Derived.Deep.DeepCutAuto
namespace Go.Proofs.YtbfmichhpcaamaaDoor
open Go.RowKit

theorem numX_at (b off cap : Nat) (l : List Int) (lo s : Nat) (n : Int) (w : World) (hl : l.length = 24) (hr : ∀ x ∈ l, 0 ≤ x ∧ x < 256) (hc : ∀ i, i < l.length → w.cell? ⟨b, off + i, none⟩ = some (.int .u8 (l.getD i 0))) (hs : s ≤ 8) (ho : lo + s ≤ 24) (hn : sOf (nuN ((l.drop lo).take s)) = n) :
    Calls Tryd.prog 30 #[.slice (some ⟨b, off + lo, none⟩) s cap] w fun e w' => e = .returned (.int .i64 n) ∧ w' = w := by
  have hlen : ((l.drop lo).take s).length = s := by rw [List.length_take, List.length_drop]; omega
  have := number_walk b (off + lo) cap ((l.drop lo).take s) w (fun x hx => hr x (List.mem_of_mem_drop (List.mem_of_mem_take hx))) (by omega) (by rw [hlen]; exact Byt.part hc (by omega))
  rwa [hlen, hn] at this
theorem wrapX {n : Int} (h0 : -9223372036854775808 ≤ n) (h1 : n ≤ 9223372036854775807) : IntKind.i64.wrap n = n := by
  have e : IntKind.i64.wrap n = if 9223372036854775808 ≤ n % 18446744073709551616 then n % 18446744073709551616 - 18446744073709551616 else n % 18446744073709551616 := by
    simp [IntKind.wrap, IntKind.bits, IntKind.signed]
  rw [e]
  split <;> omega
theorem keptX_drew (w : World) : Kept w w.drew := Kept.drewN w 1

set_option maxRecDepth 20000 in
set_option maxHeartbeats 6400000 in
theorem rreadX_yes (b off cap : Nat) (l : List Int) (o t s d : Int) (w : World) (hl : l.length = 24) (hcap : 24 ≤ cap) (hr : ∀ x ∈ l, 0 ≤ x ∧ x < 256) (hc : ∀ i, i < l.length → w.cell? ⟨b, off + i, none⟩ = some (.int .u8 (l.getD i 0))) (hv : relV l = [o, t, s, d]) (of_ ty sy ad E : Int) (hV : Hid (rdX l = (of_, ty, sy, ad, E))) :
    Calls Tryd.prog 17 #[.slice (some ⟨b, off, none⟩) 24 cap] w fun e w' => e = .returned (.tuple #[relW 0 of_ ty sy ad, .int .i64 E]) ∧ Kept w w' := by
  obtain ⟨wa, hwa, R1, kA, sA⟩ := box_rela w 0 0 0 0 0
  obtain ⟨q1, q2, q0, q3, _⟩ := back_rel hl hr hv
  have hN : ∀ w', Kept w w' → ∀ k, k < 4 → ∀ cap, Calls Tryd.prog 30 #[.slice (some ⟨b, off + offX k, none⟩) (relS.getD k 0) cap] w' fun e w'' => e = .returned (.int .i64 ((relV l).getD k 0)) ∧ w'' = w' := fun w' kw k hk cap =>
    numX_at b off cap l (offX k) (relS.getD k 0) _ w' hl hr (fun i hi => kw.cell (hc i hi)) (by rcases relS_at k hk with e | e <;> rw [e] <;> decide) (offX_le hk) (relV_at l hk).symm
  rw [hv] at hN
  have N0 : ∀ w', Kept w w' → Calls Tryd.prog 30 #[.slice (some ⟨b, off, none⟩) 8 cap] w' fun e w'' => e = .returned (.int .i64 o) ∧ w'' = w' := fun w' kw => hN w' kw 0 (by decide) _
  have N1 : ∀ w', Kept w w' → Calls Tryd.prog 30 #[.slice (some ⟨b, off + 8, none⟩) 4 (cap - 8)] w' fun e w'' => e = .returned (.int .i64 t) ∧ w'' = w' := fun w' kw => hN w' kw 1 (by decide) _
  have N2 : ∀ w', Kept w w' → Calls Tryd.prog 30 #[.slice (some ⟨b, off + 12, none⟩) 4 (cap - 12)] w' fun e w'' => e = .returned (.int .i64 s) ∧ w'' = w' := fun w' kw => hN w' kw 2 (by decide) _
  have N3 : ∀ w', Kept w w' → Calls Tryd.prog 30 #[.slice (some ⟨b, off + 16, none⟩) 8 (cap - 16)] w' fun e w'' => e = .returned (.int .i64 d) ∧ w'' = w' := fun w' kw => hN w' kw 3 (by decide) _
  have g8 : (8 : Int) ≤ (cap : Int) := by omega
  have g12 : (12 : Int) ≤ (cap : Int) := by omega
  have g16 : (16 : Int) ≤ (cap : Int) := by omega
  have g24 : (24 : Int) ≤ (cap : Int) := by omega
  have r8 : ¬ cap = 8 := by omega
  have r12 : ¬ cap = 12 := by omega
  have r16 : ¬ cap = 16 := by omega
  obtain ⟨o8, ho8⟩ : ∃ o, off + 8 = o := ⟨_, rfl⟩
  obtain ⟨d8, hd8⟩ : ∃ o, cap - 8 = o := ⟨_, rfl⟩
  rw [ho8, hd8] at N1
  obtain ⟨o12, ho12⟩ : ∃ o, off + 12 = o := ⟨_, rfl⟩
  obtain ⟨d12, hd12⟩ : ∃ o, cap - 12 = o := ⟨_, rfl⟩
  rw [ho12, hd12] at N2
  obtain ⟨o16, ho16⟩ : ∃ o, off + 16 = o := ⟨_, rfl⟩
  obtain ⟨d16, hd16⟩ : ∃ o, cap - 16 = o := ⟨_, rfl⟩
  rw [ho16, hd16] at N3
  have ht0 : 0 ≤ t := q1.1
  obtain ⟨T, hT⟩ : ∃ T, t % 256 = T := ⟨_, rfl⟩
  have hTt : t.tmod 256 = T := by rw [Int.tmod_eq_emod_of_nonneg ht0]; exact hT
  have hT0 : 0 ≤ T := by omega
  have hT1 : T < 256 := by omega
  have hT8 : IntKind.u8.wrap T = T := by
    have e : IntKind.u8.wrap T = T % 256 := rfl
    rw [e]; omega
  obtain ⟨U, hU⟩ : ∃ U, s - 1 = U := ⟨_, rfl⟩
  have hU8 : IntKind.i64.wrap U = U := wrapX (by omega) (by omega)
  have k1 : Kept w wa.drew := kA.trans (keptX_drew _)
  have k2 : ∀ o, Kept w (wa.alloc o).drew := fun o => (kA.trans (Kept.alloc _ o)).trans (keptX_drew _)
  have HB0 : Hid (codX o t U d = false → rdX l = (0, 0, 0, 0, 8)) := by rw [← hU]; exact rdX_bad hl hv
  have HB1 : Hid (codX o t U d = true → rdX l = (o, t, U, d, 0)) := by rw [← hU]; exact rdX_ok hl hv
  have HT : Hid (t ≤ 255 → T = t) := fun h => by omega
  have hs0 : 0 ≤ s := q2.1
  have hs1 : s < 4294967296 := q2.2
  have A0 : True := trivial
  clear hN hc q0 q1 q2 q3 hv
  go_enter Tryd.func17, Tryd.ntmps17
  go_upto_region 4 with (go_at_call 30; refine (N1 _ kA).mono ?_; rintro e w9 ⟨rfl, hw9⟩; have hw8 := hw9.symm; subst hw8; clear hw9)
  go_cut [5] (fun v wx => v = .pointer (some ⟨w.heap.size + 1, 0, none⟩) ∧ wx = (wa.alloc (relO 0 o T U d)).drew)
  case first =>
    go_region_held3 (fun _ : World => True)
      (exact A0)
      ((first
        | (go_at_call_of 30 (Value.slice (some ⟨b, off, none⟩) 8 cap); (first | refine (N0 _ k1).mono ?_ | refine (N0 _ (k2 _)).mono ?_); rintro e w9 ⟨rfl, hw9⟩; have hw8 := hw9.symm; subst hw8; clear hw9)
        | (go_at_call_of 30 (Value.slice (some ⟨b, o12, none⟩) 4 d12); (first | refine (N2 _ k1).mono ?_ | refine (N2 _ (k2 _)).mono ?_); rintro e w9 ⟨rfl, hw9⟩; have hw8 := hw9.symm; subst hw8; clear hw9)
        | (go_at_call_of 30 (Value.slice (some ⟨b, o16, none⟩) 8 d16); (first | refine (N3 _ k1).mono ?_ | refine (N3 _ (k2 _)).mono ?_); rintro e w9 ⟨rfl, hw9⟩; have hw8 := hw9.symm; subst hw8; clear hw9)))
    all_goals
      go_wp2
      go_meet
      exact ⟨rfl, rfl⟩
  case rest =>
    obtain ⟨rfl, hw⟩ := hcut
    have X1 := (XBx.new wa 0 o T U d).kept (keptX_drew _)
    have R2 := (R1.kept (Kept.alloc _ (relO 0 o T U d))).kept (keptX_drew _)
    have KX := (kA.trans (Kept.alloc _ (relO 0 o T U d))).trans (keptX_drew _)
    rw [← hw] at X1 R2 KX
    rw [sA] at X1
    clear hw k1 k2 N0 N1 N2 N3 R1 hwa kA sA ho8 ho12 ho16 hd8 hd12 hd16 hT hTt hT8 hU hU8 g8 g12 g16 g24 r8 r12 r16 hs0 hs1
    have hC := fun w => rcoded_walk 0 o T U d w
    have X1' := X1
    obtain ⟨c0, c1, c2, c3, c4, _, _, _, _, _⟩ := X1'
    by_cases h5 : 255 < t
    · have d5 : decide (255 < t) = true := decide_eq_true h5
      have hV' := hV.out
      rw [HB0.out (codX_doc h5)] at hV'
      simp only [Prod.mk.injEq] at hV'
      obtain ⟨rfl, rfl, rfl, rfl, rfl⟩ := hV'
      have hR := R2.put 0 0 0 0 0
      have hW := below_putX (b := w.heap.size) KX (Nat.le_refl _) 0 0 0 0 0
      clear h5 HB0 HB1 hV HT hC hr
      obtain ⟨z0, z1, z2, z3, z4, y0, y1, y2, y3, y4⟩ := R2
      go_wp2
      exact bodyPost_ret (v := .tuple #[relW 0 0 0 0 0, .int .i64 8]) (by simp [results, Tryd.results17, go_sem, hR.c0, hR.c1, hR.c2, hR.c3, hR.c4]) rfl ⟨rfl, hW⟩
    · have d5 : decide (255 < t) = false := decide_eq_false h5
      have ht := HT.out (by omega)
      subst ht
      cases hc : codX o T U d with
      | false =>
        rw [hc] at hC
        have hV' := hV.out
        rw [HB0.out hc] at hV'
        simp only [Prod.mk.injEq] at hV'
        obtain ⟨rfl, rfl, rfl, rfl, rfl⟩ := hV'
        clear h5 HB0 HB1 hV HT hr hc
        go_upto_region 6 with (go_at_call 28; refine (hC _).mono ?_; rintro e w1 ⟨rfl, k1⟩)
        have R3 := R2.kept k1
        have hR := R3.put 0 0 0 0 0
        have hW := below_putX (b := w.heap.size) (Kept.trans KX k1) (Nat.le_refl _) 0 0 0 0 0
        clear c0 c1 c2 c3 c4
        obtain ⟨z0, z1, z2, z3, z4, y0, y1, y2, y3, y4⟩ := R3
        go_wp2
        exact bodyPost_ret (v := .tuple #[relW 0 0 0 0 0, .int .i64 8]) (by simp [results, Tryd.results17, go_sem, hR.c0, hR.c1, hR.c2, hR.c3, hR.c4]) rfl ⟨rfl, hW⟩
      | true =>
        rw [hc] at hC
        have hV' := hV.out
        rw [HB1.out hc] at hV'
        simp only [Prod.mk.injEq] at hV'
        obtain ⟨rfl, rfl, rfl, rfl, rfl⟩ := hV'
        clear h5 HB0 HB1 hV HT hr hc
        go_upto_region 7 with (go_at_call 28; refine (hC _).mono ?_; rintro e w1 ⟨rfl, k1⟩)
        have R3 := R2.kept k1
        have hR := R3.put 0 o T U d
        have hW := below_putX (b := w.heap.size) (Kept.trans KX k1) (Nat.le_refl _) 0 o T U d
        clear c0 c1 c2 c3 c4
        obtain ⟨z0, z1, z2, z3, z4, y0, y1, y2, y3, y4⟩ := R3
        obtain ⟨c0, c1, c2, c3, c4, _, _, _, _, _⟩ := X1.kept k1
        go_wp2
        exact bodyPost_ret (v := .tuple #[relW 0 o T U d, .int .i64 0]) (by simp [results, Tryd.results17, go_sem, hR.c0, hR.c1, hR.c2, hR.c3, hR.c4]) rfl ⟨rfl, hW⟩

set_option maxHeartbeats 1600000 in
theorem rreadX_walk (a : Option Addr) (m cap : Nat) (l : List Int) (off ty sy ad E : Int) (w : World) (hl : l.length = m) (hcap : m ≤ cap) (hb : Byt w a l) (hr : ∀ x ∈ l, 0 ≤ x ∧ x < 256) (hV : Hid (rdX l = (off, ty, sy, ad, E))) :
    Calls Tryd.prog 17 #[.slice a m cap] w fun e w' => e = .returned (.tuple #[relW 0 off ty sy ad, .int .i64 E]) ∧ Kept w w' := by
  by_cases hm : m = 24
  · subst hm
    rcases hb with rfl | ⟨b, o, rfl, hc⟩
    · simp at hl
    obtain ⟨x, t, s, d, hv⟩ := list4 (relV_length l)
    exact rreadX_yes b o cap l x t s d w hl hcap hr hc hv off ty sy ad E hV
  · obtain ⟨wa, hwa, R1, kA, sA⟩ := box_rela w 0 0 0 0 0
    have h3 := rdX_len (b := l) (by omega)
    have hV' := hV.out
    rw [h3] at hV'
    simp only [Prod.mk.injEq] at hV'
    obtain ⟨rfl, rfl, rfl, rfl, rfl⟩ := hV'
    have q : ((m : Int) != 24) = true := by rw [bne_iff_ne]; omega
    have q' : (m != 24) = true := by rw [bne_iff_ne]; omega
    have hR := R1.put 0 0 0 0 0
    have hW := below_putX (b := w.heap.size) kA (Nat.le_refl _) 0 0 0 0 0
    have R1' := R1
    obtain ⟨z0, z1, z2, z3, z4, y0, y1, y2, y3, y4⟩ := R1'
    clear hm h3 hV hb hr R1
    go_enter Tryd.func17, Tryd.ntmps17
    go_wp2
    exact bodyPost_ret (v := .tuple #[relW 0 0 0 0 0, .int .i64 3]) (by simp [results, Tryd.results17, go_sem, hR.c0, hR.c1, hR.c2, hR.c3, hR.c4]) rfl ⟨rfl, hW⟩
end Go.Proofs.YtbfmichhpcaamaaDoor
