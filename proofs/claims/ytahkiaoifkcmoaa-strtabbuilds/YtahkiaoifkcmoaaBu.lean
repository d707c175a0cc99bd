/- What Build gives. -/
import Derived.Test.YtahkiaoifkcmoaaCk
import Derived.Test.YtahkiaoifkcmoaaBm
namespace Go.Proofs.Ytahkiaoifkcmoaa
open Go.RowKit

theorem lit_own (w : World) : Own (w.alloc (.cells #[.int .u8 0] 5)) w.heap.size (.slice (some ⟨w.heap.size, 0, none⟩) 1 1) [0] :=
  ⟨rfl, .inr ⟨w.heap.size, 1, #[.int .u8 0], rfl, Nat.le_refl _, heap_alloc_new w _, Nat.le_refl _, by unfold maxLen; omega, rfl, rfl⟩⟩

/-- What Build gives of names that may be. -/
def BPost (w : World) (ss : List ByteArray) (e : Ending) (w' : World) : Prop :=
  ∃ v p, e = .returned (.tuple #[v, p, .int .i64 (bldE ss)]) ∧ Own w' w.heap.size v (bldT ss) ∧ OwnI w' w.heap.size p (bldP ss) ∧ Kept w w'

set_option maxHeartbeats 3200000 in
theorem build_go (a : Option Addr) (cap n : Nat) (ss : List ByteArray) (w : World) (hlen : ss.length = n) (hn : n ≤ 1024) (hbad : badB ss = false) (hS : Strs w a ss) :
    Calls Try.prog 10 #[.slice a n cap] w fun e w' => BPost w ss e w' := by
  obtain ⟨i0, hi, hz0, hz1, hz2⟩ := info_parts Try.infoInt
  have hmm := @run_makeMap Try.prog
  have hsm : ∀ s ∈ ss, s.size ≤ 64 := fun s hs => (wrong_false (bad_false hbad s hs)).1
  have hF := containsFunc_walk a cap ss w (by omega) (fun s hs => by have := hsm s hs; unfold maxLen; omega) hS
  rw [hbad, hlen] at hF
  go_enter Try.func10, Try.ntmps10
  go_wp2_with (first
    | (go_at_call 19; refine hF.mono ?_; rintro e w' ⟨rfl, hw'⟩; have hw2 := hw'.symm; subst hw2; clear hw')
    | (at_make; refine wpList_make_full _ rfl _ _ 26 rfl w.heap.size 3 i0 (.int .i64 0) 1 Try.underlying26 hi hz0 hz1 _ _ _ _ n rfl rfl rfl rfl (by rw [hz2]; omega) (by unfold maxLen; omega) (by simp) ?_))
  intro w1 hpl hgrow1
  have hz : (w.alloc (.cells #[.int .u8 0] 5)).heap.size = w.heap.size + 1 := by simp
  have T1 : Own w1 w.heap.size (.slice (some ⟨w.heap.size, 0, none⟩) 1 1) [0] := World.ownsRow.kept (lit_own w) hgrow1 (.inr (by simp [Value.ownBlock]))
  have K1 : Kept w w1 := (Kept.alloc w _).grown hgrow1 (by simp) (fun k e => by cases e)
  have hw1 : w.heap.size + 1 ≤ w1.heap.size := by have := hgrow1.size; omega
  have P1 : w1.ownsRow w.heap.size 3 1 (.slice (some ⟨w.heap.size + 1, 0, none⟩) n n) n ((plAt ss 0 n).map (Value.int .i64)) := by
    rw [plAt_zero, List.map_replicate, ← toList_madeCells_one]
    simpa using hpl
  have hlt1 : w.heap.size + 1 < w1.heap.size := (P1.lt _ rfl).2
  clear hpl hgrow1 hF
  go_wp2_with (refine wpList_insert_own rfl _ _ _ rfl w1.heap.size 0 (.map []) rfl (World.ownsMap_made _ _ _ _) (by unfold maxLen; omega) _ _ _ rfl rfl (keyOf_str ⟨#[]⟩ (Nat.zero_le _)) _ [] (plainElem_int Try.underlying3 (by decide)) ?_)
  intro w2 hmp hgrow2
  have hmm1 := hmp.mono (show 0 + 1 ≤ 0 + 1 from Nat.le_refl _)
  have hB : BSt w w2 ss (w.heap.size + 1) w1.heap.size w.heap.size 1 n 0 (DataW.put (.map []) (.string []) (.lit (.int .i64 0))) := by
    refine ⟨?_, ?_, hmp, MapOk.start, by omega, by omega, by omega, by omega, by omega, ?_⟩
    · exact World.ownsRow.kept (World.ownsRow.alloc T1 _) hgrow2 (.inr (by simp [Value.ownBlock]; omega))
    · exact (P1.alloc _).kept hgrow2 (.inr (by simp [Value.ownBlock]; omega))
    · exact (Below.alloc K1 K1.size _).grown hgrow2 (by simp; omega) (fun j e => by cases e; omega)
  clear hmp hgrow2 T1 P1 K1 hmm hmm1 hi hz0 hz1 hz2 i0 hz
  have hbd := fk_bound hbad (by omega)
  go_wp2
  go_loopw [2, 23] (fun t i wr => ∃ (k g C : Nat) (D : DataW Unit), k ≤ n ∧ i = .int .i64 k ∧ t = .slice (some ⟨g, 0, none⟩) (tbl (fk ss k)).length C ∧ BSt w wr ss (w.heap.size + 1) w1.heap.size g C n k D) (fun _ i _ => n - (intOf i).toNat)
  case atStart => exact ⟨0, w.heap.size, 1, _, Nat.zero_le _, rfl, rfl, hB⟩
  case round =>
    clear hB
    obtain ⟨k, g, C, D, hk, rfl, rfl, hB⟩ := hrel
    by_cases hlt : k < n
    · obtain ⟨b, off, rfl, hc⟩ := hS.at (show k < ss.length by omega)
      have hcell := hB.kept.cell (hc k (by omega))
      obtain ⟨s, hs⟩ : ∃ s, ss.getD k ByteArray.empty = s := ⟨_, rfl⟩
      have hmem : s ∈ ss := by rw [← hs]; exact getD_mem (by omega)
      have hs64 := hsm s hmem
      rw [hs] at hcell
      have hkey := keyOf_str s (by unfold maxLen; omega)
      have hLb := hbd k
      obtain ⟨L, hL⟩ : ∃ L, (tbl (fk ss k)).length = L := ⟨_, rfl⟩
      have T0 := hB.tab
      rw [hL] at hLb T0 ⊢
      have hg0 := hB.g_ge
      have HH := hB.ok.2 s
      clear hc hS hmem hsm hbd
      by_cases ho : nm s = [] ∨ nm s ∈ fk ss k
      · have hhas : Maps.has D (keyL s) = true := by rw [HH.1]; simpa using ho
        have hat0 := HH.2 ho
        have hpc : wr.cell? ⟨w.heap.size + 1, k, none⟩ = some (.int .i64 ((plAt ss k n).getD k 0)) := by
          rw [hB.pl.cellAt k (by omega)]
          simp [List.getD, plAt_length hlen hk, hlt]
        have hpf := hB.pl.frozenAt k
        have hO := hB.old hlen hlt (by rw [hs]; exact ho)
        have e : fk ss (k + 1) = fk ss k := by rw [fk_succ (by omega), hs, fsStep_old ho]
        have HE : Hid ((tbl (fk ss (k + 1))).length = L) := by rw [e]; exact hL
        have HO : Hid (BSt w (wr.setCell ⟨w.heap.size + 1, k, none⟩ (.int .i64 ((plc (fk ss k) (nm s) : Nat) : Int))) ss (w.heap.size + 1) w1.heap.size g C n (k + 1) D) := by rw [hs] at hO; exact hO
        clear hO e HH ho T0 hs
        go_wp2_with (at_lookup; refine wpList_lookup_own_ok_int _ rfl _ _ 45 rfl 9 3 .i64 keyLaw Try.underlying45 Try.underlying3 (zeroInt _) w1.heap.size (k + 1) D rfl hB.mp _ _ rfl hkey ?_; intro c hat hwc)
        go_roundw
        case rel =>
          have hc : c = ((plc (fk ss k) (nm s) : Nat) : Int) := by
            rw [hat0] at hat
            simp at hat
            exact hat.symm
          rw [hc]
          exact ⟨k + 1, g, C, D, by omega, by go_num, by rw [HE.out], HO.out⟩
        case measure => simp [intOf]; omega
      · have hhas : Maps.has D (keyL s) = false := by rw [HH.1]; simpa using ho
        have h0 : nm s ≠ [] := fun h => ho (.inl h)
        have h1 : nm s ∉ fk ss k := fun h => ho (.inr h)
        clear HH ho
        go_wp2_with (first
          | (at_lookup; refine wpList_lookup_own_ok_int _ rfl _ _ 45 rfl 9 3 .i64 keyLaw Try.underlying45 Try.underlying3 (zeroInt _) w1.heap.size (k + 1) D rfl hB.mp _ _ rfl hkey ?_; intro c hat hwc)
          | (at_mapUpdate; refine wpList_mapUpdate_own _ rfl _ _ _ 45 rfl 9 3 keyLaw Try.underlying45 _ w1.heap.size (k + 1) D rfl hB.mp (by unfold maxLen; omega) _ _ _ rfl rfl hkey _ [] (plainElem_int Try.underlying3 (WalkArith.wf_i64 (n := (L : Int)) (by omega))) ?_))
        intro w3 hmp k1
        have T3 : Own w3 w.heap.size (.slice (some ⟨g, 0, none⟩) L C) (tbl (fk ss k)) := World.ownsRow.kept T0 k1 (.inr (by simp [Value.ownBlock]; exact hB.ne2))
        have z3 : w.heap.size ≤ w3.heap.size := Nat.le_trans hB.kept.size k1.size
        clear T0 hcell hat hwc hhas
        go_wp2_with (at_builtin; refine wpList_append_str rfl _ _ rfl w.heap.size g L C (tbl (fk ss k)) s hL rfl rfl T3 (by omega) z3 ?_)
        intro g2 C2 w4 T4 k2 e2
        have z4 : w.heap.size ≤ w4.heap.size := Nat.le_trans z3 k2.size
        have hg2 : w.heap.size ≤ g2 := (T4.lt g2 rfl).1
        clear T3
        go_wp2_with (at_builtin; refine wpList_append_one rfl _ _ rfl w.heap.size g2 (L + s.size) C2 (tbl (fk ss k) ++ nm s) 0 ⟨w4.heap.size, 0, none⟩ 1 (by rw [List.length_append, hL, nm_length]) rfl rfl (World.ownsRow.alloc T4 _) (by simp) (by omega) (by simp; omega) ?_)
        intro g4 C4 w5 T5 k4 e4
        have el : (tbl (fk ss (k + 1))).length = L + s.size + 1 := by
          rw [fk_succ (by omega), hs, fsStep_new h0 h1, tbl_length_snoc, hL, nm_length]
        obtain ⟨hN, hpc, hpf⟩ := hB.new hlen hlt s hs h0 h1 (by rw [hL]; exact hmp) k1 k2 e2 (by rw [hL, List.append_assoc]; exact T5) k4 (by simpa using e4) hg2
        rw [hL] at hN
        have HN : Hid (BSt w (w5.setCell ⟨w.heap.size + 1, k, none⟩ (.int .i64 (L : Nat))) ss (w.heap.size + 1) w1.heap.size g4 C4 n (k + 1) (D.put (keyL s) (.lit (.int .i64 (L : Nat))))) := hN
        have HE : Hid ((tbl (fk ss (k + 1))).length = L + s.size + 1) := el
        clear hN el T5 k4 e4 T4 k2 e2 k1 hmp hB hs hL h0 h1
        go_wp2
        go_roundw
        case rel => exact ⟨k + 1, g4, C4, _, by omega, by go_num, by rw [HE.out], HN.out⟩
        case measure => simp [intOf]; omega
    · obtain rfl : k = n := by omega
      have hTl : tbl (fk ss k) = tbl (fsts (nms ss)) := by rw [← hlen, fk_all]
      have hP : OwnI wr w.heap.size (.slice (some ⟨w.heap.size + 1, 0, none⟩) k k) (plcI ss) := by
        have := hB.pl
        rw [plAt_all hlen] at this
        unfold OwnI
        rw [plcI_length, hlen]
        exact this
      have hT := hB.tab
      have hK := hB.kept
      rw [hTl] at hT ⊢
      obtain ⟨L, hL⟩ : ∃ L, (tbl (fsts (nms ss))).length = L := ⟨_, rfl⟩
      rw [hL] at hT ⊢
      clear hB hTl hS hsm hbd
      by_cases hf : 65536 < L
      · have hr := bld_full (ss := ss) (by omega) hbad (by omega)
        have HR : Hid (bldE ss = 9 ∧ bldT ss = [] ∧ bldP ss = []) := hr
        clear hr hT hP hL
        go_wp2
        go_ret3
        unfold BPost
        rw [HR.out.1, HR.out.2.1, HR.out.2.2]
        exact ⟨_, _, rfl, Own.nil _ _, OwnI.nil _ _, hK⟩
      · have hr := bld_ok (ss := ss) (by omega) hbad (by omega)
        have HR : Hid (bldE ss = 0 ∧ bldT ss = tbl (fsts (nms ss)) ∧ bldP ss = plcI ss) := hr
        have hf' : L ≤ 65536 := by omega
        clear hr hf hL
        go_wp2
        go_ret3
        unfold BPost
        rw [HR.out.1, HR.out.2.1, HR.out.2.2]
        exact ⟨_, _, rfl, hT, hP, hK⟩

/-- What Build gives. -/
theorem build_walk (a : Option Addr) (cap n : Nat) (ss : List ByteArray) (w : World) (hlen : ss.length = n) (hsz : ∀ s ∈ ss, s.size ≤ maxLen) (hS : Strs w a ss) :
    Calls Try.prog 10 #[.slice a n cap] w fun e w' => BPost w ss e w' := by
  by_cases hm : 1024 < n
  · have hr := bld_many (ss := ss) (by omega)
    have HR : Hid (bldE ss = 4 ∧ bldT ss = [] ∧ bldP ss = []) := hr
    clear hr
    go_enter Try.func10, Try.ntmps10
    go_wp2
    go_ret3
    unfold BPost
    rw [HR.out.1, HR.out.2.1, HR.out.2.2]
    exact ⟨_, _, rfl, Own.nil _ _, OwnI.nil _ _, Kept.refl _⟩
  · cases hb : badB ss
    · exact build_go a cap n ss w hlen (by omega) hb hS
    · have hr := bld_text (ss := ss) (by omega) hb
      have HR : Hid (bldE ss = 3 ∧ bldT ss = [] ∧ bldP ss = []) := hr
      have hF := containsFunc_walk a cap ss w (by omega) hsz hS
      rw [hb, hlen] at hF
      have hn : n ≤ 1024 := by omega
      clear hr hm hS
      go_enter Try.func10, Try.ntmps10
      go_wp2_with (go_at_call 19; refine hF.mono ?_; rintro e w' ⟨rfl, hw'⟩; have hw2 := hw'.symm; subst hw2; clear hw')
      go_ret3
      unfold BPost
      rw [HR.out.1, HR.out.2.1, HR.out.2.2]
      exact ⟨_, _, rfl, Own.nil _ _, OwnI.nil _ _, Kept.refl _⟩
end Go.Proofs.Ytahkiaoifkcmoaa
