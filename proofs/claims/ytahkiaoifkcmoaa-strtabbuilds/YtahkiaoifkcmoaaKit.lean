/- What the document's own Build gives; the chapter's table. -/
import Derived.Test.YtahkiaoifkcmoaaTa
namespace Go.Proofs.Ytahkiaoifkcmoaa
open Go.RowKit

set_option maxRecDepth 20000 in
set_option maxHeartbeats 3200000 in
/-- What the document's own Build gives. -/
theorem rbuild_walk (a : Option Addr) (cap n : Nat) (ss : List ByteArray) (w : World) (hlen : ss.length = n) (hsz : ∀ s ∈ ss, s.size ≤ maxLen) (hS : Strs w a ss) :
    Calls Try.prog 14 #[.slice a n cap] w fun e w' => BPost w ss e w' := by
  by_cases hm : 1024 < n
  · have hr := bld_many (ss := ss) (by omega)
    have HR : Hid (bldE ss = 4 ∧ bldT ss = [] ∧ bldP ss = []) := hr
    clear hr
    go_enter Try.func14, Try.ntmps14
    go_wp2
    go_ret3
    unfold BPost
    rw [HR.out.1, HR.out.2.1, HR.out.2.2]
    exact ⟨_, _, rfl, Own.nil _ _, OwnI.nil _ _, Kept.refl _⟩
  · have hn : n ≤ 1024 := by omega
    clear hm
    go_enter Try.func14, Try.ntmps14
    go_wp2
    go_loop [5] (fun i => ∃ k : Nat, k ≤ n ∧ i = .int .i64 k ∧ Hid (∀ j, j < k → wrongB (ss.getD j ByteArray.empty) = false)) (fun i => n - (intOf i).toNat)
    case atStart => exact ⟨0, Nat.zero_le _, rfl, fun j hj => absurd hj (Nat.not_lt_zero _)⟩
    case round =>
      obtain ⟨k, hk, rfl, A⟩ := hrel
      by_cases hlt : k < n
      · obtain ⟨b, off, rfl, hc⟩ := hS.at (show k < ss.length by omega)
        have hcell := hc k (by omega)
        obtain ⟨s, hs⟩ : ∃ s, ss.getD k ByteArray.empty = s := ⟨_, rfl⟩
        have hmem : s ∈ ss := by rw [← hs]; exact getD_mem (by omega)
        have hw := may_walk s w (hsz s hmem)
        rw [hs] at hcell
        have HS : Hid (ss.getD k ByteArray.empty = s) := hs
        clear hs hc hS hsz
        cases hq : wrongB s with
        | true =>
          rw [hq] at hw
          have hr := bld_text (ss := ss) (by omega) (by unfold badB; rw [List.any_eq_true]; exact ⟨s, hmem, hq⟩)
          have HR : Hid (bldE ss = 3 ∧ bldT ss = [] ∧ bldP ss = []) := hr
          clear hr
          go_wp2_with (go_at_call 21; refine hw.mono ?_; rintro e w' ⟨rfl, hw'⟩; have hw2 := hw'.symm; subst hw2; clear hw')
          go_ret3
          unfold BPost
          rw [HR.out.1, HR.out.2.1, HR.out.2.2]
          exact ⟨_, _, rfl, Own.nil _ _, OwnI.nil _ _, Kept.refl _⟩
        | false =>
          rw [hq] at hw
          go_wp2_with (go_at_call 21; refine hw.mono ?_; rintro e w' ⟨rfl, hw'⟩; have hw2 := hw'.symm; subst hw2; clear hw')
          go_round
          case rel =>
            refine ⟨k + 1, by omega, by go_num, fun j hj => ?_⟩
            by_cases e : j = k
            · subst e; rw [HS.out]; exact hq
            · exact A.out j (by omega)
          case measure => simp [intOf]; omega
      · obtain rfl : k = n := by omega
        have hbad : badB ss = false := by
          unfold badB
          rw [List.any_eq_false]
          intro s hs
          obtain ⟨j, hj, rfl⟩ := List.mem_iff_getElem.1 hs
          have := A.out j (by omega)
          rw [List.getD, List.getElem?_eq_getElem hj] at this
          simpa using this
        have hT := table_walk a cap k ss w hlen hn hbad hS
        obtain ⟨L, hL⟩ : ∃ L, (tbl (fsts (nms ss))).length = L := ⟨_, rfl⟩
        clear A hS hsz
        go_upto_region 9 with (go_at_call 22; refine hT.mono ?_; rintro e w1 ⟨v, p, rfl, hv, hp, hK⟩)
        obtain ⟨gv, cv, rfl, _, _, _, _⟩ := hv.some (tbl_pos _)
        rw [hL] at hv ⊢
        clear hT
        by_cases hf : 65536 < L
        · have hr := bld_full (ss := ss) (by omega) hbad (by omega)
          have HR : Hid (bldE ss = 9 ∧ bldT ss = [] ∧ bldP ss = []) := hr
          clear hr hv hp hL
          go_wp2
          go_ret3
          unfold BPost
          rw [HR.out.1, HR.out.2.1, HR.out.2.2]
          exact ⟨_, _, rfl, Own.nil _ _, OwnI.nil _ _, hK⟩
        · have hr := bld_ok (ss := ss) (by omega) hbad (by omega)
          have HR : Hid (bldE ss = 0 ∧ bldT ss = tbl (fsts (nms ss)) ∧ bldP ss = plcI ss) := hr
          have hf' : L ≤ 65536 := by omega
          clear hr hf hL
          go_wp2
          go_ret3
          unfold BPost
          rw [HR.out.1, HR.out.2.1, HR.out.2.2]
          exact ⟨_, _, rfl, hv, hp, hK⟩

/-! ### The chapter's table -/
def exS : List ByteArray := [⟨#[97, 98]⟩, ⟨#[]⟩, ⟨#[99]⟩, ⟨#[97, 98]⟩]
theorem ex_all : bldE exS = 0 ∧ bldT exS = [0, 97, 98, 0, 99, 0] ∧ bldP exS = [1, 0, 4, 1] := by decide +kernel

theorem OwnI.some {w : World} {base : Nat} {v : Value} {l : List Int} (h : OwnI w base v l) (hp : 0 < l.length) :
    ∃ g cap, v = .slice (some ⟨g, 0, none⟩) l.length cap ∧ l.length ≤ cap ∧ base ≤ g ∧ g < w.heap.size ∧ ∀ i, i < l.length → w.cell? ⟨g, i, none⟩ = some (.int .i64 (l.getD i 0)) := by
  have hlt := h.lt
  have hcell := @World.ownsRow.cells w base 3 1 v l.length (l.map (Value.int .i64)) h
  rcases h.2 with ⟨_, hn⟩ | ⟨g, cap, cur, hv, hb, _, hnc, _⟩
  · omega
  · refine ⟨g, cap, hv, hnc, hb, (hlt g (by rw [hv]; rfl)).2, fun i hi => ?_⟩
    have := hcell (g := g) (by rw [hv]; rfl) i (.int .i64 (l.getD i 0)) (by simp [hi, List.getD])
    have e : (⟨g, 0, none⟩ : Addr).add i = ⟨g, i, none⟩ := by unfold Addr.add; split <;> simp_all
    rwa [e] at this

theorem ex_strs (w : World) : Strs (w.alloc (.cells #[.string ⟨#[97, 98]⟩, .string ⟨#[]⟩, .string ⟨#[99]⟩, .string ⟨#[97, 98]⟩] 9)) (some ⟨w.heap.size, 0, none⟩) exS := by
  refine .inr ⟨w.heap.size, 0, rfl, fun i hi => ?_⟩
  match i, hi with
  | 0, _ => simp [exS]
  | 1, _ => simp [exS]
  | 2, _ => simp [exS]
  | 3, _ => simp [exS]
theorem ex_size : ∀ s ∈ exS, s.size ≤ maxLen := by decide +kernel

set_option maxHeartbeats 1600000 in
theorem alive_walk (w : World) : Calls Try.prog 11 #[] w fun e w' => e = .returned (.bool true) ∧ Kept w w' := by
  have hC := build_walk (some ⟨w.heap.size, 0, none⟩) 4 4 exS _ rfl ex_size (ex_strs w)
  go_enter Try.func11, Try.ntmps11
  go_upto_region 2 with (go_at_call 10; refine hC.mono ?_; rintro e w1 ⟨v, p, rfl, hv, hp, hK⟩)
  rw [ex_all.1]
  rw [ex_all.2.1] at hv
  rw [ex_all.2.2] at hp
  obtain ⟨a, cv, rfl, _, hb⟩ := hv.byt
  obtain ⟨gp, cp, rfl, hcp, _, _, hcells⟩ := hp.some (by decide)
  have hS := str_run w1 a _ cv hb
  have c0 := hcells 0 (by decide)
  have c1 := hcells 1 (by decide)
  have c2 := hcells 2 (by decide)
  have c3 := hcells 3 (by decide)
  obtain ⟨s, hs⟩ : ∃ s, strOfNums [0, 97, 98, 0, 99, 0] = s := ⟨_, rfl⟩
  have hq : (s.toList == [0, 97, 98, 0, 99, 0]) = true := by rw [← hs, Lib.strOfNums_toList]; rfl
  rw [hs] at hS
  simp only [List.length_cons, List.length_nil, List.getD_cons_zero, List.getD_cons_succ] at c0 c1 c2 c3 hS hcp ⊢
  have K2 : Kept w w1 := (Kept.alloc w _).trans hK
  clear hC hv hp hb hcells hs hK
  go_wp2
  go_ret
  exact ⟨rfl, K2⟩
end Go.Proofs.Ytahkiaoifkcmoaa
