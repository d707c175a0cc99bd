/- The law StrtabReads, walked. -/
import Derived.Test.YtahkiaoifkcmoaaKit
namespace Go.Proofs.Ytahkiaoifkcmoaa
open Go.RowKit

theorem empty_is : (⟨#[]⟩ : ByteArray).toList.isEmpty = true := by rw [Lib.toList_data]; rfl
/-- A name without its first byte. -/
theorem str_tail (x : Int) (m : List Int) : (strOfNums (x :: m)).extract 1 (strOfNums (x :: m)).size = strOfNums m := by
  apply ByteArray.ext
  rw [ByteArray.data_extract, strOfNums_size]
  apply Array.ext'
  simp [strOfNums]
  exact List.take_of_length_le (by simp)

set_option maxHeartbeats 1600000 in
theorem reads_no (a : Option Addr) (n cap : Nat) (l : List Int) (p : Int) (w : World) (hl : l.length = n) (hcap : n ≤ cap) (hb : Byt w a l) (h : 70000 < n ∨ inG l p = false) :
    Calls Try.prog 6 #[.slice a n cap, .int .i64 p] w fun e w' => e = .returned (.bool true) ∧ Kept w w' := by
  by_cases hn : 70000 < n
  · clear h
    go_enter Try.func6, Try.ntmps6
    go_wp2_with (go_at_call 11; refine (alive_walk _).mono ?_; rintro e w1 ⟨rfl, hk⟩)
    go_ret
    exact ⟨rfl, hk⟩
  · have hi : inG l p = false := by rcases h with h | h; exact absurd h hn; exact h
    have hn' : n ≤ 70000 := by omega
    have he := empty_is
    clear h hn
    go_enter Try.func6, Try.ntmps6
    go_upto_region 4 with (go_at_call 11; refine (alive_walk _).mono ?_; rintro e w1 ⟨rfl, hk⟩)
    have hG := get_no a n cap l p w1 hl (by omega) hcap (hb.kept hk) hi
    have hC := check_len a n cap l w1 hl (by omega) hcap (hb.kept hk)
    clear hb
    cases hc : chkB l
    · rw [chkE_no hc] at hC
      go_wp2_with (first
        | (go_at_call 9; refine hG.mono ?_; rintro e w2 ⟨rfl, hw2⟩; have hw3 := hw2.symm; subst hw3; clear hw2)
        | (go_at_call 12; refine hC.mono ?_; rintro e w2 ⟨rfl, hw2⟩; have hw3 := hw2.symm; subst hw3; clear hw2))
      go_ret
      exact ⟨rfl, hk⟩
    · rw [chkE_yes hc] at hC
      unfold inG at hi
      rw [hc, Bool.true_and, decide_eq_false_iff_not, hl] at hi
      by_cases h0 : p < 0
      · have d0 : decide (p < 0) = true := by simpa using h0
        clear hi
        go_wp2_with (first
          | (go_at_call 9; refine hG.mono ?_; rintro e w2 ⟨rfl, hw2⟩; have hw3 := hw2.symm; subst hw3; clear hw2)
          | (go_at_call 12; refine hC.mono ?_; rintro e w2 ⟨rfl, hw2⟩; have hw3 := hw2.symm; subst hw3; clear hw2))
        go_ret
        exact ⟨rfl, hk⟩
      · have h1 : (n : Int) ≤ p := by omega
        have d0 : decide (p < 0) = false := by simpa using h0
        have d1 : decide ((n : Int) ≤ p) = true := by simpa using h1
        clear hi
        go_wp2_with (first
          | (go_at_call 9; refine hG.mono ?_; rintro e w2 ⟨rfl, hw2⟩; have hw3 := hw2.symm; subst hw3; clear hw2)
          | (go_at_call 12; refine hC.mono ?_; rintro e w2 ⟨rfl, hw2⟩; have hw3 := hw2.symm; subst hw3; clear hw2))
        go_ret
        exact ⟨rfl, hk⟩

/-- What is known of a name that is read: its length, where it ends, its text. -/
structure NmAt (w : World) (b off n cap q k : Nat) (l : List Int) (s : ByteArray) : Prop where
  size : s.size = k
  lt : q + k < n
  str : strOfNums (nmAt l q) = s
  conv : ∀ w', Kept w w' → (convert 22 9 (.slice (some ⟨b, off + q, none⟩) k (cap - q))).run Try.prog w' = .ok (.string s) w'
  last : w.cell? ⟨b, off + (q + k), none⟩ = some (.int .u8 0)
  get : ∀ w', Kept w w' → Calls Try.prog 9 #[.slice (some ⟨b, off, none⟩) n cap, .int .i64 (q : Int)] w' fun e w'' => e = .returned (.tuple #[.string s, .int .i64 0]) ∧ w'' = w'
theorem nmAt_know {w : World} {b off n cap : Nat} {l : List Int} (hr : ∀ x ∈ l, 0 ≤ x ∧ x < 256) (hl : l.length = n) (hn : n ≤ 1000000) (hcap : n ≤ cap) (hc : chkB l = true) (hcell : ∀ i, i < l.length → w.cell? ⟨b, off + i, none⟩ = some (.int .u8 (l.getD i 0))) {q : Nat} (hq : q < n) :
    NmAt w b off n cap q (nmAt l q).length l (strOfNums (nmAt l q)) := by
  obtain ⟨e1, e2⟩ := nmAt_eq hc (show q < l.length by omega)
  have hB : Byt w (some ⟨b, off + q, none⟩) (nmAt l q) := .inr ⟨b, off + q, rfl, fun i hi => by
    rw [Nat.add_assoc, hcell (q + i) (by omega), nmAt_getD hc (by omega) hi]⟩
  refine ⟨strOfNums_size _, by omega, rfl, fun w' hk => str_run w' _ (nmAt l q) (cap - q) (hB.kept hk), ?_, fun w' hk => ?_⟩
  · rw [hcell _ e1, e2]
  · have := get_walk (some ⟨b, off, none⟩) n cap l (q : Int) w' hr hl hn hcap (Byt.kept (.inr ⟨b, off, rfl, hcell⟩) hk)
    have hi : inG l (q : Int) = true := inG_mk hc (by omega) (by omega)
    rwa [(getS_yes hi).1, (getS_yes hi).2, Int.toNat_natCast] at this
/-- The name at the next place. -/
theorem nmAt_next {l : List Int} {q : Nat} (hq : q < l.length) (h : 0 < (nmAt l q).length) : nmAt l q = l[q] :: nmAt l (q + 1) := by
  by_cases h0 : l[q] = 0
  · rw [nmAt_zero hq h0] at h
    simp at h
  · exact nmAt_succ hq h0

set_option maxRecDepth 20000 in
set_option maxHeartbeats 1600000 in
theorem reads_yes (b off n cap q k : Nat) (l : List Int) (s : ByteArray) (w : World) (hn : n ≤ 70000) (hcap : n ≤ cap) (h : NmAt w b off n cap q k l s)
    (hnx : 0 < k → ∃ t, (t.toList == (s.extract 1 s.size).toList) = true ∧ ∀ w', Kept w w' → Calls Try.prog 9 #[.slice (some ⟨b, off, none⟩) n cap, .int .i64 ((q : Int) + 1)] w' fun e w'' => e = .returned (.tuple #[.string t, .int .i64 0]) ∧ w'' = w') :
    Calls Try.prog 6 #[.slice (some ⟨b, off, none⟩) n cap, .int .i64 (q : Int)] w fun e w' => e = .returned (.bool true) ∧ Kept w w' := by
  have hsz := h.size
  have hlt := h.lt
  have hbq := beq_true (rfl : s = s)
  go_enter Try.func6, Try.ntmps6
  go_upto_region 4 with (go_at_call 11; refine (alive_walk _).mono ?_; rintro e w1 ⟨rfl, hk⟩)
  have hG := h.get w1 hk
  have hS := h.conv w1 hk
  have hL := hk.cell h.last
  have hqn : q < cap := by omega
  have hqk : q + k ≤ cap := by omega
  have d1 : decide ((n : Int) ≤ (q : Int) + (k : Int)) = false := by simp; omega
  have d2 : decide (n ≤ q + k) = false := by simp; omega
  have d3 : q + k - q = k := by omega
  by_cases hk0 : 0 < k
  · obtain ⟨t, ht, hT⟩ := hnx hk0
    have hG2 := hT w1 hk
    rw [hsz] at ht
    have d4 : ((k : Int) == 0) = false := by simp; omega
    clear h hnx hT
    go_upto_region 13 with (go_at_call 9; refine hG.mono ?_; rintro e w2 ⟨rfl, hw2⟩; have hw3 := hw2.symm; subst hw3; clear hw2)
    go_wp2_with (go_at_call 9; refine hG2.mono ?_; rintro e w2 ⟨rfl, hw2⟩; have hw3 := hw2.symm; subst hw3; clear hw2)
    go_ret
    exact ⟨rfl, hk⟩
  · obtain rfl : k = 0 := by omega
    have hL0 : w1.cell? ⟨b, off + q, none⟩ = some (.int .u8 0) := by simpa using hL
    have hqn' : q < n := by omega
    have d1' : decide ((n : Int) ≤ (q : Int)) = false := by simp; omega
    have d2' : decide (n ≤ q) = false := by simp; omega
    clear h hnx d1 d2 d3 hL hqk hlt
    go_wp2_with (go_at_call 9; refine hG.mono ?_; rintro e w2 ⟨rfl, hw2⟩; have hw3 := hw2.symm; subst hw3; clear hw2)
    go_ret
    exact ⟨rfl, hk⟩
theorem reads_walk (a : Option Addr) (cap : Nat) (l : List Int) (p : Int) (w : World) (hr : ∀ x ∈ l, 0 ≤ x ∧ x < 256) (hcap : l.length ≤ cap) (hb : Byt w a l) :
    Calls Try.prog 6 #[.slice a l.length cap, .int .i64 p] w fun e w' => e = .returned (.bool true) ∧ Kept w w' := by
  by_cases hn : 70000 < l.length
  · exact reads_no a _ cap l p w rfl hcap hb (.inl hn)
  · cases hi : inG l p
    · exact reads_no a _ cap l p w rfl hcap hb (.inr hi)
    · obtain ⟨hc, h0, h1⟩ := inG_true hi
      obtain ⟨q, rfl⟩ : ∃ q : Nat, p = (q : Int) := ⟨p.toNat, by omega⟩
      obtain ⟨b, off, rfl, hcell⟩ := hb.cells (show 0 < l.length by omega)
      have hq : q < l.length := by omega
      refine reads_yes b off l.length cap q _ l _ w (by omega) hcap (nmAt_know hr rfl (by omega) hcap hc hcell hq) ?_
      intro hk
      have e := nmAt_next hq hk
      have e2 := (nmAt_eq hc hq).1
      have hkn := nmAt_know hr rfl (by omega) hcap hc hcell (q := q + 1) (show q + 1 < l.length by omega)
      refine ⟨strOfNums (nmAt l (q + 1)), ?_, fun w' hk => ?_⟩
      · rw [e, str_tail]
        exact beq_true rfl
      · have := hkn.get w' hk
        rwa [show ((q + 1 : Nat) : Int) = (q : Int) + 1 by omega] at this
end Go.Proofs.Ytahkiaoifkcmoaa
