/- The law StrtabTails, walked. -/
import Derived.Test.YtahkiaoifkcmoaaLr
namespace Go.Proofs.Ytahkiaoifkcmoaa
open Go.RowKit

set_option maxHeartbeats 1600000 in
theorem tails_no (a : Option Addr) (n cap : Nat) (l : List Int) (p : Int) (w : World) (hl : l.length = n) (hcap : n ≤ cap) (hb : Byt w a l) (h : 70000 < n ∨ inG l p = false) :
    Calls Try.prog 8 #[.slice a n cap, .int .i64 p] w fun e w' => e = .returned (.bool true) ∧ Kept w w' := by
  by_cases hn : 70000 < n
  · clear h
    go_enter Try.func8, Try.ntmps8
    go_wp2_with (go_at_call 11; refine (alive_walk _).mono ?_; rintro e w1 ⟨rfl, hk⟩)
    go_ret
    exact ⟨rfl, hk⟩
  · have hi : inG l p = false := by rcases h with h | h; exact absurd h hn; exact h
    have hn' : n ≤ 70000 := by omega
    have he := empty_is
    clear h hn
    go_enter Try.func8, Try.ntmps8
    go_upto_region 4 with (go_at_call 11; refine (alive_walk _).mono ?_; rintro e w1 ⟨rfl, hk⟩)
    have hG := get_no a n cap l p w1 hl (by omega) hcap (hb.kept hk) hi
    have hC := check_len a n cap l w1 hl (by omega) hcap (hb.kept hk)
    clear hb
    cases hc : chkB l
    · rw [chkE_no hc] at hC
      go_wp2_with (first
        | (go_at_call 9; refine hG.mono ?_; rintro e w2 ⟨rfl, hw2⟩; have hw3 := hw2.symm; subst hw3; clear hw2)
        | (go_at_call 12; refine hC.mono ?_; rintro e w2 ⟨rfl, hw2⟩; have hw3 := hw2.symm; subst hw3; clear hw2))
      go_ret
      exact ⟨rfl, hk⟩
    · rw [chkE_yes hc] at hC
      unfold inG at hi
      rw [hc, Bool.true_and, decide_eq_false_iff_not, hl] at hi
      by_cases h0 : p < 0
      · have d0 : decide (p < 0) = true := by simpa using h0
        clear hi
        go_wp2_with (first
          | (go_at_call 9; refine hG.mono ?_; rintro e w2 ⟨rfl, hw2⟩; have hw3 := hw2.symm; subst hw3; clear hw2)
          | (go_at_call 12; refine hC.mono ?_; rintro e w2 ⟨rfl, hw2⟩; have hw3 := hw2.symm; subst hw3; clear hw2))
        go_ret
        exact ⟨rfl, hk⟩
      · have h1 : (n : Int) ≤ p := by omega
        have d0 : decide (p < 0) = false := by simpa using h0
        have d1 : decide ((n : Int) ≤ p) = true := by simpa using h1
        clear hi
        go_wp2_with (first
          | (go_at_call 9; refine hG.mono ?_; rintro e w2 ⟨rfl, hw2⟩; have hw3 := hw2.symm; subst hw3; clear hw2)
          | (go_at_call 12; refine hC.mono ?_; rintro e w2 ⟨rfl, hw2⟩; have hw3 := hw2.symm; subst hw3; clear hw2))
        go_ret
        exact ⟨rfl, hk⟩


/-- The bytes of a name that is read, one by one. -/
def BytesAt (w : World) (b off q k : Nat) (s : ByteArray) : Prop := ∀ i, i < k → ∃ x : Int, x ≠ 0 ∧ w.cell? ⟨b, off + (q + i), none⟩ = some (.int .u8 x) ∧ ∀ h : i < s.size, ((s[i]'h).toNat : Int) = x

set_option maxRecDepth 20000 in
set_option maxHeartbeats 3200000 in
theorem tails_yes (b off n cap q k : Nat) (l : List Int) (s : ByteArray) (w : World) (hn : n ≤ 70000) (_hcap : n ≤ cap) (h : NmAt w b off n cap q k l s) (hB : BytesAt w b off q k s)
    (hnx : 0 < k → ∃ t, (t.toList == (s.extract 1 s.size).toList) = true ∧ ∀ w', Kept w w' → Calls Try.prog 9 #[.slice (some ⟨b, off, none⟩) n cap, .int .i64 ((q : Int) + 1)] w' fun e w'' => e = .returned (.tuple #[.string t, .int .i64 0]) ∧ w'' = w') :
    Calls Try.prog 8 #[.slice (some ⟨b, off, none⟩) n cap, .int .i64 (q : Int)] w fun e w' => e = .returned (.bool true) ∧ Kept w w' := by
  have hsz := h.size
  have hlt := h.lt
  go_enter Try.func8, Try.ntmps8
  go_upto_region 4 with (go_at_call 11; refine (alive_walk _).mono ?_; rintro e w1 ⟨rfl, hk⟩)
  have hG := h.get w1 hk
  go_upto_region 9 with (go_at_call 9; refine hG.mono ?_; rintro e w2 ⟨rfl, hw2⟩; have hw3 := hw2.symm; subst hw3; clear hw2)
  clear hG
  go_wp2
  go_loopw [8] (fun x wr => ∃ i : Nat, i ≤ k ∧ x = .int .i64 i ∧ Kept w wr) (fun x _ => k - (intOf x).toNat)
  case atStart => exact ⟨0, Nat.zero_le _, rfl, hk⟩
  case round =>
    obtain ⟨i, hi, rfl, hK⟩ := hrel
    by_cases hik : i < k
    · obtain ⟨x, hx0, hxc, hxs⟩ := hB i hik
      have hcell := hK.cell hxc
      have hx : ∀ h, ((s[i]'h).toNat : Int) = x := hxs
      have e1 : (x == 0) = false := by simpa using hx0
      have e2 : (x != x) = false := by simp
      have his : i < s.size := by omega
      have hqi : q + i < n := by omega
      clear h hB hnx hxc
      go_upto_region 12 with fail
      go_big_quiet (fail)
      have K2 : Kept w (wr.drewN nq) := hK.trans (Kept.drewN _ _)
      go_wp2
      go_roundw
      case rel => exact ⟨i + 1, by omega, by go_num, K2⟩
      case measure => simp [intOf]; omega
    · obtain rfl : i = k := by omega
      have hL := hK.cell h.last
      by_cases hk0 : 0 < i
      · obtain ⟨t, ht, hT⟩ := hnx hk0
        have hG2 := hT wr hK
        rw [hsz] at ht
        have d1 : decide ((n : Int) ≤ (q : Int) + (i : Int)) = false := by simp; omega
        have d2 : decide (n ≤ q + i) = false := by simp; omega
        have he : s.toList.isEmpty = false := by
          cases hh : s.toList.isEmpty
          · rfl
          · have e := (Lib.bytes_beq_iff s ⟨#[]⟩).1 (by rw [List.isEmpty_iff.1 hh, Lib.toList_data]; rfl)
            rw [e] at hsz
            have : (⟨#[]⟩ : ByteArray).size = 0 := rfl
            omega
        clear h hnx hT hB
        go_wp2_with (go_at_call 9; refine hG2.mono ?_; rintro e w2 ⟨rfl, hw2⟩; have hw3 := hw2.symm; subst hw3; clear hw2)
        go_ret
        exact ⟨rfl, hK⟩
      · obtain rfl : i = 0 := by omega
        have hL0 : wr.cell? ⟨b, off + q, none⟩ = some (.int .u8 0) := by simpa using hL
        have hqn' : q < n := by omega
        have d1' : decide ((n : Int) ≤ (q : Int)) = false := by simp; omega
        have d2' : decide (n ≤ q) = false := by simp; omega
        have he : s.toList.isEmpty = true := by
          rw [Lib.toList_data, List.isEmpty_iff]
          exact List.eq_nil_of_length_eq_zero (by rw [Array.length_toList]; exact hsz)
        clear h hnx hB hL hlt
        go_wp2
        go_ret
        exact ⟨rfl, hK⟩

theorem bytesAt {w : World} {b off n : Nat} {l : List Int} (hl : l.length = n) (hr : ∀ x ∈ l, 0 ≤ x ∧ x < 256) (hc : chkB l = true) (hcell : ∀ i, i < l.length → w.cell? ⟨b, off + i, none⟩ = some (.int .u8 (l.getD i 0))) {q : Nat} (hq : q < n) : BytesAt w b off q (nmAt l q).length (strOfNums (nmAt l q)) := by
  intro i hi
  have e1 := (nmAt_eq hc (show q < l.length by omega)).1
  refine ⟨l.getD (q + i) 0, nmAt_ne hc (by omega) hi, hcell _ (by omega), fun h => ?_⟩
  rw [nm_at h, nm_str (nmAt_range q hr), nmAt_getD hc (by omega) hi]
theorem tails_walk (a : Option Addr) (cap : Nat) (l : List Int) (p : Int) (w : World) (hr : ∀ x ∈ l, 0 ≤ x ∧ x < 256) (hcap : l.length ≤ cap) (hb : Byt w a l) :
    Calls Try.prog 8 #[.slice a l.length cap, .int .i64 p] w fun e w' => e = .returned (.bool true) ∧ Kept w w' := by
  by_cases hn : 70000 < l.length
  · exact tails_no a _ cap l p w rfl hcap hb (.inl hn)
  · cases hi : inG l p
    · exact tails_no a _ cap l p w rfl hcap hb (.inr hi)
    · obtain ⟨hc, h0, h1⟩ := inG_true hi
      obtain ⟨q, rfl⟩ : ∃ q : Nat, p = (q : Int) := ⟨p.toNat, by omega⟩
      obtain ⟨b, off, rfl, hcell⟩ := hb.cells (show 0 < l.length by omega)
      have hq : q < l.length := by omega
      refine tails_yes b off l.length cap q _ l _ w (by omega) hcap (nmAt_know hr rfl (by omega) hcap hc hcell hq) (bytesAt rfl hr hc hcell hq) ?_
      intro hk
      have e := nmAt_next hq hk
      have e2 := (nmAt_eq hc hq).1
      have hkn := nmAt_know hr rfl (by omega) hcap hc hcell (q := q + 1) (show q + 1 < l.length by omega)
      refine ⟨strOfNums (nmAt l (q + 1)), ?_, fun w' hk => ?_⟩
      · rw [e, str_tail]
        exact beq_true rfl
      · have := hkn.get w' hk
        rwa [show ((q + 1 : Nat) : Int) = (q : Int) + 1 by omega] at this
end Go.Proofs.Ytahkiaoifkcmoaa
