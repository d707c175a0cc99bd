/- The document's own: the name at a place; which names may be; whether two lists are the same; which names are great; which name is the first. -/
import Derived.Test.YtahkiaoifkcmoaaRt
import Derived.Test.YtahkiaoifkcmoaaBm
namespace Go.Proofs.Ytahkiaoifkcmoaa
open Go.RowKit

set_option maxHeartbeats 1600000 in
/-- What the document's own Get gives. -/
theorem rget_walk (a : Option Addr) (n cap : Nat) (l : List Int) (p : Int) (w : World) (hl : l.length = n) (hlen : n ≤ 1000000) (hcap : n ≤ cap) (hb : Byt w a l) :
    Calls Try.prog 15 #[.slice a n cap, .int .i64 p] w fun e w' => e = .returned (.tuple #[.string (strOfNums (getS l p)), .int .i64 (getR l p)]) ∧ w' = w := by
  have hC := rcheck_len a n cap l w hl hlen hcap hb
  cases hi : inG l p
  · rw [(getS_no hi).1, (getS_no hi).2, str_empty]
    cases hc : chkB l
    · rw [chkE_no hc] at hC
      go_enter Try.func15, Try.ntmps15
      go_wp2_with (go_at_call 17; refine hC.mono ?_; rintro e w' ⟨rfl, hw'⟩; subst hw')
      go_ret2
      exact ⟨rfl, rfl⟩
    · rw [chkE_yes hc] at hC
      unfold inG at hi
      rw [hc, Bool.true_and, decide_eq_false_iff_not, hl] at hi
      by_cases h0 : p < 0
      · have d0 : decide (p < 0) = true := by simpa using h0
        clear hi
        go_enter Try.func15, Try.ntmps15
        go_wp2_with (go_at_call 17; refine hC.mono ?_; rintro e w' ⟨rfl, hw'⟩; subst hw')
        go_ret2
        exact ⟨rfl, rfl⟩
      · have h1 : (n : Int) ≤ p := by omega
        have d0 : decide (p < 0) = false := by simpa using h0
        have d1 : decide ((n : Int) ≤ p) = true := by simpa using h1
        clear hi
        go_enter Try.func15, Try.ntmps15
        go_wp2_with (go_at_call 17; refine hC.mono ?_; rintro e w' ⟨rfl, hw'⟩; subst hw')
        go_ret2
        exact ⟨rfl, rfl⟩
  · rw [(getS_yes hi).1, (getS_yes hi).2]
    obtain ⟨hc, h0, h1⟩ := inG_true hi
    rw [chkE_yes hc] at hC
    obtain ⟨q, rfl⟩ : ∃ q : Nat, p = (q : Int) := ⟨p.toNat, by omega⟩
    rw [Int.toNat_natCast]
    obtain ⟨b, off, rfl, hcell⟩ := hb.cells (show 0 < l.length by omega)
    have hT := texts_walk b off n cap q l w hl hcap hc (by omega) hcell
    have hq : q < n := by omega
    obtain ⟨s, hs⟩ : ∃ s, strOfNums (nmAt l q) = s := ⟨_, rfl⟩
    rw [hs] at hT ⊢
    have d0 : decide ((q : Int) < 0) = false := by simp
    have d1 : decide ((n : Int) ≤ (q : Int)) = false := by simp; omega
    have d2 : decide (n ≤ q) = false := by simp; omega
    clear h0 h1 hi hcell
    go_enter Try.func15, Try.ntmps15
    go_wp2_with (first
      | (go_at_call 17; refine hC.mono ?_; rintro e w' ⟨rfl, hw'⟩; subst hw')
      | (go_at_call 23; refine hT.mono ?_; rintro e w' ⟨rfl, hw'⟩; subst hw'))
    go_ret2
    exact ⟨rfl, rfl⟩

theorem nm_at {s : ByteArray} {i : Nat} (h : i < s.size) : ((s[i]'h).toNat : Int) = (nm s).getD i 0 := by
  have e : i < s.data.toList.length := by rw [Array.length_toList]; exact h
  unfold nm
  rw [List.getD, List.getElem?_map, List.getElem?_eq_getElem e]
  simp
  rfl

set_option maxHeartbeats 1600000 in
/-- May a name be? -/
theorem may_walk (s : ByteArray) (w : World) (hs : s.size ≤ maxLen) :
    Calls Try.prog 21 #[.string s] w fun e w' => e = .returned (.bool (!wrongB s)) ∧ w' = w := by
  have hs' : s.size ≤ 9223372036854775807 := by unfold maxLen at hs; omega
  go_enter Try.func21, Try.ntmps21
  go_wp2
  go_loop [3] (fun i => ∃ k : Nat, k ≤ s.size ∧ i = .int .i64 k ∧ Hid (∀ j, j < k → (nm s).getD j 0 ≠ 0)) (fun i => s.size - (intOf i).toNat)
  case atStart => exact ⟨0, Nat.zero_le _, rfl, fun j hj => absurd hj (Nat.not_lt_zero _)⟩
  case round =>
    obtain ⟨k, hk, rfl, A⟩ := hrel
    by_cases hlt : k < s.size
    · have hx := nm_at hlt
      by_cases h0 : (nm s).getD k 0 = 0
      · have hx0 : ∀ h, (((s[k]'h).toNat : Int) == 0) = true := fun h => by rw [nm_at h, h0]; rfl
        have hw : wrongB s = true := by
          cases hw : wrongB s
          · have hm : (nm s).getD k 0 ∈ nm s := by
              have hl : k < (nm s).length := by rw [nm_length]; exact hlt
              rw [List.getD, List.getElem?_eq_getElem hl]
              exact List.getElem_mem hl
            exact absurd h0 ((wrong_false hw).2 _ hm)
          · rfl
        have HW : Hid (wrongB s = true) := hw
        clear hw hx h0
        go_wp2
        go_ret
        exact ⟨by rw [HW.out]; rfl, rfl⟩
      · have hx0 : ∀ h, (((s[k]'h).toNat : Int) == 0) = false := fun h => by rw [nm_at h]; simpa using h0
        have HX : Hid ((nm s).getD k 0 ≠ 0) := h0
        clear hx h0
        go_wp2
        go_round
        case rel =>
          refine ⟨k + 1, by omega, by go_num, fun j hj => ?_⟩
          by_cases e : j = k
          · subst e; exact HX.out
          · exact A.out j (by omega)
        case measure => simp [intOf]; omega
    · obtain rfl : k = s.size := by omega
      have hall : ∀ x ∈ nm s, x ≠ 0 := by
        intro x hx
        obtain ⟨j, hj, rfl⟩ := List.mem_iff_getElem.1 hx
        have := A.out j (by rw [nm_length] at hj; exact hj)
        rw [List.getD, List.getElem?_eq_getElem hj] at this
        exact this
      by_cases h64 : s.size ≤ 64
      · have hw := right_of h64 hall
        have HW : Hid (wrongB s = false) := hw
        have d : decide ((s.size : Int) ≤ 64) = true := by simp; omega
        clear hw hall
        go_wp2
        go_ret
        exact ⟨by rw [HW.out]; rfl, rfl⟩
      · have hw : wrongB s = true := by unfold wrongB; simp; omega
        have HW : Hid (wrongB s = true) := hw
        have d : decide ((s.size : Int) ≤ 64) = false := by simp; omega
        clear hw hall
        go_wp2
        go_ret
        exact ⟨by rw [HW.out]; rfl, rfl⟩

def GPost (n : Nat) (w : World) (e : Ending) (w' : World) : Prop := (∃ g, e = .returned (.bool g) ∧ (g = false → n ≤ 2000)) ∧ w' = w
set_option maxRecDepth 20000 in
set_option maxHeartbeats 1600000 in
/-- Names that are not great are few. -/
theorem great_walk (a : Option Addr) (cap n : Nat) (ss : List ByteArray) (w : World) (hlen : ss.length = n) (hn : n ≤ maxLen) (hsz : ∀ s ∈ ss, s.size ≤ maxLen) (hS : Strs w a ss) :
    Calls Try.prog 13 #[.slice a n cap] w fun e w' => GPost n w e w' := by
  have hn' : n ≤ 9223372036854775807 := by unfold maxLen at hn; omega
  go_enter Try.func13, Try.ntmps13
  go_wp2
  go_loop [3, 4] (fun x i => ∃ k m : Nat, k ≤ n ∧ k ≤ 2000 ∧ m ≤ 100000 * k ∧ i = .int .i64 k ∧ x = .int .i64 m) (fun _ i => 2000 - (intOf i).toNat)
  case atStart => exact ⟨0, 0, Nat.zero_le _, Nat.zero_le _, Nat.le_refl _, rfl, rfl⟩
  case round =>
    obtain ⟨k, m, hk, hk2, hm, rfl, rfl⟩ := hrel
    by_cases hlt : k < n
    · by_cases h2 : k < 2000
      · obtain ⟨b, off, rfl, hc⟩ := hS.at (show k < ss.length by omega)
        have hcell := hc k (by omega)
        obtain ⟨s, hs⟩ : ∃ s, ss.getD k ByteArray.empty = s := ⟨_, rfl⟩
        rw [hs] at hcell
        have hsm : s.size ≤ 9223372036854775807 := by have := hsz s (by rw [← hs]; exact getD_mem (by omega)); unfold maxLen at this; omega
        clear hs hc hS hsz
        go_wp2
        go_round
        case rel => exact ⟨k + 1, m + min s.size 100000, by omega, by omega, by omega, by go_num, by go_num⟩
        case measure => simp [intOf]; omega
      · obtain rfl : k = 2000 := by omega
        clear hS hsz
        have d1 : decide ((200 : Int) < (n : Int)) = true := by simp; omega
        have d2 : decide ((n : Int) ≤ 1024) = false := by simp; omega
        have d3 : ¬ (n : Int) ≤ 1024 := by omega
        go_wp2
        go_ret
        exact ⟨⟨_, rfl, fun h => by simp at h⟩, rfl⟩
    · obtain rfl : k = n := by omega
      clear hS hsz
      go_wp2 <;>
      · go_ret
        exact ⟨⟨_, rfl, fun _ => hk2⟩, rfl⟩
end Go.Proofs.Ytahkiaoifkcmoaa
