/- Copies of sections, and whether two are the same: the rest. -/
import Derived.Test.YtdjokhokiklamabTw
namespace Go.Proofs.Ytdjokhokiklamab
open Go.RowKit

theorem str_beq {l m : List Int} (hl : ∀ x ∈ l, 0 ≤ x ∧ x < 256) (hm : ∀ x ∈ m, 0 ≤ x ∧ x < 256) : ((strOfNums l).toList == (strOfNums m).toList) = decide (l = m) := by
  by_cases h : l = m
  · rw [decide_eq_true h]
    exact beq_true (by rw [h])
  · rw [decide_eq_false h]
    exact beq_false fun e => h (str_inj hl hm e)
/-- bytes.Equal -/
theorem equal_walk (a a' : Option Addr) (n cap n' cap' : Nat) (l l' : List Int) (w : World) (hl : l.length = n) (hl' : l'.length = n') (hb : Byt w a l) (hb' : Byt w a' l') (hr : ∀ x ∈ l, 0 ≤ x ∧ x < 256) (hr' : ∀ x ∈ l', 0 ≤ x ∧ x < 256) :
    Calls Try.prog 9 #[.slice a n cap, .slice a' n' cap'] w fun e w' => e = .returned (.bool (decide (l = l'))) ∧ w' = w := by
  have S1 := str_len (cap := cap) hl hb
  have S2 := str_len (cap := cap') hl' hb'
  rw [← str_beq hr hr']
  obtain ⟨x, hx⟩ : ∃ x, strOfNums l = x := ⟨_, rfl⟩
  obtain ⟨y, hy⟩ : ∃ y, strOfNums l' = y := ⟨_, rfl⟩
  rw [hx] at S1 ⊢
  rw [hy] at S2 ⊢
  clear hx hy hr hr' hb hb'
  go_enter Try.func9, Try.ntmps9
  go_wp2
  go_ret
  exact ⟨rfl, rfl⟩

/-- Whether all parts of two sections are the same. -/
def sameB (s t : ByteArray) (al al' sz sz' : Int) (l l' : List Int) : Bool := decide (s = t ∧ al = al' ∧ sz = sz' ∧ l = l')
set_option maxHeartbeats 1600000 in
theorem same_walk (s t : ByteArray) (al al' sz sz' : Int) (a a' : Option Addr) (n cap n' cap' : Nat) (l l' : List Int) (w : World) (hl : l.length = n) (hl' : l'.length = n') (hb : Byt w a l) (hb' : Byt w a' l') (hr : ∀ x ∈ l, 0 ≤ x ∧ x < 256) (hr' : ∀ x ∈ l', 0 ≤ x ∧ x < 256) :
    Calls Try.prog 5 #[sectV s al a n cap sz, sectV t al' a' n' cap' sz'] w fun e w' => e = .returned (.bool (sameB s t al al' sz sz' l l')) ∧ Kept w w' := by
  have B1 := Box.new w s al (.slice a n cap) sz
  obtain ⟨wa, hwa⟩ : ∃ wa, w.alloc (.cells #[.string s, .int .i64 al, .slice a n cap, .int .i64 sz] 24) = wa := ⟨_, rfl⟩
  rw [hwa] at B1
  have B2 := Box.new wa t al' (.slice a' n' cap') sz'
  have kA : Kept w wa := by rw [← hwa]; exact Kept.alloc _ _
  have sA : wa.heap.size = w.heap.size + 1 := by rw [← hwa]; simp
  obtain ⟨wb, hwb⟩ : ∃ wb, wa.alloc (.cells #[.string t, .int .i64 al', .slice a' n' cap', .int .i64 sz'] 24) = wb := ⟨_, rfl⟩
  rw [hwb] at B2
  have kB : Kept wa wb := by rw [← hwb]; exact Kept.alloc _ _
  rw [sA] at B2
  obtain ⟨c0, c1, c2, c3, _, _, _, _⟩ := B1.kept kB
  obtain ⟨d0, d1, d2, d3, _, _, _, _⟩ := B2
  have K : Kept w wb := kA.trans kB
  unfold sameB
  have hE := equal_walk a a' n cap n' cap' l l' wb hl hl' (hb.kept K) (hb'.kept K) hr hr'
  by_cases h1 : s = t
  · have q1 : (s.toList == t.toList) = true := beq_true h1
    by_cases h2 : al = al'
    · have qa : (al == al') = true := by rw [beq_iff_eq]; exact h2
      by_cases h3 : sz = sz'
      · have qs : (sz == sz') = true := by rw [beq_iff_eq]; exact h3
        by_cases h4 : l = l'
        · have HS : Hid (decide (s = t ∧ al = al' ∧ sz = sz' ∧ l = l') = true) := decide_eq_true ⟨h1, h2, h3, h4⟩
          rw [decide_eq_true h4] at hE
          clear h1 h2 h3 h4
          clear hr hr' hb hb' hl hl' B1 kA kB
          go_enter Try.func5, Try.ntmps5
          go_wp2_with (go_at_call 9; refine hE.mono ?_; rintro e w1 ⟨rfl, hw1⟩; have hw2 := hw1.symm; subst hw2; clear hw1)
          go_ret
          exact ⟨by rw [HS.out]; rfl, K⟩
        · have HS : Hid (decide (s = t ∧ al = al' ∧ sz = sz' ∧ l = l') = false) := decide_eq_false fun h => h4 h.2.2.2
          rw [decide_eq_false h4] at hE
          clear h1 h2 h3 h4
          clear hr hr' hb hb' hl hl' B1 kA kB
          go_enter Try.func5, Try.ntmps5
          go_wp2_with (go_at_call 9; refine hE.mono ?_; rintro e w1 ⟨rfl, hw1⟩; have hw2 := hw1.symm; subst hw2; clear hw1)
          go_ret
          exact ⟨by rw [HS.out]; rfl, K⟩
      · have qs : (sz == sz') = false := by rw [beq_eq_false_iff_ne]; exact h3
        have HS : Hid (decide (s = t ∧ al = al' ∧ sz = sz' ∧ l = l') = false) := decide_eq_false fun h => h3 h.2.2.1
        clear h1 h2 h3
        clear hr hr' hb hb' hl hl' B1 kA kB
        go_enter Try.func5, Try.ntmps5
        go_wp2_with (go_at_call 9; refine hE.mono ?_; rintro e w1 ⟨rfl, hw1⟩; have hw2 := hw1.symm; subst hw2; clear hw1)
        go_ret
        exact ⟨by rw [HS.out]; rfl, K⟩
    · have qa : (al == al') = false := by rw [beq_eq_false_iff_ne]; exact h2
      have HS : Hid (decide (s = t ∧ al = al' ∧ sz = sz' ∧ l = l') = false) := decide_eq_false fun h => h2 h.2.1
      clear h1 h2
      clear hr hr' hb hb' hl hl' B1 kA kB
      go_enter Try.func5, Try.ntmps5
      go_wp2_with (go_at_call 9; refine hE.mono ?_; rintro e w1 ⟨rfl, hw1⟩; have hw2 := hw1.symm; subst hw2; clear hw1)
      go_ret
      exact ⟨by rw [HS.out]; rfl, K⟩
  · have q1 : (s.toList == t.toList) = false := beq_false h1
    have HS : Hid (decide (s = t ∧ al = al' ∧ sz = sz' ∧ l = l') = false) := decide_eq_false fun h => h1 h.1
    clear h1
    clear hr hr' hb hb' hl hl' B1 kA kB
    go_enter Try.func5, Try.ntmps5
    go_wp2_with (go_at_call 9; refine hE.mono ?_; rintro e w1 ⟨rfl, hw1⟩; have hw2 := hw1.symm; subst hw2; clear hw1)
    go_ret
    exact ⟨by rw [HS.out]; rfl, K⟩
end Go.Proofs.Ytdjokhokiklamab
