/- Kinds of names: the document's own. -/
import Derived.Test.YtbfmichhpcaamaaDoorKd
namespace Go.Proofs.YtbfmichhpcaamaaDoor
open Go.RowKit

theorem begins_walk (s p : ByteArray) (w : World) (hs : s.size ≤ maxLen) :
    Calls Tryd.prog 49 #[.string s, .string p] w fun e w' => e = .returned (.bool (begB (nm s) (nm p))) ∧ w' = w := by
  have hs' : s.size ≤ 9223372036854775807 := by unfold maxLen at hs; omega
  by_cases h1 : s.size < p.size
  · have e : begB (nm s) (nm p) = false := by
      unfold begB
      rw [nm_length, nm_length, decide_eq_false (by omega)]
      rfl
    rw [e]
    have d1 : decide ((s.size : Int) < (p.size : Int)) = true := decide_eq_true (by omega)
    go_enter Tryd.func49, Tryd.ntmps49
    go_wp2
    go_ret
    exact ⟨rfl, rfl⟩
  · have d1 : decide ((s.size : Int) < (p.size : Int)) = false := decide_eq_false (by omega)
    have hle : p.size ≤ s.size := by omega
    by_cases h2 : s.extract 0 p.size = p
    · have ht : nm s = nm p ++ (nm s).drop p.size := by
        have := List.take_append_drop p.size (nm s)
        rw [take_eq_iff.1 h2] at this
        exact this.symm
      have hb := beg_cut ht
      have q : ((s.extract 0 p.size).toList == p.toList) = true := beq_true h2
      have q' : ((s.extract 0 p.size).toList != p.toList) = false := by rw [bne, q]; rfl
      by_cases h3 : s.size = p.size
      · have e0 : (nm s).drop p.size = [] := List.drop_of_length_le (by rw [nm_length]; omega)
        rw [hb, e0]
        have e1 : ((s.size : Int) == (p.size : Int)) = true := by rw [h3]; exact beq_self_eq_true _
        have e2 : (s.size == p.size) = true := by rw [h3]; exact beq_self_eq_true _
        clear h2 h3 hb ht e0
        go_enter Tryd.func49, Tryd.ntmps49
        go_wp2
        go_ret
        exact ⟨rfl, rfl⟩
      · have hlt : p.size < s.size := by omega
        have e1 : ((s.size : Int) == (p.size : Int)) = false := by rw [beq_eq_false_iff_ne]; omega
        have e2 : (s.size == p.size) = false := by rw [beq_eq_false_iff_ne]; omega
        have e0 : ((nm s).drop p.size).isEmpty = false := by
          cases hh : (nm s).drop p.size with
          | nil =>
            have := congrArg List.length hh
            rw [List.length_drop, nm_length] at this
            simp at this
            omega
          | cons a t => rfl
        have e3 : ((nm s).drop p.size).getD 0 0 = (nm s).getD p.size 0 := by simp [List.getD]
        rw [hb, e0, e3, Bool.false_or]
        obtain ⟨g, hg⟩ : ∃ g, ((nm s).getD p.size 0 == 46) = g := ⟨_, rfl⟩
        rw [hg]
        have e4 : ∀ h, (((s[p.size]'h).toNat : Int) == 46) = g := fun h => by rw [nm_at h]; exact hg
        clear h2 h3 hb ht e0 e3 hg
        go_enter Tryd.func49, Tryd.ntmps49
        go_wp2
        go_ret
        exact ⟨rfl, rfl⟩
    · have e : begB (nm s) (nm p) = false := beg_no fun t ht => h2 (take_eq_iff.2 (by rw [ht, List.take_left' (nm_length p)]))
      rw [e]
      have q : ((s.extract 0 p.size).toList == p.toList) = false := beq_false h2
      have q' : ((s.extract 0 p.size).toList != p.toList) = true := by rw [bne, q]; rfl
      clear h2
      go_enter Tryd.func49, Tryd.ntmps49
      go_wp2
      go_ret
      exact ⟨rfl, rfl⟩

set_option maxRecDepth 20000 in
set_option maxHeartbeats 3200000 in
/-- The kind of a name; 0: none. -/
theorem of_walk (s : ByteArray) (w : World) (hs : s.size ≤ maxLen) :
    Calls Tryd.prog 43 #[.string s] w fun e w' => e = .returned (.int .u8 (kindN (nm s))) ∧ Kept w w' := by
  have hN := rmayName_walk s w hs
  cases hm : mayNm (nm s) with
  | false =>
    rw [hm] at hN
    rw [(kind_no hm).1]
    clear hm
    go_enter Tryd.func43, Tryd.ntmps43
    go_wp2_with (go_at_call 48; refine hN.mono ?_; rintro e w' ⟨rfl, hw'⟩; subst hw')
    go_ret
    exact ⟨rfl, Kept.refl _⟩
  | true =>
    rw [hm] at hN
    have HM : Hid (mayNm (nm s) = true) := hm
    clear hm
    go_enter Tryd.func43, Tryd.ntmps43
    go_wp2_with (go_at_call 48; refine hN.mono ?_; rintro e w' ⟨rfl, hw'⟩; subst hw')
    go_loop [4] (fun i => ∃ x, i = .int .i64 x ∧ Hid (Looked (nm s) x)) (fun i => (4 - intOf i).toNat)
    case atStart => exact ⟨0, rfl, 0, by decide, rfl, fun j hj => absurd hj (Nat.not_lt_zero _)⟩
    case round =>
      obtain ⟨x, rfl, HL⟩ := hrel
      rcases HL.out.cases with rfl | rfl | rfl | rfl | rfl
      · cases hb : begB (nm s) (kw 0) with
        | false =>
          have HB : Hid (begB (nm s) (kw 0) = false) := hb
          have hC : ∀ w, Calls Tryd.prog 49 #[.string s, .string ⟨#[46, 116, 101, 120, 116]⟩] w fun e w' => e = .returned (.bool false) ∧ w' = w := fun w => by
            have := begins_walk s ⟨#[46, 116, 101, 120, 116]⟩ w hs
            rwa [show begB (nm s) (nm ⟨#[46, 116, 101, 120, 116]⟩) = false from hb] at this
          clear hb
          go_wp2_with (go_at_call 49; refine (hC _).mono ?_; rintro e w' ⟨rfl, hw'⟩; have hw2 := hw'.symm; subst hw2; clear hw')
          go_round
          case rel => exact ⟨_, rfl, HL.out.step (k := 0) (by decide) rfl HB.out⟩
          case measure => simp [intOf]
        | true =>
          have HB : Hid (kindN (nm s) = 0 + 1 ∧ kE (nm s) = 0) := HL.out.hit HM.out (k := 0) (by decide) rfl hb
          have hC : ∀ w, Calls Tryd.prog 49 #[.string s, .string ⟨#[46, 116, 101, 120, 116]⟩] w fun e w' => e = .returned (.bool true) ∧ w' = w := fun w => by
            have := begins_walk s ⟨#[46, 116, 101, 120, 116]⟩ w hs
            rwa [show begB (nm s) (nm ⟨#[46, 116, 101, 120, 116]⟩) = true from hb] at this
          clear hb
          go_wp2_with (go_at_call 49; refine (hC _).mono ?_; rintro e w' ⟨rfl, hw'⟩; have hw2 := hw'.symm; subst hw2; clear hw')
          go_ret
          exact ⟨by rw [HB.out.1]; rfl, Kept.alloc _ _⟩
      · cases hb : begB (nm s) (kw 1) with
        | false =>
          have HB : Hid (begB (nm s) (kw 1) = false) := hb
          have hC : ∀ w, Calls Tryd.prog 49 #[.string s, .string ⟨#[46, 114, 111, 100, 97, 116, 97]⟩] w fun e w' => e = .returned (.bool false) ∧ w' = w := fun w => by
            have := begins_walk s ⟨#[46, 114, 111, 100, 97, 116, 97]⟩ w hs
            rwa [show begB (nm s) (nm ⟨#[46, 114, 111, 100, 97, 116, 97]⟩) = false from hb] at this
          clear hb
          go_wp2_with (go_at_call 49; refine (hC _).mono ?_; rintro e w' ⟨rfl, hw'⟩; have hw2 := hw'.symm; subst hw2; clear hw')
          go_round
          case rel => exact ⟨_, rfl, HL.out.step (k := 1) (by decide) rfl HB.out⟩
          case measure => simp [intOf]
        | true =>
          have HB : Hid (kindN (nm s) = 1 + 1 ∧ kE (nm s) = 0) := HL.out.hit HM.out (k := 1) (by decide) rfl hb
          have hC : ∀ w, Calls Tryd.prog 49 #[.string s, .string ⟨#[46, 114, 111, 100, 97, 116, 97]⟩] w fun e w' => e = .returned (.bool true) ∧ w' = w := fun w => by
            have := begins_walk s ⟨#[46, 114, 111, 100, 97, 116, 97]⟩ w hs
            rwa [show begB (nm s) (nm ⟨#[46, 114, 111, 100, 97, 116, 97]⟩) = true from hb] at this
          clear hb
          go_wp2_with (go_at_call 49; refine (hC _).mono ?_; rintro e w' ⟨rfl, hw'⟩; have hw2 := hw'.symm; subst hw2; clear hw')
          go_ret
          exact ⟨by rw [HB.out.1]; rfl, Kept.alloc _ _⟩
      · cases hb : begB (nm s) (kw 2) with
        | false =>
          have HB : Hid (begB (nm s) (kw 2) = false) := hb
          have hC : ∀ w, Calls Tryd.prog 49 #[.string s, .string ⟨#[46, 100, 97, 116, 97]⟩] w fun e w' => e = .returned (.bool false) ∧ w' = w := fun w => by
            have := begins_walk s ⟨#[46, 100, 97, 116, 97]⟩ w hs
            rwa [show begB (nm s) (nm ⟨#[46, 100, 97, 116, 97]⟩) = false from hb] at this
          clear hb
          go_wp2_with (go_at_call 49; refine (hC _).mono ?_; rintro e w' ⟨rfl, hw'⟩; have hw2 := hw'.symm; subst hw2; clear hw')
          go_round
          case rel => exact ⟨_, rfl, HL.out.step (k := 2) (by decide) rfl HB.out⟩
          case measure => simp [intOf]
        | true =>
          have HB : Hid (kindN (nm s) = 2 + 1 ∧ kE (nm s) = 0) := HL.out.hit HM.out (k := 2) (by decide) rfl hb
          have hC : ∀ w, Calls Tryd.prog 49 #[.string s, .string ⟨#[46, 100, 97, 116, 97]⟩] w fun e w' => e = .returned (.bool true) ∧ w' = w := fun w => by
            have := begins_walk s ⟨#[46, 100, 97, 116, 97]⟩ w hs
            rwa [show begB (nm s) (nm ⟨#[46, 100, 97, 116, 97]⟩) = true from hb] at this
          clear hb
          go_wp2_with (go_at_call 49; refine (hC _).mono ?_; rintro e w' ⟨rfl, hw'⟩; have hw2 := hw'.symm; subst hw2; clear hw')
          go_ret
          exact ⟨by rw [HB.out.1]; rfl, Kept.alloc _ _⟩
      · cases hb : begB (nm s) (kw 3) with
        | false =>
          have HB : Hid (begB (nm s) (kw 3) = false) := hb
          have hC : ∀ w, Calls Tryd.prog 49 #[.string s, .string ⟨#[46, 98, 115, 115]⟩] w fun e w' => e = .returned (.bool false) ∧ w' = w := fun w => by
            have := begins_walk s ⟨#[46, 98, 115, 115]⟩ w hs
            rwa [show begB (nm s) (nm ⟨#[46, 98, 115, 115]⟩) = false from hb] at this
          clear hb
          go_wp2_with (go_at_call 49; refine (hC _).mono ?_; rintro e w' ⟨rfl, hw'⟩; have hw2 := hw'.symm; subst hw2; clear hw')
          go_round
          case rel => exact ⟨_, rfl, HL.out.step (k := 3) (by decide) rfl HB.out⟩
          case measure => simp [intOf]
        | true =>
          have HB : Hid (kindN (nm s) = 3 + 1 ∧ kE (nm s) = 0) := HL.out.hit HM.out (k := 3) (by decide) rfl hb
          have hC : ∀ w, Calls Tryd.prog 49 #[.string s, .string ⟨#[46, 98, 115, 115]⟩] w fun e w' => e = .returned (.bool true) ∧ w' = w := fun w => by
            have := begins_walk s ⟨#[46, 98, 115, 115]⟩ w hs
            rwa [show begB (nm s) (nm ⟨#[46, 98, 115, 115]⟩) = true from hb] at this
          clear hb
          go_wp2_with (go_at_call 49; refine (hC _).mono ?_; rintro e w' ⟨rfl, hw'⟩; have hw2 := hw'.symm; subst hw2; clear hw')
          go_ret
          exact ⟨by rw [HB.out.1]; rfl, Kept.alloc _ _⟩
      · have HB : Hid (kindN (nm s) = 0 ∧ kE (nm s) = 3) := HL.out.miss
        go_wp2
        go_ret
        exact ⟨by rw [HB.out.1]; rfl, Kept.alloc _ _⟩

end Go.Proofs.YtbfmichhpcaamaaDoor
