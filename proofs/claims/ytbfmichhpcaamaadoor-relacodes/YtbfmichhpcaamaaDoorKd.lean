/- Kinds of names: the program's, and the document's. -/
import Derived.Test.YtbfmichhpcaamaaDoorNw
namespace Go.Proofs.YtbfmichhpcaamaaDoor
open Go.RowKit

theorem nm_extract (s : ByteArray) (a b : Nat) : nm (s.extract a b) = ((nm s).drop a).take (b - a) := by
  unfold nm
  rw [Lib.extract_data, List.map_take, List.map_drop]
theorem take_eq_iff {s p : ByteArray} : s.extract 0 p.size = p ↔ (nm s).take p.size = nm p := by
  rw [← nm_eq, nm_extract, List.drop_zero, Nat.sub_zero]

/-! ### The library's: does a text begin with another one? -/
def preB (s p : ByteArray) : Bool := decide (p.size ≤ s.size) && decide (s.extract 0 p.size = p)
theorem hasPrefix_walk (s p : ByteArray) (w : World) (hs : s.size ≤ maxLen) :
    Calls Tryd.prog 51 #[.string s, .string p] w fun e w' => e = .returned (.bool (preB s p)) ∧ w' = w := by
  have hs' : s.size ≤ 9223372036854775807 := by unfold maxLen at hs; omega
  by_cases h1 : p.size ≤ s.size
  · have d1 : decide ((p.size : Int) ≤ (s.size : Int)) = true := decide_eq_true (by omega)
    by_cases h2 : s.extract 0 p.size = p
    · have e : preB s p = true := by unfold preB; rw [decide_eq_true h1, decide_eq_true h2]; rfl
      rw [e]
      have q : ((s.extract 0 p.size).toList == p.toList) = true := beq_true h2
      clear h2
      go_enter Tryd.func51, Tryd.ntmps51
      go_wp2
      go_ret
      exact ⟨rfl, rfl⟩
    · have e : preB s p = false := by unfold preB; rw [decide_eq_false h2, Bool.and_false]
      rw [e]
      have q : ((s.extract 0 p.size).toList == p.toList) = false := beq_false h2
      clear h2
      go_enter Tryd.func51, Tryd.ntmps51
      go_wp2
      go_ret
      exact ⟨rfl, rfl⟩
  · have e : preB s p = false := by unfold preB; rw [decide_eq_false h1, Bool.false_and]
    rw [e]
    have d1 : decide ((p.size : Int) ≤ (s.size : Int)) = false := decide_eq_false (by omega)
    go_enter Tryd.func51, Tryd.ntmps51
    go_wp2
    go_ret
    exact ⟨rfl, rfl⟩

def CPost (s p : ByteArray) (w : World) (e : Ending) (w' : World) : Prop :=
  (∃ (r : ByteArray) (ok : Bool), e = .returned (.tuple #[.string r, .bool ok]) ∧ (ok = true → nm s = nm p ++ nm r) ∧ (ok = false → ∀ t, nm s ≠ nm p ++ t)) ∧ w' = w
theorem cutLite_walk (s p : ByteArray) (w : World) (hs : s.size ≤ maxLen) :
    Calls Tryd.prog 50 #[.string s, .string p] w fun e w' => CPost s p w e w' := by
  have hs' : s.size ≤ 9223372036854775807 := by unfold maxLen at hs; omega
  have hP := hasPrefix_walk s p w hs
  cases hq : preB s p with
  | true =>
    rw [hq] at hP
    have h0 := hq
    unfold preB at h0
    rw [Bool.and_eq_true, decide_eq_true_eq, decide_eq_true_eq] at h0
    obtain ⟨h1, h2⟩ := h0
    have HN : Hid (nm s = nm p ++ nm (s.extract p.size s.size)) := by
      unfold Hid
      rw [nm_extract, List.take_of_length_le (by rw [List.length_drop, nm_length]; exact Nat.le_refl _), ← take_eq_iff.1 h2, List.take_append_drop]
    clear h2 hq
    go_enter Tryd.func50, Tryd.ntmps50
    go_wp2_with (go_at_call 51; refine hP.mono ?_; rintro e w' ⟨rfl, hw'⟩; subst hw')
    go_ret2
    exact ⟨⟨_, _, rfl, fun _ => HN.out, (fun h => by cases h)⟩, rfl⟩
  | false =>
    rw [hq] at hP
    have HN : Hid (∀ t, nm s ≠ nm p ++ t) := by
      intro t ht
      have h1 : p.size ≤ s.size := by
        have := congrArg List.length ht
        rw [List.length_append, nm_length, nm_length] at this
        omega
      have h2 : s.extract 0 p.size = p := take_eq_iff.2 (by rw [ht, List.take_left' (nm_length p)])
      have : preB s p = true := by unfold preB; rw [decide_eq_true h1, decide_eq_true h2]; rfl
      rw [hq] at this
      cases this
    clear hq
    go_enter Tryd.func50, Tryd.ntmps50
    go_wp2_with (go_at_call 51; refine hP.mono ?_; rintro e w' ⟨rfl, hw'⟩; subst hw')
    go_ret2
    exact ⟨⟨_, _, rfl, (fun h => by cases h), fun _ => HN.out⟩, rfl⟩
theorem cutPrefix_walk (s p : ByteArray) (w : World) (hs : s.size ≤ maxLen) :
    Calls Tryd.prog 47 #[.string s, .string p] w fun e w' => CPost s p w e w' := by
  have hP := cutLite_walk s p w hs
  go_enter Tryd.func47, Tryd.ntmps47
  go_wp2_with (go_at_call 50; refine hP.mono ?_; rintro e w' ⟨⟨r, ok, rfl, h1, h2⟩, hw'⟩; subst hw'; have H1 : Hid (ok = true → nm s = nm p ++ nm r) := h1; have H2 : Hid (ok = false → ∀ t, nm s ≠ nm p ++ t) := h2; clear h1 h2)
  go_ret2
  exact ⟨⟨_, _, rfl, H1.out, H2.out⟩, rfl⟩

/-! ### Which kind -/
def kw : Nat → List Int
  | 0 => wText
  | 1 => wRodata
  | 2 => wData
  | _ => wBss
def kE (l : List Int) : Int := if kindN l = 0 then 3 else 0
theorem kindN_hit {l : List Int} (hm : mayNm l = true) {k : Nat} (hk : k < 4) (hp : ∀ j, j < k → begB l (kw j) = false) (h : begB l (kw k) = true) : kindN l = k + 1 := by
  unfold kindN
  rw [if_pos hm]
  match k, hk with
  | 0, _ => rw [if_pos (show begB l wText = true from h)]
  | 1, _ => rw [if_neg (by rw [show begB l wText = false from hp 0 (by decide)]; decide), if_pos (show begB l wRodata = true from h)]
  | 2, _ => rw [if_neg (by rw [show begB l wText = false from hp 0 (by decide)]; decide), if_neg (by rw [show begB l wRodata = false from hp 1 (by decide)]; decide), if_pos (show begB l wData = true from h)]
  | 3, _ => rw [if_neg (by rw [show begB l wText = false from hp 0 (by decide)]; decide), if_neg (by rw [show begB l wRodata = false from hp 1 (by decide)]; decide), if_neg (by rw [show begB l wData = false from hp 2 (by decide)]; decide), if_pos (show begB l wBss = true from h)]
theorem kindN_miss {l : List Int} (hp : ∀ j, j < 4 → begB l (kw j) = false) : kindN l = 0 := by
  unfold kindN
  split
  · rw [if_neg (by rw [show begB l wText = false from hp 0 (by decide)]; decide), if_neg (by rw [show begB l wRodata = false from hp 1 (by decide)]; decide), if_neg (by rw [show begB l wData = false from hp 2 (by decide)]; decide), if_neg (by rw [show begB l wBss = false from hp 3 (by decide)]; decide)]
  · rfl
theorem beg_cut {l w t : List Int} (h : l = w ++ t) : begB l w = (t.isEmpty || t.getD 0 0 == 46) := by
  subst h
  unfold begB
  rw [decide_eq_true (by simp), List.take_left' rfl]
  cases t with
  | nil => simp
  | cons a t => simp [List.getD]
theorem beg_no {l w : List Int} (h : ∀ t, l ≠ w ++ t) : begB l w = false := by
  cases hb : begB l w
  · rfl
  · obtain ⟨t, ht, _⟩ := begB_true hb
    exact absurd ht (h t)
/-- So many of the four have been looked at. -/
def Looked (l : List Int) (x : Int) : Prop := ∃ k : Nat, k ≤ 4 ∧ x = (k : Int) ∧ ∀ j, j < k → begB l (kw j) = false
theorem Looked.step {l : List Int} {x : Int} (h : Looked l x) {k : Nat} (hk : k < 4) (hx : x = (k : Int)) (hb : begB l (kw k) = false) : Looked l (x + 1) := by
  obtain ⟨k', _, e, h⟩ := h
  obtain rfl : k' = k := by omega
  refine ⟨k' + 1, by omega, by omega, fun j hj => ?_⟩
  by_cases e : j = k'
  · subst e; exact hb
  · exact h j (by omega)
theorem Looked.hit {l : List Int} {x : Int} (h : Looked l x) (hm : mayNm l = true) {k : Nat} (hk : k < 4) (hx : x = (k : Int)) (hb : begB l (kw k) = true) : kindN l = k + 1 ∧ kE l = 0 := by
  obtain ⟨k', _, e, h⟩ := h
  obtain rfl : k' = k := by omega
  have := kindN_hit hm hk h hb
  exact ⟨this, by unfold kE; rw [this]; rfl⟩
theorem Looked.miss {l : List Int} (h : Looked l 4) : kindN l = 0 ∧ kE l = 3 := by
  obtain ⟨k', _, e, h⟩ := h
  obtain rfl : k' = 4 := by omega
  have := kindN_miss h
  exact ⟨this, by unfold kE; rw [this]; rfl⟩
theorem Looked.cases {l : List Int} {x : Int} (h : Looked l x) : x = 0 ∨ x = 1 ∨ x = 2 ∨ x = 3 ∨ x = 4 := by
  obtain ⟨k', _, e, h⟩ := h
  omega
theorem kind_no {l : List Int} (h : mayNm l = false) : kindN l = 0 ∧ kE l = 3 := by
  have := kindN_no h
  exact ⟨this, by unfold kE; rw [this]; rfl⟩

set_option maxRecDepth 20000 in
set_option maxHeartbeats 3200000 in
/-- What Kind gives. -/
theorem kind_walk (s : ByteArray) (w : World) (hs : s.size ≤ maxLen) :
    Calls Tryd.prog 33 #[.string s] w fun e w' => e = .returned (.tuple #[.int .u8 (kindN (nm s)), .int .i64 (kE (nm s))]) ∧ Kept w w' := by
  have hN := isName_walk s w hs
  cases hm : mayNm (nm s) with
  | false =>
    rw [hm] at hN
    rw [(kind_no hm).1, (kind_no hm).2]
    clear hm
    go_enter Tryd.func33, Tryd.ntmps33
    go_wp2_with (go_at_call 46; refine hN.mono ?_; rintro e w' ⟨rfl, hw'⟩; subst hw')
    go_ret2
    exact ⟨rfl, Kept.refl _⟩
  | true =>
    rw [hm] at hN
    have HM : Hid (mayNm (nm s) = true) := hm
    clear hm
    have i0 : ∀ w, (Instr.index 75 (.agg #[.string ⟨#[46, 116, 101, 120, 116]⟩, .string ⟨#[46, 114, 111, 100, 97, 116, 97]⟩, .string ⟨#[46, 100, 97, 116, 97]⟩, .string ⟨#[46, 98, 115, 115]⟩]) (.int .i64 0)).run Tryd.prog w = .ok (.string ⟨#[46, 116, 101, 120, 116]⟩) w := fun _ => by kernel_rfl
    have i1 : ∀ w, (Instr.index 75 (.agg #[.string ⟨#[46, 116, 101, 120, 116]⟩, .string ⟨#[46, 114, 111, 100, 97, 116, 97]⟩, .string ⟨#[46, 100, 97, 116, 97]⟩, .string ⟨#[46, 98, 115, 115]⟩]) (.int .i64 1)).run Tryd.prog w = .ok (.string ⟨#[46, 114, 111, 100, 97, 116, 97]⟩) w := fun _ => by kernel_rfl
    have i2 : ∀ w, (Instr.index 75 (.agg #[.string ⟨#[46, 116, 101, 120, 116]⟩, .string ⟨#[46, 114, 111, 100, 97, 116, 97]⟩, .string ⟨#[46, 100, 97, 116, 97]⟩, .string ⟨#[46, 98, 115, 115]⟩]) (.int .i64 2)).run Tryd.prog w = .ok (.string ⟨#[46, 100, 97, 116, 97]⟩) w := fun _ => by kernel_rfl
    have i3 : ∀ w, (Instr.index 75 (.agg #[.string ⟨#[46, 116, 101, 120, 116]⟩, .string ⟨#[46, 114, 111, 100, 97, 116, 97]⟩, .string ⟨#[46, 100, 97, 116, 97]⟩, .string ⟨#[46, 98, 115, 115]⟩]) (.int .i64 3)).run Tryd.prog w = .ok (.string ⟨#[46, 98, 115, 115]⟩) w := fun _ => by kernel_rfl
    go_enter Tryd.func33, Tryd.ntmps33
    go_wp2_with (go_at_call 46; refine hN.mono ?_; rintro e w' ⟨rfl, hw'⟩; subst hw')
    go_loop [14] (fun i => ∃ x, i = .int .i64 x ∧ Hid (Looked (nm s) x)) (fun i => (4 - intOf i).toNat)
    case atStart => exact ⟨0, rfl, 0, by decide, rfl, fun j hj => absurd hj (Nat.not_lt_zero _)⟩
    case round =>
      obtain ⟨x, rfl, HL⟩ := hrel
      rcases HL.out.cases with rfl | rfl | rfl | rfl | rfl
      · clear i1 i2 i3
        go_upto_region 8 with (go_at_call 47; refine (cutPrefix_walk s _ _ hs).mono ?_; rintro e w' ⟨⟨r, ok, rfl, h1, h2⟩, hw'⟩; have hw2 := hw'.symm; subst hw2; clear hw'; have H1 : Hid (ok = true → nm s = kw 0 ++ nm r) := h1; have H2 : Hid (ok = false → ∀ t, nm s ≠ kw 0 ++ t) := h2; clear h1 h2)
        cases ok with
        | false =>
          have HB : Hid (begB (nm s) (kw 0) = false) := beg_no (H2.out rfl)
          clear H1 H2
          go_wp2
          go_round
          case rel => exact ⟨_, rfl, HL.out.step (k := 0) (by decide) rfl HB.out⟩
          case measure => simp [intOf]
        | true =>
          have hb := beg_cut (H1.out rfl)
          by_cases h0 : r.size = 0
          · have hr0 : nm r = [] := List.eq_nil_of_length_eq_zero (by rw [nm_length]; exact h0)
            have HB : Hid (kindN (nm s) = 0 + 1 ∧ kE (nm s) = 0) := HL.out.hit HM.out (k := 0) (by decide) rfl (by rw [hb, hr0]; rfl)
            have q : r.toList.isEmpty = true := by rw [nm_nil.1 hr0, Lib.toList_data]; rfl
            clear hb hr0 H1 H2 h0
            go_wp2
            go_ret2
            exact ⟨by rw [HB.out.1, HB.out.2]; rfl, Kept.alloc _ _⟩
          · have hlt : 0 < r.size := by omega
            have q : r.toList.isEmpty = false := by
              rw [Lib.toList_data]
              cases hh : r.data.toList with
              | nil =>
                have : (nm r).length = 0 := by unfold nm; rw [hh]; rfl
                rw [nm_length] at this
                omega
              | cons a t => rfl
            have hne : (nm r).isEmpty = false := by
              cases hh : nm r with
              | nil =>
                have := nm_length r
                rw [hh] at this
                simp at this
                omega
              | cons a t => rfl
            rw [hne, Bool.false_or] at hb
            cases hq : ((nm r).getD 0 0 == 46) with
            | true =>
              have HB : Hid (kindN (nm s) = 0 + 1 ∧ kE (nm s) = 0) := HL.out.hit HM.out (k := 0) (by decide) rfl (by rw [hb, hq])
              have e1 : ∀ h, (((r[0]'h).toNat : Int) == 46) = true := fun h => by rw [nm_at h]; exact hq
              clear hb hq hne H1 H2 h0
              go_wp2
              go_ret2
              exact ⟨by rw [HB.out.1, HB.out.2]; rfl, Kept.alloc _ _⟩
            | false =>
              have HB : Hid (begB (nm s) (kw 0) = false) := by
                unfold Hid
                rw [hb, hq]
              have e1 : ∀ h, (((r[0]'h).toNat : Int) == 46) = false := fun h => by rw [nm_at h]; exact hq
              clear hb hq hne H1 H2 h0
              go_wp2
              go_round
              case rel => exact ⟨_, rfl, HL.out.step (k := 0) (by decide) rfl HB.out⟩
              case measure => simp [intOf]
      · clear i0 i2 i3
        go_upto_region 8 with (go_at_call 47; refine (cutPrefix_walk s _ _ hs).mono ?_; rintro e w' ⟨⟨r, ok, rfl, h1, h2⟩, hw'⟩; have hw2 := hw'.symm; subst hw2; clear hw'; have H1 : Hid (ok = true → nm s = kw 1 ++ nm r) := h1; have H2 : Hid (ok = false → ∀ t, nm s ≠ kw 1 ++ t) := h2; clear h1 h2)
        cases ok with
        | false =>
          have HB : Hid (begB (nm s) (kw 1) = false) := beg_no (H2.out rfl)
          clear H1 H2
          go_wp2
          go_round
          case rel => exact ⟨_, rfl, HL.out.step (k := 1) (by decide) rfl HB.out⟩
          case measure => simp [intOf]
        | true =>
          have hb := beg_cut (H1.out rfl)
          by_cases h0 : r.size = 0
          · have hr0 : nm r = [] := List.eq_nil_of_length_eq_zero (by rw [nm_length]; exact h0)
            have HB : Hid (kindN (nm s) = 1 + 1 ∧ kE (nm s) = 0) := HL.out.hit HM.out (k := 1) (by decide) rfl (by rw [hb, hr0]; rfl)
            have q : r.toList.isEmpty = true := by rw [nm_nil.1 hr0, Lib.toList_data]; rfl
            clear hb hr0 H1 H2 h0
            go_wp2
            go_ret2
            exact ⟨by rw [HB.out.1, HB.out.2]; rfl, Kept.alloc _ _⟩
          · have hlt : 0 < r.size := by omega
            have q : r.toList.isEmpty = false := by
              rw [Lib.toList_data]
              cases hh : r.data.toList with
              | nil =>
                have : (nm r).length = 0 := by unfold nm; rw [hh]; rfl
                rw [nm_length] at this
                omega
              | cons a t => rfl
            have hne : (nm r).isEmpty = false := by
              cases hh : nm r with
              | nil =>
                have := nm_length r
                rw [hh] at this
                simp at this
                omega
              | cons a t => rfl
            rw [hne, Bool.false_or] at hb
            cases hq : ((nm r).getD 0 0 == 46) with
            | true =>
              have HB : Hid (kindN (nm s) = 1 + 1 ∧ kE (nm s) = 0) := HL.out.hit HM.out (k := 1) (by decide) rfl (by rw [hb, hq])
              have e1 : ∀ h, (((r[0]'h).toNat : Int) == 46) = true := fun h => by rw [nm_at h]; exact hq
              clear hb hq hne H1 H2 h0
              go_wp2
              go_ret2
              exact ⟨by rw [HB.out.1, HB.out.2]; rfl, Kept.alloc _ _⟩
            | false =>
              have HB : Hid (begB (nm s) (kw 1) = false) := by
                unfold Hid
                rw [hb, hq]
              have e1 : ∀ h, (((r[0]'h).toNat : Int) == 46) = false := fun h => by rw [nm_at h]; exact hq
              clear hb hq hne H1 H2 h0
              go_wp2
              go_round
              case rel => exact ⟨_, rfl, HL.out.step (k := 1) (by decide) rfl HB.out⟩
              case measure => simp [intOf]
      · clear i0 i1 i3
        go_upto_region 8 with (go_at_call 47; refine (cutPrefix_walk s _ _ hs).mono ?_; rintro e w' ⟨⟨r, ok, rfl, h1, h2⟩, hw'⟩; have hw2 := hw'.symm; subst hw2; clear hw'; have H1 : Hid (ok = true → nm s = kw 2 ++ nm r) := h1; have H2 : Hid (ok = false → ∀ t, nm s ≠ kw 2 ++ t) := h2; clear h1 h2)
        cases ok with
        | false =>
          have HB : Hid (begB (nm s) (kw 2) = false) := beg_no (H2.out rfl)
          clear H1 H2
          go_wp2
          go_round
          case rel => exact ⟨_, rfl, HL.out.step (k := 2) (by decide) rfl HB.out⟩
          case measure => simp [intOf]
        | true =>
          have hb := beg_cut (H1.out rfl)
          by_cases h0 : r.size = 0
          · have hr0 : nm r = [] := List.eq_nil_of_length_eq_zero (by rw [nm_length]; exact h0)
            have HB : Hid (kindN (nm s) = 2 + 1 ∧ kE (nm s) = 0) := HL.out.hit HM.out (k := 2) (by decide) rfl (by rw [hb, hr0]; rfl)
            have q : r.toList.isEmpty = true := by rw [nm_nil.1 hr0, Lib.toList_data]; rfl
            clear hb hr0 H1 H2 h0
            go_wp2
            go_ret2
            exact ⟨by rw [HB.out.1, HB.out.2]; rfl, Kept.alloc _ _⟩
          · have hlt : 0 < r.size := by omega
            have q : r.toList.isEmpty = false := by
              rw [Lib.toList_data]
              cases hh : r.data.toList with
              | nil =>
                have : (nm r).length = 0 := by unfold nm; rw [hh]; rfl
                rw [nm_length] at this
                omega
              | cons a t => rfl
            have hne : (nm r).isEmpty = false := by
              cases hh : nm r with
              | nil =>
                have := nm_length r
                rw [hh] at this
                simp at this
                omega
              | cons a t => rfl
            rw [hne, Bool.false_or] at hb
            cases hq : ((nm r).getD 0 0 == 46) with
            | true =>
              have HB : Hid (kindN (nm s) = 2 + 1 ∧ kE (nm s) = 0) := HL.out.hit HM.out (k := 2) (by decide) rfl (by rw [hb, hq])
              have e1 : ∀ h, (((r[0]'h).toNat : Int) == 46) = true := fun h => by rw [nm_at h]; exact hq
              clear hb hq hne H1 H2 h0
              go_wp2
              go_ret2
              exact ⟨by rw [HB.out.1, HB.out.2]; rfl, Kept.alloc _ _⟩
            | false =>
              have HB : Hid (begB (nm s) (kw 2) = false) := by
                unfold Hid
                rw [hb, hq]
              have e1 : ∀ h, (((r[0]'h).toNat : Int) == 46) = false := fun h => by rw [nm_at h]; exact hq
              clear hb hq hne H1 H2 h0
              go_wp2
              go_round
              case rel => exact ⟨_, rfl, HL.out.step (k := 2) (by decide) rfl HB.out⟩
              case measure => simp [intOf]
      · clear i0 i1 i2
        go_upto_region 8 with (go_at_call 47; refine (cutPrefix_walk s _ _ hs).mono ?_; rintro e w' ⟨⟨r, ok, rfl, h1, h2⟩, hw'⟩; have hw2 := hw'.symm; subst hw2; clear hw'; have H1 : Hid (ok = true → nm s = kw 3 ++ nm r) := h1; have H2 : Hid (ok = false → ∀ t, nm s ≠ kw 3 ++ t) := h2; clear h1 h2)
        cases ok with
        | false =>
          have HB : Hid (begB (nm s) (kw 3) = false) := beg_no (H2.out rfl)
          clear H1 H2
          go_wp2
          go_round
          case rel => exact ⟨_, rfl, HL.out.step (k := 3) (by decide) rfl HB.out⟩
          case measure => simp [intOf]
        | true =>
          have hb := beg_cut (H1.out rfl)
          by_cases h0 : r.size = 0
          · have hr0 : nm r = [] := List.eq_nil_of_length_eq_zero (by rw [nm_length]; exact h0)
            have HB : Hid (kindN (nm s) = 3 + 1 ∧ kE (nm s) = 0) := HL.out.hit HM.out (k := 3) (by decide) rfl (by rw [hb, hr0]; rfl)
            have q : r.toList.isEmpty = true := by rw [nm_nil.1 hr0, Lib.toList_data]; rfl
            clear hb hr0 H1 H2 h0
            go_wp2
            go_ret2
            exact ⟨by rw [HB.out.1, HB.out.2]; rfl, Kept.alloc _ _⟩
          · have hlt : 0 < r.size := by omega
            have q : r.toList.isEmpty = false := by
              rw [Lib.toList_data]
              cases hh : r.data.toList with
              | nil =>
                have : (nm r).length = 0 := by unfold nm; rw [hh]; rfl
                rw [nm_length] at this
                omega
              | cons a t => rfl
            have hne : (nm r).isEmpty = false := by
              cases hh : nm r with
              | nil =>
                have := nm_length r
                rw [hh] at this
                simp at this
                omega
              | cons a t => rfl
            rw [hne, Bool.false_or] at hb
            cases hq : ((nm r).getD 0 0 == 46) with
            | true =>
              have HB : Hid (kindN (nm s) = 3 + 1 ∧ kE (nm s) = 0) := HL.out.hit HM.out (k := 3) (by decide) rfl (by rw [hb, hq])
              have e1 : ∀ h, (((r[0]'h).toNat : Int) == 46) = true := fun h => by rw [nm_at h]; exact hq
              clear hb hq hne H1 H2 h0
              go_wp2
              go_ret2
              exact ⟨by rw [HB.out.1, HB.out.2]; rfl, Kept.alloc _ _⟩
            | false =>
              have HB : Hid (begB (nm s) (kw 3) = false) := by
                unfold Hid
                rw [hb, hq]
              have e1 : ∀ h, (((r[0]'h).toNat : Int) == 46) = false := fun h => by rw [nm_at h]; exact hq
              clear hb hq hne H1 H2 h0
              go_wp2
              go_round
              case rel => exact ⟨_, rfl, HL.out.step (k := 3) (by decide) rfl HB.out⟩
              case measure => simp [intOf]
      · have HB : Hid (kindN (nm s) = 0 ∧ kE (nm s) = 3) := HL.out.miss
        go_wp2
        go_ret2
        exact ⟨by rw [HB.out.1, HB.out.2]; rfl, Kept.alloc _ _⟩
end Go.Proofs.YtbfmichhpcaamaaDoor
