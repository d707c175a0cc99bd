/- Names that may be: the program's, the document's and the statement's own loops. Kinds of names: the program's, and the document's. Kinds of names: the document's own. Which sections may be: the program's, and the document's. -/
import Derived.Test.YtljmgbpecoifnaaGreatDoorBy
import Derived.Test.YtljmgbpecoifnaaGreatDoorJac
namespace Go.Proofs.YtljmgbpecoifnaaGreatDoor
open Go.RowKit

theorem mayNm_len {l : List Int} (h : l.length < 1 ∨ 32 < l.length) : mayNm l = false := by
  unfold mayNm
  rw [decide_eq_false (by omega)]
  rfl
theorem all_mem {l : List Int} {k : Nat} (hk : k < l.length) (h : okC (l.getD k 0) = false) : l.all okC = false := by
  rw [List.all_eq_false]
  refine ⟨l.getD k 0, ?_, by rw [h]; decide⟩
  rw [List.getD, List.getElem?_eq_getElem hk]
  exact List.getElem_mem hk
theorem all_each {l : List Int} {n : Nat} (hn : l.length = n) (h : ∀ j, j < n → okC (l.getD j 0) = true) : l.all okC = true := by
  subst hn
  rw [List.all_eq_true]
  intro x hx
  obtain ⟨j, hj, rfl⟩ := List.mem_iff_getElem.1 hx
  have := h j hj
  rwa [List.getD, List.getElem?_eq_getElem hj] at this
theorem mayNm_all {l : List Int} (h0 : 1 ≤ l.length) (h1 : l.length ≤ 32) : mayNm l = l.all okC := by
  unfold mayNm
  rw [decide_eq_true (⟨h0, h1⟩ : _ ∧ _)]
  rfl
theorem okC_false {x : Int} (h : okC x = false) : x < 33 ∨ 126 < x := by
  have := of_decide_eq_false h
  omega
theorem okC_true {x : Int} (h : okC x = true) : 33 ≤ x ∧ x ≤ 126 := of_decide_eq_true h

set_option maxHeartbeats 1600000 in
/-- May a name be? -/
theorem isName_walk (s : ByteArray) (w : World) (hs : s.size ≤ maxLen) :
    Calls Tryz.prog 51 #[.string s] w fun e w' => e = .returned (.bool (mayNm (nm s))) ∧ w' = w := by
  have hs' : s.size ≤ 9223372036854775807 := by unfold maxLen at hs; omega
  by_cases h1 : s.size < 1
  · rw [mayNm_len (by rw [nm_length]; omega)]
    have d : decide ((s.size : Int) < 1) = true := by simp; omega
    go_enter Tryz.func51, Tryz.ntmps51
    go_wp2
    go_ret
    exact ⟨rfl, rfl⟩
  · by_cases h2 : 32 < s.size
    · rw [mayNm_len (by rw [nm_length]; omega)]
      have d : decide ((s.size : Int) < 1) = false := by simp; omega
      have d2 : decide ((32 : Int) < (s.size : Int)) = true := by simp; omega
      go_enter Tryz.func51, Tryz.ntmps51
      go_wp2
      go_ret
      exact ⟨rfl, rfl⟩
    · rw [mayNm_all (by rw [nm_length]; omega) (by rw [nm_length]; omega)]
      have d : decide ((s.size : Int) < 1) = false := by simp; omega
      have d2 : decide ((32 : Int) < (s.size : Int)) = false := by simp; omega
      go_enter Tryz.func51, Tryz.ntmps51
      go_wp2
      go_loop [14] (fun i => ∃ k : Nat, k ≤ s.size ∧ i = .int .i64 k ∧ Hid (∀ j, j < k → okC ((nm s).getD j 0) = true)) (fun i => s.size - (intOf i).toNat)
      case atStart => exact ⟨0, Nat.zero_le _, rfl, fun j hj => absurd hj (Nat.not_lt_zero _)⟩
      case round =>
        obtain ⟨k, hk, rfl, A⟩ := hrel
        by_cases hlt : k < s.size
        · cases hq : okC ((nm s).getD k 0) with
          | false =>
            have HA : Hid ((nm s).all okC = false) := all_mem (by rw [nm_length]; exact hlt) hq
            rcases okC_false hq with hx | hx
            · have e1 : ∀ h, decide (((s[k]'h).toNat : Int) < 33) = true := fun h => by rw [nm_at h]; simpa using hx
              have e1' : ∀ h, (s[k]'h).toNat < 33 := fun h => by have := nm_at h; omega
              clear hq hx
              go_wp2
              go_ret
              exact ⟨by rw [HA.out]; rfl, rfl⟩
            · have e1 : ∀ h, decide (((s[k]'h).toNat : Int) < 33) = false := fun h => by rw [nm_at h]; exact decide_eq_false (by omega)
              have e1' : ∀ h, ¬ (s[k]'h).toNat < 33 := fun h => by have := nm_at h; omega
              have e2 : ∀ h, decide ((126 : Int) < ((s[k]'h).toNat : Int)) = true := fun h => by rw [nm_at h]; simpa using hx
              have e2' : ∀ h, 126 < (s[k]'h).toNat := fun h => by have := nm_at h; omega
              clear hq hx
              go_wp2
              go_ret
              exact ⟨by rw [HA.out]; rfl, rfl⟩
          | true =>
            obtain ⟨hx1, hx2⟩ := okC_true hq
            have e1 : ∀ h, decide (((s[k]'h).toNat : Int) < 33) = false := fun h => by rw [nm_at h]; exact decide_eq_false (by omega)
            have e1' : ∀ h, ¬ (s[k]'h).toNat < 33 := fun h => by have := nm_at h; omega
            have e2 : ∀ h, decide ((126 : Int) < ((s[k]'h).toNat : Int)) = false := fun h => by rw [nm_at h]; exact decide_eq_false (by omega)
            have e2' : ∀ h, ¬ 126 < (s[k]'h).toNat := fun h => by have := nm_at h; omega
            have HQ : Hid (okC ((nm s).getD k 0) = true) := hq
            clear hq hx1 hx2
            go_wp2
            go_round
            case rel =>
              refine ⟨k + 1, by omega, by go_num, fun j hj => ?_⟩
              by_cases e : j = k
              · subst e; exact HQ.out
              · exact A.out j (by omega)
            case measure => simp [intOf]; omega
        · obtain rfl : k = s.size := by omega
          have HA : Hid ((nm s).all okC = true) := all_each (nm_length s) A.out
          go_wp2
          go_ret
          exact ⟨by rw [HA.out]; rfl, rfl⟩

set_option maxHeartbeats 1600000 in
/-- The document's own. -/
theorem rmayName_walk (s : ByteArray) (w : World) (hs : s.size ≤ maxLen) :
    Calls Tryz.prog 109 #[.string s] w fun e w' => e = .returned (.bool (mayNm (nm s))) ∧ w' = w := by
  have hs' : s.size ≤ 9223372036854775807 := by unfold maxLen at hs; omega
  go_enter Tryz.func109, Tryz.ntmps109
  go_wp2
  go_loop [3] (fun i => ∃ k : Nat, k ≤ s.size ∧ i = .int .i64 k ∧ Hid (∀ j, j < k → okC ((nm s).getD j 0) = true)) (fun i => s.size - (intOf i).toNat)
  case atStart => exact ⟨0, Nat.zero_le _, rfl, fun j hj => absurd hj (Nat.not_lt_zero _)⟩
  case round =>
    obtain ⟨k, hk, rfl, A⟩ := hrel
    by_cases hlt : k < s.size
    · cases hq : okC ((nm s).getD k 0) with
      | false =>
        have HA : Hid (mayNm (nm s) = false) := by
          have := all_mem (by rw [nm_length]; exact hlt) hq
          unfold Hid mayNm
          rw [this, Bool.and_false]
        rcases okC_false hq with hx | hx
        · have e1 : ∀ h, decide (((s[k]'h).toNat : Int) < 33) = true := fun h => by rw [nm_at h]; simpa using hx
          have e1' : ∀ h, (s[k]'h).toNat < 33 := fun h => by have := nm_at h; omega
          clear hq hx
          go_wp2
          go_ret
          exact ⟨by rw [HA.out]; rfl, rfl⟩
        · have e1 : ∀ h, decide (((s[k]'h).toNat : Int) < 33) = false := fun h => by rw [nm_at h]; exact decide_eq_false (by omega)
          have e1' : ∀ h, ¬ (s[k]'h).toNat < 33 := fun h => by have := nm_at h; omega
          have e2 : ∀ h, decide ((126 : Int) < ((s[k]'h).toNat : Int)) = true := fun h => by rw [nm_at h]; simpa using hx
          have e2' : ∀ h, 126 < (s[k]'h).toNat := fun h => by have := nm_at h; omega
          clear hq hx
          go_wp2
          go_ret
          exact ⟨by rw [HA.out]; rfl, rfl⟩
      | true =>
        obtain ⟨hx1, hx2⟩ := okC_true hq
        have e1 : ∀ h, decide (((s[k]'h).toNat : Int) < 33) = false := fun h => by rw [nm_at h]; exact decide_eq_false (by omega)
        have e1' : ∀ h, ¬ (s[k]'h).toNat < 33 := fun h => by have := nm_at h; omega
        have e2 : ∀ h, decide ((126 : Int) < ((s[k]'h).toNat : Int)) = false := fun h => by rw [nm_at h]; exact decide_eq_false (by omega)
        have e2' : ∀ h, ¬ 126 < (s[k]'h).toNat := fun h => by have := nm_at h; omega
        have HQ : Hid (okC ((nm s).getD k 0) = true) := hq
        clear hq hx1 hx2
        go_wp2
        go_round
        case rel =>
          refine ⟨k + 1, by omega, by go_num, fun j hj => ?_⟩
          by_cases e : j = k
          · subst e; exact HQ.out
          · exact A.out j (by omega)
        case measure => simp [intOf]; omega
    · obtain rfl : k = s.size := by omega
      have hA := all_each (nm_length s) A.out
      by_cases h1 : s.size < 1
      · have d : decide ((1 : Int) ≤ (s.size : Int)) = false := by simp; omega
        have HM : Hid (mayNm (nm s) = false) := mayNm_len (by rw [nm_length]; omega)
        go_wp2
        go_ret
        exact ⟨by rw [HM.out]; rfl, rfl⟩
      · have d : decide ((1 : Int) ≤ (s.size : Int)) = true := by simp; omega
        by_cases h2 : 32 < s.size
        · have d2 : decide ((s.size : Int) ≤ 32) = false := by simp; omega
          have HM : Hid (mayNm (nm s) = false) := mayNm_len (by rw [nm_length]; omega)
          go_wp2
          go_ret
          exact ⟨by rw [HM.out]; rfl, rfl⟩
        · have d2 : decide ((s.size : Int) ≤ 32) = true := by simp; omega
          have HM : Hid (mayNm (nm s) = true) := by
            unfold Hid
            rw [mayNm_all (by rw [nm_length]; omega) (by rw [nm_length]; omega)]
            exact hA
          clear hA
          go_wp2
          go_ret
          exact ⟨by rw [HM.out]; rfl, rfl⟩

theorem nm_extract (s : ByteArray) (a b : Nat) : nm (s.extract a b) = ((nm s).drop a).take (b - a) := by
  unfold nm
  rw [Lib.extract_data, List.map_take, List.map_drop]
theorem take_eq_iff {s p : ByteArray} : s.extract 0 p.size = p ↔ (nm s).take p.size = nm p := by
  rw [← nm_eq, nm_extract, List.drop_zero, Nat.sub_zero]

/-! ### The library's: does a text begin with another one? -/
def preB (s p : ByteArray) : Bool := decide (p.size ≤ s.size) && decide (s.extract 0 p.size = p)
theorem hasPrefix_walk (s p : ByteArray) (w : World) (hs : s.size ≤ maxLen) :
    Calls Tryz.prog 159 #[.string s, .string p] w fun e w' => e = .returned (.bool (preB s p)) ∧ w' = w := by
  have hs' : s.size ≤ 9223372036854775807 := by unfold maxLen at hs; omega
  by_cases h1 : p.size ≤ s.size
  · have d1 : decide ((p.size : Int) ≤ (s.size : Int)) = true := decide_eq_true (by omega)
    by_cases h2 : s.extract 0 p.size = p
    · have e : preB s p = true := by unfold preB; rw [decide_eq_true h1, decide_eq_true h2]; rfl
      rw [e]
      have q : ((s.extract 0 p.size).toList == p.toList) = true := beq_true h2
      clear h2
      go_enter Tryz.func159, Tryz.ntmps159
      go_wp2
      go_ret
      exact ⟨rfl, rfl⟩
    · have e : preB s p = false := by unfold preB; rw [decide_eq_false h2, Bool.and_false]
      rw [e]
      have q : ((s.extract 0 p.size).toList == p.toList) = false := beq_false h2
      clear h2
      go_enter Tryz.func159, Tryz.ntmps159
      go_wp2
      go_ret
      exact ⟨rfl, rfl⟩
  · have e : preB s p = false := by unfold preB; rw [decide_eq_false h1, Bool.false_and]
    rw [e]
    have d1 : decide ((p.size : Int) ≤ (s.size : Int)) = false := decide_eq_false (by omega)
    go_enter Tryz.func159, Tryz.ntmps159
    go_wp2
    go_ret
    exact ⟨rfl, rfl⟩

def CPost (s p : ByteArray) (w : World) (e : Ending) (w' : World) : Prop :=
  (∃ (r : ByteArray) (ok : Bool), e = .returned (.tuple #[.string r, .bool ok]) ∧ (ok = true → nm s = nm p ++ nm r) ∧ (ok = false → ∀ t, nm s ≠ nm p ++ t)) ∧ w' = w
theorem cutLite_walk (s p : ByteArray) (w : World) (hs : s.size ≤ maxLen) :
    Calls Tryz.prog 141 #[.string s, .string p] w fun e w' => CPost s p w e w' := by
  have hs' : s.size ≤ 9223372036854775807 := by unfold maxLen at hs; omega
  have hP := hasPrefix_walk s p w hs
  cases hq : preB s p with
  | true =>
    rw [hq] at hP
    have h0 := hq
    unfold preB at h0
    rw [Bool.and_eq_true, decide_eq_true_eq, decide_eq_true_eq] at h0
    obtain ⟨h1, h2⟩ := h0
    have HN : Hid (nm s = nm p ++ nm (s.extract p.size s.size)) := by
      unfold Hid
      rw [nm_extract, List.take_of_length_le (by rw [List.length_drop, nm_length]; exact Nat.le_refl _), ← take_eq_iff.1 h2, List.take_append_drop]
    clear h2 hq
    go_enter Tryz.func141, Tryz.ntmps141
    go_wp2_with (go_at_call 159; refine hP.mono ?_; rintro e w' ⟨rfl, hw'⟩; subst hw')
    go_ret2
    exact ⟨⟨_, _, rfl, fun _ => HN.out, (fun h => by cases h)⟩, rfl⟩
  | false =>
    rw [hq] at hP
    have HN : Hid (∀ t, nm s ≠ nm p ++ t) := by
      intro t ht
      have h1 : p.size ≤ s.size := by
        have := congrArg List.length ht
        rw [List.length_append, nm_length, nm_length] at this
        omega
      have h2 : s.extract 0 p.size = p := take_eq_iff.2 (by rw [ht, List.take_left' (nm_length p)])
      have : preB s p = true := by unfold preB; rw [decide_eq_true h1, decide_eq_true h2]; rfl
      rw [hq] at this
      cases this
    clear hq
    go_enter Tryz.func141, Tryz.ntmps141
    go_wp2_with (go_at_call 159; refine hP.mono ?_; rintro e w' ⟨rfl, hw'⟩; subst hw')
    go_ret2
    exact ⟨⟨_, _, rfl, (fun h => by cases h), fun _ => HN.out⟩, rfl⟩
theorem cutPrefix_walk (s p : ByteArray) (w : World) (hs : s.size ≤ maxLen) :
    Calls Tryz.prog 115 #[.string s, .string p] w fun e w' => CPost s p w e w' := by
  have hP := cutLite_walk s p w hs
  go_enter Tryz.func115, Tryz.ntmps115
  go_wp2_with (go_at_call 141; refine hP.mono ?_; rintro e w' ⟨⟨r, ok, rfl, h1, h2⟩, hw'⟩; subst hw'; have H1 : Hid (ok = true → nm s = nm p ++ nm r) := h1; have H2 : Hid (ok = false → ∀ t, nm s ≠ nm p ++ t) := h2; clear h1 h2)
  go_ret2
  exact ⟨⟨_, _, rfl, H1.out, H2.out⟩, rfl⟩

/-! ### Which kind -/
def kw : Nat → List Int
  | 0 => wText
  | 1 => wRodata
  | 2 => wData
  | _ => wBss
def kE (l : List Int) : Int := if kindN l = 0 then 3 else 0
theorem kindN_hit {l : List Int} (hm : mayNm l = true) {k : Nat} (hk : k < 4) (hp : ∀ j, j < k → begB l (kw j) = false) (h : begB l (kw k) = true) : kindN l = k + 1 := by
  unfold kindN
  rw [if_pos hm]
  match k, hk with
  | 0, _ => rw [if_pos (show begB l wText = true from h)]
  | 1, _ => rw [if_neg (by rw [show begB l wText = false from hp 0 (by decide)]; decide), if_pos (show begB l wRodata = true from h)]
  | 2, _ => rw [if_neg (by rw [show begB l wText = false from hp 0 (by decide)]; decide), if_neg (by rw [show begB l wRodata = false from hp 1 (by decide)]; decide), if_pos (show begB l wData = true from h)]
  | 3, _ => rw [if_neg (by rw [show begB l wText = false from hp 0 (by decide)]; decide), if_neg (by rw [show begB l wRodata = false from hp 1 (by decide)]; decide), if_neg (by rw [show begB l wData = false from hp 2 (by decide)]; decide), if_pos (show begB l wBss = true from h)]
theorem kindN_miss {l : List Int} (hp : ∀ j, j < 4 → begB l (kw j) = false) : kindN l = 0 := by
  unfold kindN
  split
  · rw [if_neg (by rw [show begB l wText = false from hp 0 (by decide)]; decide), if_neg (by rw [show begB l wRodata = false from hp 1 (by decide)]; decide), if_neg (by rw [show begB l wData = false from hp 2 (by decide)]; decide), if_neg (by rw [show begB l wBss = false from hp 3 (by decide)]; decide)]
  · rfl
theorem beg_cut {l w t : List Int} (h : l = w ++ t) : begB l w = (t.isEmpty || t.getD 0 0 == 46) := by
  subst h
  unfold begB
  rw [decide_eq_true (by simp), List.take_left' rfl]
  cases t with
  | nil => simp
  | cons a t => simp [List.getD]
theorem beg_no {l w : List Int} (h : ∀ t, l ≠ w ++ t) : begB l w = false := by
  cases hb : begB l w
  · rfl
  · obtain ⟨t, ht, _⟩ := begB_true hb
    exact absurd ht (h t)
/-- So many of the four have been looked at. -/
def Looked (l : List Int) (x : Int) : Prop := ∃ k : Nat, k ≤ 4 ∧ x = (k : Int) ∧ ∀ j, j < k → begB l (kw j) = false
theorem Looked.step {l : List Int} {x : Int} (h : Looked l x) {k : Nat} (hk : k < 4) (hx : x = (k : Int)) (hb : begB l (kw k) = false) : Looked l (x + 1) := by
  obtain ⟨k', _, e, h⟩ := h
  obtain rfl : k' = k := by omega
  refine ⟨k' + 1, by omega, by omega, fun j hj => ?_⟩
  by_cases e : j = k'
  · subst e; exact hb
  · exact h j (by omega)
theorem Looked.hit {l : List Int} {x : Int} (h : Looked l x) (hm : mayNm l = true) {k : Nat} (hk : k < 4) (hx : x = (k : Int)) (hb : begB l (kw k) = true) : kindN l = k + 1 ∧ kE l = 0 := by
  obtain ⟨k', _, e, h⟩ := h
  obtain rfl : k' = k := by omega
  have := kindN_hit hm hk h hb
  exact ⟨this, by unfold kE; rw [this]; rfl⟩
theorem Looked.miss {l : List Int} (h : Looked l 4) : kindN l = 0 ∧ kE l = 3 := by
  obtain ⟨k', _, e, h⟩ := h
  obtain rfl : k' = 4 := by omega
  have := kindN_miss h
  exact ⟨this, by unfold kE; rw [this]; rfl⟩
theorem Looked.cases {l : List Int} {x : Int} (h : Looked l x) : x = 0 ∨ x = 1 ∨ x = 2 ∨ x = 3 ∨ x = 4 := by
  obtain ⟨k', _, e, h⟩ := h
  omega
theorem kind_no {l : List Int} (h : mayNm l = false) : kindN l = 0 ∧ kE l = 3 := by
  have := kindN_no h
  exact ⟨this, by unfold kE; rw [this]; rfl⟩

set_option maxRecDepth 20000 in
set_option maxHeartbeats 3200000 in
/-- What Kind gives. -/
theorem kind_walk (s : ByteArray) (w : World) (hs : s.size ≤ maxLen) :
    Calls Tryz.prog 76 #[.string s] w fun e w' => e = .returned (.tuple #[.int .u8 (kindN (nm s)), .int .i64 (kE (nm s))]) ∧ Kept w w' := by
  have hN := isName_walk s w hs
  cases hm : mayNm (nm s) with
  | false =>
    rw [hm] at hN
    rw [(kind_no hm).1, (kind_no hm).2]
    clear hm
    go_enter Tryz.func76, Tryz.ntmps76
    go_wp2_with (go_at_call 51; refine hN.mono ?_; rintro e w' ⟨rfl, hw'⟩; subst hw')
    go_ret2
    exact ⟨rfl, Kept.refl _⟩
  | true =>
    rw [hm] at hN
    have HM : Hid (mayNm (nm s) = true) := hm
    clear hm
    have i0 : ∀ w, (Instr.index 140 (.agg #[.string ⟨#[46, 116, 101, 120, 116]⟩, .string ⟨#[46, 114, 111, 100, 97, 116, 97]⟩, .string ⟨#[46, 100, 97, 116, 97]⟩, .string ⟨#[46, 98, 115, 115]⟩]) (.int .i64 0)).run Tryz.prog w = .ok (.string ⟨#[46, 116, 101, 120, 116]⟩) w := fun _ => by kernel_rfl
    have i1 : ∀ w, (Instr.index 140 (.agg #[.string ⟨#[46, 116, 101, 120, 116]⟩, .string ⟨#[46, 114, 111, 100, 97, 116, 97]⟩, .string ⟨#[46, 100, 97, 116, 97]⟩, .string ⟨#[46, 98, 115, 115]⟩]) (.int .i64 1)).run Tryz.prog w = .ok (.string ⟨#[46, 114, 111, 100, 97, 116, 97]⟩) w := fun _ => by kernel_rfl
    have i2 : ∀ w, (Instr.index 140 (.agg #[.string ⟨#[46, 116, 101, 120, 116]⟩, .string ⟨#[46, 114, 111, 100, 97, 116, 97]⟩, .string ⟨#[46, 100, 97, 116, 97]⟩, .string ⟨#[46, 98, 115, 115]⟩]) (.int .i64 2)).run Tryz.prog w = .ok (.string ⟨#[46, 100, 97, 116, 97]⟩) w := fun _ => by kernel_rfl
    have i3 : ∀ w, (Instr.index 140 (.agg #[.string ⟨#[46, 116, 101, 120, 116]⟩, .string ⟨#[46, 114, 111, 100, 97, 116, 97]⟩, .string ⟨#[46, 100, 97, 116, 97]⟩, .string ⟨#[46, 98, 115, 115]⟩]) (.int .i64 3)).run Tryz.prog w = .ok (.string ⟨#[46, 98, 115, 115]⟩) w := fun _ => by kernel_rfl
    go_enter Tryz.func76, Tryz.ntmps76
    go_wp2_with (go_at_call 51; refine hN.mono ?_; rintro e w' ⟨rfl, hw'⟩; subst hw')
    go_loop [14] (fun i => ∃ x, i = .int .i64 x ∧ Hid (Looked (nm s) x)) (fun i => (4 - intOf i).toNat)
    case atStart => exact ⟨0, rfl, 0, by decide, rfl, fun j hj => absurd hj (Nat.not_lt_zero _)⟩
    case round =>
      obtain ⟨x, rfl, HL⟩ := hrel
      rcases HL.out.cases with rfl | rfl | rfl | rfl | rfl
      · clear i1 i2 i3
        go_upto_region 8 with (go_at_call 115; refine (cutPrefix_walk s _ _ hs).mono ?_; rintro e w' ⟨⟨r, ok, rfl, h1, h2⟩, hw'⟩; have hw2 := hw'.symm; subst hw2; clear hw'; have H1 : Hid (ok = true → nm s = kw 0 ++ nm r) := h1; have H2 : Hid (ok = false → ∀ t, nm s ≠ kw 0 ++ t) := h2; clear h1 h2)
        cases ok with
        | false =>
          have HB : Hid (begB (nm s) (kw 0) = false) := beg_no (H2.out rfl)
          clear H1 H2
          go_wp2
          go_round
          case rel => exact ⟨_, rfl, HL.out.step (k := 0) (by decide) rfl HB.out⟩
          case measure => simp [intOf]
        | true =>
          have hb := beg_cut (H1.out rfl)
          by_cases h0 : r.size = 0
          · have hr0 : nm r = [] := List.eq_nil_of_length_eq_zero (by rw [nm_length]; exact h0)
            have HB : Hid (kindN (nm s) = 0 + 1 ∧ kE (nm s) = 0) := HL.out.hit HM.out (k := 0) (by decide) rfl (by rw [hb, hr0]; rfl)
            have q : r.toList.isEmpty = true := by rw [nm_nil.1 hr0, Lib.toList_data]; rfl
            clear hb hr0 H1 H2 h0
            go_wp2
            go_ret2
            exact ⟨by rw [HB.out.1, HB.out.2]; rfl, Kept.alloc _ _⟩
          · have hlt : 0 < r.size := by omega
            have q : r.toList.isEmpty = false := by
              rw [Lib.toList_data]
              cases hh : r.data.toList with
              | nil =>
                have : (nm r).length = 0 := by unfold nm; rw [hh]; rfl
                rw [nm_length] at this
                omega
              | cons a t => rfl
            have hne : (nm r).isEmpty = false := by
              cases hh : nm r with
              | nil =>
                have := nm_length r
                rw [hh] at this
                simp at this
                omega
              | cons a t => rfl
            rw [hne, Bool.false_or] at hb
            cases hq : ((nm r).getD 0 0 == 46) with
            | true =>
              have HB : Hid (kindN (nm s) = 0 + 1 ∧ kE (nm s) = 0) := HL.out.hit HM.out (k := 0) (by decide) rfl (by rw [hb, hq])
              have e1 : ∀ h, (((r[0]'h).toNat : Int) == 46) = true := fun h => by rw [nm_at h]; exact hq
              clear hb hq hne H1 H2 h0
              go_wp2
              go_ret2
              exact ⟨by rw [HB.out.1, HB.out.2]; rfl, Kept.alloc _ _⟩
            | false =>
              have HB : Hid (begB (nm s) (kw 0) = false) := by
                unfold Hid
                rw [hb, hq]
              have e1 : ∀ h, (((r[0]'h).toNat : Int) == 46) = false := fun h => by rw [nm_at h]; exact hq
              clear hb hq hne H1 H2 h0
              go_wp2
              go_round
              case rel => exact ⟨_, rfl, HL.out.step (k := 0) (by decide) rfl HB.out⟩
              case measure => simp [intOf]
      · clear i0 i2 i3
        go_upto_region 8 with (go_at_call 115; refine (cutPrefix_walk s _ _ hs).mono ?_; rintro e w' ⟨⟨r, ok, rfl, h1, h2⟩, hw'⟩; have hw2 := hw'.symm; subst hw2; clear hw'; have H1 : Hid (ok = true → nm s = kw 1 ++ nm r) := h1; have H2 : Hid (ok = false → ∀ t, nm s ≠ kw 1 ++ t) := h2; clear h1 h2)
        cases ok with
        | false =>
          have HB : Hid (begB (nm s) (kw 1) = false) := beg_no (H2.out rfl)
          clear H1 H2
          go_wp2
          go_round
          case rel => exact ⟨_, rfl, HL.out.step (k := 1) (by decide) rfl HB.out⟩
          case measure => simp [intOf]
        | true =>
          have hb := beg_cut (H1.out rfl)
          by_cases h0 : r.size = 0
          · have hr0 : nm r = [] := List.eq_nil_of_length_eq_zero (by rw [nm_length]; exact h0)
            have HB : Hid (kindN (nm s) = 1 + 1 ∧ kE (nm s) = 0) := HL.out.hit HM.out (k := 1) (by decide) rfl (by rw [hb, hr0]; rfl)
            have q : r.toList.isEmpty = true := by rw [nm_nil.1 hr0, Lib.toList_data]; rfl
            clear hb hr0 H1 H2 h0
            go_wp2
            go_ret2
            exact ⟨by rw [HB.out.1, HB.out.2]; rfl, Kept.alloc _ _⟩
          · have hlt : 0 < r.size := by omega
            have q : r.toList.isEmpty = false := by
              rw [Lib.toList_data]
              cases hh : r.data.toList with
              | nil =>
                have : (nm r).length = 0 := by unfold nm; rw [hh]; rfl
                rw [nm_length] at this
                omega
              | cons a t => rfl
            have hne : (nm r).isEmpty = false := by
              cases hh : nm r with
              | nil =>
                have := nm_length r
                rw [hh] at this
                simp at this
                omega
              | cons a t => rfl
            rw [hne, Bool.false_or] at hb
            cases hq : ((nm r).getD 0 0 == 46) with
            | true =>
              have HB : Hid (kindN (nm s) = 1 + 1 ∧ kE (nm s) = 0) := HL.out.hit HM.out (k := 1) (by decide) rfl (by rw [hb, hq])
              have e1 : ∀ h, (((r[0]'h).toNat : Int) == 46) = true := fun h => by rw [nm_at h]; exact hq
              clear hb hq hne H1 H2 h0
              go_wp2
              go_ret2
              exact ⟨by rw [HB.out.1, HB.out.2]; rfl, Kept.alloc _ _⟩
            | false =>
              have HB : Hid (begB (nm s) (kw 1) = false) := by
                unfold Hid
                rw [hb, hq]
              have e1 : ∀ h, (((r[0]'h).toNat : Int) == 46) = false := fun h => by rw [nm_at h]; exact hq
              clear hb hq hne H1 H2 h0
              go_wp2
              go_round
              case rel => exact ⟨_, rfl, HL.out.step (k := 1) (by decide) rfl HB.out⟩
              case measure => simp [intOf]
      · clear i0 i1 i3
        go_upto_region 8 with (go_at_call 115; refine (cutPrefix_walk s _ _ hs).mono ?_; rintro e w' ⟨⟨r, ok, rfl, h1, h2⟩, hw'⟩; have hw2 := hw'.symm; subst hw2; clear hw'; have H1 : Hid (ok = true → nm s = kw 2 ++ nm r) := h1; have H2 : Hid (ok = false → ∀ t, nm s ≠ kw 2 ++ t) := h2; clear h1 h2)
        cases ok with
        | false =>
          have HB : Hid (begB (nm s) (kw 2) = false) := beg_no (H2.out rfl)
          clear H1 H2
          go_wp2
          go_round
          case rel => exact ⟨_, rfl, HL.out.step (k := 2) (by decide) rfl HB.out⟩
          case measure => simp [intOf]
        | true =>
          have hb := beg_cut (H1.out rfl)
          by_cases h0 : r.size = 0
          · have hr0 : nm r = [] := List.eq_nil_of_length_eq_zero (by rw [nm_length]; exact h0)
            have HB : Hid (kindN (nm s) = 2 + 1 ∧ kE (nm s) = 0) := HL.out.hit HM.out (k := 2) (by decide) rfl (by rw [hb, hr0]; rfl)
            have q : r.toList.isEmpty = true := by rw [nm_nil.1 hr0, Lib.toList_data]; rfl
            clear hb hr0 H1 H2 h0
            go_wp2
            go_ret2
            exact ⟨by rw [HB.out.1, HB.out.2]; rfl, Kept.alloc _ _⟩
          · have hlt : 0 < r.size := by omega
            have q : r.toList.isEmpty = false := by
              rw [Lib.toList_data]
              cases hh : r.data.toList with
              | nil =>
                have : (nm r).length = 0 := by unfold nm; rw [hh]; rfl
                rw [nm_length] at this
                omega
              | cons a t => rfl
            have hne : (nm r).isEmpty = false := by
              cases hh : nm r with
              | nil =>
                have := nm_length r
                rw [hh] at this
                simp at this
                omega
              | cons a t => rfl
            rw [hne, Bool.false_or] at hb
            cases hq : ((nm r).getD 0 0 == 46) with
            | true =>
              have HB : Hid (kindN (nm s) = 2 + 1 ∧ kE (nm s) = 0) := HL.out.hit HM.out (k := 2) (by decide) rfl (by rw [hb, hq])
              have e1 : ∀ h, (((r[0]'h).toNat : Int) == 46) = true := fun h => by rw [nm_at h]; exact hq
              clear hb hq hne H1 H2 h0
              go_wp2
              go_ret2
              exact ⟨by rw [HB.out.1, HB.out.2]; rfl, Kept.alloc _ _⟩
            | false =>
              have HB : Hid (begB (nm s) (kw 2) = false) := by
                unfold Hid
                rw [hb, hq]
              have e1 : ∀ h, (((r[0]'h).toNat : Int) == 46) = false := fun h => by rw [nm_at h]; exact hq
              clear hb hq hne H1 H2 h0
              go_wp2
              go_round
              case rel => exact ⟨_, rfl, HL.out.step (k := 2) (by decide) rfl HB.out⟩
              case measure => simp [intOf]
      · clear i0 i1 i2
        go_upto_region 8 with (go_at_call 115; refine (cutPrefix_walk s _ _ hs).mono ?_; rintro e w' ⟨⟨r, ok, rfl, h1, h2⟩, hw'⟩; have hw2 := hw'.symm; subst hw2; clear hw'; have H1 : Hid (ok = true → nm s = kw 3 ++ nm r) := h1; have H2 : Hid (ok = false → ∀ t, nm s ≠ kw 3 ++ t) := h2; clear h1 h2)
        cases ok with
        | false =>
          have HB : Hid (begB (nm s) (kw 3) = false) := beg_no (H2.out rfl)
          clear H1 H2
          go_wp2
          go_round
          case rel => exact ⟨_, rfl, HL.out.step (k := 3) (by decide) rfl HB.out⟩
          case measure => simp [intOf]
        | true =>
          have hb := beg_cut (H1.out rfl)
          by_cases h0 : r.size = 0
          · have hr0 : nm r = [] := List.eq_nil_of_length_eq_zero (by rw [nm_length]; exact h0)
            have HB : Hid (kindN (nm s) = 3 + 1 ∧ kE (nm s) = 0) := HL.out.hit HM.out (k := 3) (by decide) rfl (by rw [hb, hr0]; rfl)
            have q : r.toList.isEmpty = true := by rw [nm_nil.1 hr0, Lib.toList_data]; rfl
            clear hb hr0 H1 H2 h0
            go_wp2
            go_ret2
            exact ⟨by rw [HB.out.1, HB.out.2]; rfl, Kept.alloc _ _⟩
          · have hlt : 0 < r.size := by omega
            have q : r.toList.isEmpty = false := by
              rw [Lib.toList_data]
              cases hh : r.data.toList with
              | nil =>
                have : (nm r).length = 0 := by unfold nm; rw [hh]; rfl
                rw [nm_length] at this
                omega
              | cons a t => rfl
            have hne : (nm r).isEmpty = false := by
              cases hh : nm r with
              | nil =>
                have := nm_length r
                rw [hh] at this
                simp at this
                omega
              | cons a t => rfl
            rw [hne, Bool.false_or] at hb
            cases hq : ((nm r).getD 0 0 == 46) with
            | true =>
              have HB : Hid (kindN (nm s) = 3 + 1 ∧ kE (nm s) = 0) := HL.out.hit HM.out (k := 3) (by decide) rfl (by rw [hb, hq])
              have e1 : ∀ h, (((r[0]'h).toNat : Int) == 46) = true := fun h => by rw [nm_at h]; exact hq
              clear hb hq hne H1 H2 h0
              go_wp2
              go_ret2
              exact ⟨by rw [HB.out.1, HB.out.2]; rfl, Kept.alloc _ _⟩
            | false =>
              have HB : Hid (begB (nm s) (kw 3) = false) := by
                unfold Hid
                rw [hb, hq]
              have e1 : ∀ h, (((r[0]'h).toNat : Int) == 46) = false := fun h => by rw [nm_at h]; exact hq
              clear hb hq hne H1 H2 h0
              go_wp2
              go_round
              case rel => exact ⟨_, rfl, HL.out.step (k := 3) (by decide) rfl HB.out⟩
              case measure => simp [intOf]
      · have HB : Hid (kindN (nm s) = 0 ∧ kE (nm s) = 3) := HL.out.miss
        go_wp2
        go_ret2
        exact ⟨by rw [HB.out.1, HB.out.2]; rfl, Kept.alloc _ _⟩

theorem begins_walk (s p : ByteArray) (w : World) (hs : s.size ≤ maxLen) :
    Calls Tryz.prog 134 #[.string s, .string p] w fun e w' => e = .returned (.bool (begB (nm s) (nm p))) ∧ w' = w := by
  have hs' : s.size ≤ 9223372036854775807 := by unfold maxLen at hs; omega
  by_cases h1 : s.size < p.size
  · have e : begB (nm s) (nm p) = false := by
      unfold begB
      rw [nm_length, nm_length, decide_eq_false (by omega)]
      rfl
    rw [e]
    have d1 : decide ((s.size : Int) < (p.size : Int)) = true := decide_eq_true (by omega)
    go_enter Tryz.func134, Tryz.ntmps134
    go_wp2
    go_ret
    exact ⟨rfl, rfl⟩
  · have d1 : decide ((s.size : Int) < (p.size : Int)) = false := decide_eq_false (by omega)
    have hle : p.size ≤ s.size := by omega
    by_cases h2 : s.extract 0 p.size = p
    · have ht : nm s = nm p ++ (nm s).drop p.size := by
        have := List.take_append_drop p.size (nm s)
        rw [take_eq_iff.1 h2] at this
        exact this.symm
      have hb := beg_cut ht
      have q : ((s.extract 0 p.size).toList == p.toList) = true := beq_true h2
      have q' : ((s.extract 0 p.size).toList != p.toList) = false := by rw [bne, q]; rfl
      by_cases h3 : s.size = p.size
      · have e0 : (nm s).drop p.size = [] := List.drop_of_length_le (by rw [nm_length]; omega)
        rw [hb, e0]
        have e1 : ((s.size : Int) == (p.size : Int)) = true := by rw [h3]; exact beq_self_eq_true _
        have e2 : (s.size == p.size) = true := by rw [h3]; exact beq_self_eq_true _
        clear h2 h3 hb ht e0
        go_enter Tryz.func134, Tryz.ntmps134
        go_wp2
        go_ret
        exact ⟨rfl, rfl⟩
      · have hlt : p.size < s.size := by omega
        have e1 : ((s.size : Int) == (p.size : Int)) = false := by rw [beq_eq_false_iff_ne]; omega
        have e2 : (s.size == p.size) = false := by rw [beq_eq_false_iff_ne]; omega
        have e0 : ((nm s).drop p.size).isEmpty = false := by
          cases hh : (nm s).drop p.size with
          | nil =>
            have := congrArg List.length hh
            rw [List.length_drop, nm_length] at this
            simp at this
            omega
          | cons a t => rfl
        have e3 : ((nm s).drop p.size).getD 0 0 = (nm s).getD p.size 0 := by simp [List.getD]
        rw [hb, e0, e3, Bool.false_or]
        obtain ⟨g, hg⟩ : ∃ g, ((nm s).getD p.size 0 == 46) = g := ⟨_, rfl⟩
        rw [hg]
        have e4 : ∀ h, (((s[p.size]'h).toNat : Int) == 46) = g := fun h => by rw [nm_at h]; exact hg
        clear h2 h3 hb ht e0 e3 hg
        go_enter Tryz.func134, Tryz.ntmps134
        go_wp2
        go_ret
        exact ⟨rfl, rfl⟩
    · have e : begB (nm s) (nm p) = false := beg_no fun t ht => h2 (take_eq_iff.2 (by rw [ht, List.take_left' (nm_length p)]))
      rw [e]
      have q : ((s.extract 0 p.size).toList == p.toList) = false := beq_false h2
      have q' : ((s.extract 0 p.size).toList != p.toList) = true := by rw [bne, q]; rfl
      clear h2
      go_enter Tryz.func134, Tryz.ntmps134
      go_wp2
      go_ret
      exact ⟨rfl, rfl⟩

set_option maxRecDepth 20000 in
set_option maxHeartbeats 3200000 in
/-- The kind of a name; 0: none. -/
theorem of_walk (s : ByteArray) (w : World) (hs : s.size ≤ maxLen) :
    Calls Tryz.prog 102 #[.string s] w fun e w' => e = .returned (.int .u8 (kindN (nm s))) ∧ Kept w w' := by
  have hN := rmayName_walk s w hs
  cases hm : mayNm (nm s) with
  | false =>
    rw [hm] at hN
    rw [(kind_no hm).1]
    clear hm
    go_enter Tryz.func102, Tryz.ntmps102
    go_wp2_with (go_at_call 109; refine hN.mono ?_; rintro e w' ⟨rfl, hw'⟩; subst hw')
    go_ret
    exact ⟨rfl, Kept.refl _⟩
  | true =>
    rw [hm] at hN
    have HM : Hid (mayNm (nm s) = true) := hm
    clear hm
    go_enter Tryz.func102, Tryz.ntmps102
    go_wp2_with (go_at_call 109; refine hN.mono ?_; rintro e w' ⟨rfl, hw'⟩; subst hw')
    go_loop [4] (fun i => ∃ x, i = .int .i64 x ∧ Hid (Looked (nm s) x)) (fun i => (4 - intOf i).toNat)
    case atStart => exact ⟨0, rfl, 0, by decide, rfl, fun j hj => absurd hj (Nat.not_lt_zero _)⟩
    case round =>
      obtain ⟨x, rfl, HL⟩ := hrel
      rcases HL.out.cases with rfl | rfl | rfl | rfl | rfl
      · cases hb : begB (nm s) (kw 0) with
        | false =>
          have HB : Hid (begB (nm s) (kw 0) = false) := hb
          have hC : ∀ w, Calls Tryz.prog 134 #[.string s, .string ⟨#[46, 116, 101, 120, 116]⟩] w fun e w' => e = .returned (.bool false) ∧ w' = w := fun w => by
            have := begins_walk s ⟨#[46, 116, 101, 120, 116]⟩ w hs
            rwa [show begB (nm s) (nm ⟨#[46, 116, 101, 120, 116]⟩) = false from hb] at this
          clear hb
          go_wp2_with (go_at_call 134; refine (hC _).mono ?_; rintro e w' ⟨rfl, hw'⟩; have hw2 := hw'.symm; subst hw2; clear hw')
          go_round
          case rel => exact ⟨_, rfl, HL.out.step (k := 0) (by decide) rfl HB.out⟩
          case measure => simp [intOf]
        | true =>
          have HB : Hid (kindN (nm s) = 0 + 1 ∧ kE (nm s) = 0) := HL.out.hit HM.out (k := 0) (by decide) rfl hb
          have hC : ∀ w, Calls Tryz.prog 134 #[.string s, .string ⟨#[46, 116, 101, 120, 116]⟩] w fun e w' => e = .returned (.bool true) ∧ w' = w := fun w => by
            have := begins_walk s ⟨#[46, 116, 101, 120, 116]⟩ w hs
            rwa [show begB (nm s) (nm ⟨#[46, 116, 101, 120, 116]⟩) = true from hb] at this
          clear hb
          go_wp2_with (go_at_call 134; refine (hC _).mono ?_; rintro e w' ⟨rfl, hw'⟩; have hw2 := hw'.symm; subst hw2; clear hw')
          go_ret
          exact ⟨by rw [HB.out.1]; rfl, Kept.alloc _ _⟩
      · cases hb : begB (nm s) (kw 1) with
        | false =>
          have HB : Hid (begB (nm s) (kw 1) = false) := hb
          have hC : ∀ w, Calls Tryz.prog 134 #[.string s, .string ⟨#[46, 114, 111, 100, 97, 116, 97]⟩] w fun e w' => e = .returned (.bool false) ∧ w' = w := fun w => by
            have := begins_walk s ⟨#[46, 114, 111, 100, 97, 116, 97]⟩ w hs
            rwa [show begB (nm s) (nm ⟨#[46, 114, 111, 100, 97, 116, 97]⟩) = false from hb] at this
          clear hb
          go_wp2_with (go_at_call 134; refine (hC _).mono ?_; rintro e w' ⟨rfl, hw'⟩; have hw2 := hw'.symm; subst hw2; clear hw')
          go_round
          case rel => exact ⟨_, rfl, HL.out.step (k := 1) (by decide) rfl HB.out⟩
          case measure => simp [intOf]
        | true =>
          have HB : Hid (kindN (nm s) = 1 + 1 ∧ kE (nm s) = 0) := HL.out.hit HM.out (k := 1) (by decide) rfl hb
          have hC : ∀ w, Calls Tryz.prog 134 #[.string s, .string ⟨#[46, 114, 111, 100, 97, 116, 97]⟩] w fun e w' => e = .returned (.bool true) ∧ w' = w := fun w => by
            have := begins_walk s ⟨#[46, 114, 111, 100, 97, 116, 97]⟩ w hs
            rwa [show begB (nm s) (nm ⟨#[46, 114, 111, 100, 97, 116, 97]⟩) = true from hb] at this
          clear hb
          go_wp2_with (go_at_call 134; refine (hC _).mono ?_; rintro e w' ⟨rfl, hw'⟩; have hw2 := hw'.symm; subst hw2; clear hw')
          go_ret
          exact ⟨by rw [HB.out.1]; rfl, Kept.alloc _ _⟩
      · cases hb : begB (nm s) (kw 2) with
        | false =>
          have HB : Hid (begB (nm s) (kw 2) = false) := hb
          have hC : ∀ w, Calls Tryz.prog 134 #[.string s, .string ⟨#[46, 100, 97, 116, 97]⟩] w fun e w' => e = .returned (.bool false) ∧ w' = w := fun w => by
            have := begins_walk s ⟨#[46, 100, 97, 116, 97]⟩ w hs
            rwa [show begB (nm s) (nm ⟨#[46, 100, 97, 116, 97]⟩) = false from hb] at this
          clear hb
          go_wp2_with (go_at_call 134; refine (hC _).mono ?_; rintro e w' ⟨rfl, hw'⟩; have hw2 := hw'.symm; subst hw2; clear hw')
          go_round
          case rel => exact ⟨_, rfl, HL.out.step (k := 2) (by decide) rfl HB.out⟩
          case measure => simp [intOf]
        | true =>
          have HB : Hid (kindN (nm s) = 2 + 1 ∧ kE (nm s) = 0) := HL.out.hit HM.out (k := 2) (by decide) rfl hb
          have hC : ∀ w, Calls Tryz.prog 134 #[.string s, .string ⟨#[46, 100, 97, 116, 97]⟩] w fun e w' => e = .returned (.bool true) ∧ w' = w := fun w => by
            have := begins_walk s ⟨#[46, 100, 97, 116, 97]⟩ w hs
            rwa [show begB (nm s) (nm ⟨#[46, 100, 97, 116, 97]⟩) = true from hb] at this
          clear hb
          go_wp2_with (go_at_call 134; refine (hC _).mono ?_; rintro e w' ⟨rfl, hw'⟩; have hw2 := hw'.symm; subst hw2; clear hw')
          go_ret
          exact ⟨by rw [HB.out.1]; rfl, Kept.alloc _ _⟩
      · cases hb : begB (nm s) (kw 3) with
        | false =>
          have HB : Hid (begB (nm s) (kw 3) = false) := hb
          have hC : ∀ w, Calls Tryz.prog 134 #[.string s, .string ⟨#[46, 98, 115, 115]⟩] w fun e w' => e = .returned (.bool false) ∧ w' = w := fun w => by
            have := begins_walk s ⟨#[46, 98, 115, 115]⟩ w hs
            rwa [show begB (nm s) (nm ⟨#[46, 98, 115, 115]⟩) = false from hb] at this
          clear hb
          go_wp2_with (go_at_call 134; refine (hC _).mono ?_; rintro e w' ⟨rfl, hw'⟩; have hw2 := hw'.symm; subst hw2; clear hw')
          go_round
          case rel => exact ⟨_, rfl, HL.out.step (k := 3) (by decide) rfl HB.out⟩
          case measure => simp [intOf]
        | true =>
          have HB : Hid (kindN (nm s) = 3 + 1 ∧ kE (nm s) = 0) := HL.out.hit HM.out (k := 3) (by decide) rfl hb
          have hC : ∀ w, Calls Tryz.prog 134 #[.string s, .string ⟨#[46, 98, 115, 115]⟩] w fun e w' => e = .returned (.bool true) ∧ w' = w := fun w => by
            have := begins_walk s ⟨#[46, 98, 115, 115]⟩ w hs
            rwa [show begB (nm s) (nm ⟨#[46, 98, 115, 115]⟩) = true from hb] at this
          clear hb
          go_wp2_with (go_at_call 134; refine (hC _).mono ?_; rintro e w' ⟨rfl, hw'⟩; have hw2 := hw'.symm; subst hw2; clear hw')
          go_ret
          exact ⟨by rw [HB.out.1]; rfl, Kept.alloc _ _⟩
      · have HB : Hid (kindN (nm s) = 0 ∧ kE (nm s) = 3) := HL.out.miss
        go_wp2
        go_ret
        exact ⟨by rw [HB.out.1]; rfl, Kept.alloc _ _⟩

abbrev sectV (s : ByteArray) (align : Int) (a : Option Addr) (len cap : Nat) (size : Int) : Value := .agg #[.string s, .int .i64 align, .slice a len cap, .int .i64 size]

theorem align_bits : ∀ k : Fin 65, 1 ≤ k.val → (bits .and .i64 (k.val : Int) ((k.val : Int) - 1) == 0) = alignB (k.val : Int) := by decide +kernel
theorem isAlign_walk (n : Int) (w : World) : Calls Tryz.prog 77 #[.int .i64 n] w fun e w' => e = .returned (.bool (alignB n)) ∧ w' = w := by
  by_cases h1 : 1 ≤ n
  · have d1 : decide ((1 : Int) ≤ n) = true := decide_eq_true h1
    by_cases h2 : n ≤ 64
    · have d2 : decide (n ≤ 64) = true := decide_eq_true h2
      obtain ⟨g, hg⟩ : ∃ g, alignB n = g := ⟨_, rfl⟩
      have hb : (bits .and .i64 n (n - 1) == 0) = g := by
        rw [← hg]
        have := align_bits ⟨n.toNat, by omega⟩ (by show 1 ≤ n.toNat; omega)
        rwa [show ((n.toNat : Nat) : Int) = n by omega] at this
      rw [hg]
      clear hg
      go_enter Tryz.func77, Tryz.ntmps77
      go_wp2
      go_ret
      exact ⟨rfl, rfl⟩
    · rw [show alignB n = false from decide_eq_false (by omega)]
      have d2 : decide (n ≤ 64) = false := decide_eq_false h2
      go_enter Tryz.func77, Tryz.ntmps77
      go_wp2
      go_ret
      exact ⟨rfl, rfl⟩
  · rw [show alignB n = false from decide_eq_false (by omega)]
    have d1 : decide ((1 : Int) ≤ n) = false := decide_eq_false h1
    go_enter Tryz.func77, Tryz.ntmps77
    go_wp2
    go_ret
    exact ⟨rfl, rfl⟩

set_option maxHeartbeats 1600000 in
theorem rmayAlign_walk (n : Int) (w : World) : Calls Tryz.prog 103 #[.int .i64 n] w fun e w' => e = .returned (.bool (alignB n)) ∧ w' = w := by
  go_enter Tryz.func103, Tryz.ntmps103
  go_wp2
  go_loop [3] (fun i => ∃ x, i = .int .i64 x ∧ (x = 1 ∨ x = 2 ∨ x = 4 ∨ x = 8 ∨ x = 16 ∨ x = 32 ∨ x = 64 ∨ x = 128) ∧ Hid (alignB n = true → x ≤ n)) (fun i => (128 - intOf i).toNat)
  case atStart => exact ⟨1, rfl, .inl rfl, fun ha => by have := of_decide_eq_true ha; omega⟩
  case round =>
    obtain ⟨x, rfl, hx, HL⟩ := hrel
    rcases hx with rfl | rfl | rfl | rfl | rfl | rfl | rfl | rfl
    · by_cases hn : n = 1
      · have HA : Hid (alignB n = true) := by rw [hn]; exact decide_eq_true (by decide)
        have e : (n == 1) = true := by rw [hn]; rfl
        clear hn
        go_wp2
        go_ret
        exact ⟨by rw [HA.out]; rfl, rfl⟩
      · have e : (n == 1) = false := by rw [beq_eq_false_iff_ne]; exact hn
        have HA : Hid (alignB n = true → 2 ≤ n) := fun ha => by have := HL.out ha; have := of_decide_eq_true ha; omega
        clear hn
        go_wp2
        go_round
        case rel => exact ⟨_, rfl, by decide, HA⟩
        case measure => simp [intOf]
    · by_cases hn : n = 2
      · have HA : Hid (alignB n = true) := by rw [hn]; exact decide_eq_true (by decide)
        have e : (n == 2) = true := by rw [hn]; rfl
        clear hn
        go_wp2
        go_ret
        exact ⟨by rw [HA.out]; rfl, rfl⟩
      · have e : (n == 2) = false := by rw [beq_eq_false_iff_ne]; exact hn
        have HA : Hid (alignB n = true → 4 ≤ n) := fun ha => by have := HL.out ha; have := of_decide_eq_true ha; omega
        clear hn
        go_wp2
        go_round
        case rel => exact ⟨_, rfl, by decide, HA⟩
        case measure => simp [intOf]
    · by_cases hn : n = 4
      · have HA : Hid (alignB n = true) := by rw [hn]; exact decide_eq_true (by decide)
        have e : (n == 4) = true := by rw [hn]; rfl
        clear hn
        go_wp2
        go_ret
        exact ⟨by rw [HA.out]; rfl, rfl⟩
      · have e : (n == 4) = false := by rw [beq_eq_false_iff_ne]; exact hn
        have HA : Hid (alignB n = true → 8 ≤ n) := fun ha => by have := HL.out ha; have := of_decide_eq_true ha; omega
        clear hn
        go_wp2
        go_round
        case rel => exact ⟨_, rfl, by decide, HA⟩
        case measure => simp [intOf]
    · by_cases hn : n = 8
      · have HA : Hid (alignB n = true) := by rw [hn]; exact decide_eq_true (by decide)
        have e : (n == 8) = true := by rw [hn]; rfl
        clear hn
        go_wp2
        go_ret
        exact ⟨by rw [HA.out]; rfl, rfl⟩
      · have e : (n == 8) = false := by rw [beq_eq_false_iff_ne]; exact hn
        have HA : Hid (alignB n = true → 16 ≤ n) := fun ha => by have := HL.out ha; have := of_decide_eq_true ha; omega
        clear hn
        go_wp2
        go_round
        case rel => exact ⟨_, rfl, by decide, HA⟩
        case measure => simp [intOf]
    · by_cases hn : n = 16
      · have HA : Hid (alignB n = true) := by rw [hn]; exact decide_eq_true (by decide)
        have e : (n == 16) = true := by rw [hn]; rfl
        clear hn
        go_wp2
        go_ret
        exact ⟨by rw [HA.out]; rfl, rfl⟩
      · have e : (n == 16) = false := by rw [beq_eq_false_iff_ne]; exact hn
        have HA : Hid (alignB n = true → 32 ≤ n) := fun ha => by have := HL.out ha; have := of_decide_eq_true ha; omega
        clear hn
        go_wp2
        go_round
        case rel => exact ⟨_, rfl, by decide, HA⟩
        case measure => simp [intOf]
    · by_cases hn : n = 32
      · have HA : Hid (alignB n = true) := by rw [hn]; exact decide_eq_true (by decide)
        have e : (n == 32) = true := by rw [hn]; rfl
        clear hn
        go_wp2
        go_ret
        exact ⟨by rw [HA.out]; rfl, rfl⟩
      · have e : (n == 32) = false := by rw [beq_eq_false_iff_ne]; exact hn
        have HA : Hid (alignB n = true → 64 ≤ n) := fun ha => by have := HL.out ha; have := of_decide_eq_true ha; omega
        clear hn
        go_wp2
        go_round
        case rel => exact ⟨_, rfl, by decide, HA⟩
        case measure => simp [intOf]
    · by_cases hn : n = 64
      · have HA : Hid (alignB n = true) := by rw [hn]; exact decide_eq_true (by decide)
        have e : (n == 64) = true := by rw [hn]; rfl
        clear hn
        go_wp2
        go_ret
        exact ⟨by rw [HA.out]; rfl, rfl⟩
      · have e : (n == 64) = false := by rw [beq_eq_false_iff_ne]; exact hn
        have HA : Hid (alignB n = true → 128 ≤ n) := fun ha => by have := HL.out ha; have := of_decide_eq_true ha; omega
        clear hn
        go_wp2
        go_round
        case rel => exact ⟨_, rfl, by decide, HA⟩
        case measure => simp [intOf]
    · have HA : Hid (alignB n = false) := by
        cases ha : alignB n
        · rfl
        · have := HL.out ha
          have := of_decide_eq_true ha
          omega
      go_wp2
      go_ret
      exact ⟨by rw [HA.out]; rfl, rfl⟩

/-- The seven ways of sizes. -/
def WaysS (len : Nat) (size : Int) (i : Nat) : Prop :=
  match i with
  | 0 => len ≠ 0
  | 1 => len = 0 ∧ size < 0
  | 2 => len = 0 ∧ 0 ≤ size ∧ 4096 < size
  | 3 => len = 0 ∧ 0 ≤ size ∧ size ≤ 4096
  | 4 => 4096 < len
  | 5 => len ≤ 4096 ∧ size ≠ 0
  | _ => len ≤ 4096 ∧ size = 0
theorem ways_bss (len : Nat) (size : Int) : WaysS len size 0 ∨ WaysS len size 1 ∨ WaysS len size 2 ∨ WaysS len size 3 := by
  show len ≠ 0 ∨ (len = 0 ∧ size < 0) ∨ (len = 0 ∧ 0 ≤ size ∧ 4096 < size) ∨ (len = 0 ∧ 0 ≤ size ∧ size ≤ 4096)
  omega
theorem ways_other (len : Nat) (size : Int) : WaysS len size 4 ∨ WaysS len size 5 ∨ WaysS len size 6 := by
  show 4096 < len ∨ (len ≤ 4096 ∧ size ≠ 0) ∨ (len ≤ 4096 ∧ size = 0)
  omega
set_option maxHeartbeats 1600000 in
theorem hasRoom_walk (s : ByteArray) (align : Int) (a : Option Addr) (len cap : Nat) (size : Int) (k : Nat) (x : Int) (w : World) (hx : (k : Int) = x) :
    Calls Tryz.prog 78 #[sectV s align a len cap size, .int .u8 x] w fun e w' => e = .returned (.bool (sizesB k len size)) ∧ Kept w w' := by
  by_cases hk : k = 4
  · have q : (x == 4) = true := by rw [beq_iff_eq]; omega
    rcases ways_bss len size with hw | hw | hw | hw
    · replace hw : len ≠ 0 := hw
      have HS : Hid (sizesB k len size = false) := by unfold Hid sizesB; rw [if_pos (by omega)]; exact decide_eq_false (by omega)
      have e1 : ((len : Int) == 0) = false := by rw [beq_eq_false_iff_ne]; omega
      have e1n : (len == 0) = false := by rw [beq_eq_false_iff_ne]; omega
      clear hw
      clear hk hx
      go_enter Tryz.func78, Tryz.ntmps78
      go_wp2
      go_ret
      exact ⟨by rw [HS.out]; rfl, Kept.alloc _ _⟩
    · replace hw : len = 0 ∧ size < 0 := hw
      have HS : Hid (sizesB k len size = false) := by unfold Hid sizesB; rw [if_pos (by omega)]; exact decide_eq_false (by omega)
      have e1 : ((len : Int) == 0) = true := by rw [beq_iff_eq]; omega
      have e1n : (len == 0) = true := by rw [beq_iff_eq]; omega
      have e2 : decide (0 ≤ size) = false := decide_eq_false (by omega)
      clear hw
      clear hk hx
      go_enter Tryz.func78, Tryz.ntmps78
      go_wp2
      go_ret
      exact ⟨by rw [HS.out]; rfl, Kept.alloc _ _⟩
    · replace hw : len = 0 ∧ 0 ≤ size ∧ 4096 < size := hw
      have HS : Hid (sizesB k len size = false) := by unfold Hid sizesB; rw [if_pos (by omega)]; exact decide_eq_false (by omega)
      have e1 : ((len : Int) == 0) = true := by rw [beq_iff_eq]; omega
      have e1n : (len == 0) = true := by rw [beq_iff_eq]; omega
      have e2 : decide (0 ≤ size) = true := decide_eq_true (by omega)
      have e3 : decide (size ≤ 4096) = false := decide_eq_false (by omega)
      clear hw
      clear hk hx
      go_enter Tryz.func78, Tryz.ntmps78
      go_wp2
      go_ret
      exact ⟨by rw [HS.out]; rfl, Kept.alloc _ _⟩
    · replace hw : len = 0 ∧ 0 ≤ size ∧ size ≤ 4096 := hw
      have HS : Hid (sizesB k len size = true) := by unfold Hid sizesB; rw [if_pos (by omega)]; exact decide_eq_true (by omega)
      have e1 : ((len : Int) == 0) = true := by rw [beq_iff_eq]; omega
      have e1n : (len == 0) = true := by rw [beq_iff_eq]; omega
      have e2 : decide (0 ≤ size) = true := decide_eq_true (by omega)
      have e3 : decide (size ≤ 4096) = true := decide_eq_true (by omega)
      clear hw
      clear hk hx
      go_enter Tryz.func78, Tryz.ntmps78
      go_wp2
      go_ret
      exact ⟨by rw [HS.out]; rfl, Kept.alloc _ _⟩
  · have q : (x == 4) = false := by rw [beq_eq_false_iff_ne]; omega
    rcases ways_other len size with hw | hw | hw
    · replace hw : 4096 < len := hw
      have HS : Hid (sizesB k len size = false) := by unfold Hid sizesB; rw [if_neg (by omega)]; exact decide_eq_false (by omega)
      have e1 : decide ((len : Int) ≤ 4096) = false := decide_eq_false (by omega)
      have e1n : decide (len ≤ 4096) = false := decide_eq_false (by omega)
      clear hw
      clear hk hx
      go_enter Tryz.func78, Tryz.ntmps78
      go_wp2
      go_ret
      exact ⟨by rw [HS.out]; rfl, Kept.alloc _ _⟩
    · replace hw : len ≤ 4096 ∧ size ≠ 0 := hw
      have HS : Hid (sizesB k len size = false) := by unfold Hid sizesB; rw [if_neg (by omega)]; exact decide_eq_false (by omega)
      have e1 : decide ((len : Int) ≤ 4096) = true := decide_eq_true (by omega)
      have e1n : decide (len ≤ 4096) = true := decide_eq_true (by omega)
      have e2 : (size == 0) = false := by rw [beq_eq_false_iff_ne]; omega
      clear hw
      clear hk hx
      go_enter Tryz.func78, Tryz.ntmps78
      go_wp2
      go_ret
      exact ⟨by rw [HS.out]; rfl, Kept.alloc _ _⟩
    · replace hw : len ≤ 4096 ∧ size = 0 := hw
      have HS : Hid (sizesB k len size = true) := by unfold Hid sizesB; rw [if_neg (by omega)]; exact decide_eq_true (by omega)
      have e1 : decide ((len : Int) ≤ 4096) = true := decide_eq_true (by omega)
      have e1n : decide (len ≤ 4096) = true := decide_eq_true (by omega)
      have e2 : (size == 0) = true := by rw [beq_iff_eq]; omega
      clear hw
      clear hk hx
      go_enter Tryz.func78, Tryz.ntmps78
      go_wp2
      go_ret
      exact ⟨by rw [HS.out]; rfl, Kept.alloc _ _⟩

/-- What Check gives. -/
def chkS (l : List Int) (align : Int) (len : Nat) (size : Int) : Int := if sectB l align len size = true then 0 else 8
theorem chkS_kind {l : List Int} {align : Int} {len : Nat} {size : Int} (h : kindN l = 0) : chkS l align len size = 8 := by
  unfold chkS sectB
  rw [decide_eq_false (by simpa using h)]
  rfl
theorem chkS_align {l : List Int} {align : Int} {len : Nat} {size : Int} (h : alignB align = false) : chkS l align len size = 8 := by
  unfold chkS sectB
  rw [h, Bool.and_false, Bool.false_and]
  rfl
theorem chkS_sizes {l : List Int} {align : Int} {len : Nat} {size : Int} (hk : kindN l ≠ 0) (ha : alignB align = true) : chkS l align len size = if sizesB (kindN l) len size = true then 0 else 8 := by
  unfold chkS sectB
  rw [ha, decide_eq_true hk, Bool.true_and, Bool.true_and]

set_option maxHeartbeats 1600000 in
theorem check_walk (s : ByteArray) (align : Int) (a : Option Addr) (len cap : Nat) (size : Int) (w : World) (hs : s.size ≤ maxLen) :
    Calls Tryz.prog 43 #[sectV s align a len cap size] w fun e w' => e = .returned (.int .i64 (chkS (nm s) align len size)) ∧ Kept w w' := by
  have hK : ∀ w, Calls Tryz.prog 76 #[.string s] w fun e w' => e = .returned (.tuple #[.int .u8 (kindN (nm s)), .int .i64 (kE (nm s))]) ∧ Kept w w' := fun w => kind_walk s w hs
  by_cases h0 : kindN (nm s) = 0
  · rw [chkS_kind h0]
    rw [show kE (nm s) = 3 by unfold kE; rw [h0]; rfl, h0] at hK
    clear h0
    go_enter Tryz.func43, Tryz.ntmps43
    go_wp2_with (go_at_call 76; refine (hK _).mono ?_; rintro e w1 ⟨rfl, hk⟩)
    go_ret
    exact ⟨rfl, (Kept.alloc _ _).trans hk⟩
  · rw [show kE (nm s) = 0 by unfold kE; rw [if_neg h0]] at hK
    have hA := isAlign_walk align
    cases ha : alignB align with
    | false =>
      rw [chkS_align ha]
      rw [ha] at hA
      obtain ⟨k, hk0⟩ : ∃ k, kindN (nm s) = k := ⟨_, rfl⟩
      rw [hk0] at hK
      clear h0 hk0
      go_enter Tryz.func43, Tryz.ntmps43
      go_wp2_with (first
        | (go_at_call 76; refine (hK _).mono ?_; rintro e w1 ⟨rfl, hk⟩; have c1 : w1.cell? ⟨w.heap.size, 1, none⟩ = some (.int .i64 align) := hk.cell (by simp); clear hK)
        | (go_at_call 77; refine (hA _).mono ?_; rintro e w2 ⟨rfl, hw2⟩; have hw3 := hw2.symm; subst hw3; clear hw2))
      go_ret
      exact ⟨rfl, (Kept.alloc _ _).trans hk⟩
    | true =>
      rw [chkS_sizes h0 ha]
      rw [ha] at hA
      obtain ⟨k, hk0⟩ : ∃ k, kindN (nm s) = k := ⟨_, rfl⟩
      rw [hk0] at hK ⊢
      have hR := fun w => hasRoom_walk s align a len cap size k (k : Int) w rfl
      obtain ⟨g, hg⟩ : ∃ g, sizesB k len size = g := ⟨_, rfl⟩
      rw [hg] at hR ⊢
      clear h0 hk0 hg ha
      cases g with
      | false =>
        go_enter Tryz.func43, Tryz.ntmps43
        go_wp2_with (first
          | (go_at_call 76; refine (hK _).mono ?_; rintro e w1 ⟨rfl, hk⟩; have c0 : w1.cell? ⟨w.heap.size, 0, none⟩ = some (.string s) := hk.cell (by simp); have c1 : w1.cell? ⟨w.heap.size, 1, none⟩ = some (.int .i64 align) := hk.cell (by simp); have c2 : w1.cell? ⟨w.heap.size, 2, none⟩ = some (.slice a len cap) := hk.cell (by simp); have c3 : w1.cell? ⟨w.heap.size, 3, none⟩ = some (.int .i64 size) := hk.cell (by simp); clear hK)
          | (go_at_call 77; refine (hA _).mono ?_; rintro e w2 ⟨rfl, hw2⟩; have hw3 := hw2.symm; subst hw3; clear hw2)
          | (go_at_call 78; refine (hR _).mono ?_; rintro e w2 ⟨rfl, hk2⟩; clear c0 c1 c2 c3))
        go_ret
        exact ⟨rfl, ((Kept.alloc _ _).trans hk).trans hk2⟩
      | true =>
        go_enter Tryz.func43, Tryz.ntmps43
        go_wp2_with (first
          | (go_at_call 76; refine (hK _).mono ?_; rintro e w1 ⟨rfl, hk⟩; have c0 : w1.cell? ⟨w.heap.size, 0, none⟩ = some (.string s) := hk.cell (by simp); have c1 : w1.cell? ⟨w.heap.size, 1, none⟩ = some (.int .i64 align) := hk.cell (by simp); have c2 : w1.cell? ⟨w.heap.size, 2, none⟩ = some (.slice a len cap) := hk.cell (by simp); have c3 : w1.cell? ⟨w.heap.size, 3, none⟩ = some (.int .i64 size) := hk.cell (by simp); clear hK)
          | (go_at_call 77; refine (hA _).mono ?_; rintro e w2 ⟨rfl, hw2⟩; have hw3 := hw2.symm; subst hw3; clear hw2)
          | (go_at_call 78; refine (hR _).mono ?_; rintro e w2 ⟨rfl, hk2⟩; clear c0 c1 c2 c3))
        go_ret
        exact ⟨rfl, ((Kept.alloc _ _).trans hk).trans hk2⟩
end Go.Proofs.YtljmgbpecoifnaaGreatDoor
