/- Names that may be: the program's, the document's and the statement's own loops. -/
import Derived.Test.YtbfmichhpcaamaaDoorBy
import Derived.Test.YtbfmichhpcaamaaDoorKn
namespace Go.Proofs.YtbfmichhpcaamaaDoor
open Go.RowKit

theorem mayNm_len {l : List Int} (h : l.length < 1 ∨ 32 < l.length) : mayNm l = false := by
  unfold mayNm
  rw [decide_eq_false (by omega)]
  rfl
theorem all_mem {l : List Int} {k : Nat} (hk : k < l.length) (h : okC (l.getD k 0) = false) : l.all okC = false := by
  rw [List.all_eq_false]
  refine ⟨l.getD k 0, ?_, by rw [h]; decide⟩
  rw [List.getD, List.getElem?_eq_getElem hk]
  exact List.getElem_mem hk
theorem all_each {l : List Int} {n : Nat} (hn : l.length = n) (h : ∀ j, j < n → okC (l.getD j 0) = true) : l.all okC = true := by
  subst hn
  rw [List.all_eq_true]
  intro x hx
  obtain ⟨j, hj, rfl⟩ := List.mem_iff_getElem.1 hx
  have := h j hj
  rwa [List.getD, List.getElem?_eq_getElem hj] at this
theorem mayNm_all {l : List Int} (h0 : 1 ≤ l.length) (h1 : l.length ≤ 32) : mayNm l = l.all okC := by
  unfold mayNm
  rw [decide_eq_true (⟨h0, h1⟩ : _ ∧ _)]
  rfl
theorem okC_false {x : Int} (h : okC x = false) : x < 33 ∨ 126 < x := by
  have := of_decide_eq_false h
  omega
theorem okC_true {x : Int} (h : okC x = true) : 33 ≤ x ∧ x ≤ 126 := of_decide_eq_true h

set_option maxHeartbeats 1600000 in
/-- May a name be? -/
theorem isName_walk (s : ByteArray) (w : World) (hs : s.size ≤ maxLen) :
    Calls Tryd.prog 46 #[.string s] w fun e w' => e = .returned (.bool (mayNm (nm s))) ∧ w' = w := by
  have hs' : s.size ≤ 9223372036854775807 := by unfold maxLen at hs; omega
  by_cases h1 : s.size < 1
  · rw [mayNm_len (by rw [nm_length]; omega)]
    have d : decide ((s.size : Int) < 1) = true := by simp; omega
    go_enter Tryd.func46, Tryd.ntmps46
    go_wp2
    go_ret
    exact ⟨rfl, rfl⟩
  · by_cases h2 : 32 < s.size
    · rw [mayNm_len (by rw [nm_length]; omega)]
      have d : decide ((s.size : Int) < 1) = false := by simp; omega
      have d2 : decide ((32 : Int) < (s.size : Int)) = true := by simp; omega
      go_enter Tryd.func46, Tryd.ntmps46
      go_wp2
      go_ret
      exact ⟨rfl, rfl⟩
    · rw [mayNm_all (by rw [nm_length]; omega) (by rw [nm_length]; omega)]
      have d : decide ((s.size : Int) < 1) = false := by simp; omega
      have d2 : decide ((32 : Int) < (s.size : Int)) = false := by simp; omega
      go_enter Tryd.func46, Tryd.ntmps46
      go_wp2
      go_loop [14] (fun i => ∃ k : Nat, k ≤ s.size ∧ i = .int .i64 k ∧ Hid (∀ j, j < k → okC ((nm s).getD j 0) = true)) (fun i => s.size - (intOf i).toNat)
      case atStart => exact ⟨0, Nat.zero_le _, rfl, fun j hj => absurd hj (Nat.not_lt_zero _)⟩
      case round =>
        obtain ⟨k, hk, rfl, A⟩ := hrel
        by_cases hlt : k < s.size
        · cases hq : okC ((nm s).getD k 0) with
          | false =>
            have HA : Hid ((nm s).all okC = false) := all_mem (by rw [nm_length]; exact hlt) hq
            rcases okC_false hq with hx | hx
            · have e1 : ∀ h, decide (((s[k]'h).toNat : Int) < 33) = true := fun h => by rw [nm_at h]; simpa using hx
              have e1' : ∀ h, (s[k]'h).toNat < 33 := fun h => by have := nm_at h; omega
              clear hq hx
              go_wp2
              go_ret
              exact ⟨by rw [HA.out]; rfl, rfl⟩
            · have e1 : ∀ h, decide (((s[k]'h).toNat : Int) < 33) = false := fun h => by rw [nm_at h]; exact decide_eq_false (by omega)
              have e1' : ∀ h, ¬ (s[k]'h).toNat < 33 := fun h => by have := nm_at h; omega
              have e2 : ∀ h, decide ((126 : Int) < ((s[k]'h).toNat : Int)) = true := fun h => by rw [nm_at h]; simpa using hx
              have e2' : ∀ h, 126 < (s[k]'h).toNat := fun h => by have := nm_at h; omega
              clear hq hx
              go_wp2
              go_ret
              exact ⟨by rw [HA.out]; rfl, rfl⟩
          | true =>
            obtain ⟨hx1, hx2⟩ := okC_true hq
            have e1 : ∀ h, decide (((s[k]'h).toNat : Int) < 33) = false := fun h => by rw [nm_at h]; exact decide_eq_false (by omega)
            have e1' : ∀ h, ¬ (s[k]'h).toNat < 33 := fun h => by have := nm_at h; omega
            have e2 : ∀ h, decide ((126 : Int) < ((s[k]'h).toNat : Int)) = false := fun h => by rw [nm_at h]; exact decide_eq_false (by omega)
            have e2' : ∀ h, ¬ 126 < (s[k]'h).toNat := fun h => by have := nm_at h; omega
            have HQ : Hid (okC ((nm s).getD k 0) = true) := hq
            clear hq hx1 hx2
            go_wp2
            go_round
            case rel =>
              refine ⟨k + 1, by omega, by go_num, fun j hj => ?_⟩
              by_cases e : j = k
              · subst e; exact HQ.out
              · exact A.out j (by omega)
            case measure => simp [intOf]; omega
        · obtain rfl : k = s.size := by omega
          have HA : Hid ((nm s).all okC = true) := all_each (nm_length s) A.out
          go_wp2
          go_ret
          exact ⟨by rw [HA.out]; rfl, rfl⟩

set_option maxHeartbeats 1600000 in
/-- The document's own. -/
theorem rmayName_walk (s : ByteArray) (w : World) (hs : s.size ≤ maxLen) :
    Calls Tryd.prog 48 #[.string s] w fun e w' => e = .returned (.bool (mayNm (nm s))) ∧ w' = w := by
  have hs' : s.size ≤ 9223372036854775807 := by unfold maxLen at hs; omega
  go_enter Tryd.func48, Tryd.ntmps48
  go_wp2
  go_loop [3] (fun i => ∃ k : Nat, k ≤ s.size ∧ i = .int .i64 k ∧ Hid (∀ j, j < k → okC ((nm s).getD j 0) = true)) (fun i => s.size - (intOf i).toNat)
  case atStart => exact ⟨0, Nat.zero_le _, rfl, fun j hj => absurd hj (Nat.not_lt_zero _)⟩
  case round =>
    obtain ⟨k, hk, rfl, A⟩ := hrel
    by_cases hlt : k < s.size
    · cases hq : okC ((nm s).getD k 0) with
      | false =>
        have HA : Hid (mayNm (nm s) = false) := by
          have := all_mem (by rw [nm_length]; exact hlt) hq
          unfold Hid mayNm
          rw [this, Bool.and_false]
        rcases okC_false hq with hx | hx
        · have e1 : ∀ h, decide (((s[k]'h).toNat : Int) < 33) = true := fun h => by rw [nm_at h]; simpa using hx
          have e1' : ∀ h, (s[k]'h).toNat < 33 := fun h => by have := nm_at h; omega
          clear hq hx
          go_wp2
          go_ret
          exact ⟨by rw [HA.out]; rfl, rfl⟩
        · have e1 : ∀ h, decide (((s[k]'h).toNat : Int) < 33) = false := fun h => by rw [nm_at h]; exact decide_eq_false (by omega)
          have e1' : ∀ h, ¬ (s[k]'h).toNat < 33 := fun h => by have := nm_at h; omega
          have e2 : ∀ h, decide ((126 : Int) < ((s[k]'h).toNat : Int)) = true := fun h => by rw [nm_at h]; simpa using hx
          have e2' : ∀ h, 126 < (s[k]'h).toNat := fun h => by have := nm_at h; omega
          clear hq hx
          go_wp2
          go_ret
          exact ⟨by rw [HA.out]; rfl, rfl⟩
      | true =>
        obtain ⟨hx1, hx2⟩ := okC_true hq
        have e1 : ∀ h, decide (((s[k]'h).toNat : Int) < 33) = false := fun h => by rw [nm_at h]; exact decide_eq_false (by omega)
        have e1' : ∀ h, ¬ (s[k]'h).toNat < 33 := fun h => by have := nm_at h; omega
        have e2 : ∀ h, decide ((126 : Int) < ((s[k]'h).toNat : Int)) = false := fun h => by rw [nm_at h]; exact decide_eq_false (by omega)
        have e2' : ∀ h, ¬ 126 < (s[k]'h).toNat := fun h => by have := nm_at h; omega
        have HQ : Hid (okC ((nm s).getD k 0) = true) := hq
        clear hq hx1 hx2
        go_wp2
        go_round
        case rel =>
          refine ⟨k + 1, by omega, by go_num, fun j hj => ?_⟩
          by_cases e : j = k
          · subst e; exact HQ.out
          · exact A.out j (by omega)
        case measure => simp [intOf]; omega
    · obtain rfl : k = s.size := by omega
      have hA := all_each (nm_length s) A.out
      by_cases h1 : s.size < 1
      · have d : decide ((1 : Int) ≤ (s.size : Int)) = false := by simp; omega
        have HM : Hid (mayNm (nm s) = false) := mayNm_len (by rw [nm_length]; omega)
        go_wp2
        go_ret
        exact ⟨by rw [HM.out]; rfl, rfl⟩
      · have d : decide ((1 : Int) ≤ (s.size : Int)) = true := by simp; omega
        by_cases h2 : 32 < s.size
        · have d2 : decide ((s.size : Int) ≤ 32) = false := by simp; omega
          have HM : Hid (mayNm (nm s) = false) := mayNm_len (by rw [nm_length]; omega)
          go_wp2
          go_ret
          exact ⟨by rw [HM.out]; rfl, rfl⟩
        · have d2 : decide ((s.size : Int) ≤ 32) = true := by simp; omega
          have HM : Hid (mayNm (nm s) = true) := by
            unfold Hid
            rw [mayNm_all (by rw [nm_length]; omega) (by rw [nm_length]; omega)]
            exact hA
          clear hA
          go_wp2
          go_ret
          exact ⟨by rw [HM.out]; rfl, rfl⟩
end Go.Proofs.YtbfmichhpcaamaaDoor
