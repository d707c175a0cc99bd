/- Heads, field by field: with no Go in sight. -/
import Derived.Test.YtljmgbpecoifnaaGreatDoorJab
namespace Go.Proofs.YtljmgbpecoifnaaGreatDoor

/-- One field may be. -/
def okF (s : Nat) (n : Int) : Bool := decide (0 ≤ n) && (s == 8 || decide (n < 4294967296))
theorem headB_true {v : List Int} (h : headB v = true) : v.length = 10 ∧ ∀ k, k < 10 → okF (headS.getD k 0) (v.getD k 0) = true := by
  unfold headB at h
  rw [Bool.and_eq_true, decide_eq_true_eq, List.all_eq_true] at h
  refine ⟨h.1, fun k hk => ?_⟩
  have hz : k < (headS.zip v).length := by rw [List.length_zip, h.1]; simp [headS]; omega
  have := h.2 _ (List.getElem_mem hz)
  rw [List.getElem_zip] at this
  unfold okF
  rw [List.getD, List.getElem?_eq_getElem (by omega), List.getD, List.getElem?_eq_getElem (by simp [headS]; omega)]
  exact this
theorem headB_mk {v : List Int} (hv : v.length = 10) (h : ∀ k, k < 10 → okF (headS.getD k 0) (v.getD k 0) = true) : headB v = true := by
  unfold headB
  rw [Bool.and_eq_true, decide_eq_true_eq, List.all_eq_true]
  refine ⟨hv, fun p hp => ?_⟩
  obtain ⟨k, hk, rfl⟩ := List.mem_iff_getElem.1 hp
  have hk' : k < 10 := by rw [List.length_zip, hv] at hk; omega
  have := h k hk'
  unfold okF at this
  rw [List.getD, List.getElem?_eq_getElem (by omega), List.getD, List.getElem?_eq_getElem (by simp [headS]; omega)] at this
  rw [List.getElem_zip]
  exact this
theorem headB_no {v : List Int} {k : Nat} (hk : k < 10) (h : okF (headS.getD k 0) (v.getD k 0) = false) : headB v = false := by
  cases hb : headB v
  · rfl
  · rw [(headB_true hb).2 k hk] at h
    cases h
theorem headS_at (k : Nat) (h : k < 10) : headS.getD k 0 = 4 ∨ headS.getD k 0 = 8 := by
  match k, h with
  | 0, _ => exact .inl rfl
  | 1, _ => exact .inl rfl
  | 2, _ => exact .inr rfl
  | 3, _ => exact .inr rfl
  | 4, _ => exact .inr rfl
  | 5, _ => exact .inr rfl
  | 6, _ => exact .inl rfl
  | 7, _ => exact .inl rfl
  | 8, _ => exact .inr rfl
  | 9, _ => exact .inr rfl
theorem okF_may {s : Nat} (hs : s = 4 ∨ s = 8) {n : Int} (h0 : 0 ≤ n) : okF s n = mayB n (s : Int) := by
  unfold okF
  rw [decide_eq_true h0, Bool.true_and]
  rcases hs with rfl | rfl
  · rw [show ((4 : Nat) : Int) = 4 from rfl, mayB_4, Bool.eq_iff_iff]
    simp
    omega
  · rw [show ((8 : Nat) : Int) = 8 from rfl, mayB_8]
    rfl
theorem okF_neg {s : Nat} {n : Int} (h : n < 0) : okF s n = false := by
  unfold okF
  rw [decide_eq_false (by omega), Bool.false_and]

/-- The bytes of the first k fields. -/
def headP (v : List Int) (k : Nat) : List Int := putAll ((headS.zip v).take k)
theorem headP_zero (v : List Int) : headP v 0 = [] := rfl
theorem headP_succ {v : List Int} (hv : v.length = 10) {k : Nat} (hk : k < 10) : headP v (k + 1) = headP v k ++ byN (uOf (v.getD k 0)) (headS.getD k 0) := by
  have hz : k < (headS.zip v).length := by rw [List.length_zip, hv]; simp [headS]; omega
  unfold headP
  rw [List.take_succ_eq_append_getElem hz, putAll_append, List.getElem_zip, List.getD, List.getElem?_eq_getElem (by omega), List.getD, List.getElem?_eq_getElem (by simp [headS]; omega)]
  simp [putAll]
theorem headP_ten {v : List Int} (hv : v.length = 10) : headP v 10 = headL v := by
  unfold headP headL
  rw [List.take_of_length_le (by rw [List.length_zip, hv]; simp [headS])]
theorem headP_le {v : List Int} (hv : v.length = 10) : ∀ k, k ≤ 10 → (headP v k).length ≤ 8 * k
  | 0, _ => by simp [headP_zero]
  | k + 1, h => by
    have ih := headP_le hv k (by omega)
    rw [headP_succ hv (by omega), List.length_append, byN_length]
    rcases headS_at k (by omega) with e | e <;> rw [e] <;> omega

/-- What Write answers. -/
def wrE (v : List Int) : Int := if headB v = true then 0 else 2
def wrL (v : List Int) : List Int := if headB v = true then headL v else []
theorem wr_yes {v : List Int} (h : headB v = true) : wrE v = 0 ∧ wrL v = headL v := by simp [wrE, wrL, h]
theorem wr_no {v : List Int} (h : headB v = false) : wrE v = 2 ∧ wrL v = [] := by simp [wrE, wrL, h]

/-- Where the k-th field's bytes begin. -/
def offS (k : Nat) : Nat := (headS.take k).sum
theorem offS_succ {k : Nat} (hk : k < 10) : offS (k + 1) = offS k + headS.getD k 0 := by
  unfold offS
  rw [List.take_succ_eq_append_getElem (by simp [headS]; omega), List.sum_append, List.getD, List.getElem?_eq_getElem (by simp [headS]; omega)]
  simp
theorem offS_le {k : Nat} (hk : k < 10) : offS k + headS.getD k 0 ≤ 64 := by
  match k, hk with
  | 0, _ => decide
  | 1, _ => decide
  | 2, _ => decide
  | 3, _ => decide
  | 4, _ => decide
  | 5, _ => decide
  | 6, _ => decide
  | 7, _ => decide
  | 8, _ => decide
  | 9, _ => decide
theorem headV_at (b : List Int) {k : Nat} (hk : k < 10) : (headV b).getD k 0 = sOf (nuN ((b.drop (offS k)).take (headS.getD k 0))) := by
  have hl : k < headS.length := by simp [headS]; omega
  unfold headV offS
  rw [getAll_at headS b k hl]
  congr 3
  rw [List.getD, List.getElem?_eq_getElem hl]
  rfl
theorem headV_length (b : List Int) : (headV b).length = 10 := by
  unfold headV
  rw [getAll_length]
  rfl
/-- What Read answers. -/
def noV : List Int := [0, 0, 0, 0, 0, 0, 0, 0, 0, 0]
def rdE (b : List Int) : Int := if b.length = 64 then (if headB (headV b) = true then 0 else 8) else 3
def rdV (b : List Int) : List Int := if b.length = 64 then (if headB (headV b) = true then headV b else noV) else noV
theorem rd_len {b : List Int} (h : b.length ≠ 64) : rdE b = 3 ∧ rdV b = noV := by simp [rdE, rdV, h]
theorem rd_bad {b : List Int} (h : b.length = 64) (hb : headB (headV b) = false) : rdE b = 8 ∧ rdV b = noV := by simp [rdE, rdV, h, hb]
theorem rd_ok {b : List Int} (h : b.length = 64) (hb : headB (headV b) = true) : rdE b = 0 ∧ rdV b = headV b := by simp [rdE, rdV, h, hb]
/-- A field of four bytes is never too great, nor below 0. -/
theorem okF_get {b : List Int} (hr : ∀ x ∈ b, 0 ≤ x ∧ x < 256) (hl : b.length = 64) {k : Nat} (hk : k < 10) (h0 : 0 ≤ (headV b).getD k 0) : okF (headS.getD k 0) ((headV b).getD k 0) = true := by
  unfold okF
  rw [decide_eq_true h0, Bool.true_and]
  rcases headS_at k hk with e | e
  · rw [Bool.or_eq_true]
    right
    rw [headV_at b hk, e]
    have hn := nuN_lt ((b.drop (offS k)).take 4) (fun x hx => hr x (List.mem_of_mem_drop (List.mem_of_mem_take hx)))
    have ho := offS_le hk
    rw [e] at ho
    rw [List.length_take, List.length_drop, Nat.min_eq_left (by omega)] at hn
    have h4 : (256 : Nat) ^ 4 = 4294967296 := by decide
    rw [h4] at hn
    rw [sOf_small _ (by omega)]
    exact decide_eq_true (by omega)
  · rw [e]
    rfl
theorem list10 {v : List Int} (h : v.length = 10) : ∃ n0 n1 n2 n3 n4 n5 n6 n7 n8 n9, v = [n0, n1, n2, n3, n4, n5, n6, n7, n8, n9] := by
  match v, h with
  | [n0, n1, n2, n3, n4, n5, n6, n7, n8, n9], _ => exact ⟨n0, n1, n2, n3, n4, n5, n6, n7, n8, n9, rfl⟩
end Go.Proofs.YtljmgbpecoifnaaGreatDoor
