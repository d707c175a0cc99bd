/- Plain facts on rows of numbers, each of so many bytes, the lowest byte first: with no Go in sight. -/
import Derived.Test.YtbfmichhpcaamaaDoorLm
namespace Go.Proofs.YtbfmichhpcaamaaDoor

/-- Numbers, each of so many bytes, one behind the other. -/
def putAll : List (Nat × Int) → List Int
  | [] => []
  | p :: r => byN (uOf p.2) p.1 ++ putAll r
/-- The numbers whose bytes they are. -/
def getAll : List Nat → List Int → List Int
  | [], _ => []
  | s :: r, b => sOf (nuN (b.take s)) :: getAll r (b.drop s)
/-- A number that may be in so many bytes, and is not below 0. -/
def fitN (s : Nat) (n : Int) : Prop := 0 ≤ n ∧ n < 256 ^ s ∧ n ≤ 9223372036854775807
theorem putAll_length (l : List (Nat × Int)) : (putAll l).length = (l.map (·.1)).sum := by
  induction l with
  | nil => rfl
  | cons p r ih => simp [putAll, byN_length, ih]
theorem putAll_range (l : List (Nat × Int)) : ∀ x ∈ putAll l, 0 ≤ x ∧ x < 256 := by
  induction l with
  | nil => intro x hx; cases hx
  | cons p r ih =>
    intro x hx
    rcases List.mem_append.1 hx with hx | hx
    · exact byN_range _ _ x hx
    · exact ih x hx
theorem putAll_append (l m : List (Nat × Int)) : putAll (l ++ m) = putAll l ++ putAll m := by
  induction l with
  | nil => rfl
  | cons p r ih => simp [putAll, ih]
theorem getAll_length (ss : List Nat) (b : List Int) : (getAll ss b).length = ss.length := by
  induction ss generalizing b with
  | nil => rfl
  | cons s r ih => simp [getAll, ih]
/-- One number's bytes are read as it. -/
theorem one_back {s : Nat} {n : Int} (h : fitN s n) (rest : List Int) : sOf (nuN ((byN (uOf n) s ++ rest).take s)) = n := by
  obtain ⟨h0, h1, h2⟩ := h
  rw [List.take_left' (byN_length _ _), nuN_byN, uOf_nonneg n h0 h2, Nat.mod_eq_of_lt (by
    have : ((n.toNat : Nat) : Int) = n := by omega
    have h3 : ((n.toNat : Nat) : Int) < ((256 ^ s : Nat) : Int) := by rw [this]; simpa using h1
    omega), sOf_small _ (by omega)]
  omega
/-- WHAT WAS PUT IS GOT. -/
theorem getAll_putAll (l : List (Nat × Int)) (h : ∀ p ∈ l, fitN p.1 p.2) (rest : List Int) : getAll (l.map (·.1)) (putAll l ++ rest) = l.map (·.2) := by
  induction l with
  | nil => rfl
  | cons p r ih =>
    have h1 := h p (by simp)
    have h2 := ih (fun q hq => h q (by simp [hq]))
    simp only [List.map_cons, getAll, putAll, List.append_assoc]
    rw [one_back h1, List.drop_left' (byN_length _ _), h2]
/-- WHAT IS GOT IS PUT AS THESE BYTES. -/
theorem putAll_getAll (ss : List Nat) (b : List Int) (hl : b.length = ss.sum) (h8 : ∀ s ∈ ss, s ≤ 8) (hr : ∀ x ∈ b, 0 ≤ x ∧ x < 256) : putAll (ss.zip (getAll ss b)) = b := by
  induction ss generalizing b with
  | nil => simp at hl; simp [putAll, hl]
  | cons s r ih =>
    rw [List.sum_cons] at hl
    have hs := h8 s (by simp)
    have ht : (b.take s).length = s := by rw [List.length_take]; omega
    have hrt : ∀ x ∈ b.take s, 0 ≤ x ∧ x < 256 := fun x hx => hr x (List.mem_of_mem_take hx)
    have hn : nuN (b.take s) < 18446744073709551616 := by
      have := nuN_lt (b.take s) hrt
      rw [ht] at this
      exact Nat.lt_of_lt_of_le this (Nat.le_trans (Nat.pow_le_pow_right (by decide) hs) (by decide))
    have e1 : byN (nuN (b.take s)) s = b.take s := by
      have := byN_nuN (b.take s) hrt
      rwa [ht] at this
    have e2 := ih (b.drop s) (by rw [List.length_drop]; omega) (fun t ht => h8 t (by simp [ht])) (fun x hx => hr x (List.mem_of_mem_drop hx))
    simp only [getAll, List.zip_cons_cons, putAll]
    rw [uOf_sOf _ hn, e1, e2, List.take_append_drop]
/-- Unlike numbers have unlike bytes. -/
theorem putAll_inj {ss : List Nat} {v v' : List Int} (hv : v.length = ss.length) (hv' : v'.length = ss.length) (h : ∀ p ∈ ss.zip v, fitN p.1 p.2) (h' : ∀ p ∈ ss.zip v', fitN p.1 p.2) (e : putAll (ss.zip v) = putAll (ss.zip v')) : v = v' := by
  have e1 := getAll_putAll (ss.zip v) h []
  have e2 := getAll_putAll (ss.zip v') h' []
  have f1 : (ss.zip v).map (·.1) = ss := List.map_fst_zip (by omega)
  have f2 : (ss.zip v').map (·.1) = ss := List.map_fst_zip (by omega)
  have g1 : (ss.zip v).map (·.2) = v := List.map_snd_zip (by omega)
  have g2 : (ss.zip v').map (·.2) = v' := List.map_snd_zip (by omega)
  rw [f1, g1, List.append_nil] at e1
  rw [f2, g2, List.append_nil] at e2
  rw [← e1, ← e2, e]
/-- The k-th number that is got, by its place. -/
theorem getAll_at (ss : List Nat) (b : List Int) (k : Nat) (hk : k < ss.length) : (getAll ss b).getD k 0 = sOf (nuN ((b.drop (ss.take k).sum).take ss[k])) := by
  induction ss generalizing b k with
  | nil => simp at hk
  | cons s r ih =>
    cases k with
    | zero =>
      have e : (b.drop ((s :: r).take 0).sum).take (s :: r)[0] = b.take s := by simp
      rw [e, getAll, List.getD_cons_zero]
    | succ k =>
      have hk' : k < r.length := by simpa using hk
      have e : (b.drop ((s :: r).take (k + 1)).sum).take (s :: r)[k + 1] = ((b.drop s).drop (r.take k).sum).take r[k] := by simp [List.drop_drop]
      rw [e, getAll, List.getD_cons_succ]
      exact ih (b.drop s) k hk'
/-- The bytes of the k-th number, in their place. -/
theorem putAll_at (l : List (Nat × Int)) (k : Nat) (hk : k < l.length) : ((putAll l).drop ((l.take k).map (·.1)).sum).take l[k].1 = byN (uOf l[k].2) l[k].1 := by
  have e : l = l.take k ++ (l[k] :: l.drop (k + 1)) := by rw [← List.drop_eq_getElem_cons hk, List.take_append_drop]
  have e2 : putAll l = putAll (l.take k) ++ (byN (uOf l[k].2) l[k].1 ++ putAll (l.drop (k + 1))) := by
    have := congrArg putAll e
    rw [putAll_append] at this
    exact this
  rw [e2, List.drop_left' (putAll_length _), List.take_left' (byN_length _ _)]

/-! ### A section's head: ten numbers -/
def headS : List Nat := [4, 4, 8, 8, 8, 8, 4, 4, 8, 8]
def headB (v : List Int) : Bool := decide (v.length = 10) && (headS.zip v).all fun p => decide (0 ≤ p.2) && (p.1 == 8 || decide (p.2 < 4294967296))
def headL (v : List Int) : List Int := putAll (headS.zip v)
def headV (b : List Int) : List Int := getAll headS b
theorem headB_fit {v : List Int} (h : headB v = true) (hm : ∀ n ∈ v, n ≤ 9223372036854775807) : v.length = 10 ∧ ∀ p ∈ headS.zip v, fitN p.1 p.2 := by
  unfold headB at h
  rw [Bool.and_eq_true, decide_eq_true_eq, List.all_eq_true] at h
  refine ⟨h.1, fun p hp => ?_⟩
  have h1 := h.2 p hp
  rw [Bool.and_eq_true, Bool.or_eq_true, decide_eq_true_eq, decide_eq_true_eq, beq_iff_eq] at h1
  have h2 := hm p.2 (List.of_mem_zip hp).2
  have h3 : p.1 = 4 ∨ p.1 = 8 := by
    have := (List.of_mem_zip hp).1
    unfold headS at this
    simp only [List.mem_cons, List.not_mem_nil, or_false] at this
    omega
  refine ⟨h1.1, ?_, h2⟩
  rcases h1.2 with e | e
  · rw [e]
    have : (9223372036854775807 : Int) < 256 ^ 8 := by decide
    omega
  · rcases h3 with e' | e'
    · rw [e']
      have : (4294967296 : Int) = 256 ^ 4 := by decide
      omega
    · rw [e']
      have : (9223372036854775807 : Int) < 256 ^ 8 := by decide
      omega
theorem headL_length {v : List Int} (h : v.length = 10) : (headL v).length = 64 := by
  unfold headL
  rw [putAll_length, List.map_fst_zip (by rw [h]; decide)]
  rfl
/-- Heads and their bytes are told by one another. -/
theorem head_back {v : List Int} (h : headB v = true) (hm : ∀ n ∈ v, n ≤ 9223372036854775807) : headV (headL v) = v := by
  obtain ⟨h1, h2⟩ := headB_fit h hm
  have := getAll_putAll (headS.zip v) h2 []
  rwa [List.append_nil, List.map_fst_zip (by rw [h1]; decide), List.map_snd_zip (by rw [h1]; decide)] at this
theorem back_head {b : List Int} (h : b.length = 64) (hr : ∀ x ∈ b, 0 ≤ x ∧ x < 256) : headL (headV b) = b :=
  putAll_getAll headS b (by rw [h]; rfl) (by decide) hr
theorem head_inj {v v' : List Int} (h : headB v = true) (h' : headB v' = true) (hm : ∀ n ∈ v, n ≤ 9223372036854775807) (hm' : ∀ n ∈ v', n ≤ 9223372036854775807) (e : headL v = headL v') : v = v' := by
  rw [← head_back h hm, ← head_back h' hm', e]
end Go.Proofs.YtbfmichhpcaamaaDoor
