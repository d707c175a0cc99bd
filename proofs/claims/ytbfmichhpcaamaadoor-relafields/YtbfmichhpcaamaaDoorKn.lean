/- Plain facts on names of sections, their kinds, and which sections may be: with no Go in sight. A name is a list of bytes. -/
import Derived.RowKit
namespace Go.Proofs.YtbfmichhpcaamaaDoor

/-- A byte that a name may have. -/
def okC (x : Int) : Bool := decide (33 ≤ x ∧ x ≤ 126)
/-- A name that may be. -/
def mayNm (l : List Int) : Bool := decide (1 ≤ l.length ∧ l.length ≤ 32) && l.all okC
theorem mayNm_true {l : List Int} (h : mayNm l = true) : 1 ≤ l.length ∧ l.length ≤ 32 ∧ ∀ x ∈ l, okC x = true := by
  unfold mayNm at h
  rw [Bool.and_eq_true, decide_eq_true_eq, List.all_eq_true] at h
  exact ⟨h.1.1, h.1.2, h.2⟩
theorem mayNm_mk {l : List Int} (h0 : 1 ≤ l.length) (h1 : l.length ≤ 32) (h : ∀ x ∈ l, okC x = true) : mayNm l = true := by
  unfold mayNm
  rw [Bool.and_eq_true, decide_eq_true_eq, List.all_eq_true]
  exact ⟨⟨h0, h1⟩, h⟩
/-- Is a name another one, or that with a point and more behind it? -/
def begB (l w : List Int) : Bool := decide (w.length ≤ l.length) && (l.take w.length == w) && (l.length == w.length || l.getD w.length 0 == 46)
theorem begB_true {l w : List Int} (h : begB l w = true) : ∃ t, l = w ++ t ∧ (t = [] ∨ ∃ r, t = 46 :: r) := by
  unfold begB at h
  rw [Bool.and_eq_true, Bool.and_eq_true, decide_eq_true_eq, beq_iff_eq, Bool.or_eq_true, beq_iff_eq, beq_iff_eq] at h
  obtain ⟨⟨h1, h2⟩, h3⟩ := h
  refine ⟨l.drop w.length, ?_, ?_⟩
  · have := List.take_append_drop w.length l
    rw [h2] at this
    exact this.symm
  · rcases h3 with e | e
    · left
      exact List.drop_of_length_le (by omega)
    · right
      have hlt : w.length < l.length := by
        apply Nat.lt_of_not_le
        intro hh
        rw [List.getD, List.getElem?_eq_none hh] at e
        simp at e
      rw [List.drop_eq_getElem_cons hlt]
      rw [List.getD, List.getElem?_eq_getElem hlt] at e
      simp at e
      exact ⟨_, by rw [e]⟩
theorem begB_mk {w t : List Int} (h : t = [] ∨ ∃ r, t = 46 :: r) : begB (w ++ t) w = true := by
  unfold begB
  rw [Bool.and_eq_true, Bool.and_eq_true, decide_eq_true_eq, beq_iff_eq, Bool.or_eq_true, beq_iff_eq, beq_iff_eq]
  refine ⟨⟨by simp, List.take_left' rfl⟩, ?_⟩
  rcases h with rfl | ⟨r, rfl⟩
  · left; simp
  · right; simp [List.getD]
/-- What stands behind the first byte, up to the next point. -/
def segN (l : List Int) : List Int := (l.drop 1).takeWhile fun x => x != 46
theorem begB_seg {l v : List Int} (hv : ∀ x ∈ v, x ≠ 46) (h : begB l (46 :: v) = true) : segN l = v := by
  obtain ⟨t, rfl, ht⟩ := begB_true h
  unfold segN
  rw [List.cons_append, List.drop_succ_cons, List.drop_zero, List.takeWhile_append_of_pos (by intro x hx; simpa using hv x hx)]
  rcases ht with rfl | ⟨r, rfl⟩
  · simp
  · simp
/-- A name that goes on with a point begins as it did. -/
theorem begB_on {l m v : List Int} (hv : ∀ x ∈ v, x ≠ 46) (hl : 1 ≤ l.length) : begB (l ++ 46 :: m) (46 :: v) = begB l (46 :: v) := by
  rw [Bool.eq_iff_iff]
  constructor
  · intro h
    obtain ⟨t, e, ht⟩ := begB_true h
    by_cases hlen : (46 :: v).length ≤ l.length
    · have e1 : l.take (46 :: v).length = 46 :: v := by
        have := congrArg (List.take (46 :: v).length) e
        rwa [List.take_append_of_le_length hlen, List.take_left' rfl] at this
      have e2 : l = (46 :: v) ++ l.drop (46 :: v).length := by
        have := List.take_append_drop (46 :: v).length l
        rw [e1] at this
        exact this.symm
      have e3 : l.drop (46 :: v).length ++ 46 :: m = t := by
        have := congrArg (List.drop (46 :: v).length) e
        rwa [List.drop_append_of_le_length hlen, List.drop_left' rfl] at this
      rw [e2]
      apply begB_mk
      cases hd : l.drop (46 :: v).length with
      | nil => exact .inl rfl
      | cons a d =>
        right
        rw [hd] at e3
        rcases ht with rfl | ⟨r, rfl⟩
        · simp at e3
        · simp only [List.cons_append, List.cons.injEq] at e3
          exact ⟨d, by rw [e3.1]⟩
    · exfalso
      have hlt : l.length < (46 :: v).length := by omega
      have g1 : (l ++ 46 :: m)[l.length]? = some 46 := by rw [List.getElem?_append_right (Nat.le_refl _), Nat.sub_self]; rfl
      rw [e, List.getElem?_append_left hlt] at g1
      obtain ⟨j, hj⟩ : ∃ j, l.length = j + 1 := ⟨l.length - 1, by omega⟩
      rw [hj, List.getElem?_cons_succ] at g1
      exact hv 46 (List.mem_of_getElem? g1) rfl
  · intro h
    obtain ⟨t, rfl, ht⟩ := begB_true h
    rw [List.append_assoc]
    apply begB_mk
    right
    rcases ht with rfl | ⟨r, rfl⟩
    · exact ⟨m, rfl⟩
    · exact ⟨r ++ 46 :: m, rfl⟩

/-- The kinds' names: .text, .rodata, .data, .bss. -/
def wText : List Int := [46, 116, 101, 120, 116]
def wRodata : List Int := [46, 114, 111, 100, 97, 116, 97]
def wData : List Int := [46, 100, 97, 116, 97]
def wBss : List Int := [46, 98, 115, 115]
def kindN (l : List Int) : Nat :=
  if mayNm l = true then (if begB l wText = true then 1 else if begB l wRodata = true then 2 else if begB l wData = true then 3 else if begB l wBss = true then 4 else 0) else 0
theorem kindN_le (l : List Int) : kindN l ≤ 4 := by
  unfold kindN
  repeat' split
  all_goals omega
theorem kindN_no {l : List Int} (h : mayNm l = false) : kindN l = 0 := by simp [kindN, h]
/-- A NAME's KIND IS THAT OF ALL THAT GO ON FROM IT WITH A POINT. -/
theorem kindN_on {l m : List Int} (h : mayNm l = true) (h' : mayNm (l ++ 46 :: m) = true) : kindN (l ++ 46 :: m) = kindN l := by
  have hl := (mayNm_true h).1
  have e1 : begB (l ++ 46 :: m) wText = begB l wText := begB_on (v := [116, 101, 120, 116]) (by decide) hl
  have e2 : begB (l ++ 46 :: m) wRodata = begB l wRodata := begB_on (v := [114, 111, 100, 97, 116, 97]) (by decide) hl
  have e3 : begB (l ++ 46 :: m) wData = begB l wData := begB_on (v := [100, 97, 116, 97]) (by decide) hl
  have e4 : begB (l ++ 46 :: m) wBss = begB l wBss := begB_on (v := [98, 115, 115]) (by decide) hl
  unfold kindN
  rw [h, h', e1, e2, e3, e4]
/-- A NAME IS OF ONE KIND AT MOST. -/
theorem kind_text {l : List Int} (h : begB l wText = true) : begB l wRodata = false ∧ begB l wData = false ∧ begB l wBss = false := by
  have e := begB_seg (v := [116, 101, 120, 116]) (by decide) h
  refine ⟨?_, ?_, ?_⟩ <;> (cases hh : begB l _; rfl; exfalso)
  · have := begB_seg (v := [114, 111, 100, 97, 116, 97]) (by decide) hh; rw [e] at this; exact absurd this (by decide)
  · have := begB_seg (v := [100, 97, 116, 97]) (by decide) hh; rw [e] at this; exact absurd this (by decide)
  · have := begB_seg (v := [98, 115, 115]) (by decide) hh; rw [e] at this; exact absurd this (by decide)
theorem kind_rodata {l : List Int} (h : begB l wRodata = true) : begB l wData = false ∧ begB l wBss = false := by
  have e := begB_seg (v := [114, 111, 100, 97, 116, 97]) (by decide) h
  refine ⟨?_, ?_⟩ <;> (cases hh : begB l _; rfl; exfalso)
  · have := begB_seg (v := [100, 97, 116, 97]) (by decide) hh; rw [e] at this; exact absurd this (by decide)
  · have := begB_seg (v := [98, 115, 115]) (by decide) hh; rw [e] at this; exact absurd this (by decide)
theorem kind_data {l : List Int} (h : begB l wData = true) : begB l wBss = false := by
  have e := begB_seg (v := [100, 97, 116, 97]) (by decide) h
  cases hh : begB l wBss
  · rfl
  · have := begB_seg (v := [98, 115, 115]) (by decide) hh; rw [e] at this; exact absurd this (by decide)

/-- What a section's place may be a multiple of. -/
def alignB (n : Int) : Bool := decide (n = 1 ∨ n = 2 ∨ n = 4 ∨ n = 8 ∨ n = 16 ∨ n = 32 ∨ n = 64)
/-- How many bytes it may have. -/
def sizesB (k : Nat) (len : Nat) (size : Int) : Bool := if k = 4 then decide (len = 0 ∧ 0 ≤ size ∧ size ≤ 4096) else decide (len ≤ 4096 ∧ size = 0)
/-- A section that may be. -/
def sectB (nm : List Int) (align : Int) (len : Nat) (size : Int) : Bool := decide (kindN nm ≠ 0) && alignB align && sizesB (kindN nm) len size
theorem sectB_true {nm : List Int} {align : Int} {len : Nat} {size : Int} (h : sectB nm align len size = true) : kindN nm ≠ 0 ∧ alignB align = true ∧ sizesB (kindN nm) len size = true := by
  unfold sectB at h
  rw [Bool.and_eq_true, Bool.and_eq_true, decide_eq_true_eq] at h
  exact ⟨h.1.1, h.1.2, h.2⟩
/-- What follows of one that may be. -/
theorem sectB_has {nm : List Int} {align : Int} {len : Nat} {size : Int} (h : sectB nm align len size = true) :
    mayNm nm = true ∧ (len : Int) + size ≤ 4096 ∧ 0 ≤ size ∧ (len = 0 ∨ size = 0) ∧ 0 < align ∧ (64 : Int) % align = 0 := by
  obtain ⟨h1, h2, h3⟩ := sectB_true h
  have hm : mayNm nm = true := by
    cases hm : mayNm nm
    · exact absurd (kindN_no hm) h1
    · rfl
  unfold sizesB at h3
  have h4 : (len : Int) + size ≤ 4096 ∧ 0 ≤ size ∧ (len = 0 ∨ size = 0) := by
    split at h3
    · have := of_decide_eq_true h3
      omega
    · have := of_decide_eq_true h3
      omega
  rcases of_decide_eq_true h2 with e | e | e | e | e | e | e <;> subst e <;> exact ⟨hm, h4.1, h4.2.1, h4.2.2, by decide, by decide⟩
end Go.Proofs.YtbfmichhpcaamaaDoor
