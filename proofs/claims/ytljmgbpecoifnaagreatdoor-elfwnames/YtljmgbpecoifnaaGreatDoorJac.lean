/- Plain facts on names of sections, their kinds, and which sections may be: with no Go in sight. A name is a list of bytes. Plain facts on symbols and their bytes: with no Go in sight. What is answered of symbols, and their bytes number by number: with no Go in sight. Relocations, their types and their bytes: with no Go in sight. -/
import Derived.RowKit
import Derived.Test.YtljmgbpecoifnaaGreatDoorJab
import Derived.Test.YtljmgbpecoifnaaGreatDoorJaa
namespace Go.Proofs.YtljmgbpecoifnaaGreatDoor

/-- A byte that a name may have. -/
def okC (x : Int) : Bool := decide (33 ≤ x ∧ x ≤ 126)
/-- A name that may be. -/
def mayNm (l : List Int) : Bool := decide (1 ≤ l.length ∧ l.length ≤ 32) && l.all okC
theorem mayNm_true {l : List Int} (h : mayNm l = true) : 1 ≤ l.length ∧ l.length ≤ 32 ∧ ∀ x ∈ l, okC x = true := by
  unfold mayNm at h
  rw [Bool.and_eq_true, decide_eq_true_eq, List.all_eq_true] at h
  exact ⟨h.1.1, h.1.2, h.2⟩
theorem mayNm_mk {l : List Int} (h0 : 1 ≤ l.length) (h1 : l.length ≤ 32) (h : ∀ x ∈ l, okC x = true) : mayNm l = true := by
  unfold mayNm
  rw [Bool.and_eq_true, decide_eq_true_eq, List.all_eq_true]
  exact ⟨⟨h0, h1⟩, h⟩
/-- Is a name another one, or that with a point and more behind it? -/
def begB (l w : List Int) : Bool := decide (w.length ≤ l.length) && (l.take w.length == w) && (l.length == w.length || l.getD w.length 0 == 46)
theorem begB_true {l w : List Int} (h : begB l w = true) : ∃ t, l = w ++ t ∧ (t = [] ∨ ∃ r, t = 46 :: r) := by
  unfold begB at h
  rw [Bool.and_eq_true, Bool.and_eq_true, decide_eq_true_eq, beq_iff_eq, Bool.or_eq_true, beq_iff_eq, beq_iff_eq] at h
  obtain ⟨⟨h1, h2⟩, h3⟩ := h
  refine ⟨l.drop w.length, ?_, ?_⟩
  · have := List.take_append_drop w.length l
    rw [h2] at this
    exact this.symm
  · rcases h3 with e | e
    · left
      exact List.drop_of_length_le (by omega)
    · right
      have hlt : w.length < l.length := by
        apply Nat.lt_of_not_le
        intro hh
        rw [List.getD, List.getElem?_eq_none hh] at e
        simp at e
      rw [List.drop_eq_getElem_cons hlt]
      rw [List.getD, List.getElem?_eq_getElem hlt] at e
      simp at e
      exact ⟨_, by rw [e]⟩
theorem begB_mk {w t : List Int} (h : t = [] ∨ ∃ r, t = 46 :: r) : begB (w ++ t) w = true := by
  unfold begB
  rw [Bool.and_eq_true, Bool.and_eq_true, decide_eq_true_eq, beq_iff_eq, Bool.or_eq_true, beq_iff_eq, beq_iff_eq]
  refine ⟨⟨by simp, List.take_left' rfl⟩, ?_⟩
  rcases h with rfl | ⟨r, rfl⟩
  · left; simp
  · right; simp [List.getD]
/-- What stands behind the first byte, up to the next point. -/
def segN (l : List Int) : List Int := (l.drop 1).takeWhile fun x => x != 46
theorem begB_seg {l v : List Int} (hv : ∀ x ∈ v, x ≠ 46) (h : begB l (46 :: v) = true) : segN l = v := by
  obtain ⟨t, rfl, ht⟩ := begB_true h
  unfold segN
  rw [List.cons_append, List.drop_succ_cons, List.drop_zero, List.takeWhile_append_of_pos (by intro x hx; simpa using hv x hx)]
  rcases ht with rfl | ⟨r, rfl⟩
  · simp
  · simp
/-- A name that goes on with a point begins as it did. -/
theorem begB_on {l m v : List Int} (hv : ∀ x ∈ v, x ≠ 46) (hl : 1 ≤ l.length) : begB (l ++ 46 :: m) (46 :: v) = begB l (46 :: v) := by
  rw [Bool.eq_iff_iff]
  constructor
  · intro h
    obtain ⟨t, e, ht⟩ := begB_true h
    by_cases hlen : (46 :: v).length ≤ l.length
    · have e1 : l.take (46 :: v).length = 46 :: v := by
        have := congrArg (List.take (46 :: v).length) e
        rwa [List.take_append_of_le_length hlen, List.take_left' rfl] at this
      have e2 : l = (46 :: v) ++ l.drop (46 :: v).length := by
        have := List.take_append_drop (46 :: v).length l
        rw [e1] at this
        exact this.symm
      have e3 : l.drop (46 :: v).length ++ 46 :: m = t := by
        have := congrArg (List.drop (46 :: v).length) e
        rwa [List.drop_append_of_le_length hlen, List.drop_left' rfl] at this
      rw [e2]
      apply begB_mk
      cases hd : l.drop (46 :: v).length with
      | nil => exact .inl rfl
      | cons a d =>
        right
        rw [hd] at e3
        rcases ht with rfl | ⟨r, rfl⟩
        · simp at e3
        · simp only [List.cons_append, List.cons.injEq] at e3
          exact ⟨d, by rw [e3.1]⟩
    · exfalso
      have hlt : l.length < (46 :: v).length := by omega
      have g1 : (l ++ 46 :: m)[l.length]? = some 46 := by rw [List.getElem?_append_right (Nat.le_refl _), Nat.sub_self]; rfl
      rw [e, List.getElem?_append_left hlt] at g1
      obtain ⟨j, hj⟩ : ∃ j, l.length = j + 1 := ⟨l.length - 1, by omega⟩
      rw [hj, List.getElem?_cons_succ] at g1
      exact hv 46 (List.mem_of_getElem? g1) rfl
  · intro h
    obtain ⟨t, rfl, ht⟩ := begB_true h
    rw [List.append_assoc]
    apply begB_mk
    right
    rcases ht with rfl | ⟨r, rfl⟩
    · exact ⟨m, rfl⟩
    · exact ⟨r ++ 46 :: m, rfl⟩

/-- The kinds' names: .text, .rodata, .data, .bss. -/
def wText : List Int := [46, 116, 101, 120, 116]
def wRodata : List Int := [46, 114, 111, 100, 97, 116, 97]
def wData : List Int := [46, 100, 97, 116, 97]
def wBss : List Int := [46, 98, 115, 115]
def kindN (l : List Int) : Nat :=
  if mayNm l = true then (if begB l wText = true then 1 else if begB l wRodata = true then 2 else if begB l wData = true then 3 else if begB l wBss = true then 4 else 0) else 0
theorem kindN_le (l : List Int) : kindN l ≤ 4 := by
  unfold kindN
  repeat' split
  all_goals omega
theorem kindN_no {l : List Int} (h : mayNm l = false) : kindN l = 0 := by simp [kindN, h]
/-- A NAME's KIND IS THAT OF ALL THAT GO ON FROM IT WITH A POINT. -/
theorem kindN_on {l m : List Int} (h : mayNm l = true) (h' : mayNm (l ++ 46 :: m) = true) : kindN (l ++ 46 :: m) = kindN l := by
  have hl := (mayNm_true h).1
  have e1 : begB (l ++ 46 :: m) wText = begB l wText := begB_on (v := [116, 101, 120, 116]) (by decide) hl
  have e2 : begB (l ++ 46 :: m) wRodata = begB l wRodata := begB_on (v := [114, 111, 100, 97, 116, 97]) (by decide) hl
  have e3 : begB (l ++ 46 :: m) wData = begB l wData := begB_on (v := [100, 97, 116, 97]) (by decide) hl
  have e4 : begB (l ++ 46 :: m) wBss = begB l wBss := begB_on (v := [98, 115, 115]) (by decide) hl
  unfold kindN
  rw [h, h', e1, e2, e3, e4]
/-- A NAME IS OF ONE KIND AT MOST. -/
theorem kind_text {l : List Int} (h : begB l wText = true) : begB l wRodata = false ∧ begB l wData = false ∧ begB l wBss = false := by
  have e := begB_seg (v := [116, 101, 120, 116]) (by decide) h
  refine ⟨?_, ?_, ?_⟩ <;> (cases hh : begB l _; rfl; exfalso)
  · have := begB_seg (v := [114, 111, 100, 97, 116, 97]) (by decide) hh; rw [e] at this; exact absurd this (by decide)
  · have := begB_seg (v := [100, 97, 116, 97]) (by decide) hh; rw [e] at this; exact absurd this (by decide)
  · have := begB_seg (v := [98, 115, 115]) (by decide) hh; rw [e] at this; exact absurd this (by decide)
theorem kind_rodata {l : List Int} (h : begB l wRodata = true) : begB l wData = false ∧ begB l wBss = false := by
  have e := begB_seg (v := [114, 111, 100, 97, 116, 97]) (by decide) h
  refine ⟨?_, ?_⟩ <;> (cases hh : begB l _; rfl; exfalso)
  · have := begB_seg (v := [100, 97, 116, 97]) (by decide) hh; rw [e] at this; exact absurd this (by decide)
  · have := begB_seg (v := [98, 115, 115]) (by decide) hh; rw [e] at this; exact absurd this (by decide)
theorem kind_data {l : List Int} (h : begB l wData = true) : begB l wBss = false := by
  have e := begB_seg (v := [100, 97, 116, 97]) (by decide) h
  cases hh : begB l wBss
  · rfl
  · have := begB_seg (v := [98, 115, 115]) (by decide) hh; rw [e] at this; exact absurd this (by decide)

/-- What a section's place may be a multiple of. -/
def alignB (n : Int) : Bool := decide (n = 1 ∨ n = 2 ∨ n = 4 ∨ n = 8 ∨ n = 16 ∨ n = 32 ∨ n = 64)
/-- How many bytes it may have. -/
def sizesB (k : Nat) (len : Nat) (size : Int) : Bool := if k = 4 then decide (len = 0 ∧ 0 ≤ size ∧ size ≤ 4096) else decide (len ≤ 4096 ∧ size = 0)
/-- A section that may be. -/
def sectB (nm : List Int) (align : Int) (len : Nat) (size : Int) : Bool := decide (kindN nm ≠ 0) && alignB align && sizesB (kindN nm) len size
theorem sectB_true {nm : List Int} {align : Int} {len : Nat} {size : Int} (h : sectB nm align len size = true) : kindN nm ≠ 0 ∧ alignB align = true ∧ sizesB (kindN nm) len size = true := by
  unfold sectB at h
  rw [Bool.and_eq_true, Bool.and_eq_true, decide_eq_true_eq] at h
  exact ⟨h.1.1, h.1.2, h.2⟩
/-- What follows of one that may be. -/
theorem sectB_has {nm : List Int} {align : Int} {len : Nat} {size : Int} (h : sectB nm align len size = true) :
    mayNm nm = true ∧ (len : Int) + size ≤ 4096 ∧ 0 ≤ size ∧ (len = 0 ∨ size = 0) ∧ 0 < align ∧ (64 : Int) % align = 0 := by
  obtain ⟨h1, h2, h3⟩ := sectB_true h
  have hm : mayNm nm = true := by
    cases hm : mayNm nm
    · exact absurd (kindN_no hm) h1
    · rfl
  unfold sizesB at h3
  have h4 : (len : Int) + size ≤ 4096 ∧ 0 ≤ size ∧ (len = 0 ∨ size = 0) := by
    split at h3
    · have := of_decide_eq_true h3
      omega
    · have := of_decide_eq_true h3
      omega
  rcases of_decide_eq_true h2 with e | e | e | e | e | e | e <;> subst e <;> exact ⟨hm, h4.1, h4.2.1, h4.2.2, by decide, by decide⟩

/-- A number of so many bytes; one of eight may be below 0. -/
def fitZ (s : Nat) (n : Int) : Prop := fitN s n ∨ (s = 8 ∧ -9223372036854775808 ≤ n ∧ n ≤ 9223372036854775807)
theorem one_backZ {s : Nat} {n : Int} (h : fitZ s n) (rest : List Int) : sOf (nuN ((byN (uOf n) s ++ rest).take s)) = n := by
  rcases h with h | ⟨rfl, h0, h1⟩
  · exact one_back h rest
  · have hu : uOf n < 256 ^ 8 := by
      have := uOf_lt n
      have e : (256 : Nat) ^ 8 = 18446744073709551616 := by decide
      omega
    rw [List.take_left' (byN_length _ _), nuN_byN, Nat.mod_eq_of_lt hu, sOf_uOf n h0 h1]
/-- WHAT WAS PUT IS GOT. -/
theorem getAll_putZ (l : List (Nat × Int)) (h : ∀ p ∈ l, fitZ p.1 p.2) (rest : List Int) : getAll (l.map (·.1)) (putAll l ++ rest) = l.map (·.2) := by
  induction l with
  | nil => rfl
  | cons p r ih =>
    have h1 := h p (by simp)
    have h2 := ih (fun q hq => h q (by simp [hq]))
    simp only [List.map_cons, getAll, putAll, List.append_assoc]
    rw [one_backZ h1, List.drop_left' (byN_length _ _), h2]

def symS : List Nat := [4, 1, 1, 2, 8, 8]
/-- A place as two bytes have it, and back. -/
def wU (wh : Int) : Int := if wh = -1 then 65521 else if wh = -2 then 65522 else wh
def uW (u : Int) : Int := if u = 65521 then -1 else if u = 65522 then -2 else u
def hidN (hid : Bool) : Int := if hid = true then 2 else 0
theorem uW_wU {wh : Int} (h : wh ≠ 65521 ∧ wh ≠ 65522) : uW (wU wh) = wh := by
  unfold uW wU
  by_cases h1 : wh = -1
  · rw [if_pos h1, if_pos rfl, h1]
  · rw [if_neg h1]
    by_cases h2 : wh = -2
    · rw [if_pos h2, if_neg (by decide), if_pos rfl, h2]
    · rw [if_neg h2, if_neg h.1, if_neg h.2]
theorem wU_uW {u : Int} (h : u ≠ -1 ∧ u ≠ -2) : wU (uW u) = u := by
  unfold uW wU
  by_cases h1 : u = 65521
  · rw [if_pos h1, if_pos rfl, h1]
  · rw [if_neg h1]
    by_cases h2 : u = 65522
    · rw [if_pos h2, if_neg (by decide), if_pos rfl, h2]
    · rw [if_neg h2, if_neg h.1, if_neg h.2]

/-- May a symbol be in an object of n sections, but for its name? -/
def standsB (bind : Int) (hid : Bool) (wh val sz n : Int) : Bool :=
  decide (0 ≤ bind ∧ bind ≤ 2 ∧ ¬ (hid = true ∧ bind = 0)) &&
  (if wh = 0 then decide (val = 0 ∧ sz = 0 ∧ bind ≠ 0)
   else if wh = -1 then decide (-2147483648 ≤ val ∧ val ≤ 4294967295 ∧ sz = 0)
   else if wh = -2 then alignB val && decide (1 ≤ sz ∧ sz ≤ 4096 ∧ bind = 1)
   else decide (1 ≤ wh ∧ wh ≤ n ∧ 0 ≤ val ∧ val ≤ 4096 ∧ 0 ≤ sz ∧ sz ≤ 4096))
theorem stands_has {bind : Int} {hid : Bool} {wh val sz n : Int} (h : standsB bind hid wh val sz n = true) :
    (0 ≤ bind ∧ bind ≤ 2) ∧ ¬ (hid = true ∧ bind = 0) ∧ (wh = 0 ∨ wh = -1 ∨ wh = -2 ∨ (1 ≤ wh ∧ wh ≤ n)) ∧ (-2147483648 ≤ val ∧ val ≤ 4294967295) ∧ (0 ≤ sz ∧ sz ≤ 4096) := by
  unfold standsB at h
  rw [Bool.and_eq_true, decide_eq_true_eq] at h
  obtain ⟨⟨h1, h2, h3⟩, h4⟩ := h
  refine ⟨⟨h1, h2⟩, h3, ?_⟩
  by_cases w0 : wh = 0
  · rw [if_pos w0] at h4
    have := of_decide_eq_true h4
    exact ⟨.inl w0, by omega, by omega⟩
  · rw [if_neg w0] at h4
    by_cases w1 : wh = -1
    · rw [if_pos w1] at h4
      have := of_decide_eq_true h4
      exact ⟨.inr (.inl w1), by omega, by omega⟩
    · rw [if_neg w1] at h4
      by_cases w2 : wh = -2
      · rw [if_pos w2, Bool.and_eq_true] at h4
        have ha := of_decide_eq_true h4.1
        have hb := of_decide_eq_true h4.2
        exact ⟨.inr (.inr (.inl w2)), by omega, by omega⟩
      · rw [if_neg w2] at h4
        have := of_decide_eq_true h4
        exact ⟨.inr (.inr (.inr (by omega))), by omega, by omega⟩
/-- WHAT MAY BE IN AN OBJECT OF SOME SECTIONS MAY BE IN ONE OF MORE. -/
theorem stands_more {bind : Int} {hid : Bool} {wh val sz n m : Int} (hm : n ≤ m) (h : standsB bind hid wh val sz n = true) : standsB bind hid wh val sz m = true := by
  unfold standsB at h ⊢
  rw [Bool.and_eq_true] at h ⊢
  refine ⟨h.1, ?_⟩
  have h4 := h.2
  by_cases w0 : wh = 0
  · rw [if_pos w0] at h4 ⊢; exact h4
  · rw [if_neg w0] at h4 ⊢
    by_cases w1 : wh = -1
    · rw [if_pos w1] at h4 ⊢; exact h4
    · rw [if_neg w1] at h4 ⊢
      by_cases w2 : wh = -2
      · rw [if_pos w2] at h4 ⊢; exact h4
      · rw [if_neg w2] at h4 ⊢
        have := of_decide_eq_true h4
        exact decide_eq_true (by omega)
/-- .. and just the one of the last section may not be in one less. -/
theorem stands_less {bind : Int} {hid : Bool} {wh val sz n : Int} (h : standsB bind hid wh val sz (n + 1) = true) (hn : standsB bind hid wh val sz n = false) : wh = n + 1 := by
  unfold standsB at h hn
  rw [Bool.and_eq_true] at h
  rw [h.1, Bool.true_and] at hn
  have h4 := h.2
  by_cases w0 : wh = 0
  · rw [if_pos w0] at h4 hn; rw [h4] at hn; cases hn
  · rw [if_neg w0] at h4 hn
    by_cases w1 : wh = -1
    · rw [if_pos w1] at h4 hn; rw [h4] at hn; cases hn
    · rw [if_neg w1] at h4 hn
      by_cases w2 : wh = -2
      · rw [if_pos w2] at h4 hn; rw [h4] at hn; cases hn
      · rw [if_neg w2] at h4 hn
        have a := of_decide_eq_true h4
        have b := of_decide_eq_false hn
        omega

/-- A symbol's numbers, in the order of their bytes. -/
def symN (name bind : Int) (hid : Bool) (wh val sz : Int) : List Int := [name, 16 * bind, hidN hid, wU wh, val, sz]
/-- Its 24 bytes. -/
def symL (name bind : Int) (hid : Bool) (wh val sz : Int) : List Int := putAll (symS.zip (symN name bind hid wh val sz))
theorem symL_length (name bind : Int) (hid : Bool) (wh val sz : Int) : (symL name bind hid wh val sz).length = 24 := by
  unfold symL
  rw [putAll_length]
  rfl
theorem symL_range (name bind : Int) (hid : Bool) (wh val sz : Int) : ∀ x ∈ symL name bind hid wh val sz, 0 ≤ x ∧ x < 256 := putAll_range _
theorem hidN_range (hid : Bool) : hidN hid = 0 ∨ hidN hid = 2 := by cases hid; exact .inl rfl; exact .inr rfl
theorem symN_fit {name bind : Int} {hid : Bool} {wh val sz n : Int} (hn : 0 ≤ name ∧ name ≤ 65535) (h16 : n ≤ 16) (h : standsB bind hid wh val sz n = true) : ∀ p ∈ symS.zip (symN name bind hid wh val sz), fitZ p.1 p.2 := by
  obtain ⟨hb, _, hw, hv, hs⟩ := stands_has h
  have hwu : 0 ≤ wU wh ∧ wU wh ≤ 65535 := by
    unfold wU
    rcases hw with rfl | rfl | rfl | hw
    · decide
    · decide
    · decide
    · rw [if_neg (by omega), if_neg (by omega)]; omega
  have hh := hidN_range hid
  intro p hp
  have e1 : (256 : Int) ^ 1 = 256 := by decide
  have e2 : (256 : Int) ^ 2 = 65536 := by decide
  have e4 : (256 : Int) ^ 4 = 4294967296 := by decide
  unfold symS symN at hp
  simp only [List.zip_cons_cons, List.zip_nil_right, List.mem_cons, List.not_mem_nil, or_false] at hp
  rcases hp with rfl | rfl | rfl | rfl | rfl | rfl
  · left; unfold fitN; rw [e4]; omega
  · left; unfold fitN; rw [e1]; omega
  · left; unfold fitN; rw [e1]; omega
  · left; unfold fitN; rw [e2]; omega
  · right; exact ⟨rfl, by omega, by omega⟩
  · right; exact ⟨rfl, by omega, by omega⟩
/-- The numbers that 24 bytes have. -/
def symV (b : List Int) : List Int := getAll symS b
theorem symV_length (b : List Int) : (symV b).length = 6 := by unfold symV; rw [getAll_length]; rfl
/-- A SYMBOL's BYTES TELL IT. -/
theorem sym_back {name bind : Int} {hid : Bool} {wh val sz n : Int} (hn : 0 ≤ name ∧ name ≤ 65535) (h16 : n ≤ 16) (h : standsB bind hid wh val sz n = true) : symV (symL name bind hid wh val sz) = symN name bind hid wh val sz := by
  have := getAll_putZ _ (symN_fit hn h16 h) []
  rw [List.append_nil] at this
  exact this
theorem list6 {v : List Int} (h : v.length = 6) : ∃ n o p u x z, v = [n, o, p, u, x, z] := by
  match v, h with
  | [n, o, p, u, x, z], _ => exact ⟨n, o, p, u, x, z, rfl⟩
/-- BYTES ARE THOSE OF THE SYMBOL THAT THEY TELL, just where the fifth is a multiple of 16, and the sixth 0 or 2. -/
theorem back_sym {b : List Int} (hl : b.length = 24) (hr : ∀ x ∈ b, 0 ≤ x ∧ x < 256) {n o p u x z : Int} (hv : symV b = [n, o, p, u, x, z]) :
    (0 ≤ n ∧ n < 4294967296) ∧ (0 ≤ o ∧ o < 256) ∧ (0 ≤ p ∧ p < 256) ∧ (0 ≤ u ∧ u < 65536) ∧
    (symL n (o / 16) (p == 2) (uW u) x z = b ↔ o % 16 = 0 ∧ (p = 0 ∨ p = 2)) := by
  have hb := putAll_getAll symS b (by rw [hl]; rfl) (by decide) hr
  have hb' : putAll (symS.zip [n, o, p, u, x, z]) = b := by rw [← hv]; exact hb
  have part : ∀ (lo s : Nat), lo + s ≤ 24 → s ≤ 4 → 0 ≤ sOf (nuN ((b.drop lo).take s)) ∧ sOf (nuN ((b.drop lo).take s)) < 256 ^ s := fun lo s h4 hs => by
    have h1 := nuN_lt ((b.drop lo).take s) (fun x hx => hr x (List.mem_of_mem_drop (List.mem_of_mem_take hx)))
    rw [List.length_take, List.length_drop, Nat.min_eq_left (by omega)] at h1
    have h2 : (256 : Nat) ^ s ≤ 256 ^ 4 := Nat.pow_le_pow_right (by decide) hs
    have h3 : (256 : Nat) ^ 4 = 4294967296 := by decide
    rw [sOf_small _ (by omega)]
    refine ⟨by omega, ?_⟩
    have : ((nuN ((b.drop lo).take s) : Nat) : Int) < ((256 ^ s : Nat) : Int) := by omega
    simpa using this
  have g : ∀ k, k < 6 → (symV b).getD k 0 = sOf (nuN ((b.drop (symS.take k).sum).take (symS.getD k 0))) := fun k hk => by
    have hl : k < symS.length := by simp [symS]; omega
    unfold symV
    rw [getAll_at symS b k hl]
    congr 3
    rw [List.getD, List.getElem?_eq_getElem hl]
    rfl
  rw [hv] at g
  have a0 := g 0 (by decide)
  have a1 := g 1 (by decide)
  have a2 := g 2 (by decide)
  have a3 := g 3 (by decide)
  simp only [List.getD_cons_zero, List.getD_cons_succ] at a0 a1 a2 a3
  have r0 := part 0 4 (by decide) (by decide)
  have r1 := part 4 1 (by decide) (by decide)
  have r2 := part 5 1 (by decide) (by decide)
  have r3 := part 6 2 (by decide) (by decide)
  have e1 : (256 : Int) ^ 1 = 256 := by decide
  have e2 : (256 : Int) ^ 2 = 65536 := by decide
  have e4 : (256 : Int) ^ 4 = 4294967296 := by decide
  rw [e4] at r0
  rw [e1] at r1 r2
  rw [e2] at r3
  have q0 : 0 ≤ n ∧ n < 4294967296 := by rw [a0]; exact r0
  have q1 : 0 ≤ o ∧ o < 256 := by rw [a1]; exact r1
  have q2 : 0 ≤ p ∧ p < 256 := by rw [a2]; exact r2
  have q3 : 0 ≤ u ∧ u < 65536 := by rw [a3]; exact r3
  refine ⟨q0, q1, q2, q3, ?_⟩
  have hw : wU (uW u) = u := wU_uW (by omega)
  constructor
  · intro he
    have h1 := putAll_at (symS.zip (symN n (o / 16) (p == 2) (uW u) x z)) 1 (by simp [symS, symN])
    have h2 := putAll_at (symS.zip (symN n (o / 16) (p == 2) (uW u) x z)) 2 (by simp [symS, symN])
    have i1 := putAll_at (symS.zip [n, o, p, u, x, z]) 1 (by simp [symS])
    have i2 := putAll_at (symS.zip [n, o, p, u, x, z]) 2 (by simp [symS])
    have he' : putAll (symS.zip (symN n (o / 16) (p == 2) (uW u) x z)) = b := he
    rw [he'] at h1 h2
    rw [hb'] at i1 i2
    have j1 : byN (uOf (16 * (o / 16))) 1 = byN (uOf o) 1 := h1.symm.trans i1
    have j2 : byN (uOf (hidN (p == 2))) 1 = byN (uOf p) 1 := h2.symm.trans i2
    have k1 := congrArg nuN j1
    have k2 := congrArg nuN j2
    have e256 : (256 : Nat) ^ 1 = 256 := by decide
    rw [nuN_byN, nuN_byN, uOf_nonneg _ (by omega) (by omega), uOf_nonneg _ (by omega) (by omega), e256] at k1
    have hh := hidN_range (p == 2)
    rw [nuN_byN, nuN_byN, uOf_nonneg _ (by omega) (by omega), uOf_nonneg _ (by omega) (by omega), e256] at k2
    omega
  · rintro ⟨h1, h2⟩
    have e5 : 16 * (o / 16) = o := by omega
    have e6 : hidN (p == 2) = p := by
      rcases h2 with rfl | rfl
      · rfl
      · rfl
    show putAll (symS.zip [n, 16 * (o / 16), hidN (p == 2), wU (uW u), x, z]) = b
    rw [e5, e6, hw]
    exact hb'
/-- UNLIKE SYMBOLS HAVE UNLIKE BYTES. -/
theorem sym_inj {name bind : Int} {hid : Bool} {wh val sz : Int} {name' bind' : Int} {hid' : Bool} {wh' val' sz' n : Int} (hn : 0 ≤ name ∧ name ≤ 65535) (hn' : 0 ≤ name' ∧ name' ≤ 65535) (h16 : n ≤ 16)
    (h : standsB bind hid wh val sz n = true) (h' : standsB bind' hid' wh' val' sz' n = true) (e : symL name bind hid wh val sz = symL name' bind' hid' wh' val' sz') :
    name = name' ∧ bind = bind' ∧ hid = hid' ∧ wh = wh' ∧ val = val' ∧ sz = sz' := by
  have e1 := sym_back hn h16 h
  have e2 := sym_back hn' h16 h'
  rw [e, e2] at e1
  unfold symN at e1
  simp only [List.cons.injEq, and_true] at e1
  obtain ⟨g1, g2, g3, g4, g5, g6⟩ := e1
  obtain ⟨_, _, w1, _, _⟩ := stands_has h
  obtain ⟨_, _, w2, _, _⟩ := stands_has h'
  refine ⟨g1.symm, by omega, ?_, ?_, g5.symm, g6.symm⟩
  · cases hid <;> cases hid' <;> simp [hidN] at g3 ⊢
  · have := congrArg uW g4
    rw [uW_wU (by omega), uW_wU (by omega)] at this
    exact this.symm

/-! ### What Check and Write answer -/
def okY (l : List Int) (bind : Int) (hid : Bool) (wh val sz n : Int) : Bool := mayNm l && standsB bind hid wh val sz n
def chkY (l : List Int) (bind : Int) (hid : Bool) (wh val sz n : Int) : Int := if 0 ≤ n ∧ n ≤ 16 then (if okY l bind hid wh val sz n = true then 0 else 8) else 2
theorem chkY_arg {l : List Int} {bind : Int} {hid : Bool} {wh val sz n : Int} (h : n < 0 ∨ 16 < n) : chkY l bind hid wh val sz n = 2 := by
  unfold chkY
  rw [if_neg (by omega)]
theorem chkY_in {l : List Int} {bind : Int} {hid : Bool} {wh val sz n : Int} (h0 : 0 ≤ n) (h1 : n ≤ 16) : chkY l bind hid wh val sz n = if okY l bind hid wh val sz n = true then 0 else 8 := by
  unfold chkY
  rw [if_pos ⟨h0, h1⟩]
def wyE (l : List Int) (bind : Int) (hid : Bool) (wh val sz name : Int) : Int := if okY l bind hid wh val sz 16 = true then (if 0 ≤ name ∧ name ≤ 65535 then 0 else 2) else 8
def wyL (l : List Int) (bind : Int) (hid : Bool) (wh val sz name : Int) : List Int := if wyE l bind hid wh val sz name = 0 then symL name bind hid wh val sz else []
theorem wy_bad {l : List Int} {bind : Int} {hid : Bool} {wh val sz name : Int} (h : okY l bind hid wh val sz 16 = false) : wyE l bind hid wh val sz name = 8 ∧ wyL l bind hid wh val sz name = [] := by
  have e : wyE l bind hid wh val sz name = 8 := by unfold wyE; rw [h]; rfl
  refine ⟨e, ?_⟩
  unfold wyL
  rw [e]
  rfl
theorem wy_arg {l : List Int} {bind : Int} {hid : Bool} {wh val sz name : Int} (h : okY l bind hid wh val sz 16 = true) (hn : name < 0 ∨ 65535 < name) : wyE l bind hid wh val sz name = 2 ∧ wyL l bind hid wh val sz name = [] := by
  have e : wyE l bind hid wh val sz name = 2 := by unfold wyE; rw [if_pos h, if_neg (by omega)]
  refine ⟨e, ?_⟩
  unfold wyL
  rw [e]
  rfl
theorem wy_ok {l : List Int} {bind : Int} {hid : Bool} {wh val sz name : Int} (h : okY l bind hid wh val sz 16 = true) (h0 : 0 ≤ name) (h1 : name ≤ 65535) : wyE l bind hid wh val sz name = 0 ∧ wyL l bind hid wh val sz name = symL name bind hid wh val sz := by
  have e : wyE l bind hid wh val sz name = 0 := by unfold wyE; rw [if_pos h, if_pos ⟨h0, h1⟩]
  refine ⟨e, ?_⟩
  unfold wyL
  rw [if_pos e]
theorem wy_cases (l : List Int) (bind : Int) (hid : Bool) (wh val sz name : Int) :
    (wyE l bind hid wh val sz name ≠ 0 ∧ wyL l bind hid wh val sz name = []) ∨ (wyE l bind hid wh val sz name = 0 ∧ wyL l bind hid wh val sz name = symL name bind hid wh val sz ∧ okY l bind hid wh val sz 16 = true ∧ 0 ≤ name ∧ name ≤ 65535) := by
  cases h : okY l bind hid wh val sz 16
  · left
    obtain ⟨a, b⟩ := wy_bad (name := name) h
    exact ⟨by rw [a]; decide, b⟩
  · by_cases hn : 0 ≤ name ∧ name ≤ 65535
    · right
      obtain ⟨a, b⟩ := wy_ok h hn.1 hn.2
      exact ⟨a, b, rfl, hn.1, hn.2⟩
    · left
      obtain ⟨a, b⟩ := wy_arg (name := name) h (by omega)
      exact ⟨by rw [a]; decide, b⟩
theorem okY_has {l : List Int} {bind : Int} {hid : Bool} {wh val sz n : Int} (h : okY l bind hid wh val sz n = true) : mayNm l = true ∧ standsB bind hid wh val sz n = true := by
  unfold okY at h
  rwa [Bool.and_eq_true] at h
theorem wyL_le (l : List Int) (bind : Int) (hid : Bool) (wh val sz name : Int) : (wyL l bind hid wh val sz name).length ≤ 24 := by
  rcases wy_cases l bind hid wh val sz name with ⟨_, h⟩ | ⟨_, h, _⟩
  · rw [h]; simp
  · rw [h, symL_length]; exact Nat.le_refl _
theorem wyL_range (l : List Int) (bind : Int) (hid : Bool) (wh val sz name : Int) : ∀ x ∈ wyL l bind hid wh val sz name, 0 ≤ x ∧ x < 256 := by
  rcases wy_cases l bind hid wh val sz name with ⟨_, h⟩ | ⟨_, h, _⟩
  · rw [h]; intro x hx; cases hx
  · rw [h]; exact symL_range _ _ _ _ _ _

/-! ### Number by number -/
theorem symS_at (k : Nat) (h : k < 6) : symS.getD k 0 = 1 ∨ symS.getD k 0 = 2 ∨ symS.getD k 0 = 4 ∨ symS.getD k 0 = 8 := by
  match k, h with
  | 0, _ => decide
  | 1, _ => decide
  | 2, _ => decide
  | 3, _ => decide
  | 4, _ => decide
  | 5, _ => decide
/-- The bytes of the first k numbers. -/
def symP (v : List Int) (k : Nat) : List Int := putAll ((symS.zip v).take k)
theorem symP_zero (v : List Int) : symP v 0 = [] := rfl
theorem symP_succ {v : List Int} (hv : v.length = 6) {k : Nat} (hk : k < 6) : symP v (k + 1) = symP v k ++ byN (uOf (v.getD k 0)) (symS.getD k 0) := by
  have hz : k < (symS.zip v).length := by rw [List.length_zip, hv]; simp [symS]; omega
  unfold symP
  rw [List.take_succ_eq_append_getElem hz, putAll_append, List.getElem_zip, List.getD, List.getElem?_eq_getElem (by omega), List.getD, List.getElem?_eq_getElem (by simp [symS]; omega)]
  simp [putAll]
theorem symP_six {v : List Int} (hv : v.length = 6) : symP v 6 = putAll (symS.zip v) := by
  unfold symP
  rw [List.take_of_length_le (by rw [List.length_zip, hv]; simp [symS])]
theorem symP_le {v : List Int} (hv : v.length = 6) : ∀ k, k ≤ 6 → (symP v k).length ≤ 8 * k
  | 0, _ => by simp [symP_zero]
  | k + 1, h => by
    have ih := symP_le hv k (by omega)
    rw [symP_succ hv (by omega), List.length_append, byN_length]
    rcases symS_at k (by omega) with e | e | e | e <;> rw [e] <;> omega
theorem symN_length (name bind : Int) (hid : Bool) (wh val sz : Int) : (symN name bind hid wh val sz).length = 6 := rfl
theorem mayB_fit {s : Nat} (hs : s = 1 ∨ s = 2 ∨ s = 4 ∨ s = 8) {n : Int} (h : fitZ s n) : mayB n (s : Int) = true := by
  have e1 : (256 : Int) ^ 1 = 256 := by decide
  have e2 : (256 : Int) ^ 2 = 65536 := by decide
  have e4 : (256 : Int) ^ 4 = 4294967296 := by decide
  rcases hs with rfl | rfl | rfl | rfl
  · rw [show ((1 : Nat) : Int) = 1 from rfl, mayB_1]
    rcases h with h | h
    · unfold fitN at h; rw [e1] at h; exact decide_eq_true (by omega)
    · omega
  · rw [show ((2 : Nat) : Int) = 2 from rfl, mayB_2]
    rcases h with h | h
    · unfold fitN at h; rw [e2] at h; exact decide_eq_true (by omega)
    · omega
  · rw [show ((4 : Nat) : Int) = 4 from rfl, mayB_4]
    rcases h with h | h
    · unfold fitN at h; rw [e4] at h; exact decide_eq_true (by omega)
    · omega
  · exact mayB_8 n
theorem fitZ_at {v : List Int} (hv : v.length = 6) (h : ∀ p ∈ symS.zip v, fitZ p.1 p.2) {k : Nat} (hk : k < 6) : fitZ (symS.getD k 0) (v.getD k 0) := by
  have hz : k < (symS.zip v).length := by rw [List.length_zip, hv]; simp [symS]; omega
  have := h _ (List.getElem_mem hz)
  rw [List.getElem_zip] at this
  rw [List.getD, List.getElem?_eq_getElem (by simp [symS]; omega), List.getD, List.getElem?_eq_getElem (by omega)]
  exact this
/-- Each number may be put. -/
theorem symN_may {name bind : Int} {hid : Bool} {wh val sz : Int} (hn : 0 ≤ name ∧ name ≤ 65535) (h : standsB bind hid wh val sz 16 = true) {k : Nat} (hk : k < 6) :
    mayB ((symN name bind hid wh val sz).getD k 0) ((symS.getD k 0 : Nat) : Int) = true :=
  mayB_fit (symS_at k hk) (fitZ_at (symN_length _ _ _ _ _ _) (symN_fit hn (by decide) h) hk)
theorem symN_range {name bind : Int} {hid : Bool} {wh val sz : Int} (hn : 0 ≤ name ∧ name ≤ 65535) (h : standsB bind hid wh val sz 16 = true) {k : Nat} (hk : k < 6) :
    -9223372036854775808 ≤ (symN name bind hid wh val sz).getD k 0 ∧ (symN name bind hid wh val sz).getD k 0 ≤ 9223372036854775807 := by
  have h8 := fitZ_at (symN_length name bind hid wh val sz) (symN_fit hn (by decide) h) hk
  rcases h8 with h8 | h8
  · unfold fitN at h8; omega
  · omega
/-- Where the k-th number's bytes begin. -/
def offY (k : Nat) : Nat := (symS.take k).sum
theorem offY_succ {k : Nat} (hk : k < 6) : offY (k + 1) = offY k + symS.getD k 0 := by
  unfold offY
  rw [List.take_succ_eq_append_getElem (by simp [symS]; omega), List.sum_append, List.getD, List.getElem?_eq_getElem (by simp [symS]; omega)]
  simp
theorem offY_le {k : Nat} (hk : k < 6) : offY k + symS.getD k 0 ≤ 24 := by
  match k, hk with
  | 0, _ => decide
  | 1, _ => decide
  | 2, _ => decide
  | 3, _ => decide
  | 4, _ => decide
  | 5, _ => decide
theorem symV_at (b : List Int) {k : Nat} (hk : k < 6) : (symV b).getD k 0 = sOf (nuN ((b.drop (offY k)).take (symS.getD k 0))) := by
  have hl : k < symS.length := by simp [symS]; omega
  unfold symV offY
  rw [getAll_at symS b k hl]
  congr 3
  rw [List.getD, List.getElem?_eq_getElem hl]
  rfl
theorem getY_at {l : List Int} {k : Nat} (hk : k < 6) (hl : l.length = 24) : getV l (offY k : Int) (symS.getD k 0 : Nat) = (symV l).getD k 0 ∧ getE l (offY k : Int) (symS.getD k 0 : Nat) = 0 := by
  have hs : szB ((symS.getD k 0 : Nat) : Int) = true := by rcases symS_at k hk with e | e | e | e <;> rw [e] <;> rfl
  have hi : inB l (offY k : Int) ((symS.getD k 0 : Nat) : Int) = true := by
    have := offY_le hk
    exact decide_eq_true (by omega)
  have h1 : getV l (offY k : Int) (symS.getD k 0 : Nat) = sOf (nuN ((l.drop ((offY k : Int)).toNat).take (((symS.getD k 0 : Nat) : Int)).toNat)) := by
    unfold getV; rw [if_pos hs, if_pos hi]
  have h2 : getE l (offY k : Int) (symS.getD k 0 : Nat) = 0 := by
    unfold getE; rw [if_pos hs, if_pos hi]
  refine ⟨?_, h2⟩
  rw [h1, symV_at l hk, Int.toNat_natCast, Int.toNat_natCast]

/-! ### What Read answers -/
/-- A place as the program has it back. -/
def tW (u : Int) : Int := if u < 32768 then u else 65520 - u
theorem tW_uW {bind : Int} {hid : Bool} {u val sz : Int} (hu : 0 ≤ u ∧ u < 65536) (h : standsB bind hid (uW u) val sz 16 = true) : tW u = uW u := by
  obtain ⟨_, _, hw, _, _⟩ := stands_has h
  unfold tW uW at *
  by_cases h1 : u = 65521
  · rw [if_neg (by omega), if_pos h1, h1]; rfl
  · rw [if_neg h1] at hw ⊢
    by_cases h2 : u = 65522
    · rw [if_neg (by omega), if_pos h2, h2]; rfl
    · rw [if_neg h2] at hw ⊢
      rw [if_pos (by omega)]
/-- Are these the bytes of a symbol? -/
def ryOk (n o p u x z : Int) : Bool := decide (0 ≤ n ∧ n ≤ 65535) && standsB (o / 16) (p == 2) (uW u) x z 16 && decide (o % 16 = 0 ∧ (p = 0 ∨ p = 2))
abbrev RAns := Int × Bool × Int × Int × Int × Int × Int
def ryV : List Int → RAns
  | [n, o, p, u, x, z] => if ryOk n o p u x z = true then (o / 16, p == 2, uW u, x, z, n, 0) else (0, false, 0, 0, 0, 0, 8)
  | _ => (0, false, 0, 0, 0, 0, 8)
def rdY (b : List Int) : RAns := if b.length = 24 then ryV (symV b) else (0, false, 0, 0, 0, 0, 3)
theorem rdY_len {b : List Int} (h : b.length ≠ 24) : rdY b = (0, false, 0, 0, 0, 0, 3) := by unfold rdY; rw [if_neg h]
theorem rdY_bad {b : List Int} (h : b.length = 24) {n o p u x z : Int} (hv : symV b = [n, o, p, u, x, z]) (hk : ryOk n o p u x z = false) : rdY b = (0, false, 0, 0, 0, 0, 8) := by
  unfold rdY
  rw [if_pos h, hv, ryV, hk]
  rfl
theorem rdY_ok {b : List Int} (h : b.length = 24) {n o p u x z : Int} (hv : symV b = [n, o, p, u, x, z]) (hk : ryOk n o p u x z = true) : rdY b = (o / 16, p == 2, uW u, x, z, n, 0) := by
  unfold rdY
  rw [if_pos h, hv, ryV, if_pos hk]
/-- Just where the document's own three tests hold. -/
theorem ryOk_doc {b : List Int} (hl : b.length = 24) (hr : ∀ x ∈ b, 0 ≤ x ∧ x < 256) {n o p u x z : Int} (hv : symV b = [n, o, p, u, x, z]) :
    ryOk n o p u x z = (decide (0 ≤ n ∧ n ≤ 65535) && standsB (o / 16) (p == 2) (uW u) x z 16 && decide (symL n (o / 16) (p == 2) (uW u) x z = b)) := by
  have h := (back_sym hl hr hv).2.2.2.2
  unfold ryOk
  rw [decide_eq_decide.2 h]
/-- Just where the program writes the same bytes again. -/
theorem ryOk_prog {b : List Int} (hl : b.length = 24) (hr : ∀ x ∈ b, 0 ≤ x ∧ x < 256) {n o p u x z : Int} (hv : symV b = [n, o, p, u, x, z]) {l : List Int} (hm : mayNm l = true) :
    ryOk n o p u x z = (decide (wyE l (o / 16) (p == 2) (tW u) x z n = 0) && decide (wyL l (o / 16) (p == 2) (tW u) x z n = b)) ∧ (ryOk n o p u x z = true → tW u = uW u) := by
  have hbs := back_sym hl hr hv
  have hu := hbs.2.2.2.1
  have hn := hbs.1
  have hdoc := ryOk_doc hl hr hv
  have two : ryOk n o p u x z = true → tW u = uW u := by
    intro h
    unfold ryOk at h
    rw [Bool.and_eq_true, Bool.and_eq_true] at h
    exact tW_uW hu h.1.2
  refine ⟨?_, two⟩
  cases hk : ryOk n o p u x z with
  | true =>
    have e := two hk
    rw [hdoc, Bool.and_eq_true, Bool.and_eq_true, decide_eq_true_eq, decide_eq_true_eq] at hk
    obtain ⟨⟨h1, h2⟩, h3⟩ := hk
    have ho : okY l (o / 16) (p == 2) (tW u) x z 16 = true := by unfold okY; rw [hm, e, h2]; rfl
    obtain ⟨w1, w2⟩ := wy_ok ho h1.1 h1.2
    rw [decide_eq_true w1, decide_eq_true (by rw [w2, e]; exact h3)]
    rfl
  | false =>
    symm
    rw [Bool.and_eq_false_iff]
    rcases wy_cases l (o / 16) (p == 2) (tW u) x z n with ⟨w1, _⟩ | ⟨w1, w2, w3, w4⟩
    · left; exact decide_eq_false w1
    · right
      refine decide_eq_false fun he => ?_
      rw [w2] at he
      have hs := (okY_has w3).2
      have hback := sym_back w4 (by decide) hs
      rw [he, hv] at hback
      have hwu : u = wU (tW u) := congrArg (fun q : List Int => q.getD 3 0) hback
      obtain ⟨_, _, hw, _, _⟩ := stands_has hs
      have e : uW u = tW u := (congrArg uW hwu).trans (uW_wU (by omega))
      rw [hdoc, e, hs, decide_eq_true w4, decide_eq_true he] at hk
      cases hk
theorem rd_casesY (b : List Int) (hr : ∀ x ∈ b, 0 ≤ x ∧ x < 256) : (∃ E, rdY b = (0, false, 0, 0, 0, 0, E) ∧ E ≠ 0) ∨
    ∃ bind hid wh val sz name, rdY b = (bind, hid, wh, val, sz, name, 0) ∧ b.length = 24 ∧ standsB bind hid wh val sz 16 = true ∧ (0 ≤ name ∧ name ≤ 65535) ∧ symL name bind hid wh val sz = b := by
  by_cases h : b.length = 24
  · obtain ⟨n, o, p, u, x, z, hv⟩ := list6 (symV_length b)
    cases hk : ryOk n o p u x z with
    | false => left; exact ⟨8, rdY_bad h hv hk, by decide⟩
    | true =>
      right
      refine ⟨_, _, _, _, _, _, rdY_ok h hv hk, h, ?_⟩
      rw [ryOk_doc h hr hv, Bool.and_eq_true, Bool.and_eq_true, decide_eq_true_eq, decide_eq_true_eq] at hk
      exact ⟨hk.1.2, hk.1.1, hk.2⟩
  · left; exact ⟨3, rdY_len h, by decide⟩
/-- What is written is read. -/
theorem rdY_back {name bind : Int} {hid : Bool} {wh val sz : Int} (hn : 0 ≤ name ∧ name ≤ 65535) (h : standsB bind hid wh val sz 16 = true) : rdY (symL name bind hid wh val sz) = (bind, hid, wh, val, sz, name, 0) := by
  have hb := sym_back hn (by decide) h
  have hl := symL_length name bind hid wh val sz
  obtain ⟨hb1, _, hw, _, _⟩ := stands_has h
  have e1 : 16 * bind / 16 = bind := by omega
  have e2 : (hidN hid == 2) = hid := by cases hid <;> rfl
  have e3 : uW (wU wh) = wh := uW_wU (by omega)
  have hk : ryOk name (16 * bind) (hidN hid) (wU wh) val sz = true := by
    unfold ryOk
    rw [e1, e2, e3, h, decide_eq_true hn, decide_eq_true (⟨by omega, hidN_range hid⟩ : _ ∧ _)]
    rfl
  have := rdY_ok hl (show symV _ = [name, 16 * bind, hidN hid, wU wh, val, sz] from hb) hk
  rw [e1, e2, e3] at this
  exact this

/-! ### Types -/
/-- How many bytes a type is about; below 0: it is none. -/
def abtN (k : Int) : Int :=
  if k = 33 ∨ k = 37 then 1
  else if k = 34 ∨ k = 38 ∨ k = 44 ∨ k = 45 then 2
  else if k = 1 ∨ k = 16 ∨ k = 17 ∨ k = 23 ∨ k = 24 ∨ k = 25 ∨ k = 26 ∨ k = 27 ∨ k = 28 ∨ k = 35 ∨ k = 39 then 4
  else if k = 2 ∨ k = 36 ∨ k = 40 ∨ k = 18 then 8
  else if k = 43 ∨ k = 51 then 0 else -1
/-- The types that there are. -/
def TyB (k : Int) : Prop := k = 1 ∨ k = 2 ∨ k = 16 ∨ k = 17 ∨ k = 18 ∨ k = 23 ∨ k = 24 ∨ k = 25 ∨ k = 26 ∨ k = 27 ∨ k = 28 ∨ k = 33 ∨ k = 34 ∨ k = 35 ∨ k = 36 ∨ k = 37 ∨ k = 38 ∨ k = 39 ∨ k = 40 ∨ k = 43 ∨ k = 44 ∨ k = 45 ∨ k = 51
theorem abt_yes {k : Int} (h : TyB k) : abtN k = 0 ∨ abtN k = 1 ∨ abtN k = 2 ∨ abtN k = 4 ∨ abtN k = 8 := by
  unfold TyB at h
  rcases h with rfl | rfl | rfl | rfl | rfl | rfl | rfl | rfl | rfl | rfl | rfl | rfl | rfl | rfl | rfl | rfl | rfl | rfl | rfl | rfl | rfl | rfl | rfl <;> decide
theorem abt_no {k : Int} (h : ¬ TyB k) : abtN k = -1 := by
  unfold TyB at h
  unfold abtN
  rw [if_neg (by omega), if_neg (by omega), if_neg (by omega), if_neg (by omega), if_neg (by omega)]
theorem abt_iff (k : Int) : 0 ≤ abtN k ↔ TyB k := by
  constructor
  · intro h
    by_cases ht : TyB k
    · exact ht
    · rw [abt_no ht] at h; omega
  · intro h
    rcases abt_yes h with e | e | e | e | e <;> rw [e] <;> decide
theorem abt_le (k : Int) : abtN k ≤ 8 := by
  by_cases h : TyB k
  · rcases abt_yes h with e | e | e | e | e <;> rw [e] <;> decide
  · rw [abt_no h]; decide
theorem abt_ge (k : Int) : -1 ≤ abtN k := by
  by_cases h : TyB k
  · rcases abt_yes h with e | e | e | e | e <;> rw [e] <;> decide
  · rw [abt_no h]; decide
theorem ty_range {k : Int} (h : 0 ≤ abtN k) : 1 ≤ k ∧ k ≤ 51 := by
  have := (abt_iff k).1 h
  unfold TyB at this
  omega
/-- What Field answers. -/
def fdV (k : Int) : Int := if 0 ≤ abtN k then abtN k else 0
def fdE (k : Int) : Int := if 0 ≤ abtN k then 0 else 2
theorem fd_no {k : Int} (h : ¬ TyB k) : fdV k = 0 ∧ fdE k = 2 := by
  have : ¬ 0 ≤ abtN k := fun e => h ((abt_iff k).1 e)
  exact ⟨if_neg this, if_neg this⟩
theorem fd_yes {k : Int} (h : TyB k) : fdV k = abtN k ∧ fdE k = 0 := ⟨if_pos ((abt_iff k).2 h), if_pos ((abt_iff k).2 h)⟩

/-! ### Which may be -/
/-- May a number be added? -/
def adB (n : Int) : Bool := decide (-2147483648 ≤ n ∧ n ≤ 4294967295)
/-- May it be of this symbol? -/
def bndX (ty sy n : Int) : Bool := if ty = 43 ∨ ty = 51 then decide (sy = -1) else decide (0 ≤ sy ∧ sy < n)
/-- Is a type one of data? -/
def plnX (ty : Int) : Bool := decide (ty = 1 ∨ ty = 2 ∨ (33 ≤ ty ∧ ty ≤ 40))
/-- May one of this type stand in a section of this kind, there? -/
def kndX (ty off : Int) (k : Nat) : Bool := decide (k ≠ 0) && if plnX ty = true then decide (k ≠ 4) else decide (k = 1 ∧ off % 2 = 0)
/-- May it add so much, so many bytes being left? -/
def filX (ty ad left : Int) : Bool := if ty = 51 ∨ ty = 24 ∨ ty = 25 then decide (ad = 0) else if ty = 43 then decide (ad % 2 = 0 ∧ 0 ≤ ad ∧ ad ≤ 62 ∧ ad ≤ left) else true

/-- A section, as it came in: its name, alignment, where its bytes lie, how many may, its size, its bytes. -/
structure SecV where
  s : ByteArray
  al : Int
  a : Option Addr
  cap : Nat
  sz : Int
  z : List Int
def secNo : SecV := ⟨⟨#[]⟩, 0, none, 0, 0, []⟩
/-- May it be where it is? -/
def plcX (sec off ty ad : Int) (l : List SecV) : Bool :=
  decide (0 ≤ abtN ty ∧ 1 ≤ sec ∧ sec ≤ l.length) &&
  (kndX ty off (kindN (nm (l.getD (sec - 1).toNat secNo).s)) && decide (0 ≤ off) && decide (abtN ty ≤ ((l.getD (sec - 1).toNat secNo).z.length : Int) - off) &&
   filX ty ad (((l.getD (sec - 1).toNat secNo).z.length : Int) - off))
def mayX (sec off ty sy ad : Int) (l : List SecV) (n : Int) : Bool := adB ad && bndX ty sy n && plcX sec off ty ad l
/-- May a section be? -/
def okS (v : SecV) : Bool := sectB (nm v.s) v.al v.z.length v.sz
def chkX (sec off ty sy ad : Int) (l : List SecV) (n : Int) : Int :=
  if 16 < l.length then 4 else if n < 0 ∨ 64 < n then 2 else if l.all okS = true then (if mayX sec off ty sy ad l n = true then 0 else 8) else 8
theorem chkX_many {sec off ty sy ad : Int} {l : List SecV} {n : Int} (h : 16 < l.length) : chkX sec off ty sy ad l n = 4 := if_pos h
theorem chkX_arg {sec off ty sy ad : Int} {l : List SecV} {n : Int} (h : l.length ≤ 16) (hn : n < 0 ∨ 64 < n) : chkX sec off ty sy ad l n = 2 := by
  unfold chkX; rw [if_neg (by omega), if_pos hn]
theorem chkX_sec {sec off ty sy ad : Int} {l : List SecV} {n : Int} (h : l.length ≤ 16) (h0 : 0 ≤ n) (h1 : n ≤ 64) (hs : l.all okS = false) : chkX sec off ty sy ad l n = 8 := by
  unfold chkX; rw [if_neg (by omega), if_neg (by omega), hs]; rfl
theorem chkX_in {sec off ty sy ad : Int} {l : List SecV} {n : Int} (h : l.length ≤ 16) (h0 : 0 ≤ n) (h1 : n ≤ 64) (hs : l.all okS = true) : chkX sec off ty sy ad l n = if mayX sec off ty sy ad l n = true then 0 else 8 := by
  unfold chkX; rw [if_neg (by omega), if_neg (by omega), if_pos hs]
theorem chkX_ok {sec off ty sy ad : Int} {l : List SecV} {n : Int} (h : chkX sec off ty sy ad l n = 0) : l.length ≤ 16 ∧ 0 ≤ n ∧ n ≤ 64 ∧ l.all okS = true ∧ mayX sec off ty sy ad l n = true := by
  unfold chkX at h
  by_cases h1 : 16 < l.length
  · rw [if_pos h1] at h; omega
  · rw [if_neg h1] at h
    by_cases h2 : n < 0 ∨ 64 < n
    · rw [if_pos h2] at h; omega
    · rw [if_neg h2] at h
      cases h3 : l.all okS
      · rw [h3, if_neg (by decide)] at h; omega
      · rw [if_pos h3] at h
        cases h4 : mayX sec off ty sy ad l n
        · rw [h4, if_neg (by decide)] at h; omega
        · exact ⟨by omega, by omega, by omega, rfl, rfl⟩
/-- WHAT MAY BE HAS ITS BYTES IN ITS SECTION. -/
theorem mayX_has {sec off ty sy ad : Int} {l : List SecV} {n : Int} (h : mayX sec off ty sy ad l n = true) :
    (-2147483648 ≤ ad ∧ ad ≤ 4294967295) ∧ 0 ≤ abtN ty ∧ (1 ≤ sec ∧ sec ≤ l.length) ∧ 0 ≤ off ∧ off + abtN ty ≤ ((l.getD (sec - 1).toNat secNo).z.length : Int) ∧ bndX ty sy n = true ∧ plcX sec off ty ad l = true := by
  unfold mayX at h
  rw [Bool.and_eq_true, Bool.and_eq_true] at h
  obtain ⟨⟨h1, h2⟩, h3⟩ := h
  have h3' := h3
  unfold plcX at h3
  rw [Bool.and_eq_true, Bool.and_eq_true, Bool.and_eq_true, Bool.and_eq_true, decide_eq_true_eq, decide_eq_true_eq, decide_eq_true_eq] at h3
  have ha := of_decide_eq_true h1
  exact ⟨ha, h3.1.1, h3.1.2, h3.2.1.1.2, by omega, h2, h3'⟩
theorem bnd_more {ty sy n m : Int} (hm : n ≤ m) (h : bndX ty sy n = true) : bndX ty sy m = true := by
  unfold bndX at h ⊢
  by_cases ht : ty = 43 ∨ ty = 51
  · rw [if_pos ht] at h ⊢; exact h
  · rw [if_neg ht] at h ⊢
    have := of_decide_eq_true h
    exact decide_eq_true (by omega)
theorem bnd_lt {ty sy n : Int} (h0 : 0 ≤ n) (h : bndX ty sy n = true) : -1 ≤ sy ∧ sy < n := by
  unfold bndX at h
  by_cases ht : ty = 43 ∨ ty = 51
  · rw [if_pos ht] at h
    have := of_decide_eq_true h
    omega
  · rw [if_neg ht] at h
    have := of_decide_eq_true h
    omega
theorem okS_len {l : List SecV} (h : l.all okS = true) {k : Nat} (hk : k < l.length) : (l.getD k secNo).z.length ≤ 4096 := by
  have hm : l.getD k secNo ∈ l := by rw [List.getD, List.getElem?_eq_getElem hk]; exact List.getElem_mem hk
  have := List.all_eq_true.1 h _ hm
  obtain ⟨_, _, h3⟩ := sectB_true this
  unfold sizesB at h3
  split at h3
  · have := of_decide_eq_true h3; omega
  · have := of_decide_eq_true h3; omega
theorem okS_kind {l : List SecV} (h : l.all okS = true) {k : Nat} (hk : k < l.length) : kindN (nm (l.getD k secNo).s) ≠ 0 := by
  have hm : l.getD k secNo ∈ l := by rw [List.getD, List.getElem?_eq_getElem hk]; exact List.getElem_mem hk
  exact (sectB_true (List.all_eq_true.1 h _ hm)).1

/-! ### Its 24 bytes -/
def relS : List Nat := [8, 4, 4, 8]
def relN (off ty sy ad : Int) : List Int := [off, ty, sy + 1, ad]
def relL (off ty sy ad : Int) : List Int := putAll (relS.zip (relN off ty sy ad))
theorem relN_length (off ty sy ad : Int) : (relN off ty sy ad).length = 4 := rfl
theorem relL_length (off ty sy ad : Int) : (relL off ty sy ad).length = 24 := by
  unfold relL
  rw [putAll_length]
  rfl
theorem relL_range (off ty sy ad : Int) : ∀ x ∈ relL off ty sy ad, 0 ≤ x ∧ x < 256 := putAll_range _
/-- May a relocation be written? -/
def codX (off ty sy ad : Int) : Bool := decide (0 ≤ abtN ty ∧ 0 ≤ off ∧ off ≤ 4096 ∧ -1 ≤ sy ∧ sy < 64) && adB ad
theorem codX_has {off ty sy ad : Int} (h : codX off ty sy ad = true) : (0 ≤ abtN ty ∧ 1 ≤ ty ∧ ty ≤ 51) ∧ (0 ≤ off ∧ off ≤ 4096) ∧ (-1 ≤ sy ∧ sy < 64) ∧ (-2147483648 ≤ ad ∧ ad ≤ 4294967295) := by
  unfold codX at h
  rw [Bool.and_eq_true, decide_eq_true_eq] at h
  have h2 := of_decide_eq_true h.2
  have h3 := ty_range h.1.1
  exact ⟨⟨h.1.1, h3⟩, by omega, by omega, h2⟩
theorem relN_fit {off ty sy ad : Int} (h0 : 0 ≤ off ∧ off ≤ 4096) (h1 : 0 ≤ ty ∧ ty < 4294967296) (h2 : -1 ≤ sy ∧ sy < 4294967295) (h3 : -9223372036854775808 ≤ ad ∧ ad ≤ 9223372036854775807) : ∀ p ∈ relS.zip (relN off ty sy ad), fitZ p.1 p.2 := by
  intro p hp
  have e4 : (256 : Int) ^ 4 = 4294967296 := by decide
  unfold relS relN at hp
  simp only [List.zip_cons_cons, List.zip_nil_right, List.mem_cons, List.not_mem_nil, or_false] at hp
  rcases hp with rfl | rfl | rfl | rfl
  · right; exact ⟨rfl, by omega, by omega⟩
  · left; unfold fitN; rw [e4]; omega
  · left; unfold fitN; rw [e4]; omega
  · right; exact ⟨rfl, by omega, by omega⟩
theorem codX_fit {off ty sy ad : Int} (h : codX off ty sy ad = true) : ∀ p ∈ relS.zip (relN off ty sy ad), fitZ p.1 p.2 := by
  obtain ⟨h1, h2, h3, h4⟩ := codX_has h
  exact relN_fit h2 (by omega) (by omega) (by omega)
/-- The numbers that 24 bytes have. -/
def relV (b : List Int) : List Int := getAll relS b
theorem relV_length (b : List Int) : (relV b).length = 4 := by unfold relV; rw [getAll_length]; rfl
/-- A RELOCATION's BYTES TELL IT. -/
theorem rel_back {off ty sy ad : Int} (h : codX off ty sy ad = true) : relV (relL off ty sy ad) = relN off ty sy ad := by
  have := getAll_putZ _ (codX_fit h) []
  rw [List.append_nil] at this
  exact this
theorem list4 {v : List Int} (h : v.length = 4) : ∃ o t s a, v = [o, t, s, a] := by
  match v, h with
  | [o, t, s, a], _ => exact ⟨o, t, s, a, rfl⟩
/-- .. AND BYTES ARE THOSE OF WHAT THEY TELL. -/
theorem back_rel {b : List Int} (hl : b.length = 24) (hr : ∀ x ∈ b, 0 ≤ x ∧ x < 256) {o t s a : Int} (hv : relV b = [o, t, s, a]) :
    (0 ≤ t ∧ t < 4294967296) ∧ (0 ≤ s ∧ s < 4294967296) ∧ (-9223372036854775808 ≤ o ∧ o ≤ 9223372036854775807) ∧ (-9223372036854775808 ≤ a ∧ a ≤ 9223372036854775807) ∧ relL o t (s - 1) a = b := by
  have hb := putAll_getAll relS b (by rw [hl]; rfl) (by decide) hr
  have hb' : putAll (relS.zip [o, t, s, a]) = b := by rw [← hv]; exact hb
  have g : ∀ k, k < 4 → (relV b).getD k 0 = sOf (nuN ((b.drop (relS.take k).sum).take (relS.getD k 0))) := fun k hk => by
    have hl : k < relS.length := by simp [relS]; omega
    unfold relV
    rw [getAll_at relS b k hl]
    congr 3
    rw [List.getD, List.getElem?_eq_getElem hl]
    rfl
  have part : ∀ (lo : Nat), lo + 4 ≤ 24 → 0 ≤ sOf (nuN ((b.drop lo).take 4)) ∧ sOf (nuN ((b.drop lo).take 4)) < 4294967296 := fun lo h4 => by
    have h1 := nuN_lt ((b.drop lo).take 4) (fun x hx => hr x (List.mem_of_mem_drop (List.mem_of_mem_take hx)))
    rw [List.length_take, List.length_drop, Nat.min_eq_left (by omega)] at h1
    have h3 : (256 : Nat) ^ 4 = 4294967296 := by decide
    rw [h3] at h1
    rw [sOf_small _ (by omega)]
    omega
  rw [hv] at g
  have a0 := g 0 (by decide)
  have a1 := g 1 (by decide)
  have a2 := g 2 (by decide)
  have a3 := g 3 (by decide)
  simp only [List.getD_cons_zero, List.getD_cons_succ] at a0 a1 a2 a3
  have r1 := part 8 (by decide)
  have r2 := part 12 (by decide)
  have q1 : 0 ≤ t ∧ t < 4294967296 := by rw [a1]; exact r1
  have q2 : 0 ≤ s ∧ s < 4294967296 := by rw [a2]; exact r2
  have q0 : -9223372036854775808 ≤ o ∧ o ≤ 9223372036854775807 := by rw [a0]; exact sOf_range _
  have q3 : -9223372036854775808 ≤ a ∧ a ≤ 9223372036854775807 := by rw [a3]; exact sOf_range _
  refine ⟨q1, q2, q0, q3, ?_⟩
  show putAll (relS.zip [o, t, s - 1 + 1, a]) = b
  rw [show s - 1 + 1 = s by omega]
  exact hb'
/-- UNLIKE RELOCATIONS HAVE UNLIKE BYTES. -/
theorem rel_inj {off ty sy ad off' ty' sy' ad' : Int} (h : codX off ty sy ad = true) (h' : codX off' ty' sy' ad' = true) (e : relL off ty sy ad = relL off' ty' sy' ad') : off = off' ∧ ty = ty' ∧ sy = sy' ∧ ad = ad' := by
  have e1 := rel_back h
  have e2 := rel_back h'
  rw [e, e2] at e1
  unfold relN at e1
  simp only [List.cons.injEq, and_true] at e1
  omega

/-! ### What Write answers -/
def wxE (off ty sy ad : Int) : Int := if codX off ty sy ad = true then 0 else 8
def wxL (off ty sy ad : Int) : List Int := if codX off ty sy ad = true then relL off ty sy ad else []
theorem wx_no {off ty sy ad : Int} (h : codX off ty sy ad = false) : wxE off ty sy ad = 8 ∧ wxL off ty sy ad = [] := by unfold wxE wxL; rw [h]; exact ⟨rfl, rfl⟩
theorem wx_ok {off ty sy ad : Int} (h : codX off ty sy ad = true) : wxE off ty sy ad = 0 ∧ wxL off ty sy ad = relL off ty sy ad := by unfold wxE wxL; rw [h]; exact ⟨rfl, rfl⟩
theorem wxL_range (off ty sy ad : Int) : ∀ x ∈ wxL off ty sy ad, 0 ≤ x ∧ x < 256 := by
  cases h : codX off ty sy ad
  · rw [(wx_no h).2]; intro x hx; cases hx
  · rw [(wx_ok h).2]; exact relL_range _ _ _ _

/-! ### Number by number -/
theorem relS_at (k : Nat) (h : k < 4) : relS.getD k 0 = 4 ∨ relS.getD k 0 = 8 := by
  match k, h with
  | 0, _ => decide
  | 1, _ => decide
  | 2, _ => decide
  | 3, _ => decide
/-- The bytes of the first k numbers. -/
def relP (v : List Int) (k : Nat) : List Int := putAll ((relS.zip v).take k)
theorem relP_zero (v : List Int) : relP v 0 = [] := rfl
theorem relP_succ {v : List Int} (hv : v.length = 4) {k : Nat} (hk : k < 4) : relP v (k + 1) = relP v k ++ byN (uOf (v.getD k 0)) (relS.getD k 0) := by
  have hz : k < (relS.zip v).length := by rw [List.length_zip, hv]; simp [relS]; omega
  unfold relP
  rw [List.take_succ_eq_append_getElem hz, putAll_append, List.getElem_zip, List.getD, List.getElem?_eq_getElem (by omega), List.getD, List.getElem?_eq_getElem (by simp [relS]; omega)]
  simp [putAll]
theorem relP_four {v : List Int} (hv : v.length = 4) : relP v 4 = putAll (relS.zip v) := by
  unfold relP
  rw [List.take_of_length_le (by rw [List.length_zip, hv]; simp [relS])]
theorem relP_le {v : List Int} (hv : v.length = 4) : ∀ k, k ≤ 4 → (relP v k).length ≤ 8 * k
  | 0, _ => by simp [relP_zero]
  | k + 1, h => by
    have ih := relP_le hv k (by omega)
    rw [relP_succ hv (by omega), List.length_append, byN_length]
    rcases relS_at k (by omega) with e | e <;> rw [e] <;> omega
theorem fitX_at {v : List Int} (hv : v.length = 4) (h : ∀ p ∈ relS.zip v, fitZ p.1 p.2) {k : Nat} (hk : k < 4) : fitZ (relS.getD k 0) (v.getD k 0) := by
  have hz : k < (relS.zip v).length := by rw [List.length_zip, hv]; simp [relS]; omega
  have := h _ (List.getElem_mem hz)
  rw [List.getElem_zip] at this
  rw [List.getD, List.getElem?_eq_getElem (by simp [relS]; omega), List.getD, List.getElem?_eq_getElem (by omega)]
  exact this
theorem relN_may {off ty sy ad : Int} (h : codX off ty sy ad = true) {k : Nat} (hk : k < 4) : mayB ((relN off ty sy ad).getD k 0) ((relS.getD k 0 : Nat) : Int) = true :=
  mayB_fit (by rcases relS_at k hk with e | e <;> rw [e] <;> decide) (fitX_at (relN_length _ _ _ _) (codX_fit h) hk)
theorem relN_range {off ty sy ad : Int} (h : codX off ty sy ad = true) {k : Nat} (hk : k < 4) : -9223372036854775808 ≤ (relN off ty sy ad).getD k 0 ∧ (relN off ty sy ad).getD k 0 ≤ 9223372036854775807 := by
  have h8 := fitX_at (relN_length off ty sy ad) (codX_fit h) hk
  rcases h8 with h8 | h8
  · unfold fitN at h8; omega
  · omega
/-- Where the k-th number's bytes begin. -/
def offX (k : Nat) : Nat := (relS.take k).sum
theorem offX_succ {k : Nat} (hk : k < 4) : offX (k + 1) = offX k + relS.getD k 0 := by
  unfold offX
  rw [List.take_succ_eq_append_getElem (by simp [relS]; omega), List.sum_append, List.getD, List.getElem?_eq_getElem (by simp [relS]; omega)]
  simp
theorem offX_le {k : Nat} (hk : k < 4) : offX k + relS.getD k 0 ≤ 24 := by
  match k, hk with
  | 0, _ => decide
  | 1, _ => decide
  | 2, _ => decide
  | 3, _ => decide
theorem relV_at (b : List Int) {k : Nat} (hk : k < 4) : (relV b).getD k 0 = sOf (nuN ((b.drop (offX k)).take (relS.getD k 0))) := by
  have hl : k < relS.length := by simp [relS]; omega
  unfold relV offX
  rw [getAll_at relS b k hl]
  congr 3
  rw [List.getD, List.getElem?_eq_getElem hl]
  rfl
theorem getX_at {l : List Int} {k : Nat} (hk : k < 4) (hl : l.length = 24) : getV l (offX k : Int) (relS.getD k 0 : Nat) = (relV l).getD k 0 ∧ getE l (offX k : Int) (relS.getD k 0 : Nat) = 0 := by
  have hs : szB ((relS.getD k 0 : Nat) : Int) = true := by rcases relS_at k hk with e | e <;> rw [e] <;> rfl
  have hi : inB l (offX k : Int) ((relS.getD k 0 : Nat) : Int) = true := by
    have := offX_le hk
    exact decide_eq_true (by omega)
  have h1 : getV l (offX k : Int) (relS.getD k 0 : Nat) = sOf (nuN ((l.drop ((offX k : Int)).toNat).take (((relS.getD k 0 : Nat) : Int)).toNat)) := by
    unfold getV; rw [if_pos hs, if_pos hi]
  have h2 : getE l (offX k : Int) (relS.getD k 0 : Nat) = 0 := by
    unfold getE; rw [if_pos hs, if_pos hi]
  refine ⟨?_, h2⟩
  rw [h1, relV_at l hk, Int.toNat_natCast, Int.toNat_natCast]

/-! ### What Read answers -/
abbrev XAns := Int × Int × Int × Int × Int
def rxV : List Int → XAns
  | [o, t, s, a] => if codX o t (s - 1) a = true then (o, t, s - 1, a, 0) else (0, 0, 0, 0, 8)
  | _ => (0, 0, 0, 0, 8)
def rdX (b : List Int) : XAns := if b.length = 24 then rxV (relV b) else (0, 0, 0, 0, 3)
theorem rdX_len {b : List Int} (h : b.length ≠ 24) : rdX b = (0, 0, 0, 0, 3) := by unfold rdX; rw [if_neg h]
theorem rdX_bad {b : List Int} (h : b.length = 24) {o t s a : Int} (hv : relV b = [o, t, s, a]) (hk : codX o t (s - 1) a = false) : rdX b = (0, 0, 0, 0, 8) := by
  unfold rdX
  rw [if_pos h, hv, rxV, hk]
  rfl
theorem rdX_ok {b : List Int} (h : b.length = 24) {o t s a : Int} (hv : relV b = [o, t, s, a]) (hk : codX o t (s - 1) a = true) : rdX b = (o, t, s - 1, a, 0) := by
  unfold rdX
  rw [if_pos h, hv, rxV, if_pos hk]
/-- Just where the program writes the same bytes again, the type cut to a byte. -/
theorem codX_prog {b : List Int} (hl : b.length = 24) (hr : ∀ x ∈ b, 0 ≤ x ∧ x < 256) {o t s a : Int} (hv : relV b = [o, t, s, a]) :
    codX o t (s - 1) a = (decide (wxE o (t % 256) (s - 1) a = 0) && decide (wxL o (t % 256) (s - 1) a = b)) ∧ (codX o t (s - 1) a = true → t % 256 = t) := by
  obtain ⟨ht, hs, _, _, hL⟩ := back_rel hl hr hv
  have two : codX o t (s - 1) a = true → t % 256 = t := fun h => by
    have := (codX_has h).1
    omega
  refine ⟨?_, two⟩
  cases hk : codX o t (s - 1) a with
  | true =>
    have e := two hk
    rw [e, (wx_ok hk).1, (wx_ok hk).2, decide_eq_true (rfl : (0 : Int) = 0), decide_eq_true hL]
    rfl
  | false =>
    symm
    rw [Bool.and_eq_false_iff]
    cases hc : codX o (t % 256) (s - 1) a with
    | false => left; rw [(wx_no hc).1]; rfl
    | true =>
      right
      refine decide_eq_false fun he => ?_
      rw [(wx_ok hc).2] at he
      have hback := rel_back hc
      rw [he, hv] at hback
      unfold relN at hback
      simp only [List.cons.injEq, and_true] at hback
      rw [← hback.2.1] at hc
      rw [hc] at hk
      cases hk
/-- .. and just where the document's own test holds. -/
theorem codX_doc {o t s a : Int} (h : 255 < t) : codX o t s a = false := by
  cases hk : codX o t s a
  · rfl
  · have := (codX_has hk).1
    omega
theorem rdX_cases (b : List Int) (hr : ∀ x ∈ b, 0 ≤ x ∧ x < 256) : (∃ E, rdX b = (0, 0, 0, 0, E) ∧ E ≠ 0) ∨
    ∃ off ty sy ad, rdX b = (off, ty, sy, ad, 0) ∧ b.length = 24 ∧ codX off ty sy ad = true ∧ relL off ty sy ad = b := by
  by_cases h : b.length = 24
  · obtain ⟨o, t, s, a, hv⟩ := list4 (relV_length b)
    obtain ⟨_, _, _, _, hL⟩ := back_rel h hr hv
    cases hk : codX o t (s - 1) a with
    | false => left; exact ⟨8, rdX_bad h hv hk, by decide⟩
    | true => right; exact ⟨_, _, _, _, rdX_ok h hv hk, h, hk, hL⟩
  · left; exact ⟨3, rdX_len h, by decide⟩
/-- What is written is read. -/
theorem rdX_back {off ty sy ad : Int} (h : codX off ty sy ad = true) : rdX (relL off ty sy ad) = (off, ty, sy, ad, 0) := by
  have hb := rel_back h
  have e : sy + 1 - 1 = sy := by omega
  have := rdX_ok (relL_length off ty sy ad) (show relV _ = [off, ty, sy + 1, ad] from hb) (by rw [e]; exact h)
  rw [e] at this
  exact this
/-- What may be can be written, and with more symbols, too. -/
theorem may_cod {sec off ty sy ad : Int} {l : List SecV} {n : Int} (h : mayX sec off ty sy ad l n = true) (hn : 0 ≤ n ∧ n ≤ 64) (hs : l.all okS = true) : codX off ty sy ad = true := by
  obtain ⟨h1, h2, h3, h4, h5, h6, _⟩ := mayX_has h
  have hz := okS_len hs (show (sec - 1).toNat < l.length by omega)
  have hb := bnd_lt hn.1 h6
  unfold codX
  rw [Bool.and_eq_true]
  exact ⟨decide_eq_true (by omega), decide_eq_true h1⟩
theorem may_more {sec off ty sy ad : Int} {l : List SecV} {n m : Int} (h : mayX sec off ty sy ad l n = true) (hm : n ≤ m) : mayX sec off ty sy ad l m = true := by
  obtain ⟨h1, _, _, _, _, h6, h7⟩ := mayX_has h
  unfold mayX
  rw [bnd_more hm h6, h7, Bool.and_true, Bool.and_true]
  exact decide_eq_true h1
end Go.Proofs.YtljmgbpecoifnaaGreatDoor
