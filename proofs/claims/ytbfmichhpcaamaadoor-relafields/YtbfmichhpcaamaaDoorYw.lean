/- What is answered of symbols, and their bytes number by number: with no Go in sight. -/
import Derived.Test.YtbfmichhpcaamaaDoorYm
namespace Go.Proofs.YtbfmichhpcaamaaDoor

/-! ### What Check and Write answer -/
def okY (l : List Int) (bind : Int) (hid : Bool) (wh val sz n : Int) : Bool := mayNm l && standsB bind hid wh val sz n
def chkY (l : List Int) (bind : Int) (hid : Bool) (wh val sz n : Int) : Int := if 0 ≤ n ∧ n ≤ 16 then (if okY l bind hid wh val sz n = true then 0 else 8) else 2
theorem chkY_arg {l : List Int} {bind : Int} {hid : Bool} {wh val sz n : Int} (h : n < 0 ∨ 16 < n) : chkY l bind hid wh val sz n = 2 := by
  unfold chkY
  rw [if_neg (by omega)]
theorem chkY_in {l : List Int} {bind : Int} {hid : Bool} {wh val sz n : Int} (h0 : 0 ≤ n) (h1 : n ≤ 16) : chkY l bind hid wh val sz n = if okY l bind hid wh val sz n = true then 0 else 8 := by
  unfold chkY
  rw [if_pos ⟨h0, h1⟩]
def wyE (l : List Int) (bind : Int) (hid : Bool) (wh val sz name : Int) : Int := if okY l bind hid wh val sz 16 = true then (if 0 ≤ name ∧ name ≤ 65535 then 0 else 2) else 8
def wyL (l : List Int) (bind : Int) (hid : Bool) (wh val sz name : Int) : List Int := if wyE l bind hid wh val sz name = 0 then symL name bind hid wh val sz else []
theorem wy_bad {l : List Int} {bind : Int} {hid : Bool} {wh val sz name : Int} (h : okY l bind hid wh val sz 16 = false) : wyE l bind hid wh val sz name = 8 ∧ wyL l bind hid wh val sz name = [] := by
  have e : wyE l bind hid wh val sz name = 8 := by unfold wyE; rw [h]; rfl
  refine ⟨e, ?_⟩
  unfold wyL
  rw [e]
  rfl
theorem wy_arg {l : List Int} {bind : Int} {hid : Bool} {wh val sz name : Int} (h : okY l bind hid wh val sz 16 = true) (hn : name < 0 ∨ 65535 < name) : wyE l bind hid wh val sz name = 2 ∧ wyL l bind hid wh val sz name = [] := by
  have e : wyE l bind hid wh val sz name = 2 := by unfold wyE; rw [if_pos h, if_neg (by omega)]
  refine ⟨e, ?_⟩
  unfold wyL
  rw [e]
  rfl
theorem wy_ok {l : List Int} {bind : Int} {hid : Bool} {wh val sz name : Int} (h : okY l bind hid wh val sz 16 = true) (h0 : 0 ≤ name) (h1 : name ≤ 65535) : wyE l bind hid wh val sz name = 0 ∧ wyL l bind hid wh val sz name = symL name bind hid wh val sz := by
  have e : wyE l bind hid wh val sz name = 0 := by unfold wyE; rw [if_pos h, if_pos ⟨h0, h1⟩]
  refine ⟨e, ?_⟩
  unfold wyL
  rw [if_pos e]
theorem wy_cases (l : List Int) (bind : Int) (hid : Bool) (wh val sz name : Int) :
    (wyE l bind hid wh val sz name ≠ 0 ∧ wyL l bind hid wh val sz name = []) ∨ (wyE l bind hid wh val sz name = 0 ∧ wyL l bind hid wh val sz name = symL name bind hid wh val sz ∧ okY l bind hid wh val sz 16 = true ∧ 0 ≤ name ∧ name ≤ 65535) := by
  cases h : okY l bind hid wh val sz 16
  · left
    obtain ⟨a, b⟩ := wy_bad (name := name) h
    exact ⟨by rw [a]; decide, b⟩
  · by_cases hn : 0 ≤ name ∧ name ≤ 65535
    · right
      obtain ⟨a, b⟩ := wy_ok h hn.1 hn.2
      exact ⟨a, b, rfl, hn.1, hn.2⟩
    · left
      obtain ⟨a, b⟩ := wy_arg (name := name) h (by omega)
      exact ⟨by rw [a]; decide, b⟩
theorem okY_has {l : List Int} {bind : Int} {hid : Bool} {wh val sz n : Int} (h : okY l bind hid wh val sz n = true) : mayNm l = true ∧ standsB bind hid wh val sz n = true := by
  unfold okY at h
  rwa [Bool.and_eq_true] at h
theorem wyL_le (l : List Int) (bind : Int) (hid : Bool) (wh val sz name : Int) : (wyL l bind hid wh val sz name).length ≤ 24 := by
  rcases wy_cases l bind hid wh val sz name with ⟨_, h⟩ | ⟨_, h, _⟩
  · rw [h]; simp
  · rw [h, symL_length]; exact Nat.le_refl _
theorem wyL_range (l : List Int) (bind : Int) (hid : Bool) (wh val sz name : Int) : ∀ x ∈ wyL l bind hid wh val sz name, 0 ≤ x ∧ x < 256 := by
  rcases wy_cases l bind hid wh val sz name with ⟨_, h⟩ | ⟨_, h, _⟩
  · rw [h]; intro x hx; cases hx
  · rw [h]; exact symL_range _ _ _ _ _ _

/-! ### Number by number -/
theorem symS_at (k : Nat) (h : k < 6) : symS.getD k 0 = 1 ∨ symS.getD k 0 = 2 ∨ symS.getD k 0 = 4 ∨ symS.getD k 0 = 8 := by
  match k, h with
  | 0, _ => decide
  | 1, _ => decide
  | 2, _ => decide
  | 3, _ => decide
  | 4, _ => decide
  | 5, _ => decide
/-- The bytes of the first k numbers. -/
def symP (v : List Int) (k : Nat) : List Int := putAll ((symS.zip v).take k)
theorem symP_zero (v : List Int) : symP v 0 = [] := rfl
theorem symP_succ {v : List Int} (hv : v.length = 6) {k : Nat} (hk : k < 6) : symP v (k + 1) = symP v k ++ byN (uOf (v.getD k 0)) (symS.getD k 0) := by
  have hz : k < (symS.zip v).length := by rw [List.length_zip, hv]; simp [symS]; omega
  unfold symP
  rw [List.take_succ_eq_append_getElem hz, putAll_append, List.getElem_zip, List.getD, List.getElem?_eq_getElem (by omega), List.getD, List.getElem?_eq_getElem (by simp [symS]; omega)]
  simp [putAll]
theorem symP_six {v : List Int} (hv : v.length = 6) : symP v 6 = putAll (symS.zip v) := by
  unfold symP
  rw [List.take_of_length_le (by rw [List.length_zip, hv]; simp [symS])]
theorem symP_le {v : List Int} (hv : v.length = 6) : ∀ k, k ≤ 6 → (symP v k).length ≤ 8 * k
  | 0, _ => by simp [symP_zero]
  | k + 1, h => by
    have ih := symP_le hv k (by omega)
    rw [symP_succ hv (by omega), List.length_append, byN_length]
    rcases symS_at k (by omega) with e | e | e | e <;> rw [e] <;> omega
theorem symN_length (name bind : Int) (hid : Bool) (wh val sz : Int) : (symN name bind hid wh val sz).length = 6 := rfl
theorem mayB_fit {s : Nat} (hs : s = 1 ∨ s = 2 ∨ s = 4 ∨ s = 8) {n : Int} (h : fitZ s n) : mayB n (s : Int) = true := by
  have e1 : (256 : Int) ^ 1 = 256 := by decide
  have e2 : (256 : Int) ^ 2 = 65536 := by decide
  have e4 : (256 : Int) ^ 4 = 4294967296 := by decide
  rcases hs with rfl | rfl | rfl | rfl
  · rw [show ((1 : Nat) : Int) = 1 from rfl, mayB_1]
    rcases h with h | h
    · unfold fitN at h; rw [e1] at h; exact decide_eq_true (by omega)
    · omega
  · rw [show ((2 : Nat) : Int) = 2 from rfl, mayB_2]
    rcases h with h | h
    · unfold fitN at h; rw [e2] at h; exact decide_eq_true (by omega)
    · omega
  · rw [show ((4 : Nat) : Int) = 4 from rfl, mayB_4]
    rcases h with h | h
    · unfold fitN at h; rw [e4] at h; exact decide_eq_true (by omega)
    · omega
  · exact mayB_8 n
theorem fitZ_at {v : List Int} (hv : v.length = 6) (h : ∀ p ∈ symS.zip v, fitZ p.1 p.2) {k : Nat} (hk : k < 6) : fitZ (symS.getD k 0) (v.getD k 0) := by
  have hz : k < (symS.zip v).length := by rw [List.length_zip, hv]; simp [symS]; omega
  have := h _ (List.getElem_mem hz)
  rw [List.getElem_zip] at this
  rw [List.getD, List.getElem?_eq_getElem (by simp [symS]; omega), List.getD, List.getElem?_eq_getElem (by omega)]
  exact this
/-- Each number may be put. -/
theorem symN_may {name bind : Int} {hid : Bool} {wh val sz : Int} (hn : 0 ≤ name ∧ name ≤ 65535) (h : standsB bind hid wh val sz 16 = true) {k : Nat} (hk : k < 6) :
    mayB ((symN name bind hid wh val sz).getD k 0) ((symS.getD k 0 : Nat) : Int) = true :=
  mayB_fit (symS_at k hk) (fitZ_at (symN_length _ _ _ _ _ _) (symN_fit hn (by decide) h) hk)
theorem symN_range {name bind : Int} {hid : Bool} {wh val sz : Int} (hn : 0 ≤ name ∧ name ≤ 65535) (h : standsB bind hid wh val sz 16 = true) {k : Nat} (hk : k < 6) :
    -9223372036854775808 ≤ (symN name bind hid wh val sz).getD k 0 ∧ (symN name bind hid wh val sz).getD k 0 ≤ 9223372036854775807 := by
  have h8 := fitZ_at (symN_length name bind hid wh val sz) (symN_fit hn (by decide) h) hk
  rcases h8 with h8 | h8
  · unfold fitN at h8; omega
  · omega
/-- Where the k-th number's bytes begin. -/
def offY (k : Nat) : Nat := (symS.take k).sum
theorem offY_succ {k : Nat} (hk : k < 6) : offY (k + 1) = offY k + symS.getD k 0 := by
  unfold offY
  rw [List.take_succ_eq_append_getElem (by simp [symS]; omega), List.sum_append, List.getD, List.getElem?_eq_getElem (by simp [symS]; omega)]
  simp
theorem offY_le {k : Nat} (hk : k < 6) : offY k + symS.getD k 0 ≤ 24 := by
  match k, hk with
  | 0, _ => decide
  | 1, _ => decide
  | 2, _ => decide
  | 3, _ => decide
  | 4, _ => decide
  | 5, _ => decide
theorem symV_at (b : List Int) {k : Nat} (hk : k < 6) : (symV b).getD k 0 = sOf (nuN ((b.drop (offY k)).take (symS.getD k 0))) := by
  have hl : k < symS.length := by simp [symS]; omega
  unfold symV offY
  rw [getAll_at symS b k hl]
  congr 3
  rw [List.getD, List.getElem?_eq_getElem hl]
  rfl
theorem getY_at {l : List Int} {k : Nat} (hk : k < 6) (hl : l.length = 24) : getV l (offY k : Int) (symS.getD k 0 : Nat) = (symV l).getD k 0 ∧ getE l (offY k : Int) (symS.getD k 0 : Nat) = 0 := by
  have hs : szB ((symS.getD k 0 : Nat) : Int) = true := by rcases symS_at k hk with e | e | e | e <;> rw [e] <;> rfl
  have hi : inB l (offY k : Int) ((symS.getD k 0 : Nat) : Int) = true := by
    have := offY_le hk
    exact decide_eq_true (by omega)
  have h1 : getV l (offY k : Int) (symS.getD k 0 : Nat) = sOf (nuN ((l.drop ((offY k : Int)).toNat).take (((symS.getD k 0 : Nat) : Int)).toNat)) := by
    unfold getV; rw [if_pos hs, if_pos hi]
  have h2 : getE l (offY k : Int) (symS.getD k 0 : Nat) = 0 := by
    unfold getE; rw [if_pos hs, if_pos hi]
  refine ⟨?_, h2⟩
  rw [h1, symV_at l hk, Int.toNat_natCast, Int.toNat_natCast]

/-! ### What Read answers -/
/-- A place as the program has it back. -/
def tW (u : Int) : Int := if u < 32768 then u else 65520 - u
theorem tW_uW {bind : Int} {hid : Bool} {u val sz : Int} (hu : 0 ≤ u ∧ u < 65536) (h : standsB bind hid (uW u) val sz 16 = true) : tW u = uW u := by
  obtain ⟨_, _, hw, _, _⟩ := stands_has h
  unfold tW uW at *
  by_cases h1 : u = 65521
  · rw [if_neg (by omega), if_pos h1, h1]; rfl
  · rw [if_neg h1] at hw ⊢
    by_cases h2 : u = 65522
    · rw [if_neg (by omega), if_pos h2, h2]; rfl
    · rw [if_neg h2] at hw ⊢
      rw [if_pos (by omega)]
/-- Are these the bytes of a symbol? -/
def ryOk (n o p u x z : Int) : Bool := decide (0 ≤ n ∧ n ≤ 65535) && standsB (o / 16) (p == 2) (uW u) x z 16 && decide (o % 16 = 0 ∧ (p = 0 ∨ p = 2))
abbrev RAns := Int × Bool × Int × Int × Int × Int × Int
def ryV : List Int → RAns
  | [n, o, p, u, x, z] => if ryOk n o p u x z = true then (o / 16, p == 2, uW u, x, z, n, 0) else (0, false, 0, 0, 0, 0, 8)
  | _ => (0, false, 0, 0, 0, 0, 8)
def rdY (b : List Int) : RAns := if b.length = 24 then ryV (symV b) else (0, false, 0, 0, 0, 0, 3)
theorem rdY_len {b : List Int} (h : b.length ≠ 24) : rdY b = (0, false, 0, 0, 0, 0, 3) := by unfold rdY; rw [if_neg h]
theorem rdY_bad {b : List Int} (h : b.length = 24) {n o p u x z : Int} (hv : symV b = [n, o, p, u, x, z]) (hk : ryOk n o p u x z = false) : rdY b = (0, false, 0, 0, 0, 0, 8) := by
  unfold rdY
  rw [if_pos h, hv, ryV, hk]
  rfl
theorem rdY_ok {b : List Int} (h : b.length = 24) {n o p u x z : Int} (hv : symV b = [n, o, p, u, x, z]) (hk : ryOk n o p u x z = true) : rdY b = (o / 16, p == 2, uW u, x, z, n, 0) := by
  unfold rdY
  rw [if_pos h, hv, ryV, if_pos hk]
/-- Just where the document's own three tests hold. -/
theorem ryOk_doc {b : List Int} (hl : b.length = 24) (hr : ∀ x ∈ b, 0 ≤ x ∧ x < 256) {n o p u x z : Int} (hv : symV b = [n, o, p, u, x, z]) :
    ryOk n o p u x z = (decide (0 ≤ n ∧ n ≤ 65535) && standsB (o / 16) (p == 2) (uW u) x z 16 && decide (symL n (o / 16) (p == 2) (uW u) x z = b)) := by
  have h := (back_sym hl hr hv).2.2.2.2
  unfold ryOk
  rw [decide_eq_decide.2 h]
/-- Just where the program writes the same bytes again. -/
theorem ryOk_prog {b : List Int} (hl : b.length = 24) (hr : ∀ x ∈ b, 0 ≤ x ∧ x < 256) {n o p u x z : Int} (hv : symV b = [n, o, p, u, x, z]) {l : List Int} (hm : mayNm l = true) :
    ryOk n o p u x z = (decide (wyE l (o / 16) (p == 2) (tW u) x z n = 0) && decide (wyL l (o / 16) (p == 2) (tW u) x z n = b)) ∧ (ryOk n o p u x z = true → tW u = uW u) := by
  have hbs := back_sym hl hr hv
  have hu := hbs.2.2.2.1
  have hn := hbs.1
  have hdoc := ryOk_doc hl hr hv
  have two : ryOk n o p u x z = true → tW u = uW u := by
    intro h
    unfold ryOk at h
    rw [Bool.and_eq_true, Bool.and_eq_true] at h
    exact tW_uW hu h.1.2
  refine ⟨?_, two⟩
  cases hk : ryOk n o p u x z with
  | true =>
    have e := two hk
    rw [hdoc, Bool.and_eq_true, Bool.and_eq_true, decide_eq_true_eq, decide_eq_true_eq] at hk
    obtain ⟨⟨h1, h2⟩, h3⟩ := hk
    have ho : okY l (o / 16) (p == 2) (tW u) x z 16 = true := by unfold okY; rw [hm, e, h2]; rfl
    obtain ⟨w1, w2⟩ := wy_ok ho h1.1 h1.2
    rw [decide_eq_true w1, decide_eq_true (by rw [w2, e]; exact h3)]
    rfl
  | false =>
    symm
    rw [Bool.and_eq_false_iff]
    rcases wy_cases l (o / 16) (p == 2) (tW u) x z n with ⟨w1, _⟩ | ⟨w1, w2, w3, w4⟩
    · left; exact decide_eq_false w1
    · right
      refine decide_eq_false fun he => ?_
      rw [w2] at he
      have hs := (okY_has w3).2
      have hback := sym_back w4 (by decide) hs
      rw [he, hv] at hback
      have hwu : u = wU (tW u) := congrArg (fun q : List Int => q.getD 3 0) hback
      obtain ⟨_, _, hw, _, _⟩ := stands_has hs
      have e : uW u = tW u := (congrArg uW hwu).trans (uW_wU (by omega))
      rw [hdoc, e, hs, decide_eq_true w4, decide_eq_true he] at hk
      cases hk
theorem rd_casesY (b : List Int) (hr : ∀ x ∈ b, 0 ≤ x ∧ x < 256) : (∃ E, rdY b = (0, false, 0, 0, 0, 0, E) ∧ E ≠ 0) ∨
    ∃ bind hid wh val sz name, rdY b = (bind, hid, wh, val, sz, name, 0) ∧ b.length = 24 ∧ standsB bind hid wh val sz 16 = true ∧ (0 ≤ name ∧ name ≤ 65535) ∧ symL name bind hid wh val sz = b := by
  by_cases h : b.length = 24
  · obtain ⟨n, o, p, u, x, z, hv⟩ := list6 (symV_length b)
    cases hk : ryOk n o p u x z with
    | false => left; exact ⟨8, rdY_bad h hv hk, by decide⟩
    | true =>
      right
      refine ⟨_, _, _, _, _, _, rdY_ok h hv hk, h, ?_⟩
      rw [ryOk_doc h hr hv, Bool.and_eq_true, Bool.and_eq_true, decide_eq_true_eq, decide_eq_true_eq] at hk
      exact ⟨hk.1.2, hk.1.1, hk.2⟩
  · left; exact ⟨3, rdY_len h, by decide⟩
/-- What is written is read. -/
theorem rdY_back {name bind : Int} {hid : Bool} {wh val sz : Int} (hn : 0 ≤ name ∧ name ≤ 65535) (h : standsB bind hid wh val sz 16 = true) : rdY (symL name bind hid wh val sz) = (bind, hid, wh, val, sz, name, 0) := by
  have hb := sym_back hn (by decide) h
  have hl := symL_length name bind hid wh val sz
  obtain ⟨hb1, _, hw, _, _⟩ := stands_has h
  have e1 : 16 * bind / 16 = bind := by omega
  have e2 : (hidN hid == 2) = hid := by cases hid <;> rfl
  have e3 : uW (wU wh) = wh := uW_wU (by omega)
  have hk : ryOk name (16 * bind) (hidN hid) (wU wh) val sz = true := by
    unfold ryOk
    rw [e1, e2, e3, h, decide_eq_true hn, decide_eq_true (⟨by omega, hidN_range hid⟩ : _ ∧ _)]
    rfl
  have := rdY_ok hl (show symV _ = [name, 16 * bind, hidN hid, wU wh, val, sz] from hb) hk
  rw [e1, e2, e3] at this
  exact this
end Go.Proofs.YtbfmichhpcaamaaDoor
