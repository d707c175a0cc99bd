/- Relocations, their types and their bytes: with no Go in sight. -/
import Derived.Test.YtbfmichhpcaamaaDoorYw
import Derived.Test.YtbfmichhpcaamaaDoorSn
namespace Go.Proofs.YtbfmichhpcaamaaDoor

/-! ### Types -/
/-- How many bytes a type is about; below 0: it is none. -/
def abtN (k : Int) : Int :=
  if k = 33 ∨ k = 37 then 1
  else if k = 34 ∨ k = 38 ∨ k = 44 ∨ k = 45 then 2
  else if k = 1 ∨ k = 16 ∨ k = 17 ∨ k = 23 ∨ k = 24 ∨ k = 25 ∨ k = 26 ∨ k = 27 ∨ k = 28 ∨ k = 35 ∨ k = 39 then 4
  else if k = 2 ∨ k = 36 ∨ k = 40 ∨ k = 18 then 8
  else if k = 43 ∨ k = 51 then 0 else -1
/-- The types that there are. -/
def TyB (k : Int) : Prop := k = 1 ∨ k = 2 ∨ k = 16 ∨ k = 17 ∨ k = 18 ∨ k = 23 ∨ k = 24 ∨ k = 25 ∨ k = 26 ∨ k = 27 ∨ k = 28 ∨ k = 33 ∨ k = 34 ∨ k = 35 ∨ k = 36 ∨ k = 37 ∨ k = 38 ∨ k = 39 ∨ k = 40 ∨ k = 43 ∨ k = 44 ∨ k = 45 ∨ k = 51
theorem abt_yes {k : Int} (h : TyB k) : abtN k = 0 ∨ abtN k = 1 ∨ abtN k = 2 ∨ abtN k = 4 ∨ abtN k = 8 := by
  unfold TyB at h
  rcases h with rfl | rfl | rfl | rfl | rfl | rfl | rfl | rfl | rfl | rfl | rfl | rfl | rfl | rfl | rfl | rfl | rfl | rfl | rfl | rfl | rfl | rfl | rfl <;> decide
theorem abt_no {k : Int} (h : ¬ TyB k) : abtN k = -1 := by
  unfold TyB at h
  unfold abtN
  rw [if_neg (by omega), if_neg (by omega), if_neg (by omega), if_neg (by omega), if_neg (by omega)]
theorem abt_iff (k : Int) : 0 ≤ abtN k ↔ TyB k := by
  constructor
  · intro h
    by_cases ht : TyB k
    · exact ht
    · rw [abt_no ht] at h; omega
  · intro h
    rcases abt_yes h with e | e | e | e | e <;> rw [e] <;> decide
theorem abt_le (k : Int) : abtN k ≤ 8 := by
  by_cases h : TyB k
  · rcases abt_yes h with e | e | e | e | e <;> rw [e] <;> decide
  · rw [abt_no h]; decide
theorem abt_ge (k : Int) : -1 ≤ abtN k := by
  by_cases h : TyB k
  · rcases abt_yes h with e | e | e | e | e <;> rw [e] <;> decide
  · rw [abt_no h]; decide
theorem ty_range {k : Int} (h : 0 ≤ abtN k) : 1 ≤ k ∧ k ≤ 51 := by
  have := (abt_iff k).1 h
  unfold TyB at this
  omega
/-- What Field answers. -/
def fdV (k : Int) : Int := if 0 ≤ abtN k then abtN k else 0
def fdE (k : Int) : Int := if 0 ≤ abtN k then 0 else 2
theorem fd_no {k : Int} (h : ¬ TyB k) : fdV k = 0 ∧ fdE k = 2 := by
  have : ¬ 0 ≤ abtN k := fun e => h ((abt_iff k).1 e)
  exact ⟨if_neg this, if_neg this⟩
theorem fd_yes {k : Int} (h : TyB k) : fdV k = abtN k ∧ fdE k = 0 := ⟨if_pos ((abt_iff k).2 h), if_pos ((abt_iff k).2 h)⟩

/-! ### Which may be -/
/-- May a number be added? -/
def adB (n : Int) : Bool := decide (-2147483648 ≤ n ∧ n ≤ 4294967295)
/-- May it be of this symbol? -/
def bndX (ty sy n : Int) : Bool := if ty = 43 ∨ ty = 51 then decide (sy = -1) else decide (0 ≤ sy ∧ sy < n)
/-- Is a type one of data? -/
def plnX (ty : Int) : Bool := decide (ty = 1 ∨ ty = 2 ∨ (33 ≤ ty ∧ ty ≤ 40))
/-- May one of this type stand in a section of this kind, there? -/
def kndX (ty off : Int) (k : Nat) : Bool := decide (k ≠ 0) && if plnX ty = true then decide (k ≠ 4) else decide (k = 1 ∧ off % 2 = 0)
/-- May it add so much, so many bytes being left? -/
def filX (ty ad left : Int) : Bool := if ty = 51 ∨ ty = 24 ∨ ty = 25 then decide (ad = 0) else if ty = 43 then decide (ad % 2 = 0 ∧ 0 ≤ ad ∧ ad ≤ 62 ∧ ad ≤ left) else true

/-- A section, as it came in: its name, alignment, where its bytes lie, how many may, its size, its bytes. -/
structure SecV where
  s : ByteArray
  al : Int
  a : Option Addr
  cap : Nat
  sz : Int
  z : List Int
def secNo : SecV := ⟨⟨#[]⟩, 0, none, 0, 0, []⟩
/-- May it be where it is? -/
def plcX (sec off ty ad : Int) (l : List SecV) : Bool :=
  decide (0 ≤ abtN ty ∧ 1 ≤ sec ∧ sec ≤ l.length) &&
  (kndX ty off (kindN (nm (l.getD (sec - 1).toNat secNo).s)) && decide (0 ≤ off) && decide (abtN ty ≤ ((l.getD (sec - 1).toNat secNo).z.length : Int) - off) &&
   filX ty ad (((l.getD (sec - 1).toNat secNo).z.length : Int) - off))
def mayX (sec off ty sy ad : Int) (l : List SecV) (n : Int) : Bool := adB ad && bndX ty sy n && plcX sec off ty ad l
/-- May a section be? -/
def okS (v : SecV) : Bool := sectB (nm v.s) v.al v.z.length v.sz
def chkX (sec off ty sy ad : Int) (l : List SecV) (n : Int) : Int :=
  if 16 < l.length then 4 else if n < 0 ∨ 64 < n then 2 else if l.all okS = true then (if mayX sec off ty sy ad l n = true then 0 else 8) else 8
theorem chkX_many {sec off ty sy ad : Int} {l : List SecV} {n : Int} (h : 16 < l.length) : chkX sec off ty sy ad l n = 4 := if_pos h
theorem chkX_arg {sec off ty sy ad : Int} {l : List SecV} {n : Int} (h : l.length ≤ 16) (hn : n < 0 ∨ 64 < n) : chkX sec off ty sy ad l n = 2 := by
  unfold chkX; rw [if_neg (by omega), if_pos hn]
theorem chkX_sec {sec off ty sy ad : Int} {l : List SecV} {n : Int} (h : l.length ≤ 16) (h0 : 0 ≤ n) (h1 : n ≤ 64) (hs : l.all okS = false) : chkX sec off ty sy ad l n = 8 := by
  unfold chkX; rw [if_neg (by omega), if_neg (by omega), hs]; rfl
theorem chkX_in {sec off ty sy ad : Int} {l : List SecV} {n : Int} (h : l.length ≤ 16) (h0 : 0 ≤ n) (h1 : n ≤ 64) (hs : l.all okS = true) : chkX sec off ty sy ad l n = if mayX sec off ty sy ad l n = true then 0 else 8 := by
  unfold chkX; rw [if_neg (by omega), if_neg (by omega), if_pos hs]
theorem chkX_ok {sec off ty sy ad : Int} {l : List SecV} {n : Int} (h : chkX sec off ty sy ad l n = 0) : l.length ≤ 16 ∧ 0 ≤ n ∧ n ≤ 64 ∧ l.all okS = true ∧ mayX sec off ty sy ad l n = true := by
  unfold chkX at h
  by_cases h1 : 16 < l.length
  · rw [if_pos h1] at h; omega
  · rw [if_neg h1] at h
    by_cases h2 : n < 0 ∨ 64 < n
    · rw [if_pos h2] at h; omega
    · rw [if_neg h2] at h
      cases h3 : l.all okS
      · rw [h3, if_neg (by decide)] at h; omega
      · rw [if_pos h3] at h
        cases h4 : mayX sec off ty sy ad l n
        · rw [h4, if_neg (by decide)] at h; omega
        · exact ⟨by omega, by omega, by omega, rfl, rfl⟩
/-- WHAT MAY BE HAS ITS BYTES IN ITS SECTION. -/
theorem mayX_has {sec off ty sy ad : Int} {l : List SecV} {n : Int} (h : mayX sec off ty sy ad l n = true) :
    (-2147483648 ≤ ad ∧ ad ≤ 4294967295) ∧ 0 ≤ abtN ty ∧ (1 ≤ sec ∧ sec ≤ l.length) ∧ 0 ≤ off ∧ off + abtN ty ≤ ((l.getD (sec - 1).toNat secNo).z.length : Int) ∧ bndX ty sy n = true ∧ plcX sec off ty ad l = true := by
  unfold mayX at h
  rw [Bool.and_eq_true, Bool.and_eq_true] at h
  obtain ⟨⟨h1, h2⟩, h3⟩ := h
  have h3' := h3
  unfold plcX at h3
  rw [Bool.and_eq_true, Bool.and_eq_true, Bool.and_eq_true, Bool.and_eq_true, decide_eq_true_eq, decide_eq_true_eq, decide_eq_true_eq] at h3
  have ha := of_decide_eq_true h1
  exact ⟨ha, h3.1.1, h3.1.2, h3.2.1.1.2, by omega, h2, h3'⟩
theorem bnd_more {ty sy n m : Int} (hm : n ≤ m) (h : bndX ty sy n = true) : bndX ty sy m = true := by
  unfold bndX at h ⊢
  by_cases ht : ty = 43 ∨ ty = 51
  · rw [if_pos ht] at h ⊢; exact h
  · rw [if_neg ht] at h ⊢
    have := of_decide_eq_true h
    exact decide_eq_true (by omega)
theorem bnd_lt {ty sy n : Int} (h0 : 0 ≤ n) (h : bndX ty sy n = true) : -1 ≤ sy ∧ sy < n := by
  unfold bndX at h
  by_cases ht : ty = 43 ∨ ty = 51
  · rw [if_pos ht] at h
    have := of_decide_eq_true h
    omega
  · rw [if_neg ht] at h
    have := of_decide_eq_true h
    omega
theorem okS_len {l : List SecV} (h : l.all okS = true) {k : Nat} (hk : k < l.length) : (l.getD k secNo).z.length ≤ 4096 := by
  have hm : l.getD k secNo ∈ l := by rw [List.getD, List.getElem?_eq_getElem hk]; exact List.getElem_mem hk
  have := List.all_eq_true.1 h _ hm
  obtain ⟨_, _, h3⟩ := sectB_true this
  unfold sizesB at h3
  split at h3
  · have := of_decide_eq_true h3; omega
  · have := of_decide_eq_true h3; omega
theorem okS_kind {l : List SecV} (h : l.all okS = true) {k : Nat} (hk : k < l.length) : kindN (nm (l.getD k secNo).s) ≠ 0 := by
  have hm : l.getD k secNo ∈ l := by rw [List.getD, List.getElem?_eq_getElem hk]; exact List.getElem_mem hk
  exact (sectB_true (List.all_eq_true.1 h _ hm)).1

/-! ### Its 24 bytes -/
def relS : List Nat := [8, 4, 4, 8]
def relN (off ty sy ad : Int) : List Int := [off, ty, sy + 1, ad]
def relL (off ty sy ad : Int) : List Int := putAll (relS.zip (relN off ty sy ad))
theorem relN_length (off ty sy ad : Int) : (relN off ty sy ad).length = 4 := rfl
theorem relL_length (off ty sy ad : Int) : (relL off ty sy ad).length = 24 := by
  unfold relL
  rw [putAll_length]
  rfl
theorem relL_range (off ty sy ad : Int) : ∀ x ∈ relL off ty sy ad, 0 ≤ x ∧ x < 256 := putAll_range _
/-- May a relocation be written? -/
def codX (off ty sy ad : Int) : Bool := decide (0 ≤ abtN ty ∧ 0 ≤ off ∧ off ≤ 4096 ∧ -1 ≤ sy ∧ sy < 64) && adB ad
theorem codX_has {off ty sy ad : Int} (h : codX off ty sy ad = true) : (0 ≤ abtN ty ∧ 1 ≤ ty ∧ ty ≤ 51) ∧ (0 ≤ off ∧ off ≤ 4096) ∧ (-1 ≤ sy ∧ sy < 64) ∧ (-2147483648 ≤ ad ∧ ad ≤ 4294967295) := by
  unfold codX at h
  rw [Bool.and_eq_true, decide_eq_true_eq] at h
  have h2 := of_decide_eq_true h.2
  have h3 := ty_range h.1.1
  exact ⟨⟨h.1.1, h3⟩, by omega, by omega, h2⟩
theorem relN_fit {off ty sy ad : Int} (h0 : 0 ≤ off ∧ off ≤ 4096) (h1 : 0 ≤ ty ∧ ty < 4294967296) (h2 : -1 ≤ sy ∧ sy < 4294967295) (h3 : -9223372036854775808 ≤ ad ∧ ad ≤ 9223372036854775807) : ∀ p ∈ relS.zip (relN off ty sy ad), fitZ p.1 p.2 := by
  intro p hp
  have e4 : (256 : Int) ^ 4 = 4294967296 := by decide
  unfold relS relN at hp
  simp only [List.zip_cons_cons, List.zip_nil_right, List.mem_cons, List.not_mem_nil, or_false] at hp
  rcases hp with rfl | rfl | rfl | rfl
  · right; exact ⟨rfl, by omega, by omega⟩
  · left; unfold fitN; rw [e4]; omega
  · left; unfold fitN; rw [e4]; omega
  · right; exact ⟨rfl, by omega, by omega⟩
theorem codX_fit {off ty sy ad : Int} (h : codX off ty sy ad = true) : ∀ p ∈ relS.zip (relN off ty sy ad), fitZ p.1 p.2 := by
  obtain ⟨h1, h2, h3, h4⟩ := codX_has h
  exact relN_fit h2 (by omega) (by omega) (by omega)
/-- The numbers that 24 bytes have. -/
def relV (b : List Int) : List Int := getAll relS b
theorem relV_length (b : List Int) : (relV b).length = 4 := by unfold relV; rw [getAll_length]; rfl
/-- A RELOCATION's BYTES TELL IT. -/
theorem rel_back {off ty sy ad : Int} (h : codX off ty sy ad = true) : relV (relL off ty sy ad) = relN off ty sy ad := by
  have := getAll_putZ _ (codX_fit h) []
  rw [List.append_nil] at this
  exact this
theorem list4 {v : List Int} (h : v.length = 4) : ∃ o t s a, v = [o, t, s, a] := by
  match v, h with
  | [o, t, s, a], _ => exact ⟨o, t, s, a, rfl⟩
/-- .. AND BYTES ARE THOSE OF WHAT THEY TELL. -/
theorem back_rel {b : List Int} (hl : b.length = 24) (hr : ∀ x ∈ b, 0 ≤ x ∧ x < 256) {o t s a : Int} (hv : relV b = [o, t, s, a]) :
    (0 ≤ t ∧ t < 4294967296) ∧ (0 ≤ s ∧ s < 4294967296) ∧ (-9223372036854775808 ≤ o ∧ o ≤ 9223372036854775807) ∧ (-9223372036854775808 ≤ a ∧ a ≤ 9223372036854775807) ∧ relL o t (s - 1) a = b := by
  have hb := putAll_getAll relS b (by rw [hl]; rfl) (by decide) hr
  have hb' : putAll (relS.zip [o, t, s, a]) = b := by rw [← hv]; exact hb
  have g : ∀ k, k < 4 → (relV b).getD k 0 = sOf (nuN ((b.drop (relS.take k).sum).take (relS.getD k 0))) := fun k hk => by
    have hl : k < relS.length := by simp [relS]; omega
    unfold relV
    rw [getAll_at relS b k hl]
    congr 3
    rw [List.getD, List.getElem?_eq_getElem hl]
    rfl
  have part : ∀ (lo : Nat), lo + 4 ≤ 24 → 0 ≤ sOf (nuN ((b.drop lo).take 4)) ∧ sOf (nuN ((b.drop lo).take 4)) < 4294967296 := fun lo h4 => by
    have h1 := nuN_lt ((b.drop lo).take 4) (fun x hx => hr x (List.mem_of_mem_drop (List.mem_of_mem_take hx)))
    rw [List.length_take, List.length_drop, Nat.min_eq_left (by omega)] at h1
    have h3 : (256 : Nat) ^ 4 = 4294967296 := by decide
    rw [h3] at h1
    rw [sOf_small _ (by omega)]
    omega
  rw [hv] at g
  have a0 := g 0 (by decide)
  have a1 := g 1 (by decide)
  have a2 := g 2 (by decide)
  have a3 := g 3 (by decide)
  simp only [List.getD_cons_zero, List.getD_cons_succ] at a0 a1 a2 a3
  have r1 := part 8 (by decide)
  have r2 := part 12 (by decide)
  have q1 : 0 ≤ t ∧ t < 4294967296 := by rw [a1]; exact r1
  have q2 : 0 ≤ s ∧ s < 4294967296 := by rw [a2]; exact r2
  have q0 : -9223372036854775808 ≤ o ∧ o ≤ 9223372036854775807 := by rw [a0]; exact sOf_range _
  have q3 : -9223372036854775808 ≤ a ∧ a ≤ 9223372036854775807 := by rw [a3]; exact sOf_range _
  refine ⟨q1, q2, q0, q3, ?_⟩
  show putAll (relS.zip [o, t, s - 1 + 1, a]) = b
  rw [show s - 1 + 1 = s by omega]
  exact hb'
/-- UNLIKE RELOCATIONS HAVE UNLIKE BYTES. -/
theorem rel_inj {off ty sy ad off' ty' sy' ad' : Int} (h : codX off ty sy ad = true) (h' : codX off' ty' sy' ad' = true) (e : relL off ty sy ad = relL off' ty' sy' ad') : off = off' ∧ ty = ty' ∧ sy = sy' ∧ ad = ad' := by
  have e1 := rel_back h
  have e2 := rel_back h'
  rw [e, e2] at e1
  unfold relN at e1
  simp only [List.cons.injEq, and_true] at e1
  omega

/-! ### What Write answers -/
def wxE (off ty sy ad : Int) : Int := if codX off ty sy ad = true then 0 else 8
def wxL (off ty sy ad : Int) : List Int := if codX off ty sy ad = true then relL off ty sy ad else []
theorem wx_no {off ty sy ad : Int} (h : codX off ty sy ad = false) : wxE off ty sy ad = 8 ∧ wxL off ty sy ad = [] := by unfold wxE wxL; rw [h]; exact ⟨rfl, rfl⟩
theorem wx_ok {off ty sy ad : Int} (h : codX off ty sy ad = true) : wxE off ty sy ad = 0 ∧ wxL off ty sy ad = relL off ty sy ad := by unfold wxE wxL; rw [h]; exact ⟨rfl, rfl⟩
theorem wxL_range (off ty sy ad : Int) : ∀ x ∈ wxL off ty sy ad, 0 ≤ x ∧ x < 256 := by
  cases h : codX off ty sy ad
  · rw [(wx_no h).2]; intro x hx; cases hx
  · rw [(wx_ok h).2]; exact relL_range _ _ _ _

/-! ### Number by number -/
theorem relS_at (k : Nat) (h : k < 4) : relS.getD k 0 = 4 ∨ relS.getD k 0 = 8 := by
  match k, h with
  | 0, _ => decide
  | 1, _ => decide
  | 2, _ => decide
  | 3, _ => decide
/-- The bytes of the first k numbers. -/
def relP (v : List Int) (k : Nat) : List Int := putAll ((relS.zip v).take k)
theorem relP_zero (v : List Int) : relP v 0 = [] := rfl
theorem relP_succ {v : List Int} (hv : v.length = 4) {k : Nat} (hk : k < 4) : relP v (k + 1) = relP v k ++ byN (uOf (v.getD k 0)) (relS.getD k 0) := by
  have hz : k < (relS.zip v).length := by rw [List.length_zip, hv]; simp [relS]; omega
  unfold relP
  rw [List.take_succ_eq_append_getElem hz, putAll_append, List.getElem_zip, List.getD, List.getElem?_eq_getElem (by omega), List.getD, List.getElem?_eq_getElem (by simp [relS]; omega)]
  simp [putAll]
theorem relP_four {v : List Int} (hv : v.length = 4) : relP v 4 = putAll (relS.zip v) := by
  unfold relP
  rw [List.take_of_length_le (by rw [List.length_zip, hv]; simp [relS])]
theorem relP_le {v : List Int} (hv : v.length = 4) : ∀ k, k ≤ 4 → (relP v k).length ≤ 8 * k
  | 0, _ => by simp [relP_zero]
  | k + 1, h => by
    have ih := relP_le hv k (by omega)
    rw [relP_succ hv (by omega), List.length_append, byN_length]
    rcases relS_at k (by omega) with e | e <;> rw [e] <;> omega
theorem fitX_at {v : List Int} (hv : v.length = 4) (h : ∀ p ∈ relS.zip v, fitZ p.1 p.2) {k : Nat} (hk : k < 4) : fitZ (relS.getD k 0) (v.getD k 0) := by
  have hz : k < (relS.zip v).length := by rw [List.length_zip, hv]; simp [relS]; omega
  have := h _ (List.getElem_mem hz)
  rw [List.getElem_zip] at this
  rw [List.getD, List.getElem?_eq_getElem (by simp [relS]; omega), List.getD, List.getElem?_eq_getElem (by omega)]
  exact this
theorem relN_may {off ty sy ad : Int} (h : codX off ty sy ad = true) {k : Nat} (hk : k < 4) : mayB ((relN off ty sy ad).getD k 0) ((relS.getD k 0 : Nat) : Int) = true :=
  mayB_fit (by rcases relS_at k hk with e | e <;> rw [e] <;> decide) (fitX_at (relN_length _ _ _ _) (codX_fit h) hk)
theorem relN_range {off ty sy ad : Int} (h : codX off ty sy ad = true) {k : Nat} (hk : k < 4) : -9223372036854775808 ≤ (relN off ty sy ad).getD k 0 ∧ (relN off ty sy ad).getD k 0 ≤ 9223372036854775807 := by
  have h8 := fitX_at (relN_length off ty sy ad) (codX_fit h) hk
  rcases h8 with h8 | h8
  · unfold fitN at h8; omega
  · omega
/-- Where the k-th number's bytes begin. -/
def offX (k : Nat) : Nat := (relS.take k).sum
theorem offX_succ {k : Nat} (hk : k < 4) : offX (k + 1) = offX k + relS.getD k 0 := by
  unfold offX
  rw [List.take_succ_eq_append_getElem (by simp [relS]; omega), List.sum_append, List.getD, List.getElem?_eq_getElem (by simp [relS]; omega)]
  simp
theorem offX_le {k : Nat} (hk : k < 4) : offX k + relS.getD k 0 ≤ 24 := by
  match k, hk with
  | 0, _ => decide
  | 1, _ => decide
  | 2, _ => decide
  | 3, _ => decide
theorem relV_at (b : List Int) {k : Nat} (hk : k < 4) : (relV b).getD k 0 = sOf (nuN ((b.drop (offX k)).take (relS.getD k 0))) := by
  have hl : k < relS.length := by simp [relS]; omega
  unfold relV offX
  rw [getAll_at relS b k hl]
  congr 3
  rw [List.getD, List.getElem?_eq_getElem hl]
  rfl
theorem getX_at {l : List Int} {k : Nat} (hk : k < 4) (hl : l.length = 24) : getV l (offX k : Int) (relS.getD k 0 : Nat) = (relV l).getD k 0 ∧ getE l (offX k : Int) (relS.getD k 0 : Nat) = 0 := by
  have hs : szB ((relS.getD k 0 : Nat) : Int) = true := by rcases relS_at k hk with e | e <;> rw [e] <;> rfl
  have hi : inB l (offX k : Int) ((relS.getD k 0 : Nat) : Int) = true := by
    have := offX_le hk
    exact decide_eq_true (by omega)
  have h1 : getV l (offX k : Int) (relS.getD k 0 : Nat) = sOf (nuN ((l.drop ((offX k : Int)).toNat).take (((relS.getD k 0 : Nat) : Int)).toNat)) := by
    unfold getV; rw [if_pos hs, if_pos hi]
  have h2 : getE l (offX k : Int) (relS.getD k 0 : Nat) = 0 := by
    unfold getE; rw [if_pos hs, if_pos hi]
  refine ⟨?_, h2⟩
  rw [h1, relV_at l hk, Int.toNat_natCast, Int.toNat_natCast]

/-! ### What Read answers -/
abbrev XAns := Int × Int × Int × Int × Int
def rxV : List Int → XAns
  | [o, t, s, a] => if codX o t (s - 1) a = true then (o, t, s - 1, a, 0) else (0, 0, 0, 0, 8)
  | _ => (0, 0, 0, 0, 8)
def rdX (b : List Int) : XAns := if b.length = 24 then rxV (relV b) else (0, 0, 0, 0, 3)
theorem rdX_len {b : List Int} (h : b.length ≠ 24) : rdX b = (0, 0, 0, 0, 3) := by unfold rdX; rw [if_neg h]
theorem rdX_bad {b : List Int} (h : b.length = 24) {o t s a : Int} (hv : relV b = [o, t, s, a]) (hk : codX o t (s - 1) a = false) : rdX b = (0, 0, 0, 0, 8) := by
  unfold rdX
  rw [if_pos h, hv, rxV, hk]
  rfl
theorem rdX_ok {b : List Int} (h : b.length = 24) {o t s a : Int} (hv : relV b = [o, t, s, a]) (hk : codX o t (s - 1) a = true) : rdX b = (o, t, s - 1, a, 0) := by
  unfold rdX
  rw [if_pos h, hv, rxV, if_pos hk]
/-- Just where the program writes the same bytes again, the type cut to a byte. -/
theorem codX_prog {b : List Int} (hl : b.length = 24) (hr : ∀ x ∈ b, 0 ≤ x ∧ x < 256) {o t s a : Int} (hv : relV b = [o, t, s, a]) :
    codX o t (s - 1) a = (decide (wxE o (t % 256) (s - 1) a = 0) && decide (wxL o (t % 256) (s - 1) a = b)) ∧ (codX o t (s - 1) a = true → t % 256 = t) := by
  obtain ⟨ht, hs, _, _, hL⟩ := back_rel hl hr hv
  have two : codX o t (s - 1) a = true → t % 256 = t := fun h => by
    have := (codX_has h).1
    omega
  refine ⟨?_, two⟩
  cases hk : codX o t (s - 1) a with
  | true =>
    have e := two hk
    rw [e, (wx_ok hk).1, (wx_ok hk).2, decide_eq_true (rfl : (0 : Int) = 0), decide_eq_true hL]
    rfl
  | false =>
    symm
    rw [Bool.and_eq_false_iff]
    cases hc : codX o (t % 256) (s - 1) a with
    | false => left; rw [(wx_no hc).1]; rfl
    | true =>
      right
      refine decide_eq_false fun he => ?_
      rw [(wx_ok hc).2] at he
      have hback := rel_back hc
      rw [he, hv] at hback
      unfold relN at hback
      simp only [List.cons.injEq, and_true] at hback
      rw [← hback.2.1] at hc
      rw [hc] at hk
      cases hk
/-- .. and just where the document's own test holds. -/
theorem codX_doc {o t s a : Int} (h : 255 < t) : codX o t s a = false := by
  cases hk : codX o t s a
  · rfl
  · have := (codX_has hk).1
    omega
theorem rdX_cases (b : List Int) (hr : ∀ x ∈ b, 0 ≤ x ∧ x < 256) : (∃ E, rdX b = (0, 0, 0, 0, E) ∧ E ≠ 0) ∨
    ∃ off ty sy ad, rdX b = (off, ty, sy, ad, 0) ∧ b.length = 24 ∧ codX off ty sy ad = true ∧ relL off ty sy ad = b := by
  by_cases h : b.length = 24
  · obtain ⟨o, t, s, a, hv⟩ := list4 (relV_length b)
    obtain ⟨_, _, _, _, hL⟩ := back_rel h hr hv
    cases hk : codX o t (s - 1) a with
    | false => left; exact ⟨8, rdX_bad h hv hk, by decide⟩
    | true => right; exact ⟨_, _, _, _, rdX_ok h hv hk, h, hk, hL⟩
  · left; exact ⟨3, rdX_len h, by decide⟩
/-- What is written is read. -/
theorem rdX_back {off ty sy ad : Int} (h : codX off ty sy ad = true) : rdX (relL off ty sy ad) = (off, ty, sy, ad, 0) := by
  have hb := rel_back h
  have e : sy + 1 - 1 = sy := by omega
  have := rdX_ok (relL_length off ty sy ad) (show relV _ = [off, ty, sy + 1, ad] from hb) (by rw [e]; exact h)
  rw [e] at this
  exact this
/-- What may be can be written, and with more symbols, too. -/
theorem may_cod {sec off ty sy ad : Int} {l : List SecV} {n : Int} (h : mayX sec off ty sy ad l n = true) (hn : 0 ≤ n ∧ n ≤ 64) (hs : l.all okS = true) : codX off ty sy ad = true := by
  obtain ⟨h1, h2, h3, h4, h5, h6, _⟩ := mayX_has h
  have hz := okS_len hs (show (sec - 1).toNat < l.length by omega)
  have hb := bnd_lt hn.1 h6
  unfold codX
  rw [Bool.and_eq_true]
  exact ⟨decide_eq_true (by omega), decide_eq_true h1⟩
theorem may_more {sec off ty sy ad : Int} {l : List SecV} {n m : Int} (h : mayX sec off ty sy ad l n = true) (hm : n ≤ m) : mayX sec off ty sy ad l m = true := by
  obtain ⟨h1, _, _, _, _, h6, h7⟩ := mayX_has h
  unfold mayX
  rw [bnd_more hm h6, h7, Bool.and_true, Bool.and_true]
  exact decide_eq_true h1
end Go.Proofs.YtbfmichhpcaamaaDoor
