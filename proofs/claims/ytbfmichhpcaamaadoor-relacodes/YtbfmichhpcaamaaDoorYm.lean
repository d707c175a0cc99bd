/- Plain facts on symbols and their bytes: with no Go in sight. -/
import Derived.Test.YtbfmichhpcaamaaDoorHd
import Derived.Test.YtbfmichhpcaamaaDoorKn
namespace Go.Proofs.YtbfmichhpcaamaaDoor

/-- A number of so many bytes; one of eight may be below 0. -/
def fitZ (s : Nat) (n : Int) : Prop := fitN s n ∨ (s = 8 ∧ -9223372036854775808 ≤ n ∧ n ≤ 9223372036854775807)
theorem one_backZ {s : Nat} {n : Int} (h : fitZ s n) (rest : List Int) : sOf (nuN ((byN (uOf n) s ++ rest).take s)) = n := by
  rcases h with h | ⟨rfl, h0, h1⟩
  · exact one_back h rest
  · have hu : uOf n < 256 ^ 8 := by
      have := uOf_lt n
      have e : (256 : Nat) ^ 8 = 18446744073709551616 := by decide
      omega
    rw [List.take_left' (byN_length _ _), nuN_byN, Nat.mod_eq_of_lt hu, sOf_uOf n h0 h1]
/-- WHAT WAS PUT IS GOT. -/
theorem getAll_putZ (l : List (Nat × Int)) (h : ∀ p ∈ l, fitZ p.1 p.2) (rest : List Int) : getAll (l.map (·.1)) (putAll l ++ rest) = l.map (·.2) := by
  induction l with
  | nil => rfl
  | cons p r ih =>
    have h1 := h p (by simp)
    have h2 := ih (fun q hq => h q (by simp [hq]))
    simp only [List.map_cons, getAll, putAll, List.append_assoc]
    rw [one_backZ h1, List.drop_left' (byN_length _ _), h2]

def symS : List Nat := [4, 1, 1, 2, 8, 8]
/-- A place as two bytes have it, and back. -/
def wU (wh : Int) : Int := if wh = -1 then 65521 else if wh = -2 then 65522 else wh
def uW (u : Int) : Int := if u = 65521 then -1 else if u = 65522 then -2 else u
def hidN (hid : Bool) : Int := if hid = true then 2 else 0
theorem uW_wU {wh : Int} (h : wh ≠ 65521 ∧ wh ≠ 65522) : uW (wU wh) = wh := by
  unfold uW wU
  by_cases h1 : wh = -1
  · rw [if_pos h1, if_pos rfl, h1]
  · rw [if_neg h1]
    by_cases h2 : wh = -2
    · rw [if_pos h2, if_neg (by decide), if_pos rfl, h2]
    · rw [if_neg h2, if_neg h.1, if_neg h.2]
theorem wU_uW {u : Int} (h : u ≠ -1 ∧ u ≠ -2) : wU (uW u) = u := by
  unfold uW wU
  by_cases h1 : u = 65521
  · rw [if_pos h1, if_pos rfl, h1]
  · rw [if_neg h1]
    by_cases h2 : u = 65522
    · rw [if_pos h2, if_neg (by decide), if_pos rfl, h2]
    · rw [if_neg h2, if_neg h.1, if_neg h.2]

/-- May a symbol be in an object of n sections, but for its name? -/
def standsB (bind : Int) (hid : Bool) (wh val sz n : Int) : Bool :=
  decide (0 ≤ bind ∧ bind ≤ 2 ∧ ¬ (hid = true ∧ bind = 0)) &&
  (if wh = 0 then decide (val = 0 ∧ sz = 0 ∧ bind ≠ 0)
   else if wh = -1 then decide (-2147483648 ≤ val ∧ val ≤ 4294967295 ∧ sz = 0)
   else if wh = -2 then alignB val && decide (1 ≤ sz ∧ sz ≤ 4096 ∧ bind = 1)
   else decide (1 ≤ wh ∧ wh ≤ n ∧ 0 ≤ val ∧ val ≤ 4096 ∧ 0 ≤ sz ∧ sz ≤ 4096))
theorem stands_has {bind : Int} {hid : Bool} {wh val sz n : Int} (h : standsB bind hid wh val sz n = true) :
    (0 ≤ bind ∧ bind ≤ 2) ∧ ¬ (hid = true ∧ bind = 0) ∧ (wh = 0 ∨ wh = -1 ∨ wh = -2 ∨ (1 ≤ wh ∧ wh ≤ n)) ∧ (-2147483648 ≤ val ∧ val ≤ 4294967295) ∧ (0 ≤ sz ∧ sz ≤ 4096) := by
  unfold standsB at h
  rw [Bool.and_eq_true, decide_eq_true_eq] at h
  obtain ⟨⟨h1, h2, h3⟩, h4⟩ := h
  refine ⟨⟨h1, h2⟩, h3, ?_⟩
  by_cases w0 : wh = 0
  · rw [if_pos w0] at h4
    have := of_decide_eq_true h4
    exact ⟨.inl w0, by omega, by omega⟩
  · rw [if_neg w0] at h4
    by_cases w1 : wh = -1
    · rw [if_pos w1] at h4
      have := of_decide_eq_true h4
      exact ⟨.inr (.inl w1), by omega, by omega⟩
    · rw [if_neg w1] at h4
      by_cases w2 : wh = -2
      · rw [if_pos w2, Bool.and_eq_true] at h4
        have ha := of_decide_eq_true h4.1
        have hb := of_decide_eq_true h4.2
        exact ⟨.inr (.inr (.inl w2)), by omega, by omega⟩
      · rw [if_neg w2] at h4
        have := of_decide_eq_true h4
        exact ⟨.inr (.inr (.inr (by omega))), by omega, by omega⟩
/-- WHAT MAY BE IN AN OBJECT OF SOME SECTIONS MAY BE IN ONE OF MORE. -/
theorem stands_more {bind : Int} {hid : Bool} {wh val sz n m : Int} (hm : n ≤ m) (h : standsB bind hid wh val sz n = true) : standsB bind hid wh val sz m = true := by
  unfold standsB at h ⊢
  rw [Bool.and_eq_true] at h ⊢
  refine ⟨h.1, ?_⟩
  have h4 := h.2
  by_cases w0 : wh = 0
  · rw [if_pos w0] at h4 ⊢; exact h4
  · rw [if_neg w0] at h4 ⊢
    by_cases w1 : wh = -1
    · rw [if_pos w1] at h4 ⊢; exact h4
    · rw [if_neg w1] at h4 ⊢
      by_cases w2 : wh = -2
      · rw [if_pos w2] at h4 ⊢; exact h4
      · rw [if_neg w2] at h4 ⊢
        have := of_decide_eq_true h4
        exact decide_eq_true (by omega)
/-- .. and just the one of the last section may not be in one less. -/
theorem stands_less {bind : Int} {hid : Bool} {wh val sz n : Int} (h : standsB bind hid wh val sz (n + 1) = true) (hn : standsB bind hid wh val sz n = false) : wh = n + 1 := by
  unfold standsB at h hn
  rw [Bool.and_eq_true] at h
  rw [h.1, Bool.true_and] at hn
  have h4 := h.2
  by_cases w0 : wh = 0
  · rw [if_pos w0] at h4 hn; rw [h4] at hn; cases hn
  · rw [if_neg w0] at h4 hn
    by_cases w1 : wh = -1
    · rw [if_pos w1] at h4 hn; rw [h4] at hn; cases hn
    · rw [if_neg w1] at h4 hn
      by_cases w2 : wh = -2
      · rw [if_pos w2] at h4 hn; rw [h4] at hn; cases hn
      · rw [if_neg w2] at h4 hn
        have a := of_decide_eq_true h4
        have b := of_decide_eq_false hn
        omega

/-- A symbol's numbers, in the order of their bytes. -/
def symN (name bind : Int) (hid : Bool) (wh val sz : Int) : List Int := [name, 16 * bind, hidN hid, wU wh, val, sz]
/-- Its 24 bytes. -/
def symL (name bind : Int) (hid : Bool) (wh val sz : Int) : List Int := putAll (symS.zip (symN name bind hid wh val sz))
theorem symL_length (name bind : Int) (hid : Bool) (wh val sz : Int) : (symL name bind hid wh val sz).length = 24 := by
  unfold symL
  rw [putAll_length]
  rfl
theorem symL_range (name bind : Int) (hid : Bool) (wh val sz : Int) : ∀ x ∈ symL name bind hid wh val sz, 0 ≤ x ∧ x < 256 := putAll_range _
theorem hidN_range (hid : Bool) : hidN hid = 0 ∨ hidN hid = 2 := by cases hid; exact .inl rfl; exact .inr rfl
theorem symN_fit {name bind : Int} {hid : Bool} {wh val sz n : Int} (hn : 0 ≤ name ∧ name ≤ 65535) (h16 : n ≤ 16) (h : standsB bind hid wh val sz n = true) : ∀ p ∈ symS.zip (symN name bind hid wh val sz), fitZ p.1 p.2 := by
  obtain ⟨hb, _, hw, hv, hs⟩ := stands_has h
  have hwu : 0 ≤ wU wh ∧ wU wh ≤ 65535 := by
    unfold wU
    rcases hw with rfl | rfl | rfl | hw
    · decide
    · decide
    · decide
    · rw [if_neg (by omega), if_neg (by omega)]; omega
  have hh := hidN_range hid
  intro p hp
  have e1 : (256 : Int) ^ 1 = 256 := by decide
  have e2 : (256 : Int) ^ 2 = 65536 := by decide
  have e4 : (256 : Int) ^ 4 = 4294967296 := by decide
  unfold symS symN at hp
  simp only [List.zip_cons_cons, List.zip_nil_right, List.mem_cons, List.not_mem_nil, or_false] at hp
  rcases hp with rfl | rfl | rfl | rfl | rfl | rfl
  · left; unfold fitN; rw [e4]; omega
  · left; unfold fitN; rw [e1]; omega
  · left; unfold fitN; rw [e1]; omega
  · left; unfold fitN; rw [e2]; omega
  · right; exact ⟨rfl, by omega, by omega⟩
  · right; exact ⟨rfl, by omega, by omega⟩
/-- The numbers that 24 bytes have. -/
def symV (b : List Int) : List Int := getAll symS b
theorem symV_length (b : List Int) : (symV b).length = 6 := by unfold symV; rw [getAll_length]; rfl
/-- A SYMBOL's BYTES TELL IT. -/
theorem sym_back {name bind : Int} {hid : Bool} {wh val sz n : Int} (hn : 0 ≤ name ∧ name ≤ 65535) (h16 : n ≤ 16) (h : standsB bind hid wh val sz n = true) : symV (symL name bind hid wh val sz) = symN name bind hid wh val sz := by
  have := getAll_putZ _ (symN_fit hn h16 h) []
  rw [List.append_nil] at this
  exact this
theorem list6 {v : List Int} (h : v.length = 6) : ∃ n o p u x z, v = [n, o, p, u, x, z] := by
  match v, h with
  | [n, o, p, u, x, z], _ => exact ⟨n, o, p, u, x, z, rfl⟩
/-- BYTES ARE THOSE OF THE SYMBOL THAT THEY TELL, just where the fifth is a multiple of 16, and the sixth 0 or 2. -/
theorem back_sym {b : List Int} (hl : b.length = 24) (hr : ∀ x ∈ b, 0 ≤ x ∧ x < 256) {n o p u x z : Int} (hv : symV b = [n, o, p, u, x, z]) :
    (0 ≤ n ∧ n < 4294967296) ∧ (0 ≤ o ∧ o < 256) ∧ (0 ≤ p ∧ p < 256) ∧ (0 ≤ u ∧ u < 65536) ∧
    (symL n (o / 16) (p == 2) (uW u) x z = b ↔ o % 16 = 0 ∧ (p = 0 ∨ p = 2)) := by
  have hb := putAll_getAll symS b (by rw [hl]; rfl) (by decide) hr
  have hb' : putAll (symS.zip [n, o, p, u, x, z]) = b := by rw [← hv]; exact hb
  have part : ∀ (lo s : Nat), lo + s ≤ 24 → s ≤ 4 → 0 ≤ sOf (nuN ((b.drop lo).take s)) ∧ sOf (nuN ((b.drop lo).take s)) < 256 ^ s := fun lo s h4 hs => by
    have h1 := nuN_lt ((b.drop lo).take s) (fun x hx => hr x (List.mem_of_mem_drop (List.mem_of_mem_take hx)))
    rw [List.length_take, List.length_drop, Nat.min_eq_left (by omega)] at h1
    have h2 : (256 : Nat) ^ s ≤ 256 ^ 4 := Nat.pow_le_pow_right (by decide) hs
    have h3 : (256 : Nat) ^ 4 = 4294967296 := by decide
    rw [sOf_small _ (by omega)]
    refine ⟨by omega, ?_⟩
    have : ((nuN ((b.drop lo).take s) : Nat) : Int) < ((256 ^ s : Nat) : Int) := by omega
    simpa using this
  have g : ∀ k, k < 6 → (symV b).getD k 0 = sOf (nuN ((b.drop (symS.take k).sum).take (symS.getD k 0))) := fun k hk => by
    have hl : k < symS.length := by simp [symS]; omega
    unfold symV
    rw [getAll_at symS b k hl]
    congr 3
    rw [List.getD, List.getElem?_eq_getElem hl]
    rfl
  rw [hv] at g
  have a0 := g 0 (by decide)
  have a1 := g 1 (by decide)
  have a2 := g 2 (by decide)
  have a3 := g 3 (by decide)
  simp only [List.getD_cons_zero, List.getD_cons_succ] at a0 a1 a2 a3
  have r0 := part 0 4 (by decide) (by decide)
  have r1 := part 4 1 (by decide) (by decide)
  have r2 := part 5 1 (by decide) (by decide)
  have r3 := part 6 2 (by decide) (by decide)
  have e1 : (256 : Int) ^ 1 = 256 := by decide
  have e2 : (256 : Int) ^ 2 = 65536 := by decide
  have e4 : (256 : Int) ^ 4 = 4294967296 := by decide
  rw [e4] at r0
  rw [e1] at r1 r2
  rw [e2] at r3
  have q0 : 0 ≤ n ∧ n < 4294967296 := by rw [a0]; exact r0
  have q1 : 0 ≤ o ∧ o < 256 := by rw [a1]; exact r1
  have q2 : 0 ≤ p ∧ p < 256 := by rw [a2]; exact r2
  have q3 : 0 ≤ u ∧ u < 65536 := by rw [a3]; exact r3
  refine ⟨q0, q1, q2, q3, ?_⟩
  have hw : wU (uW u) = u := wU_uW (by omega)
  constructor
  · intro he
    have h1 := putAll_at (symS.zip (symN n (o / 16) (p == 2) (uW u) x z)) 1 (by simp [symS, symN])
    have h2 := putAll_at (symS.zip (symN n (o / 16) (p == 2) (uW u) x z)) 2 (by simp [symS, symN])
    have i1 := putAll_at (symS.zip [n, o, p, u, x, z]) 1 (by simp [symS])
    have i2 := putAll_at (symS.zip [n, o, p, u, x, z]) 2 (by simp [symS])
    have he' : putAll (symS.zip (symN n (o / 16) (p == 2) (uW u) x z)) = b := he
    rw [he'] at h1 h2
    rw [hb'] at i1 i2
    have j1 : byN (uOf (16 * (o / 16))) 1 = byN (uOf o) 1 := h1.symm.trans i1
    have j2 : byN (uOf (hidN (p == 2))) 1 = byN (uOf p) 1 := h2.symm.trans i2
    have k1 := congrArg nuN j1
    have k2 := congrArg nuN j2
    have e256 : (256 : Nat) ^ 1 = 256 := by decide
    rw [nuN_byN, nuN_byN, uOf_nonneg _ (by omega) (by omega), uOf_nonneg _ (by omega) (by omega), e256] at k1
    have hh := hidN_range (p == 2)
    rw [nuN_byN, nuN_byN, uOf_nonneg _ (by omega) (by omega), uOf_nonneg _ (by omega) (by omega), e256] at k2
    omega
  · rintro ⟨h1, h2⟩
    have e5 : 16 * (o / 16) = o := by omega
    have e6 : hidN (p == 2) = p := by
      rcases h2 with rfl | rfl
      · rfl
      · rfl
    show putAll (symS.zip [n, 16 * (o / 16), hidN (p == 2), wU (uW u), x, z]) = b
    rw [e5, e6, hw]
    exact hb'
/-- UNLIKE SYMBOLS HAVE UNLIKE BYTES. -/
theorem sym_inj {name bind : Int} {hid : Bool} {wh val sz : Int} {name' bind' : Int} {hid' : Bool} {wh' val' sz' n : Int} (hn : 0 ≤ name ∧ name ≤ 65535) (hn' : 0 ≤ name' ∧ name' ≤ 65535) (h16 : n ≤ 16)
    (h : standsB bind hid wh val sz n = true) (h' : standsB bind' hid' wh' val' sz' n = true) (e : symL name bind hid wh val sz = symL name' bind' hid' wh' val' sz') :
    name = name' ∧ bind = bind' ∧ hid = hid' ∧ wh = wh' ∧ val = val' ∧ sz = sz' := by
  have e1 := sym_back hn h16 h
  have e2 := sym_back hn' h16 h'
  rw [e, e2] at e1
  unfold symN at e1
  simp only [List.cons.injEq, and_true] at e1
  obtain ⟨g1, g2, g3, g4, g5, g6⟩ := e1
  obtain ⟨_, _, w1, _, _⟩ := stands_has h
  obtain ⟨_, _, w2, _, _⟩ := stands_has h'
  refine ⟨g1.symm, by omega, ?_, ?_, g5.symm, g6.symm⟩
  · cases hid <;> cases hid' <;> simp [hidN] at g3 ⊢
  · have := congrArg uW g4
    rw [uW_wU (by omega), uW_wU (by omega)] at this
    exact this.symm
end Go.Proofs.YtbfmichhpcaamaaDoor
