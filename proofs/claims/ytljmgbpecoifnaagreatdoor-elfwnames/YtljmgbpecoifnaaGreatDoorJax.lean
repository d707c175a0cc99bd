/- Which numbers rise: the program's. Which groups an object may have: the program's. Which groups an object may have: the program's, walked. Whether an object may be: the program's. -/
import Derived.Test.YtljmgbpecoifnaaGreatDoorJao
import Derived.Test.YtljmgbpecoifnaaGreatDoorJae
import Derived.Test.YtljmgbpecoifnaaGreatDoorJaw
namespace Go.Proofs.YtljmgbpecoifnaaGreatDoor
open Go.RowKit

def prevN (l : List Int) (j : Nat) : Int := if j = 0 then 0 else l.getD (j - 1) 0
def risAt (n : Int) (l : List Int) (j : Nat) : Bool := decide (prevN l j < l.getD j 0) && decide (l.getD j 0 ≤ n)
def risB (n : Int) (l : List Int) : Bool := (List.range l.length).all (risAt n l) && decide (0 < l.length)
theorem risB_no {n : Int} {l : List Int} {k : Nat} (hk : k < l.length) (h : risAt n l k = false) : risB n l = false := by
  unfold risB
  have : (List.range l.length).all (risAt n l) = false := by
    rw [Bool.eq_false_iff]
    intro e
    rw [all_range] at e
    rw [e k hk] at h
    exact absurd h (by decide)
  rw [this, Bool.false_and]

set_option maxRecDepth 20000 in
set_option maxHeartbeats 1600000 in
theorem isRising_walk (a : Option Addr) (n cap : Nat) (l : List Int) (most : Int) (w : World) (hl : l.length = n) (hn : n ≤ maxLen) (hI : Ints w a l) :
    Calls Tryz.prog 52 #[.slice a n cap, .int .i64 most] w fun e w' => e = .returned (.bool (risB most l)) ∧ w' = w := by
  go_enter Tryz.func52, Tryz.ntmps52
  go_wp2
  go_loop [5, 10] (fun v i => ∃ k : Nat, k ≤ n ∧ i = .int .i64 k ∧ v = .int .i64 (prevN l k) ∧ Hid (∀ j, j < k → risAt most l j = true)) (fun _ i => n - (intOf i).toNat)
  case atStart => exact ⟨0, Nat.zero_le _, rfl, rfl, fun j hj => absurd hj (Nat.not_lt_zero _)⟩
  case round =>
    obtain ⟨k, hk, rfl, rfl, A⟩ := hrel
    by_cases hlt : k < n
    · obtain ⟨b, off, rfl, c0⟩ := hI.at (show k < l.length by omega)
      obtain ⟨x, hx⟩ : ∃ x, l.getD k 0 = x := ⟨_, rfl⟩
      obtain ⟨p, hp⟩ : ∃ p, prevN l k = p := ⟨_, rfl⟩
      have HX : Hid (prevN l (k + 1) = x) := by unfold Hid prevN; rw [if_neg (by omega), Nat.add_sub_cancel]; exact hx
      have HA : Hid (risAt most l k = (decide (p < x) && decide (x ≤ most))) := by unfold Hid risAt; rw [hx, hp]
      rw [hx] at c0
      rw [hp]
      have hkm : k < 9223372036854775807 := by unfold maxLen at hn; omega
      clear hI hx hp hn
      by_cases h1 : x ≤ p
      · have d1 : decide (x ≤ p) = true := decide_eq_true h1
        have HB : Hid (risB most l = false) := risB_no (show k < l.length by omega) (by rw [HA.out, decide_eq_false (by omega)]; rfl)
        clear h1
        go_wp2
        go_ret
        exact ⟨by rw [HB.out]; rfl, rfl⟩
      · have d1 : decide (x ≤ p) = false := decide_eq_false h1
        by_cases h2 : most < x
        · have d2 : decide (most < x) = true := decide_eq_true h2
          have HB : Hid (risB most l = false) := risB_no (show k < l.length by omega) (by rw [HA.out, decide_eq_false (show ¬ x ≤ most by omega), Bool.and_false])
          clear h1 h2
          go_wp2
          go_ret
          exact ⟨by rw [HB.out]; rfl, rfl⟩
        · have d2 : decide (most < x) = false := decide_eq_false h2
          have HT : Hid (risAt most l k = true) := by unfold Hid; rw [HA.out, decide_eq_true (show p < x by omega), decide_eq_true (show x ≤ most by omega)]; rfl
          clear h1 h2
          go_wp2
          go_round
          case rel =>
            refine ⟨k + 1, by omega, by go_num, by rw [HX.out], fun j hj => ?_⟩
            by_cases e : j = k
            · subst e; exact HT.out
            · exact A.out j (by omega)
          case measure => simp [intOf]; omega
    · obtain rfl : k = n := by omega
      have HB : Hid (risB most l = decide ((0 : Int) < (k : Int))) := by
        unfold Hid risB
        rw [all_range.2 (fun j hj => A.out j (by omega)), hl, Bool.true_and, Bool.eq_iff_iff, decide_eq_true_eq, decide_eq_true_eq]
        omega
      obtain ⟨g, hg⟩ : ∃ g, decide ((0 : Int) < (k : Int)) = g := ⟨_, rfl⟩
      rw [hg] at HB
      clear hI hn
      go_wp2
      go_ret
      exact ⟨by rw [HB.out, ← hg]; simp, rfl⟩

/-! ### What the program asks -/
/-- Is none of a group's sections in one ahead of it? -/
def newG (gs : List GrpV) (i : Nat) : Bool := (List.range (gs.getD i grpV0).l.length).all fun j => (List.range i).all fun k => !(gs.getD k grpV0).l.contains ((gs.getD i grpV0).l.getD j 0)
def grpOkB (n : Nat) (gs : List GrpV) (i : Nat) : Bool := mayNm (nm (gs.getD i grpV0).s) && risB n (gs.getD i grpV0).l && newG gs i
theorem risB_has {n : Nat} {l : List Int} (h : risB n l = true) : 0 < l.length ∧ l.length ≤ n ∧ ∀ j, j < l.length → (1 ≤ l.getD j 0 ∧ l.getD j 0 ≤ n) ∧ (j = 0 ∨ l.getD (j - 1) 0 < l.getD j 0) := by
  unfold risB at h
  rw [Bool.and_eq_true, all_range, decide_eq_true_eq] at h
  have hs : ∀ j, j < l.length → prevN l j < l.getD j 0 ∧ l.getD j 0 ≤ n := fun j hj => by
    have := h.1 j hj
    unfold risAt at this
    rw [Bool.and_eq_true, decide_eq_true_eq, decide_eq_true_eq] at this
    exact this
  have hge : ∀ j : Nat, j < l.length → (j : Int) + 1 ≤ l.getD j 0 := by
    intro j
    induction j with
    | zero => intro hj; have := (hs 0 hj).1; unfold prevN at this; rw [if_pos rfl] at this; omega
    | succ j ih =>
      intro hj
      have h1 := ih (by omega)
      have h2 := (hs (j + 1) hj).1
      unfold prevN at h2
      rw [if_neg (by omega), Nat.add_sub_cancel] at h2
      omega
  refine ⟨h.2, ?_, fun j hj => ⟨⟨?_, (hs j hj).2⟩, ?_⟩⟩
  · have h1 := hge (l.length - 1) (by omega)
    have h2 := (hs (l.length - 1) (by omega)).2
    omega
  · have := hge j hj; omega
  · by_cases h0 : j = 0
    · exact .inl h0
    · have := (hs j hj).1
      unfold prevN at this
      rw [if_neg h0] at this
      exact .inr this
theorem risB_of {n : Nat} {l : List Int} (h0 : 0 < l.length) (h : ∀ j, j < l.length → (1 ≤ l.getD j 0 ∧ l.getD j 0 ≤ n) ∧ (j = 0 ∨ l.getD (j - 1) 0 < l.getD j 0)) : risB n l = true := by
  unfold risB
  rw [Bool.and_eq_true, all_range, decide_eq_true_eq]
  refine ⟨fun j hj => ?_, h0⟩
  obtain ⟨h1, h2⟩ := h j hj
  unfold risAt prevN
  rw [Bool.and_eq_true, decide_eq_true_eq, decide_eq_true_eq]
  refine ⟨?_, h1.2⟩
  by_cases hj0 : j = 0
  · rw [if_pos hj0]; omega
  · rw [if_neg hj0]; omega
theorem grIx_iff {gs : List GrpV} {x : Int} {i : Nat} (hi : i < gs.length) (hx : x ∈ (gs.getD i grpV0).l) : grIx (gs.map grpOfV) x = i ↔ ∀ k, k < i → x ∉ (gs.getD k grpV0).l := by
  unfold grIx
  have hl : (gs.map grpOfV).length = gs.length := List.length_map _
  have hat : ∀ k (hk : k < (gs.map grpOfV).length), ((gs.map grpOfV)[k]).l = (gs.getD k grpV0).l := by
    intro k hk
    rw [List.getElem_map, getD_of_lt (by omega : k < gs.length)]
    rfl
  constructor
  · intro h k hk hm
    cases hq : (gs.map grpOfV).findIdx? fun g => g.l.contains x with
    | none => rw [hq] at h; dsimp only at h; omega
    | some j =>
      rw [hq] at h
      dsimp only at h
      have hj : j = i := by omega
      subst hj
      rw [List.findIdx?_eq_some_iff_getElem] at hq
      obtain ⟨hj, _, h3⟩ := hq
      have h5 := h3 k hk
      rw [hat] at h5
      exact h5 (by rw [List.contains_eq_mem]; exact decide_eq_true hm)
  · intro h
    have hq : (gs.map grpOfV).findIdx? (fun g => g.l.contains x) = some i := by
      rw [List.findIdx?_eq_some_iff_getElem]
      refine ⟨by omega, by rw [hat]; simpa using hx, fun k hk => ?_⟩
      rw [hat]
      simpa using h k hk
    rw [hq]
theorem grpsB_prog (n : Nat) (gs : List GrpV) : grpsB n (gs.map grpOfV) = (decide (gs.length ≤ 16) && ((List.range gs.length).all (grpOkB n gs)) && decide (gs.map (·.s)).Nodup) := by
  have hg : ∀ i, (gs.map grpOfV).getD i grpNo = grpOfV (gs.getD i grpV0) := fun i => getD_map' (f := grpOfV) (no := grpV0) (no' := grpNo) rfl gs i
  have hnd : (gs.map (·.s)).Nodup ↔ ∀ i j, i < j → j < gs.length → (gs.getD i grpV0).s ≠ (gs.getD j grpV0).s := by
    rw [List.Nodup, List.pairwise_map, List.pairwise_iff_getElem]
    constructor
    · intro h i j hij hj
      rw [getD_of_lt (by omega : i < gs.length), getD_of_lt hj]
      exact h i j (by omega) hj hij
    · intro h i j hi hj hij
      have := h i j hij hj
      rwa [getD_of_lt hi, getD_of_lt hj] at this
  rw [Bool.eq_iff_iff]
  unfold grpsB
  rw [List.length_map, Bool.and_eq_true, Bool.and_eq_true, Bool.and_eq_true, decide_eq_true_eq, decide_eq_true_eq, all_range, all_range, hnd]
  constructor
  · rintro ⟨h16, h⟩
    refine ⟨⟨h16, fun i hi => ?_⟩, fun i j hij hj e => ?_⟩
    · have h1 := h i hi
      unfold grpAt at h1
      rw [hg, Bool.and_eq_true, Bool.and_eq_true, Bool.and_eq_true, decide_eq_true_eq, all_range, all_range] at h1
      obtain ⟨⟨⟨h1, h2⟩, h3⟩, h4⟩ := h1
      have h4' : ∀ j, j < (gs.getD i grpV0).l.length → ((1 ≤ (gs.getD i grpV0).l.getD j 0 ∧ (gs.getD i grpV0).l.getD j 0 ≤ n) ∧ (j = 0 ∨ (gs.getD i grpV0).l.getD (j - 1) 0 < (gs.getD i grpV0).l.getD j 0)) ∧ grIx (gs.map grpOfV) ((gs.getD i grpV0).l.getD j 0) = i := by
        intro j hj
        have := h4 j hj
        unfold grNum at this
        rw [Bool.and_eq_true, Bool.and_eq_true, Bool.or_eq_true, decide_eq_true_eq, decide_eq_true_eq, decide_eq_true_eq, decide_eq_true_eq] at this
        exact this
      unfold grpOkB
      rw [Bool.and_eq_true, Bool.and_eq_true]
      refine ⟨⟨h1, risB_of h2.1 fun j hj => (h4' j hj).1⟩, ?_⟩
      unfold newG
      rw [all_range]
      intro j hj
      rw [all_range]
      intro k hk
      have := (grIx_iff hi (getD_in hj 0)).1 (h4' j hj).2 k hk
      simpa using this
    · have h1 := h j hj
      unfold grpAt at h1
      rw [hg, Bool.and_eq_true, Bool.and_eq_true, all_range] at h1
      have := of_decide_eq_true (h1.1.2 i hij)
      rw [hg] at this
      exact this (by show nm _ = nm _; rw [e])
  · rintro ⟨⟨h16, h⟩, hn⟩
    refine ⟨h16, fun i hi => ?_⟩
    have h1 := h i hi
    unfold grpOkB at h1
    rw [Bool.and_eq_true, Bool.and_eq_true] at h1
    obtain ⟨⟨h1, h2⟩, h3⟩ := h1
    obtain ⟨r0, r1, r2⟩ := risB_has h2
    unfold newG at h3
    rw [all_range] at h3
    unfold grpAt
    rw [hg, Bool.and_eq_true, Bool.and_eq_true, Bool.and_eq_true, decide_eq_true_eq, all_range, all_range]
    refine ⟨⟨⟨h1, r0, r1⟩, fun j hj => decide_eq_true ?_⟩, fun j hj => ?_⟩
    · rw [hg]
      exact fun e => hn j i hj hi (nm_inj e)
    · unfold grNum
      rw [Bool.and_eq_true, Bool.and_eq_true, Bool.or_eq_true, decide_eq_true_eq, decide_eq_true_eq, decide_eq_true_eq, decide_eq_true_eq]
      refine ⟨r2 j hj, (grIx_iff hi (getD_in hj 0)).2 fun k hk => ?_⟩
      have := h3 j hj
      rw [all_range] at this
      have t := this k hk
      rw [Bool.not_eq_true', List.contains_eq_mem, decide_eq_false_iff_not] at t
      exact t
theorem grpsB_no {n : Nat} {gs : List GrpV} {k : Nat} (hk : k < gs.length) (h : grpOkB n gs k = false) : grpsB n (gs.map grpOfV) = false := by
  rw [grpsB_prog]
  have : (List.range gs.length).all (grpOkB n gs) = false := by
    rw [Bool.eq_false_iff]
    intro e
    rw [all_range] at e
    rw [e k hk] at h
    exact absurd h (by decide)
  rw [this, Bool.and_false, Bool.false_and]

/-- Seventeen marks that lie in a block. -/
def TkB (w : World) (b : Nat) (T : Nat → Bool) : Prop := ∀ x, x < 17 → w.cell? ⟨b, x, none⟩ = some (.bool (T x)) ∧ w.frozen? ⟨b, x, none⟩ = false
theorem TkB.below {w w' : World} {b n : Nat} {T : Nat → Bool} (h : TkB w b T) (k : Below n w w') (hb : b < n) : TkB w' b T := fun x hx => ⟨(k.cell hb).trans (h x hx).1, (k.frozen hb).trans (h x hx).2⟩
theorem TkB.lt {w : World} {b : Nat} {T : Nat → Bool} (h : TkB w b T) : b < w.heap.size := block_lt_of_cell (h 0 (by decide)).1
theorem TkB.kept {w w' : World} {b : Nat} {T : Nat → Bool} (h : TkB w b T) (k : Kept w w') : TkB w' b T := h.below k h.lt
theorem TkB.set {w : World} {b : Nat} {T : Nat → Bool} (h : TkB w b T) {x : Nat} (hx : x < 17) : TkB (w.setCell ⟨b, x, none⟩ (.bool true)) b (fun y => T y || y == x) := by
  intro y hy
  by_cases e : y = x
  · subst e
    exact ⟨by rw [World.cell?_setCell_same _ _ _ (h y hy).1]; simp, set_frozen (h y hy).2⟩
  · exact ⟨by rw [set_other (h y hy).1 (fun e' => e e'.symm)]; simp [e], set_frozen (h y hy).2⟩
theorem TkB.new (w : World) : TkB (w.alloc (.cells #[.bool false, .bool false, .bool false, .bool false, .bool false, .bool false, .bool false, .bool false, .bool false, .bool false, .bool false, .bool false, .bool false, .bool false, .bool false, .bool false, .bool false] 90)) w.heap.size (fun _ => false) := by
  intro x hx
  match x, hx with
  | 0, _ | 1, _ | 2, _ | 3, _ | 4, _ | 5, _ | 6, _ | 7, _ | 8, _ | 9, _ | 10, _ | 11, _ | 12, _ | 13, _ | 14, _ | 15, _ | 16, _ => constructor <;> simp
  | x + 17, h => exact absurd h (by omega)

/-- Which numbers stand in groups ahead of the i-th one, and among the first m of that. -/
def mrk (gs : List GrpV) (i m : Nat) (x : Nat) : Bool := (gs.take i).any (fun g => g.l.contains (x : Int)) || ((gs.getD i grpV0).l.take m).contains (x : Int)
theorem mrk_zero (gs : List GrpV) (x : Nat) : mrk gs 0 0 x = false := by simp [mrk]
theorem mrk_next {gs : List GrpV} {i m : Nat} (hi : i < gs.length) (hm : (gs.getD i grpV0).l.length = m) (x : Nat) : mrk gs i m x = mrk gs (i + 1) 0 x := by
  unfold mrk
  rw [take_snoc grpV0 gs i hi, List.take_of_length_le (l := (gs.getD i grpV0).l) (by omega), List.any_append]
  simp
theorem mrk_more {gs : List GrpV} {i m : Nat} {y : Nat} (hm : m < (gs.getD i grpV0).l.length) (hy : (gs.getD i grpV0).l.getD m 0 = y) (x : Nat) : (mrk gs i m x || x == y) = mrk gs i (m + 1) x := by
  unfold mrk
  rw [take_snoc 0 _ m hm, hy, Bool.or_assoc]
  congr 1
  rw [Bool.eq_iff_iff]
  simp [List.contains_eq_mem]
  exact or_congr Iff.rfl (by omega)
theorem mrk_yes {gs : List GrpV} {i m y : Nat} {n : Nat} (hr : risB n (gs.getD i grpV0).l = true) (hi : i ≤ gs.length) (hm : m < (gs.getD i grpV0).l.length) (hy : (gs.getD i grpV0).l.getD m 0 = y) (h : mrk gs i m y = true) : newG gs i = false := by
  unfold mrk at h
  rw [Bool.or_eq_true, List.any_eq_true] at h
  rcases h with ⟨g, hg, hc⟩ | h
  · rw [List.mem_take_iff_getElem] at hg
    obtain ⟨k, hk, rfl⟩ := hg
    unfold newG
    rw [Bool.eq_false_iff]
    intro e
    rw [all_range] at e
    have e1 := e m hm
    rw [all_range] at e1
    have e2 := e1 k (by omega)
    rw [hy, getD_of_lt (by omega : k < gs.length), hc] at e2
    exact absurd e2 (by decide)
  · -- among the first ones of its own: they rise
    exfalso
    rw [List.contains_eq_mem, decide_eq_true_eq, List.mem_take_iff_getElem] at h
    obtain ⟨j, hj, hjy⟩ := h
    have hs : ∀ d : Nat, j + d + 1 ≤ m → (gs.getD i grpV0).l.getD j 0 < (gs.getD i grpV0).l.getD (j + d + 1) 0 := by
      intro d
      induction d with
      | zero =>
        intro hd
        rcases ((risB_has hr).2.2 (j + 0 + 1) (by omega)).2 with h0 | h0
        · omega
        · simpa using h0
      | succ d ih =>
        intro hd
        have h1 := ih (by omega)
        rcases ((risB_has hr).2.2 (j + (d + 1) + 1) (by omega)).2 with h0 | h0
        · omega
        · have : j + (d + 1) + 1 - 1 = j + d + 1 := by omega
          rw [this] at h0
          omega
    have h1 := hs (m - j - 1) (by omega)
    rw [show j + (m - j - 1) + 1 = m by omega, hy, getD_of_lt (by omega : j < (gs.getD i grpV0).l.length)] at h1
    omega
theorem newG_of {gs : List GrpV} {i : Nat} (hi : i ≤ gs.length) (h : ∀ m, m < (gs.getD i grpV0).l.length → (gs.take i).any (fun g => g.l.contains ((gs.getD i grpV0).l.getD m 0)) = false) : newG gs i = true := by
  unfold newG
  rw [all_range]
  intro m hm
  rw [all_range]
  intro k hk
  have h1 := h m hm
  rw [List.any_eq_false] at h1
  have h2 := h1 (gs.getD k grpV0) (by rw [List.mem_take_iff_getElem]; exact ⟨k, by omega, (getD_of_lt (by omega) _).symm⟩)
  rw [Bool.not_eq_true] at h2
  rw [h2]
  rfl
theorem mrk_no {gs : List GrpV} {i m y : Nat} (hy : (gs.getD i grpV0).l.getD m 0 = y) (h : mrk gs i m y = false) : (gs.take i).any (fun g => g.l.contains ((gs.getD i grpV0).l.getD m 0)) = false := by
  unfold mrk at h
  rw [Bool.or_eq_false_iff] at h
  rw [hy]
  exact h.1

set_option maxRecDepth 20000 in
set_option maxHeartbeats 3200000 in
theorem haveGroups_walk (o : ObjV) (w : World) (hO : ObjOk w o) (h16 : o.sn ≤ 16) :
    Calls Tryz.prog 24 #[objW o] w fun e w' => e = .returned (.bool (grpsB o.sn (o.gs.map grpOfV))) ∧ Kept w w' := by
  obtain ⟨ss, sa, sn, sc, ys, ya, yn, yc, rs, ra, rn, rc, gs, ga, n, gc⟩ := o
  have hG : GrpR w ga gs := hO.g
  have hl : gs.length = n := hO.hg
  clear hO
  dsimp only at h16
  obtain ⟨wa, hwa, B1, kA, sA⟩ := box_obj w (.slice sa sn sc) (.slice ya yn yc) (.slice ra rn rc) (.slice ga n gc)
  have c0 := B1.c0
  have c3 := B1.c3
  by_cases h16' : 16 < n
  · have d1 : decide ((16 : Int) < (n : Int)) = true := decide_eq_true (by omega)
    have HB : Hid (grpsB sn (gs.map grpOfV) = false) := by unfold Hid; rw [grpsB_prog, decide_eq_false (by omega)]; rfl
    clear h16' hG B1
    go_enter Tryz.func24, Tryz.ntmps24
    go_wp2
    go_ret
    exact ⟨by rw [HB.out]; rfl, kA⟩
  · have d1 : decide ((16 : Int) < (n : Int)) = false := decide_eq_false (by omega)
    have hn16 : n ≤ 16 := by omega
    clear h16'
    have T1 := TkB.new wa
    obtain ⟨wt, hwt⟩ : ∃ wt, wa.alloc (.cells #[.bool false, .bool false, .bool false, .bool false, .bool false, .bool false, .bool false, .bool false, .bool false, .bool false, .bool false, .bool false, .bool false, .bool false, .bool false, .bool false, .bool false] 90) = wt := ⟨_, rfl⟩
    have kT : Kept wa wt := by rw [← hwt]; exact Kept.alloc _ _
    have sT : wt.heap.size = w.heap.size + 2 := by rw [← hwt]; simp [sA]
    rw [hwt, sA] at T1
    have c3' := (B1.kept kT).c3
    go_enter Tryz.func24, Tryz.ntmps24
    go_wp2
    go_loopw [3, 16] (fun v i wr => ∃ k : Nat, k ≤ n ∧ i = .int .i64 k ∧ OwnS wr (w.heap.size + 2) v ((gs.take k).map (·.s)) ∧ TkB wr (w.heap.size + 1) (mrk gs k 0) ∧ Kept wa wr ∧ w.heap.size + 2 ≤ wr.heap.size ∧ Hid (∀ j, j < k → grpOkB sn gs j = true)) (fun _ i _ => n - (intOf i).toNat)
    case atStart => exact ⟨0, Nat.zero_le _, rfl, OwnS.nil _ _, by rw [show mrk gs 0 0 = fun _ => false from funext fun x => mrk_zero gs x]; exact T1, kT, by omega, fun j hj => absurd hj (Nat.not_lt_zero _)⟩
    case round =>
      obtain ⟨k, hk, rfl, hOw, hT, K, hsz, A⟩ := hrel
      have HM : Hid (((gs.take k).map (·.s)).length = k) := by unfold Hid; rw [List.length_map, List.length_take]; omega
      obtain ⟨va, vc, rfl, hVs⟩ := hOw.let HM.out
      by_cases hlt : k < n
      · obtain ⟨b, off, rfl, hAt⟩ := (hG.kept (kA.trans K)).cells (show k < gs.length by omega)
        obtain ⟨g, hg⟩ : ∃ g, gs.getD k grpV0 = g := ⟨_, rfl⟩
        rw [hg] at hAt
        have HV : Hid (gs.getD k grpV0 = g) := hg
        have hok : GrpOk w g := by
          have := (hG.cells (show k < gs.length by omega))
          obtain ⟨_, _, _, h⟩ := this
          rw [hg] at h
          exact h.ok
        obtain ⟨s, a', cp, l⟩ := g
        obtain ⟨m, hm⟩ : ∃ m, l.length = m := ⟨_, rfl⟩
        have x0 : wr.cell? ⟨b, off + k * 2, none⟩ = some (.string s) := hAt.c0
        have x1 : wr.cell? ⟨b, off + k * 2 + 1, none⟩ = some (.slice a' m cp) := by rw [← hm]; exact hAt.c1
        have hss : s.size ≤ maxLen := hok.size
        have hmx : m ≤ maxLen := by rw [← hm]; exact Nat.le_trans hok.len hok.cap
        have hIn : Ints w a' l := hok.ints
        obtain ⟨wb, wc, hwb, hwc, Z1, Z2, K2, s2⟩ := put_grp wr s (.slice a' m cp)
        obtain ⟨gb, hgb⟩ : ∃ gb, wr.heap.size = gb := ⟨_, rfl⟩
        rw [hgb] at hwc Z1 Z2
        obtain ⟨z0, z1, y0, y1⟩ := Z1
        obtain ⟨u0, u1, _, _⟩ := id Z2
        have KW := K.trans K2
        have e0 := (B1.kept KW).c0
        have hOw2 : OwnS wc (w.heap.size + 2) (.slice va k vc) ((gs.take k).map (·.s)) := row_kept hOw K2
        have hT2 := hT.kept K2
        have hNm := fun w => isName_walk s w hss
        have hRi := isRising_walk a' m cp l sn wc hm hmx (hIn.kept (kA.trans KW))
        obtain ⟨q1, hq1⟩ : ∃ q, mayNm (nm s) = q := ⟨_, rfl⟩
        obtain ⟨q2, hq2⟩ : ∃ q, risB sn l = q := ⟨_, rfl⟩
        rw [hq1] at hNm
        rw [hq2] at hRi
        have HG : Hid (grpOkB sn gs k = (q1 && q2 && newG gs k)) := by unfold Hid grpOkB; rw [HV.out]; dsimp only; rw [hq1, hq2]
        have HR : Hid (risB sn l = q2) := hq2
        clear hg hAt c0 c3 c3' hOw hT hVs hq1 hq2 hok hss
        cases q1 with
        | false =>
          have HB : Hid (grpsB sn (gs.map grpOfV) = false) := grpsB_no (show k < gs.length by omega) (by rw [HG.out]; rfl)
          clear hRi
          go_wp2_with (go_at_call 51; refine (hNm _).mono ?_; rintro e w4 ⟨rfl, hw4⟩; have hw5 := hw4.symm; subst hw5; clear hw4)
          go_ret
          exact ⟨by rw [HB.out]; rfl, kA.trans KW⟩
        | true =>
          cases q2 with
          | false =>
            have HB : Hid (grpsB sn (gs.map grpOfV) = false) := grpsB_no (show k < gs.length by omega) (by rw [HG.out]; rfl)
            go_wp2_with (first
              | (go_at_call 51; refine (hNm _).mono ?_; rintro e w4 ⟨rfl, hw4⟩; have hw5 := hw4.symm; subst hw5; clear hw4)
              | (go_at_call 52; refine hRi.mono ?_; rintro e w4 ⟨rfl, hw4⟩; have hw5 := hw4.symm; subst hw5; clear hw4))
            go_ret
            exact ⟨by rw [HB.out]; rfl, kA.trans KW⟩
          | true =>
            have hgb2 : w.heap.size + 2 ≤ gb := by omega
            go_upto_region 10 with (first
              | (go_at_call 51; refine (hNm _).mono ?_; rintro e w4 ⟨rfl, hw4⟩; have hw5 := hw4.symm; subst hw5; clear hw4)
              | (go_at_call 52; refine hRi.mono ?_; rintro e w4 ⟨rfl, hw4⟩; have hw5 := hw4.symm; subst hw5; clear hw4))
            clear hNm hRi z0 z1 y0 y1 x0 x1 hwb hwc
            go_wp2
            go_loopw [36] (fun i w2 => ∃ j : Nat, j ≤ m ∧ i = .int .i64 j ∧ OwnS w2 (w.heap.size + 2) (.slice va k vc) ((gs.take k).map (·.s)) ∧ TkB w2 (w.heap.size + 1) (mrk gs k j) ∧ Kept wa w2 ∧ GBx w2 gb (.string s) (.slice a' m cp) ∧ w.heap.size + 2 ≤ w2.heap.size ∧ Hid (∀ x, x < j → (gs.take k).any (fun g => g.l.contains (l.getD x 0)) = false)) (fun i _ => m - (intOf i).toNat)
            case atStart => exact ⟨0, Nat.zero_le _, rfl, hOw2, hT2, KW, Z2, by omega, fun j hj => absurd hj (Nat.not_lt_zero _)⟩
            case round =>
              clear hOw2 hT2 u0 u1 e0 Z2
              have hm16 : m ≤ 16 := by have := (risB_has HR.out).2.1; omega
              obtain ⟨j, hj, rfl, hOw3, hT3, K3, Z3, hs3, A3⟩ := hrel
              by_cases hjm : j < m
              · obtain ⟨b3, o3, rfl, c5⟩ := (hIn.kept (kA.trans K3)).at (show j < l.length by omega)
                obtain ⟨x, hx⟩ : ∃ x, l.getD j 0 = x := ⟨_, rfl⟩
                rw [hx] at c5
                have hxr := ((risB_has HR.out).2.2 j (by omega)).1
                rw [hx] at hxr
                obtain ⟨y, rfl⟩ : ∃ y : Nat, x = y := ⟨x.toNat, by omega⟩
                have hy17 : y < 17 := by omega
                obtain ⟨t0, t1⟩ := hT3 y hy17
                have hHy : Hid ((gs.getD k grpV0).l.getD j 0 = (y : Int)) := by unfold Hid; rw [HV.out]; exact hx
                have HX : Hid (l.getD j 0 = (y : Int)) := hx
                clear hx hxr
                obtain ⟨q, hq⟩ : ∃ q, mrk gs k j y = q := ⟨_, rfl⟩
                have HQ : Hid (mrk gs k j y = q) := hq
                rw [hq] at t0
                clear hq
                cases q with
                | true =>
                  have HB : Hid (grpsB sn (gs.map grpOfV) = false) := grpsB_no (show k < gs.length by omega) (by
                    have : newG gs k = false := mrk_yes (n := sn) (by rw [HV.out]; exact HR.out) (by omega) (by rw [HV.out]; dsimp only; omega) hHy.out HQ.out
                    rw [HG.out, this]; rfl)
                  go_wp2
                  go_ret
                  exact ⟨by rw [HB.out]; rfl, kA.trans K3⟩
                | false =>
                  have hT4 := hT3.set hy17
                  rw [show (fun z => mrk gs k j z || z == y) = mrk gs k (j + 1) from funext fun z => mrk_more (by rw [HV.out]; dsimp only; omega) hHy.out z] at hT4
                  have hOw4 := row_far hOw3 ⟨w.heap.size + 1, y, none⟩ (.bool true) (fun g e => by have := (hOw3.lt g e).1; show w.heap.size + 1 ≠ g; omega)
                  have K4 : Kept wa _ := K3.setCell (p := ⟨w.heap.size + 1, y, none⟩) (by show wa.heap.size ≤ w.heap.size + 1; omega) (.bool true)
                  have Z4 := Z3.far (w.heap.size + 1) y (.bool true) (by omega)
                  have HN : Hid ((gs.take k).any (fun g => g.l.contains (l.getD j 0)) = false) := by
                    have := mrk_no hHy.out HQ.out
                    rw [HV.out] at this
                    exact this
                  clear hT3 hOw3 K3 Z3
                  go_wp2
                  go_roundw
                  case rel =>
                    refine ⟨j + 1, by omega, by go_num, hOw4, hT4, K4, Z4, by simpa using hs3, fun x hx => ?_⟩
                    by_cases e : x = j
                    · subst e; exact HN.out
                    · exact A3.out x (by omega)
                  case measure => simp [intOf]; omega
              · obtain rfl : j = m := by omega
                have hT4 := hT3
                rw [show mrk gs k j = mrk gs (k + 1) 0 from funext fun x => mrk_next (by omega) (by rw [HV.out]; exact hm) x] at hT4
                have HK : Hid (grpOkB sn gs k = true) := by
                  unfold Hid
                  rw [HG.out, newG_of (by omega) (by rw [HV.out]; dsimp only; intro x hx; exact A3.out x (by omega))]
                  rfl
                obtain ⟨u0, u1, _, _⟩ := id Z3
                have hO6 : OwnS (wr.alloc (.cells #[.string s] 9)) (w.heap.size + 2) (.slice va k vc) ((gs.take k).map (·.s)) := row_kept hOw3 (Kept.alloc _ _)
                have K6 : Kept wr (wr.alloc (.cells #[.string s] 9)) := Kept.alloc _ _
                have hcell : (wr.alloc (.cells #[.string s] 9)).cell? ⟨wr.heap.size, 0, none⟩ = some (.string s) := by simp
                have hlen : ((gs.take k).map (·.s)).length + 1 ≤ 1000000 := by rw [HM.out]; omega
                have hb6 : w.heap.size + 2 ≤ (wr.alloc (.cells #[.string s] 9)).heap.size := by simp; omega
                have HE : Hid ((gs.take (k + 1)).map (·.s) = (gs.take k).map (·.s) ++ [s]) := by
                  unfold Hid
                  rw [take_snoc grpV0 gs k (by omega), HV.out, List.map_append]
                  rfl
                clear hT3 hOw3 Z3 A3
                go_wp2_with (at_builtin; refine wpList_append_name rfl _ _ rfl (w.heap.size + 2) (.slice va k vc) ((gs.take k).map (·.s)) s ⟨wr.heap.size, 0, none⟩ 1 (by first | rfl | (rw [HM.out]; rfl)) rfl hO6 hcell hlen hb6 wr (K6.mono hs3) ?_; intro v7 w7 R7 K7)
                go_roundw
                case rel =>
                  refine ⟨k + 1, by omega, by go_num, by rw [HE.out]; exact R7, hT4.below K7 (by omega), Below.trans K3 (K7.mono (by omega)), Nat.le_trans hs3 K7.size, fun x hx => ?_⟩
                  by_cases e : x = k
                  · subst e; exact HK.out
                  · exact A.out x (by omega)
                case measure => simp [intOf]; omega
      · obtain rfl : k = n := by omega
        have hgs : gs.take k = gs := List.take_of_length_le (by omega)
        have HB : Hid (grpsB sn (gs.map grpOfV) = decide (gs.map (·.s)).Nodup) := by
          unfold Hid
          rw [grpsB_prog, decide_eq_true (by omega), all_range.2 (fun i hi => A.out i (by omega))]
          rfl
        have HM' := HM.out
        rw [hgs] at hOw HM'
        have hD := areDifferent_walk (.slice va k vc) (gs.map (·.s)) (w.heap.size + 2) wr hOw (by omega)
        clear hG hOw hVs hgs B1 HM'
        go_wp2_with (go_at_call 46; refine hD.mono ?_; rintro e w4 ⟨rfl, k4⟩)
        go_ret
        exact ⟨by rw [HB.out]; rfl, kA.trans (Below.trans K (k4.mono (by omega)))⟩

theorem okO_m (o : ObjV) : okO o.m = (((decide (o.ss.length ≤ 16) && o.ss.all okS) && symsB (o.ss.map sctOf) (o.ys.map symOfV)) && (relsB (o.ss.map sctOf) o.ys.length o.rs && grpsB o.ss.length (o.gs.map grpOfV))) := by
  unfold okO ObjV.m
  dsimp only
  rw [List.length_map, List.length_map, List.all_map]
  rfl

set_option maxRecDepth 20000 in
set_option maxHeartbeats 1600000 in
theorem ocheck_walk (o : ObjV) (w : World) (hO : ObjOk w o) :
    Calls Tryz.prog 8 #[objW o] w fun e w' => e = .returned (.int .i64 (chO o.m)) ∧ Kept w w' := by
  have hm : chO o.m = if okO o.m = true then 0 else 8 := rfl
  rw [okO_m, hO.hs, hO.hy] at hm
  obtain ⟨X, hX⟩ : ∃ X, chO o.m = X := ⟨_, rfl⟩
  rw [hX] at hm ⊢
  have h1 := fun w h => haveSections_walk o w h
  have h2 := fun w h => haveSymbols_walk o w h
  have h3 := fun w h => haveRelas_walk o w h
  have h4 := fun w h => haveGroups_walk o w h
  obtain ⟨g1, hg1⟩ : ∃ g, (decide (o.sn ≤ 16) && o.ss.all okS) = g := ⟨_, rfl⟩
  obtain ⟨g2, hg2⟩ : ∃ g, symsB (o.ss.map sctOf) (o.ys.map symOfV) = g := ⟨_, rfl⟩
  obtain ⟨g3, hg3⟩ : ∃ g, relsB (o.ss.map sctOf) o.yn o.rs = g := ⟨_, rfl⟩
  obtain ⟨g4, hg4⟩ : ∃ g, grpsB o.sn (o.gs.map grpOfV) = g := ⟨_, rfl⟩
  rw [hg1, hg2, hg3, hg4] at hm
  have H1 : ∀ w, ObjOk w o → Calls Tryz.prog 21 #[objW o] w fun e w' => e = .returned (.bool g1) ∧ Kept w w' := fun w h => by rw [← hg1]; exact h1 w h
  have hP : g1 = true → o.sn ≤ 16 ∧ o.ss.all okS = true := fun e => by
    rw [e, Bool.and_eq_true, decide_eq_true_eq] at hg1
    exact hg1
  have H2 : g1 = true → ∀ w, ObjOk w o → Calls Tryz.prog 22 #[objW o] w fun e w' => e = .returned (.bool g2) ∧ Kept w w' := fun e w h => by rw [← hg2]; exact h2 w h (hP e).1 (hP e).2
  have hQ : g2 = true → o.yn ≤ 64 := fun e => by
    rw [e] at hg2
    unfold symsB at hg2
    rw [Bool.and_eq_true, decide_eq_true_eq, List.length_map, hO.hy] at hg2
    exact hg2.1
  have H3 : g1 = true → g2 = true → ∀ w, ObjOk w o → Calls Tryz.prog 23 #[objW o] w fun e w' => e = .returned (.bool g3) ∧ Kept w w' := fun e e2 w h => by rw [← hg3]; exact h3 w h (hP e).1 (hQ e2) (hP e).2
  have H4 : g1 = true → ∀ w, ObjOk w o → Calls Tryz.prog 24 #[objW o] w fun e w' => e = .returned (.bool g4) ∧ Kept w w' := fun e w h => by rw [← hg4]; exact h4 w h (hP e).1
  clear h1 h2 h3 h4 hg1 hg2 hg3 hg4 hP hQ hX
  obtain ⟨V, hV⟩ : ∃ V, objW o = V := ⟨_, rfl⟩
  rw [hV] at H1 H2 H3 H4 ⊢
  have hV' : V = .agg #[.slice o.sa o.sn o.sc, .slice o.ya o.yn o.yc, .slice o.ra o.rn o.rc, .slice o.ga o.gn o.gc] := hV.symm
  clear hV
  obtain ⟨v0, e0⟩ : ∃ v, (Value.slice o.sa o.sn o.sc) = v := ⟨_, rfl⟩
  obtain ⟨v1, e1⟩ : ∃ v, (Value.slice o.ya o.yn o.yc) = v := ⟨_, rfl⟩
  obtain ⟨v2, e2⟩ : ∃ v, (Value.slice o.ra o.rn o.rc) = v := ⟨_, rfl⟩
  obtain ⟨v3, e3⟩ : ∃ v, (Value.slice o.ga o.gn o.gc) = v := ⟨_, rfl⟩
  rw [e0, e1, e2, e3] at hV'
  subst hV'
  clear e0 e1 e2 e3
  obtain ⟨wa, hwa, B1, kA, sA⟩ := box_obj w v0 v1 v2 v3
  have hOa := hO.kept kA
  obtain ⟨c0, c1, c2, c3, _, _, _, _⟩ := id B1
  cases g1 with
  | false =>
    have HX : Hid (X = 8) := hm
    clear hm H2 H3 H4
    go_enter Tryz.func8, Tryz.ntmps8
    go_wp2_with (go_at_call 21; refine (H1 _ hOa).mono ?_; rintro e w1 ⟨rfl, k1⟩)
    go_ret
    exact ⟨by rw [HX.out]; rfl, kA.trans k1⟩
  | true =>
    have H2' := H2 rfl
    have H4' := H4 rfl
    cases g2 with
    | false =>
      have HX : Hid (X = 8) := hm
      clear hm H2 H3 H4
      go_enter Tryz.func8, Tryz.ntmps8
      go_wp2_with (first
        | (go_at_call 21; refine (H1 _ hOa).mono ?_; rintro e w1 ⟨rfl, k1⟩; clear c0 c1 c2 c3; obtain ⟨c0, c1, c2, c3, _, _, _, _⟩ := id (B1.kept k1); have O1 := hOa.kept k1)
        | (go_at_call 22; refine (H2' _ O1).mono ?_; rintro e w2 ⟨rfl, k2⟩))
      go_ret
      exact ⟨by rw [HX.out]; rfl, (kA.trans k1).trans k2⟩
    | true =>
      have H3' := H3 rfl rfl
      cases g3 with
      | false =>
        have HX : Hid (X = 8) := hm
        clear hm H2 H3 H4
        go_enter Tryz.func8, Tryz.ntmps8
        go_wp2_with (first
          | (go_at_call 21; refine (H1 _ hOa).mono ?_; rintro e w1 ⟨rfl, k1⟩; clear c0 c1 c2 c3; obtain ⟨c0, c1, c2, c3, _, _, _, _⟩ := id (B1.kept k1); have O1 := hOa.kept k1)
          | (go_at_call 22; refine (H2' _ O1).mono ?_; rintro e w2 ⟨rfl, k2⟩; clear c0 c1 c2 c3; obtain ⟨c0, c1, c2, c3, _, _, _, _⟩ := id ((B1.kept k1).kept k2); have O2 := O1.kept k2)
          | (go_at_call 23; refine (H3' _ O2).mono ?_; rintro e w3 ⟨rfl, k3⟩))
        go_ret
        exact ⟨by rw [HX.out]; rfl, ((kA.trans k1).trans k2).trans k3⟩
      | true =>
        have HX : Hid (X = if g4 = true then 0 else 8) := by unfold Hid; rw [hm]; cases g4 <;> rfl
        clear hm H2 H3 H4
        cases g4 with
        | false =>
          go_enter Tryz.func8, Tryz.ntmps8
          go_wp2_with (first
            | (go_at_call 21; refine (H1 _ hOa).mono ?_; rintro e w1 ⟨rfl, k1⟩; clear c0 c1 c2 c3; obtain ⟨c0, c1, c2, c3, _, _, _, _⟩ := id (B1.kept k1); have O1 := hOa.kept k1)
            | (go_at_call 22; refine (H2' _ O1).mono ?_; rintro e w2 ⟨rfl, k2⟩; clear c0 c1 c2 c3; obtain ⟨c0, c1, c2, c3, _, _, _, _⟩ := id ((B1.kept k1).kept k2); have O2 := O1.kept k2)
            | (go_at_call 23; refine (H3' _ O2).mono ?_; rintro e w3 ⟨rfl, k3⟩; clear c0 c1 c2 c3; obtain ⟨c0, c1, c2, c3, _, _, _, _⟩ := id (((B1.kept k1).kept k2).kept k3); have O3 := O2.kept k3)
            | (go_at_call 24; refine (H4' _ O3).mono ?_; rintro e w4 ⟨rfl, k4⟩))
          go_ret
          exact ⟨by rw [HX.out]; rfl, (((kA.trans k1).trans k2).trans k3).trans k4⟩
        | true =>
          go_enter Tryz.func8, Tryz.ntmps8
          go_wp2_with (first
            | (go_at_call 21; refine (H1 _ hOa).mono ?_; rintro e w1 ⟨rfl, k1⟩; clear c0 c1 c2 c3; obtain ⟨c0, c1, c2, c3, _, _, _, _⟩ := id (B1.kept k1); have O1 := hOa.kept k1)
            | (go_at_call 22; refine (H2' _ O1).mono ?_; rintro e w2 ⟨rfl, k2⟩; clear c0 c1 c2 c3; obtain ⟨c0, c1, c2, c3, _, _, _, _⟩ := id ((B1.kept k1).kept k2); have O2 := O1.kept k2)
            | (go_at_call 23; refine (H3' _ O2).mono ?_; rintro e w3 ⟨rfl, k3⟩; clear c0 c1 c2 c3; obtain ⟨c0, c1, c2, c3, _, _, _, _⟩ := id (((B1.kept k1).kept k2).kept k3); have O3 := O2.kept k3)
            | (go_at_call 24; refine (H4' _ O3).mono ?_; rintro e w4 ⟨rfl, k4⟩))
          go_ret
          exact ⟨by rw [HX.out]; rfl, (((kA.trans k1).trans k2).trans k3).trans k4⟩
end Go.Proofs.YtljmgbpecoifnaaGreatDoor
