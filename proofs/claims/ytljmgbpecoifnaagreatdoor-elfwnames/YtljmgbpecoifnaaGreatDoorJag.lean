/- What Put gives, and the document's own Put. A head that lies in a block; bytes that are appended, with where the new slice lies. What Write gives. What the document's own Put gives. -/
import Derived.Test.YtljmgbpecoifnaaGreatDoorBy
import Derived.Test.YtljmgbpecoifnaaGreatDoorJaf
import Derived.Test.YtljmgbpecoifnaaGreatDoorWm
import Derived.Deep.RegionWith
namespace Go.Proofs.YtljmgbpecoifnaaGreatDoor
open Go.RowKit

theorem wrap_u (n : Int) : IntKind.u64.wrap n = ((uOf n : Nat) : Int) := by
  rw [uOf_cast]; rfl
theorem ret_bool {a b : Bool} (h : a = b) : Ending.returned (.bool a) = .returned (.bool b) := by rw [h]
theorem fit_eq (n : Int) (q : Int) (hq : q = 256 ∨ q = 65536 ∨ q = 4294967296) (h0 : -9223372036854775808 ≤ n) (h1 : n ≤ 9223372036854775807) : (IntKind.u64.wrap n / q == 0) = decide (0 ≤ n ∧ n < q) := by
  rw [wrap_u, uOf_cast, Bool.eq_iff_iff]
  simp only [beq_iff_eq, decide_eq_true_eq]
  rcases hq with rfl | rfl | rfl <;> omega

theorem fits_walk (n size : Int) (w : World) (h0 : -9223372036854775808 ≤ n) (h1 : n ≤ 9223372036854775807) (hs : szB size = true) :
    Calls Tryz.prog 129 #[.int .i64 n, .int .i64 size] w fun e w' => e = .returned (.bool (mayB n size)) ∧ w' = w := by
  rcases szB_true hs with rfl | rfl | rfl | rfl
  · rw [mayB_1]
    go_enter Tryz.func129, Tryz.ntmps129
    go_wp2
    go_ret
    exact ⟨ret_bool (fit_eq n _ (by simp) h0 h1), rfl⟩
  · rw [mayB_2]
    go_enter Tryz.func129, Tryz.ntmps129
    go_wp2
    go_ret
    exact ⟨ret_bool (fit_eq n _ (by simp) h0 h1), rfl⟩
  · rw [mayB_4]
    go_enter Tryz.func129, Tryz.ntmps129
    go_wp2
    go_ret
    exact ⟨ret_bool (fit_eq n _ (by simp) h0 h1), rfl⟩
  · rw [mayB_8]
    go_enter Tryz.func129, Tryz.ntmps129
    go_wp2
    go_ret
    exact ⟨rfl, rfl⟩

/-- The bytes that are laid so far, and noughts. -/
def rowAt (u k size : Nat) : List Int := byN u k ++ List.replicate (size - k) 0
theorem rowAt_length (u k size : Nat) (h : k ≤ size) : (rowAt u k size).length = size := by simp [rowAt, byN_length]; omega
theorem rowAt_set (u k size : Nat) (h : k < size) : (rowAt u k size).set k ((u / 256 ^ k % 256 : Nat) : Int) = rowAt u (k + 1) size := by
  obtain ⟨m, hm⟩ : ∃ m, size - k = m + 1 := ⟨size - k - 1, by omega⟩
  have hm' : size - (k + 1) = m := by omega
  unfold rowAt
  rw [hm, hm', List.set_append_right _ _ (by rw [byN_length]; exact Nat.le_refl _), byN_length, Nat.sub_self, List.replicate_succ, List.set_cons_zero, byN_snoc, List.append_assoc]
  rfl

set_option maxHeartbeats 1600000 in
theorem put_yes (n : Int) (size : Nat) (w : World) (h0 : -9223372036854775808 ≤ n) (h1 : n ≤ 9223372036854775807) (hs : szB (size : Int) = true) (hm : mayB n size = true) :
    Calls Tryz.prog 94 #[.int .i64 n, .int .i64 (size : Int)] w fun e w' => ∃ v, e = .returned (.tuple #[v, .int .i64 0]) ∧ Own w' w.heap.size v (byN (uOf n) size) ∧ Kept w w' := by
  obtain ⟨i0, hi, hz0, hz1, hz2⟩ := info_parts Tryz.infoByte
  have hsz : size ≤ 8 := by rcases szB_true hs with h | h | h | h <;> omega
  go_enter Tryz.func94, Tryz.ntmps94
  go_wp2_with (first
    | (go_at_call 41; refine (isSize_walk _ _).mono ?_; rintro e w' ⟨rfl, rfl⟩)
    | (go_at_call 129; refine (fits_walk _ _ _ h0 h1 hs).mono ?_; rintro e w' ⟨rfl, rfl⟩)
    | (at_make; refine wpList_make_full _ rfl _ _ 35 rfl _ 5 i0 (.int .u8 0) 1 Tryz.underlying35 hi hz0 hz1 _ _ _ _ size rfl rfl rfl rfl (by rw [hz2]; omega) (by unfold maxLen; omega) (Nat.le_refl _) ?_))
  intro w1 hown hgrow
  have R0 : Own w1 w'.heap.size (.slice (some ⟨w'.heap.size, 0, none⟩) size size) (rowAt (uOf n) 0 size) := by
    have e : (rowAt (uOf n) 0 size).map (Value.int .u8) = List.replicate size (Value.int .u8 0) := by simp [rowAt, byN, leB]
    unfold Own
    rw [rowAt_length _ _ _ (Nat.zero_le _), e, ← toList_madeCells_one]
    simpa using hown
  have K0 : Kept w' w1 := (Below.refl _ _).grown hgrow (Nat.le_refl _) (fun k e => by cases e)
  have hu := wrap_u n
  have hul := uOf_lt n
  clear hown hgrow
  go_wp2
  go_loopw [24] (fun i wr => ∃ k : Nat, k ≤ size ∧ i = .int .i64 k ∧ Own wr w'.heap.size (.slice (some ⟨w'.heap.size, 0, none⟩) size size) (rowAt (uOf n) k size) ∧ Kept w' wr) (fun i _ => size - (intOf i).toNat)
  case atStart => exact ⟨0, Nat.zero_le _, rfl, R0, K0⟩
  case round =>
    obtain ⟨k, hk, rfl, hown, hkept⟩ := hrel
    clear R0 K0
    by_cases hlt : k < size
    · have hown' := hown
      unfold Own at hown'
      rw [rowAt_length _ _ _ hk] at hown'
      have hc : wr.cell? ⟨w'.heap.size, k, none⟩ = some (.int .u8 ((rowAt (uOf n) k size)[k]'(by rw [rowAt_length _ _ _ hk]; exact hlt))) := by
        rw [hown'.cellAt k (by omega)]
        simp [rowAt_length _ _ _ hk, hlt]
      have hf := hown'.frozenAt k
      have hv : ((uOf n : Nat) : Int) / 2 ^ (8 * k) % 256 = ((uOf n / 256 ^ k % 256 : Nat) : Int) := by
        rw [show (256 : Nat) ^ k = 2 ^ (8 * k) by rw [Nat.pow_mul]]
        simp
      obtain ⟨S1, S2⟩ := hown'.stored k (.int .u8 ((uOf n / 256 ^ k % 256 : Nat) : Int))
      have S1' : Own (wr.setCell ⟨w'.heap.size, k, none⟩ (.int .u8 ((uOf n / 256 ^ k % 256 : Nat) : Int))) w'.heap.size (.slice (some ⟨w'.heap.size, 0, none⟩) size size) (rowAt (uOf n) (k + 1) size) := by
        unfold Own
        rw [rowAt_length _ _ _ hlt, ← rowAt_set _ _ _ hlt, List.map_set]
        exact S1
      have S2' : Kept w' (wr.setCell ⟨w'.heap.size, k, none⟩ (.int .u8 ((uOf n / 256 ^ k % 256 : Nat) : Int))) := hkept.grown S2 hkept.size (fun j e => by cases e; exact Nat.le_refl _)
      have HV : Hid (((uOf n : Nat) : Int) / 2 ^ (8 * k) % 256 = ((uOf n / 256 ^ k % 256 : Nat) : Int)) := hv
      clear hv S1 S2 hown'
      go_wp2
      go_roundw
      case rel => exact ⟨k + 1, by omega, by go_num, by rw [HV.out]; exact S1', by rw [HV.out]; exact S2'⟩
      case measure => simp [intOf]; omega
    · obtain rfl : k = size := by omega
      have hrow : rowAt (uOf n) k k = byN (uOf n) k := by simp [rowAt]
      rw [hrow] at hown
      clear hrow
      go_wp2
      go_ret2
      exact ⟨_, rfl, hown, hkept⟩

theorem put_no (n size : Int) (w : World) (h0 : -9223372036854775808 ≤ n) (h1 : n ≤ 9223372036854775807) (hm : mayB n size = false) :
    Calls Tryz.prog 94 #[.int .i64 n, .int .i64 size] w fun e w' => e = .returned (.tuple #[.slice none 0 0, .int .i64 2]) ∧ w' = w := by
  cases hs : szB size
  · go_enter Tryz.func94, Tryz.ntmps94
    go_wp2_with (go_at_call 41; refine (isSize_walk _ _).mono ?_; rintro e w' ⟨rfl, rfl⟩)
    go_ret2
    exact ⟨rfl, rfl⟩
  · go_enter Tryz.func94, Tryz.ntmps94
    go_wp2_with (first
      | (go_at_call 41; refine (isSize_walk _ _).mono ?_; rintro e w' ⟨rfl, rfl⟩)
      | (go_at_call 129; refine (fits_walk _ _ _ h0 h1 hs).mono ?_; rintro e w' ⟨rfl, rfl⟩))
    go_ret2
    exact ⟨rfl, rfl⟩

theorem mayB_sz {n size : Int} (h : mayB n size = true) : szB size = true := by
  unfold mayB at h
  rw [Bool.and_eq_true] at h
  exact h.1
theorem szB_nat {size : Int} (h : szB size = true) : ((size.toNat : Nat) : Int) = size := by rcases szB_true h with rfl | rfl | rfl | rfl <;> rfl

/-- What Put gives. -/
theorem put_walk (n size : Int) (w : World) (h0 : -9223372036854775808 ≤ n) (h1 : n ≤ 9223372036854775807) :
    Calls Tryz.prog 94 #[.int .i64 n, .int .i64 size] w fun e w' => ∃ v, e = .returned (.tuple #[v, .int .i64 (putE n size)]) ∧ Own w' w.heap.size v (putL n size) ∧ Kept w w' := by
  unfold putE putL
  cases hm : mayB n size
  · refine (put_no n size w h0 h1 hm).mono ?_
    rintro e w' ⟨rfl, rfl⟩
    exact ⟨_, rfl, Own.nil _ _, Kept.refl _⟩
  · have hs := mayB_sz hm
    have e := szB_nat hs
    have := put_yes n size.toNat w h0 h1 (by rw [e]; exact hs) (by rw [e]; exact hm)
    rw [e] at this
    exact this

abbrev headW' (v0 v1 v2 v3 v4 v5 v6 v7 v8 v9 : Int) : Value := .agg #[.int .i64 v0, .int .i64 v1, .int .i64 v2, .int .i64 v3, .int .i64 v4, .int .i64 v5, .int .i64 v6, .int .i64 v7, .int .i64 v8, .int .i64 v9]
abbrev headO (v0 v1 v2 v3 v4 v5 v6 v7 v8 v9 : Int) : Obj := .cells #[.int .i64 v0, .int .i64 v1, .int .i64 v2, .int .i64 v3, .int .i64 v4, .int .i64 v5, .int .i64 v6, .int .i64 v7, .int .i64 v8, .int .i64 v9] 53

/-- In block b there lie the ten numbers v. -/
def HBx (w : World) (b : Nat) (v : List Int) : Prop := ∀ k, k < 10 → w.cell? ⟨b, k, none⟩ = some (.int .i64 (v.getD k 0)) ∧ w.frozen? ⟨b, k, none⟩ = false
theorem HBx.lt {w : World} {b : Nat} {v : List Int} (h : HBx w b v) : b < w.heap.size := block_lt_of_cell (h 0 (by decide)).1
theorem HBx.kept {w w' : World} {b : Nat} {v : List Int} (h : HBx w b v) (k : Kept w w') : HBx w' b v := fun i hi => ⟨k.cell (h i hi).1, (k.frozen h.lt).trans (h i hi).2⟩
theorem HBx.new (w : World) (v0 v1 v2 v3 v4 v5 v6 v7 v8 v9 : Int) : HBx (w.alloc (headO v0 v1 v2 v3 v4 v5 v6 v7 v8 v9)) w.heap.size [v0, v1, v2, v3, v4, v5, v6, v7, v8, v9] := fun k hk => by
  match k, hk with
  | 0, _ => simp
  | 1, _ => simp
  | 2, _ => simp
  | 3, _ => simp
  | 4, _ => simp
  | 5, _ => simp
  | 6, _ => simp
  | 7, _ => simp
  | 8, _ => simp
  | 9, _ => simp
/-- A block that nothing of the row touches, beside a row that grows. -/
theorem grown_cell {w w' : World} {g : Nat} (h : w.grownBy w' (some g)) {a : Addr} {v : Value} (hc : w.cell? a = some v) (ha : a.block ≠ g) : w'.cell? a = some v :=
  h.cell hc (by simpa using ha)
theorem grown_frozen {w w' : World} {g : Nat} (h : w.grownBy w' (some g)) {a : Addr} (hl : a.block < w.heap.size) (ha : a.block ≠ g) : w'.frozen? a = w.frozen? a := by
  have := h.block a.block hl (by simpa using ha)
  unfold World.frozen?
  rw [this]
theorem HBx.grown {w w' : World} {b g : Nat} {v : List Int} (h : HBx w b v) (hg : w.grownBy w' (some g)) (hb : b ≠ g) : HBx w' b v := fun i hi => ⟨grown_cell hg (h i hi).1 hb, (grown_frozen hg h.lt hb).trans (h i hi).2⟩
theorem Fld.grown {w w' : World} {b f g : Nat} (h : Fld w f b) (hg : w.grownBy w' (some g)) (hf : f ≠ g) : Fld w' f b := fun i hi => ⟨grown_cell hg (h i hi).1 hf, grown_cell hg (h i hi).2 hf⟩

/-- 'append(s, b...)', s the call's own and not nil, b bytes that lie at 'ad'. -/
theorem wpList_append_bytL {w : World} {ops : Array Oper} {rest : List Oper} {o : Oper} {a : Act} {Q : Exit → Act → World → Prop} (hgd : o.guard = none) (s x : Operand)
    (ho : o.op = .call { callee := .builtin .append, args := #[s, x], argTypes := #[35, 35] }) (base g len cap : Nat) (xs l : List Int) (ao : Option Addr) (m c : Nat) (hl : xs.length = len) (hm : l.length = m) (hs : a.eval s = .slice (some ⟨g, 0, none⟩) len cap) (hx : a.eval x = .slice ao m c)
    (hown : Own w base (.slice (some ⟨g, 0, none⟩) len cap) xs) (hb : Byt w ao l) (hpos : 0 < m) (hlen : len + m ≤ 10000000) (hbase : base ≤ w.heap.size)
    (h : ∀ g' cap' w', Own w' base (.slice (some ⟨g', 0, none⟩) (len + m) cap') (xs ++ l) → w.grownBy w' (some g) → (g' = g ∨ g' = w.heap.size) → wpList Tryz.prog ops Q rest (a.put o.dst (.slice (some ⟨g', 0, none⟩) (len + m) cap')) w') : wpList Tryz.prog ops Q (o :: rest) a w := by
  subst hl
  subst hm
  obtain ⟨i0, hi, hz0, hz1, hz2⟩ := info_parts Tryz.infoByte
  rcases hb with rfl | ⟨b, off, rfl, hc⟩
  · simp at hpos
  refine wpList_append_own_at _ hgd s x 35 ho base 5 i0 (.int .u8 0) 1 1 Tryz.underlying35 hi hz0 hz1 hz2 rfl (by decide) _ xs.length _ hs hown ⟨b, off, none⟩ l.length c (l.map (Value.int .u8)) hx (by simp) ?_ (ints_oneCell .u8 l) (by unfold maxLen; omega) (by omega) hbase ?_
  · intro j u hj
    have hjl : j < l.length := by simpa using (List.getElem?_eq_some_iff.1 hj).1
    have e : (⟨b, off, none⟩ : Addr).add j = ⟨b, off + j, none⟩ := by unfold Addr.add; split <;> simp_all
    rw [e, hc j hjl, ← hj]
    simp [List.getD, hjl]
  · intro v' w' h1 h2 _ h4
    have hv : ∃ g' cap', v' = .slice (some ⟨g', 0, none⟩) (xs.length + l.length) cap' := by
      rcases h1.2 with ⟨rfl, _⟩ | ⟨g', cap', cur, hv, _⟩
      · simp [Value.ownBlock] at h4
      · exact ⟨g', cap', hv⟩
    obtain ⟨g', cap', rfl⟩ := hv
    refine h g' cap' w' ?_ (by simpa [Value.ownBlock] using h2) (by simpa [Value.ownBlock] using h4)
    unfold Own
    simpa using h1
theorem own_made (w : World) : Own (w.alloc (.cells (Array.replicate 64 (.int .u8 0)) 5)) w.heap.size (.slice (some ⟨w.heap.size, 0, none⟩) 0 64) [] :=
  ⟨rfl, .inr ⟨w.heap.size, 64, _, rfl, Nat.le_refl _, heap_alloc_new w _, Nat.zero_le _, by decide, by simp, by simp⟩⟩

/-- While the fields are gone through. -/
structure WSt (w : World) (b f : Nat) (v : List Int) (k : Nat) (x : Value) (wr : World) : Prop where
  own : ∃ g cap len, x = .slice (some ⟨g, 0, none⟩) len cap ∧ (headP v k).length = len ∧ g ≠ b ∧ g ≠ f ∧ Own wr w.heap.size (.slice (some ⟨g, 0, none⟩) len cap) (headP v k)
  fld : Fld wr f b
  box : HBx wr b v
  kept : Kept w wr
  all : ∀ j, j < k → okF (headS.getD j 0) (v.getD j 0) = true

theorem hmk (w : World) : (Instr.makeSlice 35 (.int .i64 0) (.int .i64 64)).run Tryz.prog w = .ok (.slice (some ⟨w.heap.size, 0, none⟩) 0 64) (w.alloc (.cells (Array.replicate 64 (.int .u8 0)) 5)) := by kernel_rfl

theorem own_keep {w w' : World} {base : Nat} {x : Value} {l : List Int} (h : Own w base x l) (k : Kept w w') : Own w' base x l := h.kept k fun g e => (h.lt g e).2

set_option maxRecDepth 20000 in
set_option maxHeartbeats 3200000 in
theorem write_walk (v0 v1 v2 v3 v4 v5 v6 v7 v8 v9 : Int) (v : List Int) (w : World) (hv : v = [v0, v1, v2, v3, v4, v5, v6, v7, v8, v9]) (hr : ∀ n ∈ v, -9223372036854775808 ≤ n ∧ n ≤ 9223372036854775807) :
    Calls Tryz.prog 100 #[headW' v0 v1 v2 v3 v4 v5 v6 v7 v8 v9] w fun e w' => ∃ x, e = .returned (.tuple #[x, .int .i64 (wrE v)]) ∧ Own w' w.heap.size x (wrL v) ∧ Kept w w' := by
  have H1 := HBx.new w v0 v1 v2 v3 v4 v5 v6 v7 v8 v9
  rw [← hv] at H1
  have hv10 : v.length = 10 := by rw [hv]; rfl
  have HV : Hid (v.length = 10) := hv10
  obtain ⟨wa, hwa⟩ : ∃ wa, w.alloc (headO v0 v1 v2 v3 v4 v5 v6 v7 v8 v9) = wa := ⟨_, rfl⟩
  rw [hwa] at H1
  have kA : Kept w wa := by rw [← hwa]; exact Kept.alloc _ _
  have sA : wa.heap.size = w.heap.size + 1 := by rw [← hwa]; simp
  have O1 := own_made wa
  have hm := hmk wa
  obtain ⟨wb, hwb⟩ : ∃ wb, wa.alloc (.cells (Array.replicate 64 (.int .u8 0)) 5) = wb := ⟨_, rfl⟩
  rw [hwb] at O1 hm
  have kB : Kept wa wb := by rw [← hwb]; exact Kept.alloc _ _
  have sB : wb.heap.size = w.heap.size + 2 := by rw [← hwb]; simp [sA]
  have hF := fields_walk w.heap.size wb
  rw [sA] at O1 hm
  rw [sB] at hF
  clear hv hv10
  go_enter Tryz.func100, Tryz.ntmps100
  go_wp2_with (go_at_call 42; refine hF.mono ?_; rintro e wc ⟨rfl, hfl, kC⟩)
  have S0 : WSt w w.heap.size (w.heap.size + 2) v 0 (.slice (some ⟨w.heap.size + 1, 0, none⟩) 0 64) wc :=
    ⟨⟨_, _, 0, rfl, rfl, by omega, by omega, own_keep (own_base O1 (by omega)) kC⟩, hfl, (H1.kept kB).kept kC, (kA.trans kB).trans kC, fun j hj => absurd hj (Nat.not_lt_zero _)⟩
  clear H1 hwa kA sA O1 hm hwb kB sB hF kC hfl
  go_loopw [4, 12] (fun x i wr => ∃ k : Nat, k ≤ 10 ∧ i = .int .i64 k ∧ WSt w w.heap.size (w.heap.size + 2) v k x wr) (fun _ i _ => 10 - (intOf i).toNat)
  case atStart => exact ⟨0, Nat.zero_le _, rfl, S0⟩
  case round =>
    obtain ⟨k, hk, rfl, S⟩ := hrel
    clear S0
    by_cases hlt : k < 10
    · obtain ⟨p0, p1⟩ := S.fld k hlt
      have c0 := (S.box k hlt).1
      have hs := headS_at k hlt
      obtain ⟨n, hn⟩ : ∃ n, v.getD k 0 = n := ⟨_, rfl⟩
      obtain ⟨s, hse⟩ : ∃ s, headS.getD k 0 = s := ⟨_, rfl⟩
      have hnr : -9223372036854775808 ≤ n ∧ n ≤ 9223372036854775807 := hr n (by
        have hl : k < v.length := by rw [HV.out]; exact hlt
        rw [← hn, List.getD, List.getElem?_eq_getElem hl]
        exact List.getElem_mem hl)
      obtain ⟨hn0, hn1⟩ := hnr
      rw [hn] at c0
      rw [hse] at p1 hs
      have HN : Hid (v.getD k 0 = n) := hn
      have HS : Hid (headS.getD k 0 = s) := hse
      have hlt' := S.box.lt
      clear hn hse hr
      by_cases hneg : n < 0
      · have HB : Hid (wrE v = 2 ∧ wrL v = []) := wr_no (headB_no hlt (by rw [HN.out]; exact okF_neg hneg))
        have d : decide (n < 0) = true := decide_eq_true hneg
        go_wp2
        go_ret2
        exact ⟨_, by rw [HB.out.1]; rfl, by rw [HB.out.2]; exact Own.nil _ _, S.kept.trans (Kept.alloc _ _)⟩
      · have d : decide (n < 0) = false := decide_eq_false hneg
        have hok := okF_may (s := s) hs (show 0 ≤ n by omega)
        cases hm : mayB n (s : Int) with
        | false =>
          have HB : Hid (wrE v = 2 ∧ wrL v = []) := wr_no (headB_no hlt (by rw [HN.out, HS.out, hok, hm]))
          have hP := fun w => put_no n (s : Int) w hn0 hn1 hm
          clear hok hm hs
          go_upto_region 7 with fail
          go_region_with (go_at_call 94; refine (hP _).mono ?_; rintro e w2 ⟨rfl, hw2⟩; have hw3 := hw2.symm; subst hw3; clear hw2)
          all_goals
            go_wp2
            go_ret2
            exact ⟨_, by rw [HB.out.1]; rfl, by rw [HB.out.2]; exact Own.nil _ _, (S.kept.trans (Kept.alloc _ _)).trans (kept_drew _)⟩
        | true =>
          have hP := fun w => put_yes n s w hn0 hn1 (mayB_sz hm) hm
          have HK : Hid (okF s n = true) := by unfold Hid; rw [hok, hm]
          obtain ⟨g, cap, len, rfl, hlen, hgb, hgf, hO⟩ := S.own
          have hle := headP_le HV.out k hk
          have HL : Hid ((headP v k).length = len) := hlen
          have hpos : 0 < s := by omega
          have hsl : len + s ≤ 10000000 := by omega
          have hf := block_lt_of_cell p0
          clear hok hm hlen hle
          go_upto_region 7 with fail
          go_region_with (go_at_call 94; refine (hP _).mono ?_; rintro e w2 ⟨x2, rfl, hO2, hk2⟩; obtain ⟨A2, C2, rfl, _, hb2, _⟩ := hO2.let (byN_length _ _); have K2 := ((Kept.alloc wr _).trans (kept_drew _)).trans hk2; have hO' := own_keep hO K2)
          all_goals
            have F2 := S.fld.kept K2
            have B2 := S.box.kept K2
            have W2 := S.kept.trans K2
            have hsz2 : w.heap.size ≤ w2.heap.size := W2.size
            have l1 : w.heap.size < w2.heap.size := B2.lt
            have l2 : w.heap.size + 2 < w2.heap.size := Nat.lt_of_lt_of_le hf K2.size
            have hgw := (hO'.lt g rfl).1
            clear hP hO hk2 hO2
            go_wp2_with (at_builtin; refine wpList_append_bytL rfl _ _ rfl w.heap.size g len cap (headP v k) (byN (uOf n) s) A2 s C2 HL.out (byN_length _ _) rfl rfl hO' hb2 hpos hsl hsz2 ?_; intro g3 c3 w3 hO3 hg3 hor)
            have S' : WSt w w.heap.size (w.heap.size + 2) v (k + 1) (.slice (some ⟨g3, 0, none⟩) (len + s) c3) w3 := by
              have e : headP v (k + 1) = headP v k ++ byN (uOf n) s := by rw [headP_succ HV.out hlt, HN.out, HS.out]
              refine ⟨⟨g3, c3, len + s, rfl, ?_, ?_, ?_, ?_⟩, F2.grown hg3 (Ne.symm hgf), B2.grown hg3 (Ne.symm hgb), ?_, ?_⟩
              · rw [e, List.length_append, byN_length, HL.out]
              · rcases hor with rfl | rfl <;> omega
              · rcases hor with rfl | rfl <;> omega
              · rw [e]; exact hO3
              · exact W2.grown hg3 hsz2 (fun j ej => by cases ej; exact hgw)
              · intro j hj
                by_cases ej : j = k
                · subst ej; rw [HN.out, HS.out]; exact HK.out
                · exact S.all j (by omega)
            clear F2 B2 W2 hO' hO3 hg3 S
            go_wp2
            go_roundw
            case rel => exact ⟨k + 1, by omega, by go_num, S'⟩
            case measure => simp [intOf]; omega
    · obtain rfl : k = 10 := by omega
      have hb := headB_mk HV.out S.all
      have HB : Hid (wrE v = 0 ∧ wrL v = headL v) := wr_yes hb
      obtain ⟨g, cap, len, rfl, _, _, _, hO⟩ := S.own
      rw [headP_ten HV.out] at hO
      clear hb
      go_wp2
      go_ret2
      exact ⟨_, by rw [HB.out.1]; rfl, by rw [HB.out.2]; exact hO, S.kept⟩

set_option maxHeartbeats 1600000 in
theorem bytes_walk (n : Int) (size : Nat) (w : World) (hsz : size ≤ 8) :
    Calls Tryz.prog 112 #[.int .i64 n, .int .i64 (size : Int)] w fun e w' => ∃ v, e = .returned v ∧ Own w' w.heap.size v (byN (uOf n) size) ∧ Kept w w' := by
  obtain ⟨i0, hi, hz0, hz1, hz2⟩ := info_parts Tryz.infoByte
  have hu := wrap_u n
  have hul := uOf_lt n
  go_enter Tryz.func112, Tryz.ntmps112
  go_wp2
  go_loopw [5, 6, 7] (fun v x i wr => ∃ k : Nat, k ≤ size ∧ i = .int .i64 k ∧ x = .int .u64 ((uOf n / 256 ^ k : Nat) : Int) ∧ Own wr w.heap.size v (byN (uOf n) k) ∧ Kept w wr) (fun _ _ i _ => size - (intOf i).toNat)
  case atStart => exact ⟨0, Nat.zero_le _, rfl, by simp, Own.nil _ _, Kept.refl _⟩
  case round =>
    obtain ⟨k, hk, rfl, rfl, hown, hkept⟩ := hrel
    have hlen := byN_length (uOf n) k
    have hq : uOf n / 256 ^ k < 18446744073709551616 := Nat.lt_of_le_of_lt (Nat.div_le_self _ _) hul
    obtain ⟨q, hqe⟩ : ∃ q, uOf n / 256 ^ k = q := ⟨_, rfl⟩
    have HQ : Hid (uOf n / 256 ^ k = q) := hqe
    rw [hqe] at hq ⊢
    have HL : Hid ((byN (uOf n) k).length = k) := hlen
    clear hqe hlen
    by_cases hlt : k < size
    · go_wp2_with (at_builtin; refine wpList_append_own _ rfl _ _ 35 rfl w.heap.size 5 i0 (.int .u8 0) 1 1 Tryz.underlying35 hi hz0 hz1 hz2 rfl (by decide) _ _ _ rfl (hown.alloc _) ⟨wr.heap.size, 0, none⟩ 1 1 [.int .u8 ((q : Int) % 256)] rfl rfl ?c1 ?c2 ?c3 ?c4 ?c5 ?_)
      case c1 =>
        intro j u hj
        match j, hj with
        | 0, hj => simp at hj; subst hj; simp [Addr.add]
      case c2 => intro u hu; simp at hu; subst hu; rfl
      case c3 => have := HL.out; unfold maxLen; omega
      case c4 => have := HL.out; omega
      case c5 => have := hkept.size; simp; omega
      intro v' w1 hown' hgrow _
      have R1 : Own w1 w.heap.size v' (byN (uOf n) (k + 1)) := by
        rw [byN_snoc, HQ.out]
        simpa [Own] using hown'
      have R2 : Kept w w1 := (Below.alloc hkept hkept.size _).grown hgrow (by have := hkept.size; simp; omega) (fun j e => (hown.lt j e).1)
      have R3 : uOf n / 256 ^ (k + 1) = q / 256 := by rw [Nat.pow_succ, ← Nat.div_div_eq_div_mul, HQ.out]
      have HR : Hid (uOf n / 256 ^ (k + 1) = q / 256) := R3
      clear hown' hgrow hown hkept R3
      go_wp2
      go_roundw
      case rel => exact ⟨k + 1, by omega, by go_num, by rw [HR.out]; simp, R1, R2⟩
      case measure => simp [intOf]; omega
    · obtain rfl : k = size := by omega
      go_wp2
      go_ret
      exact ⟨_, rfl, hown, hkept⟩
end Go.Proofs.YtljmgbpecoifnaaGreatDoor
