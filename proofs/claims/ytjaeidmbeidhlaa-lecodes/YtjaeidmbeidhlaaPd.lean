/- What Pad gives, and the document's own Pad. -/
import Derived.Test.YtjaeidmbeidhlaaPu
namespace Go.Proofs.Ytjaeidmbeidhlaa
open Go.RowKit

theorem pad_no (a : Option Addr) (len cap : Nat) (m : Int) (w : World) (hm : muB m = false) :
    Calls Try.prog 11 #[.slice a len cap, .int .i64 m] w fun e w' => e = .returned (.tuple #[.slice none 0 0, .int .i64 2]) ∧ w' = w := by
  have h := of_decide_eq_false hm
  by_cases h1 : m < 1
  · go_enter Try.func11, Try.ntmps11
    go_wp2
    go_ret2
    exact ⟨rfl, rfl⟩
  · have h2 : 4096 < m := by omega
    clear h
    go_enter Try.func11, Try.ntmps11
    go_wp2
    go_ret2
    exact ⟨rfl, rfl⟩

theorem padK_zero {len m : Nat} (_h0 : 0 < m) (h : len % m = 0) : padK len m = 0 := by
  unfold padK; rw [h, Nat.sub_zero, Nat.mod_self]
theorem padK_pos {len m : Nat} (h0 : 0 < m) (h : 0 < len % m) : padK len m = m - len % m := by
  unfold padK; rw [Nat.mod_eq_of_lt (by omega)]
theorem padK_lt {len m : Nat} (h0 : 0 < m) : padK len m < m := Nat.mod_lt _ h0
theorem padK_mod {len m : Nat} (h0 : 0 < m) : (len + padK len m) % m = 0 := by
  have hl := Nat.mod_lt len h0
  have hd := Nat.div_add_mod len m
  by_cases h : len % m = 0
  · rw [padK_zero h0 h]; exact h
  · rw [padK_pos h0 (by omega)]
    have e : len + (m - len % m) = m * (len / m + 1) := by rw [Nat.mul_add, Nat.mul_one]; omega
    rw [e, Nat.mul_mod_right]
theorem padK_le (len m : Nat) (h0 : 0 < m) (h1 : m ≤ 4096) : padK len m ≤ 4096 := by have := padK_lt (len := len) h0; omega

theorem wpList_copy_at {P : Program} {w : World} {ops : Array Oper} {rest : List Oper} {o : Oper} {a : Act} {Q : Exit → Act → World → Prop} (hgd : o.guard = none) (d s : Operand) (dT sT : TypeId)
    (ho : o.op = .call { callee := .builtin .copy, args := #[d, s], argTypes := #[dT, sT] }) (hu : P.underlying dT = some (.slice 5)) (hsz : (P.info? 5).map (·.size) = some 1)
    (g dLen dCap sCap base : Nat) (ao : Option Addr) (l : List Int) (hd : a.eval d = .slice (some ⟨g, 0, none⟩) dLen dCap) (hs : a.eval s = .slice ao l.length sCap)
    (hle : l.length ≤ dLen) (hb : Byt w ao l) (hown : w.ownsRow base 5 1 (.slice (some ⟨g, 0, none⟩) dLen dCap) dLen (List.replicate dLen (.int .u8 0))) (w0 : World) (hbel : Below base w0 w)
    (h : ∀ w', Own w' base (.slice (some ⟨g, 0, none⟩) dLen dCap) (l ++ List.replicate (dLen - l.length) 0) → Below base w0 w' → wpList P ops Q rest (a.put o.dst (goInt l.length)) w') : wpList P ops Q (o :: rest) a w := by
  rcases hown.2 with ⟨h', _⟩ | ⟨g', cap', cur, h', hbg, hg, hnc, hcm, hcs, htake⟩
  · simp at h'
  · simp only [Value.slice.injEq, Option.some.injEq, Addr.mk.injEq, and_true, true_and] at h'
    obtain ⟨rfl, rfl⟩ := h'
    have hcur : dLen ≤ cur.toList.length := by simp; omega
    refine wpList_copy_splice hgd d s dT sT ho 5 hu hsz _ ao dLen dCap l.length sCap hd hs g 0 cur.toList 5 (by simpa using hg) (l.map (Value.int .u8)) (by rw [List.length_map]; exact (Nat.min_eq_left hle).symm) ?_ (by rw [List.length_map]; omega) (ints_oneCell .u8 l) base w0 hbel hbg ?_
    · intro hpos
      rcases hb with rfl | ⟨b, off, rfl, hc⟩
      · simp at hpos
      · refine ⟨rfl, _, rfl, fun j v hj => ?_⟩
        have hjl : j < l.length := by simpa using (List.getElem?_eq_some_iff.1 hj).1
        have e : (⟨b, off, none⟩ : Addr).add j = ⟨b, off + j, none⟩ := by unfold Addr.add; split <;> simp_all
        rw [e, hc j hjl, ← hj]
        simp [List.getD, hjl]
    · intro w' hg' hb'
      rw [List.length_map]
      refine h w' ⟨by simp, .inr ⟨g, dCap, (splice cur.toList 0 (l.map (Value.int .u8))).toArray, ?_, hbg, hg'.out, ?_, hcm, ?_, ?_⟩⟩ hb'
      · simp; omega
      · simp; omega
      · rw [List.size_toArray, length_splice _ _ _ (by rw [List.length_map]; omega)]; simpa using hcs
      · have hlen : (l ++ List.replicate (dLen - l.length) (0 : Int)).length = dLen := by simp; omega
        rw [hlen, Nat.mul_one]
        rw [Nat.mul_one] at htake
        have e1 : (cur.toList.drop l.length).take (dLen - l.length) = List.replicate (dLen - l.length) (.int .u8 0) := by
          rw [← List.drop_take, htake, List.drop_replicate]
        simp only [splice, List.take_zero, List.nil_append, List.length_map, Nat.zero_add, List.map_append, List.map_replicate]
        rw [List.take_append, List.length_map, List.take_of_length_le (by simpa using hle), e1]

/-- The row that was made holds noughts. -/
theorem made_own {w : World} {base g n : Nat} (h : w.ownsRow base 5 1 (.slice (some ⟨g, 0, none⟩) n n) n (madeCells #[Value.int .u8 0] n).toList) : w.ownsRow base 5 1 (.slice (some ⟨g, 0, none⟩) n n) n (List.replicate n (.int .u8 0)) := by
  rwa [toList_madeCells_one] at h

set_option maxHeartbeats 1600000 in
theorem pad_yes (a : Option Addr) (cap m : Nat) (l : List Int) (w : World) (hl : l.length ≤ 1000000) (hm0 : 1 ≤ m) (hm1 : m ≤ 4096) (hb : Byt w a l) :
    Calls Try.prog 11 #[.slice a l.length cap, .int .i64 (m : Int)] w fun e w' => ∃ g c, e = .returned (.tuple #[.slice (some ⟨g, 0, none⟩) (l.length + padK l.length m) c, .int .i64 0]) ∧ Own w' w.heap.size (.slice (some ⟨g, 0, none⟩) (l.length + padK l.length m) c) (l ++ List.replicate (padK l.length m) 0) ∧ Kept w w' := by
  obtain ⟨i0, hi, hz0, hz1, hz2⟩ := info_parts Try.infoByte
  by_cases hz : l.length % m = 0
  · rw [padK_zero hm0 hz]
    have hz' : ((l.length : Nat) : Int) % (m : Int) = 0 := by omega
    go_enter Try.func11, Try.ntmps11
    go_wp2_with (at_make; refine wpList_make_full _ rfl _ _ 22 rfl _ 5 i0 (.int .u8 0) 1 Try.underlying22 hi hz0 hz1 _ _ _ _ l.length rfl rfl rfl rfl (by rw [hz2]; omega) (by unfold maxLen; omega) (Nat.le_refl _) ?_)
    intro w1 hown hgrow
    have K0 : Kept w w1 := (Below.refl _ _).grown hgrow (Nat.le_refl _) (fun k e => by cases e)
    have R0 := made_own hown
    have B0 := hb.kept K0
    clear hown hgrow hb hz hz'
    go_wp2_with (refine wpList_copy_at rfl _ _ 22 22 rfl Try.underlying22 (by kernel_rfl) _ l.length l.length cap w.heap.size a l rfl rfl (Nat.le_refl _) B0 R0 w K0 ?_)
    intro w2 R1 K1
    clear R0 B0 K0
    go_wp2
    go_ret2
    exact ⟨_, _, rfl, by simpa using R1, K1⟩
  · have hr : ((l.length : Nat) : Int) % (m : Int) = ((l.length % m : Nat) : Int) := by simp
    have hpk := padK_pos hm0 (show 0 < l.length % m by omega)
    have hrm : l.length % m < m := Nat.mod_lt _ hm0
    obtain ⟨r, hre⟩ : ∃ r, l.length % m = r := ⟨_, rfl⟩
    rw [hre] at hr hpk hrm hz
    rw [hpk]
    obtain ⟨k, hk⟩ : ∃ k, m - r = k := ⟨_, rfl⟩
    rw [hk]
    have hk1 : k + r ≤ m := by omega
    have hk2 : m ≤ k + r := by omega
    have hr0 : 0 < r := by omega
    clear hre hpk hz hk
    go_enter Try.func11, Try.ntmps11
    go_wp2_with (at_make; refine wpList_make_full _ rfl _ _ 22 rfl _ 5 i0 (.int .u8 0) 1 Try.underlying22 hi hz0 hz1 _ _ _ _ (l.length + k) rfl rfl (by omega) (by omega) (by rw [hz2]; omega) (by unfold maxLen; omega) (Nat.le_refl _) ?_)
    intro w1 hown hgrow
    have K0 : Kept w w1 := (Below.refl _ _).grown hgrow (Nat.le_refl _) (fun k e => by cases e)
    have R0 := made_own hown
    have B0 := hb.kept K0
    clear hown hgrow hb
    go_wp2_with (refine wpList_copy_at rfl _ _ 22 22 rfl Try.underlying22 (by kernel_rfl) _ (l.length + k) (l.length + k) cap w.heap.size a l rfl rfl (Nat.le_add_right _ _) B0 R0 w K0 ?_)
    intro w2 R1 K1
    clear R0 B0 K0
    go_wp2
    go_ret2
    exact ⟨_, _, rfl, by simpa using R1, K1⟩

theorem pad_2 {l : List Int} {m : Int} (hm : muB m = false) : padL l m = [] ∧ padE m = 2 := by simp [padL, padE, hm]
theorem pad_0 {l : List Int} {m : Int} (hm : muB m = true) : padL l m = l ++ List.replicate (padK l.length m.toNat) 0 ∧ padE m = 0 := by simp [padL, padE, hm]

/-- What Pad gives. -/
theorem pad_walk (a : Option Addr) (cap : Nat) (m : Int) (l : List Int) (w : World) (hl : l.length ≤ 1000000) (hb : Byt w a l) :
    Calls Try.prog 11 #[.slice a l.length cap, .int .i64 m] w fun e w' => ∃ v, e = .returned (.tuple #[v, .int .i64 (padE m)]) ∧ Own w' w.heap.size v (padL l m) ∧ Kept w w' := by
  cases hm : muB m
  · rw [(pad_2 (l := l) hm).1, (pad_2 (l := l) hm).2]
    refine (pad_no a _ cap m w hm).mono ?_
    rintro e w' ⟨rfl, rfl⟩
    exact ⟨_, rfl, Own.nil _ _, Kept.refl _⟩
  · rw [(pad_0 (l := l) hm).1, (pad_0 (l := l) hm).2]
    obtain ⟨h0, h1⟩ := of_decide_eq_true hm
    have e : ((m.toNat : Nat) : Int) = m := by omega
    have := pad_yes a cap m.toNat l w hl (by omega) (by omega) hb
    rw [e] at this
    refine this.mono ?_
    rintro e w' ⟨g, c, rfl, hown, hk⟩
    exact ⟨_, rfl, hown, hk⟩

/-! ### The document's own Pad -/

/-- 'append(s, b...)', s the call's own, b bytes that lie anywhere: nil, empty or not. -/
theorem wpList_append_byt {w : World} {ops : Array Oper} {rest : List Oper} {o : Oper} {a : Act} {Q : Exit → Act → World → Prop} (hgd : o.guard = none) (s x : Operand)
    (ho : o.op = .call { callee := .builtin .append, args := #[s, x], argTypes := #[22, 22] }) (base : Nat) (v : Value) (xs l : List Int) (ao : Option Addr) (cap : Nat)
    (hs : a.eval s = v) (hx : a.eval x = .slice ao l.length cap) (hown : Own w base v xs) (hb : Byt w ao l) (hnil : ao = none → l.length = 0 ∧ cap = 0)
    (hlen : xs.length + l.length ≤ 10000000) (w0 : World) (hbel : Below base w0 w) (hbase : base ≤ w.heap.size)
    (h : ∀ v' w', Own w' base v' (xs ++ l) → Below base w0 w' → wpList Try.prog ops Q rest (a.put o.dst v') w') : wpList Try.prog ops Q (o :: rest) a w := by
  obtain ⟨i0, hi, hz0, hz1, hz2⟩ := info_parts Try.infoByte
  cases ao with
  | none =>
    obtain ⟨h1, rfl⟩ := hnil rfl
    obtain rfl : l = [] := List.eq_nil_of_length_eq_zero h1
    exact wpList_append_own_none hgd s x 22 ho base 5 i0 1 Try.underlying22 hi v xs.length _ hs hown hx (h v w (by simpa using hown) hbel)
  | some ad =>
    refine wpList_append_own _ hgd s x 22 ho base 5 i0 (.int .u8 0) 1 1 Try.underlying22 hi hz0 hz1 hz2 rfl (by decide) v xs.length _ hs hown ad l.length cap (l.map (Value.int .u8)) hx (by simp) ?_ (ints_oneCell .u8 l) (by unfold maxLen; omega) (by omega) hbase ?_
    · intro j u hj
      have hjl : j < l.length := by simpa using (List.getElem?_eq_some_iff.1 hj).1
      rcases hb with rfl | ⟨b, off, hao, hc⟩
      · simp at hjl
      · cases hao
        have e : (⟨b, off, none⟩ : Addr).add j = ⟨b, off + j, none⟩ := by unfold Addr.add; split <;> simp_all
        rw [e, hc j hjl, ← hj]
        simp [List.getD, hjl]
    · intro v' w' h1 h2 _
      exact h v' w' (by simpa [Own] using h1) (hbel.grown h2 hbase (fun k e => (hown.lt k e).1))

/-- 'append(s, n)', s the call's own: the literal's row is laid first. -/
theorem Own.lit {w : World} {base : Nat} {v : Value} {xs : List Int} (h : Own w base v xs) (o : Obj) : Own (w.alloc o) base v xs := World.ownsRow.alloc h o

theorem padK_ne {len m k : Nat} (h0 : 0 < m) (h : k < padK len m) : (len + k) % m ≠ 0 := by
  have hl := Nat.mod_lt len h0
  by_cases hz : len % m = 0
  · rw [padK_zero h0 hz] at h; omega
  · rw [padK_pos h0 (by omega)] at h
    rw [Nat.add_mod, Nat.mod_eq_of_lt (show k < m by omega), Nat.mod_eq_of_lt (show len % m + k < m by omega)]
    omega

set_option maxHeartbeats 1600000 in
theorem padded_walk (a : Option Addr) (cap m : Nat) (l : List Int) (w : World) (hl : l.length ≤ 1000000) (hm0 : 1 ≤ m) (hm1 : m ≤ 4096) (hb : Byt w a l) (hnil : a = none → l.length = 0 ∧ cap = 0) :
    Calls Try.prog 22 #[.slice a l.length cap, .int .i64 (m : Int)] w fun e w' => ∃ v, e = .returned v ∧ Own w' w.heap.size v (l ++ List.replicate (padK l.length m) 0) ∧ Kept w w' := by
  obtain ⟨i0, hi, hz0, hz1, hz2⟩ := info_parts Try.infoByte
  go_enter Try.func22, Try.ntmps22
  go_wp2_with (at_builtin; refine wpList_append_byt rfl _ _ rfl w.heap.size (.slice none 0 0) [] l a cap rfl rfl (Own.nil _ _) hb hnil (by simp; omega) w (Kept.refl _) (Nat.le_refl _) ?_)
  intro v0 w1 R0 K0
  clear hb hnil
  go_wp2
  go_loopw [5] (fun v wr => ∃ k : Nat, k ≤ padK l.length m ∧ Own wr w.heap.size v (l ++ List.replicate k 0) ∧ Kept w wr) (fun v _ => padK l.length m + l.length - (match v with | .slice _ n _ => n | _ => 0))
  case atStart => exact ⟨0, Nat.zero_le _, by simpa using R0, K0⟩
  case round =>
    obtain ⟨k, hk, hown, hkept⟩ := hrel
    clear R0 K0
    obtain ⟨A, C, rfl, hC, hbyt⟩ := hown.byt
    obtain ⟨n, hn⟩ : ∃ n, (l ++ List.replicate k (0 : Int)).length = n := ⟨_, rfl⟩
    have hn1 : l.length + k = n := by rw [← hn]; simp
    have hown' : wr.ownsRow w.heap.size 5 1 (.slice A n C) n ((l ++ List.replicate k 0).map (Value.int .u8)) := by rw [← hn]; exact hown
    rw [hn]
    have hkb : k ≤ 4096 := Nat.le_trans hk (padK_le _ _ hm0 hm1)
    have hnb : n ≤ 1004096 := by omega
    have HN : Hid (l.length + k = n) := hn1
    clear hown hbyt hn hC
    by_cases hlt : k < padK l.length m
    · have hq : ((n : Nat) : Int) % (m : Int) = ((n % m : Nat) : Int) := by simp
      have hq0 : 0 < n % m := Nat.pos_of_ne_zero (by rw [← hn1]; exact padK_ne hm0 hlt)
      obtain ⟨q, hqe⟩ : ∃ q, n % m = q := ⟨_, rfl⟩
      rw [hqe] at hq hq0
      clear hqe hn1
      go_wp2_with (at_builtin; refine wpList_append_own _ rfl _ _ 22 rfl w.heap.size 5 i0 (.int .u8 0) 1 1 Try.underlying22 hi hz0 hz1 hz2 rfl (by decide) _ _ _ rfl (hown'.alloc _) ⟨wr.heap.size, 0, none⟩ 1 1 [.int .u8 0] rfl rfl ?c1 ?c2 ?c3 ?c4 ?c5 ?_)
      case c1 =>
        intro j u hj
        match j, hj with
        | 0, hj => simp at hj; subst hj; simp [Addr.add]
      case c2 => intro u hu; simp at hu; subst hu; rfl
      case c3 => unfold maxLen; omega
      case c4 => omega
      case c5 => have := hkept.size; simp; omega
      intro v' w2 hown2 hgrow _
      have R1 : Own w2 w.heap.size v' (l ++ List.replicate (k + 1) 0) := by
        unfold Own
        have e : (l ++ List.replicate (k + 1) (0 : Int)).length = n + 1 := by rw [← HN.out]; simp; omega
        rw [e, List.replicate_succ', List.map_append, List.map_append, List.map_replicate]
        exact hown2
      have R2 : Kept w w2 := (Below.alloc hkept hkept.size _).grown hgrow (by have := hkept.size; simp; omega) (fun j e => (hown'.lt j e).1)
      have R3 : ∃ A' C', v' = .slice A' (n + 1) C' := by
        rcases hown2.2 with ⟨_, hv⟩ | ⟨g, cap, cur, hv, _⟩
        · omega
        · exact ⟨_, _, hv⟩
      obtain ⟨A', C', rfl⟩ := R3
      clear hown2 hgrow hown' hkept
      go_wp2
      go_roundw
      case rel => exact ⟨k + 1, by omega, R1, R2⟩
      case measure => have := HN.out; simp; omega
    · obtain rfl : k = padK l.length m := by omega
      have hq : ((n : Nat) : Int) % (m : Int) = 0 := by
        have := padK_mod (len := l.length) hm0
        rw [hn1] at this
        omega
      have hown2 : Own wr w.heap.size (.slice A n C) (l ++ List.replicate (padK l.length m) 0) := by
        unfold Own
        rw [show (l ++ List.replicate (padK l.length m) (0 : Int)).length = n by rw [← hn1]; simp]
        exact hown'
      clear hn1 hown'
      go_wp2
      go_ret
      exact ⟨_, rfl, hown2, hkept⟩

/-- What the document's own Pad gives. -/
theorem rpad_walk (a : Option Addr) (cap : Nat) (m : Int) (l : List Int) (w : World) (hl : l.length ≤ 1000000) (hb : Byt w a l) (hnil : a = none → l.length = 0 ∧ cap = 0) :
    Calls Try.prog 15 #[.slice a l.length cap, .int .i64 m] w fun e w' => ∃ v, e = .returned (.tuple #[v, .int .i64 (padE m)]) ∧ Own w' w.heap.size v (padL l m) ∧ Kept w w' := by
  cases hm : muB m
  · rw [(pad_2 (l := l) hm).1, (pad_2 (l := l) hm).2]
    have h := of_decide_eq_false hm
    by_cases h1 : m < 1
    · go_enter Try.func15, Try.ntmps15
      go_wp2
      go_ret2
      exact ⟨_, rfl, Own.nil _ _, Kept.refl _⟩
    · have h2 : 4096 < m := by omega
      clear h
      go_enter Try.func15, Try.ntmps15
      go_wp2
      go_ret2
      exact ⟨_, rfl, Own.nil _ _, Kept.refl _⟩
  · rw [(pad_0 (l := l) hm).1, (pad_0 (l := l) hm).2]
    obtain ⟨h0, h1⟩ := of_decide_eq_true hm
    have e : ((m.toNat : Nat) : Int) = m := by omega
    have hp := padded_walk a cap m.toNat l w hl (by omega) (by omega) hb hnil
    rw [e] at hp
    clear e
    go_enter Try.func15, Try.ntmps15
    go_wp2_with (go_at_call 22; refine hp.mono ?_; rintro e w1 ⟨v, rfl, hown, hk⟩)
    go_ret2
    exact ⟨_, rfl, hown, hk⟩
end Go.Proofs.Ytjaeidmbeidhlaa
