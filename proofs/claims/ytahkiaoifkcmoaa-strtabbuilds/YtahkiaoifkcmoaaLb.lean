/- The law StrtabBuilds, walked. -/
import Derived.Test.YtahkiaoifkcmoaaKit
import Derived.Test.YtahkiaoifkcmoaaIs
namespace Go.Proofs.Ytahkiaoifkcmoaa
open Go.RowKit

/-- 'append(s, b...)', s the call's own, b bytes that lie anywhere: nil, empty or not. -/
theorem wpList_append_byt {w : World} {ops : Array Oper} {rest : List Oper} {o : Oper} {a : Act} {Q : Exit → Act → World → Prop} (hgd : o.guard = none) (s x : Operand)
    (ho : o.op = .call { callee := .builtin .append, args := #[s, x], argTypes := #[22, 22] }) (base : Nat) (v : Value) (xs l : List Int) (ao : Option Addr) (cap : Nat)
    (hs : a.eval s = v) (hx : a.eval x = .slice ao l.length cap) (hown : Own w base v xs) (hb : Byt w ao l) (hnil : ao = none → l.length = 0 ∧ cap = 0)
    (hlen : xs.length + l.length ≤ 10000000) (w0 : World) (hbel : Below base w0 w) (hbase : base ≤ w.heap.size)
    (h : ∀ v' w', Own w' base v' (xs ++ l) → Below base w0 w' → wpList Try.prog ops Q rest (a.put o.dst v') w') : wpList Try.prog ops Q (o :: rest) a w := by
  obtain ⟨i0, hi, hz0, hz1, hz2⟩ := info_parts Try.infoByte
  cases ao with
  | none =>
    obtain ⟨h1, rfl⟩ := hnil rfl
    obtain rfl : l = [] := List.eq_nil_of_length_eq_zero h1
    exact wpList_append_own_none hgd s x 22 ho base 5 i0 1 Try.underlying22 hi v xs.length _ hs hown hx (h v w (by simpa using hown) hbel)
  | some ad =>
    refine wpList_append_own _ hgd s x 22 ho base 5 i0 (.int .u8 0) 1 1 Try.underlying22 hi hz0 hz1 hz2 rfl (by decide) v xs.length _ hs hown ad l.length cap (l.map (Value.int .u8)) hx (by simp) ?_ (ints_oneCell .u8 l) (by unfold maxLen; omega) (by omega) hbase ?_
    · intro j u hj
      have hjl : j < l.length := by simpa using (List.getElem?_eq_some_iff.1 hj).1
      rcases hb with rfl | ⟨b, off, hao, hc⟩
      · simp at hjl
      · cases hao
        have e : (⟨b, off, none⟩ : Addr).add j = ⟨b, off + j, none⟩ := by unfold Addr.add; split <;> simp_all
        rw [e, hc j hjl, ← hj]
        simp [List.getD, hjl]
    · intro v' w' h1 h2 _
      exact h v' w' (by simpa [Own] using h1) (hbel.grown h2 hbase (fun k e => (hown.lt k e).1))


theorem Own.let {w : World} {base : Nat} {v : Value} {l : List Int} (h : Own w base v l) {m : Nat} (hm : l.length = m) : ∃ a cap, v = .slice a m cap ∧ m ≤ cap ∧ Byt w a l ∧ (a = none → m = 0 ∧ cap = 0) := by
  subst hm
  exact h.all
theorem OwnI.let {w : World} {base : Nat} {v : Value} {l : List Int} (h : OwnI w base v l) {m : Nat} (hm : l.length = m) : ∃ a cap, v = .slice a m cap ∧ m ≤ cap ∧ Nums w a l := by
  subst hm
  exact h.nums
theorem str_len {w : World} {a : Option Addr} {l : List Int} {n cap : Nat} (hl : l.length = n) (hb : Byt w a l) : (convert 22 9 (.slice a n cap)).run Try.prog w = .ok (.string (strOfNums l)) w := by
  subst hl
  exact str_run w a l cap hb
theorem bld_le (ss : List ByteArray) : (bldT ss).length ≤ 65536 ∧ (bldP ss).length ≤ 1024 := by
  by_cases h : bldE ss = 0
  · obtain ⟨h1, h2, h3⟩ := bld_zero h
    obtain ⟨_, e1, e2⟩ := bld_ok h1 h2 h3
    rw [e1, e2, plcI_length]
    exact ⟨h3, h1⟩
  · simp [bldT, bldP, h]

set_option maxRecDepth 20000 in
set_option maxHeartbeats 3200000 in
theorem builds_walk (a : Option Addr) (cap n : Nat) (ss : List ByteArray) (at_ : Option Addr) (cb m : Nat) (l : List Int) (p : Int) (w : World) (hlen : ss.length = n) (hn : n ≤ maxLen) (hsz : ∀ s ∈ ss, s.size ≤ maxLen) (hS : Strs w a ss)
    (hl : l.length = m) (hr : ∀ x ∈ l, 0 ≤ x ∧ x < 256) (hcb : m ≤ cb) (hb : Byt w at_ l) (hnil : at_ = none → m = 0 ∧ cb = 0) :
    Calls Try.prog 4 #[.slice a n cap, .slice at_ m cb, .int .i64 p] w fun e w' => e = .returned (.bool true) ∧ Kept w w' := by
  have hGr := great_walk a cap n ss w hlen hn hsz hS
  by_cases hm : 70000 < m
  · go_enter Try.func4, Try.ntmps4
    go_wp2_with (go_at_call 13; refine hGr.mono ?_; rintro e w1 ⟨⟨g, rfl, hg⟩, hw1⟩; have hw2 := hw1.symm; subst hw2; clear hw1)
    all_goals go_ret; exact ⟨rfl, Kept.refl _⟩
  · have hm' : m ≤ 70000 := by omega
    clear hm
    go_enter Try.func4, Try.ntmps4
    go_upto_region 3 with (go_at_call 13; refine hGr.mono ?_; rintro e w1 ⟨⟨g, rfl, hg⟩, hw1⟩; have hw2 := hw1.symm; subst hw2; clear hw1)
    · go_ret
      exact ⟨rfl, Kept.refl _⟩
    · clear hg hGr hn
      go_upto_region 4 with (at_builtin; refine wpList_append_byt rfl _ _ rfl w.heap.size (.slice none 0 0) [] l at_ cb rfl (by rw [hl]; rfl) (Own.nil _ _) hb (by rw [hl]; exact hnil) (by simp; omega) w (Kept.refl _) (Nat.le_refl _) ?_; intro v0 w1 R0 K0)
      obtain ⟨A, CO, rfl, hCO, hbO, hnO⟩ := Own.let (l := l) (by simpa using R0) hl
      have hB1 := build_walk a cap n ss w1 hlen hsz (hS.kept K0)
      clear R0
      go_upto_region 5 with (go_at_call 10; refine hB1.mono ?_; rintro e w2 ⟨v2, p2, rfl, hv2, hp2, k2⟩)
      have K2 : Kept w w2 := Kept.trans K0 k2
      have hB2 := rbuild_walk a cap n ss w2 hlen hsz (hS.kept K2)
      clear hB1
      go_upto_region 6 with (go_at_call 14; refine hB2.mono ?_; rintro e w3 ⟨v3, p3, rfl, hv3, hp3, k3⟩)
      have K3 : Kept w w3 := K2.trans k3
      have hO3 : Byt w3 A l := (hbO.kept k2).kept k3
      have hb3 : Byt w3 at_ l := hb.kept K3
      have hG1 := get_walk A m CO l p w3 hr hl (by omega) hCO hO3
      have hG2 := rget_walk at_ m cb l p w3 hl (by omega) hcb hb3
      obtain ⟨s, hs⟩ : ∃ s, strOfNums (getS l p) = s := ⟨_, rfl⟩
      obtain ⟨r, hre⟩ : ∃ r, getR l p = r := ⟨_, rfl⟩
      rw [hs, hre] at hG1 hG2
      clear hs hre hB2
      go_upto_region 7 with (go_at_call 9; refine hG1.mono ?_; rintro e w4 ⟨rfl, hw4⟩; have hw5 := hw4.symm; subst hw5; clear hw4)
      go_upto_region 8 with (go_at_call 15; refine hG2.mono ?_; rintro e w4 ⟨rfl, hw4⟩; have hw5 := hw4.symm; subst hw5; clear hw4)
      obtain ⟨E, hE⟩ : ∃ E, bldE ss = E := ⟨_, rfl⟩
      obtain ⟨T, hT⟩ : ∃ T, bldT ss = T := ⟨_, rfl⟩
      obtain ⟨P, hP⟩ : ∃ P, bldP ss = P := ⟨_, rfl⟩
      obtain ⟨hT1, hP1⟩ := bld_le ss
      rw [hE]
      rw [hT] at hv2 hv3 hT1
      rw [hP] at hp2 hp3 hP1
      obtain ⟨nT, hnT⟩ : ∃ nT, T.length = nT := ⟨_, rfl⟩
      obtain ⟨nP, hnP⟩ : ∃ nP, P.length = nP := ⟨_, rfl⟩
      obtain ⟨a2, c2, rfl, _, b2, _⟩ := hv2.let hnT
      obtain ⟨a3, c3, rfl, _, b3, _⟩ := hv3.let hnT
      obtain ⟨q2, d2, rfl, _, r2⟩ := hp2.let hnP
      obtain ⟨q3, d3, rfl, _, r3⟩ := hp3.let hnP
      have S2 := str_len (cap := c2) hnT (b2.kept k3)
      have S3 := str_len (cap := c3) hnT b3
      have hSame := same_walk q2 q3 nP d2 d3 P w3 hnP (by omega) (r2.kept k3) r3
      obtain ⟨tt, htt⟩ : ∃ tt, strOfNums T = tt := ⟨_, rfl⟩
      obtain ⟨ll, hll⟩ : ∃ ll, strOfNums l = ll := ⟨_, rfl⟩
      rw [htt] at S2 S3
      have e1 := beq_true (rfl : tt = tt)
      have e2 := beq_true (rfl : s = s)
      have e3 := beq_true (rfl : ll = ll)
      obtain ⟨cc, hcc⟩ : ∃ cc, chkE l = cc := ⟨_, rfl⟩
      have hC1 : ∀ w', Kept w3 w' → Calls Try.prog 12 #[.slice A m CO] w' fun e w'' => e = .returned (.int .i64 cc) ∧ w'' = w' := fun w' k => by rw [← hcc]; exact check_len A m CO l w' hl (by omega) hCO (hO3.kept k)
      have hC2 : ∀ w', Kept w3 w' → Calls Try.prog 17 #[.slice at_ m cb] w' fun e w'' => e = .returned (.int .i64 cc) ∧ w'' = w' := fun w' k => by rw [← hcc]; exact rcheck_len at_ m cb l w' hl (by omega) hcb (hb3.kept k)
      have hV1 : ∀ w', Kept w3 w' → (convert 22 9 (.slice A m CO)).run Try.prog w' = .ok (.string ll) w' := fun w' k => by rw [← hll]; exact str_len hl (hO3.kept k)
      have hV2 : ∀ w', Kept w3 w' → (convert 22 9 (.slice at_ m cb)).run Try.prog w' = .ok (.string ll) w' := fun w' k => by rw [← hll]; exact str_len hl (hb3.kept k)
      clear hv2 hv3 hp2 hp3 b2 b3 r2 r3 hb3 hO3 hbO hnO hG1 hG2 hE hT hP htt hll hcc hnT hnP hb hS hsz hl hr hnil K2 k2 k3 K0
      go_wp2_with (first
        | (go_at_call 16; refine hSame.mono ?_; rintro e w7 ⟨rfl, k7⟩; have V1 := hV1 _ k7; have V2 := hV2 _ k7; have C1 := hC1 _ k7; have C2 := hC2 _ k7; clear S2 S3 hV1 hV2 hC1 hC2)
        | (go_at_call 12; refine C1.mono ?_; rintro e w8 ⟨rfl, hw8⟩; have hw9 := hw8.symm; subst hw9; clear hw8)
        | (go_at_call 17; refine C2.mono ?_; rintro e w8 ⟨rfl, hw8⟩; have hw9 := hw8.symm; subst hw9; clear hw8))
      go_ret
      exact ⟨rfl, K3.trans k7⟩
end Go.Proofs.Ytahkiaoifkcmoaa
