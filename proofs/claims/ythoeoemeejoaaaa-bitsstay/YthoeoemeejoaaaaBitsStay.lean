/- Proved: the law BitsStay of the package quoinlaw01 returns true for every five arguments: what was put is taken, and all other bits stay. No conditions. -/
import Derived.Test.YthoeoemeejoaaaaRows
import Derived.WalkKit
import Derived.ProofKit
import Derived.OpenShut
import Derived.ShutString
import Derived.Test.YthoeoemeejoaaaaUni
namespace Go.Proofs.Ythoeoemeejoaaaa.bitsStay
open Go.ChangeShapes Go.WideShapes Go.ChangeAt Go.RowKit
open Go.ChangeMaps (open_string shut_string)
set_option linter.unusedVariables false

theorem own : ownKnob Try.prog.godebug = none := by kernel_rfl

/-! ### THE PLAIN FACTS: no Go in sight -/
theorem taken (x a n v : Nat) (hx : x < 2 ^ 32) (h : a + n ≤ 32) (hv : v < 2 ^ n) : putN x a n v / 2 ^ a % 2 ^ n = v := by
  refine Nat.eq_of_testBit_eq fun i => ?_
  rw [Nat.testBit_mod_two_pow, Nat.testBit_div_two_pow, putN_bit x a n v hx h hv]
  by_cases hi : i < n
  · have : a ≤ i + a ∧ i + a < a + n := by omega
    simp [hi, this]
  · have : v.testBit i = false := Nat.testBit_lt_two_pow (Nat.lt_of_lt_of_le hv (Nat.pow_le_pow_right (by decide) (by omega)))
    simp [hi, this]

theorem stays (x a n v o : Nat) (hx : x < 2 ^ 32) (h : a + n ≤ 32) (hv : v < 2 ^ n) (ho : ¬ (a ≤ o ∧ o < a + n)) :
    putN x a n v / 2 ^ o % 2 ^ 1 = x / 2 ^ o % 2 ^ 1 := by
  refine Nat.eq_of_testBit_eq fun i => ?_
  rw [Nat.testBit_mod_two_pow, Nat.testBit_div_two_pow, Nat.testBit_mod_two_pow, Nat.testBit_div_two_pow, putN_bit x a n v hx h hv]
  by_cases hi : i < 1
  · have e : i = 0 := by omega
    subst e
    have : ¬ (a ≤ 0 + o ∧ 0 + o < a + n) := by omega
    rw [if_neg this]
  · simp [hi]

theorem cast_div (x a n : Nat) : ((x : Nat) : Int) / 2 ^ a % 2 ^ n = ((x / 2 ^ a % 2 ^ n : Nat) : Int) := by simp

/-- what is known where a field is put -/
theorem facts (x a n v : Int) (hx : 0 ≤ x) (hx2 : x < 4294967296) (hv : 0 ≤ v) (hp : putOk a n v = true) :
    0 ≤ putV x a n v ∧ putV x a n v < 4294967296 ∧ isF a n = true ∧ takeV (putV x a n v) a n = v ∧
      ∀ o, isF o 1 = true → ¬ (a ≤ o ∧ o < a + n) → takeV (putV x a n v) o 1 = takeV x o 1 := by
  have hp' := hp
  simp only [putOk, Bool.and_eq_true, decide_eq_true_eq] at hp'
  obtain ⟨hf, hs⟩ := hp'
  have hb := isF_true hf
  obtain ⟨x, rfl⟩ : ∃ k : Nat, x = k := ⟨x.toNat, by omega⟩
  obtain ⟨a, rfl⟩ : ∃ k : Nat, a = k := ⟨a.toNat, by omega⟩
  obtain ⟨n, rfl⟩ : ∃ k : Nat, n = k := ⟨n.toNat, by omega⟩
  obtain ⟨v, rfl⟩ : ∃ k : Nat, v = k := ⟨v.toNat, by omega⟩
  have hs' : v < 2 ^ n := cast_lt_pow.mp (by simpa using hs)
  have e : putV x a n v = (putN x a n v : Nat) := by simp [putV, hp]
  have hlt := putN_lt x a n v (by omega) (by omega) hs'
  refine ⟨by omega, by omega, hf, ?_, ?_⟩
  · rw [e]
    simp only [takeV, hf, if_true, Int.toNat_natCast]
    rw [cast_div, taken x a n v (by omega) (by omega) hs']
  · intro o ho hout
    have hob := isF_true ho
    obtain ⟨o, rfl⟩ : ∃ k : Nat, o = k := ⟨o.toNat, by omega⟩
    rw [e]
    simp only [takeV, ho, if_true, Int.toNat_natCast]
    have e1 : (1 : Int).toNat = 1 := rfl
    rw [e1, cast_div, cast_div, stays x a n v o (by omega) (by omega) hs' (by omega)]

/-! ### STEP 1: THE WALK: the Go text returns true. 'Grown w w'': the world has at most new blocks (Derived/RowKit3.lean). Part the cases AHEAD of 'go_enter' where a test parts the walk; take each callee by a contract of your own. -/
theorem walk (a0 : Int) (a1 : Int) (a2 : Int) (a3 : Int) (a4 : Int) (w0 : (Lit.int .u32 a0).wf = true) (w1 : (Lit.int .i64 a1).wf = true) (w2 : (Lit.int .i64 a2).wf = true) (w3 : (Lit.int .u32 a3).wf = true) (w4 : (Lit.int .i64 a4).wf = true) (w : World) :
    Calls Try.prog 6 #[.int .u32 a0, .int .i64 a1, .int .i64 a2, .int .u32 a3, .int .i64 a4] w fun e w' => e = .returned (.bool true) ∧ Grown w w' := by
  obtain ⟨x0, x1⟩ : 0 ≤ a0 ∧ a0 < 4294967296 := wf_u32 w0
  obtain ⟨v0, v1⟩ : 0 ≤ a3 ∧ a3 < 4294967296 := wf_u32 w3
  clear w0 w1 w2 w3 w4
  cases hp : putOk a1 a2 a3 with
  | false =>
    have hput := fun w => put_u a0 a1 a2 a3 x0 x1 v0 w
    simp only [putV, hp, okE] at hput
    clear x0 x1 v0 v1 hp
    go_enter Try.func6, Try.ntmps6
    go_wp2_with (first
      | (go_at_call 13; refine (alive_walk _).mono ?_; rintro e w' ⟨rfl, m, rfl⟩)
      | (go_at_call 16; refine (hput _).mono ?_; rintro e w' ⟨rfl, m, rfl⟩))
    go_ret
    exact ⟨rfl, grown_drewN _ _⟩
  | true =>
    obtain ⟨p0, p1, hf, ht, hs⟩ := facts a0 a1 a2 a3 x0 x1 v0 hp
    have hb := isF_true hf
    have hput := fun w => put_u a0 a1 a2 a3 x0 x1 v0 w
    simp only [hp, okE, if_true] at hput
    generalize putV a0 a1 a2 a3 = P at *
    have htk := fun w => take_u P a1 a2 p0 p1 w
    simp only [hf, okE, if_true, ht] at htk
    have hta := fun w => take_u a0 a4 1 x0 x1 w
    have htb := fun w => take_u P a4 1 p0 p1 w
    have hs4 := hs a4
    clear hs ht hf hp
    cases ho : isF a4 1 with
    | false =>
      simp only [ho, okE] at hta htb
      generalize takeV a0 a4 1 = A at *
      generalize takeV P a4 1 = B at *
      clear ho hs4 x0 x1 v0 v1 p0 p1
      go_enter Try.func6, Try.ntmps6
      go_wp2_with (first
        | (go_at_call 13; refine (alive_walk _).mono ?_; rintro e w' ⟨rfl, m, rfl⟩)
        | (go_at_call 16; refine (hput _).mono ?_; rintro e w' ⟨rfl, m, rfl⟩)
        | (go_at_call_of 11 (Value.int .u32 a0); refine (hta _).mono ?_; rintro e w' ⟨rfl, m, rfl⟩)
        | (go_at_call_of 11 (Value.int .i64 a2); refine (htk _).mono ?_; rintro e w' ⟨rfl, m, rfl⟩)
        | (go_at_call_of 11 (Value.int .u32 P); refine (htb _).mono ?_; rintro e w' ⟨rfl, m, rfl⟩))
      all_goals (go_ret; exact ⟨rfl, grown_drewN _ _⟩)
    | true =>
      simp only [ho, okE, if_true] at hta htb
      by_cases hin : a1 ≤ a4 ∧ a4 < a1 + a2
      · obtain ⟨hi1, hi2⟩ := hin
        generalize takeV a0 a4 1 = A at *
        generalize takeV P a4 1 = B at *
        clear ho hs4 x0 x1 v0 v1 p0 p1
        go_enter Try.func6, Try.ntmps6
        go_wp2_with (first
          | (go_at_call 13; refine (alive_walk _).mono ?_; rintro e w' ⟨rfl, m, rfl⟩)
          | (go_at_call 16; refine (hput _).mono ?_; rintro e w' ⟨rfl, m, rfl⟩)
          | (go_at_call_of 11 (Value.int .u32 a0); refine (hta _).mono ?_; rintro e w' ⟨rfl, m, rfl⟩)
          | (go_at_call_of 11 (Value.int .i64 a2); refine (htk _).mono ?_; rintro e w' ⟨rfl, m, rfl⟩)
          | (go_at_call_of 11 (Value.int .u32 P); refine (htb _).mono ?_; rintro e w' ⟨rfl, m, rfl⟩))
        all_goals (go_ret; exact ⟨rfl, grown_drewN _ _⟩)
      · rw [hs4 ho hin] at htb
        generalize takeV a0 a4 1 = A at *
        have hins : a1 ≤ a4 → a1 + a2 ≤ a4 := by omega
        clear ho hs4 x0 x1 v0 v1 p0 p1 hin
        go_enter Try.func6, Try.ntmps6
        go_wp2_with (first
          | (go_at_call 13; refine (alive_walk _).mono ?_; rintro e w' ⟨rfl, m, rfl⟩)
          | (go_at_call 16; refine (hput _).mono ?_; rintro e w' ⟨rfl, m, rfl⟩)
          | (go_at_call_of 11 (Value.int .u32 a0); refine (hta _).mono ?_; rintro e w' ⟨rfl, m, rfl⟩)
          | (go_at_call_of 11 (Value.int .i64 a2); refine (htk _).mono ?_; rintro e w' ⟨rfl, m, rfl⟩)
          | (go_at_call_of 11 (Value.int .u32 P); refine (htb _).mono ?_; rintro e w' ⟨rfl, m, rfl⟩))
        all_goals (go_ret; exact ⟨rfl, grown_drewN _ _⟩)

/-! ### THE ROW's STEP: WRITTEN OUT: LEAVE IT -/
set_option maxRecDepth 100000 in
theorem lifted (os : Os) (started : os.Started) (H : Type) (enc : TypeId × Value → H) :
    ReturnsInHanded {} Try.checked os 6 .any (Rows.bitsStaySpec.pre6 enc Try.prog Try.f6 Rows.bitsStayRow.domain false) (Rows.bitsStaySpec.post enc Try.prog Try.f6 false true false false) := by
  refine returnsInHanded_of_change (C := Try.checked) own started (by kernel_rfl) Try.func6
    (ChangeSpec.witness6 (enc := enc) (C := Try.checked) false ⟨#[], #[.int .u32 0, .int .i64 0, .int .i64 0, .int .u32 0, .int .i64 0], []⟩ 8 (by kernel_rfl) (by kernel_rfl) (by kernel_rfl) (by kernel_rfl)) ?_
  intro W base args ds gs before hval0 hW hcnd _
  have hval : ∀ (j : Nat) t v, Try.f6.params[j]? = some t → args[j]? = some v → Value.okWide Try.prog W .any base t v := hval0
  have hW' := hW
  obtain ⟨p, q, hA0, hV, rfl, hfz, hnd⟩ := hW
  have hA : DataW.TrodAll enc Try.prog W 0 (fun _ => true) true Try.f6.params.toList args.toList ds p := hA0
  rw [Try.params6] at hA hval
  obtain ⟨v0, vs0, d0, ds0, p0, q0, hargs, rfl, rfl, h0, r0⟩ := trodAll_cons hA
  obtain ⟨v1, vs1, d1, ds1, p1, q1, rfl, rfl, rfl, h1, r1⟩ := trodAll_cons r0
  obtain ⟨v2, vs2, d2, ds2, p2, q2, rfl, rfl, rfl, h2, r2⟩ := trodAll_cons r1
  obtain ⟨v3, vs3, d3, ds3, p3, q3, rfl, rfl, rfl, h3, r3⟩ := trodAll_cons r2
  obtain ⟨v4, vs4, d4, ds4, p4, q4, rfl, rfl, rfl, h4, r4⟩ := trodAll_cons r3
  obtain ⟨rfl, rfl, rfl⟩ := trodAll_nil r4
  obtain rfl : args = #[v0, v1, v2, v3, v4] := by cases args; simp_all
  obtain ⟨rfl, rfl⟩ := trodVars_none hV
  obtain ⟨a0, rfl, rfl, rfl, w0⟩ := open_int Try.underlying23 (hval 0 23 v0 rfl rfl) h0
  obtain ⟨a1, rfl, rfl, rfl, w1⟩ := open_int Try.underlying3 (hval 1 3 v1 rfl rfl) h1
  obtain ⟨a2, rfl, rfl, rfl, w2⟩ := open_int Try.underlying3 (hval 2 3 v2 rfl rfl) h2
  obtain ⟨a3, rfl, rfl, rfl, w3⟩ := open_int Try.underlying23 (hval 3 23 v3 rfl rfl) h3
  obtain ⟨a4, rfl, rfl, rfl, w4⟩ := open_int Try.underlying3 (hval 4 3 v4 rfl rfl) h4
  clear hA0 hval0
  simp only [List.append_nil] at hW'
  refine (walk a0 a1 a2 a3 a4 w0 w1 w2 w3 w4 W).mono fun e W' ⟨he, hg⟩ => ?_
  subst he
  exact ⟨_, rfl, post_of_same (pa := []) (pv := []) hW' (fun _ _ _ => (trodAll_cons_mk (shut_bool Try.underlying4 _) trodAll_mk0)) (fun sp _ => (trodAll_cons_mk (shut_int Try.underlying23 w0) (trodAll_cons_mk (shut_int Try.underlying3 w1) (trodAll_cons_mk (shut_int Try.underlying3 w2) (trodAll_cons_mk (shut_int Try.underlying23 w3) (trodAll_cons_mk (shut_int Try.underlying3 w4) trodAll_mk0)))))) (fun _ _ => rfl) rfl
    (hg.frame _) hg.2.1 (ok_one (by kernel_rfl) rfl (okWide_bool_mk Try.underlying4 _))⟩

theorem over : Rows.bitsStayRow.holds Try.pinned (OpenSpec.ofChange Rows.bitsStaySpec) :=
  OpenClaim.holds_of_wide 6 Try.f6 rfl rfl rfl rfl rfl rfl rfl ⟨rfl, rfl, rfl, rfl, rfl⟩ rfl rfl rfl rfl rfl (by kernel_rfl) Try.func6 (by kernel_rfl)
    (of_decide_eq_true (by kernel_rfl)) (by unfold Func.isWrapper; first | (rw [if_pos (by decide +kernel)]; kernel_rfl) | (rw [if_neg (by decide +kernel)]; exact ⟨rfl, rfl⟩))
    (fun os started H enc _ => lifted os started H enc)

/-- THE STATEMENT -/
theorem proved : Rows.BitsStaySaid :=
  over
end Go.Proofs.Ythoeoemeejoaaaa.bitsStay

namespace Go.Proofs.Ythoeoemeejoaaaa
theorem bitsStay_holds : Rows.BitsStaySaid := bitsStay.proved
#print axioms bitsStay_holds
end Go.Proofs.Ythoeoemeejoaaaa
