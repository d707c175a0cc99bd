/- Proved: the law BitsSign of the package quoinlaw01 returns true for every two arguments: Sign undoes cutting off, just if the number fits. No conditions. -/
import Derived.Test.YthoeoemeejoaaaaRows
import Derived.WalkKit
import Derived.ProofKit
import Derived.OpenShut
import Derived.ShutString
import Derived.Test.YthoeoemeejoaaaaUni
namespace Go.Proofs.Ythoeoemeejoaaaa.bitsSign
open Go.ChangeShapes Go.WideShapes Go.ChangeAt Go.RowKit
open Go.ChangeMaps (open_string shut_string)
set_option linter.unusedVariables false

theorem own : ownKnob Try.prog.godebug = none := by kernel_rfl

/-! ### THE PLAIN FACTS: no Go in sight -/
theorem cut_num (x : Int) (n : Nat) (h : n ≤ 32) : x % 4294967296 * 2 ^ (32 - n) % 4294967296 / 2 ^ (32 - n) = x % 2 ^ n := by
  have e : (4294967296 : Int) = 2 ^ n * 2 ^ (32 - n) := by
    rw [← Int.pow_add, show n + (32 - n) = 32 by omega]; rfl
  have pb := two_pow_pos' (32 - n)
  have e2 : x % 4294967296 * 2 ^ (32 - n) % 4294967296 = x % 2 ^ n * 2 ^ (32 - n) := by
    have e3 : x % 4294967296 % 2 ^ n = x % 2 ^ n := Int.emod_emod_of_dvd x ⟨2 ^ (32 - n), e⟩
    rw [← e3]
    generalize x % 4294967296 = y
    rw [e, Int.mul_comm y, Int.mul_comm (2 ^ n), Int.mul_emod_mul_of_pos _ _ pb, Int.mul_comm]
  rw [e2, Int.mul_ediv_cancel _ (by omega)]

theorem undoes (x : Int) (n : Nat) (h1 : 1 ≤ n) (h2 : n ≤ 32) : signOk (x % 2 ^ n) n = true ∧ (signV (x % 2 ^ n) n == x) = fitsB x n := by
  have pn := two_pow_pos' n
  have ph := two_pow_pos' (n - 1)
  have e := two_pow_half h1
  have r0 := Int.emod_nonneg x (b := 2 ^ n) (by omega)
  have r1 := Int.emod_lt_of_pos x pn
  have hok : signOk (x % 2 ^ n) n = true := by
    simp only [signOk, Bool.and_eq_true, decide_eq_true_eq, Int.toNat_natCast]
    omega
  refine ⟨hok, ?_⟩
  have hN : (1 : Int) ≤ n ∧ (n : Int) ≤ 63 := by omega
  rw [Bool.eq_iff_iff]
  simp only [signV, hok, if_true, fitsB, Int.toNat_natCast, beq_iff_eq, decide_eq_true_eq]
  constructor
  · intro hx
    split at hx <;> omega
  · rintro ⟨-, -, l, u⟩
    by_cases hx : 0 ≤ x
    · have : x % 2 ^ n = x := Int.emod_eq_of_lt hx (by omega)
      rw [this, if_pos (by omega)]
    · have : x % 2 ^ n = x + 2 ^ n := by
        rw [← Int.add_emod_right, Int.emod_eq_of_lt (by omega) (by omega)]
      rw [this, if_neg (by omega)]
      omega

theorem sign_cut (x : Int) (n : Nat) (h1 : 1 ≤ n) (h2 : n ≤ 32) (w : World) :
    Calls Try.prog 12 #[.int .u32 (x % 4294967296 * 2 ^ (32 - n) % 4294967296 / 2 ^ (32 - n)), .int .i64 n] w fun e w' => e = .returned (.tuple #[.int .i64 (signV (x % 2 ^ n) n), .int .i64 0]) ∧ ∃ m, w' = w.drewN m := by
  have pn := two_pow_pos' n
  have p3 := pow_le32 h2
  have r1 := Int.emod_lt_of_pos x pn
  have h := sign_u (x % 2 ^ n) n (Int.emod_nonneg x (by omega)) (by omega) w
  rw [(undoes x n h1 h2).1] at h
  rw [cut_num x n h2]
  exact h

/-! ### STEP 1: THE WALK: the Go text returns true. 'Grown w w'': the world has at most new blocks (Derived/RowKit3.lean). Part the cases AHEAD of 'go_enter' where a test parts the walk; take each callee by a contract of your own. -/
theorem walk (a0 : Int) (a1 : Int) (w0 : (Lit.int .i64 a0).wf = true) (w1 : (Lit.int .i64 a1).wf = true) (w : World) :
    Calls Try.prog 8 #[.int .i64 a0, .int .i64 a1] w fun e w' => e = .returned (.bool true) ∧ Grown w w' := by
  obtain ⟨x0, x1⟩ := bounds_i64 w0
  clear w0 w1
  by_cases hn : 1 ≤ a1 ∧ a1 ≤ 32
  · obtain ⟨n, rfl⟩ : ∃ k : Nat, a1 = k := ⟨a1.toNat, by omega⟩
    have hc := sign_cut a0 n (by omega) (by omega)
    have hu := (undoes a0 n (by omega) (by omega)).2
    generalize signV (a0 % 2 ^ n) n = S at *
    go_enter Try.func8, Try.ntmps8
    go_wp2_with (first
      | (go_at_call 13; refine (alive_walk _).mono ?_; rintro e w' ⟨rfl, m, rfl⟩)
      | (go_at_call 12; refine (hc _).mono ?_; rintro e w' ⟨rfl, m, rfl⟩)
      | (go_at_call 14; refine (fits_walk _ _ _).mono ?_; rintro e w' ⟨rfl, rfl⟩))
    go_ret
    exact ⟨rfl, grown_drewN _ _⟩
  · by_cases h1 : a1 < 1
    · go_enter Try.func8, Try.ntmps8
      go_wp2_with (first
        | (go_at_call 13; refine (alive_walk _).mono ?_; rintro e w' ⟨rfl, m, rfl⟩))
      go_ret
      exact ⟨rfl, grown_drewN _ _⟩
    · have h2 : 32 < a1 := by omega
      clear hn
      go_enter Try.func8, Try.ntmps8
      go_wp2_with (first
        | (go_at_call 13; refine (alive_walk _).mono ?_; rintro e w' ⟨rfl, m, rfl⟩))
      go_ret
      exact ⟨rfl, grown_drewN _ _⟩

/-! ### THE ROW's STEP: WRITTEN OUT: LEAVE IT -/
set_option maxRecDepth 100000 in
theorem lifted (os : Os) (started : os.Started) (H : Type) (enc : TypeId × Value → H) :
    ReturnsInHanded {} Try.checked os 8 .any (Rows.bitsSignSpec.pre6 enc Try.prog Try.f8 Rows.bitsSignRow.domain false) (Rows.bitsSignSpec.post enc Try.prog Try.f8 false true false false) := by
  refine returnsInHanded_of_change (C := Try.checked) own started (by kernel_rfl) Try.func8
    (ChangeSpec.witness6 (enc := enc) (C := Try.checked) false ⟨#[], #[.int .i64 0, .int .i64 0], []⟩ 8 (by kernel_rfl) (by kernel_rfl) (by kernel_rfl) (by kernel_rfl)) ?_
  intro W base args ds gs before hval0 hW hcnd _
  have hval : ∀ (j : Nat) t v, Try.f8.params[j]? = some t → args[j]? = some v → Value.okWide Try.prog W .any base t v := hval0
  have hW' := hW
  obtain ⟨p, q, hA0, hV, rfl, hfz, hnd⟩ := hW
  have hA : DataW.TrodAll enc Try.prog W 0 (fun _ => true) true Try.f8.params.toList args.toList ds p := hA0
  rw [Try.params8] at hA hval
  obtain ⟨v0, vs0, d0, ds0, p0, q0, hargs, rfl, rfl, h0, r0⟩ := trodAll_cons hA
  obtain ⟨v1, vs1, d1, ds1, p1, q1, rfl, rfl, rfl, h1, r1⟩ := trodAll_cons r0
  obtain ⟨rfl, rfl, rfl⟩ := trodAll_nil r1
  obtain rfl : args = #[v0, v1] := by cases args; simp_all
  obtain ⟨rfl, rfl⟩ := trodVars_none hV
  obtain ⟨a0, rfl, rfl, rfl, w0⟩ := open_int Try.underlying3 (hval 0 3 v0 rfl rfl) h0
  obtain ⟨a1, rfl, rfl, rfl, w1⟩ := open_int Try.underlying3 (hval 1 3 v1 rfl rfl) h1
  clear hA0 hval0
  simp only [List.append_nil] at hW'
  refine (walk a0 a1 w0 w1 W).mono fun e W' ⟨he, hg⟩ => ?_
  subst he
  exact ⟨_, rfl, post_of_same (pa := []) (pv := []) hW' (fun _ _ _ => (trodAll_cons_mk (shut_bool Try.underlying4 _) trodAll_mk0)) (fun sp _ => (trodAll_cons_mk (shut_int Try.underlying3 w0) (trodAll_cons_mk (shut_int Try.underlying3 w1) trodAll_mk0))) (fun _ _ => rfl) rfl
    (hg.frame _) hg.2.1 (ok_one (by kernel_rfl) rfl (okWide_bool_mk Try.underlying4 _))⟩

theorem over : Rows.bitsSignRow.holds Try.pinned (OpenSpec.ofChange Rows.bitsSignSpec) :=
  OpenClaim.holds_of_wide 8 Try.f8 rfl rfl rfl rfl rfl rfl rfl ⟨rfl, rfl, rfl, rfl, rfl⟩ rfl rfl rfl rfl rfl (by kernel_rfl) Try.func8 (by kernel_rfl)
    (of_decide_eq_true (by kernel_rfl)) (by unfold Func.isWrapper; first | (rw [if_pos (by decide +kernel)]; kernel_rfl) | (rw [if_neg (by decide +kernel)]; exact ⟨rfl, rfl⟩))
    (fun os started H enc _ => lifted os started H enc)

/-- THE STATEMENT -/
theorem proved : Rows.BitsSignSaid :=
  over
end Go.Proofs.Ythoeoemeejoaaaa.bitsSign

namespace Go.Proofs.Ythoeoemeejoaaaa
theorem bitsSign_holds : Rows.BitsSignSaid := bitsSign.proved
#print axioms bitsSign_holds
end Go.Proofs.Ythoeoemeejoaaaa
