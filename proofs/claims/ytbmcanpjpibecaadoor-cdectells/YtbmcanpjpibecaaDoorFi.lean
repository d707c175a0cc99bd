/- May a number be a row's, by the document. -/
import Derived.Test.YtbmcanpjpibecaaDoorRs
namespace Go.Proofs.YtbmcanpjpibecaaDoor
open Go.RowKit
/-- May a number be a row's? -/
def kindB (kd : UInt8) (n v r : Int) : Bool :=

  if kd = 48 then (n == 0) else
  if kd = 108 then (decide (1 ≤ n) && decide (n ≤ 31) || decide (1048544 ≤ n) && decide (n ≤ 1048575)) else
  if kd = 112 then (decide (1 ≤ v) && decide (v < r)) else
  if kd = 117 then (decide (0 ≤ v) && decide (v < r)) else
  if kd = 110 then ((v != 0) && decide (-r ≤ 2 * v) && decide (2 * v < r)) else
  (decide (-r ≤ 2 * v) && decide (2 * v < r))

def cfitsB (kd : UInt8) (by_ : Int) (len : Nat) (n : Int) : Bool := (n.tmod by_ == 0) && kindB kd n (n.tdiv by_) (2 ^ len)
theorem tdiv_small {n b : Int} (_hb : 1 ≤ b) (hn : -1048576 ≤ n ∧ n ≤ 1048575) : -1048576 ≤ n.tdiv b ∧ n.tdiv b ≤ 1048576 := by
  have h := Int.natAbs_tdiv_le_natAbs n b
  omega
theorem room_small {len : Nat} (h : len ≤ 11) : 1 ≤ (2 : Int) ^ len ∧ (2 : Int) ^ len ≤ 2048 := by
  have h1 := two_pow_pos' len
  have h2 := two_pow_le' (b := 11) h
  omega
theorem bne_of_beq {a b : Int} {c : Bool} (h : (a == b) = c) : (a != b) = !c := by rw [bne, h]

set_option maxRecDepth 20000 in
set_option maxHeartbeats 3200000 in
theorem fits_48 (nv fv : ByteArray) (bv by_ : Int) (a : Option Addr) (len cap : Nat) (n : Int) (hl : len ≤ 11) (hb : 1 ≤ by_ ∧ by_ ≤ 16) (hn : -1048576 ≤ n ∧ n ≤ 1048575) (w : World) (v r : Int) (hv : n.tdiv by_ = v) (hr : (2 : Int) ^ len = r) :
    Calls Tryd.prog 45 #[.agg #[.string nv, .int .i64 bv, .string fv, .string ⟨#[48]⟩, .int .i64 by_, .slice a len cap], .int .i64 n] w fun e w' => e = .returned (.bool ((n.tmod by_ == 0) && (n == 0))) ∧ Kept w w' := by
  have h2 := fun w => two_walk_at len (by omega) w
  have hv1 : -1048576 ≤ v ∧ v ≤ 1048576 := hv ▸ tdiv_small hb.1 hn
  have hr1 : 1 ≤ r ∧ r ≤ 2048 := hr ▸ room_small hl
  rw [hr] at h2
  cases h0 : (n.tmod by_ == 0) <;> cases q : (n == 0)
  all_goals
    have h0' := bne_of_beq h0
    simp only [Bool.not_false, Bool.not_true] at h0'
    first
    | (exfalso; omega)
    | as_aux_lemma =>
      go_enter Tryd.func45, Tryd.ntmps45
      go_wp2_with (go_at_call 55; refine (h2 _).mono ?_; rintro e w' ⟨rfl, rfl⟩)
      go_ret
      refine ⟨congrArg Ending.returned (congrArg Value.bool ?_), Kept.alloc _ _⟩
      simp <;> omega

set_option maxRecDepth 20000 in
set_option maxHeartbeats 3200000 in
theorem fits_108 (nv fv : ByteArray) (bv by_ : Int) (a : Option Addr) (len cap : Nat) (n : Int) (hl : len ≤ 11) (hb : 1 ≤ by_ ∧ by_ ≤ 16) (hn : -1048576 ≤ n ∧ n ≤ 1048575) (w : World) (v r : Int) (hv : n.tdiv by_ = v) (hr : (2 : Int) ^ len = r) :
    Calls Tryd.prog 45 #[.agg #[.string nv, .int .i64 bv, .string fv, .string ⟨#[108]⟩, .int .i64 by_, .slice a len cap], .int .i64 n] w fun e w' => e = .returned (.bool ((n.tmod by_ == 0) && (decide (1 ≤ n) && decide (n ≤ 31) || decide (1048544 ≤ n) && decide (n ≤ 1048575)))) ∧ Kept w w' := by
  have h2 := fun w => two_walk_at len (by omega) w
  have hv1 : -1048576 ≤ v ∧ v ≤ 1048576 := hv ▸ tdiv_small hb.1 hn
  have hr1 : 1 ≤ r ∧ r ≤ 2048 := hr ▸ room_small hl
  rw [hr] at h2
  have e3 : decide (n ≤ 1048575) = true := decide_eq_true (by omega)
  rcases (by omega : n < 1 ∨ (1 ≤ n ∧ n ≤ 31) ∨ (32 ≤ n ∧ n < 1048544) ∨ 1048544 ≤ n) with hc | hc | hc | hc
  all_goals
    first
    | (have e0 : decide (1 ≤ n) = true := decide_eq_true (by omega); rw [e0])
    | (have e0 : decide (1 ≤ n) = false := decide_eq_false (by omega); rw [e0])
    first
    | (have e1 : decide (n ≤ 31) = true := decide_eq_true (by omega); rw [e1])
    | (have e1 : decide (n ≤ 31) = false := decide_eq_false (by omega); rw [e1])
    first
    | (have e2 : decide (1048544 ≤ n) = true := decide_eq_true (by omega); rw [e2])
    | (have e2 : decide (1048544 ≤ n) = false := decide_eq_false (by omega); rw [e2])
    rw [e3]
    cases h0 : (n.tmod by_ == 0)
    all_goals
      have h0' := bne_of_beq h0
      simp only [Bool.not_false, Bool.not_true] at h0'
      have h9 := h0'
      try rw [Int.tmod_eq_emod_of_nonneg (by omega)] at h9
      as_aux_lemma =>
        go_enter Tryd.func45, Tryd.ntmps45
        go_wp2_with (go_at_call 55; refine (h2 _).mono ?_; rintro e w' ⟨rfl, rfl⟩)
        all_goals
          go_ret
          refine ⟨congrArg Ending.returned (congrArg Value.bool ?_), Kept.alloc _ _⟩
          first
          | rfl
          | exact decide_eq_true (by omega)
          | exact decide_eq_false (by omega)

set_option maxRecDepth 20000 in
set_option maxHeartbeats 3200000 in
theorem fits_112 (nv fv : ByteArray) (bv by_ : Int) (a : Option Addr) (len cap : Nat) (n : Int) (hl : len ≤ 11) (hb : 1 ≤ by_ ∧ by_ ≤ 16) (hn : -1048576 ≤ n ∧ n ≤ 1048575) (w : World) (v r : Int) (hv : n.tdiv by_ = v) (hr : (2 : Int) ^ len = r) :
    Calls Tryd.prog 45 #[.agg #[.string nv, .int .i64 bv, .string fv, .string ⟨#[112]⟩, .int .i64 by_, .slice a len cap], .int .i64 n] w fun e w' => e = .returned (.bool ((n.tmod by_ == 0) && (decide (1 ≤ v) && decide (v < r)))) ∧ Kept w w' := by
  have h2 := fun w => two_walk_at len (by omega) w
  have hv1 : -1048576 ≤ v ∧ v ≤ 1048576 := hv ▸ tdiv_small hb.1 hn
  have hr1 : 1 ≤ r ∧ r ≤ 2048 := hr ▸ room_small hl
  rw [hr] at h2
  cases h0 : (n.tmod by_ == 0) <;> by_cases p0 : 1 ≤ v <;> by_cases p1 : v < r
  all_goals
    have h0' := bne_of_beq h0
    simp only [Bool.not_false, Bool.not_true] at h0'
    first
    | (exfalso; omega)
    | as_aux_lemma =>
      go_enter Tryd.func45, Tryd.ntmps45
      go_wp2_with (go_at_call 55; refine (h2 _).mono ?_; rintro e w' ⟨rfl, rfl⟩)
      go_ret
      refine ⟨congrArg Ending.returned (congrArg Value.bool ?_), Kept.alloc _ _⟩
      simp [p0, p1] <;> omega

set_option maxRecDepth 20000 in
set_option maxHeartbeats 3200000 in
theorem fits_117 (nv fv : ByteArray) (bv by_ : Int) (a : Option Addr) (len cap : Nat) (n : Int) (hl : len ≤ 11) (hb : 1 ≤ by_ ∧ by_ ≤ 16) (hn : -1048576 ≤ n ∧ n ≤ 1048575) (w : World) (v r : Int) (hv : n.tdiv by_ = v) (hr : (2 : Int) ^ len = r) :
    Calls Tryd.prog 45 #[.agg #[.string nv, .int .i64 bv, .string fv, .string ⟨#[117]⟩, .int .i64 by_, .slice a len cap], .int .i64 n] w fun e w' => e = .returned (.bool ((n.tmod by_ == 0) && (decide (0 ≤ v) && decide (v < r)))) ∧ Kept w w' := by
  have h2 := fun w => two_walk_at len (by omega) w
  have hv1 : -1048576 ≤ v ∧ v ≤ 1048576 := hv ▸ tdiv_small hb.1 hn
  have hr1 : 1 ≤ r ∧ r ≤ 2048 := hr ▸ room_small hl
  rw [hr] at h2
  cases h0 : (n.tmod by_ == 0) <;> by_cases p0 : 0 ≤ v <;> by_cases p1 : v < r
  all_goals
    have h0' := bne_of_beq h0
    simp only [Bool.not_false, Bool.not_true] at h0'
    first
    | (exfalso; omega)
    | as_aux_lemma =>
      go_enter Tryd.func45, Tryd.ntmps45
      go_wp2_with (go_at_call 55; refine (h2 _).mono ?_; rintro e w' ⟨rfl, rfl⟩)
      go_ret
      refine ⟨congrArg Ending.returned (congrArg Value.bool ?_), Kept.alloc _ _⟩
      simp [p0, p1] <;> omega

set_option maxRecDepth 20000 in
set_option maxHeartbeats 3200000 in
theorem fits_110 (nv fv : ByteArray) (bv by_ : Int) (a : Option Addr) (len cap : Nat) (n : Int) (hl : len ≤ 11) (hb : 1 ≤ by_ ∧ by_ ≤ 16) (hn : -1048576 ≤ n ∧ n ≤ 1048575) (w : World) (v r : Int) (hv : n.tdiv by_ = v) (hr : (2 : Int) ^ len = r) :
    Calls Tryd.prog 45 #[.agg #[.string nv, .int .i64 bv, .string fv, .string ⟨#[110]⟩, .int .i64 by_, .slice a len cap], .int .i64 n] w fun e w' => e = .returned (.bool ((n.tmod by_ == 0) && ((v != 0) && decide (-r ≤ 2 * v) && decide (2 * v < r)))) ∧ Kept w w' := by
  have h2 := fun w => two_walk_at len (by omega) w
  have hv1 : -1048576 ≤ v ∧ v ≤ 1048576 := hv ▸ tdiv_small hb.1 hn
  have hr1 : 1 ≤ r ∧ r ≤ 2048 := hr ▸ room_small hl
  rw [hr] at h2
  cases h0 : (n.tmod by_ == 0) <;> cases q : (v != 0) <;> by_cases p0 : -r ≤ 2 * v <;> by_cases p1 : 2 * v < r
  all_goals
    have h0' := bne_of_beq h0
    simp only [Bool.not_false, Bool.not_true] at h0'
    first
    | (exfalso; omega)
    | as_aux_lemma =>
      go_enter Tryd.func45, Tryd.ntmps45
      go_wp2_with (go_at_call 55; refine (h2 _).mono ?_; rintro e w' ⟨rfl, rfl⟩)
      go_ret
      refine ⟨congrArg Ending.returned (congrArg Value.bool ?_), Kept.alloc _ _⟩
      simp [p0, p1] <;> omega

set_option maxRecDepth 20000 in
set_option maxHeartbeats 3200000 in
theorem fits_115 (nv fv : ByteArray) (bv by_ : Int) (a : Option Addr) (len cap : Nat) (n : Int) (hl : len ≤ 11) (hb : 1 ≤ by_ ∧ by_ ≤ 16) (hn : -1048576 ≤ n ∧ n ≤ 1048575) (w : World) (v r : Int) (hv : n.tdiv by_ = v) (hr : (2 : Int) ^ len = r) :
    Calls Tryd.prog 45 #[.agg #[.string nv, .int .i64 bv, .string fv, .string ⟨#[115]⟩, .int .i64 by_, .slice a len cap], .int .i64 n] w fun e w' => e = .returned (.bool ((n.tmod by_ == 0) && (decide (-r ≤ 2 * v) && decide (2 * v < r)))) ∧ Kept w w' := by
  have h2 := fun w => two_walk_at len (by omega) w
  have hv1 : -1048576 ≤ v ∧ v ≤ 1048576 := hv ▸ tdiv_small hb.1 hn
  have hr1 : 1 ≤ r ∧ r ≤ 2048 := hr ▸ room_small hl
  rw [hr] at h2
  cases h0 : (n.tmod by_ == 0) <;> by_cases p0 : -r ≤ 2 * v <;> by_cases p1 : 2 * v < r
  all_goals
    have h0' := bne_of_beq h0
    simp only [Bool.not_false, Bool.not_true] at h0'
    first
    | (exfalso; omega)
    | as_aux_lemma =>
      go_enter Tryd.func45, Tryd.ntmps45
      go_wp2_with (go_at_call 55; refine (h2 _).mono ?_; rintro e w' ⟨rfl, rfl⟩)
      go_ret
      refine ⟨congrArg Ending.returned (congrArg Value.bool ?_), Kept.alloc _ _⟩
      simp [p0, p1] <;> omega

end Go.Proofs.YtbmcanpjpibecaaDoor
