/- What the document's own Fixed gives. -/
import Derived.Test.YtpaeemijpincpaaDoorRHas
import Derived.Deep.DeepCutAuto
namespace Go.Proofs.YtpaeemijpincpaaDoor
open Go.RowKit

/-- Is the bit a register's? Is it among the first j places? -/
def regB (c : Int) (k : Nat) : Bool := hasRd c && decide (7 ≤ k ∧ k ≤ 11) || hasRs1 c && decide (15 ≤ k ∧ k ≤ 19) || hasRs2 c && decide (20 ≤ k ∧ k ≤ 24)
def plcB (c : Int) (k j : Nat) : Bool := (List.range j).any fun l => placeP c l == (k : Int)
theorem free_fix : ∀ c ∈ letters, ∀ k, k < 32 → (regB c k || plcB c k (plen c)) = !(fixM c).testBit k := by decide +kernel
theorem plcB_succ (c : Int) (k j : Nat) : plcB c k (j + 1) = (plcB c k j || placeP c j == (k : Int)) := by
  simp [plcB, List.range_succ, List.any_append]
theorem fix_step (M k : Nat) : M % 2 ^ (k + 1) = M % 2 ^ k + (if M.testBit k then 2 ^ k else 0) := by
  have h := Nat.mod_pow_succ (x := M) (b := 2) (k := k)
  rw [h, bit_two]
  cases M.testBit k <;> simp

theorem step_no {M k : Nat} (h : M % 2 ^ (k + 1) = M % 2 ^ k + (if false = true then 2 ^ k else 0)) : (M : Int) % 2 ^ k = ((M % 2 ^ (k + 1) : Nat) : Int) := by
  rw [h]; simp
theorem step_yes {M k : Nat} (h : M % 2 ^ (k + 1) = M % 2 ^ k + (if true = true then 2 ^ k else 0)) (hl : M % 2 ^ (k + 1) < 4294967296) : ((M : Int) % 2 ^ k + 2 ^ k) % 4294967296 = ((M % 2 ^ (k + 1) : Nat) : Int) := by
  rw [if_pos rfl] at h
  have e : (M : Int) % 2 ^ k + 2 ^ k = ((M % 2 ^ k + 2 ^ k : Nat) : Int) := by simp
  rw [e, ← h]
  omega
theorem fix_whole {c : Int} (hc : c ∈ letters) : (fixM c : Int) % 2 ^ 32 = (fixM c : Int) := by have := fix_lt c hc; omega

theorem regB_eq {c : Int} {k : Nat} {d1 d2 d3 : Bool} (h1 : hasRd c = d1) (h2 : hasRs1 c = d2) (h3 : hasRs2 c = d3) :
    regB c k = (d1 && decide (7 ≤ k ∧ k ≤ 11) || d2 && decide (15 ≤ k ∧ k ≤ 19) || d3 && decide (20 ≤ k ∧ k ≤ 24)) := by
  subst h1 h2 h3; rfl

set_option maxRecDepth 20000 in
set_option maxHeartbeats 16000000 in
theorem rfixed_yes (c : Int) (hc : c ∈ letters) (w : World) :
    Calls Tryd.prog 11 #[.int .u8 c] w fun e w' => e = .returned (.tuple #[.int .u32 (fixM c), .int .i64 0]) ∧ Kept w w' := by
  have hp : plErr c = 0 := if_pos hc
  have hn := plen_le c hc
  go_enter Tryd.func11, Tryd.ntmps11
  go_wp2_with (first
    | (go_at_call 24; refine (rplaces_walk c _).mono ?_; rintro e w1 ⟨a, cap, rfl, hC, hk1⟩)
    | (go_at_call 25; refine (has_walk c hc _).mono ?_; rintro e w2 ⟨rfl, hk2⟩))
  generalize hd : hasRd c = d1
  generalize hs : hasRs1 c = d2
  generalize ht : hasRs2 c = d3
  have hC2 := hC.kept hk2
  have hK2 := hk1.trans hk2
  clear hC hk1 hk2
  go_loop [9, 10] (fun v i => ∃ k : Nat, k ≤ 32 ∧ i = .int .i64 (k : Int) ∧ v = .int .u32 ((fixM c % 2 ^ k : Nat) : Int)) (fun _ i => 32 - (intOf i).toNat)
  case atStart => exact ⟨0, by omega, rfl, by simp [Nat.mod_one]⟩
  case round =>
    obtain ⟨k, hk, rfl, rfl⟩ := hrel
    rcases Nat.lt_or_ge k 32 with hlt | hge
    · go_upto_region 9 with fail
      go_cut [11] from 26 to 79 (fun v wx => v = .bool (regB c k) ∧ wx = w2)
      case first =>
        have hb := regB_eq (k := k) hd hs ht
        have hr : k < 7 ∨ (7 ≤ k ∧ k ≤ 11) ∨ (12 ≤ k ∧ k ≤ 14) ∨ (15 ≤ k ∧ k ≤ 19) ∨ (20 ≤ k ∧ k ≤ 24) ∨ 25 ≤ k := by omega
        rcases hr with hr | hr | hr | hr | hr | hr
        all_goals
          first
          | rw [decide_eq_true (by omega : 7 ≤ k ∧ k ≤ 11)] at hb
          | rw [decide_eq_false (by omega : ¬ (7 ≤ k ∧ k ≤ 11))] at hb
          first
          | rw [decide_eq_true (by omega : 15 ≤ k ∧ k ≤ 19)] at hb
          | rw [decide_eq_false (by omega : ¬ (15 ≤ k ∧ k ≤ 19))] at hb
          first
          | rw [decide_eq_true (by omega : 20 ≤ k ∧ k ≤ 24)] at hb
          | rw [decide_eq_false (by omega : ¬ (20 ≤ k ∧ k ≤ 24))] at hb
          clear hd hs ht
          cases d1 <;> cases d2 <;> cases d3
          all_goals
            as_aux_lemma =>
              go_wp2
              go_meet
              refine ⟨congrArg Value.bool ?_, rfl⟩
              try rw [hb]
              first
              | rfl
              | exact decide_eq_true (by omega)
              | exact decide_eq_false (by omega)
              | (have q1 : decide ((k : Int) ≤ 11) = false := decide_eq_false (by omega)
                 have q2 : decide ((k : Int) ≤ 19) = false := decide_eq_false (by omega)
                 try rw [q1]
                 try rw [q2]
                 first
                 | (have q3 : decide ((k : Int) ≤ 24) = true := decide_eq_true (by omega)
                    try rw [q3]
                    rfl)
                 | (have q3 : decide ((k : Int) ≤ 24) = false := decide_eq_false (by omega)
                    try rw [q3]
                    rfl))
      case rest =>
        obtain ⟨rfl, rfl⟩ := hcut
        have hfr := free_fix c hc k hlt
        have hst := fix_step (fixM c) k
        have hk0 : (0 : Int) ≤ k := by omega
        have hk31 : (k : Int) < 32 := by omega
        clear hd hs ht
        go_wp2
        go_loop [11, 12] (fun v i => ∃ j : Nat, j ≤ plen c ∧ i = .int .i64 (j : Int) ∧ v = .bool (regB c k || plcB c k j)) (fun _ i => plen c - (intOf i).toNat)
        case atStart => exact ⟨0, by omega, rfl, by simp [plcB]⟩
        case round =>
          obtain ⟨j, hj, rfl, rfl⟩ := hrel
          rcases Nat.lt_or_ge j (plen c) with hjl | hjg
          · rcases hC2 with h0 | ⟨b, off, rfl, hcells⟩
            · exact absurd h0 (by unfold plen at hjl; omega)
            have hcell := hcells j hjl
            have hjl' : (j : Int) < ((placeL c).length : Int) := by unfold plen at hjl; omega
            have hjl2 : j < (placeL c).length := hjl
            have hps := plcB_succ c k j
            clear hcells
            cases hpk : (placeP c j == (k : Int))
            · rw [hpk, Bool.or_false] at hps
              go_wp2
              exact ⟨⟨j + 1, by omega, by simp, by rw [hps]⟩, by simp [intOf]; omega⟩
            · rw [hpk, Bool.or_true] at hps
              go_wp2
              exact ⟨⟨j + 1, by omega, by simp, by rw [hps, Bool.or_true]⟩, by simp [intOf]; omega⟩
          · obtain rfl : j = plen c := by omega
            have hge' : ((placeL c).length : Int) ≤ ((placeL c).length : Int) := Int.le_refl _
            rw [hfr]
            have hp32 : (2 : Int) ^ k % 4294967296 = 2 ^ k := shl_one k (by omega)
            have hlt2 : (fixM c % 2 ^ (k + 1) : Nat) < 4294967296 := Nat.lt_of_le_of_lt (Nat.mod_le _ _) (fix_lt c hc)
            cases htb : (fixM c).testBit k
            · rw [htb] at hst
              clear hfr hge'
              go_wp2
              exact ⟨⟨k + 1, by omega, by simp, congrArg (Value.int .u32) (step_no hst)⟩, by simp [intOf]; omega⟩
            · rw [htb] at hst
              clear hfr hge'
              go_wp2_with (go_at_call 26; refine (two_pl k hk0 hk31 _).mono ?_; rintro e w' ⟨rfl, rfl⟩)
              exact ⟨⟨k + 1, by omega, by simp, congrArg (Value.int .u32) (step_yes hst hlt2)⟩, by simp [intOf]; omega⟩
    · obtain rfl : k = 32 := by omega
      have hfw : fixM c % 2 ^ 32 = fixM c := Nat.mod_eq_of_lt (fix_lt c hc)
      rw [hfw]
      go_wp2
      go_ret2
      exact ⟨rfl, hK2⟩

theorem rfixed_walk (c : Int) (w : World) :
    Calls Tryd.prog 11 #[.int .u8 c] w fun e w' => e = .returned (.tuple #[.int .u32 (fixV c), .int .i64 (plErr c)]) ∧ Kept w w' := by
  by_cases hc : c ∈ letters
  · have hp : plErr c = 0 := if_pos hc
    have hv : fixV c = (fixM c : Int) := if_pos hc
    rw [hp, hv]
    exact rfixed_yes c hc w
  · have hp : plErr c = 2 := if_neg hc
    have hv : fixV c = 0 := if_neg hc
    go_enter Tryd.func11, Tryd.ntmps11
    go_wp2_with (first
      | (go_at_call 24; refine (rplaces_walk c _).mono ?_; rintro e w1 ⟨a, cap, rfl, hC, hk⟩))
    go_ret2
    exact ⟨by rw [hv, hp]; rfl, hk⟩
end Go.Proofs.YtpaeemijpincpaaDoor
