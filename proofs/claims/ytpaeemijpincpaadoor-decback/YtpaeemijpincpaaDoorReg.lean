/- What dec's small functions give: a form's registers, its fixed bits, its number. -/
import Derived.Test.YtpaeemijpincpaaDoorBak
namespace Go.Proofs.YtpaeemijpincpaaDoor
open Go.RowKit

theorem registersD_walk (c : Int) (hc : c ∈ letters) (w : World) :
    Calls Tryd.prog 20 #[.int .u8 c] w fun e w' => e = .returned (.int .u32 (regM c)) ∧ w' = w := by
  rcases letters_cases hc with rfl | rfl | rfl | rfl | rfl | rfl | rfl | rfl | rfl | rfl | rfl | rfl | rfl | rfl | rfl
  all_goals
    go_enter Tryd.func20, Tryd.ntmps20
    go_wp2
    go_ret
    exact ⟨rfl, rfl⟩

theorem all_lt {n : Nat} (h : n ≤ 20) : (2 : Int) ^ n - 1 < 4294967296 := by have := two_pow_le' (b := 20) h; omega
theorem all_ge (n : Nat) : 0 ≤ (2 : Int) ^ n - 1 := by have := two_pow_pos' n; omega
theorem scatter_all (c : Int) (hc : c ∈ letters) (a : Option Addr) (cap : Nat) (w : World) (hC : Cells w a (plen c) (placeP c)) :
    Calls Tryd.prog 27 #[.int .u32 (2 ^ plen c - 1), .slice a (plen c) cap] w fun e w' => e = .returned (.tuple #[.int .u32 (mNum c), .int .i64 0]) ∧ w' = w := by
  have hn := plen_le c hc
  have h := scatter_u (2 ^ plen c - 1) (all_ge _) (all_lt hn) a (plen c) cap (placeP c) w hC
  have hlt : (2 : Int) ^ plen c - 1 < 2 ^ plen c := by omega
  have e1 : scatV (2 ^ plen c - 1) (placeP c) (plen c) = (mNum c : Int) := by
    unfold scatV
    rw [if_pos (places_ok c hc), if_pos hlt, ← scat_all c hc]
    congr 2
    have := cast_mask (plen c)
    omega
  have e2 : scatE (2 ^ plen c - 1) (placeP c) (plen c) = 0 := by
    unfold scatE
    rw [if_pos (places_ok c hc), decide_eq_true hlt]
    rfl
  rwa [e1, e2] at h

theorem fix_num : ∀ c ∈ letters, bits .xor .u32 IntKind.u32.max (bits .or .u32 (mNum c : Int) (regM c : Int)) = (fixM c : Int) := by decide +kernel
theorem fixedD_walk (c : Int) (hc : c ∈ letters) (w : World) :
    Calls Tryd.prog 17 #[.int .u8 c] w fun e w' => e = .returned (.int .u32 (fixM c)) ∧ Kept w w' := by
  have hn := plen_le c hc
  have hm : min (placeL c).length 32 = (placeL c).length := Nat.min_eq_left (by have := hn; unfold plen at this; omega)
  have hs : (2 : Int) ^ (placeL c).length % 4294967296 = 2 ^ (placeL c).length := shl_one (plen c) (by omega)
  have ht : ((2 : Int) ^ (placeL c).length - 1) % 4294967296 = 2 ^ (placeL c).length - 1 := Int.emod_eq_of_lt (all_ge _) (all_lt hn)
  have hf := fix_num c hc
  go_enter Tryd.func17, Tryd.ntmps17
  go_wp2_with (first
    | (go_at_call 21; refine (places_walk c _).mono ?_; rintro e w1 ⟨a, cap, rfl, hC, hk⟩)
    | (go_at_call 27; refine (scatter_all c hc _ _ _ hC).mono ?_; rintro e w' ⟨rfl, rfl⟩)
    | (go_at_call 20; refine (registersD_walk c hc _).mono ?_; rintro e w' ⟨rfl, rfl⟩))
  go_ret
  exact ⟨rfl, hk⟩

/-- Fixed, of a form's letter and of any other. -/
def fixV (c : Int) : Int := if c ∈ letters then (fixM c : Int) else 0
theorem fixed_walk (c : Int) (w : World) :
    Calls Tryd.prog 8 #[.int .u8 c] w fun e w' => e = .returned (.tuple #[.int .u32 (fixV c), .int .i64 (plErr c)]) ∧ Kept w w' := by
  by_cases hc : c ∈ letters
  · have hp : plErr c = 0 := if_pos hc
    have hv : fixV c = (fixM c : Int) := if_pos hc
    go_enter Tryd.func8, Tryd.ntmps8
    go_wp2_with (first
      | (go_at_call 21; refine (places_walk c _).mono ?_; rintro e w1 ⟨a, cap, rfl, hC, hk⟩)
      | (go_at_call 17; refine (fixedD_walk c hc _).mono ?_; rintro e w2 ⟨rfl, hk2⟩))
    go_ret2
    exact ⟨by rw [hv, hp]; rfl, hk.trans hk2⟩
  · have hp : plErr c = 2 := if_neg hc
    have hv : fixV c = 0 := if_neg hc
    go_enter Tryd.func8, Tryd.ntmps8
    go_wp2_with (first
      | (go_at_call 21; refine (places_walk c _).mono ?_; rintro e w1 ⟨a, cap, rfl, hC, hk⟩))
    go_ret2
    exact ⟨by rw [hv, hp]; rfl, hk⟩

theorem gather_x (c : Int) (hc : c ∈ letters) (x : Nat) (hx : x < 4294967296) (a : Option Addr) (cap : Nat) (w : World) (hC : Cells w a (plen c) (placeP c)) :
    Calls Tryd.prog 34 #[.int .u32 x, .slice a (plen c) cap] w fun e w' => e = .returned (.tuple #[.int .u32 (gN c x), .int .i64 0]) ∧ w' = w := by
  have h := gather_u x (by omega) (by omega) a (plen c) cap (placeP c) w hC
  have e1 : gathV x (placeP c) (plen c) = (gN c x : Int) := by
    unfold gathV
    rw [if_pos (places_ok _ hc), Int.toNat_natCast]
    rfl
  rw [e1, places_ok _ hc] at h
  exact h
theorem gN_hi {c : Int} (hc : c ∈ letters) (x : Nat) : (gN c x : Int) < 1048576 := by
  have h1 := gN_lt c x
  have h2 : (2 : Nat) ^ plen c ≤ 2 ^ 20 := Nat.pow_le_pow_right (by decide) (plen_le c hc)
  omega
theorem sg_range {c : Int} (hc : c ∈ letters) (h : 1 ≤ plen c) (x : Nat) : -1048576 ≤ sgV (gN c x) (plen c) ∧ sgV (gN c x) (plen c) ≤ 1048576 := by
  have h1 := sg_lo h (gN_lt c x)
  have h2 := two_pow_le' (a := plen c - 1) (b := 20) (by have := plen_le c hc; omega)
  omega
theorem sign_x (c : Int) (hc : c ∈ letters) (h1 : 1 ≤ plen c) (x : Nat) (w : World) :
    Calls Tryd.prog 35 #[.int .u32 (gN c x), .int .i64 (plen c)] w fun e w' => e = .returned (.tuple #[.int .i64 (sgV (gN c x) (plen c)), .int .i64 0]) ∧ Kept w w' := by
  have hg := gN_hi hc x
  have hn := plen_le c hc
  have h := sign_u (gN c x) (plen c) (by omega) (by omega) w
  have hok : signOk (gN c x) (plen c) = true := by
    unfold signOk
    rw [decide_eq_true (by omega : (1 : Int) ≤ (plen c : Int) ∧ ((plen c : Nat) : Int) ≤ 32), Int.toNat_natCast, decide_eq_true (cast_lt_pow.mpr (gN_lt c x))]
    rfl
  have e1 : signV (gN c x) (plen c) = sgV (gN c x) (plen c) := by
    unfold signV sgV
    rw [if_pos hok, Int.toNat_natCast]
  rw [e1, hok] at h
  exact h.mono fun e w' ⟨he, m, hw⟩ => ⟨he, hw ▸ Kept.drewN _ _⟩

theorem sg_cases {c : Int} (h : isSg c = true) : c = 73 ∨ c = 76 ∨ c = 83 := of_decide_eq_true h
theorem tw_cases {c : Int} (h : isTw c = true) : c = 74 ∨ c = 66 := of_decide_eq_true h
theorem wrap_small {n : Int} (h1 : -4194304 ≤ n) (h2 : n ≤ 4194304) : wrap64 n = n := wrap64_id (by omega) (by omega)
theorem numberD_sg (c : Int) (hc : c ∈ letters) (hs : isSg c = true) (x : Nat) (hx : x < 4294967296) (w : World) :
    Calls Tryd.prog 18 #[.int .u32 x, .int .u8 c] w fun e w' => e = .returned (.int .i64 (numR c x)) ∧ Kept w w' := by
  have h1 : 1 ≤ plen c := ((num_facts c hc).1 hs).2.1
  have hR : numR c x = sgV (gN c x) (plen c) := by simp only [numR, hs, if_true]
  obtain ⟨b1, b2, b3, e1, e2, e3, hb⟩ : ∃ b1 b2 b3 : Bool, (c == 73) = b1 ∧ (c == 76) = b2 ∧ (c == 83) = b3 ∧ (b1 = true ∨ b1 = false ∧ b2 = true ∨ b1 = false ∧ b2 = false ∧ b3 = true) :=
    ⟨_, _, _, rfl, rfl, rfl, by rcases sg_cases hs with rfl | rfl | rfl <;> decide⟩
  rw [hR]
  clear hR hs
  rcases hb with rfl | ⟨rfl, rfl⟩ | ⟨rfl, rfl, rfl⟩
  all_goals
    go_enter Tryd.func18, Tryd.ntmps18
    go_wp2_with (first
      | (go_at_call 21; refine (places_walk c _).mono ?_; rintro e w1 ⟨a, cap, rfl, hC, hk⟩)
      | (go_at_call 34; refine (gather_x c hc x hx _ _ _ hC).mono ?_; rintro e w' ⟨rfl, rfl⟩)
      | (go_at_call 35; refine (sign_x c hc h1 x _).mono ?_; rintro e w2 ⟨rfl, hk2⟩))
    go_ret
    exact ⟨rfl, hk.trans hk2⟩
theorem numberD_tw (c : Int) (hc : c ∈ letters) (hs : isTw c = true) (x : Nat) (hx : x < 4294967296) (w : World) :
    Calls Tryd.prog 18 #[.int .u32 x, .int .u8 c] w fun e w' => e = .returned (.int .i64 (numR c x)) ∧ Kept w w' := by
  have hf := (num_facts c hc).2.1 hs
  have h1 : 1 ≤ plen c := hf.2.1
  have hR : numR c x = 2 * sgV (gN c x) (plen c) := by simp only [numR, hf.1, hs, if_true, Bool.false_eq_true, if_false]
  have hr := sg_range hc h1 x
  obtain ⟨b1, b2, e3, e4, e5, e1, e2, hb⟩ : ∃ b1 b2 : Bool, (c == 73) = false ∧ (c == 76) = false ∧ (c == 83) = false ∧ (c == 74) = b1 ∧ (c == 66) = b2 ∧ (b1 = true ∨ b1 = false ∧ b2 = true) := by
    refine ⟨_, _, ?_, ?_, ?_, rfl, rfl, ?_⟩ <;> rcases tw_cases hs with rfl | rfl <;> decide
  rw [hR]
  clear hR hs hf
  rcases hb with rfl | ⟨rfl, rfl⟩
  all_goals
    go_enter Tryd.func18, Tryd.ntmps18
    go_wp2_with (first
      | (go_at_call 21; refine (places_walk c _).mono ?_; rintro e w1 ⟨a, cap, rfl, hC, hk⟩)
      | (go_at_call 34; refine (gather_x c hc x hx _ _ _ hC).mono ?_; rintro e w' ⟨rfl, rfl⟩)
      | (go_at_call 35; refine (sign_x c hc h1 x _).mono ?_; rintro e w2 ⟨rfl, hk2⟩))
    go_ret
    exact ⟨rfl, hk.trans hk2⟩
theorem numberD_no (c : Int) (hc : c ∈ letters) (hs : isSg c = false) (ht : isTw c = false) (x : Nat) (hx : x < 4294967296) (w : World) :
    Calls Tryd.prog 18 #[.int .u32 x, .int .u8 c] w fun e w' => e = .returned (.int .i64 (numR c x)) ∧ Kept w w' := by
  have hR : numR c x = (gN c x : Int) := by simp only [numR, hs, ht, Bool.false_eq_true, if_false]
  have hr := gN_hi hc x
  have n1 := of_decide_eq_false hs
  have n2 := of_decide_eq_false ht
  obtain ⟨e1, e2, e3, e4, e5⟩ : (c == 73) = false ∧ (c == 76) = false ∧ (c == 83) = false ∧ (c == 74) = false ∧ (c == 66) = false := by
    simp only [beq_eq_false_iff_ne, ne_eq]; omega
  rw [hR]
  clear hR hs ht n1 n2
  go_enter Tryd.func18, Tryd.ntmps18
  go_wp2_with (first
    | (go_at_call 21; refine (places_walk c _).mono ?_; rintro e w1 ⟨a, cap, rfl, hC, hk⟩)
    | (go_at_call 34; refine (gather_x c hc x hx _ _ _ hC).mono ?_; rintro e w' ⟨rfl, rfl⟩))
  go_ret
  exact ⟨rfl, hk⟩
theorem numberD_walk (c : Int) (hc : c ∈ letters) (x : Nat) (hx : x < 4294967296) (w : World) :
    Calls Tryd.prog 18 #[.int .u32 x, .int .u8 c] w fun e w' => e = .returned (.int .i64 (numR c x)) ∧ Kept w w' := by
  cases hs : isSg c
  · cases ht : isTw c
    · exact numberD_no c hc hs ht x hx w
    · exact numberD_tw c hc ht x hx w
  · exact numberD_sg c hc hs x hx w
end Go.Proofs.YtpaeemijpincpaaDoor
