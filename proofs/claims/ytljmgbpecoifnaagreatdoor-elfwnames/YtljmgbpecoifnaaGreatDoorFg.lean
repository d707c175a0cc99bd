/- Whether a section is in a group: the program's. -/
import Derived.Test.YtljmgbpecoifnaaGreatDoorJaj
import Derived.Test.YtljmgbpecoifnaaGreatDoorJab
namespace Go.Proofs.YtljmgbpecoifnaaGreatDoor
open Go.RowKit

set_option maxRecDepth 20000 in
set_option maxHeartbeats 1600000 in
theorem index_walk (a : Option Addr) (n cap : Nat) (l : List Int) (x : Int) (g : Bool) (w : World) (hg0 : Hid (l.contains x = g)) (hl : l.length = n) (hn : n < 9223372036854775807) (hI : Ints w a l) :
    Calls Tryz.prog 154 #[.slice a n cap, .int .i64 x] w fun e w' => (∃ k : Int, e = .returned (.int .i64 k) ∧ decide (0 ≤ k) = g) ∧ w' = w := by
  go_enter Tryz.func154, Tryz.ntmps154
  go_wp2
  go_loop [8] (fun i => ∃ k : Nat, k ≤ n ∧ i = .int .i64 k ∧ Hid (∀ j, j < k → l.getD j 0 ≠ x)) (fun i => n - (intOf i).toNat)
  case atStart => exact ⟨0, Nat.zero_le _, rfl, fun j hj => absurd hj (Nat.not_lt_zero _)⟩
  case round =>
    obtain ⟨k, hk, rfl, A⟩ := hrel
    by_cases hlt : k < n
    · obtain ⟨b, off, rfl, c0⟩ := hI.at (show k < l.length by omega)
      obtain ⟨y, hy⟩ : ∃ y, l.getD k 0 = y := ⟨_, rfl⟩
      have HY : Hid (l.getD k 0 = y) := hy
      rw [hy] at c0
      clear hy hI
      by_cases e : x = y
      · have q : (x == y) = true := beq_iff_eq.2 e
        have HB : Hid (g = true) := by
          unfold Hid
          rw [← hg0.out, List.contains_eq_mem]
          exact decide_eq_true (by rw [e, ← HY.out]; exact getD_in (by omega) 0)
        clear e
        go_wp2
        go_ret
        exact ⟨⟨_, rfl, by rw [HB.out]; simp⟩, rfl⟩
      · have q : (x == y) = false := beq_eq_false_iff_ne.2 e
        have HN : Hid (l.getD k 0 ≠ x) := by unfold Hid; rw [HY.out]; exact fun h => e h.symm
        clear e
        go_wp2
        go_round
        case rel =>
          refine ⟨k + 1, by omega, by go_num, fun j hj => ?_⟩
          by_cases e : j = k
          · subst e; exact HN.out
          · exact A.out j (by omega)
        case measure => simp [intOf]; omega
    · obtain rfl : k = n := by omega
      have HB : Hid (g = false) := by
        unfold Hid
        rw [← hg0.out, List.contains_eq_mem]
        refine decide_eq_false fun hm => ?_
        obtain ⟨i, hi, e⟩ := mem_at hm 0
        exact A.out i (by omega) e
      clear hI
      go_wp2
      go_ret
      exact ⟨⟨_, rfl, by rw [HB.out]; rfl⟩, rfl⟩
theorem contains_walk (a : Option Addr) (n cap : Nat) (l : List Int) (x : Int) (w : World) (hl : l.length = n) (hn : n < 9223372036854775807) (hI : Ints w a l) :
    Calls Tryz.prog 128 #[.slice a n cap, .int .i64 x] w fun e w' => e = .returned (.bool (l.contains x)) ∧ w' = w := by
  obtain ⟨g, hg⟩ : ∃ g, l.contains x = g := ⟨_, rfl⟩
  have h := index_walk a n cap l x g w hg hl hn hI
  rw [hg]
  clear hg
  go_enter Tryz.func128, Tryz.ntmps128
  go_wp2_with (go_at_call 154; refine h.mono ?_; rintro e w2 ⟨⟨k, rfl, hk⟩, hw2⟩; have hw3 := hw2.symm; subst hw3; clear hw2)
  go_ret
  exact ⟨by rw [← hk]; simp, rfl⟩
/-- The closure: does this group have the section whose number lies at b? -/
theorem inOne_walk (s : ByteArray) (a : Option Addr) (n cap : Nat) (l : List Int) (b : Nat) (x : Int) (w : World) (hl : l.length = n) (hn : n < 9223372036854775807) (hI : Ints w a l) (hc : w.cell? ⟨b, 0, none⟩ = some (.int .i64 x)) :
    Calls Tryz.prog 127 #[.agg #[.string s, .slice a n cap], .pointer (some ⟨b, 0, none⟩)] w fun e w' => e = .returned (.bool (l.contains x)) ∧ Kept w w' := by
  obtain ⟨wa, hwa, B1, kA, sA⟩ := box_grp w (.string s) (.slice a n cap)
  have c1 := B1.c1
  have cx := kA.cell hc
  have h := contains_walk a n cap l x wa hl hn (hI.kept kA)
  obtain ⟨g, hg⟩ : ∃ g, l.contains x = g := ⟨_, rfl⟩
  rw [hg] at h ⊢
  clear hI hg
  go_enter Tryz.func127, Tryz.ntmps127
  go_wp2_with (go_at_call 128; refine h.mono ?_; rintro e w2 ⟨rfl, hw2⟩; have hw3 := hw2.symm; subst hw3; clear hw2)
  go_ret
  exact ⟨rfl, kA⟩
/-- Is a section in one of the groups? -/
def inGr (gs : List GrpV) (x : Int) : Bool := gs.any fun g => g.l.contains x
set_option maxRecDepth 20000 in
set_option maxHeartbeats 1600000 in
theorem gindex_walk (a : Option Addr) (n cap : Nat) (gs : List GrpV) (b : Nat) (x : Int) (g : Bool) (w : World) (hg0 : Hid (inGr gs x = g)) (hl : gs.length = n) (hn : n < 1000000) (hsm : ∀ j, j < n → (gs.getD j grpV0).l.length ≤ 1000) (hG : GrpR w a gs) (hc : w.cell? ⟨b, 0, none⟩ = some (.int .i64 x)) :
    Calls Tryz.prog 153 #[.slice a n cap, .func (.func 127) #[] #[.pointer (some ⟨b, 0, none⟩)]] w fun e w' => (∃ k : Int, e = .returned (.int .i64 k) ∧ decide (0 ≤ k) = g) ∧ Kept w w' := by
  go_enter Tryz.func153, Tryz.ntmps153
  go_wp2
  go_loopw [8] (fun i wr => ∃ k : Nat, k ≤ n ∧ i = .int .i64 k ∧ Kept w wr ∧ Hid (∀ j, j < k → (gs.getD j grpV0).l.contains x = false)) (fun i _ => n - (intOf i).toNat)
  case atStart => exact ⟨0, Nat.zero_le _, rfl, Kept.refl _, fun j hj => absurd hj (Nat.not_lt_zero _)⟩
  case round =>
    obtain ⟨k, hk, rfl, K, A⟩ := hrel
    by_cases hlt : k < n
    · obtain ⟨b', off, rfl, hAt⟩ := (hG.kept K).cells (show k < gs.length by omega)
      obtain ⟨v, hv⟩ : ∃ v, gs.getD k grpV0 = v := ⟨_, rfl⟩
      have HV : Hid (gs.getD k grpV0 = v) := hv
      rw [hv] at hAt
      have hok := hAt.ok
      obtain ⟨s, a', cp, l⟩ := v
      obtain ⟨m, hm⟩ : ∃ m, l.length = m := ⟨_, rfl⟩
      have x0 : wr.cell? ⟨b', off + k * 2, none⟩ = some (.string s) := hAt.c0
      have x1 : wr.cell? ⟨b', off + k * 2 + 1, none⟩ = some (.slice a' m cp) := by rw [← hm]; exact hAt.c1
      have hmx : m < 9223372036854775807 := by
        have := hsm k hlt
        rw [HV.out] at this
        dsimp only at this
        omega
      obtain ⟨q, hq⟩ : ∃ q, l.contains x = q := ⟨_, rfl⟩
      have HQ : Hid (l.contains x = q) := hq
      have hC := inOne_walk s a' m cp l b x wr hm hmx hok.ints (K.cell hc)
      rw [hq] at hC
      have hkn : k < n := hlt
      clear hv hAt hok hq hG hsm
      cases q with
      | true =>
        have HB : Hid (g = true) := by
          unfold Hid
          rw [← hg0.out]
          unfold inGr
          rw [List.any_eq_true]
          exact ⟨_, getD_in (show k < gs.length by omega) grpV0, by rw [HV.out]; exact HQ.out⟩
        go_wp2_with (go_at_call 127; refine hC.mono ?_; rintro e w4 ⟨rfl, k4⟩)
        go_ret
        exact ⟨⟨_, rfl, by rw [HB.out]; simp⟩, K.trans k4⟩
      | false =>
        go_wp2_with (go_at_call 127; refine hC.mono ?_; rintro e w4 ⟨rfl, k4⟩)
        go_roundw
        case rel =>
          refine ⟨k + 1, by omega, by go_num, K.trans k4, fun j hj => ?_⟩
          by_cases e : j = k
          · subst e; rw [HV.out]; exact HQ.out
          · exact A.out j (by omega)
        case measure => simp [intOf]; omega
    · obtain rfl : k = n := by omega
      have HB : Hid (g = false) := by
        unfold Hid
        rw [← hg0.out]
        unfold inGr
        rw [List.any_eq_false]
        intro v hv
        obtain ⟨i, hi, rfl⟩ := mem_at hv grpV0
        rw [A.out i (by omega)]
        decide
      clear hG hsm
      go_wp2
      go_ret
      exact ⟨⟨_, rfl, by rw [HB.out]; rfl⟩, K⟩
set_option maxRecDepth 20000 in
theorem isInGroup_walk (a : Option Addr) (n cap : Nat) (gs : List GrpV) (x : Int) (w : World) (hl : gs.length = n) (hn : n < 1000000) (hsm : ∀ j, j < n → (gs.getD j grpV0).l.length ≤ 1000) (hG : GrpR w a gs) :
    Calls Tryz.prog 91 #[.int .i64 x, .slice a n cap] w fun e w' => e = .returned (.bool (inGr gs x)) ∧ Kept w w' := by
  have hmf : ∀ (fn : Fn) (first cap : Array Value) (w : World), (Instr.makeFunc fn first cap).run Tryz.prog w = .ok (.func fn first cap) w := fun _ _ _ _ => rfl
  obtain ⟨wa, hwa⟩ : ∃ wa, w.alloc (.cells #[.int .i64 x] 3) = wa := ⟨_, rfl⟩
  have kA : Kept w wa := by rw [← hwa]; exact Kept.alloc _ _
  have cx : wa.cell? ⟨w.heap.size, 0, none⟩ = some (.int .i64 x) := by rw [← hwa]; simp
  obtain ⟨g, hg⟩ : ∃ g, inGr gs x = g := ⟨_, rfl⟩
  have hX := gindex_walk a n cap gs w.heap.size x g wa hg hl hn hsm (hG.kept kA) cx
  have hC : Calls Tryz.prog 126 #[.slice a n cap, .func (.func 127) #[] #[.pointer (some ⟨w.heap.size, 0, none⟩)]] wa fun e w' => e = .returned (.bool g) ∧ Kept wa w' := by
    clear hg hG hsm cx kA
    go_enter Tryz.func126, Tryz.ntmps126
    go_wp2_with (go_at_call 153; refine hX.mono ?_; rintro e w2 ⟨⟨k, rfl, hk⟩, hk2⟩)
    go_ret
    exact ⟨by rw [← hk]; simp, hk2⟩
  rw [hg]
  clear hg hG hsm hX
  go_enter Tryz.func91, Tryz.ntmps91
  go_wp2_with (go_at_call 126; refine hC.mono ?_; rintro e w2 ⟨rfl, k2⟩)
  go_ret
  exact ⟨rfl, kA.trans k2⟩
end Go.Proofs.YtljmgbpecoifnaaGreatDoor
