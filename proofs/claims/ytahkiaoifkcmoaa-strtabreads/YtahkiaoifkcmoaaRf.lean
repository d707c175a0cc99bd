/- The document's own: whether two lists are the same; which name is the first. -/
import Derived.Test.YtahkiaoifkcmoaaRm
namespace Go.Proofs.Ytahkiaoifkcmoaa
open Go.RowKit

set_option maxHeartbeats 1600000 in
/-- A list is the same as itself. -/
theorem same_walk (a a' : Option Addr) (n cap cap' : Nat) (l : List Int) (w : World) (hl : l.length = n) (hn : n ≤ 1000000) (h1 : Nums w a l) (h2 : Nums w a' l) :
    Calls Try.prog 16 #[.slice a n cap, .slice a' n cap'] w fun e w' => e = .returned (.bool true) ∧ Kept w w' := by
  go_enter Try.func16, Try.ntmps16
  go_wp2
  go_loopw [5] (fun i wr => ∃ k : Nat, k ≤ n ∧ i = .int .i64 k ∧ Kept w wr) (fun i _ => n - (intOf i).toNat)
  case atStart => exact ⟨0, Nat.zero_le _, rfl, Kept.refl _⟩
  case round =>
    obtain ⟨k, hk, rfl, hK⟩ := hrel
    by_cases hlt : k < n
    · rcases h1 with rfl | ⟨b, off, rfl, hc⟩
      · simp at hl; omega
      · rcases h2 with rfl | ⟨b', off', rfl, hc'⟩
        · simp at hl; omega
        · have c1 := hK.cell (hc k (by omega))
          have c2 := hK.cell (hc' k (by omega))
          obtain ⟨x, hx⟩ : ∃ x, l.getD k 0 = x := ⟨_, rfl⟩
          rw [hx] at c1 c2
          clear hc hc' hx
          go_upto_region 6 with fail
          go_big_quiet (fail)
          have K2 : Kept w (wr.drewN nq) := hK.trans (Kept.drewN _ _)
          go_wp2
          go_roundw
          case rel => exact ⟨k + 1, by omega, by go_num, K2⟩
          case measure => simp [intOf]; omega
    · obtain rfl : k = n := by omega
      go_wp2
      go_ret
      exact ⟨rfl, hK⟩

/-- Is a name not empty, and none of those ahead of it? -/
def newB (ss : List ByteArray) (i : Nat) : Bool := decide (nm (ss.getD i ByteArray.empty) ≠ [] ∧ nm (ss.getD i ByteArray.empty) ∉ fk ss i)
theorem mem_fk {ss : List ByteArray} {i : Nat} {l : List Int} : l ∈ fk ss i ↔ (∃ j, j < i ∧ j < ss.length ∧ nm (ss.getD j ByteArray.empty) = l) ∧ l ≠ [] := by
  unfold fk
  rw [mem_fsts]
  refine and_congr ?_ Iff.rfl
  unfold nms
  rw [List.mem_map]
  constructor
  · rintro ⟨s, hs, rfl⟩
    obtain ⟨j, hj, rfl⟩ := List.mem_iff_getElem.1 hs
    rw [List.length_take] at hj
    refine ⟨j, by omega, by omega, ?_⟩
    rw [List.getD, List.getElem?_eq_getElem (by omega), List.getElem_take]
    rfl
  · rintro ⟨j, h1, h2, rfl⟩
    refine ⟨_, ?_, rfl⟩
    rw [List.mem_iff_getElem]
    refine ⟨j, by rw [List.length_take]; omega, ?_⟩
    rw [List.getElem_take, List.getD, List.getElem?_eq_getElem h2]
    rfl

set_option maxHeartbeats 1600000 in
theorem first_walk (b off n cap i : Nat) (ss : List ByteArray) (w : World) (hlen : ss.length = n) (hn : n ≤ 1000000) (hi : i < n) (hc : ∀ j, j < ss.length → w.cell? ⟨b, off + j, none⟩ = some (.string (ss.getD j ByteArray.empty))) :
    Calls Try.prog 27 #[.slice (some ⟨b, off, none⟩) n cap, .int .i64 (i : Int)] w fun e w' => e = .returned (.bool (newB ss i)) ∧ Kept w w' := by
  have hci := hc i (by omega)
  obtain ⟨s, hs⟩ : ∃ s, ss.getD i ByteArray.empty = s := ⟨_, rfl⟩
  rw [hs] at hci
  go_enter Try.func27, Try.ntmps27
  go_wp2
  go_loopw [5] (fun x wr => ∃ k : Nat, k ≤ i ∧ x = .int .i64 k ∧ Hid (∀ j, j < k → ss.getD j ByteArray.empty ≠ s) ∧ Kept w wr) (fun x _ => i - (intOf x).toNat)
  case atStart => exact ⟨0, Nat.zero_le _, rfl, fun j hj => absurd hj (Nat.not_lt_zero _), Kept.refl _⟩
  case round =>
    obtain ⟨k, hk, rfl, A, hK⟩ := hrel
    have c2 := hK.cell hci
    by_cases hlt : k < i
    · have c1 := hK.cell (hc k (by omega))
      obtain ⟨t, ht⟩ : ∃ t, ss.getD k ByteArray.empty = t := ⟨_, rfl⟩
      rw [ht] at c1
      by_cases e : t = s
      · have e' := beq_true e
        have hnew : newB ss i = false := by
          unfold newB
          rw [hs]
          refine decide_eq_false ?_
          rintro ⟨h0, h1⟩
          exact h1 (mem_fk.2 ⟨⟨k, hlt, by omega, by rw [ht, e]⟩, h0⟩)
        have HN : Hid (newB ss i = false) := hnew
        clear hnew hc ht hs e A
        go_upto_region 4 with fail
        go_big_quiet (fail)
        have K2 : Kept w (wr.drewN nq) := hK.trans (Kept.drewN _ _)
        go_wp2
        go_ret
        exact ⟨by rw [HN.out]; rfl, K2⟩
      · have e' := beq_false e
        have HT : Hid (ss.getD k ByteArray.empty = t ∧ ¬ t = s) := ⟨ht, e⟩
        clear hc ht hs e
        go_upto_region 4 with fail
        go_big_quiet (fail)
        have K2 : Kept w (wr.drewN nq) := hK.trans (Kept.drewN _ _)
        go_wp2
        go_roundw
        case rel =>
          refine ⟨k + 1, by omega, by go_num, (show Hid _ from fun j hj => ?_), K2⟩
          by_cases e : j = k
          · subst e; rw [HT.out.1]; exact HT.out.2
          · exact A.out j (by omega)
        case measure => simp [intOf]; omega
    · obtain rfl : k = i := by omega
      have hno : nm s ∉ fk ss k := by
        intro h
        obtain ⟨⟨j, h1, h2, h3⟩, _⟩ := mem_fk.1 h
        exact A.out j h1 (nm_inj h3)
      by_cases h0 : s = ⟨#[]⟩
      · have hnew : newB ss k = false := by
          unfold newB
          rw [hs]
          exact decide_eq_false (fun h => h.1 (nm_nil.2 h0))
        have HN : Hid (newB ss k = false) := hnew
        have he : s.toList.isEmpty = true := by rw [h0, Lib.toList_data]; rfl
        clear hnew hno hc hs h0
        go_wp2
        go_ret
        exact ⟨by rw [HN.out]; rfl, hK⟩
      · have hnew : newB ss k = true := by
          unfold newB
          rw [hs]
          exact decide_eq_true ⟨fun h => h0 (nm_nil.1 h), hno⟩
        have HN : Hid (newB ss k = true) := hnew
        have he : s.toList.isEmpty = false := by
          cases h : s.toList.isEmpty
          · rfl
          · exact absurd ((Lib.bytes_beq_iff s ⟨#[]⟩).1 (by rw [List.isEmpty_iff.1 h, Lib.toList_data]; rfl)) h0
        clear hnew hno hc hs h0
        go_wp2
        go_ret
        exact ⟨by rw [HN.out]; rfl, hK⟩
end Go.Proofs.Ytahkiaoifkcmoaa
