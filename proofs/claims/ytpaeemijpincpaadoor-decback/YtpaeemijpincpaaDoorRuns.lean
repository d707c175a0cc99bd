/- What enc.runs gives: the numbers of all runs, each told by its ends. -/
import Derived.Test.YtpaeemijpincpaaDoorOwn
namespace Go.Proofs.YtpaeemijpincpaaDoor
open Go.RowKit

/-- The numbers of the first runs, each told by its first one and its last one. -/
def runTo (e : Nat → Int) : Nat → List Int
  | 0 => []
  | j + 1 => runTo e j ++ seg (e (2 * j)) (e (2 * j + 1) + 1 - e (2 * j)).toNat

theorem runTo_len (e : Nat → Int) (n : Nat) (hr : ∀ i, i < 2 * n → 0 ≤ e i ∧ e i ≤ 31) : ∀ j, j ≤ n → (runTo e j).length ≤ 32 * j
  | 0, _ => by simp [runTo]
  | j + 1, h => by
    have ih := runTo_len e n hr j (by omega)
    have h1 := hr (2 * j) (by omega)
    have h2 := hr (2 * j + 1) (by omega)
    simp only [runTo, List.length_append, seg_length]
    omega

set_option maxRecDepth 20000 in
set_option maxHeartbeats 1600000 in
theorem runs_walk (b off n m cap : Nat) (e : Nat → Int) (w : World) (hm : m ≤ 2 * n) (hm2 : 2 * n ≤ m) (hn : n ≤ 4) (hc : ∀ i, i < m → w.cell? ⟨b, off + i, none⟩ = some (.int .i64 (e i))) (hr : ∀ i, i < m → 0 ≤ e i ∧ e i ≤ 31) :
    Calls Tryd.prog 37 #[.slice (some ⟨b, off, none⟩) m cap] w fun r w' => ∃ v', r = .returned v' ∧ Own w' w.heap.size v' (runTo e n) ∧ Kept w w' := by
  obtain ⟨i0, hi, hz0, hz1, hz2⟩ := info_parts Tryd.infoInt
  have hrl := runTo_len e n (fun i hi => hr i (by omega))
  go_enter Tryd.func37, Tryd.ntmps37
  go_wp2
  go_loopw [3, 4] (fun v i wr => ∃ j k : Nat, j ≤ n ∧ k ≤ 2 * j ∧ 2 * j ≤ k ∧ i = .int .i64 (k : Int) ∧ Own wr w.heap.size v (runTo e j) ∧ Below w.heap.size w wr) (fun _ i _ => m - (intOf i).toNat)
  case atStart => exact ⟨0, 0, Nat.zero_le _, Nat.zero_le _, Nat.le_refl _, rfl, World.ownsRow_nil _ _ _ _, Below.refl _ _⟩
  case round =>
    obtain ⟨j, k, hj, hk1, hk2, rfl, hown, hnx⟩ := hrel
    rcases Nat.lt_or_ge j n with hlt | hge
    · have hkm : (k : Int) + 1 < m := by omega
      have hkm0 : (k : Int) < m := by omega
      have hkn : k + 1 < m := by omega
      have hkn0 : k < m := by omega
      have c1 := Kept.cell hnx (hc k (by omega))
      have c2 := Kept.cell hnx (hc (k + 1) (by omega))
      have r1 := hr k (by omega)
      have r2 := hr (k + 1) (by omega)
      have hl1 := hrl j hj
      have hc2 := hc (k + 1) (by omega)
      have hrun : runTo e (j + 1) = runTo e j ++ seg (e k) (e (k + 1) + 1 - e k).toNat := by rw [show k = 2 * j by omega]; rfl
      clear hr hrl hc
      go_wp2
      go_loopw [3, 5] (fun v p wr => ∃ q : Nat, q ≤ (e (k + 1) + 1 - e k).toNat ∧ p = .int .i64 (e k + q) ∧ Own wr w.heap.size v (runTo e j ++ seg (e k) q) ∧ Below w.heap.size w wr) (fun _ p _ => (e (k + 1) + 1 - intOf p).toNat)
      case atStart => exact ⟨0, Nat.zero_le _, by simp, by simpa [seg] using hown, hnx⟩
      case round =>
        obtain ⟨q, hq, rfl, hown2, hnx2⟩ := hrel
        have c3 := Kept.cell hnx2 hc2
        have hlen : (runTo e j ++ seg (e k) q).length ≤ 200 := by simp [seg_length]; omega
        clear hc2
        go_wp2_with (at_builtin; refine wpList_append_own _ rfl _ _ 47 rfl w.heap.size 3 i0 (.int .i64 0) 1 8 Tryd.underlying47 hi hz0 hz1 hz2 rfl (by decide) _ _ _ rfl (hown2.alloc _) ⟨wr.heap.size, 0, none⟩ 1 1 [.int .i64 (e k + q)] rfl rfl ?c1 ?c2 ?c3 ?c4 ?c5 ?_)
        case c1 =>
          intro j u hj
          match j, hj with
          | 0, hj => simp at hj; subst hj; simp [Addr.add]
        case c2 => intro u hu; simp at hu; subst hu; rfl
        case c3 => unfold maxLen; omega
        case c4 => omega
        case c5 => have := hnx2.size; simp; omega
        · intro v' w1 hown' hgrow _
          have hle : e k + q ≤ e (k + 1) := by assumption
          have R1 : Own w1 w.heap.size v' (runTo e j ++ seg (e k) (q + 1)) := by simpa [Own, seg_succ, Nat.add_assoc] using hown'
          have R2 : Below w.heap.size w w1 := (hnx2.alloc hnx2.size _).grown hgrow (by have := hnx2.size; simp; omega) (fun k e => (hown2.lt k e).1)
          clear hown' hgrow hown2 hnx2 hown hnx
          go_wp2
          exact ⟨⟨q + 1, by omega, by simp; omega, R1, R2⟩, by simp [intOf]; omega⟩
        · have hgt : e (k + 1) < e k + q := by assumption
          have hq' : q = (e (k + 1) + 1 - e k).toNat := by omega
          have R1 : Own wr w.heap.size u3 (runTo e (j + 1)) := by rw [hrun, ← hq']; exact hown2
          exact ⟨⟨j + 1, k + 2, by omega, by omega, by omega, by simp, R1, hnx2⟩, by simp [intOf]; omega⟩
    · obtain rfl : j = n := by omega
      have hkm : (m : Int) ≤ k := by omega
      go_wp2
      go_ret
      exact ⟨_, rfl, hown, hnx⟩

end Go.Proofs.YtpaeemijpincpaaDoor
