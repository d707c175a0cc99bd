/- Slices of numbers that the call made itself: what is appended; the bases. -/
import Derived.Test.YtpaeemijpincpaaDoorPlC
import Derived.Test.YtpaeemijpincpaaDoorChk
namespace Go.Proofs.YtpaeemijpincpaaDoor
open Go.RowKit

/-- The bits of an instruction with all its fields 0. -/
def baseV (op : Int) : Int := if isOp op = true then (baseC (op.toNat - 1) : Int) else 0

theorem base_walk (op : Int) (h0 : 0 ≤ op) (h1 : op ≤ 255) (w : World) (hT : Tab w) :
    Calls Tryd.prog 15 #[.int .u8 op] w fun e w' => e = .returned (.tuple #[.int .u32 (baseV op), .int .i64 (opErr op)]) ∧ w' = w := by
  unfold baseV opErr
  cases hc : isOp op
  · have hb := of_decide_eq_false hc
    by_cases hz : op = 0
    · subst hz
      go_enter Tryd.func15, Tryd.ntmps15
      go_wp2
      go_ret2
      exact ⟨rfl, rfl⟩
    · have hg : 94 < op := by omega
      go_enter Tryd.func15, Tryd.ntmps15
      go_wp2
      go_ret2
      exact ⟨rfl, rfl⟩
  · have hb := isOp_true hc
    have hcell : w.cell? ⟨0, op.toNat - 1, none⟩ = some (.int .u32 (baseC (op.toNat - 1))) := hT _ (by omega)
    go_enter Tryd.func15, Tryd.ntmps15
    go_wp2
    go_ret2
    exact ⟨rfl, rfl⟩

theorem Tryd.infoInt : (Tryd.prog.info? 3).map (fun i => (i.zero, i.size, i.bytes)) = some (some (.int .i64 0), 1, 8) := by kernel_rfl

/-- The slice v is the call's own (its block is no older than 'base') and holds the numbers l. -/
abbrev Own (w : World) (base : Nat) (v : Value) (l : List Int) : Prop := w.ownsRow base 3 1 v l.length (l.map (Value.int .i64))

theorem Own.push {w : World} {base : Nat} {v : Value} {l : List Int} {x : Int} (h : w.ownsRow base 3 1 v (l.length + 1) (l.map (Value.int .i64) ++ [Value.int .i64 x])) : Own w base v (l ++ [x]) := by
  unfold Own
  simpa using h

/-- So many numbers from one on. -/
def seg (a : Int) (n : Nat) : List Int := (List.range n).map fun (i : Nat) => a + (i : Int)
theorem seg_length (a : Int) (n : Nat) : (seg a n).length = n := by simp [seg]
theorem seg_succ (a : Int) (n : Nat) : seg a (n + 1) = seg a n ++ [a + n] := by simp [seg, List.range_succ]

theorem Own.cells {w : World} {base : Nat} {v : Value} {l : List Int} (h : Own w base v l) :
    ∃ a cap, v = .slice a l.length cap ∧ Cells w a l.length (fun i => l.getD i 0) := by
  have hcell := @World.ownsRow.cells w base 3 1 v l.length (l.map (Value.int .i64)) h
  rcases h.2 with ⟨hv, hn⟩ | ⟨g, cap, cur, hv, _⟩
  · exact ⟨none, 0, by rw [hv, hn], .inl hn⟩
  · refine ⟨some ⟨g, 0, none⟩, cap, hv, .inr ⟨g, 0, rfl, fun i hi => ?_⟩⟩
    have := hcell (g := g) (by rw [hv]; rfl) i (.int .i64 (l.getD i 0)) (by simp [hi, List.getD])
    have e : (⟨g, 0, none⟩ : Addr).add i = ⟨g, 0 + i, none⟩ := by unfold Addr.add; split <;> simp_all
    rwa [e] at this

theorem Cells.kept {w w' : World} {a : Option Addr} {len : Nat} {p : Nat → Int} (h : Cells w a len p) (k : Kept w w') : Cells w' a len p := by
  rcases h with h | ⟨b, off, ha, hc⟩
  · exact .inl h
  · exact .inr ⟨b, off, ha, fun i hi => k.cell (hc i hi)⟩

set_option maxHeartbeats 1600000 in
theorem from_walk (base : Nat) (v : Value) (l : List Int) (first : Int) (many : Nat) (w : World) (hl : l.length ≤ 100) (hm : many ≤ 100) (h0 : 0 ≤ first) (h1 : first ≤ 100) (hb : base ≤ w.heap.size) (hown0 : Own w base v l) :
    Calls Tryd.prog 46 #[v, .int .i64 first, .int .i64 many] w fun e w' => ∃ v', e = .returned v' ∧ Own w' base v' (l ++ seg first many) ∧ Below base w w' := by
  obtain ⟨i0, hi, hz0, hz1, hz2⟩ := info_parts Tryd.infoInt
  go_enter Tryd.func46, Tryd.ntmps46
  go_wp2
  go_loopw [0, 7] (fun v i wr => ∃ k : Nat, k ≤ many ∧ i = .int .i64 k ∧ Own wr base v (l ++ seg first k) ∧ Below base w wr) (fun _ i _ => many - (intOf i).toNat)
  case atStart => exact ⟨0, Nat.zero_le _, rfl, by simpa [seg] using hown0, Below.refl _ _⟩
  case round =>
    obtain ⟨k, hk, rfl, hown, hnx⟩ := hrel
    have hlen : (l ++ seg first k).length ≤ 200 := by simp [seg_length]; omega
    go_wp2_with (at_builtin; refine wpList_append_own _ rfl _ _ 47 rfl base 3 i0 (.int .i64 0) 1 8 Tryd.underlying47 hi hz0 hz1 hz2 rfl (by decide) _ _ _ rfl (hown.alloc _) ⟨wr.heap.size, 0, none⟩ 1 1 [.int .i64 (first + k)] rfl rfl ?c1 ?c2 ?c3 ?c4 ?c5 ?_)
    case c1 =>
      intro j u hj
      match j, hj with
      | 0, hj => simp at hj; subst hj; simp [Addr.add]
    case c2 => intro u hu; simp at hu; subst hu; rfl
    case c3 => unfold maxLen; omega
    case c4 => omega
    case c5 => have := hnx.size; simp; omega
    · intro v' w1 hown' hgrow _
      have hlt : k < many := by assumption
      have R1 : Own w1 base v' (l ++ seg first (k + 1)) := by simpa [Own, seg_succ, Nat.add_assoc] using hown'
      have R2 : Below base w w1 := (hnx.alloc (Nat.le_trans hb hnx.size) _).grown hgrow (by have := hnx.size; simp; omega) (fun k e => (hown.lt k e).1)
      clear hown' hgrow hown hnx
      go_wp2
      go_roundw
      case rel => exact ⟨k + 1, by omega, by simp, R1, R2⟩
      case measure => simp [intOf]; omega
    · obtain rfl : k = many := by omega
      go_ret
      exact ⟨_, rfl, hown, hnx⟩

end Go.Proofs.YtpaeemijpincpaaDoor
