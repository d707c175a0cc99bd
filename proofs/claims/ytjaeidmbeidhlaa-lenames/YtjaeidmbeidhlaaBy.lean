/- Slices of bytes: such as came in, and such as a call made itself; and what is asked of sizes. -/
import Derived.Test.YtjaeidmbeidhlaaRows
import Derived.Test.YtjaeidmbeidhlaaLm
import Derived.WalkKit
import Derived.WalkSmall
import Derived.ProofKit
import Derived.Lib.QuietBelow
import Derived.Deep.RegionWith
import Derived.Deep.QuietTactic
import Derived.BigQuiet
import Derived.Lib.SlicesS
import Derived.OwnWalk
import Derived.Laws.CopyOwn
import Derived.Laws.BytesArg
import Derived.Laws.AppendOwnNone
namespace Go.Proofs.Ytjaeidmbeidhlaa
open Go.RowKit

/-- Of what lay there nothing has turned. -/
abbrev Kept (w w' : World) : Prop := Below w.heap.size w w'
theorem Kept.refl (w : World) : Kept w w := Below.refl _ _
theorem Kept.trans {a b c : World} (h : Kept a b) (k : Kept b c) : Kept a c := Below.trans h (k.mono h.size)
theorem Kept.alloc (w : World) (o : Obj) : Kept w (w.alloc o) := (Below.refl _ _).alloc (Nat.le_refl _) o
theorem Kept.drewN (w : World) (n : Nat) : Kept w (w.drewN n) := below_drewN (Below.refl _ _) n
theorem Kept.cell {w w' : World} (h : Kept w w') {a : Addr} {v : Value} (hc : w.cell? a = some v) : w'.cell? a = some v :=
  (Below.cell h (block_lt_of_cell hc)).trans hc

/-- The address a leads to the bytes l (nothing is asked where there are none). -/
def Byt (w : World) (a : Option Addr) (l : List Int) : Prop :=
  l = [] ∨ ∃ b off, a = some ⟨b, off, none⟩ ∧ ∀ i, i < l.length → w.cell? ⟨b, off + i, none⟩ = some (.int .u8 (l.getD i 0))
theorem Byt.kept {w w' : World} {a : Option Addr} {l : List Int} (h : Byt w a l) (k : Kept w w') : Byt w' a l := by
  rcases h with h | ⟨b, off, ha, hc⟩
  · exact .inl h
  · exact .inr ⟨b, off, ha, fun i hi => k.cell (hc i hi)⟩
theorem Byt.drewN {w : World} {a : Option Addr} {l : List Int} (h : Byt w a l) (m : Nat) : Byt (w.drewN m) a l := h

theorem Try.infoByte : (Try.prog.info? 5).map (fun i => (i.zero, i.size, i.bytes)) = some (some (.int .u8 0), 1, 1) := by kernel_rfl

/-- The slice v is the call's own (its block is no older than 'base') and holds the bytes l. -/
abbrev Own (w : World) (base : Nat) (v : Value) (l : List Int) : Prop := w.ownsRow base 5 1 v l.length (l.map (Value.int .u8))
theorem Own.byt {w : World} {base : Nat} {v : Value} {l : List Int} (h : Own w base v l) :
    ∃ a cap, v = .slice a l.length cap ∧ l.length ≤ cap ∧ Byt w a l := by
  have hcell := @World.ownsRow.cells w base 5 1 v l.length (l.map (Value.int .u8)) h
  rcases h.2 with ⟨hv, hn⟩ | ⟨g, cap, cur, hv, _, _, hnc, _⟩
  · exact ⟨none, 0, by rw [hv, hn], by omega, .inl (List.eq_nil_of_length_eq_zero hn)⟩
  · refine ⟨some ⟨g, 0, none⟩, cap, hv, hnc, .inr ⟨g, 0, rfl, fun i hi => ?_⟩⟩
    have := hcell (g := g) (by rw [hv]; rfl) i (.int .u8 (l.getD i 0)) (by simp [hi, List.getD])
    have e : (⟨g, 0, none⟩ : Addr).add i = ⟨g, 0 + i, none⟩ := by unfold Addr.add; split <;> simp_all
    rwa [e] at this
theorem Own.nil (w : World) (base : Nat) : Own w base (.slice none 0 0) [] := World.ownsRow_nil _ _ _ _
theorem Own.kept {w w' : World} {base B : Nat} {v : Value} {l : List Int} (h : Own w base v l) (k : Below B w w') (hB : ∀ g, v.ownBlock = some g → g < B) : Own w' base v l := by
  refine ⟨h.1, ?_⟩
  rcases h.2 with hn | ⟨g, cap, cur, rfl, hb, hg, rest⟩
  · exact .inl hn
  · exact .inr ⟨g, cap, cur, rfl, hb, (k.block g (hB g rfl)).trans hg, rest⟩

/-- string(b) -/
theorem str_run (w : World) (a : Option Addr) (l : List Int) (cap : Nat) (h : Byt w a l) : (convert 22 9 (.slice a l.length cap)).run Try.prog w = .ok (.string (strOfNums l)) w := by
  rcases h with rfl | ⟨b, off, rfl, hc⟩
  · cases a with
    | none => exact run_convert_bytes_nil w 22 5 Try.underlying22 Try.underlying5 _ _ 9 Try.underlying9
    | some x =>
      rw [run_convert_bytes_string w 22 9 5 _ _ _ Try.underlying22 Try.underlying5 Try.underlying9, run_bytesToString w _ _ cap [] (by simpa using run_loadCells_list (P := Try.prog) w x [] (fun j v hj => by simp at hj))]
      rfl
  · exact run_convert_bytes_arg w 22 5 Try.underlying22 Try.underlying5 b off l.length cap l rfl hc 9 Try.underlying9

/-- Two strings of bytes are the same just where the bytes are. -/
theorem str_inj {l m : List Int} (hl : ∀ x ∈ l, 0 ≤ x ∧ x < 256) (hm : ∀ x ∈ m, 0 ≤ x ∧ x < 256) (h : strOfNums l = strOfNums m) : l = m := by
  have h1 : l.map (fun n => UInt8.ofNat n.toNat) = m.map (fun n => UInt8.ofNat n.toNat) := by
    rw [← strOfNums_data, ← strOfNums_data, h]
  have back : ∀ k : List Int, (∀ x ∈ k, 0 ≤ x ∧ x < 256) → (k.map (fun n => UInt8.ofNat n.toNat)).map (fun u => (u.toNat : Int)) = k := by
    intro k hk
    rw [List.map_map]
    have : ∀ x ∈ k, ((fun (u : UInt8) => (u.toNat : Int)) ∘ fun (n : Int) => UInt8.ofNat n.toNat) x = x := by
      intro x hx
      have := hk x hx
      show (((UInt8.ofNat x.toNat).toNat : Nat) : Int) = x
      rw [UInt8.toNat_ofNat']
      omega
    rw [List.map_congr_left this, List.map_id']
  rw [← back l hl, ← back m hm, h1]

theorem isSize_walk (size : Int) (w : World) : Calls Try.prog 16 #[.int .i64 size] w fun e w' => e = .returned (.bool (szB size)) ∧ w' = w := by
  cases hs : szB size
  · obtain ⟨h1, h2, h4, h8⟩ := szB_false hs
    go_enter Try.func16, Try.ntmps16
    go_wp2
    go_ret
    exact ⟨rfl, rfl⟩
  · rcases szB_true hs with rfl | rfl | rfl | rfl <;>
    · go_enter Try.func16, Try.ntmps16
      go_wp2
      go_ret
      exact ⟨rfl, rfl⟩

theorem rsize_walk (size : Int) (w : World) : Calls Try.prog 20 #[.int .i64 size] w fun e w' => e = .returned (.bool (szB size)) ∧ w' = w := by
  cases hs : szB size
  · obtain ⟨h1, h2, h4, h8⟩ := szB_false hs
    have e1 : (size == 1) = false := by simpa using h1
    have e2 : (size == 2) = false := by simpa using h2
    have e4 : (size == 4) = false := by simpa using h4
    have e8 : (size == 8) = false := by simpa using h8
    go_enter Try.func20, Try.ntmps20
    go_wp2
    go_ret
    exact ⟨rfl, rfl⟩
  · rcases szB_true hs with rfl | rfl | rfl | rfl <;>
    · go_enter Try.func20, Try.ntmps20
      go_wp2
      go_ret
      exact ⟨rfl, rfl⟩
end Go.Proofs.Ytjaeidmbeidhlaa
