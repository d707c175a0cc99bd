/- Slices of bytes, of numbers and of strings: such as came in, and such as a call made itself. -/
import Derived.Test.YtljmgbpecoifnaaGreatDoorRows
import Derived.Test.YtljmgbpecoifnaaGreatDoorJaa
import Derived.WalkKit
import Derived.WalkSmall
import Derived.ProofKit
import Derived.Lib.QuietBelow
import Derived.Deep.RegionWith
import Derived.Deep.QuietTactic
import Derived.BigQuiet
import Derived.Lib.SlicesS
import Derived.OwnWalk
import Derived.Laws.CopyOwn
import Derived.Laws.BytesArg
import Derived.Laws.AppendOwnNone
import Derived.Maps.AppendAt
import Derived.Maps.OwnSet
import Derived.Deep.AppendSrc
import Derived.Deep.DeepCutAuto
namespace Go.Proofs.YtljmgbpecoifnaaGreatDoor
open Go.RowKit

/-- Of what lay there nothing has turned. -/
abbrev Kept (w w' : World) : Prop := Below w.heap.size w w'
theorem Kept.refl (w : World) : Kept w w := Below.refl _ _
theorem Kept.trans {a b c : World} (h : Kept a b) (k : Kept b c) : Kept a c := Below.trans h (k.mono h.size)
theorem Kept.alloc (w : World) (o : Obj) : Kept w (w.alloc o) := (Below.refl _ _).alloc (Nat.le_refl _) o
theorem Kept.drewN (w : World) (n : Nat) : Kept w (w.drewN n) := below_drewN (Below.refl _ _) n
theorem Kept.cell {w w' : World} (h : Kept w w') {a : Addr} {v : Value} (hc : w.cell? a = some v) : w'.cell? a = some v :=
  (Below.cell h (block_lt_of_cell hc)).trans hc

/-- The address a leads to the bytes l (nothing is asked where there are none). -/
def Byt (w : World) (a : Option Addr) (l : List Int) : Prop :=
  l = [] ∨ ∃ b off, a = some ⟨b, off, none⟩ ∧ ∀ i, i < l.length → w.cell? ⟨b, off + i, none⟩ = some (.int .u8 (l.getD i 0))
theorem Byt.kept {w w' : World} {a : Option Addr} {l : List Int} (h : Byt w a l) (k : Kept w w') : Byt w' a l := by
  rcases h with h | ⟨b, off, ha, hc⟩
  · exact .inl h
  · exact .inr ⟨b, off, ha, fun i hi => k.cell (hc i hi)⟩
theorem Byt.drewN {w : World} {a : Option Addr} {l : List Int} (h : Byt w a l) (m : Nat) : Byt (w.drewN m) a l := h

theorem Tryz.infoByte : (Tryz.prog.info? 5).map (fun i => (i.zero, i.size, i.bytes)) = some (some (.int .u8 0), 1, 1) := by kernel_rfl

/-- The slice v is the call's own (its block is no older than 'base') and holds the bytes l. -/
abbrev Own (w : World) (base : Nat) (v : Value) (l : List Int) : Prop := w.ownsRow base 5 1 v l.length (l.map (Value.int .u8))
theorem Own.byt {w : World} {base : Nat} {v : Value} {l : List Int} (h : Own w base v l) :
    ∃ a cap, v = .slice a l.length cap ∧ l.length ≤ cap ∧ Byt w a l := by
  have hcell := @World.ownsRow.cells w base 5 1 v l.length (l.map (Value.int .u8)) h
  rcases h.2 with ⟨hv, hn⟩ | ⟨g, cap, cur, hv, _, _, hnc, _⟩
  · exact ⟨none, 0, by rw [hv, hn], by omega, .inl (List.eq_nil_of_length_eq_zero hn)⟩
  · refine ⟨some ⟨g, 0, none⟩, cap, hv, hnc, .inr ⟨g, 0, rfl, fun i hi => ?_⟩⟩
    have := hcell (g := g) (by rw [hv]; rfl) i (.int .u8 (l.getD i 0)) (by simp [hi, List.getD])
    have e : (⟨g, 0, none⟩ : Addr).add i = ⟨g, 0 + i, none⟩ := by unfold Addr.add; split <;> simp_all
    rwa [e] at this
theorem Own.nil (w : World) (base : Nat) : Own w base (.slice none 0 0) [] := World.ownsRow_nil _ _ _ _
theorem Own.kept {w w' : World} {base B : Nat} {v : Value} {l : List Int} (h : Own w base v l) (k : Below B w w') (hB : ∀ g, v.ownBlock = some g → g < B) : Own w' base v l := by
  refine ⟨h.1, ?_⟩
  rcases h.2 with hn | ⟨g, cap, cur, rfl, hb, hg, rest⟩
  · exact .inl hn
  · exact .inr ⟨g, cap, cur, rfl, hb, (k.block g (hB g rfl)).trans hg, rest⟩

/-- string(b) -/
theorem str_run (w : World) (a : Option Addr) (l : List Int) (cap : Nat) (h : Byt w a l) : (convert 35 9 (.slice a l.length cap)).run Tryz.prog w = .ok (.string (strOfNums l)) w := by
  rcases h with rfl | ⟨b, off, rfl, hc⟩
  · cases a with
    | none => exact run_convert_bytes_nil w 35 5 Tryz.underlying35 Tryz.underlying5 _ _ 9 Tryz.underlying9
    | some x =>
      rw [run_convert_bytes_string w 35 9 5 _ _ _ Tryz.underlying35 Tryz.underlying5 Tryz.underlying9, run_bytesToString w _ _ cap [] (by simpa using run_loadCells_list (P := Tryz.prog) w x [] (fun j v hj => by simp at hj))]
      rfl
  · exact run_convert_bytes_arg w 35 5 Tryz.underlying35 Tryz.underlying5 b off l.length cap l rfl hc 9 Tryz.underlying9

/-- Two strings of bytes are the same just where the bytes are. -/
theorem str_inj {l m : List Int} (hl : ∀ x ∈ l, 0 ≤ x ∧ x < 256) (hm : ∀ x ∈ m, 0 ≤ x ∧ x < 256) (h : strOfNums l = strOfNums m) : l = m := by
  have h1 : l.map (fun n => UInt8.ofNat n.toNat) = m.map (fun n => UInt8.ofNat n.toNat) := by
    rw [← strOfNums_data, ← strOfNums_data, h]
  have back : ∀ k : List Int, (∀ x ∈ k, 0 ≤ x ∧ x < 256) → (k.map (fun n => UInt8.ofNat n.toNat)).map (fun u => (u.toNat : Int)) = k := by
    intro k hk
    rw [List.map_map]
    have : ∀ x ∈ k, ((fun (u : UInt8) => (u.toNat : Int)) ∘ fun (n : Int) => UInt8.ofNat n.toNat) x = x := by
      intro x hx
      have := hk x hx
      show (((UInt8.ofNat x.toNat).toNat : Nat) : Int) = x
      rw [UInt8.toNat_ofNat']
      omega
    rw [List.map_congr_left this, List.map_id']
  rw [← back l hl, ← back m hm, h1]

/-- A slice of the call's own, with all that is known of it. -/
theorem Own.all {w : World} {base : Nat} {v : Value} {l : List Int} (h : Own w base v l) :
    ∃ a cap, v = .slice a l.length cap ∧ l.length ≤ cap ∧ Byt w a l ∧ (a = none → l.length = 0 ∧ cap = 0) := by
  obtain ⟨a, cap, hv, hc, hb⟩ := h.byt
  refine ⟨a, cap, hv, hc, hb, fun ha => ?_⟩
  rcases h.2 with ⟨hv', hn⟩ | ⟨g, cap', cur, hv', _⟩
  · rw [hv] at hv'
    simp only [Value.slice.injEq] at hv'
    exact ⟨hn, hv'.2.2⟩
  · rw [hv, ha] at hv'
    simp at hv'

theorem Own.some {w : World} {base : Nat} {v : Value} {l : List Int} (h : Own w base v l) (hp : 0 < l.length) :
    ∃ g cap, v = .slice (some ⟨g, 0, none⟩) l.length cap ∧ l.length ≤ cap ∧ base ≤ g ∧ g < w.heap.size ∧ ∀ i, i < l.length → w.cell? ⟨g, i, none⟩ = some (.int .u8 (l.getD i 0)) := by
  have hlt := h.lt
  have hcell := @World.ownsRow.cells w base 5 1 v l.length (l.map (Value.int .u8)) h
  rcases h.2 with ⟨_, hn⟩ | ⟨g, cap, cur, hv, hb, _, hnc, _⟩
  · omega
  · refine ⟨g, cap, hv, hnc, hb, (hlt g (by rw [hv]; rfl)).2, fun i hi => ?_⟩
    have := hcell (g := g) (by rw [hv]; rfl) i (.int .u8 (l.getD i 0)) (by simp [hi, List.getD])
    have e : (⟨g, 0, none⟩ : Addr).add i = ⟨g, i, none⟩ := by unfold Addr.add; split <;> simp_all
    rwa [e] at this


/-! ### Slices of numbers -/
theorem Tryz.infoInt : (Tryz.prog.info? 3).map (fun i => (i.zero, i.size, i.bytes)) = some (some (.int .i64 0), 1, 8) := by kernel_rfl
abbrev OwnI (w : World) (base : Nat) (v : Value) (l : List Int) : Prop := w.ownsRow base 3 1 v l.length (l.map (Value.int .i64))
theorem OwnI.nil (w : World) (base : Nat) : OwnI w base (.slice none 0 0) [] := World.ownsRow_nil _ _ _ _
/-- The address a leads to the numbers l. -/
def Nums (w : World) (a : Option Addr) (l : List Int) : Prop :=
  l = [] ∨ ∃ b off, a = some ⟨b, off, none⟩ ∧ ∀ i, i < l.length → w.cell? ⟨b, off + i, none⟩ = some (.int .i64 (l.getD i 0))
theorem Nums.kept {w w' : World} {a : Option Addr} {l : List Int} (h : Nums w a l) (k : Kept w w') : Nums w' a l := by
  rcases h with h | ⟨b, off, ha, hc⟩
  · exact .inl h
  · exact .inr ⟨b, off, ha, fun i hi => k.cell (hc i hi)⟩
theorem OwnI.nums {w : World} {base : Nat} {v : Value} {l : List Int} (h : OwnI w base v l) :
    ∃ a cap, v = .slice a l.length cap ∧ l.length ≤ cap ∧ Nums w a l := by
  have hcell := @World.ownsRow.cells w base 3 1 v l.length (l.map (Value.int .i64)) h
  rcases h.2 with ⟨hv, hn⟩ | ⟨g, cap, cur, hv, _, _, hnc, _⟩
  · exact ⟨none, 0, by rw [hv, hn], by omega, .inl (List.eq_nil_of_length_eq_zero hn)⟩
  · refine ⟨some ⟨g, 0, none⟩, cap, hv, hnc, .inr ⟨g, 0, rfl, fun i hi => ?_⟩⟩
    have := hcell (g := g) (by rw [hv]; rfl) i (.int .i64 (l.getD i 0)) (by simp [hi, List.getD])
    have e : (⟨g, 0, none⟩ : Addr).add i = ⟨g, 0 + i, none⟩ := by unfold Addr.add; split <;> simp_all
    rwa [e] at this

/-! ### Slices of strings -/
/-- The address a leads to the strings ss. -/
def Strs (w : World) (a : Option Addr) (ss : List ByteArray) : Prop :=
  ss = [] ∨ ∃ b off, a = some ⟨b, off, none⟩ ∧ ∀ i, i < ss.length → w.cell? ⟨b, off + i, none⟩ = some (.string (ss.getD i ByteArray.empty))
theorem Strs.kept {w w' : World} {a : Option Addr} {ss : List ByteArray} (h : Strs w a ss) (k : Kept w w') : Strs w' a ss := by
  rcases h with h | ⟨b, off, ha, hc⟩
  · exact .inl h
  · exact .inr ⟨b, off, ha, fun i hi => k.cell (hc i hi)⟩
theorem Strs.at {w : World} {a : Option Addr} {ss : List ByteArray} (h : Strs w a ss) {i : Nat} (hi : i < ss.length) :
    ∃ b off, a = some ⟨b, off, none⟩ ∧ ∀ j, j < ss.length → w.cell? ⟨b, off + j, none⟩ = some (.string (ss.getD j ByteArray.empty)) := by
  rcases h with rfl | h
  · simp at hi
  · exact h
theorem getD_mem {ss : List ByteArray} {i : Nat} (hi : i < ss.length) : ss.getD i ByteArray.empty ∈ ss := by
  rw [List.getD, List.getElem?_eq_getElem hi]
  exact List.getElem_mem hi
theorem take_snoc_str (ss : List ByteArray) (k : Nat) (h : k < ss.length) : ss.take (k + 1) = ss.take k ++ [ss.getD k ByteArray.empty] := by
  rw [List.take_succ_eq_append_getElem h]
  simp [List.getD, h]

/-- WHAT THE WALK IS TOLD OF A SLICE OF INTEGERS THAT CAME IN. -/
def IsRow (k : IntKind) (w : World) (a : Option Addr) (len cap : Nat) (zs : List Int) : Prop :=
  (a = none ∧ len = 0 ∧ cap = 0 ∧ zs = []) ∨
  ∃ x, a = some x ∧ len ≤ cap ∧ cap ≤ maxLen ∧ zs.length = cap ∧ (∀ i, i < zs.length → w.cell? (x.add i) = some (.int k (zs.getD i 0))) ∧ ∀ n ∈ zs, (Lit.int k n).wf = true

theorem wf_u8 {n : Int} (h : (Lit.int .u8 n).wf = true) : 0 ≤ n ∧ n < 256 := by
  simp only [Lit.wf, IntKind.min, IntKind.max, IntKind.signed, IntKind.bits, Bool.and_eq_true] at h
  simp at h
  omega
theorem wf_int {n : Int} (h : (Lit.int .i64 n).wf = true) : -9223372036854775808 ≤ n ∧ n ≤ 9223372036854775807 := by
  simp only [Lit.wf, IntKind.min, IntKind.max, IntKind.signed, IntKind.bits, Bool.and_eq_true, decide_eq_true_eq, if_true] at h
  omega

/-- .. as bytes. -/
theorem IsRow.byt {w : World} {a : Option Addr} {len cap : Nat} {zs : List Int} (h : IsRow .u8 w a len cap zs) :
    ∃ l : List Int, l.length = len ∧ len ≤ cap ∧ Byt w a l ∧ (a = none → len = 0 ∧ cap = 0) ∧ ∀ x ∈ l, 0 ≤ x ∧ x < 256 := by
  rcases h with ⟨rfl, rfl, rfl, rfl⟩ | ⟨x, rfl, hl, hm, hz, hcell, hwz⟩
  · exact ⟨[], rfl, Nat.le_refl _, .inl rfl, fun _ => ⟨rfl, rfl⟩, by simp⟩
  · refine ⟨zs.take len, by simp; omega, hl, ?_, by simp, fun n hn => wf_u8 (hwz n (List.mem_of_mem_take hn))⟩
    by_cases h0 : len = 0
    · exact .inl (by simp [h0])
    · obtain ⟨b, off, spot⟩ := x
      have hc := hcell 0 (by omega)
      have hspot : spot = none := by simpa [Addr.add] using World.cell?_spot hc
      subst hspot
      refine .inr ⟨b, off, rfl, fun i hi => ?_⟩
      have hi' : i < len := by simp at hi; omega
      have h1 := hcell i (by omega)
      have e : (⟨b, off, none⟩ : Addr).add i = ⟨b, off + i, none⟩ := by unfold Addr.add; split <;> simp_all
      rw [e] at h1
      rw [h1]
      simp [List.getD, hi']

/-- 'append(s, b...)', s the call's own, b bytes that lie anywhere: nil, empty or not. -/
theorem wpList_append_byt {w : World} {ops : Array Oper} {rest : List Oper} {o : Oper} {a : Act} {Q : Exit → Act → World → Prop} (hgd : o.guard = none) (s x : Operand)
    (ho : o.op = .call { callee := .builtin .append, args := #[s, x], argTypes := #[35, 35] }) (base : Nat) (v : Value) (xs l : List Int) (ao : Option Addr) (cap : Nat)
    (hs : a.eval s = v) (hx : a.eval x = .slice ao l.length cap) (hown : Own w base v xs) (hb : Byt w ao l) (hnil : ao = none → l.length = 0 ∧ cap = 0)
    (hlen : xs.length + l.length ≤ 10000000) (w0 : World) (hbel : Below base w0 w) (hbase : base ≤ w.heap.size)
    (h : ∀ v' w', Own w' base v' (xs ++ l) → Below base w0 w' → wpList Tryz.prog ops Q rest (a.put o.dst v') w') : wpList Tryz.prog ops Q (o :: rest) a w := by
  obtain ⟨i0, hi, hz0, hz1, hz2⟩ := info_parts Tryz.infoByte
  cases ao with
  | none =>
    obtain ⟨h1, rfl⟩ := hnil rfl
    obtain rfl : l = [] := List.eq_nil_of_length_eq_zero h1
    exact wpList_append_own_none hgd s x 35 ho base 5 i0 1 Tryz.underlying35 hi v xs.length _ hs hown hx (h v w (by simpa using hown) hbel)
  | some ad =>
    refine wpList_append_own _ hgd s x 35 ho base 5 i0 (.int .u8 0) 1 1 Tryz.underlying35 hi hz0 hz1 hz2 rfl (by decide) v xs.length _ hs hown ad l.length cap (l.map (Value.int .u8)) hx (by simp) ?_ (ints_oneCell .u8 l) (by unfold maxLen; omega) (by omega) hbase ?_
    · intro j u hj
      have hjl : j < l.length := by simpa using (List.getElem?_eq_some_iff.1 hj).1
      rcases hb with rfl | ⟨b, off, hao, hc⟩
      · simp at hjl
      · cases hao
        have e : (⟨b, off, none⟩ : Addr).add j = ⟨b, off + j, none⟩ := by unfold Addr.add; split <;> simp_all
        rw [e, hc j hjl, ← hj]
        simp [List.getD, hjl]
    · intro v' w' h1 h2 _
      exact h v' w' (by simpa [Own] using h1) (hbel.grown h2 hbase (fun k e => (hown.lt k e).1))


theorem Own.let {w : World} {base : Nat} {v : Value} {l : List Int} (h : Own w base v l) {m : Nat} (hm : l.length = m) : ∃ a cap, v = .slice a m cap ∧ m ≤ cap ∧ Byt w a l ∧ (a = none → m = 0 ∧ cap = 0) := by
  subst hm
  exact h.all
theorem OwnI.let {w : World} {base : Nat} {v : Value} {l : List Int} (h : OwnI w base v l) {m : Nat} (hm : l.length = m) : ∃ a cap, v = .slice a m cap ∧ m ≤ cap ∧ Nums w a l := by
  subst hm
  exact h.nums
theorem str_len {w : World} {a : Option Addr} {l : List Int} {n cap : Nat} (hl : l.length = n) (hb : Byt w a l) : (convert 35 9 (.slice a n cap)).run Tryz.prog w = .ok (.string (strOfNums l)) w := by
  subst hl
  exact str_run w a l cap hb

theorem isSize_walk (size : Int) (w : World) : Calls Tryz.prog 41 #[.int .i64 size] w fun e w' => e = .returned (.bool (szB size)) ∧ w' = w := by
  cases hs : szB size
  · obtain ⟨h1, h2, h4, h8⟩ := szB_false hs
    go_enter Tryz.func41, Tryz.ntmps41
    go_wp2
    go_ret
    exact ⟨rfl, rfl⟩
  · rcases szB_true hs with rfl | rfl | rfl | rfl <;>
    · go_enter Tryz.func41, Tryz.ntmps41
      go_wp2
      go_ret
      exact ⟨rfl, rfl⟩

end Go.Proofs.YtljmgbpecoifnaaGreatDoor
