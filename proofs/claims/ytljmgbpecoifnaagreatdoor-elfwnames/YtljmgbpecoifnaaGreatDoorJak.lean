/- What is appended to a slice of the call's own, with where the new slice lies; and what a map is filled with as it is made. A file that is gathered: what lies where, and what turns. A file that is gathered: its state, and what each part of it that is turned leaves. How a file under way is filled up, and added to: the program's. -/
import Derived.Test.YtljmgbpecoifnaaGreatDoorBy
import Derived.Test.YtljmgbpecoifnaaGreatDoorSm
import Derived.Test.YtljmgbpecoifnaaGreatDoorJaj
import Derived.Test.YtljmgbpecoifnaaGreatDoorJab
namespace Go.Proofs.YtljmgbpecoifnaaGreatDoor
open Go.RowKit

theorem byteCells_nm (s : ByteArray) : byteCells s = (nm s).map (Value.int .u8) := by
  unfold byteCells nm
  rw [List.map_map]
  rfl

/-- 'append(b, s...)', b the call's own and not nil, s a string. -/
theorem run_append_str (w : World) (base : Nat) (ty : TypeId) (g cap : Nat) (xs : List Int) (s : ByteArray) (hown : Own w base (.slice (some ⟨g, 0, none⟩) xs.length cap) xs)
    (hlen : xs.length + s.size ≤ 10000000) (hbase : base ≤ w.heap.size) :
    ∃ v' w', (Builtin.append_ #[35, 9] ty #[.slice (some ⟨g, 0, none⟩) xs.length cap, .string s]).run Tryz.prog w = .ok v' w' ∧ Own w' base v' (xs ++ nm s) ∧ w.grownBy w' (some g) ∧ (v'.ownBlock = some g ∨ v'.ownBlock = some w.heap.size) := by
  obtain ⟨i0, hi, hz0, hz1, hz2⟩ := info_parts Tryz.infoByte
  have hsrc := Src.ofString (P := Tryz.prog) w (tx := 9) Tryz.underlying9 s
  have hnl : (byteCells s).length = s.size := byteCells_length s
  have hll : (xs ++ nm s).length = xs.length + s.size := by rw [List.length_append, nm_length]
  have hcs' : (xs.map (Value.int .u8) ++ byteCells s) = (xs ++ nm s).map (Value.int .u8) := by rw [byteCells_nm, List.map_append]
  rcases hown.2 with ⟨h', _⟩ | ⟨g', cap', cur, h', hbg, hg, hnc, hcm, hcs, htake⟩
  · simp at h'
  · simp only [Value.slice.injEq, Option.some.injEq, Addr.mk.injEq, and_true, true_and] at h'
    obtain ⟨rfl, rfl⟩ := h'
    rw [Nat.mul_one] at hcs htake
    by_cases hroom : xs.length + s.size ≤ cap
    · have hst := run_storeCells_at Tryz.prog g (xs.length * 1) 5 (byteCells s) 0 cur w hg (by rw [hnl, hcs]; omega) hsrc.one
      simp only [Nat.add_zero] at hst
      have hr : (Builtin.append_ #[35, 9] ty #[.slice (some ⟨g, 0, none⟩) xs.length cap, .string s]).run Tryz.prog w =
          .ok (.slice (some ⟨g, 0, none⟩) (xs.length + s.size) cap) (w.setRow g (cur.toList.take (xs.length * 1) ++ byteCells s ++ cur.toList.drop (xs.length * 1 + (byteCells s).length)).toArray) := by
        simp [Builtin.append_, run_underlying Tryz.underlying35, run_underlying Tryz.underlying9, sizeOf, typeInfo, hi, hz1, hsrc.len, hroom, hsrc.cells, Addr.add_lit] at hst ⊢
        simp [hst]
      refine ⟨_, _, hr, ⟨by simp, .inr ⟨g, cap, _, by rw [hll], hbg, setRow_heap w g cur _ 5 _ hg, by rw [hll]; exact hroom, hcm, ?_, ?_⟩⟩, ⟨rfl, rfl, rfl, by simp, fun k _ hk => setRow_other w g k _ (fun e => hk (by simp [e]))⟩, .inl rfl⟩
      · simp only [List.size_toArray, List.length_append, List.length_take, List.length_drop, Array.length_toList, hnl]
        omega
      · show List.take ((xs ++ nm s).length * 1) (List.take (xs.length * 1) cur.toList ++ byteCells s ++ List.drop (xs.length * 1 + (byteCells s).length) cur.toList) = _
        rw [Nat.mul_one, Nat.mul_one, htake, hcs']
        have : (xs ++ nm s).length = ((xs ++ nm s).map (Value.int .u8)).length := by rw [List.length_map]
        rw [this]
        exact List.take_left
    · have holds : ∀ j u, (xs.map (Value.int .u8))[j]? = some u → w.drew.cell? ((⟨g, 0, none⟩ : Addr).add j) = some u := by
        intro j u hj
        have := hown.cells (g := g) rfl j u hj
        simpa using this
      have hold := run_firstCells_some (P := Tryz.prog) w.drew i0.size xs.length ⟨g, 0, none⟩ xs.length cap (xs.map (Value.int .u8)) (by rw [hz1]; simp) holds
      have hsrc' : Src Tryz.prog i0.size 9 (.string s) s.size (byteCells s) w := by rw [hz1]; exact hsrc
      have hr := run_append_grow_src (P := Tryz.prog) w 35 9 ty 5 i0 (.int .u8 0) Tryz.underlying35 hi hz0 (some ⟨g, 0, none⟩) xs.length cap _ hold (.string s) s.size (byteCells s) hsrc' (by omega) (by omega) (by
        have := growslice_fits (need := xs.length + s.size) (old := cap) (bytes := i0.bytes) (by omega) (by rw [hz2]; omega)
        exact this)
      have hge := grownCap_ge w (xs.length + s.size) cap 5
      have hcm' : grownCap w (xs.length + s.size) cap 5 ≤ maxLen := grownCap_le_maxLen w _ cap 5 (by unfold maxLen; omega)
      refine ⟨_, _, hr, ⟨by simp, .inr ⟨w.heap.size, _, _, by rw [hll], hbase, heap_alloc_new w.drew _, by rw [hll]; exact hge, hcm', ?_, ?_⟩⟩, ⟨rfl, rfl, rfl, by simp, fun k hk _ => _root_.Go.heap_alloc_old w.drew _ hk⟩, .inr rfl⟩
      · rw [hcs']
        simp only [Array.size_append, List.size_toArray, size_zeroCells, List.length_map, hll, Value.cells]
        simp
        omega
      · rw [hcs']
        simp only [Array.toList_append]
        have : (xs ++ nm s).length * 1 = ((xs ++ nm s).map (Value.int .u8)).length := by rw [List.length_map, Nat.mul_one]
        rw [this]
        exact List.take_left

/-- .. for the walk. -/
theorem wpList_append_str {w : World} {ops : Array Oper} {rest : List Oper} {o : Oper} {a : Act} {Q : Exit → Act → World → Prop} (hgd : o.guard = none) (s x : Operand)
    (ho : o.op = .call { callee := .builtin .append, args := #[s, x], argTypes := #[35, 9] }) (base g len cap : Nat) (xs : List Int) (str : ByteArray) (hl : xs.length = len) (hs : a.eval s = .slice (some ⟨g, 0, none⟩) len cap) (hx : a.eval x = .string str)
    (hown : Own w base (.slice (some ⟨g, 0, none⟩) len cap) xs) (hlen : len + str.size ≤ 10000000) (hbase : base ≤ w.heap.size)
    (h : ∀ g' cap' w', Own w' base (.slice (some ⟨g', 0, none⟩) (len + str.size) cap') (xs ++ nm str) → w.grownBy w' (some g) → (g' = g ∨ g' = w.heap.size) → wpList Tryz.prog ops Q rest (a.put o.dst (.slice (some ⟨g', 0, none⟩) (len + str.size) cap')) w') : wpList Tryz.prog ops Q (o :: rest) a w := by
  subst hl
  obtain ⟨v', w', hr, h1, h2, h3⟩ := run_append_str w base o.type g cap xs str hown hlen hbase
  have hv : ∃ g' cap', v' = .slice (some ⟨g', 0, none⟩) (xs.length + str.size) cap' := by
    rcases h1.2 with ⟨rfl, _⟩ | ⟨g', cap', cur, hv, _⟩
    · simp [Value.ownBlock] at h3
    · exact ⟨g', cap', by rw [hv, List.length_append, nm_length]⟩
  obtain ⟨g', cap', rfl⟩ := hv
  refine wpList_plain hgd fun K hK => ?_
  unfold Oper.wp execOp
  simp only [ho, resolve, invoke, builtin, Sem.run_bind, Sem.run_pure, Result.andThen_ok, List.map_toArray, List.map_cons, List.map_nil, hs, hx, hr]
  exact hK _ _ (h g' cap' w' h1 h2 (by simpa [Value.ownBlock] using h3))

/-- 'append(b, n)', b the call's own and not nil: the literal's row lies at 'ad'. -/
theorem wpList_append_one {w : World} {ops : Array Oper} {rest : List Oper} {o : Oper} {a : Act} {Q : Exit → Act → World → Prop} (hgd : o.guard = none) (s x : Operand)
    (ho : o.op = .call { callee := .builtin .append, args := #[s, x], argTypes := #[35, 35] }) (base g len cap : Nat) (xs : List Int) (n : Int) (ad : Addr) (c : Nat) (hl : xs.length = len) (hs : a.eval s = .slice (some ⟨g, 0, none⟩) len cap) (hx : a.eval x = .slice (some ad) 1 c)
    (hown : Own w base (.slice (some ⟨g, 0, none⟩) len cap) xs) (hc : w.cell? ad = some (.int .u8 n)) (hlen : len + 1 ≤ 10000000) (hbase : base ≤ w.heap.size)
    (h : ∀ g' cap' w', Own w' base (.slice (some ⟨g', 0, none⟩) (len + 1) cap') (xs ++ [n]) → w.grownBy w' (some g) → (g' = g ∨ g' = w.heap.size) → wpList Tryz.prog ops Q rest (a.put o.dst (.slice (some ⟨g', 0, none⟩) (len + 1) cap')) w') : wpList Tryz.prog ops Q (o :: rest) a w := by
  subst hl
  obtain ⟨i0, hi, hz0, hz1, hz2⟩ := info_parts Tryz.infoByte
  refine wpList_append_own_at _ hgd s x 35 ho base 5 i0 (.int .u8 0) 1 1 Tryz.underlying35 hi hz0 hz1 hz2 rfl (by decide) _ xs.length _ hs hown ad 1 c [.int .u8 n] hx rfl ?_ (ints_oneCell .u8 [n]) (by unfold maxLen; omega) (by omega) hbase ?_
  · intro j u hj
    match j, hj with
    | 0, hj => simp at hj; subst hj; simpa [Addr.add] using hc
  · intro v' w' h1 h2 _ h4
    have hv : ∃ g' cap', v' = .slice (some ⟨g', 0, none⟩) (xs.length + 1) cap' := by
      rcases h1.2 with ⟨rfl, _⟩ | ⟨g', cap', cur, hv, _⟩
      · simp [Value.ownBlock] at h4
      · exact ⟨g', cap', hv⟩
    obtain ⟨g', cap', rfl⟩ := hv
    refine h g' cap' w' ?_ (by simpa [Value.ownBlock] using h2) (by simpa [Value.ownBlock] using h4)
    unfold Own
    simpa using h1

/-- 'append(p, n)' of numbers, p the call's own, nil too. -/
theorem wpList_append_num {w : World} {ops : Array Oper} {rest : List Oper} {o : Oper} {a : Act} {Q : Exit → Act → World → Prop} (hgd : o.guard = none) (s x : Operand)
    (ho : o.op = .call { callee := .builtin .append, args := #[s, x], argTypes := #[47, 47] }) (base : Nat) (v : Value) (xs : List Int) (n : Int) (ad : Addr) (c : Nat) (hs : a.eval s = v) (hx : a.eval x = .slice (some ad) 1 c)
    (hown : OwnI w base v xs) (hc : w.cell? ad = some (.int .i64 n)) (hlen : xs.length + 1 ≤ 10000000) (hbase : base ≤ w.heap.size)
    (h : ∀ v' w', OwnI w' base v' (xs ++ [n]) → w.grownBy w' v.ownBlock → (v'.ownBlock = v.ownBlock ∨ v'.ownBlock = some w.heap.size) → wpList Tryz.prog ops Q rest (a.put o.dst v') w') : wpList Tryz.prog ops Q (o :: rest) a w := by
  obtain ⟨i0, hi, hz0, hz1, hz2⟩ := info_parts Tryz.infoInt
  refine wpList_append_own_at _ hgd s x 47 ho base 3 i0 (.int .i64 0) 1 8 Tryz.underlying47 hi hz0 hz1 hz2 rfl (by decide) v xs.length _ hs hown ad 1 c [.int .i64 n] hx rfl ?_ (ints_oneCell .i64 [n]) (by unfold maxLen; omega) (by omega) hbase ?_
  · intro j u hj
    match j, hj with
    | 0, hj => simp at hj; subst hj; simpa [Addr.add] using hc
  · intro v' w' h1 h2 _ h4
    refine h v' w' ?_ h2 h4
    unfold OwnI
    simpa using h1

/-! ### Maps -/
open Go.Maps (Keyed string_keyed)
theorem keyLaw : Keyed Tryz.prog 9 := string_keyed Tryz.underlying9
theorem zeroInt (w : World) : (zeroValue 3).run Tryz.prog w = .ok (.int .i64 0) w := by kernel_rfl
abbrev OwnM (w : World) (b n : Nat) (D : DataW Unit) : Prop := w.ownsMap Tryz.prog 9 (plainElem Tryz.prog 3) b n D

/-- A map's literal is filled. -/
theorem wpList_insert_own {w : World} {ops : Array Oper} {rest : List Oper} {o : Oper} {a : Act} {Q : Exit → Act → World → Prop}
    (hg : o.guard = none) (m x v : Operand) (hop : o.op = Op.insert 156 m x v) (b n : Nat) (D : DataW Unit)
    (hm : a.eval m = .map (some b)) (hown : OwnM w b n D) (hn : n < maxLen) (key val : Value) (kl : Lit) (hx : a.eval x = key) (hv : a.eval v = val) (hkey : keyOf Tryz.prog 9 key = some kl)
    (d : DataW Unit) (ps : List MemPlace) (hval : plainElem Tryz.prog 3 val = some (d, ps))
    (hK : ∀ w', OwnM w' b (n + 1) (D.put kl d) → w.grownBy w' (some b) → wpList Tryz.prog ops Q rest (a.put o.dst undef) w') :
    wpList Tryz.prog ops Q (o :: rest) a w := by
  refine wpList_plain hg fun K' hK' => ?_
  obtain ⟨w', hrun, r1, r2⟩ := hown.update keyLaw Tryz.underlying156 hn hkey hval
  unfold Oper.wp
  simp [execOp, hop, hm, hx, hv, hrun, Result.andThen]
  exact hK' _ _ (hK w' r1 r2)

/-! ### What turns: the blocks S alone, of those that were there -/
structure Turn (S : Nat → Prop) (w w' : World) : Prop where
  os : w'.os = w.os
  tape : w'.tape = w.tape
  output : w'.output = w.output
  size : w.heap.size ≤ w'.heap.size
  block : ∀ k, k < w.heap.size → ¬ S k → w'.heap[k]? = w.heap[k]?
theorem Turn.refl (S : Nat → Prop) (w : World) : Turn S w w := ⟨rfl, rfl, rfl, Nat.le_refl _, fun _ _ _ => rfl⟩
theorem Turn.trans {S S' : Nat → Prop} {a b c : World} (h : Turn S a b) (k : Turn S' b c) (hs : ∀ i, S' i → S i ∨ a.heap.size ≤ i) : Turn S a c :=
  ⟨k.os.trans h.os, k.tape.trans h.tape, k.output.trans h.output, Nat.le_trans h.size k.size, fun i hi hn => (k.block i (Nat.lt_of_lt_of_le hi h.size) (fun hs' => by rcases hs i hs' with e | e; exact hn e; omega)).trans (h.block i hi hn)⟩
theorem Turn.of_kept (S : Nat → Prop) {w w' : World} (h : Kept w w') : Turn S w w' := ⟨h.os, h.tape, h.output, h.size, fun k hk _ => h.block k hk⟩
theorem Turn.kept {S : Nat → Prop} {a b c : World} (h : Turn S a b) (k : Kept b c) : Turn S a c := h.trans (Turn.of_kept (fun _ => False) k) (fun _ e => e.elim)
theorem Turn.below {S : Nat → Prop} {w w' : World} {B : Nat} (h : Turn S w w') (hB : B ≤ w.heap.size) (hS : ∀ k, S k → B ≤ k) : Below B w w' :=
  ⟨h.os, h.tape, h.output, h.size, fun k hk => h.block k (by omega) (fun e => by have := hS k e; omega)⟩
theorem Turn.cell {S : Nat → Prop} {w w' : World} (h : Turn S w w') {a : Addr} {v : Value} (hc : w.cell? a = some v) (hn : ¬ S a.block) : w'.cell? a = some v :=
  (World.cell?_of_block (w := w) (h.block a.block (block_lt_of_cell hc) hn)).trans hc
theorem Turn.frozen {S : Nat → Prop} {w w' : World} (h : Turn S w w') {a : Addr} (hl : a.block < w.heap.size) (hn : ¬ S a.block) : w'.frozen? a = w.frozen? a :=
  World.frozen?_of_block (w := w) (h.block a.block hl hn)
theorem Turn.row {S : Nat → Prop} {w w' : World} {base : Nat} {e : TypeId} {c n : Nat} {v : Value} {l : List Value} (h : w.ownsRow base e c v n l) (k : Turn S w w') (hn : ∀ g, v.ownBlock = some g → ¬ S g) : w'.ownsRow base e c v n l := by
  have hlt := h.lt
  refine ⟨h.1, ?_⟩
  rcases h.2 with h' | ⟨g, cap, cur, rfl, hb, hg, rest⟩
  · exact .inl h'
  · exact .inr ⟨g, cap, cur, rfl, hb, (k.block g (hlt g rfl).2 (hn g rfl)).trans hg, rest⟩
theorem Turn.set {S : Nat → Prop} {a w : World} (h : Turn S a w) (p : Addr) (u : Value) (hp : S p.block ∨ a.heap.size ≤ p.block) : Turn S a (w.setCell p u) :=
  ⟨h.os, h.tape, h.output, by simpa using h.size, fun k hk hn => by
    have hne : p.block ≠ k := fun e => by rcases hp with hp | hp; exact hn (e ▸ hp); omega
    rw [← h.block k hk hn]
    simp only [World.setCell, Array.getElem?_modify, if_neg hne]⟩
theorem Turn.grown {S : Nat → Prop} {a w w' : World} {g : Nat} (h : Turn S a w) (hg : w.grownBy w' (some g)) (hp : S g ∨ a.heap.size ≤ g) : Turn S a w' :=
  ⟨hg.os.trans h.os, hg.tape.trans h.tape, hg.output.trans h.output, Nat.le_trans h.size hg.size, fun k hk hn => by
    have hne : some k ≠ some g := fun e => by injection e with e; rcases hp with hp | hp; exact hn (e ▸ hp); omega
    exact (hg.block k (Nat.lt_of_lt_of_le hk h.size) hne).trans (h.block k hk hn)⟩
theorem Turn.alloc {S : Nat → Prop} {a w : World} (h : Turn S a w) (o : Obj) : Turn S a (w.alloc o) := h.kept (Kept.alloc _ _)

/-! ### Rows of heads -/
def hsC (hs : List (List Int)) : List Value := hs.flatMap fun h => h.map (Value.int .i64)
abbrev OwnH (w : World) (base : Nat) (v : Value) (hs : List (List Int)) : Prop := w.ownsRow base 53 10 v hs.length (hsC hs)
theorem hsC_append (a b : List (List Int)) : hsC (a ++ b) = hsC a ++ hsC b := by unfold hsC; rw [List.flatMap_append]
theorem hsC_length {hs : List (List Int)} (h : ∀ v ∈ hs, v.length = 10) : (hsC hs).length = hs.length * 10 := by
  induction hs with
  | nil => rfl
  | cons a t ih =>
    rw [show a :: t = [a] ++ t from rfl, hsC_append, List.length_append, ih (fun v hv => h v (by simp [hv]))]
    have := h a (by simp)
    simp [hsC, this]
    omega
theorem hsC_at {hs : List (List Int)} (h : ∀ v ∈ hs, v.length = 10) {i j : Nat} (hi : i < hs.length) (hj : j < 10) : (hsC hs)[i * 10 + j]? = some (.int .i64 ((hs.getD i []).getD j 0)) := by
  induction hs generalizing i with
  | nil => simp at hi
  | cons a t ih =>
    have ha := h a (by simp)
    rw [show a :: t = [a] ++ t from rfl, hsC_append]
    have hla : (hsC [a]).length = 10 := by simp [hsC, ha]
    match i with
    | 0 =>
      rw [List.getElem?_append_left (by omega), List.singleton_append, List.getD_cons_zero]
      simp [hsC, ha, hj, List.getD]
    | i + 1 =>
      rw [List.getElem?_append_right (by omega), hla, show (i + 1) * 10 + j - 10 = i * 10 + j by omega, ih (fun v hv => h v (by simp [hv])) (by simpa using hi)]
      rfl
/-- A head's number, set. -/
def setH (hs : List (List Int)) (i j : Nat) (x : Int) : List (List Int) := hs.set i ((hs.getD i []).set j x)
theorem setH_length (hs : List (List Int)) (i j : Nat) (x : Int) : (setH hs i j x).length = hs.length := by simp [setH]
theorem setH_ten {hs : List (List Int)} (h : ∀ v ∈ hs, v.length = 10) {i : Nat} (hi : i < hs.length) (j : Nat) (x : Int) : ∀ v ∈ setH hs i j x, v.length = 10 := by
  intro v hv
  rcases List.mem_or_eq_of_mem_set hv with hv | rfl
  · exact h v hv
  · rw [List.length_set]; exact h _ (getD_in hi _)
theorem hsC_set {hs : List (List Int)} (h : ∀ v ∈ hs, v.length = 10) {i j : Nat} (hi : i < hs.length) (hj : j < 10) (x : Int) : (hsC hs).set (i * 10 + j) (.int .i64 x) = hsC (setH hs i j x) := by
  induction hs generalizing i with
  | nil => simp at hi
  | cons a t ih =>
    have ha := h a (by simp)
    have hla : (hsC [a]).length = 10 := by simp [hsC, ha]
    match i with
    | 0 =>
      have e : setH (a :: t) 0 j x = [a.set j x] ++ t := by simp [setH]
      rw [e, hsC_append, show a :: t = [a] ++ t from rfl, hsC_append, List.set_append_left _ _ (by omega)]
      congr 1
      simp [hsC, List.map_set]
    | i + 1 =>
      have e : setH (a :: t) (i + 1) j x = [a] ++ setH t i j x := by simp [setH]
      rw [e, hsC_append, show a :: t = [a] ++ t from rfl, hsC_append, List.set_append_right _ _ (by omega), hla, show (i + 1) * 10 + j - 10 = i * 10 + j by omega, ih (fun v hv => h v (by simp [hv])) (by simpa using hi)]

/-! ### Appends, with where the new slice lies -/
set_option maxRecDepth 20000 in
/-- 'append(s, b...)' of bytes: nil, empty or not. -/
theorem wpList_append_bytA {w : World} {ops : Array Oper} {rest : List Oper} {o : Oper} {a : Act} {Q : Exit → Act → World → Prop} (hgd : o.guard = none) (s x : Operand)
    (ho : o.op = .call { callee := .builtin .append, args := #[s, x], argTypes := #[35, 35] }) (base g len cap : Nat) (xs l : List Int) (ao : Option Addr) (m c : Nat) (hl : xs.length = len) (hm : l.length = m) (hs : a.eval s = .slice (some ⟨g, 0, none⟩) len cap) (hx : a.eval x = .slice ao m c)
    (hown : Own w base (.slice (some ⟨g, 0, none⟩) len cap) xs) (hb : Byt w ao l) (hnil : ao = none → m = 0 ∧ c = 0) (hlen : len + m ≤ 10000000) (hbase : base ≤ w.heap.size)
    (h : ∀ g' cap' w', Own w' base (.slice (some ⟨g', 0, none⟩) (len + m) cap') (xs ++ l) → w.grownBy w' (some g) → (g' = g ∨ g' = w.heap.size) → wpList Tryz.prog ops Q rest (a.put o.dst (.slice (some ⟨g', 0, none⟩) (len + m) cap')) w') : wpList Tryz.prog ops Q (o :: rest) a w := by
  subst hl
  subst hm
  obtain ⟨i0, hi, hz0, hz1, hz2⟩ := info_parts Tryz.infoByte
  cases ao with
  | none =>
    obtain ⟨h1, rfl⟩ := hnil rfl
    obtain rfl : l = [] := List.eq_nil_of_length_eq_zero h1
    refine wpList_append_own_none hgd s x 35 ho base 5 i0 1 Tryz.underlying35 hi _ xs.length _ hs hown hx ?_
    exact h g cap w (by simpa using hown) (World.grownBy.refl w _) (.inl rfl)
  | some ad =>
    refine wpList_append_own_at _ hgd s x 35 ho base 5 i0 (.int .u8 0) 1 1 Tryz.underlying35 hi hz0 hz1 hz2 rfl (by decide) _ xs.length _ hs hown ad l.length c (l.map (Value.int .u8)) hx (by simp) ?_ (ints_oneCell .u8 l) (by unfold maxLen; omega) (by omega) hbase ?_
    · intro j u hj
      have hjl : j < l.length := by simpa using (List.getElem?_eq_some_iff.1 hj).1
      rcases hb with rfl | ⟨b, off, e0, hc⟩
      · simp at hjl
      · injection e0 with e0
        subst e0
        have e : (⟨b, off, none⟩ : Addr).add j = ⟨b, off + j, none⟩ := by unfold Addr.add; split <;> simp_all
        rw [e, hc j hjl, ← hj]
        simp [List.getD, hjl]
    · intro v' w' h1 h2 _ h4
      have hv : ∃ g' cap', v' = .slice (some ⟨g', 0, none⟩) (xs.length + l.length) cap' := by
        rcases h1.2 with ⟨rfl, _⟩ | ⟨g', cap', cur, hv, _⟩
        · simp [Value.ownBlock] at h4
        · exact ⟨g', cap', hv⟩
      obtain ⟨g', cap', rfl⟩ := hv
      refine h g' cap' w' ?_ (by simpa [Value.ownBlock] using h2) (by simpa [Value.ownBlock] using h4)
      unfold Own
      simpa using h1
set_option maxRecDepth 20000 in
theorem Tryz.infoHead : (Tryz.prog.info? 53).map (fun i => (i.zero, i.size, i.bytes)) = some (some (.agg #[.int .i64 0, .int .i64 0, .int .i64 0, .int .i64 0, .int .i64 0, .int .i64 0, .int .i64 0, .int .i64 0, .int .i64 0, .int .i64 0]), 10, 80) := by kernel_rfl
set_option maxRecDepth 20000 in
/-- 'append(heads, h)'. -/
theorem wpList_append_headA {w : World} {ops : Array Oper} {rest : List Oper} {o : Oper} {a : Act} {Q : Exit → Act → World → Prop} (hgd : o.guard = none) (s x : Operand)
    (ho : o.op = .call { callee := .builtin .append, args := #[s, x], argTypes := #[58, 58] }) (base g len cap : Nat) (hs : List (List Int)) (v : List Int) (ad : Addr) (c : Nat) (hl : hs.length = len) (hv : v.length = 10) (hes : a.eval s = .slice (some ⟨g, 0, none⟩) len cap) (hx : a.eval x = .slice (some ad) 1 c)
    (hown : OwnH w base (.slice (some ⟨g, 0, none⟩) len cap) hs) (hc : ∀ j, j < 10 → w.cell? (ad.add j) = some (.int .i64 (v.getD j 0))) (hlen : len ≤ 10000) (hbase : base ≤ w.heap.size)
    (h : ∀ g' cap' w', OwnH w' base (.slice (some ⟨g', 0, none⟩) (len + 1) cap') (hs ++ [v]) → w.grownBy w' (some g) → (g' = g ∨ g' = w.heap.size) → wpList Tryz.prog ops Q rest (a.put o.dst (.slice (some ⟨g', 0, none⟩) (len + 1) cap')) w') : wpList Tryz.prog ops Q (o :: rest) a w := by
  subst hl
  obtain ⟨i0, hi, hz0, hz1, hz2⟩ := info_parts Tryz.infoHead
  refine wpList_append_own_at _ hgd s x 58 ho base 53 i0 _ 10 80 Tryz.underlying58 hi hz0 hz1 hz2 rfl (by decide) _ hs.length _ hes hown ad 1 c (v.map (Value.int .i64)) hx (by simp [hv]) ?_ (ints_oneCell .i64 v) (by unfold maxLen; omega) (by omega) hbase ?_
  · intro j u hj
    have hjl : j < 10 := by have := (List.getElem?_eq_some_iff.1 hj).1; simpa [hv] using this
    rw [hc j hjl, ← hj]
    simp [List.getD, hjl, hv]
  · intro v' w' h1 h2 _ h4
    have hv' : ∃ g' cap', v' = .slice (some ⟨g', 0, none⟩) (hs.length + 1) cap' := by
      rcases h1.2 with ⟨rfl, _⟩ | ⟨g', cap', cur, hv, _⟩
      · simp [Value.ownBlock] at h4
      · exact ⟨g', cap', hv⟩
    obtain ⟨g', cap', rfl⟩ := hv'
    refine h g' cap' w' ?_ (by simpa [Value.ownBlock] using h2) (by simpa [Value.ownBlock] using h4)
    unfold OwnH
    rw [hsC_append, List.length_append]
    simpa [hsC] using h1
set_option maxRecDepth 20000 in
/-- 'append(names, s)'. -/
theorem wpList_append_nameA {w : World} {ops : Array Oper} {rest : List Oper} {o : Oper} {a : Act} {Q : Exit → Act → World → Prop} (hgd : o.guard = none) (s x : Operand)
    (ho : o.op = .call { callee := .builtin .append, args := #[s, x], argTypes := #[59, 59] }) (base g len cap : Nat) (xs : List ByteArray) (str : ByteArray) (ad : Addr) (c : Nat) (hl : xs.length = len) (hs : a.eval s = .slice (some ⟨g, 0, none⟩) len cap) (hx : a.eval x = .slice (some ad) 1 c)
    (hown : OwnS w base (.slice (some ⟨g, 0, none⟩) len cap) xs) (hc : w.cell? ad = some (.string str)) (hlen : len + 1 ≤ 1000000) (hbase : base ≤ w.heap.size)
    (h : ∀ g' cap' w', OwnS w' base (.slice (some ⟨g', 0, none⟩) (len + 1) cap') (xs ++ [str]) → w.grownBy w' (some g) → (g' = g ∨ g' = w.heap.size) → wpList Tryz.prog ops Q rest (a.put o.dst (.slice (some ⟨g', 0, none⟩) (len + 1) cap')) w') : wpList Tryz.prog ops Q (o :: rest) a w := by
  subst hl
  obtain ⟨i0, hi, hz0, hz1, hz2⟩ := info_parts Tryz.infoStr
  refine wpList_append_own_at _ hgd s x 59 ho base 9 i0 (.string ByteArray.empty) 1 16 Tryz.underlying59 hi hz0 hz1 hz2 rfl (by decide) _ xs.length _ hs hown ad 1 c [.string str] hx rfl ?_ (strs_oneCell [str]) (by unfold maxLen; omega) (by omega) hbase ?_
  · intro j u hj
    match j, hj with
    | 0, hj => simp at hj; subst hj; simpa [Addr.add] using hc
  · intro v' w' h1 h2 _ h4
    have hv' : ∃ g' cap', v' = .slice (some ⟨g', 0, none⟩) (xs.length + 1) cap' := by
      rcases h1.2 with ⟨rfl, _⟩ | ⟨g', cap', cur, hv, _⟩
      · simp [Value.ownBlock] at h4
      · exact ⟨g', cap', hv⟩
    obtain ⟨g', cap', rfl⟩ := hv'
    refine h g' cap' w' ?_ (by simpa [Value.ownBlock] using h2) (by simpa [Value.ownBlock] using h4)
    unfold OwnS
    simpa using h1

/-- A file under way: where its parts lie, and what they are. -/
structure FSt where
  gb : Nat
  cb : Nat
  gh : Nat
  ch : Nat
  gn : Nat
  cn : Nat
  vt : Value
  b : List Int
  hs : List (List Int)
  ns : List ByteArray
  sy : Int
  tb : List Int
  e : Int
def FS (fb : Nat) (σ : FSt) (k : Nat) : Prop := k = fb ∨ k = σ.gb ∨ k = σ.gh ∨ k = σ.gn
structure FileOk (B : Nat) (w : World) (fb : Nat) (σ : FSt) : Prop where
  c0 : w.cell? ⟨fb, 0, none⟩ = some (.slice (some ⟨σ.gb, 0, none⟩) σ.b.length σ.cb)
  c1 : w.cell? ⟨fb, 1, none⟩ = some (.slice (some ⟨σ.gh, 0, none⟩) σ.hs.length σ.ch)
  c2 : w.cell? ⟨fb, 2, none⟩ = some (.slice (some ⟨σ.gn, 0, none⟩) σ.ns.length σ.cn)
  c3 : w.cell? ⟨fb, 3, none⟩ = some (.int .i64 σ.sy)
  c4 : w.cell? ⟨fb, 4, none⟩ = some σ.vt
  c5 : w.cell? ⟨fb, 5, none⟩ = some (.int .i64 σ.e)
  f0 : w.frozen? ⟨fb, 0, none⟩ = false
  f1 : w.frozen? ⟨fb, 1, none⟩ = false
  f2 : w.frozen? ⟨fb, 2, none⟩ = false
  f3 : w.frozen? ⟨fb, 3, none⟩ = false
  f4 : w.frozen? ⟨fb, 4, none⟩ = false
  f5 : w.frozen? ⟨fb, 5, none⟩ = false
  ob : Own w B (.slice (some ⟨σ.gb, 0, none⟩) σ.b.length σ.cb) σ.b
  oh : OwnH w B (.slice (some ⟨σ.gh, 0, none⟩) σ.hs.length σ.ch) σ.hs
  on : OwnS w B (.slice (some ⟨σ.gn, 0, none⟩) σ.ns.length σ.cn) σ.ns
  ot : Own w B σ.vt σ.tb
  h10 : ∀ v ∈ σ.hs, v.length = 10
  d1 : σ.gb ≠ fb ∧ σ.gb ≠ σ.gh ∧ σ.gb ≠ σ.gn ∧ σ.vt.ownBlock ≠ some σ.gb
  d2 : σ.gh ≠ fb ∧ σ.gh ≠ σ.gn ∧ σ.vt.ownBlock ≠ some σ.gh
  d3 : σ.gn ≠ fb ∧ σ.vt.ownBlock ≠ some σ.gn
  d4 : σ.vt.ownBlock ≠ some fb
  hB : B ≤ fb
theorem FileOk.lt {B : Nat} {w : World} {fb : Nat} {σ : FSt} (h : FileOk B w fb σ) : ∀ k, FS fb σ k → B ≤ k ∧ k < w.heap.size := by
  intro k hk
  rcases hk with rfl | rfl | rfl | rfl
  · exact ⟨h.hB, block_lt_of_cell h.c0⟩
  · exact h.ob.lt _ rfl
  · exact h.oh.lt _ rfl
  · exact h.on.lt _ rfl
/-- Other blocks turn. -/
theorem FileOk.turn {B : Nat} {w w' : World} {fb : Nat} {σ : FSt} (h : FileOk B w fb σ) {S : Nat → Prop} (t : Turn S w w') (hS : ∀ k, FS fb σ k ∨ σ.vt.ownBlock = some k → ¬ S k) : FileOk B w' fb σ := by
  have hfb : ¬ S fb := hS fb (.inl (.inl rfl))
  have hl : fb < w.heap.size := block_lt_of_cell h.c0
  exact ⟨t.cell h.c0 hfb, t.cell h.c1 hfb, t.cell h.c2 hfb, t.cell h.c3 hfb, t.cell h.c4 hfb, t.cell h.c5 hfb,
    (t.frozen hl hfb).trans h.f0, (t.frozen hl hfb).trans h.f1, (t.frozen hl hfb).trans h.f2, (t.frozen hl hfb).trans h.f3, (t.frozen hl hfb).trans h.f4, (t.frozen hl hfb).trans h.f5,
    t.row h.ob (fun g e => by injection e with e; subst e; exact hS _ (.inl (.inr (.inl rfl)))),
    t.row h.oh (fun g e => by injection e with e; subst e; exact hS _ (.inl (.inr (.inr (.inl rfl))))),
    t.row h.on (fun g e => by injection e with e; subst e; exact hS _ (.inl (.inr (.inr (.inr rfl))))),
    t.row h.ot (fun g e => hS g (.inr e)), h.h10, h.d1, h.d2, h.d3, h.d4, h.hB⟩
theorem FileOk.kept {B : Nat} {w w' : World} {fb : Nat} {σ : FSt} (h : FileOk B w fb σ) (k : Kept w w') : FileOk B w' fb σ :=
  h.turn (Turn.of_kept (fun _ => False) k) (fun _ _ e => e)
/-- From one state to another. -/
structure Went (B fb : Nat) (σ : FSt) (w : World) (σ' : FSt) (w' : World) : Prop where
  ok : FileOk B w' fb σ'
  turn : Turn (FS fb σ) w w'
  new : ∀ k, FS fb σ' k → FS fb σ k ∨ w.heap.size ≤ k
theorem Went.refl {B fb : Nat} {σ : FSt} {w : World} (h : FileOk B w fb σ) : Went B fb σ w σ w := ⟨h, Turn.refl _ _, fun _ hk => .inl hk⟩
theorem Went.trans {B fb : Nat} {a b c : FSt} {w x y : World} (h : Went B fb a w b x) (k : Went B fb b x c y) : Went B fb a w c y :=
  ⟨k.ok, h.turn.trans k.turn h.new, fun i hi => by
    rcases k.new i hi with e | e
    · exact h.new i e
    · exact .inr (Nat.le_trans h.turn.size e)⟩
theorem Went.kept {B fb : Nat} {a b : FSt} {w x y : World} (h : Went B fb a w b x) (k : Kept x y) : Went B fb a w b y := ⟨h.ok.kept k, h.turn.kept k, h.new⟩
/-- A block that is none of the file's stays so. -/
theorem Went.not {B fb : Nat} {a b : FSt} {w x : World} (h : Went B fb a w b x) {k : Nat} (hk : k < w.heap.size) (hn : ¬ FS fb a k) : ¬ FS fb b k := fun e => by
  rcases h.new k e with e | e
  · exact hn e
  · omega
theorem Went.below {B fb : Nat} {a b : FSt} {w x : World} (h : Went B fb a w b x) (ha : FileOk B w fb a) : Below B w x :=
  h.turn.below (Nat.le_trans ha.hB (Nat.le_of_lt (block_lt_of_cell ha.c0))) (fun k hk => (ha.lt k hk).1)

/-! ### The bytes grow -/
theorem FileOk.bytes {B : Nat} {w w' : World} {fb : Nat} {σ : FSt} (h : FileOk B w fb σ) {g' n cap' : Nat} {l : List Int} (hn : (σ.b ++ l).length = n) (ho : Own w' B (.slice (some ⟨g', 0, none⟩) n cap') (σ.b ++ l)) (hg : w.grownBy w' (some σ.gb)) (hw : g' = σ.gb ∨ g' = w.heap.size) :
    Went B fb σ w { σ with gb := g', cb := cap', b := σ.b ++ l } (w'.setCell ⟨fb, 0, none⟩ (.slice (some ⟨g', 0, none⟩) n cap')) := by
  subst hn
  have hl : fb < w.heap.size := block_lt_of_cell h.c0
  have d1 := h.d1
  have hh : σ.gh < w.heap.size := (h.oh.lt _ rfl).2
  have hnn : σ.gn < w.heap.size := (h.on.lt _ rfl).2
  have hb : σ.gb < w.heap.size := (h.ob.lt _ rfl).2
  have hfb : fb ≠ σ.gb := fun e => d1.1 e.symm
  have k0 := grown_cell hg h.c0 hfb
  have k1 := grown_cell hg h.c1 hfb
  have k2 := grown_cell hg h.c2 hfb
  have k3 := grown_cell hg h.c3 hfb
  have k4 := grown_cell hg h.c4 hfb
  have k5 := grown_cell hg h.c5 hfb
  have hg' : g' ≠ fb := by rcases hw with rfl | rfl; exact d1.1; omega
  have hgh : g' ≠ σ.gh := by rcases hw with rfl | rfl; exact d1.2.1; omega
  have hgn : g' ≠ σ.gn := by rcases hw with rfl | rfl; exact d1.2.2.1; omega
  have hgt : σ.vt.ownBlock ≠ some g' := by
    rcases hw with rfl | rfl
    · exact d1.2.2.2
    · intro e
      have := (h.ot.lt _ e).2
      omega
  have fz : ∀ j, w.frozen? ⟨fb, j, none⟩ = false → (w'.setCell ⟨fb, 0, none⟩ (.slice (some ⟨g', 0, none⟩) (σ.b ++ l).length cap')).frozen? ⟨fb, j, none⟩ = false := fun j e => set_frozen ((grown_frozen hg hl hfb).trans e)
  refine ⟨⟨World.cell?_setCell_same _ _ _ k0, set_other k1 (by decide), set_other k2 (by decide), set_other k3 (by decide), set_other k4 (by decide), set_other k5 (by decide), fz 0 h.f0, fz 1 h.f1, fz 2 h.f2, fz 3 h.f3, fz 4 h.f4, fz 5 h.f5,
    row_far ho _ _ (fun g e => by injection e with e; subst e; exact fun e => hg' e.symm),
    row_far (World.ownsRow.kept h.oh hg (.inr (fun e => by injection e with e; exact d1.2.1 e.symm))) _ _ (fun g e => by injection e with e; subst e; exact fun e => h.d2.1 e.symm),
    row_far (World.ownsRow.kept h.on hg (.inr (fun e => by injection e with e; exact d1.2.2.1 e.symm))) _ _ (fun g e => by injection e with e; subst e; exact fun e => h.d3.1 e.symm),
    row_far (World.ownsRow.kept h.ot hg (.inr d1.2.2.2)) _ _ (fun g e e2 => h.d4 (by rw [e]; exact congrArg some e2.symm)),
    h.h10, ⟨hg', hgh, hgn, hgt⟩, h.d2, h.d3, h.d4, h.hB⟩, ?_, ?_⟩
  · exact ((Turn.refl _ _).grown hg (.inl (.inr (.inl rfl)))).set _ _ (.inl (.inl rfl))
  · intro k hk
    rcases hk with rfl | rfl | rfl | rfl
    · exact .inl (.inl rfl)
    · rcases hw with e | e
      · exact .inl (.inr (.inl e))
      · exact .inr (Nat.le_of_eq e.symm)
    · exact .inl (.inr (.inr (.inl rfl)))
    · exact .inl (.inr (.inr (.inr rfl)))
/-! ### The heads grow -/
theorem FileOk.heads {B : Nat} {w w' : World} {fb : Nat} {σ : FSt} (h : FileOk B w fb σ) {g' n cap' : Nat} {v : List Int} (hv : v.length = 10) (hn : σ.hs.length + 1 = n) (ho : OwnH w' B (.slice (some ⟨g', 0, none⟩) n cap') (σ.hs ++ [v])) (hg : w.grownBy w' (some σ.gh)) (hw : g' = σ.gh ∨ g' = w.heap.size) :
    Went B fb σ w { σ with gh := g', ch := cap', hs := σ.hs ++ [v] } (w'.setCell ⟨fb, 1, none⟩ (.slice (some ⟨g', 0, none⟩) n cap')) := by
  have hn' : (σ.hs ++ [v]).length = n := by simpa using hn
  subst hn'
  have hl : fb < w.heap.size := block_lt_of_cell h.c0
  have d1 := h.d1
  have d2 := h.d2
  have hh : σ.gh < w.heap.size := (h.oh.lt _ rfl).2
  have hnn : σ.gn < w.heap.size := (h.on.lt _ rfl).2
  have hb : σ.gb < w.heap.size := (h.ob.lt _ rfl).2
  have hfb : fb ≠ σ.gh := fun e => d2.1 e.symm
  have k0 := grown_cell hg h.c0 hfb
  have k1 := grown_cell hg h.c1 hfb
  have k2 := grown_cell hg h.c2 hfb
  have k3 := grown_cell hg h.c3 hfb
  have k4 := grown_cell hg h.c4 hfb
  have k5 := grown_cell hg h.c5 hfb
  have hg' : g' ≠ fb := by rcases hw with rfl | rfl; exact d2.1; omega
  have hgb : σ.gb ≠ g' := by rcases hw with rfl | rfl; exact d1.2.1; omega
  have hgn : g' ≠ σ.gn := by rcases hw with rfl | rfl; exact d2.2.1; omega
  have hgt : σ.vt.ownBlock ≠ some g' := by
    rcases hw with rfl | rfl
    · exact d2.2.2
    · intro e
      have := (h.ot.lt _ e).2
      omega
  have fz : ∀ j, w.frozen? ⟨fb, j, none⟩ = false → (w'.setCell ⟨fb, 1, none⟩ (.slice (some ⟨g', 0, none⟩) (σ.hs ++ [v]).length cap')).frozen? ⟨fb, j, none⟩ = false := fun j e => set_frozen ((grown_frozen hg hl hfb).trans e)
  refine ⟨⟨set_other k0 (by decide), World.cell?_setCell_same _ _ _ k1, set_other k2 (by decide), set_other k3 (by decide), set_other k4 (by decide), set_other k5 (by decide), fz 0 h.f0, fz 1 h.f1, fz 2 h.f2, fz 3 h.f3, fz 4 h.f4, fz 5 h.f5,
    row_far (World.ownsRow.kept h.ob hg (.inr (fun e => by injection e with e; exact d1.2.1 e))) _ _ (fun g e => by injection e with e; subst e; exact fun e => d1.1 e.symm),
    row_far ho _ _ (fun g e => by injection e with e; subst e; exact fun e => hg' e.symm),
    row_far (World.ownsRow.kept h.on hg (.inr (fun e => by injection e with e; exact d2.2.1 e.symm))) _ _ (fun g e => by injection e with e; subst e; exact fun e => h.d3.1 e.symm),
    row_far (World.ownsRow.kept h.ot hg (.inr d2.2.2)) _ _ (fun g e e2 => h.d4 (by rw [e]; exact congrArg some e2.symm)),
    ?_, ⟨d1.1, hgb, d1.2.2.1, d1.2.2.2⟩, ⟨hg', hgn, hgt⟩, h.d3, h.d4, h.hB⟩, ?_, ?_⟩
  · intro x hx
    rcases List.mem_append.1 hx with hx | hx
    · exact h.h10 x hx
    · rw [List.mem_singleton] at hx; rw [hx]; exact hv
  · exact ((Turn.refl _ _).grown hg (.inl (.inr (.inr (.inl rfl))))).set _ _ (.inl (.inl rfl))
  · intro k hk
    rcases hk with rfl | rfl | rfl | rfl
    · exact .inl (.inl rfl)
    · exact .inl (.inr (.inl rfl))
    · rcases hw with e | e
      · exact .inl (.inr (.inr (.inl e)))
      · exact .inr (Nat.le_of_eq e.symm)
    · exact .inl (.inr (.inr (.inr rfl)))
/-! ### The names grow -/
theorem FileOk.names {B : Nat} {w w' : World} {fb : Nat} {σ : FSt} (h : FileOk B w fb σ) {g' n cap' : Nat} {s : ByteArray} (hn : σ.ns.length + 1 = n) (ho : OwnS w' B (.slice (some ⟨g', 0, none⟩) n cap') (σ.ns ++ [s])) (hg : w.grownBy w' (some σ.gn)) (hw : g' = σ.gn ∨ g' = w.heap.size) :
    Went B fb σ w { σ with gn := g', cn := cap', ns := σ.ns ++ [s] } (w'.setCell ⟨fb, 2, none⟩ (.slice (some ⟨g', 0, none⟩) n cap')) := by
  have hn' : (σ.ns ++ [s]).length = n := by simpa using hn
  subst hn'
  have hl : fb < w.heap.size := block_lt_of_cell h.c0
  have d1 := h.d1
  have d2 := h.d2
  have d3 := h.d3
  have hh : σ.gh < w.heap.size := (h.oh.lt _ rfl).2
  have hnn : σ.gn < w.heap.size := (h.on.lt _ rfl).2
  have hb : σ.gb < w.heap.size := (h.ob.lt _ rfl).2
  have hfb : fb ≠ σ.gn := fun e => d3.1 e.symm
  have k0 := grown_cell hg h.c0 hfb
  have k1 := grown_cell hg h.c1 hfb
  have k2 := grown_cell hg h.c2 hfb
  have k3 := grown_cell hg h.c3 hfb
  have k4 := grown_cell hg h.c4 hfb
  have k5 := grown_cell hg h.c5 hfb
  have hg' : g' ≠ fb := by rcases hw with rfl | rfl; exact d3.1; omega
  have hgb : σ.gb ≠ g' := by rcases hw with rfl | rfl; exact d1.2.2.1; omega
  have hgh : σ.gh ≠ g' := by rcases hw with rfl | rfl; exact d2.2.1; omega
  have hgt : σ.vt.ownBlock ≠ some g' := by
    rcases hw with rfl | rfl
    · exact d3.2
    · intro e
      have := (h.ot.lt _ e).2
      omega
  have fz : ∀ j, w.frozen? ⟨fb, j, none⟩ = false → (w'.setCell ⟨fb, 2, none⟩ (.slice (some ⟨g', 0, none⟩) (σ.ns ++ [s]).length cap')).frozen? ⟨fb, j, none⟩ = false := fun j e => set_frozen ((grown_frozen hg hl hfb).trans e)
  refine ⟨⟨set_other k0 (by decide), set_other k1 (by decide), World.cell?_setCell_same _ _ _ k2, set_other k3 (by decide), set_other k4 (by decide), set_other k5 (by decide), fz 0 h.f0, fz 1 h.f1, fz 2 h.f2, fz 3 h.f3, fz 4 h.f4, fz 5 h.f5,
    row_far (World.ownsRow.kept h.ob hg (.inr (fun e => by injection e with e; exact d1.2.2.1 e))) _ _ (fun g e => by injection e with e; subst e; exact fun e => d1.1 e.symm),
    row_far (World.ownsRow.kept h.oh hg (.inr (fun e => by injection e with e; exact d2.2.1 e))) _ _ (fun g e => by injection e with e; subst e; exact fun e => d2.1 e.symm),
    row_far ho _ _ (fun g e => by injection e with e; subst e; exact fun e => hg' e.symm),
    row_far (World.ownsRow.kept h.ot hg (.inr d3.2)) _ _ (fun g e e2 => h.d4 (by rw [e]; exact congrArg some e2.symm)),
    h.h10, ⟨d1.1, d1.2.1, hgb, d1.2.2.2⟩, ⟨d2.1, hgh, d2.2.2⟩, ⟨hg', hgt⟩, h.d4, h.hB⟩, ?_, ?_⟩
  · exact ((Turn.refl _ _).grown hg (.inl (.inr (.inr (.inr rfl))))).set _ _ (.inl (.inl rfl))
  · intro k hk
    rcases hk with rfl | rfl | rfl | rfl
    · exact .inl (.inl rfl)
    · exact .inl (.inr (.inl rfl))
    · exact .inl (.inr (.inr (.inl rfl)))
    · rcases hw with e | e
      · exact .inl (.inr (.inr (.inr e)))
      · exact .inr (Nat.le_of_eq e.symm)
/-! ### A number of a head is set -/
theorem FileOk.head {B : Nat} {w : World} {fb : Nat} {σ : FSt} (h : FileOk B w fb σ) {i j : Nat} (hi : i < σ.hs.length) (hj : j < 10) (x : Int) :
    w.cell? ⟨σ.gh, i * 10 + j, none⟩ = some (.int .i64 ((σ.hs.getD i []).getD j 0)) ∧ w.frozen? ⟨σ.gh, i * 10 + j, none⟩ = false ∧
    Went B fb σ w { σ with hs := setH σ.hs i j x } (w.setCell ⟨σ.gh, i * 10 + j, none⟩ (.int .i64 x)) := by
  have h1 := h.oh.cellAt (i * 10 + j) (by omega)
  rw [hsC_at h.h10 hi hj] at h1
  obtain ⟨s1, s2⟩ := h.oh.stored (i * 10 + j) (.int .i64 x)
  rw [hsC_set h.h10 hi hj] at s1
  have hlen := setH_length σ.hs i j x
  have hne : σ.gh ≠ fb := h.d2.1
  refine ⟨h1, h.oh.frozenAt _, ⟨⟨set_far h.c0 hne, ?_, set_far h.c2 hne, set_far h.c3 hne, set_far h.c4 hne, set_far h.c5 hne, set_frozen h.f0, set_frozen h.f1, set_frozen h.f2, set_frozen h.f3, set_frozen h.f4, set_frozen h.f5,
    row_far h.ob _ _ (fun g e => by injection e with e; subst e; exact fun e => h.d1.2.1 e.symm), ?_, row_far h.on _ _ (fun g e => by injection e with e; subst e; exact h.d2.2.1),
    row_far h.ot _ _ (fun g e e2 => h.d2.2.2 (by rw [e]; exact congrArg some e2.symm)), setH_ten h.h10 hi j x, h.d1, h.d2, h.d3, h.d4, h.hB⟩, ?_, ?_⟩⟩
  · show _ = some (Value.slice _ (setH σ.hs i j x).length _)
    rw [hlen]
    exact set_far h.c1 hne
  · show OwnH _ _ (Value.slice _ (setH σ.hs i j x).length _) _
    unfold OwnH
    rw [hlen]
    exact s1
  · exact (Turn.refl _ _).set _ _ (.inl (.inr (.inr (.inl rfl))))
  · exact fun k hk => .inl hk
/-! ### What went wrong -/
theorem FileOk.err {B : Nat} {w : World} {fb : Nat} {σ : FSt} (h : FileOk B w fb σ) (x : Int) : Went B fb σ w { σ with e := x } (w.setCell ⟨fb, 5, none⟩ (.int .i64 x)) := by
  refine ⟨⟨set_other h.c0 (by decide), set_other h.c1 (by decide), set_other h.c2 (by decide), set_other h.c3 (by decide), set_other h.c4 (by decide), World.cell?_setCell_same _ _ _ h.c5, set_frozen h.f0, set_frozen h.f1, set_frozen h.f2, set_frozen h.f3, set_frozen h.f4, set_frozen h.f5,
    row_far h.ob _ _ (fun g e => by injection e with e; subst e; exact fun e => h.d1.1 e.symm), row_far h.oh _ _ (fun g e => by injection e with e; subst e; exact fun e => h.d2.1 e.symm), row_far h.on _ _ (fun g e => by injection e with e; subst e; exact fun e => h.d3.1 e.symm),
    row_far h.ot _ _ (fun g e e2 => h.d4 (by rw [e]; exact congrArg some e2.symm)), h.h10, h.d1, h.d2, h.d3, h.d4, h.hB⟩, ?_, ?_⟩
  · exact (Turn.refl _ _).set _ _ (.inl (.inl rfl))
  · exact fun k hk => .inl hk

def blen (w : World) (fb : Nat) : Nat := match w.cell? ⟨fb, 0, none⟩ with
  | some (.slice _ n _) => n
  | _ => 0
theorem FileOk.blen {B : Nat} {w : World} {fb : Nat} {σ : FSt} (h : FileOk B w fb σ) : blen w fb = σ.b.length := by
  unfold Go.Proofs.YtljmgbpecoifnaaGreatDoor.blen
  rw [h.c0]
theorem byt_lit1 (w : World) (x : Int) : Byt (w.alloc (.cells #[.int .u8 x] 5)) (some ⟨w.heap.size, 0, none⟩) [x] :=
  .inr ⟨_, 0, rfl, fun i hi => by
    match i, hi with
    | 0, _ => simp⟩
theorem FileOk.size {B : Nat} {w : World} {fb : Nat} {σ : FSt} (h : FileOk B w fb σ) : B ≤ w.heap.size := Nat.le_trans h.hB (Nat.le_of_lt (block_lt_of_cell h.c0))
theorem padN_step {n m j : Nat} (h0 : 0 < m) (hj : j ≤ padN n m) : (n + j) % m = 0 ↔ j = padN n m := by
  have h1 := padN_mod (len := n) h0
  have h2 := padN_lt (len := n) h0
  constructor
  · intro h
    by_cases e : j = padN n m
    · exact e
    · exfalso
      have h3 : (n + padN n m) = (n + j) + (padN n m - j) := by omega
      rw [h3, Nat.add_mod, h, Nat.zero_add, Nat.mod_mod, Nat.mod_eq_of_lt (by omega)] at h1
      omega
  · intro h
    rw [h]; exact h1

set_option maxRecDepth 20000 in
set_option maxHeartbeats 3200000 in
theorem ffill_walk (B fb m : Nat) (σ : FSt) (w : World) (hF : FileOk B w fb σ) (h1 : 1 ≤ m) (h64 : m ≤ 64) (hlen : σ.b.length ≤ 1000000) :
    Calls Tryz.prog 98 #[.pointer (some ⟨fb, 0, none⟩), .int .i64 (m : Int)] w fun e w' => e = .returned (.tuple #[]) ∧ ∃ g c, Went B fb σ w { σ with gb := g, cb := c, b := padB σ.b m } w' := by
  have hpl := padN_lt (len := σ.b.length) (m := m) (by omega)
  have hdm : ¬ ((m : Int) = 0) := by omega
  have hdm2 : ((m : Int) == 0) = false := by rw [beq_eq_false_iff_ne]; exact hdm
  go_enter Tryz.func98, Tryz.ntmps98
  go_wp2
  go_loopw [] (fun wr => ∃ j g c, j ≤ padN σ.b.length m ∧ Went B fb σ w { σ with gb := g, cb := c, b := σ.b ++ List.replicate j 0 } wr) (fun wr => σ.b.length + 64 - blen wr fb)
  case atStart =>
    refine ⟨0, σ.gb, σ.cb, Nat.zero_le _, ?_⟩
    have := Went.refl hF
    simpa using this
  case round =>
    obtain ⟨j, g, c, hj, hw⟩ := hrel
    have hok := hw.ok
    have hbl := hok.blen
    have HS := padN_step (n := σ.b.length) (m := m) (j := j) (by omega) hj
    obtain ⟨L, hL⟩ : ∃ L, (σ.b ++ List.replicate j 0).length = L := ⟨_, rfl⟩
    have hLj : L = σ.b.length + j := by rw [← hL]; simp
    have k0 : wr.cell? ⟨fb, 0, none⟩ = some (.slice (some ⟨g, 0, none⟩) L c) := by rw [← hL]; exact hok.c0
    have f0 := hok.f0
    rw [← hLj] at HS
    have hbl2 : blen wr fb = L := by rw [hbl]; exact hL
    by_cases hlt : j < padN σ.b.length m
    · have hne : ¬ L % m = 0 := fun e => by have := HS.1 e; omega
      have hpos : 0 < L % m := Nat.pos_of_ne_zero hne
      have d1 : decide ((0 : Int) < (L : Int).tmod (m : Int)) = true := decide_eq_true (by rw [Int.tmod_eq_emod_of_nonneg (by omega)]; omega)
      have d2 : decide ((0 : Int) < (L : Int) % (m : Int)) = true := decide_eq_true (by omega)
      have hok2 := hok.kept (Kept.alloc wr (.cells #[.int .u8 0] 5))
      have hO2 : Own (wr.alloc (.cells #[.int .u8 0] 5)) B (.slice (some ⟨g, 0, none⟩) L c) (σ.b ++ List.replicate j 0) := by rw [← hL]; exact hok2.ob
      have hB1 := byt_lit1 wr 0
      have hLs : L + 1 ≤ 10000000 := by omega
      have hsz := hok2.size
      have hw2 := hw.kept (Kept.alloc wr (.cells #[.int .u8 0] 5))
      have HM : Hid (L < σ.b.length + 64) := by unfold Hid; omega
      have HB2 : Hid (blen wr fb = L) := hbl2
      have f0' := hok2.f0
      clear HS hbl hLj hne hpos hok hw hbl2
      go_wp2_with (at_builtin; refine wpList_append_bytA rfl _ _ rfl B g L c (σ.b ++ List.replicate j 0) [0] (some ⟨wr.heap.size, 0, none⟩) 1 1 hL rfl rfl rfl hO2 hB1 (fun h => by cases h) hLs hsz ?_; intro g2 c2 w2 O2 G2 W2; have hW2 := hok2.bytes (by rw [List.length_append, hL]; rfl) O2 G2 W2; have f2 : w2.frozen? ⟨fb, 0, none⟩ = false := (grown_frozen G2 (block_lt_of_cell hok2.c0) (fun e => hok2.d1.1 e.symm)).trans f0'; have k2 : ∃ v, w2.cell? ⟨fb, 0, none⟩ = some v := ⟨_, grown_cell G2 hok2.c0 (fun e => hok2.d1.1 e.symm)⟩; obtain ⟨v2, k2⟩ := k2)
      go_roundw
      case rel =>
        refine ⟨j + 1, g2, c2, by omega, ?_⟩
        have e : σ.b ++ List.replicate j 0 ++ [0] = σ.b ++ List.replicate (j + 1) 0 := by rw [List.replicate_succ', List.append_assoc]
        rw [← e]
        exact hw2.trans hW2
      case measure =>
        have hM := HM.out
        have := hW2.ok.blen
        rw [HB2.out]
        rw [this]
        show σ.b.length + 64 - (σ.b ++ List.replicate j 0 ++ [0]).length < _
        rw [List.length_append, hL]
        simp
        omega
    · have hj' : j = padN σ.b.length m := by omega
      have h0 : L % m = 0 := HS.2 hj'
      have d1 : decide ((0 : Int) < (L : Int).tmod (m : Int)) = false := decide_eq_false (by rw [Int.tmod_eq_emod_of_nonneg (by omega)]; omega)
      have d2 : decide ((0 : Int) < (L : Int) % (m : Int)) = false := decide_eq_false (by omega)
      have HW : Hid (Went B fb σ w { σ with gb := g, cb := c, b := padB σ.b m } wr) := by unfold Hid padB; rw [← hj']; exact hw
      clear HS hlt hbl hbl2 hok hw hj' hpl hLj
      go_wp2

      go_end0
      exact ⟨rfl, g, c, HW.out⟩
end Go.Proofs.YtljmgbpecoifnaaGreatDoor
