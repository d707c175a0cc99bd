/- What is appended to a slice of the call's own, with where the new slice lies; and what a map is filled with as it is made. -/
import Derived.Test.YtahkiaoifkcmoaaBy
namespace Go.Proofs.Ytahkiaoifkcmoaa
open Go.RowKit

theorem byteCells_nm (s : ByteArray) : byteCells s = (nm s).map (Value.int .u8) := by
  unfold byteCells nm
  rw [List.map_map]
  rfl

/-- 'append(b, s...)', b the call's own and not nil, s a string. -/
theorem run_append_str (w : World) (base : Nat) (ty : TypeId) (g cap : Nat) (xs : List Int) (s : ByteArray) (hown : Own w base (.slice (some ⟨g, 0, none⟩) xs.length cap) xs)
    (hlen : xs.length + s.size ≤ 10000000) (hbase : base ≤ w.heap.size) :
    ∃ v' w', (Builtin.append_ #[22, 9] ty #[.slice (some ⟨g, 0, none⟩) xs.length cap, .string s]).run Try.prog w = .ok v' w' ∧ Own w' base v' (xs ++ nm s) ∧ w.grownBy w' (some g) ∧ (v'.ownBlock = some g ∨ v'.ownBlock = some w.heap.size) := by
  obtain ⟨i0, hi, hz0, hz1, hz2⟩ := info_parts Try.infoByte
  have hsrc := Src.ofString (P := Try.prog) w (tx := 9) Try.underlying9 s
  have hnl : (byteCells s).length = s.size := byteCells_length s
  have hll : (xs ++ nm s).length = xs.length + s.size := by rw [List.length_append, nm_length]
  have hcs' : (xs.map (Value.int .u8) ++ byteCells s) = (xs ++ nm s).map (Value.int .u8) := by rw [byteCells_nm, List.map_append]
  rcases hown.2 with ⟨h', _⟩ | ⟨g', cap', cur, h', hbg, hg, hnc, hcm, hcs, htake⟩
  · simp at h'
  · simp only [Value.slice.injEq, Option.some.injEq, Addr.mk.injEq, and_true, true_and] at h'
    obtain ⟨rfl, rfl⟩ := h'
    rw [Nat.mul_one] at hcs htake
    by_cases hroom : xs.length + s.size ≤ cap
    · have hst := run_storeCells_at Try.prog g (xs.length * 1) 5 (byteCells s) 0 cur w hg (by rw [hnl, hcs]; omega) hsrc.one
      simp only [Nat.add_zero] at hst
      have hr : (Builtin.append_ #[22, 9] ty #[.slice (some ⟨g, 0, none⟩) xs.length cap, .string s]).run Try.prog w =
          .ok (.slice (some ⟨g, 0, none⟩) (xs.length + s.size) cap) (w.setRow g (cur.toList.take (xs.length * 1) ++ byteCells s ++ cur.toList.drop (xs.length * 1 + (byteCells s).length)).toArray) := by
        simp [Builtin.append_, run_underlying Try.underlying22, run_underlying Try.underlying9, sizeOf, typeInfo, hi, hz1, hsrc.len, hroom, hsrc.cells, Addr.add_lit] at hst ⊢
        simp [hst]
      refine ⟨_, _, hr, ⟨by simp, .inr ⟨g, cap, _, by rw [hll], hbg, setRow_heap w g cur _ 5 _ hg, by rw [hll]; exact hroom, hcm, ?_, ?_⟩⟩, ⟨rfl, rfl, rfl, by simp, fun k _ hk => setRow_other w g k _ (fun e => hk (by simp [e]))⟩, .inl rfl⟩
      · simp only [List.size_toArray, List.length_append, List.length_take, List.length_drop, Array.length_toList, hnl]
        omega
      · show List.take ((xs ++ nm s).length * 1) (List.take (xs.length * 1) cur.toList ++ byteCells s ++ List.drop (xs.length * 1 + (byteCells s).length) cur.toList) = _
        rw [Nat.mul_one, Nat.mul_one, htake, hcs']
        have : (xs ++ nm s).length = ((xs ++ nm s).map (Value.int .u8)).length := by rw [List.length_map]
        rw [this]
        exact List.take_left
    · have holds : ∀ j u, (xs.map (Value.int .u8))[j]? = some u → w.drew.cell? ((⟨g, 0, none⟩ : Addr).add j) = some u := by
        intro j u hj
        have := hown.cells (g := g) rfl j u hj
        simpa using this
      have hold := run_firstCells_some (P := Try.prog) w.drew i0.size xs.length ⟨g, 0, none⟩ xs.length cap (xs.map (Value.int .u8)) (by rw [hz1]; simp) holds
      have hsrc' : Src Try.prog i0.size 9 (.string s) s.size (byteCells s) w := by rw [hz1]; exact hsrc
      have hr := run_append_grow_src (P := Try.prog) w 22 9 ty 5 i0 (.int .u8 0) Try.underlying22 hi hz0 (some ⟨g, 0, none⟩) xs.length cap _ hold (.string s) s.size (byteCells s) hsrc' (by omega) (by omega) (by
        have := growslice_fits (need := xs.length + s.size) (old := cap) (bytes := i0.bytes) (by omega) (by rw [hz2]; omega)
        exact this)
      have hge := grownCap_ge w (xs.length + s.size) cap 5
      have hcm' : grownCap w (xs.length + s.size) cap 5 ≤ maxLen := grownCap_le_maxLen w _ cap 5 (by unfold maxLen; omega)
      refine ⟨_, _, hr, ⟨by simp, .inr ⟨w.heap.size, _, _, by rw [hll], hbase, heap_alloc_new w.drew _, by rw [hll]; exact hge, hcm', ?_, ?_⟩⟩, ⟨rfl, rfl, rfl, by simp, fun k hk _ => _root_.Go.heap_alloc_old w.drew _ hk⟩, .inr rfl⟩
      · rw [hcs']
        simp only [Array.size_append, List.size_toArray, size_zeroCells, List.length_map, hll, Value.cells]
        simp
        omega
      · rw [hcs']
        simp only [Array.toList_append]
        have : (xs ++ nm s).length * 1 = ((xs ++ nm s).map (Value.int .u8)).length := by rw [List.length_map, Nat.mul_one]
        rw [this]
        exact List.take_left

/-- .. for the walk. -/
theorem wpList_append_str {w : World} {ops : Array Oper} {rest : List Oper} {o : Oper} {a : Act} {Q : Exit → Act → World → Prop} (hgd : o.guard = none) (s x : Operand)
    (ho : o.op = .call { callee := .builtin .append, args := #[s, x], argTypes := #[22, 9] }) (base g len cap : Nat) (xs : List Int) (str : ByteArray) (hl : xs.length = len) (hs : a.eval s = .slice (some ⟨g, 0, none⟩) len cap) (hx : a.eval x = .string str)
    (hown : Own w base (.slice (some ⟨g, 0, none⟩) len cap) xs) (hlen : len + str.size ≤ 10000000) (hbase : base ≤ w.heap.size)
    (h : ∀ g' cap' w', Own w' base (.slice (some ⟨g', 0, none⟩) (len + str.size) cap') (xs ++ nm str) → w.grownBy w' (some g) → (g' = g ∨ g' = w.heap.size) → wpList Try.prog ops Q rest (a.put o.dst (.slice (some ⟨g', 0, none⟩) (len + str.size) cap')) w') : wpList Try.prog ops Q (o :: rest) a w := by
  subst hl
  obtain ⟨v', w', hr, h1, h2, h3⟩ := run_append_str w base o.type g cap xs str hown hlen hbase
  have hv : ∃ g' cap', v' = .slice (some ⟨g', 0, none⟩) (xs.length + str.size) cap' := by
    rcases h1.2 with ⟨rfl, _⟩ | ⟨g', cap', cur, hv, _⟩
    · simp [Value.ownBlock] at h3
    · exact ⟨g', cap', by rw [hv, List.length_append, nm_length]⟩
  obtain ⟨g', cap', rfl⟩ := hv
  refine wpList_plain hgd fun K hK => ?_
  unfold Oper.wp execOp
  simp only [ho, resolve, invoke, builtin, Sem.run_bind, Sem.run_pure, Result.andThen_ok, List.map_toArray, List.map_cons, List.map_nil, hs, hx, hr]
  exact hK _ _ (h g' cap' w' h1 h2 (by simpa [Value.ownBlock] using h3))

/-- 'append(b, n)', b the call's own and not nil: the literal's row lies at 'ad'. -/
theorem wpList_append_one {w : World} {ops : Array Oper} {rest : List Oper} {o : Oper} {a : Act} {Q : Exit → Act → World → Prop} (hgd : o.guard = none) (s x : Operand)
    (ho : o.op = .call { callee := .builtin .append, args := #[s, x], argTypes := #[22, 22] }) (base g len cap : Nat) (xs : List Int) (n : Int) (ad : Addr) (c : Nat) (hl : xs.length = len) (hs : a.eval s = .slice (some ⟨g, 0, none⟩) len cap) (hx : a.eval x = .slice (some ad) 1 c)
    (hown : Own w base (.slice (some ⟨g, 0, none⟩) len cap) xs) (hc : w.cell? ad = some (.int .u8 n)) (hlen : len + 1 ≤ 10000000) (hbase : base ≤ w.heap.size)
    (h : ∀ g' cap' w', Own w' base (.slice (some ⟨g', 0, none⟩) (len + 1) cap') (xs ++ [n]) → w.grownBy w' (some g) → (g' = g ∨ g' = w.heap.size) → wpList Try.prog ops Q rest (a.put o.dst (.slice (some ⟨g', 0, none⟩) (len + 1) cap')) w') : wpList Try.prog ops Q (o :: rest) a w := by
  subst hl
  obtain ⟨i0, hi, hz0, hz1, hz2⟩ := info_parts Try.infoByte
  refine wpList_append_own_at _ hgd s x 22 ho base 5 i0 (.int .u8 0) 1 1 Try.underlying22 hi hz0 hz1 hz2 rfl (by decide) _ xs.length _ hs hown ad 1 c [.int .u8 n] hx rfl ?_ (ints_oneCell .u8 [n]) (by unfold maxLen; omega) (by omega) hbase ?_
  · intro j u hj
    match j, hj with
    | 0, hj => simp at hj; subst hj; simpa [Addr.add] using hc
  · intro v' w' h1 h2 _ h4
    have hv : ∃ g' cap', v' = .slice (some ⟨g', 0, none⟩) (xs.length + 1) cap' := by
      rcases h1.2 with ⟨rfl, _⟩ | ⟨g', cap', cur, hv, _⟩
      · simp [Value.ownBlock] at h4
      · exact ⟨g', cap', hv⟩
    obtain ⟨g', cap', rfl⟩ := hv
    refine h g' cap' w' ?_ (by simpa [Value.ownBlock] using h2) (by simpa [Value.ownBlock] using h4)
    unfold Own
    simpa using h1

/-- 'append(p, n)' of numbers, p the call's own, nil too. -/
theorem wpList_append_num {w : World} {ops : Array Oper} {rest : List Oper} {o : Oper} {a : Act} {Q : Exit → Act → World → Prop} (hgd : o.guard = none) (s x : Operand)
    (ho : o.op = .call { callee := .builtin .append, args := #[s, x], argTypes := #[26, 26] }) (base : Nat) (v : Value) (xs : List Int) (n : Int) (ad : Addr) (c : Nat) (hs : a.eval s = v) (hx : a.eval x = .slice (some ad) 1 c)
    (hown : OwnI w base v xs) (hc : w.cell? ad = some (.int .i64 n)) (hlen : xs.length + 1 ≤ 10000000) (hbase : base ≤ w.heap.size)
    (h : ∀ v' w', OwnI w' base v' (xs ++ [n]) → w.grownBy w' v.ownBlock → (v'.ownBlock = v.ownBlock ∨ v'.ownBlock = some w.heap.size) → wpList Try.prog ops Q rest (a.put o.dst v') w') : wpList Try.prog ops Q (o :: rest) a w := by
  obtain ⟨i0, hi, hz0, hz1, hz2⟩ := info_parts Try.infoInt
  refine wpList_append_own_at _ hgd s x 26 ho base 3 i0 (.int .i64 0) 1 8 Try.underlying26 hi hz0 hz1 hz2 rfl (by decide) v xs.length _ hs hown ad 1 c [.int .i64 n] hx rfl ?_ (ints_oneCell .i64 [n]) (by unfold maxLen; omega) (by omega) hbase ?_
  · intro j u hj
    match j, hj with
    | 0, hj => simp at hj; subst hj; simpa [Addr.add] using hc
  · intro v' w' h1 h2 _ h4
    refine h v' w' ?_ h2 h4
    unfold OwnI
    simpa using h1

/-! ### Maps -/
open Go.Maps (Keyed string_keyed)
theorem keyLaw : Keyed Try.prog 9 := string_keyed Try.underlying9
theorem zeroInt (w : World) : (zeroValue 3).run Try.prog w = .ok (.int .i64 0) w := by kernel_rfl
abbrev OwnM (w : World) (b n : Nat) (D : DataW Unit) : Prop := w.ownsMap Try.prog 9 (plainElem Try.prog 3) b n D

/-- A map's literal is filled. -/
theorem wpList_insert_own {w : World} {ops : Array Oper} {rest : List Oper} {o : Oper} {a : Act} {Q : Exit → Act → World → Prop}
    (hg : o.guard = none) (m x v : Operand) (hop : o.op = Op.insert 45 m x v) (b n : Nat) (D : DataW Unit)
    (hm : a.eval m = .map (some b)) (hown : OwnM w b n D) (hn : n < maxLen) (key val : Value) (kl : Lit) (hx : a.eval x = key) (hv : a.eval v = val) (hkey : keyOf Try.prog 9 key = some kl)
    (d : DataW Unit) (ps : List MemPlace) (hval : plainElem Try.prog 3 val = some (d, ps))
    (hK : ∀ w', OwnM w' b (n + 1) (D.put kl d) → w.grownBy w' (some b) → wpList Try.prog ops Q rest (a.put o.dst undef) w') :
    wpList Try.prog ops Q (o :: rest) a w := by
  refine wpList_plain hg fun K' hK' => ?_
  obtain ⟨w', hrun, r1, r2⟩ := hown.update keyLaw Try.underlying45 hn hkey hval
  unfold Oper.wp
  simp [execOp, hop, hm, hx, hv, hrun, Result.andThen]
  exact hK' _ _ (hK w' r1 r2)
end Go.Proofs.Ytahkiaoifkcmoaa
