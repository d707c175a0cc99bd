/- Slices of strings that a call made itself; and what Build makes of the names of a table. -/
import Derived.Test.YtahkiaoifkcmoaaLb
namespace Go.Proofs.Ytahkiaoifkcmoaa
open Go.RowKit

theorem Try.infoStr : (Try.prog.info? 9).map (fun i => (i.zero, i.size, i.bytes)) = some (some (.string ByteArray.empty), 1, 16) := by kernel_rfl
abbrev OwnS (w : World) (base : Nat) (v : Value) (ss : List ByteArray) : Prop := w.ownsRow base 9 1 v ss.length (ss.map Value.string)
theorem OwnS.nil (w : World) (base : Nat) : OwnS w base (.slice none 0 0) [] := World.ownsRow_nil _ _ _ _
theorem OwnS.let {w : World} {base : Nat} {v : Value} {ss : List ByteArray} (h : OwnS w base v ss) {n : Nat} (hn : ss.length = n) : ∃ a cap, v = .slice a n cap ∧ Strs w a ss := by
  subst hn
  have hcell := @World.ownsRow.cells w base 9 1 v ss.length (ss.map Value.string) h
  rcases h.2 with ⟨hv, hn⟩ | ⟨g, cap, cur, hv, _, _, hnc, _⟩
  · exact ⟨none, 0, by rw [hv, hn], .inl (List.eq_nil_of_length_eq_zero hn)⟩
  · refine ⟨some ⟨g, 0, none⟩, cap, hv, .inr ⟨g, 0, rfl, fun i hi => ?_⟩⟩
    have := hcell (g := g) (by rw [hv]; rfl) i (.string (ss.getD i ByteArray.empty)) (by simp [hi, List.getD])
    have e : (⟨g, 0, none⟩ : Addr).add i = ⟨g, 0 + i, none⟩ := by unfold Addr.add; split <;> simp_all
    rwa [e] at this
theorem strs_oneCell (ss : List ByteArray) : ∀ u ∈ ss.map Value.string, u.oneCell' = true := by
  intro u hu
  obtain ⟨s, _, rfl⟩ := List.mem_map.1 hu
  rfl
/-- 'append(all, s)' -/
theorem wpList_append_name {w : World} {ops : Array Oper} {rest : List Oper} {o : Oper} {a : Act} {Q : Exit → Act → World → Prop} (hgd : o.guard = none) (s x : Operand)
    (ho : o.op = .call { callee := .builtin .append, args := #[s, x], argTypes := #[29, 29] }) (base : Nat) (v : Value) (xs : List ByteArray) (str : ByteArray) (ad : Addr) (c : Nat) (hs : a.eval s = v) (hx : a.eval x = .slice (some ad) 1 c)
    (hown : OwnS w base v xs) (hc : w.cell? ad = some (.string str)) (hlen : xs.length + 1 ≤ 1000000) (hbase : base ≤ w.heap.size) (w0 : World) (hbel : Below base w0 w)
    (h : ∀ v' w', OwnS w' base v' (xs ++ [str]) → Below base w0 w' → wpList Try.prog ops Q rest (a.put o.dst v') w') : wpList Try.prog ops Q (o :: rest) a w := by
  obtain ⟨i0, hi, hz0, hz1, hz2⟩ := info_parts Try.infoStr
  refine wpList_append_own _ hgd s x 29 ho base 9 i0 (.string ByteArray.empty) 1 16 Try.underlying29 hi hz0 hz1 hz2 rfl (by decide) v xs.length _ hs hown ad 1 c [.string str] hx rfl ?_ (strs_oneCell [str]) (by unfold maxLen; omega) (by omega) hbase ?_
  · intro j u hj
    match j, hj with
    | 0, hj => simp at hj; subst hj; simpa [Addr.add] using hc
  · intro v' w' h1 h2 _
    refine h v' w' ?_ (hbel.grown h2 hbase (fun k e => (hown.lt k e).1))
    unfold OwnS
    simpa using h1

/-! ### The names of a table -/
/-- The names of a list, as strings. -/
def strsOf (F : List (List Int)) : List ByteArray := F.map strOfNums
theorem strsOf_length (F : List (List Int)) : (strsOf F).length = F.length := by simp [strsOf]
theorem mem_first {ss : List ByteArray} {f : List Int} (h : f ∈ fsts (nms ss)) : ∃ s ∈ ss, nm s = f := by
  obtain ⟨s, hs, rfl⟩ := List.mem_map.1 (mem_fsts.1 h).1
  exact ⟨s, hs, rfl⟩
theorem nms_strsOf {ss : List ByteArray} : nms (strsOf (fsts (nms ss))) = fsts (nms ss) := by
  unfold nms strsOf
  rw [List.map_map]
  have : ∀ f ∈ fsts (List.map nm ss), (nm ∘ strOfNums) f = f := by
    intro f hf
    obtain ⟨s, _, rfl⟩ := mem_first (ss := ss) hf
    exact nm_str (nm_range s)
  rw [List.map_congr_left this, List.map_id']
theorem bad_strsOf {ss : List ByteArray} (h : badB ss = false) : badB (strsOf (fsts (nms ss))) = false := by
  unfold badB
  rw [List.any_eq_false]
  intro t ht
  obtain ⟨f, hf, rfl⟩ := List.mem_map.1 ht
  obtain ⟨s, hs, rfl⟩ := mem_first hf
  rw [str_nm]
  simpa using bad_false h s hs
/-- THE TABLE OF ALL NAMES OF A TABLE IS THAT TABLE. -/
theorem bld_again {ss : List ByteArray} (h : bldE ss = 0) : bldE (strsOf (fsts (nms ss))) = 0 ∧ bldT (strsOf (fsts (nms ss))) = bldT ss := by
  obtain ⟨h1, h2, h3⟩ := bld_zero h
  have e : fsts (nms (strsOf (fsts (nms ss)))) = fsts (nms ss) := by rw [nms_strsOf, fsts_fsts]
  have hl : (strsOf (fsts (nms ss))).length ≤ 1024 := by
    have := fsts_length (nms ss)
    rw [nms_length] at this
    rw [strsOf_length]
    omega
  obtain ⟨a1, a2, _⟩ := bld_ok (ss := strsOf (fsts (nms ss))) hl (bad_strsOf h2) (by rw [e]; exact h3)
  refine ⟨a1, ?_⟩
  rw [a2, e, (bld_ok h1 h2 h3).2.1]
theorem tbl_range (ss : List ByteArray) : ∀ x ∈ tbl (fsts (nms ss)), 0 ≤ x ∧ x < 256 := by
  intro x hx
  unfold tbl at hx
  rcases List.mem_cons.1 hx with rfl | hx
  · exact ⟨Int.le_refl _, by decide⟩
  · obtain ⟨f, hf, hx⟩ := List.mem_flatMap.1 hx
    rcases List.mem_append.1 hx with hx | hx
    · obtain ⟨s, _, rfl⟩ := mem_first hf
      exact nm_range s x hx
    · rw [List.mem_singleton] at hx
      subst hx
      exact ⟨Int.le_refl _, by decide⟩
theorem chk_tbl {ss : List ByteArray} (h : (tbl (fsts (nms ss))).length ≤ 65536) : chkB (tbl (fsts (nms ss))) = true :=
  decide_eq_true ⟨tbl_pos _, h, tbl_head _, tbl_last _⟩
theorem name_there {ss : List ByteArray} {s : ByteArray} (h : s ∈ ss) : nm s ∈ fsts (nms ss) ∨ nm s = [] := by
  by_cases e : nm s = []
  · exact .inr e
  · exact .inl (mem_fsts.2 ⟨List.mem_map.2 ⟨s, h, rfl⟩, e⟩)
/-- THE NAME AT EACH ONE's PLACE IS IT. -/
theorem get_name {ss : List ByteArray} (h : (tbl (fsts (nms ss))).length ≤ 65536) (hb : badB ss = false) {s : ByteArray} (hs : s ∈ ss) :
    strOfNums (getS (tbl (fsts (nms ss))) ((plc (fsts (nms ss)) (nm s) : Nat) : Int)) = s ∧ getR (tbl (fsts (nms ss))) ((plc (fsts (nms ss)) (nm s) : Nat) : Int) = 0 := by
  have h1 := name_there hs
  have h2 := plc_in h1
  have hi : inG (tbl (fsts (nms ss))) ((plc (fsts (nms ss)) (nm s) : Nat) : Int) = true := inG_mk (chk_tbl h) (by omega) (by omega)
  rw [(getS_yes hi).1, (getS_yes hi).2, Int.toNat_natCast, nmAt_plc h1 (wrong_false (bad_false hb s hs)).2, str_nm]
  exact ⟨rfl, rfl⟩
/-- The names one behind the other. -/
theorem get_kth {ss : List ByteArray} (h : (tbl (fsts (nms ss))).length ≤ 65536) (hb : badB ss = false) {k : Nat} (hk : k < (fsts (nms ss)).length) :
    getS (tbl (fsts (nms ss))) ((tbl ((fsts (nms ss)).take k)).length : Nat) = (fsts (nms ss))[k] ∧ getR (tbl (fsts (nms ss))) ((tbl ((fsts (nms ss)).take k)).length : Nat) = 0 := by
  have h1 := tbl_lt _ k hk
  have hi : inG (tbl (fsts (nms ss))) ((tbl ((fsts (nms ss)).take k)).length : Nat) = true := inG_mk (chk_tbl h) (by omega) (by omega)
  rw [(getS_yes hi).1, (getS_yes hi).2, Int.toNat_natCast, nmAt_walk _ k hk (fun f hf x hx => by
    obtain ⟨s, hs, rfl⟩ := mem_first hf
    exact (wrong_false (bad_false hb s hs)).2 x hx)]
  exact ⟨rfl, rfl⟩
theorem strsOf_take {F : List (List Int)} {k : Nat} (hk : k < F.length) : strsOf (F.take (k + 1)) = strsOf (F.take k) ++ [strOfNums F[k]] := by
  unfold strsOf
  rw [List.take_succ_eq_append_getElem hk, List.map_append]
  rfl
end Go.Proofs.Ytahkiaoifkcmoaa
