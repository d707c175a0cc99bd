/- Names, and one of them told again, and an empty one: what Build makes of them; and appends in a statement that draws its order. -/
import Derived.Test.YtahkiaoifkcmoaaLa
import Derived.Deep.RegionHeld3
import Derived.Deep.AppendLies
namespace Go.Proofs.Ytahkiaoifkcmoaa
open Go.RowKit

/-- The names, one of them again, an empty one. -/
def moreOf (ss : List ByteArray) (s : ByteArray) : List ByteArray := ss ++ [s, ⟨#[]⟩]
theorem moreOf_length (ss : List ByteArray) (s : ByteArray) : (moreOf ss s).length = ss.length + 2 := by simp [moreOf]
theorem moreOf_snoc (ss : List ByteArray) (s : ByteArray) : moreOf ss s = (ss ++ [s]) ++ [⟨#[]⟩] := by simp [moreOf]
theorem more_fsts {ss : List ByteArray} {s : ByteArray} (h : s ∈ ss) : fsts (nms (moreOf ss s)) = fsts (nms ss) := by
  rw [moreOf_snoc, nms_snoc, nms_snoc, nm_empty, fsts_again (.inr rfl), fsts_again (ns := nms ss) (.inl (List.mem_map.2 ⟨s, h, rfl⟩))]
theorem more_plcI {ss : List ByteArray} {s : ByteArray} (h : s ∈ ss) : plcI (moreOf ss s) = plcI ss ++ [((plc (fsts (nms ss)) (nm s) : Nat) : Int), 0] := by
  have e := more_fsts h
  unfold plcI plcs
  rw [e]
  unfold moreOf nms
  simp [plc, nm_empty]
theorem more_bad {ss : List ByteArray} {s : ByteArray} (h : s ∈ ss) (hb : badB ss = false) : badB (moreOf ss s) = false := by
  unfold badB
  rw [List.any_eq_false]
  intro t ht
  unfold moreOf at ht
  rcases List.mem_append.1 ht with ht | ht
  · simpa using bad_false hb t ht
  · simp only [List.mem_cons, List.not_mem_nil, or_false] at ht
    rcases ht with rfl | rfl
    · simpa using bad_false hb t h
    · simpa using right_of (s := ⟨#[]⟩) (Nat.zero_le _) (by simp [nm_empty])
/-- NAMES THAT ARE TOLD TWICE STAND ONCE; AN EMPTY NAME TAKES NO PLACE. -/
theorem more_bld {ss : List ByteArray} {s : ByteArray} (h : s ∈ ss) (hE : bldE ss = 0) (hn : ss.length + 2 ≤ 1024) :
    bldE (moreOf ss s) = 0 ∧ bldT (moreOf ss s) = tbl (fsts (nms ss)) ∧ bldP (moreOf ss s) = plcI ss ++ [((plc (fsts (nms ss)) (nm s) : Nat) : Int), 0] := by
  obtain ⟨h1, h2, h3⟩ := bld_zero hE
  obtain ⟨a1, a2, a3⟩ := bld_ok (ss := moreOf ss s) (by rw [moreOf_length]; exact hn) (more_bad h h2) (by rw [more_fsts h]; exact h3)
  rw [a1, a2, a3, more_fsts h, more_plcI h]
  exact ⟨rfl, rfl, rfl⟩
theorem more_many {ss : List ByteArray} {s : ByteArray} (hn : 1024 < ss.length + 2) : bldE (moreOf ss s) = 4 := (bld_many (ss := moreOf ss s) (by rw [moreOf_length]; exact hn)).1

theorem kept_drew (w : World) : Kept w w.drew := Kept.drewN w 1
/-- 'append([]string(nil), names...)' at a step of a region that draws: W0 the world of the names, W the world now. -/
theorem step_append_all {W0 W : World} {ops : Array Oper} {o : Oper} {a : Act} {K : Act → World → Prop} {Q : Exit → Act → World → Prop} {E : Prop} (hgd : o.guard = none) (s x : Operand)
    (ho : o.op = .call { callee := .builtin .append, args := #[s, x], argTypes := #[29, 29] }) (b off n cap : Nat) (ss : List ByteArray) (hl : ss.length = n) (h0 : 0 < n) (hn : n ≤ 2000)
    (hs : a.eval s = .slice none 0 0) (hx : a.eval x = .slice (some ⟨b, off, none⟩) n cap) (hc : ∀ j, j < ss.length → W0.cell? ⟨b, off + j, none⟩ = some (.string (ss.getD j ByteArray.empty))) (hK : Kept W0 W)
    (h : ∀ g c w', OwnS w' W0.heap.size (.slice (some ⟨g, 0, none⟩) n c) ss → W.grownBy w' none → K (a.put o.dst (.slice (some ⟨g, 0, none⟩) n c)) w') :
    if Region.wanted o (yielded ops a.tmps) = true then Oper.wp Try.prog o a W K Q else E := by
  obtain ⟨i0, hi, hz0, hz1, hz2⟩ := info_parts Try.infoStr
  subst hl
  refine step_append_lies W hgd s x 29 ho W0.heap.size 9 i0 (.string ByteArray.empty) 1 16 Try.underlying29 hi hz0 hz1 hz2 rfl (by decide) (.slice none 0 0) 0 [] hs (World.ownsRow_nil _ _ _ _) ⟨b, off, none⟩ ss.length cap (ss.map Value.string) hx (by simp) ?_ (strs_oneCell ss) h0 (by unfold maxLen; omega) (by omega) hK.size _ rfl ?_
  · intro j u hj
    have hjl : j < ss.length := by simpa using (List.getElem?_eq_some_iff.1 hj).1
    have e : (⟨b, off, none⟩ : Addr).add j = ⟨b, off + j, none⟩ := by unfold Addr.add; split <;> simp_all
    rw [e, hK.cell (hc j hjl), ← hj]
    simp [List.getD, hjl]
  · intro g c w' h1 h2 _ _
    rw [Nat.zero_add, List.nil_append] at h1
    rw [Nat.zero_add]
    exact h g c w' h1 h2
/-- 'append(v, s, "")' at such a step: the two lie in a row of their own at B. -/
theorem step_append_two {W0 W : World} {ops : Array Oper} {o : Oper} {a : Act} {K : Act → World → Prop} {Q : Exit → Act → World → Prop} {E : Prop} (hgd : o.guard = none) (s x : Operand)
    (ho : o.op = .call { callee := .builtin .append, args := #[s, x], argTypes := #[29, 29] }) (B g c n : Nat) (ss : List ByteArray) (str : ByteArray) (hl : ss.length = n) (hn : n ≤ 2000)
    (hs : a.eval s = .slice (some ⟨g, 0, none⟩) n c) (hx : a.eval x = .slice (some ⟨B, 0, none⟩) 2 2) (hown : OwnS W W0.heap.size (.slice (some ⟨g, 0, none⟩) n c) ss)
    (hB : W.heap[B]? = some (.cells #[.string str, .string ⟨#[]⟩] 9 (0, 0))) (hK : Kept W0 W)
    (h : ∀ g' c' w', OwnS w' W0.heap.size (.slice (some ⟨g', 0, none⟩) (n + 2) c') (moreOf ss str) → Kept W0 w' → K (a.put o.dst (.slice (some ⟨g', 0, none⟩) (n + 2) c')) w') :
    if Region.wanted o (yielded ops a.tmps) = true then Oper.wp Try.prog o a W K Q else E := by
  obtain ⟨i0, hi, hz0, hz1, hz2⟩ := info_parts Try.infoStr
  subst hl
  refine step_append_lies W hgd s x 29 ho W0.heap.size 9 i0 (.string ByteArray.empty) 1 16 Try.underlying29 hi hz0 hz1 hz2 rfl (by decide) (.slice (some ⟨g, 0, none⟩) ss.length c) ss.length (ss.map Value.string) hs hown ⟨B, 0, none⟩ 2 2 [.string str, .string ⟨#[]⟩] hx rfl (World.news_of_block hB) (strs_oneCell [str, ⟨#[]⟩]) (by omega) (by unfold maxLen; omega) (by omega) hK.size _ rfl ?_
  intro g' c' w' h1 h2 _ _
  refine h g' c' w' ?_ (hK.grown h2 hK.size (fun k e => (hown.lt k e).1))
  unfold OwnS moreOf
  simpa using h1
end Go.Proofs.Ytahkiaoifkcmoaa
