/- Objects and groups that lie in blocks; structs out of slices, laid into blocks of the call's own. Slices of strings that a call made itself. -/
import Derived.Test.YtljmgbpecoifnaaGreatDoorJai
namespace Go.Proofs.YtljmgbpecoifnaaGreatDoor
open Go.RowKit

/-- Four values that lie in a block. -/
structure OBx (w : World) (b : Nat) (v0 v1 v2 v3 : Value) : Prop where
  c0 : w.cell? ⟨b, 0, none⟩ = some v0
  c1 : w.cell? ⟨b, 1, none⟩ = some v1
  c2 : w.cell? ⟨b, 2, none⟩ = some v2
  c3 : w.cell? ⟨b, 3, none⟩ = some v3
  f0 : w.frozen? ⟨b, 0, none⟩ = false
  f1 : w.frozen? ⟨b, 1, none⟩ = false
  f2 : w.frozen? ⟨b, 2, none⟩ = false
  f3 : w.frozen? ⟨b, 3, none⟩ = false
theorem OBx.lt {w : World} {b : Nat} {v0 v1 v2 v3 : Value} (h : OBx w b v0 v1 v2 v3) : b < w.heap.size := block_lt_of_cell h.c0
theorem OBx.below {w w' : World} {b n : Nat} {v0 v1 v2 v3 : Value} (h : OBx w b v0 v1 v2 v3) (k : Below n w w') (hb : b < n) : OBx w' b v0 v1 v2 v3 :=
  ⟨(k.cell hb).trans h.c0, (k.cell hb).trans h.c1, (k.cell hb).trans h.c2, (k.cell hb).trans h.c3, (k.frozen hb).trans h.f0, (k.frozen hb).trans h.f1, (k.frozen hb).trans h.f2, (k.frozen hb).trans h.f3⟩
theorem OBx.kept {w w' : World} {b : Nat} {v0 v1 v2 v3 : Value} (h : OBx w b v0 v1 v2 v3) (k : Kept w w') : OBx w' b v0 v1 v2 v3 := h.below k h.lt
theorem OBx.new (w : World) (v0 v1 v2 v3 : Value) : OBx (w.alloc (.cells #[v0, v1, v2, v3] 29)) w.heap.size v0 v1 v2 v3 := by
  constructor <;> simp
theorem OBx.set0 {w : World} {b : Nat} {v0 v1 v2 v3 : Value} (h : OBx w b v0 v1 v2 v3) (u : Value) : OBx (w.setCell ⟨b, 0, none⟩ u) b u v1 v2 v3 :=
  ⟨World.cell?_setCell_same _ _ _ h.c0, set_other h.c1 (by decide), set_other h.c2 (by decide), set_other h.c3 (by decide), set_frozen h.f0, set_frozen h.f1, set_frozen h.f2, set_frozen h.f3⟩
theorem OBx.set1 {w : World} {b : Nat} {v0 v1 v2 v3 : Value} (h : OBx w b v0 v1 v2 v3) (u : Value) : OBx (w.setCell ⟨b, 1, none⟩ u) b v0 u v2 v3 :=
  ⟨set_other h.c0 (by decide), World.cell?_setCell_same _ _ _ h.c1, set_other h.c2 (by decide), set_other h.c3 (by decide), set_frozen h.f0, set_frozen h.f1, set_frozen h.f2, set_frozen h.f3⟩
theorem OBx.set2 {w : World} {b : Nat} {v0 v1 v2 v3 : Value} (h : OBx w b v0 v1 v2 v3) (u : Value) : OBx (w.setCell ⟨b, 2, none⟩ u) b v0 v1 u v3 :=
  ⟨set_other h.c0 (by decide), set_other h.c1 (by decide), World.cell?_setCell_same _ _ _ h.c2, set_other h.c3 (by decide), set_frozen h.f0, set_frozen h.f1, set_frozen h.f2, set_frozen h.f3⟩
theorem OBx.set3 {w : World} {b : Nat} {v0 v1 v2 v3 : Value} (h : OBx w b v0 v1 v2 v3) (u : Value) : OBx (w.setCell ⟨b, 3, none⟩ u) b v0 v1 v2 u :=
  ⟨set_other h.c0 (by decide), set_other h.c1 (by decide), set_other h.c2 (by decide), World.cell?_setCell_same _ _ _ h.c3, set_frozen h.f0, set_frozen h.f1, set_frozen h.f2, set_frozen h.f3⟩
theorem OBx.far {w : World} {b : Nat} {v0 v1 v2 v3 : Value} (h : OBx w b v0 v1 v2 v3) (b' i : Nat) (u : Value) (hb : b' ≠ b) : OBx (w.setCell ⟨b', i, none⟩ u) b v0 v1 v2 v3 :=
  ⟨set_far h.c0 hb, set_far h.c1 hb, set_far h.c2 hb, set_far h.c3 hb, set_frozen h.f0, set_frozen h.f1, set_frozen h.f2, set_frozen h.f3⟩
theorem OBx.grown {w w' : World} {b g : Nat} {v0 v1 v2 v3 : Value} (h : OBx w b v0 v1 v2 v3) (hg : w.grownBy w' (some g)) (hb : b ≠ g) : OBx w' b v0 v1 v2 v3 :=
  have hl := h.lt
  ⟨grown_cell hg h.c0 hb, grown_cell hg h.c1 hb, grown_cell hg h.c2 hb, grown_cell hg h.c3 hb, (grown_frozen hg hl hb).trans h.f0, (grown_frozen hg hl hb).trans h.f1, (grown_frozen hg hl hb).trans h.f2, (grown_frozen hg hl hb).trans h.f3⟩
theorem box_obj (w : World) (v0 v1 v2 v3 : Value) : ∃ wa, w.alloc (.cells #[v0, v1, v2, v3] 29) = wa ∧ OBx wa w.heap.size v0 v1 v2 v3 ∧ Kept w wa ∧ wa.heap.size = w.heap.size + 1 :=
  ⟨_, rfl, OBx.new _ _ _ _ _, Kept.alloc _ _, by simp⟩

/-- Two values that lie in a block. -/
structure GBx (w : World) (b : Nat) (v0 v1 : Value) : Prop where
  c0 : w.cell? ⟨b, 0, none⟩ = some v0
  c1 : w.cell? ⟨b, 1, none⟩ = some v1
  f0 : w.frozen? ⟨b, 0, none⟩ = false
  f1 : w.frozen? ⟨b, 1, none⟩ = false
theorem GBx.lt {w : World} {b : Nat} {v0 v1 : Value} (h : GBx w b v0 v1) : b < w.heap.size := block_lt_of_cell h.c0
theorem GBx.below {w w' : World} {b n : Nat} {v0 v1 : Value} (h : GBx w b v0 v1) (k : Below n w w') (hb : b < n) : GBx w' b v0 v1 :=
  ⟨(k.cell hb).trans h.c0, (k.cell hb).trans h.c1, (k.frozen hb).trans h.f0, (k.frozen hb).trans h.f1⟩
theorem GBx.kept {w w' : World} {b : Nat} {v0 v1 : Value} (h : GBx w b v0 v1) (k : Kept w w') : GBx w' b v0 v1 := h.below k h.lt
theorem GBx.new (w : World) (v0 v1 : Value) : GBx (w.alloc (.cells #[v0, v1] 49)) w.heap.size v0 v1 := by
  constructor <;> simp
theorem GBx.set0 {w : World} {b : Nat} {v0 v1 : Value} (h : GBx w b v0 v1) (u : Value) : GBx (w.setCell ⟨b, 0, none⟩ u) b u v1 :=
  ⟨World.cell?_setCell_same _ _ _ h.c0, set_other h.c1 (by decide), set_frozen h.f0, set_frozen h.f1⟩
theorem GBx.set1 {w : World} {b : Nat} {v0 v1 : Value} (h : GBx w b v0 v1) (u : Value) : GBx (w.setCell ⟨b, 1, none⟩ u) b v0 u :=
  ⟨set_other h.c0 (by decide), World.cell?_setCell_same _ _ _ h.c1, set_frozen h.f0, set_frozen h.f1⟩
theorem GBx.far {w : World} {b : Nat} {v0 v1 : Value} (h : GBx w b v0 v1) (b' i : Nat) (u : Value) (hb : b' ≠ b) : GBx (w.setCell ⟨b', i, none⟩ u) b v0 v1 :=
  ⟨set_far h.c0 hb, set_far h.c1 hb, set_frozen h.f0, set_frozen h.f1⟩
theorem GBx.grown {w w' : World} {b g : Nat} {v0 v1 : Value} (h : GBx w b v0 v1) (hg : w.grownBy w' (some g)) (hb : b ≠ g) : GBx w' b v0 v1 :=
  have hl := h.lt
  ⟨grown_cell hg h.c0 hb, grown_cell hg h.c1 hb, (grown_frozen hg hl hb).trans h.f0, (grown_frozen hg hl hb).trans h.f1⟩
theorem box_grp (w : World) (v0 v1 : Value) : ∃ wa, w.alloc (.cells #[v0, v1] 49) = wa ∧ GBx wa w.heap.size v0 v1 ∧ Kept w wa ∧ wa.heap.size = w.heap.size + 1 :=
  ⟨_, rfl, GBx.new _ _ _, Kept.alloc _ _, by simp⟩
abbrev put2 (w : World) (b : Nat) (v0 v1 : Value) : World := (w.setCell ⟨b, 0, none⟩ v0).setCell ⟨b, 1, none⟩ v1
theorem GBx.put {w : World} {b : Nat} {v0 v1 : Value} (h : GBx w b v0 v1) (u0 u1 : Value) : GBx (put2 w b u0 u1) b u0 u1 := (h.set0 _).set1 _

/-! ### A struct out of a slice, in a block of the call's own -/
theorem put_sec (w : World) (s : ByteArray) (al : Int) (v : Value) (sz : Int) : ∃ wa wb, w.alloc (.cells #[.string ⟨#[]⟩, .int .i64 0, .slice none 0 0, .int .i64 0] 37) = wa ∧ put4 wa w.heap.size s al v sz = wb ∧
    Box wa w.heap.size ⟨#[]⟩ 0 (.slice none 0 0) 0 ∧ Box wb w.heap.size s al v sz ∧ Kept w wb ∧ wb.heap.size = w.heap.size + 1 :=
  ⟨_, _, rfl, rfl, Box.new _ _ _ _ _, (Box.new _ _ _ _ _).put _ _ _ _, below_put (Kept.alloc _ _) (Nat.le_refl _) _ _ _ _, by simp⟩
theorem put_sym (w : World) (s : ByteArray) (bind : Int) (hid : Bool) (wh val sz : Int) : ∃ wa wb, w.alloc (symO ⟨#[]⟩ 0 false 0 0 0) = wa ∧ put6 wa w.heap.size s bind hid wh val sz = wb ∧
    SBx wa w.heap.size ⟨#[]⟩ 0 false 0 0 0 ∧ SBx wb w.heap.size s bind hid wh val sz ∧ Kept w wb ∧ wb.heap.size = w.heap.size + 1 :=
  ⟨_, _, rfl, rfl, SBx.new _ _ _ _ _ _ _, (SBx.new _ _ _ _ _ _ _).put _ _ _ _ _ _, below_put6 (Kept.alloc _ _) (Nat.le_refl _) _ _ _ _ _ _, by simp⟩
theorem put_rel (w : World) (sec off ty sy ad : Int) : ∃ wa wb, w.alloc (relO 0 0 0 0 0) = wa ∧ putX wa w.heap.size sec off ty sy ad = wb ∧
    XBx wa w.heap.size 0 0 0 0 0 ∧ XBx wb w.heap.size sec off ty sy ad ∧ Kept w wb ∧ wb.heap.size = w.heap.size + 1 :=
  ⟨_, _, rfl, rfl, XBx.new _ _ _ _ _ _, (XBx.new _ _ _ _ _ _).put _ _ _ _ _, below_putX (Kept.alloc _ _) (Nat.le_refl _) _ _ _ _ _, by simp⟩
theorem put_grp (w : World) (s : ByteArray) (v : Value) : ∃ wa wb, w.alloc (.cells #[.string ⟨#[]⟩, .slice none 0 0] 49) = wa ∧ put2 wa w.heap.size (.string s) v = wb ∧
    GBx wa w.heap.size (.string ⟨#[]⟩) (.slice none 0 0) ∧ GBx wb w.heap.size (.string s) v ∧ Kept w wb ∧ wb.heap.size = w.heap.size + 1 :=
  ⟨_, _, rfl, rfl, GBx.new _ _ _, (GBx.new _ _ _).put _ _, ((Kept.alloc _ _).setCell (Nat.le_refl _) _).setCell (Nat.le_refl _) _, by simp⟩

/-! ### What lies at an index -/
theorem SecR.cells {w : World} {a : Option Addr} {l : List SecV} (h : SecR w a l) {i : Nat} (hi : i < l.length) : ∃ b o, a = some ⟨b, o, none⟩ ∧ SecAt w b (o + i * 4) (l.getD i secNo) := h.secs.at hi
structure SymAt (w : World) (b o : Nat) (v : SymV) : Prop where
  c0 : w.cell? ⟨b, o, none⟩ = some (.string v.s)
  c1 : w.cell? ⟨b, o + 1, none⟩ = some (.int .u8 v.bind)
  c2 : w.cell? ⟨b, o + 2, none⟩ = some (.bool v.hid)
  c3 : w.cell? ⟨b, o + 3, none⟩ = some (.int .i64 v.wh)
  c4 : w.cell? ⟨b, o + 4, none⟩ = some (.int .i64 v.val)
  c5 : w.cell? ⟨b, o + 5, none⟩ = some (.int .i64 v.sz)
  ok : SymVOk v
theorem SymR.cells {w : World} {a : Option Addr} {l : List SymV} (h : SymR w a l) {i : Nat} (hi : i < l.length) : ∃ b o, a = some ⟨b, o, none⟩ ∧ SymAt w b (o + i * 6) (l.getD i symV0) := by
  obtain ⟨b, o, rfl, ok, hc⟩ := Recs.at h hi
  exact ⟨b, o, rfl, hc 0 (by decide), hc 1 (by decide), hc 2 (by decide), hc 3 (by decide), hc 4 (by decide), hc 5 (by decide), ok⟩
structure RelAt (w : World) (b o : Nat) (v : RelM) : Prop where
  c0 : w.cell? ⟨b, o, none⟩ = some (.int .i64 v.sec)
  c1 : w.cell? ⟨b, o + 1, none⟩ = some (.int .i64 v.off)
  c2 : w.cell? ⟨b, o + 2, none⟩ = some (.int .u8 v.ty)
  c3 : w.cell? ⟨b, o + 3, none⟩ = some (.int .i64 v.sy)
  c4 : w.cell? ⟨b, o + 4, none⟩ = some (.int .i64 v.ad)
  ok : RelVOk v
theorem RelR.cells {w : World} {a : Option Addr} {l : List RelM} (h : RelR w a l) {i : Nat} (hi : i < l.length) : ∃ b o, a = some ⟨b, o, none⟩ ∧ RelAt w b (o + i * 5) (l.getD i relNo) := by
  obtain ⟨b, o, rfl, ok, hc⟩ := Recs.at h hi
  exact ⟨b, o, rfl, hc 0 (by decide), hc 1 (by decide), hc 2 (by decide), hc 3 (by decide), hc 4 (by decide), ok⟩
structure GrpAt (w : World) (b o : Nat) (v : GrpV) : Prop where
  c0 : w.cell? ⟨b, o, none⟩ = some (.string v.s)
  c1 : w.cell? ⟨b, o + 1, none⟩ = some (.slice v.a v.l.length v.cap)
  ok : GrpOk w v
theorem GrpR.cells {w : World} {a : Option Addr} {l : List GrpV} (h : GrpR w a l) {i : Nat} (hi : i < l.length) : ∃ b o, a = some ⟨b, o, none⟩ ∧ GrpAt w b (o + i * 2) (l.getD i grpV0) := by
  obtain ⟨b, o, rfl, ok, hc⟩ := Recs.at h hi
  exact ⟨b, o, rfl, hc 0 (by decide), hc 1 (by decide), ok⟩

theorem Tryz.infoStr : (Tryz.prog.info? 9).map (fun i => (i.zero, i.size, i.bytes)) = some (some (.string ByteArray.empty), 1, 16) := by kernel_rfl
abbrev OwnS (w : World) (base : Nat) (v : Value) (ss : List ByteArray) : Prop := w.ownsRow base 9 1 v ss.length (ss.map Value.string)
theorem OwnS.nil (w : World) (base : Nat) : OwnS w base (.slice none 0 0) [] := World.ownsRow_nil _ _ _ _
theorem OwnS.let {w : World} {base : Nat} {v : Value} {ss : List ByteArray} (h : OwnS w base v ss) {n : Nat} (hn : ss.length = n) : ∃ a cap, v = .slice a n cap ∧ Strs w a ss := by
  subst hn
  have hcell := @World.ownsRow.cells w base 9 1 v ss.length (ss.map Value.string) h
  rcases h.2 with ⟨hv, hn⟩ | ⟨g, cap, cur, hv, _, _, hnc, _⟩
  · exact ⟨none, 0, by rw [hv, hn], .inl (List.eq_nil_of_length_eq_zero hn)⟩
  · refine ⟨some ⟨g, 0, none⟩, cap, hv, .inr ⟨g, 0, rfl, fun i hi => ?_⟩⟩
    have := hcell (g := g) (by rw [hv]; rfl) i (.string (ss.getD i ByteArray.empty)) (by simp [hi, List.getD])
    have e : (⟨g, 0, none⟩ : Addr).add i = ⟨g, 0 + i, none⟩ := by unfold Addr.add; split <;> simp_all
    rwa [e] at this
theorem strs_oneCell (ss : List ByteArray) : ∀ u ∈ ss.map Value.string, u.oneCell' = true := by
  intro u hu
  obtain ⟨s, _, rfl⟩ := List.mem_map.1 hu
  rfl
/-- 'append(all, s)' -/
theorem wpList_append_name {w : World} {ops : Array Oper} {rest : List Oper} {o : Oper} {a : Act} {Q : Exit → Act → World → Prop} (hgd : o.guard = none) (s x : Operand)
    (ho : o.op = .call { callee := .builtin .append, args := #[s, x], argTypes := #[59, 59] }) (base : Nat) (v : Value) (xs : List ByteArray) (str : ByteArray) (ad : Addr) (c : Nat) (hs : a.eval s = v) (hx : a.eval x = .slice (some ad) 1 c)
    (hown : OwnS w base v xs) (hc : w.cell? ad = some (.string str)) (hlen : xs.length + 1 ≤ 1000000) (hbase : base ≤ w.heap.size) (w0 : World) (hbel : Below base w0 w)
    (h : ∀ v' w', OwnS w' base v' (xs ++ [str]) → Below base w0 w' → wpList Tryz.prog ops Q rest (a.put o.dst v') w') : wpList Tryz.prog ops Q (o :: rest) a w := by
  obtain ⟨i0, hi, hz0, hz1, hz2⟩ := info_parts Tryz.infoStr
  refine wpList_append_own _ hgd s x 59 ho base 9 i0 (.string ByteArray.empty) 1 16 Tryz.underlying59 hi hz0 hz1 hz2 rfl (by decide) v xs.length _ hs hown ad 1 c [.string str] hx rfl ?_ (strs_oneCell [str]) (by unfold maxLen; omega) (by omega) hbase ?_
  · intro j u hj
    match j, hj with
    | 0, hj => simp at hj; subst hj; simpa [Addr.add] using hc
  · intro v' w' h1 h2 _
    refine h v' w' ?_ (hbel.grown h2 hbase (fun k e => (hown.lt k e).1))
    unfold OwnS
    simpa using h1

/-- What a slice of the call's own holds stays, where its block does. -/
theorem row_below {w w' : World} {base B : Nat} {e : TypeId} {c n : Nat} {v : Value} {l : List Value} (h : w.ownsRow base e c v n l) (k : Below B w w') (hB : ∀ g, v.ownBlock = some g → g < B) : w'.ownsRow base e c v n l := by
  refine ⟨h.1, ?_⟩
  rcases h.2 with hn | ⟨g, cap, cur, rfl, hb, hg, rest⟩
  · exact .inl hn
  · exact .inr ⟨g, cap, cur, rfl, hb, (k.block g (hB g rfl)).trans hg, rest⟩
theorem row_kept {w w' : World} {base : Nat} {e : TypeId} {c n : Nat} {v : Value} {l : List Value} (h : w.ownsRow base e c v n l) (k : Kept w w') : w'.ownsRow base e c v n l := row_below h k fun g e => (h.lt g e).2
/-- A store into a block that is none of the slice's. -/
theorem row_far {w : World} {base : Nat} {e : TypeId} {c n : Nat} {v : Value} {l : List Value} (h : w.ownsRow base e c v n l) (p : Addr) (x : Value) (hp : ∀ g, v.ownBlock = some g → p.block ≠ g) : (w.setCell p x).ownsRow base e c v n l := by
  refine ⟨h.1, ?_⟩
  rcases h.2 with hn | ⟨g, cap, cur, rfl, hb, hg, rest⟩
  · exact .inl hn
  · refine .inr ⟨g, cap, cur, rfl, hb, ?_, rest⟩
    have := hp g rfl
    simp only [World.setCell, Array.getElem?_modify, if_neg this]
    exact hg
end Go.Proofs.YtljmgbpecoifnaaGreatDoor
