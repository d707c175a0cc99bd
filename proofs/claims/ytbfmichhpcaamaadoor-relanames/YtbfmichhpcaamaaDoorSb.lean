/- The table of sizes, and a symbol that lies in a block. -/
import Derived.Test.YtbfmichhpcaamaaDoorBx
import Derived.Test.YtbfmichhpcaamaaDoorYw
import Derived.Lib.LaidTab
import Derived.Deep.MidRow
import Derived.Deep.Fields
namespace Go.Proofs.YtbfmichhpcaamaaDoor
open Go.RowKit

/-- An array of numbers, as a row lists it. -/
def intData {H : Type} (k : IntKind) (zs : List Int) : DataW H := .agg (zs.map fun z => .lit (.int k z))

/-- AN ARRAY OF NUMBERS THAT READS AS THE LIST HOLDS THE LIST's NUMBERS, CELL FOR CELL. -/
theorem cells_of_ints {H : Type} {enc : TypeId × Value → H} {P : Program} {w : World} {base : Nat} {sp : Nat → Bool} {held : Bool} {fuel : Nat} {t e : TypeId} {n : Nat} {k : IntKind} {cs : List Value} {zs : List Int} {p : List MemPlace}
    (ht : P.underlying t = some (.array n e)) (he : P.underlying e = some (.int k)) (hce : P.cellsOf e = 1) (hct : P.cellsOf t = n)
    (h : DataW.trod enc P w base sp held fuel t cs = some (intData k zs, p)) : cs = zs.map fun z => Value.int k z := by
  cases fuel with
  | zero => simp [DataW.trod] at h
  | succ fuel =>
    simp only [DataW.trod, ht, hce, hct, Nat.mul_one] at h
    split at h
    · rename_i hl
      obtain ⟨xs, hm, hx⟩ := Option.map_eq_some_iff.1 h
      have hxs : xs.map (·.1) = zs.map fun z => (DataW.lit (.int k z) : DataW H) := by
        have := congrArg Prod.fst hx
        simpa [intData] using this
      have hxl : xs.length = n := by simpa using Lib.mapM_length hm
      have hzl : zs.length = n := by
        have := congrArg List.length hxs
        simp at this
        omega
      apply List.ext_getElem?
      intro i
      by_cases hi : i < n
      · obtain ⟨b, hb, hf⟩ := Lib.mapM_at hm i i (by simp [hi])
        obtain ⟨s, hc, rfl, _⟩ := DataW.trod_int he hf
        have h1 : cs[i]? = some (.int k s) := by
          have := congrArg (·[0]?) hc
          simpa [List.getElem?_take, List.getElem?_drop] using this
        have h2 : (xs.map (·.1))[i]? = some (DataW.lit (.int k s) : DataW H) := by simp [hb]
        rw [hxs] at h2
        simp only [List.getElem?_map, Option.map_eq_some_iff, DataW.lit.injEq, Lit.int.injEq, true_and] at h2
        obtain ⟨z', hz', hzs⟩ := h2
        subst hzs
        simp [h1, hz']
      · rw [List.getElem?_eq_none (by omega), List.getElem?_eq_none (by simp; omega)]
    · cases h

/-- FROM THE ROW's CONDITION TO THE VARIABLE's CELLS: it stands first on the list. -/
theorem ints_of_head {P : Program} {W : World} {name : String} {k : IntKind} {zs : List Int} {rest : List (String × DataW Unit)} {g : Nat} {t e : TypeId} {n : Nat}
    (hg : P.globalNamed name = some g) (hty : (P.globals[g]?).map (·.type) = some t) (ht : P.underlying t = some (.array n e)) (he : P.underlying e = some (.int k)) (hce : P.cellsOf e = 1) (hct : P.cellsOf t = n)
    (h : laidMet P ((name, intData k zs) :: rest) W) (i : Nat) (hi : i < zs.length) : W.cell? ⟨g, i, none⟩ = some (.int k (zs.getD i 0)) := by
  obtain ⟨ps, ⟨g', t', cs, fuel, p, q, hg', ht', hvar, hd, _, _⟩, _⟩ := h
  obtain rfl := Option.some.inj (hg.symm.trans hg')
  obtain rfl := Option.some.inj (hty.symm.trans ht')
  have hcs := cells_of_ints ht he hce hct hd
  have := World.var?_cell hg hvar i
  have h2 : cs[i]? = some (Value.int k (zs.getD i 0)) := by
    rw [← Array.getElem?_toList, hcs]
    simp [List.getD, hi]
  rw [this, h2]


/-- The sizes, in their order. -/
def sizeTab : List Int := [4, 1, 1, 2, 8, 8]
theorem cellsOneInt : Tryd.prog.cellsOf 3 = 1 := by kernel_rfl
abbrev symW (s : ByteArray) (bind : Int) (hid : Bool) (wh val sz : Int) : Value := .agg #[.string s, .int .u8 bind, .bool hid, .int .i64 wh, .int .i64 val, .int .i64 sz]
/-- A symbol that lies in a block. -/
structure SBx (w : World) (b : Nat) (s : ByteArray) (bind : Int) (hid : Bool) (wh val sz : Int) : Prop where
  c0 : w.cell? ⟨b, 0, none⟩ = some (.string s)
  c1 : w.cell? ⟨b, 1, none⟩ = some (.int .u8 bind)
  c2 : w.cell? ⟨b, 2, none⟩ = some (.bool hid)
  c3 : w.cell? ⟨b, 3, none⟩ = some (.int .i64 wh)
  c4 : w.cell? ⟨b, 4, none⟩ = some (.int .i64 val)
  c5 : w.cell? ⟨b, 5, none⟩ = some (.int .i64 sz)
  f0 : w.frozen? ⟨b, 0, none⟩ = false
  f1 : w.frozen? ⟨b, 1, none⟩ = false
  f2 : w.frozen? ⟨b, 2, none⟩ = false
  f3 : w.frozen? ⟨b, 3, none⟩ = false
  f4 : w.frozen? ⟨b, 4, none⟩ = false
  f5 : w.frozen? ⟨b, 5, none⟩ = false
theorem SBx.lt {w : World} {b : Nat} {s : ByteArray} {bind : Int} {hid : Bool} {wh val sz : Int} (h : SBx w b s bind hid wh val sz) : b < w.heap.size := block_lt_of_cell h.c0
theorem SBx.below {w w' : World} {b n : Nat} {s : ByteArray} {bind : Int} {hid : Bool} {wh val sz : Int} (h : SBx w b s bind hid wh val sz) (k : Below n w w') (hb : b < n) : SBx w' b s bind hid wh val sz :=
  ⟨(k.cell hb).trans h.c0, (k.cell hb).trans h.c1, (k.cell hb).trans h.c2, (k.cell hb).trans h.c3, (k.cell hb).trans h.c4, (k.cell hb).trans h.c5, (k.frozen hb).trans h.f0, (k.frozen hb).trans h.f1, (k.frozen hb).trans h.f2, (k.frozen hb).trans h.f3, (k.frozen hb).trans h.f4, (k.frozen hb).trans h.f5⟩
theorem SBx.kept {w w' : World} {b : Nat} {s : ByteArray} {bind : Int} {hid : Bool} {wh val sz : Int} (h : SBx w b s bind hid wh val sz) (k : Kept w w') : SBx w' b s bind hid wh val sz := h.below k h.lt
theorem SBx.set0 {w : World} {b : Nat} {s : ByteArray} {bind : Int} {hid : Bool} {wh val sz : Int} (h : SBx w b s bind hid wh val sz) (u : ByteArray) : SBx (w.setCell ⟨b, 0, none⟩ (.string u)) b u bind hid wh val sz :=
  ⟨World.cell?_setCell_same _ _ _ h.c0, set_other h.c1 (by decide), set_other h.c2 (by decide), set_other h.c3 (by decide), set_other h.c4 (by decide), set_other h.c5 (by decide), set_frozen h.f0, set_frozen h.f1, set_frozen h.f2, set_frozen h.f3, set_frozen h.f4, set_frozen h.f5⟩
theorem SBx.set1 {w : World} {b : Nat} {s : ByteArray} {bind : Int} {hid : Bool} {wh val sz : Int} (h : SBx w b s bind hid wh val sz) (u : Int) : SBx (w.setCell ⟨b, 1, none⟩ (.int .u8 u)) b s u hid wh val sz :=
  ⟨set_other h.c0 (by decide), World.cell?_setCell_same _ _ _ h.c1, set_other h.c2 (by decide), set_other h.c3 (by decide), set_other h.c4 (by decide), set_other h.c5 (by decide), set_frozen h.f0, set_frozen h.f1, set_frozen h.f2, set_frozen h.f3, set_frozen h.f4, set_frozen h.f5⟩
theorem SBx.set2 {w : World} {b : Nat} {s : ByteArray} {bind : Int} {hid : Bool} {wh val sz : Int} (h : SBx w b s bind hid wh val sz) (u : Bool) : SBx (w.setCell ⟨b, 2, none⟩ (.bool u)) b s bind u wh val sz :=
  ⟨set_other h.c0 (by decide), set_other h.c1 (by decide), World.cell?_setCell_same _ _ _ h.c2, set_other h.c3 (by decide), set_other h.c4 (by decide), set_other h.c5 (by decide), set_frozen h.f0, set_frozen h.f1, set_frozen h.f2, set_frozen h.f3, set_frozen h.f4, set_frozen h.f5⟩
theorem SBx.set3 {w : World} {b : Nat} {s : ByteArray} {bind : Int} {hid : Bool} {wh val sz : Int} (h : SBx w b s bind hid wh val sz) (u : Int) : SBx (w.setCell ⟨b, 3, none⟩ (.int .i64 u)) b s bind hid u val sz :=
  ⟨set_other h.c0 (by decide), set_other h.c1 (by decide), set_other h.c2 (by decide), World.cell?_setCell_same _ _ _ h.c3, set_other h.c4 (by decide), set_other h.c5 (by decide), set_frozen h.f0, set_frozen h.f1, set_frozen h.f2, set_frozen h.f3, set_frozen h.f4, set_frozen h.f5⟩
theorem SBx.set4 {w : World} {b : Nat} {s : ByteArray} {bind : Int} {hid : Bool} {wh val sz : Int} (h : SBx w b s bind hid wh val sz) (u : Int) : SBx (w.setCell ⟨b, 4, none⟩ (.int .i64 u)) b s bind hid wh u sz :=
  ⟨set_other h.c0 (by decide), set_other h.c1 (by decide), set_other h.c2 (by decide), set_other h.c3 (by decide), World.cell?_setCell_same _ _ _ h.c4, set_other h.c5 (by decide), set_frozen h.f0, set_frozen h.f1, set_frozen h.f2, set_frozen h.f3, set_frozen h.f4, set_frozen h.f5⟩
theorem SBx.set5 {w : World} {b : Nat} {s : ByteArray} {bind : Int} {hid : Bool} {wh val sz : Int} (h : SBx w b s bind hid wh val sz) (u : Int) : SBx (w.setCell ⟨b, 5, none⟩ (.int .i64 u)) b s bind hid wh val u :=
  ⟨set_other h.c0 (by decide), set_other h.c1 (by decide), set_other h.c2 (by decide), set_other h.c3 (by decide), set_other h.c4 (by decide), World.cell?_setCell_same _ _ _ h.c5, set_frozen h.f0, set_frozen h.f1, set_frozen h.f2, set_frozen h.f3, set_frozen h.f4, set_frozen h.f5⟩
theorem SBx.far {w : World} {b : Nat} {s : ByteArray} {bind : Int} {hid : Bool} {wh val sz : Int} (h : SBx w b s bind hid wh val sz) (b' i : Nat) (u : Value) (hb : b' ≠ b) : SBx (w.setCell ⟨b', i, none⟩ u) b s bind hid wh val sz :=
  ⟨set_far h.c0 hb, set_far h.c1 hb, set_far h.c2 hb, set_far h.c3 hb, set_far h.c4 hb, set_far h.c5 hb, set_frozen h.f0, set_frozen h.f1, set_frozen h.f2, set_frozen h.f3, set_frozen h.f4, set_frozen h.f5⟩
/-- The six cells of a symbol, put one after another. -/
abbrev put6 (w : World) (b : Nat) (s : ByteArray) (bind : Int) (hid : Bool) (wh val sz : Int) : World :=
  (((((w.setCell ⟨b, 0, none⟩ (.string s)).setCell ⟨b, 1, none⟩ (.int .u8 bind)).setCell ⟨b, 2, none⟩ (.bool hid)).setCell ⟨b, 3, none⟩ (.int .i64 wh)).setCell ⟨b, 4, none⟩ (.int .i64 val)).setCell ⟨b, 5, none⟩ (.int .i64 sz)
theorem SBx.put {w : World} {b : Nat} {s : ByteArray} {bind : Int} {hid : Bool} {wh val sz : Int} (h : SBx w b s bind hid wh val sz) (s' : ByteArray) (bind' : Int) (hid' : Bool) (wh' val' sz' : Int) : SBx (put6 w b s' bind' hid' wh' val' sz') b s' bind' hid' wh' val' sz' :=
  (((((h.set0 _).set1 _).set2 _).set3 _).set4 _).set5 _
theorem below_put6 {w : World} {b B : Nat} {a : World} (h : Below B a w) (hp : B ≤ b) (s : ByteArray) (bind : Int) (hid : Bool) (wh val sz : Int) : Below B a (put6 w b s bind hid wh val sz) :=
  (((((h.setCell hp _).setCell hp _).setCell hp _).setCell hp _).setCell hp _).setCell hp _
/-- A block that nothing of the row touches, beside a row that grows. -/
theorem grown_cell {w w' : World} {g : Nat} (h : w.grownBy w' (some g)) {a : Addr} {v : Value} (hc : w.cell? a = some v) (ha : a.block ≠ g) : w'.cell? a = some v :=
  h.cell hc (by simpa using ha)
theorem grown_frozen {w w' : World} {g : Nat} (h : w.grownBy w' (some g)) {a : Addr} (hl : a.block < w.heap.size) (ha : a.block ≠ g) : w'.frozen? a = w.frozen? a := by
  have := h.block a.block hl (by simpa using ha)
  unfold World.frozen?
  rw [this]
theorem SBx.grown {w w' : World} {b g : Nat} {s : ByteArray} {bind : Int} {hid : Bool} {wh val sz : Int} (h : SBx w b s bind hid wh val sz) (hg : w.grownBy w' (some g)) (hb : b ≠ g) : SBx w' b s bind hid wh val sz :=
  ⟨grown_cell hg h.c0 hb, grown_cell hg h.c1 hb, grown_cell hg h.c2 hb, grown_cell hg h.c3 hb, grown_cell hg h.c4 hb, grown_cell hg h.c5 hb, (grown_frozen hg h.lt hb).trans h.f0, (grown_frozen hg h.lt hb).trans h.f1, (grown_frozen hg h.lt hb).trans h.f2, (grown_frozen hg h.lt hb).trans h.f3, (grown_frozen hg h.lt hb).trans h.f4, (grown_frozen hg h.lt hb).trans h.f5⟩
/-- 'append(s, b...)', s the call's own and not nil, b bytes that lie at 'ad'. -/
theorem wpList_append_bytL {w : World} {ops : Array Oper} {rest : List Oper} {o : Oper} {a : Act} {Q : Exit → Act → World → Prop} (hgd : o.guard = none) (s x : Operand)
    (ho : o.op = .call { callee := .builtin .append, args := #[s, x], argTypes := #[33, 33] }) (base g len cap : Nat) (xs l : List Int) (ao : Option Addr) (m c : Nat) (hl : xs.length = len) (hm : l.length = m) (hs : a.eval s = .slice (some ⟨g, 0, none⟩) len cap) (hx : a.eval x = .slice ao m c)
    (hown : Own w base (.slice (some ⟨g, 0, none⟩) len cap) xs) (hb : Byt w ao l) (hpos : 0 < m) (hlen : len + m ≤ 10000000) (hbase : base ≤ w.heap.size)
    (h : ∀ g' cap' w', Own w' base (.slice (some ⟨g', 0, none⟩) (len + m) cap') (xs ++ l) → w.grownBy w' (some g) → (g' = g ∨ g' = w.heap.size) → wpList Tryd.prog ops Q rest (a.put o.dst (.slice (some ⟨g', 0, none⟩) (len + m) cap')) w') : wpList Tryd.prog ops Q (o :: rest) a w := by
  subst hl
  subst hm
  obtain ⟨i0, hi, hz0, hz1, hz2⟩ := info_parts Tryd.infoByte
  rcases hb with rfl | ⟨b, off, rfl, hc⟩
  · simp at hpos
  refine wpList_append_own_at _ hgd s x 33 ho base 5 i0 (.int .u8 0) 1 1 Tryd.underlying33 hi hz0 hz1 hz2 rfl (by decide) _ xs.length _ hs hown ⟨b, off, none⟩ l.length c (l.map (Value.int .u8)) hx (by simp) ?_ (ints_oneCell .u8 l) (by unfold maxLen; omega) (by omega) hbase ?_
  · intro j u hj
    have hjl : j < l.length := by simpa using (List.getElem?_eq_some_iff.1 hj).1
    have e : (⟨b, off, none⟩ : Addr).add j = ⟨b, off + j, none⟩ := by unfold Addr.add; split <;> simp_all
    rw [e, hc j hjl, ← hj]
    simp [List.getD, hjl]
  · intro v' w' h1 h2 _ h4
    have hv : ∃ g' cap', v' = .slice (some ⟨g', 0, none⟩) (xs.length + l.length) cap' := by
      rcases h1.2 with ⟨rfl, _⟩ | ⟨g', cap', cur, hv, _⟩
      · simp [Value.ownBlock] at h4
      · exact ⟨g', cap', hv⟩
    obtain ⟨g', cap', rfl⟩ := hv
    refine h g' cap' w' ?_ (by simpa [Value.ownBlock] using h2) (by simpa [Value.ownBlock] using h4)
    unfold Own
    simpa using h1
theorem kept_drew (w : World) : Kept w w.drew := Kept.drewN w 1
theorem own_keep {w w' : World} {base : Nat} {x : Value} {l : List Int} (h : Own w base x l) (k : Kept w w') : Own w' base x l := h.kept k fun g e => (h.lt g e).2
theorem own_app {w : World} {base : Nat} {x : Value} {l m : List Int} (h : Own w base x l) (e : l = m) : Own w base x m := e ▸ h
theorem str_beq {l m : List Int} (hl : ∀ x ∈ l, 0 ≤ x ∧ x < 256) (hm : ∀ x ∈ m, 0 ≤ x ∧ x < 256) : ((strOfNums l).toList == (strOfNums m).toList) = decide (l = m) := by
  by_cases h : l = m
  · rw [decide_eq_true h]
    exact beq_true (by rw [h])
  · rw [decide_eq_false h]
    exact beq_false fun e => h (str_inj hl hm e)
/-- bytes.Equal -/
theorem equal_walk (a a' : Option Addr) (n cap n' cap' : Nat) (l l' : List Int) (w : World) (hl : l.length = n) (hl' : l'.length = n') (hb : Byt w a l) (hb' : Byt w a' l') (hr : ∀ x ∈ l, 0 ≤ x ∧ x < 256) (hr' : ∀ x ∈ l', 0 ≤ x ∧ x < 256) :
    Calls Tryd.prog 24 #[.slice a n cap, .slice a' n' cap'] w fun e w' => e = .returned (.bool (decide (l = l'))) ∧ w' = w := by
  have S1 := str_len (cap := cap) hl hb
  have S2 := str_len (cap := cap') hl' hb'
  rw [← str_beq hr hr']
  obtain ⟨x, hx⟩ : ∃ x, strOfNums l = x := ⟨_, rfl⟩
  obtain ⟨y, hy⟩ : ∃ y, strOfNums l' = y := ⟨_, rfl⟩
  rw [hx] at S1 ⊢
  rw [hy] at S2 ⊢
  clear hx hy hr hr' hb hb'
  go_enter Tryd.func24, Tryd.ntmps24
  go_wp2
  go_ret
  exact ⟨rfl, rfl⟩

end Go.Proofs.YtbfmichhpcaamaaDoor
