/- What Build holds as it goes: the table, the places, the map. -/
import Derived.Test.YtahkiaoifkcmoaaAp
namespace Go.Proofs.Ytahkiaoifkcmoaa
open Go.RowKit

/-- A name as a map's key. -/
abbrev keyL (s : ByteArray) : Lit := .string s.data.toList
theorem keyL_ne {s t : ByteArray} (h : s ≠ t) : keyL s ≠ keyL t := by
  intro e
  apply h
  simp only [keyL, Lit.string.injEq] at e
  apply ByteArray.ext
  exact Array.ext' e
theorem isKey (s : ByteArray) : WideAt.IsKeyLit (keyL s) := by unfold keyL WideAt.IsKeyLit; trivial
theorem isKey0 : WideAt.IsKeyLit (.string []) := by unfold WideAt.IsKeyLit; trivial
theorem keyOf_str (s : ByteArray) (h : s.size ≤ maxLen) : keyOf Try.prog 9 (.string s) = some (keyL s) := WideMaps.keyOf_string_mk Try.underlying9 h

/-- The map holds just the names that are there, each with its place. -/
def MapOk (D : DataW Unit) (F : List (List Int)) : Prop :=
  Maps.IsMap D ∧ ∀ s : ByteArray, (Maps.has D (keyL s) = decide (nm s = [] ∨ nm s ∈ F)) ∧ ((nm s = [] ∨ nm s ∈ F) → D.atKey (keyL s) (.lit (.int .i64 0)) = .lit (.int .i64 (plc F (nm s) : Nat)))
theorem MapOk.start : MapOk (DataW.put (.map []) (.string []) (.lit (.int .i64 0))) [] := by
  refine ⟨Maps.isMap_empty.put _ _, fun s => ?_⟩
  by_cases h : nm s = []
  · have e : keyL s = .string [] := by rw [nm_nil.1 h]
    rw [e]
    refine ⟨?_, fun _ => ?_⟩
    · rw [Maps.has_put_same Maps.isMap_empty isKey0]
      simp [h]
    · rw [Maps.atKey_put_same Maps.isMap_empty isKey0]
      simp [plc, h]
  · have e : keyL s ≠ .string [] := by
      intro e
      apply h
      simp only [keyL, Lit.string.injEq] at e
      simp [nm, e]
    refine ⟨?_, fun h' => ?_⟩
    · rw [Maps.has_put_other e]
      simp [h, Maps.has]
    · rcases h' with h' | h'
      · exact absurd h' h
      · cases h'
theorem MapOk.new {D : DataW Unit} {F : List (List Int)} (h : MapOk D F) {s : ByteArray} (h0 : nm s ≠ []) (h1 : nm s ∉ F) : MapOk (D.put (keyL s) (.lit (.int .i64 ((tbl F).length : Nat)))) (F ++ [nm s]) := by
  refine ⟨h.1.put _ _, fun t => ?_⟩
  by_cases e : t = s
  · subst e
    refine ⟨?_, fun _ => ?_⟩
    · rw [Maps.has_put_same h.1 (isKey t)]
      simp
    · rw [Maps.atKey_put_same h.1 (isKey t), plc_new h0 h1]
  · have hk : keyL t ≠ keyL s := keyL_ne e
    have hn : ¬ nm t = nm s := fun h => e (nm_inj h)
    obtain ⟨a1, a2⟩ := h.2 t
    have hm : (nm t = [] ∨ nm t ∈ F ++ [nm s]) ↔ (nm t = [] ∨ nm t ∈ F) := by simp [hn]
    refine ⟨?_, fun h' => ?_⟩
    · rw [Maps.has_put_other hk, a1]
      exact decide_eq_decide.2 hm.symm
    · rw [Maps.atKey_put_other hk, a2 (hm.1 h'), plc_old (by rcases hm.1 h' with h | h; exact .inr h; exact .inl h)]

/-- The names up to one. -/
abbrev fk (ss : List ByteArray) (k : Nat) : List (List Int) := fsts (nms (ss.take k))
theorem fk_zero (ss : List ByteArray) : fk ss 0 = [] := rfl
theorem nms_snoc (ss : List ByteArray) (s : ByteArray) : nms (ss ++ [s]) = nms ss ++ [nm s] := by simp [nms]
theorem fk_succ {ss : List ByteArray} {k : Nat} (h : k < ss.length) : fk ss (k + 1) = fsStep (fk ss k) (nm (ss.getD k ByteArray.empty)) := by
  unfold fk
  rw [take_snoc_str ss k h, nms_snoc, fsts_snoc]
theorem fk_all (ss : List ByteArray) : fk ss ss.length = fsts (nms ss) := by unfold fk; rw [List.take_length]
theorem fk_bound {ss : List ByteArray} (h : badB ss = false) (hn : ss.length ≤ 1024) (k : Nat) : (tbl (fk ss k)).length ≤ 66561 := by
  have := tbl_bound (ss := ss.take k) (fun s hs => bad_false h s (List.mem_of_mem_take hs))
  have h2 : (ss.take k).length ≤ ss.length := by rw [List.length_take]; omega
  unfold fk
  omega

/-- The places that are laid so far, and noughts. -/
def plAt (ss : List ByteArray) (k n : Nat) : List Int := plcI (ss.take k) ++ List.replicate (n - k) 0
theorem plAt_length {ss : List ByteArray} {k n : Nat} (hn : ss.length = n) (h : k ≤ n) : (plAt ss k n).length = n := by
  unfold plAt
  rw [List.length_append, plcI_length, List.length_take, List.length_replicate]
  omega
theorem plAt_zero (ss : List ByteArray) (n : Nat) : plAt ss 0 n = List.replicate n 0 := by simp [plAt, plcI, plcs, nms]
theorem plAt_all {ss : List ByteArray} {n : Nat} (hn : ss.length = n) : plAt ss n n = plcI ss := by
  subst hn
  simp [plAt]
theorem plcI_snoc {ss : List ByteArray} {k : Nat} (h : k < ss.length) : plcI (ss.take (k + 1)) = plcI (ss.take k) ++ [((plc (fk ss (k + 1)) (nm (ss.getD k ByteArray.empty)) : Nat) : Int)] := by
  unfold plcI fk
  rw [take_snoc_str ss k h, nms_snoc, plcs_snoc]
  simp
theorem plAt_set {ss : List ByteArray} {k n : Nat} (hn : ss.length = n) (h : k < n) : (plAt ss k n).set k ((plc (fk ss (k + 1)) (nm (ss.getD k ByteArray.empty)) : Nat) : Int) = plAt ss (k + 1) n := by
  obtain ⟨m, hm⟩ : ∃ m, n - k = m + 1 := ⟨n - k - 1, by omega⟩
  have hm' : n - (k + 1) = m := by omega
  have hl : (plcI (ss.take k)).length = k := by rw [plcI_length, List.length_take]; omega
  unfold plAt
  rw [hm, hm', List.set_append_right _ _ (by omega), hl, Nat.sub_self, List.replicate_succ, List.set_cons_zero, plcI_snoc (by omega), List.append_assoc]
  rfl

/-- All that Build holds behind k names: w the world of the call, wr the world now. -/
structure BSt (w wr : World) (ss : List ByteArray) (gp gm g C n k : Nat) (D : DataW Unit) : Prop where
  tab : Own wr w.heap.size (.slice (some ⟨g, 0, none⟩) (tbl (fk ss k)).length C) (tbl (fk ss k))
  pl : wr.ownsRow w.heap.size 3 1 (.slice (some ⟨gp, 0, none⟩) n n) n ((plAt ss k n).map (Value.int .i64))
  mp : OwnM wr gm (k + 1) D
  ok : MapOk D (fk ss k)
  ne1 : g ≠ gp
  ne2 : g ≠ gm
  ne3 : gp ≠ gm
  b1 : w.heap.size ≤ gp
  b2 : w.heap.size ≤ gm
  kept : Kept w wr
theorem BSt.gp_lt {w wr : World} {ss : List ByteArray} {gp gm g C n k : Nat} {D : DataW Unit} (h : BSt w wr ss gp gm g C n k D) : gp < wr.heap.size := (h.pl.lt gp rfl).2
theorem BSt.gm_lt {w wr : World} {ss : List ByteArray} {gp gm g C n k : Nat} {D : DataW Unit} (h : BSt w wr ss gp gm g C n k D) : gm < wr.heap.size := h.mp.lt
theorem BSt.g_ge {w wr : World} {ss : List ByteArray} {gp gm g C n k : Nat} {D : DataW Unit} (h : BSt w wr ss gp gm g C n k D) : w.heap.size ≤ g := (h.tab.lt g rfl).1

/-- A name that is there already. -/
theorem BSt.old {w wr : World} {ss : List ByteArray} {gp gm g C n k : Nat} {D : DataW Unit} (h : BSt w wr ss gp gm g C n k D) (hn : ss.length = n) (hk : k < n) (ho : nm (ss.getD k ByteArray.empty) = [] ∨ nm (ss.getD k ByteArray.empty) ∈ fk ss k) :
    BSt w (wr.setCell ⟨gp, k, none⟩ (.int .i64 ((plc (fk ss k) (nm (ss.getD k ByteArray.empty)) : Nat) : Int))) ss gp gm g C n (k + 1) D := by
  have e : fk ss (k + 1) = fk ss k := by rw [fk_succ (by omega), fsStep_old ho]
  obtain ⟨S1, S2⟩ := h.pl.stored k (.int .i64 ((plc (fk ss k) (nm (ss.getD k ByteArray.empty)) : Nat) : Int))
  refine ⟨?_, ?_, ?_, ?_, h.ne1, h.ne2, h.ne3, h.b1, h.b2, ?_⟩
  · rw [e]
    exact World.ownsRow.kept h.tab S2 (.inr (by simp [Value.ownBlock]; exact h.ne1))
  · rw [← plAt_set hn hk, e, List.map_set]
    exact S1
  · exact (h.mp.kept S2 (by simp; exact fun e => h.ne3 e.symm)).mono (Nat.le_succ _)
  · rw [e]
    exact h.ok
  · exact h.kept.grown S2 h.kept.size (fun j e => by cases e; exact h.b1)

/-- A name that is new: the map, the table twice (a row for the 0 between), the places. -/
theorem BSt.new {w wr : World} {ss : List ByteArray} {gp gm g C n k : Nat} {D : DataW Unit} (h : BSt w wr ss gp gm g C n k D) (hn : ss.length = n) (hk : k < n) (s : ByteArray) (hs : ss.getD k ByteArray.empty = s) (h0 : nm s ≠ []) (h1 : nm s ∉ fk ss k)
    {w1 w2 w4 : World} {o : Obj} {g2 g4 C4 : Nat} (hm : OwnM w1 gm (k + 1 + 1) (D.put (keyL s) (.lit (.int .i64 ((tbl (fk ss k)).length : Nat))))) (k1 : wr.grownBy w1 (some gm))
    (k2 : w1.grownBy w2 (some g)) (e2 : g2 = g ∨ g2 = w1.heap.size)
    (t4 : Own w4 w.heap.size (.slice (some ⟨g4, 0, none⟩) ((tbl (fk ss k)).length + s.size + 1) C4) (tbl (fk ss k) ++ nm s ++ [0])) (k4 : (w2.alloc o).grownBy w4 (some g2)) (e4 : g4 = g2 ∨ g4 = (w2.alloc o).heap.size) (b2' : w.heap.size ≤ g2) :
    BSt w (w4.setCell ⟨gp, k, none⟩ (.int .i64 ((tbl (fk ss k)).length : Nat))) ss gp gm g4 C4 n (k + 1) (D.put (keyL s) (.lit (.int .i64 ((tbl (fk ss k)).length : Nat)))) ∧ w4.cell? ⟨gp, k, none⟩ = some (.int .i64 0) ∧ w4.frozen? ⟨gp, k, none⟩ = false := by
  have hgp := h.gp_lt
  have hgm := h.gm_lt
  have z1 := k1.size
  have z2 := k2.size
  have z3 : (w2.alloc o).heap.size = w2.heap.size + 1 := by simp
  have n2 : g2 ≠ gp ∧ g2 ≠ gm := by
    rcases e2 with rfl | rfl
    · exact ⟨h.ne1, h.ne2⟩
    · exact ⟨by omega, by omega⟩
  have n4 : g4 ≠ gp ∧ g4 ≠ gm := by
    rcases e4 with rfl | rfl
    · exact n2
    · exact ⟨by omega, by omega⟩
  have p1 := h.pl.kept k1 (.inr (by simp [Value.ownBlock]; exact h.ne3))
  have p2 := p1.kept k2 (.inr (by simp [Value.ownBlock]; exact fun e => h.ne1 e.symm))
  have p4 := (p2.alloc o).kept k4 (.inr (by simp [Value.ownBlock]; exact fun e => n2.1 e.symm))
  have m4 := ((hm.kept k2 (by simp; exact fun e => h.ne2 e.symm)).alloc o).kept k4 (by simp; exact fun e => n2.2 e.symm)
  have K4 : Kept w w4 := by
    have a1 := h.kept.grown k1 h.kept.size (fun j e => by cases e; exact h.b2)
    have a2 := a1.grown k2 a1.size (fun j e => by cases e; exact h.g_ge)
    have a3 := Below.alloc a2 a2.size o
    exact a3.grown k4 a3.size (fun j e => by cases e; exact b2')
  obtain ⟨S1, S2⟩ := p4.stored k (.int .i64 ((tbl (fk ss k)).length : Nat))
  have e : fk ss (k + 1) = fk ss k ++ [nm s] := by rw [fk_succ (by omega), hs, fsStep_new h0 h1]
  have et : tbl (fk ss (k + 1)) = tbl (fk ss k) ++ nm s ++ [0] := by rw [e, tbl_snoc, List.append_assoc]
  have el : (tbl (fk ss (k + 1))).length = (tbl (fk ss k)).length + s.size + 1 := by rw [et]; simp [nm_length]; omega
  refine ⟨⟨?_, ?_, ?_, ?_, n4.1, n4.2, h.ne3, h.b1, h.b2, ?_⟩, ?_, ?_⟩
  · have := World.ownsRow.kept t4 S2 (.inr (by simp [Value.ownBlock]; exact n4.1))
    rw [el, et]
    exact this
  · rw [← plAt_set hn hk, hs, e, plc_new h0 h1, List.map_set]
    exact S1
  · exact m4.kept S2 (by simp; exact fun e => h.ne3 e.symm)
  · rw [e]
    exact h.ok.new h0 h1
  · exact K4.grown S2 K4.size (fun j e => by cases e; exact h.b1)
  · rw [p4.cellAt k (by omega)]
    have hl : (plcI (ss.take k)).length = k := by rw [plcI_length, List.length_take]; omega
    unfold plAt
    rw [List.getElem?_map, List.getElem?_append_right (by omega), hl, Nat.sub_self, List.getElem?_replicate, if_pos (by omega)]
    rfl
  · exact p4.frozenAt k
end Go.Proofs.Ytahkiaoifkcmoaa
