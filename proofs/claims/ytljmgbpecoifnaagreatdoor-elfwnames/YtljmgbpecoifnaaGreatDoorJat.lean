/- Bytes that are looked for; names that may not be; whether a table may be, and the name at a place; and the document's own. What Build holds as it goes: the table, the places, the map. What Build gives. How the heads' names are put: the program's walk. -/
import Derived.Test.YtljmgbpecoifnaaGreatDoorJak
import Derived.Deep.LoopGhost
import Derived.Lib.Walk
import Derived.Test.YtljmgbpecoifnaaGreatDoorJas
namespace Go.Proofs.YtljmgbpecoifnaaGreatDoor
open Go.RowKit

/-! ### The library's -/
set_option maxRecDepth 20000 in
theorem liteIx_walk (s : ByteArray) (w : World) :
    Calls Tryz.prog 166 #[.string s, .int .u8 0] w fun e w' => e = .returned (.int .i64 (Lib.indexByte s.data.toList 0)) ∧ w' = w := by
  go_enter Tryz.func166, Tryz.ntmps166
  go_wp2
  rw [run_callFunc_extern Tryz.func168 (by kernel_rfl) (by kernel_rfl) (by kernel_rfl) (e := Extern.BytealgIndexByte.indexByte) (by kernel_rfl), Lib.run_indexByteString]
  simp only [Result.andThen]
  rw [Oper.upon_value]
  go_wp2
  go_ret
  exact ⟨rfl, rfl⟩
set_option maxRecDepth 20000 in
theorem strIx_walk (s : ByteArray) (w : World) :
    Calls Tryz.prog 156 #[.string s, .int .u8 0] w fun e w' => e = .returned (.int .i64 (Lib.indexByte s.data.toList 0)) ∧ w' = w := by
  go_enter Tryz.func156, Tryz.ntmps156
  go_wp2_with (go_at_call 166; refine (liteIx_walk s _).mono ?_; rintro e w' ⟨rfl, rfl⟩)
  go_ret
  exact ⟨rfl, rfl⟩
/-! ### Names that may not be -/
set_option maxRecDepth 20000 in
theorem isWrong_walk (s : ByteArray) (w : World) (_hs : s.size ≤ maxLen) :
    Calls Tryz.prog 132 #[.string s] w fun e w' => e = .returned (.bool (wrongB s)) ∧ w' = w := by
  by_cases h : 64 < s.size
  · have e : wrongB s = true := by simp [wrongB, h]
    rw [e]
    go_enter Tryz.func132, Tryz.ntmps132
    go_wp2
    go_ret
    exact ⟨rfl, rfl⟩
  · have e : wrongB s = decide (0 ≤ Lib.indexByte s.data.toList 0) := by rw [ix_str]; simp [wrongB, h]
    rw [e]
    have hd : decide (64 < (s.size : Int)) = false := by simp; omega
    go_enter Tryz.func132, Tryz.ntmps132
    go_wp2_with (go_at_call 156; refine (strIx_walk s _).mono ?_; rintro e w' ⟨rfl, rfl⟩)
    go_ret
    exact ⟨rfl, rfl⟩

set_option maxRecDepth 20000 in
set_option maxHeartbeats 1600000 in
theorem indexFunc_walk (a : Option Addr) (cap : Nat) (ss : List ByteArray) (w : World) (hn : ss.length ≤ 1024) (hsz : ∀ s ∈ ss, s.size ≤ maxLen) (hS : Strs w a ss) :
    Calls Tryz.prog 155 #[.slice a ss.length cap, .func (.func 132) #[] #[]] w fun e w' => (∃ k : Int, e = .returned (.int .i64 k) ∧ decide (0 ≤ k) = badB ss) ∧ w' = w := by
  obtain ⟨n, hlen⟩ : ∃ n, ss.length = n := ⟨_, rfl⟩
  rw [hlen] at hn ⊢
  go_enter Tryz.func155, Tryz.ntmps155
  go_wp2
  go_loop [8] (fun i => ∃ k : Nat, k ≤ n ∧ i = .int .i64 k ∧ Hid (∀ j, j < k → wrongB (ss.getD j ByteArray.empty) = false)) (fun i => n - (intOf i).toNat)
  case atStart => exact ⟨0, Nat.zero_le _, rfl, fun j hj => absurd hj (Nat.not_lt_zero _)⟩
  case round =>
    obtain ⟨k, hk, rfl, A⟩ := hrel
    by_cases hlt : k < n
    · obtain ⟨b, off, rfl, hc⟩ := hS.at (show k < ss.length by omega)
      have hcell := hc k (by omega)
      obtain ⟨s, hs⟩ : ∃ s, ss.getD k ByteArray.empty = s := ⟨_, rfl⟩
      have hmem : s ∈ ss := by rw [← hs]; exact getD_mem (by omega)
      have hsm := hsz s hmem
      rw [hs] at hcell
      have HS : Hid (ss.getD k ByteArray.empty = s) := hs
      clear hs hc hS hsz
      cases hq : wrongB s with
      | true =>
        have hw := isWrong_walk s w hsm
        rw [hq] at hw
        go_wp2_with (go_at_call 132; refine hw.mono ?_; rintro e w' ⟨rfl, hw'⟩; subst hw')
        go_ret
        refine ⟨⟨_, rfl, ?_⟩, rfl⟩
        have : badB ss = true := by unfold badB; rw [List.any_eq_true]; exact ⟨s, hmem, hq⟩
        rw [this]
        simp
      | false =>
        have hw := isWrong_walk s w hsm
        rw [hq] at hw
        go_wp2_with (go_at_call 132; refine hw.mono ?_; rintro e w' ⟨rfl, hw'⟩; subst hw')
        go_round
        case rel =>
          refine ⟨k + 1, by omega, by go_num, fun j hj => ?_⟩
          by_cases e : j = k
          · subst e; rw [HS.out]; exact hq
          · exact A.out j (by omega)
        case measure => simp [intOf]; omega
    · obtain rfl : k = n := by omega
      go_wp2
      go_ret
      refine ⟨⟨_, rfl, ?_⟩, rfl⟩
      have : badB ss = false := by
        unfold badB
        rw [List.any_eq_false]
        intro s hs
        obtain ⟨j, hj, rfl⟩ := List.mem_iff_getElem.1 hs
        have := A.out j (by omega)
        rw [List.getD, List.getElem?_eq_getElem hj] at this
        simpa using this
      rw [this]
      rfl
set_option maxRecDepth 20000 in
theorem containsFunc_walk (a : Option Addr) (cap : Nat) (ss : List ByteArray) (w : World) (hn : ss.length ≤ 1024) (hsz : ∀ s ∈ ss, s.size ≤ maxLen) (hS : Strs w a ss) :
    Calls Tryz.prog 131 #[.slice a ss.length cap, .func (.func 132) #[] #[]] w fun e w' => e = .returned (.bool (badB ss)) ∧ w' = w := by
  have h := indexFunc_walk a cap ss w hn hsz hS
  obtain ⟨n, hlen⟩ : ∃ n, ss.length = n := ⟨_, rfl⟩
  rw [hlen] at h ⊢
  go_enter Tryz.func131, Tryz.ntmps131
  go_wp2_with (go_at_call 155; refine h.mono ?_; rintro e w' ⟨⟨k, rfl, hb⟩, hw'⟩; subst hw')
  go_ret
  exact ⟨rfl, rfl⟩

/-- A name as a map's key. -/
abbrev keyL (s : ByteArray) : Lit := .string s.data.toList
theorem keyL_ne {s t : ByteArray} (h : s ≠ t) : keyL s ≠ keyL t := by
  intro e
  apply h
  simp only [keyL, Lit.string.injEq] at e
  apply ByteArray.ext
  exact Array.ext' e
theorem isKey (s : ByteArray) : WideAt.IsKeyLit (keyL s) := by unfold keyL WideAt.IsKeyLit; trivial
theorem isKey0 : WideAt.IsKeyLit (.string []) := by unfold WideAt.IsKeyLit; trivial
theorem keyOf_str (s : ByteArray) (h : s.size ≤ maxLen) : keyOf Tryz.prog 9 (.string s) = some (keyL s) := WideMaps.keyOf_string_mk Tryz.underlying9 h

/-- The map holds just the names that are there, each with its place. -/
def MapOk (D : DataW Unit) (F : List (List Int)) : Prop :=
  Maps.IsMap D ∧ ∀ s : ByteArray, (Maps.has D (keyL s) = decide (nm s = [] ∨ nm s ∈ F)) ∧ ((nm s = [] ∨ nm s ∈ F) → D.atKey (keyL s) (.lit (.int .i64 0)) = .lit (.int .i64 (plc F (nm s) : Nat)))
theorem MapOk.start : MapOk (DataW.put (.map []) (.string []) (.lit (.int .i64 0))) [] := by
  refine ⟨Maps.isMap_empty.put _ _, fun s => ?_⟩
  by_cases h : nm s = []
  · have e : keyL s = .string [] := by rw [nm_nil.1 h]
    rw [e]
    refine ⟨?_, fun _ => ?_⟩
    · rw [Maps.has_put_same Maps.isMap_empty isKey0]
      simp [h]
    · rw [Maps.atKey_put_same Maps.isMap_empty isKey0]
      simp [plc, h]
  · have e : keyL s ≠ .string [] := by
      intro e
      apply h
      simp only [keyL, Lit.string.injEq] at e
      simp [nm, e]
    refine ⟨?_, fun h' => ?_⟩
    · rw [Maps.has_put_other e]
      simp [h, Maps.has]
    · rcases h' with h' | h'
      · exact absurd h' h
      · cases h'
theorem MapOk.new {D : DataW Unit} {F : List (List Int)} (h : MapOk D F) {s : ByteArray} (h0 : nm s ≠ []) (h1 : nm s ∉ F) : MapOk (D.put (keyL s) (.lit (.int .i64 ((tbl F).length : Nat)))) (F ++ [nm s]) := by
  refine ⟨h.1.put _ _, fun t => ?_⟩
  by_cases e : t = s
  · subst e
    refine ⟨?_, fun _ => ?_⟩
    · rw [Maps.has_put_same h.1 (isKey t)]
      simp
    · rw [Maps.atKey_put_same h.1 (isKey t), plc_new h0 h1]
  · have hk : keyL t ≠ keyL s := keyL_ne e
    have hn : ¬ nm t = nm s := fun h => e (nm_inj h)
    obtain ⟨a1, a2⟩ := h.2 t
    have hm : (nm t = [] ∨ nm t ∈ F ++ [nm s]) ↔ (nm t = [] ∨ nm t ∈ F) := by simp [hn]
    refine ⟨?_, fun h' => ?_⟩
    · rw [Maps.has_put_other hk, a1]
      exact decide_eq_decide.2 hm.symm
    · rw [Maps.atKey_put_other hk, a2 (hm.1 h'), plc_old (by rcases hm.1 h' with h | h; exact .inr h; exact .inl h)]

/-- The names up to one. -/
abbrev fk (ss : List ByteArray) (k : Nat) : List (List Int) := fsts (nms (ss.take k))
theorem fk_zero (ss : List ByteArray) : fk ss 0 = [] := rfl
theorem nms_snoc (ss : List ByteArray) (s : ByteArray) : nms (ss ++ [s]) = nms ss ++ [nm s] := by simp [nms]
theorem fk_succ {ss : List ByteArray} {k : Nat} (h : k < ss.length) : fk ss (k + 1) = fsStep (fk ss k) (nm (ss.getD k ByteArray.empty)) := by
  unfold fk
  rw [take_snoc_str ss k h, nms_snoc, fsts_snoc]
theorem fk_all (ss : List ByteArray) : fk ss ss.length = fsts (nms ss) := by unfold fk; rw [List.take_length]
theorem fk_bound {ss : List ByteArray} (h : badB ss = false) (hn : ss.length ≤ 1024) (k : Nat) : (tbl (fk ss k)).length ≤ 66561 := by
  have := tbl_bound (ss := ss.take k) (fun s hs => bad_false h s (List.mem_of_mem_take hs))
  have h2 : (ss.take k).length ≤ ss.length := by rw [List.length_take]; omega
  unfold fk
  omega

/-- The places that are laid so far, and noughts. -/
def plAt (ss : List ByteArray) (k n : Nat) : List Int := plcI (ss.take k) ++ List.replicate (n - k) 0
theorem plAt_length {ss : List ByteArray} {k n : Nat} (hn : ss.length = n) (h : k ≤ n) : (plAt ss k n).length = n := by
  unfold plAt
  rw [List.length_append, plcI_length, List.length_take, List.length_replicate]
  omega
theorem plAt_zero (ss : List ByteArray) (n : Nat) : plAt ss 0 n = List.replicate n 0 := by simp [plAt, plcI, plcs, nms]
theorem plAt_all {ss : List ByteArray} {n : Nat} (hn : ss.length = n) : plAt ss n n = plcI ss := by
  subst hn
  simp [plAt]
theorem plcI_snoc {ss : List ByteArray} {k : Nat} (h : k < ss.length) : plcI (ss.take (k + 1)) = plcI (ss.take k) ++ [((plc (fk ss (k + 1)) (nm (ss.getD k ByteArray.empty)) : Nat) : Int)] := by
  unfold plcI fk
  rw [take_snoc_str ss k h, nms_snoc, plcs_snoc]
  simp
theorem plAt_set {ss : List ByteArray} {k n : Nat} (hn : ss.length = n) (h : k < n) : (plAt ss k n).set k ((plc (fk ss (k + 1)) (nm (ss.getD k ByteArray.empty)) : Nat) : Int) = plAt ss (k + 1) n := by
  obtain ⟨m, hm⟩ : ∃ m, n - k = m + 1 := ⟨n - k - 1, by omega⟩
  have hm' : n - (k + 1) = m := by omega
  have hl : (plcI (ss.take k)).length = k := by rw [plcI_length, List.length_take]; omega
  unfold plAt
  rw [hm, hm', List.set_append_right _ _ (by omega), hl, Nat.sub_self, List.replicate_succ, List.set_cons_zero, plcI_snoc (by omega), List.append_assoc]
  rfl

/-- All that Build holds behind k names: w the world of the call, wr the world now. -/
structure BSt (w wr : World) (ss : List ByteArray) (gp gm g C n k : Nat) (D : DataW Unit) : Prop where
  tab : Own wr w.heap.size (.slice (some ⟨g, 0, none⟩) (tbl (fk ss k)).length C) (tbl (fk ss k))
  pl : wr.ownsRow w.heap.size 3 1 (.slice (some ⟨gp, 0, none⟩) n n) n ((plAt ss k n).map (Value.int .i64))
  mp : OwnM wr gm (k + 1) D
  ok : MapOk D (fk ss k)
  ne1 : g ≠ gp
  ne2 : g ≠ gm
  ne3 : gp ≠ gm
  b1 : w.heap.size ≤ gp
  b2 : w.heap.size ≤ gm
  kept : Kept w wr
theorem BSt.gp_lt {w wr : World} {ss : List ByteArray} {gp gm g C n k : Nat} {D : DataW Unit} (h : BSt w wr ss gp gm g C n k D) : gp < wr.heap.size := (h.pl.lt gp rfl).2
theorem BSt.gm_lt {w wr : World} {ss : List ByteArray} {gp gm g C n k : Nat} {D : DataW Unit} (h : BSt w wr ss gp gm g C n k D) : gm < wr.heap.size := h.mp.lt
theorem BSt.g_ge {w wr : World} {ss : List ByteArray} {gp gm g C n k : Nat} {D : DataW Unit} (h : BSt w wr ss gp gm g C n k D) : w.heap.size ≤ g := (h.tab.lt g rfl).1

/-- A name that is there already. -/
theorem BSt.old {w wr : World} {ss : List ByteArray} {gp gm g C n k : Nat} {D : DataW Unit} (h : BSt w wr ss gp gm g C n k D) (hn : ss.length = n) (hk : k < n) (ho : nm (ss.getD k ByteArray.empty) = [] ∨ nm (ss.getD k ByteArray.empty) ∈ fk ss k) :
    BSt w (wr.setCell ⟨gp, k, none⟩ (.int .i64 ((plc (fk ss k) (nm (ss.getD k ByteArray.empty)) : Nat) : Int))) ss gp gm g C n (k + 1) D := by
  have e : fk ss (k + 1) = fk ss k := by rw [fk_succ (by omega), fsStep_old ho]
  obtain ⟨S1, S2⟩ := h.pl.stored k (.int .i64 ((plc (fk ss k) (nm (ss.getD k ByteArray.empty)) : Nat) : Int))
  refine ⟨?_, ?_, ?_, ?_, h.ne1, h.ne2, h.ne3, h.b1, h.b2, ?_⟩
  · rw [e]
    exact World.ownsRow.kept h.tab S2 (.inr (by simp [Value.ownBlock]; exact h.ne1))
  · rw [← plAt_set hn hk, e, List.map_set]
    exact S1
  · exact (h.mp.kept S2 (by simp; exact fun e => h.ne3 e.symm)).mono (Nat.le_succ _)
  · rw [e]
    exact h.ok
  · exact h.kept.grown S2 h.kept.size (fun j e => by cases e; exact h.b1)

/-- A name that is new: the map, the table twice (a row for the 0 between), the places. -/
theorem BSt.new {w wr : World} {ss : List ByteArray} {gp gm g C n k : Nat} {D : DataW Unit} (h : BSt w wr ss gp gm g C n k D) (hn : ss.length = n) (hk : k < n) (s : ByteArray) (hs : ss.getD k ByteArray.empty = s) (h0 : nm s ≠ []) (h1 : nm s ∉ fk ss k)
    {w1 w2 w4 : World} {o : Obj} {g2 g4 C4 : Nat} (hm : OwnM w1 gm (k + 1 + 1) (D.put (keyL s) (.lit (.int .i64 ((tbl (fk ss k)).length : Nat))))) (k1 : wr.grownBy w1 (some gm))
    (k2 : w1.grownBy w2 (some g)) (e2 : g2 = g ∨ g2 = w1.heap.size)
    (t4 : Own w4 w.heap.size (.slice (some ⟨g4, 0, none⟩) ((tbl (fk ss k)).length + s.size + 1) C4) (tbl (fk ss k) ++ nm s ++ [0])) (k4 : (w2.alloc o).grownBy w4 (some g2)) (e4 : g4 = g2 ∨ g4 = (w2.alloc o).heap.size) (b2' : w.heap.size ≤ g2) :
    BSt w (w4.setCell ⟨gp, k, none⟩ (.int .i64 ((tbl (fk ss k)).length : Nat))) ss gp gm g4 C4 n (k + 1) (D.put (keyL s) (.lit (.int .i64 ((tbl (fk ss k)).length : Nat)))) ∧ w4.cell? ⟨gp, k, none⟩ = some (.int .i64 0) ∧ w4.frozen? ⟨gp, k, none⟩ = false := by
  have hgp := h.gp_lt
  have hgm := h.gm_lt
  have z1 := k1.size
  have z2 := k2.size
  have z3 : (w2.alloc o).heap.size = w2.heap.size + 1 := by simp
  have n2 : g2 ≠ gp ∧ g2 ≠ gm := by
    rcases e2 with rfl | rfl
    · exact ⟨h.ne1, h.ne2⟩
    · exact ⟨by omega, by omega⟩
  have n4 : g4 ≠ gp ∧ g4 ≠ gm := by
    rcases e4 with rfl | rfl
    · exact n2
    · exact ⟨by omega, by omega⟩
  have p1 := h.pl.kept k1 (.inr (by simp [Value.ownBlock]; exact h.ne3))
  have p2 := p1.kept k2 (.inr (by simp [Value.ownBlock]; exact fun e => h.ne1 e.symm))
  have p4 := (p2.alloc o).kept k4 (.inr (by simp [Value.ownBlock]; exact fun e => n2.1 e.symm))
  have m4 := ((hm.kept k2 (by simp; exact fun e => h.ne2 e.symm)).alloc o).kept k4 (by simp; exact fun e => n2.2 e.symm)
  have K4 : Kept w w4 := by
    have a1 := h.kept.grown k1 h.kept.size (fun j e => by cases e; exact h.b2)
    have a2 := a1.grown k2 a1.size (fun j e => by cases e; exact h.g_ge)
    have a3 := Below.alloc a2 a2.size o
    exact a3.grown k4 a3.size (fun j e => by cases e; exact b2')
  obtain ⟨S1, S2⟩ := p4.stored k (.int .i64 ((tbl (fk ss k)).length : Nat))
  have e : fk ss (k + 1) = fk ss k ++ [nm s] := by rw [fk_succ (by omega), hs, fsStep_new h0 h1]
  have et : tbl (fk ss (k + 1)) = tbl (fk ss k) ++ nm s ++ [0] := by rw [e, tbl_snoc, List.append_assoc]
  have el : (tbl (fk ss (k + 1))).length = (tbl (fk ss k)).length + s.size + 1 := by rw [et]; simp [nm_length]; omega
  refine ⟨⟨?_, ?_, ?_, ?_, n4.1, n4.2, h.ne3, h.b1, h.b2, ?_⟩, ?_, ?_⟩
  · have := World.ownsRow.kept t4 S2 (.inr (by simp [Value.ownBlock]; exact n4.1))
    rw [el, et]
    exact this
  · rw [← plAt_set hn hk, hs, e, plc_new h0 h1, List.map_set]
    exact S1
  · exact m4.kept S2 (by simp; exact fun e => h.ne3 e.symm)
  · rw [e]
    exact h.ok.new h0 h1
  · exact K4.grown S2 K4.size (fun j e => by cases e; exact h.b1)
  · rw [p4.cellAt k (by omega)]
    have hl : (plcI (ss.take k)).length = k := by rw [plcI_length, List.length_take]; omega
    unfold plAt
    rw [List.getElem?_map, List.getElem?_append_right (by omega), hl, Nat.sub_self, List.getElem?_replicate, if_pos (by omega)]
    rfl
  · exact p4.frozenAt k

theorem lit_own (w : World) : Own (w.alloc (.cells #[.int .u8 0] 5)) w.heap.size (.slice (some ⟨w.heap.size, 0, none⟩) 1 1) [0] :=
  ⟨rfl, .inr ⟨w.heap.size, 1, #[.int .u8 0], rfl, Nat.le_refl _, heap_alloc_new w _, Nat.le_refl _, by unfold maxLen; omega, rfl, rfl⟩⟩

/-- What Build gives of names that may be. -/
def BPost (w : World) (ss : List ByteArray) (e : Ending) (w' : World) : Prop :=
  ∃ v p, e = .returned (.tuple #[v, p, .int .i64 (bldE ss)]) ∧ Own w' w.heap.size v (bldT ss) ∧ OwnI w' w.heap.size p (bldP ss) ∧ Kept w w'

set_option maxRecDepth 20000 in
set_option maxHeartbeats 3200000 in
theorem build_go (a : Option Addr) (cap n : Nat) (ss : List ByteArray) (w : World) (hlen : ss.length = n) (hn : n ≤ 1024) (hbad : badB ss = false) (hS : Strs w a ss) :
    Calls Tryz.prog 96 #[.slice a n cap] w fun e w' => BPost w ss e w' := by
  obtain ⟨i0, hi, hz0, hz1, hz2⟩ := info_parts Tryz.infoInt
  have hmm := @run_makeMap Tryz.prog
  have hsm : ∀ s ∈ ss, s.size ≤ 64 := fun s hs => (wrong_false (bad_false hbad s hs)).1
  have hF := containsFunc_walk a cap ss w (by omega) (fun s hs => by have := hsm s hs; unfold maxLen; omega) hS
  rw [hbad, hlen] at hF
  go_enter Tryz.func96, Tryz.ntmps96
  go_wp2_with (first
    | (go_at_call 131; refine hF.mono ?_; rintro e w' ⟨rfl, hw'⟩; have hw2 := hw'.symm; subst hw2; clear hw')
    | (at_make; refine wpList_make_full _ rfl _ _ 47 rfl w.heap.size 3 i0 (.int .i64 0) 1 Tryz.underlying47 hi hz0 hz1 _ _ _ _ n rfl rfl rfl rfl (by rw [hz2]; omega) (by unfold maxLen; omega) (by simp) ?_))
  intro w1 hpl hgrow1
  have hz : (w.alloc (.cells #[.int .u8 0] 5)).heap.size = w.heap.size + 1 := by simp
  have T1 : Own w1 w.heap.size (.slice (some ⟨w.heap.size, 0, none⟩) 1 1) [0] := World.ownsRow.kept (lit_own w) hgrow1 (.inr (by simp [Value.ownBlock]))
  have K1 : Kept w w1 := (Kept.alloc w _).grown hgrow1 (by simp) (fun k e => by cases e)
  have hw1 : w.heap.size + 1 ≤ w1.heap.size := by have := hgrow1.size; omega
  have P1 : w1.ownsRow w.heap.size 3 1 (.slice (some ⟨w.heap.size + 1, 0, none⟩) n n) n ((plAt ss 0 n).map (Value.int .i64)) := by
    rw [plAt_zero, List.map_replicate, ← toList_madeCells_one]
    simpa using hpl
  have hlt1 : w.heap.size + 1 < w1.heap.size := (P1.lt _ rfl).2
  clear hpl hgrow1 hF
  go_wp2_with (refine wpList_insert_own rfl _ _ _ rfl w1.heap.size 0 (.map []) rfl (World.ownsMap_made _ _ _ _) (by unfold maxLen; omega) _ _ _ rfl rfl (keyOf_str ⟨#[]⟩ (Nat.zero_le _)) _ [] (plainElem_int Tryz.underlying3 (by decide)) ?_)
  intro w2 hmp hgrow2
  have hmm1 := hmp.mono (show 0 + 1 ≤ 0 + 1 from Nat.le_refl _)
  have hB : BSt w w2 ss (w.heap.size + 1) w1.heap.size w.heap.size 1 n 0 (DataW.put (.map []) (.string []) (.lit (.int .i64 0))) := by
    refine ⟨?_, ?_, hmp, MapOk.start, by omega, by omega, by omega, by omega, by omega, ?_⟩
    · exact World.ownsRow.kept (World.ownsRow.alloc T1 _) hgrow2 (.inr (by simp [Value.ownBlock]; omega))
    · exact (P1.alloc _).kept hgrow2 (.inr (by simp [Value.ownBlock]; omega))
    · exact (Below.alloc K1 K1.size _).grown hgrow2 (by simp; omega) (fun j e => by cases e; omega)
  clear hmp hgrow2 T1 P1 K1 hmm hmm1 hi hz0 hz1 hz2 i0 hz
  have hbd := fk_bound hbad (by omega)
  go_wp2
  go_loopw [2, 23] (fun t i wr => ∃ (k g C : Nat) (D : DataW Unit), k ≤ n ∧ i = .int .i64 k ∧ t = .slice (some ⟨g, 0, none⟩) (tbl (fk ss k)).length C ∧ BSt w wr ss (w.heap.size + 1) w1.heap.size g C n k D) (fun _ i _ => n - (intOf i).toNat)
  case atStart => exact ⟨0, w.heap.size, 1, _, Nat.zero_le _, rfl, rfl, hB⟩
  case round =>
    clear hB
    obtain ⟨k, g, C, D, hk, rfl, rfl, hB⟩ := hrel
    by_cases hlt : k < n
    · obtain ⟨b, off, rfl, hc⟩ := hS.at (show k < ss.length by omega)
      have hcell := hB.kept.cell (hc k (by omega))
      obtain ⟨s, hs⟩ : ∃ s, ss.getD k ByteArray.empty = s := ⟨_, rfl⟩
      have hmem : s ∈ ss := by rw [← hs]; exact getD_mem (by omega)
      have hs64 := hsm s hmem
      rw [hs] at hcell
      have hkey := keyOf_str s (by unfold maxLen; omega)
      have hLb := hbd k
      obtain ⟨L, hL⟩ : ∃ L, (tbl (fk ss k)).length = L := ⟨_, rfl⟩
      have T0 := hB.tab
      rw [hL] at hLb T0 ⊢
      have hg0 := hB.g_ge
      have HH := hB.ok.2 s
      clear hc hS hmem hsm hbd
      by_cases ho : nm s = [] ∨ nm s ∈ fk ss k
      · have hhas : Maps.has D (keyL s) = true := by rw [HH.1]; simpa using ho
        have hat0 := HH.2 ho
        have hpc : wr.cell? ⟨w.heap.size + 1, k, none⟩ = some (.int .i64 ((plAt ss k n).getD k 0)) := by
          rw [hB.pl.cellAt k (by omega)]
          simp [List.getD, plAt_length hlen hk, hlt]
        have hpf := hB.pl.frozenAt k
        have hO := hB.old hlen hlt (by rw [hs]; exact ho)
        have e : fk ss (k + 1) = fk ss k := by rw [fk_succ (by omega), hs, fsStep_old ho]
        have HE : Hid ((tbl (fk ss (k + 1))).length = L) := by rw [e]; exact hL
        have HO : Hid (BSt w (wr.setCell ⟨w.heap.size + 1, k, none⟩ (.int .i64 ((plc (fk ss k) (nm s) : Nat) : Int))) ss (w.heap.size + 1) w1.heap.size g C n (k + 1) D) := by rw [hs] at hO; exact hO
        clear hO e HH ho T0 hs
        go_wp2_with (at_lookup; refine wpList_lookup_own_ok_int _ rfl _ _ 156 rfl 9 3 .i64 keyLaw Tryz.underlying156 Tryz.underlying3 (zeroInt _) w1.heap.size (k + 1) D rfl hB.mp _ _ rfl hkey ?_; intro c hat hwc)
        go_roundw
        case rel =>
          have hc : c = ((plc (fk ss k) (nm s) : Nat) : Int) := by
            rw [hat0] at hat
            simp at hat
            exact hat.symm
          rw [hc]
          exact ⟨k + 1, g, C, D, by omega, by go_num, by rw [HE.out], HO.out⟩
        case measure => simp [intOf]; omega
      · have hhas : Maps.has D (keyL s) = false := by rw [HH.1]; simpa using ho
        have h0 : nm s ≠ [] := fun h => ho (.inl h)
        have h1 : nm s ∉ fk ss k := fun h => ho (.inr h)
        clear HH ho
        go_wp2_with (first
          | (at_lookup; refine wpList_lookup_own_ok_int _ rfl _ _ 156 rfl 9 3 .i64 keyLaw Tryz.underlying156 Tryz.underlying3 (zeroInt _) w1.heap.size (k + 1) D rfl hB.mp _ _ rfl hkey ?_; intro c hat hwc)
          | (at_mapUpdate; refine wpList_mapUpdate_own _ rfl _ _ _ 156 rfl 9 3 keyLaw Tryz.underlying156 _ w1.heap.size (k + 1) D rfl hB.mp (by unfold maxLen; omega) _ _ _ rfl rfl hkey _ [] (plainElem_int Tryz.underlying3 (WalkArith.wf_i64 (n := (L : Int)) (by omega))) ?_))
        intro w3 hmp k1
        have T3 : Own w3 w.heap.size (.slice (some ⟨g, 0, none⟩) L C) (tbl (fk ss k)) := World.ownsRow.kept T0 k1 (.inr (by simp [Value.ownBlock]; exact hB.ne2))
        have z3 : w.heap.size ≤ w3.heap.size := Nat.le_trans hB.kept.size k1.size
        clear T0 hcell hat hwc hhas
        go_wp2_with (at_builtin; refine wpList_append_str rfl _ _ rfl w.heap.size g L C (tbl (fk ss k)) s hL rfl rfl T3 (by omega) z3 ?_)
        intro g2 C2 w4 T4 k2 e2
        have z4 : w.heap.size ≤ w4.heap.size := Nat.le_trans z3 k2.size
        have hg2 : w.heap.size ≤ g2 := (T4.lt g2 rfl).1
        clear T3
        go_wp2_with (at_builtin; refine wpList_append_one rfl _ _ rfl w.heap.size g2 (L + s.size) C2 (tbl (fk ss k) ++ nm s) 0 ⟨w4.heap.size, 0, none⟩ 1 (by rw [List.length_append, hL, nm_length]) rfl rfl (World.ownsRow.alloc T4 _) (by simp) (by omega) (by simp; omega) ?_)
        intro g4 C4 w5 T5 k4 e4
        have el : (tbl (fk ss (k + 1))).length = L + s.size + 1 := by
          rw [fk_succ (by omega), hs, fsStep_new h0 h1, tbl_length_snoc, hL, nm_length]
        obtain ⟨hN, hpc, hpf⟩ := hB.new hlen hlt s hs h0 h1 (by rw [hL]; exact hmp) k1 k2 e2 (by rw [hL, List.append_assoc]; exact T5) k4 (by simpa using e4) hg2
        rw [hL] at hN
        have HN : Hid (BSt w (w5.setCell ⟨w.heap.size + 1, k, none⟩ (.int .i64 (L : Nat))) ss (w.heap.size + 1) w1.heap.size g4 C4 n (k + 1) (D.put (keyL s) (.lit (.int .i64 (L : Nat))))) := hN
        have HE : Hid ((tbl (fk ss (k + 1))).length = L + s.size + 1) := el
        clear hN el T5 k4 e4 T4 k2 e2 k1 hmp hB hs hL h0 h1
        go_wp2
        go_roundw
        case rel => exact ⟨k + 1, g4, C4, _, by omega, by go_num, by rw [HE.out], HN.out⟩
        case measure => simp [intOf]; omega
    · obtain rfl : k = n := by omega
      have hTl : tbl (fk ss k) = tbl (fsts (nms ss)) := by rw [← hlen, fk_all]
      have hP : OwnI wr w.heap.size (.slice (some ⟨w.heap.size + 1, 0, none⟩) k k) (plcI ss) := by
        have := hB.pl
        rw [plAt_all hlen] at this
        unfold OwnI
        rw [plcI_length, hlen]
        exact this
      have hT := hB.tab
      have hK := hB.kept
      rw [hTl] at hT ⊢
      obtain ⟨L, hL⟩ : ∃ L, (tbl (fsts (nms ss))).length = L := ⟨_, rfl⟩
      rw [hL] at hT ⊢
      clear hB hTl hS hsm hbd
      by_cases hf : 65536 < L
      · have hr := bld_full (ss := ss) (by omega) hbad (by omega)
        have HR : Hid (bldE ss = 9 ∧ bldT ss = [] ∧ bldP ss = []) := hr
        clear hr hT hP hL
        go_wp2
        go_ret3
        unfold BPost
        rw [HR.out.1, HR.out.2.1, HR.out.2.2]
        exact ⟨_, _, rfl, Own.nil _ _, OwnI.nil _ _, hK⟩
      · have hr := bld_ok (ss := ss) (by omega) hbad (by omega)
        have HR : Hid (bldE ss = 0 ∧ bldT ss = tbl (fsts (nms ss)) ∧ bldP ss = plcI ss) := hr
        have hf' : L ≤ 65536 := by omega
        clear hr hf hL
        go_wp2
        go_ret3
        unfold BPost
        rw [HR.out.1, HR.out.2.1, HR.out.2.2]
        exact ⟨_, _, rfl, hT, hP, hK⟩

set_option maxRecDepth 20000 in
/-- What Build gives. -/
theorem build_walk (a : Option Addr) (cap n : Nat) (ss : List ByteArray) (w : World) (hlen : ss.length = n) (hsz : ∀ s ∈ ss, s.size ≤ maxLen) (hS : Strs w a ss) :
    Calls Tryz.prog 96 #[.slice a n cap] w fun e w' => BPost w ss e w' := by
  by_cases hm : 1024 < n
  · have hr := bld_many (ss := ss) (by omega)
    have HR : Hid (bldE ss = 4 ∧ bldT ss = [] ∧ bldP ss = []) := hr
    clear hr
    go_enter Tryz.func96, Tryz.ntmps96
    go_wp2
    go_ret3
    unfold BPost
    rw [HR.out.1, HR.out.2.1, HR.out.2.2]
    exact ⟨_, _, rfl, Own.nil _ _, OwnI.nil _ _, Kept.refl _⟩
  · cases hb : badB ss
    · exact build_go a cap n ss w hlen (by omega) hb hS
    · have hr := bld_text (ss := ss) (by omega) hb
      have HR : Hid (bldE ss = 3 ∧ bldT ss = [] ∧ bldP ss = []) := hr
      have hF := containsFunc_walk a cap ss w (by omega) hsz hS
      rw [hb, hlen] at hF
      have hn : n ≤ 1024 := by omega
      clear hr hm hS
      go_enter Tryz.func96, Tryz.ntmps96
      go_wp2_with (go_at_call 131; refine hF.mono ?_; rintro e w' ⟨rfl, hw'⟩; have hw2 := hw'.symm; subst hw2; clear hw')
      go_ret3
      unfold BPost
      rw [HR.out.1, HR.out.2.1, HR.out.2.2]
      exact ⟨_, _, rfl, Own.nil _ _, OwnI.nil _ _, Kept.refl _⟩

theorem OwnI.pos {w : World} {base : Nat} {v : Value} {l : List Int} (h : OwnI w base v l) {n : Nat} (hn : l.length = n) (hp : 0 < n) : ∃ g cap, v = .slice (some ⟨g, 0, none⟩) n cap ∧ base ≤ g ∧ g < w.heap.size ∧ ∀ i, i < n → w.cell? ⟨g, i, none⟩ = some (.int .i64 (l.getD i 0)) := by
  subst hn
  have hcell := @World.ownsRow.cells w base 3 1 v l.length (l.map (Value.int .i64)) h
  have hlt := h.lt
  rcases h.2 with ⟨hv, hn⟩ | ⟨g, cap, cur, hv, hb, _, hnc, _⟩
  · omega
  · refine ⟨g, cap, hv, hb, (hlt g (by rw [hv]; rfl)).2, fun i hi => ?_⟩
    have := hcell (g := g) (by rw [hv]; rfl) i (.int .i64 (l.getD i 0)) (by simp [hi, List.getD])
    have e : (⟨g, 0, none⟩ : Addr).add i = ⟨g, i, none⟩ := by unfold Addr.add; split <;> simp_all
    rwa [e] at this
set_option maxRecDepth 20000 in
set_option maxHeartbeats 6400000 in
theorem putHeadNames_walk (B fb : Nat) (σ : FSt) (bs : List PartM) (v : Value) (v0 v1 v2 v3 : Value) (w : World) (hv : v = .agg #[v0, v1, v2, v3]) (hF : FileOk B w fb σ) (hP : PSt bs σ) (hl : layN 64 bs ≤ 800000) (hk : bs.length ≤ 900) (hnb : NmOk bs) :
    Calls Tryz.prog 59 #[.pointer (some ⟨fb, 0, none⟩), v] w fun e w' => e = .returned (.tuple #[]) ∧ ∃ σ', Went B fb σ w σ' w' ∧ σ'.b = bodyL bs ∧ σ'.hs = List.replicate 10 0 :: headsP bs ∧ σ'.e = 0 := by
  subst hv
  obtain ⟨wa, hwa, B1, kA, sA⟩ := box_obj w v0 v1 v2 v3
  have hFa := hF.kept kA
  have hB := pbegin_walk B fb σ bs (shPart []) ⟨#[46, 115, 104, 115, 116, 114, 116, 97, 98]⟩ 0 wa hFa hP rfl nm_shstrtab rfl (by decide) (by decide) (by omega) hk
  have HL1 : Hid (layN 64 (bs ++ [shPart []]) ≤ 1000000) := layN_one (by omega) (by decide) (by decide) rfl
  clear hl
  unfold shPart at hB
  dsimp only at hB
  go_enter Tryz.func59, Tryz.ntmps59
  go_upto_region 2 with (go_at_call 92; refine hB.mono ?_; rintro e w2 ⟨rfl, τ, hW, hP2, hK⟩)
  have hP2' : PSt (bs ++ [shPart []]) τ := hP2
  have ok2 := hW.ok
  have c2 := ok2.c2
  have hns := hP2'.ns
  obtain ⟨N, hN⟩ : ∃ N, τ.ns.length = N := ⟨_, rfl⟩
  have hN2 : N = bs.length + 2 := by have := hP2'.nl; rw [hN, List.length_append] at this; exact this
  obtain ⟨e1, e2, e3, e4⟩ := bld_names hns hnb hk
  obtain ⟨A, C, hvs, hSt⟩ := ok2.on.let hN
  rw [hN] at c2
  have hA : A = some ⟨τ.gn, 0, none⟩ := by rw [hN] at hvs; simp only [Value.slice.injEq] at hvs; exact hvs.1.symm
  rw [hA] at hSt
  have hBu := build_walk (some ⟨τ.gn, 0, none⟩) τ.cn N τ.ns w2 hN (fun s hs => by have := (wrong_false (names_right hns hnb s hs)).1; unfold maxLen; omega) hSt
  obtain ⟨T, hT⟩ : ∃ T, tbl (fsts (namesP bs)) = T := ⟨_, rfl⟩
  rw [hT] at e2 e4
  obtain ⟨m, hm⟩ : ∃ m, T.length = m := ⟨_, rfl⟩
  have HT : Hid (tbl (fsts (namesP bs)) = T ∧ T.length = m) := ⟨hT, hm⟩
  rw [hm] at e4
  have HN : Hid (plcI τ.ns = plcI τ.ns ∧ N = bs.length + 2 ∧ τ.ns.length = N) := ⟨rfl, hN2, hN⟩
  have HNS : Hid (τ.ns.map nm = [] :: (bs ++ [shPart []]).map (·.nm)) := hns
  have HE : Hid (bldE τ.ns = 0 ∧ bldT τ.ns = T ∧ bldP τ.ns = plcI τ.ns) := ⟨e1, e2, e3⟩
  have hN1 : N ≤ 1000 := by omega
  have hN0 : 0 < N := by omega
  clear hB hT hm hN hN2 e1 e2 e3 hvs hA hSt hns hP2
  go_upto_region 3 with (go_at_call 96; refine hBu.mono ?_; rintro e w3 ⟨v3, p3, rfl, hO3, hI3, k3⟩; rw [HE.out.1])
  rw [HE.out.2.1] at hO3
  rw [HE.out.2.2] at hI3
  obtain ⟨A3, C3, rfl, _, hb3, hn3⟩ := hO3.let HT.out.2
  obtain ⟨gp, Cp, rfl, hgp0, hgp1, hpc⟩ := hI3.pos (n := N) (by rw [plcI_length]; exact HN.out.2.2) hN0
  have hPu := pput_walk B fb τ bs (shPart []) A3 m C3 T w3 (ok2.kept k3) hP2' HT.out.2 hb3 hn3 (fun e => by cases e) (by decide) (by decide) HL1.out (by decide) (by omega) hk
  have hngp : ¬ FS fb τ gp := fun e => by have := (ok2.lt _ e).2; omega
  clear hBu hO3 hI3 c2
  go_upto_region 4 with (go_at_call 93; refine hPu.mono ?_; rintro e w4 ⟨rfl, ρ, hW4, hP4, hK4⟩)
  have hWs := ((hW.kept k3).trans hW4).from kA
  have hP4' : PSt (allP bs) ρ := by
    unfold allP
    rw [shP_eq, HT.out.1]
    exact hP4
  have hhs := hP4'.hs
  have hpc4 : ∀ i, i < N → w4.cell? ⟨gp, i, none⟩ = some (.int .i64 ((plcI τ.ns).getD i 0)) := fun i hi => hW4.turn.cell (hpc i hi) hngp
  have hngp4 : ¬ FS fb ρ gp := hW4.not hgp1 hngp
  have hgp4 : gp < w4.heap.size := block_lt_of_cell (hpc4 0 hN0)
  have HHL : Hid (ρ.hs.length = N) := by
    unfold Hid
    rw [hhs, List.length_cons, hds0_length, allP_length, HN.out.2.1]
  clear hPu hpc hP4 hb3 hn3
  obtain ⟨P, hPP⟩ : ∃ P, plcI τ.ns = P := ⟨_, rfl⟩
  rw [hPP] at hpc4
  have HPP : Hid (plcI τ.ns = P) := hPP
  clear hPP
  go_wp2
  go_loopw [27] (fun i wr => ∃ (k : Nat) (κ : FSt), k ≤ N ∧ i = .int .i64 k ∧ Went B fb ρ w4 κ wr ∧ κ.b = ρ.b ∧ HSet ρ.hs P k κ.hs ∧ κ.e = ρ.e) (fun i _ => N - (intOf i).toNat)
  case atStart => exact ⟨0, ρ, Nat.zero_le _, rfl, Went.refl hW4.ok, rfl, HSet.zero _ _, rfl⟩
  case round =>
    obtain ⟨k, κ, hkN, rfl, hWk, hbk, hSk, hek⟩ := hrel
    by_cases hlt : k < N
    · have x0 := hWk.turn.cell (hpc4 k hlt) hngp4
      have ok := hWk.ok
      have hlen : κ.hs.length = N := by rw [hSk.1]; exact HHL.out
      obtain ⟨q0, q1, q2⟩ := ok.head (i := k) (j := 0) (by rw [hlen]; exact hlt) (by decide) (P.getD k 0)
      rw [Nat.add_zero] at q0 q1 q2
      have c1 := ok.c1
      rw [hlen] at c1
      have HS : Hid (HSet ρ.hs P (k + 1) (setH κ.hs k 0 (P.getD k 0))) := hSk.succ (by rw [HHL.out]; exact hlt)
      have HB : Hid (κ.b = ρ.b ∧ κ.e = ρ.e) := ⟨hbk, hek⟩
      clear hbk hek hSk ok hlen
      generalize P.getD k 0 = x at *
      go_wp2
      go_roundw
      case rel => exact ⟨k + 1, _, by omega, by go_num, hWk.trans q2, HB.out.1, HS.out, HB.out.2⟩
      case measure => simp [intOf]; omega
    · obtain rfl : k = N := by omega
      clear hpc4
      go_wp2
      go_end0
      refine ⟨rfl, κ, hWs.trans hWk, ?_, ?_, ?_⟩
      · rw [hbk, hP4'.b]; rfl
      · rw [hhs, ← HPP.out, HN.out.2.1] at hSk
        exact HSet.all HNS.out hSk
      · rw [hek, hP4'.e]
end Go.Proofs.YtljmgbpecoifnaaGreatDoor
