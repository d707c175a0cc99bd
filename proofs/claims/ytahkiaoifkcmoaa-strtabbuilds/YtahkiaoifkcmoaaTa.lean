/- The document's own: the table of names, and what Build gives. -/
import Derived.Test.YtahkiaoifkcmoaaRf
import Derived.Test.YtahkiaoifkcmoaaBu
namespace Go.Proofs.Ytahkiaoifkcmoaa
open Go.RowKit

def oB (A : Option Addr) : Option Nat := A.map (·.block)
theorem ownBlock_oB (A : Option Addr) (l c : Nat) : Value.ownBlock (.slice A l c) = oB A := by cases A <;> rfl
/-- A row of the call's own stays, where all that was there has stayed. -/
theorem row_kept {w w' : World} {base e size n : Nat} {v : Value} {xs : List Value} (h : w.ownsRow base e size v n xs) (k : Kept w w') : w'.ownsRow base e size v n xs := by
  have hlt := h.lt
  refine ⟨h.1, ?_⟩
  rcases h.2 with hn | ⟨g, cap, cur, rfl, hb, hg, rest⟩
  · exact .inl hn
  · exact .inr ⟨g, cap, cur, rfl, hb, (k.block g (hlt g rfl).2).trans hg, rest⟩

/-- 'append(p, n)' of numbers, the length a letter. -/
theorem wpList_append_numL {w : World} {ops : Array Oper} {rest : List Oper} {o : Oper} {a : Act} {Q : Exit → Act → World → Prop} (hgd : o.guard = none) (s x : Operand)
    (ho : o.op = .call { callee := .builtin .append, args := #[s, x], argTypes := #[26, 26] }) (base : Nat) (A : Option Addr) (len CA : Nat) (xs : List Int) (n : Int) (ad : Addr) (c : Nat) (hl : xs.length = len) (hs : a.eval s = .slice A len CA) (hx : a.eval x = .slice (some ad) 1 c)
    (hown : w.ownsRow base 3 1 (.slice A len CA) len (xs.map (Value.int .i64))) (hc : w.cell? ad = some (.int .i64 n)) (hlen : len + 1 ≤ 10000000) (hbase : base ≤ w.heap.size)
    (h : ∀ A' CA' w', w'.ownsRow base 3 1 (.slice A' (len + 1) CA') (len + 1) ((xs ++ [n]).map (Value.int .i64)) → w.grownBy w' (oB A) → (oB A' = oB A ∨ oB A' = some w.heap.size) → wpList Try.prog ops Q rest (a.put o.dst (.slice A' (len + 1) CA')) w') : wpList Try.prog ops Q (o :: rest) a w := by
  subst hl
  refine wpList_append_num hgd s x ho base (.slice A xs.length CA) xs n ad c hs hx hown hc hlen hbase ?_
  intro v' w' h1 h2 h3
  have h1' := h1
  unfold OwnI at h1'
  rw [List.length_append, List.length_singleton] at h1'
  have hv : ∃ A' CA', v' = .slice A' (xs.length + 1) CA' := by
    rcases h1'.2 with ⟨_, hn⟩ | ⟨g, cap, cur, hv, _⟩
    · omega
    · exact ⟨_, _, hv⟩
  obtain ⟨A', CA', rfl⟩ := hv
  rw [ownBlock_oB] at h2 h3
  rw [ownBlock_oB] at h3
  exact h A' CA' w' h1' h2 h3

/-- What the document's Table holds behind k names. -/
structure TSt (w wr : World) (ss : List ByteArray) (g C : Nat) (A : Option Addr) (CA k : Nat) : Prop where
  tab : Own wr w.heap.size (.slice (some ⟨g, 0, none⟩) (tbl (fk ss k)).length C) (tbl (fk ss k))
  pl : wr.ownsRow w.heap.size 3 1 (.slice A k CA) k ((plcI (ss.take k)).map (Value.int .i64))
  ne : oB A ≠ some g
  kept : Kept w wr
theorem TSt.moved {w wr w' : World} {ss : List ByteArray} {g C : Nat} {A : Option Addr} {CA k : Nat} (h : TSt w wr ss g C A CA k) (hk : Kept wr w') : TSt w w' ss g C A CA k :=
  ⟨row_kept h.tab hk, row_kept h.pl hk, h.ne, h.kept.trans hk⟩
theorem TSt.g_lt {w wr : World} {ss : List ByteArray} {g C : Nat} {A : Option Addr} {CA k : Nat} (h : TSt w wr ss g C A CA k) : w.heap.size ≤ g ∧ g < wr.heap.size := h.tab.lt g rfl
theorem TSt.a_lt {w wr : World} {ss : List ByteArray} {g C : Nat} {A : Option Addr} {CA k : Nat} (h : TSt w wr ss g C A CA k) : ∀ j, oB A = some j → w.heap.size ≤ j ∧ j < wr.heap.size := by
  intro j hj
  exact h.pl.lt j (by rw [ownBlock_oB]; exact hj)
theorem take_len {ss : List ByteArray} {k n : Nat} (hn : ss.length = n) (h : k ≤ n) : (plcI (ss.take k)).length = k := by rw [plcI_length, List.length_take]; omega

/-- A name that is there already: its place is appended. -/
theorem TSt.old {w wr w' : World} {o : Obj} {ss : List ByteArray} {g C : Nat} {A A' : Option Addr} {CA CA' k n : Nat} (h : TSt w wr ss g C A CA k) (hn : ss.length = n) (hk : k < n) (s : ByteArray) (hs : ss.getD k ByteArray.empty = s) (ho : nm s = [] ∨ nm s ∈ fk ss k)
    (hp : w'.ownsRow w.heap.size 3 1 (.slice A' (k + 1) CA') (k + 1) ((plcI (ss.take k) ++ [((plc (fk ss k) (nm s) : Nat) : Int)]).map (Value.int .i64))) (hg : (wr.alloc o).grownBy w' (oB A)) (hA : oB A' = oB A ∨ oB A' = some (wr.alloc o).heap.size) : TSt w w' ss g C A' CA' (k + 1) := by
  have e : fk ss (k + 1) = fk ss k := by rw [fk_succ (by omega), hs, fsStep_old ho]
  have hz : (wr.alloc o).heap.size = wr.heap.size + 1 := by simp
  have hgl := h.g_lt
  refine ⟨?_, ?_, ?_, ?_⟩
  · rw [e]
    exact World.ownsRow.kept (World.ownsRow.alloc h.tab o) hg (.inr (by simp [Value.ownBlock]; exact fun e => h.ne e.symm))
  · rw [plcI_snoc (by omega), hs, e]
    exact hp
  · rcases hA with hA | hA
    · rw [hA]; exact h.ne
    · rw [hA, hz]; simp; omega
  · have a3 := Below.alloc h.kept h.kept.size o
    exact a3.grown hg a3.size (fun j e => (h.a_lt j e).1)

/-- A new name: its place, its bytes, a 0. -/
theorem TSt.new {w wr w3 w4 w5 : World} {o o' : Obj} {ss : List ByteArray} {g g2 g5 C C5 : Nat} {A A' : Option Addr} {CA CA' k n : Nat} (h : TSt w wr ss g C A CA k) (hn : ss.length = n) (hk : k < n) (s : ByteArray) (hs : ss.getD k ByteArray.empty = s) (h0 : nm s ≠ []) (h1 : nm s ∉ fk ss k)
    (hp : w3.ownsRow w.heap.size 3 1 (.slice A' (k + 1) CA') (k + 1) ((plcI (ss.take k) ++ [(((tbl (fk ss k)).length : Nat) : Int)]).map (Value.int .i64))) (hg : (wr.alloc o).grownBy w3 (oB A)) (hA : oB A' = oB A ∨ oB A' = some (wr.alloc o).heap.size)
    (k4 : w3.grownBy w4 (some g)) (e4 : g2 = g ∨ g2 = w3.heap.size) (b2 : w.heap.size ≤ g2)
    (t5 : Own w5 w.heap.size (.slice (some ⟨g5, 0, none⟩) ((tbl (fk ss k)).length + s.size + 1) C5) (tbl (fk ss k) ++ nm s ++ [0])) (k5 : (w4.alloc o').grownBy w5 (some g2)) (e5 : g5 = g2 ∨ g5 = (w4.alloc o').heap.size) : TSt w w5 ss g5 C5 A' CA' (k + 1) := by
  have e : fk ss (k + 1) = fk ss k ++ [nm s] := by rw [fk_succ (by omega), hs, fsStep_new h0 h1]
  have et : tbl (fk ss (k + 1)) = tbl (fk ss k) ++ nm s ++ [0] := by rw [e, tbl_snoc, List.append_assoc]
  have el : (tbl (fk ss (k + 1))).length = (tbl (fk ss k)).length + s.size + 1 := by rw [et]; simp [nm_length]; omega
  have hz : (wr.alloc o).heap.size = wr.heap.size + 1 := by simp
  have hz' : (w4.alloc o').heap.size = w4.heap.size + 1 := by simp
  have hgl := h.g_lt
  have z3 := hg.size
  have z4 := k4.size
  have hAlt : ∀ j, oB A' = some j → j < w3.heap.size ∧ w.heap.size ≤ j := fun j hj => by
    have := hp.lt j (by rw [ownBlock_oB]; exact hj)
    exact ⟨this.2, this.1⟩
  have n3 : oB A' ≠ some g := by
    rcases hA with hA | hA
    · rw [hA]; exact h.ne
    · rw [hA, hz]; simp; omega
  have n4 : oB A' ≠ some g2 := by
    rcases e4 with rfl | rfl
    · exact n3
    · intro hh; have := hAlt _ hh; omega
  have n5 : oB A' ≠ some g5 := by
    rcases e5 with rfl | rfl
    · exact n4
    · intro hh; have := hAlt _ hh; omega
  refine ⟨?_, ?_, n5, ?_⟩
  · rw [el, et]
    exact t5
  · rw [plcI_snoc (by omega), hs, e, plc_new h0 h1]
    exact ((hp.kept k4 (.inr (by rw [ownBlock_oB]; exact n3))).alloc o').kept k5 (.inr (by rw [ownBlock_oB]; exact n4))
  · have a2 := Below.alloc h.kept h.kept.size o
    have a3 := a2.grown hg a2.size (fun j e => (h.a_lt j e).1)
    have a4 := a3.grown k4 a3.size (fun j e => by cases e; exact hgl.1)
    have a5 := Below.alloc a4 a4.size o'
    exact a5.grown k5 a5.size (fun j e => by cases e; exact b2)

/-- The place of a name that is there, among the places that are told. -/
theorem plcI_at {ss : List ByteArray} {k m n : Nat} (hn : ss.length = n) (hk : k ≤ n) (hm : m < k) : (plcI (ss.take k)).getD m 0 = ((plc (fk ss k) (nm (ss.getD m ByteArray.empty)) : Nat) : Int) := by
  have hl : m < ss.length := by omega
  unfold plcI plcs fk nms
  rw [List.getD, List.getElem?_map, List.getElem?_map, List.getElem?_map, List.getElem?_take, if_pos hm, List.getElem?_eq_getElem hl, List.getD, List.getElem?_eq_getElem hl]
  rfl

def TPost (w : World) (ss : List ByteArray) (e : Ending) (w' : World) : Prop :=
  ∃ v p, e = .returned (.tuple #[v, p]) ∧ Own w' w.heap.size v (tbl (fsts (nms ss))) ∧ OwnI w' w.heap.size p (plcI ss) ∧ Kept w w'

set_option maxRecDepth 20000 in
set_option maxHeartbeats 3200000 in
theorem table_walk (a : Option Addr) (cap n : Nat) (ss : List ByteArray) (w : World) (hlen : ss.length = n) (hn : n ≤ 1024) (hbad : badB ss = false) (hS : Strs w a ss) :
    Calls Try.prog 22 #[.slice a n cap] w fun e w' => TPost w ss e w' := by
  have hsm : ∀ s ∈ ss, s.size ≤ 64 := fun s hs => (wrong_false (bad_false hbad s hs)).1
  have hbd := fk_bound hbad (by omega)
  have hT0 : TSt w (w.alloc (.cells #[.int .u8 0] 5)) ss w.heap.size 1 none 0 0 :=
    ⟨lit_own w, World.ownsRow_nil _ _ _ _, by simp [oB], Kept.alloc _ _⟩
  go_enter Try.func22, Try.ntmps22
  go_wp2
  go_loopw [4, 5, 6] (fun t p i wr => ∃ (k g C CA : Nat) (A : Option Addr), k ≤ n ∧ i = .int .i64 k ∧ t = .slice (some ⟨g, 0, none⟩) (tbl (fk ss k)).length C ∧ p = .slice A k CA ∧ TSt w wr ss g C A CA k) (fun _ _ i _ => n - (intOf i).toNat)
  case atStart => exact ⟨0, w.heap.size, 1, 0, none, Nat.zero_le _, rfl, rfl, rfl, hT0⟩
  case round =>
    clear hT0
    obtain ⟨k, g, C, CA, A, hk, rfl, rfl, rfl, hB⟩ := hrel
    by_cases hlt : k < n
    · obtain ⟨b, off, rfl, hc⟩ := hS.at (show k < ss.length by omega)
      obtain ⟨s, hs⟩ : ∃ s, ss.getD k ByteArray.empty = s := ⟨_, rfl⟩
      have hmem : s ∈ ss := by rw [← hs]; exact getD_mem (by omega)
      have hs64 := hsm s hmem
      have hLb := hbd k
      obtain ⟨L, hL⟩ : ∃ L, (tbl (fk ss k)).length = L := ⟨_, rfl⟩
      rw [hL] at hLb ⊢
      have hcr : ∀ j, j < ss.length → wr.cell? ⟨b, off + j, none⟩ = some (.string (ss.getD j ByteArray.empty)) := fun j hj => hB.kept.cell (hc j hj)
      have hF := first_walk b off n cap k ss wr hlen (by omega) hlt hcr
      have hbw : b < w.heap.size := block_lt_of_cell (hc k (by omega))
      clear hc hS hmem hsm hbd
      cases hnew : newB ss k
      · have ho : nm s = [] ∨ nm s ∈ fk ss k := by
          have := of_decide_eq_false hnew
          rw [hs] at this
          by_cases h0 : nm s = []
          · exact .inl h0
          · by_cases h1 : nm s ∈ fk ss k
            · exact .inr h1
            · exact absurd ⟨h0, h1⟩ this
        rw [hnew] at hF
        obtain ⟨c0, hc0⟩ : ∃ c0, plc (fk ss k) (nm s) = c0 := ⟨_, rfl⟩
        go_upto_region 10 with (go_at_call 27; refine hF.mono ?_; rintro e w1 ⟨rfl, hk1⟩)
        have hB1 := hB.moved hk1
        have hcr1 : ∀ j, j < ss.length → w1.cell? ⟨b, off + j, none⟩ = some (.string (ss.getD j ByteArray.empty)) := fun j hj => hk1.cell (hcr j hj)
        have hcs := hcr1 k (by omega)
        rw [hs] at hcs
        have z1 : w.heap.size ≤ w1.heap.size := hB1.kept.size
        clear hB hF hcr hk1
        go_wp2
        go_loopw [7, 8] (fun x y wi => ∃ j c : Nat, j ≤ k ∧ y = .int .i64 ((j : Int) - 1) ∧ x = .int .i64 c ∧ Hid (c = c0 ∨ (c = 0 ∧ ∀ m, j ≤ m → m < k → ss.getD m ByteArray.empty ≠ s)) ∧ Kept w1 wi) (fun _ y _ => (intOf y + 1).toNat)
        case atStart => exact ⟨k, 0, Nat.le_refl _, by go_num, rfl, .inr ⟨rfl, fun m h1 h2 => by omega⟩, Kept.refl _⟩
        case round =>
          obtain ⟨j, c, hj, rfl, rfl, hC, hKi⟩ := hrel
          by_cases hj0 : 0 < j
          · obtain ⟨m, rfl⟩ : ∃ m, j = m + 1 := ⟨j - 1, by omega⟩
            have em : ((m + 1 : Nat) : Int) - 1 = (m : Int) := by omega
            rw [em]
            have x1 := hKi.cell (hcr1 m (by omega))
            have x2 := hKi.cell hcs
            obtain ⟨t, ht⟩ : ∃ t, ss.getD m ByteArray.empty = t := ⟨_, rfl⟩
            rw [ht] at x1
            have hp0 := row_kept hB1.pl hKi
            have hnil : ∃ ga, A = some ⟨ga, 0, none⟩ := by
              rcases hp0.2 with ⟨_, h⟩ | ⟨ga, _, _, h, _⟩
              · omega
              · simp only [Value.slice.injEq] at h
                exact ⟨ga, h.1⟩
            obtain ⟨ga, rfl⟩ := hnil
            have hcm : m < CA := by
              rcases hp0.2 with ⟨h, _⟩ | ⟨_, cap', _, h, _, _, hle, _⟩
              · cases h
              · simp only [Value.slice.injEq] at h
                omega
            by_cases e : t = s
            · have e' := beq_true e
              have x3 : wr.cell? ⟨ga, m, none⟩ = some (.int .i64 (c0 : Nat)) := by
                have hpl : m < (plcI (ss.take k)).length := by rw [take_len hlen hk]; omega
                rw [hp0.cellAt m (by omega), List.getElem?_map, List.getElem?_eq_getElem hpl]
                have := plcI_at hlen hk (show m < k by omega)
                rw [ht, e, hc0, List.getD, List.getElem?_eq_getElem hpl] at this
                simp at this
                rw [← this]
                rfl
              clear hp0 hcr1 hcs ht e hC
              go_upto_region 14 with fail
              go_big_quiet (fail)
              have K2 : Kept w1 (wr.drewN nq) := hKi.trans (Kept.drewN _ _)
              go_wp2
              go_roundw
              case rel => exact ⟨m, c0, by omega, by go_num, rfl, .inl rfl, K2⟩
              case measure => simp [intOf]
            · have e' := beq_false e
              have HT : Hid (ss.getD m ByteArray.empty = t ∧ ¬ t = s) := ⟨ht, e⟩
              clear hp0 hcr1 hcs ht e
              go_upto_region 14 with fail
              go_big_quiet (fail)
              have K2 : Kept w1 (wr.drewN nq) := hKi.trans (Kept.drewN _ _)
              go_wp2
              go_roundw
              case rel =>
                refine ⟨m, c, by omega, by go_num, rfl, ?_, K2⟩
                rcases hC.out with h | ⟨h, h'⟩
                · exact .inl h
                · refine .inr ⟨h, fun q h1 h2 => ?_⟩
                  by_cases e : q = m
                  · subst e; rw [HT.out.1]; exact HT.out.2
                  · exact h' q (by omega) h2
              case measure => simp [intOf]
          · obtain rfl : j = 0 := by omega
            have hcc : Hid (c = plc (fk ss k) (nm s)) := by
              show c = plc (fk ss k) (nm s)
              rcases hC.out with h | ⟨h, h'⟩
              · rw [h, hc0]
              · rw [h]
                rcases ho with h0 | h1
                · simp [plc, h0]
                · obtain ⟨⟨q, q1, q2, q3⟩, _⟩ := mem_fk.1 h1
                  exact absurd (nm_inj q3) (h' q (Nat.zero_le _) q1)
            have hB2 := hB1.moved hKi
            have z2 : w.heap.size ≤ wr.heap.size := hB2.kept.size
            clear hcr1 hcs hC hc0
            go_wp2_with (at_builtin; refine wpList_append_numL rfl _ _ rfl w.heap.size A k CA (plcI (ss.take k)) (c : Nat) ⟨wr.heap.size, 0, none⟩ 1 (take_len hlen hk) rfl rfl (World.ownsRow.alloc hB2.pl _) (by simp) (by omega) (by simp; omega) ?_)
            intro A' CA' w3 hp hg hA
            have hO := hB2.old (o := .cells #[.int .i64 (c : Nat)] 3) hlen hlt s hs ho (A' := A') (CA' := CA') (by rw [← hcc.out]; simpa using hp) hg (by simpa using hA)
            have e : fk ss (k + 1) = fk ss k := by rw [fk_succ (by omega), hs, fsStep_old ho]
            have HE : Hid ((tbl (fk ss (k + 1))).length = L) := by rw [e]; exact hL
            have HO : Hid (TSt w w3 ss g C A' CA' (k + 1)) := hO
            clear hO e hp hg hA hB1 hB2 hKi ho hs hL
            go_wp2
            go_roundw
            case rel => exact ⟨k + 1, g, C, CA', A', by omega, by go_num, by rw [HE.out], rfl, HO.out⟩
            case measure => simp [intOf]; omega
      · obtain ⟨h0, h1⟩ := of_decide_eq_true hnew
        rw [hs] at h0 h1
        rw [hnew] at hF
        go_upto_region 7 with (go_at_call 27; refine hF.mono ?_; rintro e w1 ⟨rfl, hk1⟩)
        have hB1 := hB.moved hk1
        have hcell := hk1.cell (hcr k (by omega))
        rw [hs] at hcell
        have z1 : w.heap.size ≤ w1.heap.size := hB1.kept.size
        clear hB hF hcr hk1
        go_wp2_with (at_builtin; refine wpList_append_numL rfl _ _ rfl w.heap.size A k CA (plcI (ss.take k)) (L : Nat) ⟨w1.heap.size, 0, none⟩ 1 (take_len hlen hk) rfl rfl (World.ownsRow.alloc hB1.pl _) (by simp) (by omega) (by simp; omega) ?_)
        intro A' CA' w3 hp hg hA
        have z3 : w.heap.size ≤ w3.heap.size := by have := hg.size; simp at this; omega
        have T3 : Own w3 w.heap.size (.slice (some ⟨g, 0, none⟩) L C) (tbl (fk ss k)) := by
          have := hB1.tab
          rw [hL] at this
          exact World.ownsRow.kept (World.ownsRow.alloc this _) hg (.inr (by simp [Value.ownBlock]; exact fun e => hB1.ne e.symm))
        have hcell3 : w3.cell? ⟨b, off + k, none⟩ = some (.string s) := by
          have h1 : Kept w1 (w1.alloc (.cells #[.int .i64 (L : Nat)] 3)) := Kept.alloc _ _
          refine hg.cell (h1.cell hcell) ?_
          intro e
          have := (hB1.a_lt b e.symm).1
          omega
        clear hcell
        go_wp2_with (at_builtin; refine wpList_append_str rfl _ _ rfl w.heap.size g L C (tbl (fk ss k)) s hL rfl rfl T3 (by omega) z3 ?_)
        intro g2 C2 w4 T4 k4 e4
        have z4 : w.heap.size ≤ w4.heap.size := Nat.le_trans z3 k4.size
        have hg2 : w.heap.size ≤ g2 := (T4.lt g2 rfl).1
        clear T3
        go_wp2_with (at_builtin; refine wpList_append_one rfl _ _ rfl w.heap.size g2 (L + s.size) C2 (tbl (fk ss k) ++ nm s) 0 ⟨w4.heap.size, 0, none⟩ 1 (by rw [List.length_append, hL, nm_length]) rfl rfl (World.ownsRow.alloc T4 _) (by simp) (by omega) (by simp; omega) ?_)
        intro g5 C5 w5 T5 k5 e5
        have el : (tbl (fk ss (k + 1))).length = L + s.size + 1 := by
          rw [fk_succ (by omega), hs, fsStep_new h0 h1, tbl_length_snoc, hL, nm_length]
        have hN := hB1.new hlen hlt s hs h0 h1 (A' := A') (CA' := CA') (by rw [hL]; simpa using hp) hg (by simpa using hA) k4 e4 hg2 (C5 := C5) (by rw [hL, List.append_assoc]; exact T5) k5 (by simpa using e5)
        have HN : Hid (TSt w w5 ss g5 C5 A' CA' (k + 1)) := hN
        have HE : Hid ((tbl (fk ss (k + 1))).length = L + s.size + 1) := el
        clear hN el T5 k5 e5 T4 k4 e4 hp hg hA hB1 hs hL h0 h1
        go_wp2
        go_roundw
        case rel => exact ⟨k + 1, g5, C5, CA', A', by omega, by go_num, by rw [HE.out], rfl, HN.out⟩
        case measure => simp [intOf]; omega
    · obtain rfl : k = n := by omega
      have hTl : tbl (fk ss k) = tbl (fsts (nms ss)) := by rw [← hlen, fk_all]
      have hP : OwnI wr w.heap.size (.slice A k CA) (plcI ss) := by
        have := hB.pl
        rw [show ss.take k = ss by rw [← hlen, List.take_length]] at this
        unfold OwnI
        rw [plcI_length, hlen]
        exact this
      have hT := hB.tab
      have hK := hB.kept
      rw [hTl] at hT ⊢
      clear hB hTl hS hsm hbd
      go_wp2
      go_ret2
      exact ⟨_, _, rfl, hT, hP, hK⟩
end Go.Proofs.Ytahkiaoifkcmoaa
