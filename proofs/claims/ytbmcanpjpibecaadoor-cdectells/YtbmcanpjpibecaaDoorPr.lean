/- cenc's own rows of short forms, as its function gives them: an array of structs, by value. -/
import Derived.Test.YtbmcanpjpibecaaDoorRs
import Derived.Deep.WholeRow
import Derived.Laws.CopyOwn
namespace Go.Proofs.YtbmcanpjpibecaaDoor
open Go.RowKit

/-- AN ARRAY LITERAL OF STRUCTS OF s CELLS EACH: the cells are a variable of which three things are known. -/
theorem wpList_litA {P : Program} {ops : Array Oper} {rest : List Oper} {o : Oper} {a : Act} {w : World} {Q : Exit → Act → World → Prop} (hg : o.guard = none) (t e : TypeId) (n s : Nat) (parts : Array (Nat × Operand)) (ho : o.op = .build t parts)
    (zs : List Value) (hu : P.underlying t = some (.array n e)) (hsz : (P.info? e).map (·.size) = some s) (hz : ((P.info? t).bind (·.zero)).map (·.cells.size) = some (zs.length * s))
    (hs : 0 < s) (h1 : ∀ v ∈ zs, v.cells.size = s) (h2 : ∀ v ∈ zs, v.cells.all (·.oneCell') = true)
    (hparts : (parts.map fun (i, x) => (i, a.eval x)).toList = (zs.zipIdx 0).map fun x => (x.2, x.1))
    (h : ∀ cs : Array Value, cs.size = zs.length * s → cs.all (·.oneCell') = true → (∀ (k : Nat) v, zs[k]? = some v → cs.extract (k * s) (k * s + s) = v.cells) → wpList P ops Q rest (a.put o.dst (.agg cs)) w) : wpList P ops Q (o :: rest) a w := by
  cases hit : P.info? t with
  | none => simp [hit] at hz
  | some it =>
    simp only [hit, Option.bind_some] at hz
    cases hzz : it.zero with
    | none => simp [hzz] at hz
    | some z =>
      simp only [hzz, Option.map_some, Option.some.injEq] at hz
      cases hie : P.info? e with
      | none => simp [hie] at hsz
      | some ie =>
        simp only [hie, Option.map_some, Option.some.injEq] at hsz
        have hsize : (zs.flatMap fun v => v.cells.toList).toArray.size = zs.length * s := by
          rw [List.size_toArray, List.length_flatMap]
          clear hparts h h2 hz
          induction zs with
          | nil => simp
          | cons v vs ih =>
            rw [List.map_cons, List.sum_cons, ih fun u hu' => h1 u (List.mem_cons_of_mem _ hu'), List.length_cons, Array.length_toList, h1 v List.mem_cons_self, Nat.succ_mul]
            omega
        have hb : P.built t (parts.map fun (i, x) => (i, a.eval x)).toList = some (zs.flatMap fun v => v.cells.toList).toArray := by
          unfold Program.built
          rw [hit, hu]
          simp only [hzz, hie]
          rw [hparts, hsz]
          exact Great.fill_whole hs _ _ h1 hz.symm
        refine wpList_struct hg t parts ho _ hb (h _ hsize ?_ ?_)
        · rw [List.all_toArray, List.all_flatMap]
          refine List.all_eq_true.2 fun v hv => ?_
          rw [Array.all_toList]
          exact h2 v hv
        · intro k v hv
          apply Array.ext_getElem?
          intro j
          have hvs := h1 v (List.mem_of_getElem? hv)
          have hk : k < zs.length := (List.getElem?_eq_some_iff.1 hv).1
          have hle : k * s + s ≤ zs.length * s := by
            have := Nat.mul_le_mul_right s (show k + 1 ≤ zs.length by omega)
            rw [Nat.succ_mul] at this
            exact this
          rw [Array.getElem?_extract]
          by_cases hj : j < s
          · rw [if_pos (by rw [hsize]; omega)]
            have hf := Great.flat_get hs zs h1 (k * s + j)
            rw [show (k * s + j) / s = k by rw [Nat.mul_comm, Nat.mul_add_div hs, Nat.div_eq_of_lt hj, Nat.add_zero], show (k * s + j) % s = j by rw [Nat.mul_comm, Nat.mul_add_mod, Nat.mod_eq_of_lt hj], hv] at hf
            simpa using hf
          · rw [if_neg (by rw [hsize]; omega), Array.getElem?_eq_none (by omega)]

/-- 'wpList_litN' with one fact more: the block is new. -/
theorem wpList_litNN {P : Program} {ops : Array Oper} {rest : List Oper} {o : Oper} {a : Act} {w : World} {Q : Exit → Act → World → Prop} (d : Nat) (_hd : o.dst = some d) (hg : o.guard = none) (t e : TypeId) (len : Nat) (parts : Array (Nat × Operand)) (ho : o.op = .buildSlice t len parts)
    (l : List Int) (hu : P.underlying t = some (.slice e)) (hsz : (P.info? e).map (·.size) = some 1) (hz : ((P.info? e).bind (·.zero)).isSome = true)
    (hlen : len = l.length) (hpos : 0 < len) (hsmall : len ≤ 2 ^ 24)
    (hparts : parts.toList = (l.zipIdx 0).map fun x => (x.2, Operand.const (Value.int .i64 x.1)))
    (h : ∀ (b : Nat) (w' : World), Kept w w' → w.heap.size ≤ b → (∀ j, j < l.length → w'.cell? ⟨b, j, none⟩ = some (.int .i64 (l.getD j 0))) → wpList P ops Q rest (a.put o.dst (.slice (some ⟨b, 0, none⟩) len len)) w') : wpList P ops Q (o :: rest) a w := by
  cases hie : P.info? e with
  | none => simp [hie] at hsz
  | some ie =>
    simp only [hie, Option.map_some, Option.some.injEq, Option.bind_some] at hsz hz
    obtain ⟨z, hzz⟩ := Option.isSome_iff_exists.1 hz
    refine wpList_buildSlice hg t e len parts ho (l.map (Value.int .i64)).toArray ie z hu hie hzz (by rw [hsz]; omega) (by rw [hsz]; omega) ?_ (h w.heap.size _ (Kept.alloc _ _) (Nat.le_refl _) ?_)
    · rw [parts_eval a parts .i64 l hparts, hsz]
      exact Great.fill_flat _ _ (fun v hv => by obtain ⟨n, _, rfl⟩ := List.mem_map.1 hv; rfl) (by simp [hlen])
    · intro j hj
      have := cell_of_row (w.alloc (.cells (l.map (Value.int .i64)).toArray e)) w.heap.size j (l.map (Value.int .i64)).toArray e (0, 0) (heap_alloc_last w _)
      rw [this]
      simp [List.getD, hj]

/-- What a row's number may be, as cenc tells it. -/
def pkTab : List Int := [1, 0, 0, 0, 0, 0, 3, 2, 2, 3, 4, 1, 1, 2, 0, 0, 0, 0, 0, 0, 2, 2, 2, 1, 0, 0, 0, 0, 0, 0, 0, 0, 0]
def pKind (k : Nat) : Int := pkTab.getD k 0
/-- A row's six cells. -/
def pCells (k : Nat) (a : Option Addr) (n cap : Nat) : Array Value := #[.int .u8 (cOp k), .int .u32 (cBits k), .int .u8 ((cForm k).toNat), .int .u8 (pKind k), .int .i64 (cBy k), .slice a n cap]
def pRowV (k : Nat) (a : Option Addr) (cap : Nat) : Value := .agg (pCells k a (cLen k) cap)
/-- The rows, as a value. -/
def PRowsOf (w : World) (cs : Array Value) : Prop := ∀ k, k < 33 → ∃ a cap, cs.extract (k * 6) (k * 6 + 6) = pCells k a (cLen k) cap ∧ Cells w a (cLen k) (cPlP k)

theorem szP5 : (Tryd.prog.info? 45).map (·.size) = some 6 := by kernel_rfl
theorem zeP5 : ((Tryd.prog.info? 46).bind (·.zero)).map (·.cells.size) = some 198 := by kernel_rfl
theorem szA5 : (Tryd.prog.info? 46).map (·.size) = some 198 := by kernel_rfl
noncomputable def zA5 : Value := ((Tryd.prog.info? 46).bind (·.zero)).getD undef
theorem zA5_zero : (Tryd.prog.info? 46).map (fun i => (i.zero, i.size)) = some (some zA5, 198) := by kernel_rfl
set_option maxRecDepth 100000 in
theorem zA5_ex : ∃ cz : Array Value, (∀ w, (zeroValue 46).run Tryd.prog w = .ok (.agg cz) w) ∧ cz.size = 198 := by
  refine ⟨zA5.cells, fun w => ?_, by kernel_rfl⟩
  rw [(zero_of_info zA5_zero).1 w, show zA5 = .agg zA5.cells by kernel_rfl]
  rfl
theorem pCells_one (k : Nat) (a : Option Addr) (n cap : Nat) : (pCells k a n cap).all (·.oneCell') = true := by
  simp [pCells, Value.oneCell']

theorem prow_of {cs : Array Value} {w0 wl w' : World} {k g : Nat} {zs : List Value} {a : Option Addr} (hc : ∀ (k : Nat) v, zs[k]? = some v → cs.extract (k * 6) (k * 6 + 6) = v.cells) (hz : zs[k]? = some (.agg (pCells k a (cLen k) (cLen k))))
    (hcells : cLen k = 0 ∨ ∃ b, a = some ⟨b, 0, none⟩ ∧ b ≠ g ∧ ∀ j, j < (cPl k).length → w0.cell? ⟨b, j, none⟩ = some (.int .i64 ((cPl k).getD j 0))) (hk : Kept w0 wl) (hw : w' = wl.setRow g cs) : ∃ a cap, cs.extract (k * 6) (k * 6 + 6) = pCells k a (cLen k) cap ∧ Cells w' a (cLen k) (cPlP k) := by
  refine ⟨a, cLen k, hc k _ hz, ?_⟩
  rcases hcells with h | ⟨b, rfl, hb, h⟩
  · exact .inl h
  · refine .inr ⟨b, 0, rfl, fun j hj => ?_⟩
    rw [Nat.zero_add, hw, cell_setRow_other _ _ _ _ hb]
    exact hk.cell (h j hj)

theorem results_cell {P : Program} {fn : Func} {tmps : Array Value} {w : World} {s t : Nat} {p : Addr} {v : Value} (hr : fn.results = #[.cell s t]) (hp : tmps.getD s undef = .pointer (some p)) (hl : (loadVar t p).run P w = .ok v w) : (results fn tmps).run P w = .ok v w := by
  unfold results
  rw [hr, Array.mapM_eq_mapM_toList]
  rw [Array.getD_eq_getD_getElem?] at hp
  simp [hp, asAddr, hl]

set_option maxRecDepth 20000 in
set_option maxHeartbeats 6400000 in
theorem prows_walk (w : World) : Calls Tryd.prog 18 #[] w fun e w' => ∃ cs : Array Value, e = .returned (.agg cs) ∧ Kept w w' ∧ PRowsOf w' cs := by
  obtain ⟨cz, hz0, hcz⟩ := zA5_ex
  go_enter Tryd.func18, Tryd.ntmps18
  go_upto_region 1 with fail
  clear hz0
  have hr0 := heap_alloc_last w (.cells cz 46)
  have hK0 : Kept w (w.alloc (.cells cz 46)) := Kept.alloc _ _
  have hs0 : (w.alloc (.cells cz 46)).heap.size = w.heap.size + 1 := by simp
  generalize w.alloc (.cells cz 46) = wa at hr0 hK0 hs0 ⊢
  generalize hgb : w.heap.size = g at hr0 hs0 ⊢
  refine wp_region_lit ?_
  refine wpList_litNN 1 rfl rfl 43 3 8 _ rfl (cPl 0) Tryd.underlying43 szI5 zeI5 (by kernel_rfl) (by omega) (by omega) (by kernel_rfl) ?_
  intro b0 w0 k0 n0 c0
  refine wpList_struct rfl 45 _ rfl (pCells 0 (some ⟨b0, 0, none⟩) 8 8) (by kernel_rfl) ?_
  refine wpList_litNN 3 rfl rfl 43 3 5 _ rfl (cPl 1) Tryd.underlying43 szI5 zeI5 (by kernel_rfl) (by omega) (by omega) (by kernel_rfl) ?_
  intro b1 w1 k1 n1 c1
  refine wpList_struct rfl 45 _ rfl (pCells 1 (some ⟨b1, 0, none⟩) 5 5) (by kernel_rfl) ?_
  refine wpList_litNN 5 rfl rfl 43 3 5 _ rfl (cPl 2) Tryd.underlying43 szI5 zeI5 (by kernel_rfl) (by omega) (by omega) (by kernel_rfl) ?_
  intro b2 w2 k2 n2 c2
  refine wpList_struct rfl 45 _ rfl (pCells 2 (some ⟨b2, 0, none⟩) 5 5) (by kernel_rfl) ?_
  refine wpList_litNN 7 rfl rfl 43 3 5 _ rfl (cPl 3) Tryd.underlying43 szI5 zeI5 (by kernel_rfl) (by omega) (by omega) (by kernel_rfl) ?_
  intro b3 w3 k3 n3 c3
  refine wpList_struct rfl 45 _ rfl (pCells 3 (some ⟨b3, 0, none⟩) 5 5) (by kernel_rfl) ?_
  refine wpList_litNN 9 rfl rfl 43 3 5 _ rfl (cPl 4) Tryd.underlying43 szI5 zeI5 (by kernel_rfl) (by omega) (by omega) (by kernel_rfl) ?_
  intro b4 w4 k4 n4 c4
  refine wpList_struct rfl 45 _ rfl (pCells 4 (some ⟨b4, 0, none⟩) 5 5) (by kernel_rfl) ?_
  refine wpList_struct rfl 45 _ rfl (pCells 5 none 0 0) (by kernel_rfl) ?_
  refine wpList_litNN 12 rfl rfl 43 3 6 _ rfl (cPl 6) Tryd.underlying43 szI5 zeI5 (by kernel_rfl) (by omega) (by omega) (by kernel_rfl) ?_
  intro b6 w6 k6 n6 c6
  refine wpList_struct rfl 45 _ rfl (pCells 6 (some ⟨b6, 0, none⟩) 6 6) (by kernel_rfl) ?_
  refine wpList_litNN 14 rfl rfl 43 3 6 _ rfl (cPl 7) Tryd.underlying43 szI5 zeI5 (by kernel_rfl) (by omega) (by omega) (by kernel_rfl) ?_
  intro b7 w7 k7 n7 c7
  refine wpList_struct rfl 45 _ rfl (pCells 7 (some ⟨b7, 0, none⟩) 6 6) (by kernel_rfl) ?_
  refine wpList_litNN 16 rfl rfl 43 3 6 _ rfl (cPl 8) Tryd.underlying43 szI5 zeI5 (by kernel_rfl) (by omega) (by omega) (by kernel_rfl) ?_
  intro b8 w8 k8 n8 c8
  refine wpList_struct rfl 45 _ rfl (pCells 8 (some ⟨b8, 0, none⟩) 6 6) (by kernel_rfl) ?_
  refine wpList_litNN 18 rfl rfl 43 3 6 _ rfl (cPl 9) Tryd.underlying43 szI5 zeI5 (by kernel_rfl) (by omega) (by omega) (by kernel_rfl) ?_
  intro b9 w9 k9 n9 c9
  refine wpList_struct rfl 45 _ rfl (pCells 9 (some ⟨b9, 0, none⟩) 6 6) (by kernel_rfl) ?_
  refine wpList_litNN 20 rfl rfl 43 3 6 _ rfl (cPl 10) Tryd.underlying43 szI5 zeI5 (by kernel_rfl) (by omega) (by omega) (by kernel_rfl) ?_
  intro b10 w10 k10 n10 c10
  refine wpList_struct rfl 45 _ rfl (pCells 10 (some ⟨b10, 0, none⟩) 6 6) (by kernel_rfl) ?_
  refine wpList_litNN 22 rfl rfl 43 3 6 _ rfl (cPl 11) Tryd.underlying43 szI5 zeI5 (by kernel_rfl) (by omega) (by omega) (by kernel_rfl) ?_
  intro b11 w11 k11 n11 c11
  refine wpList_struct rfl 45 _ rfl (pCells 11 (some ⟨b11, 0, none⟩) 6 6) (by kernel_rfl) ?_
  refine wpList_litNN 24 rfl rfl 43 3 6 _ rfl (cPl 12) Tryd.underlying43 szI5 zeI5 (by kernel_rfl) (by omega) (by omega) (by kernel_rfl) ?_
  intro b12 w12 k12 n12 c12
  refine wpList_struct rfl 45 _ rfl (pCells 12 (some ⟨b12, 0, none⟩) 6 6) (by kernel_rfl) ?_
  refine wpList_litNN 26 rfl rfl 43 3 6 _ rfl (cPl 13) Tryd.underlying43 szI5 zeI5 (by kernel_rfl) (by omega) (by omega) (by kernel_rfl) ?_
  intro b13 w13 k13 n13 c13
  refine wpList_struct rfl 45 _ rfl (pCells 13 (some ⟨b13, 0, none⟩) 6 6) (by kernel_rfl) ?_
  refine wpList_struct rfl 45 _ rfl (pCells 14 none 0 0) (by kernel_rfl) ?_
  refine wpList_struct rfl 45 _ rfl (pCells 15 none 0 0) (by kernel_rfl) ?_
  refine wpList_struct rfl 45 _ rfl (pCells 16 none 0 0) (by kernel_rfl) ?_
  refine wpList_struct rfl 45 _ rfl (pCells 17 none 0 0) (by kernel_rfl) ?_
  refine wpList_struct rfl 45 _ rfl (pCells 18 none 0 0) (by kernel_rfl) ?_
  refine wpList_struct rfl 45 _ rfl (pCells 19 none 0 0) (by kernel_rfl) ?_
  refine wpList_litNN 34 rfl rfl 43 3 11 _ rfl (cPl 20) Tryd.underlying43 szI5 zeI5 (by kernel_rfl) (by omega) (by omega) (by kernel_rfl) ?_
  intro b20 w20 k20 n20 c20
  refine wpList_struct rfl 45 _ rfl (pCells 20 (some ⟨b20, 0, none⟩) 11 11) (by kernel_rfl) ?_
  refine wpList_litNN 36 rfl rfl 43 3 8 _ rfl (cPl 21) Tryd.underlying43 szI5 zeI5 (by kernel_rfl) (by omega) (by omega) (by kernel_rfl) ?_
  intro b21 w21 k21 n21 c21
  refine wpList_struct rfl 45 _ rfl (pCells 21 (some ⟨b21, 0, none⟩) 8 8) (by kernel_rfl) ?_
  refine wpList_litNN 38 rfl rfl 43 3 8 _ rfl (cPl 22) Tryd.underlying43 szI5 zeI5 (by kernel_rfl) (by omega) (by omega) (by kernel_rfl) ?_
  intro b22 w22 k22 n22 c22
  refine wpList_struct rfl 45 _ rfl (pCells 22 (some ⟨b22, 0, none⟩) 8 8) (by kernel_rfl) ?_
  refine wpList_litNN 40 rfl rfl 43 3 6 _ rfl (cPl 23) Tryd.underlying43 szI5 zeI5 (by kernel_rfl) (by omega) (by omega) (by kernel_rfl) ?_
  intro b23 w23 k23 n23 c23
  refine wpList_struct rfl 45 _ rfl (pCells 23 (some ⟨b23, 0, none⟩) 6 6) (by kernel_rfl) ?_
  refine wpList_litNN 42 rfl rfl 43 3 6 _ rfl (cPl 24) Tryd.underlying43 szI5 zeI5 (by kernel_rfl) (by omega) (by omega) (by kernel_rfl) ?_
  intro b24 w24 k24 n24 c24
  refine wpList_struct rfl 45 _ rfl (pCells 24 (some ⟨b24, 0, none⟩) 6 6) (by kernel_rfl) ?_
  refine wpList_litNN 44 rfl rfl 43 3 6 _ rfl (cPl 25) Tryd.underlying43 szI5 zeI5 (by kernel_rfl) (by omega) (by omega) (by kernel_rfl) ?_
  intro b25 w25 k25 n25 c25
  refine wpList_struct rfl 45 _ rfl (pCells 25 (some ⟨b25, 0, none⟩) 6 6) (by kernel_rfl) ?_
  refine wpList_struct rfl 45 _ rfl (pCells 26 none 0 0) (by kernel_rfl) ?_
  refine wpList_struct rfl 45 _ rfl (pCells 27 none 0 0) (by kernel_rfl) ?_
  refine wpList_struct rfl 45 _ rfl (pCells 28 none 0 0) (by kernel_rfl) ?_
  refine wpList_struct rfl 45 _ rfl (pCells 29 none 0 0) (by kernel_rfl) ?_
  refine wpList_struct rfl 45 _ rfl (pCells 30 none 0 0) (by kernel_rfl) ?_
  refine wpList_litNN 51 rfl rfl 43 3 6 _ rfl (cPl 31) Tryd.underlying43 szI5 zeI5 (by kernel_rfl) (by omega) (by omega) (by kernel_rfl) ?_
  intro b31 w31 k31 n31 c31
  refine wpList_struct rfl 45 _ rfl (pCells 31 (some ⟨b31, 0, none⟩) 6 6) (by kernel_rfl) ?_
  refine wpList_litNN 53 rfl rfl 43 3 6 _ rfl (cPl 32) Tryd.underlying43 szI5 zeI5 (by kernel_rfl) (by omega) (by omega) (by kernel_rfl) ?_
  intro b32 w32 k32 n32 c32
  refine wpList_struct rfl 45 _ rfl (pCells 32 (some ⟨b32, 0, none⟩) 6 6) (by kernel_rfl) ?_
  refine wpList_litA rfl 46 45 33 6 _ rfl [.agg (pCells 0 (some ⟨b0, 0, none⟩) 8 8), .agg (pCells 1 (some ⟨b1, 0, none⟩) 5 5), .agg (pCells 2 (some ⟨b2, 0, none⟩) 5 5), .agg (pCells 3 (some ⟨b3, 0, none⟩) 5 5), .agg (pCells 4 (some ⟨b4, 0, none⟩) 5 5), .agg (pCells 5 none 0 0), .agg (pCells 6 (some ⟨b6, 0, none⟩) 6 6), .agg (pCells 7 (some ⟨b7, 0, none⟩) 6 6), .agg (pCells 8 (some ⟨b8, 0, none⟩) 6 6), .agg (pCells 9 (some ⟨b9, 0, none⟩) 6 6), .agg (pCells 10 (some ⟨b10, 0, none⟩) 6 6), .agg (pCells 11 (some ⟨b11, 0, none⟩) 6 6), .agg (pCells 12 (some ⟨b12, 0, none⟩) 6 6), .agg (pCells 13 (some ⟨b13, 0, none⟩) 6 6), .agg (pCells 14 none 0 0), .agg (pCells 15 none 0 0), .agg (pCells 16 none 0 0), .agg (pCells 17 none 0 0), .agg (pCells 18 none 0 0), .agg (pCells 19 none 0 0), .agg (pCells 20 (some ⟨b20, 0, none⟩) 11 11), .agg (pCells 21 (some ⟨b21, 0, none⟩) 8 8), .agg (pCells 22 (some ⟨b22, 0, none⟩) 8 8), .agg (pCells 23 (some ⟨b23, 0, none⟩) 6 6), .agg (pCells 24 (some ⟨b24, 0, none⟩) 6 6), .agg (pCells 25 (some ⟨b25, 0, none⟩) 6 6), .agg (pCells 26 none 0 0), .agg (pCells 27 none 0 0), .agg (pCells 28 none 0 0), .agg (pCells 29 none 0 0), .agg (pCells 30 none 0 0), .agg (pCells 31 (some ⟨b31, 0, none⟩) 6 6), .agg (pCells 32 (some ⟨b32, 0, none⟩) 6 6)] Tryd.underlying46 szP5 zeP5 (by omega) (fun v hv => by simp only [List.mem_cons, List.not_mem_nil, or_false] at hv; rcases hv with rfl | rfl | rfl | rfl | rfl | rfl | rfl | rfl | rfl | rfl | rfl | rfl | rfl | rfl | rfl | rfl | rfl | rfl | rfl | rfl | rfl | rfl | rfl | rfl | rfl | rfl | rfl | rfl | rfl | rfl | rfl | rfl | rfl <;> rfl) (fun v hv => by simp only [List.mem_cons, List.not_mem_nil, or_false] at hv; rcases hv with rfl | rfl | rfl | rfl | rfl | rfl | rfl | rfl | rfl | rfl | rfl | rfl | rfl | rfl | rfl | rfl | rfl | rfl | rfl | rfl | rfl | rfl | rfl | rfl | rfl | rfl | rfl | rfl | rfl | rfl | rfl | rfl | rfl <;> exact pCells_one _ _ _ _) (by kernel_rfl) ?_
  intro cs hcs h1 hc
  have q32 : Kept w32 w32 := Kept.refl _
  have q31 : Kept w31 w32 := Kept.trans k32 q32
  have q25 : Kept w25 w32 := Kept.trans k31 q31
  have q24 : Kept w24 w32 := Kept.trans k25 q25
  have q23 : Kept w23 w32 := Kept.trans k24 q24
  have q22 : Kept w22 w32 := Kept.trans k23 q23
  have q21 : Kept w21 w32 := Kept.trans k22 q22
  have q20 : Kept w20 w32 := Kept.trans k21 q21
  have q13 : Kept w13 w32 := Kept.trans k20 q20
  have q12 : Kept w12 w32 := Kept.trans k13 q13
  have q11 : Kept w11 w32 := Kept.trans k12 q12
  have q10 : Kept w10 w32 := Kept.trans k11 q11
  have q9 : Kept w9 w32 := Kept.trans k10 q10
  have q8 : Kept w8 w32 := Kept.trans k9 q9
  have q7 : Kept w7 w32 := Kept.trans k8 q8
  have q6 : Kept w6 w32 := Kept.trans k7 q7
  have q4 : Kept w4 w32 := Kept.trans k6 q6
  have q3 : Kept w3 w32 := Kept.trans k4 q4
  have q2 : Kept w2 w32 := Kept.trans k3 q3
  have q1 : Kept w1 w32 := Kept.trans k2 q2
  have q0 : Kept w0 w32 := Kept.trans k1 q1
  have p0 : Kept wa wa := Kept.refl _
  have p1 : Kept wa w0 := Kept.trans p0 k0
  have p2 : Kept wa w1 := Kept.trans p1 k1
  have p3 : Kept wa w2 := Kept.trans p2 k2
  have p4 : Kept wa w3 := Kept.trans p3 k3
  have p6 : Kept wa w4 := Kept.trans p4 k4
  have p7 : Kept wa w6 := Kept.trans p6 k6
  have p8 : Kept wa w7 := Kept.trans p7 k7
  have p9 : Kept wa w8 := Kept.trans p8 k8
  have p10 : Kept wa w9 := Kept.trans p9 k9
  have p11 : Kept wa w10 := Kept.trans p10 k10
  have p12 : Kept wa w11 := Kept.trans p11 k11
  have p13 : Kept wa w12 := Kept.trans p12 k12
  have p20 : Kept wa w13 := Kept.trans p13 k13
  have p21 : Kept wa w20 := Kept.trans p20 k20
  have p22 : Kept wa w21 := Kept.trans p21 k21
  have p23 : Kept wa w22 := Kept.trans p22 k22
  have p24 : Kept wa w23 := Kept.trans p23 k23
  have p25 : Kept wa w24 := Kept.trans p24 k24
  have p31 : Kept wa w25 := Kept.trans p25 k25
  have p32 : Kept wa w31 := Kept.trans p31 k31
  have qa : Kept wa w32 := Kept.trans k0 q0
  have hrl : w32.heap[g]? = some (.cells cz 46) := by rw [qa.block g (by omega)]; exact hr0
  refine wpList_store_rowTo rfl 46 _ _ rfl rfl g cs (by kernel_rfl) (by kernel_rfl) 46 cz hrl (by rw [hcs]; exact szA5) (by rw [hcs, hcz]; rfl) h1 ?_
  refine wpList_nil ?_
  go_wp2
  refine bodyPost_ret (v := .agg cs) ?_ rfl ⟨cs, rfl, ?_, ?_⟩
  · have hl := run_loadVar_row (P := Tryd.prog) (w32.setRow g cs) g 46 46 cs (0, 0) _ (setRow_heap _ _ _ _ _ _ hrl) Tryd.underlying46 rfl (by rw [hcs]; exact szA5)
    exact results_cell Tryd.results18 (by rfl) hl
  · exact below_setRow (hK0.trans qa) (by omega) cs
  · intro i hi
    match i, hi with
    | 0, _ => exact prow_of (w0 := w0) hc rfl (.inr ⟨b0, rfl, by have := p0.size; omega, c0⟩) q0 rfl
    | 1, _ => exact prow_of (w0 := w1) hc rfl (.inr ⟨b1, rfl, by have := p1.size; omega, c1⟩) q1 rfl
    | 2, _ => exact prow_of (w0 := w2) hc rfl (.inr ⟨b2, rfl, by have := p2.size; omega, c2⟩) q2 rfl
    | 3, _ => exact prow_of (w0 := w3) hc rfl (.inr ⟨b3, rfl, by have := p3.size; omega, c3⟩) q3 rfl
    | 4, _ => exact prow_of (w0 := w4) hc rfl (.inr ⟨b4, rfl, by have := p4.size; omega, c4⟩) q4 rfl
    | 5, _ => exact prow_of (w0 := w32) hc rfl (.inl (by simp [cPl, cPlTab])) (Kept.refl _) rfl
    | 6, _ => exact prow_of (w0 := w6) hc rfl (.inr ⟨b6, rfl, by have := p6.size; omega, c6⟩) q6 rfl
    | 7, _ => exact prow_of (w0 := w7) hc rfl (.inr ⟨b7, rfl, by have := p7.size; omega, c7⟩) q7 rfl
    | 8, _ => exact prow_of (w0 := w8) hc rfl (.inr ⟨b8, rfl, by have := p8.size; omega, c8⟩) q8 rfl
    | 9, _ => exact prow_of (w0 := w9) hc rfl (.inr ⟨b9, rfl, by have := p9.size; omega, c9⟩) q9 rfl
    | 10, _ => exact prow_of (w0 := w10) hc rfl (.inr ⟨b10, rfl, by have := p10.size; omega, c10⟩) q10 rfl
    | 11, _ => exact prow_of (w0 := w11) hc rfl (.inr ⟨b11, rfl, by have := p11.size; omega, c11⟩) q11 rfl
    | 12, _ => exact prow_of (w0 := w12) hc rfl (.inr ⟨b12, rfl, by have := p12.size; omega, c12⟩) q12 rfl
    | 13, _ => exact prow_of (w0 := w13) hc rfl (.inr ⟨b13, rfl, by have := p13.size; omega, c13⟩) q13 rfl
    | 14, _ => exact prow_of (w0 := w32) hc rfl (.inl (by simp [cPl, cPlTab])) (Kept.refl _) rfl
    | 15, _ => exact prow_of (w0 := w32) hc rfl (.inl (by simp [cPl, cPlTab])) (Kept.refl _) rfl
    | 16, _ => exact prow_of (w0 := w32) hc rfl (.inl (by simp [cPl, cPlTab])) (Kept.refl _) rfl
    | 17, _ => exact prow_of (w0 := w32) hc rfl (.inl (by simp [cPl, cPlTab])) (Kept.refl _) rfl
    | 18, _ => exact prow_of (w0 := w32) hc rfl (.inl (by simp [cPl, cPlTab])) (Kept.refl _) rfl
    | 19, _ => exact prow_of (w0 := w32) hc rfl (.inl (by simp [cPl, cPlTab])) (Kept.refl _) rfl
    | 20, _ => exact prow_of (w0 := w20) hc rfl (.inr ⟨b20, rfl, by have := p20.size; omega, c20⟩) q20 rfl
    | 21, _ => exact prow_of (w0 := w21) hc rfl (.inr ⟨b21, rfl, by have := p21.size; omega, c21⟩) q21 rfl
    | 22, _ => exact prow_of (w0 := w22) hc rfl (.inr ⟨b22, rfl, by have := p22.size; omega, c22⟩) q22 rfl
    | 23, _ => exact prow_of (w0 := w23) hc rfl (.inr ⟨b23, rfl, by have := p23.size; omega, c23⟩) q23 rfl
    | 24, _ => exact prow_of (w0 := w24) hc rfl (.inr ⟨b24, rfl, by have := p24.size; omega, c24⟩) q24 rfl
    | 25, _ => exact prow_of (w0 := w25) hc rfl (.inr ⟨b25, rfl, by have := p25.size; omega, c25⟩) q25 rfl
    | 26, _ => exact prow_of (w0 := w32) hc rfl (.inl (by simp [cPl, cPlTab])) (Kept.refl _) rfl
    | 27, _ => exact prow_of (w0 := w32) hc rfl (.inl (by simp [cPl, cPlTab])) (Kept.refl _) rfl
    | 28, _ => exact prow_of (w0 := w32) hc rfl (.inl (by simp [cPl, cPlTab])) (Kept.refl _) rfl
    | 29, _ => exact prow_of (w0 := w32) hc rfl (.inl (by simp [cPl, cPlTab])) (Kept.refl _) rfl
    | 30, _ => exact prow_of (w0 := w32) hc rfl (.inl (by simp [cPl, cPlTab])) (Kept.refl _) rfl
    | 31, _ => exact prow_of (w0 := w31) hc rfl (.inr ⟨b31, rfl, by have := p31.size; omega, c31⟩) q31 rfl
    | 32, _ => exact prow_of (w0 := w32) hc rfl (.inr ⟨b32, rfl, by have := p32.size; omega, c32⟩) q32 rfl
    | n + 33, h => exact absurd h (by omega)
end Go.Proofs.YtbmcanpjpibecaaDoor
