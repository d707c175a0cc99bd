/- The document's own rows of short forms, as its function gives them. -/
import Derived.Test.YtbmcanpjpibecaaDoorOwn
import Derived.Deep.DeepCutAuto
namespace Go.Proofs.YtbmcanpjpibecaaDoor
open Go.RowKit

/-- A SLICE LITERAL OF STRUCTS OF s CELLS EACH: behind it the world is a variable of which three things are known. -/
theorem wpList_litS {P : Program} {ops : Array Oper} {rest : List Oper} {o : Oper} {a : Act} {w : World} {Q : Exit → Act → World → Prop} (hg : o.guard = none) (t e : TypeId) (len s : Nat) (parts : Array (Nat × Operand)) (ho : o.op = .buildSlice t len parts)
    (zs : List Value) (hu : P.underlying t = some (.slice e)) (hsz : (P.info? e).map (·.size) = some s) (hz : ((P.info? e).bind (·.zero)).isSome = true)
    (hlen : len = zs.length) (hpos : 0 < len * s) (hsmall : len * s ≤ 2 ^ 24) (hs : 0 < s) (h1 : ∀ v ∈ zs, v.cells.size = s)
    (hparts : (parts.map fun (i, x) => (i, a.eval x)).toList = (zs.zipIdx 0).map fun x => (x.2, x.1))
    (h : ∀ (b : Nat) (w' : World), Kept w w' → (∀ (i j : Nat) v u, zs[i]? = some v → v.cells[j]? = some u → w'.cell? ⟨b, i * s + j, none⟩ = some u) → wpList P ops Q rest (a.put o.dst (.slice (some ⟨b, 0, none⟩) len len)) w') : wpList P ops Q (o :: rest) a w := by
  cases hie : P.info? e with
  | none => simp [hie] at hsz
  | some ie =>
    simp only [hie, Option.map_some, Option.some.injEq, Option.bind_some] at hsz hz
    obtain ⟨z, hzz⟩ := Option.isSome_iff_exists.1 hz
    refine wpList_buildSlice hg t e len parts ho (zs.flatMap fun v => v.cells.toList).toArray ie z hu hie hzz (by rw [hsz]; omega) (by rw [hsz]; omega) ?_ (h w.heap.size _ (Kept.alloc _ _) ?_)
    · rw [hparts, hsz]
      exact Great.fill_whole hs _ _ h1 (by simp [hlen])
    · intro i j v u hv hj
      have hjs : j < s := by
        have hm := h1 v (List.mem_of_getElem? hv)
        have := (Array.getElem?_eq_some_iff.1 hj).1
        omega
      have := cell_of_row (w.alloc (.cells (zs.flatMap fun v => v.cells.toList).toArray e)) w.heap.size (i * s + j) (zs.flatMap fun v => v.cells.toList).toArray e (0, 0) (heap_alloc_last w _)
      rw [this]
      have h2 := Great.flat_get hs zs h1 (i * s + j)
      rw [show (i * s + j) / s = i by rw [Nat.mul_comm, Nat.mul_add_div hs, Nat.div_eq_of_lt hjs, Nat.add_zero], show (i * s + j) % s = j by rw [Nat.mul_comm, Nat.mul_add_mod, Nat.mod_eq_of_lt hjs], hv] at h2
      simpa [hj] using h2

/-- 'wpList_lit' at numbers, told by the slot that it fills. -/
theorem wpList_litN {P : Program} {ops : Array Oper} {rest : List Oper} {o : Oper} {a : Act} {w : World} {Q : Exit → Act → World → Prop} (d : Nat) (_hd : o.dst = some d) (hg : o.guard = none) (t e : TypeId) (len : Nat) (parts : Array (Nat × Operand)) (ho : o.op = .buildSlice t len parts)
    (l : List Int) (hu : P.underlying t = some (.slice e)) (hsz : (P.info? e).map (·.size) = some 1) (hz : ((P.info? e).bind (·.zero)).isSome = true)
    (hlen : len = l.length) (hpos : 0 < len) (hsmall : len ≤ 2 ^ 24)
    (hparts : parts.toList = (l.zipIdx 0).map fun x => (x.2, Operand.const (Value.int .i64 x.1)))
    (h : ∀ (b : Nat) (w' : World), Kept w w' → (∀ j, j < l.length → w'.cell? ⟨b, j, none⟩ = some (.int .i64 (l.getD j 0))) → wpList P ops Q rest (a.put o.dst (.slice (some ⟨b, 0, none⟩) len len)) w') : wpList P ops Q (o :: rest) a w := by
  refine wpList_lit hg t e len parts ho (l.map (Value.int .i64)) hu hsz hz (by simpa using hlen) hpos hsmall (fun v hv => by obtain ⟨n, _, rfl⟩ := List.mem_map.1 hv; rfl) (parts_eval a parts .i64 l hparts) fun b w' k c => h b w' k fun j hj => ?_
  refine c j _ ?_
  simp [List.getD, hj]

/-- The rows: the instruction, the bits, the form, what its number may be, by how much it goes, where. -/

def cOpTab : List Nat := [22, 13, 14, 20, 21, 22, 22, 41, 22, 22, 1, 29, 30, 27, 32, 36, 39, 40, 46, 45, 3, 5, 6, 28, 13, 14, 4, 31, 66, 4, 31, 20, 21]

def cBitsTab : List Nat := [0, 16384, 24576, 49152, 57344, 1, 1, 8193, 16385, 24833, 24577, 32769, 33793, 34817, 35841, 35873, 35905, 35937, 39937, 39969, 40961, 49153, 57345, 2, 16386, 24578, 32770, 32770, 36866, 36866, 36866, 49154, 57346]

def cFormTab : List UInt8 := [97, 108, 108, 115, 115, 110, 114, 114, 122, 112, 117, 113, 113, 113, 109, 109, 109, 109, 109, 109, 106, 98, 98, 114, 119, 119, 74, 118, 110, 75, 100, 116, 116]

def cKindTab : List UInt8 := [112, 117, 117, 117, 117, 48, 110, 115, 115, 110, 108, 112, 112, 115, 48, 48, 48, 48, 48, 48, 115, 115, 115, 112, 117, 117, 48, 48, 48, 48, 48, 117, 117]

def cByTab : List Int := [4, 4, 8, 4, 8, 1, 1, 1, 1, 16, 1, 1, 1, 1, 1, 1, 1, 1, 1, 1, 2, 2, 2, 1, 4, 8, 1, 1, 1, 1, 1, 4, 8]

def cPlTab : List (List Int) := [[6, 5, 11, 12, 7, 8, 9, 10], [6, 10, 11, 12, 5], [10, 11, 12, 5, 6], [6, 10, 11, 12, 5], [10, 11, 12, 5, 6], [], [2, 3, 4, 5, 6, 12], [2, 3, 4, 5, 6, 12], [2, 3, 4, 5, 6, 12], [6, 2, 5, 3, 4, 12], [2, 3, 4, 5, 6, 12], [2, 3, 4, 5, 6, 12], [2, 3, 4, 5, 6, 12], [2, 3, 4, 5, 6, 12], [], [], [], [], [], [], [3, 4, 5, 11, 2, 7, 6, 9, 10, 8, 12], [3, 4, 10, 11, 2, 5, 6, 12], [3, 4, 10, 11, 2, 5, 6, 12], [2, 3, 4, 5, 6, 12], [4, 5, 6, 12, 2, 3], [5, 6, 12, 2, 3, 4], [], [], [], [], [], [9, 10, 11, 12, 7, 8], [10, 11, 12, 7, 8, 9]]

def cOp (k : Nat) : Nat := cOpTab.getD k 0
def cBits (k : Nat) : Nat := cBitsTab.getD k 0
def cForm (k : Nat) : UInt8 := cFormTab.getD k 0
def cKind (k : Nat) : UInt8 := cKindTab.getD k 0
def cBy (k : Nat) : Int := cByTab.getD k 0
def cPl (k : Nat) : List Int := cPlTab.getD k []
def cPlP (k j : Nat) : Int := (cPl k).getD j 0
abbrev cLen (k : Nat) : Nat := (cPl k).length
/-- a text of one letter -/
def chr (c : UInt8) : ByteArray := ⟨#[c]⟩
/-- A row, as a value. -/
abbrev cRowV (k : Nat) (a : Option Addr) (cap : Nat) : Value := .agg #[.string (nm (cOp k - 1)), .int .i64 (cBits k), .string (chr (cForm k)), .string (chr (cKind k)), .int .i64 (cBy k), .slice a (cLen k) cap]
/-- A row lies at block b. -/
def CRowAt (w : World) (b k : Nat) (a : Option Addr) (cap : Nat) : Prop :=
  w.cell? ⟨b, 6 * k, none⟩ = some (.string (nm (cOp k - 1))) ∧ w.cell? ⟨b, 6 * k + 1, none⟩ = some (.int .i64 (cBits k)) ∧ w.cell? ⟨b, 6 * k + 2, none⟩ = some (.string (chr (cForm k))) ∧
  w.cell? ⟨b, 6 * k + 3, none⟩ = some (.string (chr (cKind k))) ∧ w.cell? ⟨b, 6 * k + 4, none⟩ = some (.int .i64 (cBy k)) ∧ w.cell? ⟨b, 6 * k + 5, none⟩ = some (.slice a (cLen k) cap) ∧ Cells w a (cLen k) (cPlP k)
def CRowsAt (w : World) (b : Nat) : Prop := ∀ k, k < 33 → ∃ a cap, CRowAt w b k a cap

theorem szI5 : (Tryd.prog.info? 3).map (·.size) = some 1 := by kernel_rfl
theorem zeI5 : ((Tryd.prog.info? 3).bind (·.zero)).isSome = true := by kernel_rfl
theorem szR5 : (Tryd.prog.info? 56).map (·.size) = some 6 := by kernel_rfl
theorem zeR5 : ((Tryd.prog.info? 56).bind (·.zero)).isSome = true := by kernel_rfl

/-- An empty slice literal. -/
theorem wpList_litE {P : Program} {ops : Array Oper} {rest : List Oper} {o : Oper} {a : Act} {w : World} {Q : Exit → Act → World → Prop} (hg : o.guard = none) (t e : TypeId) (ho : o.op = .buildSlice t 0 #[])
    (hu : P.underlying t = some (.slice e)) (hsz : (P.info? e).map (·.size) = some 1) (hz : ((P.info? e).bind (·.zero)).isSome = true)
    (h : ∀ (b : Nat) (w' : World), Kept w w' → wpList P ops Q rest (a.put o.dst (.slice (some ⟨b, 0, none⟩) 0 0)) w') : wpList P ops Q (o :: rest) a w := by
  cases hie : P.info? e with
  | none => simp [hie] at hsz
  | some ie =>
    simp only [hie, Option.map_some, Option.some.injEq, Option.bind_some] at hsz hz
    obtain ⟨z, hzz⟩ := Option.isSome_iff_exists.1 hz
    refine wpList_plain hg fun _ hK => ?_
    unfold Oper.wp execOp
    simp [ho, Instr.buildSlice, run_underlying hu, sizeOf, typeInfo, hie, newRow, Instr.fill]
    exact hK _ _ (h _ _ (Kept.alloc _ _))
/-- A struct literal, its cells told. -/
theorem wpList_struct {P : Program} {ops : Array Oper} {rest : List Oper} {o : Oper} {a : Act} {w : World} {Q : Exit → Act → World → Prop} (hg : o.guard = none) (t : TypeId) (parts : Array (Nat × Operand)) (ho : o.op = .build t parts) (cells : Array Value)
    (hb : P.built t (parts.map fun (i, x) => (i, a.eval x)).toList = some cells) (h : wpList P ops Q rest (a.put o.dst (.agg cells)) w) : wpList P ops Q (o :: rest) a w := by
  refine wpList_build hg t parts ho (by rw [hb]; rfl) ?_
  rw [hb]
  exact h
/-- A row's six cells. -/
def cCells (k b : Nat) (n : Nat) : Array Value := #[.string (nm (cOp k - 1)), .int .i64 (cBits k), .string (chr (cForm k)), .string (chr (cKind k)), .int .i64 (cBy k), .slice (some ⟨b, 0, none⟩) n n]
theorem cCells_size (k b n : Nat) : (cCells k b n).size = 6 := rfl
theorem crow_of {w0 w' : World} {b k bk : Nat} {zs : List Value} (hz : zs[k]? = some (.agg (cCells k bk (cLen k)))) (hc : ∀ (i j : Nat) v u, zs[i]? = some v → v.cells[j]? = some u → w'.cell? ⟨b, i * 6 + j, none⟩ = some u)
    (hcells : ∀ j, j < (cPl k).length → w0.cell? ⟨bk, j, none⟩ = some (.int .i64 ((cPl k).getD j 0))) (hk : Kept w0 w') : ∃ a cap, CRowAt w' b k a cap := by
  refine ⟨some ⟨bk, 0, none⟩, cLen k, ?_⟩
  have h := fun j u hu => hc k j _ u hz hu
  rw [Nat.mul_comm] at h
  refine ⟨h 0 _ rfl, h 1 _ rfl, h 2 _ rfl, h 3 _ rfl, h 4 _ rfl, h 5 _ rfl, .inr ⟨bk, 0, rfl, fun j hj => ?_⟩⟩
  rw [Nat.zero_add]
  exact hk.cell (hcells j hj)

set_option maxRecDepth 20000 in
set_option maxHeartbeats 6400000 in
theorem rows_walk (w : World) : Calls Tryd.prog 22 #[] w fun e w' => ∃ b : Nat, e = .returned (.slice (some ⟨b, 0, none⟩) 33 33) ∧ Kept w w' ∧ CRowsAt w' b := by
  go_enter Tryd.func22, Tryd.ntmps22
  go_upto_region 1 with fail
  refine wp_region_lit ?_
  refine wpList_litN 1 rfl rfl 43 3 8 _ rfl (cPl 0) Tryd.underlying43 szI5 zeI5 (by kernel_rfl) (by omega) (by omega) (by kernel_rfl) ?_
  intro b0 w0 k0 c0
  refine wpList_struct rfl 56 _ rfl (cCells 0 b0 8) (by kernel_rfl) ?_
  refine wpList_litN 3 rfl rfl 43 3 5 _ rfl (cPl 1) Tryd.underlying43 szI5 zeI5 (by kernel_rfl) (by omega) (by omega) (by kernel_rfl) ?_
  intro b1 w1 k1 c1
  refine wpList_struct rfl 56 _ rfl (cCells 1 b1 5) (by kernel_rfl) ?_
  refine wpList_litN 5 rfl rfl 43 3 5 _ rfl (cPl 2) Tryd.underlying43 szI5 zeI5 (by kernel_rfl) (by omega) (by omega) (by kernel_rfl) ?_
  intro b2 w2 k2 c2
  refine wpList_struct rfl 56 _ rfl (cCells 2 b2 5) (by kernel_rfl) ?_
  refine wpList_litN 7 rfl rfl 43 3 5 _ rfl (cPl 3) Tryd.underlying43 szI5 zeI5 (by kernel_rfl) (by omega) (by omega) (by kernel_rfl) ?_
  intro b3 w3 k3 c3
  refine wpList_struct rfl 56 _ rfl (cCells 3 b3 5) (by kernel_rfl) ?_
  refine wpList_litN 9 rfl rfl 43 3 5 _ rfl (cPl 4) Tryd.underlying43 szI5 zeI5 (by kernel_rfl) (by omega) (by omega) (by kernel_rfl) ?_
  intro b4 w4 k4 c4
  refine wpList_struct rfl 56 _ rfl (cCells 4 b4 5) (by kernel_rfl) ?_
  refine wpList_litE rfl 43 3 rfl Tryd.underlying43 szI5 zeI5 ?_
  intro b5 w5 k5
  refine wpList_struct rfl 56 _ rfl (cCells 5 b5 0) (by kernel_rfl) ?_
  refine wpList_litN 13 rfl rfl 43 3 6 _ rfl (cPl 6) Tryd.underlying43 szI5 zeI5 (by kernel_rfl) (by omega) (by omega) (by kernel_rfl) ?_
  intro b6 w6 k6 c6
  refine wpList_struct rfl 56 _ rfl (cCells 6 b6 6) (by kernel_rfl) ?_
  refine wpList_litN 15 rfl rfl 43 3 6 _ rfl (cPl 7) Tryd.underlying43 szI5 zeI5 (by kernel_rfl) (by omega) (by omega) (by kernel_rfl) ?_
  intro b7 w7 k7 c7
  refine wpList_struct rfl 56 _ rfl (cCells 7 b7 6) (by kernel_rfl) ?_
  refine wpList_litN 17 rfl rfl 43 3 6 _ rfl (cPl 8) Tryd.underlying43 szI5 zeI5 (by kernel_rfl) (by omega) (by omega) (by kernel_rfl) ?_
  intro b8 w8 k8 c8
  refine wpList_struct rfl 56 _ rfl (cCells 8 b8 6) (by kernel_rfl) ?_
  refine wpList_litN 19 rfl rfl 43 3 6 _ rfl (cPl 9) Tryd.underlying43 szI5 zeI5 (by kernel_rfl) (by omega) (by omega) (by kernel_rfl) ?_
  intro b9 w9 k9 c9
  refine wpList_struct rfl 56 _ rfl (cCells 9 b9 6) (by kernel_rfl) ?_
  refine wpList_litN 21 rfl rfl 43 3 6 _ rfl (cPl 10) Tryd.underlying43 szI5 zeI5 (by kernel_rfl) (by omega) (by omega) (by kernel_rfl) ?_
  intro b10 w10 k10 c10
  refine wpList_struct rfl 56 _ rfl (cCells 10 b10 6) (by kernel_rfl) ?_
  refine wpList_litN 23 rfl rfl 43 3 6 _ rfl (cPl 11) Tryd.underlying43 szI5 zeI5 (by kernel_rfl) (by omega) (by omega) (by kernel_rfl) ?_
  intro b11 w11 k11 c11
  refine wpList_struct rfl 56 _ rfl (cCells 11 b11 6) (by kernel_rfl) ?_
  refine wpList_litN 25 rfl rfl 43 3 6 _ rfl (cPl 12) Tryd.underlying43 szI5 zeI5 (by kernel_rfl) (by omega) (by omega) (by kernel_rfl) ?_
  intro b12 w12 k12 c12
  refine wpList_struct rfl 56 _ rfl (cCells 12 b12 6) (by kernel_rfl) ?_
  refine wpList_litN 27 rfl rfl 43 3 6 _ rfl (cPl 13) Tryd.underlying43 szI5 zeI5 (by kernel_rfl) (by omega) (by omega) (by kernel_rfl) ?_
  intro b13 w13 k13 c13
  refine wpList_struct rfl 56 _ rfl (cCells 13 b13 6) (by kernel_rfl) ?_
  refine wpList_litE rfl 43 3 rfl Tryd.underlying43 szI5 zeI5 ?_
  intro b14 w14 k14
  refine wpList_struct rfl 56 _ rfl (cCells 14 b14 0) (by kernel_rfl) ?_
  refine wpList_litE rfl 43 3 rfl Tryd.underlying43 szI5 zeI5 ?_
  intro b15 w15 k15
  refine wpList_struct rfl 56 _ rfl (cCells 15 b15 0) (by kernel_rfl) ?_
  refine wpList_litE rfl 43 3 rfl Tryd.underlying43 szI5 zeI5 ?_
  intro b16 w16 k16
  refine wpList_struct rfl 56 _ rfl (cCells 16 b16 0) (by kernel_rfl) ?_
  refine wpList_litE rfl 43 3 rfl Tryd.underlying43 szI5 zeI5 ?_
  intro b17 w17 k17
  refine wpList_struct rfl 56 _ rfl (cCells 17 b17 0) (by kernel_rfl) ?_
  refine wpList_litE rfl 43 3 rfl Tryd.underlying43 szI5 zeI5 ?_
  intro b18 w18 k18
  refine wpList_struct rfl 56 _ rfl (cCells 18 b18 0) (by kernel_rfl) ?_
  refine wpList_litE rfl 43 3 rfl Tryd.underlying43 szI5 zeI5 ?_
  intro b19 w19 k19
  refine wpList_struct rfl 56 _ rfl (cCells 19 b19 0) (by kernel_rfl) ?_
  refine wpList_litN 41 rfl rfl 43 3 11 _ rfl (cPl 20) Tryd.underlying43 szI5 zeI5 (by kernel_rfl) (by omega) (by omega) (by kernel_rfl) ?_
  intro b20 w20 k20 c20
  refine wpList_struct rfl 56 _ rfl (cCells 20 b20 11) (by kernel_rfl) ?_
  refine wpList_litN 43 rfl rfl 43 3 8 _ rfl (cPl 21) Tryd.underlying43 szI5 zeI5 (by kernel_rfl) (by omega) (by omega) (by kernel_rfl) ?_
  intro b21 w21 k21 c21
  refine wpList_struct rfl 56 _ rfl (cCells 21 b21 8) (by kernel_rfl) ?_
  refine wpList_litN 45 rfl rfl 43 3 8 _ rfl (cPl 22) Tryd.underlying43 szI5 zeI5 (by kernel_rfl) (by omega) (by omega) (by kernel_rfl) ?_
  intro b22 w22 k22 c22
  refine wpList_struct rfl 56 _ rfl (cCells 22 b22 8) (by kernel_rfl) ?_
  refine wpList_litN 47 rfl rfl 43 3 6 _ rfl (cPl 23) Tryd.underlying43 szI5 zeI5 (by kernel_rfl) (by omega) (by omega) (by kernel_rfl) ?_
  intro b23 w23 k23 c23
  refine wpList_struct rfl 56 _ rfl (cCells 23 b23 6) (by kernel_rfl) ?_
  refine wpList_litN 49 rfl rfl 43 3 6 _ rfl (cPl 24) Tryd.underlying43 szI5 zeI5 (by kernel_rfl) (by omega) (by omega) (by kernel_rfl) ?_
  intro b24 w24 k24 c24
  refine wpList_struct rfl 56 _ rfl (cCells 24 b24 6) (by kernel_rfl) ?_
  refine wpList_litN 51 rfl rfl 43 3 6 _ rfl (cPl 25) Tryd.underlying43 szI5 zeI5 (by kernel_rfl) (by omega) (by omega) (by kernel_rfl) ?_
  intro b25 w25 k25 c25
  refine wpList_struct rfl 56 _ rfl (cCells 25 b25 6) (by kernel_rfl) ?_
  refine wpList_litE rfl 43 3 rfl Tryd.underlying43 szI5 zeI5 ?_
  intro b26 w26 k26
  refine wpList_struct rfl 56 _ rfl (cCells 26 b26 0) (by kernel_rfl) ?_
  refine wpList_litE rfl 43 3 rfl Tryd.underlying43 szI5 zeI5 ?_
  intro b27 w27 k27
  refine wpList_struct rfl 56 _ rfl (cCells 27 b27 0) (by kernel_rfl) ?_
  refine wpList_litE rfl 43 3 rfl Tryd.underlying43 szI5 zeI5 ?_
  intro b28 w28 k28
  refine wpList_struct rfl 56 _ rfl (cCells 28 b28 0) (by kernel_rfl) ?_
  refine wpList_litE rfl 43 3 rfl Tryd.underlying43 szI5 zeI5 ?_
  intro b29 w29 k29
  refine wpList_struct rfl 56 _ rfl (cCells 29 b29 0) (by kernel_rfl) ?_
  refine wpList_litE rfl 43 3 rfl Tryd.underlying43 szI5 zeI5 ?_
  intro b30 w30 k30
  refine wpList_struct rfl 56 _ rfl (cCells 30 b30 0) (by kernel_rfl) ?_
  refine wpList_litN 63 rfl rfl 43 3 6 _ rfl (cPl 31) Tryd.underlying43 szI5 zeI5 (by kernel_rfl) (by omega) (by omega) (by kernel_rfl) ?_
  intro b31 w31 k31 c31
  refine wpList_struct rfl 56 _ rfl (cCells 31 b31 6) (by kernel_rfl) ?_
  refine wpList_litN 65 rfl rfl 43 3 6 _ rfl (cPl 32) Tryd.underlying43 szI5 zeI5 (by kernel_rfl) (by omega) (by omega) (by kernel_rfl) ?_
  intro b32 w32 k32 c32
  refine wpList_struct rfl 56 _ rfl (cCells 32 b32 6) (by kernel_rfl) ?_
  refine wpList_litS rfl 51 56 33 6 _ rfl [.agg (cCells 0 b0 8), .agg (cCells 1 b1 5), .agg (cCells 2 b2 5), .agg (cCells 3 b3 5), .agg (cCells 4 b4 5), .agg (cCells 5 b5 0), .agg (cCells 6 b6 6), .agg (cCells 7 b7 6), .agg (cCells 8 b8 6), .agg (cCells 9 b9 6), .agg (cCells 10 b10 6), .agg (cCells 11 b11 6), .agg (cCells 12 b12 6), .agg (cCells 13 b13 6), .agg (cCells 14 b14 0), .agg (cCells 15 b15 0), .agg (cCells 16 b16 0), .agg (cCells 17 b17 0), .agg (cCells 18 b18 0), .agg (cCells 19 b19 0), .agg (cCells 20 b20 11), .agg (cCells 21 b21 8), .agg (cCells 22 b22 8), .agg (cCells 23 b23 6), .agg (cCells 24 b24 6), .agg (cCells 25 b25 6), .agg (cCells 26 b26 0), .agg (cCells 27 b27 0), .agg (cCells 28 b28 0), .agg (cCells 29 b29 0), .agg (cCells 30 b30 0), .agg (cCells 31 b31 6), .agg (cCells 32 b32 6)] Tryd.underlying51 szR5 zeR5 (by kernel_rfl) (by omega) (by omega) (by omega) (fun v hv => by simp only [List.mem_cons, List.not_mem_nil, or_false] at hv; rcases hv with rfl | rfl | rfl | rfl | rfl | rfl | rfl | rfl | rfl | rfl | rfl | rfl | rfl | rfl | rfl | rfl | rfl | rfl | rfl | rfl | rfl | rfl | rfl | rfl | rfl | rfl | rfl | rfl | rfl | rfl | rfl | rfl | rfl <;> rfl) (by kernel_rfl) ?_
  intro b w' kk c
  go_wp2
  go_ret
  have q32 : Kept w32 w' := kk
  have q31 : Kept w31 w' := Kept.trans k32 q32
  have q30 : Kept w30 w' := Kept.trans k31 q31
  have q29 : Kept w29 w' := Kept.trans k30 q30
  have q28 : Kept w28 w' := Kept.trans k29 q29
  have q27 : Kept w27 w' := Kept.trans k28 q28
  have q26 : Kept w26 w' := Kept.trans k27 q27
  have q25 : Kept w25 w' := Kept.trans k26 q26
  have q24 : Kept w24 w' := Kept.trans k25 q25
  have q23 : Kept w23 w' := Kept.trans k24 q24
  have q22 : Kept w22 w' := Kept.trans k23 q23
  have q21 : Kept w21 w' := Kept.trans k22 q22
  have q20 : Kept w20 w' := Kept.trans k21 q21
  have q19 : Kept w19 w' := Kept.trans k20 q20
  have q18 : Kept w18 w' := Kept.trans k19 q19
  have q17 : Kept w17 w' := Kept.trans k18 q18
  have q16 : Kept w16 w' := Kept.trans k17 q17
  have q15 : Kept w15 w' := Kept.trans k16 q16
  have q14 : Kept w14 w' := Kept.trans k15 q15
  have q13 : Kept w13 w' := Kept.trans k14 q14
  have q12 : Kept w12 w' := Kept.trans k13 q13
  have q11 : Kept w11 w' := Kept.trans k12 q12
  have q10 : Kept w10 w' := Kept.trans k11 q11
  have q9 : Kept w9 w' := Kept.trans k10 q10
  have q8 : Kept w8 w' := Kept.trans k9 q9
  have q7 : Kept w7 w' := Kept.trans k8 q8
  have q6 : Kept w6 w' := Kept.trans k7 q7
  have q5 : Kept w5 w' := Kept.trans k6 q6
  have q4 : Kept w4 w' := Kept.trans k5 q5
  have q3 : Kept w3 w' := Kept.trans k4 q4
  have q2 : Kept w2 w' := Kept.trans k3 q3
  have q1 : Kept w1 w' := Kept.trans k2 q2
  have q0 : Kept w0 w' := Kept.trans k1 q1
  refine ⟨b, rfl, Kept.trans k0 q0, fun i hi => ?_⟩
  match i, hi with
  | 0, _ => exact crow_of (w0 := w0) rfl c c0 q0
  | 1, _ => exact crow_of (w0 := w1) rfl c c1 q1
  | 2, _ => exact crow_of (w0 := w2) rfl c c2 q2
  | 3, _ => exact crow_of (w0 := w3) rfl c c3 q3
  | 4, _ => exact crow_of (w0 := w4) rfl c c4 q4
  | 5, _ => exact crow_of (w0 := w5) rfl c (fun j hj => absurd hj (by simp [cPl, cPlTab])) q5
  | 6, _ => exact crow_of (w0 := w6) rfl c c6 q6
  | 7, _ => exact crow_of (w0 := w7) rfl c c7 q7
  | 8, _ => exact crow_of (w0 := w8) rfl c c8 q8
  | 9, _ => exact crow_of (w0 := w9) rfl c c9 q9
  | 10, _ => exact crow_of (w0 := w10) rfl c c10 q10
  | 11, _ => exact crow_of (w0 := w11) rfl c c11 q11
  | 12, _ => exact crow_of (w0 := w12) rfl c c12 q12
  | 13, _ => exact crow_of (w0 := w13) rfl c c13 q13
  | 14, _ => exact crow_of (w0 := w14) rfl c (fun j hj => absurd hj (by simp [cPl, cPlTab])) q14
  | 15, _ => exact crow_of (w0 := w15) rfl c (fun j hj => absurd hj (by simp [cPl, cPlTab])) q15
  | 16, _ => exact crow_of (w0 := w16) rfl c (fun j hj => absurd hj (by simp [cPl, cPlTab])) q16
  | 17, _ => exact crow_of (w0 := w17) rfl c (fun j hj => absurd hj (by simp [cPl, cPlTab])) q17
  | 18, _ => exact crow_of (w0 := w18) rfl c (fun j hj => absurd hj (by simp [cPl, cPlTab])) q18
  | 19, _ => exact crow_of (w0 := w19) rfl c (fun j hj => absurd hj (by simp [cPl, cPlTab])) q19
  | 20, _ => exact crow_of (w0 := w20) rfl c c20 q20
  | 21, _ => exact crow_of (w0 := w21) rfl c c21 q21
  | 22, _ => exact crow_of (w0 := w22) rfl c c22 q22
  | 23, _ => exact crow_of (w0 := w23) rfl c c23 q23
  | 24, _ => exact crow_of (w0 := w24) rfl c c24 q24
  | 25, _ => exact crow_of (w0 := w25) rfl c c25 q25
  | 26, _ => exact crow_of (w0 := w26) rfl c (fun j hj => absurd hj (by simp [cPl, cPlTab])) q26
  | 27, _ => exact crow_of (w0 := w27) rfl c (fun j hj => absurd hj (by simp [cPl, cPlTab])) q27
  | 28, _ => exact crow_of (w0 := w28) rfl c (fun j hj => absurd hj (by simp [cPl, cPlTab])) q28
  | 29, _ => exact crow_of (w0 := w29) rfl c (fun j hj => absurd hj (by simp [cPl, cPlTab])) q29
  | 30, _ => exact crow_of (w0 := w30) rfl c (fun j hj => absurd hj (by simp [cPl, cPlTab])) q30
  | 31, _ => exact crow_of (w0 := w31) rfl c c31 q31
  | 32, _ => exact crow_of (w0 := w32) rfl c c32 q32
  | n + 33, h => exact absurd h (by omega)
end Go.Proofs.YtbmcanpjpibecaaDoor
