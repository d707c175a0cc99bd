/- What dec.takeRegisters does: it puts three registers into the instruction that it is given. -/
import Derived.Test.YtpaeemijpincpaaDoorReg
namespace Go.Proofs.YtpaeemijpincpaaDoor
open Go.RowKit

/-- An instruction that lies in a block. -/
structure Box (w : World) (b : Nat) (op rd rs1 rs2 imm : Int) : Prop where
  c0 : w.cell? ⟨b, 0, none⟩ = some (.int .u8 op)
  c1 : w.cell? ⟨b, 1, none⟩ = some (.int .i64 rd)
  c2 : w.cell? ⟨b, 2, none⟩ = some (.int .i64 rs1)
  c3 : w.cell? ⟨b, 3, none⟩ = some (.int .i64 rs2)
  c4 : w.cell? ⟨b, 4, none⟩ = some (.int .i64 imm)
  f0 : w.frozen? ⟨b, 0, none⟩ = false
  f1 : w.frozen? ⟨b, 1, none⟩ = false
  f2 : w.frozen? ⟨b, 2, none⟩ = false
  f3 : w.frozen? ⟨b, 3, none⟩ = false
  f4 : w.frozen? ⟨b, 4, none⟩ = false
theorem Box.lt {w : World} {b : Nat} {op rd rs1 rs2 imm : Int} (h : Box w b op rd rs1 rs2 imm) : b < w.heap.size := block_lt_of_cell h.c0
theorem Box.below {w w' : World} {b n : Nat} {op rd rs1 rs2 imm : Int} (h : Box w b op rd rs1 rs2 imm) (k : Below n w w') (hb : b < n) : Box w' b op rd rs1 rs2 imm :=
  ⟨(k.cell hb).trans h.c0, (k.cell hb).trans h.c1, (k.cell hb).trans h.c2, (k.cell hb).trans h.c3, (k.cell hb).trans h.c4, (k.frozen hb).trans h.f0, (k.frozen hb).trans h.f1, (k.frozen hb).trans h.f2, (k.frozen hb).trans h.f3, (k.frozen hb).trans h.f4⟩
theorem Box.kept {w w' : World} {b : Nat} {op rd rs1 rs2 imm : Int} (h : Box w b op rd rs1 rs2 imm) (k : Kept w w') : Box w' b op rd rs1 rs2 imm := h.below k h.lt

/-- The first k of three. -/
def sel (k j r : Int) : Int := if j < k then r else 0

theorem Box.drewN {w : World} {b : Nat} {op rd rs1 rs2 imm : Int} (h : Box w b op rd rs1 rs2 imm) (n : Nat) : Box (w.drewN n) b op rd rs1 rs2 imm := h.kept (Kept.drewN _ _)

theorem off_ne {b i j : Nat} (h : i ≠ j) : (⟨b, i, none⟩ : Addr) ≠ ⟨b, j, none⟩ := fun e => h (by injection e)
theorem set_other {w : World} {b i j : Nat} {u v : Value} (hc : w.cell? ⟨b, j, none⟩ = some v) (h : i ≠ j) : (w.setCell ⟨b, i, none⟩ u).cell? ⟨b, j, none⟩ = some v := by
  rw [World.cell?_setCell_other (h := off_ne h)]; exact hc
theorem set_far {w : World} {b b' i j : Nat} {u v : Value} (hc : w.cell? ⟨b', j, none⟩ = some v) (h : b ≠ b') : (w.setCell ⟨b, i, none⟩ u).cell? ⟨b', j, none⟩ = some v := by
  rw [World.cell?_setCell_other (h := fun e => h (by injection e))]; exact hc
theorem set_frozen {w : World} {a a' : Addr} {u : Value} (h : w.frozen? a' = false) : (w.setCell a u).frozen? a' = false := by
  rw [World.frozen?_setCell]; exact h
theorem Box.set1 {w : World} {b : Nat} {op rd rs1 rs2 imm : Int} (h : Box w b op rd rs1 rs2 imm) (r : Int) : Box (w.setCell ⟨b, 1, none⟩ (.int .i64 r)) b op r rs1 rs2 imm :=
  ⟨set_other h.c0 (by decide), World.cell?_setCell_same _ _ _ h.c1, set_other h.c2 (by decide), set_other h.c3 (by decide), set_other h.c4 (by decide), set_frozen h.f0, set_frozen h.f1, set_frozen h.f2, set_frozen h.f3, set_frozen h.f4⟩
theorem Box.set2 {w : World} {b : Nat} {op rd rs1 rs2 imm : Int} (h : Box w b op rd rs1 rs2 imm) (r : Int) : Box (w.setCell ⟨b, 2, none⟩ (.int .i64 r)) b op rd r rs2 imm :=
  ⟨set_other h.c0 (by decide), set_other h.c1 (by decide), World.cell?_setCell_same _ _ _ h.c2, set_other h.c3 (by decide), set_other h.c4 (by decide), set_frozen h.f0, set_frozen h.f1, set_frozen h.f2, set_frozen h.f3, set_frozen h.f4⟩
theorem Box.set3 {w : World} {b : Nat} {op rd rs1 rs2 imm : Int} (h : Box w b op rd rs1 rs2 imm) (r : Int) : Box (w.setCell ⟨b, 3, none⟩ (.int .i64 r)) b op rd rs1 r imm :=
  ⟨set_other h.c0 (by decide), set_other h.c1 (by decide), set_other h.c2 (by decide), World.cell?_setCell_same _ _ _ h.c3, set_other h.c4 (by decide), set_frozen h.f0, set_frozen h.f1, set_frozen h.f2, set_frozen h.f3, set_frozen h.f4⟩
theorem Box.set4 {w : World} {b : Nat} {op rd rs1 rs2 imm : Int} (h : Box w b op rd rs1 rs2 imm) (r : Int) : Box (w.setCell ⟨b, 4, none⟩ (.int .i64 r)) b op rd rs1 rs2 r :=
  ⟨set_other h.c0 (by decide), set_other h.c1 (by decide), set_other h.c2 (by decide), set_other h.c3 (by decide), World.cell?_setCell_same _ _ _ h.c4, set_frozen h.f0, set_frozen h.f1, set_frozen h.f2, set_frozen h.f3, set_frozen h.f4⟩
theorem Box.set0 {w : World} {b : Nat} {op rd rs1 rs2 imm : Int} (h : Box w b op rd rs1 rs2 imm) (r : Int) : Box (w.setCell ⟨b, 0, none⟩ (.int .u8 r)) b r rd rs1 rs2 imm :=
  ⟨World.cell?_setCell_same _ _ _ h.c0, set_other h.c1 (by decide), set_other h.c2 (by decide), set_other h.c3 (by decide), set_other h.c4 (by decide), set_frozen h.f0, set_frozen h.f1, set_frozen h.f2, set_frozen h.f3, set_frozen h.f4⟩

theorem run_index_ptrs (cs : Array Value) (k : Nat) (v : Value) (hk : k < 3) (hv : cs[k]? = some v) (w : World) :
    (Instr.index 68 (.agg cs) (.int .i64 k)).run Tryd.prog w = .ok v w := by
  have h1 : (0 : Int) ≤ k ∧ (k : Int) < 3 := by omega
  have h2 : k < 3 := hk
  simp [Instr.index, asIntOf, part, h1, h2, hv, go_sem]
abbrev ptrs (b : Nat) : Value := .agg #[.pointer (some ⟨b, 1, none⟩), .pointer (some ⟨b, 2, none⟩), .pointer (some ⟨b, 3, none⟩)]
theorem ptr0 (b : Nat) (w : World) : (Instr.index 68 (ptrs b) (.int .i64 0)).run Tryd.prog w = .ok (.pointer (some ⟨b, 1, none⟩)) w := run_index_ptrs _ 0 _ (by decide) rfl w
theorem ptr1 (b : Nat) (w : World) : (Instr.index 68 (ptrs b) (.int .i64 1)).run Tryd.prog w = .ok (.pointer (some ⟨b, 2, none⟩)) w := run_index_ptrs _ 1 _ (by decide) rfl w
theorem ptr2 (b : Nat) (w : World) : (Instr.index 68 (ptrs b) (.int .i64 2)).run Tryd.prog w = .ok (.pointer (some ⟨b, 3, none⟩)) w := run_index_ptrs _ 2 _ (by decide) rfl w

set_option maxRecDepth 20000 in
set_option maxHeartbeats 1600000 in
theorem takeRegs_gen (b : Nat) (op imm : Int) (m R1 R2 R3 : Int) (w : World) (hB : Box w b op 0 0 0 imm) (r1 : 0 ≤ R1 ∧ R1 < 32) (r2 : 0 ≤ R2 ∧ R2 < 32) (r3 : 0 ≤ R3 ∧ R3 < 32)
    (t1 : ∀ w : World, Calls Tryd.prog 36 #[.int .u32 m, .int .i64 7, .int .i64 5] w fun e w' => e = .returned (.tuple #[.int .u32 R1, .int .i64 0]) ∧ ∃ n, w' = w.drewN n)
    (t2 : ∀ w : World, Calls Tryd.prog 36 #[.int .u32 m, .int .i64 15, .int .i64 5] w fun e w' => e = .returned (.tuple #[.int .u32 R2, .int .i64 0]) ∧ ∃ n, w' = w.drewN n)
    (t3 : ∀ w : World, Calls Tryd.prog 36 #[.int .u32 m, .int .i64 20, .int .i64 5] w fun e w' => e = .returned (.tuple #[.int .u32 R3, .int .i64 0]) ∧ ∃ n, w' = w.drewN n) :
    Calls Tryd.prog 19 #[.pointer (some ⟨b, 0, none⟩), .int .u32 m] w fun e w' => e = .returned (.tuple #[]) ∧ Below b w w' ∧ Box w' b op R1 R2 R3 imm := by
  have hlt := hB.lt
  go_enter Tryd.func19, Tryd.ntmps19
  go_wp2
  go_big_quiet (fail)
  go_wp2
  go_loopw [20] (fun i wr => ∃ k : Int, (k = 0 ∨ k = 1 ∨ k = 2 ∨ k = 3) ∧ i = .int .i64 k ∧ Below b w wr ∧ w.heap.size < wr.heap.size ∧ Box wr b op (sel k 0 R1) (sel k 1 R2) (sel k 2 R3) imm ∧ wr.cell? ⟨w.heap.size, 0, none⟩ = some (.int .i64 7) ∧ wr.cell? ⟨w.heap.size, 1, none⟩ = some (.int .i64 15) ∧ wr.cell? ⟨w.heap.size, 2, none⟩ = some (.int .i64 20)) (fun i _ => 3 - (intOf i).toNat)
  case atStart =>
    exact ⟨0, .inl rfl, rfl, below_drewN ((Below.refl _ _).alloc (by omega) _) _, by simp, (hB.kept (Kept.alloc _ _)).drewN _, by simp, by simp, by simp⟩
  case round =>
    obtain ⟨k, hk, rfl, hnx, hsz, hb, q0, q1, q2⟩ := hrel
    have hne : b ≠ w.heap.size := by omega
    rcases hk with rfl | rfl | rfl | rfl
    · have hb' : Box wr b op 0 0 0 imm := hb
      have hb2 := hb'
      obtain ⟨c0, c1, c2, c3, c4, f0, f1, f2, f3, f4⟩ := hb'
      have hp := ptr0 b wr
      clear t2 t3 hb hB
      go_wp2_with (go_at_call 36; refine (t1 _).mono ?_; rintro e w' ⟨rfl, n, rfl⟩)
      exact ⟨⟨1, .inr (.inl rfl), rfl, (below_drewN hnx n).setCell (Nat.le_refl _) _, by simpa [World.setCell] using hsz, (hb2.drewN n).set1 _, set_far q0 hne, set_far q1 hne, set_far q2 hne⟩, by decide⟩
    · have hb' : Box wr b op R1 0 0 imm := hb
      have hb2 := hb'
      obtain ⟨c0, c1, c2, c3, c4, f0, f1, f2, f3, f4⟩ := hb'
      have hp := ptr1 b wr
      clear t1 t3 hb hB
      go_wp2_with (go_at_call 36; refine (t2 _).mono ?_; rintro e w' ⟨rfl, n, rfl⟩)
      exact ⟨⟨2, .inr (.inr (.inl rfl)), rfl, (below_drewN hnx n).setCell (Nat.le_refl _) _, by simpa [World.setCell] using hsz, (hb2.drewN n).set2 _, set_far q0 hne, set_far q1 hne, set_far q2 hne⟩, by decide⟩
    · have hb' : Box wr b op R1 R2 0 imm := hb
      have hb2 := hb'
      obtain ⟨c0, c1, c2, c3, c4, f0, f1, f2, f3, f4⟩ := hb'
      have hp := ptr2 b wr
      clear t1 t2 hb hB
      go_wp2_with (go_at_call 36; refine (t3 _).mono ?_; rintro e w' ⟨rfl, n, rfl⟩)
      exact ⟨⟨3, .inr (.inr (.inr rfl)), rfl, (below_drewN hnx n).setCell (Nat.le_refl _) _, by simpa [World.setCell] using hsz, (hb2.drewN n).set3 _, set_far q0 hne, set_far q1 hne, set_far q2 hne⟩, by decide⟩
    · have hb' : Box wr b op R1 R2 R3 imm := hb
      clear t1 t2 t3 hB hb q0 q1 q2
      go_wp2
      go_end0
      exact ⟨rfl, hnx, hb'⟩

theorem takeRegs_walk (b : Nat) (op imm : Int) (c : Int) (hc : c ∈ letters) (x : Nat) (hx : x < 4294967296) (w : World) (hB : Box w b op 0 0 0 imm) :
    Calls Tryd.prog 19 #[.pointer (some ⟨b, 0, none⟩), .int .u32 ((x &&& regM c : Nat) : Int)] w fun e w' => e = .returned (.tuple #[]) ∧ Below b w w' ∧ Box w' b op (rdR c x) (rs1R c x) (rs2R c x) imm := by
  have hm : x &&& regM c < 4294967296 := Nat.lt_of_le_of_lt Nat.and_le_left hx
  have e1 := take_rd hc x
  have e2 := take_rs1 hc x
  have e3 := take_rs2 hc x
  rw [← e1, ← e2, ← e3]
  generalize x &&& regM c = m at hm ⊢
  have l1 : (m / 128 % 32 : Nat) < 32 := Nat.mod_lt _ (by decide)
  have l2 : (m / 32768 % 32 : Nat) < 32 := Nat.mod_lt _ (by decide)
  have l3 : (m / 1048576 % 32 : Nat) < 32 := Nat.mod_lt _ (by decide)
  exact takeRegs_gen b op imm m _ _ _ w hB (by omega) (by omega) (by omega)
    (fun w => take_walk m 7 5 hm (isF_of (by decide)) w) (fun w => take_walk m 15 5 hm (isF_of (by decide)) w) (fun w => take_walk m 20 5 hm (isF_of (by decide)) w)
end Go.Proofs.YtpaeemijpincpaaDoor
