/- A section appended to a full object's: what it leaves. -/
import Derived.Test.YtljmgbpecoifnaaGreatDoorLv
namespace Go.Proofs.YtljmgbpecoifnaaGreatDoor
open Go.RowKit

theorem step_app {P : Program} {ops : Array Oper} {o : Oper} {a : Act} {w : World} {K : Act → World → Prop} {Q : Exit → Act → World → Prop} {E : Prop} (hgd : o.guard = none) (s x : Operand) (t : TypeId)
    (ho : o.op = .call { callee := .builtin .append, args := #[s, x], argTypes := #[t, t] }) (vs vx v' : Value) (w' : World) (hs : a.eval s = vs) (hx : a.eval x = vx) (hr : (Builtin.append_ #[t, t] o.type #[vs, vx]).run P w = .ok v' w')
    (h : K (a.put o.dst v') w') : if Region.wanted o (yielded ops a.tmps) = true then Oper.wp P o a w K Q else E := by
  have hw : Region.wanted o (yielded ops a.tmps) = true := by simp [Region.wanted, hgd]
  rw [if_pos hw]
  unfold Oper.wp
  simp [execOp, ho, resolve, invoke, builtin, hs, hx, hr, Result.andThen]
  exact h
theorem Byt.block {w w' : World} {b : Nat} {l : List Int} (h : Byt w (some ⟨b, 0, none⟩) l) (hb : w'.heap[b]? = w.heap[b]?) : Byt w' (some ⟨b, 0, none⟩) l := by
  rcases h with h | ⟨b', off, e, h⟩
  · exact .inl h
  · injection e with e
    injection e with e1 e2
    subst e1 e2
    exact .inr ⟨_, _, rfl, fun i hi => (World.cell?_of_block (w := w) (a := ⟨b, 0 + i, none⟩) hb).trans (h i hi)⟩
theorem OBx.grownO {w w' : World} {b : Nat} {r : Option Nat} {v0 v1 v2 v3 : Value} (h : OBx w b v0 v1 v2 v3) (hg : w.grownBy w' r) (hb : some b ≠ r) : OBx w' b v0 v1 v2 v3 :=
  have hl := h.lt
  have hk := hg.block b hl hb
  ⟨hg.cell h.c0 hb, hg.cell h.c1 hb, hg.cell h.c2 hb, hg.cell h.c3 hb, (World.frozen?_of_block (w := w) (a := ⟨b, 0, none⟩) hk).trans h.f0, (World.frozen?_of_block (w := w) (a := ⟨b, 1, none⟩) hk).trans h.f1, (World.frozen?_of_block (w := w) (a := ⟨b, 2, none⟩) hk).trans h.f2, (World.frozen?_of_block (w := w) (a := ⟨b, 3, none⟩) hk).trans h.f3⟩
theorem full_more {w0 wr wd we wf : World} {nf k b : Nat} {l : List SecV} {va va' : Option Addr} {vc vc' : Nat} (h0 : w0.heap.size = nf) (F : FullSt (nf + 1) nf k l va vc wr) (K : Kept w0 wr) (hb : wr.heap.size = b) (kD : Kept wr wd) (hbD : Byt wd (some ⟨b, 0, none⟩) dat0) (hbw : b < wd.heap.size) (kE : Kept wd we)
    (ownF : OwnSec wf (nf + 1) (.slice va' (k + 1) vc') (l ++ [datS b])) (G : we.grownBy wf (Value.ownBlock (.slice va k vc))) (hor : Value.ownBlock (.slice va' (k + 1) vc') = Value.ownBlock (.slice va k vc) ∨ Value.ownBlock (.slice va' (k + 1) vc') = some we.heap.size) :
    FullSt (nf + 1) nf (k + 1) (l ++ [datS b]) va' vc' (wf.setCell ⟨nf, 0, none⟩ (.slice va' (k + 1) vc')) ∧ Kept w0 (wf.setCell ⟨nf, 0, none⟩ (.slice va' (k + 1) vc')) := by
  have hvb : ∀ g, Value.ownBlock (.slice va k vc) = some g → nf + 1 ≤ g ∧ g < wr.heap.size := F.own.lt
  have hnfr : nf < wr.heap.size := F.box.lt
  have kWE := kD.trans kE
  have s1 := kWE.size
  have s2 := kE.size
  have hngv : some nf ≠ Value.ownBlock (.slice va k vc) := fun e => by have := (hvb _ e.symm).1; omega
  have bF := (F.box.kept kWE).grownO G hngv
  refine ⟨⟨by rw [List.length_append, F.len]; rfl, row_far ownF _ _ (fun g e => by have := (ownF.lt g e).1; show nf ≠ g; omega), bF.set0 _, ?_⟩, ?_⟩
  · intro v hv
    rcases List.mem_append.1 hv with hv | hv
    · obtain ⟨b0, e0, hB, h1, h2⟩ := F.dat v hv
      have hb0 : b0 < wr.heap.size := by
        rcases hB with h | ⟨b', off, e, h⟩
        · exact absurd h (by intro h; have := congrArg List.length h; rw [dat0_len] at this; cases this)
        · injection e with e
          injection e with e1 e2
          subst e1 e2
          exact block_lt_of_cell (h 0 (by rw [dat0_len]; decide))
      refine ⟨b0, e0, ((hB.kept kWE).block (G.block b0 (by omega) (fun e => h1 e.symm))).block ?_, ?_, h2⟩
      · simp only [World.setCell, Array.getElem?_modify]
        rw [if_neg (by show ¬ nf = b0; omega)]
      · rcases hor with h | h
        · rw [h]; exact h1
        · rw [h]; intro e; injection e with e; omega
    · rw [List.mem_singleton] at hv
      subst hv
      have hg : ∀ g, Value.ownBlock (.slice va k vc) = some g → g ≠ b := fun g e => by have := (hvb g e).2; omega
      refine ⟨b, rfl, ((hbD.kept kE).block (G.block b (by omega) (fun e => hg b e.symm rfl))).block ?_, ?_, by omega⟩
      · simp only [World.setCell, Array.getElem?_modify]
        rw [if_neg (by show ¬ nf = b; omega)]
      · rcases hor with h | h
        · rw [h]; intro e; exact hg b e rfl
        · rw [h]; intro e; injection e with e; omega
  · exact ((K.trans kWE).grown G (K.trans kWE).size (fun j ej => by have := (hvb j ej).1; omega)).setCell (p := ⟨nf, 0, none⟩) (by show w0.heap.size ≤ nf; omega) _
end Go.Proofs.YtljmgbpecoifnaaGreatDoor
