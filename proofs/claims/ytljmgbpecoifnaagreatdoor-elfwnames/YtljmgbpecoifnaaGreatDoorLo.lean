/- The law's own objects: what they are; sections appended. -/
import Derived.Test.YtljmgbpecoifnaaGreatDoorLn
namespace Go.Proofs.YtljmgbpecoifnaaGreatDoor
open Go.RowKit

def txtM (ys : List SymM) (rs : List RelM) : ObjM := ⟨[⟨nm ⟨#[46, 116, 101, 120, 116]⟩, 4, [0, 0, 0, 0, 0, 0, 0, 0], 0⟩], ys, rs, []⟩
def fM : SymM := ⟨nm ⟨#[102]⟩, 1, false, 0, 0, 0⟩
theorem chk_1 : chO (txtM [fM] [⟨1, 0, 18, 0, 0⟩, ⟨1, 4, 17, 0, 0⟩]) = 8 := by decide +kernel
theorem chk_2 : chO (txtM [fM] [⟨1, 0, 35, 0, 0⟩, ⟨1, 0, 39, 0, 0⟩]) = 0 := by decide +kernel
theorem chk_3 : chO (txtM [fM, ⟨nm ⟨#[108]⟩, 0, false, 1, 0, 0⟩] []) = 8 := by decide +kernel
theorem chk_4 : chO (txtM [fM, ⟨nm ⟨#[102]⟩, 2, false, 0, 0, 0⟩] []) = 8 := by decide +kernel
def datM : SctM := ⟨nm ⟨#[46, 100, 97, 116, 97]⟩, 1, List.replicate 4096 0, 0⟩
def fullM : ObjM := ⟨List.replicate 16 datM, [], [], []⟩
theorem full_ok : okO fullM = true := by decide +kernel
theorem layN_sum (n : Nat) (ps : List PartM) : n + (ps.map fun p => p.z.length).sum ≤ layN n ps := by
  induction ps generalizing n with
  | nil => simp [layN]
  | cons p r ih =>
    have := ih (n + padN n p.al + p.z.length)
    rw [List.map_cons, List.sum_cons, layN]
    omega
theorem full_sum : ((secPs fullM).map fun p => p.z.length).sum = 65536 := by decide +kernel
theorem full_wo : woE fullM = 9 := by
  have h1 := layN_sum 64 (secPs fullM)
  rw [full_sum] at h1
  have h2 : 65536 < (fileO fullM).length := by
    have h3 := fileP_length (partsO fullM)
    have h4 := outL_ge (partsO fullM)
    have h5 : (bodyL (partsO fullM)).length = layN 64 (allP (partsO fullM)) := by unfold bodyL; rw [layB_length, List.length_replicate]
    have h6 : layN 64 (secPs fullM) ≤ layN 64 (allP (partsO fullM)) := by
      unfold allP partsO
      rw [List.append_assoc, layN_append]
      exact layN_ge _ _
    unfold fileO
    omega
  unfold woE
  rw [if_pos full_ok, if_neg (by omega)]

/-! ### Sections appended -/
def secsC (l : List SecV) : List Value := l.flatMap secC
abbrev OwnSec (w : World) (base : Nat) (v : Value) (l : List SecV) : Prop := w.ownsRow base 37 4 v l.length (secsC l)
theorem secsC_append (a b : List SecV) : secsC (a ++ b) = secsC a ++ secsC b := by unfold secsC; rw [List.flatMap_append]
theorem secsC_at (l : List SecV) {i j : Nat} (hi : i < l.length) (hj : j < 4) : (secsC l)[i * 4 + j]? = (secC (l.getD i secNo))[j]? := by
  induction l generalizing i with
  | nil => simp at hi
  | cons a t ih =>
    rw [show a :: t = [a] ++ t from rfl, secsC_append]
    have hla : (secsC [a]).length = 4 := rfl
    match i with
    | 0 =>
      rw [Nat.zero_mul, Nat.zero_add, List.getElem?_append_left (by omega)]
      rfl
    | i + 1 =>
      rw [List.getElem?_append_right (by omega), hla, show (i + 1) * 4 + j - 4 = i * 4 + j by omega, ih (by simpa using hi)]
      rfl
set_option maxRecDepth 20000 in
theorem Tryz.infoSec : (Tryz.prog.info? 37).map (fun i => (i.zero, i.size, i.bytes)) = some (some (.agg #[.string ByteArray.empty, .int .i64 0, .slice none 0 0, .int .i64 0]), 4, 56) := by kernel_rfl
set_option maxRecDepth 20000 in
theorem app_sec (W : World) (base : Nat) (ty : TypeId) (va : Option Addr) (k vc : Nat) (l : List SecV) (hown : OwnSec W base (.slice va k vc) l) (hl : l.length = k) (v : SecV) (ad : Nat) (hc : ∀ j, j < 4 → W.cell? ⟨ad, j, none⟩ = (secC v)[j]?) (hk : k ≤ 1000) (hbase : base ≤ W.heap.size) :
    ∃ va' vc' w', (Builtin.append_ #[24, 24] ty #[.slice va k vc, .slice (some ⟨ad, 0, none⟩) 1 1]).run Tryz.prog W = .ok (.slice va' (k + 1) vc') w' ∧ OwnSec w' base (.slice va' (k + 1) vc') (l ++ [v]) ∧ W.grownBy w' (Value.ownBlock (.slice va k vc)) ∧
      (Value.ownBlock (.slice va' (k + 1) vc') = Value.ownBlock (.slice va k vc) ∨ Value.ownBlock (.slice va' (k + 1) vc') = some W.heap.size) := by
  subst hl
  obtain ⟨i0, hi, hz0, hz1, hz2⟩ := info_parts Tryz.infoSec
  obtain ⟨v', w', hr, h1, h2, _, h4⟩ := run_append_own_at (P := Tryz.prog) (w := W) base 24 ty 37 i0 _ 4 56 Tryz.underlying24 hi hz0 hz1 hz2 rfl (by decide) (.slice va l.length vc) l.length (secsC l) hown ⟨ad, 0, none⟩ 1 1 (secC v) rfl (fun j u hj => by
    have hj4 : j < 4 := by have := (List.getElem?_eq_some_iff.1 hj).1; simpa [secC] using this
    have e : (⟨ad, 0, none⟩ : Addr).add j = ⟨ad, j, none⟩ := by unfold Addr.add; split <;> simp_all
    rw [e, hc j hj4, hj]) (fun u hu => by
    unfold secC at hu
    simp only [List.mem_cons, List.not_mem_nil, or_false] at hu
    rcases hu with rfl | rfl | rfl | rfl <;> rfl) (by unfold maxLen; omega) (by omega) hbase
  have h3 : OwnSec w' base v' (l ++ [v]) := by
    unfold OwnSec
    rw [secsC_append, List.length_append]
    simpa [secsC] using h1
  rcases h1.2 with ⟨_, h0⟩ | ⟨g, cap, cur, rfl, _⟩
  · omega
  · exact ⟨_, cap, w', hr, h3, h2, h4⟩
end Go.Proofs.YtljmgbpecoifnaaGreatDoor
