/- A full object's sections, made. -/
import Derived.Test.YtljmgbpecoifnaaGreatDoorLi
import Derived.Test.YtljmgbpecoifnaaGreatDoorJam
namespace Go.Proofs.YtljmgbpecoifnaaGreatDoor
open Go.RowKit

def dat0 : List Int := List.replicate 4096 0
theorem dat0_len : dat0.length = 4096 := List.length_replicate
theorem mk_bytes (w : World) (n : Nat) (hn : n ≤ 100000) : ∃ w', (Instr.makeSlice 35 (.int .i64 (n : Int)) (.int .i64 (n : Int))).run Tryz.prog w = .ok (.slice (some ⟨w.heap.size, 0, none⟩) n n) w' ∧ Byt w' (some ⟨w.heap.size, 0, none⟩) (List.replicate n 0) ∧ Kept w w' ∧ w.heap.size < w'.heap.size := by
  obtain ⟨i0, hi, hz0, hz1, hz2⟩ := info_parts Tryz.infoByte
  obtain ⟨w', hr, h1, h2⟩ := run_make_full (P := Tryz.prog) w w.heap.size 35 5 i0 (.int .u8 0) 1 Tryz.underlying35 hi hz0 hz1 .i64 .i64 n (by rw [hz2]; omega) (by unfold maxLen; omega) (Nat.le_refl _)
  have h3 : Own w' w.heap.size (.slice (some ⟨w.heap.size, 0, none⟩) n n) (List.replicate n 0) := by
    rw [Nat.mul_one] at h1
    have := made_own (show w'.ownsRow w.heap.size 5 1 (.slice (some ⟨w.heap.size, 0, none⟩) n n) n (madeCells #[Value.int .u8 0] n).toList from h1)
    unfold Own
    rw [List.length_replicate, List.map_replicate]
    exact this
  have K : Kept w w' := (Below.refl _ _).grown h2 (Nat.le_refl _) (fun k e => by cases e)
  refine ⟨w', hr, ?_, K, (h3.lt _ rfl).2⟩
  obtain ⟨a, c, hv, _, hb, _⟩ := h3.let (List.length_replicate)
  simp only [Value.slice.injEq] at hv
  obtain ⟨rfl, _, _⟩ := hv
  exact hb
theorem mk_dat (w : World) : ∃ w', (Instr.makeSlice 35 (.int .i64 4096) (.int .i64 4096)).run Tryz.prog w = .ok (.slice (some ⟨w.heap.size, 0, none⟩) 4096 4096) w' ∧ Byt w' (some ⟨w.heap.size, 0, none⟩) dat0 ∧ Kept w w' ∧ w.heap.size < w'.heap.size := mk_bytes w 4096 (by decide)
def datS (b : Nat) : SecV := ⟨⟨#[46, 100, 97, 116, 97]⟩, 1, some ⟨b, 0, none⟩, 4096, 0, dat0⟩
theorem datS_m (b : Nat) : sctOf (datS b) = datM := rfl
theorem datS_ok {w : World} {b : Nat} (h : Byt w (some ⟨b, 0, none⟩) dat0) : SecOk w (datS b) :=
  ⟨(by decide : (⟨#[46, 100, 97, 116, 97]⟩ : ByteArray).size ≤ maxLen), by show dat0.length ≤ 4096; rw [dat0_len]; exact Nat.le_refl _, by show dat0.length ≤ maxLen; rw [dat0_len]; decide, h, (fun e => by cases e), (by decide : (-9223372036854775808 : Int) ≤ 1), (by decide : (1 : Int) ≤ 9223372036854775807),
    (by decide : (-9223372036854775808 : Int) ≤ 0), (by decide : (0 : Int) ≤ 9223372036854775807), fun x hx => by have : x = 0 := (List.mem_replicate.1 (show x ∈ List.replicate 4096 0 from hx)).2; omega⟩
theorem datS_cells (b : Nat) : secC (datS b) = [.string ⟨#[46, 100, 97, 116, 97]⟩, .int .i64 1, .slice (some ⟨b, 0, none⟩) 4096 4096, .int .i64 0] := by
  unfold secC datS
  dsimp only
  rw [dat0_len]
/-- What the loop has made. -/
structure FullSt (B nf : Nat) (k : Nat) (l : List SecV) (va : Option Addr) (vc : Nat) (w : World) : Prop where
  len : l.length = k
  own : OwnSec w B (.slice va k vc) l
  box : OBx w nf (.slice va k vc) (.slice none 0 0) (.slice none 0 0) (.slice none 0 0)
  dat : ∀ v ∈ l, ∃ b, v = datS b ∧ Byt w (some ⟨b, 0, none⟩) dat0 ∧ Value.ownBlock (.slice va k vc) ≠ some b ∧ nf < b
theorem FullSt.obj {B nf k : Nat} {l : List SecV} {va : Option Addr} {vc : Nat} {w : World} (h : FullSt B nf k l va vc w) : ObjOk w ⟨l, va, k, vc, [], none, 0, 0, [], none, 0, 0, [], none, 0, 0⟩ := by
  have hcell := @World.ownsRow.cells w B 37 4 (.slice va k vc) l.length (secsC l) h.own
  have hbase := h.own
  refine ⟨?_, .inl rfl, .inl rfl, .inl rfl, ?_, ⟨Nat.le_refl _, Nat.zero_le _, fun _ => ⟨rfl, rfl⟩⟩, ⟨Nat.le_refl _, Nat.zero_le _, fun _ => ⟨rfl, rfl⟩⟩, ⟨Nat.le_refl _, Nat.zero_le _, fun _ => ⟨rfl, rfl⟩⟩, h.len, rfl, rfl, rfl⟩
  · rcases hbase.2 with ⟨hv, hn⟩ | ⟨g, cap, cur, hv, _⟩
    · exact .inl (List.eq_nil_of_length_eq_zero hn)
    · simp only [Value.slice.injEq] at hv
      obtain ⟨rfl, _, _⟩ := hv
      refine .inr ⟨g, 0, rfl, fun i hi => ⟨?_, fun j hj => ?_⟩⟩
      · obtain ⟨b, hb, hB, _⟩ := h.dat _ (getD_in hi secNo)
        rw [hb]
        exact datS_ok hB
      · obtain ⟨b, hb, _⟩ := h.dat _ (getD_in hi secNo)
        have h2 := secsC_at l hi hj
        have hlt : j < (secC (l.getD i secNo)).length := by rw [hb, datS_cells]; exact hj
        rw [List.getElem?_eq_getElem hlt] at h2 ⊢
        have := hcell (g := g) rfl (i * 4 + j) _ h2
        have e : (⟨g, 0, none⟩ : Addr).add (i * 4 + j) = ⟨g, i * 4 + j, none⟩ := by unfold Addr.add; split <;> simp_all
        rw [e] at this
        rw [Nat.zero_add]
        exact this
  · rcases hbase.2 with ⟨hv, hn⟩ | ⟨g, cap, cur, hv, _, _, hnc, hcm, _⟩
    · simp only [Value.slice.injEq] at hv
      obtain ⟨rfl, rfl, rfl⟩ := hv
      exact ⟨Nat.le_refl _, Nat.zero_le _, fun _ => ⟨rfl, rfl⟩⟩
    · simp only [Value.slice.injEq] at hv
      obtain ⟨rfl, _, rfl⟩ := hv
      exact ⟨by rw [← h.len]; exact hnc, hcm, fun e => by cases e⟩
theorem full_m {l : List SecV} (hl : l.length = 16) (h : ∀ v ∈ l, ∃ b, v = datS b) (va : Option Addr) (vc : Nat) : (⟨l, va, 16, vc, [], none, 0, 0, [], none, 0, 0, [], none, 0, 0⟩ : ObjV).m = fullM := by
  have e : l.map sctOf = List.replicate 16 datM := by
    rw [List.eq_replicate_iff]
    refine ⟨by rw [List.length_map]; exact hl, fun s hs => ?_⟩
    obtain ⟨v, hv, rfl⟩ := List.mem_map.1 hs
    obtain ⟨b, rfl⟩ := h v hv
    rfl
  unfold ObjV.m fullM
  dsimp only
  rw [e]
  rfl
end Go.Proofs.YtljmgbpecoifnaaGreatDoor
