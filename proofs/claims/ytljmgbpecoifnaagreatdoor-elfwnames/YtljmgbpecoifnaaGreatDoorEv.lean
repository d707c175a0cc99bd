/- A slice of structs that came in, opened, whatever the struct; rows of numbers. -/
import Derived.Test.YtljmgbpecoifnaaGreatDoorBy
import Derived.OpenShut
import Derived.ShutString
import Derived.ChangeSlices
namespace Go.Proofs.YtljmgbpecoifnaaGreatDoor
open Go.RowKit Go.ChangeShapes Go.WideShapes

/-- Records that lie one behind the other, k cells each. -/
def Recs {α : Type} (no : α) (k : Nat) (cells : α → List Value) (Ok : World → α → Prop) (w : World) (a : Option Addr) (l : List α) : Prop :=
  l = [] ∨ ∃ b off, a = some ⟨b, off, none⟩ ∧ ∀ i, i < l.length → Ok w (l.getD i no) ∧ ∀ j, j < k → w.cell? ⟨b, off + i * k + j, none⟩ = (cells (l.getD i no))[j]?
theorem Recs.at {α : Type} {no : α} {k : Nat} {cells : α → List Value} {Ok : World → α → Prop} {w : World} {a : Option Addr} {l : List α} (h : Recs no k cells Ok w a l) {i : Nat} (hi : i < l.length) :
    ∃ b off, a = some ⟨b, off, none⟩ ∧ Ok w (l.getD i no) ∧ ∀ j, j < k → w.cell? ⟨b, off + i * k + j, none⟩ = (cells (l.getD i no))[j]? := by
  rcases h with rfl | ⟨b, off, h, hc⟩
  · simp at hi
  · exact ⟨b, off, h, hc i hi⟩
theorem Recs.kept {α : Type} {no : α} {k : Nat} {cells : α → List Value} {Ok : World → α → Prop} (hok : ∀ w w' v, Ok w v → Kept w w' → Ok w' v) (hcl : ∀ v, (cells v).length = k) {w w' : World} {a : Option Addr} {l : List α} (h : Recs no k cells Ok w a l) (kk : Kept w w') : Recs no k cells Ok w' a l := by
  rcases h with h | ⟨b, off, h, hc⟩
  · exact .inl h
  · refine .inr ⟨b, off, h, fun i hi => ⟨hok _ _ _ (hc i hi).1 kk, fun j hj => ?_⟩⟩
    have h1 := (hc i hi).2 j hj
    have h2 : j < (cells (l.getD i no)).length := by rw [hcl]; exact hj
    rw [List.getElem?_eq_getElem h2] at h1 ⊢
    exact kk.cell h1
/-- A SLICE OF STRUCTS, OPENED. -/
theorem open_recs {α : Type} {P : Program} {H : Type} {enc : TypeId × Value → H} {w : World} {base : Nat} {held : Bool} {d : DataW H} {ps : List MemPlace} {a : Option Addr} {len cap : Nat} {t e : TypeId} {k : Nat} (no : α) (cells : α → List Value) (Ok : World → α → Prop)
    (ht : P.underlying t = some (.slice e)) (hk : P.cellsOf e = k) (hk0 : 0 < k) (hcl : ∀ v, (cells v).length = k)
    (one : ∀ (fuel : Nat) (cs : List Value) (x : DataW H × List MemPlace), DataW.trod enc P w base (fun _ => true) held fuel e cs = some x → ∃ v, cs = cells v ∧ Ok w v)
    (hd : DataW.Trod enc P w base (fun _ => true) held t (.slice a len cap) d ps) :
    ∃ l : List α, l.length = len ∧ len ≤ cap ∧ cap ≤ maxLen ∧ Recs no k cells Ok w a l ∧ (a = none → len = 0 ∧ cap = 0) := by
  obtain ⟨fuel, hf⟩ := hd
  rcases DataW.trod_slice ht hf with ⟨hcs, _⟩ | ⟨x, len', cap', elems, rest, n, _, hcs, _, _, hl, hm, hlen, hel, _, _⟩
  · simp [Value.cells] at hcs
    obtain ⟨rfl, rfl, rfl⟩ := hcs
    exact ⟨[], rfl, Nat.le_refl _, Nat.zero_le _, .inl rfl, fun _ => ⟨rfl, rfl⟩⟩
  · simp [Value.cells] at hcs
    obtain ⟨rfl, rfl, rfl⟩ := hcs
    have each : ∀ i, i < len → ∃ v : α, Ok w v ∧ ∀ j, j < k → w.cell? (x.add (i * k + j)) = (cells v)[j]? := by
      intro i hi
      have h1 := hel i hi
      rw [hk, List.getElem?_eq_getElem (by omega), Option.bind_eq_some_iff] at h1
      obtain ⟨cs, hcs, ht⟩ := h1
      obtain ⟨v, rfl, hok⟩ := one _ _ _ ht
      obtain ⟨_, _, hc⟩ := World.cells?_some hcs
      refine ⟨v, hok, fun j hj => ?_⟩
      rw [← hc j hj, Addr.add_add]
    have sel : ∃ f : Nat → α, ∀ i, i < len → Ok w (f i) ∧ ∀ j, j < k → w.cell? (x.add (i * k + j)) = (cells (f i))[j]? := by
      classical
      refine ⟨fun i => if hi : i < len then Classical.choose (each i hi) else no, fun i hi => ?_⟩
      simp only [dif_pos hi]
      exact Classical.choose_spec (each i hi)
    obtain ⟨f, hfs⟩ := sel
    refine ⟨(List.range len).map f, by simp, hl, hm, ?_, by simp⟩
    by_cases h0 : len = 0
    · exact .inl (by simp [h0])
    · have h00 := (hfs 0 (by omega)).2 0 hk0
      obtain ⟨b, off, spot⟩ := x
      have hcc : 0 < (cells (f 0)).length := by rw [hcl]; exact hk0
      rw [List.getElem?_eq_getElem hcc] at h00
      have hspot : spot = none := by simpa [Addr.add] using World.cell?_spot h00
      subst hspot
      refine .inr ⟨b, off, rfl, fun i hi => ?_⟩
      have hi' : i < len := by simpa using hi
      have e : ((List.range len).map f).getD i no = f i := by simp [List.getD, hi']
      have ad : ∀ k, (⟨b, off, none⟩ : Addr).add k = ⟨b, off + k, none⟩ := fun k => by unfold Addr.add; split <;> simp_all
      obtain ⟨ok, hc⟩ := hfs i hi'
      rw [e]
      refine ⟨ok, fun j hj => ?_⟩
      rw [← hc j hj, ad, Nat.add_assoc]

/-! ### Rows of numbers -/
/-- Numbers that lie one behind the other. -/
def Ints (w : World) (a : Option Addr) (l : List Int) : Prop := l = [] ∨ ∃ b off, a = some ⟨b, off, none⟩ ∧ ∀ i, i < l.length → w.cell? ⟨b, off + i, none⟩ = some (.int .i64 (l.getD i 0))
theorem Ints.kept {w w' : World} {a : Option Addr} {l : List Int} (h : Ints w a l) (k : Kept w w') : Ints w' a l := by
  rcases h with h | ⟨b, off, h, hc⟩
  · exact .inl h
  · exact .inr ⟨b, off, h, fun i hi => k.cell (hc i hi)⟩
theorem Ints.at {w : World} {a : Option Addr} {l : List Int} (h : Ints w a l) {i : Nat} (hi : i < l.length) : ∃ b off, a = some ⟨b, off, none⟩ ∧ w.cell? ⟨b, off + i, none⟩ = some (.int .i64 (l.getD i 0)) := by
  rcases h with rfl | ⟨b, off, h, hc⟩
  · simp at hi
  · exact ⟨b, off, h, hc i hi⟩
theorem IsRow.ints {w : World} {a : Option Addr} {len cap : Nat} {zs : List Int} (h : IsRow .i64 w a len cap zs) :
    ∃ l : List Int, l.length = len ∧ len ≤ cap ∧ Ints w a l ∧ (a = none → len = 0 ∧ cap = 0) ∧ ∀ x ∈ l, -9223372036854775808 ≤ x ∧ x ≤ 9223372036854775807 := by
  rcases h with ⟨rfl, rfl, rfl, rfl⟩ | ⟨x, rfl, hl, hm, hz, hcell, hwz⟩
  · exact ⟨[], rfl, Nat.le_refl _, .inl rfl, fun _ => ⟨rfl, rfl⟩, by simp⟩
  · refine ⟨zs.take len, by simp; omega, hl, ?_, by simp, fun n hn => wf_int (hwz n (List.mem_of_mem_take hn))⟩
    by_cases h0 : len = 0
    · exact .inl (by simp [h0])
    · obtain ⟨b, off, spot⟩ := x
      have hc := hcell 0 (by omega)
      have hspot : spot = none := by simpa [Addr.add] using World.cell?_spot hc
      subst hspot
      refine .inr ⟨b, off, rfl, fun i hi => ?_⟩
      have hi' : i < len := by simp at hi; omega
      have h1 := hcell i (by omega)
      have e : (⟨b, off, none⟩ : Addr).add i = ⟨b, off + i, none⟩ := by unfold Addr.add; split <;> simp_all
      rw [e] at h1
      rw [h1]
      simp [List.getD, hi']
end Go.Proofs.YtljmgbpecoifnaaGreatDoor
