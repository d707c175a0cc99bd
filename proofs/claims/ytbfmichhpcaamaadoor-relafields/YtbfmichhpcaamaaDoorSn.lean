/- Names as lists of numbers: with no Go in sight but the bytes of a string. -/
import Derived.RowKit
import Derived.Lib.BytesEntry
import Derived.Lib.SlicesS
import Derived.Laws.BytesArg
namespace Go.Proofs.YtbfmichhpcaamaaDoor

/-- A name's bytes, as numbers. -/
def nm (s : ByteArray) : List Int := s.data.toList.map fun u => (u.toNat : Int)
theorem nm_length (s : ByteArray) : (nm s).length = s.size := by
  unfold nm
  rw [List.length_map, Array.length_toList]
  rfl
theorem nm_range (s : ByteArray) : ∀ x ∈ nm s, 0 ≤ x ∧ x < 256 := by
  intro x hx
  obtain ⟨u, _, rfl⟩ := List.mem_map.1 hx
  have := u.toNat_lt
  omega
theorem bytes_nm (s : ByteArray) : Lib.bytesOf (nm s) = s.data.toList := by
  unfold Lib.bytesOf nm
  rw [List.map_map]
  have : ∀ u ∈ s.data.toList, ((fun (n : Int) => UInt8.ofNat n.toNat) ∘ fun (u : UInt8) => (u.toNat : Int)) u = u := by
    intro u _
    show UInt8.ofNat ((u.toNat : Int)).toNat = u
    rw [Int.toNat_natCast]
    exact UInt8.ofNat_toNat
  rw [List.map_congr_left this, List.map_id']
theorem str_nm (s : ByteArray) : strOfNums (nm s) = s := by
  apply ByteArray.ext
  apply Array.ext'
  exact bytes_nm s
theorem nm_str {l : List Int} (h : ∀ x ∈ l, 0 ≤ x ∧ x < 256) : nm (strOfNums l) = l := by
  unfold nm
  rw [strOfNums_data, List.map_map]
  have : ∀ x ∈ l, ((fun (u : UInt8) => (u.toNat : Int)) ∘ fun (n : Int) => UInt8.ofNat n.toNat) x = x := by
    intro x hx
    have := h x hx
    show (((UInt8.ofNat x.toNat).toNat : Nat) : Int) = x
    rw [UInt8.toNat_ofNat']
    omega
  rw [List.map_congr_left this, List.map_id']
theorem nm_inj {s t : ByteArray} (h : nm s = nm t) : s = t := by rw [← str_nm s, ← str_nm t, h]
theorem nm_eq {s t : ByteArray} : nm s = nm t ↔ s = t := ⟨nm_inj, fun h => by rw [h]⟩
theorem nm_empty : nm ⟨#[]⟩ = [] := rfl
theorem nm_nil {s : ByteArray} : nm s = [] ↔ s = ⟨#[]⟩ := by rw [← nm_empty]; exact nm_eq

theorem beq_true {s t : ByteArray} (h : s = t) : (s.toList == t.toList) = true := (Lib.bytes_beq_iff s t).2 h
theorem beq_false {s t : ByteArray} (h : ¬ s = t) : (s.toList == t.toList) = false := (Lib.bytes_beq_false_iff s t).2 h


theorem nm_at {s : ByteArray} {i : Nat} (h : i < s.size) : ((s[i]'h).toNat : Int) = (nm s).getD i 0 := by
  have e : i < s.data.toList.length := by rw [Array.length_toList]; exact h
  unfold nm
  rw [List.getD, List.getElem?_map, List.getElem?_eq_getElem e]
  simp
  rfl

end Go.Proofs.YtbfmichhpcaamaaDoor
