/- The document's own Find: the first row that an instruction is of. -/
import Derived.Test.YtbmcanpjpibecaaDoorRi
import Derived.Test.YtbmcanpjpibecaaDoorSt
import Derived.Test.YtbmcanpjpibecaaDoorFi
import Derived.Deep.DeepCutAuto
namespace Go.Proofs.YtbmcanpjpibecaaDoor
open Go.RowKit

theorem cForm_cases : ∀ k, k < 33 → cForm k ∈ ([97, 108, 115, 110, 106, 114, 122, 117, 112, 113, 109, 98, 119, 74, 75, 118, 100, 116] : List UInt8) := by decide +kernel
theorem cKind_cases : ∀ k, k < 33 → cKind k ∈ ([48, 108, 112, 117, 110, 115] : List UInt8) := by decide +kernel
theorem cBy_range : ∀ k, k < 33 → 1 ≤ cBy k ∧ cBy k ≤ 16 := by decide +kernel
theorem cLen_le : ∀ k, k < 33 → cLen k ≤ 11 := by decide +kernel
theorem cOp_range : ∀ k, k < 33 → 1 ≤ cOp k ∧ cOp k ≤ 94 := by decide +kernel

theorem cright_walk (f : UInt8) (hf : f ∈ ([97, 108, 115, 110, 106, 114, 122, 117, 112, 113, 109, 98, 119, 74, 75, 118, 100, 116] : List UInt8)) (op d s t imm : Int) (w : World) :
    Calls Tryd.prog 44 #[.string (chr f), insnV op d s t imm] w fun e w' => e = .returned (.bool (rightB f d s t)) ∧ Kept w w' := by
  simp only [List.mem_cons, List.not_mem_nil, or_false] at hf
  rcases hf with rfl | rfl | rfl | rfl | rfl | rfl | rfl | rfl | rfl | rfl | rfl | rfl | rfl | rfl | rfl | rfl | rfl | rfl
  · exact right_97 op d s t imm w
  · exact right_108 op d s t imm w
  · exact right_115 op d s t imm w
  · exact right_110 op d s t imm w
  · exact right_106 op d s t imm w
  · exact right_114 op d s t imm w
  · exact right_122 op d s t imm w
  · exact right_117 op d s t imm w
  · exact right_112 op d s t imm w
  · exact right_113 op d s t imm w
  · exact right_109 op d s t imm w
  · exact right_98 op d s t imm w
  · exact right_119 op d s t imm w
  · exact right_74 op d s t imm w
  · exact right_75 op d s t imm w
  · exact right_118 op d s t imm w
  · exact right_100 op d s t imm w
  · exact right_116 op d s t imm w
theorem stand_walk (f : UInt8) (hf : f ∈ ([97, 108, 115, 110, 106, 114, 122, 117, 112, 113, 109, 98, 119, 74, 75, 118, 100, 116] : List UInt8)) (op d s t imm : Int) (hd : 0 ≤ d ∧ d ≤ 31) (hs : 0 ≤ s ∧ s ≤ 31) (ht : 0 ≤ t ∧ t ≤ 31) (w : World) :
    Calls Tryd.prog 61 #[.string (chr f), insnV op d s t imm] w fun e w' => e = .returned (.tuple #[.int .i64 (lowV f d s t), .int .i64 (hiV f d s t)]) ∧ Kept w w' := by
  simp only [List.mem_cons, List.not_mem_nil, or_false] at hf
  rcases hf with rfl | rfl | rfl | rfl | rfl | rfl | rfl | rfl | rfl | rfl | rfl | rfl | rfl | rfl | rfl | rfl | rfl | rfl
  · exact stand_97 op d s t imm hd hs ht w
  · exact stand_108 op d s t imm hd hs ht w
  · exact stand_115 op d s t imm hd hs ht w
  · exact stand_110 op d s t imm hd hs ht w
  · exact stand_106 op d s t imm hd hs ht w
  · exact stand_114 op d s t imm hd hs ht w
  · exact stand_122 op d s t imm hd hs ht w
  · exact stand_117 op d s t imm hd hs ht w
  · exact stand_112 op d s t imm hd hs ht w
  · exact stand_113 op d s t imm hd hs ht w
  · exact stand_109 op d s t imm hd hs ht w
  · exact stand_98 op d s t imm hd hs ht w
  · exact stand_119 op d s t imm hd hs ht w
  · exact stand_74 op d s t imm hd hs ht w
  · exact stand_75 op d s t imm hd hs ht w
  · exact stand_118 op d s t imm hd hs ht w
  · exact stand_100 op d s t imm hd hs ht w
  · exact stand_116 op d s t imm hd hs ht w
theorem cfits_walk (nv fv : ByteArray) (bv by_ : Int) (kd : UInt8) (hk : kd ∈ ([48, 108, 112, 117, 110, 115] : List UInt8)) (a : Option Addr) (len cap : Nat) (n : Int) (hl : len ≤ 11) (hb : 1 ≤ by_ ∧ by_ ≤ 16) (hn : -1048576 ≤ n ∧ n ≤ 1048575) (w : World) :
    Calls Tryd.prog 45 #[.agg #[.string nv, .int .i64 bv, .string fv, .string (chr kd), .int .i64 by_, .slice a len cap], .int .i64 n] w fun e w' => e = .returned (.bool (cfitsB kd by_ len n)) ∧ Kept w w' := by
  simp only [List.mem_cons, List.not_mem_nil, or_false] at hk
  rcases hk with rfl | rfl | rfl | rfl | rfl | rfl
  · exact fits_48 nv fv bv by_ a len cap n hl hb hn w _ _ rfl rfl
  · exact fits_108 nv fv bv by_ a len cap n hl hb hn w _ _ rfl rfl
  · exact fits_112 nv fv bv by_ a len cap n hl hb hn w _ _ rfl rfl
  · exact fits_117 nv fv bv by_ a len cap n hl hb hn w _ _ rfl rfl
  · exact fits_110 nv fv bv by_ a len cap n hl hb hn w _ _ rfl rfl
  · exact fits_115 nv fv bv by_ a len cap n hl hb hn w _ _ rfl rfl

theorem names_inj : ∀ i, i < 94 → ∀ j, j < 94 → nameTab.getD i [] = nameTab.getD j [] → i = j := by decide +kernel
theorem nm_inj {i j : Nat} (hi : i < 94) (hj : j < 94) (h : nm i = nm j) : i = j := by
  refine names_inj i hi j hj ?_
  have h1 : (nm i).data.toList = (nm j).data.toList := by rw [h]
  simpa [nm] using h1
theorem name_eq {k : Nat} (hk : k < 33) {op : Int} (ho : isOp op = true) : ((nm (cOp k - 1)).toList == (nameV op).toList) = ((cOp k : Int) == op) := by
  have h1 := cOp_range k hk
  have h2 := isOp_true ho
  have e : nameV op = nm (op.toNat - 1) := if_pos ho
  rw [e]
  by_cases h : (cOp k : Int) = op
  · rw [show op.toNat - 1 = cOp k - 1 by omega]
    simp [h]
  · have hne : ¬ nm (cOp k - 1) = nm (op.toNat - 1) := fun hn => h (by have := nm_inj (by omega) (by omega) hn; omega)
    rw [str_ne hne]
    simp [h]

/-- Is an instruction of a row? The first that it is of; 33: none. -/
def rowB (k : Nat) (op d s t imm : Int) : Bool := ((cOp k : Int) == op) && rightB (cForm k) d s t && cfitsB (cKind k) (cBy k) (cLen k) imm
def cIx (op d s t imm : Int) : Nat := (List.range 33).findIdx fun k => rowB k op d s t imm
def findV (op d s t imm : Int) : Int := if cIx op d s t imm < 33 then (cIx op d s t imm : Int) else -1
theorem cIx_le (op d s t imm : Int) : cIx op d s t imm ≤ 33 := by
  have := List.findIdx_le_length (xs := List.range 33) (p := fun k => rowB k op d s t imm)
  simpa [cIx] using this
theorem cIx_miss {op d s t imm : Int} {k : Nat} (h : k < cIx op d s t imm) : rowB k op d s t imm = false := by
  have h1 := List.not_of_lt_findIdx (xs := List.range 33) (p := fun k => rowB k op d s t imm) h
  simpa using h1
theorem cIx_hit {op d s t imm : Int} (h : cIx op d s t imm < 33) : rowB (cIx op d s t imm) op d s t imm = true := by
  have := List.findIdx_getElem (xs := List.range 33) (p := fun k => rowB k op d s t imm) (w := by simpa [cIx] using h)
  simpa [cIx] using this

theorem CRowsAt.kept {w w' : World} {b : Nat} (h : CRowsAt w b) (k : Kept w w') : CRowsAt w' b := fun i hi => by
  obtain ⟨a, cap, h0, h1, h2, h3, h4, h5, hC⟩ := h i hi
  exact ⟨a, cap, k.cell h0, k.cell h1, k.cell h2, k.cell h3, k.cell h4, k.cell h5, hC.kept k⟩

end Go.Proofs.YtbmcanpjpibecaaDoor
