/- A file's heads tell places within it: the law's walk. -/
import Derived.Test.YtljmgbpecoifnaaGreatDoorLp
import Derived.Test.YtljmgbpecoifnaaGreatDoorJap
import Derived.Test.YtljmgbpecoifnaaGreatDoorJao
import Derived.BigQuiet
namespace Go.Proofs.YtljmgbpecoifnaaGreatDoor
open Go.RowKit

/-- What a loop over heads leans on. -/
structure HdsOk (M : ObjM) (L : List Int) (p n : Nat) : Prop where
  len : L.length = n
  n1 : n ≤ 65536
  p0 : 64 ≤ p
  pn : p + 64 * (firstN M + 3) = n
  rd : ∀ j, j < firstN M + 2 → ((L.drop (p + 64 * (j + 1))).take 64).length = 64 ∧ rdE ((L.drop (p + 64 * (j + 1))).take 64) = 0 ∧ rdV ((L.drop (p + 64 * (j + 1))).take 64) = hdV ((allP (partsO M)).getD j partNo) (plc (fsts (namesP (partsO M))) ((allP (partsO M)).getD j partNo).nm) ((layO 64 (allP (partsO M))).getD j 0)
  lo : ∀ j, j < firstN M + 2 → 64 ≤ (layO 64 (allP (partsO M))).getD j 0 ∧ (layO 64 (allP (partsO M))).getD j 0 + ((allP (partsO M)).getD j partNo).z.length ≤ p
  al : ∀ j, j < firstN M + 2 → 1 ≤ ((allP (partsO M)).getD j partNo).al ∧ ((allP (partsO M)).getD j partNo).al ≤ 64 ∧ (layO 64 (allP (partsO M))).getD j 0 % ((allP (partsO M)).getD j partNo).al = 0
  nx : ∀ i j, i < j → j < firstN M + 2 → (layO 64 (allP (partsO M))).getD i 0 + ((allP (partsO M)).getD i partNo).z.length ≤ (layO 64 (allP (partsO M))).getD j 0
  pt : ∀ j, j < firstN M + 2 → (L.drop ((layO 64 (allP (partsO M))).getD j 0)).take ((allP (partsO M)).getD j partNo).z.length = ((allP (partsO M)).getD j partNo).z
  sc : ∀ j, j < M.ss.length → (allP (partsO M)).getD j partNo = secP M.gs (M.ss.getD j sctNo) j
  sb : ∀ j, j < M.ss.length → 1 ≤ (M.ss.getD j sctNo).al ∧ (M.ss.getD j sctNo).al ≤ 64
  sz : ∀ j, j < firstN M + 2 → -9223372036854775808 ≤ ((allP (partsO M)).getD j partNo).sz ∧ ((allP (partsO M)).getD j partNo).sz ≤ 9223372036854775807
  fs : sOf (nuN ((L.drop 40).take 8)) = (p : Int) ∧ sOf (nuN ((L.drop 60).take 2)) = ((firstN M + 3 : Nat) : Int)
  mn : M.ss.length + 1 ≤ firstN M
theorem hdsOk_of {M : ObjM} (h : OkP M) (hf : (fileO M).length ≤ 65536) : HdsOk M (fileO M) (outL (partsO M)).length (fileO M).length := by
  have hO := okO_OkO h
  have hp := partsO_ok hO
  have hl := partsO_length M
  obtain ⟨f1, f2, f3, f4⟩ := fileP_first (bs := partsO M) hf
  rw [hl] at f2 f4
  have hi : ∀ j, j < firstN M + 2 → j < (allP (partsO M)).length := fun j hj => by rw [allP_length, hl]; omega
  refine ⟨rfl, hf, f3, ?_, ?_, ?_, ?_, ?_, ?_, fun j hj => partsO_sec M hj, ?_, ?_, ⟨f1, f2⟩, ?_⟩
  · unfold fileO; rw [f4]
  · intro j hj
    exact fileP_read hp hf (j := j) (by omega)
  · intro j hj
    exact fileP_in (partsO M) (by omega)
  · intro j hj
    have ha := (allP_ok hp _ (allP_mem (partsO M) j (by omega))).al
    exact ⟨ha.1, ha.2, layO_mod 64 (allP (partsO M)) j (hi j hj) (by omega)⟩
  · intro i j hij hj
    exact layO_next 64 (allP (partsO M)) i j hij (hi j hj)
  · intro j hj
    exact fileP_part (partsO M) j (by omega)
  · intro j hj
    obtain ⟨_, _, _, _, h5, h6⟩ := sectB_has (h.ss _ (getD_in hj sctNo))
    have hd : (M.ss.getD j sctNo).al ∣ 64 := Int.dvd_of_emod_eq_zero h6
    have := Int.le_of_dvd (by decide) hd
    omega
  · intro j hj
    have := (allP_ok hp _ (allP_mem (partsO M) j (by omega))).sz
    omega
  · unfold firstN; omega
end Go.Proofs.YtljmgbpecoifnaaGreatDoor
