/- The document's own table of bases: an instruction's code, f and g, by its name: what kind and nth give. -/
import Derived.Test.YtpaeemijpincpaaDoorRPlc
namespace Go.Proofs.YtpaeemijpincpaaDoor
open Go.RowKit

/-- The place of a name in a list; below 0: none. -/
def kindIx (s : ByteArray) (L : List (List UInt8)) : Nat := L.findIdx (isNm s)
def kindV (s : ByteArray) (L : List (List UInt8)) : Int := if kindIx s L < L.length then (kindIx s L : Int) else -1
def strVals (L : List (List UInt8)) : List Value := L.map fun z => .string ⟨z.toArray⟩
theorem strVals_one (L : List (List UInt8)) : ∀ v ∈ strVals L, v.cells = #[v] := by
  intro v hv
  obtain ⟨z, _, rfl⟩ := List.mem_map.1 hv
  rfl
def strAt (L : List (List UInt8)) (k : Nat) : ByteArray := ⟨(L.getD k []).toArray⟩

/-- 'wpList_lit', told by the slot that it fills. -/
theorem wpList_litAt {P : Program} {ops : Array Oper} {rest : List Oper} {o : Oper} {a : Act} {w : World} {Q : Exit → Act → World → Prop} (d : Nat) (_hd : o.dst = some d) (hg : o.guard = none) (t e : TypeId) (len : Nat) (parts : Array (Nat × Operand)) (ho : o.op = .buildSlice t len parts)
    (zs : List Value) (hu : P.underlying t = some (.slice e)) (hsz : (P.info? e).map (·.size) = some 1) (hz : ((P.info? e).bind (·.zero)).isSome = true)
    (hlen : len = zs.length) (hpos : 0 < len) (hsmall : len ≤ 2 ^ 24) (h1 : ∀ v ∈ zs, v.cells = #[v])
    (hparts : (parts.map fun (i, x) => (i, a.eval x)).toList = (zs.zipIdx 0).map fun x => (x.2, x.1))
    (h : ∀ (b : Nat) (w' : World), Kept w w' → (∀ j v, zs[j]? = some v → w'.cell? ⟨b, j, none⟩ = some v) → wpList P ops Q rest (a.put o.dst (.slice (some ⟨b, 0, none⟩) len len)) w') : wpList P ops Q (o :: rest) a w :=
  wpList_lit hg t e len parts ho zs hu hsz hz hlen hpos hsmall h1 hparts h

/-- The number at a place of a list. -/
def nthV (L : List Int) (k : Nat) : Int := L.getD k 0

theorem kind_hit {s : ByteArray} {L : List (List UInt8)} {k : Nat} (hk : k < L.length) (hle : k ≤ kindIx s L) (h : strAt L k = s) : kindIx s L = k := by
  rcases Nat.lt_or_ge k (kindIx s L) with hlt | hge
  · have := List.not_of_lt_findIdx (p := isNm s) hlt
    have e : strAt L k = ⟨(L[k]).toArray⟩ := by simp [strAt, List.getD, hk]
    rw [e] at h
    simp [isNm, h] at this
  · omega

theorem kind_miss {s : ByteArray} {L : List (List UInt8)} {k : Nat} (hk : k < L.length) (hle : k ≤ kindIx s L) (h : ¬ strAt L k = s) : k + 1 ≤ kindIx s L := by
  rcases Nat.lt_or_ge k (kindIx s L) with hlt | hge
  · omega
  · have e : kindIx s L = k := by omega
    have hl : kindIx s L < L.length := by omega
    have h1 := List.findIdx_getElem (p := isNm s) (w := hl)
    have h2 : (⟨(L[kindIx s L]).toArray⟩ : ByteArray) = s := of_decide_eq_true h1
    have h3 : strAt L (kindIx s L) = s := by
      have e2 : strAt L (kindIx s L) = ⟨(L[kindIx s L]).toArray⟩ := by simp [strAt, List.getD, hl]
      rw [e2]
      exact h2
    rw [e] at h3
    exact absurd h3 h

theorem kind_walk (s : ByteArray) (L : List (List UInt8)) (n b : Nat) (w : World) (hn : n = L.length) (hn1 : n ≤ 100) (hc : ∀ j v, (strVals L)[j]? = some v → w.cell? ⟨b, j, none⟩ = some v) :
    Calls Tryd.prog 54 #[.string s, .slice (some ⟨b, 0, none⟩) n n] w fun e w' => e = .returned (.int .i64 (kindV s L)) ∧ w' = w := by
  have hle : kindIx s L ≤ L.length := List.findIdx_le_length
  have hcell : ∀ j, j < n → w.cell? ⟨b, j, none⟩ = some (.string (strAt L j)) := fun j hj => hc j _ (by simp [strVals, strAt, List.getD, show j < L.length by omega])
  have hb1 : n ≤ L.length := by omega
  have hb2 : L.length ≤ n := by omega
  clear hc hn
  go_enter Tryd.func54, Tryd.ntmps54
  go_wp2
  go_loop [5] (fun i => ∃ k : Nat, k ≤ n ∧ k ≤ kindIx s L ∧ i = .int .i64 k) (fun i => n - (intOf i).toNat)
  case atStart => exact ⟨0, by omega, by omega, rfl⟩
  case round =>
    obtain ⟨k, hk, hks, rfl⟩ := hrel
    rcases Nat.lt_or_ge k n with hlt | hge
    · have hat := hcell k hlt
      by_cases hs : strAt L k = s
      · have e := kind_hit (by omega) hks hs
        have e1 : kindV s L = (k : Int) := by unfold kindV; rw [e, if_pos (by omega)]
        clear hcell
        go_wp2
        go_ret
        exact ⟨rfl, rfl⟩
      · have e := kind_miss (by omega) hks hs
        have hs' : ((strAt L k).toList == s.toList) = false := str_ne hs
        clear hcell
        go_wp2
        exact ⟨⟨k + 1, by omega, e, by simp⟩, by simp [intOf]; omega⟩
    · have e1 : kindV s L = -1 := by unfold kindV; rw [if_neg (by omega)]
      have hkn : (n : Int) ≤ k := by omega
      clear hcell
      go_wp2
      go_ret
      exact ⟨rfl, rfl⟩

theorem nthV_bound (k : Nat) (L : List Int) (h : ∀ x ∈ L, 0 ≤ x ∧ x ≤ 100) : 0 ≤ nthV L k ∧ nthV L k ≤ 100 := by
  unfold nthV
  rcases Nat.lt_or_ge k L.length with hk | hk
  · rw [List.getD, List.getElem?_eq_getElem hk]
    exact h _ (List.getElem_mem hk)
  · rw [List.getD, List.getElem?_eq_none hk]
    decide

theorem nth_walk (k n : Nat) (L : List Int) (b : Nat) (w : World) (hn : n = L.length) (hk : k < n) (hc : ∀ j v, (intVals L)[j]? = some v → w.cell? ⟨b, j, none⟩ = some v) :
    Calls Tryd.prog 55 #[.int .i64 k, .slice (some ⟨b, 0, none⟩) n n] w fun e w' => e = .returned (.int .i64 (nthV L k)) ∧ w' = w := by
  have hcell : w.cell? ⟨b, k, none⟩ = some (.int .i64 (nthV L k)) := hc k _ (by simp [intVals, nthV, List.getD, show k < L.length by omega])
  clear hc hn
  go_enter Tryd.func55, Tryd.ntmps55
  go_wp2
  go_ret
  exact ⟨rfl, rfl⟩

def kl0 : List (List UInt8) := [[98, 101, 113], [98, 110, 101], [98, 108, 116], [98, 103, 101], [98, 108, 116, 117], [98, 103, 101, 117]]
def kl1 : List (List UInt8) := [[108, 98], [108, 104], [108, 119], [108, 100], [108, 98, 117], [108, 104, 117], [108, 119, 117]]
def kl2 : List (List UInt8) := [[115, 98], [115, 104], [115, 119], [115, 100]]
def kl3 : List (List UInt8) := [[97, 100, 100, 105], [115, 108, 116, 105], [115, 108, 116, 105, 117], [120, 111, 114, 105], [111, 114, 105], [97, 110, 100, 105], [115, 108, 108, 105], [115, 114, 108, 105], [115, 114, 97, 105]]
def kl4 : List (List UInt8) := [[97, 100, 100], [115, 117, 98], [115, 108, 108], [115, 108, 116], [115, 108, 116, 117], [120, 111, 114], [115, 114, 108], [115, 114, 97], [111, 114], [97, 110, 100]]
def kl5 : List (List UInt8) := [[97, 100, 100, 105, 119], [115, 108, 108, 105, 119], [115, 114, 108, 105, 119], [115, 114, 97, 105, 119]]
def kl6 : List (List UInt8) := [[97, 100, 100, 119], [115, 117, 98, 119], [115, 108, 108, 119], [115, 114, 108, 119], [115, 114, 97, 119]]
def kl7 : List (List UInt8) := [[109, 117, 108], [109, 117, 108, 104], [109, 117, 108, 104, 115, 117], [109, 117, 108, 104, 117], [100, 105, 118], [100, 105, 118, 117], [114, 101, 109], [114, 101, 109, 117]]
def kl8 : List (List UInt8) := [[109, 117, 108, 119], [100, 105, 118, 119], [100, 105, 118, 117, 119], [114, 101, 109, 119], [114, 101, 109, 117, 119]]
def kl9 : List (List UInt8) := [[99, 115, 114, 114, 119], [99, 115, 114, 114, 115], [99, 115, 114, 114, 99], [99, 115, 114, 114, 119, 105], [99, 115, 114, 114, 115, 105], [99, 115, 114, 114, 99, 105]]
def kl10 : List (List UInt8) := [[108, 114], [115, 99], [97, 109, 111, 115, 119, 97, 112], [97, 109, 111, 97, 100, 100], [97, 109, 111, 120, 111, 114], [97, 109, 111, 97, 110, 100], [97, 109, 111, 111, 114], [97, 109, 111, 109, 105, 110], [97, 109, 111, 109, 97, 120], [97, 109, 111, 109, 105, 110, 117], [97, 109, 111, 109, 97, 120, 117]]

/-- Codes, f and g of the instructions, in their order. -/
def codeTab : List Int := [
  55, 23, 111, 103, 99, 99, 99, 99, 99, 99, 3, 3, 3, 3, 3, 3, 3, 35, 35, 35, 35, 19, 19, 19,
  19, 19, 19, 19, 19, 19, 51, 51, 51, 51, 51, 51, 51, 51, 51, 51, 27, 27, 27, 27, 59, 59, 59, 59,
  59, 51, 51, 51, 51, 51, 51, 51, 51, 59, 59, 59, 59, 59, 15, 15, 115, 115, 115, 115, 115, 115, 115, 115,
  47, 47, 47, 47, 47, 47, 47, 47, 47, 47, 47, 47, 47, 47, 47, 47, 47, 47, 47, 47, 47, 47]
def fTab : List Int := [
  0, 0, 0, 0, 0, 1, 4, 5, 6, 7, 0, 1, 2, 3, 4, 5, 6, 0, 1, 2, 3, 0, 2, 3,
  4, 6, 7, 1, 5, 5, 0, 0, 1, 2, 3, 4, 5, 5, 6, 7, 0, 1, 5, 5, 0, 0, 1, 5,
  5, 0, 1, 2, 3, 4, 5, 6, 7, 0, 4, 5, 6, 7, 0, 1, 0, 0, 1, 2, 3, 5, 6, 7,
  2, 2, 2, 2, 2, 2, 2, 2, 2, 2, 2, 3, 3, 3, 3, 3, 3, 3, 3, 3, 3, 3]
def gTab : List Int := [
  0, 0, 0, 0, 0, 0, 0, 0, 0, 0, 0, 0, 0, 0, 0, 0, 0, 0, 0, 0, 0, 0, 0, 0,
  0, 0, 0, 0, 0, 32, 0, 32, 0, 0, 0, 0, 0, 32, 0, 0, 0, 0, 0, 32, 0, 32, 0, 0,
  32, 1, 1, 1, 1, 1, 1, 1, 1, 1, 1, 1, 1, 1, 0, 0, 0, 0, 0, 0, 0, 0, 0, 0,
  8, 12, 4, 0, 16, 48, 32, 64, 80, 96, 112, 8, 12, 4, 0, 16, 48, 32, 64, 80, 96, 112]
def codeC (i : Nat) : Int := codeTab.getD i 0
def fC (i : Nat) : Int := fTab.getD i 0
def gC (i : Nat) : Int := gTab.getD i 0

theorem sums : ∀ i, i < 94 → codeC i + fC i * 4096 + gC i * 33554432 + (if i = 65 then 1048576 else 0) = baseC i := by decide +kernel
theorem parts_bound : ∀ i, i < 94 → 0 ≤ codeC i ∧ codeC i ≤ 127 ∧ 0 ≤ fC i ∧ fC i ≤ 7 ∧ 0 ≤ gC i ∧ gC i ≤ 127 := by decide +kernel
theorem szStr : (Tryd.prog.info? 9).map (·.size) = some 1 := by kernel_rfl
theorem zeStr : ((Tryd.prog.info? 9).bind (·.zero)).isSome = true := by kernel_rfl

end Go.Proofs.YtpaeemijpincpaaDoor
