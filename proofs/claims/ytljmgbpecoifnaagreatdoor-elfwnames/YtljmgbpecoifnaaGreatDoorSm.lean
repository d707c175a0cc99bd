/- Tables of names: with no Go in sight but the bytes of a string (08/Sm without what 09/Sn has). -/
import Derived.Test.YtljmgbpecoifnaaGreatDoorJab
import Derived.Test.YtljmgbpecoifnaaGreatDoorBy
namespace Go.Proofs.YtljmgbpecoifnaaGreatDoor

/-- A name that may not be. -/
def wrongB (s : ByteArray) : Bool := decide (64 < s.size) || (nm s).contains 0
theorem wrong_false {s : ByteArray} (h : wrongB s = false) : s.size ≤ 64 ∧ ∀ x ∈ nm s, x ≠ 0 := by
  unfold wrongB at h
  rw [Bool.or_eq_false_iff, decide_eq_false_iff_not] at h
  refine ⟨by omega, fun x hx e => ?_⟩
  subst e
  have := h.2
  rw [List.contains_eq_mem, decide_eq_false_iff_not] at this
  exact this hx
theorem right_of {s : ByteArray} (h1 : s.size ≤ 64) (h2 : ∀ x ∈ nm s, x ≠ 0) : wrongB s = false := by
  unfold wrongB
  rw [Bool.or_eq_false_iff, decide_eq_false_iff_not, List.contains_eq_mem, decide_eq_false_iff_not]
  exact ⟨by omega, fun h => h2 0 h rfl⟩

/-- Where the first 0 stands. -/
theorem ix_none : ∀ {l : List Int}, (∀ x ∈ l, 0 ≤ x ∧ x < 256) → 0 ∉ l → Lib.indexByte (Lib.bytesOf l) 0 = -1
  | [], _, _ => rfl
  | a :: l, hr, h => by
    have ha := hr a (by simp)
    have h0 : a ≠ 0 := fun e => h (by simp [e])
    have ih := ix_none (l := l) (fun x hx => hr x (by simp [hx])) (fun e => h (by simp [e]))
    have e : Lib.bytesOf (a :: l) = UInt8.ofNat a.toNat :: Lib.bytesOf l := rfl
    rw [e, Lib.indexByte, ih]
    have hne : (UInt8.ofNat a.toNat == 0) = false := by
      rw [beq_eq_false_iff_ne]
      intro hh
      have := congrArg UInt8.toNat hh
      rw [UInt8.toNat_ofNat'] at this
      simp at this
      omega
    simp [hne]
theorem ix_some : ∀ {l : List Int}, (∀ x ∈ l, 0 ≤ x ∧ x < 256) → 0 ∈ l → Lib.indexByte (Lib.bytesOf l) 0 = ((l.takeWhile fun x => x != 0).length : Int)
  | [], _, h => by cases h
  | a :: l, hr, h => by
    have ha := hr a (by simp)
    have e : Lib.bytesOf (a :: l) = UInt8.ofNat a.toNat :: Lib.bytesOf l := rfl
    by_cases h0 : a = 0
    · subst h0
      rw [e, Lib.indexByte]
      simp
    · have hm : 0 ∈ l := by rcases List.mem_cons.1 h with h | h; exact absurd h.symm h0; exact h
      have ih := ix_some (l := l) (fun x hx => hr x (by simp [hx])) hm
      have hne : (UInt8.ofNat a.toNat == 0) = false := by
        rw [beq_eq_false_iff_ne]
        intro hh
        have := congrArg UInt8.toNat hh
        rw [UInt8.toNat_ofNat'] at this
        simp at this
        omega
      have hb : (a != 0) = true := by simpa using h0
      rw [e, Lib.indexByte, ih, List.takeWhile_cons, hb]
      simp only [hne, if_true, Bool.false_eq_true, if_false, List.length_cons]
      have : (((l.takeWhile fun x => x != 0).length : Int) == -1) = false := by rw [beq_eq_false_iff_ne]; omega
      rw [this]
      simp
theorem ix_str (s : ByteArray) : decide (0 ≤ Lib.indexByte s.data.toList 0) = (nm s).contains 0 := by
  rw [← bytes_nm, List.contains_eq_mem]
  by_cases h : 0 ∈ nm s
  · rw [ix_some (nm_range s) h]
    simp [h]
  · rw [ix_none (nm_range s) h]
    simp [h]

/-! ### Tables -/
def chkB (l : List Int) : Bool := decide (1 ≤ l.length ∧ l.length ≤ 65536 ∧ l.getD 0 1 = 0 ∧ l.getD (l.length - 1) 1 = 0)
def chkE (l : List Int) : Int := if chkB l = true then 0 else 8
def inG (l : List Int) (p : Int) : Bool := chkB l && decide (0 ≤ p ∧ p < l.length)
def getS (l : List Int) (p : Int) : List Int := if inG l p = true then nmAt l p.toNat else []
def getR (l : List Int) (p : Int) : Int := if inG l p = true then 0 else 8
theorem chk_true {l : List Int} (h : chkB l = true) : 1 ≤ l.length ∧ l.length ≤ 65536 ∧ l.getD 0 1 = 0 ∧ l.getD (l.length - 1) 1 = 0 := of_decide_eq_true h
theorem chk_last {l : List Int} (h : chkB l = true) : ∃ h0 : 0 < l.length, l[l.length - 1]'(by omega) = 0 := by
  obtain ⟨h1, _, _, h4⟩ := chk_true h
  refine ⟨by omega, ?_⟩
  rw [List.getD, List.getElem?_eq_getElem (by omega)] at h4
  exact h4
theorem inG_true {l : List Int} {p : Int} (h : inG l p = true) : chkB l = true ∧ 0 ≤ p ∧ p < l.length := by
  unfold inG at h
  rw [Bool.and_eq_true, decide_eq_true_eq] at h
  exact ⟨h.1, h.2.1, h.2.2⟩
theorem inG_mk {l : List Int} {p : Int} (h : chkB l = true) (h0 : 0 ≤ p) (h1 : p < l.length) : inG l p = true := by
  unfold inG
  rw [h, Bool.true_and, decide_eq_true_eq]
  exact ⟨h0, h1⟩
theorem nmAt_range {l : List Int} (p : Nat) (h : ∀ x ∈ l, 0 ≤ x ∧ x < 256) : ∀ x ∈ nmAt l p, 0 ≤ x ∧ x < 256 := by
  intro x hx
  exact h x (List.mem_of_mem_drop ((List.takeWhile_sublist _).mem hx))

/-! ### What Build gives -/
def nms (ss : List ByteArray) : List (List Int) := ss.map nm
theorem nms_length (ss : List ByteArray) : (nms ss).length = ss.length := by simp [nms]
def badB (ss : List ByteArray) : Bool := ss.any wrongB
def bldE (ss : List ByteArray) : Int := if 1024 < ss.length then 4 else if badB ss = true then 3 else if 65536 < (tbl (fsts (nms ss))).length then 9 else 0
def bldT (ss : List ByteArray) : List Int := if bldE ss = 0 then tbl (fsts (nms ss)) else []
def plcI (ss : List ByteArray) : List Int := (plcs (nms ss)).map fun (n : Nat) => (n : Int)
def bldP (ss : List ByteArray) : List Int := if bldE ss = 0 then plcI ss else []
theorem bld_many {ss : List ByteArray} (h : 1024 < ss.length) : bldE ss = 4 ∧ bldT ss = [] ∧ bldP ss = [] := by
  have : bldE ss = 4 := by simp [bldE, h]
  exact ⟨this, by simp [bldT, this], by simp [bldP, this]⟩
theorem bld_text {ss : List ByteArray} (h : ss.length ≤ 1024) (hb : badB ss = true) : bldE ss = 3 ∧ bldT ss = [] ∧ bldP ss = [] := by
  have : bldE ss = 3 := by simp [bldE, show ¬ 1024 < ss.length by omega, hb]
  exact ⟨this, by simp [bldT, this], by simp [bldP, this]⟩
theorem bld_full {ss : List ByteArray} (h : ss.length ≤ 1024) (hb : badB ss = false) (hf : 65536 < (tbl (fsts (nms ss))).length) : bldE ss = 9 ∧ bldT ss = [] ∧ bldP ss = [] := by
  have : bldE ss = 9 := by simp [bldE, show ¬ 1024 < ss.length by omega, hb, hf]
  exact ⟨this, by simp [bldT, this], by simp [bldP, this]⟩
theorem bld_ok {ss : List ByteArray} (h : ss.length ≤ 1024) (hb : badB ss = false) (hf : (tbl (fsts (nms ss))).length ≤ 65536) : bldE ss = 0 ∧ bldT ss = tbl (fsts (nms ss)) ∧ bldP ss = plcI ss := by
  have : bldE ss = 0 := by simp [bldE, show ¬ 1024 < ss.length by omega, hb, show ¬ 65536 < (tbl (fsts (nms ss))).length by omega]
  exact ⟨this, by simp [bldT, this], by simp [bldP, this]⟩
theorem bld_zero {ss : List ByteArray} (h : bldE ss = 0) : ss.length ≤ 1024 ∧ badB ss = false ∧ (tbl (fsts (nms ss))).length ≤ 65536 := by
  unfold bldE at h
  split at h
  · cases h
  · split at h
    · cases h
    · split at h
      · cases h
      · rename_i h1 h2 h3
        exact ⟨by omega, by simpa using h2, by omega⟩
theorem bad_false {ss : List ByteArray} (h : badB ss = false) : ∀ s ∈ ss, wrongB s = false := by
  intro s hs
  unfold badB at h
  rw [List.any_eq_false] at h
  simpa using h s hs
theorem plcI_length (ss : List ByteArray) : (plcI ss).length = ss.length := by simp [plcI, plcs_length, nms_length]

/-- A bound on the table's length. -/
theorem tbl_le (fs : List (List Int)) (h : ∀ s ∈ fs, s.length ≤ 64) : (tbl fs).length ≤ 1 + 65 * fs.length := by
  induction fs with
  | nil => simp [tbl]
  | cons a l ih =>
    have h1 := ih (fun s hs => h s (by simp [hs]))
    have h2 := h a (by simp)
    simp only [tbl, List.length_cons, List.flatMap_cons, List.length_append, List.length_nil] at h1 ⊢
    omega
theorem fsts_length (ns : List (List Int)) : (fsts ns).length ≤ ns.length := by
  refine snoc_ind (P := fun ns => (fsts ns).length ≤ ns.length) ?_ ?_ ns
  · simp [fsts]
  · intro l a ih
    rw [fsts_snoc, List.length_append]
    unfold fsStep
    split
    · simp; omega
    · simp; omega
theorem tbl_bound {ss : List ByteArray} (h : ∀ s ∈ ss, wrongB s = false) : (tbl (fsts (nms ss))).length ≤ 1 + 65 * ss.length := by
  have h1 := tbl_le (fsts (nms ss)) (fun s hs => by
    obtain ⟨t, ht, rfl⟩ := List.mem_map.1 (mem_fsts.1 hs).1
    rw [nm_length]
    exact (wrong_false (h t ht)).1)
  have h2 := fsts_length (nms ss)
  rw [nms_length] at h2
  omega
end Go.Proofs.YtljmgbpecoifnaaGreatDoor
