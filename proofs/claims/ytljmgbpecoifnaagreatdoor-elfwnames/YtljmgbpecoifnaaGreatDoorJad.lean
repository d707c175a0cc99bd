/- Objects, and the parts of their files: unlike objects have unlike parts: with no Go in sight. Which objects may be: with no Go in sight. -/
import Derived.Test.YtljmgbpecoifnaaGreatDoorJab
import Derived.Test.YtljmgbpecoifnaaGreatDoorJac
namespace Go.Proofs.YtljmgbpecoifnaaGreatDoor

/-! ### Pieces of one length -/
def chunk (k : Nat) (l : List Int) : List (List Int) := (List.range (l.length / k)).map fun i => (l.drop (k * i)).take k
theorem flat_length {α : Type} {k : Nat} (f : α → List Int) (xs : List α) (h : ∀ x ∈ xs, (f x).length = k) : (xs.flatMap f).length = k * xs.length := by
  induction xs with
  | nil => simp
  | cons x r ih =>
    rw [List.flatMap_cons, List.length_append, h x (by simp), ih (fun y hy => h y (by simp [hy])), List.length_cons, Nat.mul_add, Nat.mul_one, Nat.add_comm]
theorem flat_at {α : Type} {k : Nat} (f : α → List Int) (xs : List α) (h : ∀ x ∈ xs, (f x).length = k) (i : Nat) (hi : i < xs.length) : ((xs.flatMap f).drop (k * i)).take k = f xs[i] := by
  induction xs generalizing i with
  | nil => simp at hi
  | cons x r ih =>
    have h1 := h x (by simp)
    match i with
    | 0 => rw [Nat.mul_zero, List.drop_zero, List.flatMap_cons, List.take_left' h1]; rfl
    | i + 1 =>
      have := ih (fun y hy => h y (by simp [hy])) i (by simpa using hi)
      rw [List.flatMap_cons, Nat.mul_add, Nat.mul_one, Nat.add_comm, ← List.drop_drop, List.drop_left' h1, this]
      rfl
theorem chunk_flat {α : Type} {k : Nat} (hk : 0 < k) (f : α → List Int) (xs : List α) (h : ∀ x ∈ xs, (f x).length = k) : chunk k (xs.flatMap f) = xs.map f := by
  unfold chunk
  rw [flat_length f xs h, Nat.mul_div_cancel_left _ hk]
  apply List.ext_getElem (by simp)
  intro i h1 h2
  have hi : i < xs.length := by simpa using h2
  rw [List.getElem_map, List.getElem_range, List.getElem_map, flat_at f xs h i hi]

/-! ### Objects -/
structure SctM where
  nm : List Int
  al : Int
  z : List Int
  sz : Int
structure SymM where
  nm : List Int
  bind : Int
  hid : Bool
  wh : Int
  val : Int
  sz : Int
structure RelM where
  sec : Int
  off : Int
  ty : Int
  sy : Int
  ad : Int
structure GrpM where
  nm : List Int
  l : List Int
structure ObjM where
  ss : List SctM
  ys : List SymM
  rs : List RelM
  gs : List GrpM
/-- What of an object that may be is wanted of its file. -/
structure OkO (o : ObjM) : Prop where
  ss : ∀ s ∈ o.ss, sectB s.nm s.al s.z.length s.sz = true
  sn : o.ss.length ≤ 16
  ys : ∀ y ∈ o.ys, mayNm y.nm = true ∧ standsB y.bind y.hid y.wh y.val y.sz o.ss.length = true
  yn : o.ys.length ≤ 64
  rs : ∀ r ∈ o.rs, codX r.off r.ty r.sy r.ad = true ∧ 1 ≤ r.sec ∧ r.sec ≤ o.ss.length
  rn : o.rs.length ≤ 256
  ro : o.rs.Pairwise fun a b => a.sec ≤ b.sec
  gs : ∀ g ∈ o.gs, mayNm g.nm = true ∧ ∀ n ∈ g.l, 1 ≤ n ∧ n ≤ o.ss.length
  gn : o.gs.length ≤ 16

/-! ### Its parts -/
def flagK (k : Nat) : Int := if k = 1 then 6 else if k = 2 then 2 else if k = 3 ∨ k = 4 then 3 else 0
/-- Is a section in a group? -/
def grpd (gs : List GrpM) (n : Int) : Bool := gs.any fun g => g.l.contains n
def secP (gs : List GrpM) (s : SctM) (i : Nat) : PartM :=
  ⟨s.nm, if kindN s.nm = 4 then 8 else 1, flagK (kindN s.nm) + if grpd gs ((i : Int) + 1) = true then 512 else 0, 0, 0, s.al.toNat, 0, if kindN s.nm = 4 then s.sz else 0, s.z⟩
def secPs (o : ObjM) : List PartM := o.ss.zipIdx.map fun q => secP o.gs q.1 q.2
/-- '.group.', '.rela', '.symtab', '.strtab' -/
def gpNm : List Int := [46, 103, 114, 111, 117, 112, 46]
def rlNm : List Int := [46, 114, 101, 108, 97]
def syNm : List Int := [46, 115, 121, 109, 116, 97, 98]
def stNm : List Int := [46, 115, 116, 114, 116, 97, 98]
def grpL (g : GrpM) : List Int := byN (uOf 1) 4 ++ g.l.flatMap fun n => byN (uOf n) 4
def grpP (first : Int) (g : GrpM) : PartM := ⟨gpNm ++ g.nm, 17, 0, first, 0, 4, 4, 0, grpL g⟩
def relM (r : RelM) : List Int := relL r.off r.ty r.sy r.ad
/-- The relocations of a section, and their bytes. -/
def relsOf (o : ObjM) (n : Int) : List RelM := o.rs.filter fun r => r.sec == n
def relsL (o : ObjM) (n : Int) : List Int := (relsOf o n).flatMap relM
def relPt (o : ObjM) (first : Int) (s : SctM) (i : Nat) : PartM := ⟨rlNm ++ s.nm, 4, 64, first, (i : Int) + 1, 8, 24, 0, relsL o ((i : Int) + 1)⟩
def hasR (o : ObjM) (i : Nat) : Bool := !(relsL o ((i : Int) + 1)).isEmpty
def relPs (o : ObjM) (first : Int) : List PartM := (o.ss.zipIdx.filter fun q => hasR o q.2).map fun q => relPt o first q.1 q.2
def yNames (o : ObjM) : List (List Int) := o.ys.map (·.nm)
def symM (fs : List (List Int)) (y : SymM) : List Int := symL (plc fs y.nm) y.bind y.hid y.wh y.val y.sz
def symsL (o : ObjM) : List Int := List.replicate 24 0 ++ o.ys.flatMap (symM (fsts (yNames o)))
def locsN (o : ObjM) : Nat := (o.ys.filter fun y => y.bind == 0).length
def symPt (o : ObjM) (first : Int) : PartM := ⟨syNm, 2, 0, first + 1, (locsN o : Int) + 1, 8, 24, 0, symsL o⟩
def strPt (o : ObjM) : PartM := ⟨stNm, 3, 0, 0, 0, 1, 0, 0, tbl (fsts (yNames o))⟩
/-- The number of the symbols' head. -/
def firstN (o : ObjM) : Nat := 1 + o.ss.length + o.gs.length + (o.ss.zipIdx.filter fun q => hasR o q.2).length
def partsO (o : ObjM) : List PartM := secPs o ++ (o.gs.map (grpP (firstN o)) ++ (relPs o (firstN o) ++ [symPt o (firstN o), strPt o]))
def fileO (o : ObjM) : List Int := fileP (partsO o)

/-! ### What parts tell -/
def fSec (p : PartM) : Bool := p.ty == 1 || p.ty == 8
def fTy (t : Int) (p : PartM) : Bool := p.ty == t
theorem secPs_ty (o : ObjM) : ∀ p ∈ secPs o, p.ty = 1 ∨ p.ty = 8 := by
  intro p hp
  obtain ⟨q, _, rfl⟩ := List.mem_map.1 hp
  unfold secP
  dsimp only
  split
  · exact .inr rfl
  · exact .inl rfl
theorem grpPs_ty (f : Int) (gs : List GrpM) : ∀ p ∈ gs.map (grpP f), p.ty = 17 := by
  intro p hp
  obtain ⟨q, _, rfl⟩ := List.mem_map.1 hp
  rfl
theorem relPs_ty (o : ObjM) (f : Int) : ∀ p ∈ relPs o f, p.ty = 4 := by
  intro p hp
  obtain ⟨q, _, rfl⟩ := List.mem_map.1 hp
  rfl
theorem filter_none {α : Type} {f : α → Bool} {l : List α} (h : ∀ x ∈ l, f x = false) : l.filter f = [] := by
  rw [List.filter_eq_nil_iff]
  intro x hx
  rw [h x hx]
  decide
theorem filter_whole {α : Type} {f : α → Bool} {l : List α} (h : ∀ x ∈ l, f x = true) : l.filter f = l := List.filter_eq_self.2 h
theorem parts_secs (o : ObjM) : (partsO o).filter fSec = secPs o := by
  unfold partsO
  rw [List.filter_append, List.filter_append, List.filter_append,
    filter_whole (fun p hp => by unfold fSec; rcases secPs_ty o p hp with e | e <;> rw [e] <;> rfl),
    filter_none (l := o.gs.map _) (fun p hp => by unfold fSec; rw [grpPs_ty _ _ p hp]; rfl),
    filter_none (l := relPs o _) (fun p hp => by unfold fSec; rw [relPs_ty _ _ p hp]; rfl)]
  simp [fSec, symPt, strPt]
theorem parts_grps (o : ObjM) : (partsO o).filter (fTy 17) = o.gs.map (grpP (firstN o)) := by
  unfold partsO
  rw [List.filter_append, List.filter_append, List.filter_append,
    filter_none (l := secPs o) (fun p hp => by unfold fTy; rcases secPs_ty o p hp with e | e <;> rw [e] <;> rfl),
    filter_whole (l := o.gs.map _) (fun p hp => by unfold fTy; rw [grpPs_ty _ _ p hp]; rfl),
    filter_none (l := relPs o _) (fun p hp => by unfold fTy; rw [relPs_ty _ _ p hp]; rfl)]
  simp [fTy, symPt, strPt]
theorem parts_rels (o : ObjM) : (partsO o).filter (fTy 4) = relPs o (firstN o) := by
  unfold partsO
  rw [List.filter_append, List.filter_append, List.filter_append,
    filter_none (l := secPs o) (fun p hp => by unfold fTy; rcases secPs_ty o p hp with e | e <;> rw [e] <;> rfl),
    filter_none (l := o.gs.map _) (fun p hp => by unfold fTy; rw [grpPs_ty _ _ p hp]; rfl),
    filter_whole (l := relPs o _) (fun p hp => by unfold fTy; rw [relPs_ty _ _ p hp]; rfl)]
  simp [fTy, symPt, strPt]
theorem parts_syms (o : ObjM) : (partsO o).filter (fTy 2) = [symPt o (firstN o)] := by
  unfold partsO
  rw [List.filter_append, List.filter_append, List.filter_append,
    filter_none (l := secPs o) (fun p hp => by unfold fTy; rcases secPs_ty o p hp with e | e <;> rw [e] <;> rfl),
    filter_none (l := o.gs.map _) (fun p hp => by unfold fTy; rw [grpPs_ty _ _ p hp]; rfl),
    filter_none (l := relPs o _) (fun p hp => by unfold fTy; rw [relPs_ty _ _ p hp]; rfl)]
  simp [fTy, symPt, strPt]
theorem parts_strs (o : ObjM) : (partsO o).filter (fTy 3) = [strPt o] := by
  unfold partsO
  rw [List.filter_append, List.filter_append, List.filter_append,
    filter_none (l := secPs o) (fun p hp => by unfold fTy; rcases secPs_ty o p hp with e | e <;> rw [e] <;> rfl),
    filter_none (l := o.gs.map _) (fun p hp => by unfold fTy; rw [grpPs_ty _ _ p hp]; rfl),
    filter_none (l := relPs o _) (fun p hp => by unfold fTy; rw [relPs_ty _ _ p hp]; rfl)]
  simp [fTy, symPt, strPt]

/-- Sections, out of their parts. -/
def secOf (p : PartM) : SctM := ⟨p.nm, p.al, p.z, p.sz⟩
theorem secOf_secP {s : SctM} (h : sectB s.nm s.al s.z.length s.sz = true) (gs : List GrpM) (i : Nat) : secOf (secP gs s i) = s := by
  obtain ⟨_, ha, hz⟩ := sectB_true h
  have ha' := of_decide_eq_true ha
  have e1 : ((s.al.toNat : Nat) : Int) = s.al := by omega
  have e2 : (if kindN s.nm = 4 then s.sz else 0) = s.sz := by
    unfold sizesB at hz
    split
    · rfl
    · rename_i hk
      rw [if_neg hk] at hz
      have := of_decide_eq_true hz
      omega
  unfold secOf secP
  dsimp only
  rw [e1, e2]
theorem map_zipIdx_id {α : Type} (f : α → Nat → PartM) (g : PartM → α) (l : List α) (h : ∀ x ∈ l, ∀ i, g (f x i) = x) : (l.zipIdx.map fun q => f q.1 q.2).map g = l := by
  rw [List.map_map]
  have : ∀ q ∈ l.zipIdx, (g ∘ fun q : α × Nat => f q.1 q.2) q = q.1 := fun q hq => h q.1 (List.fst_mem_of_mem_zipIdx hq) q.2
  rw [List.map_congr_left this, List.zipIdx_map_fst]
theorem secs_back {o : ObjM} (h : OkO o) : (secPs o).map secOf = o.ss :=
  map_zipIdx_id (fun s i => secP o.gs s i) secOf o.ss (fun s hs i => secOf_secP (h.ss s hs) o.gs i)
/-- The number of some bytes; groups, out of their parts. -/
def numC (c : List Int) : Int := sOf (nuN c)
def grpOf (p : PartM) : GrpM := ⟨p.nm.drop 7, (chunk 4 (p.z.drop 4)).map numC⟩
theorem num_back {n : Int} (h0 : 0 ≤ n) (h1 : n < 4294967296) : sOf (nuN (byN (uOf n) 4)) = n := by
  have e4 : (256 : Nat) ^ 4 = 4294967296 := by decide
  rw [nuN_byN, uOf_nonneg _ h0 (by omega), e4, Nat.mod_eq_of_lt (by omega), sOf_small _ (by omega)]
  omega
def fourB (n : Int) : List Int := byN (uOf n) 4
theorem fourB_length (n : Int) : (fourB n).length = 4 := byN_length _ _
theorem numC_back {n : Int} (h0 : 0 ≤ n) (h1 : n < 4294967296) : numC (fourB n) = n := by
  unfold numC fourB
  exact num_back h0 h1
theorem four_back (l : List Int) (h : ∀ n ∈ l, 0 ≤ n ∧ n < 4294967296) : (l.map fourB).map numC = l := by
  induction l with
  | nil => rfl
  | cons a t ih => rw [List.map_cons, List.map_cons, numC_back (h a (by simp)).1 (h a (by simp)).2, ih (fun n hn => h n (by simp [hn]))]
theorem flat_four (l : List Int) : (l.flatMap fun n => byN (uOf n) 4) = l.flatMap fourB := rfl
theorem grpL_drop (g : GrpM) : (grpL g).drop 4 = g.l.flatMap fourB := by
  unfold grpL
  rw [List.drop_left' (byN_length _ _), flat_four]
theorem grp_back {g : GrpM} (h : ∀ n ∈ g.l, 0 ≤ n ∧ n < 4294967296) (f : Int) : grpOf (grpP f g) = g := by
  have e1 : (gpNm ++ g.nm).drop 7 = g.nm := List.drop_left' rfl
  have e2 := grpL_drop g
  have e3 : grpOf (grpP f g) = ⟨(gpNm ++ g.nm).drop 7, (chunk 4 ((grpL g).drop 4)).map numC⟩ := rfl
  have e4 := four_back g.l h
  rw [e3, e1, e2, chunk_flat (by decide) fourB _ (fun n _ => fourB_length n), e4]
theorem grps_back {o : ObjM} (h : OkO o) (f : Int) : (o.gs.map (grpP f)).map grpOf = o.gs := by
  rw [List.map_map]
  have hs := h.sn
  have : ∀ g ∈ o.gs, (grpOf ∘ grpP f) g = g := fun g hg => grp_back (fun n hn => by have := (h.gs g hg).2 n hn; omega) f
  rw [List.map_congr_left this, List.map_id']
/-- Relocations, out of theirs. -/
def relOf (n : Int) (c : List Int) : RelM := ⟨n, (relV c).getD 0 0, (relV c).getD 1 0, (relV c).getD 2 0 - 1, (relV c).getD 3 0⟩
theorem relOf_back {r : RelM} (h : codX r.off r.ty r.sy r.ad = true) : relOf r.sec (relM r) = r := by
  unfold relOf relM
  rw [rel_back h]
  unfold relN
  simp only [List.getD_cons_zero, List.getD_cons_succ]
  rw [show r.sy + 1 - 1 = r.sy by omega]
def relsIn (p : PartM) : List RelM := (chunk 24 p.z).map (relOf p.nf)
theorem relsIn_back {o : ObjM} (h : OkO o) (f : Int) (s : SctM) (i : Nat) : relsIn (relPt o f s i) = relsOf o ((i : Int) + 1) := by
  unfold relsIn relPt relsL
  dsimp only
  rw [chunk_flat (by decide) relM _ (fun r _ => relL_length _ _ _ _), List.map_map]
  have : ∀ r ∈ relsOf o ((i : Int) + 1), (relOf ((i : Int) + 1) ∘ relM) r = r := by
    intro r hr
    unfold relsOf at hr
    obtain ⟨h1, h2⟩ := List.mem_filter.1 hr
    rw [beq_iff_eq] at h2
    rw [← h2]
    exact relOf_back (h.rs r h1).1
  rw [List.map_congr_left this, List.map_id']
/-- What is in order is its parts by sections, one behind the other. -/
theorem sorted_parts (l : List RelM) (h : l.Pairwise fun a b => a.sec ≤ b.sec) (n : Nat) (hb : ∀ r ∈ l, 1 ≤ r.sec ∧ r.sec ≤ n) : (List.range n).flatMap (fun i : Nat => l.filter fun r => r.sec == (i : Int) + 1) = l := by
  induction n generalizing l with
  | zero =>
    match l with
    | [] => rfl
    | r :: _ => have := hb r (by simp); omega
  | succ n ih =>
    -- those of the last section stand behind all others
    have key : ∀ l : List RelM, (l.Pairwise fun a b => a.sec ≤ b.sec) → (∀ r ∈ l, r.sec ≤ (n : Int) + 1) → l = (l.filter fun r => decide (r.sec ≤ (n : Int))) ++ l.filter fun r => r.sec == (n : Int) + 1 := by
      intro l
      induction l with
      | nil => intro _ _; rfl
      | cons r t iht =>
        intro hp hle
        rw [List.pairwise_cons] at hp
        have h1 := hle r (by simp)
        by_cases e : r.sec ≤ (n : Int)
        · rw [List.filter_cons_of_pos (by simpa using e), List.filter_cons_of_neg (by simp; omega), List.cons_append, ← iht hp.2 (fun x hx => hle x (by simp [hx]))]
        · have hall : ∀ x ∈ t, x.sec = (n : Int) + 1 := fun x hx => by
            have a := hp.1 x hx
            have b := hle x (by simp [hx])
            omega
          rw [List.filter_cons_of_neg (by simpa using e), filter_none (l := t) (fun x hx => decide_eq_false (by have := hall x hx; omega)), List.nil_append, List.filter_cons_of_pos (by simp; omega),
            filter_whole (fun x hx => by rw [hall x hx]; simp)]
    have hk := key l h (fun r hr => by have := (hb r hr).2; omega)
    have hA := ih (l.filter fun r => decide (r.sec ≤ (n : Int))) (h.sublist List.filter_sublist) (fun r hr => by
      obtain ⟨a, b⟩ := List.mem_filter.1 hr
      have := (hb r a).1
      exact ⟨this, of_decide_eq_true b⟩)
    rw [List.range_succ, List.flatMap_append, List.flatMap_singleton]
    have hB : (List.range n).flatMap (fun i : Nat => l.filter fun r => r.sec == (i : Int) + 1) = (List.range n).flatMap fun i : Nat => (l.filter fun r => decide (r.sec ≤ (n : Int))).filter fun r => r.sec == (i : Int) + 1 := by
      have : ∀ i ∈ List.range n, (l.filter fun r => r.sec == (i : Int) + 1) = (l.filter fun r => decide (r.sec ≤ (n : Int))).filter fun r => r.sec == (i : Int) + 1 := by
        intro i hi
        rw [List.mem_range] at hi
        rw [List.filter_filter]
        apply List.filter_congr
        intro r _
        by_cases e : r.sec = (i : Int) + 1
        · rw [e]; simp; omega
        · rw [beq_eq_false_iff_ne.2 e]; rfl
      rw [List.flatMap_def, List.flatMap_def, List.map_congr_left this]
    rw [hB, hA]
    exact hk.symm
theorem relsL_empty {o : ObjM} {n : Int} (h : (relsL o n).isEmpty = true) : relsOf o n = [] := by
  rw [List.isEmpty_iff] at h
  unfold relsL at h
  match hq : relsOf o n with
  | [] => rfl
  | r :: t =>
    rw [hq, List.flatMap_cons] at h
    have := congrArg List.length h
    rw [List.length_append] at this
    have h24 : (relM r).length = 24 := relL_length _ _ _ _
    rw [h24] at this
    simp at this
theorem rels_back {o : ObjM} (h : OkO o) (f : Int) : (relPs o f).flatMap relsIn = o.rs := by
  unfold relPs
  rw [List.flatMap_map]
  have e1 : ∀ q ∈ o.ss.zipIdx.filter (fun q => hasR o q.2), relsIn (relPt o f q.1 q.2) = relsOf o ((q.2 : Int) + 1) := fun q _ => relsIn_back h f q.1 q.2
  rw [List.flatMap_def, List.map_congr_left e1, ← List.flatMap_def]
  have e2 : ∀ l : List (SctM × Nat), (l.filter fun q => hasR o q.2).flatMap (fun q => relsOf o ((q.2 : Int) + 1)) = l.flatMap fun q => relsOf o ((q.2 : Int) + 1) := by
    intro l
    induction l with
    | nil => rfl
    | cons q t ih =>
      cases hq : hasR o q.2 with
      | true => rw [List.filter_cons_of_pos (by exact hq), List.flatMap_cons, List.flatMap_cons, ih]
      | false =>
        have : relsOf o ((q.2 : Int) + 1) = [] := relsL_empty (by unfold hasR at hq; simpa using hq)
        rw [List.filter_cons_of_neg (by rw [hq]; decide), List.flatMap_cons, this, List.nil_append, ih]
  rw [e2]
  have e3 : o.ss.zipIdx.flatMap (fun q => relsOf o ((q.2 : Int) + 1)) = (o.ss.zipIdx.map Prod.snd).flatMap fun i : Nat => relsOf o ((i : Int) + 1) := by rw [List.flatMap_map]
  rw [e3, List.zipIdx_map_snd, ← List.range_eq_range']
  exact sorted_parts o.rs h.ro o.ss.length (fun r hr => (h.rs r hr).2)
/-- Symbols, out of theirs, and their names' table. -/
def symOf (T c : List Int) : SymM := ⟨nmAt T ((symV c).getD 0 0).toNat, (symV c).getD 1 0 / 16, (symV c).getD 2 0 == 2, uW ((symV c).getD 3 0), (symV c).getD 4 0, (symV c).getD 5 0⟩
theorem tbl_step (fs : List (List Int)) (s : List Int) : (tbl (fsStep fs s)).length ≤ (tbl fs).length + s.length + 1 := by
  unfold fsStep
  split
  · omega
  · rw [tbl_length_snoc]; omega
theorem tbl_fsts_le (ns : List (List Int)) (k : Nat) (h : ∀ s ∈ ns, s.length ≤ k) : (tbl (fsts ns)).length ≤ 1 + (k + 1) * ns.length := by
  refine snoc_ind (P := fun ns => (∀ s ∈ ns, s.length ≤ k) → (tbl (fsts ns)).length ≤ 1 + (k + 1) * ns.length) ?_ ?_ ns h
  · intro _; simp [fsts, tbl]
  · intro l a ih h
    have h1 := ih (fun s hs => h s (by simp [hs]))
    have h2 := tbl_step (fsts l) a
    have h3 := h a (by simp)
    rw [fsts_snoc, List.length_append, List.length_singleton, Nat.mul_add, Nat.mul_one]
    omega
theorem yplc_le {o : ObjM} (h : OkO o) {y : SymM} (hy : y ∈ o.ys) : plc (fsts (yNames o)) y.nm ≤ 65535 ∧ (y.nm ∈ fsts (yNames o)) ∧ ∀ x ∈ y.nm, x ≠ 0 := by
  have hm := mayNm_true (h.ys y hy).1
  have h0 : y.nm ≠ [] := fun e => by have := hm.1; rw [e] at this; simp at this
  have hmem : y.nm ∈ fsts (yNames o) := mem_fsts.2 ⟨List.mem_map.2 ⟨y, hy, rfl⟩, h0⟩
  have hin := (plc_in (.inl hmem)).1
  have hle := tbl_fsts_le (yNames o) 32 (fun s hs => by
    obtain ⟨q, hq, rfl⟩ := List.mem_map.1 hs
    exact (mayNm_true (h.ys q hq).1).2.1)
  have hn := h.yn
  have hl : (yNames o).length = o.ys.length := by simp [yNames]
  rw [hl] at hle
  refine ⟨by omega, hmem, fun x hx => ?_⟩
  have := of_decide_eq_true (hm.2.2 x hx)
  omega
theorem symOf_back {o : ObjM} (h : OkO o) {y : SymM} (hy : y ∈ o.ys) : symOf (tbl (fsts (yNames o))) (symM (fsts (yNames o)) y) = y := by
  obtain ⟨h1, h2, h3⟩ := yplc_le h hy
  have hst := (h.ys y hy).2
  have hsn := h.sn
  obtain ⟨hb, _, hw, _, _⟩ := stands_has hst
  have hbk := sym_back (n := o.ss.length) ⟨Int.natCast_nonneg (plc (fsts (yNames o)) y.nm), by omega⟩ (by omega) hst
  unfold symOf symM
  rw [hbk]
  unfold symN
  simp only [List.getD_cons_zero, List.getD_cons_succ]
  have e1 : 16 * y.bind / 16 = y.bind := by omega
  have e2 : (hidN y.hid == 2) = y.hid := by cases y.hid <;> rfl
  have e3 : uW (wU y.wh) = y.wh := uW_wU (by omega)
  rw [Int.toNat_natCast, nmAt_plc (.inl h2) h3, e1, e2, e3]
theorem syms_back {o : ObjM} (h : OkO o) : (chunk 24 ((symsL o).drop 24)).map (symOf (tbl (fsts (yNames o)))) = o.ys := by
  have e : (symsL o).drop 24 = o.ys.flatMap (symM (fsts (yNames o))) := List.drop_left' (by simp)
  rw [e, chunk_flat (by decide) (symM (fsts (yNames o))) _ (fun y _ => symL_length _ _ _ _ _ _), List.map_map]
  have : ∀ y ∈ o.ys, (symOf (tbl (fsts (yNames o))) ∘ symM (fsts (yNames o))) y = y := fun y hy => symOf_back h hy
  rw [List.map_congr_left this, List.map_id']
/-- AN OBJECT, OUT OF THE PARTS OF ITS FILE. -/
def objOf (ps : List PartM) : ObjM :=
  ⟨(ps.filter fSec).map secOf,
   match ps.filter (fTy 2), ps.filter (fTy 3) with
   | [y], [t] => (chunk 24 (y.z.drop 24)).map (symOf t.z)
   | _, _ => [],
   (ps.filter (fTy 4)).flatMap relsIn, (ps.filter (fTy 17)).map grpOf⟩
theorem objOf_parts {o : ObjM} (h : OkO o) : objOf (partsO o) = o := by
  unfold objOf
  rw [parts_secs, parts_syms, parts_strs, parts_rels, parts_grps, secs_back h, rels_back h, grps_back h]
  show (⟨o.ss, (chunk 24 ((symsL o).drop 24)).map (symOf (tbl (fsts (yNames o)))), o.rs, o.gs⟩ : ObjM) = o
  rw [syms_back h]
theorem nm_no0 {l : List Int} (h : mayNm l = true) : l ≠ [] ∧ ∀ x ∈ l, x ≠ 0 := by
  have hm := mayNm_true h
  exact ⟨fun e => by have := hm.1; rw [e] at this; simp at this, fun x hx => by have := of_decide_eq_true (hm.2.2 x hx); omega⟩
theorem kind_may {l : List Int} (h : kindN l ≠ 0) : mayNm l = true := by
  cases hm : mayNm l
  · exact absurd (kindN_no hm) h
  · rfl
theorem pre_no0 {a l : List Int} (ha : a ≠ [] ∧ ∀ x ∈ a, x ≠ 0) (h : ∀ x ∈ l, x ≠ 0) : a ++ l ≠ [] ∧ ∀ x ∈ a ++ l, x ≠ 0 := by
  refine ⟨fun e => ha.1 (List.append_eq_nil_iff.1 e).1, fun x hx => ?_⟩
  rcases List.mem_append.1 hx with hx | hx
  · exact ha.2 x hx
  · exact h x hx
theorem zipIdx_lt {α : Type} {l : List α} {q : α × Nat} (h : q ∈ l.zipIdx) : q.2 < l.length ∧ q.1 ∈ l :=
  ⟨by have := List.snd_lt_of_mem_zipIdx h; omega, List.fst_mem_of_mem_zipIdx h⟩
theorem firstN_le {o : ObjM} (h : OkO o) : firstN o ≤ 49 := by
  have h1 := h.sn
  have h2 := h.gn
  have h3 : (o.ss.zipIdx.filter fun q => hasR o q.2).length ≤ o.ss.length := by
    have := List.length_filter_le (fun q : SctM × Nat => hasR o q.2) o.ss.zipIdx
    rwa [List.length_zipIdx] at this
  unfold firstN
  omega
/-- The parts' numbers may be. -/
theorem partsO_ok {o : ObjM} (h : OkO o) : ∀ p ∈ partsO o, PartOk p := by
  have hsn := h.sn
  have hfn := firstN_le h
  have hyn := h.yn
  intro p hp
  unfold partsO at hp
  rcases List.mem_append.1 hp with hp | hp
  · obtain ⟨q, hq, rfl⟩ := List.mem_map.1 hp
    obtain ⟨_, hs⟩ := zipIdx_lt hq
    obtain ⟨hk, ha, hz⟩ := sectB_true (h.ss q.1 hs)
    have ha' := of_decide_eq_true ha
    have hn := nm_no0 (kind_may hk)
    have hfl : 0 ≤ flagK (kindN q.1.nm) ∧ flagK (kindN q.1.nm) ≤ 6 := by
      unfold flagK
      split
      · decide
      · split
        · decide
        · split <;> decide
    unfold sizesB at hz
    by_cases h4 : kindN q.1.nm = 4
    · rw [if_pos h4] at hz
      have := of_decide_eq_true hz
      refine ⟨?_, ?_, ?_, ?_, ?_, ?_, ?_, ?_, ?_, hn⟩ <;> unfold secP <;> dsimp only
      · rw [if_pos h4]; omega
      · split <;> omega
      · omega
      · omega
      · omega
      · omega
      · rw [if_pos h4]; omega
      · intro _; exact List.length_eq_zero_iff.1 this.1
      · intro e; rw [if_pos h4] at e; exact absurd rfl e
    · rw [if_neg h4] at hz
      refine ⟨?_, ?_, ?_, ?_, ?_, ?_, ?_, ?_, ?_, hn⟩ <;> unfold secP <;> dsimp only
      · rw [if_neg h4]; omega
      · split <;> omega
      · omega
      · omega
      · omega
      · omega
      · rw [if_neg h4]; omega
      · intro e; rw [if_neg h4] at e; omega
      · intro _; rw [if_neg h4]
  · rcases List.mem_append.1 hp with hp | hp
    · obtain ⟨g, hg, rfl⟩ := List.mem_map.1 hp
      refine ⟨?_, ?_, ?_, ?_, ?_, ?_, ?_, ?_, ?_, pre_no0 (by decide) (nm_no0 (h.gs g hg).1).2⟩ <;> unfold grpP <;> dsimp only
      · omega
      · omega
      · omega
      · omega
      · omega
      · omega
      · omega
      · intro e; omega
      · intro _; trivial
    · rcases List.mem_append.1 hp with hp | hp
      · obtain ⟨q, hq, rfl⟩ := List.mem_map.1 hp
        obtain ⟨hi, hs⟩ := zipIdx_lt (List.mem_filter.1 hq).1
        have hk := (sectB_true (h.ss q.1 hs)).1
        refine ⟨?_, ?_, ?_, ?_, ?_, ?_, ?_, ?_, ?_, pre_no0 (by decide) (nm_no0 (kind_may hk)).2⟩ <;> unfold relPt <;> dsimp only
        · omega
        · omega
        · omega
        · omega
        · omega
        · omega
        · omega
        · intro e; omega
        · intro _; trivial
      · have hl : locsN o ≤ o.ys.length := List.length_filter_le _ _
        rw [List.mem_cons, List.mem_singleton] at hp
        rcases hp with rfl | rfl
        · refine ⟨?_, ?_, ?_, ?_, ?_, ?_, ?_, ?_, ?_, (by decide : syNm ≠ [] ∧ ∀ x ∈ syNm, x ≠ 0)⟩ <;> unfold symPt <;> dsimp only
          · omega
          · omega
          · omega
          · omega
          · omega
          · omega
          · omega
          · intro e; omega
          · intro _; trivial
        · refine ⟨?_, ?_, ?_, ?_, ?_, ?_, ?_, ?_, ?_, (by decide : stNm ≠ [] ∧ ∀ x ∈ stNm, x ≠ 0)⟩ <;> unfold strPt <;> dsimp only
          · omega
          · omega
          · omega
          · omega
          · omega
          · omega
          · omega
          · intro e; omega
          · intro _; trivial
/-- UNLIKE OBJECTS HAVE UNLIKE FILES. -/
theorem fileO_inj {o q : ObjM} (ho : OkO o) (hq : OkO q) (hf : (fileO o).length ≤ 65536) (hg : (fileO q).length ≤ 65536) (e : fileO o = fileO q) : o = q := by
  have := fileP_inj (partsO_ok ho) (partsO_ok hq) hf hg e
  rw [← objOf_parts ho, ← objOf_parts hq, this]

def sctNo : SctM := ⟨[], 0, [], 0⟩
def symNo : SymM := ⟨[], 0, false, 0, 0, 0⟩
def relNo : RelM := ⟨0, 0, 0, 0, 0⟩
def grpNo : GrpM := ⟨[], []⟩
def sctB (s : SctM) : Bool := sectB s.nm s.al s.z.length s.sz
/-- How many bytes a section has. -/
def sizeM (s : SctM) : Int := (s.z.length : Int) + s.sz
theorem sizeM_kind {s : SctM} (h : sctB s = true) : sizeM s = if kindN s.nm = 4 then s.sz else s.z.length := by
  obtain ⟨_, _, h3⟩ := sectB_true h
  unfold sizesB at h3
  unfold sizeM
  by_cases hk : kindN s.nm = 4
  · rw [if_pos hk] at h3 ⊢
    have := of_decide_eq_true h3
    omega
  · rw [if_neg hk] at h3 ⊢
    have := of_decide_eq_true h3
    omega

/-! ### Symbols -/
/-- May a symbol be in an object of these sections? -/
def symIn (ss : List SctM) (y : SymM) : Bool :=
  (mayNm y.nm && standsB y.bind y.hid y.wh y.val y.sz ss.length) && (decide (y.wh ≤ 0) || decide (y.val + y.sz ≤ sizeM (ss.getD (y.wh - 1).toNat sctNo)))
/-- May a symbol stand behind another one? -/
def symTwo (q y : SymM) : Bool := decide (q.bind = 0) || (decide (y.bind ≠ 0) && decide (q.nm ≠ y.nm))
def symAt (ss : List SctM) (ys : List SymM) (i : Nat) : Bool := symIn ss (ys.getD i symNo) && (List.range i).all fun k => symTwo (ys.getD k symNo) (ys.getD i symNo)
def symsB (ss : List SctM) (ys : List SymM) : Bool := decide (ys.length ≤ 64) && (List.range ys.length).all (symAt ss ys)

/-! ### Relocations -/
def plcM (r : RelM) (l : List SctM) : Bool :=
  decide (0 ≤ abtN r.ty ∧ 1 ≤ r.sec ∧ r.sec ≤ l.length) &&
  (kndX r.ty r.off (kindN (l.getD (r.sec - 1).toNat sctNo).nm) && decide (0 ≤ r.off) && decide (abtN r.ty ≤ ((l.getD (r.sec - 1).toNat sctNo).z.length : Int) - r.off) &&
   filX r.ty r.ad (((l.getD (r.sec - 1).toNat sctNo).z.length : Int) - r.off))
def mayM (r : RelM) (l : List SctM) (n : Int) : Bool := adB r.ad && bndX r.ty r.sy n && plcM r l
/-- How many bytes a relocation has. -/
def bytN (r : RelM) : Int := if r.ty = 43 then r.ad else abtN r.ty
def sumB (a b : RelM) : Bool := decide (33 ≤ a.ty ∧ a.ty ≤ 36 ∧ b.ty = a.ty + 4) || decide (33 ≤ b.ty ∧ b.ty ≤ 36 ∧ a.ty = b.ty + 4)
def apartB (a b : RelM) : Bool :=
  (decide (a.sec ≠ b.sec) || decide (bytN a = 0) || decide (bytN b = 0) || decide (a.off + bytN a ≤ b.off) || decide (b.off + bytN b ≤ a.off)) || (decide (a.off = b.off) && sumB a b)
/-- So many bytes of nops. -/
def fillL (m : Nat) : List Int := (if m % 4 = 2 then [1, 0] else []) ++ (List.replicate (m / 4) [19, 0, 0, 0]).flatten
theorem fillL_length {m : Nat} (h : m % 2 = 0) : (fillL m).length = m := by
  have e : ∀ k : Nat, ((List.replicate k [(19 : Int), 0, 0, 0]).flatten).length = 4 * k := by
    intro k
    induction k with
    | zero => rfl
    | succ k ih => rw [List.replicate_succ, List.flatten_cons, List.length_append, ih]; simp; omega
  unfold fillL
  rw [List.length_append, e]
  split
  · simp; omega
  · simp; omega
/-- Are an RAlign's bytes filled up? -/
def fillB (r : RelM) (l : List SctM) : Bool := decide (r.ty ≠ 43) || decide (((l.getD (r.sec - 1).toNat sctNo).z.drop r.off.toNat).take r.ad.toNat = fillL r.ad.toNat)
/-- May a relocation stand behind another one? -/
def relTwo (q r : RelM) : Bool := decide (q.sec < r.sec ∨ q.sec = r.sec ∧ q.off ≤ r.off) && apartB q r
def relAt (ss : List SctM) (n : Int) (rs : List RelM) (i : Nat) : Bool := (mayM (rs.getD i relNo) ss n && fillB (rs.getD i relNo) ss) && (List.range i).all fun k => relTwo (rs.getD k relNo) (rs.getD i relNo)
def relsB (ss : List SctM) (n : Int) (rs : List RelM) : Bool := decide (rs.length ≤ 256) && (List.range rs.length).all (relAt ss n rs)

/-! ### Groups -/
/-- The group that a section is in; below 0: none. -/
def grIx (gs : List GrpM) (n : Int) : Int := match gs.findIdx? fun g => g.l.contains n with | some i => i | none => -1
def grNum (k : Nat) (gs : List GrpM) (i : Nat) (l : List Int) (j : Nat) : Bool :=
  decide (1 ≤ l.getD j 0 ∧ l.getD j 0 ≤ k) && (decide (j = 0) || decide (l.getD (j - 1) 0 < l.getD j 0)) && decide (grIx gs (l.getD j 0) = i)
def grpAt (k : Nat) (gs : List GrpM) (i : Nat) : Bool :=
  (mayNm (gs.getD i grpNo).nm && decide (1 ≤ (gs.getD i grpNo).l.length ∧ (gs.getD i grpNo).l.length ≤ k)) &&
  ((List.range i).all fun j => decide ((gs.getD j grpNo).nm ≠ (gs.getD i grpNo).nm)) &&
  (List.range (gs.getD i grpNo).l.length).all (grNum k gs i (gs.getD i grpNo).l)
def grpsB (k : Nat) (gs : List GrpM) : Bool := decide (gs.length ≤ 16) && (List.range gs.length).all (grpAt k gs)

/-- MAY AN OBJECT BE? -/
def okO (o : ObjM) : Bool := ((decide (o.ss.length ≤ 16) && o.ss.all sctB) && symsB o.ss o.ys) && (relsB o.ss o.ys.length o.rs && grpsB o.ss.length o.gs)

theorem all_range {n : Nat} {f : Nat → Bool} : (List.range n).all f = true ↔ ∀ i, i < n → f i = true := by
  rw [List.all_eq_true]
  exact ⟨fun h i hi => h i (List.mem_range.2 hi), fun h i hi => h i (List.mem_range.1 hi)⟩
theorem getD_of_lt {α : Type} {l : List α} {i : Nat} (h : i < l.length) (d : α) : l.getD i d = l[i] := by rw [List.getD, List.getElem?_eq_getElem h]; rfl
theorem getD_in {α : Type} {l : List α} {i : Nat} (h : i < l.length) (d : α) : l.getD i d ∈ l := by rw [getD_of_lt h]; exact List.getElem_mem h
theorem mem_at {α : Type} {l : List α} {x : α} (h : x ∈ l) (d : α) : ∃ i, i < l.length ∧ l.getD i d = x := by
  obtain ⟨i, hi, rfl⟩ := List.mem_iff_getElem.1 h
  exact ⟨i, hi, getD_of_lt hi d⟩
structure OkP (o : ObjM) : Prop where
  sn : o.ss.length ≤ 16
  ss : ∀ s ∈ o.ss, sctB s = true
  yn : o.ys.length ≤ 64
  ys : ∀ i, i < o.ys.length → symAt o.ss o.ys i = true
  rn : o.rs.length ≤ 256
  rs : ∀ i, i < o.rs.length → relAt o.ss o.ys.length o.rs i = true
  gn : o.gs.length ≤ 16
  gs : ∀ i, i < o.gs.length → grpAt o.ss.length o.gs i = true
theorem okO_iff (o : ObjM) : okO o = true ↔ OkP o := by
  unfold okO symsB relsB grpsB
  simp only [Bool.and_eq_true, decide_eq_true_eq, List.all_eq_true, List.mem_range]
  constructor
  · rintro ⟨⟨⟨h1, h2⟩, h3, h4⟩, ⟨h5, h6⟩, h7, h8⟩
    exact ⟨h1, h2, h3, h4, h5, h6, h7, h8⟩
  · intro h
    exact ⟨⟨⟨h.sn, h.ss⟩, h.yn, h.ys⟩, ⟨h.rn, h.rs⟩, h.gn, h.gs⟩
theorem mayM_has {r : RelM} {l : List SctM} {n : Int} (h : mayM r l n = true) :
    (-2147483648 ≤ r.ad ∧ r.ad ≤ 4294967295) ∧ 0 ≤ abtN r.ty ∧ (1 ≤ r.sec ∧ r.sec ≤ l.length) ∧ 0 ≤ r.off ∧ r.off + abtN r.ty ≤ ((l.getD (r.sec - 1).toNat sctNo).z.length : Int) ∧ bndX r.ty r.sy n = true ∧ filX r.ty r.ad (((l.getD (r.sec - 1).toNat sctNo).z.length : Int) - r.off) = true := by
  unfold mayM at h
  rw [Bool.and_eq_true, Bool.and_eq_true] at h
  obtain ⟨⟨h1, h2⟩, h3⟩ := h
  unfold plcM at h3
  rw [Bool.and_eq_true, Bool.and_eq_true, Bool.and_eq_true, Bool.and_eq_true, decide_eq_true_eq, decide_eq_true_eq, decide_eq_true_eq] at h3
  have ha := of_decide_eq_true h1
  exact ⟨ha, h3.1.1, h3.1.2, h3.2.1.1.2, by omega, h2, h3.2.2⟩
theorem sct_len {s : SctM} (h : sctB s = true) : s.z.length ≤ 4096 := by
  obtain ⟨_, _, h3⟩ := sectB_true h
  unfold sizesB at h3
  split at h3
  · have := of_decide_eq_true h3; omega
  · have := of_decide_eq_true h3; omega
/-- What may be has all that its file wants. -/
theorem okO_OkO {o : ObjM} (h : OkP o) : OkO o := by
  refine ⟨h.ss, h.sn, ?_, h.yn, ?_, h.rn, ?_, ?_, h.gn⟩
  · intro y hy
    obtain ⟨i, hi, rfl⟩ := mem_at hy symNo
    have := h.ys i hi
    unfold symAt symIn at this
    rw [Bool.and_eq_true, Bool.and_eq_true, Bool.and_eq_true] at this
    exact this.1.1
  · intro r hr
    obtain ⟨i, hi, rfl⟩ := mem_at hr relNo
    have := h.rs i hi
    unfold relAt at this
    rw [Bool.and_eq_true, Bool.and_eq_true] at this
    obtain ⟨h1, h2, h3, h4, h5, h6, _⟩ := mayM_has this.1.1
    have hk : ((o.rs.getD i relNo).sec - 1).toNat < o.ss.length := by omega
    have hz := sct_len (h.ss _ (getD_in hk sctNo))
    have hb := bnd_lt (Int.natCast_nonneg _) h6
    have hyn := h.yn
    refine ⟨?_, h3⟩
    unfold codX
    rw [Bool.and_eq_true]
    exact ⟨decide_eq_true (by omega), decide_eq_true h1⟩
  · rw [List.pairwise_iff_getElem]
    intro i j hi hj hij
    have := h.rs j hj
    unfold relAt at this
    rw [Bool.and_eq_true, all_range] at this
    have h2 := this.2 i hij
    unfold relTwo at h2
    rw [Bool.and_eq_true, decide_eq_true_eq, getD_of_lt hi, getD_of_lt hj] at h2
    omega
  · intro g hg
    obtain ⟨i, hi, rfl⟩ := mem_at hg grpNo
    have := h.gs i hi
    unfold grpAt at this
    rw [Bool.and_eq_true, Bool.and_eq_true, Bool.and_eq_true] at this
    refine ⟨this.1.1.1, fun n hn => ?_⟩
    obtain ⟨j, hj, rfl⟩ := mem_at hn 0
    have h2 := all_range.1 this.2 j hj
    unfold grNum at h2
    rw [Bool.and_eq_true, Bool.and_eq_true, decide_eq_true_eq] at h2
    exact h2.1.1

/-! ### Without the last one -/
theorem getD_dropLast {α : Type} {l : List α} {i : Nat} (h : i < l.length - 1) (d : α) : l.dropLast.getD i d = l.getD i d := by
  have h1 : i < l.dropLast.length := by rw [List.length_dropLast]; exact h
  rw [getD_of_lt h1, getD_of_lt (by omega), List.getElem_dropLast]
theorem okO_rels {o : ObjM} (h : OkP o) : OkP { o with rs := o.rs.dropLast } := by
  refine ⟨h.sn, h.ss, h.yn, h.ys, ?_, ?_, h.gn, h.gs⟩
  · have := h.rn
    show o.rs.dropLast.length ≤ 256
    rw [List.length_dropLast]; omega
  · intro i hi
    have hi' : i < o.rs.length - 1 := by rw [← List.length_dropLast]; exact hi
    have := h.rs i (by omega)
    show relAt o.ss o.ys.length o.rs.dropLast i = true
    unfold relAt at this ⊢
    rw [Bool.and_eq_true, all_range] at this ⊢
    rw [getD_dropLast hi']
    refine ⟨this.1, fun k hk => ?_⟩
    rw [getD_dropLast (by omega)]
    exact this.2 k hk
theorem grIx_dropLast {gs : List GrpM} {n : Int} {i : Nat} (h : grIx gs n = i) (hi : i < gs.length - 1) : grIx gs.dropLast n = i := by
  unfold grIx at h ⊢
  cases hq : gs.findIdx? fun g => g.l.contains n with
  | none =>
    rw [hq] at h
    dsimp only at h
    omega
  | some j =>
    rw [hq] at h
    dsimp only at h
    have hj : j = i := by omega
    subst hj
    have h2 : gs.dropLast.findIdx? (fun g => g.l.contains n) = some j := by
      rw [List.findIdx?_eq_some_iff_getElem] at hq ⊢
      obtain ⟨hj, h3, h4⟩ := hq
      have hj' : j < gs.dropLast.length := by rw [List.length_dropLast]; exact hi
      refine ⟨hj', ?_, fun k hk => ?_⟩
      · rw [List.getElem_dropLast]; exact h3
      · rw [List.getElem_dropLast]; exact h4 k hk
    rw [h2]
theorem okO_grps {o : ObjM} (h : OkP o) : OkP { o with gs := o.gs.dropLast } := by
  refine ⟨h.sn, h.ss, h.yn, h.ys, h.rn, h.rs, ?_, ?_⟩
  · have := h.gn
    show o.gs.dropLast.length ≤ 16
    rw [List.length_dropLast]; omega
  · intro i hi
    have hi' : i < o.gs.length - 1 := by rw [← List.length_dropLast]; exact hi
    have := h.gs i (by omega)
    show grpAt o.ss.length o.gs.dropLast i = true
    unfold grpAt at this ⊢
    rw [Bool.and_eq_true, Bool.and_eq_true, all_range, all_range] at this ⊢
    rw [getD_dropLast hi']
    obtain ⟨⟨h1, h2⟩, h3⟩ := this
    refine ⟨⟨h1, fun k hk => ?_⟩, fun j hj => ?_⟩
    · rw [getD_dropLast (by omega)]
      exact h2 k hk
    · have h4 := h3 j hj
      unfold grNum at h4 ⊢
      rw [Bool.and_eq_true, Bool.and_eq_true, decide_eq_true_eq, decide_eq_true_eq] at h4 ⊢
      exact ⟨h4.1, grIx_dropLast h4.2 hi'⟩

/-! ### What is answered -/
def chO (o : ObjM) : Int := if okO o = true then 0 else 8
def woE (o : ObjM) : Int := if okO o = true then (if (fileO o).length ≤ 65536 then 0 else 9) else 8
def woL (o : ObjM) : List Int := if woE o = 0 then fileO o else []
theorem wo_cases (o : ObjM) : (woE o = 8 ∧ woL o = [] ∧ okO o = false) ∨ (woE o = 9 ∧ woL o = [] ∧ okO o = true ∧ 65536 < (fileO o).length) ∨ (woE o = 0 ∧ woL o = fileO o ∧ okO o = true ∧ (fileO o).length ≤ 65536) := by
  cases h : okO o with
  | false =>
    have e : woE o = 8 := by unfold woE; rw [h]; rfl
    exact .inl ⟨e, by unfold woL; rw [e]; rfl, rfl⟩
  | true =>
    by_cases hf : (fileO o).length ≤ 65536
    · have e : woE o = 0 := by unfold woE; rw [if_pos h, if_pos hf]
      exact .inr (.inr ⟨e, by unfold woL; rw [if_pos e], rfl, hf⟩)
    · have e : woE o = 9 := by unfold woE; rw [if_pos h, if_neg hf]
      exact .inr (.inl ⟨e, by unfold woL; rw [e]; rfl, rfl, by omega⟩)
/-- TWO OBJECTS THAT ARE NOT THE SAME HAVE NOT THE SAME FILE. -/
theorem wo_inj {o q : ObjM} (h : woE o = 0) (h' : woE q = 0) : woL o = woL q ↔ o = q := by
  refine ⟨fun e => ?_, fun e => by rw [e]⟩
  rcases wo_cases o with ⟨a, _⟩ | ⟨a, _⟩ | ⟨_, a, b, c⟩
  · omega
  · omega
  · rcases wo_cases q with ⟨a', _⟩ | ⟨a', _⟩ | ⟨_, a', b', c'⟩
    · omega
    · omega
    · rw [a, a'] at e
      exact fileO_inj (okO_OkO ((okO_iff o).1 b)) (okO_OkO ((okO_iff q).1 b')) c c' e
end Go.Proofs.YtljmgbpecoifnaaGreatDoor
