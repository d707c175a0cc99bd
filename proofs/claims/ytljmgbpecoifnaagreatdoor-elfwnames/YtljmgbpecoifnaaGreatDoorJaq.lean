/- A file's heads and bytes, read: with no Go in sight. The relocations' parts, one relocation behind the other: mathematics. -/
import Derived.Test.YtljmgbpecoifnaaGreatDoorJad
import Derived.Test.YtljmgbpecoifnaaGreatDoorWm
import Derived.Test.YtljmgbpecoifnaaGreatDoorJao
namespace Go.Proofs.YtljmgbpecoifnaaGreatDoor

/-! ### Heads, read -/
/-- The bytes of the j-th head behind the first one. -/
def hdB (b : List Int) (place j : Nat) : List Int := (b.drop (place + 64 * (j + 1))).take 64
theorem fileP_read {bs : List PartM} (h : ∀ p ∈ bs, PartOk p) (hf : (fileP bs).length ≤ 65536) {j : Nat} (hj : j < bs.length + 1) :
    (hdB (fileP bs) (outL bs).length j).length = 64 ∧ rdE (hdB (fileP bs) (outL bs).length j) = 0 ∧
    rdV (hdB (fileP bs) (outL bs).length j) = hdV ((allP bs).getD j partNo) (plc (fsts (namesP bs)) ((allP bs).getD j partNo).nm) ((layO 64 (allP bs)).getD j 0) := by
  have e := fileP_head bs j hj
  have ho := headsP_ok h hf j hj
  have e2 : hdB (fileP bs) (outL bs).length j = headL ((headsP bs).getD j []) := e
  have hl : ((headsP bs).getD j []).length = 10 := by rw [headsP_at bs j hj]; rfl
  have h64 := headL_length hl
  have hb := head_back ho.1 ho.2
  have hr := rd_ok (b := headL ((headsP bs).getD j [])) h64 (by rw [hb]; exact ho.1)
  rw [e2, ← headsP_at bs j hj]
  exact ⟨h64, hr.1, by rw [hr.2, hb]⟩
/-- All that a file's head tells. -/
theorem fileP_first {bs : List PartM} (hf : (fileP bs).length ≤ 65536) :
    sOf (nuN (((fileP bs).drop 40).take 8)) = ((outL bs).length : Int) ∧ sOf (nuN (((fileP bs).drop 60).take 2)) = ((bs.length + 2 : Nat) : Int) ∧ 64 ≤ (outL bs).length ∧ (fileP bs).length = (outL bs).length + 64 * (bs.length + 2) := by
  have h1 := fileP_length bs
  have h2 := bodyL_ge bs
  have h3 := outL_ge bs
  have e8 : (256 : Nat) ^ 8 = 18446744073709551616 := by decide
  have e2 : (256 : Nat) ^ 2 = 65536 := by decide
  refine ⟨?_, ?_, by omega, h1⟩
  · rw [fileP_place, nuN_byN, uOf_nonneg _ (by omega) (by omega), Int.toNat_natCast, e8, Nat.mod_eq_of_lt (by omega), sOf_small _ (by omega)]
  · rw [fileP_many, nuN_byN, uOf_nonneg _ (by omega) (by omega), Int.toNat_natCast, e2, Nat.mod_eq_of_lt (by omega), sOf_small _ (by omega)]
/-- Where a part's bytes are. -/
theorem fileP_in (bs : List PartM) {j : Nat} (hj : j < bs.length + 1) : 64 ≤ (layO 64 (allP bs)).getD j 0 ∧ (layO 64 (allP bs)).getD j 0 + ((allP bs).getD j partNo).z.length ≤ (outL bs).length := by
  have hi' : j < (allP bs).length := by rw [allP_length]; exact hj
  have h1 := layO_at 64 (allP bs) j hi'
  have hl : (bodyL bs).length = layN 64 (allP bs) := by unfold bodyL; rw [layB_length, List.length_replicate]
  have h3 := outL_ge bs
  omega

/-! ### All bytes are bytes -/
theorem padB_range {b : List Int} (m : Nat) (h : ∀ x ∈ b, 0 ≤ x ∧ x < 256) : ∀ x ∈ padB b m, 0 ≤ x ∧ x < 256 := by
  intro x hx
  unfold padB at hx
  rcases List.mem_append.1 hx with hx | hx
  · exact h x hx
  · rw [List.mem_replicate] at hx; rw [hx.2]; decide
theorem layB_range (b : List Int) (ps : List PartM) (hb : ∀ x ∈ b, 0 ≤ x ∧ x < 256) (h : ∀ p ∈ ps, ∀ x ∈ p.z, 0 ≤ x ∧ x < 256) : ∀ x ∈ layB b ps, 0 ≤ x ∧ x < 256 := by
  induction ps generalizing b with
  | nil => exact hb
  | cons p r ih =>
    refine ih (padB b p.al ++ p.z) ?_ (fun q hq => h q (by simp [hq]))
    intro x hx
    rcases List.mem_append.1 hx with hx | hx
    · exact padB_range _ hb x hx
    · exact h p (by simp) x hx
theorem fhL_range (place many : Nat) : ∀ x ∈ fhL place many, 0 ≤ x ∧ x < 256 := by
  have h1 : ∀ x ∈ ([127, 69, 76, 70, 2, 1, 1, 0, 0, 0, 0, 0, 0, 0, 0, 0] : List Int), 0 ≤ x ∧ x < 256 := by decide
  have h2 : ∀ x ∈ ([64, 0, 0, 0, 0, 0, 64, 0] : List Int), 0 ≤ x ∧ x < 256 := by decide
  have h3 : ∀ x ∈ List.replicate 16 (0 : Int), 0 ≤ x ∧ x < 256 := by decide
  intro x hx
  unfold fhL at hx
  simp only [List.mem_append] at hx
  rcases hx with hx | hx | hx | hx | hx | hx | hx | hx | hx | hx
  · exact h1 x hx
  · exact byN_range _ _ x hx
  · exact byN_range _ _ x hx
  · exact byN_range _ _ x hx
  · exact h3 x hx
  · exact byN_range _ _ x hx
  · exact byN_range _ _ x hx
  · exact h2 x hx
  · exact byN_range _ _ x hx
  · exact byN_range _ _ x hx
theorem hdsL_range (l : List (List Int)) : ∀ x ∈ hdsL l, 0 ≤ x ∧ x < 256 := by
  intro x hx
  obtain ⟨v, _, hx⟩ := List.mem_flatMap.1 hx
  exact putAll_range _ x hx
theorem fileP_range {bs : List PartM} (h : ∀ p ∈ bs, (∀ x ∈ p.z, 0 ≤ x ∧ x < 256) ∧ ∀ x ∈ p.nm, 0 ≤ x ∧ x < 256) : ∀ x ∈ fileP bs, 0 ≤ x ∧ x < 256 := by
  have hz : ∀ x ∈ List.replicate 64 (0 : Int), 0 ≤ x ∧ x < 256 := by decide
  have hsh : ∀ x ∈ shNm, 0 ≤ x ∧ x < 256 := by decide
  have hall : ∀ p ∈ allP bs, ∀ x ∈ p.z, 0 ≤ x ∧ x < 256 := by
    intro p hp
    unfold allP at hp
    rcases List.mem_append.1 hp with hp | hp
    · exact (h p hp).1
    · rw [List.mem_singleton] at hp
      subst hp
      refine tbl_small _ fun s hs => ?_
      have hm := (mem_fsts.1 hs).1
      unfold namesP at hm
      rcases List.mem_append.1 hm with hm | hm
      · obtain ⟨q, hq, rfl⟩ := List.mem_map.1 hm
        exact (h q hq).2
      · rw [List.mem_singleton] at hm; subst hm; exact hsh
  have ho : ∀ x ∈ outL bs, 0 ≤ x ∧ x < 256 := padB_range _ (layB_range _ _ hz hall)
  intro x hx
  unfold fileP at hx
  rcases List.mem_append.1 hx with hx | hx
  · exact fhL_range _ _ x hx
  · rcases List.mem_append.1 hx with hx | hx
    · exact ho x (List.mem_of_mem_drop hx)
    · rcases List.mem_append.1 hx with hx | hx
      · exact hz x hx
      · exact hdsL_range _ x hx
theorem may_range {l : List Int} (h : mayNm l = true) : ∀ x ∈ l, 0 ≤ x ∧ x < 256 := by
  intro x hx
  have := of_decide_eq_true ((mayNm_true h).2.2 x hx)
  omega
theorem flat_range {α : Type} (f : α → List Int) (l : List α) (h : ∀ a ∈ l, ∀ x ∈ f a, 0 ≤ x ∧ x < 256) : ∀ x ∈ l.flatMap f, 0 ≤ x ∧ x < 256 := by
  intro x hx
  obtain ⟨a, ha, hx⟩ := List.mem_flatMap.1 hx
  exact h a ha x hx
theorem app_range {a b : List Int} (ha : ∀ x ∈ a, 0 ≤ x ∧ x < 256) (hb : ∀ x ∈ b, 0 ≤ x ∧ x < 256) : ∀ x ∈ a ++ b, 0 ≤ x ∧ x < 256 := by
  intro x hx
  rcases List.mem_append.1 hx with hx | hx
  · exact ha x hx
  · exact hb x hx
theorem fileO_range {o : ObjM} (h : OkO o) (hz : ∀ s ∈ o.ss, ∀ x ∈ s.z, 0 ≤ x ∧ x < 256) : ∀ x ∈ fileO o, 0 ≤ x ∧ x < 256 := by
  have hgp : ∀ x ∈ gpNm, 0 ≤ x ∧ x < 256 := by decide
  have hrl : ∀ x ∈ rlNm, 0 ≤ x ∧ x < 256 := by decide
  have hsy : ∀ x ∈ syNm, 0 ≤ x ∧ x < 256 := by decide
  have hst : ∀ x ∈ stNm, 0 ≤ x ∧ x < 256 := by decide
  have h24 : ∀ x ∈ List.replicate 24 (0 : Int), 0 ≤ x ∧ x < 256 := by decide
  refine fileP_range fun p hp => ?_
  unfold partsO at hp
  rcases List.mem_append.1 hp with hp | hp
  · obtain ⟨q, hq, rfl⟩ := List.mem_map.1 hp
    obtain ⟨_, hs⟩ := zipIdx_lt hq
    exact ⟨hz q.1 hs, may_range (kind_may (sectB_true (h.ss q.1 hs)).1)⟩
  · rcases List.mem_append.1 hp with hp | hp
    · obtain ⟨g, hg, rfl⟩ := List.mem_map.1 hp
      exact ⟨app_range (byN_range _ _) (flat_range _ _ fun n _ => byN_range _ _), app_range hgp (may_range (h.gs g hg).1)⟩
    · rcases List.mem_append.1 hp with hp | hp
      · obtain ⟨q, hq, rfl⟩ := List.mem_map.1 hp
        obtain ⟨_, hs⟩ := zipIdx_lt (List.mem_filter.1 hq).1
        exact ⟨flat_range _ _ fun r _ => relL_range _ _ _ _, app_range hrl (may_range (kind_may (sectB_true (h.ss q.1 hs)).1))⟩
      · rw [List.mem_cons, List.mem_singleton] at hp
        rcases hp with rfl | rfl
        · exact ⟨app_range h24 (flat_range _ _ fun y _ => symL_range _ _ _ _ _ _), hsy⟩
        · refine ⟨tbl_small _ fun s hs => ?_, hst⟩
          obtain ⟨y, hy, rfl⟩ := List.mem_map.1 (mem_fsts.1 hs).1
          exact may_range (h.ys y hy).1

/-! ### Parts of an object's file -/
theorem secPs_length (o : ObjM) : (secPs o).length = o.ss.length := by simp [secPs]
theorem partsO_length (o : ObjM) : (partsO o).length = firstN o + 1 := by
  unfold partsO firstN
  rw [List.length_append, List.length_append, List.length_append, secPs_length, List.length_map]
  simp [relPs]
  omega
theorem partsO_sec (o : ObjM) {i : Nat} (hi : i < o.ss.length) : (allP (partsO o)).getD i partNo = secP o.gs (o.ss.getD i sctNo) i := by
  have h1 : i < (secPs o).length := by rw [secPs_length]; exact hi
  have h2 : i < (partsO o).length := by unfold partsO; rw [List.length_append]; omega
  have e : (allP (partsO o)).getD i partNo = (secPs o).getD i partNo := by
    unfold allP partsO
    simp only [List.getD]
    rw [List.append_assoc, List.getElem?_append_left h1]
  rw [e, getD_of_lt hi, List.getD]
  unfold secPs
  rw [List.getElem?_map, List.getElem?_zipIdx, List.getElem?_eq_getElem hi]
  simp

/-! ### What is read -/
/-- An object, and what a part adds to it. -/
def moreM (T : List Int) (o : ObjM) (p : PartM) : ObjM :=
  if p.ty = 8 ∨ p.ty = 1 then { o with ss := o.ss ++ [secOf p] }
  else if p.ty = 17 then { o with gs := o.gs ++ [grpOf p] }
  else if p.ty = 4 then { o with rs := o.rs ++ relsIn p }
  else if p.ty = 2 then { o with ys := o.ys ++ (chunk 24 (p.z.drop 24)).map (symOf T) }
  else o
def objNo : ObjM := ⟨[], [], [], []⟩
theorem moreM_all (T : List Int) (ps : List PartM) (o : ObjM) : ps.foldl (moreM T) o =
    ⟨o.ss ++ (ps.filter fSec).map secOf, o.ys ++ (ps.filter (fTy 2)).flatMap (fun p => (chunk 24 (p.z.drop 24)).map (symOf T)), o.rs ++ (ps.filter (fTy 4)).flatMap relsIn, o.gs ++ (ps.filter (fTy 17)).map grpOf⟩ := by
  induction ps generalizing o with
  | nil => simp
  | cons p r ih =>
    rw [List.foldl_cons, ih]
    unfold moreM
    by_cases h1 : p.ty = 8 ∨ p.ty = 1
    · have a : fSec p = true := by unfold fSec; rcases h1 with e | e <;> rw [e] <;> rfl
      have b : fTy 2 p = false := by unfold fTy; rcases h1 with e | e <;> rw [e] <;> rfl
      have c : fTy 4 p = false := by unfold fTy; rcases h1 with e | e <;> rw [e] <;> rfl
      have d : fTy 17 p = false := by unfold fTy; rcases h1 with e | e <;> rw [e] <;> rfl
      rw [if_pos h1, List.filter_cons_of_pos a, List.filter_cons_of_neg (by rw [b]; decide), List.filter_cons_of_neg (by rw [c]; decide), List.filter_cons_of_neg (by rw [d]; decide)]
      simp
    · rw [if_neg h1]
      have a : fSec p = false := by
        unfold fSec
        rw [Bool.or_eq_false_iff, beq_eq_false_iff_ne, beq_eq_false_iff_ne]
        exact ⟨fun e => h1 (.inr e), fun e => h1 (.inl e)⟩
      by_cases h2 : p.ty = 17
      · have b : fTy 2 p = false := by unfold fTy; rw [h2]; rfl
        have c : fTy 4 p = false := by unfold fTy; rw [h2]; rfl
        have d : fTy 17 p = true := by unfold fTy; rw [h2]; rfl
        rw [if_pos h2, List.filter_cons_of_neg (by rw [a]; decide), List.filter_cons_of_neg (by rw [b]; decide), List.filter_cons_of_neg (by rw [c]; decide), List.filter_cons_of_pos d]
        simp
      · rw [if_neg h2]
        have d : fTy 17 p = false := by unfold fTy; rw [beq_eq_false_iff_ne]; exact h2
        by_cases h3 : p.ty = 4
        · have b : fTy 2 p = false := by unfold fTy; rw [h3]; rfl
          have c : fTy 4 p = true := by unfold fTy; rw [h3]; rfl
          rw [if_pos h3, List.filter_cons_of_neg (by rw [a]; decide), List.filter_cons_of_neg (by rw [b]; decide), List.filter_cons_of_pos c, List.filter_cons_of_neg (by rw [d]; decide)]
          simp
        · rw [if_neg h3]
          have c : fTy 4 p = false := by unfold fTy; rw [beq_eq_false_iff_ne]; exact h3
          by_cases h4 : p.ty = 2
          · have b : fTy 2 p = true := by unfold fTy; rw [h4]; rfl
            rw [if_pos h4, List.filter_cons_of_neg (by rw [a]; decide), List.filter_cons_of_pos b, List.filter_cons_of_neg (by rw [c]; decide), List.filter_cons_of_neg (by rw [d]; decide)]
            simp
          · rw [if_neg h4]
            have b : fTy 2 p = false := by unfold fTy; rw [beq_eq_false_iff_ne]; exact h4
            rw [List.filter_cons_of_neg (by rw [a]; decide), List.filter_cons_of_neg (by rw [b]; decide), List.filter_cons_of_neg (by rw [c]; decide), List.filter_cons_of_neg (by rw [d]; decide)]
/-- THE PARTS OF AN OBJECT's FILE, ONE AFTER ANOTHER, MAKE IT. -/
theorem moreM_parts {o : ObjM} (h : OkO o) : (allP (partsO o)).foldl (moreM (tbl (fsts (yNames o)))) objNo = o := by
  have hs : ∀ f : PartM → Bool, f (shP (partsO o)) = false → (allP (partsO o)).filter f = (partsO o).filter f := by
    intro f hf
    unfold allP
    rw [List.filter_append, List.filter_cons_of_neg (by rw [hf]; decide), List.filter_nil, List.append_nil]
  rw [moreM_all, hs fSec rfl, hs (fTy 2) rfl, hs (fTy 4) rfl, hs (fTy 17) rfl, parts_secs, parts_syms, parts_rels, parts_grps, secs_back h, rels_back h, grps_back h]
  have e : [symPt o (firstN o)].flatMap (fun p => (chunk 24 (p.z.drop 24)).map (symOf (tbl (fsts (yNames o))))) = o.ys := by
    rw [List.flatMap_singleton]
    exact syms_back h
  rw [e]
  rfl
/-- The object whose file some bytes are. -/
theorem rdO_ex (b : List Int) : ∃ r : ObjM × Int, (∀ o, okO o = true → fileO o = b → b.length ≤ 65536 → r = (o, 0)) ∧ ((∀ o, okO o = true → fileO o = b → ¬ b.length ≤ 65536) → r = (objNo, 8)) := by
  by_cases h : ∃ o, okO o = true ∧ fileO o = b ∧ b.length ≤ 65536
  · obtain ⟨o, h1, h2, h3⟩ := h
    refine ⟨(o, 0), fun q hq hf hl => ?_, fun hn => absurd h3 (hn o h1 h2)⟩
    have := fileO_inj (okO_OkO ((okO_iff o).1 h1)) (okO_OkO ((okO_iff q).1 hq)) (by rw [h2]; exact h3) (by rw [hf]; exact h3) (by rw [h2, hf])
    rw [this]
  · exact ⟨(objNo, 8), fun q hq hf hl => absurd ⟨q, hq, hf, hl⟩ h, fun _ => rfl⟩
noncomputable def rdO (b : List Int) : ObjM × Int := Classical.choose (rdO_ex b)
theorem rdO_ok {o : ObjM} (h : okO o = true) (hl : (fileO o).length ≤ 65536) : rdO (fileO o) = (o, 0) := (Classical.choose_spec (rdO_ex (fileO o))).1 o h rfl hl
theorem rdO_no {b : List Int} (h : ∀ o, okO o = true → fileO o = b → ¬ b.length ≤ 65536) : rdO b = (objNo, 8) := (Classical.choose_spec (rdO_ex b)).2 h
theorem rdO_cases (b : List Int) : (rdO b = (objNo, 8) ∧ ∀ o, okO o = true → fileO o = b → ¬ b.length ≤ 65536) ∨ ∃ o, rdO b = (o, 0) ∧ okO o = true ∧ fileO o = b ∧ b.length ≤ 65536 := by
  by_cases h : ∃ o, okO o = true ∧ fileO o = b ∧ b.length ≤ 65536
  · obtain ⟨o, h1, h2, h3⟩ := h
    right
    subst h2
    exact ⟨o, rdO_ok h1 h3, h1, rfl, h3⟩
  · left
    have hn : ∀ o, okO o = true → fileO o = b → ¬ b.length ≤ 65536 := fun o h1 h2 h3 => h ⟨o, h1, h2, h3⟩
    exact ⟨rdO_no hn, hn⟩

def wR (o : ObjM) (k : Nat) : ObjM := { o with rs := o.rs.take k }
def rlK (o : ObjM) (f : Int) (k : Nat) : List PartM := relPs (wR o k) f
def rlP (nm : List Int) (f n : Int) (z : List Int) : PartM := ⟨rlNm ++ nm, 4, 64, f, n, 8, 24, 0, z⟩
def prvR (rs : List RelM) (k : Nat) : Int := if k = 0 then 0 else (rs.getD (k - 1) relNo).sec

theorem relsOf_step {o : ObjM} {k : Nat} (hk : k < o.rs.length) (n : Int) : relsOf (wR o (k + 1)) n = relsOf (wR o k) n ++ if (o.rs.getD k relNo).sec = n then [o.rs.getD k relNo] else [] := by
  unfold relsOf wR
  dsimp only
  rw [take_snoc relNo o.rs k hk, List.filter_append]
  congr 1
  by_cases h : (o.rs.getD k relNo).sec = n
  · rw [if_pos h, List.filter_cons_of_pos (by simpa using h)]
    rfl
  · rw [if_neg h, List.filter_cons_of_neg (by simpa using h)]
    rfl
theorem relsL_step {o : ObjM} {k : Nat} (hk : k < o.rs.length) (n : Int) : relsL (wR o (k + 1)) n = relsL (wR o k) n ++ if (o.rs.getD k relNo).sec = n then relM (o.rs.getD k relNo) else [] := by
  unfold relsL
  rw [relsOf_step hk, List.flatMap_append]
  congr 1
  split
  · rw [List.flatMap_singleton]
  · rfl
theorem relsL_none {o : ObjM} {n : Int} (h : ∀ r ∈ o.rs, r.sec ≠ n) : relsL o n = [] := by
  unfold relsL relsOf
  rw [List.filter_eq_nil_iff.2 (fun r hr => by simpa using h r hr)]
  rfl
theorem hasR_none {o : ObjM} {i : Nat} (h : ∀ r ∈ o.rs, r.sec ≠ (i : Int) + 1) : hasR o i = false := by
  unfold hasR
  rw [relsL_none h]
  rfl
theorem hasR_some {o : ObjM} {i : Nat} {r : RelM} (h : r ∈ o.rs) (hs : r.sec = (i : Int) + 1) : hasR o i = true := by
  have hm : r ∈ relsOf o ((i : Int) + 1) := List.mem_filter.2 ⟨h, by simpa using hs⟩
  unfold hasR relsL
  cases hl : relsOf o ((i : Int) + 1) with
  | nil => rw [hl] at hm; cases hm
  | cons a t =>
    have e : ((a :: t).flatMap relM).length = 24 + (t.flatMap relM).length := by
      rw [List.flatMap_cons, List.length_append]
      unfold relM
      rw [relL_length]
    cases hf : (a :: t).flatMap relM with
    | nil => rw [hf] at e; simp at e; omega
    | cons => rfl
/-- The parts where no relocation stands behind the section m. -/
def frR (o : ObjM) (f : Int) (m : Nat) : List PartM := ((o.ss.zipIdx.take m).filter fun q => hasR o q.2).map fun q => relPt o f q.1 q.2
theorem relPs_upto {o : ObjM} {f : Int} {m : Nat} (hm : m < o.ss.length) (h : ∀ r ∈ o.rs, r.sec ≤ (m : Int) + 1) :
    relPs o f = frR o f m ++ if hasR o m = true then [relPt o f (o.ss.getD m sctNo) m] else [] := by
  have e : o.ss.zipIdx = o.ss.zipIdx.take m ++ (o.ss.getD m sctNo, m) :: o.ss.zipIdx.drop (m + 1) := by
    have h1 : m < o.ss.zipIdx.length := by simpa using hm
    have h2 := List.drop_eq_getElem_cons h1
    conv => lhs; rw [← List.take_append_drop m o.ss.zipIdx, h2]
    congr 2
    rw [List.getElem_zipIdx, getD_of_lt hm]
    simp
  have hd : (o.ss.zipIdx.drop (m + 1)).filter (fun q => hasR o q.2) = [] := by
    refine List.filter_eq_nil_iff.2 fun q hq => ?_
    obtain ⟨j, hj, rfl⟩ := List.mem_iff_getElem.1 hq
    rw [List.getElem_drop, List.getElem_zipIdx]
    dsimp only
    rw [hasR_none]
    · decide
    · intro r hr
      have := h r hr
      omega
  unfold relPs frR
  conv => lhs; rw [e]
  rw [List.filter_append, List.map_append]
  congr 1
  cases hh : hasR o m
  · rw [List.filter_cons_of_neg (by simp [hh]), hd]
    rfl
  · rw [List.filter_cons_of_pos (by simp [hh]), hd]
    rfl
theorem frR_step {o : ObjM} {f : Int} {k m : Nat} (hk : k < o.rs.length) (hs : (o.rs.getD k relNo).sec = (m : Int) + 1) : frR (wR o (k + 1)) f m = frR (wR o k) f m := by
  have hL : ∀ i : Nat, i < m → relsL (wR o (k + 1)) ((i : Int) + 1) = relsL (wR o k) ((i : Int) + 1) := fun i hi => by
    rw [relsL_step hk, if_neg (by omega), List.append_nil]
  have hin : ∀ q ∈ o.ss.zipIdx.take m, q.2 < m := fun q hq => by
    obtain ⟨j, hj, rfl⟩ := List.mem_iff_getElem.1 hq
    rw [List.getElem_take, List.getElem_zipIdx]
    rw [List.length_take] at hj
    dsimp only
    omega
  unfold frR
  show ((o.ss.zipIdx.take m).filter _).map _ = ((o.ss.zipIdx.take m).filter _).map _
  rw [List.filter_congr (q := fun q => hasR (wR o k) q.2) (fun q hq => by unfold hasR; rw [hL _ (hin q hq)])]
  refine List.map_congr_left fun q hq => ?_
  unfold relPt
  rw [hL _ (hin q (List.mem_filter.1 hq).1)]
/-- A relocation behind those of sections no greater. -/
theorem rlK_succ {o : ObjM} {f : Int} {k m : Nat} (hk : k < o.rs.length) (hs : (o.rs.getD k relNo).sec = (m : Int) + 1) (hm : m < o.ss.length) (h : ∀ r ∈ o.rs.take k, r.sec ≤ (m : Int) + 1) :
    rlK o f (k + 1) = frR (wR o k) f m ++ [rlP (o.ss.getD m sctNo).nm f ((m : Int) + 1) (relsL (wR o k) ((m : Int) + 1) ++ relM (o.rs.getD k relNo))] := by
  have h2 : ∀ r ∈ (wR o (k + 1)).rs, r.sec ≤ (m : Int) + 1 := fun r hr => by
    have hr' : r ∈ o.rs.take (k + 1) := hr
    rw [take_snoc relNo o.rs k hk] at hr'
    rcases List.mem_append.1 hr' with e | e
    · exact h r e
    · rw [List.mem_singleton] at e
      rw [e, hs]
      exact Int.le_refl _
  have hh : hasR (wR o (k + 1)) m = true := hasR_some (r := o.rs.getD k relNo) (by show _ ∈ o.rs.take (k + 1); rw [take_snoc relNo o.rs k hk]; simp) hs
  show relPs (wR o (k + 1)) f = _
  rw [relPs_upto (o := wR o (k + 1)) hm h2, if_pos hh, frR_step hk hs]
  unfold relPt rlP
  rw [relsL_step hk, if_pos hs]
  rfl
theorem rlK_now {o : ObjM} {f : Int} {k m : Nat} (hm : m < o.ss.length) (h : ∀ r ∈ o.rs.take k, r.sec ≤ (m : Int) + 1) :
    rlK o f k = frR (wR o k) f m ++ if hasR (wR o k) m = true then [rlP (o.ss.getD m sctNo).nm f ((m : Int) + 1) (relsL (wR o k) ((m : Int) + 1))] else [] := by
  show relPs (wR o k) f = _
  rw [relPs_upto (o := wR o k) hm h]
  rfl
theorem prv_le {o : ObjM} {k : Nat} (hk : k < o.rs.length) (ro : o.rs.Pairwise fun a b => a.sec ≤ b.sec) : ∀ r ∈ o.rs.take k, r.sec ≤ prvR o.rs k := by
  intro r hr
  obtain ⟨j, hj, rfl⟩ := List.mem_iff_getElem.1 hr
  rw [List.length_take] at hj
  rw [List.getElem_take]
  unfold prvR
  rw [if_neg (by omega), getD_of_lt (show k - 1 < o.rs.length by omega)]
  by_cases e : j = k - 1
  · subst e
    exact Int.le_refl _
  · exact List.pairwise_iff_getElem.1 ro j (k - 1) (by omega) (by omega) (by omega)
theorem now_le {o : ObjM} {k : Nat} (hk : k < o.rs.length) (ro : o.rs.Pairwise fun a b => a.sec ≤ b.sec) : ∀ r ∈ o.rs.take k, r.sec ≤ (o.rs.getD k relNo).sec := by
  intro r hr
  obtain ⟨j, hj, rfl⟩ := List.mem_iff_getElem.1 hr
  rw [List.length_take] at hj
  rw [List.getElem_take, getD_of_lt hk]
  exact List.pairwise_iff_getElem.1 ro j k (by omega) (by omega) (by omega)
/-- Another section's: a part begins. -/
theorem rl_new {o : ObjM} {f : Int} {k m : Nat} (hk : k < o.rs.length) (hs : (o.rs.getD k relNo).sec = (m : Int) + 1) (hm : m < o.ss.length) (ro : o.rs.Pairwise fun a b => a.sec ≤ b.sec) (hn : (o.rs.getD k relNo).sec ≠ prvR o.rs k) :
    rlK o f (k + 1) = rlK o f k ++ [rlP (o.ss.getD m sctNo).nm f ((m : Int) + 1) (relM (o.rs.getD k relNo))] := by
  have h1 : ∀ r ∈ o.rs.take k, r.sec ≤ (m : Int) + 1 := fun r hr => by rw [← hs]; exact now_le hk ro r hr
  have h2 : ∀ r ∈ o.rs.take k, r.sec ≠ (m : Int) + 1 := fun r hr e => by
    have a := prv_le hk ro r hr
    have b : prvR o.rs k ≤ (o.rs.getD k relNo).sec := by
      unfold prvR at a ⊢
      by_cases e0 : k = 0
      · subst e0
        simp at hr
      · rw [if_neg e0]
        refine now_le hk ro _ ?_
        rw [getD_of_lt (show k - 1 < o.rs.length by omega)]
        exact List.mem_iff_getElem.2 ⟨k - 1, by rw [List.length_take]; omega, by rw [List.getElem_take]⟩
    omega
  rw [rlK_succ hk hs hm h1, rlK_now hm h1, hasR_none (o := wR o k) h2, relsL_none (o := wR o k) h2]
  simp
/-- The same section's: it comes behind. -/
theorem rl_same {o : ObjM} {f : Int} {k m : Nat} (hk : k < o.rs.length) (hs : (o.rs.getD k relNo).sec = (m : Int) + 1) (hm : m < o.ss.length) (ro : o.rs.Pairwise fun a b => a.sec ≤ b.sec) (hn : (o.rs.getD k relNo).sec = prvR o.rs k) :
    ∃ A z, rlK o f k = A ++ [rlP (o.ss.getD m sctNo).nm f ((m : Int) + 1) z] ∧ rlK o f (k + 1) = A ++ [rlP (o.ss.getD m sctNo).nm f ((m : Int) + 1) (z ++ relM (o.rs.getD k relNo))] := by
  have h1 : ∀ r ∈ o.rs.take k, r.sec ≤ (m : Int) + 1 := fun r hr => by rw [← hs]; exact now_le hk ro r hr
  have hh : hasR (wR o k) m = true := by
    unfold prvR at hn
    by_cases e0 : k = 0
    · rw [if_pos e0] at hn
      omega
    · rw [if_neg e0] at hn
      refine hasR_some (r := o.rs.getD (k - 1) relNo) ?_ (by rw [← hn, hs])
      show _ ∈ o.rs.take k
      rw [getD_of_lt (show k - 1 < o.rs.length by omega)]
      exact List.mem_iff_getElem.2 ⟨k - 1, by rw [List.length_take]; omega, by rw [List.getElem_take]⟩
  exact ⟨_, _, by rw [rlK_now hm h1, if_pos hh], rlK_succ hk hs hm h1⟩
theorem rlK_zero (o : ObjM) (f : Int) : rlK o f 0 = [] := by
  unfold rlK relPs
  rw [List.filter_eq_nil_iff.2 (fun q _ => by rw [hasR_none (o := wR o 0) (fun r hr => by cases hr)]; decide)]
  rfl
theorem rlK_all (o : ObjM) (f : Int) : rlK o f o.rs.length = relPs o f := by
  unfold rlK wR
  rw [List.take_of_length_le (Nat.le_refl _)]
end Go.Proofs.YtljmgbpecoifnaaGreatDoor
