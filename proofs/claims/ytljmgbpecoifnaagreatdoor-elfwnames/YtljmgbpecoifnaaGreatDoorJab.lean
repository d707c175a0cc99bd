/- Plain facts on rows of numbers, each of so many bytes, the lowest byte first: with no Go in sight. Plain facts on tables of names: with no Go in sight. A name is a list of bytes. A file's parts, one behind the other, and their heads: with no Go in sight. A file, by its parts: unlike parts have unlike files: with no Go in sight. -/
import Derived.Test.YtljmgbpecoifnaaGreatDoorJaa
import Derived.RowKit
namespace Go.Proofs.YtljmgbpecoifnaaGreatDoor

/-- Numbers, each of so many bytes, one behind the other. -/
def putAll : List (Nat × Int) → List Int
  | [] => []
  | p :: r => byN (uOf p.2) p.1 ++ putAll r
/-- The numbers whose bytes they are. -/
def getAll : List Nat → List Int → List Int
  | [], _ => []
  | s :: r, b => sOf (nuN (b.take s)) :: getAll r (b.drop s)
/-- A number that may be in so many bytes, and is not below 0. -/
def fitN (s : Nat) (n : Int) : Prop := 0 ≤ n ∧ n < 256 ^ s ∧ n ≤ 9223372036854775807
theorem putAll_length (l : List (Nat × Int)) : (putAll l).length = (l.map (·.1)).sum := by
  induction l with
  | nil => rfl
  | cons p r ih => simp [putAll, byN_length, ih]
theorem putAll_range (l : List (Nat × Int)) : ∀ x ∈ putAll l, 0 ≤ x ∧ x < 256 := by
  induction l with
  | nil => intro x hx; cases hx
  | cons p r ih =>
    intro x hx
    rcases List.mem_append.1 hx with hx | hx
    · exact byN_range _ _ x hx
    · exact ih x hx
theorem putAll_append (l m : List (Nat × Int)) : putAll (l ++ m) = putAll l ++ putAll m := by
  induction l with
  | nil => rfl
  | cons p r ih => simp [putAll, ih]
theorem getAll_length (ss : List Nat) (b : List Int) : (getAll ss b).length = ss.length := by
  induction ss generalizing b with
  | nil => rfl
  | cons s r ih => simp [getAll, ih]
/-- One number's bytes are read as it. -/
theorem one_back {s : Nat} {n : Int} (h : fitN s n) (rest : List Int) : sOf (nuN ((byN (uOf n) s ++ rest).take s)) = n := by
  obtain ⟨h0, h1, h2⟩ := h
  rw [List.take_left' (byN_length _ _), nuN_byN, uOf_nonneg n h0 h2, Nat.mod_eq_of_lt (by
    have : ((n.toNat : Nat) : Int) = n := by omega
    have h3 : ((n.toNat : Nat) : Int) < ((256 ^ s : Nat) : Int) := by rw [this]; simpa using h1
    omega), sOf_small _ (by omega)]
  omega
/-- WHAT WAS PUT IS GOT. -/
theorem getAll_putAll (l : List (Nat × Int)) (h : ∀ p ∈ l, fitN p.1 p.2) (rest : List Int) : getAll (l.map (·.1)) (putAll l ++ rest) = l.map (·.2) := by
  induction l with
  | nil => rfl
  | cons p r ih =>
    have h1 := h p (by simp)
    have h2 := ih (fun q hq => h q (by simp [hq]))
    simp only [List.map_cons, getAll, putAll, List.append_assoc]
    rw [one_back h1, List.drop_left' (byN_length _ _), h2]
/-- WHAT IS GOT IS PUT AS THESE BYTES. -/
theorem putAll_getAll (ss : List Nat) (b : List Int) (hl : b.length = ss.sum) (h8 : ∀ s ∈ ss, s ≤ 8) (hr : ∀ x ∈ b, 0 ≤ x ∧ x < 256) : putAll (ss.zip (getAll ss b)) = b := by
  induction ss generalizing b with
  | nil => simp at hl; simp [putAll, hl]
  | cons s r ih =>
    rw [List.sum_cons] at hl
    have hs := h8 s (by simp)
    have ht : (b.take s).length = s := by rw [List.length_take]; omega
    have hrt : ∀ x ∈ b.take s, 0 ≤ x ∧ x < 256 := fun x hx => hr x (List.mem_of_mem_take hx)
    have hn : nuN (b.take s) < 18446744073709551616 := by
      have := nuN_lt (b.take s) hrt
      rw [ht] at this
      exact Nat.lt_of_lt_of_le this (Nat.le_trans (Nat.pow_le_pow_right (by decide) hs) (by decide))
    have e1 : byN (nuN (b.take s)) s = b.take s := by
      have := byN_nuN (b.take s) hrt
      rwa [ht] at this
    have e2 := ih (b.drop s) (by rw [List.length_drop]; omega) (fun t ht => h8 t (by simp [ht])) (fun x hx => hr x (List.mem_of_mem_drop hx))
    simp only [getAll, List.zip_cons_cons, putAll]
    rw [uOf_sOf _ hn, e1, e2, List.take_append_drop]
/-- Unlike numbers have unlike bytes. -/
theorem putAll_inj {ss : List Nat} {v v' : List Int} (hv : v.length = ss.length) (hv' : v'.length = ss.length) (h : ∀ p ∈ ss.zip v, fitN p.1 p.2) (h' : ∀ p ∈ ss.zip v', fitN p.1 p.2) (e : putAll (ss.zip v) = putAll (ss.zip v')) : v = v' := by
  have e1 := getAll_putAll (ss.zip v) h []
  have e2 := getAll_putAll (ss.zip v') h' []
  have f1 : (ss.zip v).map (·.1) = ss := List.map_fst_zip (by omega)
  have f2 : (ss.zip v').map (·.1) = ss := List.map_fst_zip (by omega)
  have g1 : (ss.zip v).map (·.2) = v := List.map_snd_zip (by omega)
  have g2 : (ss.zip v').map (·.2) = v' := List.map_snd_zip (by omega)
  rw [f1, g1, List.append_nil] at e1
  rw [f2, g2, List.append_nil] at e2
  rw [← e1, ← e2, e]
/-- The k-th number that is got, by its place. -/
theorem getAll_at (ss : List Nat) (b : List Int) (k : Nat) (hk : k < ss.length) : (getAll ss b).getD k 0 = sOf (nuN ((b.drop (ss.take k).sum).take ss[k])) := by
  induction ss generalizing b k with
  | nil => simp at hk
  | cons s r ih =>
    cases k with
    | zero =>
      have e : (b.drop ((s :: r).take 0).sum).take (s :: r)[0] = b.take s := by simp
      rw [e, getAll, List.getD_cons_zero]
    | succ k =>
      have hk' : k < r.length := by simpa using hk
      have e : (b.drop ((s :: r).take (k + 1)).sum).take (s :: r)[k + 1] = ((b.drop s).drop (r.take k).sum).take r[k] := by simp [List.drop_drop]
      rw [e, getAll, List.getD_cons_succ]
      exact ih (b.drop s) k hk'
/-- The bytes of the k-th number, in their place. -/
theorem putAll_at (l : List (Nat × Int)) (k : Nat) (hk : k < l.length) : ((putAll l).drop ((l.take k).map (·.1)).sum).take l[k].1 = byN (uOf l[k].2) l[k].1 := by
  have e : l = l.take k ++ (l[k] :: l.drop (k + 1)) := by rw [← List.drop_eq_getElem_cons hk, List.take_append_drop]
  have e2 : putAll l = putAll (l.take k) ++ (byN (uOf l[k].2) l[k].1 ++ putAll (l.drop (k + 1))) := by
    have := congrArg putAll e
    rw [putAll_append] at this
    exact this
  rw [e2, List.drop_left' (putAll_length _), List.take_left' (byN_length _ _)]

/-! ### A section's head: ten numbers -/
def headS : List Nat := [4, 4, 8, 8, 8, 8, 4, 4, 8, 8]
def headB (v : List Int) : Bool := decide (v.length = 10) && (headS.zip v).all fun p => decide (0 ≤ p.2) && (p.1 == 8 || decide (p.2 < 4294967296))
def headL (v : List Int) : List Int := putAll (headS.zip v)
def headV (b : List Int) : List Int := getAll headS b
theorem headB_fit {v : List Int} (h : headB v = true) (hm : ∀ n ∈ v, n ≤ 9223372036854775807) : v.length = 10 ∧ ∀ p ∈ headS.zip v, fitN p.1 p.2 := by
  unfold headB at h
  rw [Bool.and_eq_true, decide_eq_true_eq, List.all_eq_true] at h
  refine ⟨h.1, fun p hp => ?_⟩
  have h1 := h.2 p hp
  rw [Bool.and_eq_true, Bool.or_eq_true, decide_eq_true_eq, decide_eq_true_eq, beq_iff_eq] at h1
  have h2 := hm p.2 (List.of_mem_zip hp).2
  have h3 : p.1 = 4 ∨ p.1 = 8 := by
    have := (List.of_mem_zip hp).1
    unfold headS at this
    simp only [List.mem_cons, List.not_mem_nil, or_false] at this
    omega
  refine ⟨h1.1, ?_, h2⟩
  rcases h1.2 with e | e
  · rw [e]
    have : (9223372036854775807 : Int) < 256 ^ 8 := by decide
    omega
  · rcases h3 with e' | e'
    · rw [e']
      have : (4294967296 : Int) = 256 ^ 4 := by decide
      omega
    · rw [e']
      have : (9223372036854775807 : Int) < 256 ^ 8 := by decide
      omega
theorem headL_length {v : List Int} (h : v.length = 10) : (headL v).length = 64 := by
  unfold headL
  rw [putAll_length, List.map_fst_zip (by rw [h]; decide)]
  rfl
/-- Heads and their bytes are told by one another. -/
theorem head_back {v : List Int} (h : headB v = true) (hm : ∀ n ∈ v, n ≤ 9223372036854775807) : headV (headL v) = v := by
  obtain ⟨h1, h2⟩ := headB_fit h hm
  have := getAll_putAll (headS.zip v) h2 []
  rwa [List.append_nil, List.map_fst_zip (by rw [h1]; decide), List.map_snd_zip (by rw [h1]; decide)] at this
theorem back_head {b : List Int} (h : b.length = 64) (hr : ∀ x ∈ b, 0 ≤ x ∧ x < 256) : headL (headV b) = b :=
  putAll_getAll headS b (by rw [h]; rfl) (by decide) hr
theorem head_inj {v v' : List Int} (h : headB v = true) (h' : headB v' = true) (hm : ∀ n ∈ v, n ≤ 9223372036854775807) (hm' : ∀ n ∈ v', n ≤ 9223372036854775807) (e : headL v = headL v') : v = v' := by
  rw [← head_back h hm, ← head_back h' hm', e]

/-- The names that are not empty, each once, in order. -/
def fsStep (fs : List (List Int)) (s : List Int) : List (List Int) := if s = [] ∨ s ∈ fs then fs else fs ++ [s]
def fsts (ns : List (List Int)) : List (List Int) := ns.foldl fsStep []
/-- Their table. -/
def tbl (fs : List (List Int)) : List Int := 0 :: fs.flatMap fun s => s ++ [0]
/-- How far behind the first one a name stands. -/
def offs : List (List Int) → List Int → Nat
  | [], _ => 0
  | t :: r, s => if t = s then 0 else t.length + 1 + offs r s
/-- A name's place. -/
def plc (fs : List (List Int)) (s : List Int) : Nat := if s = [] then 0 else 1 + offs fs s
/-- The bytes from a place on, up to the next 0. -/
def nmAt (T : List Int) (p : Nat) : List Int := (T.drop p).takeWhile fun x => x != 0

theorem fsts_nil : fsts [] = [] := rfl
theorem fsts_snoc (ns : List (List Int)) (s : List Int) : fsts (ns ++ [s]) = fsStep (fsts ns) s := by simp [fsts, List.foldl_append]
theorem fsStep_old {fs : List (List Int)} {s : List Int} (h : s = [] ∨ s ∈ fs) : fsStep fs s = fs := by simp [fsStep, h]
theorem fsStep_new {fs : List (List Int)} {s : List Int} (h0 : s ≠ []) (h : s ∉ fs) : fsStep fs s = fs ++ [s] := by simp [fsStep, h0, h]
theorem mem_fsStep {fs : List (List Int)} {s t : List Int} (h : t ∈ fs) : t ∈ fsStep fs s := by
  unfold fsStep; split
  · exact h
  · simp [h]
/-- Induction from the other end. -/
theorem snoc_ind {α : Type} {P : List α → Prop} (h0 : P []) (h1 : ∀ l a, P l → P (l ++ [a])) (l : List α) : P l := by
  have : ∀ r : List α, P r.reverse := by
    intro r
    induction r with
    | nil => exact h0
    | cons a r ih => rw [List.reverse_cons]; exact h1 _ _ ih
  have e := this l.reverse
  rwa [List.reverse_reverse] at e
theorem mem_fsts {ns : List (List Int)} {s : List Int} : s ∈ fsts ns ↔ s ∈ ns ∧ s ≠ [] := by
  refine snoc_ind (P := fun ns => ∀ s, s ∈ fsts ns ↔ s ∈ ns ∧ s ≠ []) ?_ ?_ ns s
  · intro s; simp [fsts]
  · intro l a ih s
    rw [fsts_snoc]
    by_cases ha : a = [] ∨ a ∈ fsts l
    · rw [fsStep_old ha, ih, List.mem_append, List.mem_singleton]
      constructor
      · rintro ⟨h, h'⟩; exact ⟨.inl h, h'⟩
      · rintro ⟨h | rfl, h'⟩
        · exact ⟨h, h'⟩
        · rcases ha with rfl | ha
          · exact absurd rfl h'
          · exact (ih s).1 ha
    · have h0 : a ≠ [] := fun h => ha (.inl h)
      rw [fsStep_new h0 (fun h => ha (.inr h)), List.mem_append, ih, List.mem_append, List.mem_singleton]
      constructor
      · rintro (⟨h, h'⟩ | rfl)
        · exact ⟨.inl h, h'⟩
        · exact ⟨.inr rfl, h0⟩
      · rintro ⟨h | rfl, h'⟩
        · exact .inl ⟨h, h'⟩
        · exact .inr rfl
theorem fsts_nodup (ns : List (List Int)) : (fsts ns).Nodup := by
  refine snoc_ind (P := fun ns => (fsts ns).Nodup) ?_ ?_ ns
  · simp [fsts]
  · intro l a ih
    rw [fsts_snoc]
    by_cases ha : a = [] ∨ a ∈ fsts l
    · rw [fsStep_old ha]; exact ih
    · rw [fsStep_new (fun h => ha (.inl h)) (fun h => ha (.inr h))]
      refine List.nodup_append.2 ⟨ih, by simp, ?_⟩
      intro x hx y hy hxy
      rw [List.mem_singleton] at hy
      exact ha (.inr (by rw [← hy, ← hxy]; exact hx))
/-- Names that are told once each stay as they are. -/
theorem fsts_once (fs : List (List Int)) (h0 : ∀ s ∈ fs, s ≠ []) (h1 : fs.Nodup) : fsts fs = fs := by
  revert h0 h1
  refine snoc_ind (P := fun fs => (∀ s ∈ fs, s ≠ []) → fs.Nodup → fsts fs = fs) ?_ ?_ fs
  · intro _ _; rfl
  · intro l a ih h0 h1
    have h2 := List.nodup_append.1 h1
    rw [fsts_snoc, ih (fun s hs => h0 s (by simp [hs])) h2.1]
    exact fsStep_new (h0 a (by simp)) (fun ha => h2.2.2 a ha a (by simp) rfl)
theorem fsts_fsts (ns : List (List Int)) : fsts (fsts ns) = fsts ns :=
  fsts_once _ (fun _ hs => (mem_fsts.1 hs).2) (fsts_nodup ns)
/-- A name that was told already, or an empty one, adds none. -/
theorem fsts_again {ns : List (List Int)} {s : List Int} (h : s ∈ ns ∨ s = []) : fsts (ns ++ [s]) = fsts ns := by
  rw [fsts_snoc]
  by_cases h0 : s = []
  · exact fsStep_old (.inl h0)
  · exact fsStep_old (.inr (mem_fsts.2 ⟨by rcases h with h | h; exact h; exact absurd h h0, h0⟩))

theorem tbl_snoc (fs : List (List Int)) (s : List Int) : tbl (fs ++ [s]) = tbl fs ++ (s ++ [0]) := by simp [tbl]
theorem tbl_pos (fs : List (List Int)) : 0 < (tbl fs).length := by simp [tbl]
theorem tbl_length_snoc (fs : List (List Int)) (s : List Int) : (tbl (fs ++ [s])).length = (tbl fs).length + s.length + 1 := by rw [tbl_snoc]; simp; omega
theorem tbl_head (fs : List (List Int)) : (tbl fs).getD 0 1 = 0 := by simp [tbl]
theorem tbl_last (fs : List (List Int)) : (tbl fs).getD ((tbl fs).length - 1) 1 = 0 := by
  refine snoc_ind (P := fun fs => (tbl fs).getD ((tbl fs).length - 1) 1 = 0) ?_ ?_ fs
  · simp [tbl]
  · intro l a _
    rw [tbl_length_snoc, tbl_snoc, ← List.append_assoc]
    have : (tbl l).length + a.length + 1 - 1 = (tbl l ++ a).length := by simp
    rw [this, List.getD, List.getElem?_append_right (Nat.le_refl _)]
    simp

theorem offs_new {fs : List (List Int)} {s : List Int} (h : s ∉ fs) : 1 + offs fs s = (tbl fs).length := by
  induction fs with
  | nil => simp [offs, tbl]
  | cons t r ih =>
    have h1 : ¬ t = s := fun e => h (by simp [e])
    have h2 := ih (fun e => h (by simp [e]))
    simp only [offs, if_neg h1]
    simp only [tbl, List.length_cons, List.flatMap_cons, List.length_append] at h2 ⊢
    simp only [List.length_nil]
    omega
theorem offs_old {fs : List (List Int)} {s t : List Int} (h : t ∈ fs) : offs (fs ++ [s]) t = offs fs t := by
  induction fs with
  | nil => cases h
  | cons u r ih =>
    by_cases e : u = t
    · simp [offs, e]
    · have h' : t ∈ r := by rcases List.mem_cons.1 h with rfl | h; exact absurd rfl e; exact h
      simp [offs, e, ih h']
theorem offs_self {fs : List (List Int)} {s : List Int} (h : s ∉ fs) : offs (fs ++ [s]) s = offs fs s := by
  induction fs with
  | nil => simp [offs]
  | cons u r ih =>
    have h1 : ¬ u = s := fun e => h (by simp [e])
    simp [offs, h1, ih (fun e => h (by simp [e]))]
/-- Where a name stands, its bytes do, and a 0 behind them. -/
theorem tbl_drop {fs : List (List Int)} {s : List Int} (h : s ∈ fs) : ∃ post, (tbl fs).drop (1 + offs fs s) = s ++ 0 :: post := by
  have key : ∀ fs : List (List Int), s ∈ fs → ∃ post, (fs.flatMap fun s => s ++ [0]).drop (offs fs s) = s ++ 0 :: post := by
    intro fs
    induction fs with
    | nil => intro h; cases h
    | cons t r ih =>
      intro h
      by_cases e : t = s
      · subst e
        exact ⟨r.flatMap fun s => s ++ [0], by simp [offs]⟩
      · have h' : s ∈ r := by rcases List.mem_cons.1 h with rfl | h; exact absurd rfl e; exact h
        obtain ⟨post, hp⟩ := ih h'
        refine ⟨post, ?_⟩
        simp only [offs, if_neg e, List.flatMap_cons]
        have el : (t ++ [(0 : Int)]).length = t.length + 1 := by simp
        rw [List.drop_append, List.drop_of_length_le (by rw [el]; omega), List.nil_append, el, Nat.add_sub_cancel_left]
        exact hp
  obtain ⟨post, hp⟩ := key fs h
  refine ⟨post, ?_⟩
  rw [tbl, Nat.add_comm, List.drop_succ_cons]
  exact hp

theorem nmAt_of {T s post : List Int} {p : Nat} (h : T.drop p = s ++ 0 :: post) (h0 : ∀ x ∈ s, x ≠ 0) : nmAt T p = s := by
  unfold nmAt
  rw [h, List.takeWhile_append_of_pos (by intro x hx; simpa using h0 x hx)]
  simp
/-- THE NAME AT EACH ONE's PLACE IS IT. -/
theorem nmAt_plc {fs : List (List Int)} {s : List Int} (h : s ∈ fs ∨ s = []) (h0 : ∀ x ∈ s, x ≠ 0) : nmAt (tbl fs) (plc fs s) = s := by
  by_cases e : s = []
  · subst e; simp [nmAt, plc, tbl]
  · have h' : s ∈ fs := by rcases h with h | h; exact h; exact absurd h e
    obtain ⟨post, hp⟩ := tbl_drop h'
    rw [plc, if_neg e]
    exact nmAt_of hp h0
/-- .. so unlike names have unlike places. -/
theorem plc_inj {fs : List (List Int)} {s t : List Int} (hs : s ∈ fs ∨ s = []) (ht : t ∈ fs ∨ t = []) (hs0 : ∀ x ∈ s, x ≠ 0) (ht0 : ∀ x ∈ t, x ≠ 0) (h : plc fs s = plc fs t) : s = t := by
  rw [← nmAt_plc hs hs0, ← nmAt_plc ht ht0, h]
/-- The place, and the 0 behind the name, lie in the table. -/
theorem plc_in {fs : List (List Int)} {s : List Int} (h : s ∈ fs ∨ s = []) : plc fs s + s.length < (tbl fs).length ∧ (tbl fs).getD (plc fs s + s.length) 1 = 0 := by
  by_cases e : s = []
  · subst e; simp [plc, tbl]
  · have h' : s ∈ fs := by rcases h with h | h; exact h; exact absurd h e
    obtain ⟨post, hp⟩ := tbl_drop h'
    rw [plc, if_neg e]
    have hl := congrArg List.length hp
    rw [List.length_drop, List.length_append, List.length_cons] at hl
    refine ⟨by omega, ?_⟩
    have e1 : (tbl fs).getD (1 + offs fs s + s.length) 1 = ((tbl fs).drop (1 + offs fs s)).getD s.length 1 := by simp [List.getD, List.getElem?_drop]
    rw [e1, hp]
    simp [List.getD]
theorem plc_new {fs : List (List Int)} {s : List Int} (h0 : s ≠ []) (h : s ∉ fs) : plc (fs ++ [s]) s = (tbl fs).length := by
  rw [plc, if_neg h0, offs_self h, offs_new h]
theorem plc_old {fs : List (List Int)} {s t : List Int} (h : t ∈ fs ∨ t = []) : plc (fs ++ [s]) t = plc fs t := by
  by_cases e : t = []
  · simp [plc, e]
  · rw [plc, plc, if_neg e, if_neg e, offs_old (by rcases h with h | h; exact h; exact absurd h e)]
theorem plc_step {fs : List (List Int)} {s t : List Int} (h : t ∈ fs ∨ t = []) : plc (fsStep fs s) t = plc fs t := by
  unfold fsStep; split
  · rfl
  · exact plc_old h

/-- The places of all names, in their table. -/
def plcs (ns : List (List Int)) : List Nat := ns.map (plc (fsts ns))
theorem plcs_length (ns : List (List Int)) : (plcs ns).length = ns.length := by simp [plcs]
/-- One name more: the places that were told stay. -/
theorem plcs_snoc (ns : List (List Int)) (s : List Int) : plcs (ns ++ [s]) = plcs ns ++ [plc (fsts (ns ++ [s])) s] := by
  unfold plcs
  rw [List.map_append, List.map_singleton]
  congr 1
  apply List.map_congr_left
  intro t ht
  rw [fsts_snoc]
  exact plc_step (by by_cases e : t = []; exact .inr e; exact .inl (mem_fsts.2 ⟨ht, e⟩))

/-- Names one behind the other, from a place on: the k-th stands where the table of those ahead of it ends. -/
theorem nmAt_walk (fs : List (List Int)) (k : Nat) (h : k < fs.length) (h0 : ∀ s ∈ fs, ∀ x ∈ s, x ≠ 0) : nmAt (tbl fs) (tbl (fs.take k)).length = fs[k] := by
  have e : fs = fs.take k ++ (fs[k] :: fs.drop (k + 1)) := by rw [← List.drop_eq_getElem_cons h, List.take_append_drop]
  refine nmAt_of (post := (fs.drop (k + 1)).flatMap fun s => s ++ [0]) ?_ (h0 _ (List.getElem_mem h))
  have e2 : tbl fs = tbl (fs.take k) ++ (fs[k] ++ 0 :: (fs.drop (k + 1)).flatMap fun s => s ++ [0]) := by
    have := congrArg tbl e
    rw [this]
    simp only [tbl, List.flatMap_append, List.flatMap_cons, List.cons_append, List.append_assoc, List.nil_append]
  rw [e2, List.drop_left' rfl]
theorem tbl_take_succ (fs : List (List Int)) (k : Nat) (h : k < fs.length) : (tbl (fs.take (k + 1))).length = (tbl (fs.take k)).length + fs[k].length + 1 := by
  rw [List.take_succ_eq_append_getElem h, tbl_length_snoc]
theorem tbl_take_all (fs : List (List Int)) (k : Nat) (h : fs.length ≤ k) : tbl (fs.take k) = tbl fs := by rw [List.take_of_length_le h]
theorem tbl_mono (fs : List (List Int)) (k : Nat) : (tbl (fs.take k)).length ≤ (tbl fs).length := by
  have : tbl fs = tbl (fs.take k) ++ (fs.drop k).flatMap fun s => s ++ [0] := by
    have e := congrArg tbl (List.take_append_drop k fs).symm
    rw [e]
    simp only [tbl, List.flatMap_append, List.cons_append]
  rw [this]; simp
theorem tbl_lt (fs : List (List Int)) (k : Nat) (h : k < fs.length) : (tbl (fs.take k)).length < (tbl fs).length := by
  have h1 := tbl_take_succ fs k h
  have h2 := tbl_mono fs (k + 1)
  omega

/-- The name behind a place is the name there, without its first byte. -/
theorem nmAt_succ {T : List Int} {p : Nat} (hp : p < T.length) (h : T[p] ≠ 0) : nmAt T p = T[p] :: nmAt T (p + 1) := by
  unfold nmAt
  rw [List.drop_eq_getElem_cons hp, List.takeWhile_cons]
  simp [h]
theorem nmAt_zero {T : List Int} {p : Nat} (hp : p < T.length) (h : T[p] = 0) : nmAt T p = [] := by
  unfold nmAt
  rw [List.drop_eq_getElem_cons hp, List.takeWhile_cons]
  simp [h]
theorem nmAt_no0 (T : List Int) (p : Nat) : ∀ x ∈ nmAt T p, x ≠ 0 := by
  unfold nmAt
  generalize T.drop p = l
  induction l with
  | nil => intro x hx; cases hx
  | cons a l ih =>
    intro x hx
    rw [List.takeWhile_cons] at hx
    split at hx
    · rcases List.mem_cons.1 hx with rfl | hx
      · rename_i h; simpa using h
      · exact ih x hx
    · cases hx
/-- Where the last byte is 0, a name ends ahead of a 0. -/
theorem nmAt_end {T : List Int} (hl : 0 < T.length) (h : T[T.length - 1]'(by omega) = 0) : ∀ p, p < T.length → p + (nmAt T p).length < T.length ∧ T.getD (p + (nmAt T p).length) 1 = 0 ∧ (T.drop p).take (nmAt T p).length = nmAt T p := by
  intro p hp
  obtain ⟨d, hd⟩ : ∃ d, d = T.length - p := ⟨_, rfl⟩
  induction d generalizing p with
  | zero => omega
  | succ d ih =>
    by_cases h0 : T[p] = 0
    · rw [nmAt_zero hp h0]
      refine ⟨by simpa using hp, ?_, by simp⟩
      simp [List.getD, hp, h0]
    · by_cases e : p + 1 < T.length
      · obtain ⟨h1, h2, h3⟩ := ih (p + 1) e (by omega)
        rw [nmAt_succ hp h0]
        refine ⟨by simp; omega, ?_, ?_⟩
        · rw [List.length_cons, show p + ((nmAt T (p + 1)).length + 1) = p + 1 + (nmAt T (p + 1)).length by omega]
          exact h2
        · rw [List.length_cons, List.drop_eq_getElem_cons hp, List.take_succ_cons, h3]
      · have : p = T.length - 1 := by omega
        subst this
        exact absurd h h0

/-! ### Filled up -/
def padN (len m : Nat) : Nat := (m - len % m) % m
theorem padN_mod {len m : Nat} (h0 : 0 < m) : (len + padN len m) % m = 0 := by
  unfold padN
  by_cases h : len % m = 0
  · rw [h, Nat.sub_zero, Nat.mod_self, Nat.add_zero]; exact h
  · have h1 := Nat.mod_lt len h0
    rw [Nat.mod_eq_of_lt (by omega : m - len % m < m)]
    have h2 := Nat.div_add_mod len m
    have h3 : len + (m - len % m) = m * (len / m + 1) := by rw [Nat.mul_add, Nat.mul_one]; omega
    rw [h3, Nat.mul_mod_right]
theorem padN_lt {len m : Nat} (h0 : 0 < m) : padN len m < m := Nat.mod_lt _ h0
def padB (b : List Int) (m : Nat) : List Int := b ++ List.replicate (padN b.length m) 0
theorem padB_length (b : List Int) (m : Nat) : (padB b m).length = b.length + padN b.length m := by simp [padB]

/-! ### Parts -/
/-- A part of a file: its name, its head's numbers, how many bytes are meant where it has none, its bytes. -/
structure PartM where
  nm : List Int
  ty : Int
  fl : Int
  lk : Int
  nf : Int
  al : Nat
  en : Int
  sz : Int
  z : List Int
def partNo : PartM := ⟨[], 0, 0, 0, 0, 1, 0, 0, []⟩

/-- The bytes, behind those that are there. -/
def layB (b : List Int) : List PartM → List Int
  | [] => b
  | p :: r => layB (padB b p.al ++ p.z) r
/-- Where each part's bytes begin. -/
def layO (n : Nat) : List PartM → List Nat
  | [] => []
  | p :: r => (n + padN n p.al) :: layO (n + padN n p.al + p.z.length) r
/-- How many bytes there are behind all. -/
def layN (n : Nat) : List PartM → Nat
  | [] => n
  | p :: r => layN (n + padN n p.al + p.z.length) r
theorem layB_length (b : List Int) (ps : List PartM) : (layB b ps).length = layN b.length ps := by
  induction ps generalizing b with
  | nil => rfl
  | cons p r ih => rw [layB, ih, List.length_append, padB_length]; rfl
theorem layO_length (n : Nat) (ps : List PartM) : (layO n ps).length = ps.length := by
  induction ps generalizing n with
  | nil => rfl
  | cons p r ih => simp [layO, ih]
theorem layN_ge (n : Nat) (ps : List PartM) : n ≤ layN n ps := by
  induction ps generalizing n with
  | nil => exact Nat.le_refl _
  | cons p r ih => exact Nat.le_trans (by omega) (ih _)
/-- What was there stays ahead. -/
theorem layB_pre (b : List Int) (ps : List PartM) : ∃ t, layB b ps = b ++ t := by
  induction ps generalizing b with
  | nil => exact ⟨[], by simp [layB]⟩
  | cons p r ih =>
    obtain ⟨t, ht⟩ := ih (padB b p.al ++ p.z)
    refine ⟨List.replicate (padN b.length p.al) 0 ++ (p.z ++ t), ?_⟩
    rw [layB, ht, padB]
    simp only [List.append_assoc]
theorem layB_append (b : List Int) (ps qs : List PartM) : layB b (ps ++ qs) = layB (layB b ps) qs := by
  induction ps generalizing b with
  | nil => rfl
  | cons p r ih => rw [List.cons_append, layB, layB, ih]
theorem layN_append (n : Nat) (ps qs : List PartM) : layN n (ps ++ qs) = layN (layN n ps) qs := by
  induction ps generalizing n with
  | nil => rfl
  | cons p r ih => rw [List.cons_append, layN, layN, ih]
theorem layO_append (n : Nat) (ps qs : List PartM) : layO n (ps ++ qs) = layO n ps ++ layO (layN n ps) qs := by
  induction ps generalizing n with
  | nil => rfl
  | cons p r ih => rw [List.cons_append, layO, layO, layN, ih, List.cons_append]
/-- A part's bytes stand where it is said. -/
theorem layB_at (b : List Int) (ps : List PartM) (i : Nat) (hi : i < ps.length) :
    ((layB b ps).drop ((layO b.length ps).getD i 0)).take (ps.getD i partNo).z.length = (ps.getD i partNo).z := by
  induction ps generalizing b i with
  | nil => simp at hi
  | cons p r ih =>
    have hl : (padB b p.al ++ p.z).length = b.length + padN b.length p.al + p.z.length := by rw [List.length_append, padB_length]
    match i with
    | 0 =>
      obtain ⟨t, ht⟩ := layB_pre (padB b p.al ++ p.z) r
      rw [layB, ht, layO, List.getD_cons_zero, List.getD_cons_zero, List.append_assoc, List.drop_left' (padB_length _ _), List.take_left' rfl]
    | i + 1 =>
      have := ih (padB b p.al ++ p.z) i (by simpa using hi)
      rw [hl] at this
      rw [layB, layO, List.getD_cons_succ, List.getD_cons_succ]
      exact this
/-- Places are in order, none in another part's bytes, each a multiple. -/
theorem layO_at (n : Nat) (ps : List PartM) (i : Nat) (hi : i < ps.length) :
    n ≤ (layO n ps).getD i 0 ∧ (layO n ps).getD i 0 + (ps.getD i partNo).z.length ≤ layN n ps := by
  induction ps generalizing n i with
  | nil => simp at hi
  | cons p r ih =>
    match i with
    | 0 =>
      rw [layO, List.getD_cons_zero, List.getD_cons_zero, layN]
      have := layN_ge (n + padN n p.al + p.z.length) r
      omega
    | i + 1 =>
      have := ih (n + padN n p.al + p.z.length) i (by simpa using hi)
      rw [layO, List.getD_cons_succ, List.getD_cons_succ, layN]
      omega
theorem layO_mod (n : Nat) (ps : List PartM) (i : Nat) (hi : i < ps.length) (h : 0 < (ps.getD i partNo).al) : (layO n ps).getD i 0 % (ps.getD i partNo).al = 0 := by
  induction ps generalizing n i with
  | nil => simp at hi
  | cons p r ih =>
    match i with
    | 0 =>
      rw [List.getD_cons_zero] at h ⊢
      rw [layO, List.getD_cons_zero]
      exact padN_mod h
    | i + 1 =>
      rw [List.getD_cons_succ] at h ⊢
      rw [layO, List.getD_cons_succ]
      exact ih _ i (by simpa using hi) h
theorem layO_next (n : Nat) (ps : List PartM) (i j : Nat) (hij : i < j) (hj : j < ps.length) : (layO n ps).getD i 0 + (ps.getD i partNo).z.length ≤ (layO n ps).getD j 0 := by
  induction ps generalizing n i j with
  | nil => simp at hj
  | cons p r ih =>
    match i, j with
    | 0, j + 1 =>
      have := (layO_at (n + padN n p.al + p.z.length) r j (by simpa using hj)).1
      rw [layO, List.getD_cons_zero, List.getD_cons_zero, List.getD_cons_succ]
      exact this
    | i + 1, j + 1 =>
      have := ih (n + padN n p.al + p.z.length) i j (by omega) (by simpa using hj)
      rw [layO, List.getD_cons_succ, List.getD_cons_succ, List.getD_cons_succ]
      exact this

/-! ### Heads -/
/-- A part's head: its name's place, its bytes' place. -/
def hdV (p : PartM) (k off : Nat) : List Int := [k, p.ty, p.fl, 0, off, if p.ty = 8 then p.sz else p.z.length, p.lk, p.nf, p.al, p.en]
/-- What a part's numbers have to be. -/
structure PartOk (p : PartM) : Prop where
  ty : 0 ≤ p.ty ∧ p.ty < 4294967296
  fl : 0 ≤ p.fl ∧ p.fl ≤ 9223372036854775807
  lk : 0 ≤ p.lk ∧ p.lk < 4294967296
  nf : 0 ≤ p.nf ∧ p.nf < 4294967296
  al : 1 ≤ p.al ∧ p.al ≤ 64
  en : 0 ≤ p.en ∧ p.en ≤ 9223372036854775807
  sz : 0 ≤ p.sz ∧ p.sz ≤ 9223372036854775807
  no : p.ty = 8 → p.z = []
  so : p.ty ≠ 8 → p.sz = 0
  nm : p.nm ≠ [] ∧ ∀ x ∈ p.nm, x ≠ 0
theorem hdV_ok {p : PartM} (h : PartOk p) {k off : Nat} (hk : k < 4294967296) (ho : off ≤ 9223372036854775807) (hz : p.z.length ≤ 9223372036854775807) :
    headB (hdV p k off) = true ∧ ∀ n ∈ hdV p k off, n ≤ 9223372036854775807 := by
  have hs : 0 ≤ (if p.ty = 8 then p.sz else (p.z.length : Int)) ∧ (if p.ty = 8 then p.sz else (p.z.length : Int)) ≤ 9223372036854775807 := by
    split
    · exact h.sz
    · omega
  have h1 := h.ty
  have h2 := h.fl
  have h3 := h.lk
  have h4 := h.nf
  have h5 := h.al
  have h6 := h.en
  refine ⟨?_, ?_⟩
  · unfold headB
    rw [Bool.and_eq_true, decide_eq_true_eq, List.all_eq_true]
    refine ⟨rfl, fun q hq => ?_⟩
    unfold headS hdV at hq
    simp only [List.zip_cons_cons, List.zip_nil_right, List.mem_cons, List.not_mem_nil, or_false] at hq
    rcases hq with rfl | rfl | rfl | rfl | rfl | rfl | rfl | rfl | rfl | rfl <;> simp <;> omega
  · intro n hn
    unfold hdV at hn
    simp only [List.mem_cons, List.not_mem_nil, or_false] at hn
    rcases hn with rfl | rfl | rfl | rfl | rfl | rfl | rfl | rfl | rfl | rfl <;> omega
theorem hdV_length (p : PartM) (k off : Nat) : (hdV p k off).length = 10 := rfl
/-- All heads' bytes. -/
def hdsL (l : List (List Int)) : List Int := l.flatMap headL
theorem hdsL_length {l : List (List Int)} (h : ∀ v ∈ l, v.length = 10) : (hdsL l).length = 64 * l.length := by
  induction l with
  | nil => rfl
  | cons v r ih =>
    rw [hdsL, List.flatMap_cons, List.length_append, headL_length (h v (by simp))]
    have := ih (fun x hx => h x (by simp [hx]))
    rw [hdsL] at this
    rw [this, List.length_cons]
    omega
theorem hdsL_at {l : List (List Int)} (h : ∀ v ∈ l, v.length = 10) (i : Nat) (hi : i < l.length) (post : List Int) : ((hdsL l ++ post).drop (64 * i)).take 64 = headL (l.getD i []) := by
  induction l generalizing i with
  | nil => simp at hi
  | cons v r ih =>
    have h1 := headL_length (h v (by simp))
    match i with
    | 0 =>
      rw [Nat.mul_zero, List.drop_zero, hdsL, List.flatMap_cons, List.append_assoc, List.take_left' h1, List.getD_cons_zero]
    | i + 1 =>
      have := ih (fun x hx => h x (by simp [hx])) i (by simpa using hi)
      rw [hdsL, List.flatMap_cons, List.append_assoc, List.getD_cons_succ, ← this, show 64 * (i + 1) = 64 + 64 * i by omega, ← List.drop_drop, List.drop_left' h1]
      rfl

/-- A file's head. -/
def fhL (place many : Nat) : List Int :=
  [127, 69, 76, 70, 2, 1, 1, 0, 0, 0, 0, 0, 0, 0, 0, 0] ++ (byN (uOf 1) 2 ++ (byN (uOf 243) 2 ++ (byN (uOf 1) 4 ++ (List.replicate 16 0 ++ (byN (uOf place) 8 ++ (byN (uOf 1) 4 ++ ([64, 0, 0, 0, 0, 0, 64, 0] ++ (byN (uOf many) 2 ++ byN (uOf ((many : Int) - 1)) 2))))))))
theorem fhL_length (place many : Nat) : (fhL place many).length = 64 := by
  unfold fhL
  simp [byN_length]
theorem fhL_place (place many : Nat) (post : List Int) : ((fhL place many ++ post).drop 40).take 8 = byN (uOf place) 8 := by
  have e : fhL place many ++ post = ([127, 69, 76, 70, 2, 1, 1, 0, 0, 0, 0, 0, 0, 0, 0, 0] ++ (byN (uOf 1) 2 ++ (byN (uOf 243) 2 ++ (byN (uOf 1) 4 ++ List.replicate 16 0)))) ++ (byN (uOf place) 8 ++ ((byN (uOf 1) 4 ++ ([64, 0, 0, 0, 0, 0, 64, 0] ++ (byN (uOf many) 2 ++ byN (uOf ((many : Int) - 1)) 2))) ++ post)) := by
    unfold fhL
    simp only [List.append_assoc]
  rw [e, List.drop_left' (by simp [byN_length]), List.take_left' (byN_length _ _)]
theorem fhL_many (place many : Nat) (post : List Int) : ((fhL place many ++ post).drop 60).take 2 = byN (uOf many) 2 := by
  have e : fhL place many ++ post = ([127, 69, 76, 70, 2, 1, 1, 0, 0, 0, 0, 0, 0, 0, 0, 0] ++ (byN (uOf 1) 2 ++ (byN (uOf 243) 2 ++ (byN (uOf 1) 4 ++ (List.replicate 16 0 ++ (byN (uOf place) 8 ++ (byN (uOf 1) 4 ++ [64, 0, 0, 0, 0, 0, 64, 0]))))))) ++ (byN (uOf many) 2 ++ (byN (uOf ((many : Int) - 1)) 2 ++ post)) := by
    unfold fhL
    simp only [List.append_assoc]
  rw [e, List.drop_left' (by simp [byN_length]), List.take_left' (byN_length _ _)]

/-- '.shstrtab' -/
def shNm : List Int := [46, 115, 104, 115, 116, 114, 116, 97, 98]
/-- The names of all heads but the first, in order. -/
def namesP (bs : List PartM) : List (List Int) := bs.map (·.nm) ++ [shNm]
def shP (bs : List PartM) : PartM := ⟨shNm, 3, 0, 0, 0, 1, 0, 0, tbl (fsts (namesP bs))⟩
def allP (bs : List PartM) : List PartM := bs ++ [shP bs]
theorem allP_length (bs : List PartM) : (allP bs).length = bs.length + 1 := by simp [allP]
theorem allP_names (bs : List PartM) : (allP bs).map (·.nm) = namesP bs := by simp [allP, namesP, shP]
/-- The parts' bytes, behind 64 noughts, filled up. -/
def bodyL (bs : List PartM) : List Int := layB (List.replicate 64 0) (allP bs)
def outL (bs : List PartM) : List Int := padB (bodyL bs) 8
/-- The heads behind the first one. -/
def hdsOf (fs : List (List Int)) (n : Nat) (ps : List PartM) : List (List Int) := (ps.zip (layO n ps)).map fun q => hdV q.1 (plc fs q.1.nm) q.2
def headsP (bs : List PartM) : List (List Int) := hdsOf (fsts (namesP bs)) 64 (allP bs)
theorem headsP_length (bs : List PartM) : (headsP bs).length = bs.length + 1 := by simp [headsP, hdsOf, layO_length, allP_length]
theorem headsP_at (bs : List PartM) (i : Nat) (hi : i < bs.length + 1) : (headsP bs).getD i [] = hdV ((allP bs).getD i partNo) (plc (fsts (namesP bs)) ((allP bs).getD i partNo).nm) ((layO 64 (allP bs)).getD i 0) := by
  have h1 : i < (allP bs).length := by rw [allP_length]; exact hi
  have h2 : i < (layO 64 (allP bs)).length := by rw [layO_length]; exact h1
  have hz : i < ((allP bs).zip (layO 64 (allP bs))).length := by rw [List.length_zip]; omega
  unfold headsP hdsOf
  rw [List.getD, List.getElem?_map, List.getElem?_eq_getElem hz, List.getElem_zip, List.getD, List.getElem?_eq_getElem h1, List.getD, List.getElem?_eq_getElem h2]
  rfl
theorem headsP_ten (bs : List PartM) : ∀ v ∈ headsP bs, v.length = 10 := by
  intro v hv
  unfold headsP hdsOf at hv
  obtain ⟨q, _, rfl⟩ := List.mem_map.1 hv
  rfl
/-- THE FILE OF SOME PARTS. -/
def fileP (bs : List PartM) : List Int := fhL (outL bs).length (bs.length + 2) ++ ((outL bs).drop 64 ++ (List.replicate 64 0 ++ hdsL (headsP bs)))
theorem bodyL_ge (bs : List PartM) : 64 ≤ (bodyL bs).length := by
  unfold bodyL
  rw [layB_length, List.length_replicate]
  exact layN_ge _ _
theorem outL_ge (bs : List PartM) : (bodyL bs).length ≤ (outL bs).length := by unfold outL; rw [padB_length]; omega
theorem fileP_length (bs : List PartM) : (fileP bs).length = (outL bs).length + 64 * (bs.length + 2) := by
  have := bodyL_ge bs
  have := outL_ge bs
  unfold fileP
  rw [List.length_append, List.length_append, List.length_append, fhL_length, List.length_drop, List.length_replicate, hdsL_length (headsP_ten bs), headsP_length]
  omega
theorem fileP_place (bs : List PartM) : ((fileP bs).drop 40).take 8 = byN (uOf (outL bs).length) 8 := fhL_place _ _ _
theorem fileP_many (bs : List PartM) : ((fileP bs).drop 60).take 2 = byN (uOf (bs.length + 2 : Nat)) 2 := fhL_many _ _ _
/-- Behind the file's head, and ahead of the heads, the parts' bytes. -/
theorem fileP_body (bs : List PartM) (lo k : Nat) (h0 : 64 ≤ lo) (h1 : lo + k ≤ (bodyL bs).length) : ((fileP bs).drop lo).take k = ((bodyL bs).drop lo).take k := by
  have hb := outL_ge bs
  have e1 : fileP bs = fhL (outL bs).length (bs.length + 2) ++ ((outL bs).drop 64 ++ (List.replicate 64 0 ++ hdsL (headsP bs))) := rfl
  rw [e1, List.drop_append, List.drop_of_length_le (by rw [fhL_length]; exact h0), List.nil_append, fhL_length, List.drop_append, List.drop_drop, List.length_drop, show 64 + (lo - 64) = lo by omega]
  have e2 : (outL bs).drop lo = (bodyL bs).drop lo ++ List.replicate (padN (bodyL bs).length 8) 0 := by
    unfold outL padB
    rw [List.drop_append, show lo - (bodyL bs).length = 0 by omega, List.drop_zero]
  rw [e2, List.append_assoc, List.take_append_of_le_length (by rw [List.length_drop]; omega)]
/-- A PART's BYTES STAND IN THE FILE WHERE ITS HEAD SAYS. -/
theorem fileP_part (bs : List PartM) (i : Nat) (hi : i < bs.length + 1) :
    ((fileP bs).drop ((layO 64 (allP bs)).getD i 0)).take ((allP bs).getD i partNo).z.length = ((allP bs).getD i partNo).z := by
  have hi' : i < (allP bs).length := by rw [allP_length]; exact hi
  have h1 := layO_at 64 (allP bs) i hi'
  have hl : (bodyL bs).length = layN 64 (allP bs) := by unfold bodyL; rw [layB_length, List.length_replicate]
  rw [fileP_body bs _ _ h1.1 (by rw [hl]; exact h1.2)]
  have := layB_at (List.replicate 64 0) (allP bs) i hi'
  rw [List.length_replicate] at this
  exact this
/-- .. AND ITS HEAD STANDS BEHIND ALL. -/
theorem fileP_head (bs : List PartM) (i : Nat) (hi : i < bs.length + 1) : ((fileP bs).drop ((outL bs).length + 64 * (i + 1))).take 64 = headL ((headsP bs).getD i []) := by
  have hb := bodyL_ge bs
  have hb2 := outL_ge bs
  have e1 : fileP bs = (fhL (outL bs).length (bs.length + 2) ++ ((outL bs).drop 64 ++ List.replicate 64 0)) ++ (hdsL (headsP bs) ++ []) := by
    unfold fileP
    simp only [List.append_assoc, List.append_nil]
  have hl : (fhL (outL bs).length (bs.length + 2) ++ ((outL bs).drop 64 ++ List.replicate 64 0)).length = (outL bs).length + 64 := by
    rw [List.length_append, List.length_append, fhL_length, List.length_drop, List.length_replicate]
    omega
  rw [e1, show (outL bs).length + 64 * (i + 1) = (outL bs).length + 64 + 64 * i by omega, ← List.drop_drop, List.drop_left' hl]
  exact hdsL_at (headsP_ten bs) i (by rw [headsP_length]; exact hi) []

theorem tbl_small (fs : List (List Int)) (h : ∀ s ∈ fs, ∀ x ∈ s, 0 ≤ x ∧ x < 256) : ∀ x ∈ tbl fs, 0 ≤ x ∧ x < 256 := by
  intro x hx
  unfold tbl at hx
  rcases List.mem_cons.1 hx with rfl | hx
  · decide
  · obtain ⟨s, hs, hx⟩ := List.mem_flatMap.1 hx
    rcases List.mem_append.1 hx with hx | hx
    · exact h s hs x hx
    · rw [List.mem_singleton] at hx; subst hx; decide
theorem shP_ok (bs : List PartM) : PartOk (shP bs) :=
  ⟨(by decide : (0 : Int) ≤ 3 ∧ (3 : Int) < 4294967296), (by decide : (0 : Int) ≤ 0 ∧ (0 : Int) ≤ 9223372036854775807), (by decide : (0 : Int) ≤ 0 ∧ (0 : Int) < 4294967296), (by decide : (0 : Int) ≤ 0 ∧ (0 : Int) < 4294967296), (by decide : 1 ≤ 1 ∧ 1 ≤ 64),
    (by decide : (0 : Int) ≤ 0 ∧ (0 : Int) ≤ 9223372036854775807), (by decide : (0 : Int) ≤ 0 ∧ (0 : Int) ≤ 9223372036854775807), fun h => absurd h (by decide : (3 : Int) ≠ 8), fun _ => rfl, (by decide : shNm ≠ [] ∧ ∀ x ∈ shNm, x ≠ 0)⟩
theorem allP_ok {bs : List PartM} (h : ∀ p ∈ bs, PartOk p) : ∀ p ∈ allP bs, PartOk p := by
  intro p hp
  unfold allP at hp
  rcases List.mem_append.1 hp with hp | hp
  · exact h p hp
  · rw [List.mem_singleton] at hp; subst hp; exact shP_ok bs
theorem allP_mem (bs : List PartM) (i : Nat) (hi : i < bs.length + 1) : (allP bs).getD i partNo ∈ allP bs := by
  have hi' : i < (allP bs).length := by rw [allP_length]; exact hi
  rw [List.getD, List.getElem?_eq_getElem hi']
  exact List.getElem_mem hi'
theorem part_nm {bs : List PartM} (i : Nat) (hi : i < bs.length + 1) (hn : ((allP bs).getD i partNo).nm ≠ []) : ((allP bs).getD i partNo).nm ∈ fsts (namesP bs) := by
  refine mem_fsts.2 ⟨?_, hn⟩
  rw [← allP_names]
  exact List.mem_map.2 ⟨_, allP_mem bs i hi, rfl⟩
/-- A head of a file that is not too long may be. -/
theorem headsP_ok {bs : List PartM} (h : ∀ p ∈ bs, PartOk p) (hf : (fileP bs).length ≤ 65536) (i : Nat) (hi : i < bs.length + 1) :
    headB ((headsP bs).getD i []) = true ∧ ∀ n ∈ (headsP bs).getD i [], n ≤ 9223372036854775807 := by
  have hi' : i < (allP bs).length := by rw [allP_length]; exact hi
  have hp := allP_ok h _ (allP_mem bs i hi)
  have hl : (bodyL bs).length = layN 64 (allP bs) := by unfold bodyL; rw [layB_length, List.length_replicate]
  have h1 := layO_at 64 (allP bs) i hi'
  have h2 := fileP_length bs
  have h3 := outL_ge bs
  have hlast := layO_at 64 (allP bs) bs.length (by rw [allP_length]; omega)
  have el : (allP bs).getD bs.length partNo = shP bs := by simp [allP, List.getD]
  rw [el] at hlast
  have hin := plc_in (fs := fsts (namesP bs)) (.inl (part_nm i hi hp.nm.1))
  have ez : (shP bs).z.length = (tbl (fsts (namesP bs))).length := rfl
  rw [headsP_at bs i hi]
  exact hdV_ok hp (by omega) (by omega) (by omega)
theorem byN_eq {m n k : Nat} (hm : m < 9223372036854775808) (hn : n < 9223372036854775808) (hm2 : m < 256 ^ k) (hn2 : n < 256 ^ k) (h : byN (uOf m) k = byN (uOf n) k) : m = n := by
  have := congrArg nuN h
  rw [nuN_byN, nuN_byN, uOf_nonneg _ (by omega) (by omega), uOf_nonneg _ (by omega) (by omega), Int.toNat_natCast, Int.toNat_natCast, Nat.mod_eq_of_lt hm2, Nat.mod_eq_of_lt hn2] at this
  exact this
theorem part_ext {p q : PartM} (h1 : p.nm = q.nm) (h2 : p.ty = q.ty) (h3 : p.fl = q.fl) (h4 : p.lk = q.lk) (h5 : p.nf = q.nf) (h6 : p.al = q.al) (h7 : p.en = q.en) (h8 : p.sz = q.sz) (h9 : p.z = q.z) : p = q := by
  cases p; cases q; simp_all
/-- How long a file is, its bytes tell. -/
theorem fileP_tells {bs : List PartM} (hf : (fileP bs).length ≤ 65536) {b : List Int} (hp : (b.drop 40).take 8 = ((fileP bs).drop 40).take 8) (hm : (b.drop 60).take 2 = ((fileP bs).drop 60).take 2) {cs : List PartM} (hg : (fileP cs).length ≤ 65536) (hb : b = fileP cs) :
    (outL bs).length = (outL cs).length ∧ bs.length = cs.length := by
  subst hb
  rw [fileP_place, fileP_place] at hp
  rw [fileP_many, fileP_many] at hm
  have h1 := fileP_length bs
  have h2 := fileP_length cs
  have e8 : (256 : Nat) ^ 8 = 18446744073709551616 := by decide
  have e2 : (256 : Nat) ^ 2 = 65536 := by decide
  have a := byN_eq (by omega) (by omega) (by rw [e8]; omega) (by rw [e8]; omega) hp
  have c := byN_eq (by omega) (by omega) (by rw [e2]; omega) (by rw [e2]; omega) hm
  omega
/-- UNLIKE PARTS HAVE UNLIKE FILES. -/
theorem fileP_inj {bs cs : List PartM} (hb : ∀ p ∈ bs, PartOk p) (hc : ∀ p ∈ cs, PartOk p) (hf : (fileP bs).length ≤ 65536) (hg : (fileP cs).length ≤ 65536) (e : fileP bs = fileP cs) : bs = cs := by
  obtain ⟨hpl, hn⟩ := fileP_tells hf (by rw [e]) (by rw [e]) hg e
  have hv : ∀ i, i < bs.length + 1 → (headsP bs).getD i [] = (headsP cs).getD i [] := by
    intro i hi
    have h1 := fileP_head bs i hi
    have h2 := fileP_head cs i (by omega)
    rw [e, hpl, h2] at h1
    have o1 := headsP_ok hb hf i hi
    have o2 := headsP_ok hc hg i (by omega)
    exact head_inj o1.1 o2.1 o1.2 o2.2 h1.symm
  have hx : ∀ i, i < bs.length + 1 → hdV ((allP bs).getD i partNo) (plc (fsts (namesP bs)) ((allP bs).getD i partNo).nm) ((layO 64 (allP bs)).getD i 0) = hdV ((allP cs).getD i partNo) (plc (fsts (namesP cs)) ((allP cs).getD i partNo).nm) ((layO 64 (allP cs)).getD i 0) := by
    intro i hi
    rw [← headsP_at bs i hi, ← headsP_at cs i (by omega)]
    exact hv i hi
  -- a part's bytes
  have hz : ∀ i, i < bs.length + 1 → ((allP bs).getD i partNo).z = ((allP cs).getD i partNo).z ∧ ((allP bs).getD i partNo).sz = ((allP cs).getD i partNo).sz := by
    intro i hi
    have p1 := allP_ok hb _ (allP_mem bs i hi)
    have p2 := allP_ok hc _ (allP_mem cs i (by omega))
    have h := hx i hi
    unfold hdV at h
    simp only [List.cons.injEq, and_true] at h
    obtain ⟨_, hty, _, _, hof, hsz, _, _, _, _⟩ := h
    have hof' : (layO 64 (allP bs)).getD i 0 = (layO 64 (allP cs)).getD i 0 := by omega
    have b1 := fileP_part bs i hi
    have b2 := fileP_part cs i (by omega)
    by_cases h8 : ((allP bs).getD i partNo).ty = 8
    · have h8' : ((allP cs).getD i partNo).ty = 8 := by rw [← hty]; exact h8
      rw [if_pos h8, if_pos h8'] at hsz
      rw [p1.no h8, p2.no h8']
      exact ⟨rfl, hsz⟩
    · have h8' : ¬ ((allP cs).getD i partNo).ty = 8 := by rw [← hty]; exact h8
      rw [if_neg h8, if_neg h8'] at hsz
      have hll : ((allP bs).getD i partNo).z.length = ((allP cs).getD i partNo).z.length := by omega
      rw [p1.so h8, p2.so h8', ← b1, ← b2, e, hof', hll]
      exact ⟨rfl, rfl⟩
  -- the names' table
  have hT : tbl (fsts (namesP bs)) = tbl (fsts (namesP cs)) := by
    have h := (hz bs.length (by omega)).1
    have e1 : (allP bs).getD bs.length partNo = shP bs := by simp [allP, List.getD]
    have e2 : (allP cs).getD bs.length partNo = shP cs := by rw [hn]; simp [allP, List.getD]
    rw [e1, e2] at h
    exact h
  have hall : ∀ i, i < bs.length + 1 → (allP bs).getD i partNo = (allP cs).getD i partNo := by
    intro i hi
    have p1 := allP_ok hb _ (allP_mem bs i hi)
    have p2 := allP_ok hc _ (allP_mem cs i (by omega))
    have h := hx i hi
    unfold hdV at h
    simp only [List.cons.injEq, and_true] at h
    obtain ⟨hk, hty, hfl, _, _, _, hlk, hnf, hal, hen⟩ := h
    have n1 := nmAt_plc (fs := fsts (namesP bs)) (.inl (part_nm i hi p1.nm.1)) p1.nm.2
    have n2 := nmAt_plc (fs := fsts (namesP cs)) (.inl (part_nm i (by omega) p2.nm.1)) p2.nm.2
    have hk' : plc (fsts (namesP bs)) ((allP bs).getD i partNo).nm = plc (fsts (namesP cs)) ((allP cs).getD i partNo).nm := by omega
    rw [hT, hk', n2] at n1
    exact part_ext n1.symm hty hfl hlk hnf (by omega) hen (hz i hi).2 (hz i hi).1
  apply List.ext_getElem hn
  intro i h1 h2
  have h := hall i (by omega)
  have e1 : (allP bs).getD i partNo = bs[i] := by simp [allP, List.getD, List.getElem?_append_left h1, h1]
  have e2 : (allP cs).getD i partNo = cs[i] := by simp [allP, List.getD, List.getElem?_append_left h2, h2]
  rw [← e1, ← e2, h]
/-- NO FILE BEGINS ANOTHER ONE. -/
theorem fileP_whole {bs cs : List PartM} (hf : (fileP bs).length ≤ 65536) (hg : (fileP cs).length ≤ 65536) {k : Nat} (hk : k < (fileP bs).length) : (fileP bs).take k ≠ fileP cs := by
  intro e
  have h1 := fileP_length bs
  have h2 := fileP_length cs
  have h3 := bodyL_ge cs
  have h4 := outL_ge cs
  have hl : k = (fileP cs).length := by
    have := congrArg List.length e
    rw [List.length_take, Nat.min_eq_left (Nat.le_of_lt hk)] at this
    exact this
  have h40 : ((fileP bs).drop 40).take 8 = (((fileP bs).take k).drop 40).take 8 := by
    rw [List.drop_take, List.take_take, Nat.min_eq_left (by omega)]
  have h60 : ((fileP bs).drop 60).take 2 = (((fileP bs).take k).drop 60).take 2 := by
    rw [List.drop_take, List.take_take, Nat.min_eq_left (by omega)]
  obtain ⟨a, b⟩ := fileP_tells hf h40.symm h60.symm hg e
  omega
end Go.Proofs.YtljmgbpecoifnaaGreatDoor
