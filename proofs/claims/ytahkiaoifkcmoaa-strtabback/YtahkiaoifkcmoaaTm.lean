/- Plain facts on tables of names: with no Go in sight. A name is a list of bytes. -/
import Derived.RowKit
namespace Go.Proofs.Ytahkiaoifkcmoaa

/-- The names that are not empty, each once, in order. -/
def fsStep (fs : List (List Int)) (s : List Int) : List (List Int) := if s = [] ∨ s ∈ fs then fs else fs ++ [s]
def fsts (ns : List (List Int)) : List (List Int) := ns.foldl fsStep []
/-- Their table. -/
def tbl (fs : List (List Int)) : List Int := 0 :: fs.flatMap fun s => s ++ [0]
/-- How far behind the first one a name stands. -/
def offs : List (List Int) → List Int → Nat
  | [], _ => 0
  | t :: r, s => if t = s then 0 else t.length + 1 + offs r s
/-- A name's place. -/
def plc (fs : List (List Int)) (s : List Int) : Nat := if s = [] then 0 else 1 + offs fs s
/-- The bytes from a place on, up to the next 0. -/
def nmAt (T : List Int) (p : Nat) : List Int := (T.drop p).takeWhile fun x => x != 0

theorem fsts_nil : fsts [] = [] := rfl
theorem fsts_snoc (ns : List (List Int)) (s : List Int) : fsts (ns ++ [s]) = fsStep (fsts ns) s := by simp [fsts, List.foldl_append]
theorem fsStep_old {fs : List (List Int)} {s : List Int} (h : s = [] ∨ s ∈ fs) : fsStep fs s = fs := by simp [fsStep, h]
theorem fsStep_new {fs : List (List Int)} {s : List Int} (h0 : s ≠ []) (h : s ∉ fs) : fsStep fs s = fs ++ [s] := by simp [fsStep, h0, h]
theorem mem_fsStep {fs : List (List Int)} {s t : List Int} (h : t ∈ fs) : t ∈ fsStep fs s := by
  unfold fsStep; split
  · exact h
  · simp [h]
/-- Induction from the other end. -/
theorem snoc_ind {α : Type} {P : List α → Prop} (h0 : P []) (h1 : ∀ l a, P l → P (l ++ [a])) (l : List α) : P l := by
  have : ∀ r : List α, P r.reverse := by
    intro r
    induction r with
    | nil => exact h0
    | cons a r ih => rw [List.reverse_cons]; exact h1 _ _ ih
  have e := this l.reverse
  rwa [List.reverse_reverse] at e
theorem mem_fsts {ns : List (List Int)} {s : List Int} : s ∈ fsts ns ↔ s ∈ ns ∧ s ≠ [] := by
  refine snoc_ind (P := fun ns => ∀ s, s ∈ fsts ns ↔ s ∈ ns ∧ s ≠ []) ?_ ?_ ns s
  · intro s; simp [fsts]
  · intro l a ih s
    rw [fsts_snoc]
    by_cases ha : a = [] ∨ a ∈ fsts l
    · rw [fsStep_old ha, ih, List.mem_append, List.mem_singleton]
      constructor
      · rintro ⟨h, h'⟩; exact ⟨.inl h, h'⟩
      · rintro ⟨h | rfl, h'⟩
        · exact ⟨h, h'⟩
        · rcases ha with rfl | ha
          · exact absurd rfl h'
          · exact (ih s).1 ha
    · have h0 : a ≠ [] := fun h => ha (.inl h)
      rw [fsStep_new h0 (fun h => ha (.inr h)), List.mem_append, ih, List.mem_append, List.mem_singleton]
      constructor
      · rintro (⟨h, h'⟩ | rfl)
        · exact ⟨.inl h, h'⟩
        · exact ⟨.inr rfl, h0⟩
      · rintro ⟨h | rfl, h'⟩
        · exact .inl ⟨h, h'⟩
        · exact .inr rfl
theorem fsts_nodup (ns : List (List Int)) : (fsts ns).Nodup := by
  refine snoc_ind (P := fun ns => (fsts ns).Nodup) ?_ ?_ ns
  · simp [fsts]
  · intro l a ih
    rw [fsts_snoc]
    by_cases ha : a = [] ∨ a ∈ fsts l
    · rw [fsStep_old ha]; exact ih
    · rw [fsStep_new (fun h => ha (.inl h)) (fun h => ha (.inr h))]
      refine List.nodup_append.2 ⟨ih, by simp, ?_⟩
      intro x hx y hy hxy
      rw [List.mem_singleton] at hy
      exact ha (.inr (by rw [← hy, ← hxy]; exact hx))
/-- Names that are told once each stay as they are. -/
theorem fsts_once (fs : List (List Int)) (h0 : ∀ s ∈ fs, s ≠ []) (h1 : fs.Nodup) : fsts fs = fs := by
  revert h0 h1
  refine snoc_ind (P := fun fs => (∀ s ∈ fs, s ≠ []) → fs.Nodup → fsts fs = fs) ?_ ?_ fs
  · intro _ _; rfl
  · intro l a ih h0 h1
    have h2 := List.nodup_append.1 h1
    rw [fsts_snoc, ih (fun s hs => h0 s (by simp [hs])) h2.1]
    exact fsStep_new (h0 a (by simp)) (fun ha => h2.2.2 a ha a (by simp) rfl)
theorem fsts_fsts (ns : List (List Int)) : fsts (fsts ns) = fsts ns :=
  fsts_once _ (fun _ hs => (mem_fsts.1 hs).2) (fsts_nodup ns)
/-- A name that was told already, or an empty one, adds none. -/
theorem fsts_again {ns : List (List Int)} {s : List Int} (h : s ∈ ns ∨ s = []) : fsts (ns ++ [s]) = fsts ns := by
  rw [fsts_snoc]
  by_cases h0 : s = []
  · exact fsStep_old (.inl h0)
  · exact fsStep_old (.inr (mem_fsts.2 ⟨by rcases h with h | h; exact h; exact absurd h h0, h0⟩))

theorem tbl_snoc (fs : List (List Int)) (s : List Int) : tbl (fs ++ [s]) = tbl fs ++ (s ++ [0]) := by simp [tbl]
theorem tbl_pos (fs : List (List Int)) : 0 < (tbl fs).length := by simp [tbl]
theorem tbl_length_snoc (fs : List (List Int)) (s : List Int) : (tbl (fs ++ [s])).length = (tbl fs).length + s.length + 1 := by rw [tbl_snoc]; simp; omega
theorem tbl_head (fs : List (List Int)) : (tbl fs).getD 0 1 = 0 := by simp [tbl]
theorem tbl_last (fs : List (List Int)) : (tbl fs).getD ((tbl fs).length - 1) 1 = 0 := by
  refine snoc_ind (P := fun fs => (tbl fs).getD ((tbl fs).length - 1) 1 = 0) ?_ ?_ fs
  · simp [tbl]
  · intro l a _
    rw [tbl_length_snoc, tbl_snoc, ← List.append_assoc]
    have : (tbl l).length + a.length + 1 - 1 = (tbl l ++ a).length := by simp
    rw [this, List.getD, List.getElem?_append_right (Nat.le_refl _)]
    simp

theorem offs_new {fs : List (List Int)} {s : List Int} (h : s ∉ fs) : 1 + offs fs s = (tbl fs).length := by
  induction fs with
  | nil => simp [offs, tbl]
  | cons t r ih =>
    have h1 : ¬ t = s := fun e => h (by simp [e])
    have h2 := ih (fun e => h (by simp [e]))
    simp only [offs, if_neg h1]
    simp only [tbl, List.length_cons, List.flatMap_cons, List.length_append] at h2 ⊢
    simp only [List.length_nil]
    omega
theorem offs_old {fs : List (List Int)} {s t : List Int} (h : t ∈ fs) : offs (fs ++ [s]) t = offs fs t := by
  induction fs with
  | nil => cases h
  | cons u r ih =>
    by_cases e : u = t
    · simp [offs, e]
    · have h' : t ∈ r := by rcases List.mem_cons.1 h with rfl | h; exact absurd rfl e; exact h
      simp [offs, e, ih h']
theorem offs_self {fs : List (List Int)} {s : List Int} (h : s ∉ fs) : offs (fs ++ [s]) s = offs fs s := by
  induction fs with
  | nil => simp [offs]
  | cons u r ih =>
    have h1 : ¬ u = s := fun e => h (by simp [e])
    simp [offs, h1, ih (fun e => h (by simp [e]))]
/-- Where a name stands, its bytes do, and a 0 behind them. -/
theorem tbl_drop {fs : List (List Int)} {s : List Int} (h : s ∈ fs) : ∃ post, (tbl fs).drop (1 + offs fs s) = s ++ 0 :: post := by
  have key : ∀ fs : List (List Int), s ∈ fs → ∃ post, (fs.flatMap fun s => s ++ [0]).drop (offs fs s) = s ++ 0 :: post := by
    intro fs
    induction fs with
    | nil => intro h; cases h
    | cons t r ih =>
      intro h
      by_cases e : t = s
      · subst e
        exact ⟨r.flatMap fun s => s ++ [0], by simp [offs]⟩
      · have h' : s ∈ r := by rcases List.mem_cons.1 h with rfl | h; exact absurd rfl e; exact h
        obtain ⟨post, hp⟩ := ih h'
        refine ⟨post, ?_⟩
        simp only [offs, if_neg e, List.flatMap_cons]
        have el : (t ++ [(0 : Int)]).length = t.length + 1 := by simp
        rw [List.drop_append, List.drop_of_length_le (by rw [el]; omega), List.nil_append, el, Nat.add_sub_cancel_left]
        exact hp
  obtain ⟨post, hp⟩ := key fs h
  refine ⟨post, ?_⟩
  rw [tbl, Nat.add_comm, List.drop_succ_cons]
  exact hp

theorem nmAt_of {T s post : List Int} {p : Nat} (h : T.drop p = s ++ 0 :: post) (h0 : ∀ x ∈ s, x ≠ 0) : nmAt T p = s := by
  unfold nmAt
  rw [h, List.takeWhile_append_of_pos (by intro x hx; simpa using h0 x hx)]
  simp
/-- THE NAME AT EACH ONE's PLACE IS IT. -/
theorem nmAt_plc {fs : List (List Int)} {s : List Int} (h : s ∈ fs ∨ s = []) (h0 : ∀ x ∈ s, x ≠ 0) : nmAt (tbl fs) (plc fs s) = s := by
  by_cases e : s = []
  · subst e; simp [nmAt, plc, tbl]
  · have h' : s ∈ fs := by rcases h with h | h; exact h; exact absurd h e
    obtain ⟨post, hp⟩ := tbl_drop h'
    rw [plc, if_neg e]
    exact nmAt_of hp h0
/-- .. so unlike names have unlike places. -/
theorem plc_inj {fs : List (List Int)} {s t : List Int} (hs : s ∈ fs ∨ s = []) (ht : t ∈ fs ∨ t = []) (hs0 : ∀ x ∈ s, x ≠ 0) (ht0 : ∀ x ∈ t, x ≠ 0) (h : plc fs s = plc fs t) : s = t := by
  rw [← nmAt_plc hs hs0, ← nmAt_plc ht ht0, h]
/-- The place, and the 0 behind the name, lie in the table. -/
theorem plc_in {fs : List (List Int)} {s : List Int} (h : s ∈ fs ∨ s = []) : plc fs s + s.length < (tbl fs).length ∧ (tbl fs).getD (plc fs s + s.length) 1 = 0 := by
  by_cases e : s = []
  · subst e; simp [plc, tbl]
  · have h' : s ∈ fs := by rcases h with h | h; exact h; exact absurd h e
    obtain ⟨post, hp⟩ := tbl_drop h'
    rw [plc, if_neg e]
    have hl := congrArg List.length hp
    rw [List.length_drop, List.length_append, List.length_cons] at hl
    refine ⟨by omega, ?_⟩
    have e1 : (tbl fs).getD (1 + offs fs s + s.length) 1 = ((tbl fs).drop (1 + offs fs s)).getD s.length 1 := by simp [List.getD, List.getElem?_drop]
    rw [e1, hp]
    simp [List.getD]
theorem plc_new {fs : List (List Int)} {s : List Int} (h0 : s ≠ []) (h : s ∉ fs) : plc (fs ++ [s]) s = (tbl fs).length := by
  rw [plc, if_neg h0, offs_self h, offs_new h]
theorem plc_old {fs : List (List Int)} {s t : List Int} (h : t ∈ fs ∨ t = []) : plc (fs ++ [s]) t = plc fs t := by
  by_cases e : t = []
  · simp [plc, e]
  · rw [plc, plc, if_neg e, if_neg e, offs_old (by rcases h with h | h; exact h; exact absurd h e)]
theorem plc_step {fs : List (List Int)} {s t : List Int} (h : t ∈ fs ∨ t = []) : plc (fsStep fs s) t = plc fs t := by
  unfold fsStep; split
  · rfl
  · exact plc_old h

/-- The places of all names, in their table. -/
def plcs (ns : List (List Int)) : List Nat := ns.map (plc (fsts ns))
theorem plcs_length (ns : List (List Int)) : (plcs ns).length = ns.length := by simp [plcs]
/-- One name more: the places that were told stay. -/
theorem plcs_snoc (ns : List (List Int)) (s : List Int) : plcs (ns ++ [s]) = plcs ns ++ [plc (fsts (ns ++ [s])) s] := by
  unfold plcs
  rw [List.map_append, List.map_singleton]
  congr 1
  apply List.map_congr_left
  intro t ht
  rw [fsts_snoc]
  exact plc_step (by by_cases e : t = []; exact .inr e; exact .inl (mem_fsts.2 ⟨ht, e⟩))

/-- Names one behind the other, from a place on: the k-th stands where the table of those ahead of it ends. -/
theorem nmAt_walk (fs : List (List Int)) (k : Nat) (h : k < fs.length) (h0 : ∀ s ∈ fs, ∀ x ∈ s, x ≠ 0) : nmAt (tbl fs) (tbl (fs.take k)).length = fs[k] := by
  have e : fs = fs.take k ++ (fs[k] :: fs.drop (k + 1)) := by rw [← List.drop_eq_getElem_cons h, List.take_append_drop]
  refine nmAt_of (post := (fs.drop (k + 1)).flatMap fun s => s ++ [0]) ?_ (h0 _ (List.getElem_mem h))
  have e2 : tbl fs = tbl (fs.take k) ++ (fs[k] ++ 0 :: (fs.drop (k + 1)).flatMap fun s => s ++ [0]) := by
    have := congrArg tbl e
    rw [this]
    simp only [tbl, List.flatMap_append, List.flatMap_cons, List.cons_append, List.append_assoc, List.nil_append]
  rw [e2, List.drop_left' rfl]
theorem tbl_take_succ (fs : List (List Int)) (k : Nat) (h : k < fs.length) : (tbl (fs.take (k + 1))).length = (tbl (fs.take k)).length + fs[k].length + 1 := by
  rw [List.take_succ_eq_append_getElem h, tbl_length_snoc]
theorem tbl_take_all (fs : List (List Int)) (k : Nat) (h : fs.length ≤ k) : tbl (fs.take k) = tbl fs := by rw [List.take_of_length_le h]
theorem tbl_mono (fs : List (List Int)) (k : Nat) : (tbl (fs.take k)).length ≤ (tbl fs).length := by
  have : tbl fs = tbl (fs.take k) ++ (fs.drop k).flatMap fun s => s ++ [0] := by
    have e := congrArg tbl (List.take_append_drop k fs).symm
    rw [e]
    simp only [tbl, List.flatMap_append, List.cons_append]
  rw [this]; simp
theorem tbl_lt (fs : List (List Int)) (k : Nat) (h : k < fs.length) : (tbl (fs.take k)).length < (tbl fs).length := by
  have h1 := tbl_take_succ fs k h
  have h2 := tbl_mono fs (k + 1)
  omega

/-- The name behind a place is the name there, without its first byte. -/
theorem nmAt_succ {T : List Int} {p : Nat} (hp : p < T.length) (h : T[p] ≠ 0) : nmAt T p = T[p] :: nmAt T (p + 1) := by
  unfold nmAt
  rw [List.drop_eq_getElem_cons hp, List.takeWhile_cons]
  simp [h]
theorem nmAt_zero {T : List Int} {p : Nat} (hp : p < T.length) (h : T[p] = 0) : nmAt T p = [] := by
  unfold nmAt
  rw [List.drop_eq_getElem_cons hp, List.takeWhile_cons]
  simp [h]
theorem nmAt_no0 (T : List Int) (p : Nat) : ∀ x ∈ nmAt T p, x ≠ 0 := by
  unfold nmAt
  generalize T.drop p = l
  induction l with
  | nil => intro x hx; cases hx
  | cons a l ih =>
    intro x hx
    rw [List.takeWhile_cons] at hx
    split at hx
    · rcases List.mem_cons.1 hx with rfl | hx
      · rename_i h; simpa using h
      · exact ih x hx
    · cases hx
/-- Where the last byte is 0, a name ends ahead of a 0. -/
theorem nmAt_end {T : List Int} (hl : 0 < T.length) (h : T[T.length - 1]'(by omega) = 0) : ∀ p, p < T.length → p + (nmAt T p).length < T.length ∧ T.getD (p + (nmAt T p).length) 1 = 0 ∧ (T.drop p).take (nmAt T p).length = nmAt T p := by
  intro p hp
  obtain ⟨d, hd⟩ : ∃ d, d = T.length - p := ⟨_, rfl⟩
  induction d generalizing p with
  | zero => omega
  | succ d ih =>
    by_cases h0 : T[p] = 0
    · rw [nmAt_zero hp h0]
      refine ⟨by simpa using hp, ?_, by simp⟩
      simp [List.getD, hp, h0]
    · by_cases e : p + 1 < T.length
      · obtain ⟨h1, h2, h3⟩ := ih (p + 1) e (by omega)
        rw [nmAt_succ hp h0]
        refine ⟨by simp; omega, ?_, ?_⟩
        · rw [List.length_cons, show p + ((nmAt T (p + 1)).length + 1) = p + 1 + (nmAt T (p + 1)).length by omega]
          exact h2
        · rw [List.length_cons, List.drop_eq_getElem_cons hp, List.take_succ_cons, h3]
      · have : p = T.length - 1 := by omega
        subst this
        exact absurd h h0
end Go.Proofs.Ytahkiaoifkcmoaa
