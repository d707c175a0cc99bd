/- The law LeBack, walked. -/
import Derived.Test.YtjaeidmbeidhlaaWc
namespace Go.Proofs.Ytjaeidmbeidhlaa
open Go.RowKit

theorem mayB_lt (z : Int) (s : Nat) (z1 : z ≤ 9223372036854775807) (hz : mayB z (s : Int) = true) : uOf z < 256 ^ s := by
  have hz' := hz
  rcases szB_true (mayB_sz hz) with e | e | e | e
  · rw [e, mayB_1] at hz'
    have := of_decide_eq_true hz'
    obtain rfl : s = 1 := by omega
    rw [uOf_nonneg z this.1 z1]; omega
  · rw [e, mayB_2] at hz'
    have := of_decide_eq_true hz'
    obtain rfl : s = 2 := by omega
    rw [uOf_nonneg z this.1 z1]; omega
  · rw [e, mayB_4] at hz'
    have := of_decide_eq_true hz'
    obtain rfl : s = 4 := by omega
    rw [uOf_nonneg z this.1 z1]; omega
  · obtain rfl : s = 8 := by omega
    exact uOf_lt z

/-- What is got may be put. -/
theorem mayB_got (P : List Int) (s : Nat) (hs : szB (s : Int) = true) (hP : P.length = s) (hr : ∀ x ∈ P, 0 ≤ x ∧ x < 256) : mayB (sOf (nuN P)) (s : Int) = true := by
  have h := nuN_lt P hr
  rw [hP] at h
  rcases szB_true hs with e | e | e | e
  · obtain rfl : s = 1 := by omega
    have h' : nuN P < 256 := h
    rw [e, mayB_1, sOf_small _ (by omega)]
    exact decide_eq_true (by omega)
  · obtain rfl : s = 2 := by omega
    have h' : nuN P < 65536 := h
    rw [e, mayB_2, sOf_small _ (by omega)]
    exact decide_eq_true (by omega)
  · obtain rfl : s = 4 := by omega
    have h' : nuN P < 4294967296 := h
    rw [e, mayB_4, sOf_small _ (by omega)]
    exact decide_eq_true (by omega)
  · rw [e]
    exact mayB_8 _

/-- .. as just these bytes. -/
theorem byN_got (P : List Int) (s : Nat) (h8 : s ≤ 8) (hP : P.length = s) (hr : ∀ x ∈ P, 0 ≤ x ∧ x < 256) : byN (uOf (sOf (nuN P))) s = P := by
  have h := nuN_lt P hr
  rw [hP] at h
  rw [uOf_sOf _ (Nat.lt_of_lt_of_le h (Nat.le_trans (Nat.pow_le_pow_right (by decide) h8) (by decide)))]
  have := byN_nuN P hr
  rwa [hP] at this

theorem wpList_append_len {w : World} {ops : Array Oper} {rest : List Oper} {o : Oper} {a : Act} {Q : Exit → Act → World → Prop} (hgd : o.guard = none) (s x : Operand)
    (ho : o.op = .call { callee := .builtin .append, args := #[s, x], argTypes := #[22, 22] }) (base : Nat) (v : Value) (xs l : List Int) (ao : Option Addr) (len cap : Nat) (hl : l.length = len)
    (hs : a.eval s = v) (hx : a.eval x = .slice ao len cap) (hown : Own w base v xs) (hb : Byt w ao l) (hnil : ao = none → len = 0 ∧ cap = 0)
    (hlen : xs.length + len ≤ 10000000) (w0 : World) (hbel : Below base w0 w) (hbase : base ≤ w.heap.size)
    (h : ∀ v' w', Own w' base v' (xs ++ l) → Below base w0 w' → wpList Try.prog ops Q rest (a.put o.dst v') w') : wpList Try.prog ops Q (o :: rest) a w := by
  subst hl
  exact wpList_append_byt hgd s x ho base v xs l ao cap hs hx hown hb hnil hlen w0 hbel hbase h

/-- Get, of what was put among other bytes. -/
theorem get_put (A : Option Addr) (C k : Nat) (la lb : List Int) (n : Int) (s : Nat) (w : World) (h0 : -9223372036854775808 ≤ n) (h1 : n ≤ 9223372036854775807) (hn : mayB n (s : Int) = true)
    (ha : ∀ x ∈ la, 0 ≤ x ∧ x < 256) (hb : ∀ x ∈ lb, 0 ≤ x ∧ x < 256) (hk : (la ++ byN (uOf n) s ++ lb).length = k) (hlen : k ≤ 1000000) (hC : k ≤ C) (hB : Byt w A (la ++ byN (uOf n) s ++ lb)) :
    Calls Try.prog 10 #[.slice A k C, .int .i64 (la.length : Int), .int .i64 (s : Int)] w fun e w' => e = .returned (.tuple #[.int .i64 n, .int .i64 0]) ∧ w' = w := by
  subst hk
  have hs := mayB_sz hn
  have hi : inB (la ++ byN (uOf n) s ++ lb) (la.length : Int) (s : Int) = true := by
    refine decide_eq_true ⟨by omega, ?_⟩
    simp [byN_length]
    omega
  have := get_walk A C (la ++ byN (uOf n) s ++ lb) (la.length : Int) (s : Int) w (by
    intro x hx
    rcases List.mem_append.1 hx with hx | hx
    · rcases List.mem_append.1 hx with hx | hx
      · exact ha x hx
      · exact byN_range _ _ x hx
    · exact hb x hx) hlen hC hB
  rw [(get_in hs hi).1, (get_in hs hi).2, Int.toNat_natCast, Int.toNat_natCast] at this
  have e : ((la ++ byN (uOf n) s ++ lb).drop la.length).take s = byN (uOf n) s := by
    rw [List.append_assoc, List.drop_left' rfl, List.take_left' (byN_length _ _)]
  rw [e, nuN_byN, Nat.mod_eq_of_lt (mayB_lt n s h1 hn), sOf_uOf n h0 h1] at this
  exact this

/-- Get, in bounds. -/
theorem get_part (b off cap t s : Nat) (l P : List Int) (w : World) (hr : ∀ x ∈ l, 0 ≤ x ∧ x < 256) (hlen : l.length ≤ 1000000) (hcap : l.length ≤ cap) (hB : Byt w (some ⟨b, off, none⟩) l) (hs : szB (s : Int) = true) (hi : t + s ≤ l.length) (hP : (l.drop t).take s = P) :
    Calls Try.prog 10 #[.slice (some ⟨b, off, none⟩) l.length cap, .int .i64 (t : Int), .int .i64 (s : Int)] w fun e w' => e = .returned (.tuple #[.int .i64 (sOf (nuN P)), .int .i64 0]) ∧ w' = w := by
  have hi' : inB l (t : Int) (s : Int) = true := decide_eq_true ⟨by omega, by omega⟩
  have := get_walk (some ⟨b, off, none⟩) cap l (t : Int) (s : Int) w hr hlen hcap hB
  rwa [(get_in hs hi').1, (get_in hs hi').2, Int.toNat_natCast, Int.toNat_natCast, hP] at this

theorem leBack_great (n size at_ : Int) (a b : Option Addr) (len cap blen bcap : Nat) (w : World) (h : 10000 < len ∨ 10000 < blen) :
    Calls Try.prog 5 #[.int .i64 n, .int .i64 size, .slice a len cap, .slice b blen bcap, .int .i64 at_] w fun e w' => e = .returned (.bool true) ∧ Kept w w' := by
  by_cases h1 : 10000 < len
  · have d1 : decide (10000 < (len : Int)) = true := by simp; omega
    clear h
    go_enter Try.func5, Try.ntmps5
    go_wp2_with (go_at_call 12; refine (alive_walk _).mono ?_; rintro e w1 ⟨rfl, hk⟩)
    go_ret
    exact ⟨rfl, hk⟩
  · have h2 : 10000 < blen := by omega
    have d1 : decide (10000 < (len : Int)) = false := by simp; omega
    have d2 : decide (10000 < (blen : Int)) = true := by simp; omega
    clear h
    go_enter Try.func5, Try.ntmps5
    go_wp2_with (go_at_call 12; refine (alive_walk _).mono ?_; rintro e w1 ⟨rfl, hk⟩)
    go_ret
    exact ⟨rfl, hk⟩

theorem leBack_size (n size at_ : Int) (a b : Option Addr) (len cap blen bcap : Nat) (w : World) (h0 : -9223372036854775808 ≤ n) (h1 : n ≤ 9223372036854775807) (hl : len ≤ 10000) (hl2 : blen ≤ 10000) (hs : szB size = false) :
    Calls Try.prog 5 #[.int .i64 n, .int .i64 size, .slice a len cap, .slice b blen bcap, .int .i64 at_] w fun e w' => e = .returned (.bool true) ∧ Kept w w' := by
  have d1 : decide (10000 < (len : Int)) = false := by simp; omega
  have d2 : decide (10000 < (blen : Int)) = false := by simp; omega
  go_enter Try.func5, Try.ntmps5
  go_wp2_with (first
    | (go_at_call 12; refine (alive_walk _).mono ?_; rintro e w1 ⟨rfl, hk⟩)
    | (go_at_call 9; refine (put_no _ _ _ h0 h1 (mayB_no n size hs)).mono ?_; rintro e w2 ⟨rfl, rfl⟩)
    | (go_at_call 10; refine (get_size _ _ _ _ _ _ hs).mono ?_; rintro e w3 ⟨rfl, rfl⟩))
  go_ret
  exact ⟨rfl, hk⟩

set_option maxHeartbeats 1600000 in
theorem leBack_yes_far (n : Int) (s : Nat) (at_ : Int) (aa : Option Addr) (ab : Option Addr) (capa capb : Nat) (la lb : List Int) (w : World) (h0 : -9223372036854775808 ≤ n) (h1 : n ≤ 9223372036854775807) (hs : szB (s : Int) = true) (hn : mayB n (s : Int) = true) (hla : la.length ≤ 10000) (hlb : lb.length ≤ 10000)
    (_hca : la.length ≤ capa) (_hcb : lb.length ≤ capb) (hba : Byt w aa la) (hbb : Byt w ab lb) (hna : aa = none → la.length = 0 ∧ capa = 0) (hnb : ab = none → lb.length = 0 ∧ capb = 0) (hra : ∀ x ∈ la, 0 ≤ x ∧ x < 256) (hrb : ∀ x ∈ lb, 0 ≤ x ∧ x < 256) (hfar : at_ < 0 ∨ (lb.length : Int) < at_ + s) :
    Calls Try.prog 5 #[.int .i64 n, .int .i64 (s : Int), .slice aa la.length capa, .slice ab lb.length capb, .int .i64 at_] w fun e w' => e = .returned (.bool true) ∧ Kept w w' := by
  have d1 : decide (10000 < (la.length : Int)) = false := by simp; omega
  have d2 : decide (10000 < (lb.length : Int)) = false := by simp; omega
  have s8 : s ≤ 8 := by rcases szB_true hs with h | h | h | h <;> omega
  have s1 : 1 ≤ s := by rcases szB_true hs with h | h | h | h <;> omega
  go_enter Try.func5, Try.ntmps5
  go_upto_region 4 with (go_at_call 12; refine (alive_walk _).mono ?_; rintro e w1 ⟨rfl, hk⟩)
  go_upto_region 6 with (go_at_call 9; refine (put_len n s _ h0 h1 hn).mono ?_; rintro e w2 ⟨g1, c1, rfl, hc1, hb1, hk2⟩)
  have K2 : Kept w w2 := hk.trans hk2
  have Ba := hba.kept K2
  have Bb := hbb.kept K2
  clear hk hk2
  go_upto_region 7 with (at_builtin; first
    | (refine wpList_append_len rfl (.const (.slice none 0 0)) (.tmp 39) rfl w2.heap.size (.slice none 0 0) [] la aa la.length capa rfl rfl rfl (Own.nil _ _) Ba hna (by simp; omega) w2 (Kept.refl _) (Nat.le_refl _) ?_; intro va wa Ra Ka)
    | (refine wpList_append_len rfl (.tmp 40) (.tmp 41) rfl w2.heap.size va ([] ++ la) (byN (uOf n) s) (some ⟨g1, 0, none⟩) s c1 (byN_length _ _) rfl rfl Ra (hb1.kept Ka) (by simp) (by simp; omega) w2 Ka Ka.size ?_; intro vb wb Rb Kb)
    | (refine wpList_append_len rfl (.tmp 42) (.tmp 43) rfl w2.heap.size vb ([] ++ la ++ byN (uOf n) s) lb ab lb.length capb rfl rfl rfl Rb (Bb.kept Kb) hnb (by simp [byN_length]; omega) w2 Kb Kb.size ?_; intro vc wc Rc Kc))
  have Rc' : Own wc w2.heap.size vc (la ++ byN (uOf n) s ++ lb) := Rc
  obtain ⟨A, C, rfl, hC, hB, _⟩ := Rc'.all
  obtain ⟨k, hkl⟩ : ∃ k, (la ++ byN (uOf n) s ++ lb).length = k := ⟨_, rfl⟩
  have hkb : k ≤ 1000000 := by rw [← hkl]; simp [byN_length]; omega
  rw [hkl] at hC ⊢
  have HK : Hid ((la ++ byN (uOf n) s ++ lb).length = k) := hkl
  have K3 : Kept w wc := K2.trans Kc
  have Bc := hbb.kept K3
  clear Ra Rb Rc Rc' Ka Kb Kc K2 Ba Bb hba hkl hb1
  go_upto_region 10 with (go_at_call 10; refine (get_put A C k la lb n s _ h0 h1 hn hra hrb HK.out hkb hC hB).mono ?_; rintro e w4 ⟨rfl, hw4⟩; subst hw4)
  clear hB HK
  go_wp2_with (go_at_call 10; refine (get_out ab lb.length capb at_ s _ (by omega) hs hfar).mono ?_; rintro e w5 ⟨rfl, rfl⟩)
  go_ret
  exact ⟨rfl, K3⟩

set_option maxHeartbeats 1600000 in
theorem leBack_yes_in (n : Int) (s : Nat) (t : Nat) (aa : Option Addr) (bb off : Nat) (capa capb : Nat) (la lb : List Int) (w : World) (h0 : -9223372036854775808 ≤ n) (h1 : n ≤ 9223372036854775807) (hs : szB (s : Int) = true) (hn : mayB n (s : Int) = true) (hla : la.length ≤ 10000) (hlb : lb.length ≤ 10000)
    (_hca : la.length ≤ capa) (hcb : lb.length ≤ capb) (hba : Byt w aa la) (hbb : Byt w (some ⟨bb, off, none⟩) lb) (hna : aa = none → la.length = 0 ∧ capa = 0) (hra : ∀ x ∈ la, 0 ≤ x ∧ x < 256) (hrb : ∀ x ∈ lb, 0 ≤ x ∧ x < 256) (hin : t + s ≤ lb.length) :
    Calls Try.prog 5 #[.int .i64 n, .int .i64 (s : Int), .slice aa la.length capa, .slice (some ⟨bb, off, none⟩) lb.length capb, .int .i64 (t : Int)] w fun e w' => e = .returned (.bool true) ∧ Kept w w' := by
  have d1 : decide (10000 < (la.length : Int)) = false := by simp; omega
  have d2 : decide (10000 < (lb.length : Int)) = false := by simp; omega
  have s8 : s ≤ 8 := by rcases szB_true hs with h | h | h | h <;> omega
  have s1 : 1 ≤ s := by rcases szB_true hs with h | h | h | h <;> omega
  go_enter Try.func5, Try.ntmps5
  go_upto_region 4 with (go_at_call 12; refine (alive_walk _).mono ?_; rintro e w1 ⟨rfl, hk⟩)
  go_upto_region 6 with (go_at_call 9; refine (put_len n s _ h0 h1 hn).mono ?_; rintro e w2 ⟨g1, c1, rfl, hc1, hb1, hk2⟩)
  have K2 : Kept w w2 := hk.trans hk2
  have Ba := hba.kept K2
  have Bb := hbb.kept K2
  clear hk hk2
  go_upto_region 7 with (at_builtin; first
    | (refine wpList_append_len rfl (.const (.slice none 0 0)) (.tmp 39) rfl w2.heap.size (.slice none 0 0) [] la aa la.length capa rfl rfl rfl (Own.nil _ _) Ba hna (by simp; omega) w2 (Kept.refl _) (Nat.le_refl _) ?_; intro va wa Ra Ka)
    | (refine wpList_append_len rfl (.tmp 40) (.tmp 41) rfl w2.heap.size va ([] ++ la) (byN (uOf n) s) (some ⟨g1, 0, none⟩) s c1 (byN_length _ _) rfl rfl Ra (hb1.kept Ka) (by simp) (by simp; omega) w2 Ka Ka.size ?_; intro vb wb Rb Kb)
    | (refine wpList_append_len rfl (.tmp 42) (.tmp 43) rfl w2.heap.size vb ([] ++ la ++ byN (uOf n) s) lb (some ⟨bb, off, none⟩) lb.length capb rfl rfl rfl Rb (Bb.kept Kb) (by simp) (by simp [byN_length]; omega) w2 Kb Kb.size ?_; intro vc wc Rc Kc))
  have Rc' : Own wc w2.heap.size vc (la ++ byN (uOf n) s ++ lb) := Rc
  obtain ⟨A, C, rfl, hC, hB, _⟩ := Rc'.all
  obtain ⟨k, hkl⟩ : ∃ k, (la ++ byN (uOf n) s ++ lb).length = k := ⟨_, rfl⟩
  have hkb : k ≤ 1000000 := by rw [← hkl]; simp [byN_length]; omega
  rw [hkl] at hC ⊢
  have HK : Hid ((la ++ byN (uOf n) s ++ lb).length = k) := hkl
  have K3 : Kept w wc := K2.trans Kc
  have Bc := hbb.kept K3
  clear Ra Rb Rc Rc' Ka Kb Kc K2 Ba Bb hba hkl hb1
  go_upto_region 10 with (go_at_call 10; refine (get_put A C k la lb n s _ h0 h1 hn hra hrb HK.out hkb hC hB).mono ?_; rintro e w4 ⟨rfl, hw4⟩; subst hw4)
  clear hB HK
  obtain ⟨P, hP⟩ : ∃ P, (lb.drop t).take s = P := ⟨_, rfl⟩
  have hPl : P.length = s := by rw [← hP]; simp; omega
  have hPr : ∀ x ∈ P, 0 ≤ x ∧ x < 256 := by
    intro x hx
    rw [← hP] at hx
    exact hrb x (List.mem_of_mem_drop (List.mem_of_mem_take hx))
  have hgot := fun w' (h : Byt w' (some ⟨bb, off, none⟩) lb) => get_part bb off capb t s lb P w' hrb (by omega) hcb h hs hin hP
  have hmp := mayB_got P s hs hPl hPr
  have hbp := byN_got P s s8 hPl hPr
  have hyr := sOf_range (nuN P)
  obtain ⟨y, hy⟩ : ∃ y, sOf (nuN P) = y := ⟨_, rfl⟩
  rw [hy] at hmp hbp hyr
  simp only [hy] at hgot
  clear hy
  go_upto_region 13 with (go_at_call 10; refine (hgot _ Bc).mono ?_; rintro e w5 ⟨rfl, hw5⟩; subst hw5)
  go_upto_region 14 with (go_at_call 9; refine (put_len y s _ hyr.1 hyr.2 hmp).mono ?_; rintro e w6 ⟨g6, c6, rfl, hc6, hb6, hk6⟩)
  rw [hbp] at hb6
  obtain ⟨sz, hsz⟩ : ∃ sz, sz = strOfNums P := ⟨_, rfl⟩
  have hb7 : Byt w6 (some ⟨bb, off + t, none⟩) P := by
    rcases Bc.kept hk6 with h | ⟨b', off', he, hc⟩
    · rw [h] at hin; simp at hin; omega
    · cases he
      have := Byt.part hc hin
      rw [hP] at this
      exact .inr ⟨bb, off + t, rfl, fun i hi => this i (by rw [← hPl]; exact hi)⟩
  have hT1 := str_draw w6 _ _ s (capb - t) sz hb7 hPl hsz
  have hT2 := str_draw w6 _ _ s c6 sz hb6 hPl hsz
  have f1 : decide ((t : Int) + (s : Int) ≤ (lb.length : Int)) = true := by simp; omega
  have f2 : decide (t + s ≤ lb.length) = true := by simp; omega
  have f3 : decide (0 ≤ (t : Int)) = true := by simp
  have K6 : Kept w w6 := K3.trans hk6
  clear hsz hb6 hb7 hk6 hgot hmp hbp hyr hP hPr Bc
  go_big_quiet (fail)
  go_wp2
  go_ret
  exact ⟨rfl, K6.trans (Kept.drewN _ _)⟩

set_option maxHeartbeats 1600000 in
theorem leBack_no_far (n : Int) (s : Nat) (at_ : Int) (aa : Option Addr) (ab : Option Addr) (capa capb : Nat) (la lb : List Int) (w : World) (h0 : -9223372036854775808 ≤ n) (h1 : n ≤ 9223372036854775807) (hs : szB (s : Int) = true) (hn : mayB n (s : Int) = false) (hla : la.length ≤ 10000) (hlb : lb.length ≤ 10000)
    (_hca : la.length ≤ capa) (_hcb : lb.length ≤ capb) (_hba : Byt w aa la) (hbb : Byt w ab lb) (_hna : aa = none → la.length = 0 ∧ capa = 0) (_hnb : ab = none → lb.length = 0 ∧ capb = 0) (_hra : ∀ x ∈ la, 0 ≤ x ∧ x < 256) (_hrb : ∀ x ∈ lb, 0 ≤ x ∧ x < 256) (hfar : at_ < 0 ∨ (lb.length : Int) < at_ + s) :
    Calls Try.prog 5 #[.int .i64 n, .int .i64 (s : Int), .slice aa la.length capa, .slice ab lb.length capb, .int .i64 at_] w fun e w' => e = .returned (.bool true) ∧ Kept w w' := by
  have d1 : decide (10000 < (la.length : Int)) = false := by simp; omega
  have d2 : decide (10000 < (lb.length : Int)) = false := by simp; omega
  have s8 : s ≤ 8 := by rcases szB_true hs with h | h | h | h <;> omega
  have s1 : 1 ≤ s := by rcases szB_true hs with h | h | h | h <;> omega
  go_enter Try.func5, Try.ntmps5
  go_upto_region 4 with (go_at_call 12; refine (alive_walk _).mono ?_; rintro e w1 ⟨rfl, hk⟩)
  go_upto_region 10 with (go_at_call 9; refine (put_no n s _ h0 h1 hn).mono ?_; rintro e w2 ⟨rfl, rfl⟩)
  have Bc := hbb.kept hk
  have K3 := hk
  clear hk
  go_wp2_with (go_at_call 10; refine (get_out ab lb.length capb at_ s _ (by omega) hs hfar).mono ?_; rintro e w5 ⟨rfl, rfl⟩)
  go_ret
  exact ⟨rfl, K3⟩

set_option maxHeartbeats 1600000 in
theorem leBack_no_in (n : Int) (s : Nat) (t : Nat) (aa : Option Addr) (bb off : Nat) (capa capb : Nat) (la lb : List Int) (w : World) (h0 : -9223372036854775808 ≤ n) (h1 : n ≤ 9223372036854775807) (hs : szB (s : Int) = true) (hn : mayB n (s : Int) = false) (hla : la.length ≤ 10000) (hlb : lb.length ≤ 10000)
    (_hca : la.length ≤ capa) (hcb : lb.length ≤ capb) (_hba : Byt w aa la) (hbb : Byt w (some ⟨bb, off, none⟩) lb) (_hna : aa = none → la.length = 0 ∧ capa = 0) (_hra : ∀ x ∈ la, 0 ≤ x ∧ x < 256) (hrb : ∀ x ∈ lb, 0 ≤ x ∧ x < 256) (hin : t + s ≤ lb.length) :
    Calls Try.prog 5 #[.int .i64 n, .int .i64 (s : Int), .slice aa la.length capa, .slice (some ⟨bb, off, none⟩) lb.length capb, .int .i64 (t : Int)] w fun e w' => e = .returned (.bool true) ∧ Kept w w' := by
  have d1 : decide (10000 < (la.length : Int)) = false := by simp; omega
  have d2 : decide (10000 < (lb.length : Int)) = false := by simp; omega
  have s8 : s ≤ 8 := by rcases szB_true hs with h | h | h | h <;> omega
  have s1 : 1 ≤ s := by rcases szB_true hs with h | h | h | h <;> omega
  go_enter Try.func5, Try.ntmps5
  go_upto_region 4 with (go_at_call 12; refine (alive_walk _).mono ?_; rintro e w1 ⟨rfl, hk⟩)
  go_upto_region 10 with (go_at_call 9; refine (put_no n s _ h0 h1 hn).mono ?_; rintro e w2 ⟨rfl, rfl⟩)
  have Bc := hbb.kept hk
  have K3 := hk
  clear hk
  obtain ⟨P, hP⟩ : ∃ P, (lb.drop t).take s = P := ⟨_, rfl⟩
  have hPl : P.length = s := by rw [← hP]; simp; omega
  have hPr : ∀ x ∈ P, 0 ≤ x ∧ x < 256 := by
    intro x hx
    rw [← hP] at hx
    exact hrb x (List.mem_of_mem_drop (List.mem_of_mem_take hx))
  have hgot := fun w' (h : Byt w' (some ⟨bb, off, none⟩) lb) => get_part bb off capb t s lb P w' hrb (by omega) hcb h hs hin hP
  have hmp := mayB_got P s hs hPl hPr
  have hbp := byN_got P s s8 hPl hPr
  have hyr := sOf_range (nuN P)
  obtain ⟨y, hy⟩ : ∃ y, sOf (nuN P) = y := ⟨_, rfl⟩
  rw [hy] at hmp hbp hyr
  simp only [hy] at hgot
  clear hy
  go_upto_region 13 with (go_at_call 10; refine (hgot _ Bc).mono ?_; rintro e w5 ⟨rfl, hw5⟩; subst hw5)
  go_upto_region 14 with (go_at_call 9; refine (put_len y s _ hyr.1 hyr.2 hmp).mono ?_; rintro e w6 ⟨g6, c6, rfl, hc6, hb6, hk6⟩)
  rw [hbp] at hb6
  obtain ⟨sz, hsz⟩ : ∃ sz, sz = strOfNums P := ⟨_, rfl⟩
  have hb7 : Byt w6 (some ⟨bb, off + t, none⟩) P := by
    rcases Bc.kept hk6 with h | ⟨b', off', he, hc⟩
    · rw [h] at hin; simp at hin; omega
    · cases he
      have := Byt.part hc hin
      rw [hP] at this
      exact .inr ⟨bb, off + t, rfl, fun i hi => this i (by rw [← hPl]; exact hi)⟩
  have hT1 := str_draw w6 _ _ s (capb - t) sz hb7 hPl hsz
  have hT2 := str_draw w6 _ _ s c6 sz hb6 hPl hsz
  have f1 : decide ((t : Int) + (s : Int) ≤ (lb.length : Int)) = true := by simp; omega
  have f2 : decide (t + s ≤ lb.length) = true := by simp; omega
  have f3 : decide (0 ≤ (t : Int)) = true := by simp
  have K6 : Kept w w6 := K3.trans hk6
  clear hsz hb6 hb7 hk6 hgot hmp hbp hyr hP hPr Bc
  go_big_quiet (fail)
  go_wp2
  go_ret
  exact ⟨rfl, K6.trans (Kept.drewN _ _)⟩

theorem leBack_walk (n size at_ : Int) (aa ab : Option Addr) (capa capb : Nat) (la lb : List Int) (w : World) (h0 : -9223372036854775808 ≤ n) (h1 : n ≤ 9223372036854775807)
    (hca : la.length ≤ capa) (hcb : lb.length ≤ capb) (hba : Byt w aa la) (hbb : Byt w ab lb) (hna : aa = none → la.length = 0 ∧ capa = 0) (hnb : ab = none → lb.length = 0 ∧ capb = 0) (hra : ∀ x ∈ la, 0 ≤ x ∧ x < 256) (hrb : ∀ x ∈ lb, 0 ≤ x ∧ x < 256) :
    Calls Try.prog 5 #[.int .i64 n, .int .i64 size, .slice aa la.length capa, .slice ab lb.length capb, .int .i64 at_] w fun e w' => e = .returned (.bool true) ∧ Kept w w' := by
  by_cases hg : 10000 < la.length ∨ 10000 < lb.length
  · exact leBack_great n size at_ aa ab la.length capa lb.length capb w hg
  · have hla : la.length ≤ 10000 := by omega
    have hlb : lb.length ≤ 10000 := by omega
    cases hs : szB size
    · exact leBack_size n size at_ aa ab la.length capa lb.length capb w h0 h1 hla hlb hs
    · have es := szB_nat hs
      have s8 : 1 ≤ size ∧ size ≤ 8 := by rcases szB_true hs with h | h | h | h <;> omega
      by_cases hin : 0 ≤ at_ ∧ at_ + size ≤ lb.length
      · have et : ((at_.toNat : Nat) : Int) = at_ := by omega
        have hin' : at_.toNat + size.toNat ≤ lb.length := by omega
        have hbb' := hbb
        rcases hbb with rfl | ⟨bb, off, rfl, _⟩
        · simp at hin; omega
        · rw [← es, ← et]
          rw [← es] at hs
          cases hn : mayB n ((size.toNat : Nat) : Int)
          · exact leBack_no_in n size.toNat at_.toNat aa bb off capa capb la lb w h0 h1 hs hn hla hlb hca hcb hba hbb' hna hra hrb hin'
          · exact leBack_yes_in n size.toNat at_.toNat aa bb off capa capb la lb w h0 h1 hs hn hla hlb hca hcb hba hbb' hna hra hrb hin'
      · have hfar : at_ < 0 ∨ (lb.length : Int) < at_ + ((size.toNat : Nat) : Int) := by rw [es]; omega
        rw [← es]
        rw [← es] at hs
        cases hn : mayB n ((size.toNat : Nat) : Int)
        · exact leBack_no_far n size.toNat at_ aa ab capa capb la lb w h0 h1 hs hn hla hlb hca hcb hba hbb hna hnb hra hrb hfar
        · exact leBack_yes_far n size.toNat at_ aa ab capa capb la lb w h0 h1 hs hn hla hlb hca hcb hba hbb hna hnb hra hrb hfar
end Go.Proofs.Ytjaeidmbeidhlaa
