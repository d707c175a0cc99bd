/- What the document's own Read gives. -/
import Derived.Test.YtpaeemijpincpaaDoorRHas
import Derived.Deep.DeepCutAuto
import Derived.Deep.CutBlock
namespace Go.Proofs.YtpaeemijpincpaaDoor
open Go.RowKit

theorem rgather_x (c : Int) (hc : c ∈ letters) (x : Nat) (hx : x < 4294967296) (a : Option Addr) (cap : Nat) (w : World) (hC : Cells w a (plen c) (placeP c)) :
    Calls Tryd.prog 41 #[.int .u32 x, .slice a (plen c) cap] w fun e w' => e = .returned (.tuple #[.int .u32 (gN c x), .int .i64 0]) ∧ Kept w w' := by
  have h := rgather_u x (by omega) (by omega) a (plen c) cap (placeP c) w hC
  have e1 : gathV x (placeP c) (plen c) = (gN c x : Int) := by
    unfold gathV
    rw [if_pos (places_ok _ hc), Int.toNat_natCast]
    rfl
  rw [e1, places_ok _ hc] at h
  exact h.mono fun e w' ⟨he, m, hw⟩ => ⟨he, hw ▸ Kept.drewN _ _⟩
theorem signed_x (c : Int) (hc : c ∈ letters) (h1 : 1 ≤ plen c) (x : Nat) (w : World) :
    Calls Tryd.prog 42 #[.int .u32 (gN c x), .int .i64 (plen c)] w fun e w' => e = .returned (.int .i64 (sgV (gN c x) (plen c))) ∧ w' = w := by
  have hg := gN_hi hc x
  have hn := plen_le c hc
  unfold sgV
  split
  · exact signed_walk_lo (gN c x) (plen c) h1 (by omega) (by omega) (by assumption) w
  · exact signed_walk_hi (gN c x) (plen c) h1 (by omega) (by omega) (by omega) w
theorem bits_x (x : Nat) (hx : x < 4294967296) (a : Nat) (ha : a ≤ 20) (w : World) :
    Calls Tryd.prog 43 #[.int .u32 x, .int .i64 a, .int .i64 5] w fun e w' => e = .returned (.int .u32 ((x / 2 ^ a % 32 : Nat) : Int)) ∧ Kept w w' := by
  have h := bits_walk x a 5 hx (by omega) (by omega) w
  have e : (x : Int) / 2 ^ a % 2 ^ 5 = ((x / 2 ^ a % 32 : Nat) : Int) := by simp
  rw [e] at h
  exact h.mono fun e w' ⟨he, m, hw⟩ => ⟨he, hw ▸ Kept.drewN _ _⟩

/-- What is signed of the number. -/
def sgR (c : Int) (x : Nat) : Int := if isSg c || isTw c then sgV (gN c x) (plen c) else (gN c x : Int)
theorem sgR_num (c : Int) (x : Nat) : numR c x = if isTw c then 2 * sgR c x else sgR c x := by
  unfold numR sgR
  cases hs : isSg c <;> cases ht : isTw c
  · rfl
  · rfl
  · rfl
  · simp only [isSg, isTw, decide_eq_true_eq] at hs ht; omega

theorem sgR_plain {c : Int} (h : (isSg c || isTw c) = false) (x : Nat) : sgR c x = (gN c x : Int) := by simp only [sgR, h, Bool.false_eq_true, if_false]
theorem sgR_sg {c : Int} (h : (isSg c || isTw c) = true) (x : Nat) : sgR c x = sgV (gN c x) (plen c) := by simp only [sgR, h, if_true]
theorem sgR_len {c : Int} (hc : c ∈ letters) (h : (isSg c || isTw c) = true) : 1 ≤ plen c := by
  rcases Bool.or_eq_true_iff.mp h with h | h
  · exact ((num_facts c hc).1 h).2.1
  · exact ((num_facts c hc).2.1 h).2.1
theorem sgR_no {c : Int} (h : (isSg c || isTw c) = false) : (c == 73) = false ∧ (c == 76) = false ∧ (c == 83) = false ∧ (c == 74) = false ∧ (c == 66) = false := by
  simp only [Bool.or_eq_false_iff, isSg, isTw, decide_eq_false_iff_not] at h
  simp only [beq_eq_false_iff_ne, ne_eq]
  omega
theorem sgR_yes {c : Int} (h : (isSg c || isTw c) = true) : (c == 73) = true ∨ ((c == 73) = false ∧ (c == 76) = true) ∨ ((c == 73) = false ∧ (c == 76) = false ∧ (c == 83) = true) ∨
    ((c == 73) = false ∧ (c == 76) = false ∧ (c == 83) = false ∧ (c == 74) = true) ∨ ((c == 73) = false ∧ (c == 76) = false ∧ (c == 83) = false ∧ (c == 74) = false ∧ (c == 66) = true) := by
  simp only [Bool.or_eq_true, isSg, isTw, decide_eq_true_eq] at h
  rcases h with (rfl | rfl | rfl) | (rfl | rfl) <;> decide

theorem rd_range (c : Int) (x : Nat) : 0 ≤ rdR c x ∧ rdR c x < 32 := by
  have := Nat.mod_lt (x / 128) (by decide : 32 > 0)
  unfold rdR; split <;> omega
theorem rs1_range (c : Int) (x : Nat) : 0 ≤ rs1R c x ∧ rs1R c x < 32 := by
  have := Nat.mod_lt (x / 32768) (by decide : 32 > 0)
  unfold rs1R; split <;> omega
theorem rs2_range (c : Int) (x : Nat) : 0 ≤ rs2R c x ∧ rs2R c x < 32 := by
  have := Nat.mod_lt (x / 1048576) (by decide : 32 > 0)
  unfold rs2R; split <;> omega
theorem bits_rd {c : Int} (hd : hasRd c = true) (x : Nat) (hx : x < 4294967296) (w : World) :
    Calls Tryd.prog 43 #[.int .u32 x, .int .i64 7, .int .i64 5] w fun e w' => e = .returned (.int .u32 (rdR c x)) ∧ Kept w w' := by
  have h := bits_x x hx 7 (by decide) w
  have e : rdR c x = ((x / 2 ^ 7 % 32 : Nat) : Int) := by unfold rdR; rw [if_pos hd]
  rw [e]; exact h
theorem bits_rs1 {c : Int} (hd : hasRs1 c = true) (x : Nat) (hx : x < 4294967296) (w : World) :
    Calls Tryd.prog 43 #[.int .u32 x, .int .i64 15, .int .i64 5] w fun e w' => e = .returned (.int .u32 (rs1R c x)) ∧ Kept w w' := by
  have h := bits_x x hx 15 (by decide) w
  have e : rs1R c x = ((x / 2 ^ 15 % 32 : Nat) : Int) := by unfold rs1R; rw [if_pos hd]
  rw [e]; exact h
theorem bits_rs2 {c : Int} (hd : hasRs2 c = true) (x : Nat) (hx : x < 4294967296) (w : World) :
    Calls Tryd.prog 43 #[.int .u32 x, .int .i64 20, .int .i64 5] w fun e w' => e = .returned (.int .u32 (rs2R c x)) ∧ Kept w w' := by
  have h := bits_x x hx 20 (by decide) w
  have e : rs2R c x = ((x / 2 ^ 20 % 32 : Nat) : Int) := by unfold rs2R; rw [if_pos hd]
  rw [e]; exact h
theorem sgR_range {c : Int} (hc : c ∈ letters) (x : Nat) : -1048576 ≤ sgR c x ∧ sgR c x ≤ 1048576 := by
  have hg := gN_hi hc x
  cases h : (isSg c || isTw c)
  · rw [sgR_plain h]; omega
  · rw [sgR_sg h]; exact sg_range hc (sgR_len hc h) x
theorem beq_cast (a b : Nat) : ((a : Int) == (b : Int)) = (a == b) := by rw [Bool.eq_iff_iff]; simp [Int.ofNat_inj]
theorem tw_bool (c : Int) : isTw c = (c == 74 || c == 66) := by simp [isTw, Bool.decide_or]; rfl

/-- The world within Read: both boxes. -/
structure InRead (W w : World) (b : Nat) (op rd rs1 rs2 imm : Int) : Prop where
  kept : Kept W w
  res : Box w W.heap.size 0 0 0 0 0
  box : Box w b op rd rs1 rs2 imm
  lt : W.heap.size < b
theorem InRead.on {W w w' : World} {b : Nat} {op rd rs1 rs2 imm : Int} (h : InRead W w b op rd rs1 rs2 imm) (k : Kept w w') : InRead W w' b op rd rs1 rs2 imm :=
  ⟨h.kept.trans k, h.res.kept k, h.box.kept k, h.lt⟩
theorem InRead.set1 {W w : World} {b : Nat} {op rd rs1 rs2 imm : Int} (h : InRead W w b op rd rs1 rs2 imm) (r : Int) : InRead W (w.setCell ⟨b, 1, none⟩ (.int .i64 r)) b op r rs1 rs2 imm :=
  ⟨below_set h.kept (Nat.le_of_lt h.lt), h.res.far (Nat.ne_of_gt h.lt), h.box.set1 r, h.lt⟩
theorem InRead.set2 {W w : World} {b : Nat} {op rd rs1 rs2 imm : Int} (h : InRead W w b op rd rs1 rs2 imm) (r : Int) : InRead W (w.setCell ⟨b, 2, none⟩ (.int .i64 r)) b op rd r rs2 imm :=
  ⟨below_set h.kept (Nat.le_of_lt h.lt), h.res.far (Nat.ne_of_gt h.lt), h.box.set2 r, h.lt⟩
theorem InRead.set3 {W w : World} {b : Nat} {op rd rs1 rs2 imm : Int} (h : InRead W w b op rd rs1 rs2 imm) (r : Int) : InRead W (w.setCell ⟨b, 3, none⟩ (.int .i64 r)) b op rd rs1 r imm :=
  ⟨below_set h.kept (Nat.le_of_lt h.lt), h.res.far (Nat.ne_of_gt h.lt), h.box.set3 r, h.lt⟩
theorem InRead.set4 {W w : World} {b : Nat} {op rd rs1 rs2 imm : Int} (h : InRead W w b op rd rs1 rs2 imm) (r : Int) : InRead W (w.setCell ⟨b, 4, none⟩ (.int .i64 r)) b op rd rs1 rs2 r :=
  ⟨below_set h.kept (Nat.le_of_lt h.lt), h.res.far (Nat.ne_of_gt h.lt), h.box.set4 r, h.lt⟩
/-- The first box, then all that the callees left, then the second. -/
theorem InRead.begin {W w1 w2 w3 : World} {op imm : Int} (k1 : Kept (W.alloc (.cells #[.int .u8 0, .int .i64 0, .int .i64 0, .int .i64 0, .int .i64 0] 23)) w1) (k2 : Kept w1 w2) (k3 : Kept w2 w3) :
    InRead W (w3.alloc (.cells #[.int .u8 op, .int .i64 0, .int .i64 0, .int .i64 0, .int .i64 imm] 23)) w3.heap.size op 0 0 0 imm := by
  have K := (k1.trans k2).trans k3
  have hB : Box (W.alloc (.cells #[.int .u8 0, .int .i64 0, .int .i64 0, .int .i64 0, .int .i64 0] 23)) W.heap.size 0 0 0 0 0 := by constructor <;> simp
  refine ⟨((Kept.alloc _ _).trans K).trans (Kept.alloc _ _), (hB.kept K).kept (Kept.alloc _ _), ?_, ?_⟩
  · constructor <;> simp
  · have := K.size
    simp at this
    omega

set_option maxRecDepth 20000 in
set_option maxHeartbeats 1600000 in
theorem read_walk (k : Nat) (hk : k < 94) (x : Nat) (hx : x < 4294967296) (w : World) :
    Calls Tryd.prog 23 #[.int .u8 ((k : Int) + 1), .int .u32 x] w fun e w' =>
      e = .returned (.tuple #[insnV ((k : Int) + 1) (rdR (formC k) x) (rs1R (formC k) x) (rs2R (formC k) x) (numR (formC k) x), .bool (hitB x k)]) ∧ Kept w w' := by
  have hc := formC_letter k hk
  have hm := read_may hk x
  have hw := read_iff hk hx
  generalize hcc : ((formC k : Nat) : Int) = c at hc hm hw ⊢
  have hp : plErr c = 0 := if_pos hc
  have hg := gN_hi hc x
  have hf := fun w => rform_k hk w
  rw [hcc] at hf
  clear hcc
  go_enter Tryd.func23, Tryd.ntmps23
  go_upto_region 4 with (first
    | (go_at_call 40; refine (hf _).mono ?_; rintro e w1 ⟨rfl, hk1⟩)
    | (go_at_call 24; refine (rplaces_walk c _).mono ?_; rintro e w2 ⟨a, cap, rfl, hC, hk2⟩)
    | (go_at_call 41; refine (rgather_x c hc x hx _ _ _ hC).mono ?_; rintro e w3 ⟨rfl, hk3⟩))
  go_cut [12] (fun p wx => ∃ b, p = .pointer (some ⟨b, 0, none⟩) ∧ InRead w wx b ((k : Int) + 1) 0 0 0 (gN c x))
  case first =>
    go_wp2
    go_meet
    exact ⟨_, rfl, InRead.begin hk1 hk2 hk3⟩
  case rest =>
    obtain ⟨b, rfl, hI⟩ := hcut
    clear hk1 hk2 hk3 hC hf
    go_upto_block 0 with fail
    go_cut [37] (fun _ wx => InRead w wx b ((k : Int) + 1) 0 0 0 (sgR c x))
    case first =>
      cases hsg : (isSg c || isTw c)
      · obtain ⟨e1, e2, e3, e4, e5⟩ := sgR_no hsg
        have hR := sgR_plain hsg x
        clear hsg
        as_aux_lemma =>
          go_wp2
          go_meet
          exact hR ▸ hI
      · have hR := sgR_sg hsg x
        have hl := sgR_len hc hsg
        have hs := fun w => signed_x c hc hl x w
        rw [← hR] at hs
        have hB := hI.box
        obtain ⟨c0, c1, c2, c3, c4, f0, f1, f2, f3, f4⟩ := hB
        rcases sgR_yes hsg with e1 | ⟨e1, e2⟩ | ⟨e1, e2, e3⟩ | ⟨e1, e2, e3, e4⟩ | ⟨e1, e2, e3, e4, e5⟩
        all_goals
          clear hR hsg
          as_aux_lemma =>
            go_wp2_with (go_at_call 42; refine (hs _).mono ?_; rintro e w' ⟨rfl, rfl⟩)
            go_meet
            exact hI.set4 _
    case rest =>
      clear hI
      have hI := hcut
      clear hcut
      have hB := hI.box
      obtain ⟨c0, c1, c2, c3, c4, f0, f1, f2, f3, f4⟩ := hB
      go_upto_region 12 with fail
      go_cut [53] (fun v wx => v = .bool (isTw c) ∧ wx = wc)
      case first =>
        have ht := tw_bool c
        cases e4 : (c == 74) <;> cases e5 : (c == 66)
        all_goals
          rw [e4, e5] at ht
          as_aux_lemma =>
            go_wp2
            go_meet
            exact ⟨congrArg Value.bool ht.symm, rfl⟩
      case rest =>
        obtain ⟨rfl, rfl⟩ := hcut
        go_upto_if 53 with fail
        go_cut [53, 54] (fun _ _ wx => InRead w wx b ((k : Int) + 1) 0 0 0 (numR c x))
        case first =>
          have hn := sgR_num c x
          have hr := sgR_range hc x
          cases ht : isTw c
          · rw [ht] at hn
            have hn' : sgR c x = numR c x := hn.symm
            rw [hn'] at hI
            clear hn hn' hr
            as_aux_lemma =>
              go_wp2
              go_meet
              exact hI
          · rw [ht] at hn
            have hn' : 2 * sgR c x = numR c x := hn.symm
            clear hn
            as_aux_lemma =>
              go_wp2
              go_meet
              exact hI.set4 _
        case rest =>
          clear hI c0 c1 c2 c3 c4 f0 f1 f2 f3 f4
          have hI := hcut
          clear hcut
          go_upto_if 64 with (go_at_call 25; refine (has_walk c hc _).mono ?_; rintro e w5 ⟨rfl, hk5⟩; have hI5 := hI.on hk5)
          generalize hd : hasRd c = d1
          generalize hs : hasRs1 c = d2
          generalize ht : hasRs2 c = d3
          have hB := hI5.box
          obtain ⟨c0, c1, c2, c3, c4, f0, f1, f2, f3, f4⟩ := hB
          clear hI hk5
          go_cut [65] (fun _ wx => InRead w wx b ((k : Int) + 1) (rdR c x) 0 0 (numR c x))
          case first =>
            have hr := rd_range c x
            cases d1
            · have e : (0 : Int) = rdR c x := by unfold rdR; rw [hd]; rfl
              as_aux_lemma =>
                go_wp2
                go_meet
                rw [← e]
                exact hI5
            · have hb := fun w => bits_rd hd x hx w
              as_aux_lemma =>
                go_wp2_with (go_at_call 43; refine (hb _).mono ?_; rintro e w6 ⟨rfl, hk6⟩; have hI6 := hI5.on hk6; clear c0 c1 c2 c3 c4 f0 f1 f2 f3 f4; have hB := hI6.box; obtain ⟨c0, c1, c2, c3, c4, f0, f1, f2, f3, f4⟩ := hB)
                go_meet
                exact hI6.set1 _
          case rest =>
            clear hI5 c0 c1 c2 c3 c4 f0 f1 f2 f3 f4
            have hI := hcut
            clear hcut
            go_upto_if 69 with fail
            have hB := hI.box
            obtain ⟨c0, c1, c2, c3, c4, f0, f1, f2, f3, f4⟩ := hB
            go_cut [70] (fun _ wx => InRead w wx b ((k : Int) + 1) (rdR c x) (rs1R c x) 0 (numR c x))
            case first =>
              have hr := rs1_range c x
              cases d2
              · have e : (0 : Int) = rs1R c x := by unfold rs1R; rw [hs]; rfl
                as_aux_lemma =>
                  go_wp2
                  go_meet
                  rw [← e]
                  exact hI
              · have hb := fun w => bits_rs1 hs x hx w
                as_aux_lemma =>
                  go_wp2_with (go_at_call 43; refine (hb _).mono ?_; rintro e w6 ⟨rfl, hk6⟩; have hI6 := hI.on hk6; clear c0 c1 c2 c3 c4 f0 f1 f2 f3 f4; have hB := hI6.box; obtain ⟨c0, c1, c2, c3, c4, f0, f1, f2, f3, f4⟩ := hB)
                  go_meet
                  exact hI6.set2 _
            case rest =>
              clear hI c0 c1 c2 c3 c4 f0 f1 f2 f3 f4
              have hI := hcut
              clear hcut
              go_upto_if 74 with fail
              have hB := hI.box
              obtain ⟨c0, c1, c2, c3, c4, f0, f1, f2, f3, f4⟩ := hB
              go_cut [75] (fun _ wx => InRead w wx b ((k : Int) + 1) (rdR c x) (rs1R c x) (rs2R c x) (numR c x))
              case first =>
                have hr := rs2_range c x
                cases d3
                · have e : (0 : Int) = rs2R c x := by unfold rs2R; rw [ht]; rfl
                  as_aux_lemma =>
                    go_wp2
                    go_meet
                    rw [← e]
                    exact hI
                · have hb := fun w => bits_rs2 ht x hx w
                  as_aux_lemma =>
                    go_wp2_with (go_at_call 43; refine (hb _).mono ?_; rintro e w6 ⟨rfl, hk6⟩; have hI6 := hI.on hk6; clear c0 c1 c2 c3 c4 f0 f1 f2 f3 f4; have hB := hI6.box; obtain ⟨c0, c1, c2, c3, c4, f0, f1, f2, f3, f4⟩ := hB)
                    go_meet
                    exact hI6.set3 _
              case rest =>
                clear hI c0 c1 c2 c3 c4 f0 f1 f2 f3 f4
                have hI := hcut
                clear hcut
                have P := parts_of hm
                have h0 : (0 : Int) ≤ (k : Int) + 1 := by omega
                have h1 : (k : Int) + 1 ≤ 255 := by omega
                have cM := fun w => mayRef_walk ((k : Int) + 1) (rdR c x) (rs1R c x) (rs2R c x) (numR c x) h0 h1 w
                have cC := fun w => coded_walk ((k : Int) + 1) (rdR c x) (rs1R c x) (rs2R c x) (numR c x) h0 h1 P w
                rw [hm] at cM
                have hB := hI.box
                obtain ⟨c0, c1, c2, c3, c4, f0, f1, f2, f3, f4⟩ := hB
                have hA := hI.res
                obtain ⟨d0, d1', d2', d3', d4, g0, g1, g2, g3, g4⟩ := hA
                clear hd hs ht P hm
                have hwI : (((wordN ((k : Int) + 1) (rdR c x) (rs1R c x) (rs2R c x) (numR c x) : Nat) : Int) == (x : Int)) = hitB x k := by rw [← hw]; exact beq_cast _ _
                clear hw
                go_upto_region 21 with fail
                go_cut [5] (fun v wx => v = .bool (hitB x k) ∧ Box wx w.heap.size ((k : Int) + 1) (rdR c x) (rs1R c x) (rs2R c x) (numR c x) ∧ Kept w wx)
                case first =>
                  go_region_with (first
                    | (go_at_call 44; refine (cM _).mono ?_; rintro e w6 ⟨rfl, hk6⟩; have hI6 := hI.on (Kept.trans (Below.drew (Kept.refl _)) hk6); clear c0 c1 c2 c3 c4 f0 f1 f2 f3 f4 d0 d1' d2' d3' d4 g0 g1 g2 g3 g4; have hB := hI6.box; obtain ⟨c0, c1, c2, c3, c4, f0, f1, f2, f3, f4⟩ := hB; have hA := hI6.res; obtain ⟨d0, d1', d2', d3', d4, g0, g1, g2, g3, g4⟩ := hA)
                    | (go_at_call 45; refine (cC _).mono ?_; rintro e w7 ⟨rfl, hk7⟩; have hI7 := hI6.on hk7; clear c0 c1 c2 c3 c4 f0 f1 f2 f3 f4 d0 d1' d2' d3' d4 g0 g1 g2 g3 g4; have hB := hI7.box; obtain ⟨c0, c1, c2, c3, c4, f0, f1, f2, f3, f4⟩ := hB; have hA := hI7.res; obtain ⟨d0, d1', d2', d3', d4, g0, g1, g2, g3, g4⟩ := hA))
                  all_goals
                    as_aux_lemma =>
                      go_wp2_with fail
                      go_meet
                      exact ⟨rfl, hI7.res.put _ _ _ _ _, below_put hI7.kept (Nat.le_refl _) _ _ _ _ _⟩
                case rest =>
                  obtain ⟨rfl, hR, hW⟩ := hcut
                  clear cM cC hI c0 c1 c2 c3 c4 f0 f1 f2 f3 f4 d0 d1' d2' d3' d4 g0 g1 g2 g3 g4
                  go_wp2
                  refine bodyPost_ret (v := .tuple #[insnV ((k : Int) + 1) (rdR c x) (rs1R c x) (rs2R c x) (numR c x), .bool (hitB x k)]) (by simp [results, Tryd.results23, go_sem, hR.c0, hR.c1, hR.c2, hR.c3, hR.c4]) rfl ⟨rfl, hW⟩
end Go.Proofs.YtpaeemijpincpaaDoor
