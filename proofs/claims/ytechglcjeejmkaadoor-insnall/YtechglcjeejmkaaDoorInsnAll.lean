/- Proved: the law InsnAll of the package quoinlaw02 returns true for every text: just the numbers from 1 to 94 have names and forms, and just these names are found. The table of names is as the program's text lays it (the card ties it). -/
import Derived.Test.YtechglcjeejmkaaDoorKit
namespace Go.Proofs.YtechglcjeejmkaaDoor
open Go.ChangeShapes Go.WideShapes Go.ChangeAt Go.RowKit
open Go.ChangeMaps (open_string shut_string)
set_option linter.unusedVariables false

/-- Has one of the instructions ahead of k that name? -/
def isAt (s : ByteArray) (k : Nat) : Bool := decide (ofIx s < 94 ∧ ofIx s + 1 < k)

theorem nm_ofIx {s : ByteArray} (h : ofIx s < 94) : nm (ofIx s) = s := by
  rcases Nat.lt_or_ge (ofIx s) 94 with hl | hg
  · by_cases he : nm (ofIx s) = s
    · exact he
    · have := ofIx_miss hl (Nat.le_refl _) he
      omega
  · omega

theorem isAt_no {s : ByteArray} {k : Nat} (h : isOp k = false) : isAt s (k + 1) = isAt s k := by
  have := of_decide_eq_false h
  unfold isAt
  rw [Bool.eq_iff_iff]
  simp only [decide_eq_true_eq]
  omega

theorem isAt_hit {s : ByteArray} {k : Nat} (h : isOp k = true) (hs : nameV k = s) : isAt s (k + 1) = true := by
  have hb := isOp_true h
  have e : nameV k = nm (k - 1) := by
    unfold nameV
    rw [if_pos h]
    congr 1
  have h2 := ofIx_nm (k - 1) (by omega)
  rw [e] at hs
  rw [hs] at h2
  exact decide_eq_true (by omega)

theorem isAt_miss {s : ByteArray} {k : Nat} (h : isOp k = true) (hs : ¬ nameV k = s) : isAt s (k + 1) = isAt s k := by
  have hb := isOp_true h
  have e : nameV k = nm (k - 1) := by
    unfold nameV
    rw [if_pos h]
    congr 1
  have hne : ofIx s < 94 → ofIx s ≠ k - 1 := fun hl he => hs (by rw [e, ← he]; exact nm_ofIx hl)
  unfold isAt
  rw [Bool.eq_iff_iff]
  simp only [decide_eq_true_eq]
  constructor
  · intro h'
    have := hne h'.1
    omega
  · intro h'
    omega

set_option maxRecDepth 20000 in
theorem insnAll_walk (a0 : ByteArray) (w0 : a0.size ≤ maxLen) (w : World) (hT : Tab w) :
    Calls Tryd.prog 7 #[.string a0] w fun e w' => e = .returned (.bool true) ∧ Kept w w' := by
  go_enter Tryd.func7, Tryd.ntmps7
  by_cases hlen : (1000 : Int) < a0.size
  · go_wp2_with (first
      | (go_at_call 10; refine (alive_walk _ hT).mono ?_; rintro e w' ⟨rfl, rfl⟩))
    go_ret
    exact ⟨rfl, Kept.refl _⟩
  · go_wp2_with (first
      | (go_at_call 10; refine (alive_walk _ hT).mono ?_; rintro e w' ⟨rfl, rfl⟩))
    go_loop [4, 5] (fun b i => ∃ k : Nat, k ≤ 256 ∧ b = .bool (isAt a0 k) ∧ i = .int .i64 k) (fun _ i => 256 - (intOf i).toNat)
    case atStart => exact ⟨0, by omega, by simp [isAt], rfl⟩
    case round =>
      obtain ⟨k, hk, rfl, rfl⟩ := hrel
      rcases Nat.lt_or_ge k 256 with hlt | hge
      · cases h0 : isOp k
        · have e1 := opErr_no h0
          have e2 := nameV_no h0
          have e3 := isAt_no (s := a0) h0
          have hr := of_decide_eq_false h0
          by_cases hz : k = 0
          · subst hz
            go_wp2_with (first
              | (go_at_call 8; refine (name_walk _ (by omega) _ hT).mono ?_; rintro e w' ⟨rfl, rfl⟩)
              | (go_at_call 14; refine (form_walk _ (by omega) _).mono ?_; rintro e w' ⟨rfl, rfl⟩)
              | (go_at_call 11; refine (many_walk _).mono ?_; rintro e w' ⟨rfl, rfl⟩)
              | (go_at_call 9; refine (of_walk _ _ hT).mono ?_; rintro e w' ⟨rfl, rfl⟩))
            exact ⟨⟨1, by omega, by rw [← e3], by simp⟩, by simp [intOf]⟩
          · have hg : ¬ (k : Int) ≤ 94 := by omega
            go_wp2_with (first
              | (go_at_call 8; refine (name_walk _ (by omega) _ hT).mono ?_; rintro e w' ⟨rfl, rfl⟩)
              | (go_at_call 14; refine (form_walk _ (by omega) _).mono ?_; rintro e w' ⟨rfl, rfl⟩)
              | (go_at_call 11; refine (many_walk _).mono ?_; rintro e w' ⟨rfl, rfl⟩)
              | (go_at_call 9; refine (of_walk _ _ hT).mono ?_; rintro e w' ⟨rfl, rfl⟩))
            all_goals exact ⟨⟨k + 1, by omega, by rw [e3], by simp⟩, by simp [intOf]; omega⟩
        · have e1 := opErr_yes h0
          have hb := isOp_true h0
          obtain ⟨e3, e4⟩ := ofV_name h0
          by_cases hs : nameV k = a0
          · have e5 := isAt_hit h0 hs
            rw [hs] at e3 e4
            go_wp2_with (first
              | (go_at_call 8; refine (name_walk _ (by omega) _ hT).mono ?_; rintro e w' ⟨rfl, rfl⟩)
              | (go_at_call 14; refine (form_walk _ (by omega) _).mono ?_; rintro e w' ⟨rfl, rfl⟩)
              | (go_at_call 11; refine (many_walk _).mono ?_; rintro e w' ⟨rfl, rfl⟩)
              | (go_at_call 9; refine (of_walk _ _ hT).mono ?_; rintro e w' ⟨rfl, rfl⟩))
            all_goals exact ⟨⟨k + 1, by omega, by rw [e5], by simp⟩, by simp [intOf]; omega⟩
          · have e5 := isAt_miss h0 hs
            have hs' : ((nameV k).toList == a0.toList) = false := str_ne hs
            go_wp2_with (first
              | (go_at_call 8; refine (name_walk _ (by omega) _ hT).mono ?_; rintro e w' ⟨rfl, rfl⟩)
              | (go_at_call 14; refine (form_walk _ (by omega) _).mono ?_; rintro e w' ⟨rfl, rfl⟩)
              | (go_at_call 11; refine (many_walk _).mono ?_; rintro e w' ⟨rfl, rfl⟩)
              | (go_at_call 9; refine (of_walk _ _ hT).mono ?_; rintro e w' ⟨rfl, rfl⟩))
            all_goals exact ⟨⟨k + 1, by omega, by rw [e5]; simp [*], by simp⟩, by simp [intOf]; omega⟩
      · have hk' : k = 256 := by omega
        subst hk'
        by_cases hl : ofIx a0 < 94
        · have e1 : ofErr a0 = 0 := by unfold ofErr; rw [if_pos hl]
          have e2 : isAt a0 256 = true := decide_eq_true (by omega)
          go_wp2_with (first
            | (go_at_call 9; refine (of_walk _ _ hT).mono ?_; rintro e w' ⟨rfl, rfl⟩))
          go_ret
          exact ⟨rfl, Kept.refl _⟩
        · have e1 : ofErr a0 = 6 := by unfold ofErr; rw [if_neg hl]
          have e2 : isAt a0 256 = false := decide_eq_false (by omega)
          go_wp2_with (first
            | (go_at_call 9; refine (of_walk _ _ hT).mono ?_; rintro e w' ⟨rfl, rfl⟩))
          go_ret
          exact ⟨rfl, Kept.refl _⟩


set_option maxRecDepth 100000 in
theorem insnAll_lifted (os : Os) (started : os.Started) (H : Type) (enc : TypeId × Value → H) (F : Stop.Interp) :
    ReturnsInHanded {} Tryd.checked os 7 .any ((OpenSpec.ofChange Rows.insnAllSpec).preRow enc Tryd.prog Tryd.f7 Rows.insnAllRow.domain false Rows.insnAllRow.laid) (((OpenSpec.ofChange Rows.insnAllSpec).at F).post enc Tryd.prog Tryd.f7 false true false false) := by
  have hx : ∃ ds places, DataW.whole enc Tryd.prog ((World.doorLaid Tryd.prog 400 os).forCall (fun _ _ => 0) ⟨#[], #[.string ByteArray.empty], []⟩).memory Tryd.f7.params.toList Rows.insnAllSpec.vars false (#[.string ByteArray.empty] : Array Value).toList 8 = some (ds, [], places) := ⟨[.lit (.string [])], [], by kernel_rfl⟩
  obtain ⟨ds, places, hx⟩ := hx
  refine returnsInHanded_of_row (C := Tryd.checked) (s := OpenSpec.ofChange Rows.insnAllSpec) own started (by kernel_rfl) Tryd.func7
    (witness_row_at (enc := enc) (C := Tryd.checked) false (World.doorLaid Tryd.prog 400 os) #[.string ByteArray.empty] rfl (by kernel_rfl) (by kernel_rfl) (by kernel_rfl)
      (OpenSpec.preRow_of_cond 8 hx (by kernel_rfl) (fun k hk => by cases hk) (by kernel_rfl) (door_met os _))) ?_
  intro W base args ds gs before hval0 hW _ _ _ hL _ _
  have hval : ∀ (j : Nat) t v, Tryd.f7.params[j]? = some t → args[j]? = some v → Value.okWide Tryd.prog W .any base t v := hval0
  have hW' := hW
  obtain ⟨p, q, hA0, hV, rfl, hfz, hnd⟩ := hW
  have hA : DataW.TrodAll enc Tryd.prog W 0 (fun _ => true) true Tryd.f7.params.toList args.toList ds p := hA0
  rw [Tryd.params7] at hA hval
  obtain ⟨v0, vs0, d0, ds0, p0, q0, hargs, rfl, rfl, h0, r0⟩ := trodAll_cons hA
  obtain ⟨rfl, rfl, rfl⟩ := trodAll_nil r0
  obtain rfl : args = #[v0] := by cases args; simp_all
  obtain ⟨rfl, rfl⟩ := trodVars_none hV
  have t0 := h0
  obtain ⟨a0, rfl, rfl, rfl, w0⟩ := open_string Tryd.underlying9 (hval 0 9 v0 rfl rfl) h0
  clear hA0 hval0
  simp only [List.append_nil] at hW'
  refine (insnAll_walk a0 w0 W (tab_of_laid hL)).mono fun e W' ⟨he, hg⟩ => ?_
  subst he
  exact ⟨_, rfl, _, _, _, [], _, [], hW', trodAll_cons_mk (shut_bool Tryd.underlying4 _) trodAll_mk0, (trodAll_cons_mk (Below.trod laidOut (by kernel_rfl) (of_decide_eq_true (by kernel_rfl)) t0 hg (fun x hx => by cases hx)) trodAll_mk0), rfl, Below.frame hg _, fun h => by cases h⟩

theorem insnAll_said : Rows.InsnAllSaid :=
  OpenClaim.holds_of_cond 7 Tryd.f7 rfl rfl rfl rfl rfl rfl rfl ⟨rfl, rfl, rfl, rfl, rfl⟩ rfl rfl rfl rfl rfl (by kernel_rfl) Tryd.func7 (by kernel_rfl)
    (of_decide_eq_true (by kernel_rfl)) (by unfold Func.isWrapper; first | (rw [if_pos (by decide +kernel)]; kernel_rfl) | (rw [if_neg (by decide +kernel)]; exact ⟨rfl, rfl⟩))
    (fun os started H enc _ F => by rw [OpenClaim.pre_eq_preRow]; exact insnAll_lifted os started H enc F)

theorem insnAll_plain (f : FuncId) (fn : Func) (hf : Tryd.pinned.checked.prog.funcNamed "quoin/quoinlaw02.InsnAll" = some f) (hfn : Tryd.pinned.checked.prog.funcs[f]? = some fn) :
    false = Tryd.pinned.checked.prog.looks [] ∧ ∀ (j : Nat) t, fn.params[j]? = some t → Tryd.pinned.checked.prog.wantsStandIn t = false := by
  obtain rfl : f = 7 := Option.some.inj ((show Tryd.prog.funcNamed "quoin/quoinlaw02.InsnAll" = some 7 by kernel_rfl).symm.trans hf) |>.symm
  obtain rfl : fn = Tryd.f7 := (Option.some.inj (Tryd.func7.symm.trans hfn)).symm
  refine ⟨by kernel_rfl, fun j t ht => ?_⟩
  rw [Tryd.params7] at ht
  have hm : t ∈ [9] := by simpa using Array.mem_of_getElem? ht
  have hall : ([9].all fun u => !Tryd.prog.wantsStandIn u) = true := by kernel_rfl
  exact (show Tryd.prog.wantsStandIn t = false by simpa using List.all_eq_true.1 hall t hm)

/-- THE CARD. -/
theorem insnAll_holds : Rows.InsnAllCardSaid :=
  Claim7.holds_tied_plain_at .later [] _ _ _ _ insnAll_said (fun _ h => by cases h) (by kernel_rfl) (fun _ h => by cases h) insnAll_row_tie rfl ⟨rfl, rfl⟩ (by kernel_rfl) rfl insnAll_plain (by kernel_rfl)
#print axioms insnAll_holds
end Go.Proofs.YtechglcjeejmkaaDoor
