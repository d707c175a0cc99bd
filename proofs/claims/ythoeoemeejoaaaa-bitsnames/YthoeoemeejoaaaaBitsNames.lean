/- Proved: the law BitsNames of the package quoinlaw01 returns true: the examples of the chapter on bits are answered as it says. No conditions. -/
import Derived.Test.YthoeoemeejoaaaaRows
import Derived.WalkKit
import Derived.ProofKit
import Derived.OpenShut
import Derived.ShutString
import Derived.Test.YthoeoemeejoaaaaPlB
import Derived.WalkSmall
namespace Go.Proofs.Ythoeoemeejoaaaa.bitsNames
open Go.ChangeShapes Go.WideShapes Go.ChangeAt Go.RowKit
open Go.ChangeMaps (open_string shut_string)
set_option linter.unusedVariables false

theorem own : ownKnob Try.prog.godebug = none := by kernel_rfl

/-! ### THE EXAMPLES -/
def p3 (i : Nat) : Int := if i = 0 then 7 else if i = 1 then 0 else 31
def p2 (i : Nat) : Int := if i = 0 then 1 else 2

theorem p3_ok : errOf p3 3 = 0 := by decide
theorem p2_ok : errOf p2 2 = 0 := by decide

theorem cells3 (w : World) : Cells (w.alloc (.cells #[.int .i64 7, .int .i64 0, .int .i64 31] 3)) (some ⟨w.heap.size, 0, none⟩) 3 p3 := by
  refine .inr ⟨w.heap.size, 0, rfl, fun i hi => ?_⟩
  match i, hi with
  | 0, _ => simp [p3]
  | 1, _ => simp [p3]
  | 2, _ => simp [p3]

theorem cells2 (w : World) (n : Nat) (hn : w.heap.size = n) : Cells (w.alloc (.cells #[.int .i64 1, .int .i64 2] 3)) (some ⟨n, 0, none⟩) 2 p2 := by
  subst hn
  refine .inr ⟨w.heap.size, 0, rfl, fun i hi => ?_⟩
  match i, hi with
  | 0, _ => simp [p2]
  | 1, _ => simp [p2]

theorem grown_more {W w' : World} (h : Grown W w') (m : Nat) : Grown W (w'.drewN m) := h

theorem scat3 (a : Option Addr) (w : World) (hc : Cells w a 3 p3) : Calls Try.prog 9 #[.int .u32 5, .slice a 3 3] w fun e w' => e = .returned (.tuple #[.int .u32 2147483776, .int .i64 0]) ∧ w' = w :=
  scatter_u 5 (by decide) (by decide) a 3 3 p3 w hc
theorem gath3 (a : Option Addr) (w : World) (hc : Cells w a 3 p3) : Calls Try.prog 10 #[.int .u32 2147483776, .slice a 3 3] w fun e w' => e = .returned (.tuple #[.int .u32 5, .int .i64 0]) ∧ w' = w :=
  gather_u 2147483776 (by decide) (by decide) a 3 3 p3 w hc
theorem scat2 (a : Option Addr) (w : World) (hc : Cells w a 2 p2) : Calls Try.prog 9 #[.int .u32 4, .slice a 2 2] w fun e w' => e = .returned (.tuple #[.int .u32 0, .int .i64 2]) ∧ w' = w :=
  scatter_u 4 (by decide) (by decide) a 2 2 p2 w hc
theorem take_bad (w : World) : Calls Try.prog 11 #[.int .u32 0, .int .i64 31, .int .i64 2] w fun e w' => e = .returned (.tuple #[.int .u32 0, .int .i64 2]) ∧ ∃ m, w' = w.drewN m :=
  take_walk_no 0 31 2 (by decide) w
theorem sign_127 (w : World) : Calls Try.prog 12 #[.int .u32 127, .int .i64 8] w fun e w' => e = .returned (.tuple #[.int .i64 127, .int .i64 0]) ∧ ∃ m, w' = w.drewN m :=
  sign_walk_lo 127 8 (by decide) (by decide) (by decide) w
theorem fits_yes (w : World) : Calls Try.prog 14 #[.int .i64 (-128), .int .i64 8] w fun e w' => e = .returned (.bool true) ∧ w' = w :=
  fits_walk (-128) 8 w
theorem fits_no (w : World) : Calls Try.prog 14 #[.int .i64 128, .int .i64 8] w fun e w' => e = .returned (.bool false) ∧ w' = w :=
  fits_walk 128 8 w

/-! ### STEP 1: THE WALK: the Go text returns true. 'Grown w w'': the world has at most new blocks (Derived/RowKit3.lean). Part the cases AHEAD of 'go_enter' where a test parts the walk; take each callee by a contract of your own. -/
theorem walk  (w : World) :
    Calls Try.prog 3 #[] w fun e w' => e = .returned (.bool true) ∧ Grown w w' := by
  have c3 := cells3 w
  go_enter Try.func3, Try.ntmps3
  go_wp2_with (first
    | (go_at_call 13; refine (alive_walk _).mono ?_; rintro e w' ⟨rfl, m, rfl⟩)
    | (go_at_call_of 9 (Value.int .u32 5); refine (scat3 _ _ c3).mono ?_; rintro e w' ⟨rfl, rfl⟩)
    | (go_at_call 10; refine (gath3 _ _ c3).mono ?_; rintro e w' ⟨rfl, rfl⟩)
    | (go_at_call 11; refine (take_bad _).mono ?_; rintro e w' ⟨rfl, m, rfl⟩)
    | (go_at_call 9; refine (scat2 _ _ (cells2 _ _ (by simp))).mono ?_; rintro e w' ⟨rfl, rfl⟩)
    | (go_at_call 12; refine (sign_127 _).mono ?_; rintro e w' ⟨rfl, m, rfl⟩)
    | (go_at_call_of 14 (Value.int .i64 128); refine (fits_no _).mono ?_; rintro e w' ⟨rfl, rfl⟩)
    | (go_at_call 14; refine (fits_yes _).mono ?_; rintro e w' ⟨rfl, rfl⟩))
  go_ret
  exact ⟨rfl, by repeat (first | exact Grown.refl _ | apply grown_more | apply Grown.alloc)⟩

/-! ### THE ROW's STEP: WRITTEN OUT: LEAVE IT -/
set_option maxRecDepth 100000 in
theorem lifted (os : Os) (started : os.Started) (H : Type) (enc : TypeId × Value → H) :
    ReturnsInHanded {} Try.checked os 3 .any (Rows.bitsNamesSpec.pre6 enc Try.prog Try.f3 Rows.bitsNamesRow.domain false) (Rows.bitsNamesSpec.post enc Try.prog Try.f3 false true false false) := by
  refine returnsInHanded_of_change (C := Try.checked) own started (by kernel_rfl) Try.func3
    (ChangeSpec.witness6 (enc := enc) (C := Try.checked) false ⟨#[], #[], []⟩ 8 (by kernel_rfl) (by kernel_rfl) (by kernel_rfl) (by kernel_rfl)) ?_
  intro W base args ds gs before hval0 hW hcnd _
  have hval : ∀ (j : Nat) t v, Try.f3.params[j]? = some t → args[j]? = some v → Value.okWide Try.prog W .any base t v := hval0
  have hW' := hW
  obtain ⟨p, q, hA0, hV, rfl, hfz, hnd⟩ := hW
  have hA : DataW.TrodAll enc Try.prog W 0 (fun _ => true) true Try.f3.params.toList args.toList ds p := hA0
  rw [Try.params3] at hA hval
  obtain ⟨rfl, rfl, rfl⟩ := trodAll_none hA
  obtain ⟨rfl, rfl⟩ := trodVars_none hV
  clear hA0 hval0
  simp only [List.append_nil] at hW'
  refine (walk  W).mono fun e W' ⟨he, hg⟩ => ?_
  subst he
  exact ⟨_, rfl, post_of_same (pa := []) (pv := []) hW' (fun _ _ _ => (trodAll_cons_mk (shut_bool Try.underlying4 _) trodAll_mk0)) (fun sp _ => rfl) (fun _ _ => rfl) rfl
    (hg.frame _) hg.2.1 (ok_one (by kernel_rfl) rfl (okWide_bool_mk Try.underlying4 _))⟩

theorem over : Rows.bitsNamesRow.holds Try.pinned (OpenSpec.ofChange Rows.bitsNamesSpec) :=
  OpenClaim.holds_of_wide 3 Try.f3 rfl rfl rfl rfl rfl rfl rfl ⟨rfl, rfl, rfl, rfl, rfl⟩ rfl rfl rfl rfl rfl (by kernel_rfl) Try.func3 (by kernel_rfl)
    (of_decide_eq_true (by kernel_rfl)) (by unfold Func.isWrapper; first | (rw [if_pos (by decide +kernel)]; kernel_rfl) | (rw [if_neg (by decide +kernel)]; exact ⟨rfl, rfl⟩))
    (fun os started H enc _ => lifted os started H enc)

/-- THE STATEMENT -/
theorem proved : Rows.BitsNamesSaid :=
  over
end Go.Proofs.Ythoeoemeejoaaaa.bitsNames

namespace Go.Proofs.Ythoeoemeejoaaaa
theorem bitsNames_holds : Rows.BitsNamesSaid := bitsNames.proved
#print axioms bitsNames_holds
end Go.Proofs.Ythoeoemeejoaaaa
