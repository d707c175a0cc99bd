/- A section may be just as its name, its alignment and its sizes are: for every section (there is no condition). -/
import Derived.Test.YtdjokhokiklamaaRows
import Derived.Test.YtdjokhokiklamaaLa
import Derived.WalkKit
import Derived.ProofKit
import Derived.OpenShut
import Derived.ShutString
import Derived.SliceStrings
import Derived.ChangeOld
import Derived.Below
namespace Go.Proofs.Ytdjokhokiklamaa.sectMay
open Go.ChangeShapes Go.WideShapes Go.ChangeAt Go.RowKit
open Go.ChangeMaps (open_string shut_string)
set_option linter.unusedVariables false

theorem own : ownKnob Try.prog.godebug = none := by kernel_rfl
theorem laidOut : laidOutB Try.prog = true := by kernel_rfl

theorem walk (s0 : ByteArray) (al0 : Int) (a0 : Option Addr) (len0 cap0 : Nat) (sz0 : Int) (z0 : List Int) (w : World) (w0 : s0.size ≤ maxLen ∧ (Lit.int .i64 al0).wf = true ∧ IsRow .u8 w a0 len0 cap0 z0 ∧ (Lit.int .i64 sz0).wf = true) :
    Calls Try.prog 8 #[sectV s0 al0 a0 len0 cap0 sz0] w fun e w' => e = .returned (.bool true) ∧ Below w.heap.size w w' := by
  obtain ⟨ws0, wa0, wr0, wz0⟩ := w0
  obtain ⟨l0, rfl, hc0, hb0, hn0, hr0⟩ := wr0.byt
  obtain ⟨la0, ua0⟩ := wf_int wa0
  obtain ⟨lz0, uz0⟩ := wf_int wz0
  exact mayL_walk s0 al0 a0 l0.length cap0 sz0 w ws0

set_option maxRecDepth 100000 in
theorem lifted (os : Os) (started : os.Started) (H : Type) (enc : TypeId × Value → H) :
    ReturnsInHanded {} Try.checked os 8 .any (Rows.sectMaySpec.pre6 enc Try.prog Try.f8 Rows.sectMayRow.domain false) (Rows.sectMaySpec.post enc Try.prog Try.f8 false true false false) := by
  refine returnsInHanded_of_change (C := Try.checked) own started (by kernel_rfl) Try.func8
    (ChangeSpec.witness6 (enc := enc) (C := Try.checked) false ⟨#[], #[.agg #[.string ByteArray.empty, .int .i64 0, .slice none 0 0, .int .i64 0]], []⟩ 8 (by kernel_rfl) (by kernel_rfl) (by kernel_rfl) (by kernel_rfl)) ?_
  intro W base args ds gs before hval0 hW hcnd _
  have hval : ∀ (j : Nat) t v, Try.f8.params[j]? = some t → args[j]? = some v → Value.okWide Try.prog W .any base t v := hval0
  have hW' := hW
  obtain ⟨p, q, hA0, hV, rfl, hfz, hnd⟩ := hW
  have hA : DataW.TrodAll enc Try.prog W 0 (fun _ => true) true Try.f8.params.toList args.toList ds p := hA0
  rw [Try.params8] at hA hval
  obtain ⟨v0, vs0, d0, ds0, p0, q0, hargs, rfl, rfl, h0, r0⟩ := trodAll_cons hA
  obtain ⟨rfl, rfl, rfl⟩ := trodAll_nil r0
  obtain rfl : args = #[v0] := by cases args; simp_all
  obtain ⟨rfl, rfl⟩ := trodVars_none hV
  have k0 := h0
  have lt0 : ∀ x ∈ p0, x.block < W.heap.size := by obtain ⟨m, hm⟩ := k0; exact DataW.trod_lt m _ _ _ hm
  obtain ⟨s0, al0, a0, len0, cap0, sz0, z0, rfl, w0⟩ := open_sect (hval 0 28 v0 rfl rfl) h0
  clear hA0 hval0
  refine (walk s0 al0 a0 len0 cap0 sz0 z0 W w0).mono fun e W' ⟨he, bel⟩ => ?_
  subst he
  exact ⟨_, rfl, _, _, _, [], _, [], hW', trodAll_mk1 (shut_bool Try.underlying4 _), (trodAll_cons_mk (Below.trod laidOut (by kernel_rfl) (of_decide_eq_true (by kernel_rfl)) k0 bel lt0) trodAll_mk0), rfl, bel.frame _, fun h => by cases h⟩

theorem over : Rows.sectMayRow.holds Try.pinned (OpenSpec.ofChange Rows.sectMaySpec) :=
  OpenClaim.holds_of_wide 8 Try.f8 rfl rfl rfl rfl rfl rfl rfl ⟨rfl, rfl, rfl, rfl, rfl⟩ rfl rfl rfl rfl rfl (by kernel_rfl) Try.func8 (by kernel_rfl)
    (of_decide_eq_true (by kernel_rfl)) (by unfold Func.isWrapper; first | (rw [if_pos (by decide +kernel)]; kernel_rfl) | (rw [if_neg (by decide +kernel)]; exact ⟨rfl, rfl⟩))
    (fun os started H enc _ => lifted os started H enc)

/-- THE STATEMENT -/
theorem proved : Rows.SectMaySaid := over
end Go.Proofs.Ytdjokhokiklamaa.sectMay

namespace Go.Proofs.Ytdjokhokiklamaa
theorem sectMay_holds : Rows.SectMaySaid := sectMay.proved
#print axioms sectMay_holds
end Go.Proofs.Ytdjokhokiklamaa
