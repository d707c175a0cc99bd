/- Sections and their kinds are told, compared and copied as the document says: for every two sections and every name (there is no condition). -/
import Derived.Test.YtdjokhokiklamaaRows
import Derived.Test.YtdjokhokiklamaaLc
import Derived.WalkKit
import Derived.ProofKit
import Derived.OpenShut
import Derived.ShutString
import Derived.SliceStrings
import Derived.ChangeOld
import Derived.Below
namespace Go.Proofs.Ytdjokhokiklamaa.sectChecks
open Go.ChangeShapes Go.WideShapes Go.ChangeAt Go.RowKit
open Go.ChangeMaps (open_string shut_string)
set_option linter.unusedVariables false

theorem own : ownKnob Try.prog.godebug = none := by kernel_rfl
theorem laidOut : laidOutB Try.prog = true := by kernel_rfl

theorem walk (s0 : ByteArray) (al0 : Int) (a0 : Option Addr) (len0 cap0 : Nat) (sz0 : Int) (z0 : List Int) (s1 : ByteArray) (al1 : Int) (a1 : Option Addr) (len1 cap1 : Nat) (sz1 : Int) (z1 : List Int) (a2 : ByteArray) (w : World) (w0 : s0.size ≤ maxLen ∧ (Lit.int .i64 al0).wf = true ∧ IsRow .u8 w a0 len0 cap0 z0 ∧ (Lit.int .i64 sz0).wf = true) (w1 : s1.size ≤ maxLen ∧ (Lit.int .i64 al1).wf = true ∧ IsRow .u8 w a1 len1 cap1 z1 ∧ (Lit.int .i64 sz1).wf = true) (w2 : a2.size ≤ maxLen) :
    Calls Try.prog 4 #[sectV s0 al0 a0 len0 cap0 sz0, sectV s1 al1 a1 len1 cap1 sz1, .string a2] w fun e w' => e = .returned (.bool true) ∧ Below w.heap.size w w' := by
  obtain ⟨ws0, wa0, wr0, wz0⟩ := w0
  obtain ⟨l0, rfl, hc0, hb0, hn0, hr0⟩ := wr0.byt
  obtain ⟨la0, ua0⟩ := wf_int wa0
  obtain ⟨lz0, uz0⟩ := wf_int wz0
  obtain ⟨ws1, wa1, wr1, wz1⟩ := w1
  obtain ⟨l1, rfl, hc1, hb1, hn1, hr1⟩ := wr1.byt
  obtain ⟨la1, ua1⟩ := wf_int wa1
  obtain ⟨lz1, uz1⟩ := wf_int wz1
  exact checks_walk s0 al0 a0 l0.length cap0 sz0 l0 s1 al1 a1 l1.length cap1 sz1 l1 a2 w ws0 ws1 w2 rfl rfl hb0 hb1 hn0 hr0 hr1

set_option maxRecDepth 100000 in
theorem lifted (os : Os) (started : os.Started) (H : Type) (enc : TypeId × Value → H) :
    ReturnsInHanded {} Try.checked os 4 .any (Rows.sectChecksSpec.pre6 enc Try.prog Try.f4 Rows.sectChecksRow.domain false) (Rows.sectChecksSpec.post enc Try.prog Try.f4 false true false false) := by
  refine returnsInHanded_of_change (C := Try.checked) own started (by kernel_rfl) Try.func4
    (ChangeSpec.witness6 (enc := enc) (C := Try.checked) false ⟨#[], #[.agg #[.string ByteArray.empty, .int .i64 0, .slice none 0 0, .int .i64 0], .agg #[.string ByteArray.empty, .int .i64 0, .slice none 0 0, .int .i64 0], .string ByteArray.empty], []⟩ 8 (by kernel_rfl) (by kernel_rfl) (by kernel_rfl) (by kernel_rfl)) ?_
  intro W base args ds gs before hval0 hW hcnd _
  have hval : ∀ (j : Nat) t v, Try.f4.params[j]? = some t → args[j]? = some v → Value.okWide Try.prog W .any base t v := hval0
  have hW' := hW
  obtain ⟨p, q, hA0, hV, rfl, hfz, hnd⟩ := hW
  have hA : DataW.TrodAll enc Try.prog W 0 (fun _ => true) true Try.f4.params.toList args.toList ds p := hA0
  rw [Try.params4] at hA hval
  obtain ⟨v0, vs0, d0, ds0, p0, q0, hargs, rfl, rfl, h0, r0⟩ := trodAll_cons hA
  obtain ⟨v1, vs1, d1, ds1, p1, q1, rfl, rfl, rfl, h1, r1⟩ := trodAll_cons r0
  obtain ⟨v2, vs2, d2, ds2, p2, q2, rfl, rfl, rfl, h2, r2⟩ := trodAll_cons r1
  obtain ⟨rfl, rfl, rfl⟩ := trodAll_nil r2
  obtain rfl : args = #[v0, v1, v2] := by cases args; simp_all
  obtain ⟨rfl, rfl⟩ := trodVars_none hV
  have k0 := h0
  have lt0 : ∀ x ∈ p0, x.block < W.heap.size := by obtain ⟨m, hm⟩ := k0; exact DataW.trod_lt m _ _ _ hm
  obtain ⟨s0, al0, a0, len0, cap0, sz0, z0, rfl, w0⟩ := open_sect (hval 0 28 v0 rfl rfl) h0
  have k1 := h1
  have lt1 : ∀ x ∈ p1, x.block < W.heap.size := by obtain ⟨m, hm⟩ := k1; exact DataW.trod_lt m _ _ _ hm
  obtain ⟨s1, al1, a1, len1, cap1, sz1, z1, rfl, w1⟩ := open_sect (hval 1 28 v1 rfl rfl) h1
  obtain ⟨a2, rfl, rfl, rfl, w2⟩ := open_string Try.underlying9 (hval 2 9 v2 rfl rfl) h2
  clear hA0 hval0
  refine (walk s0 al0 a0 len0 cap0 sz0 z0 s1 al1 a1 len1 cap1 sz1 z1 a2 W w0 w1 w2).mono fun e W' ⟨he, bel⟩ => ?_
  subst he
  exact ⟨_, rfl, _, _, _, [], _, [], hW', trodAll_mk1 (shut_bool Try.underlying4 _), (trodAll_cons_mk (Below.trod laidOut (by kernel_rfl) (of_decide_eq_true (by kernel_rfl)) k0 bel lt0) (trodAll_cons_mk (Below.trod laidOut (by kernel_rfl) (of_decide_eq_true (by kernel_rfl)) k1 bel lt1) (trodAll_cons_mk (shut_string Try.underlying9 w2) trodAll_mk0))), rfl, bel.frame _, fun h => by cases h⟩

theorem over : Rows.sectChecksRow.holds Try.pinned (OpenSpec.ofChange Rows.sectChecksSpec) :=
  OpenClaim.holds_of_wide 4 Try.f4 rfl rfl rfl rfl rfl rfl rfl ⟨rfl, rfl, rfl, rfl, rfl⟩ rfl rfl rfl rfl rfl (by kernel_rfl) Try.func4 (by kernel_rfl)
    (of_decide_eq_true (by kernel_rfl)) (by unfold Func.isWrapper; first | (rw [if_pos (by decide +kernel)]; kernel_rfl) | (rw [if_neg (by decide +kernel)]; exact ⟨rfl, rfl⟩))
    (fun os started H enc _ => lifted os started H enc)

/-- THE STATEMENT -/
theorem proved : Rows.SectChecksSaid := over
end Go.Proofs.Ytdjokhokiklamaa.sectChecks

namespace Go.Proofs.Ytdjokhokiklamaa
theorem sectChecks_holds : Rows.SectChecksSaid := sectChecks.proved
#print axioms sectChecks_holds
end Go.Proofs.Ytdjokhokiklamaa
