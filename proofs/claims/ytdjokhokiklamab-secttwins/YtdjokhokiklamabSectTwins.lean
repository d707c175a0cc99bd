/- A copy is the same; two sections are the same just where all their parts are; bytes of a head are as long whatever it tells, and unlike for unlike heads: for every two sections and heads (there is no condition). -/
import Derived.Test.YtdjokhokiklamabRows
import Derived.Test.YtdjokhokiklamabLt
import Derived.WalkKit
import Derived.ProofKit
import Derived.OpenShut
import Derived.ShutString
import Derived.SliceStrings
import Derived.ChangeOld
import Derived.Below
namespace Go.Proofs.Ytdjokhokiklamab.sectTwins
open Go.ChangeShapes Go.WideShapes Go.ChangeAt Go.RowKit
open Go.ChangeMaps (open_string shut_string)
set_option linter.unusedVariables false

theorem own : ownKnob Try.prog.godebug = none := by kernel_rfl
theorem laidOut : laidOutB Try.prog = true := by kernel_rfl

theorem walk (s0 : ByteArray) (al0 : Int) (a0 : Option Addr) (len0 cap0 : Nat) (sz0 : Int) (z0 : List Int) (s1 : ByteArray) (al1 : Int) (a1 : Option Addr) (len1 cap1 : Nat) (sz1 : Int) (z1 : List Int) (x2a x2b x2c x2d x2e x2f x2g x2h x2i x2j : Int) (x3a x3b x3c x3d x3e x3f x3g x3h x3i x3j : Int) (w : World) (w0 : s0.size ≤ maxLen ∧ (Lit.int .i64 al0).wf = true ∧ IsRow .u8 w a0 len0 cap0 z0 ∧ (Lit.int .i64 sz0).wf = true) (w1 : s1.size ≤ maxLen ∧ (Lit.int .i64 al1).wf = true ∧ IsRow .u8 w a1 len1 cap1 z1 ∧ (Lit.int .i64 sz1).wf = true) (w2 : ∀ n ∈ [x2a, x2b, x2c, x2d, x2e, x2f, x2g, x2h, x2i, x2j], -9223372036854775808 ≤ n ∧ n ≤ 9223372036854775807) (w3 : ∀ n ∈ [x3a, x3b, x3c, x3d, x3e, x3f, x3g, x3h, x3i, x3j], -9223372036854775808 ≤ n ∧ n ≤ 9223372036854775807) :
    Calls Try.prog 3 #[sectV s0 al0 a0 len0 cap0 sz0, sectV s1 al1 a1 len1 cap1 sz1, headW' x2a x2b x2c x2d x2e x2f x2g x2h x2i x2j, headW' x3a x3b x3c x3d x3e x3f x3g x3h x3i x3j] w fun e w' => e = .returned (.bool true) ∧ Below w.heap.size w w' := by
  obtain ⟨ws0, wa0, wr0, wz0⟩ := w0
  obtain ⟨l0, rfl, hc0, hb0, hn0, hr0⟩ := wr0.byt
  obtain ⟨la0, ua0⟩ := wf_int wa0
  obtain ⟨lz0, uz0⟩ := wf_int wz0
  obtain ⟨ws1, wa1, wr1, wz1⟩ := w1
  obtain ⟨l1, rfl, hc1, hb1, hn1, hr1⟩ := wr1.byt
  obtain ⟨la1, ua1⟩ := wf_int wa1
  obtain ⟨lz1, uz1⟩ := wf_int wz1
  exact twins_walk s0 al0 a0 l0.length cap0 sz0 l0 s1 al1 a1 l1.length cap1 sz1 l1 x2a x2b x2c x2d x2e x2f x2g x2h x2i x2j _ x3a x3b x3c x3d x3e x3f x3g x3h x3i x3j _ w rfl rfl hb0 hb1 hn0 hr0 hr1 rfl rfl w2 w3

set_option maxRecDepth 100000 in
theorem lifted (os : Os) (started : os.Started) (H : Type) (enc : TypeId × Value → H) :
    ReturnsInHanded {} Try.checked os 3 .any (Rows.sectTwinsSpec.pre6 enc Try.prog Try.f3 Rows.sectTwinsRow.domain false) (Rows.sectTwinsSpec.post enc Try.prog Try.f3 false true false false) := by
  refine returnsInHanded_of_change (C := Try.checked) own started (by kernel_rfl) Try.func3
    (ChangeSpec.witness6 (enc := enc) (C := Try.checked) false ⟨#[], #[.agg #[.string ByteArray.empty, .int .i64 0, .slice none 0 0, .int .i64 0], .agg #[.string ByteArray.empty, .int .i64 0, .slice none 0 0, .int .i64 0], .agg #[.int .i64 0, .int .i64 0, .int .i64 0, .int .i64 0, .int .i64 0, .int .i64 0, .int .i64 0, .int .i64 0, .int .i64 0, .int .i64 0], .agg #[.int .i64 0, .int .i64 0, .int .i64 0, .int .i64 0, .int .i64 0, .int .i64 0, .int .i64 0, .int .i64 0, .int .i64 0, .int .i64 0]], []⟩ 8 (by kernel_rfl) (by kernel_rfl) (by kernel_rfl) (by kernel_rfl)) ?_
  intro W base args ds gs before hval0 hW hcnd _
  have hval : ∀ (j : Nat) t v, Try.f3.params[j]? = some t → args[j]? = some v → Value.okWide Try.prog W .any base t v := hval0
  have hW' := hW
  obtain ⟨p, q, hA0, hV, rfl, hfz, hnd⟩ := hW
  have hA : DataW.TrodAll enc Try.prog W 0 (fun _ => true) true Try.f3.params.toList args.toList ds p := hA0
  rw [Try.params3] at hA hval
  obtain ⟨v0, vs0, d0, ds0, p0, q0, hargs, rfl, rfl, h0, r0⟩ := trodAll_cons hA
  obtain ⟨v1, vs1, d1, ds1, p1, q1, rfl, rfl, rfl, h1, r1⟩ := trodAll_cons r0
  obtain ⟨v2, vs2, d2, ds2, p2, q2, rfl, rfl, rfl, h2, r2⟩ := trodAll_cons r1
  obtain ⟨v3, vs3, d3, ds3, p3, q3, rfl, rfl, rfl, h3, r3⟩ := trodAll_cons r2
  obtain ⟨rfl, rfl, rfl⟩ := trodAll_nil r3
  obtain rfl : args = #[v0, v1, v2, v3] := by cases args; simp_all
  obtain ⟨rfl, rfl⟩ := trodVars_none hV
  have k0 := h0
  have lt0 : ∀ x ∈ p0, x.block < W.heap.size := by obtain ⟨m, hm⟩ := k0; exact DataW.trod_lt m _ _ _ hm
  obtain ⟨s0, al0, a0, len0, cap0, sz0, z0, rfl, w0⟩ := open_sect (hval 0 24 v0 rfl rfl) h0
  have k1 := h1
  have lt1 : ∀ x ∈ p1, x.block < W.heap.size := by obtain ⟨m, hm⟩ := k1; exact DataW.trod_lt m _ _ _ hm
  obtain ⟨s1, al1, a1, len1, cap1, sz1, z1, rfl, w1⟩ := open_sect (hval 1 24 v1 rfl rfl) h1
  have k2 := h2
  have lt2 : ∀ x ∈ p2, x.block < W.heap.size := by obtain ⟨m, hm⟩ := k2; exact DataW.trod_lt m _ _ _ hm
  obtain ⟨x2a, x2b, x2c, x2d, x2e, x2f, x2g, x2h, x2i, x2j, rfl, w2⟩ := open_head (hval 2 26 v2 rfl rfl) h2
  have k3 := h3
  have lt3 : ∀ x ∈ p3, x.block < W.heap.size := by obtain ⟨m, hm⟩ := k3; exact DataW.trod_lt m _ _ _ hm
  obtain ⟨x3a, x3b, x3c, x3d, x3e, x3f, x3g, x3h, x3i, x3j, rfl, w3⟩ := open_head (hval 3 26 v3 rfl rfl) h3
  clear hA0 hval0
  refine (walk s0 al0 a0 len0 cap0 sz0 z0 s1 al1 a1 len1 cap1 sz1 z1 x2a x2b x2c x2d x2e x2f x2g x2h x2i x2j x3a x3b x3c x3d x3e x3f x3g x3h x3i x3j W w0 w1 w2 w3).mono fun e W' ⟨he, bel⟩ => ?_
  subst he
  exact ⟨_, rfl, _, _, _, [], _, [], hW', trodAll_mk1 (shut_bool Try.underlying4 _), (trodAll_cons_mk (Below.trod laidOut (by kernel_rfl) (of_decide_eq_true (by kernel_rfl)) k0 bel lt0) (trodAll_cons_mk (Below.trod laidOut (by kernel_rfl) (of_decide_eq_true (by kernel_rfl)) k1 bel lt1) (trodAll_cons_mk (Below.trod laidOut (by kernel_rfl) (of_decide_eq_true (by kernel_rfl)) k2 bel lt2) (trodAll_cons_mk (Below.trod laidOut (by kernel_rfl) (of_decide_eq_true (by kernel_rfl)) k3 bel lt3) trodAll_mk0)))), rfl, bel.frame _, fun h => by cases h⟩

theorem over : Rows.sectTwinsRow.holds Try.pinned (OpenSpec.ofChange Rows.sectTwinsSpec) :=
  OpenClaim.holds_of_wide 3 Try.f3 rfl rfl rfl rfl rfl rfl rfl ⟨rfl, rfl, rfl, rfl, rfl⟩ rfl rfl rfl rfl rfl (by kernel_rfl) Try.func3 (by kernel_rfl)
    (of_decide_eq_true (by kernel_rfl)) (by unfold Func.isWrapper; first | (rw [if_pos (by decide +kernel)]; kernel_rfl) | (rw [if_neg (by decide +kernel)]; exact ⟨rfl, rfl⟩))
    (fun os started H enc _ => lifted os started H enc)

/-- THE STATEMENT -/
theorem proved : Rows.SectTwinsSaid := over
end Go.Proofs.Ytdjokhokiklamab.sectTwins

namespace Go.Proofs.Ytdjokhokiklamab
theorem sectTwins_holds : Rows.SectTwinsSaid := sectTwins.proved
#print axioms sectTwins_holds
end Go.Proofs.Ytdjokhokiklamab
