/- The document's own Of, where a half word has a row's fixed bits. -/
import Derived.Test.YtbmcanpjpibecaaDoorOg
import Derived.Deep.RegionHeld3
namespace Go.Proofs.YtbmcanpjpibecaaDoor
open Go.RowKit

/-- Is a kind's number told by its sign? -/
def sgK (kd : UInt8) : Bool := (kd == 115) || ((kd == 110) || (kd == 108))
def upK (kd : UInt8) (n : Int) : Bool := (kd == 108) && decide (n < 0)
structure InO (W w : World) (nv fv : ByteArray) (kd : UInt8) (bi by_ : Int) (a : Option Addr) (len cap : Nat) (b : Nat) (op d s t imm : Int) : Prop where
  of : InOf W w nv fv kd bi by_ a len cap
  box : Box w b op d s t imm
theorem InO.on {W w w' : World} {nv fv : ByteArray} {kd : UInt8} {bi by_ : Int} {a : Option Addr} {len cap b : Nat} {op d s t imm : Int} (h : InO W w nv fv kd bi by_ a len cap b op d s t imm) (k : Kept w w') : InO W w' nv fv kd bi by_ a len cap b op d s t imm :=
  ⟨h.of.on k, h.box.kept k⟩

theorem sk11 {w w' : World} {A B : Nat} {v0 v1 v2 v3 v4 v5 u0 u1 u2 u3 u4 : Value} (k : Kept w w') (h : w.cell? ⟨A, 0, none⟩ = some v0 ∧ w.cell? ⟨A, 1, none⟩ = some v1 ∧ w.cell? ⟨A, 2, none⟩ = some v2 ∧ w.cell? ⟨A, 3, none⟩ = some v3 ∧ w.cell? ⟨A, 4, none⟩ = some v4 ∧ w.cell? ⟨A, 5, none⟩ = some v5 ∧ w.cell? ⟨B, 0, none⟩ = some u0 ∧ w.cell? ⟨B, 1, none⟩ = some u1 ∧ w.cell? ⟨B, 2, none⟩ = some u2 ∧ w.cell? ⟨B, 3, none⟩ = some u3 ∧ w.cell? ⟨B, 4, none⟩ = some u4) : w'.cell? ⟨A, 0, none⟩ = some v0 ∧ w'.cell? ⟨A, 1, none⟩ = some v1 ∧ w'.cell? ⟨A, 2, none⟩ = some v2 ∧ w'.cell? ⟨A, 3, none⟩ = some v3 ∧ w'.cell? ⟨A, 4, none⟩ = some v4 ∧ w'.cell? ⟨A, 5, none⟩ = some v5 ∧ w'.cell? ⟨B, 0, none⟩ = some u0 ∧ w'.cell? ⟨B, 1, none⟩ = some u1 ∧ w'.cell? ⟨B, 2, none⟩ = some u2 ∧ w'.cell? ⟨B, 3, none⟩ = some u3 ∧ w'.cell? ⟨B, 4, none⟩ = some u4 :=
  ⟨k.cell h.1, k.cell h.2.1, k.cell h.2.2.1, k.cell h.2.2.2.1, k.cell h.2.2.2.2.1, k.cell h.2.2.2.2.2.1, k.cell h.2.2.2.2.2.2.1, k.cell h.2.2.2.2.2.2.2.1, k.cell h.2.2.2.2.2.2.2.2.1, k.cell h.2.2.2.2.2.2.2.2.2.1, k.cell h.2.2.2.2.2.2.2.2.2.2⟩
theorem sp11 {w : World} {A B C : Nat} {v0 v1 v2 v3 v4 v5 u0 u1 u2 u3 u4 x0 x1 x2 x3 x4 : Value} (nA : C ≠ A) (nB : C ≠ B) (h : w.cell? ⟨A, 0, none⟩ = some v0 ∧ w.cell? ⟨A, 1, none⟩ = some v1 ∧ w.cell? ⟨A, 2, none⟩ = some v2 ∧ w.cell? ⟨A, 3, none⟩ = some v3 ∧ w.cell? ⟨A, 4, none⟩ = some v4 ∧ w.cell? ⟨A, 5, none⟩ = some v5 ∧ w.cell? ⟨B, 0, none⟩ = some u0 ∧ w.cell? ⟨B, 1, none⟩ = some u1 ∧ w.cell? ⟨B, 2, none⟩ = some u2 ∧ w.cell? ⟨B, 3, none⟩ = some u3 ∧ w.cell? ⟨B, 4, none⟩ = some u4) : (((((w.setCell ⟨C, 0, none⟩ x0).setCell ⟨C, 1, none⟩ x1).setCell ⟨C, 2, none⟩ x2).setCell ⟨C, 3, none⟩ x3).setCell ⟨C, 4, none⟩ x4).cell? ⟨A, 0, none⟩ = some v0 ∧ (((((w.setCell ⟨C, 0, none⟩ x0).setCell ⟨C, 1, none⟩ x1).setCell ⟨C, 2, none⟩ x2).setCell ⟨C, 3, none⟩ x3).setCell ⟨C, 4, none⟩ x4).cell? ⟨A, 1, none⟩ = some v1 ∧ (((((w.setCell ⟨C, 0, none⟩ x0).setCell ⟨C, 1, none⟩ x1).setCell ⟨C, 2, none⟩ x2).setCell ⟨C, 3, none⟩ x3).setCell ⟨C, 4, none⟩ x4).cell? ⟨A, 2, none⟩ = some v2 ∧ (((((w.setCell ⟨C, 0, none⟩ x0).setCell ⟨C, 1, none⟩ x1).setCell ⟨C, 2, none⟩ x2).setCell ⟨C, 3, none⟩ x3).setCell ⟨C, 4, none⟩ x4).cell? ⟨A, 3, none⟩ = some v3 ∧ (((((w.setCell ⟨C, 0, none⟩ x0).setCell ⟨C, 1, none⟩ x1).setCell ⟨C, 2, none⟩ x2).setCell ⟨C, 3, none⟩ x3).setCell ⟨C, 4, none⟩ x4).cell? ⟨A, 4, none⟩ = some v4 ∧ (((((w.setCell ⟨C, 0, none⟩ x0).setCell ⟨C, 1, none⟩ x1).setCell ⟨C, 2, none⟩ x2).setCell ⟨C, 3, none⟩ x3).setCell ⟨C, 4, none⟩ x4).cell? ⟨A, 5, none⟩ = some v5 ∧ (((((w.setCell ⟨C, 0, none⟩ x0).setCell ⟨C, 1, none⟩ x1).setCell ⟨C, 2, none⟩ x2).setCell ⟨C, 3, none⟩ x3).setCell ⟨C, 4, none⟩ x4).cell? ⟨B, 0, none⟩ = some u0 ∧ (((((w.setCell ⟨C, 0, none⟩ x0).setCell ⟨C, 1, none⟩ x1).setCell ⟨C, 2, none⟩ x2).setCell ⟨C, 3, none⟩ x3).setCell ⟨C, 4, none⟩ x4).cell? ⟨B, 1, none⟩ = some u1 ∧ (((((w.setCell ⟨C, 0, none⟩ x0).setCell ⟨C, 1, none⟩ x1).setCell ⟨C, 2, none⟩ x2).setCell ⟨C, 3, none⟩ x3).setCell ⟨C, 4, none⟩ x4).cell? ⟨B, 2, none⟩ = some u2 ∧ (((((w.setCell ⟨C, 0, none⟩ x0).setCell ⟨C, 1, none⟩ x1).setCell ⟨C, 2, none⟩ x2).setCell ⟨C, 3, none⟩ x3).setCell ⟨C, 4, none⟩ x4).cell? ⟨B, 3, none⟩ = some u3 ∧ (((((w.setCell ⟨C, 0, none⟩ x0).setCell ⟨C, 1, none⟩ x1).setCell ⟨C, 2, none⟩ x2).setCell ⟨C, 3, none⟩ x3).setCell ⟨C, 4, none⟩ x4).cell? ⟨B, 4, none⟩ = some u4 :=
  ⟨set_far (set_far (set_far (set_far (set_far h.1 nA) nA) nA) nA) nA, set_far (set_far (set_far (set_far (set_far h.2.1 nA) nA) nA) nA) nA, set_far (set_far (set_far (set_far (set_far h.2.2.1 nA) nA) nA) nA) nA, set_far (set_far (set_far (set_far (set_far h.2.2.2.1 nA) nA) nA) nA) nA, set_far (set_far (set_far (set_far (set_far h.2.2.2.2.1 nA) nA) nA) nA) nA, set_far (set_far (set_far (set_far (set_far h.2.2.2.2.2.1 nA) nA) nA) nA) nA, set_far (set_far (set_far (set_far (set_far h.2.2.2.2.2.2.1 nB) nB) nB) nB) nB, set_far (set_far (set_far (set_far (set_far h.2.2.2.2.2.2.2.1 nB) nB) nB) nB) nB, set_far (set_far (set_far (set_far (set_far h.2.2.2.2.2.2.2.2.1 nB) nB) nB) nB) nB, set_far (set_far (set_far (set_far (set_far h.2.2.2.2.2.2.2.2.2.1 nB) nB) nB) nB) nB, set_far (set_far (set_far (set_far (set_far h.2.2.2.2.2.2.2.2.2.2 nB) nB) nB) nB) nB⟩
theorem takeW {P : Program} {ops : Array Oper} {Q : Exit → Act → World → Prop} {md : Region.Mode} {S : World → Prop} (i : Nat) {dst : Option Tmp} {op : Op} {ty : TypeId} {p : String} {af : Array Edge} {g : Option (Nat × Bool)} {v : Value} {fuel : Nat} {listed : Array Bool} {a : Act} {w : World} (hi : ops[i]? = some { dst := dst, op := op, type := ty, pos := p, after := af, guard := g })
    (hs : Region.noSelect ops = true) (hf : Region.free md ops listed i = true) (hr : (Region.ready md ops listed).contains i = true)
    (hQ : ∀ c a w, Q (.panic c) (a.put dst v) w → Q (.panic c) a w) (hy : YieldsIf P ops S { dst := dst, op := op, type := ty, pos := p, after := af, guard := g } v a) (hS : S w)
    (h : wpAnyH P md ops Q S fuel (listed.setIfInBounds i true) (a.put dst v) w) : wpAnyH P md ops Q S (fuel + 1) listed a w :=
  wpAnyH_take hi hs hf hr hQ hy hS h
theorem oneW {P : Program} {ops : Array Oper} {Q : Exit → Act → World → Prop} {md : Region.Mode} {S : World → Prop} (i : Nat) {dst : Option Tmp} {op : Op} {ty : TypeId} {p : String} {af : Array Edge} {g : Option (Nat × Bool)} {fuel : Nat} {listed : Array Bool} {a : Act} {w : World} (hi : ops[i]? = some { dst := dst, op := op, type := ty, pos := p, after := af, guard := g })
    (hr : Region.ready md ops listed = [i])
    (h : ∀ K' : Act → World → Prop, Shut (∀ a w, S w → (S w → wpAnyH P md ops Q S fuel (listed.setIfInBounds i true) a w) → K' a w) → if Region.wanted { dst := dst, op := op, type := ty, pos := p, after := af, guard := g } (yielded ops a.tmps) = true then Oper.wp P { dst := dst, op := op, type := ty, pos := p, after := af, guard := g } a w K' Q else K' (a.put dst undef) w) : wpAnyH P md ops Q S (fuel + 1) listed a w :=
  wpAnyH_ready hr (by simp) (AllReadyH.cons hi h AllReadyH.nil)
theorem i64_wrap_any {m : Int} (h0 : -9223372036854775808 ≤ m) (h1 : m ≤ 9223372036854775807) : IntKind.i64.wrap m = m := by
  simp [IntKind.wrap, IntKind.bits, IntKind.signed]
  omega
open Go.Sort in
set_option maxRecDepth 20000 in
set_option maxHeartbeats 6400000 in
theorem of_hit (nv fv : ByteArray) (kd : UInt8) (hkd : kd ∈ ([48, 108, 112, 117, 110, 115] : List UInt8)) (bi by_ H mk op er gv ge n1 n2 d s t imm : Int) (a : Option Addr) (len cap : Nat) (w : World) (hH : 0 ≤ H ∧ H ≤ 65535)
    (hgv : 0 ≤ gv ∧ gv ≤ 2047) (hn1 : -2048 ≤ n1 ∧ n1 ≤ 2047) (hm : -1048576 ≤ imm ∧ imm ≤ 16777216) (hq : n2 * by_ = imm)
    (e1 : sgK kd = false → n1 = gv) (e2 : n2 = if upK kd n1 = true then n1 + 1048576 else n1) (Rg Fi Wb : Bool)
    (hM : ∀ w', Kept w w' → Calls Tryd.prog 39 #[.agg #[.string nv, .int .i64 bi, .string fv, .string ⟨#[kd]⟩, .int .i64 by_, .slice a len cap]] w' fun e w'' => e = .returned (.int .i64 mk) ∧ Kept w' w'')
    (hB : ∀ w, Calls Tryd.prog 38 #[.int .i64 H, .int .i64 mk] w fun e w' => e = .returned (.int .i64 bi) ∧ Kept w w')
    (hO : ∀ w, Calls Tryd.prog 40 #[.string nv] w fun e w' => e = .returned (.tuple #[.int .u8 op, .int .i64 er]) ∧ Kept w w')
    (hG : ∀ w', Kept w w' → Calls Tryd.prog 41 #[.int .u32 H, .slice a len cap] w' fun e w'' => e = .returned (.tuple #[.int .u32 gv, .int .i64 ge]) ∧ Kept w' w'')
    (hS : sgK kd = true → ∀ w, Calls Tryd.prog 42 #[.int .u32 gv, .int .i64 (len : Int)] w fun e w' => e = .returned (.int .i64 n1) ∧ Kept w w')
    (hP : ∀ w, Calls Tryd.prog 43 #[.string fv, insnV op 0 0 0 imm, .int .i64 H] w fun e w' => e = .returned (insnV op d s t imm) ∧ Kept w w')
    (hR : ∀ w, Calls Tryd.prog 44 #[.string fv, insnV op d s t imm] w fun e w' => e = .returned (.bool Rg) ∧ Kept w w')
    (hF : ∀ w, Calls Tryd.prog 45 #[.agg #[.string nv, .int .i64 bi, .string fv, .string ⟨#[kd]⟩, .int .i64 by_, .slice a len cap], .int .i64 imm] w fun e w' => e = .returned (.bool Fi) ∧ Kept w w')
    (wv : Int) (hwv : (wv == H) = Wb) (hW : Rg = true → Fi = true → ∀ w', Kept w w' → Calls Tryd.prog 46 #[.agg #[.string nv, .int .i64 bi, .string fv, .string ⟨#[kd]⟩, .int .i64 by_, .slice a len cap], insnV op d s t imm] w' fun e w'' => e = .returned (.int .u16 wv) ∧ Kept w' w'') :
    Calls Tryd.prog 23 #[.agg #[.string nv, .int .i64 bi, .string fv, .string ⟨#[kd]⟩, .int .i64 by_, .slice a len cap], .int .u16 H] w fun e w' => e = .returned (.tuple #[insnV op d s t imm, .bool (Rg && (Fi && Wb))]) ∧ Kept w w' := by
  have hI := InOf.begin w nv fv kd bi by_ a len cap
  go_enter Tryd.func23, Tryd.ntmps23
  go_upto_region 1 with fail
  generalize ((w.alloc (.cells #[.string nv, .int .i64 bi, .string fv, .string ⟨#[kd]⟩, .int .i64 by_, .slice a len cap] 56)).alloc (.cells #[.int .u8 0, .int .i64 0, .int .i64 0, .int .i64 0, .int .i64 0] 27)) = W0 at hI ⊢
  have cM : ∀ d' os, Calls Tryd.prog 39 #[.agg #[.string nv, .int .i64 bi, .string fv, .string ⟨#[kd]⟩, .int .i64 by_, .slice a len cap]] (grow (redrawn W0 d') os) fun e w'' => e = .returned (.int .i64 mk) ∧ ∃ p : Regrown, w'' = grow (redrawn W0 p.d) p.os := fun d' os => Calls.regrown_of (hM _ (hI.kept.trans (below_regrown W0 d' os)))
  have cB : ∀ d' os, Calls Tryd.prog 38 #[.int .i64 H, .int .i64 mk] (grow (redrawn W0 d') os) fun e w'' => e = .returned (.int .i64 bi) ∧ ∃ p : Regrown, w'' = grow (redrawn W0 p.d) p.os := fun d' os => Calls.regrown_of (hB _)
  have g0 := cell_regrown hI.r0
  have g1 := cell_regrown hI.r1
  have g2 := cell_regrown hI.r2
  have g3 := cell_regrown hI.r3
  have g4 := cell_regrown hI.r4
  have g5 := cell_regrown hI.r5
  have z3 : wrap64 H = H := wrap64_id (by omega) (by omega)
  have z4 : IntKind.i64.wrap H = H := i64_wrap_id (by omega) (by omega)
  refine wp_region_quiet_below (by kernel_rfl) (by kernel_rfl) ?_
  repeat (quiet_step (first | exact cM _ _ | exact cB _ _))
  refine wpQuiet_nil ?_
  intro _ hw'
  obtain ⟨⟨dq, osq⟩, hw''⟩ := hw'
  subst hw''
  have hI2 := hI.on (below_regrown W0 dq osq)
  clear hI g0 g1 g2 g3 g4 g5 cM cB z3 z4 hM hB
  generalize grow (redrawn W0 dq) osq = W2 at hI2 ⊢
  have c0 := hI2.r0
  go_upto_region 4 with (go_at_call 40; refine (hO _).mono ?_; rintro e w3 ⟨rfl, hk3⟩)
  have hI3 := hI2.on hk3
  clear hk3 hI2 c0 hO
  have c5 := hI3.r5
  go_upto_region 6 with (go_at_call 41; refine (hG _ hI3.kept).mono ?_; rintro e w4 ⟨rfl, hk4⟩)
  have hI4 := hI3.on hk4
  clear hk4 hI3 c5 hG
  have c3 := hI4.r3
  go_cut [49] (fun v wx => v = .bool (sgK kd) ∧ InOf w wx nv fv kd bi by_ a len cap)
  case first =>
    simp only [List.mem_cons, List.not_mem_nil, or_false] at hkd
    clear hS hP hR hF hW e1 e2 hq hm
    rcases hkd with rfl | rfl | rfl | rfl | rfl | rfl
    all_goals
      as_aux_lemma =>
        go_wp2
        go_meet
        exact ⟨rfl, hI4⟩
  case rest =>
    obtain ⟨rfl, hI5⟩ := hcut
    clear hI4 c3
    have c5 := hI5.r5
    go_upto_if 49 with fail
    go_cut [10, 49] (fun v _ wx => v = .int .i64 n1 ∧ InOf w wx nv fv kd bi by_ a len cap)
    case first =>
      clear hP hR hF hW e2 hq hm
      generalize sgK kd = b at e1 hS ⊢
      cases b
      · as_aux_lemma =>
          have e3 := e1 rfl
          subst e3
          go_wp2
          go_meet
          exact ⟨rfl, hI5⟩
      · as_aux_lemma =>
          have hS' := hS rfl
          clear hS e1
          go_wp2_with (go_at_call 42; refine (hS' _).mono ?_; rintro e w6 ⟨rfl, hk6⟩)
          go_meet
          exact ⟨rfl, hI5.on hk6⟩
    case rest =>
      obtain ⟨rfl, hI6⟩ := hcut
      clear hI5 c5 hS e1
      have c3 := hI6.r3
      go_upto_region 8 with fail
      go_cut [61] (fun v wx => v = .bool (upK kd n1) ∧ InOf w wx nv fv kd bi by_ a len cap)
      case first =>
        simp only [List.mem_cons, List.not_mem_nil, or_false] at hkd
        clear hP hR hF hW e2 hq hm
        by_cases hl : n1 < 0
        · rcases hkd with rfl | rfl | rfl | rfl | rfl | rfl
          all_goals
            as_aux_lemma =>
              go_wp2
              go_meet
              exact ⟨by simp [upK, hl], hI6⟩
        · rcases hkd with rfl | rfl | rfl | rfl | rfl | rfl
          all_goals
            as_aux_lemma =>
              go_wp2
              go_meet
              exact ⟨by simp [upK, hl], hI6⟩
      case rest =>
        obtain ⟨rfl, hI7⟩ := hcut
        clear hI6 c3
        go_upto_if 61 with fail
        go_cut [10, 61] (fun v _ wx => v = .int .i64 n2 ∧ InOf w wx nv fv kd bi by_ a len cap)
        case first =>
          clear hP hR hF hW
          generalize upK kd n1 = b at e2 ⊢
          cases b
          · as_aux_lemma =>
              have e3 : n2 = n1 := by simpa using e2
              clear e2 hm hq
              subst e3
              go_wp2
              go_meet
              exact ⟨rfl, hI7⟩
          · as_aux_lemma =>
              have e3 : n2 = n1 + 1048576 := by simpa using e2
              clear e2 hm hq
              subst e3
              go_wp2
              go_meet
              exact ⟨rfl, hI7⟩
        case rest =>
          obtain ⟨rfl, hI8⟩ := hcut
          clear hI7 e2 hkd
          have c2 := hI8.r2
          have c4 := hI8.r4
          have z5 : IntKind.i64.wrap imm = imm := i64_wrap_any (by omega) (by omega)
          go_upto_region 11 with (go_at_call 43; refine (hP _).mono ?_; rintro e w9 ⟨rfl, hk9⟩)
          have hJ : InO w (w9.alloc (.cells #[.int .u8 op, .int .i64 d, .int .i64 s, .int .i64 t, .int .i64 imm] 27)) nv fv kd bi by_ a len cap w9.heap.size op d s t imm := ⟨(hI8.on hk9).on (Kept.alloc _ _), Box.make w9 op d s t imm⟩
          have nB9 : w.heap.size + 1 ≠ w9.heap.size := Nat.ne_of_lt (hI8.on hk9).res.lt
          generalize w9.alloc (.cells #[.int .u8 op, .int .i64 d, .int .i64 s, .int .i64 t, .int .i64 imm] 27) = W9 at hJ ⊢
          clear hI8 hk9 c2 c4 hP
          generalize w9.heap.size = b9 at hJ nB9 ⊢
          clear z5 hm hn1 hgv hq
          have c0 := hJ.of.r0; have c1 := hJ.of.r1; have c2 := hJ.of.r2; have c3 := hJ.of.r3; have c4 := hJ.of.r4; have c5 := hJ.of.r5; have bq := hJ.box; obtain ⟨e0, e1, e2, e3, e4, _, _, _, _, _⟩ := bq; have rq := hJ.of.res; obtain ⟨d0, d1, d2, d3, d4, f0, f1, f2, f3, f4⟩ := rq
          have hS0 : W9.cell? ⟨w.heap.size, 0, none⟩ = some (.string nv) ∧ W9.cell? ⟨w.heap.size, 1, none⟩ = some (.int .i64 bi) ∧ W9.cell? ⟨w.heap.size, 2, none⟩ = some (.string fv) ∧ W9.cell? ⟨w.heap.size, 3, none⟩ = some (.string ⟨#[kd]⟩) ∧ W9.cell? ⟨w.heap.size, 4, none⟩ = some (.int .i64 by_) ∧ W9.cell? ⟨w.heap.size, 5, none⟩ = some (.slice a len cap) ∧ W9.cell? ⟨b9, 0, none⟩ = some (.int .u8 op) ∧ W9.cell? ⟨b9, 1, none⟩ = some (.int .i64 d) ∧ W9.cell? ⟨b9, 2, none⟩ = some (.int .i64 s) ∧ W9.cell? ⟨b9, 3, none⟩ = some (.int .i64 t) ∧ W9.cell? ⟨b9, 4, none⟩ = some (.int .i64 imm) := ⟨c0, c1, c2, c3, c4, c5, e0, e1, e2, e3, e4⟩
          have nA : w.heap.size + 1 ≠ w.heap.size := by omega
          have nB : w.heap.size + 1 ≠ b9 := nB9
          clear nB9
          clear c0 c1 c2 c3 c4 c5 e0 e1 e2 e3 e4
          go_cut [5] (fun v wx => v = .bool (Rg && (Fi && Wb)) ∧ Box wx (w.heap.size + 1) op d s t imm ∧ Kept w wx)
          case first =>
            cases Rg
            · clear hF hW
              refine wp_region_noPanic ?_
              refine wp_region_held_drew (S := (fun w' => w'.cell? ⟨w.heap.size, 0, none⟩ = some (.string nv) ∧ w'.cell? ⟨w.heap.size, 1, none⟩ = some (.int .i64 bi) ∧ w'.cell? ⟨w.heap.size, 2, none⟩ = some (.string fv) ∧ w'.cell? ⟨w.heap.size, 3, none⟩ = some (.string ⟨#[kd]⟩) ∧ w'.cell? ⟨w.heap.size, 4, none⟩ = some (.int .i64 by_) ∧ w'.cell? ⟨w.heap.size, 5, none⟩ = some (.slice a len cap) ∧ w'.cell? ⟨b9, 0, none⟩ = some (.int .u8 op) ∧ w'.cell? ⟨b9, 1, none⟩ = some (.int .i64 d) ∧ w'.cell? ⟨b9, 2, none⟩ = some (.int .i64 s) ∧ w'.cell? ⟨b9, 3, none⟩ = some (.int .i64 t) ∧ w'.cell? ⟨b9, 4, none⟩ = some (.int .i64 imm))) (by kernel_rfl) (sk11 (Below.drew (Kept.refl _)) hS0) (fun hHeld => ?_)
              refine takeW 0 (v := ?_) rfl (by kernel_rfl) (by kernel_rfl) (by kernel_rfl) (fun _ _ _ h => h) (Or.inl ⟨by rfl, ?_⟩) (by assumption) ?_
              rotate_left
              · (intro w hSw; (try dsimp only at hSw); go_simp; with_reducible rfl)
              try simp only [Act.put, List.setIfInBounds_toArray, List.set_cons_zero, List.set_cons_succ]
              refine takeW 1 (v := ?_) rfl (by kernel_rfl) (by kernel_rfl) (by kernel_rfl) (fun _ _ _ h => h) (Or.inl ⟨by rfl, ?_⟩) (by assumption) ?_
              rotate_left
              · (intro w hSw; (try dsimp only at hSw); go_simp; with_reducible rfl)
              try simp only [Act.put, List.setIfInBounds_toArray, List.set_cons_zero, List.set_cons_succ]
              refine takeW 2 (v := ?_) rfl (by kernel_rfl) (by kernel_rfl) (by kernel_rfl) (fun _ _ _ h => h) (Or.inl ⟨by rfl, ?_⟩) (by assumption) ?_
              rotate_left
              · (intro w hSw; (try dsimp only at hSw); go_simp; with_reducible rfl)
              try simp only [Act.put, List.setIfInBounds_toArray, List.set_cons_zero, List.set_cons_succ]
              refine takeW 3 (v := ?_) rfl (by kernel_rfl) (by kernel_rfl) (by kernel_rfl) (fun _ _ _ h => h) (Or.inl ⟨by rfl, ?_⟩) (by assumption) ?_
              rotate_left
              · (intro w hSw; (try dsimp only at hSw); go_simp; with_reducible rfl)
              try simp only [Act.put, List.setIfInBounds_toArray, List.set_cons_zero, List.set_cons_succ]
              refine oneW 4 rfl (by kernel_rfl) (fun K hK => ?_)
              go_simp
              (go_at_call 44; refine (hR _).mono ?_; rintro e w6 ⟨rfl, hk⟩; have hJ6 := hJ.on (Kept.trans (Below.drew (Kept.refl _)) hk); clear d0 d1 d2 d3 d4 f0 f1 f2 f3 f4; have rq := hJ6.of.res; obtain ⟨d0, d1, d2, d3, d4, f0, f1, f2, f3, f4⟩ := rq)
              go_wp2_with fail
              refine hK.out _ _ (sk11 hk (by assumption)) (fun hHeld2 => ?_)
              clear hK K hHeld
              have hHeld := hHeld2
              clear hHeld2
              try simp only [Act.put, List.setIfInBounds_toArray, List.set_cons_zero, List.set_cons_succ]
              refine takeW 5 (v := ?_) rfl (by kernel_rfl) (by kernel_rfl) (by kernel_rfl) (fun _ _ _ h => h) (Or.inl ⟨by rfl, ?_⟩) (by assumption) ?_
              rotate_left
              · (intro w hSw; (try dsimp only at hSw); go_simp; with_reducible rfl)
              try simp only [Act.put, List.setIfInBounds_toArray, List.set_cons_zero, List.set_cons_succ]
              refine takeW 6 rfl (by kernel_rfl) (by kernel_rfl) (by kernel_rfl) (fun _ _ _ h => h) (Or.inr ⟨by rfl, rfl⟩) (by assumption) ?_
              try simp only [Act.put, List.setIfInBounds_toArray, List.set_cons_zero, List.set_cons_succ]
              refine takeW 7 rfl (by kernel_rfl) (by kernel_rfl) (by kernel_rfl) (fun _ _ _ h => h) (Or.inr ⟨by rfl, rfl⟩) (by assumption) ?_
              try simp only [Act.put, List.setIfInBounds_toArray, List.set_cons_zero, List.set_cons_succ]
              refine takeW 8 rfl (by kernel_rfl) (by kernel_rfl) (by kernel_rfl) (fun _ _ _ h => h) (Or.inr ⟨by rfl, rfl⟩) (by assumption) ?_
              try simp only [Act.put, List.setIfInBounds_toArray, List.set_cons_zero, List.set_cons_succ]
              refine takeW 9 rfl (by kernel_rfl) (by kernel_rfl) (by kernel_rfl) (fun _ _ _ h => h) (Or.inr ⟨by rfl, rfl⟩) (by assumption) ?_
              try simp only [Act.put, List.setIfInBounds_toArray, List.set_cons_zero, List.set_cons_succ]
              refine takeW 10 (v := ?_) rfl (by kernel_rfl) (by kernel_rfl) (by kernel_rfl) (fun _ _ _ h => h) (Or.inl ⟨by rfl, ?_⟩) (by assumption) ?_
              rotate_left
              · (intro w hSw; (try dsimp only at hSw); go_simp; with_reducible rfl)
              try simp only [Act.put, List.setIfInBounds_toArray, List.set_cons_zero, List.set_cons_succ]
              refine takeW 11 (v := ?_) rfl (by kernel_rfl) (by kernel_rfl) (by kernel_rfl) (fun _ _ _ h => h) (Or.inl ⟨by rfl, ?_⟩) (by assumption) ?_
              rotate_left
              · (intro w hSw; (try dsimp only at hSw); go_simp; with_reducible rfl)
              try simp only [Act.put, List.setIfInBounds_toArray, List.set_cons_zero, List.set_cons_succ]
              refine takeW 12 rfl (by kernel_rfl) (by kernel_rfl) (by kernel_rfl) (fun _ _ _ h => h) (Or.inr ⟨by rfl, rfl⟩) (by assumption) ?_
              try simp only [Act.put, List.setIfInBounds_toArray, List.set_cons_zero, List.set_cons_succ]
              refine takeW 13 rfl (by kernel_rfl) (by kernel_rfl) (by kernel_rfl) (fun _ _ _ h => h) (Or.inr ⟨by rfl, rfl⟩) (by assumption) ?_
              try simp only [Act.put, List.setIfInBounds_toArray, List.set_cons_zero, List.set_cons_succ]
              refine takeW 14 rfl (by kernel_rfl) (by kernel_rfl) (by kernel_rfl) (fun _ _ _ h => h) (Or.inr ⟨by rfl, rfl⟩) (by assumption) ?_
              try simp only [Act.put, List.setIfInBounds_toArray, List.set_cons_zero, List.set_cons_succ]
              refine takeW 15 rfl (by kernel_rfl) (by kernel_rfl) (by kernel_rfl) (fun _ _ _ h => h) (Or.inr ⟨by rfl, rfl⟩) (by assumption) ?_
              try simp only [Act.put, List.setIfInBounds_toArray, List.set_cons_zero, List.set_cons_succ]
              refine takeW 16 rfl (by kernel_rfl) (by kernel_rfl) (by kernel_rfl) (fun _ _ _ h => h) (Or.inr ⟨by rfl, rfl⟩) (by assumption) ?_
              try simp only [Act.put, List.setIfInBounds_toArray, List.set_cons_zero, List.set_cons_succ]
              refine takeW 17 (v := ?_) rfl (by kernel_rfl) (by kernel_rfl) (by kernel_rfl) (fun _ _ _ h => h) (Or.inl ⟨by rfl, ?_⟩) (by assumption) ?_
              rotate_left
              · (intro w hSw; (try dsimp only at hSw); go_simp; with_reducible rfl)
              try simp only [Act.put, List.setIfInBounds_toArray, List.set_cons_zero, List.set_cons_succ]
              refine oneW 18 rfl (by kernel_rfl) (fun K hK => ?_)
              go_simp
              refine hK.out _ _ (sp11 nA nB (by assumption)) (fun hHeld2 => ?_)
              clear hK K hHeld
              have hHeld := hHeld2
              clear hHeld2
              try simp only [Act.put, List.setIfInBounds_toArray, List.set_cons_zero, List.set_cons_succ]
              refine takeW 19 (v := ?_) rfl (by kernel_rfl) (by kernel_rfl) (by kernel_rfl) (fun _ _ _ h => h) (Or.inl ⟨by rfl, ?_⟩) (by assumption) ?_
              rotate_left
              · (intro w hSw; (try dsimp only at hSw); go_simp; with_reducible rfl)
              try simp only [Act.put, List.setIfInBounds_toArray, List.set_cons_zero, List.set_cons_succ]
              refine wpAnyH_done (by kernel_rfl) ?_ _
              refine NoPanic.normal ?_
              as_aux_lemma =>
                go_wp2_with fail
                go_meet
                exact ⟨by simp [*], hJ6.of.res.put _ _ _ _ _, below_put hJ6.of.kept (by omega) _ _ _ _ _⟩
            · cases Fi
              · clear hW
                refine wp_region_noPanic ?_
                refine wp_region_held_drew (S := (fun w' => w'.cell? ⟨w.heap.size, 0, none⟩ = some (.string nv) ∧ w'.cell? ⟨w.heap.size, 1, none⟩ = some (.int .i64 bi) ∧ w'.cell? ⟨w.heap.size, 2, none⟩ = some (.string fv) ∧ w'.cell? ⟨w.heap.size, 3, none⟩ = some (.string ⟨#[kd]⟩) ∧ w'.cell? ⟨w.heap.size, 4, none⟩ = some (.int .i64 by_) ∧ w'.cell? ⟨w.heap.size, 5, none⟩ = some (.slice a len cap) ∧ w'.cell? ⟨b9, 0, none⟩ = some (.int .u8 op) ∧ w'.cell? ⟨b9, 1, none⟩ = some (.int .i64 d) ∧ w'.cell? ⟨b9, 2, none⟩ = some (.int .i64 s) ∧ w'.cell? ⟨b9, 3, none⟩ = some (.int .i64 t) ∧ w'.cell? ⟨b9, 4, none⟩ = some (.int .i64 imm))) (by kernel_rfl) (sk11 (Below.drew (Kept.refl _)) hS0) (fun hHeld => ?_)
                refine takeW 0 (v := ?_) rfl (by kernel_rfl) (by kernel_rfl) (by kernel_rfl) (fun _ _ _ h => h) (Or.inl ⟨by rfl, ?_⟩) (by assumption) ?_
                rotate_left
                · (intro w hSw; (try dsimp only at hSw); go_simp; with_reducible rfl)
                try simp only [Act.put, List.setIfInBounds_toArray, List.set_cons_zero, List.set_cons_succ]
                refine takeW 1 (v := ?_) rfl (by kernel_rfl) (by kernel_rfl) (by kernel_rfl) (fun _ _ _ h => h) (Or.inl ⟨by rfl, ?_⟩) (by assumption) ?_
                rotate_left
                · (intro w hSw; (try dsimp only at hSw); go_simp; with_reducible rfl)
                try simp only [Act.put, List.setIfInBounds_toArray, List.set_cons_zero, List.set_cons_succ]
                refine takeW 2 (v := ?_) rfl (by kernel_rfl) (by kernel_rfl) (by kernel_rfl) (fun _ _ _ h => h) (Or.inl ⟨by rfl, ?_⟩) (by assumption) ?_
                rotate_left
                · (intro w hSw; (try dsimp only at hSw); go_simp; with_reducible rfl)
                try simp only [Act.put, List.setIfInBounds_toArray, List.set_cons_zero, List.set_cons_succ]
                refine takeW 3 (v := ?_) rfl (by kernel_rfl) (by kernel_rfl) (by kernel_rfl) (fun _ _ _ h => h) (Or.inl ⟨by rfl, ?_⟩) (by assumption) ?_
                rotate_left
                · (intro w hSw; (try dsimp only at hSw); go_simp; with_reducible rfl)
                try simp only [Act.put, List.setIfInBounds_toArray, List.set_cons_zero, List.set_cons_succ]
                refine oneW 4 rfl (by kernel_rfl) (fun K hK => ?_)
                go_simp
                (go_at_call 44; refine (hR _).mono ?_; rintro e w6 ⟨rfl, hk⟩; have hJ6 := hJ.on (Kept.trans (Below.drew (Kept.refl _)) hk); clear d0 d1 d2 d3 d4 f0 f1 f2 f3 f4; have rq := hJ6.of.res; obtain ⟨d0, d1, d2, d3, d4, f0, f1, f2, f3, f4⟩ := rq)
                go_wp2_with fail
                refine hK.out _ _ (sk11 hk (by assumption)) (fun hHeld2 => ?_)
                clear hK K hHeld
                have hHeld := hHeld2
                clear hHeld2
                try simp only [Act.put, List.setIfInBounds_toArray, List.set_cons_zero, List.set_cons_succ]
                refine takeW 5 (v := ?_) rfl (by kernel_rfl) (by kernel_rfl) (by kernel_rfl) (fun _ _ _ h => h) (Or.inl ⟨by rfl, ?_⟩) (by assumption) ?_
                rotate_left
                · (intro w hSw; (try dsimp only at hSw); go_simp; with_reducible rfl)
                try simp only [Act.put, List.setIfInBounds_toArray, List.set_cons_zero, List.set_cons_succ]
                refine takeW 6 (v := ?_) rfl (by kernel_rfl) (by kernel_rfl) (by kernel_rfl) (fun _ _ _ h => h) (Or.inl ⟨by rfl, ?_⟩) (by assumption) ?_
                rotate_left
                · (intro w hSw; (try dsimp only at hSw); go_simp; with_reducible rfl)
                try simp only [Act.put, List.setIfInBounds_toArray, List.set_cons_zero, List.set_cons_succ]
                refine takeW 7 (v := ?_) rfl (by kernel_rfl) (by kernel_rfl) (by kernel_rfl) (fun _ _ _ h => h) (Or.inl ⟨by rfl, ?_⟩) (by assumption) ?_
                rotate_left
                · (intro w hSw; (try dsimp only at hSw); go_simp; with_reducible rfl)
                try simp only [Act.put, List.setIfInBounds_toArray, List.set_cons_zero, List.set_cons_succ]
                refine takeW 8 (v := ?_) rfl (by kernel_rfl) (by kernel_rfl) (by kernel_rfl) (fun _ _ _ h => h) (Or.inl ⟨by rfl, ?_⟩) (by assumption) ?_
                rotate_left
                · (intro w hSw; (try dsimp only at hSw); go_simp; with_reducible rfl)
                try simp only [Act.put, List.setIfInBounds_toArray, List.set_cons_zero, List.set_cons_succ]
                refine oneW 9 rfl (by kernel_rfl) (fun K hK => ?_)
                go_simp
                (go_at_call 45; refine (hF _).mono ?_; rintro e w7 ⟨rfl, hk⟩; have hJ7 := hJ6.on hk; clear d0 d1 d2 d3 d4 f0 f1 f2 f3 f4; have rq := hJ7.of.res; obtain ⟨d0, d1, d2, d3, d4, f0, f1, f2, f3, f4⟩ := rq)
                go_wp2_with fail
                refine hK.out _ _ (sk11 hk (by assumption)) (fun hHeld2 => ?_)
                clear hK K hHeld
                have hHeld := hHeld2
                clear hHeld2
                try simp only [Act.put, List.setIfInBounds_toArray, List.set_cons_zero, List.set_cons_succ]
                refine takeW 10 (v := ?_) rfl (by kernel_rfl) (by kernel_rfl) (by kernel_rfl) (fun _ _ _ h => h) (Or.inl ⟨by rfl, ?_⟩) (by assumption) ?_
                rotate_left
                · (intro w hSw; (try dsimp only at hSw); go_simp; with_reducible rfl)
                try simp only [Act.put, List.setIfInBounds_toArray, List.set_cons_zero, List.set_cons_succ]
                refine takeW 11 (v := ?_) rfl (by kernel_rfl) (by kernel_rfl) (by kernel_rfl) (fun _ _ _ h => h) (Or.inl ⟨by rfl, ?_⟩) (by assumption) ?_
                rotate_left
                · (intro w hSw; (try dsimp only at hSw); go_simp; with_reducible rfl)
                try simp only [Act.put, List.setIfInBounds_toArray, List.set_cons_zero, List.set_cons_succ]
                refine takeW 12 rfl (by kernel_rfl) (by kernel_rfl) (by kernel_rfl) (fun _ _ _ h => h) (Or.inr ⟨by rfl, rfl⟩) (by assumption) ?_
                try simp only [Act.put, List.setIfInBounds_toArray, List.set_cons_zero, List.set_cons_succ]
                refine takeW 13 rfl (by kernel_rfl) (by kernel_rfl) (by kernel_rfl) (fun _ _ _ h => h) (Or.inr ⟨by rfl, rfl⟩) (by assumption) ?_
                try simp only [Act.put, List.setIfInBounds_toArray, List.set_cons_zero, List.set_cons_succ]
                refine takeW 14 rfl (by kernel_rfl) (by kernel_rfl) (by kernel_rfl) (fun _ _ _ h => h) (Or.inr ⟨by rfl, rfl⟩) (by assumption) ?_
                try simp only [Act.put, List.setIfInBounds_toArray, List.set_cons_zero, List.set_cons_succ]
                refine takeW 15 rfl (by kernel_rfl) (by kernel_rfl) (by kernel_rfl) (fun _ _ _ h => h) (Or.inr ⟨by rfl, rfl⟩) (by assumption) ?_
                try simp only [Act.put, List.setIfInBounds_toArray, List.set_cons_zero, List.set_cons_succ]
                refine takeW 16 rfl (by kernel_rfl) (by kernel_rfl) (by kernel_rfl) (fun _ _ _ h => h) (Or.inr ⟨by rfl, rfl⟩) (by assumption) ?_
                try simp only [Act.put, List.setIfInBounds_toArray, List.set_cons_zero, List.set_cons_succ]
                refine takeW 17 (v := ?_) rfl (by kernel_rfl) (by kernel_rfl) (by kernel_rfl) (fun _ _ _ h => h) (Or.inl ⟨by rfl, ?_⟩) (by assumption) ?_
                rotate_left
                · (intro w hSw; (try dsimp only at hSw); go_simp; with_reducible rfl)
                try simp only [Act.put, List.setIfInBounds_toArray, List.set_cons_zero, List.set_cons_succ]
                refine oneW 18 rfl (by kernel_rfl) (fun K hK => ?_)
                go_simp
                refine hK.out _ _ (sp11 nA nB (by assumption)) (fun hHeld2 => ?_)
                clear hK K hHeld
                have hHeld := hHeld2
                clear hHeld2
                try simp only [Act.put, List.setIfInBounds_toArray, List.set_cons_zero, List.set_cons_succ]
                refine takeW 19 (v := ?_) rfl (by kernel_rfl) (by kernel_rfl) (by kernel_rfl) (fun _ _ _ h => h) (Or.inl ⟨by rfl, ?_⟩) (by assumption) ?_
                rotate_left
                · (intro w hSw; (try dsimp only at hSw); go_simp; with_reducible rfl)
                try simp only [Act.put, List.setIfInBounds_toArray, List.set_cons_zero, List.set_cons_succ]
                refine wpAnyH_done (by kernel_rfl) ?_ _
                refine NoPanic.normal ?_
                as_aux_lemma =>
                  go_wp2_with fail
                  go_meet
                  exact ⟨by simp [*], hJ7.of.res.put _ _ _ _ _, below_put hJ7.of.kept (by omega) _ _ _ _ _⟩
              · have hW2 := hW rfl rfl
                clear hW
                go_region_held3 (fun w' => w'.cell? ⟨w.heap.size, 0, none⟩ = some (.string nv) ∧ w'.cell? ⟨w.heap.size, 1, none⟩ = some (.int .i64 bi) ∧ w'.cell? ⟨w.heap.size, 2, none⟩ = some (.string fv) ∧ w'.cell? ⟨w.heap.size, 3, none⟩ = some (.string ⟨#[kd]⟩) ∧ w'.cell? ⟨w.heap.size, 4, none⟩ = some (.int .i64 by_) ∧ w'.cell? ⟨w.heap.size, 5, none⟩ = some (.slice a len cap) ∧ w'.cell? ⟨b9, 0, none⟩ = some (.int .u8 op) ∧ w'.cell? ⟨b9, 1, none⟩ = some (.int .i64 d) ∧ w'.cell? ⟨b9, 2, none⟩ = some (.int .i64 s) ∧ w'.cell? ⟨b9, 3, none⟩ = some (.int .i64 t) ∧ w'.cell? ⟨b9, 4, none⟩ = some (.int .i64 imm)) (first | with_reducible exact sk11 hk (by assumption) | with_reducible exact sk11 (Below.drew (Kept.refl _)) hS0 | with_reducible exact sp11 nA nB (by assumption) | go_keep)
                  (first
                    | (go_at_call 44; refine (hR _).mono ?_; rintro e w6 ⟨rfl, hk⟩; have hJ6 := hJ.on (Kept.trans (Below.drew (Kept.refl _)) hk); clear d0 d1 d2 d3 d4 f0 f1 f2 f3 f4; have rq := hJ6.of.res; obtain ⟨d0, d1, d2, d3, d4, f0, f1, f2, f3, f4⟩ := rq)
                    | (go_at_call 45; refine (hF _).mono ?_; rintro e w7 ⟨rfl, hk⟩; have hJ7 := hJ6.on hk; clear d0 d1 d2 d3 d4 f0 f1 f2 f3 f4; have rq := hJ7.of.res; obtain ⟨d0, d1, d2, d3, d4, f0, f1, f2, f3, f4⟩ := rq)
                    | (go_at_call 46; refine (hW2 _ hJ7.of.kept).mono ?_; rintro e w8 ⟨rfl, hk⟩; have hJ8 := hJ7.on hk; clear d0 d1 d2 d3 d4 f0 f1 f2 f3 f4; have rq := hJ8.of.res; obtain ⟨d0, d1, d2, d3, d4, f0, f1, f2, f3, f4⟩ := rq))
                all_goals
                  as_aux_lemma =>
                    go_wp2_with fail
                    go_meet
                    exact ⟨by simp [*], hJ8.of.res.put _ _ _ _ _, below_put hJ8.of.kept (by omega) _ _ _ _ _⟩
          case rest =>
            obtain ⟨rfl, hQ, hK⟩ := hcut
            clear d0 d1 d2 d3 d4 f0 f1 f2 f3 f4 hJ hR hF hW
            go_wp2
            refine bodyPost_ret (v := .tuple #[insnV op d s t imm, .bool (Rg && (Fi && Wb))]) (by simp [results, Tryd.results23, go_sem, hQ.c0, hQ.c1, hQ.c2, hQ.c3, hQ.c4]) rfl ⟨rfl, hK⟩
end Go.Proofs.YtbmcanpjpibecaaDoor
