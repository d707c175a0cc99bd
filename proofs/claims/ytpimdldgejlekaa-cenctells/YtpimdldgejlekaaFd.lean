/- The document's own Find: the first row that an instruction is of. -/
import Derived.Test.YtpimdldgejlekaaRi
import Derived.Test.YtpimdldgejlekaaSt
import Derived.Test.YtpimdldgejlekaaFi
import Derived.Deep.DeepCutAuto
namespace Go.Proofs.Ytpimdldgejlekaa
open Go.RowKit

theorem cForm_cases : ∀ k, k < 33 → cForm k ∈ ([97, 108, 115, 110, 106, 114, 122, 117, 112, 113, 109, 98, 119, 74, 75, 118, 100, 116] : List UInt8) := by decide +kernel
theorem cKind_cases : ∀ k, k < 33 → cKind k ∈ ([48, 108, 112, 117, 110, 115] : List UInt8) := by decide +kernel
theorem cBy_range : ∀ k, k < 33 → 1 ≤ cBy k ∧ cBy k ≤ 16 := by decide +kernel
theorem cLen_le : ∀ k, k < 33 → cLen k ≤ 11 := by decide +kernel
theorem cOp_range : ∀ k, k < 33 → 1 ≤ cOp k ∧ cOp k ≤ 94 := by decide +kernel

theorem cright_walk (f : UInt8) (hf : f ∈ ([97, 108, 115, 110, 106, 114, 122, 117, 112, 113, 109, 98, 119, 74, 75, 118, 100, 116] : List UInt8)) (op d s t imm : Int) (w : World) :
    Calls Try.prog 30 #[.string (chr f), insnV op d s t imm] w fun e w' => e = .returned (.bool (rightB f d s t)) ∧ Kept w w' := by
  simp only [List.mem_cons, List.not_mem_nil, or_false] at hf
  rcases hf with rfl | rfl | rfl | rfl | rfl | rfl | rfl | rfl | rfl | rfl | rfl | rfl | rfl | rfl | rfl | rfl | rfl | rfl
  · exact right_97 op d s t imm w
  · exact right_108 op d s t imm w
  · exact right_115 op d s t imm w
  · exact right_110 op d s t imm w
  · exact right_106 op d s t imm w
  · exact right_114 op d s t imm w
  · exact right_122 op d s t imm w
  · exact right_117 op d s t imm w
  · exact right_112 op d s t imm w
  · exact right_113 op d s t imm w
  · exact right_109 op d s t imm w
  · exact right_98 op d s t imm w
  · exact right_119 op d s t imm w
  · exact right_74 op d s t imm w
  · exact right_75 op d s t imm w
  · exact right_118 op d s t imm w
  · exact right_100 op d s t imm w
  · exact right_116 op d s t imm w
theorem stand_walk (f : UInt8) (hf : f ∈ ([97, 108, 115, 110, 106, 114, 122, 117, 112, 113, 109, 98, 119, 74, 75, 118, 100, 116] : List UInt8)) (op d s t imm : Int) (hd : 0 ≤ d ∧ d ≤ 31) (hs : 0 ≤ s ∧ s ≤ 31) (ht : 0 ≤ t ∧ t ≤ 31) (w : World) :
    Calls Try.prog 34 #[.string (chr f), insnV op d s t imm] w fun e w' => e = .returned (.tuple #[.int .i64 (lowV f d s t), .int .i64 (hiV f d s t)]) ∧ Kept w w' := by
  simp only [List.mem_cons, List.not_mem_nil, or_false] at hf
  rcases hf with rfl | rfl | rfl | rfl | rfl | rfl | rfl | rfl | rfl | rfl | rfl | rfl | rfl | rfl | rfl | rfl | rfl | rfl
  · exact stand_97 op d s t imm hd hs ht w
  · exact stand_108 op d s t imm hd hs ht w
  · exact stand_115 op d s t imm hd hs ht w
  · exact stand_110 op d s t imm hd hs ht w
  · exact stand_106 op d s t imm hd hs ht w
  · exact stand_114 op d s t imm hd hs ht w
  · exact stand_122 op d s t imm hd hs ht w
  · exact stand_117 op d s t imm hd hs ht w
  · exact stand_112 op d s t imm hd hs ht w
  · exact stand_113 op d s t imm hd hs ht w
  · exact stand_109 op d s t imm hd hs ht w
  · exact stand_98 op d s t imm hd hs ht w
  · exact stand_119 op d s t imm hd hs ht w
  · exact stand_74 op d s t imm hd hs ht w
  · exact stand_75 op d s t imm hd hs ht w
  · exact stand_118 op d s t imm hd hs ht w
  · exact stand_100 op d s t imm hd hs ht w
  · exact stand_116 op d s t imm hd hs ht w
theorem cfits_walk (nv fv : ByteArray) (bv by_ : Int) (kd : UInt8) (hk : kd ∈ ([48, 108, 112, 117, 110, 115] : List UInt8)) (a : Option Addr) (len cap : Nat) (n : Int) (hl : len ≤ 11) (hb : 1 ≤ by_ ∧ by_ ≤ 16) (hn : -1048576 ≤ n ∧ n ≤ 1048575) (w : World) :
    Calls Try.prog 31 #[.agg #[.string nv, .int .i64 bv, .string fv, .string (chr kd), .int .i64 by_, .slice a len cap], .int .i64 n] w fun e w' => e = .returned (.bool (cfitsB kd by_ len n)) ∧ Kept w w' := by
  simp only [List.mem_cons, List.not_mem_nil, or_false] at hk
  rcases hk with rfl | rfl | rfl | rfl | rfl | rfl
  · exact fits_48 nv fv bv by_ a len cap n hl hb hn w _ _ rfl rfl
  · exact fits_108 nv fv bv by_ a len cap n hl hb hn w _ _ rfl rfl
  · exact fits_112 nv fv bv by_ a len cap n hl hb hn w _ _ rfl rfl
  · exact fits_117 nv fv bv by_ a len cap n hl hb hn w _ _ rfl rfl
  · exact fits_110 nv fv bv by_ a len cap n hl hb hn w _ _ rfl rfl
  · exact fits_115 nv fv bv by_ a len cap n hl hb hn w _ _ rfl rfl

theorem names_inj : ∀ i, i < 94 → ∀ j, j < 94 → nameTab.getD i [] = nameTab.getD j [] → i = j := by decide +kernel
theorem nm_inj {i j : Nat} (hi : i < 94) (hj : j < 94) (h : nm i = nm j) : i = j := by
  refine names_inj i hi j hj ?_
  have h1 : (nm i).data.toList = (nm j).data.toList := by rw [h]
  simpa [nm] using h1
theorem name_eq {k : Nat} (hk : k < 33) {op : Int} (ho : isOp op = true) : ((nm (cOp k - 1)).toList == (nameV op).toList) = ((cOp k : Int) == op) := by
  have h1 := cOp_range k hk
  have h2 := isOp_true ho
  have e : nameV op = nm (op.toNat - 1) := if_pos ho
  rw [e]
  by_cases h : (cOp k : Int) = op
  · rw [show op.toNat - 1 = cOp k - 1 by omega]
    simp [h]
  · have hne : ¬ nm (cOp k - 1) = nm (op.toNat - 1) := fun hn => h (by have := nm_inj (by omega) (by omega) hn; omega)
    rw [str_ne hne]
    simp [h]

/-- Is an instruction of a row? The first that it is of; 33: none. -/
def rowB (k : Nat) (op d s t imm : Int) : Bool := ((cOp k : Int) == op) && rightB (cForm k) d s t && cfitsB (cKind k) (cBy k) (cLen k) imm
def cIx (op d s t imm : Int) : Nat := (List.range 33).findIdx fun k => rowB k op d s t imm
def findV (op d s t imm : Int) : Int := if cIx op d s t imm < 33 then (cIx op d s t imm : Int) else -1
theorem cIx_le (op d s t imm : Int) : cIx op d s t imm ≤ 33 := by
  have := List.findIdx_le_length (xs := List.range 33) (p := fun k => rowB k op d s t imm)
  simpa [cIx] using this
theorem cIx_miss {op d s t imm : Int} {k : Nat} (h : k < cIx op d s t imm) : rowB k op d s t imm = false := by
  have h1 := List.not_of_lt_findIdx (xs := List.range 33) (p := fun k => rowB k op d s t imm) h
  simpa using h1
theorem cIx_hit {op d s t imm : Int} (h : cIx op d s t imm < 33) : rowB (cIx op d s t imm) op d s t imm = true := by
  have := List.findIdx_getElem (xs := List.range 33) (p := fun k => rowB k op d s t imm) (w := by simpa [cIx] using h)
  simpa [cIx] using this

theorem CRowsAt.kept {w w' : World} {b : Nat} (h : CRowsAt w b) (k : Kept w w') : CRowsAt w' b := fun i hi => by
  obtain ⟨a, cap, h0, h1, h2, h3, h4, h5, hC⟩ := h i hi
  exact ⟨a, cap, k.cell h0, k.cell h1, k.cell h2, k.cell h3, k.cell h4, k.cell h5, hC.kept k⟩

open Go.Sort in
set_option maxRecDepth 20000 in
set_option maxHeartbeats 3200000 in
theorem find_walk (op d s t imm : Int) (h0 : 0 ≤ op) (h1 : op ≤ 255) (ho : isOp op = true) (hn : -1048576 ≤ imm ∧ imm ≤ 1048575) (w : World) :
    Calls Try.prog 16 #[insnV op d s t imm] w fun e w' => e = .returned (.int .i64 (findV op d s t imm)) ∧ Kept w w' := by
  go_enter Try.func16, Try.ntmps16
  go_upto_region 2 with (go_at_call 29; refine (refName_walk op h0 h1 _).mono ?_; rintro e w1 ⟨rfl, hk1⟩)
  have e0 : w1.cell? ⟨w.heap.size, 0, none⟩ = some (.int .u8 op) := Kept.cell hk1 (by simp)
  have e1 : w1.cell? ⟨w.heap.size, 1, none⟩ = some (.int .i64 d) := Kept.cell hk1 (by simp)
  have e2 : w1.cell? ⟨w.heap.size, 2, none⟩ = some (.int .i64 s) := Kept.cell hk1 (by simp)
  have e3 : w1.cell? ⟨w.heap.size, 3, none⟩ = some (.int .i64 t) := Kept.cell hk1 (by simp)
  have e4 : w1.cell? ⟨w.heap.size, 4, none⟩ = some (.int .i64 imm) := Kept.cell hk1 (by simp)
  have hK1 := (Kept.alloc w (.cells #[.int .u8 op, .int .i64 d, .int .i64 s, .int .i64 t, .int .i64 imm] 27)).trans hk1
  clear hk1
  go_upto_region 3 with (go_at_call 18; refine (rows_walk _).mono ?_; rintro e w2 ⟨b, rfl, hk2, hR⟩)
  have hK2 := hK1.trans hk2
  replace e0 := Kept.cell hk2 e0
  replace e1 := Kept.cell hk2 e1
  replace e2 := Kept.cell hk2 e2
  replace e3 := Kept.cell hk2 e3
  replace e4 := Kept.cell hk2 e4
  clear hk2 hK1
  go_wp2
  go_loopw [6] (fun i wr => ∃ k : Nat, k ≤ 33 ∧ k ≤ cIx op d s t imm ∧ i = .int .i64 (k : Int) ∧ Kept w2 wr) (fun i _ => 33 - (intOf i).toNat)
  case atStart => exact ⟨0, by omega, by omega, rfl, Kept.refl _⟩
  case round =>
    obtain ⟨k, hk, hkc, rfl, hKr⟩ := hrel
    rcases Nat.lt_or_ge k 33 with hk33 | hk33
    · obtain ⟨a, cap, r0, r1, r2, r3, r4, r5, hC⟩ := (hR.kept hKr) k hk33
      replace e0 := Kept.cell hKr e0
      replace e1 := Kept.cell hKr e1
      replace e2 := Kept.cell hKr e2
      replace e3 := Kept.cell hKr e3
      replace e4 := Kept.cell hKr e4
      rw [Nat.mul_comm] at r0 r1 r2 r3 r4 r5
      have hname := name_eq hk33 ho
      have hk33' : (k : Int) < 33 := by omega
      have hcf := cForm_cases k hk33
      have hck := cKind_cases k hk33
      have hcb := cBy_range k hk33
      have hcl := cLen_le k hk33
      have cR : ∀ d' os, Calls Try.prog 30 #[.string (chr (cForm k)), insnV op d s t imm] (grow (redrawn wr d') os) fun e w'' => e = .returned (.bool (rightB (cForm k) d s t)) ∧ ∃ p : Regrown, w'' = grow (redrawn wr p.d) p.os := fun d' os => Calls.regrown_of (cright_walk _ hcf op d s t imm _)
      have cF : ∀ d' os, Calls Try.prog 31 #[.agg #[.string (nm (cOp k - 1)), .int .i64 (cBits k), .string (chr (cForm k)), .string (chr (cKind k)), .int .i64 (cBy k), .slice a (cLen k) cap], .int .i64 imm] (grow (redrawn wr d') os) fun e w'' => e = .returned (.bool (cfitsB (cKind k) (cBy k) (cLen k) imm)) ∧ ∃ p : Regrown, w'' = grow (redrawn wr p.d) p.os := fun d' os => Calls.regrown_of (cfits_walk _ _ _ _ _ hck _ _ _ _ hcl hcb hn _)
      have g0 := cell_regrown r0
      have g1 := cell_regrown r1
      have g2 := cell_regrown r2
      have g3 := cell_regrown r3
      have g4 := cell_regrown r4
      have g5 := cell_regrown r5
      have q0 := cell_regrown e0
      have q1 := cell_regrown e1
      have q2 := cell_regrown e2
      have q3 := cell_regrown e3
      have q4 := cell_regrown e4
      go_upto_region 6 with fail
      clear e0 e1 e2 e3 e4 r0 r1 r2 r3 r4 r5 hC hcf hck hcb hcl
      have hnext : rowB k op d s t imm = false → k + 1 ≤ cIx op d s t imm := fun hf => by
        rcases Nat.lt_or_ge k (cIx op d s t imm) with h | h
        · exact h
        · have hkk : cIx op d s t imm = k := by omega
          have := cIx_hit (op := op) (d := d) (s := s) (t := t) (imm := imm) (by omega)
          rw [hkk, hf] at this
          cases this
      cases c1 : ((cOp k : Int) == op)
      · rw [c1] at hname
        clear cR cF
        refine wp_region_quiet_below (by kernel_rfl) (by kernel_rfl) ?_
        repeat (quiet_step (fail))
        refine wpQuiet_nil ?_
        intro _ hw'
        obtain ⟨⟨dq, osq⟩, hw''⟩ := hw'
        subst hw''
        go_wp2
        exact ⟨⟨k + 1, by omega, hnext (by simp only [rowB, c1, Bool.false_and]), by simp, hKr.trans (below_regrown wr dq osq)⟩, by simp [intOf]; omega⟩
      · rw [c1] at hname
        cases c2 : rightB (cForm k) d s t
        · rw [c2] at cR
          clear cF
          refine wp_region_quiet_below (by kernel_rfl) (by kernel_rfl) ?_
          repeat (quiet_step (exact cR _ _))
          refine wpQuiet_nil ?_
          intro _ hw'
          obtain ⟨⟨dq, osq⟩, hw''⟩ := hw'
          subst hw''
          go_wp2
          exact ⟨⟨k + 1, by omega, hnext (by simp only [rowB, c2, Bool.false_and, Bool.and_false]), by simp, hKr.trans (below_regrown wr dq osq)⟩, by simp [intOf]; omega⟩
        · rw [c2] at cR
          cases c3 : cfitsB (cKind k) (cBy k) (cLen k) imm
          · rw [c3] at cF
            refine wp_region_quiet_below (by kernel_rfl) (by kernel_rfl) ?_
            repeat (quiet_step (first | exact cR _ _ | exact cF _ _))
            refine wpQuiet_nil ?_
            intro _ hw'
            obtain ⟨⟨dq, osq⟩, hw''⟩ := hw'
            subst hw''
            go_wp2
            exact ⟨⟨k + 1, by omega, hnext (by simp only [rowB, c3, Bool.and_false]), by simp, hKr.trans (below_regrown wr dq osq)⟩, by simp [intOf]; omega⟩
          · rw [c3] at cF
            have hhit : rowB k op d s t imm = true := by simp only [rowB, c1, c2, c3, Bool.and_self]
            have hkk : cIx op d s t imm = k := by
              rcases Nat.lt_or_ge k (cIx op d s t imm) with h | h
              · rw [cIx_miss h] at hhit; cases hhit
              · omega
            have hv : findV op d s t imm = (k : Int) := by unfold findV; rw [hkk, if_pos hk33]
            refine wp_region_quiet_below (by kernel_rfl) (by kernel_rfl) ?_
            repeat (quiet_step (first | exact cR _ _ | exact cF _ _))
            refine wpQuiet_nil ?_
            intro _ hw'
            obtain ⟨⟨dq, osq⟩, hw''⟩ := hw'
            subst hw''
            go_wp2
            go_ret
            exact ⟨by rw [hv]; rfl, (hK2.trans hKr).trans (below_regrown wr dq osq)⟩
    · have hkc' := cIx_le op d s t imm
      obtain rfl : k = 33 := by omega
      have hv : findV op d s t imm = -1 := by unfold findV; rw [if_neg (by omega)]
      go_wp2
      go_ret
      exact ⟨by rw [hv]; rfl, hK2.trans hKr⟩
end Go.Proofs.Ytpimdldgejlekaa
