/- What the document's own Coded and Word give. -/
import Derived.Test.YtpaeemijpincpaaDoorRB
import Derived.Deep.DeepCutAuto
namespace Go.Proofs.YtpaeemijpincpaaDoor
open Go.RowKit

def isJB2 (c : Int) : Bool := decide (c = 74 ∨ c = 66)

theorem rscatter_c (c imm v : Int) (hv : numV c imm = v) (hc : c ∈ letters) (a : Option Addr) (cap : Nat) (w : World) (hC : Cells w a (plen c) (placeP c)) :
    Calls Tryd.prog 59 #[.int .u32 v, .slice a (plen c) cap] w fun e w' => e = .returned (.tuple #[.int .u32 (scatN c imm), .int .i64 0]) ∧ Kept w w' := by
  subst hv
  have h := rscatter_u (numV c imm) (numV_lo c imm) (numV_hi imm hc) a (plen c) cap (placeP c) w hC
  have e1 : scatV (numV c imm) (placeP c) (plen c) = (scatN c imm : Int) := by
    unfold scatV
    rw [if_pos (places_ok c hc), if_pos (numV_lt c imm)]
    rfl
  have e2 : scatE (numV c imm) (placeP c) (plen c) = 0 := by
    unfold scatE
    rw [if_pos (places_ok c hc), decide_eq_true (numV_lt c imm)]
    rfl
  rw [e1, e2] at h
  exact h.mono fun _ _ ⟨he, m, hw⟩ => ⟨he, hw ▸ Kept.drewN _ _⟩

theorem wrap_total (b s : Nat) (rd rs1 rs2 : Int) (r1 : 0 ≤ rd ∧ rd ≤ 31) (r2 : 0 ≤ rs1 ∧ rs1 ≤ 31) (r3 : 0 ≤ rs2 ∧ rs2 ≤ 31) (t : Nat) (ht : t < 4294967296) (hs : (b : Int) + rd * 128 + rs1 * 32768 + rs2 * 1048576 + (s : Int) = (t : Int)) :
    IntKind.u32.wrap (IntKind.u32.wrap (IntKind.u32.wrap (IntKind.u32.wrap ((b : Int) + IntKind.u32.wrap (IntKind.i64.wrap (rd * 128))) + IntKind.u32.wrap (IntKind.i64.wrap (rs1 * 32768))) + IntKind.u32.wrap (IntKind.i64.wrap (rs2 * 1048576))) + (s : Int)) = (t : Int) := by
  have w1 : ∀ n : Int, 0 ≤ n → n < 4294967296 → IntKind.u32.wrap n = n := fun n h0 h1 => by rw [IntKind.wrap_u32]; omega
  have w2 : ∀ n : Int, 0 ≤ n → n < 4294967296 → IntKind.i64.wrap n = n := fun n h0 h1 => by rw [IntKind.wrap_i64]; omega
  have p1 : 0 ≤ rd * 128 ∧ rd * 128 ≤ 3968 := by omega
  have p2 : 0 ≤ rs1 * 32768 ∧ rs1 * 32768 ≤ 1015808 := by omega
  have p3 : 0 ≤ rs2 * 1048576 ∧ rs2 * 1048576 ≤ 32505856 := by omega
  generalize rd * 128 = x1 at *
  generalize rs1 * 32768 = x2 at *
  generalize rs2 * 1048576 = x3 at *
  rw [w2 x1 (by omega) (by omega), w2 x2 (by omega) (by omega), w2 x3 (by omega) (by omega), w1 x1 (by omega) (by omega), w1 x2 (by omega) (by omega), w1 x3 (by omega) (by omega)]
  rw [w1 ((b : Int) + x1) (by omega) (by omega), w1 ((b : Int) + x1 + x2) (by omega) (by omega), w1 ((b : Int) + x1 + x2 + x3) (by omega) (by omega), hs, w1 _ (by omega) (by omega)]

theorem tdiv_range {v : Int} (h : -1048576 ≤ v ∧ v ≤ 1048575) : -1048576 ≤ v.tdiv 2 ∧ v.tdiv 2 ≤ 1048575 := by
  have : v.tdiv 2 = if 0 ≤ v then v / 2 else -((-v) / 2) := by
    split
    · exact Int.tdiv_eq_ediv_of_nonneg (by assumption)
    · rw [← Int.tdiv_eq_ediv_of_nonneg (by omega), Int.neg_tdiv, Int.neg_neg]
  rw [this]
  split <;> omega

theorem word_sumI {op rd rs1 rs2 imm : Int} (P : Parts op rd rs1 rs2 imm) :
    (baseC (op.toNat - 1) : Int) + rd * 128 + rs1 * 32768 + rs2 * 1048576 + (scatN (formV op) imm : Int) = (wordN op rd rs1 rs2 imm : Int) := by
  have h := word_sum P
  have r1 := regOk_range P.okd
  have r2 := regOk_range P.ok1
  have r3 := regOk_range P.ok2
  have e : ((baseC (op.toNat - 1) + rd.toNat * 128 + rs1.toNat * 32768 + rs2.toNat * 1048576 + scatN (formV op) imm : Nat) : Int) = (baseC (op.toNat - 1) : Int) + rd * 128 + rs1 * 32768 + rs2 * 1048576 + (scatN (formV op) imm : Int) := by
    simp only [Int.natCast_add, Int.natCast_mul, Int.toNat_of_nonneg r1.1, Int.toNat_of_nonneg r2.1, Int.toNat_of_nonneg r3.1]
    rfl
  rw [h, e]

open Go.Sort in
set_option maxHeartbeats 3200000 in
theorem coded_jn (op rd rs1 rs2 imm : Int) (h0 : 0 ≤ op) (h1 : op ≤ 255) (P : Parts op rd rs1 rs2 imm) (hj : formV op = 74 ∨ formV op = 66) (hs : imm.tdiv 2 < 0) (w : World) :
    Calls Tryd.prog 45 #[insnV op rd rs1 rs2 imm] w fun e w' => e = .returned (.int .u32 (wordN op rd rs1 rs2 imm)) ∧ Kept w w' := by
  have hl := formV_letter P.isop
  have hoe : opErr op = 0 := by simp [opErr, P.isop]
  have hpe : plErr (formV op) = 0 := by unfold plErr; rw [if_pos hl]
  have hop := isOp_true P.isop
  have r1 := regOk_range P.okd
  have r2 := regOk_range P.ok1
  have r3 := regOk_range P.ok2
  have rn := numOk_range P.num
  have rt := tdiv_range rn
  have hlen : (placeL (formV op)).length ≤ 20 := plen_le _ hl
  have hp1 := two_pow_pos' (placeL (formV op)).length
  have hp2 : (2 : Int) ^ (placeL (formV op)).length ≤ 2 ^ 20 := two_pow_le' hlen
  have hsum := word_sumI P
  have hwl : wordN op rd rs1 rs2 imm < 4294967296 := by
    have l1 := baseC_lt (op.toNat - 1) (by omega)
    exact Nat.or_lt_two_pow (n := 32) (Nat.or_lt_two_pow (n := 32) l1 (regN_lt r1.2 r2.2 r3.2)) (scatN_lt imm hl)
  have hh : halfV (formV op) imm = imm.tdiv 2 := by unfold halfV; rw [if_pos hj]
  have hv : numV (formV op) imm = imm.tdiv 2 + 2 ^ (placeL (formV op)).length := by
    rw [num_doc hl P.num, hh]
    exact if_pos hs
  have hv0 := numV_lo (formV op) imm
  have hv1 := numV_hi imm hl
  have cS := fun a cap w hC => rscatter_c (formV op) imm _ hv hl a cap w hC
  rw [hv] at hv0 hv1
  have c2 := fun w => two_walk_at (placeL (formV op)).length (by omega) w
  have cB := fun w => rbits_walk op h0 h1 P.isop w
  have hjb : isJB2 (formV op) = true := decide_eq_true hj
  clear hv hh hj hop P
  have hK := Kept.refl (w.alloc (.cells #[.int .u8 op, .int .i64 rd, .int .i64 rs1, .int .i64 rs2, .int .i64 imm] 23))
  have d0 : (w.alloc (.cells #[.int .u8 op, .int .i64 rd, .int .i64 rs1, .int .i64 rs2, .int .i64 imm] 23)).cell? ⟨w.heap.size, 0, none⟩ = some (.int .u8 op) := Kept.cell hK (by simp)
  have d1 : (w.alloc (.cells #[.int .u8 op, .int .i64 rd, .int .i64 rs1, .int .i64 rs2, .int .i64 imm] 23)).cell? ⟨w.heap.size, 1, none⟩ = some (.int .i64 rd) := Kept.cell hK (by simp)
  have d2 : (w.alloc (.cells #[.int .u8 op, .int .i64 rd, .int .i64 rs1, .int .i64 rs2, .int .i64 imm] 23)).cell? ⟨w.heap.size, 2, none⟩ = some (.int .i64 rs1) := Kept.cell hK (by simp)
  have d3 : (w.alloc (.cells #[.int .u8 op, .int .i64 rd, .int .i64 rs1, .int .i64 rs2, .int .i64 imm] 23)).cell? ⟨w.heap.size, 3, none⟩ = some (.int .i64 rs2) := Kept.cell hK (by simp)
  have d4 : (w.alloc (.cells #[.int .u8 op, .int .i64 rd, .int .i64 rs1, .int .i64 rs2, .int .i64 imm] 23)).cell? ⟨w.heap.size, 4, none⟩ = some (.int .i64 imm) := Kept.cell hK (by simp)
  go_enter Tryd.func45, Tryd.ntmps45
  go_upto_region 4 with (first
    | (go_at_call 40; refine (refForm_walk _ h0 h1 _).mono ?_; rintro e w' ⟨rfl, hk⟩; have hK' := Kept.trans hK hk; clear hK; have hK := hK'; clear hK' hk d0 d1 d2 d3 d4; have d0 : w'.cell? ⟨w.heap.size, 0, none⟩ = some (.int .u8 op) := Kept.cell hK (by simp); have d1 : w'.cell? ⟨w.heap.size, 1, none⟩ = some (.int .i64 rd) := Kept.cell hK (by simp); have d2 : w'.cell? ⟨w.heap.size, 2, none⟩ = some (.int .i64 rs1) := Kept.cell hK (by simp); have d3 : w'.cell? ⟨w.heap.size, 3, none⟩ = some (.int .i64 rs2) := Kept.cell hK (by simp); have d4 : w'.cell? ⟨w.heap.size, 4, none⟩ = some (.int .i64 imm) := Kept.cell hK (by simp))
    | (go_at_call 24; refine (rplaces_walk _ _).mono ?_; rintro e w' ⟨a, cap, rfl, hC, hk⟩; have hK' := Kept.trans hK hk; clear hK; have hK := hK'; clear hK' hk d0 d1 d2 d3 d4; have d0 : w'.cell? ⟨w.heap.size, 0, none⟩ = some (.int .u8 op) := Kept.cell hK (by simp); have d1 : w'.cell? ⟨w.heap.size, 1, none⟩ = some (.int .i64 rd) := Kept.cell hK (by simp); have d2 : w'.cell? ⟨w.heap.size, 2, none⟩ = some (.int .i64 rs1) := Kept.cell hK (by simp); have d3 : w'.cell? ⟨w.heap.size, 3, none⟩ = some (.int .i64 rs2) := Kept.cell hK (by simp); have d4 : w'.cell? ⟨w.heap.size, 4, none⟩ = some (.int .i64 imm) := Kept.cell hK (by simp))
    | (go_at_call 26; refine (c2 _).mono ?_; rintro e w' ⟨rfl, rfl⟩)
    | (go_at_call 59; refine (cS a cap _ hC).mono ?_; rintro e w' ⟨rfl, hk⟩; clear hC; have hK' := Kept.trans hK hk; clear hK; have hK := hK'; clear hK' hk d0 d1 d2 d3 d4; have d0 : w'.cell? ⟨w.heap.size, 0, none⟩ = some (.int .u8 op) := Kept.cell hK (by simp); have d1 : w'.cell? ⟨w.heap.size, 1, none⟩ = some (.int .i64 rd) := Kept.cell hK (by simp); have d2 : w'.cell? ⟨w.heap.size, 2, none⟩ = some (.int .i64 rs1) := Kept.cell hK (by simp); have d3 : w'.cell? ⟨w.heap.size, 3, none⟩ = some (.int .i64 rs2) := Kept.cell hK (by simp); have d4 : w'.cell? ⟨w.heap.size, 4, none⟩ = some (.int .i64 imm) := Kept.cell hK (by simp)))
  go_cut [28] (fun c wx => c = .bool (isJB2 (formV op)) ∧ wx = w')
  case first =>
    clear hjb
    by_cases hJ : formV op = 74
    · have e : isJB2 (formV op) = true := by simp [isJB2, hJ]
      have hJ' : (formV op == 74) = true := by simp [hJ]
      clear hJ
      go_wp2
      go_meet
      exact ⟨congrArg _ e.symm, rfl⟩
    · by_cases hB : formV op = 66
      · have e : isJB2 (formV op) = true := by simp [isJB2, hB]
        have hJ' : (formV op == 74) = false := by simp [hB]
        have hB' : (formV op == 66) = true := by simp [hB]
        clear hB hJ
        go_wp2
        go_meet
        exact ⟨congrArg _ e.symm, rfl⟩
      · have e : isJB2 (formV op) = false := by simp [isJB2, hJ, hB]
        have hJ' : (formV op == 74) = false := by simp [hJ]
        have hB' : (formV op == 66) = false := by simp [hB]
        clear hB hJ
        go_wp2
        go_meet
        exact ⟨congrArg _ e.symm, rfl⟩
  case rest =>
    obtain ⟨rfl, rfl⟩ := hcut
    rw [hjb]
    go_upto_region 9 with (first
      | (go_at_call 40; refine (refForm_walk _ h0 h1 _).mono ?_; rintro e w' ⟨rfl, hk⟩; have hK' := Kept.trans hK hk; clear hK; have hK := hK'; clear hK' hk d0 d1 d2 d3 d4; have d0 : w'.cell? ⟨w.heap.size, 0, none⟩ = some (.int .u8 op) := Kept.cell hK (by simp); have d1 : w'.cell? ⟨w.heap.size, 1, none⟩ = some (.int .i64 rd) := Kept.cell hK (by simp); have d2 : w'.cell? ⟨w.heap.size, 2, none⟩ = some (.int .i64 rs1) := Kept.cell hK (by simp); have d3 : w'.cell? ⟨w.heap.size, 3, none⟩ = some (.int .i64 rs2) := Kept.cell hK (by simp); have d4 : w'.cell? ⟨w.heap.size, 4, none⟩ = some (.int .i64 imm) := Kept.cell hK (by simp))
      | (go_at_call 24; refine (rplaces_walk _ _).mono ?_; rintro e w' ⟨a, cap, rfl, hC, hk⟩; have hK' := Kept.trans hK hk; clear hK; have hK := hK'; clear hK' hk d0 d1 d2 d3 d4; have d0 : w'.cell? ⟨w.heap.size, 0, none⟩ = some (.int .u8 op) := Kept.cell hK (by simp); have d1 : w'.cell? ⟨w.heap.size, 1, none⟩ = some (.int .i64 rd) := Kept.cell hK (by simp); have d2 : w'.cell? ⟨w.heap.size, 2, none⟩ = some (.int .i64 rs1) := Kept.cell hK (by simp); have d3 : w'.cell? ⟨w.heap.size, 3, none⟩ = some (.int .i64 rs2) := Kept.cell hK (by simp); have d4 : w'.cell? ⟨w.heap.size, 4, none⟩ = some (.int .i64 imm) := Kept.cell hK (by simp))
      | (go_at_call 26; refine (c2 _).mono ?_; rintro e w' ⟨rfl, rfl⟩)
      | (go_at_call 59; refine (cS a cap _ hC).mono ?_; rintro e w' ⟨rfl, hk⟩; clear hC; have hK' := Kept.trans hK hk; clear hK; have hK := hK'; clear hK' hk d0 d1 d2 d3 d4; have d0 : w'.cell? ⟨w.heap.size, 0, none⟩ = some (.int .u8 op) := Kept.cell hK (by simp); have d1 : w'.cell? ⟨w.heap.size, 1, none⟩ = some (.int .i64 rd) := Kept.cell hK (by simp); have d2 : w'.cell? ⟨w.heap.size, 2, none⟩ = some (.int .i64 rs1) := Kept.cell hK (by simp); have d3 : w'.cell? ⟨w.heap.size, 3, none⟩ = some (.int .i64 rs2) := Kept.cell hK (by simp); have d4 : w'.cell? ⟨w.heap.size, 4, none⟩ = some (.int .i64 imm) := Kept.cell hK (by simp)))
    have kw := Kept.trans (Kept.alloc w _) hK
    have g0 := cell_regrown d0
    have g1 := cell_regrown d1
    have g2 := cell_regrown d2
    have g3 := cell_regrown d3
    have cA : ∀ d os, Calls Tryd.prog 22 #[.int .u8 op] (grow (redrawn w' d) os) fun e w'' => e = .returned (.int .u32 (baseC (op.toNat - 1))) ∧ ∃ p : Regrown, w'' = grow (redrawn w' p.d) p.os := fun d os => Calls.regrown_of (cB _)
    have hwt := wrap_total _ _ rd rs1 rs2 r1 r2 r3 _ hwl hsum
    clear cB cS c2 hK d0 d1 d2 d3 d4
    refine wp_region_quiet_below (by kernel_rfl) (by kernel_rfl) ?_
    repeat (quiet_step (exact cA _ _))
    refine wpQuiet_nil ?_
    intro _ hw'
    obtain ⟨⟨dq, osq⟩, hw''⟩ := hw'
    subst hw''
    go_wp2
    go_ret
    exact ⟨rfl, Kept.trans kw (below_regrown w' dq osq)⟩

open Go.Sort in
set_option maxHeartbeats 3200000 in
theorem coded_jp (op rd rs1 rs2 imm : Int) (h0 : 0 ≤ op) (h1 : op ≤ 255) (P : Parts op rd rs1 rs2 imm) (hj : formV op = 74 ∨ formV op = 66) (hs : 0 ≤ imm.tdiv 2) (w : World) :
    Calls Tryd.prog 45 #[insnV op rd rs1 rs2 imm] w fun e w' => e = .returned (.int .u32 (wordN op rd rs1 rs2 imm)) ∧ Kept w w' := by
  have hl := formV_letter P.isop
  have hoe : opErr op = 0 := by simp [opErr, P.isop]
  have hpe : plErr (formV op) = 0 := by unfold plErr; rw [if_pos hl]
  have hop := isOp_true P.isop
  have r1 := regOk_range P.okd
  have r2 := regOk_range P.ok1
  have r3 := regOk_range P.ok2
  have rn := numOk_range P.num
  have rt := tdiv_range rn
  have hlen : (placeL (formV op)).length ≤ 20 := plen_le _ hl
  have hp1 := two_pow_pos' (placeL (formV op)).length
  have hp2 : (2 : Int) ^ (placeL (formV op)).length ≤ 2 ^ 20 := two_pow_le' hlen
  have hsum := word_sumI P
  have hwl : wordN op rd rs1 rs2 imm < 4294967296 := by
    have l1 := baseC_lt (op.toNat - 1) (by omega)
    exact Nat.or_lt_two_pow (n := 32) (Nat.or_lt_two_pow (n := 32) l1 (regN_lt r1.2 r2.2 r3.2)) (scatN_lt imm hl)
  have hh : halfV (formV op) imm = imm.tdiv 2 := by unfold halfV; rw [if_pos hj]
  have hv : numV (formV op) imm = imm.tdiv 2 := by
    rw [num_doc hl P.num, hh]
    exact if_neg (by omega)
  have hv0 := numV_lo (formV op) imm
  have hv1 := numV_hi imm hl
  have cS := fun a cap w hC => rscatter_c (formV op) imm _ hv hl a cap w hC
  rw [hv] at hv0 hv1
  have c2 := fun w => two_walk_at (placeL (formV op)).length (by omega) w
  have cB := fun w => rbits_walk op h0 h1 P.isop w
  have hjb : isJB2 (formV op) = true := decide_eq_true hj
  clear hv hh hj hop P
  have hK := Kept.refl (w.alloc (.cells #[.int .u8 op, .int .i64 rd, .int .i64 rs1, .int .i64 rs2, .int .i64 imm] 23))
  have d0 : (w.alloc (.cells #[.int .u8 op, .int .i64 rd, .int .i64 rs1, .int .i64 rs2, .int .i64 imm] 23)).cell? ⟨w.heap.size, 0, none⟩ = some (.int .u8 op) := Kept.cell hK (by simp)
  have d1 : (w.alloc (.cells #[.int .u8 op, .int .i64 rd, .int .i64 rs1, .int .i64 rs2, .int .i64 imm] 23)).cell? ⟨w.heap.size, 1, none⟩ = some (.int .i64 rd) := Kept.cell hK (by simp)
  have d2 : (w.alloc (.cells #[.int .u8 op, .int .i64 rd, .int .i64 rs1, .int .i64 rs2, .int .i64 imm] 23)).cell? ⟨w.heap.size, 2, none⟩ = some (.int .i64 rs1) := Kept.cell hK (by simp)
  have d3 : (w.alloc (.cells #[.int .u8 op, .int .i64 rd, .int .i64 rs1, .int .i64 rs2, .int .i64 imm] 23)).cell? ⟨w.heap.size, 3, none⟩ = some (.int .i64 rs2) := Kept.cell hK (by simp)
  have d4 : (w.alloc (.cells #[.int .u8 op, .int .i64 rd, .int .i64 rs1, .int .i64 rs2, .int .i64 imm] 23)).cell? ⟨w.heap.size, 4, none⟩ = some (.int .i64 imm) := Kept.cell hK (by simp)
  go_enter Tryd.func45, Tryd.ntmps45
  go_upto_region 4 with (first
    | (go_at_call 40; refine (refForm_walk _ h0 h1 _).mono ?_; rintro e w' ⟨rfl, hk⟩; have hK' := Kept.trans hK hk; clear hK; have hK := hK'; clear hK' hk d0 d1 d2 d3 d4; have d0 : w'.cell? ⟨w.heap.size, 0, none⟩ = some (.int .u8 op) := Kept.cell hK (by simp); have d1 : w'.cell? ⟨w.heap.size, 1, none⟩ = some (.int .i64 rd) := Kept.cell hK (by simp); have d2 : w'.cell? ⟨w.heap.size, 2, none⟩ = some (.int .i64 rs1) := Kept.cell hK (by simp); have d3 : w'.cell? ⟨w.heap.size, 3, none⟩ = some (.int .i64 rs2) := Kept.cell hK (by simp); have d4 : w'.cell? ⟨w.heap.size, 4, none⟩ = some (.int .i64 imm) := Kept.cell hK (by simp))
    | (go_at_call 24; refine (rplaces_walk _ _).mono ?_; rintro e w' ⟨a, cap, rfl, hC, hk⟩; have hK' := Kept.trans hK hk; clear hK; have hK := hK'; clear hK' hk d0 d1 d2 d3 d4; have d0 : w'.cell? ⟨w.heap.size, 0, none⟩ = some (.int .u8 op) := Kept.cell hK (by simp); have d1 : w'.cell? ⟨w.heap.size, 1, none⟩ = some (.int .i64 rd) := Kept.cell hK (by simp); have d2 : w'.cell? ⟨w.heap.size, 2, none⟩ = some (.int .i64 rs1) := Kept.cell hK (by simp); have d3 : w'.cell? ⟨w.heap.size, 3, none⟩ = some (.int .i64 rs2) := Kept.cell hK (by simp); have d4 : w'.cell? ⟨w.heap.size, 4, none⟩ = some (.int .i64 imm) := Kept.cell hK (by simp))
    | (go_at_call 26; refine (c2 _).mono ?_; rintro e w' ⟨rfl, rfl⟩)
    | (go_at_call 59; refine (cS a cap _ hC).mono ?_; rintro e w' ⟨rfl, hk⟩; clear hC; have hK' := Kept.trans hK hk; clear hK; have hK := hK'; clear hK' hk d0 d1 d2 d3 d4; have d0 : w'.cell? ⟨w.heap.size, 0, none⟩ = some (.int .u8 op) := Kept.cell hK (by simp); have d1 : w'.cell? ⟨w.heap.size, 1, none⟩ = some (.int .i64 rd) := Kept.cell hK (by simp); have d2 : w'.cell? ⟨w.heap.size, 2, none⟩ = some (.int .i64 rs1) := Kept.cell hK (by simp); have d3 : w'.cell? ⟨w.heap.size, 3, none⟩ = some (.int .i64 rs2) := Kept.cell hK (by simp); have d4 : w'.cell? ⟨w.heap.size, 4, none⟩ = some (.int .i64 imm) := Kept.cell hK (by simp)))
  go_cut [28] (fun c wx => c = .bool (isJB2 (formV op)) ∧ wx = w')
  case first =>
    clear hjb
    by_cases hJ : formV op = 74
    · have e : isJB2 (formV op) = true := by simp [isJB2, hJ]
      have hJ' : (formV op == 74) = true := by simp [hJ]
      clear hJ
      go_wp2
      go_meet
      exact ⟨congrArg _ e.symm, rfl⟩
    · by_cases hB : formV op = 66
      · have e : isJB2 (formV op) = true := by simp [isJB2, hB]
        have hJ' : (formV op == 74) = false := by simp [hB]
        have hB' : (formV op == 66) = true := by simp [hB]
        clear hB hJ
        go_wp2
        go_meet
        exact ⟨congrArg _ e.symm, rfl⟩
      · have e : isJB2 (formV op) = false := by simp [isJB2, hJ, hB]
        have hJ' : (formV op == 74) = false := by simp [hJ]
        have hB' : (formV op == 66) = false := by simp [hB]
        clear hB hJ
        go_wp2
        go_meet
        exact ⟨congrArg _ e.symm, rfl⟩
  case rest =>
    obtain ⟨rfl, rfl⟩ := hcut
    rw [hjb]
    go_upto_region 9 with (first
      | (go_at_call 40; refine (refForm_walk _ h0 h1 _).mono ?_; rintro e w' ⟨rfl, hk⟩; have hK' := Kept.trans hK hk; clear hK; have hK := hK'; clear hK' hk d0 d1 d2 d3 d4; have d0 : w'.cell? ⟨w.heap.size, 0, none⟩ = some (.int .u8 op) := Kept.cell hK (by simp); have d1 : w'.cell? ⟨w.heap.size, 1, none⟩ = some (.int .i64 rd) := Kept.cell hK (by simp); have d2 : w'.cell? ⟨w.heap.size, 2, none⟩ = some (.int .i64 rs1) := Kept.cell hK (by simp); have d3 : w'.cell? ⟨w.heap.size, 3, none⟩ = some (.int .i64 rs2) := Kept.cell hK (by simp); have d4 : w'.cell? ⟨w.heap.size, 4, none⟩ = some (.int .i64 imm) := Kept.cell hK (by simp))
      | (go_at_call 24; refine (rplaces_walk _ _).mono ?_; rintro e w' ⟨a, cap, rfl, hC, hk⟩; have hK' := Kept.trans hK hk; clear hK; have hK := hK'; clear hK' hk d0 d1 d2 d3 d4; have d0 : w'.cell? ⟨w.heap.size, 0, none⟩ = some (.int .u8 op) := Kept.cell hK (by simp); have d1 : w'.cell? ⟨w.heap.size, 1, none⟩ = some (.int .i64 rd) := Kept.cell hK (by simp); have d2 : w'.cell? ⟨w.heap.size, 2, none⟩ = some (.int .i64 rs1) := Kept.cell hK (by simp); have d3 : w'.cell? ⟨w.heap.size, 3, none⟩ = some (.int .i64 rs2) := Kept.cell hK (by simp); have d4 : w'.cell? ⟨w.heap.size, 4, none⟩ = some (.int .i64 imm) := Kept.cell hK (by simp))
      | (go_at_call 26; refine (c2 _).mono ?_; rintro e w' ⟨rfl, rfl⟩)
      | (go_at_call 59; refine (cS a cap _ hC).mono ?_; rintro e w' ⟨rfl, hk⟩; clear hC; have hK' := Kept.trans hK hk; clear hK; have hK := hK'; clear hK' hk d0 d1 d2 d3 d4; have d0 : w'.cell? ⟨w.heap.size, 0, none⟩ = some (.int .u8 op) := Kept.cell hK (by simp); have d1 : w'.cell? ⟨w.heap.size, 1, none⟩ = some (.int .i64 rd) := Kept.cell hK (by simp); have d2 : w'.cell? ⟨w.heap.size, 2, none⟩ = some (.int .i64 rs1) := Kept.cell hK (by simp); have d3 : w'.cell? ⟨w.heap.size, 3, none⟩ = some (.int .i64 rs2) := Kept.cell hK (by simp); have d4 : w'.cell? ⟨w.heap.size, 4, none⟩ = some (.int .i64 imm) := Kept.cell hK (by simp)))
    have kw := Kept.trans (Kept.alloc w _) hK
    have g0 := cell_regrown d0
    have g1 := cell_regrown d1
    have g2 := cell_regrown d2
    have g3 := cell_regrown d3
    have cA : ∀ d os, Calls Tryd.prog 22 #[.int .u8 op] (grow (redrawn w' d) os) fun e w'' => e = .returned (.int .u32 (baseC (op.toNat - 1))) ∧ ∃ p : Regrown, w'' = grow (redrawn w' p.d) p.os := fun d os => Calls.regrown_of (cB _)
    have hwt := wrap_total _ _ rd rs1 rs2 r1 r2 r3 _ hwl hsum
    clear cB cS c2 hK d0 d1 d2 d3 d4
    refine wp_region_quiet_below (by kernel_rfl) (by kernel_rfl) ?_
    repeat (quiet_step (exact cA _ _))
    refine wpQuiet_nil ?_
    intro _ hw'
    obtain ⟨⟨dq, osq⟩, hw''⟩ := hw'
    subst hw''
    go_wp2
    go_ret
    exact ⟨rfl, Kept.trans kw (below_regrown w' dq osq)⟩

open Go.Sort in
set_option maxHeartbeats 3200000 in
theorem coded_on (op rd rs1 rs2 imm : Int) (h0 : 0 ≤ op) (h1 : op ≤ 255) (P : Parts op rd rs1 rs2 imm) (hj : ¬ (formV op = 74 ∨ formV op = 66)) (hs : imm < 0) (w : World) :
    Calls Tryd.prog 45 #[insnV op rd rs1 rs2 imm] w fun e w' => e = .returned (.int .u32 (wordN op rd rs1 rs2 imm)) ∧ Kept w w' := by
  have hl := formV_letter P.isop
  have hoe : opErr op = 0 := by simp [opErr, P.isop]
  have hpe : plErr (formV op) = 0 := by unfold plErr; rw [if_pos hl]
  have hop := isOp_true P.isop
  have r1 := regOk_range P.okd
  have r2 := regOk_range P.ok1
  have r3 := regOk_range P.ok2
  have rn := numOk_range P.num
  have rt := tdiv_range rn
  have hlen : (placeL (formV op)).length ≤ 20 := plen_le _ hl
  have hp1 := two_pow_pos' (placeL (formV op)).length
  have hp2 : (2 : Int) ^ (placeL (formV op)).length ≤ 2 ^ 20 := two_pow_le' hlen
  have hsum := word_sumI P
  have hwl : wordN op rd rs1 rs2 imm < 4294967296 := by
    have l1 := baseC_lt (op.toNat - 1) (by omega)
    exact Nat.or_lt_two_pow (n := 32) (Nat.or_lt_two_pow (n := 32) l1 (regN_lt r1.2 r2.2 r3.2)) (scatN_lt imm hl)
  have hh : halfV (formV op) imm = imm := by simp [halfV, hj]
  have hv : numV (formV op) imm = imm + 2 ^ (placeL (formV op)).length := by
    rw [num_doc hl P.num, hh]
    exact if_pos hs
  have hv0 := numV_lo (formV op) imm
  have hv1 := numV_hi imm hl
  have cS := fun a cap w hC => rscatter_c (formV op) imm _ hv hl a cap w hC
  rw [hv] at hv0 hv1
  have c2 := fun w => two_walk_at (placeL (formV op)).length (by omega) w
  have cB := fun w => rbits_walk op h0 h1 P.isop w
  have hjb : isJB2 (formV op) = false := decide_eq_false hj
  clear hv hh hj hop P
  have hK := Kept.refl (w.alloc (.cells #[.int .u8 op, .int .i64 rd, .int .i64 rs1, .int .i64 rs2, .int .i64 imm] 23))
  have d0 : (w.alloc (.cells #[.int .u8 op, .int .i64 rd, .int .i64 rs1, .int .i64 rs2, .int .i64 imm] 23)).cell? ⟨w.heap.size, 0, none⟩ = some (.int .u8 op) := Kept.cell hK (by simp)
  have d1 : (w.alloc (.cells #[.int .u8 op, .int .i64 rd, .int .i64 rs1, .int .i64 rs2, .int .i64 imm] 23)).cell? ⟨w.heap.size, 1, none⟩ = some (.int .i64 rd) := Kept.cell hK (by simp)
  have d2 : (w.alloc (.cells #[.int .u8 op, .int .i64 rd, .int .i64 rs1, .int .i64 rs2, .int .i64 imm] 23)).cell? ⟨w.heap.size, 2, none⟩ = some (.int .i64 rs1) := Kept.cell hK (by simp)
  have d3 : (w.alloc (.cells #[.int .u8 op, .int .i64 rd, .int .i64 rs1, .int .i64 rs2, .int .i64 imm] 23)).cell? ⟨w.heap.size, 3, none⟩ = some (.int .i64 rs2) := Kept.cell hK (by simp)
  have d4 : (w.alloc (.cells #[.int .u8 op, .int .i64 rd, .int .i64 rs1, .int .i64 rs2, .int .i64 imm] 23)).cell? ⟨w.heap.size, 4, none⟩ = some (.int .i64 imm) := Kept.cell hK (by simp)
  go_enter Tryd.func45, Tryd.ntmps45
  go_upto_region 4 with (first
    | (go_at_call 40; refine (refForm_walk _ h0 h1 _).mono ?_; rintro e w' ⟨rfl, hk⟩; have hK' := Kept.trans hK hk; clear hK; have hK := hK'; clear hK' hk d0 d1 d2 d3 d4; have d0 : w'.cell? ⟨w.heap.size, 0, none⟩ = some (.int .u8 op) := Kept.cell hK (by simp); have d1 : w'.cell? ⟨w.heap.size, 1, none⟩ = some (.int .i64 rd) := Kept.cell hK (by simp); have d2 : w'.cell? ⟨w.heap.size, 2, none⟩ = some (.int .i64 rs1) := Kept.cell hK (by simp); have d3 : w'.cell? ⟨w.heap.size, 3, none⟩ = some (.int .i64 rs2) := Kept.cell hK (by simp); have d4 : w'.cell? ⟨w.heap.size, 4, none⟩ = some (.int .i64 imm) := Kept.cell hK (by simp))
    | (go_at_call 24; refine (rplaces_walk _ _).mono ?_; rintro e w' ⟨a, cap, rfl, hC, hk⟩; have hK' := Kept.trans hK hk; clear hK; have hK := hK'; clear hK' hk d0 d1 d2 d3 d4; have d0 : w'.cell? ⟨w.heap.size, 0, none⟩ = some (.int .u8 op) := Kept.cell hK (by simp); have d1 : w'.cell? ⟨w.heap.size, 1, none⟩ = some (.int .i64 rd) := Kept.cell hK (by simp); have d2 : w'.cell? ⟨w.heap.size, 2, none⟩ = some (.int .i64 rs1) := Kept.cell hK (by simp); have d3 : w'.cell? ⟨w.heap.size, 3, none⟩ = some (.int .i64 rs2) := Kept.cell hK (by simp); have d4 : w'.cell? ⟨w.heap.size, 4, none⟩ = some (.int .i64 imm) := Kept.cell hK (by simp))
    | (go_at_call 26; refine (c2 _).mono ?_; rintro e w' ⟨rfl, rfl⟩)
    | (go_at_call 59; refine (cS a cap _ hC).mono ?_; rintro e w' ⟨rfl, hk⟩; clear hC; have hK' := Kept.trans hK hk; clear hK; have hK := hK'; clear hK' hk d0 d1 d2 d3 d4; have d0 : w'.cell? ⟨w.heap.size, 0, none⟩ = some (.int .u8 op) := Kept.cell hK (by simp); have d1 : w'.cell? ⟨w.heap.size, 1, none⟩ = some (.int .i64 rd) := Kept.cell hK (by simp); have d2 : w'.cell? ⟨w.heap.size, 2, none⟩ = some (.int .i64 rs1) := Kept.cell hK (by simp); have d3 : w'.cell? ⟨w.heap.size, 3, none⟩ = some (.int .i64 rs2) := Kept.cell hK (by simp); have d4 : w'.cell? ⟨w.heap.size, 4, none⟩ = some (.int .i64 imm) := Kept.cell hK (by simp)))
  go_cut [28] (fun c wx => c = .bool (isJB2 (formV op)) ∧ wx = w')
  case first =>
    clear hjb
    by_cases hJ : formV op = 74
    · have e : isJB2 (formV op) = true := by simp [isJB2, hJ]
      have hJ' : (formV op == 74) = true := by simp [hJ]
      clear hJ
      go_wp2
      go_meet
      exact ⟨congrArg _ e.symm, rfl⟩
    · by_cases hB : formV op = 66
      · have e : isJB2 (formV op) = true := by simp [isJB2, hB]
        have hJ' : (formV op == 74) = false := by simp [hB]
        have hB' : (formV op == 66) = true := by simp [hB]
        clear hB hJ
        go_wp2
        go_meet
        exact ⟨congrArg _ e.symm, rfl⟩
      · have e : isJB2 (formV op) = false := by simp [isJB2, hJ, hB]
        have hJ' : (formV op == 74) = false := by simp [hJ]
        have hB' : (formV op == 66) = false := by simp [hB]
        clear hB hJ
        go_wp2
        go_meet
        exact ⟨congrArg _ e.symm, rfl⟩
  case rest =>
    obtain ⟨rfl, rfl⟩ := hcut
    rw [hjb]
    go_upto_region 9 with (first
      | (go_at_call 40; refine (refForm_walk _ h0 h1 _).mono ?_; rintro e w' ⟨rfl, hk⟩; have hK' := Kept.trans hK hk; clear hK; have hK := hK'; clear hK' hk d0 d1 d2 d3 d4; have d0 : w'.cell? ⟨w.heap.size, 0, none⟩ = some (.int .u8 op) := Kept.cell hK (by simp); have d1 : w'.cell? ⟨w.heap.size, 1, none⟩ = some (.int .i64 rd) := Kept.cell hK (by simp); have d2 : w'.cell? ⟨w.heap.size, 2, none⟩ = some (.int .i64 rs1) := Kept.cell hK (by simp); have d3 : w'.cell? ⟨w.heap.size, 3, none⟩ = some (.int .i64 rs2) := Kept.cell hK (by simp); have d4 : w'.cell? ⟨w.heap.size, 4, none⟩ = some (.int .i64 imm) := Kept.cell hK (by simp))
      | (go_at_call 24; refine (rplaces_walk _ _).mono ?_; rintro e w' ⟨a, cap, rfl, hC, hk⟩; have hK' := Kept.trans hK hk; clear hK; have hK := hK'; clear hK' hk d0 d1 d2 d3 d4; have d0 : w'.cell? ⟨w.heap.size, 0, none⟩ = some (.int .u8 op) := Kept.cell hK (by simp); have d1 : w'.cell? ⟨w.heap.size, 1, none⟩ = some (.int .i64 rd) := Kept.cell hK (by simp); have d2 : w'.cell? ⟨w.heap.size, 2, none⟩ = some (.int .i64 rs1) := Kept.cell hK (by simp); have d3 : w'.cell? ⟨w.heap.size, 3, none⟩ = some (.int .i64 rs2) := Kept.cell hK (by simp); have d4 : w'.cell? ⟨w.heap.size, 4, none⟩ = some (.int .i64 imm) := Kept.cell hK (by simp))
      | (go_at_call 26; refine (c2 _).mono ?_; rintro e w' ⟨rfl, rfl⟩)
      | (go_at_call 59; refine (cS a cap _ hC).mono ?_; rintro e w' ⟨rfl, hk⟩; clear hC; have hK' := Kept.trans hK hk; clear hK; have hK := hK'; clear hK' hk d0 d1 d2 d3 d4; have d0 : w'.cell? ⟨w.heap.size, 0, none⟩ = some (.int .u8 op) := Kept.cell hK (by simp); have d1 : w'.cell? ⟨w.heap.size, 1, none⟩ = some (.int .i64 rd) := Kept.cell hK (by simp); have d2 : w'.cell? ⟨w.heap.size, 2, none⟩ = some (.int .i64 rs1) := Kept.cell hK (by simp); have d3 : w'.cell? ⟨w.heap.size, 3, none⟩ = some (.int .i64 rs2) := Kept.cell hK (by simp); have d4 : w'.cell? ⟨w.heap.size, 4, none⟩ = some (.int .i64 imm) := Kept.cell hK (by simp)))
    have kw := Kept.trans (Kept.alloc w _) hK
    have g0 := cell_regrown d0
    have g1 := cell_regrown d1
    have g2 := cell_regrown d2
    have g3 := cell_regrown d3
    have cA : ∀ d os, Calls Tryd.prog 22 #[.int .u8 op] (grow (redrawn w' d) os) fun e w'' => e = .returned (.int .u32 (baseC (op.toNat - 1))) ∧ ∃ p : Regrown, w'' = grow (redrawn w' p.d) p.os := fun d os => Calls.regrown_of (cB _)
    have hwt := wrap_total _ _ rd rs1 rs2 r1 r2 r3 _ hwl hsum
    clear cB cS c2 hK d0 d1 d2 d3 d4
    refine wp_region_quiet_below (by kernel_rfl) (by kernel_rfl) ?_
    repeat (quiet_step (exact cA _ _))
    refine wpQuiet_nil ?_
    intro _ hw'
    obtain ⟨⟨dq, osq⟩, hw''⟩ := hw'
    subst hw''
    go_wp2
    go_ret
    exact ⟨rfl, Kept.trans kw (below_regrown w' dq osq)⟩

open Go.Sort in
set_option maxHeartbeats 3200000 in
theorem coded_op (op rd rs1 rs2 imm : Int) (h0 : 0 ≤ op) (h1 : op ≤ 255) (P : Parts op rd rs1 rs2 imm) (hj : ¬ (formV op = 74 ∨ formV op = 66)) (hs : 0 ≤ imm) (w : World) :
    Calls Tryd.prog 45 #[insnV op rd rs1 rs2 imm] w fun e w' => e = .returned (.int .u32 (wordN op rd rs1 rs2 imm)) ∧ Kept w w' := by
  have hl := formV_letter P.isop
  have hoe : opErr op = 0 := by simp [opErr, P.isop]
  have hpe : plErr (formV op) = 0 := by unfold plErr; rw [if_pos hl]
  have hop := isOp_true P.isop
  have r1 := regOk_range P.okd
  have r2 := regOk_range P.ok1
  have r3 := regOk_range P.ok2
  have rn := numOk_range P.num
  have rt := tdiv_range rn
  have hlen : (placeL (formV op)).length ≤ 20 := plen_le _ hl
  have hp1 := two_pow_pos' (placeL (formV op)).length
  have hp2 : (2 : Int) ^ (placeL (formV op)).length ≤ 2 ^ 20 := two_pow_le' hlen
  have hsum := word_sumI P
  have hwl : wordN op rd rs1 rs2 imm < 4294967296 := by
    have l1 := baseC_lt (op.toNat - 1) (by omega)
    exact Nat.or_lt_two_pow (n := 32) (Nat.or_lt_two_pow (n := 32) l1 (regN_lt r1.2 r2.2 r3.2)) (scatN_lt imm hl)
  have hh : halfV (formV op) imm = imm := by simp [halfV, hj]
  have hv : numV (formV op) imm = imm := by
    rw [num_doc hl P.num, hh]
    exact if_neg (by omega)
  have hv0 := numV_lo (formV op) imm
  have hv1 := numV_hi imm hl
  have cS := fun a cap w hC => rscatter_c (formV op) imm _ hv hl a cap w hC
  rw [hv] at hv0 hv1
  have c2 := fun w => two_walk_at (placeL (formV op)).length (by omega) w
  have cB := fun w => rbits_walk op h0 h1 P.isop w
  have hjb : isJB2 (formV op) = false := decide_eq_false hj
  clear hv hh hj hop P
  have hK := Kept.refl (w.alloc (.cells #[.int .u8 op, .int .i64 rd, .int .i64 rs1, .int .i64 rs2, .int .i64 imm] 23))
  have d0 : (w.alloc (.cells #[.int .u8 op, .int .i64 rd, .int .i64 rs1, .int .i64 rs2, .int .i64 imm] 23)).cell? ⟨w.heap.size, 0, none⟩ = some (.int .u8 op) := Kept.cell hK (by simp)
  have d1 : (w.alloc (.cells #[.int .u8 op, .int .i64 rd, .int .i64 rs1, .int .i64 rs2, .int .i64 imm] 23)).cell? ⟨w.heap.size, 1, none⟩ = some (.int .i64 rd) := Kept.cell hK (by simp)
  have d2 : (w.alloc (.cells #[.int .u8 op, .int .i64 rd, .int .i64 rs1, .int .i64 rs2, .int .i64 imm] 23)).cell? ⟨w.heap.size, 2, none⟩ = some (.int .i64 rs1) := Kept.cell hK (by simp)
  have d3 : (w.alloc (.cells #[.int .u8 op, .int .i64 rd, .int .i64 rs1, .int .i64 rs2, .int .i64 imm] 23)).cell? ⟨w.heap.size, 3, none⟩ = some (.int .i64 rs2) := Kept.cell hK (by simp)
  have d4 : (w.alloc (.cells #[.int .u8 op, .int .i64 rd, .int .i64 rs1, .int .i64 rs2, .int .i64 imm] 23)).cell? ⟨w.heap.size, 4, none⟩ = some (.int .i64 imm) := Kept.cell hK (by simp)
  go_enter Tryd.func45, Tryd.ntmps45
  go_upto_region 4 with (first
    | (go_at_call 40; refine (refForm_walk _ h0 h1 _).mono ?_; rintro e w' ⟨rfl, hk⟩; have hK' := Kept.trans hK hk; clear hK; have hK := hK'; clear hK' hk d0 d1 d2 d3 d4; have d0 : w'.cell? ⟨w.heap.size, 0, none⟩ = some (.int .u8 op) := Kept.cell hK (by simp); have d1 : w'.cell? ⟨w.heap.size, 1, none⟩ = some (.int .i64 rd) := Kept.cell hK (by simp); have d2 : w'.cell? ⟨w.heap.size, 2, none⟩ = some (.int .i64 rs1) := Kept.cell hK (by simp); have d3 : w'.cell? ⟨w.heap.size, 3, none⟩ = some (.int .i64 rs2) := Kept.cell hK (by simp); have d4 : w'.cell? ⟨w.heap.size, 4, none⟩ = some (.int .i64 imm) := Kept.cell hK (by simp))
    | (go_at_call 24; refine (rplaces_walk _ _).mono ?_; rintro e w' ⟨a, cap, rfl, hC, hk⟩; have hK' := Kept.trans hK hk; clear hK; have hK := hK'; clear hK' hk d0 d1 d2 d3 d4; have d0 : w'.cell? ⟨w.heap.size, 0, none⟩ = some (.int .u8 op) := Kept.cell hK (by simp); have d1 : w'.cell? ⟨w.heap.size, 1, none⟩ = some (.int .i64 rd) := Kept.cell hK (by simp); have d2 : w'.cell? ⟨w.heap.size, 2, none⟩ = some (.int .i64 rs1) := Kept.cell hK (by simp); have d3 : w'.cell? ⟨w.heap.size, 3, none⟩ = some (.int .i64 rs2) := Kept.cell hK (by simp); have d4 : w'.cell? ⟨w.heap.size, 4, none⟩ = some (.int .i64 imm) := Kept.cell hK (by simp))
    | (go_at_call 26; refine (c2 _).mono ?_; rintro e w' ⟨rfl, rfl⟩)
    | (go_at_call 59; refine (cS a cap _ hC).mono ?_; rintro e w' ⟨rfl, hk⟩; clear hC; have hK' := Kept.trans hK hk; clear hK; have hK := hK'; clear hK' hk d0 d1 d2 d3 d4; have d0 : w'.cell? ⟨w.heap.size, 0, none⟩ = some (.int .u8 op) := Kept.cell hK (by simp); have d1 : w'.cell? ⟨w.heap.size, 1, none⟩ = some (.int .i64 rd) := Kept.cell hK (by simp); have d2 : w'.cell? ⟨w.heap.size, 2, none⟩ = some (.int .i64 rs1) := Kept.cell hK (by simp); have d3 : w'.cell? ⟨w.heap.size, 3, none⟩ = some (.int .i64 rs2) := Kept.cell hK (by simp); have d4 : w'.cell? ⟨w.heap.size, 4, none⟩ = some (.int .i64 imm) := Kept.cell hK (by simp)))
  go_cut [28] (fun c wx => c = .bool (isJB2 (formV op)) ∧ wx = w')
  case first =>
    clear hjb
    by_cases hJ : formV op = 74
    · have e : isJB2 (formV op) = true := by simp [isJB2, hJ]
      have hJ' : (formV op == 74) = true := by simp [hJ]
      clear hJ
      go_wp2
      go_meet
      exact ⟨congrArg _ e.symm, rfl⟩
    · by_cases hB : formV op = 66
      · have e : isJB2 (formV op) = true := by simp [isJB2, hB]
        have hJ' : (formV op == 74) = false := by simp [hB]
        have hB' : (formV op == 66) = true := by simp [hB]
        clear hB hJ
        go_wp2
        go_meet
        exact ⟨congrArg _ e.symm, rfl⟩
      · have e : isJB2 (formV op) = false := by simp [isJB2, hJ, hB]
        have hJ' : (formV op == 74) = false := by simp [hJ]
        have hB' : (formV op == 66) = false := by simp [hB]
        clear hB hJ
        go_wp2
        go_meet
        exact ⟨congrArg _ e.symm, rfl⟩
  case rest =>
    obtain ⟨rfl, rfl⟩ := hcut
    rw [hjb]
    go_upto_region 9 with (first
      | (go_at_call 40; refine (refForm_walk _ h0 h1 _).mono ?_; rintro e w' ⟨rfl, hk⟩; have hK' := Kept.trans hK hk; clear hK; have hK := hK'; clear hK' hk d0 d1 d2 d3 d4; have d0 : w'.cell? ⟨w.heap.size, 0, none⟩ = some (.int .u8 op) := Kept.cell hK (by simp); have d1 : w'.cell? ⟨w.heap.size, 1, none⟩ = some (.int .i64 rd) := Kept.cell hK (by simp); have d2 : w'.cell? ⟨w.heap.size, 2, none⟩ = some (.int .i64 rs1) := Kept.cell hK (by simp); have d3 : w'.cell? ⟨w.heap.size, 3, none⟩ = some (.int .i64 rs2) := Kept.cell hK (by simp); have d4 : w'.cell? ⟨w.heap.size, 4, none⟩ = some (.int .i64 imm) := Kept.cell hK (by simp))
      | (go_at_call 24; refine (rplaces_walk _ _).mono ?_; rintro e w' ⟨a, cap, rfl, hC, hk⟩; have hK' := Kept.trans hK hk; clear hK; have hK := hK'; clear hK' hk d0 d1 d2 d3 d4; have d0 : w'.cell? ⟨w.heap.size, 0, none⟩ = some (.int .u8 op) := Kept.cell hK (by simp); have d1 : w'.cell? ⟨w.heap.size, 1, none⟩ = some (.int .i64 rd) := Kept.cell hK (by simp); have d2 : w'.cell? ⟨w.heap.size, 2, none⟩ = some (.int .i64 rs1) := Kept.cell hK (by simp); have d3 : w'.cell? ⟨w.heap.size, 3, none⟩ = some (.int .i64 rs2) := Kept.cell hK (by simp); have d4 : w'.cell? ⟨w.heap.size, 4, none⟩ = some (.int .i64 imm) := Kept.cell hK (by simp))
      | (go_at_call 26; refine (c2 _).mono ?_; rintro e w' ⟨rfl, rfl⟩)
      | (go_at_call 59; refine (cS a cap _ hC).mono ?_; rintro e w' ⟨rfl, hk⟩; clear hC; have hK' := Kept.trans hK hk; clear hK; have hK := hK'; clear hK' hk d0 d1 d2 d3 d4; have d0 : w'.cell? ⟨w.heap.size, 0, none⟩ = some (.int .u8 op) := Kept.cell hK (by simp); have d1 : w'.cell? ⟨w.heap.size, 1, none⟩ = some (.int .i64 rd) := Kept.cell hK (by simp); have d2 : w'.cell? ⟨w.heap.size, 2, none⟩ = some (.int .i64 rs1) := Kept.cell hK (by simp); have d3 : w'.cell? ⟨w.heap.size, 3, none⟩ = some (.int .i64 rs2) := Kept.cell hK (by simp); have d4 : w'.cell? ⟨w.heap.size, 4, none⟩ = some (.int .i64 imm) := Kept.cell hK (by simp)))
    have kw := Kept.trans (Kept.alloc w _) hK
    have g0 := cell_regrown d0
    have g1 := cell_regrown d1
    have g2 := cell_regrown d2
    have g3 := cell_regrown d3
    have cA : ∀ d os, Calls Tryd.prog 22 #[.int .u8 op] (grow (redrawn w' d) os) fun e w'' => e = .returned (.int .u32 (baseC (op.toNat - 1))) ∧ ∃ p : Regrown, w'' = grow (redrawn w' p.d) p.os := fun d os => Calls.regrown_of (cB _)
    have hwt := wrap_total _ _ rd rs1 rs2 r1 r2 r3 _ hwl hsum
    clear cB cS c2 hK d0 d1 d2 d3 d4
    refine wp_region_quiet_below (by kernel_rfl) (by kernel_rfl) ?_
    repeat (quiet_step (exact cA _ _))
    refine wpQuiet_nil ?_
    intro _ hw'
    obtain ⟨⟨dq, osq⟩, hw''⟩ := hw'
    subst hw''
    go_wp2
    go_ret
    exact ⟨rfl, Kept.trans kw (below_regrown w' dq osq)⟩

theorem coded_walk (op rd rs1 rs2 imm : Int) (h0 : 0 ≤ op) (h1 : op ≤ 255) (P : Parts op rd rs1 rs2 imm) (w : World) :
    Calls Tryd.prog 45 #[insnV op rd rs1 rs2 imm] w fun e w' => e = .returned (.int .u32 (wordN op rd rs1 rs2 imm)) ∧ Kept w w' := by
  by_cases hj : formV op = 74 ∨ formV op = 66
  · rcases Int.lt_or_le (imm.tdiv 2) 0 with hs | hs
    · exact coded_jn op rd rs1 rs2 imm h0 h1 P hj hs w
    · exact coded_jp op rd rs1 rs2 imm h0 h1 P hj hs w
  · rcases Int.lt_or_le imm 0 with hs | hs
    · exact coded_on op rd rs1 rs2 imm h0 h1 P hj hs w
    · exact coded_op op rd rs1 rs2 imm h0 h1 P hj hs w

end Go.Proofs.YtpaeemijpincpaaDoor
