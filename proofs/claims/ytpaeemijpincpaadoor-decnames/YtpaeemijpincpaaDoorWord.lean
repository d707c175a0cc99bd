/- What enc.Word gives. -/
import Derived.Test.YtpaeemijpincpaaDoorWd
namespace Go.Proofs.YtpaeemijpincpaaDoor
open Go.RowKit

/-- How many places a form's number has. -/
abbrev plen (c : Int) : Nat := (placeL c).length
/-- What is written at a form's places. -/
def numV (c imm : Int) : Int := halfV c imm % 2 ^ plen c
def scatN (c imm : Int) : Nat := scatTo (numV c imm).toNat (placeP c) (plen c)
def wordN (op rd rs1 rs2 imm : Int) : Nat := (baseC (op.toNat - 1) ||| regN rd rs1 rs2) ||| scatN (formV op) imm
def wordV (op rd rs1 rs2 imm : Int) : Int := if mayB op rd rs1 rs2 imm = true then (wordN op rd rs1 rs2 imm : Int) else 0

theorem baseC_lt : ∀ i, i < 94 → baseC i < 4294967296 := by decide +kernel
theorem plen_le : ∀ c ∈ letters, plen c ≤ 20 := by decide +kernel
theorem places_ok : ∀ c ∈ letters, errOf (placeP c) (plen c) = 0 := by decide +kernel

theorem numV_lo (c imm : Int) : 0 ≤ numV c imm := Int.emod_nonneg _ (by have := two_pow_pos' (plen c); omega)
theorem numV_lt (c imm : Int) : numV c imm < 2 ^ plen c := Int.emod_lt_of_pos _ (two_pow_pos' _)
theorem numV_hi {c : Int} (imm : Int) (hc : c ∈ letters) : numV c imm < 4294967296 := by
  have h1 := numV_lt c imm
  have h2 : (2 : Int) ^ plen c ≤ 2 ^ 20 := two_pow_le' (plen_le c hc)
  omega

theorem scatN_lt {c : Int} (imm : Int) (hc : c ∈ letters) : scatN c imm < 4294967296 :=
  scatTo_lt _ (errOf_zero (places_ok c hc)).2

theorem scatter_c (c imm : Int) (hc : c ∈ letters) (a : Option Addr) (cap : Nat) (w : World) (hC : Cells w a (plen c) (placeP c)) :
    Calls Tryd.prog 27 #[.int .u32 (numV c imm), .slice a (plen c) cap] w fun e w' => e = .returned (.tuple #[.int .u32 (scatN c imm), .int .i64 0]) ∧ w' = w := by
  have h := scatter_u (numV c imm) (numV_lo c imm) (numV_hi imm hc) a (plen c) cap (placeP c) w hC
  have e1 : scatV (numV c imm) (placeP c) (plen c) = (scatN c imm : Int) := by
    unfold scatV
    rw [if_pos (places_ok c hc), if_pos (numV_lt c imm)]
    rfl
  have e2 : scatE (numV c imm) (placeP c) (plen c) = 0 := by
    unfold scatE
    rw [if_pos (places_ok c hc), decide_eq_true (numV_lt c imm)]
    rfl
  rwa [e1, e2] at h

theorem low_ge (c : Int) : -1048576 ≤ lowOf c := by unfold lowOf; split <;> (try split) <;> (try split) <;> decide
theorem high_le (c : Int) : highOf c ≤ 1048575 := by
  unfold highOf
  repeat (first | decide | split)

theorem regOk_range {b : Bool} {r : Int} (h : regOk b r = true) : 0 ≤ r ∧ r ≤ 31 := by
  have := of_decide_eq_true h
  exact ⟨this.1, this.2.1⟩

/-- What is known of an instruction that may be. -/
def Parts (op rd rs1 rs2 imm : Int) : Prop :=
  isOp op = true ∧ regOk (hasRd (formV op)) rd = true ∧ regOk (hasRs1 (formV op)) rs1 = true ∧ regOk (hasRs2 (formV op)) rs2 = true ∧ numOk (formV op) imm = true

theorem Parts.isop {op rd rs1 rs2 imm : Int} (P : Parts op rd rs1 rs2 imm) : isOp op = true := P.1
theorem Parts.okd {op rd rs1 rs2 imm : Int} (P : Parts op rd rs1 rs2 imm) : regOk (hasRd (formV op)) rd = true := P.2.1
theorem Parts.ok1 {op rd rs1 rs2 imm : Int} (P : Parts op rd rs1 rs2 imm) : regOk (hasRs1 (formV op)) rs1 = true := P.2.2.1
theorem Parts.ok2 {op rd rs1 rs2 imm : Int} (P : Parts op rd rs1 rs2 imm) : regOk (hasRs2 (formV op)) rs2 = true := P.2.2.2.1
theorem Parts.num {op rd rs1 rs2 imm : Int} (P : Parts op rd rs1 rs2 imm) : numOk (formV op) imm = true := P.2.2.2.2

theorem parts_of {op rd rs1 rs2 imm : Int} (h : mayB op rd rs1 rs2 imm = true) : Parts op rd rs1 rs2 imm := by
  simp only [mayB, Bool.and_eq_true] at h
  exact ⟨h.1, h.2.1, h.2.2.1, h.2.2.2.1, h.2.2.2.2⟩

theorem numOk_range {c v : Int} (h : numOk c v = true) : -1048576 ≤ v ∧ v ≤ 1048575 := by
  have h1 := of_decide_eq_true h
  have h2 := low_ge c
  have h3 := high_le c
  omega

theorem or3 (a b c : Nat) (ha : a < 4294967296) (hb : b < 4294967296) (hc : c < 4294967296) :
    bits .or .u32 (bits .or .u32 (a : Int) (b : Int)) (c : Int) = ((a ||| b ||| c : Nat) : Int) := by
  have l4 : (a ||| b) < 4294967296 := Nat.or_lt_two_pow (n := 32) ha hb
  rw [u32_or_nat _ _ ha hb, u32_or_nat _ _ l4 hc]

theorem regN_lt {rd rs1 rs2 : Int} (h1 : rd ≤ 31) (h3 : rs1 ≤ 31) (h5 : rs2 ≤ 31) : regN rd rs1 rs2 < 4294967296 := by
  have l1 : rd.toNat * 128 < 4294967296 := Nat.lt_of_le_of_lt (Nat.mul_le_mul_right 128 (by omega : rd.toNat ≤ 31)) (by decide)
  have l2 : rs1.toNat * 32768 < 4294967296 := Nat.lt_of_le_of_lt (Nat.mul_le_mul_right 32768 (by omega : rs1.toNat ≤ 31)) (by decide)
  have l3 : rs2.toNat * 1048576 < 4294967296 := Nat.lt_of_le_of_lt (Nat.mul_le_mul_right 1048576 (by omega : rs2.toNat ≤ 31)) (by decide)
  exact Nat.or_lt_two_pow (n := 32) (Nat.or_lt_two_pow (n := 32) l1 l2) l3

theorem word_no (op rd rs1 rs2 imm : Int) (h1 : op ≤ 255) (hm : mayB op rd rs1 rs2 imm = false) (w : World) :
    Calls Tryd.prog 12 #[insnV op rd rs1 rs2 imm] w fun e w' => e = .returned (.tuple #[.int .u32 0, .int .i64 20]) ∧ Kept w w' := by
  have hc : chkV op rd rs1 rs2 imm = 20 := by simp [chkV, hm]
  go_enter Tryd.func12, Tryd.ntmps12
  go_wp2_with (go_at_call 13; refine (check_walk _ _ _ _ _ h1 _).mono ?_; rintro e w' ⟨rfl, hk⟩)
  go_ret2
  exact ⟨rfl, Kept.trans (Kept.alloc _ _) hk⟩

set_option maxHeartbeats 1600000 in
theorem word_yes (op rd rs1 rs2 imm : Int) (h0 : 0 ≤ op) (h1 : op ≤ 255) (hm : mayB op rd rs1 rs2 imm = true) (w : World) (hT : Tab w) :
    Calls Tryd.prog 12 #[insnV op rd rs1 rs2 imm] w fun e w' => e = .returned (.tuple #[.int .u32 (wordN op rd rs1 rs2 imm), .int .i64 0]) ∧ Kept w w' := by
  have hc : chkV op rd rs1 rs2 imm = 0 := by simp [chkV, hm]
  have P := parts_of hm
  have hl := formV_letter P.isop
  have hoe : opErr op = 0 := by simp [opErr, P.isop]
  have hbv : baseV op = (baseC (op.toNat - 1) : Int) := by simp [baseV, P.isop]
  have r1 := regOk_range P.okd
  have r2 := regOk_range P.ok1
  have r3 := regOk_range P.ok2
  have rn := numOk_range P.num
  have hpe : plErr (formV op) = 0 := by unfold plErr; rw [if_pos hl]
  have hop := isOp_true P.isop
  have h3 := or3 (baseC (op.toNat - 1)) (regN rd rs1 rs2) (scatN (formV op) imm) (baseC_lt _ (by omega)) (regN_lt r1.2 r2.2 r3.2) (scatN_lt imm hl)
  have hnum : halfV (formV op) imm % 2 ^ (placeL (formV op)).length = numV (formV op) imm := rfl
  have hlen := plen_le _ hl
  have cW := fun w => written_walk imm (formV op) (placeL (formV op)).length hlen rn.1 (by omega) w
  rw [hnum] at cW
  clear P hop hlen hnum
  go_enter Tryd.func12, Tryd.ntmps12
  go_wp2_with (first
    | (go_at_call 13; refine (check_walk _ _ _ _ _ h1 _).mono ?_; rintro e w1 ⟨rfl, hk1⟩; have t1 : Tab w1 := (hT.kept (Kept.alloc _ _)).kept hk1; have d0 : w1.cell? ⟨w.heap.size, 0, none⟩ = some (.int .u8 op) := Kept.cell hk1 (by simp); have d4 : w1.cell? ⟨w.heap.size, 4, none⟩ = some (.int .i64 imm) := Kept.cell hk1 (by simp))
    | (go_at_call 15; refine (base_walk _ h0 h1 _ t1).mono ?_; rintro e w' ⟨rfl, rfl⟩)
    | (go_at_call 14; refine (form_walk _ h1 _).mono ?_; rintro e w' ⟨rfl, rfl⟩)
    | (go_at_call 21; refine (places_walk _ _).mono ?_; rintro e w2 ⟨a, cap, rfl, hC, hk2⟩; have k2 := Kept.trans hk1 hk2; have f0 : w2.cell? ⟨w.heap.size, 0, none⟩ = some (.int .u8 op) := Kept.cell k2 (by simp); have f1 : w2.cell? ⟨w.heap.size, 1, none⟩ = some (.int .i64 rd) := Kept.cell k2 (by simp); have f2 : w2.cell? ⟨w.heap.size, 2, none⟩ = some (.int .i64 rs1) := Kept.cell k2 (by simp); have f3 : w2.cell? ⟨w.heap.size, 3, none⟩ = some (.int .i64 rs2) := Kept.cell k2 (by simp); have f4 : w2.cell? ⟨w.heap.size, 4, none⟩ = some (.int .i64 imm) := Kept.cell k2 (by simp))
    | (go_at_call 28; refine (cW _).mono ?_; rintro e w' ⟨rfl, rfl⟩)
    | (go_at_call 27; refine (scatter_c (formV op) imm hl a cap _ hC).mono ?_; rintro e w' ⟨rfl, rfl⟩)
    | (go_at_call 29; refine (registers_walk op rd rs1 rs2 imm r1.1 r1.2 r2.1 r2.2 r3.1 r3.2 _).mono ?_; rintro e w3 ⟨rfl, hk3⟩))
  go_ret2
  exact ⟨rfl, Kept.trans (Kept.trans (Kept.alloc _ _) k2) hk3⟩

theorem word_walk (op rd rs1 rs2 imm : Int) (h0 : 0 ≤ op) (h1 : op ≤ 255) (w : World) (hT : Tab w) :
    Calls Tryd.prog 12 #[insnV op rd rs1 rs2 imm] w fun e w' => e = .returned (.tuple #[.int .u32 (wordV op rd rs1 rs2 imm), .int .i64 (chkV op rd rs1 rs2 imm)]) ∧ Kept w w' := by
  unfold wordV chkV
  cases hm : mayB op rd rs1 rs2 imm
  · exact word_no op rd rs1 rs2 imm h1 hm w
  · exact word_yes op rd rs1 rs2 imm h0 h1 hm w hT

end Go.Proofs.YtpaeemijpincpaaDoor
