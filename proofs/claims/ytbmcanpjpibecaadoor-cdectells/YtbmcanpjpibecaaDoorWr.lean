/- What the document's own Written gives. -/
import Derived.Test.YtbmcanpjpibecaaDoorFd
namespace Go.Proofs.YtbmcanpjpibecaaDoor
open Go.RowKit

theorem cPl_ok : ∀ k, k < 33 → errOf (cPlP k) (cLen k) = 0 := by decide +kernel
theorem cBits_le : ∀ k, k < 33 → cBits k ≤ 57346 := by decide +kernel
/-- What is written of a row's number. -/
def cNum (k : Nat) (imm : Int) : Int := (if imm.tdiv (cBy k) < 0 then imm.tdiv (cBy k) + 2 ^ cLen k else imm.tdiv (cBy k)) % 2 ^ cLen k
def cScat (k : Nat) (imm : Int) : Nat := scatTo (cNum k imm).toNat (cPlP k) (cLen k)
/-- The short form by a row. -/
def cHalf (k : Nat) (d s t imm : Int) : Int := ((cBits k : Int) + 4 * lowV (cForm k) d s t + 128 * hiV (cForm k) d s t + (cScat k imm : Int)) % 65536
theorem cNum_lo (k : Nat) (imm : Int) : 0 ≤ cNum k imm := Int.emod_nonneg _ (by have := two_pow_pos' (cLen k); omega)
theorem cNum_lt (k : Nat) (imm : Int) : cNum k imm < 2 ^ cLen k := Int.emod_lt_of_pos _ (two_pow_pos' _)
theorem cScat_lt {k : Nat} (hk : k < 33) (imm : Int) : cScat k imm < 4294967296 := scatTo_lt _ (errOf_zero (cPl_ok k hk)).2
theorem rscatter_k {k : Nat} (hk : k < 33) (imm : Int) (a : Option Addr) (cap : Nat) (w : World) (hC : Cells w a (cLen k) (cPlP k)) :
    Calls Tryd.prog 60 #[.int .u32 (cNum k imm), .slice a (cLen k) cap] w fun e w' => e = .returned (.tuple #[.int .u32 (cScat k imm), .int .i64 0]) ∧ Kept w w' := by
  have h1 := cNum_lo k imm
  have h2 := cNum_lt k imm
  have h3 := two_pow_le' (b := 11) (cLen_le k hk)
  have h := rscatter_u (cNum k imm) h1 (by omega) a (cLen k) cap (cPlP k) w hC
  have e1 : scatV (cNum k imm) (cPlP k) (cLen k) = (cScat k imm : Int) := by
    unfold scatV
    rw [if_pos (cPl_ok k hk), if_pos h2]
    rfl
  have e2 : scatE (cNum k imm) (cPlP k) (cLen k) = 0 := by
    unfold scatE
    rw [if_pos (cPl_ok k hk), decide_eq_true h2]
    rfl
  rw [e1, e2] at h
  exact h.mono fun e w' ⟨he, m, hw⟩ => ⟨he, hw ▸ Kept.drewN _ _⟩
theorem u32_wrap_id {m : Int} (h0 : 0 ≤ m) (h1 : m < 4294967296) : IntKind.u32.wrap m = m := by
  have e : IntKind.u32.wrap m = m % 4294967296 := by simp [IntKind.wrap, IntKind.bits, IntKind.signed]
  omega
theorem u16_wrap (m : Int) : IntKind.u16.wrap m = m % 65536 := by simp [IntKind.wrap, IntKind.bits, IntKind.signed]
theorem ite_rng {c : Prop} [Decidable c] {a b : Int} (ha : -8 ≤ a ∧ a ≤ 31) (hb : -8 ≤ b ∧ b ≤ 31) : -8 ≤ (if c then a else b) ∧ (if c then a else b) ≤ 31 := by split <;> assumption
theorem low_range (f : UInt8) {d s t : Int} (hd : 0 ≤ d ∧ d ≤ 31) (_hs : 0 ≤ s ∧ s ≤ 31) (ht : 0 ≤ t ∧ t ≤ 31) : -8 ≤ lowV f d s t ∧ lowV f d s t ≤ 31 := by
  unfold lowV
  repeat (refine ite_rng (by omega) ?_)
  omega
theorem hi_range (f : UInt8) {d s t : Int} (hd : 0 ≤ d ∧ d ≤ 31) (hs : 0 ≤ s ∧ s ≤ 31) (_ht : 0 ≤ t ∧ t ≤ 31) : -8 ≤ hiV f d s t ∧ hiV f d s t ≤ 31 := by
  unfold hiV
  repeat (refine ite_rng (by omega) ?_)
  omega

open Go.Sort in
set_option maxRecDepth 20000 in
set_option maxHeartbeats 3200000 in
theorem written_walk5 (k : Nat) (hk : k < 33) (op d s t imm : Int) (hd : 0 ≤ d ∧ d ≤ 31) (hs : 0 ≤ s ∧ s ≤ 31) (ht : 0 ≤ t ∧ t ≤ 31) (hn : -1048576 ≤ imm ∧ imm ≤ 1048575) (hv0 : -2 ^ cLen k ≤ imm.tdiv (cBy k)) (a : Option Addr) (cap : Nat) (w : World) (hC : Cells w a (cLen k) (cPlP k)) :
    Calls Tryd.prog 46 #[cRowV k a cap, insnV op d s t imm] w fun e w' => e = .returned (.int .u16 (cHalf k d s t imm)) ∧ Kept w w' := by
  have hb := cBy_range k hk
  have hl := cLen_le k hk
  have hv1 := tdiv_small hb.1 hn
  have hr1 := room_small hl
  have hlo := low_range (cForm k) hd hs ht
  have hhi := hi_range (cForm k) hd hs ht
  have hbits := cBits_le k hk
  have hsc := cScat_lt hk imm
  have h2 := fun w => two_walk_at (cLen k) (by omega) w
  have hS := fun w => stand_walk (cForm k) (cForm_cases k hk) op d s t imm hd hs ht w
  have hX := fun w hC => rscatter_k hk imm a cap w hC
  have hm0 := cNum_lo k imm
  have hm1 := cNum_lt k imm
  have hH : cHalf k d s t imm = ((cBits k : Int) + 4 * lowV (cForm k) d s t + 128 * hiV (cForm k) d s t + (cScat k imm : Int)) % 65536 := rfl
  have hN : cNum k imm = (if imm.tdiv (cBy k) < 0 then imm.tdiv (cBy k) + 2 ^ cLen k else imm.tdiv (cBy k)) % 2 ^ cLen k := rfl
  generalize cHalf k d s t imm = H at hH ⊢
  generalize cNum k imm = m at hN hm0 hm1 hX
  generalize hvv : imm.tdiv (cBy k) = v at hN hv0 hv1
  generalize hrr : (2 : Int) ^ cLen k = r at hN hv0 hr1 hm1 h2
  generalize lowV (cForm k) d s t = lo at hH hlo hS
  generalize hiV (cForm k) d s t = hi at hH hhi hS
  generalize cScat k imm = sc at hH hsc hX
  have hC1 := hC.kept (Kept.alloc w (.cells #[.string (nm (cOp k - 1)), .int .i64 (cBits k), .string (chr (cForm k)), .string (chr (cKind k)), .int .i64 (cBy k), .slice a (cLen k) cap] 56))
  have hC2 := hC1.kept (Kept.alloc _ (.cells #[.int .u8 op, .int .i64 d, .int .i64 s, .int .i64 t, .int .i64 imm] 27))
  clear hC hC1
  have kW : Kept w ((w.alloc (.cells #[.string (nm (cOp k - 1)), .int .i64 (cBits k), .string (chr (cForm k)), .string (chr (cKind k)), .int .i64 (cBy k), .slice a (cLen k) cap] 56)).alloc (.cells #[.int .u8 op, .int .i64 d, .int .i64 s, .int .i64 t, .int .i64 imm] 27)) := (Kept.alloc _ _).trans (Kept.alloc _ _)
  have r1 : ((w.alloc (.cells #[.string (nm (cOp k - 1)), .int .i64 (cBits k), .string (chr (cForm k)), .string (chr (cKind k)), .int .i64 (cBy k), .slice a (cLen k) cap] 56)).alloc (.cells #[.int .u8 op, .int .i64 d, .int .i64 s, .int .i64 t, .int .i64 imm] 27)).cell? ⟨w.heap.size, 1, none⟩ = some (.int .i64 (cBits k)) := Kept.cell (Kept.alloc _ _) (by simp)
  have r2 : ((w.alloc (.cells #[.string (nm (cOp k - 1)), .int .i64 (cBits k), .string (chr (cForm k)), .string (chr (cKind k)), .int .i64 (cBy k), .slice a (cLen k) cap] 56)).alloc (.cells #[.int .u8 op, .int .i64 d, .int .i64 s, .int .i64 t, .int .i64 imm] 27)).cell? ⟨w.heap.size, 2, none⟩ = some (.string (chr (cForm k))) := Kept.cell (Kept.alloc _ _) (by simp)
  have r5 : ((w.alloc (.cells #[.string (nm (cOp k - 1)), .int .i64 (cBits k), .string (chr (cForm k)), .string (chr (cKind k)), .int .i64 (cBy k), .slice a (cLen k) cap] 56)).alloc (.cells #[.int .u8 op, .int .i64 d, .int .i64 s, .int .i64 t, .int .i64 imm] 27)).cell? ⟨w.heap.size, 5, none⟩ = some (.slice a (cLen k) cap) := Kept.cell (Kept.alloc _ _) (by simp)
  have i0 : ((w.alloc (.cells #[.string (nm (cOp k - 1)), .int .i64 (cBits k), .string (chr (cForm k)), .string (chr (cKind k)), .int .i64 (cBy k), .slice a (cLen k) cap] 56)).alloc (.cells #[.int .u8 op, .int .i64 d, .int .i64 s, .int .i64 t, .int .i64 imm] 27)).cell? ⟨w.heap.size + 1, 0, none⟩ = some (.int .u8 op) := by simp
  have i1 : ((w.alloc (.cells #[.string (nm (cOp k - 1)), .int .i64 (cBits k), .string (chr (cForm k)), .string (chr (cKind k)), .int .i64 (cBy k), .slice a (cLen k) cap] 56)).alloc (.cells #[.int .u8 op, .int .i64 d, .int .i64 s, .int .i64 t, .int .i64 imm] 27)).cell? ⟨w.heap.size + 1, 1, none⟩ = some (.int .i64 d) := by simp
  have i2 : ((w.alloc (.cells #[.string (nm (cOp k - 1)), .int .i64 (cBits k), .string (chr (cForm k)), .string (chr (cKind k)), .int .i64 (cBy k), .slice a (cLen k) cap] 56)).alloc (.cells #[.int .u8 op, .int .i64 d, .int .i64 s, .int .i64 t, .int .i64 imm] 27)).cell? ⟨w.heap.size + 1, 2, none⟩ = some (.int .i64 s) := by simp
  have i3 : ((w.alloc (.cells #[.string (nm (cOp k - 1)), .int .i64 (cBits k), .string (chr (cForm k)), .string (chr (cKind k)), .int .i64 (cBy k), .slice a (cLen k) cap] 56)).alloc (.cells #[.int .u8 op, .int .i64 d, .int .i64 s, .int .i64 t, .int .i64 imm] 27)).cell? ⟨w.heap.size + 1, 3, none⟩ = some (.int .i64 t) := by simp
  have i4 : ((w.alloc (.cells #[.string (nm (cOp k - 1)), .int .i64 (cBits k), .string (chr (cForm k)), .string (chr (cKind k)), .int .i64 (cBy k), .slice a (cLen k) cap] 56)).alloc (.cells #[.int .u8 op, .int .i64 d, .int .i64 s, .int .i64 t, .int .i64 imm] 27)).cell? ⟨w.heap.size + 1, 4, none⟩ = some (.int .i64 imm) := by simp
  by_cases hneg : v < 0
  · have q1 : (v + r).tmod r = m := by rw [hN, if_pos hneg]; exact Int.tmod_eq_emod_of_nonneg (by omega)
    have q2 : (v + r) % r = m := by rw [hN, if_pos hneg]
    clear hN
    go_enter Tryd.func46, Tryd.ntmps46
    go_upto_region 5 with (go_at_call 55; refine (h2 _).mono ?_; rintro e w' ⟨rfl, rfl⟩)
    generalize hW : (w.alloc (.cells #[.string (nm (cOp k - 1)), .int .i64 (cBits k), .string (chr (cForm k)), .string (chr (cKind k)), .int .i64 (cBy k), .slice a (cLen k) cap] 56)).alloc (.cells #[.int .u8 op, .int .i64 d, .int .i64 s, .int .i64 t, .int .i64 imm] 27) = W at hC2 kW r1 r2 r5 i0 i1 i2 i3 i4 ⊢
    have cX : ∀ d' os, Calls Tryd.prog 60 #[.int .u32 m, .slice a (cLen k) cap] (grow (redrawn W d') os) fun e w'' => e = .returned (.tuple #[.int .u32 sc, .int .i64 0]) ∧ ∃ p : Regrown, w'' = grow (redrawn W p.d) p.os := fun d' os => Calls.regrown_of (hX _ (hC2.kept (below_regrown W d' os)))
    have g5 := cell_regrown r5
    have z1 : ¬ r = 0 := by omega
    have z2 : (r == 0) = false := by simpa using z1
    have z3 : wrap64 m = m := wrap64_id (by omega) (by omega)
    have z4 : IntKind.u32.wrap m = m := u32_wrap_id hm0 (by omega)
    refine wp_region_quiet_below (by kernel_rfl) (by kernel_rfl) ?_
    repeat (quiet_step (exact cX _ _))
    refine wpQuiet_nil ?_
    intro _ hw'
    obtain ⟨⟨dq, osq⟩, hw''⟩ := hw'
    subst hw''
    have kB := below_regrown W dq osq
    replace r1 := Kept.cell kB r1
    replace r2 := Kept.cell kB r2
    replace i0 := Kept.cell kB i0
    replace i1 := Kept.cell kB i1
    replace i2 := Kept.cell kB i2
    replace i3 := Kept.cell kB i3
    replace i4 := Kept.cell kB i4
    have kw := kW.trans kB
    clear kB kW cX g5 r5 hC2 hX hW
    generalize grow (redrawn W dq) osq = W2 at r1 r2 i0 i1 i2 i3 i4 kw ⊢
    go_wp2_with (go_at_call 61; refine (hS _).mono ?_; rintro e w4 ⟨rfl, hk4⟩; have r1' := Kept.cell hk4 r1)
    go_ret
    refine ⟨congrArg Ending.returned (congrArg (Value.int .u16) ?_), kw.trans hk4⟩
    rw [u16_wrap, hH]
  · have q1 : v.tmod r = m := by rw [hN, if_neg hneg]; exact Int.tmod_eq_emod_of_nonneg (by omega)
    have q2 : v % r = m := by rw [hN, if_neg hneg]
    clear hN
    go_enter Tryd.func46, Tryd.ntmps46
    go_upto_region 5 with (go_at_call 55; refine (h2 _).mono ?_; rintro e w' ⟨rfl, rfl⟩)
    generalize hW : (w.alloc (.cells #[.string (nm (cOp k - 1)), .int .i64 (cBits k), .string (chr (cForm k)), .string (chr (cKind k)), .int .i64 (cBy k), .slice a (cLen k) cap] 56)).alloc (.cells #[.int .u8 op, .int .i64 d, .int .i64 s, .int .i64 t, .int .i64 imm] 27) = W at hC2 kW r1 r2 r5 i0 i1 i2 i3 i4 ⊢
    have cX : ∀ d' os, Calls Tryd.prog 60 #[.int .u32 m, .slice a (cLen k) cap] (grow (redrawn W d') os) fun e w'' => e = .returned (.tuple #[.int .u32 sc, .int .i64 0]) ∧ ∃ p : Regrown, w'' = grow (redrawn W p.d) p.os := fun d' os => Calls.regrown_of (hX _ (hC2.kept (below_regrown W d' os)))
    have g5 := cell_regrown r5
    have z1 : ¬ r = 0 := by omega
    have z2 : (r == 0) = false := by simpa using z1
    have z3 : wrap64 m = m := wrap64_id (by omega) (by omega)
    have z4 : IntKind.u32.wrap m = m := u32_wrap_id hm0 (by omega)
    refine wp_region_quiet_below (by kernel_rfl) (by kernel_rfl) ?_
    repeat (quiet_step (exact cX _ _))
    refine wpQuiet_nil ?_
    intro _ hw'
    obtain ⟨⟨dq, osq⟩, hw''⟩ := hw'
    subst hw''
    have kB := below_regrown W dq osq
    replace r1 := Kept.cell kB r1
    replace r2 := Kept.cell kB r2
    replace i0 := Kept.cell kB i0
    replace i1 := Kept.cell kB i1
    replace i2 := Kept.cell kB i2
    replace i3 := Kept.cell kB i3
    replace i4 := Kept.cell kB i4
    have kw := kW.trans kB
    clear kB kW cX g5 r5 hC2 hX hW
    generalize grow (redrawn W dq) osq = W2 at r1 r2 i0 i1 i2 i3 i4 kw ⊢
    go_wp2_with (go_at_call 61; refine (hS _).mono ?_; rintro e w4 ⟨rfl, hk4⟩; have r1' := Kept.cell hk4 r1)
    go_ret
    refine ⟨congrArg Ending.returned (congrArg (Value.int .u16) ?_), kw.trans hk4⟩
    rw [u16_wrap, hH]
end Go.Proofs.YtbmcanpjpibecaaDoor
