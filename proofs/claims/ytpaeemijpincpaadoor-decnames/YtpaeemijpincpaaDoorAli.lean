/- The chapter's examples: what dec.Insn and dec.Fixed give there; the law's first ones. -/
import Derived.Test.YtpaeemijpincpaaDoorKit
import Derived.Test.YtpaeemijpincpaaDoorFld
import Derived.Test.YtpaeemijpincpaaDoorIns
import Derived.Deep.DeepCutAuto
namespace Go.Proofs.YtpaeemijpincpaaDoor
open Go.RowKit
theorem Box.new (w : World) (op rd rs1 rs2 imm : Int) : Box (w.alloc (.cells #[.int .u8 op, .int .i64 rd, .int .i64 rs1, .int .i64 rs2, .int .i64 imm] 23)) w.heap.size op rd rs1 rs2 imm := by
  constructor <;> simp
/-- dec.Insn at a number, its answer told outright. -/
theorem dec_lit (x op rd rs1 rs2 imm er : Int) (h0 : 0 ≤ x) (h1 : x < 4294967296) (h : (dOp x.toNat == op && dRd x.toNat == rd && dRs1 x.toNat == rs1 && dRs2 x.toNat == rs2 && dImm x.toNat == imm && dErr x.toNat == er) = true) (w : World) (hT : Tab w) :
    Calls Tryd.prog 7 #[.int .u32 x] w fun e w' => e = .returned (.tuple #[insnV op rd rs1 rs2 imm, .int .i64 er]) ∧ Kept w w' := by
  have hd := dec_walk x h0 h1 w hT
  simp only [Bool.and_eq_true, beq_iff_eq] at h
  obtain ⟨⟨⟨⟨⟨e0, e1⟩, e2⟩, e3⟩, e4⟩, e5⟩ := h
  rwa [e0, e1, e2, e3, e4, e5] at hd
theorem dec_a (w : World) (hT : Tab w) : Calls Tryd.prog 7 #[.int .u32 4293984403] w fun e w' => e = .returned (.tuple #[insnV 22 1 2 0 (-1), .int .i64 0]) ∧ Kept w w' :=
  dec_lit 4293984403 22 1 2 0 (-1) 0 (by decide) (by decide) (by decide +kernel) w hT
theorem dec_b (w : World) (hT : Tab w) : Calls Tryd.prog 7 #[.int .u32 2143267] w fun e w' => e = .returned (.tuple #[insnV 21 0 1 2 8, .int .i64 0]) ∧ Kept w w' :=
  dec_lit 2143267 21 0 1 2 8 0 (by decide) (by decide) (by decide +kernel) w hT
theorem dec_c (w : World) (hT : Tab w) : Calls Tryd.prog 7 #[.int .u32 0] w fun e w' => e = .returned (.tuple #[insnV 0 0 0 0 0, .int .i64 40]) ∧ Kept w w' :=
  dec_lit 0 0 0 0 0 0 40 (by decide) (by decide) (by decide +kernel) w hT
theorem dec_d (w : World) (hT : Tab w) : Calls Tryd.prog 7 #[.int .u32 4294967295] w fun e w' => e = .returned (.tuple #[insnV 0 0 0 0 0, .int .i64 40]) ∧ Kept w w' :=
  dec_lit 4294967295 0 0 0 0 0 40 (by decide) (by decide) (by decide +kernel) w hT
theorem dec_e (w : World) (hT : Tab w) : Calls Tryd.prog 7 #[.int .u32 33591443] w fun e w' => e = .returned (.tuple #[insnV 28 1 1 0 32, .int .i64 0]) ∧ Kept w w' :=
  dec_lit 33591443 28 1 1 0 32 0 (by decide) (by decide) (by decide +kernel) w hT
theorem dec_f (w : World) (hT : Tab w) : Calls Tryd.prog 7 #[.int .u32 100700307] w fun e w' => e = .returned (.tuple #[insnV 0 0 0 0 0, .int .i64 40]) ∧ Kept w w' :=
  dec_lit 100700307 0 0 0 0 0 40 (by decide) (by decide) (by decide +kernel) w hT
theorem fix_a (w : World) : Calls Tryd.prog 8 #[.int .u8 82] w fun e w' => e = .returned (.tuple #[.int .u32 4261441663, .int .i64 0]) ∧ Kept w w' := by
  have h := fixed_walk 82 w
  rwa [show fixV 82 = 4261441663 by decide +kernel, show plErr 82 = 0 by decide +kernel] at h
theorem fix_b (w : World) : Calls Tryd.prog 8 #[.int .u8 78] w fun e w' => e = .returned (.tuple #[.int .u32 4294967295, .int .i64 0]) ∧ Kept w w' := by
  have h := fixed_walk 78 w
  rwa [show fixV 78 = 4294967295 by decide +kernel, show plErr 78 = 0 by decide +kernel] at h
theorem fix_c (w : World) : Calls Tryd.prog 8 #[.int .u8 120] w fun e w' => e = .returned (.tuple #[.int .u32 0, .int .i64 2]) ∧ Kept w w' := by
  have h := fixed_walk 120 w
  rwa [show fixV 120 = 0 by decide +kernel, show plErr 120 = 2 by decide +kernel] at h

abbrev cells5 (op rd rs1 rs2 imm : Int) : Obj := .cells #[.int .u8 op, .int .i64 rd, .int .i64 rs1, .int .i64 rs2, .int .i64 imm] 23
theorem alive_walk (w : World) (hT : Tab w) : Calls Tryd.prog 9 #[] w fun e w' => e = .returned (.bool true) ∧ Kept w w' := by
  go_enter Tryd.func9, Tryd.ntmps9
  go_upto_region 2 with (go_at_call 7; refine (dec_a _ hT).mono ?_; rintro e w1 ⟨rfl, hk1⟩)
  have hT1 := (hT.kept hk1).kept (Kept.alloc w1 (cells5 22 1 2 0 (-1)))
  have hB1 := Box.new w1 22 1 2 0 (-1)
  have hK1 := hk1.trans (Kept.alloc w1 (cells5 22 1 2 0 (-1)))
  clear hk1
  go_upto_region 3 with (go_at_call 7; refine (dec_b _ hT1).mono ?_; rintro e w2 ⟨rfl, hk2⟩)
  have hB2 := hB1.kept hk2
  have hlt := hB2.lt
  have hne := Nat.ne_of_lt hlt
  have hK2 := (hK1.trans hk2).trans (Kept.alloc w2 (cells5 21 0 1 2 8))
  obtain ⟨c0, c1, c2, c3, c4, f0, f1, f2, f3, f4⟩ := hB2
  clear hB1 hT1 hK1 hk2
  go_wp2
  go_ret
  exact ⟨rfl, hK2⟩
end Go.Proofs.YtpaeemijpincpaaDoor
