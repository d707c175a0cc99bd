/- The document's own Insn. -/
import Derived.Test.YtbmcanpjpibecaaDoorOi
namespace Go.Proofs.YtbmcanpjpibecaaDoor
open Go.RowKit

set_option maxRecDepth 20000 in
set_option maxHeartbeats 6400000 in
theorem insnR_walk (H : Nat) (hH : H ≤ 65535) (w : World) :
    Calls Tryd.prog 14 #[.int .u16 (H : Int)] w fun e w' => e = .returned (.tuple #[insnV (hOp H) (hRd H) (hRs1 H) (hRs2 H) (hImm H), .int .i64 (hErr H)]) ∧ Kept w w' := by
  have hB0 := Box.make w 0 0 0 0 0
  have hK0 := Kept.alloc w (.cells #[.int .u8 0, .int .i64 0, .int .i64 0, .int .i64 0, .int .i64 0] 27)
  go_enter Tryd.func14, Tryd.ntmps14
  go_upto_region 1 with fail
  generalize w.alloc (.cells #[.int .u8 0, .int .i64 0, .int .i64 0, .int .i64 0, .int .i64 0] 27) = W0 at hB0 hK0 ⊢
  go_upto_region 2 with (go_at_call 22; refine (rows_walk _).mono ?_; rintro e w2 ⟨b, rfl, hk2, hR⟩)
  have hB2 := hB0.kept hk2
  have hK2 := hK0.trans hk2
  clear hB0 hK0 hk2
  go_wp2
  go_loopw [5] (fun i wr => ∃ k : Nat, k ≤ 33 ∧ k ≤ hIx H ∧ i = .int .i64 (k : Int) ∧ Kept w2 wr) (fun i _ => 33 - (intOf i).toNat)
  case atStart => exact ⟨0, by omega, by omega, rfl, Kept.refl _⟩
  case round =>
    obtain ⟨k, hk, hkc, rfl, hKr⟩ := hrel
    rcases Nat.lt_or_ge k 33 with hk33 | hk33
    · obtain ⟨a, cap, r0, r1, r2, r3, r4, r5, hC⟩ := (hR.kept hKr) k hk33
      rw [Nat.mul_comm] at r0 r1 r2 r3 r4 r5
      have hk33' : (k : Int) < 33 := by omega
      go_upto_region 6 with (go_at_call 23; refine (of_row k hk33 H hH a cap _ hC).mono ?_; rintro e w5 ⟨o, d, s, t, i, rfl, hk5, hok⟩)
      have hnext : okB k H = false → k + 1 ≤ hIx H := fun hf => by
        rcases Nat.lt_or_ge k (hIx H) with h | h
        · exact h
        · have hkk : hIx H = k := by omega
          have := hIx_hit (H := H) (by omega)
          rw [hkk, hf] at this
          cases this
      have hKa := (hKr.trans hk5).trans (Kept.alloc w5 (.cells #[.int .u8 o, .int .i64 d, .int .i64 s, .int .i64 t, .int .i64 i] 27))
      have hBb := hB2.kept hKa
      have hCb := Box.make w5 o d s t i
      clear r0 r1 r2 r3 r4 r5 hC hk5 hKr
      generalize w5.alloc (.cells #[.int .u8 o, .int .i64 d, .int .i64 s, .int .i64 t, .int .i64 i] 27) = W5 at hKa hBb hCb ⊢
      cases hb : okB k H
      · rw [hb] at hnext
        go_wp2
        exact ⟨⟨k + 1, by omega, hnext rfl, by simp, hKa⟩, by simp [intOf]; omega⟩
      · obtain ⟨rfl, rfl, rfl, rfl, rfl⟩ := hok hb
        have hx := hIx_of hk33 hb
        have hBc := hBb
        obtain ⟨d0, d1, d2, d3, d4, f0, f1, f2, f3, f4⟩ := hBc
        obtain ⟨e0, e1, e2, e3, e4, _, _, _, _, _⟩ := hCb
        have hQ := hBb.put (cOp k) (oD (cForm k) H) (oS (cForm k) H) (oT (cForm k) H) (oImm k H)
        have hK := below_put (hK2.trans hKa) (b := w.heap.size) (Nat.le_refl _) (cOp k) (oD (cForm k) H) (oS (cForm k) H) (oT (cForm k) H) (oImm k H)
        have hv : insnV (hOp H) (hRd H) (hRs1 H) (hRs2 H) (hImm H) = insnV (cOp k) (oD (cForm k) H) (oS (cForm k) H) (oT (cForm k) H) (oImm k H) := by
          simp only [hOp, hRd, hRs1, hRs2, hImm, hx, hk33, if_true]
        have he : hErr H = 0 := if_pos (by omega)
        go_wp2
        refine bodyPost_ret (v := .tuple #[insnV (cOp k) (oD (cForm k) H) (oS (cForm k) H) (oT (cForm k) H) (oImm k H), .int .i64 0]) (by simp [results, Tryd.results14, go_sem, hQ.c0, hQ.c1, hQ.c2, hQ.c3, hQ.c4]) rfl ⟨by first | rfl | rw [hv, he], hK⟩
    · obtain rfl : k = 33 := by omega
      have hBb := hB2.kept hKr
      have hBc := hBb
      obtain ⟨d0, d1, d2, d3, d4, f0, f1, f2, f3, f4⟩ := hBc
      have hQ := hBb.put 0 0 0 0 0
      have hK := below_put (hK2.trans hKr) (b := w.heap.size) (Nat.le_refl _) 0 0 0 0 0
      have hn : ¬ hIx H < 33 := by omega
      have hv : insnV (hOp H) (hRd H) (hRs1 H) (hRs2 H) (hImm H) = insnV 0 0 0 0 0 := by simp only [hOp, hRd, hRs1, hRs2, hImm, if_neg hn]
      have he : hErr H = 60 := if_neg hn
      go_wp2
      refine bodyPost_ret (v := .tuple #[insnV 0 0 0 0 0, .int .i64 60]) (by simp [results, Tryd.results14, go_sem, hQ.c0, hQ.c1, hQ.c2, hQ.c3, hQ.c4]) rfl ⟨by first | rfl | rw [hv, he], hK⟩
end Go.Proofs.YtbmcanpjpibecaaDoor
