/- What all the laws of le lean on. -/
import Derived.Test.YtjaeidmbeidhlaaRp
import Derived.Test.YtjaeidmbeidhlaaRg
import Derived.Test.YtjaeidmbeidhlaaPd
namespace Go.Proofs.Ytjaeidmbeidhlaa
open Go.RowKit

/-- A slice of the call's own, with all that is known of it. -/
theorem Own.all {w : World} {base : Nat} {v : Value} {l : List Int} (h : Own w base v l) :
    ∃ a cap, v = .slice a l.length cap ∧ l.length ≤ cap ∧ Byt w a l ∧ (a = none → l.length = 0 ∧ cap = 0) := by
  obtain ⟨a, cap, hv, hc, hb⟩ := h.byt
  refine ⟨a, cap, hv, hc, hb, fun ha => ?_⟩
  rcases h.2 with ⟨hv', hn⟩ | ⟨g, cap', cur, hv', _⟩
  · rw [hv] at hv'
    simp only [Value.slice.injEq] at hv'
    exact ⟨hn, hv'.2.2⟩
  · rw [hv, ha] at hv'
    simp at hv'

theorem Own.some {w : World} {base : Nat} {v : Value} {l : List Int} (h : Own w base v l) (hp : 0 < l.length) :
    ∃ g cap, v = .slice (some ⟨g, 0, none⟩) l.length cap ∧ l.length ≤ cap ∧ base ≤ g ∧ g < w.heap.size ∧ ∀ i, i < l.length → w.cell? ⟨g, i, none⟩ = some (.int .u8 (l.getD i 0)) := by
  have hlt := h.lt
  have hcell := @World.ownsRow.cells w base 5 1 v l.length (l.map (Value.int .u8)) h
  rcases h.2 with ⟨_, hn⟩ | ⟨g, cap, cur, hv, hb, _, hnc, _⟩
  · omega
  · refine ⟨g, cap, hv, hnc, hb, (hlt g (by rw [hv]; rfl)).2, fun i hi => ?_⟩
    have := hcell (g := g) (by rw [hv]; rfl) i (.int .u8 (l.getD i 0)) (by simp [hi, List.getD])
    have e : (⟨g, 0, none⟩ : Addr).add i = ⟨g, i, none⟩ := by unfold Addr.add; split <;> simp_all
    rwa [e] at this

/-- Put, where it gives bytes. -/
theorem put_some (n size : Int) (w : World) (h0 : -9223372036854775808 ≤ n) (h1 : n ≤ 9223372036854775807) (hm : mayB n size = true) :
    Calls Try.prog 9 #[.int .i64 n, .int .i64 size] w fun e w' => ∃ g cap, e = .returned (.tuple #[.slice (some ⟨g, 0, none⟩) size.toNat cap, .int .i64 0]) ∧ size.toNat ≤ cap ∧ Byt w' (some ⟨g, 0, none⟩) (byN (uOf n) size.toNat) ∧ Kept w w' := by
  refine (put_walk n size w h0 h1).mono ?_
  rintro e w' ⟨v, rfl, hown, hk⟩
  have e1 : putL n size = byN (uOf n) size.toNat := by simp [putL, hm]
  have e2 : putE n size = 0 := by simp [putE, hm]
  rw [e1] at hown
  rw [e2]
  have hs := mayB_sz hm
  obtain ⟨g, cap, rfl, hc, _, _, hcell⟩ := hown.some (by rw [byN_length]; rcases szB_true hs with rfl | rfl | rfl | rfl <;> decide)
  rw [byN_length] at hc ⊢
  exact ⟨g, cap, rfl, hc, .inr ⟨g, 0, rfl, fun i hi => by rw [Nat.zero_add]; exact hcell i hi⟩, hk⟩

theorem alive_put : byN (uOf 258) 2 = [2, 1] := by decide +kernel
theorem alive_get : getV [2, 1] 0 2 = 258 ∧ getE [2, 1] 0 2 = 0 := by decide +kernel

/-- Get at two bytes. -/
theorem get_two (g cap : Nat) (w : World) (hc : 2 ≤ cap) (hb : Byt w (some ⟨g, 0, none⟩) [2, 1]) :
    Calls Try.prog 10 #[.slice (some ⟨g, 0, none⟩) 2 cap, .int .i64 0, .int .i64 2] w fun e w' => e = .returned (.tuple #[.int .i64 258, .int .i64 0]) ∧ w' = w := by
  have := get_walk (some ⟨g, 0, none⟩) cap [2, 1] 0 2 w (by decide) (by decide) hc hb
  rwa [alive_get.1, alive_get.2] at this

set_option maxHeartbeats 1600000 in
theorem alive_walk (w : World) : Calls Try.prog 12 #[] w fun e w' => e = .returned (.bool true) ∧ Kept w w' := by
  go_enter Try.func12, Try.ntmps12
  go_wp2_with (go_at_call 9; refine (put_some 258 2 _ (by decide) (by decide) (by decide +kernel)).mono ?_; rintro e w1 ⟨g, cap, rfl, hcap, hb, hk⟩)
  have hb2 : Byt w1 (some ⟨g, 0, none⟩) [2, 1] := by
    have := hb
    rwa [show Int.toNat 2 = 2 from rfl, alive_put] at this
  have hc0 : w1.cell? ⟨g, 0, none⟩ = some (.int .u8 2) := by
    rcases hb2 with h | ⟨b, off, ha, hc⟩
    · cases h
    · cases ha; exact hc 0 (by decide)
  have h2 : 2 ≤ cap := hcap
  have h0 : 0 < cap := by omega
  clear hb hcap
  go_wp2_with (go_at_call 10; refine (get_two g cap _ h2 hb2).mono ?_; rintro e w2 ⟨rfl, rfl⟩)
  go_ret
  exact ⟨rfl, hk⟩
/-- Pad, where it gives bytes. -/
theorem pad_some (a : Option Addr) (cap : Nat) (m : Int) (l : List Int) (w : World) (hl : l.length ≤ 1000000) (hb : Byt w a l) (hm : muB m = true) :
    Calls Try.prog 11 #[.slice a l.length cap, .int .i64 m] w fun e w' => ∃ g c, e = .returned (.tuple #[.slice (some ⟨g, 0, none⟩) (l.length + padK l.length m.toNat) c, .int .i64 0]) ∧ l.length + padK l.length m.toNat ≤ c ∧
      (∀ i, i < l.length + padK l.length m.toNat → w'.cell? ⟨g, i, none⟩ = some (.int .u8 ((l ++ List.replicate (padK l.length m.toNat) 0).getD i 0))) ∧ Kept w w' := by
  obtain ⟨h0, h1⟩ := of_decide_eq_true hm
  have e : ((m.toNat : Nat) : Int) = m := by omega
  have := pad_yes a cap m.toNat l w hl (by omega) (by omega) hb
  rw [e] at this
  refine this.mono ?_
  rintro e w' ⟨g, c, rfl, hown, hk⟩
  have hlen : (l ++ List.replicate (padK l.length m.toNat) (0 : Int)).length = l.length + padK l.length m.toNat := by simp
  rcases hown.2 with ⟨hv, _⟩ | ⟨g', cap', cur, hv, hb, _, hnc, _⟩
  · simp at hv
  · have hv' := hv
    simp only [Value.slice.injEq, Option.some.injEq, Addr.mk.injEq, and_true] at hv'
    obtain ⟨rfl, _, rfl⟩ := hv'
    refine ⟨g, c, rfl, by rw [← hlen]; exact hnc, fun i hi => ?_, hk⟩
    have hown' := hown
    unfold Own at hown'
    rw [hlen] at hown'
    rw [hown'.cellAt i (by omega)]
    simp only [List.getElem?_map, List.getD]
    rw [List.getElem?_eq_getElem (by rw [hlen]; exact hi)]
    rfl

/-- WHAT THE WALK IS TOLD OF A SLICE OF INTEGERS THAT CAME IN. -/
def IsRow (k : IntKind) (w : World) (a : Option Addr) (len cap : Nat) (zs : List Int) : Prop :=
  (a = none ∧ len = 0 ∧ cap = 0 ∧ zs = []) ∨
  ∃ x, a = some x ∧ len ≤ cap ∧ cap ≤ maxLen ∧ zs.length = cap ∧ (∀ i, i < zs.length → w.cell? (x.add i) = some (.int k (zs.getD i 0))) ∧ ∀ n ∈ zs, (Lit.int k n).wf = true

theorem wf_u8 {n : Int} (h : (Lit.int .u8 n).wf = true) : 0 ≤ n ∧ n < 256 := by
  simp only [Lit.wf, IntKind.min, IntKind.max, IntKind.signed, IntKind.bits, Bool.and_eq_true] at h
  simp at h
  omega
theorem wf_int {n : Int} (h : (Lit.int .i64 n).wf = true) : -9223372036854775808 ≤ n ∧ n ≤ 9223372036854775807 := by
  simp only [Lit.wf, IntKind.min, IntKind.max, IntKind.signed, IntKind.bits, Bool.and_eq_true, decide_eq_true_eq, if_true] at h
  omega

/-- .. as bytes. -/
theorem IsRow.byt {w : World} {a : Option Addr} {len cap : Nat} {zs : List Int} (h : IsRow .u8 w a len cap zs) :
    ∃ l : List Int, l.length = len ∧ len ≤ cap ∧ Byt w a l ∧ (a = none → len = 0 ∧ cap = 0) ∧ ∀ x ∈ l, 0 ≤ x ∧ x < 256 := by
  rcases h with ⟨rfl, rfl, rfl, rfl⟩ | ⟨x, rfl, hl, hm, hz, hcell, hwz⟩
  · exact ⟨[], rfl, Nat.le_refl _, .inl rfl, fun _ => ⟨rfl, rfl⟩, by simp⟩
  · refine ⟨zs.take len, by simp; omega, hl, ?_, by simp, fun n hn => wf_u8 (hwz n (List.mem_of_mem_take hn))⟩
    by_cases h0 : len = 0
    · exact .inl (by simp [h0])
    · obtain ⟨b, off, spot⟩ := x
      have hc := hcell 0 (by omega)
      have hspot : spot = none := by simpa [Addr.add] using World.cell?_spot hc
      subst hspot
      refine .inr ⟨b, off, rfl, fun i hi => ?_⟩
      have hi' : i < len := by simp at hi; omega
      have h1 := hcell i (by omega)
      have e : (⟨b, off, none⟩ : Addr).add i = ⟨b, off + i, none⟩ := by unfold Addr.add; split <;> simp_all
      rw [e] at h1
      rw [h1]
      simp [List.getD, hi']
end Go.Proofs.Ytjaeidmbeidhlaa
