/- The law LeCodes, walked. -/
import Derived.Test.YtjaeidmbeidhlaaWd
namespace Go.Proofs.Ytjaeidmbeidhlaa
open Go.RowKit

theorem leCodes_great (n size at_ mu : Int) (a : Option Addr) (len cap : Nat) (w : World) (h : 10000 < len) :
    Calls Try.prog 4 #[.int .i64 n, .int .i64 size, .slice a len cap, .int .i64 at_, .int .i64 mu] w fun e w' => e = .returned (.bool true) ∧ Kept w w' := by
  go_enter Try.func4, Try.ntmps4
  go_wp2
  go_ret
  exact ⟨rfl, Kept.refl _⟩

set_option maxHeartbeats 3200000 in
theorem leCodes_small (n size at_ mu : Int) (a : Option Addr) (cap : Nat) (l : List Int) (w : World) (h0 : -9223372036854775808 ≤ n) (h1 : n ≤ 9223372036854775807) (hlen : l.length ≤ 10000)
    (hcap : l.length ≤ cap) (hb : Byt w a l) (hn : a = none → l.length = 0 ∧ cap = 0) (hr : ∀ x ∈ l, 0 ≤ x ∧ x < 256) :
    Calls Try.prog 4 #[.int .i64 n, .int .i64 size, .slice a l.length cap, .int .i64 at_, .int .i64 mu] w fun e w' => e = .returned (.bool true) ∧ Kept w w' := by
  have hn' := hn
  go_enter Try.func4, Try.ntmps4
  go_upto_region 4 with (at_builtin; refine wpList_append_len rfl (.const (.slice none 0 0)) (.tmp 28) rfl w.heap.size (.slice none 0 0) [] l a l.length cap rfl rfl rfl (Own.nil _ _) hb hn (by simp; omega) w (Kept.refl _) (Nat.le_refl _) ?_; intro v1 w1 R1 K1)
  have R1' : Own w1 w.heap.size v1 l := R1
  obtain ⟨A, C, rfl, hC, B1, _⟩ := R1'.all
  clear R1 R1'
  go_upto_region 5 with (go_at_call 9; refine (put_walk n size _ h0 h1).mono ?_; rintro e w2 ⟨v2, rfl, R2, K2⟩)
  obtain ⟨A2, C2, rfl, _, B2, _⟩ := R2.all
  clear R2
  go_upto_region 6 with (go_at_call 13; refine (rput_walk n size _).mono ?_; rintro e w3 ⟨v3, rfl, R3, K3⟩)
  obtain ⟨A3, C3, rfl, _, B3, _⟩ := R3.all
  clear R3
  have Bown := (B1.kept K2).kept K3
  have Barg := ((hb.kept K1).kept K2).kept K3
  have K4 : Kept w w3 := (Kept.trans K1 K2).trans K3
  go_upto_region 7 with (go_at_call 10; refine (get_walk A C l at_ size _ hr (by omega) hC Bown).mono ?_; rintro e w4 ⟨rfl, hw4⟩; subst hw4)
  go_upto_region 8 with (go_at_call 14; refine (rget_walk a cap l at_ size _ hr (by omega) hcap Barg).mono ?_; rintro e w4 ⟨rfl, hw4⟩; subst hw4)
  obtain ⟨q, hq⟩ : ∃ q, (putL n size).length = q := ⟨_, rfl⟩
  obtain ⟨sp, hsp⟩ : ∃ sp, sp = strOfNums (putL n size) := ⟨_, rfl⟩
  obtain ⟨pe, hpe⟩ : ∃ pe, putE n size = pe := ⟨_, rfl⟩
  obtain ⟨x, hx⟩ : ∃ x, getV l at_ size = x := ⟨_, rfl⟩
  obtain ⟨xe, hxe⟩ : ∃ xe, getE l at_ size = xe := ⟨_, rfl⟩
  rw [hq, hpe, hx, hxe]
  have B2' : Byt w4 A2 (putL n size) := B2.kept K3
  clear hpe hx hxe B1 B2 K1 K2 K3 hb hn
  go_upto_region 9 with (go_at_call 11; refine (pad_walk A C mu l _ (by omega) Bown).mono ?_; rintro e w5 ⟨v5, rfl, R5, K5⟩)
  go_upto_region 10 with (go_at_call 15; refine (rpad_walk a cap mu l _ (by omega) (Barg.kept K5) hn').mono ?_; rintro e w6 ⟨v6, rfl, R6, K6⟩)
  obtain ⟨A6, C6, rfl, _, B6, _⟩ := R6.all
  have R5' : Own w6 w4.heap.size v5 (padL l mu) := R5.kept K6 (fun g hg => (R5.lt g hg).2)
  obtain ⟨su, hsu⟩ : ∃ su, su = strOfNums (padL l mu) := ⟨_, rfl⟩
  obtain ⟨ue, hue⟩ : ∃ ue, padE mu = ue := ⟨_, rfl⟩
  obtain ⟨u, hul⟩ : ∃ u, (padL l mu).length = u := ⟨_, rfl⟩
  have hu1 : u ≤ 14096 := by
    rw [← hul]
    cases hm : muB mu
    · rw [(pad_2 hm).1]; simp
    · have hm' := of_decide_eq_true hm
      rw [(pad_0 hm).1]
      have := padK_le l.length mu.toNat (by omega) (by omega)
      simp
      omega
  have K56 : Kept w4 w6 := K5.trans K6
  have hS1 := str_len w6 _ _ q C2 sp (B2'.kept K56) hq hsp
  have hS2 := str_len w6 _ _ q C3 sp (B3.kept K56) hq hsp
  have hS4 := str_len w6 _ _ u C6 su B6 hul hsu
  obtain ⟨sb, hsb⟩ : ∃ sb, sb = strOfNums l := ⟨_, rfl⟩
  rw [hue, hul]
  by_cases hpos : 0 < u
  · obtain ⟨g, c, rfl, hc, hg1, hg2, _⟩ := R5'.some (by rw [hul]; exact hpos)
    have B5 : Byt w6 (some ⟨g, 0, none⟩) (padL l mu) := by
      obtain ⟨a', c', hv, _, hb', _⟩ := R5'.all
      cases hv
      exact hb'
    have hS3 := str_len w6 _ _ u c su B5 hul hsu
    rw [hul] at hc ⊢
    have R7 : w6.ownsRow w4.heap.size 5 1 (.slice (some ⟨g, 0, none⟩) u c) u ((padL l mu).map (Value.int .u8)) := by
      have := R5'
      unfold Own at this
      rwa [hul] at this
    clear R5 R5' R6 hue B2' B3 B6 B5 hsp hsu hg2
    have HUL : Hid ((padL l mu).length = u) := hul
    clear hul hq
    go_wp2
    go_loopw [24] (fun z wr => ∃ k : Nat, k ≤ u ∧ z = .int .i64 k ∧ ∃ L : List Int, L.length = u ∧ wr.ownsRow w4.heap.size 5 1 (.slice (some ⟨g, 0, none⟩) u c) u (L.map (Value.int .u8)) ∧ Kept w4 wr) (fun z _ => u - (intOf z).toNat)
    case atStart => exact ⟨0, Nat.zero_le _, rfl, _, HUL.out, R7, K56⟩
    case round =>
      obtain ⟨k, hk, rfl, L, hL, hown, hkept⟩ := hrel
      clear R7 HUL hS1 hS2 hS3 hS4
      by_cases hlt : k < u
      · have hcell : wr.cell? ⟨g, k, none⟩ = some (.int .u8 (L.getD k 0)) := by
          rw [hown.cellAt k (by omega)]
          simp [List.getD, show k < L.length by omega]
        have hf := hown.frozenAt k
        obtain ⟨y, hy⟩ : ∃ y, L.getD k 0 = y := ⟨_, rfl⟩
        rw [hy] at hcell
        have HL : Hid (L.length = u) := hL
        clear hy hL
        go_wp2
        go_roundw
        case rel =>
          refine ⟨k + 1, by omega, by go_num, L.set k ((y + 1) % 256), by rw [List.length_set]; exact HL.out, ?_, ?_⟩
          · rw [List.map_set]
            exact (hown.stored k _).1
          · exact hkept.grown (hown.stored k _).2 hkept.size (fun j e => by cases e; exact hg1)
        case measure => simp [intOf]; omega
      · have hT1 := str_len wr _ _ l.length C sb (Bown.kept hkept) rfl hsb
        have hT2 := str_len wr _ _ l.length cap sb (Barg.kept hkept) rfl hsb
        clear hsb
        go_wp2
        go_ret
        exact ⟨rfl, K4.trans hkept⟩
  · obtain rfl : u = 0 := by omega
    obtain ⟨A5, C5, rfl, _, B5, _⟩ := R5'.all
    have hS3 := str_len w6 _ _ 0 C5 su B5 hul hsu
    rw [hul]
    have hT1 := str_len w6 _ _ l.length C sb (Bown.kept K56) rfl hsb
    have hT2 := str_len w6 _ _ l.length cap sb (Barg.kept K56) rfl hsb
    clear R5 R5' R6 hue B2' B3 B6 B5 hsp hsu hul hq hsb
    go_wp2
    go_loop [24] (fun z => z = .int .i64 0) (fun _ => 0)
    case atStart => rfl
    case round =>
      subst hrel
      go_wp2
      go_ret
      exact ⟨rfl, K4.trans K56⟩

theorem leCodes_walk (n size at_ mu : Int) (a : Option Addr) (cap : Nat) (l : List Int) (w : World) (h0 : -9223372036854775808 ≤ n) (h1 : n ≤ 9223372036854775807)
    (hcap : l.length ≤ cap) (hb : Byt w a l) (hn : a = none → l.length = 0 ∧ cap = 0) (hr : ∀ x ∈ l, 0 ≤ x ∧ x < 256) :
    Calls Try.prog 4 #[.int .i64 n, .int .i64 size, .slice a l.length cap, .int .i64 at_, .int .i64 mu] w fun e w' => e = .returned (.bool true) ∧ Kept w w' := by
  by_cases hlen : 10000 < l.length
  · exact leCodes_great n size at_ mu a l.length cap w hlen
  · exact leCodes_small n size at_ mu a cap l w h0 h1 (by omega) hcap hb hn hr
end Go.Proofs.Ytjaeidmbeidhlaa
