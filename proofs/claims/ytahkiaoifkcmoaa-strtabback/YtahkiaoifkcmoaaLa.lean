/- The law StrtabBack, walked. -/
import Derived.Test.YtahkiaoifkcmoaaSw
namespace Go.Proofs.Ytahkiaoifkcmoaa
open Go.RowKit

theorem bld_err {ss : List ByteArray} (h : bldE ss ≠ 0) : bldT ss = [] ∧ bldP ss = [] := by simp [bldT, bldP, h]
theorem Own.empty {w : World} {base : Nat} {v : Value} (h : Own w base v []) : ∃ a cap, v = .slice a 0 cap := by
  obtain ⟨a, cap, hv, _⟩ := h.byt
  exact ⟨a, cap, hv⟩
theorem OwnI.empty {w : World} {base : Nat} {v : Value} (h : OwnI w base v []) : ∃ a cap, v = .slice a 0 cap := by
  obtain ⟨a, cap, hv, _⟩ := h.nums
  exact ⟨a, cap, hv⟩
theorem own_row {w : World} {base : Nat} {v : Value} {l : List Int} (h : Own w base v l) {n : Nat} (hn : l.length = n) (h0 : 0 < n) : ∃ g cap, v = .slice (some ⟨g, 0, none⟩) n cap ∧ n ≤ cap ∧ ∀ i, i < l.length → w.cell? ⟨g, 0 + i, none⟩ = some (.int .u8 (l.getD i 0)) := by
  subst hn
  obtain ⟨g, cap, h1, h2, _, _, h3⟩ := h.some h0
  exact ⟨g, cap, h1, h2, fun i hi => by rw [Nat.zero_add]; exact h3 i hi⟩

set_option maxRecDepth 20000 in
set_option maxHeartbeats 3200000 in
theorem back_walk (a : Option Addr) (cap n : Nat) (ss : List ByteArray) (w : World) (hlen : ss.length = n) (hn : n ≤ maxLen) (hsz : ∀ s ∈ ss, s.size ≤ maxLen) (hS : Strs w a ss) :
    Calls Try.prog 5 #[.slice a n cap] w fun e w' => e = .returned (.bool true) ∧ Kept w w' := by
  go_enter Try.func5, Try.ntmps5
  go_upto_region 4 with (go_at_call 11; refine (alive_walk _).mono ?_; rintro e w1 ⟨rfl, k1⟩)
  have hGr := great_walk a cap n ss w1 hlen hn hsz (hS.kept k1)
  go_upto_region 6 with (go_at_call 13; refine hGr.mono ?_; rintro e w2 ⟨⟨g, rfl, hg⟩, hw1⟩; have hw2 := hw1.symm; subst hw2; clear hw1)
  · go_ret
    exact ⟨rfl, k1⟩
  have hB := build_walk a cap n ss w1 hlen hsz (hS.kept k1)
  clear hGr hg hn
  go_upto_region 7 with (go_at_call 10; refine hB.mono ?_; rintro e w2 ⟨v, p, rfl, hv, hp, k2⟩)
  have K2 : Kept w w2 := k1.trans k2
  clear hB
  by_cases hE : bldE ss = 0
  · obtain ⟨h1, h2, h3⟩ := bld_zero hE
    obtain ⟨_, eT, eP⟩ := bld_ok h1 h2 h3
    rw [eT] at hv
    rw [eP] at hp
    rw [hE]
    have hag := bld_again hE
    rw [eT] at hag
    obtain ⟨F, hF⟩ : ∃ F, fsts (nms ss) = F := ⟨_, rfl⟩
    have hnm : ∀ s ∈ ss, strOfNums (getS (tbl F) ((plc F (nm s) : Nat) : Int)) = s ∧ getR (tbl F) ((plc F (nm s) : Nat) : Int) = 0 := by rw [← hF]; exact fun s hs => get_name h3 h2 hs
    have hkt : ∀ k (hk : k < F.length), getS (tbl F) ((tbl (F.take k)).length : Nat) = F[k] ∧ getR (tbl F) ((tbl (F.take k)).length : Nat) = 0 := by subst hF; exact fun k hk => get_kth h3 h2 hk
    have hpl : ∀ i, i < n → (plcI ss).getD i 0 = ((plc F (nm (ss.getD i ByteArray.empty)) : Nat) : Int) := fun i hi => by
      have := plcI_at (ss := ss) (k := n) hlen (Nat.le_refl _) hi
      rw [show ss.take n = ss by rw [← hlen, List.take_length]] at this
      rw [this, ← hF, ← hlen, fk_all]
    have hrT : ∀ x ∈ tbl F, 0 ≤ x ∧ x < 256 := by rw [← hF]; exact tbl_range ss
    have hck : chkB (tbl F) = true := by rw [← hF]; exact chk_tbl h3
    have hFl : F.length ≤ 1024 := by
      have := fsts_length (nms ss)
      rw [nms_length, hF] at this
      omega
    have hFs : ∀ f ∈ F, f.length ≤ 64 := by
      intro f hf
      rw [← hF] at hf
      obtain ⟨s, hs, rfl⟩ := mem_first hf
      rw [nm_length]
      exact (wrong_false (bad_false h2 s hs)).1
    rw [hF] at hv h3 hag
    have hL0 := tbl_pos F
    obtain ⟨L, hL⟩ : ∃ L, (tbl F).length = L := ⟨_, rfl⟩
    rw [hL] at h3 hL0
    obtain ⟨g, C, rfl, hLC, hcT⟩ := own_row hv hL hL0
    obtain ⟨q, d, rfl, hnd, hN⟩ := hp.let (show (plcI ss).length = n by rw [plcI_length, hlen])
    have hbT : Byt w2 (some ⟨g, 0, none⟩) (tbl F) := .inr ⟨g, 0, rfl, hcT⟩
    have hC := check_len (some ⟨g, 0, none⟩) L C (tbl F) w2 hL (by omega) hLC hbT
    rw [chkE_yes hck] at hC
    have hS2 := hS.kept K2
    have hn1 : n ≤ 1024 := by omega
    clear eT eP hv hp hE h1 hF hcT hS
    go_wp2_with (go_at_call 12; refine hC.mono ?_; rintro e w3 ⟨rfl, hw3⟩; have hw4 := hw3.symm; subst hw4; clear hw3)
    clear hC
    go_loop [7] (fun x => ∃ i : Nat, i ≤ n ∧ x = .int .i64 i) (fun x => n - (intOf x).toNat)
    case atStart => exact ⟨0, Nat.zero_le _, rfl⟩
    case round =>
      obtain ⟨i, hi, rfl⟩ := hrel
      by_cases hlt : i < n
      · obtain ⟨b, off, rfl, hc⟩ := hS2.at (show i < ss.length by omega)
        have c1 := hc i (by omega)
        rcases hN with hN | ⟨b', off', rfl, hc'⟩
        · rw [← plcI_length, hN] at hlen
          simp at hlen
          omega
        have c2 := hc' i (by rw [plcI_length]; omega)
        rw [hpl i hlt] at c2
        obtain ⟨s, hs⟩ : ∃ s, ss.getD i ByteArray.empty = s := ⟨_, rfl⟩
        have hmem : s ∈ ss := by rw [← hs]; exact getD_mem (by omega)
        rw [hs] at c1 c2
        have hG := get_walk (some ⟨g, 0, none⟩) L C (tbl F) ((plc F (nm s) : Nat) : Int) w2 hrT hL (by omega) hLC hbT
        rw [(hnm s hmem).1, (hnm s hmem).2] at hG
        obtain ⟨P, hP⟩ : ∃ P, plc F (nm s) = P := ⟨_, rfl⟩
        rw [hP] at hG c2
        have e1 := beq_true (rfl : s = s)
        clear hP hs hmem hc hc' hnm hkt hpl hrT hbT
        go_wp2_with (go_at_call 9; refine hG.mono ?_; rintro e w3 ⟨rfl, hw3⟩; have hw4 := hw3.symm; subst hw4; clear hw3)
        go_round
        case rel => exact ⟨i + 1, by omega, by go_num⟩
        case measure => simp [intOf]; omega
      · obtain rfl : i = n := by omega
        clear hN hS2 hnm hpl
        go_wp2
        go_loopw [10, 11] (fun v x wr => ∃ k : Nat, k ≤ F.length ∧ x = .int .i64 ((tbl (F.take k)).length : Nat) ∧ OwnS wr w2.heap.size v (strsOf (F.take k)) ∧ Kept w2 wr) (fun _ x _ => L - (intOf x).toNat)
        case atStart => exact ⟨0, Nat.zero_le _, rfl, OwnS.nil _ _, Kept.refl _⟩
        case round =>
          obtain ⟨k, hk, rfl, hO, hK⟩ := hrel
          by_cases hkl : k < F.length
          · have hq1 := tbl_lt F k hkl
            have hq2 := tbl_take_succ F k hkl
            have hkt1 := hkt k hkl
            have hf64 := hFs F[k] (List.getElem_mem hkl)
            have hG := get_walk (some ⟨g, 0, none⟩) L C (tbl F) ((tbl (F.take k)).length : Nat) wr hrT hL (by omega) hLC (hbT.kept hK)
            rw [hkt1.1, hkt1.2] at hG
            have hst := strsOf_take hkl
            have hsz1 : (strOfNums F[k]).size = F[k].length := strOfNums_size _
            obtain ⟨s, hs⟩ : ∃ s, strOfNums F[k] = s := ⟨_, rfl⟩
            obtain ⟨Q, hQ⟩ : ∃ Q, (tbl (F.take k)).length = Q := ⟨_, rfl⟩
            rw [hs] at hG hst hsz1
            rw [hQ] at hG hq1 hq2
            rw [hL] at hq1
            rw [hQ]
            obtain ⟨z, hz⟩ : ∃ z, F[k].length = z := ⟨_, rfl⟩
            rw [hz] at hq2 hsz1 hf64
            have z2 : w2.heap.size ≤ wr.heap.size := hK.size
            have hol : (strsOf (F.take k)).length + 1 ≤ 1000000 := by rw [strsOf_length, List.length_take]; omega
            have HQ : Hid ((tbl (F.take (k + 1))).length = Q + z + 1) := hq2
            have HS : Hid (strsOf (F.take (k + 1)) = strsOf (F.take k) ++ [s]) := hst
            clear hkt hkt1 hst hs hQ hz hq2 hFs hag hbT
            go_wp2_with (first
              | (go_at_call 9; refine hG.mono ?_; rintro e w3 ⟨rfl, hw3⟩; have hw4 := hw3.symm; subst hw4; clear hw3)
              | (at_builtin; refine wpList_append_name rfl _ _ rfl w2.heap.size _ (strsOf (F.take k)) s ⟨wr.heap.size, 0, none⟩ 1 rfl rfl (World.ownsRow.alloc hO _) (by simp) hol (by simp; omega) w2 (Below.alloc hK hK.size _) ?_; intro v' w4 hO' hK'))
            go_roundw
            case rel => exact ⟨k + 1, by omega, by rw [HQ.out]; go_num, by rw [HS.out]; exact hO', hK'⟩
            case measure => simp [intOf]; omega
          · obtain rfl : k = F.length := by omega
            rw [List.take_length] at hO ⊢
            rw [hL]
            obtain ⟨a5, c5, rfl, hst⟩ := hO.let (strsOf_length F)
            have hB := build_walk a5 c5 F.length (strsOf F) wr (strsOf_length F) (fun s hs => by
              obtain ⟨f, hf, rfl⟩ := List.mem_map.1 hs
              have := hFs f hf
              rw [strOfNums_size]
              unfold maxLen
              omega) hst
            have hbT2 := hbT.kept hK
            clear hkt hFs hO hst hbT
            go_upto_region 26 with (go_at_call 10; refine hB.mono ?_; rintro e w6 ⟨v6, p6, rfl, hv6, hp6, k6⟩)
            rw [hag.2] at hv6
            obtain ⟨a6, c6, rfl, _, hb6, _⟩ := hv6.let hL
            have S1 := str_len (cap := c6) hL hb6
            have S2 := str_len (cap := C) hL (hbT2.kept k6)
            obtain ⟨tt, htt⟩ : ∃ tt, strOfNums (tbl F) = tt := ⟨_, rfl⟩
            rw [htt] at S1 S2
            have e1 := beq_true (rfl : tt = tt)
            clear hb6 hv6 hp6 htt hbT2 hB hag
            go_wp2
            go_ret
            exact ⟨rfl, (K2.trans hK).trans k6⟩
  · obtain ⟨eT, eP⟩ := bld_err hE
    rw [eT] at hv
    rw [eP] at hp
    obtain ⟨aT, cT, rfl⟩ := hv.empty
    obtain ⟨aP, cP, rfl⟩ := hp.empty
    obtain ⟨E, hEE⟩ : ∃ E, bldE ss = E := ⟨_, rfl⟩
    rw [hEE] at hE ⊢
    have hE' : (E != 0) = true := by simpa using hE
    clear eT eP hv hp hEE hS hsz hE
    go_wp2
    go_ret
    exact ⟨rfl, K2⟩
end Go.Proofs.Ytahkiaoifkcmoaa
