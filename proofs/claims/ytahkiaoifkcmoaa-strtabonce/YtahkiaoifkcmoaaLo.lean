/- The law StrtabOnce, walked. -/
import Derived.Test.YtahkiaoifkcmoaaOm
namespace Go.Proofs.Ytahkiaoifkcmoaa
open Go.RowKit

theorem owni_row {w : World} {base : Nat} {v : Value} {l : List Int} (h : OwnI w base v l) {n : Nat} (hn : l.length = n) (h0 : 0 < n) : ∃ g cap, v = .slice (some ⟨g, 0, none⟩) n cap ∧ n ≤ cap ∧ ∀ i, i < n → w.cell? ⟨g, i, none⟩ = some (.int .i64 (l.getD i 0)) := by
  subst hn
  obtain ⟨g, cap, h1, h2, _, _, h3⟩ := h.some h0
  exact ⟨g, cap, h1, h2, h3⟩
/-- All that is known behind the two tables: w the world, g the table's block, gp and gq those of the places. -/
structure OnceSt (w : World) (ss : List ByteArray) (b off g gp gq n L : Nat) (pl : Nat → Nat) (s : ByteArray) (r : Nat) : Prop where
  names : ∀ i, i < n → w.cell? ⟨b, off + i, none⟩ = some (.string (ss.getD i ByteArray.empty))
  p : ∀ i, i < n → w.cell? ⟨gp, i, none⟩ = some (.int .i64 (pl i : Nat))
  q : ∀ i, i < n → w.cell? ⟨gq, i, none⟩ = some (.int .i64 (pl i : Nat))
  qn : w.cell? ⟨gq, n, none⟩ = some (.int .i64 (pl r : Nat))
  qn1 : w.cell? ⟨gq, n + 1, none⟩ = some (.int .i64 0)
  zero : ∀ i, i < n → pl i + (ss.getD i ByteArray.empty).size < L ∧ w.cell? ⟨g, pl i + (ss.getD i ByteArray.empty).size, none⟩ = some (.int .u8 0)
  inj : ∀ i j, i < n → j < n → (pl i = pl j ↔ ss.getD i ByteArray.empty = ss.getD j ByteArray.empty)
  size : ∀ i, i < n → (ss.getD i ByteArray.empty).size ≤ 64

set_option maxRecDepth 20000 in
set_option maxHeartbeats 3200000 in
theorem once_walk (a : Option Addr) (cap n : Nat) (ss : List ByteArray) (again : Int) (w : World) (hlen : ss.length = n) (hn : n ≤ maxLen) (hsz : ∀ s ∈ ss, s.size ≤ maxLen) (hS : Strs w a ss) (hag : again ≤ 9223372036854775807) :
    Calls Try.prog 7 #[.slice a n cap, .int .i64 again] w fun e w' => e = .returned (.bool true) ∧ Kept w w' := by
  by_cases h0 : n = 0
  · go_enter Try.func7, Try.ntmps7
    go_upto_region 4 with (go_at_call 11; refine (alive_walk _).mono ?_; rintro e w1 ⟨rfl, k1⟩)
    have hGr := great_walk a cap n ss w1 hlen hn hsz (hS.kept k1)
    subst h0
    go_wp2_with (go_at_call 13; refine hGr.mono ?_; rintro e w2 ⟨⟨g, rfl, hg⟩, hw1⟩; have hw2 := hw1.symm; subst hw2; clear hw1)
    all_goals go_ret; exact ⟨rfl, k1⟩
  have hd0 : ((n : Int) == 0) = false := by simp; omega
  by_cases ha : again < 0
  · have hd1 : decide (again < 0) = true := by simpa using ha
    go_enter Try.func7, Try.ntmps7
    go_upto_region 4 with (go_at_call 11; refine (alive_walk _).mono ?_; rintro e w1 ⟨rfl, k1⟩)
    have hGr := great_walk a cap n ss w1 hlen hn hsz (hS.kept k1)
    go_wp2_with (go_at_call 13; refine hGr.mono ?_; rintro e w2 ⟨⟨g, rfl, hg⟩, hw1⟩; have hw2 := hw1.symm; subst hw2; clear hw1)
    all_goals go_ret; exact ⟨rfl, k1⟩
  have hd1 : decide (again < 0) = false := by simpa using ha
  go_enter Try.func7, Try.ntmps7
  go_upto_region 4 with (go_at_call 11; refine (alive_walk _).mono ?_; rintro e w1 ⟨rfl, k1⟩)
  have hGr := great_walk a cap n ss w1 hlen hn hsz (hS.kept k1)
  go_upto_region 6 with (go_at_call 13; refine hGr.mono ?_; rintro e w2 ⟨⟨g, rfl, hg⟩, hw1⟩; have hw2 := hw1.symm; subst hw2; clear hw1)
  · go_ret
    exact ⟨rfl, k1⟩
  have hB := build_walk a cap n ss w1 hlen hsz (hS.kept k1)
  clear hGr hg
  go_upto_region 7 with (go_at_call 10; refine hB.mono ?_; rintro e w2 ⟨v, p, rfl, hv, hp, k2⟩)
  have K2 : Kept w w2 := k1.trans k2
  clear hB
  by_cases hE : bldE ss = 0
  · obtain ⟨h1, h2, h3⟩ := bld_zero hE
    obtain ⟨_, eT, eP⟩ := bld_ok h1 h2 h3
    rw [eT] at hv
    rw [eP] at hp
    obtain ⟨m, rfl⟩ : ∃ m : Nat, again = (m : Int) := ⟨again.toNat, by omega⟩
    have hn1 : n ≤ 1024 := by omega
    have hn0 : 0 < n := by omega
    obtain ⟨r, hr⟩ : ∃ r, m % n = r := ⟨_, rfl⟩
    have hrn : r < n := by rw [← hr]; exact Nat.mod_lt _ hn0
    have hrem : (m : Int) % (n : Int) = (r : Int) := by rw [← hr]; simp
    have hrem' : (m : Int).tmod (n : Int) = (r : Int) := by rw [Int.tmod_eq_emod_of_nonneg (by omega)]; exact hrem
    have hne0 : ¬ (n : Int) = 0 := by omega
    obtain ⟨b, off, rfl, hcell⟩ := (hS.kept K2).at (show r < ss.length by omega)
    obtain ⟨s, hs⟩ : ∃ s, ss.getD r ByteArray.empty = s := ⟨_, rfl⟩
    have hmem : s ∈ ss := by rw [← hs]; exact getD_mem (by omega)
    have hcr := hcell r (by omega)
    rw [hs] at hcr
    rw [hE]
    have hri : (r : Int) < (n : Int) := by omega
    have hr0 : (0 : Int) ≤ (r : Int) := by omega
    have hbw : b < w2.heap.size := block_lt_of_cell hcr
    clear hr
    go_upto_region 9 with fail
    go_cut [9, 51, 59, 60] (fun s9 _ _ _ wx => ∃ g' c', s9 = .slice (some ⟨g', 0, none⟩) (n + 2) c' ∧ OwnS wx w2.heap.size (.slice (some ⟨g', 0, none⟩) (n + 2) c') (moreOf ss s) ∧ Kept w2 wx)
    case first =>
      have KA : ∀ {w3 : World} {o : Obj}, w2.drew.grownBy w3 none → Kept w2 (w3.alloc o) := fun {w3} {o} hg => by
        have a1 : Kept w2 w3 := (kept_drew w2).grown hg (Nat.le_refl _) (fun k e => by cases e)
        exact Below.alloc a1 a1.size o
      have KB : ∀ {w3 : World} {o : Obj}, (w2.alloc o).drew.grownBy w3 none → Kept w2 w3 := fun {w3} {o} hg =>
        ((Kept.alloc w2 o).trans (kept_drew _)).grown hg (by simp) (fun k e => by cases e)
      have KB1 : ∀ {w3 : World} {o : Obj}, (w2.alloc o).drew.grownBy w3 none → w3.heap[w2.heap.size]? = some o := fun {w3} {o} hg =>
        (hg.block w2.heap.size (by simp) (by simp)).trans (heap_alloc_new w2 o)
      go_region_held3 (fun w' => w'.cell? ⟨b, off + r, none⟩ = some (.string s))
        (first
          | exact K4.cell hcr
          | exact (Kept.alloc w3 _).cell (hgrow.cell hcr (by simp))
          | exact (Kept.alloc w3 _).cell (hgrow.cell ((Kept.alloc w2 _).cell hcr) (by simp))
          | exact hgrow.cell hcr (by simp)
          | exact hgrow.cell ((Kept.alloc w2 _).cell hcr) (by simp)
          | exact (Kept.alloc w2 _).cell hcr
          | exact hcr)
        ((first
          | (refine step_append_two (W0 := w2) (by rfl) _ _ (by rfl) w3.heap.size g1 c1 n ss s hlen (by omega) (by rfl) (by rfl) (World.ownsRow.alloc hO1 _) (heap_alloc_new _ _) (KA hgrow) ?_; intro g2 c2 w4 hO2 K4)
          | (refine step_append_two (W0 := w2) (by rfl) _ _ (by rfl) w2.heap.size g1 c1 n ss s hlen (by omega) (by rfl) (by rfl) hO1 (KB1 hgrow) (KB hgrow) ?_; intro g2 c2 w4 hO2 K4)
          | (refine step_append_all (W0 := w2) (by rfl) _ _ (by rfl) b off n cap ss hlen hn0 (by omega) (by rfl) (by rfl) hcell (kept_drew _) ?_; intro g1 c1 w3 hO1 hgrow)
          | (refine step_append_all (W0 := w2) (by rfl) _ _ (by rfl) b off n cap ss hlen hn0 (by omega) (by rfl) (by rfl) hcell ((Kept.alloc _ _).trans (kept_drew _)) ?_; intro g1 c1 w3 hO1 hgrow)))
      all_goals
        go_wp2
        go_meet
        exact ⟨_, _, rfl, hO2, K4⟩
    case rest =>
      obtain ⟨g9, c9, rfl, hO9, k9⟩ := hcut
      obtain ⟨A9, C9, hv9, hS9⟩ := hO9.let (show (moreOf ss s).length = n + 2 by rw [moreOf_length, hlen])
      have hB2 := build_walk A9 C9 (n + 2) (moreOf ss s) wc (by rw [moreOf_length, hlen]) (fun t ht => by
        unfold moreOf at ht
        rcases List.mem_append.1 ht with ht | ht
        · exact hsz t ht
        · simp only [List.mem_cons, List.not_mem_nil, or_false] at ht
          rcases ht with rfl | rfl
          · exact hsz t hmem
          · exact Nat.zero_le _) hS9
      rw [← hv9] at hB2
      clear hv9 hS9 hO9
      go_upto_region 11 with (go_at_call 10; refine hB2.mono ?_; rintro e w3 ⟨v3, p3, rfl, hv3, hp3, k3⟩)
      clear hB2
      by_cases hm2 : 1024 < n + 2
      · rw [more_many (by rw [hlen]; exact hm2)]
        clear hv hp hv3 hp3 hcell hS hsz
        go_wp2
        go_ret
        exact ⟨rfl, (K2.trans k9).trans k3⟩
      obtain ⟨e1, e2, e3⟩ := more_bld hmem hE (by omega)
      rw [e2] at hv3
      rw [e3] at hp3
      rw [e1]
      have K3 : Kept w2 w3 := k9.trans k3
      obtain ⟨F, hF⟩ : ∃ F, fsts (nms ss) = F := ⟨_, rfl⟩
      obtain ⟨pl, hpl⟩ : ∃ pl : Nat → Nat, pl = fun i => plc F (nm (ss.getD i ByteArray.empty)) := ⟨_, rfl⟩
      have hL0 : 0 < (tbl F).length := tbl_pos F
      have hck : chkB (tbl F) = true := by rw [← hF]; exact chk_tbl h3
      rw [hF] at hv hv3 h3 hp3
      obtain ⟨L, hL⟩ : ∃ L, (tbl F).length = L := ⟨_, rfl⟩
      rw [hL] at hL0 h3
      obtain ⟨g, C, rfl, hLC, hcT⟩ := own_row hv hL hL0
      obtain ⟨gp, CP, rfl, hCP, hcP⟩ := owni_row hp (show (plcI ss).length = n by rw [plcI_length, hlen]) hn0
      obtain ⟨gu, CU, rfl, _, hcU⟩ := own_row hv3 hL hL0
      obtain ⟨gq, CQ, rfl, hCQ, hcQ⟩ := owni_row hp3 (show (plcI ss ++ [((plc F (nm s) : Nat) : Int), 0]).length = n + 2 by rw [List.length_append, plcI_length, hlen]; rfl) (by omega)
      have hplc : ∀ i, i < n → (plcI ss).getD i 0 = ((pl i : Nat) : Int) := fun i hi => by
        have := plcI_at (ss := ss) (k := n) hlen (Nat.le_refl _) hi
        rw [show ss.take n = ss by rw [← hlen, List.take_length]] at this
        rw [this, hpl, ← hF, ← hlen, fk_all]
      have hst : OnceSt w3 ss b off g gp gq n L pl s r := by
        have hpin : ∀ i, i < n → pl i + (ss.getD i ByteArray.empty).size < L ∧ (tbl F).getD (pl i + (ss.getD i ByteArray.empty).size) 1 = 0 := fun i hi => by
          have := plc_in (fs := F) (s := nm (ss.getD i ByteArray.empty)) (by rw [← hF]; exact name_there (getD_mem (by omega)))
          rw [nm_length, hL] at this
          rw [hpl]
          exact this
        refine ⟨fun i hi => K3.cell (hcell i (by omega)), fun i hi => ?_, fun i hi => ?_, ?_, ?_, fun i hi => ?_, fun i j hi hj => ?_, fun i hi => (wrong_false (bad_false h2 _ (getD_mem (by omega)))).1⟩
        · rw [K3.cell (hcP i hi), hplc i hi]
        · rw [hcQ i (by omega), List.getD, List.getElem?_append_left (by rw [plcI_length]; omega)]
          have := hplc i hi
          rw [List.getD] at this
          rw [this]
        · rw [hcQ n (by omega), List.getD, List.getElem?_append_right (by rw [plcI_length]; omega), plcI_length, hlen, Nat.sub_self, hpl]
          simp only [hs]
          rfl
        · rw [hcQ (n + 1) (by omega), List.getD, List.getElem?_append_right (by rw [plcI_length]; omega), plcI_length, hlen, show n + 1 - n = 1 by omega]
          rfl
        · obtain ⟨a1, a2⟩ := hpin i hi
          refine ⟨a1, ?_⟩
          have := K3.cell (hcT (pl i + (ss.getD i ByteArray.empty).size) (by omega))
          rw [Nat.zero_add] at this
          rw [this, getD_any (by omega) 0 1, a2]
        · rw [hpl]
          constructor
          · intro h
            have m1 : ss.getD i ByteArray.empty ∈ ss := getD_mem (by omega)
            have m2 : ss.getD j ByteArray.empty ∈ ss := getD_mem (by omega)
            exact nm_inj (plc_inj (by rw [← hF]; exact name_there m1) (by rw [← hF]; exact name_there m2) (wrong_false (bad_false h2 _ m1)).2 (wrong_false (bad_false h2 _ m2)).2 h)
          · intro h
            show plc F (nm (ss.getD i ByteArray.empty)) = plc F (nm (ss.getD j ByteArray.empty))
            rw [h]
      have bT : ∀ w', Kept w3 w' → Byt w' (some ⟨g, 0, none⟩) (tbl F) := fun w' k => .inr ⟨g, 0, rfl, fun i hi => (K3.trans k).cell (hcT i hi)⟩
      have bU : Byt w3 (some ⟨gu, 0, none⟩) (tbl F) := .inr ⟨gu, 0, rfl, hcU⟩
      have S1 : ∀ q, (convert 22 9 (.slice (some ⟨g, 0, none⟩) L C)).run Try.prog (w3.drewN q) = .ok (.string (strOfNums (tbl F))) (w3.drewN q) := fun q => str_len hL (bT _ (Kept.drewN _ _))
      have S2 : ∀ q, (convert 22 9 (.slice (some ⟨gu, 0, none⟩) L CU)).run Try.prog (w3.drewN q) = .ok (.string (strOfNums (tbl F))) (w3.drewN q) := fun q => str_len hL (bU.drewN q)
      have hC : ∀ w', Kept w3 w' → Calls Try.prog 12 #[.slice (some ⟨g, 0, none⟩) L C] w' fun e w'' => e = .returned (.int .i64 0) ∧ w'' = w' := fun w' k => by
        have := check_len (some ⟨g, 0, none⟩) L C (tbl F) w' hL (by omega) hLC (bT w' k)
        rwa [chkE_yes hck] at this
      obtain ⟨tt, htt⟩ : ∃ tt, strOfNums (tbl F) = tt := ⟨_, rfl⟩
      simp only [htt] at S1 S2
      have KW : Kept w w3 := K2.trans K3
      have qr := hst.p r hrn
      have qn := hst.qn
      have qn1 := hst.qn1
      obtain ⟨x0, hx0⟩ : ∃ x0, pl r = x0 := ⟨_, rfl⟩
      rw [hx0] at qr qn
      clear hv hp hv3 hp3 hcT hcP hcU hcQ hplc hpl hF e1 e2 e3 eT eP hS hsz hcell hcr bT bU htt hx0 K2 K3 k9 k3 k1 k2 hE h1 h2 hck hs hmem
      have f1 := beq_true (rfl : tt = tt)
      have f2 : ((n : Int) + 2 != (n : Int) + 2) = false := by simp
      have f3 : ((n : Int) != (n : Int)) = false := by simp
      have f4 : ((x0 : Int) != (x0 : Int)) = false := by simp
      have i1 : (n : Int) < (n : Int) + 2 := by omega
      have i2 : (n : Int) + 1 < (n : Int) + 2 := by omega
      go_upto_region 14 with fail
      go_big_quiet (fail)
      have K4 : Kept w3 (w3.drewN nq) := Kept.drewN _ _
      clear S1 S2 qr qn qn1 f1 f2 f3 f4 i1 i2
      go_wp2
      go_loopw [14] (fun x wr => ∃ i : Nat, i ≤ n ∧ i ≤ 40 ∧ x = .int .i64 i ∧ Kept w3 wr) (fun x _ => 40 - (intOf x).toNat)
      case atStart => exact ⟨0, Nat.zero_le _, Nat.zero_le _, rfl, K4⟩
      case round =>
        obtain ⟨i, hi, hi40, rfl, hK⟩ := hrel
        clear K4
        by_cases hin : i < n
        · by_cases hi4 : i < 40
          · have gi1 : decide ((i : Int) < (n : Int)) = true := by simp; omega
            have gi2 : decide ((i : Int) < 40) = true := by simp; omega
            go_wp2
            go_loopw [15] (fun y wi => ∃ k : Nat, k ≤ i ∧ y = .int .i64 k ∧ Kept w3 wi) (fun y _ => i - (intOf y).toNat)
            case atStart => exact ⟨0, Nat.zero_le _, rfl, hK⟩
            case round =>
              obtain ⟨k, hk, rfl, hKi⟩ := hrel
              by_cases hki : k < i
              · have n1 := hKi.cell (hst.names i hin)
                have n2 := hKi.cell (hst.names k (by omega))
                have p1 := hKi.cell (hst.p i hin)
                have p2 := hKi.cell (hst.p k (by omega))
                have hinj := hst.inj i k hin (by omega)
                obtain ⟨si, hsi⟩ : ∃ si, ss.getD i ByteArray.empty = si := ⟨_, rfl⟩
                obtain ⟨sk, hsk⟩ : ∃ sk, ss.getD k ByteArray.empty = sk := ⟨_, rfl⟩
                obtain ⟨xi, hxi⟩ : ∃ xi, pl i = xi := ⟨_, rfl⟩
                obtain ⟨xk, hxk⟩ : ∃ xk, pl k = xk := ⟨_, rfl⟩
                rw [hsi] at n1 hinj
                rw [hsk] at n2 hinj
                rw [hxi] at p1 hinj
                rw [hxk] at p2 hinj
                have b1 : (k : Int) < (n : Int) := by omega
                have b2 : (i : Int) < (n : Int) := by omega
                by_cases e : si = sk
                · have ex : xi = xk := hinj.2 e
                  have q1 := beq_true e
                  have q2 : ((xi : Int) == (xk : Int)) = true := by simp [ex]
                  have q3 : (xi == xk) = true := by simp [ex]
                  clear hst hC hinj hsi hsk hxi hxk e ex
                  go_upto_region 22 with fail
                  go_big_quiet (fail)
                  have K5 : Kept w3 (wr.drewN nq) := hKi.trans (Kept.drewN _ _)
                  go_wp2
                  go_roundw
                  case rel => exact ⟨k + 1, by omega, by go_num, K5⟩
                  case measure => simp [intOf]; omega
                · have ex : ¬ xi = xk := fun h => e (hinj.1 h)
                  have q1 := beq_false e
                  have q2 : ((xi : Int) == (xk : Int)) = false := by simp; omega
                  have q3 : (xi == xk) = false := by simpa using ex
                  clear hst hC hinj hsi hsk hxi hxk e ex
                  go_upto_region 22 with fail
                  go_big_quiet (fail)
                  have K5 : Kept w3 (wr.drewN nq) := hKi.trans (Kept.drewN _ _)
                  go_wp2
                  go_roundw
                  case rel => exact ⟨k + 1, by omega, by go_num, K5⟩
                  case measure => simp [intOf]; omega
              · obtain rfl : k = i := by omega
                have n1 := hKi.cell (hst.names k hin)
                have p1 := hKi.cell (hst.p k hin)
                have q1 := hKi.cell (hst.q k hin)
                obtain ⟨z1, z2⟩ := hst.zero k hin
                have z3 := hKi.cell z2
                have z4 := hst.size k hin
                obtain ⟨si, hsi⟩ : ∃ si, ss.getD k ByteArray.empty = si := ⟨_, rfl⟩
                obtain ⟨xi, hxi⟩ : ∃ xi, pl k = xi := ⟨_, rfl⟩
                rw [hsi] at n1 z1 z3 z4
                rw [hxi] at p1 q1 z1 z3
                obtain ⟨z, hz⟩ : ∃ z, si.size = z := ⟨_, rfl⟩
                rw [hz] at z1 z3 z4
                have b1 : (k : Int) < (n : Int) + 2 := by omega
                have b2 : (k : Int) < (n : Int) := by omega
                have b3 : (xi : Int) + (z : Int) < (L : Int) := by omega
                have d1 : decide ((L : Int) ≤ (xi : Int) + (z : Int)) = false := by simp; omega
                have d2 : decide (L ≤ xi + z) = false := by simp; omega
                have d3 : ((xi : Int) != (xi : Int)) = false := by simp
                have d4 : xi + z < L := z1
                clear hst hC hsi hxi z2
                go_upto_region 24 with fail
                go_big_quiet (fail)
                have K5 : Kept w3 (wr.drewN nq) := hKi.trans (Kept.drewN _ _)
                go_wp2
                go_roundw
                case rel => exact ⟨k + 1, by omega, by omega, by go_num, K5⟩
                case measure => simp [intOf]; omega
          · obtain rfl : i = 40 := by omega
            have gi1 : decide ((40 : Int) < (n : Int)) = true := by simp; omega
            have hC' := hC wr hK
            clear hst hC
            go_wp2_with (go_at_call 12; refine hC'.mono ?_; rintro e w5 ⟨rfl, hw5⟩; have hw6 := hw5.symm; subst hw6; clear hw5)
            go_ret
            exact ⟨rfl, KW.trans hK⟩
        · obtain rfl : i = n := by omega
          have hC' := hC wr hK
          clear hst hC
          go_wp2_with (go_at_call 12; refine hC'.mono ?_; rintro e w5 ⟨rfl, hw5⟩; have hw6 := hw5.symm; subst hw6; clear hw5)
          go_ret
          exact ⟨rfl, KW.trans hK⟩
  · obtain ⟨eT, eP⟩ := bld_err hE
    rw [eT] at hv
    rw [eP] at hp
    obtain ⟨aT, cT, rfl⟩ := hv.empty
    obtain ⟨aP, cP, rfl⟩ := hp.empty
    obtain ⟨E, hEE⟩ : ∃ E, bldE ss = E := ⟨_, rfl⟩
    rw [hEE] at hE ⊢
    have hE' : (E != 0) = true := by simpa using hE
    clear eT eP hv hp hEE hS hsz hE
    go_wp2
    go_ret
    exact ⟨rfl, K2⟩
end Go.Proofs.Ytahkiaoifkcmoaa
