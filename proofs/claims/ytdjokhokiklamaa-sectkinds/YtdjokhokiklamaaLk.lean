/- The law SectKinds, walked. -/
import Derived.Test.YtdjokhokiklamaaLa
namespace Go.Proofs.Ytdjokhokiklamaa
open Go.RowKit

theorem nm_append (s t : ByteArray) : nm (s ++ t) = nm s ++ nm t := by
  unfold nm
  rw [ByteArray.data_append, Array.toList_append, List.map_append]

set_option maxRecDepth 20000 in
set_option maxHeartbeats 3200000 in
theorem kinds_walk (name more : ByteArray) (s : ByteArray) (align : Int) (a : Option Addr) (len cap : Nat) (size : Int) (w : World) (hn : name.size ≤ maxLen) (hm : more.size ≤ maxLen) (hs : s.size ≤ maxLen) :
    Calls Try.prog 7 #[.string name, .string more, sectV s align a len cap size] w fun e w' => e = .returned (.bool true) ∧ Kept w w' := by
  have B1 := Box.new w s align (.slice a len cap) size
  obtain ⟨wa, hwa⟩ : ∃ wa, w.alloc (.cells #[.string s, .int .i64 align, .slice a len cap, .int .i64 size] 28) = wa := ⟨_, rfl⟩
  rw [hwa] at B1
  have kA : Kept w wa := by rw [← hwa]; exact Kept.alloc _ _
  have hA := alive_walk wa
  go_enter Try.func7, Try.ntmps7
  go_upto_region 2 with (go_at_call 12; refine hA.mono ?_; rintro e w1 ⟨rfl, k1⟩)
  have B2 := B1.kept k1
  have K2 := kA.trans k1
  clear hA B1 hwa
  by_cases h1 : 1000 < name.size
  · have d1 : decide ((1000 : Int) < (name.size : Int)) = true := decide_eq_true (by omega)
    go_wp2
    go_ret
    exact ⟨rfl, K2⟩
  · have d1 : decide ((1000 : Int) < (name.size : Int)) = false := decide_eq_false (by omega)
    by_cases h2 : 1000 < more.size
    · have d2 : decide ((1000 : Int) < (more.size : Int)) = true := decide_eq_true (by omega)
      go_wp2
      go_ret
      exact ⟨rfl, K2⟩
    · have d2 : decide ((1000 : Int) < (more.size : Int)) = false := decide_eq_false (by omega)
      have hK := fun w => kind_walk name w hn
      obtain ⟨L, hL⟩ : ∃ L, name ++ ⟨#[46]⟩ ++ more = L := ⟨_, rfl⟩
      have hLn : nm L = nm name ++ 46 :: nm more := by rw [← hL, nm_append, nm_append]; simp [nm]
      have hLs : L.size = name.size + 1 + more.size := by
        have := congrArg List.length hLn
        rw [List.length_append, List.length_cons, nm_length, nm_length, nm_length] at this
        omega
      have hLm : L.size ≤ maxLen := by unfold maxLen; omega
      have hK2 := fun w => kind_walk L w hLm
      have hG := fun w => graphic_walk more w hm
      have HLn : Hid (nm L = nm name ++ 46 :: nm more) := hLn
      have HLs : Hid (L.size = name.size + 1 + more.size) := hLs
      obtain ⟨k, hk⟩ : ∃ k, kindN (nm name) = k := ⟨_, rfl⟩
      obtain ⟨E, hE⟩ : ∃ E, kE (nm name) = E := ⟨_, rfl⟩
      obtain ⟨l, hl⟩ : ∃ k, kindN (nm L) = k := ⟨_, rfl⟩
      obtain ⟨F, hF⟩ : ∃ E, kE (nm L) = E := ⟨_, rfl⟩
      rw [hk, hE] at hK
      rw [hl, hF] at hK2
      have HK : Hid (kindN (nm name) = k ∧ kE (nm name) = E) := ⟨hk, hE⟩
      have HL : Hid (kindN (nm L) = l ∧ kE (nm L) = F) := ⟨hl, hF⟩
      clear hk hE hl hF hLn hLs
      go_upto_region 6 with (go_at_call 9; refine (hK _).mono ?_; rintro e w2 ⟨rfl, k2⟩)
      clear hK
      go_upto_region 7 with (go_at_call 9; refine (hK2 _).mono ?_; rintro e w3 ⟨rfl, k3⟩)
      clear hK2
      have B3 := (B2.kept k2).kept k3
      have K3 := (K2.trans k2).trans k3
      go_cut [66] (fun v wx => v = .bool false ∧ wx = w3)
      case first =>
        by_cases h0 : k = 0
        · obtain rfl : E = 3 := by rw [← HK.out.2]; unfold kE; rw [HK.out.1, h0]; rfl
          clear h0
          go_wp2
          go_meet
          exact ⟨rfl, rfl⟩
        · obtain rfl : E = 0 := by rw [← HK.out.2]; unfold kE; rw [HK.out.1, if_neg h0]
          have hmn : mayNm (nm name) = true := by
            cases hh : mayNm (nm name)
            · exact absurd (HK.out.1.symm.trans (kindN_no hh)) h0
            · rfl
          by_cases hml : mayNm (nm L) = true
          · obtain rfl : l = k := by
              rw [← HL.out.1, ← HK.out.1, HLn.out]
              exact kindN_on hmn (by rw [← HLn.out]; exact hml)
            obtain rfl : F = 0 := by rw [← HL.out.2]; unfold kE; rw [HL.out.1, if_neg h0]
            have q : ((l : Int) != (l : Int)) = false := by simp
            clear h0 hmn hml
            go_wp2
            go_meet
            exact ⟨rfl, rfl⟩
          · have hml' : mayNm (nm L) = false := by cases hh : mayNm (nm L); rfl; exact absurd hh hml
            obtain rfl : F = 3 := by rw [← HL.out.2]; unfold kE; rw [kindN_no hml']; rfl
            by_cases h32 : L.size ≤ 32
            · have d3 : decide ((L.size : Int) ≤ 32) = true := decide_eq_true (by omega)
              have hg : (nm more).all okC = false := by
                cases hh : (nm more).all okC
                · rfl
                · exfalso
                  apply hml
                  obtain ⟨m0, m1, m2⟩ := mayNm_true hmn
                  refine mayNm_mk (by rw [nm_length, HLs.out]; omega) (by rw [nm_length]; exact h32) fun x hx => ?_
                  rw [HLn.out] at hx
                  rcases List.mem_append.1 hx with hx | hx
                  · exact m2 x hx
                  · rcases List.mem_cons.1 hx with rfl | hx
                    · decide
                    · exact List.all_eq_true.1 hh x hx
              rw [hg] at hG
              clear h0 hmn hml hml' hg h32
              go_wp2_with (go_at_call 22; refine (hG _).mono ?_; rintro e w4 ⟨rfl, hw4⟩; have hw5 := hw4.symm; subst hw5; clear hw4)
              go_meet
              exact ⟨rfl, rfl⟩
            · have d3 : decide ((L.size : Int) ≤ 32) = false := decide_eq_false (by omega)
              clear h0 hmn hml hml' h32
              go_wp2
              go_meet
              exact ⟨rfl, rfl⟩
      case rest =>
        obtain ⟨rfl, hw⟩ := hcut
        have hw' := hw.symm
        subst hw'
        clear hw hG
        have hC := fun w => check_walk s align a len cap size w hs
        have hS := fun w => kind_walk s w hs
        have B4 := B3
        obtain ⟨c0, c1, c2, c3, _, _, _, _⟩ := B4
        cases hb : sectB (nm s) align len size with
        | false =>
          rw [show chkS (nm s) align len size = 8 by unfold chkS; rw [hb]; rfl] at hC
          clear hb hS
          go_wp2_with (go_at_call 10; refine (hC _).mono ?_; rintro e w4 ⟨rfl, k4⟩)
          go_ret
          exact ⟨rfl, K3.trans k4⟩
        | true =>
          rw [show chkS (nm s) align len size = 0 by unfold chkS; rw [hb]; rfl] at hC
          obtain ⟨hk0, ha, _⟩ := sectB_true hb
          obtain ⟨_, h3, h4, h5, h6, h7⟩ := sectB_has hb
          rw [show kE (nm s) = 0 by unfold kE; rw [if_neg hk0]] at hS
          obtain ⟨x, hx⟩ : ∃ x : Int, (kindN (nm s) : Int) = x := ⟨_, rfl⟩
          rw [hx] at hS
          have e1 : decide ((len : Int) + size ≤ 4096) = true := decide_eq_true h3
          have e2 : decide (0 < align) = true := decide_eq_true h6
          have e3 : (64 : Int).tmod align = 0 := by rw [Int.tmod_eq_emod_of_nonneg (by decide)]; exact h7
          have e4 : ¬ align = 0 := by omega
          have e5 : (align == 0) = false := by rw [beq_eq_false_iff_ne]; exact e4
          obtain ⟨g, hg⟩ : ∃ g, (x == 4) = g := ⟨_, rfl⟩
          have hlen : len ≤ 4096 := by omega
          have hsz : size ≤ 4096 := by omega
          clear hb hx ha hk0
          go_upto_region 11 with (go_at_call 10; refine (hC _).mono ?_; rintro e w4 ⟨rfl, k4⟩)
          have B5 := B3.kept k4
          clear c0 c1 c2 c3 hC
          obtain ⟨c0, c1, c2, c3, _, _, _, _⟩ := B3.kept k4
          go_upto_region 12 with (go_at_call 9; refine (hS _).mono ?_; rintro e w5 ⟨rfl, k5⟩)
          clear c0 c1 c2 c3 hS
          obtain ⟨c0, c1, c2, c3, _, _, _, _⟩ := B5.kept k5
          have K5 := (K3.trans k4).trans k5
          cases g
          · rcases h5 with h5 | h5
            · have z1 : ((len : Int) == 0) = true := by rw [beq_iff_eq]; omega
              have z2 : (len == 0) = true := by rw [beq_iff_eq]; omega
              clear h5
              go_wp2
              all_goals
                go_ret
                exact ⟨rfl, K5⟩
            · have z3 : (size == 0) = true := by rw [beq_iff_eq]; omega
              clear h5
              go_wp2
              all_goals
                go_ret
                exact ⟨rfl, K5⟩
          · rcases h5 with h5 | h5
            · have z1 : ((len : Int) == 0) = true := by rw [beq_iff_eq]; omega
              have z2 : (len == 0) = true := by rw [beq_iff_eq]; omega
              clear h5
              go_wp2
              all_goals
                go_ret
                exact ⟨rfl, K5⟩
            · have z3 : (size == 0) = true := by rw [beq_iff_eq]; omega
              clear h5
              go_wp2
              all_goals
                go_ret
                exact ⟨rfl, K5⟩
end Go.Proofs.Ytdjokhokiklamaa
