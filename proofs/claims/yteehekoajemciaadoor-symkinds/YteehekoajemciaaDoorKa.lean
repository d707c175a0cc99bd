/- The law SymKinds, walked. -/
import Derived.Test.YteehekoajemciaaDoorKit
import Derived.Test.YteehekoajemciaaDoorDc
import Derived.Test.YteehekoajemciaaDoorKz
import Derived.Deep.DeepCutAuto
import Derived.Deep.CutBlock
namespace Go.Proofs.YteehekoajemciaaDoor
open Go.RowKit

set_option maxRecDepth 20000 in
set_option maxHeartbeats 6400000 in
theorem kinds_sec (s : ByteArray) (bind : Int) (hid : Bool) (wh val sz : Int) (w : World) (hT : Tab w) (ok : SymOk s bind wh val sz) (ha : 1 ≤ wh ∧ wh ≤ 16) :
    Calls Tryd.prog 8 #[symW s bind hid wh val sz] w fun e w' => e = .returned (.bool true) ∧ Kept w w' := by
  have B1 := SBx.new w s bind hid wh val sz
  obtain ⟨wa, hwa⟩ : ∃ wa, w.alloc (symO s bind hid wh val sz) = wa := ⟨_, rfl⟩
  rw [hwa] at B1
  have kA : Kept w wa := by rw [← hwa]; exact Kept.alloc _ _
  have hA := alive_walk wa (hT.kept kA)
  have hb0 := ok.b0
  have hC := fun w => ycheck_walk ⟨#[97]⟩ bind hid wh val sz 16 w (by decide) hb0
  rw [chkY_in (by decide) (by decide), show okY (nm ⟨#[97]⟩) bind hid wh val sz 16 = standsB bind hid wh val sz 16 by unfold okY; rw [a_may, Bool.true_and]] at hC
  go_enter Tryd.func8, Tryd.ntmps8
  go_upto_region 2 with (go_at_call 12; refine hA.mono ?_; rintro e w1 ⟨rfl, k1⟩)
  have B2 := B1.kept k1
  have K1 := kA.trans k1
  have B3 := B2.set0 ⟨#[97]⟩
  have K2 := K1.setCell (p := ⟨w.heap.size, 0, none⟩) (Nat.le_refl _) (.string ⟨#[97]⟩)
  obtain ⟨w2, hw2⟩ : ∃ w2, w1.setCell ⟨w.heap.size, 0, none⟩ (.string ⟨#[97]⟩) = w2 := ⟨_, rfl⟩
  rw [hw2] at B3 K2
  have s0 := B2.c0
  have f0 := B2.f0
  obtain ⟨c0, c1, c2, c3, c4, c5, _, _, _, _, _, _⟩ := B3
  clear hA hwa kA B1
  go_upto_region 3 with fail
  clear s0 f0 hw2 B2 K1 k1
  go_cut [4] (fun v wx => v = .bool (bndB bind hid) ∧ wx = w2)
  case first =>
    clear hC c0 c3 c4 c5
    by_cases hb2 : bind ≤ 2
    · have d2 : decide (bind ≤ 2) = true := decide_eq_true hb2
      cases hid with
      | false =>
        have HB : Hid (bndB bind false = true) := decide_eq_true ⟨hb0, hb2, fun h => by cases h.1⟩
        go_wp2
        go_meet
        exact ⟨by rw [HB.out], rfl⟩
      | true =>
        by_cases hz : 0 < bind
        · have d3 : decide (0 < bind) = true := decide_eq_true hz
          have HB : Hid (bndB bind true = true) := decide_eq_true ⟨hb0, hb2, fun h => by omega⟩
          clear hz
          go_wp2
          go_meet
          exact ⟨by rw [HB.out], rfl⟩
        · have d3 : decide (0 < bind) = false := decide_eq_false hz
          have HB : Hid (bndB bind true = false) := decide_eq_false fun h => h.2.2 ⟨rfl, by omega⟩
          clear hz
          go_wp2
          go_meet
          exact ⟨by rw [HB.out], rfl⟩
    · have d2 : decide (bind ≤ 2) = false := decide_eq_false hb2
      have HB : Hid (bndB bind hid = false) := decide_eq_false fun h => hb2 h.2.1
      go_wp2
      go_meet
      exact ⟨by rw [HB.out], rfl⟩
  case rest =>
    obtain ⟨rfl, hw⟩ := hcut
    have hw' := hw.symm
    subst hw'
    clear hw
    obtain ⟨M, HM⟩ : ∃ M, bndB bind hid = M := ⟨_, rfl⟩
    rw [HM]
    go_upto_block 0 with fail
    go_cut [4] (fun v wx => v = .bool (standsB bind hid wh val sz 16) ∧ wx = w2)
    case first =>
      clear hC
      have ea : decide (1 ≤ wh) = true := decide_eq_true ha.1
      have eb : decide (wh ≤ 16) = true := decide_eq_true ha.2
      go_upto_region 6 with fail
      cases M with
      | false =>
        have HB : Hid (standsB bind hid wh val sz 16 = false) := by unfold Hid; exact stands_no _ _ _ _ HM
        clear ha HM
        go_wp2
        go_meet
        exact ⟨by rw [HB.out], rfl⟩
      | true =>
        by_cases h1 : 0 ≤ val
        · have eh1 : decide (0 ≤ val) = true := decide_eq_true h1
          by_cases h2 : val ≤ 4096
          · have eh2 : decide (val ≤ 4096) = true := decide_eq_true h2
            by_cases h3 : 0 ≤ sz
            · have eh3 : decide (0 ≤ sz) = true := decide_eq_true h3
              by_cases h4 : sz ≤ 4096
              · have eh4 : decide (sz ≤ 4096) = true := decide_eq_true h4
                have HB : Hid (standsB bind hid wh val sz 16 = true) := by unfold Hid; rw [stands_yes _ _ _ _ HM, plc3 (by omega) (by omega) (by omega)]; exact decide_eq_true (by omega)
                clear ha HM h1 h2 h3 h4
                go_wp2
                go_meet
                exact ⟨by rw [HB.out], rfl⟩
              · have eh4 : decide (sz ≤ 4096) = false := decide_eq_false h4
                have HB : Hid (standsB bind hid wh val sz 16 = false) := by unfold Hid; rw [stands_yes _ _ _ _ HM, plc3 (by omega) (by omega) (by omega)]; exact decide_eq_false (by omega)
                clear ha HM h1 h2 h3 h4
                go_wp2
                go_meet
                exact ⟨by rw [HB.out], rfl⟩
            · have eh3 : decide (0 ≤ sz) = false := decide_eq_false h3
              have HB : Hid (standsB bind hid wh val sz 16 = false) := by unfold Hid; rw [stands_yes _ _ _ _ HM, plc3 (by omega) (by omega) (by omega)]; exact decide_eq_false (by omega)
              clear ha HM h1 h2 h3
              go_wp2
              go_meet
              exact ⟨by rw [HB.out], rfl⟩
          · have eh2 : decide (val ≤ 4096) = false := decide_eq_false h2
            have HB : Hid (standsB bind hid wh val sz 16 = false) := by unfold Hid; rw [stands_yes _ _ _ _ HM, plc3 (by omega) (by omega) (by omega)]; exact decide_eq_false (by omega)
            clear ha HM h1 h2
            go_wp2
            go_meet
            exact ⟨by rw [HB.out], rfl⟩
        · have eh1 : decide (0 ≤ val) = false := decide_eq_false h1
          have HB : Hid (standsB bind hid wh val sz 16 = false) := by unfold Hid; rw [stands_yes _ _ _ _ HM, plc3 (by omega) (by omega) (by omega)]; exact decide_eq_false (by omega)
          clear ha HM h1
          go_wp2
          go_meet
          exact ⟨by rw [HB.out], rfl⟩
    case rest =>
      obtain ⟨rfl, hw⟩ := hcut
      have hw' := hw.symm
      subst hw'
      clear hw HM
      obtain ⟨G, hG⟩ : ∃ G, standsB bind hid wh val sz 16 = G := ⟨_, rfl⟩
      rw [hG] at hC ⊢
      clear hG
      cases G <;>
      · go_wp2_with (go_at_call 9; refine (hC _).mono ?_; rintro e w3 ⟨rfl, k3⟩)
        go_ret
        exact ⟨rfl, Kept.trans K2 k3⟩
end Go.Proofs.YteehekoajemciaaDoor
