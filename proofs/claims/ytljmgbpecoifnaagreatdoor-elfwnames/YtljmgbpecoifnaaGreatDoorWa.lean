/- Whether an object is more than statements go through: the document's. -/
import Derived.Test.YtljmgbpecoifnaaGreatDoorJaj
import Derived.BigQuiet
namespace Go.Proofs.YtljmgbpecoifnaaGreatDoor
open Go.RowKit

def GrPost (w : World) (e : Ending) (w' : World) : Prop := (∃ g, e = .returned (.bool g)) ∧ Kept w w'
set_option maxRecDepth 20000 in
set_option maxHeartbeats 6400000 in
theorem ogreat_walk (o : ObjV) (w : World) (hO : ObjOk w o) :
    Calls Tryz.prog 12 #[objW o] w fun e w' => GrPost w e w' := by
  obtain ⟨ss, sa, sn, sc, ys, ya, yn, yc, rs, ra, rn, rc, gs, ga, gn, gc⟩ := o
  have hS : SecR w sa ss := hO.s
  have hY : SymR w ya ys := hO.y
  have hG : GrpR w ga gs := hO.g
  have hls : ss.length = sn := hO.hs
  have hly : ys.length = yn := hO.hy
  have hlg : gs.length = gn := hO.hg
  clear hO
  obtain ⟨wa, hwa, B1, kA, sA⟩ := box_obj w (.slice sa sn sc) (.slice ya yn yc) (.slice ra rn rc) (.slice ga gn gc)
  go_enter Tryz.func12, Tryz.ntmps12
  obtain ⟨c0, c1, c2, c3, _, _, _, _⟩ := id B1
  go_wp2
  go_loopw [3, 4] (fun x i wr => ∃ k m : Nat, k ≤ sn ∧ k ≤ 40 ∧ m ≤ 0 + 200000 * k ∧ i = .int .i64 k ∧ x = .int .i64 m ∧ Kept wa wr) (fun _ i _ => 40 - (intOf i).toNat)
  case atStart => exact ⟨0, 0, Nat.zero_le _, Nat.zero_le _, by omega, rfl, rfl, Kept.refl _⟩
  case round =>
    obtain ⟨k, m, hk, hk2, hm, rfl, rfl, K⟩ := hrel
    clear c0 c1 c2 c3
    obtain ⟨c0, c1, c2, c3, _, _, _, _⟩ := id (B1.kept K)
    by_cases hin : k < sn ∧ k < 40
    · obtain ⟨hlt, h2⟩ := hin
      obtain ⟨b, off, rfl, hA⟩ := (hS.kept (kA.trans K)).cells (show k < ss.length by omega)
      obtain ⟨v, hv⟩ : ∃ v, ss.getD k secNo = v := ⟨_, rfl⟩
      rw [hv] at hA
      obtain ⟨s, al, a', cp, sz, z⟩ := v
      obtain ⟨len, hlen⟩ : ∃ len, z.length = len := ⟨_, rfl⟩
      have x0 : wr.cell? ⟨b, off + k * 4, none⟩ = some (.string s) := hA.c0
      have x2 : wr.cell? ⟨b, off + k * 4 + 2, none⟩ = some (.slice a' len cp) := by rw [← hlen]; exact hA.c2
      have hs9 : s.size ≤ 9223372036854775807 := by have : s.size ≤ maxLen := hA.ok.size; unfold maxLen at this; omega
      have hl9 : len ≤ 9223372036854775807 := by have : z.length ≤ maxLen := hA.ok.cap; unfold maxLen at this; omega
      clear hv hA hlen
      go_upto_region 5 with fail
      go_big_quiet (fail)
      go_wp2
      go_roundw
      case rel => exact ⟨k + 1, m + min len 100000 + min s.size 100000, by omega, by omega, by omega, by go_num, by go_num, K.trans (Kept.drewN _ _)⟩
      case measure => simp [intOf]; omega
    · have hend : (¬ k < sn) ∨ (k = 40 ∧ 40 < sn) := by
        by_cases h : k < sn
        · exact .inr ⟨by omega, by omega⟩
        · exact .inl h
      have hm0 : m ≤ 8000000 := by omega
      clear hin hm hk hk2
      obtain ⟨m0, rfl⟩ : ∃ m', m' = m := ⟨_, rfl⟩
      have K0 := K
      clear K
      rcases hend with d1 | ⟨rfl, d1⟩
      all_goals
        go_wp2
        go_loopw [3, 5] (fun x i wr => ∃ k m : Nat, k ≤ yn ∧ k ≤ 200 ∧ m ≤ 8000000 + 100000 * k ∧ i = .int .i64 k ∧ x = .int .i64 m ∧ Kept wa wr) (fun _ i _ => 200 - (intOf i).toNat)
        case atStart => exact ⟨0, m0, Nat.zero_le _, Nat.zero_le _, by omega, rfl, rfl, K0⟩
        case round =>
          obtain ⟨k, m, hk, hk2, hm, rfl, rfl, K⟩ := hrel
          clear c0 c1 c2 c3
          obtain ⟨c0, c1, c2, c3, _, _, _, _⟩ := id (B1.kept K)
          by_cases hin : k < yn ∧ k < 200
          · obtain ⟨hlt, h2⟩ := hin
            obtain ⟨b, off, rfl, hA⟩ := (hY.kept (kA.trans K)).cells (show k < ys.length by omega)
            obtain ⟨v, hv⟩ : ∃ v, ys.getD k symV0 = v := ⟨_, rfl⟩
            rw [hv] at hA
            obtain ⟨s, bind, hid, wh, val, sz⟩ := v
            have x0 : wr.cell? ⟨b, off + k * 6, none⟩ = some (.string s) := hA.c0
            have hs9 : s.size ≤ 9223372036854775807 := by have : s.size ≤ maxLen := hA.ok.size; unfold maxLen at this; omega
            clear hv hA
            go_wp2
            go_roundw
            case rel => exact ⟨k + 1, m + min s.size 100000, by omega, by omega, by omega, by go_num, by go_num, K⟩
            case measure => simp [intOf]; omega
          · have hend : (¬ k < yn) ∨ (k = 200 ∧ 200 < yn) := by
              by_cases h : k < yn
              · exact .inr ⟨by omega, by omega⟩
              · exact .inl h
            have hm1 : m ≤ 28000000 := by omega
            clear hin hm hk hk2
            obtain ⟨m1, rfl⟩ : ∃ m', m' = m := ⟨_, rfl⟩
            have K1 := K
            clear K
            rcases hend with d1 | ⟨rfl, d1⟩
            all_goals
              go_wp2
              go_loopw [3, 6] (fun x i wr => ∃ k m : Nat, k ≤ gn ∧ k ≤ 40 ∧ m ≤ 28000000 + 200000 * k ∧ i = .int .i64 k ∧ x = .int .i64 m ∧ Kept wa wr) (fun _ i _ => 40 - (intOf i).toNat)
              case atStart => exact ⟨0, m1, Nat.zero_le _, Nat.zero_le _, by omega, rfl, rfl, K1⟩
              case round =>
                obtain ⟨k, m, hk, hk2, hm, rfl, rfl, K⟩ := hrel
                clear c0 c1 c2 c3
                obtain ⟨c0, c1, c2, c3, _, _, _, _⟩ := id (B1.kept K)
                by_cases hin : k < gn ∧ k < 40
                · obtain ⟨hlt, h2⟩ := hin
                  obtain ⟨b, off, rfl, hA⟩ := (hG.kept (kA.trans K)).cells (show k < gs.length by omega)
                  obtain ⟨v, hv⟩ : ∃ v, gs.getD k grpV0 = v := ⟨_, rfl⟩
                  rw [hv] at hA
                  obtain ⟨s, a', cp, z⟩ := v
                  obtain ⟨len, hlen⟩ : ∃ len, z.length = len := ⟨_, rfl⟩
                  have x0 : wr.cell? ⟨b, off + k * 2, none⟩ = some (.string s) := hA.c0
                  have x1 : wr.cell? ⟨b, off + k * 2 + 1, none⟩ = some (.slice a' len cp) := by rw [← hlen]; exact hA.c1
                  have hs9 : s.size ≤ 9223372036854775807 := by have : s.size ≤ maxLen := hA.ok.size; unfold maxLen at this; omega
                  have hl9 : len ≤ 9223372036854775807 := by have h1 : z.length ≤ cp := hA.ok.len; have h2 : cp ≤ maxLen := hA.ok.cap; unfold maxLen at h2; omega
                  clear hv hA hlen
                  go_upto_region 13 with fail
                  go_big_quiet (fail)
                  go_wp2
                  go_roundw
                  case rel => exact ⟨k + 1, m + min s.size 100000 + min len 100000, by omega, by omega, by omega, by go_num, by go_num, K.trans (Kept.drewN _ _)⟩
                  case measure => simp [intOf]; omega
                · have hend : (¬ k < gn) ∨ (k = 40 ∧ 40 < gn) := by
                    by_cases h : k < gn
                    · exact .inr ⟨by omega, by omega⟩
                    · exact .inl h
                  have hm2 : m ≤ 36000000 := by omega
                  clear hin hm hk hk2
                  obtain ⟨m2, rfl⟩ : ∃ m', m' = m := ⟨_, rfl⟩
                  have K2 := K
                  clear K
                  rcases hend with d1 | ⟨rfl, d1⟩
                  all_goals
                    go_wp2 <;>
                    · go_ret
                      exact ⟨⟨_, rfl⟩, kA.trans K2⟩
end Go.Proofs.YtljmgbpecoifnaaGreatDoor
