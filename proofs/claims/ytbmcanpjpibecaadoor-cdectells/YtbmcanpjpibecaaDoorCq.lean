/- cdec's table of pairs, and its two closures. -/
import Derived.Test.YtbmcanpjpibecaaDoorBx
import Derived.Test.YtbmcanpjpibecaaDoorRs
namespace Go.Proofs.YtbmcanpjpibecaaDoor
open Go.RowKit

/-- The instructions of two small registers, by their three bits. -/
def pairTab : List Int := [32, 36, 39, 40, 46, 45, 0, 0]
def pairC (i : Nat) : Int := pairTab.getD i 0
theorem gPairs : Tryd.prog.globalNamed "quoin/cdec.pairs" = some 0 := by kernel_rfl
theorem gPairsType : (Tryd.prog.globals[0]?).map (·.type) = some 92 := by kernel_rfl
theorem cellsPairs : Tryd.prog.cellsOf 92 = 8 := by kernel_rfl
theorem cellsU8 : Tryd.prog.cellsOf 5 = 1 := by kernel_rfl
/-- The world holds the table. -/
def Tab (w : World) : Prop := ∀ i, i < 8 → w.cell? ⟨0, i, none⟩ = some (.int .u8 (pairC i))
theorem Tab.kept {w w' : World} (h : Tab w) (k : Kept w w') : Tab w' := fun i hi => k.cell (h i hi)
theorem tab_of_laid {W : World} (h : laidMetH Tryd.prog [("quoin/cdec.pairs", Rows.laid_quoin_cdec_pairs)] W) : Tab W := by
  have h' : laidMet Tryd.prog [("quoin/cdec.pairs", intData .u8 pairTab)] W := h
  intro i hi
  exact ints_of_head gPairs gPairsType Tryd.underlying92 Tryd.underlying5 cellsU8 cellsPairs h' i hi

/-- The bits of a half word at places, joined; and told by their sign. -/
def lP (l : List Int) (j : Nat) : Int := l.getD j 0
def gL (H : Nat) (l : List Int) : Nat := gathTo H (lP l) l.length
def gS (H : Nat) (l : List Int) : Int := if 2 ^ l.length ≤ 2 * (gL H l : Int) then (gL H l : Int) - 2 ^ l.length else gL H l
theorem gL_lt (H : Nat) (l : List Int) : gL H l < 2 ^ l.length := gathTo_lt _ _ _
theorem sign_gS (H : Nat) (l : List Int) (h1 : 1 ≤ l.length) (h2 : l.length ≤ 32) : signV (gL H l) l.length = gS H l := by
  have hl := gL_lt H l
  have hl' : (gL H l : Int) < 2 ^ l.length := cast_lt_pow.2 hl
  have hok : signOk (gL H l) l.length = true := by
    unfold signOk
    simp only [Int.toNat_natCast, Bool.and_eq_true, decide_eq_true_eq]
    omega
  have hp : (2 : Int) ^ l.length = 2 * 2 ^ (l.length - 1) := by
    obtain ⟨m, hm⟩ : ∃ m, l.length = m + 1 := ⟨l.length - 1, by omega⟩
    rw [hm]
    simp only [Nat.add_sub_cancel, Int.pow_succ]
    omega
  unfold signV gS
  rw [hok]
  simp only [Int.toNat_natCast, if_true]
  split <;> split <;> omega

theorem plain_walk (H : Nat) (hH : H ≤ 65535) (l : List Int) (n cap b bx : Nat) (hn : n = l.length) (he : errOf (lP l) l.length = 0) (hl : l.length ≤ 16) (w : World) (hc : w.cell? ⟨b, 0, none⟩ = some (.int .u32 H)) (hx : ∀ j, j < l.length → w.cell? ⟨bx, j, none⟩ = some (.int .i64 (l.getD j 0))) :
    Calls Tryd.prog 31 #[.slice (some ⟨bx, 0, none⟩) n cap, .pointer (some ⟨b, 0, none⟩)] w fun e w' => e = .returned (.int .i64 (gL H l)) ∧ w' = w := by
  subst hn
  have hC : Cells w (some ⟨bx, 0, none⟩) l.length (lP l) := .inr ⟨bx, 0, rfl, fun i hi => by rw [Nat.zero_add]; exact hx i hi⟩
  have hG := gather_u H (by omega) (by omega) (some ⟨bx, 0, none⟩) l.length cap (lP l) w hC
  have hv : gathV H (lP l) l.length = gL H l := by simp [gathV, he, gL]
  rw [hv, he] at hG
  have hlt : (gL H l : Int) < 65536 := by
    have h1 := gL_lt H l
    have h2 : 2 ^ l.length ≤ 2 ^ 16 := Nat.pow_le_pow_right (by decide) hl
    omega
  have hge : (0 : Int) ≤ gL H l := by omega
  clear hv
  generalize (gL H l : Int) = g at hG hlt hge ⊢
  go_enter Tryd.func31, Tryd.ntmps31
  go_wp2_with (go_at_call 32; refine hG.mono ?_; rintro e w' ⟨rfl, rfl⟩)
  go_ret
  exact ⟨rfl, rfl⟩

theorem signed_walk (H : Nat) (hH : H ≤ 65535) (l : List Int) (n cap b bx : Nat) (hn : n = l.length) (he : errOf (lP l) l.length = 0) (h1 : 1 ≤ l.length) (hl : l.length ≤ 16) (w : World) (hc : w.cell? ⟨b, 0, none⟩ = some (.int .u32 H)) (hx : ∀ j, j < l.length → w.cell? ⟨bx, j, none⟩ = some (.int .i64 (l.getD j 0))) :
    Calls Tryd.prog 33 #[.slice (some ⟨bx, 0, none⟩) n cap, .pointer (some ⟨b, 0, none⟩)] w fun e w' => e = .returned (.int .i64 (gS H l)) ∧ Kept w w' := by
  subst hn
  have hC : Cells w (some ⟨bx, 0, none⟩) l.length (lP l) := .inr ⟨bx, 0, rfl, fun i hi => by rw [Nat.zero_add]; exact hx i hi⟩
  have hG := gather_u H (by omega) (by omega) (some ⟨bx, 0, none⟩) l.length cap (lP l) w hC
  have hv : gathV H (lP l) l.length = gL H l := by simp [gathV, he, gL]
  rw [hv, he] at hG
  have hlt : (gL H l : Int) < 65536 := by
    have h1 := gL_lt H l
    have h2 : 2 ^ l.length ≤ 2 ^ 16 := Nat.pow_le_pow_right (by decide) hl
    omega
  have hge : (0 : Int) ≤ gL H l := by omega
  have hS := fun w => sign_u (gL H l) (l.length : Int) (by omega) (by omega) w
  have hSv := sign_gS H l h1 (by omega)
  rw [hSv] at hS
  clear hv hSv
  generalize okE (signOk (gL H l) (l.length : Int)) = ok at hS
  generalize gS H l = s at hS ⊢
  generalize (gL H l : Int) = g at hG hlt hge hS ⊢
  go_enter Tryd.func33, Tryd.ntmps33
  go_wp2_with (first
    | (go_at_call 32; refine hG.mono ?_; rintro e w' ⟨rfl, rfl⟩)
    | (go_at_call 34; refine (hS _).mono ?_; rintro e w' ⟨rfl, m, rfl⟩))
  go_ret
  exact ⟨rfl, Kept.drewN _ _⟩
end Go.Proofs.YtbmcanpjpibecaaDoor
