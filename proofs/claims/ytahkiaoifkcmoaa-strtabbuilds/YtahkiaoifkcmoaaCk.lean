/- Bytes that are looked for; names that may not be; whether a table may be, and the name at a place; and the document's own. -/
import Derived.Test.YtahkiaoifkcmoaaAp
import Derived.Deep.LoopGhost
import Derived.Lib.Walk
namespace Go.Proofs.Ytahkiaoifkcmoaa
open Go.RowKit

/-! ### The library's -/
theorem liteIx_walk (s : ByteArray) (w : World) :
    Calls Try.prog 28 #[.string s, .int .u8 0] w fun e w' => e = .returned (.int .i64 (Lib.indexByte s.data.toList 0)) ∧ w' = w := by
  go_enter Try.func28, Try.ntmps28
  go_wp2
  rw [run_callFunc_extern Try.func29 (by kernel_rfl) (by kernel_rfl) (by kernel_rfl) (e := Extern.BytealgIndexByte.indexByte) (by kernel_rfl), Lib.run_indexByteString]
  simp only [Result.andThen]
  rw [Oper.upon_value]
  go_wp2
  go_ret
  exact ⟨rfl, rfl⟩
theorem strIx_walk (s : ByteArray) (w : World) :
    Calls Try.prog 26 #[.string s, .int .u8 0] w fun e w' => e = .returned (.int .i64 (Lib.indexByte s.data.toList 0)) ∧ w' = w := by
  go_enter Try.func26, Try.ntmps26
  go_wp2_with (go_at_call 28; refine (liteIx_walk s _).mono ?_; rintro e w' ⟨rfl, rfl⟩)
  go_ret
  exact ⟨rfl, rfl⟩
theorem bytIx_walk (b off cap : Nat) (l : List Int) (w : World) (hc : ∀ i, i < l.length → w.cell? ⟨b, off + i, none⟩ = some (.int .u8 (l.getD i 0))) :
    Calls Try.prog 18 #[.slice (some ⟨b, off, none⟩) l.length cap, .int .u8 0] w fun e w' => e = .returned (.int .i64 (Lib.indexByte (Lib.bytesOf l) 0)) ∧ w' = w := by
  go_enter Try.func18, Try.ntmps18
  go_wp2
  rw [run_callFunc_extern Try.func24 (by kernel_rfl) (by kernel_rfl) (by kernel_rfl) (e := Extern.BytealgIndexByte.indexByte) (by kernel_rfl), Lib.run_indexByteSlice w b off l.length cap l rfl hc 0]
  simp only [Result.andThen]
  rw [Oper.upon_value]
  go_wp2
  go_ret
  exact ⟨rfl, rfl⟩

/-! ### Names that may not be -/
theorem isWrong_walk (s : ByteArray) (w : World) (_hs : s.size ≤ maxLen) :
    Calls Try.prog 20 #[.string s] w fun e w' => e = .returned (.bool (wrongB s)) ∧ w' = w := by
  by_cases h : 64 < s.size
  · have e : wrongB s = true := by simp [wrongB, h]
    rw [e]
    go_enter Try.func20, Try.ntmps20
    go_wp2
    go_ret
    exact ⟨rfl, rfl⟩
  · have e : wrongB s = decide (0 ≤ Lib.indexByte s.data.toList 0) := by rw [ix_str]; simp [wrongB, h]
    rw [e]
    have hd : decide (64 < (s.size : Int)) = false := by simp; omega
    go_enter Try.func20, Try.ntmps20
    go_wp2_with (go_at_call 26; refine (strIx_walk s _).mono ?_; rintro e w' ⟨rfl, rfl⟩)
    go_ret
    exact ⟨rfl, rfl⟩

set_option maxHeartbeats 1600000 in
theorem indexFunc_walk (a : Option Addr) (cap : Nat) (ss : List ByteArray) (w : World) (hn : ss.length ≤ 1024) (hsz : ∀ s ∈ ss, s.size ≤ maxLen) (hS : Strs w a ss) :
    Calls Try.prog 25 #[.slice a ss.length cap, .func (.func 20) #[] #[]] w fun e w' => (∃ k : Int, e = .returned (.int .i64 k) ∧ decide (0 ≤ k) = badB ss) ∧ w' = w := by
  obtain ⟨n, hlen⟩ : ∃ n, ss.length = n := ⟨_, rfl⟩
  rw [hlen] at hn ⊢
  go_enter Try.func25, Try.ntmps25
  go_wp2
  go_loop [8] (fun i => ∃ k : Nat, k ≤ n ∧ i = .int .i64 k ∧ Hid (∀ j, j < k → wrongB (ss.getD j ByteArray.empty) = false)) (fun i => n - (intOf i).toNat)
  case atStart => exact ⟨0, Nat.zero_le _, rfl, fun j hj => absurd hj (Nat.not_lt_zero _)⟩
  case round =>
    obtain ⟨k, hk, rfl, A⟩ := hrel
    by_cases hlt : k < n
    · obtain ⟨b, off, rfl, hc⟩ := hS.at (show k < ss.length by omega)
      have hcell := hc k (by omega)
      obtain ⟨s, hs⟩ : ∃ s, ss.getD k ByteArray.empty = s := ⟨_, rfl⟩
      have hmem : s ∈ ss := by rw [← hs]; exact getD_mem (by omega)
      have hsm := hsz s hmem
      rw [hs] at hcell
      have HS : Hid (ss.getD k ByteArray.empty = s) := hs
      clear hs hc hS hsz
      cases hq : wrongB s with
      | true =>
        have hw := isWrong_walk s w hsm
        rw [hq] at hw
        go_wp2_with (go_at_call 20; refine hw.mono ?_; rintro e w' ⟨rfl, hw'⟩; subst hw')
        go_ret
        refine ⟨⟨_, rfl, ?_⟩, rfl⟩
        have : badB ss = true := by unfold badB; rw [List.any_eq_true]; exact ⟨s, hmem, hq⟩
        rw [this]
        simp
      | false =>
        have hw := isWrong_walk s w hsm
        rw [hq] at hw
        go_wp2_with (go_at_call 20; refine hw.mono ?_; rintro e w' ⟨rfl, hw'⟩; subst hw')
        go_round
        case rel =>
          refine ⟨k + 1, by omega, by go_num, fun j hj => ?_⟩
          by_cases e : j = k
          · subst e; rw [HS.out]; exact hq
          · exact A.out j (by omega)
        case measure => simp [intOf]; omega
    · obtain rfl : k = n := by omega
      go_wp2
      go_ret
      refine ⟨⟨_, rfl, ?_⟩, rfl⟩
      have : badB ss = false := by
        unfold badB
        rw [List.any_eq_false]
        intro s hs
        obtain ⟨j, hj, rfl⟩ := List.mem_iff_getElem.1 hs
        have := A.out j (by omega)
        rw [List.getD, List.getElem?_eq_getElem hj] at this
        simpa using this
      rw [this]
      rfl
theorem containsFunc_walk (a : Option Addr) (cap : Nat) (ss : List ByteArray) (w : World) (hn : ss.length ≤ 1024) (hsz : ∀ s ∈ ss, s.size ≤ maxLen) (hS : Strs w a ss) :
    Calls Try.prog 19 #[.slice a ss.length cap, .func (.func 20) #[] #[]] w fun e w' => e = .returned (.bool (badB ss)) ∧ w' = w := by
  have h := indexFunc_walk a cap ss w hn hsz hS
  obtain ⟨n, hlen⟩ : ∃ n, ss.length = n := ⟨_, rfl⟩
  rw [hlen] at h ⊢
  go_enter Try.func19, Try.ntmps19
  go_wp2_with (go_at_call 25; refine h.mono ?_; rintro e w' ⟨⟨k, rfl, hb⟩, hw'⟩; subst hw')
  go_ret
  exact ⟨rfl, rfl⟩
end Go.Proofs.Ytahkiaoifkcmoaa
