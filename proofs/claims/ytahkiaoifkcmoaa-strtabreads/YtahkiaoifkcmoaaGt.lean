/- Whether a table may be, and the name at a place; and the document's own. -/
import Derived.Test.YtahkiaoifkcmoaaCk
namespace Go.Proofs.Ytahkiaoifkcmoaa
open Go.RowKit

theorem getD_any {l : List Int} {i : Nat} (h : i < l.length) (d e : Int) : l.getD i d = l.getD i e := by simp [List.getD, h]
/-- A table, told by its two ends. -/
theorem chk_ends {l : List Int} (h0 : 1 ≤ l.length) (h1 : l.length ≤ 65536) : chkB l = (decide (l.getD 0 0 = 0) && decide (l.getD (l.length - 1) 0 = 0)) := by
  unfold chkB
  rw [getD_any (show 0 < l.length by omega) 1 0, getD_any (show l.length - 1 < l.length by omega) 1 0, Bool.eq_iff_iff]
  simp [h1]
  omega
theorem chkE_no {l : List Int} (h : chkB l = false) : chkE l = 8 := by simp [chkE, h]
theorem chkE_yes {l : List Int} (h : chkB l = true) : chkE l = 0 := by simp [chkE, h]
theorem chk_none {l : List Int} (h : l.length = 0) : chkB l = false := decide_eq_false (by omega)
theorem chk_great {l : List Int} (h : 65536 < l.length) : chkB l = false := decide_eq_false (by omega)

set_option maxHeartbeats 1600000 in
theorem check_gen (b off n cap : Nat) (x y : Int) (w : World) (h0 : 1 ≤ n) (h1 : n ≤ 65536) (_hcap : n ≤ cap) (hx : w.cell? ⟨b, off, none⟩ = some (.int .u8 x)) (hy : w.cell? ⟨b, off + (n - 1), none⟩ = some (.int .u8 y)) :
    Calls Try.prog 12 #[.slice (some ⟨b, off, none⟩) n cap] w fun e w' => e = .returned (.int .i64 (if (decide (x = 0) && decide (y = 0)) = true then 0 else 8)) ∧ w' = w := by
  have d1 : decide ((n : Int) < 1) = false := by simp; omega
  have d2 : decide ((65536 : Int) < (n : Int)) = false := by simp; omega
  by_cases ex : x = 0
  · have ex' : (x != 0) = false := by simp [ex]
    by_cases ey : y = 0
    · have ey' : (y != 0) = false := by simp [ey]
      simp only [ex, ey, decide_true, Bool.and_self, if_true]
      subst ex ey
      go_enter Try.func12, Try.ntmps12
      go_wp2
      go_ret
      exact ⟨rfl, rfl⟩
    · have ey' : (y != 0) = true := by simp [ey]
      simp only [ex, ey, decide_true, decide_false, Bool.and_false, Bool.false_eq_true, if_false]
      subst ex
      go_enter Try.func12, Try.ntmps12
      go_wp2
      go_ret
      exact ⟨rfl, rfl⟩
  · have ex' : (x != 0) = true := by simp [ex]
    simp only [ex, decide_false, Bool.false_and, Bool.false_eq_true, if_false]
    go_enter Try.func12, Try.ntmps12
    go_wp2
    go_ret
    exact ⟨rfl, rfl⟩

theorem check_walk (a : Option Addr) (cap : Nat) (l : List Int) (w : World) (hlen : l.length ≤ 1000000) (hcap : l.length ≤ cap) (hb : Byt w a l) :
    Calls Try.prog 12 #[.slice a l.length cap] w fun e w' => e = .returned (.int .i64 (chkE l)) ∧ w' = w := by
  by_cases h0 : l.length = 0
  · rw [chkE_no (chk_none h0), h0]
    go_enter Try.func12, Try.ntmps12
    go_wp2
    go_ret
    exact ⟨rfl, rfl⟩
  · by_cases h1 : 65536 < l.length
    · rw [chkE_no (chk_great h1)]
      obtain ⟨n, hn⟩ : ∃ n, l.length = n := ⟨_, rfl⟩
      rw [hn] at h1 h0 hlen ⊢
      have d1 : decide ((n : Int) < 1) = false := by simp; omega
      have d2 : decide ((65536 : Int) < (n : Int)) = true := by simp; omega
      go_enter Try.func12, Try.ntmps12
      go_wp2
      go_ret
      exact ⟨rfl, rfl⟩
    · rcases hb with rfl | ⟨b, off, rfl, hc⟩
      · simp at h0
      · unfold chkE
        rw [chk_ends (by omega) (by omega)]
        exact check_gen b off l.length cap _ _ w (by omega) (by omega) hcap (by have := hc 0 (by omega); simpa using this) (hc (l.length - 1) (by omega))

set_option maxHeartbeats 1600000 in
theorem rcheck_gen (b off n cap : Nat) (x y : Int) (w : World) (h0 : 1 ≤ n) (h1 : n ≤ 65536) (_hcap : n ≤ cap) (hx : w.cell? ⟨b, off, none⟩ = some (.int .u8 x)) (hy : w.cell? ⟨b, off + (n - 1), none⟩ = some (.int .u8 y)) :
    Calls Try.prog 17 #[.slice (some ⟨b, off, none⟩) n cap] w fun e w' => e = .returned (.int .i64 (if (decide (x = 0) && decide (y = 0)) = true then 0 else 8)) ∧ w' = w := by
  have d1 : decide ((n : Int) < 1) = false := by simp; omega
  have d2 : decide ((65536 : Int) < (n : Int)) = false := by simp; omega
  by_cases ex : x = 0
  · have ex' : (x != 0) = false := by simp [ex]
    by_cases ey : y = 0
    · have ey' : (y != 0) = false := by simp [ey]
      simp only [ex, ey, decide_true, Bool.and_self, if_true]
      subst ex ey
      go_enter Try.func17, Try.ntmps17
      go_wp2
      go_ret
      exact ⟨rfl, rfl⟩
    · have ey' : (y != 0) = true := by simp [ey]
      simp only [ex, ey, decide_true, decide_false, Bool.and_false, Bool.false_eq_true, if_false]
      subst ex
      go_enter Try.func17, Try.ntmps17
      go_wp2
      go_ret
      exact ⟨rfl, rfl⟩
  · have ex' : (x != 0) = true := by simp [ex]
    simp only [ex, decide_false, Bool.false_and, Bool.false_eq_true, if_false]
    go_enter Try.func17, Try.ntmps17
    go_wp2
    go_ret
    exact ⟨rfl, rfl⟩

theorem rcheck_walk (a : Option Addr) (cap : Nat) (l : List Int) (w : World) (hlen : l.length ≤ 1000000) (hcap : l.length ≤ cap) (hb : Byt w a l) :
    Calls Try.prog 17 #[.slice a l.length cap] w fun e w' => e = .returned (.int .i64 (chkE l)) ∧ w' = w := by
  by_cases h0 : l.length = 0
  · rw [chkE_no (chk_none h0), h0]
    go_enter Try.func17, Try.ntmps17
    go_wp2
    go_ret
    exact ⟨rfl, rfl⟩
  · by_cases h1 : 65536 < l.length
    · rw [chkE_no (chk_great h1)]
      obtain ⟨n, hn⟩ : ∃ n, l.length = n := ⟨_, rfl⟩
      rw [hn] at h1 h0 hlen ⊢
      have d1 : decide ((n : Int) < 1) = false := by simp; omega
      have d2 : decide ((65536 : Int) < (n : Int)) = true := by simp; omega
      go_enter Try.func17, Try.ntmps17
      go_wp2
      go_ret
      exact ⟨rfl, rfl⟩
    · rcases hb with rfl | ⟨b, off, rfl, hc⟩
      · simp at h0
      · unfold chkE
        rw [chk_ends (by omega) (by omega)]
        exact rcheck_gen b off l.length cap _ _ w (by omega) (by omega) hcap (by have := hc 0 (by omega); simpa using this) (hc (l.length - 1) (by omega))

/-! ### The name at a place -/
theorem bytIx_len (b off n cap : Nat) (l : List Int) (w : World) (hl : l.length = n) (hc : ∀ i, i < l.length → w.cell? ⟨b, off + i, none⟩ = some (.int .u8 (l.getD i 0))) :
    Calls Try.prog 18 #[.slice (some ⟨b, off, none⟩) n cap, .int .u8 0] w fun e w' => e = .returned (.int .i64 (Lib.indexByte (Lib.bytesOf l) 0)) ∧ w' = w := by
  subst hl
  exact bytIx_walk b off cap l w hc
theorem check_len (a : Option Addr) (n cap : Nat) (l : List Int) (w : World) (hl : l.length = n) (hlen : n ≤ 1000000) (hcap : n ≤ cap) (hb : Byt w a l) :
    Calls Try.prog 12 #[.slice a n cap] w fun e w' => e = .returned (.int .i64 (chkE l)) ∧ w' = w := by
  subst hl
  exact check_walk a cap l w hlen hcap hb
theorem rcheck_len (a : Option Addr) (n cap : Nat) (l : List Int) (w : World) (hl : l.length = n) (hlen : n ≤ 1000000) (hcap : n ≤ cap) (hb : Byt w a l) :
    Calls Try.prog 17 #[.slice a n cap] w fun e w' => e = .returned (.int .i64 (chkE l)) ∧ w' = w := by
  subst hl
  exact rcheck_walk a cap l w hlen hcap hb
theorem Byt.cells {w : World} {a : Option Addr} {l : List Int} (h : Byt w a l) (h0 : 0 < l.length) : ∃ b off, a = some ⟨b, off, none⟩ ∧ ∀ i, i < l.length → w.cell? ⟨b, off + i, none⟩ = some (.int .u8 (l.getD i 0)) := by
  rcases h with rfl | h
  · simp at h0
  · exact h

theorem nmAt_getD {l : List Int} (h : chkB l = true) {p : Nat} (hp : p < l.length) {i : Nat} (hi : i < (nmAt l p).length) : l.getD (p + i) 0 = (nmAt l p).getD i 0 := by
  obtain ⟨h0, hl⟩ := chk_last h
  obtain ⟨h1, _, h3⟩ := nmAt_end h0 hl p hp
  have e : ((l.drop p).take (nmAt l p).length).getD i 0 = l.getD (p + i) 0 := by
    rw [List.getD, List.getElem?_take, if_pos hi, List.getElem?_drop]
    rfl
  rw [← e, h3]

set_option maxHeartbeats 1600000 in
theorem get_gen (b off n p k cap : Nat) (s : ByteArray) (w : World) (_hn : n ≤ 65536) (hp : p < n) (hk : p + k < n) (hcap : n ≤ cap)
    (hC : Calls Try.prog 12 #[.slice (some ⟨b, off, none⟩) n cap] w fun e w' => e = .returned (.int .i64 0) ∧ w' = w)
    (hI : Calls Try.prog 18 #[.slice (some ⟨b, off + p, none⟩) (n - p) (cap - p), .int .u8 0] w fun e w' => e = .returned (.int .i64 (k : Int)) ∧ w' = w)
    (hS : (convert 22 9 (.slice (some ⟨b, off + p, none⟩) k (cap - p))).run Try.prog w = .ok (.string s) w) :
    Calls Try.prog 9 #[.slice (some ⟨b, off, none⟩) n cap, .int .i64 (p : Int)] w fun e w' => e = .returned (.tuple #[.string s, .int .i64 0]) ∧ w' = w := by
  have h1 : p < cap := by omega
  have h2 : k ≤ cap - p := by omega
  have h3 : k ≤ n - p := by omega
  go_enter Try.func9, Try.ntmps9
  go_wp2_with (first
    | (go_at_call 12; refine hC.mono ?_; rintro e w' ⟨rfl, hw'⟩; subst hw')
    | (go_at_call 18; refine hI.mono ?_; rintro e w' ⟨rfl, hw'⟩; subst hw'))
  go_ret2
  exact ⟨rfl, rfl⟩

theorem get_no (a : Option Addr) (n cap : Nat) (l : List Int) (p : Int) (w : World) (hl : l.length = n) (hlen : n ≤ 1000000) (hcap : n ≤ cap) (hb : Byt w a l) (h : inG l p = false) :
    Calls Try.prog 9 #[.slice a n cap, .int .i64 p] w fun e w' => e = .returned (.tuple #[.string ⟨#[]⟩, .int .i64 8]) ∧ w' = w := by
  have hC := check_len a n cap l w hl hlen hcap hb
  cases hc : chkB l
  · rw [chkE_no hc] at hC
    go_enter Try.func9, Try.ntmps9
    go_wp2_with (go_at_call 12; refine hC.mono ?_; rintro e w' ⟨rfl, hw'⟩; subst hw')
    go_ret2
    exact ⟨rfl, rfl⟩
  · rw [chkE_yes hc] at hC
    unfold inG at h
    rw [hc, Bool.true_and, decide_eq_false_iff_not, hl] at h
    by_cases h0 : p < 0
    · clear h
      go_enter Try.func9, Try.ntmps9
      go_wp2_with (go_at_call 12; refine hC.mono ?_; rintro e w' ⟨rfl, hw'⟩; subst hw')
      go_ret2
      exact ⟨rfl, rfl⟩
    · have h1 : (n : Int) ≤ p := by omega
      clear h
      go_enter Try.func9, Try.ntmps9
      go_wp2_with (go_at_call 12; refine hC.mono ?_; rintro e w' ⟨rfl, hw'⟩; subst hw')
      go_ret2
      exact ⟨rfl, rfl⟩

theorem getS_no {l : List Int} {p : Int} (h : inG l p = false) : getS l p = [] ∧ getR l p = 8 := by simp [getS, getR, h]
theorem getS_yes {l : List Int} {p : Int} (h : inG l p = true) : getS l p = nmAt l p.toNat ∧ getR l p = 0 := by simp [getS, getR, h]
theorem str_empty : strOfNums [] = ⟨#[]⟩ := rfl

/-- What Get gives. -/
theorem get_walk (a : Option Addr) (n cap : Nat) (l : List Int) (p : Int) (w : World) (hr : ∀ x ∈ l, 0 ≤ x ∧ x < 256) (hl : l.length = n) (hlen : n ≤ 1000000) (hcap : n ≤ cap) (hb : Byt w a l) :
    Calls Try.prog 9 #[.slice a n cap, .int .i64 p] w fun e w' => e = .returned (.tuple #[.string (strOfNums (getS l p)), .int .i64 (getR l p)]) ∧ w' = w := by
  cases hi : inG l p
  · rw [(getS_no hi).1, (getS_no hi).2]
    exact get_no a n cap l p w hl hlen hcap hb hi
  · rw [(getS_yes hi).1, (getS_yes hi).2]
    obtain ⟨hc, h0, h1⟩ := inG_true hi
    have hC := check_len a n cap l w hl hlen hcap hb
    rw [chkE_yes hc] at hC
    obtain ⟨q, rfl⟩ : ∃ q : Nat, p = (q : Int) := ⟨p.toNat, by omega⟩
    rw [Int.toNat_natCast]
    have hq : q < l.length := by omega
    obtain ⟨hl0, hlast⟩ := chk_last hc
    obtain ⟨e1, e2, e3⟩ := nmAt_end hl0 hlast q hq
    have hn := (chk_true hc).2.1
    obtain ⟨b, off, rfl, hcell⟩ := hb.cells hl0
    have hdrop : ∀ i, i < (l.drop q).length → w.cell? ⟨b, off + q + i, none⟩ = some (.int .u8 ((l.drop q).getD i 0)) := by
      intro i hi
      rw [List.length_drop] at hi
      rw [Nat.add_assoc, hcell (q + i) (by omega)]
      simp [List.getD]
    have h0m : (0 : Int) ∈ l.drop q := by
      rw [List.mem_iff_getElem]
      refine ⟨l.length - 1 - q, by rw [List.length_drop]; omega, ?_⟩
      rw [List.getElem_drop, ← hlast]
      congr 1
      omega
    have hix := ix_some (l := l.drop q) (fun x hx => hr x (List.mem_of_mem_drop hx)) h0m
    have hI := bytIx_len b (off + q) (n - q) (cap - q) (l.drop q) w (by rw [List.length_drop, hl]) hdrop
    rw [hix] at hI
    have hB : Byt w (some ⟨b, off + q, none⟩) (nmAt l q) := .inr ⟨b, off + q, rfl, fun i hi => by
      rw [Nat.add_assoc, hcell (q + i) (by omega), nmAt_getD hc hq hi]⟩
    exact get_gen b off n q (nmAt l q).length cap (strOfNums (nmAt l q)) w (by omega) (by omega) (by omega) hcap hC hI (str_run w _ (nmAt l q) (cap - q) hB)
end Go.Proofs.Ytahkiaoifkcmoaa
