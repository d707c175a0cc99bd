/- What the document's own Get gives. -/
import Derived.Test.YtjaeidmbeidhlaaGe
namespace Go.Proofs.Ytjaeidmbeidhlaa
open Go.RowKit

set_option maxHeartbeats 1600000 in
theorem rget_yes (b off at_ size cap : Nat) (l : List Int) (w : World) (hl : ∀ x ∈ l, 0 ≤ x ∧ x < 256) (hlen : l.length ≤ 1000000) (hcap : l.length ≤ cap) (hs : szB (size : Int) = true) (hin : at_ + size ≤ l.length)
    (hc : ∀ i, i < l.length → w.cell? ⟨b, off + i, none⟩ = some (.int .u8 (l.getD i 0))) :
    Calls Try.prog 14 #[.slice (some ⟨b, off, none⟩) l.length cap, .int .i64 (at_ : Int), .int .i64 (size : Int)] w fun e w' => e = .returned (.tuple #[.int .i64 (sOf (nuN ((l.drop at_).take size))), .int .i64 0]) ∧ w' = w := by
  have hsz : 1 ≤ size ∧ size ≤ 8 := by rcases szB_true hs with h | h | h | h <;> omega
  obtain ⟨hs1, hs8⟩ := hsz
  have hpart := Byt.part hc hin
  obtain ⟨m, hm⟩ : ∃ m, (l.drop at_).take size = m := ⟨_, rfl⟩
  have hml : m.length = size := by rw [← hm]; simp; omega
  have hmr : ∀ x ∈ m, 0 ≤ x ∧ x < 256 := by
    intro x hx
    rw [← hm] at hx
    exact hl x (List.mem_of_mem_drop (List.mem_of_mem_take hx))
  rw [hm] at hpart ⊢
  have hnum := number_walk b (off + at_) (cap - at_) m w hmr (by omega) (by rw [hml]; exact hpart)
  rw [hml] at hnum
  clear hm hc hl hpart hmr hml
  obtain ⟨n, hn⟩ : ∃ n, n = l.length := ⟨_, rfl⟩
  rw [← hn] at hlen hcap hin ⊢
  clear hn
  have e1 : at_ + size - at_ = size := by omega
  have g1 : ((n : Int) < at_) = False := by simp; omega
  have g2 : ((n : Int) - at_ < size) = False := by simp; omega
  go_enter Try.func14, Try.ntmps14
  go_wp2_with (first
    | (go_at_call 20; refine (rsize_walk _ _).mono ?_; rintro e w' ⟨rfl, rfl⟩)
    | (go_at_call 21; refine hnum.mono ?_; rintro e w' ⟨rfl, rfl⟩))
  go_ret2
  exact ⟨rfl, rfl⟩

theorem rget_size (a : Option Addr) (len cap : Nat) (at_ size : Int) (w : World) (hs : szB size = false) :
    Calls Try.prog 14 #[.slice a len cap, .int .i64 at_, .int .i64 size] w fun e w' => e = .returned (.tuple #[.int .i64 0, .int .i64 2]) ∧ w' = w := by
  go_enter Try.func14, Try.ntmps14
  go_wp2_with (go_at_call 20; refine (rsize_walk _ _).mono ?_; rintro e w' ⟨rfl, rfl⟩)
  go_ret2
  exact ⟨rfl, rfl⟩

theorem rget_out (a : Option Addr) (len cap : Nat) (at_ size : Int) (w : World) (_hlen : len ≤ 1000000) (hs : szB size = true) (h : at_ < 0 ∨ (len : Int) < at_ + size) :
    Calls Try.prog 14 #[.slice a len cap, .int .i64 at_, .int .i64 size] w fun e w' => e = .returned (.tuple #[.int .i64 0, .int .i64 8]) ∧ w' = w := by
  have h8 : 1 ≤ size ∧ size ≤ 8 := by rcases szB_true hs with h | h | h | h <;> omega
  obtain ⟨h1, h8⟩ := h8
  by_cases hneg : at_ < 0
  · go_enter Try.func14, Try.ntmps14
    go_wp2_with (go_at_call 20; refine (rsize_walk _ _).mono ?_; rintro e w' ⟨rfl, rfl⟩)
    go_ret2
    exact ⟨rfl, rfl⟩
  · by_cases hg : (len : Int) < at_
    · clear h
      go_enter Try.func14, Try.ntmps14
      go_wp2_with (go_at_call 20; refine (rsize_walk _ _).mono ?_; rintro e w' ⟨rfl, rfl⟩)
      go_ret2
      exact ⟨rfl, rfl⟩
    · have hgt : (len : Int) - at_ < size := by omega
      clear h
      go_enter Try.func14, Try.ntmps14
      go_wp2_with (go_at_call 20; refine (rsize_walk _ _).mono ?_; rintro e w' ⟨rfl, rfl⟩)
      go_ret2
      exact ⟨rfl, rfl⟩

/-- What the document's own Get gives. -/
theorem rget_walk (a : Option Addr) (cap : Nat) (l : List Int) (at_ size : Int) (w : World) (hl : ∀ x ∈ l, 0 ≤ x ∧ x < 256) (hlen : l.length ≤ 1000000) (hcap : l.length ≤ cap) (hb : Byt w a l) :
    Calls Try.prog 14 #[.slice a l.length cap, .int .i64 at_, .int .i64 size] w fun e w' => e = .returned (.tuple #[.int .i64 (getV l at_ size), .int .i64 (getE l at_ size)]) ∧ w' = w := by
  cases hs : szB size
  · rw [(get_no hs).1, (get_no hs).2]
    exact rget_size a _ cap at_ size w hs
  · cases hi : inB l at_ size
    · have := of_decide_eq_false hi
      rw [(get_far hs hi).1, (get_far hs hi).2]
      exact rget_out a _ cap at_ size w hlen hs (by omega)
    · rw [(get_in hs hi).1, (get_in hs hi).2]
      obtain ⟨h0, h1⟩ := of_decide_eq_true hi
      have h8 : 1 ≤ size ∧ size ≤ 8 := by rcases szB_true hs with h | h | h | h <;> omega
      have es := szB_nat hs
      have ea : ((at_.toNat : Nat) : Int) = at_ := by omega
      rcases hb with rfl | ⟨b, off, rfl, hc⟩
      · simp at h1; omega
      · have := rget_yes b off at_.toNat size.toNat cap l w hl hlen hcap (by rw [es]; exact hs) (by omega) hc
        rw [es, ea] at this
        exact this
end Go.Proofs.Ytjaeidmbeidhlaa
