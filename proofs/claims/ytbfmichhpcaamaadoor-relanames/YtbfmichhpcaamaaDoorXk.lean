/- What all the laws of rela lean on: a relocation opened, the row's list met, the law's own functions. -/
import Derived.Test.YtbfmichhpcaamaaDoorXr
import Derived.Test.YtbfmichhpcaamaaDoorXq
import Derived.Test.YtbfmichhpcaamaaDoorCards
import Derived.Test.YtbfmichhpcaamaaDoorTie
import Derived.OpenShut
import Derived.ShutString
import Derived.ChangeSlices
import Derived.Carry
import Derived.LaidMore
import Derived.Deep.DeepHandedRow
namespace Go.Proofs.YtbfmichhpcaamaaDoor
open Go.ChangeShapes Go.WideShapes Go.ChangeAt Go.RowKit
open Go.ChangeMaps (open_string shut_string)

theorem own : ownKnob Tryd.prog.godebug = none := by kernel_rfl
theorem laidOut : laidOutB Tryd.prog = true := by kernel_rfl
abbrev Tab (w : World) : Prop := TabX w
theorem tab_of_laid {W : World} (h : laidMetH Tryd.prog [("quoin/rela.sizes", Rows.laid_quoin_rela_sizes)] W) : Tab W := tabX_of_laid h

/-- The row's list, met in the world that the program's own start-up leaves. -/
theorem door_met (os : Os) (args : Array Value) : laidMet Tryd.prog [("quoin/rela.sizes", Rows.laid_quoin_rela_sizes)] ((World.doorLaid Tryd.prog 400 os).forCall (fun _ _ => 0) ⟨#[], args, []⟩).memory :=
  laidMet_of_run' 8 (by kernel_rfl) (by kernel_rfl)

/-- WHAT IS KNOWN OF A RELOCATION THAT CAME IN. -/
structure RelaOk (sec off ty sy ad : Int) : Prop where
  sl : -9223372036854775808 ≤ sec
  su : sec ≤ 9223372036854775807
  ol : -9223372036854775808 ≤ off
  ou : off ≤ 9223372036854775807
  t0 : 0 ≤ ty
  t1 : ty < 256
  yl : -9223372036854775808 ≤ sy
  yu : sy ≤ 9223372036854775807
  al : -9223372036854775808 ≤ ad
  au : ad ≤ 9223372036854775807

set_option maxRecDepth 20000 in
/-- A RELOCATION, OPENED. -/
theorem open_rela {H : Type} {enc : TypeId × Value → H} {w : World} {base : Nat} {sp : Nat → Bool} {held : Bool} {r : Reach} {b0 : Nat} {v : Value} {d : DataW H} {ps : List MemPlace}
    (hval : Value.okWide Tryd.prog w r b0 27 v) (hd : DataW.Trod enc Tryd.prog w base sp held 27 v d ps) :
    ∃ (sec off ty sy ad : Int), v = relW sec off ty sy ad ∧ ps = [] ∧ RelaOk sec off ty sy ad := by
  have hcS : Tryd.prog.cellsOf 27 = 5 := by kernel_rfl
  have hc5 : Tryd.prog.cellsOf 5 = 1 := by kernel_rfl
  have hc3 : Tryd.prog.cellsOf 3 = 1 := by kernel_rfl
  simp only [Value.okWide, Tryd.underlying27] at hval
  obtain ⟨cs, rfl, hsz, _⟩ := hval
  obtain ⟨fuel, hf⟩ := hd
  obtain ⟨ys, m, _, hx, _, hl, hfl⟩ := DataW.trod_struct Tryd.underlying27 hf
  match ys, hl with
  | [y0, y1, y2, y3, y4], _ =>
    have h0 := hfl 0 _ rfl
    have h1 := hfl 1 _ rfl
    have h2 := hfl 2 _ rfl
    have h3 := hfl 3 _ rfl
    have h4 := hfl 4 _ rfl
    obtain ⟨l⟩ := cs
    rw [hcS] at hsz
    match l, hsz with
    | [c0, c1, c2, c3, c4], _ =>
      simp [hc5, hc3, Value.cells] at h0 h1 h2 h3 h4
      obtain ⟨sec, e0, rfl, s0⟩ := DataW.trod_int Tryd.underlying3 h0
      obtain ⟨off, e1, rfl, s1⟩ := DataW.trod_int Tryd.underlying3 h1
      obtain ⟨ty, e2, rfl, s2⟩ := DataW.trod_int Tryd.underlying5 h2
      obtain ⟨sy, e3, rfl, s3⟩ := DataW.trod_int Tryd.underlying3 h3
      obtain ⟨ad, e4, rfl, s4⟩ := DataW.trod_int Tryd.underlying3 h4
      simp at e0 e1 e2 e3 e4
      subst e0 e1 e2 e3 e4
      refine ⟨sec, off, ty, sy, ad, rfl, ?_, ⟨(wf_int s0).1, (wf_int s0).2, (wf_int s1).1, (wf_int s1).2, (wf_u8 s2).1, (wf_u8 s2).2, (wf_int s3).1, (wf_int s3).2, (wf_int s4).1, (wf_int s4).2⟩⟩
      simp only [Prod.mk.injEq] at hx
      simpa using hx.2

/-! ### The law's own section of eight bytes -/
def txtV (b : Nat) : SecV := ⟨⟨#[46, 116, 101, 120, 116]⟩, 2, some ⟨b, 0, none⟩, 8, 0, [0, 0, 0, 0, 0, 0, 0, 0]⟩
theorem hmkT (w : World) : (Instr.makeSlice 33 (.int .i64 8) (.int .i64 8)).run Tryd.prog w = .ok (.slice (some ⟨w.heap.size, 0, none⟩) 8 8) (w.alloc (.cells (Array.replicate 8 (.int .u8 0)) 5)) := by kernel_rfl
theorem byt_eight (w : World) : Byt (w.alloc (.cells (Array.replicate 8 (.int .u8 0)) 5)) (some ⟨w.heap.size, 0, none⟩) [0, 0, 0, 0, 0, 0, 0, 0] := by
  refine .inr ⟨w.heap.size, 0, rfl, fun i hi => ?_⟩
  rcases (show i = 0 ∨ i = 1 ∨ i = 2 ∨ i = 3 ∨ i = 4 ∨ i = 5 ∨ i = 6 ∨ i = 7 by simp at hi; omega) with rfl | rfl | rfl | rfl | rfl | rfl | rfl | rfl <;> simp
theorem txt_ok {w : World} {b : Nat} (h : Byt w (some ⟨b, 0, none⟩) [0, 0, 0, 0, 0, 0, 0, 0]) : SecOk w (txtV b) :=
  ⟨(by decide : (⟨#[46, 116, 101, 120, 116]⟩ : ByteArray).size ≤ maxLen), (by decide : 8 ≤ 8), (by decide : 8 ≤ maxLen), h, (fun e => by cases e), (by decide : (-9223372036854775808 : Int) ≤ 2), (by decide : (2 : Int) ≤ 9223372036854775807),
    (by decide : (-9223372036854775808 : Int) ≤ 0), (by decide : (0 : Int) ≤ 9223372036854775807), (by decide : ∀ x ∈ ([0, 0, 0, 0, 0, 0, 0, 0] : List Int), 0 ≤ x ∧ x < 256)⟩
set_option maxHeartbeats 1600000 in
theorem text_walk (w : World) : Calls Tryd.prog 10 #[] w fun e w' => ∃ a b, e = .returned (.slice a 1 1) ∧ Secs w' a [txtV b] ∧ Kept w w' := by
  have hm := hmkT w
  have O1 := byt_eight w
  have k2 : Kept w (w.alloc (.cells (Array.replicate 8 (.int .u8 0)) 5)) := Kept.alloc _ _
  obtain ⟨w2, hw2⟩ : ∃ w2, w.alloc (.cells (Array.replicate 8 (.int .u8 0)) 5) = w2 := ⟨_, rfl⟩
  rw [hw2] at hm O1 k2
  have B := Box.new w2 ⟨#[46, 116, 101, 120, 116]⟩ 2 (.slice (some ⟨w.heap.size, 0, none⟩) 8 8) 0
  have k3 : Kept w2 (w2.alloc (.cells #[.string ⟨#[46, 116, 101, 120, 116]⟩, .int .i64 2, .slice (some ⟨w.heap.size, 0, none⟩) 8 8, .int .i64 0] 47)) := Kept.alloc _ _
  obtain ⟨w3, hw3⟩ : ∃ w3, w2.alloc (.cells #[.string ⟨#[46, 116, 101, 120, 116]⟩, .int .i64 2, .slice (some ⟨w.heap.size, 0, none⟩) 8 8, .int .i64 0] 47) = w3 := ⟨_, rfl⟩
  rw [hw3] at B k3
  have HS : Hid (Secs w3 (some ⟨w2.heap.size, 0, none⟩) [txtV w.heap.size]) := by
    refine .inr ⟨w2.heap.size, 0, rfl, fun i hi => ?_⟩
    obtain rfl : i = 0 := by simp at hi; omega
    exact ⟨B.c0, B.c1, B.c2, B.c3, txt_ok (O1.kept k3)⟩
  have K := k2.trans k3
  clear O1 k2 k3 B
  go_enter Tryd.func10, Tryd.ntmps10
  go_wp2
  go_ret
  exact ⟨_, _, rfl, HS.out, K⟩

/-! ### The law's first example -/
theorem al_all : wxE 4 16 2 (-1) = 0 ∧ wxL 4 16 2 (-1) = [4, 0, 0, 0, 0, 0, 0, 0, 16, 0, 0, 0, 3, 0, 0, 0, 255, 255, 255, 255, 255, 255, 255, 255] := by decide +kernel
theorem al_str : strOfNums [4, 0, 0, 0, 0, 0, 0, 0, 16, 0, 0, 0, 3, 0, 0, 0, 255, 255, 255, 255, 255, 255, 255, 255] = ⟨#[4, 0, 0, 0, 0, 0, 0, 0, 16, 0, 0, 0, 3, 0, 0, 0, 255, 255, 255, 255, 255, 255, 255, 255]⟩ := by kernel_rfl
theorem al_chk (b : Nat) : chkX 1 0 18 0 0 [txtV b] 1 = 0 := by
  have h : chkX 1 0 18 0 0 [txtV 0] 1 = 0 := by decide +kernel
  exact h
set_option maxRecDepth 20000 in
set_option maxHeartbeats 1600000 in
theorem alive_walk (w : World) (hT : Tab w) : Calls Tryd.prog 12 #[] w fun e w' => e = .returned (.bool true) ∧ Kept w w' := by
  have hW := xwrite_walk 0 4 16 2 (-1) w hT (by decide) (by decide)
  rw [al_all.1, al_all.2] at hW
  have hX := fun w => text_walk w
  have hC := fun a b w hS => xcheck_walk 1 0 18 0 0 a 1 1 [txtV b] 1 w (by decide) (by decide) rfl (by decide) (by decide) hS (by decide)
  go_enter Tryd.func12, Tryd.ntmps12
  go_upto_region 2 with (go_at_call 15; refine hW.mono ?_; rintro e w1 ⟨x1, rfl, O1, k1⟩)
  obtain ⟨A1, C1, rfl, _, y1, _⟩ := O1.let (show List.length [4, 0, 0, 0, 0, 0, 0, 0, 16, 0, 0, 0, 3, 0, 0, 0, 255, 255, 255, 255, 255, 255, 255, 255] = 24 from rfl)
  have S1 := str_len (cap := C1) (show List.length [4, 0, 0, 0, 0, 0, 0, 0, 16, 0, 0, 0, 3, 0, 0, 0, 255, 255, 255, 255, 255, 255, 255, 255] = 24 from rfl) y1
  rw [al_str] at S1
  clear O1 y1 hW hT
  go_wp2_with (first
    | (go_at_call 10; refine (hX _).mono ?_; rintro e w2 ⟨a2, b2, rfl, T2, k2⟩; have hC2 := hC a2 b2 w2 T2; rw [al_chk] at hC2)
    | (go_at_call 9; refine hC2.mono ?_; rintro e w3 ⟨rfl, k3⟩))
  go_ret
  exact ⟨rfl, (k1.trans k2).trans k3⟩

/-! ### More than statements go through -/
def largeB (l : List SecV) : Bool := l.any fun v => decide (1000 < v.s.size) || decide (10000 < v.z.length)
theorem large_yes {l : List SecV} {k : Nat} (hk : k < l.length) (h : 1000 < (l.getD k secNo).s.size ∨ 10000 < (l.getD k secNo).z.length) : largeB l = true := by
  unfold largeB
  rw [List.any_eq_true]
  refine ⟨l.getD k secNo, ?_, ?_⟩
  · rw [List.getD, List.getElem?_eq_getElem hk]
    exact List.getElem_mem hk
  · rw [Bool.or_eq_true, decide_eq_true_eq, decide_eq_true_eq]
    exact h
theorem large_no {l : List SecV} {n : Nat} (hl : l.length = n) (h : ∀ j, j < n → (l.getD j secNo).s.size ≤ 1000 ∧ (l.getD j secNo).z.length ≤ 10000) : largeB l = false := by
  unfold largeB
  rw [List.any_eq_false]
  intro x hx
  obtain ⟨j, hj, rfl⟩ := List.mem_iff_getElem.1 hx
  have := h j (by omega)
  rw [List.getD, List.getElem?_eq_getElem hj] at this
  simp at this ⊢
  exact this
set_option maxHeartbeats 1600000 in
theorem large_walk (a : Option Addr) (n cap : Nat) (l : List SecV) (w : World) (hl : l.length = n) (hcap : n ≤ cap) (hn : n ≤ 20) (hS : Secs w a l) :
    Calls Tryd.prog 13 #[.slice a n cap] w fun e w' => e = .returned (.bool (largeB l)) ∧ w' = w := by
  have hmx : maxLen ≤ 9223372036854775807 := by decide
  go_enter Tryd.func13, Tryd.ntmps13
  go_wp2
  go_loop [3] (fun i => ∃ k : Nat, k ≤ n ∧ i = .int .i64 k ∧ Hid (∀ j, j < k → (l.getD j secNo).s.size ≤ 1000 ∧ (l.getD j secNo).z.length ≤ 10000)) (fun i => n - (intOf i).toNat)
  case atStart => exact ⟨0, Nat.zero_le _, rfl, fun j hj => absurd hj (Nat.not_lt_zero _)⟩
  case round =>
    obtain ⟨k, hk, rfl, A⟩ := hrel
    by_cases hlt : k < n
    · have hkl : k < l.length := by omega
      obtain ⟨b, o, rfl, hAt⟩ := hS.at hkl
      obtain ⟨v, hv⟩ : ∃ v, l.getD k secNo = v := ⟨_, rfl⟩
      have HV : Hid (l.getD k secNo = v) := hv
      obtain ⟨s, al, a', cp, sz, z⟩ := v
      rw [hv] at hAt
      have x0 : w.cell? ⟨b, o + k * 4, none⟩ = some (.string s) := hAt.c0
      have x2 : w.cell? ⟨b, o + k * 4 + 2, none⟩ = some (.slice a' z.length cp) := hAt.c2
      have hsz : s.size ≤ maxLen := hAt.ok.size
      have hzl : z.length ≤ maxLen := hAt.ok.cap
      have HY : Hid (1000 < s.size ∨ 10000 < z.length → largeB l = true) := fun h => large_yes hkl (by rw [HV.out]; exact h)
      obtain ⟨len, hlen⟩ : ∃ len, z.length = len := ⟨_, rfl⟩
      have HZ : Hid (z.length = len) := hlen
      rw [hlen] at x2 HY hzl
      clear hS hv hAt hlen
      by_cases h1 : 1000 < s.size
      · have d1 : decide (1000 < (s.size : Int)) = true := decide_eq_true (by omega)
        have d1' : decide (1000 < s.size) = true := decide_eq_true h1
        have HB := HY.out (.inl h1)
        have HB' : Hid (largeB l = true) := HB
        clear HY HB h1 A
        go_wp2
        go_ret
        exact ⟨by rw [HB'.out]; rfl, rfl⟩
      · have d1 : decide (1000 < (s.size : Int)) = false := decide_eq_false (by omega)
        have d1' : decide (1000 < s.size) = false := decide_eq_false h1
        by_cases h2 : 10000 < len
        · have d2 : decide (10000 < (len : Int)) = true := decide_eq_true (by omega)
          have d2' : decide (10000 < len) = true := decide_eq_true h2
          have HB' : Hid (largeB l = true) := HY.out (.inr h2)
          clear HY h1 h2 A
          go_wp2
          go_ret
          exact ⟨by rw [HB'.out]; rfl, rfl⟩
        · have d2 : decide (10000 < (len : Int)) = false := decide_eq_false (by omega)
          have d2' : decide (10000 < len) = false := decide_eq_false h2
          have A' : Hid (∀ j, j < k + 1 → (l.getD j secNo).s.size ≤ 1000 ∧ (l.getD j secNo).z.length ≤ 10000) := fun j hj => by
            by_cases e : j = k
            · subst e
              rw [HV.out]
              show s.size ≤ 1000 ∧ z.length ≤ 10000
              rw [HZ.out]
              omega
            · exact A.out j (by omega)
          clear HY h1 h2 A
          go_wp2
          go_round
          case rel => exact ⟨k + 1, by omega, by go_num, A'⟩
          case measure => simp [intOf]; omega
    · obtain rfl : k = n := by omega
      have HB : Hid (largeB l = false) := large_no hl A.out
      clear A
      go_wp2
      go_ret
      exact ⟨by rw [HB.out]; rfl, rfl⟩
end Go.Proofs.YtbfmichhpcaamaaDoor
