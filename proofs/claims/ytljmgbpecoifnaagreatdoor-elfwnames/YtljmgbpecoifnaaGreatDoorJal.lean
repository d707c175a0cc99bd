/- Which sections an object may have, how many bytes one has: the program's. What a type is about; which sets it is in; which number may be added. Which relocations may be: the program's. Where a relocation may be: the program's. -/
import Derived.Test.YtljmgbpecoifnaaGreatDoorJaj
import Derived.Test.YtljmgbpecoifnaaGreatDoorJai
import Derived.Deep.DeepCutAuto
namespace Go.Proofs.YtljmgbpecoifnaaGreatDoor
open Go.RowKit

theorem chkS_ok {v : SecV} (h : okS v = true) : chkS (nm v.s) v.al v.z.length v.sz = 0 := if_pos h
theorem chkS_bad {v : SecV} (h : okS v = false) : chkS (nm v.s) v.al v.z.length v.sz = 8 := by
  unfold okS at h
  unfold chkS
  rw [h]
  rfl
theorem all_of {α : Type} (no : α) {l : List α} {p : α → Bool} {n : Nat} (hl : l.length = n) (h : ∀ j, j < n → p (l.getD j no) = true) : l.all p = true := by
  rw [List.all_eq_true]
  intro x hx
  obtain ⟨i, hi, rfl⟩ := mem_at hx no
  exact h i (by omega)
theorem none_of {α : Type} (no : α) {l : List α} {p : α → Bool} {k : Nat} (hk : k < l.length) (h : p (l.getD k no) = false) : l.all p = false := by
  cases e : l.all p with
  | false => rfl
  | true =>
    rw [List.all_eq_true] at e
    rw [e _ (getD_in hk no)] at h
    exact absurd h (by decide)

set_option maxRecDepth 20000 in
set_option maxHeartbeats 1600000 in
theorem haveSections_walk (o : ObjV) (w : World) (hO : ObjOk w o) :
    Calls Tryz.prog 21 #[objW o] w fun e w' => e = .returned (.bool (decide (o.sn ≤ 16) && o.ss.all okS)) ∧ Kept w w' := by
  obtain ⟨ss, sa, n, sc, ys, ya, yn, yc, rs, ra, rn, rc, gs, ga, gn, gc⟩ := o
  have hS : SecR w sa ss := hO.s
  have hl : ss.length = n := hO.hs
  clear hO
  obtain ⟨wa, hwa, B1, kA, sA⟩ := box_obj w (.slice sa n sc) (.slice ya yn yc) (.slice ra rn rc) (.slice ga gn gc)
  have c0 := B1.c0
  by_cases h16 : 16 < n
  · have d1 : decide ((16 : Int) < (n : Int)) = true := decide_eq_true (by omega)
    have HB : Hid ((decide (n ≤ 16) && ss.all okS) = false) := by unfold Hid; rw [decide_eq_false (by omega)]; rfl
    clear h16 hS B1
    go_enter Tryz.func21, Tryz.ntmps21
    go_wp2
    go_ret
    exact ⟨by rw [HB.out]; rfl, kA⟩
  · have d1 : decide ((16 : Int) < (n : Int)) = false := decide_eq_false (by omega)
    have h16' : Hid (decide (n ≤ 16) = true) := decide_eq_true (by omega)
    have hn16 : n ≤ 16 := by omega
    clear h16 B1
    go_enter Tryz.func21, Tryz.ntmps21
    go_wp2
    go_loopw [12] (fun i wr => ∃ k : Nat, k ≤ n ∧ i = .int .i64 k ∧ Kept wa wr ∧ Hid (∀ j, j < k → okS (ss.getD j secNo) = true)) (fun i _ => n - (intOf i).toNat)
    case atStart => exact ⟨0, Nat.zero_le _, rfl, Kept.refl _, fun j hj => absurd hj (Nat.not_lt_zero _)⟩
    case round =>
      obtain ⟨k, hk, rfl, K, A⟩ := hrel
      by_cases hlt : k < n
      · obtain ⟨b, off, rfl, hAt⟩ := (hS.kept (kA.trans K)).cells (show k < ss.length by omega)
        obtain ⟨v, hv⟩ : ∃ v, ss.getD k secNo = v := ⟨_, rfl⟩
        rw [hv] at hAt
        have HV : Hid (ss.getD k secNo = v) := hv
        have hq1 := @chkS_ok v
        have hq2 := @chkS_bad v
        obtain ⟨q, hq⟩ : ∃ q, okS v = q := ⟨_, rfl⟩
        have HQ : Hid (okS v = q) := hq
        rw [hq] at hq1 hq2
        obtain ⟨s, al, a', cp, sz, z⟩ := v
        have x0 : wr.cell? ⟨b, off + k * 4, none⟩ = some (.string s) := hAt.c0
        have x1 : wr.cell? ⟨b, off + k * 4 + 1, none⟩ = some (.int .i64 al) := hAt.c1
        have x2 : wr.cell? ⟨b, off + k * 4 + 2, none⟩ = some (.slice a' z.length cp) := hAt.c2
        have x3 : wr.cell? ⟨b, off + k * 4 + 3, none⟩ = some (.int .i64 sz) := hAt.c3
        have hsz : s.size ≤ maxLen := hAt.ok.size
        obtain ⟨len, hlen⟩ : ∃ len, z.length = len := ⟨_, rfl⟩
        dsimp only at hq1 hq2
        rw [hlen] at x2 hq1 hq2
        obtain ⟨wb, wc, hwb, hwc, Z1, Z2, K2, s2⟩ := put_sec wr s al (.slice a' len cp) sz
        obtain ⟨z0, z1, z2, z3, y0, y1, y2, y3⟩ := Z1
        obtain ⟨u0, u1, u2, u3, _, _, _, _⟩ := Z2
        have K3 := (kA.trans K).trans K2
        have KR := K.trans K2
        have hC := fun w => check_walk s al a' len cp sz w hsz
        clear hv hAt hlen hS hsz hq
        cases q with
        | false =>
          rw [hq2 rfl] at hC
          clear hq1 hq2
          go_wp2_with (go_at_call 43; refine (hC _).mono ?_; rintro e w4 ⟨rfl, k4⟩)
          go_ret
          have HB : (decide (n ≤ 16) && ss.all okS) = false := by rw [none_of secNo (show k < ss.length by omega) (by rw [HV.out]; exact HQ.out), Bool.and_false]
          exact ⟨by rw [HB]; rfl, K3.trans k4⟩
        | true =>
          rw [hq1 rfl] at hC
          clear hq1 hq2
          go_wp2_with (go_at_call 43; refine (hC _).mono ?_; rintro e w4 ⟨rfl, k4⟩)
          go_roundw
          case rel =>
            refine ⟨k + 1, by omega, by go_num, KR.trans k4, fun j hj => ?_⟩
            by_cases e : j = k
            · subst e; rw [HV.out]; exact HQ.out
            · exact A.out j (by omega)
          case measure => simp [intOf]; omega
      · obtain rfl : k = n := by omega
        have HB : Hid ((decide (k ≤ 16) && ss.all okS) = true) := by unfold Hid; rw [all_of secNo hl A.out, h16'.out]; rfl
        go_wp2
        go_ret
        exact ⟨by rw [HB.out]; rfl, kA.trans K⟩

set_option maxRecDepth 20000 in
set_option maxHeartbeats 1600000 in
theorem field_walk (k : Int) (w : World) : Calls Tryz.prog 121 #[.int .u8 k] w fun e w' => e = .returned (.tuple #[.int .i64 (fdV k), .int .i64 (fdE k)]) ∧ w' = w := by
  by_cases h : TyB k
  · unfold TyB at h
    rcases h with rfl | rfl | rfl | rfl | rfl | rfl | rfl | rfl | rfl | rfl | rfl | rfl | rfl | rfl | rfl | rfl | rfl | rfl | rfl | rfl | rfl | rfl | rfl
    all_goals
      go_enter Tryz.func121, Tryz.ntmps121
      go_wp2
      go_ret2
      exact ⟨rfl, rfl⟩
  · rw [(fd_no h).1, (fd_no h).2]
    unfold TyB at h
    have q1 : (k == 1) = false := by rw [beq_eq_false_iff_ne]; exact fun e => h (by omega)
    have q2 : (k == 2) = false := by rw [beq_eq_false_iff_ne]; exact fun e => h (by omega)
    have q16 : (k == 16) = false := by rw [beq_eq_false_iff_ne]; exact fun e => h (by omega)
    have q17 : (k == 17) = false := by rw [beq_eq_false_iff_ne]; exact fun e => h (by omega)
    have q18 : (k == 18) = false := by rw [beq_eq_false_iff_ne]; exact fun e => h (by omega)
    have q23 : (k == 23) = false := by rw [beq_eq_false_iff_ne]; exact fun e => h (by omega)
    have q24 : (k == 24) = false := by rw [beq_eq_false_iff_ne]; exact fun e => h (by omega)
    have q25 : (k == 25) = false := by rw [beq_eq_false_iff_ne]; exact fun e => h (by omega)
    have q26 : (k == 26) = false := by rw [beq_eq_false_iff_ne]; exact fun e => h (by omega)
    have q27 : (k == 27) = false := by rw [beq_eq_false_iff_ne]; exact fun e => h (by omega)
    have q28 : (k == 28) = false := by rw [beq_eq_false_iff_ne]; exact fun e => h (by omega)
    have q33 : (k == 33) = false := by rw [beq_eq_false_iff_ne]; exact fun e => h (by omega)
    have q34 : (k == 34) = false := by rw [beq_eq_false_iff_ne]; exact fun e => h (by omega)
    have q35 : (k == 35) = false := by rw [beq_eq_false_iff_ne]; exact fun e => h (by omega)
    have q36 : (k == 36) = false := by rw [beq_eq_false_iff_ne]; exact fun e => h (by omega)
    have q37 : (k == 37) = false := by rw [beq_eq_false_iff_ne]; exact fun e => h (by omega)
    have q38 : (k == 38) = false := by rw [beq_eq_false_iff_ne]; exact fun e => h (by omega)
    have q39 : (k == 39) = false := by rw [beq_eq_false_iff_ne]; exact fun e => h (by omega)
    have q40 : (k == 40) = false := by rw [beq_eq_false_iff_ne]; exact fun e => h (by omega)
    have q43 : (k == 43) = false := by rw [beq_eq_false_iff_ne]; exact fun e => h (by omega)
    have q44 : (k == 44) = false := by rw [beq_eq_false_iff_ne]; exact fun e => h (by omega)
    have q45 : (k == 45) = false := by rw [beq_eq_false_iff_ne]; exact fun e => h (by omega)
    have q51 : (k == 51) = false := by rw [beq_eq_false_iff_ne]; exact fun e => h (by omega)
    clear h
    go_enter Tryz.func121, Tryz.ntmps121
    go_wp2
    go_ret2
    exact ⟨rfl, rfl⟩

set_option maxRecDepth 20000 in
set_option maxHeartbeats 1600000 in
theorem about_walk (k : Int) (w : World) : Calls Tryz.prog 136 #[.int .u8 k] w fun e w' => e = .returned (.int .i64 (abtN k)) ∧ w' = w := by
  by_cases h : TyB k
  · unfold TyB at h
    rcases h with rfl | rfl | rfl | rfl | rfl | rfl | rfl | rfl | rfl | rfl | rfl | rfl | rfl | rfl | rfl | rfl | rfl | rfl | rfl | rfl | rfl | rfl | rfl
    all_goals
      go_enter Tryz.func136, Tryz.ntmps136
      go_wp2
      go_ret
      exact ⟨rfl, rfl⟩
  · rw [abt_no h]
    unfold TyB at h
    have q1 : (k == 1) = false := by rw [beq_eq_false_iff_ne]; exact fun e => h (by omega)
    have q2 : (k == 2) = false := by rw [beq_eq_false_iff_ne]; exact fun e => h (by omega)
    have q16 : (k == 16) = false := by rw [beq_eq_false_iff_ne]; exact fun e => h (by omega)
    have q17 : (k == 17) = false := by rw [beq_eq_false_iff_ne]; exact fun e => h (by omega)
    have q18 : (k == 18) = false := by rw [beq_eq_false_iff_ne]; exact fun e => h (by omega)
    have q23 : (k == 23) = false := by rw [beq_eq_false_iff_ne]; exact fun e => h (by omega)
    have q24 : (k == 24) = false := by rw [beq_eq_false_iff_ne]; exact fun e => h (by omega)
    have q25 : (k == 25) = false := by rw [beq_eq_false_iff_ne]; exact fun e => h (by omega)
    have q26 : (k == 26) = false := by rw [beq_eq_false_iff_ne]; exact fun e => h (by omega)
    have q27 : (k == 27) = false := by rw [beq_eq_false_iff_ne]; exact fun e => h (by omega)
    have q28 : (k == 28) = false := by rw [beq_eq_false_iff_ne]; exact fun e => h (by omega)
    have q33 : (k == 33) = false := by rw [beq_eq_false_iff_ne]; exact fun e => h (by omega)
    have q34 : (k == 34) = false := by rw [beq_eq_false_iff_ne]; exact fun e => h (by omega)
    have q35 : (k == 35) = false := by rw [beq_eq_false_iff_ne]; exact fun e => h (by omega)
    have q36 : (k == 36) = false := by rw [beq_eq_false_iff_ne]; exact fun e => h (by omega)
    have q37 : (k == 37) = false := by rw [beq_eq_false_iff_ne]; exact fun e => h (by omega)
    have q38 : (k == 38) = false := by rw [beq_eq_false_iff_ne]; exact fun e => h (by omega)
    have q39 : (k == 39) = false := by rw [beq_eq_false_iff_ne]; exact fun e => h (by omega)
    have q40 : (k == 40) = false := by rw [beq_eq_false_iff_ne]; exact fun e => h (by omega)
    have q43 : (k == 43) = false := by rw [beq_eq_false_iff_ne]; exact fun e => h (by omega)
    have q44 : (k == 44) = false := by rw [beq_eq_false_iff_ne]; exact fun e => h (by omega)
    have q45 : (k == 45) = false := by rw [beq_eq_false_iff_ne]; exact fun e => h (by omega)
    have q51 : (k == 51) = false := by rw [beq_eq_false_iff_ne]; exact fun e => h (by omega)
    clear h
    go_enter Tryz.func136, Tryz.ntmps136
    go_wp2
    go_ret
    exact ⟨rfl, rfl⟩

set_option maxRecDepth 20000 in
/-- Is the bit at this number set? -/
theorem isIn_walk (s k : Nat) (g : Bool) (w : World) (_hk : k < 256) (_hs : s < 18446744073709551616) (hg : (bits .and .u64 ((s : Int) / 2 ^ min k 64) 1 == 1) = g) :
    Calls Tryz.prog 120 #[.int .u64 (s : Int), .int .u8 (k : Int)] w fun e w' => e = .returned (.bool g) ∧ w' = w := by
  subst hg
  go_enter Tryz.func120, Tryz.ntmps120
  go_wp2
  go_ret
  exact ⟨rfl, rfl⟩

theorem bits_alone : ∀ k : Fin 256, (bits .and .u64 (((2260595906707456 : Nat) : Int) / 2 ^ min k.val 64) 1 == 1) = decide ((k.val : Int) = 43 ∨ (k.val : Int) = 51) := by decide +kernel
set_option maxRecDepth 20000 in
theorem isIn_alone (k : Int) (w : World) (h0 : 0 ≤ k) (h1 : k < 256) : Calls Tryz.prog 120 #[.int .u64 2260595906707456, .int .u8 k] w fun e w' => e = .returned (.bool (decide (k = 43 ∨ k = 51))) ∧ w' = w := by
  obtain ⟨n, rfl⟩ : ∃ n : Nat, k = n := ⟨k.toNat, by omega⟩
  exact isIn_walk 2260595906707456 n _ w (by omega) (by decide) (bits_alone ⟨n, by omega⟩)

theorem bits_bare : ∀ k : Fin 256, (bits .and .u64 (((2251799864016896 : Nat) : Int) / 2 ^ min k.val 64) 1 == 1) = decide ((k.val : Int) = 51 ∨ (k.val : Int) = 24 ∨ (k.val : Int) = 25) := by decide +kernel
set_option maxRecDepth 20000 in
theorem isIn_bare (k : Int) (w : World) (h0 : 0 ≤ k) (h1 : k < 256) : Calls Tryz.prog 120 #[.int .u64 2251799864016896, .int .u8 k] w fun e w' => e = .returned (.bool (decide (k = 51 ∨ k = 24 ∨ k = 25))) ∧ w' = w := by
  obtain ⟨n, rfl⟩ : ∃ n : Nat, k = n := ⟨k.toNat, by omega⟩
  exact isIn_walk 2251799864016896 n _ w (by omega) (by decide) (bits_bare ⟨n, by omega⟩)

theorem bits_any : ∀ k : Fin 256, (bits .and .u64 (((2190433320966 : Nat) : Int) / 2 ^ min k.val 64) 1 == 1) = decide ((k.val : Int) = 1 ∨ (k.val : Int) = 2 ∨ (33 ≤ (k.val : Int) ∧ (k.val : Int) ≤ 40)) := by decide +kernel
set_option maxRecDepth 20000 in
theorem isIn_any (k : Int) (w : World) (h0 : 0 ≤ k) (h1 : k < 256) : Calls Tryz.prog 120 #[.int .u64 2190433320966, .int .u8 k] w fun e w' => e = .returned (.bool (decide (k = 1 ∨ k = 2 ∨ (33 ≤ k ∧ k ≤ 40)))) ∧ w' = w := by
  obtain ⟨n, rfl⟩ : ∃ n : Nat, k = n := ⟨k.toNat, by omega⟩
  exact isIn_walk 2190433320966 n _ w (by omega) (by decide) (bits_any ⟨n, by omega⟩)

set_option maxRecDepth 20000 in
theorem isAddend_walk (n : Int) (w : World) : Calls Tryz.prog 84 #[.int .i64 n] w fun e w' => e = .returned (.bool (adB n)) ∧ w' = w := by
  by_cases h0 : -2147483648 ≤ n
  · have d0 : decide (-2147483648 ≤ n) = true := decide_eq_true h0
    by_cases h1 : n ≤ 4294967295
    · have d1 : decide (n ≤ 4294967295) = true := decide_eq_true (by omega)
      rw [show adB n = true from decide_eq_true ⟨h0, h1⟩]
      clear h0 h1
      go_enter Tryz.func84, Tryz.ntmps84
      go_wp2
      go_ret
      exact ⟨rfl, rfl⟩
    · have d1 : decide (n ≤ 4294967295) = false := decide_eq_false (by omega)
      rw [show adB n = false from decide_eq_false (by omega)]
      clear h0 h1
      go_enter Tryz.func84, Tryz.ntmps84
      go_wp2
      go_ret
      exact ⟨rfl, rfl⟩
  · have d0 : decide (-2147483648 ≤ n) = false := decide_eq_false h0
    rw [show adB n = false from decide_eq_false (by omega)]
    clear h0
    go_enter Tryz.func84, Tryz.ntmps84
    go_wp2
    go_ret
    exact ⟨rfl, rfl⟩

set_option maxRecDepth 20000 in
theorem raddend_walk (n : Int) (w : World) : Calls Tryz.prog 137 #[.int .i64 n] w fun e w' => e = .returned (.bool (adB n)) ∧ w' = w := by
  by_cases h0 : -2147483648 ≤ n
  · have d0 : decide (-2147483648 ≤ n) = true := decide_eq_true h0
    by_cases h1 : n ≤ 4294967295
    · have d1 : decide (n < 4294967296) = true := decide_eq_true (by omega)
      rw [show adB n = true from decide_eq_true ⟨h0, h1⟩]
      clear h0 h1
      go_enter Tryz.func137, Tryz.ntmps137
      go_wp2
      go_ret
      exact ⟨rfl, rfl⟩
    · have d1 : decide (n < 4294967296) = false := decide_eq_false (by omega)
      rw [show adB n = false from decide_eq_false (by omega)]
      clear h0 h1
      go_enter Tryz.func137, Tryz.ntmps137
      go_wp2
      go_ret
      exact ⟨rfl, rfl⟩
  · have d0 : decide (-2147483648 ≤ n) = false := decide_eq_false h0
    rw [show adB n = false from decide_eq_false (by omega)]
    clear h0
    go_enter Tryz.func137, Tryz.ntmps137
    go_wp2
    go_ret
    exact ⟨rfl, rfl⟩

set_option maxRecDepth 20000 in
theorem rplain_walk (k : Int) (w : World) : Calls Tryz.prog 138 #[.int .u8 k] w fun e w' => e = .returned (.bool (plnX k)) ∧ w' = w := by
  by_cases h1 : k = 1
  · subst h1
    rw [show plnX 1 = true from rfl]
    go_enter Tryz.func138, Tryz.ntmps138
    go_wp2
    go_ret
    exact ⟨rfl, rfl⟩
  by_cases h2 : k = 2
  · subst h2
    rw [show plnX 2 = true from rfl]
    go_enter Tryz.func138, Tryz.ntmps138
    go_wp2
    go_ret
    exact ⟨rfl, rfl⟩
  have q1 : (k == 1) = false := by rw [beq_eq_false_iff_ne]; exact h1
  have q2 : (k == 2) = false := by rw [beq_eq_false_iff_ne]; exact h2
  by_cases h3 : 33 ≤ k
  · have d3 : decide (33 ≤ k) = true := decide_eq_true h3
    by_cases h4 : k ≤ 40
    · have d4 : decide (k ≤ 40) = true := decide_eq_true h4
      rw [show plnX k = true from decide_eq_true (by omega)]
      clear h1 h2 h3 h4
      go_enter Tryz.func138, Tryz.ntmps138
      go_wp2
      go_ret
      exact ⟨rfl, rfl⟩
    · have d4 : decide (k ≤ 40) = false := decide_eq_false h4
      rw [show plnX k = false from decide_eq_false (by omega)]
      clear h1 h2 h3 h4
      go_enter Tryz.func138, Tryz.ntmps138
      go_wp2
      go_ret
      exact ⟨rfl, rfl⟩
  · have d3 : decide (33 ≤ k) = false := decide_eq_false h3
    rw [show plnX k = false from decide_eq_false (by omega)]
    clear h1 h2 h3
    go_enter Tryz.func138, Tryz.ntmps138
    go_wp2
    go_ret
    exact ⟨rfl, rfl⟩

theorem tm2 (n : Int) : (n.tmod 2 == 0) = decide (n % 2 = 0) := by
  rw [Bool.eq_iff_iff, beq_iff_eq, decide_eq_true_eq, ← Int.dvd_iff_tmod_eq_zero]
  omega
/-- A box of a relocation that came in. -/
theorem box_rela (w : World) (sec off ty sy ad : Int) : ∃ wa, w.alloc (relO sec off ty sy ad) = wa ∧ XBx wa w.heap.size sec off ty sy ad ∧ Kept w wa ∧ wa.heap.size = w.heap.size + 1 := by
  exact ⟨_, rfl, XBx.new _ _ _ _ _ _, Kept.alloc _ _, by simp⟩

set_option maxRecDepth 20000 in
theorem isBoundX_walk (sec off ty sy ad : Int) (n : Int) (w : World) (h0 : 0 ≤ ty) (h1 : ty < 256) :
    Calls Tryz.prog 85 #[relW sec off ty sy ad, .int .i64 n] w fun e w' => e = .returned (.bool (bndX ty sy n)) ∧ Kept w w' := by
  obtain ⟨wa, hwa, B1, kA, sA⟩ := box_rela w sec off ty sy ad
  obtain ⟨c0, c1, c2, c3, c4, _, _, _, _, _⟩ := B1
  have hI := fun w => isIn_alone ty w h0 h1
  clear h0 h1
  by_cases ht : ty = 43 ∨ ty = 51
  · rw [decide_eq_true ht] at hI
    have hb : bndX ty sy n = decide (sy = -1) := if_pos ht
    clear ht
    by_cases h2 : sy = -1
    · have d2 : (sy == -1) = true := by rw [beq_iff_eq]; exact h2
      have HB : Hid (bndX ty sy n = true) := by unfold Hid; rw [hb]; exact decide_eq_true h2
      clear h2 hb
      go_enter Tryz.func85, Tryz.ntmps85
      go_wp2_with (go_at_call 120; refine (hI _).mono ?_; rintro e w2 ⟨rfl, hw2⟩; have hw3 := hw2.symm; subst hw3; clear hw2)
      go_ret
      exact ⟨by rw [HB.out]; rfl, kA⟩
    · have d2 : (sy == -1) = false := by rw [beq_eq_false_iff_ne]; exact h2
      have HB : Hid (bndX ty sy n = false) := by unfold Hid; rw [hb]; exact decide_eq_false h2
      clear h2 hb
      go_enter Tryz.func85, Tryz.ntmps85
      go_wp2_with (go_at_call 120; refine (hI _).mono ?_; rintro e w2 ⟨rfl, hw2⟩; have hw3 := hw2.symm; subst hw3; clear hw2)
      go_ret
      exact ⟨by rw [HB.out]; rfl, kA⟩
  · rw [decide_eq_false ht] at hI
    have hb : bndX ty sy n = decide (0 ≤ sy ∧ sy < n) := if_neg ht
    clear ht
    by_cases h2 : 0 ≤ sy
    · have d2 : decide (0 ≤ sy) = true := decide_eq_true h2
      by_cases h3 : sy < n
      · have d3 : decide (sy < n) = true := decide_eq_true h3
        have HB : Hid (bndX ty sy n = true) := by unfold Hid; rw [hb]; exact decide_eq_true ⟨h2, h3⟩
        clear h2 h3 hb
        go_enter Tryz.func85, Tryz.ntmps85
        go_wp2_with (go_at_call 120; refine (hI _).mono ?_; rintro e w2 ⟨rfl, hw2⟩; have hw3 := hw2.symm; subst hw3; clear hw2)
        go_ret
        exact ⟨by rw [HB.out]; rfl, kA⟩
      · have d3 : decide (sy < n) = false := decide_eq_false h3
        have HB : Hid (bndX ty sy n = false) := by unfold Hid; rw [hb]; exact decide_eq_false (by omega)
        clear h2 h3 hb
        go_enter Tryz.func85, Tryz.ntmps85
        go_wp2_with (go_at_call 120; refine (hI _).mono ?_; rintro e w2 ⟨rfl, hw2⟩; have hw3 := hw2.symm; subst hw3; clear hw2)
        go_ret
        exact ⟨by rw [HB.out]; rfl, kA⟩
    · have d2 : decide (0 ≤ sy) = false := decide_eq_false h2
      have HB : Hid (bndX ty sy n = false) := by unfold Hid; rw [hb]; exact decide_eq_false (by omega)
      clear h2 hb
      go_enter Tryz.func85, Tryz.ntmps85
      go_wp2_with (go_at_call 120; refine (hI _).mono ?_; rintro e w2 ⟨rfl, hw2⟩; have hw3 := hw2.symm; subst hw3; clear hw2)
      go_ret
      exact ⟨by rw [HB.out]; rfl, kA⟩

set_option maxRecDepth 20000 in
set_option maxHeartbeats 1600000 in
theorem isFilled_walk (sec off ty sy ad : Int) (left : Int) (w : World) (h0 : 0 ≤ ty) (h1 : ty < 256) :
    Calls Tryz.prog 123 #[relW sec off ty sy ad, .int .i64 left] w fun e w' => e = .returned (.bool (filX ty ad left)) ∧ Kept w w' := by
  obtain ⟨wa, hwa, B1, kA, sA⟩ := box_rela w sec off ty sy ad
  obtain ⟨c0, c1, c2, c3, c4, _, _, _, _, _⟩ := B1
  have hI := fun w => isIn_bare ty w h0 h1
  clear h0 h1
  by_cases ht : ty = 51 ∨ ty = 24 ∨ ty = 25
  · rw [decide_eq_true ht] at hI
    have hb : filX ty ad left = decide (ad = 0) := if_pos ht
    clear ht
    by_cases h2 : ad = 0
    · have d2 : (ad == 0) = true := by rw [beq_iff_eq]; exact h2
      have HB : Hid (filX ty ad left = true) := by unfold Hid; rw [hb]; exact decide_eq_true h2
      clear h2 hb
      go_enter Tryz.func123, Tryz.ntmps123
      go_wp2_with (go_at_call 120; refine (hI _).mono ?_; rintro e w2 ⟨rfl, hw2⟩; have hw3 := hw2.symm; subst hw3; clear hw2)
      go_ret
      exact ⟨by rw [HB.out]; rfl, kA⟩
    · have d2 : (ad == 0) = false := by rw [beq_eq_false_iff_ne]; exact h2
      have HB : Hid (filX ty ad left = false) := by unfold Hid; rw [hb]; exact decide_eq_false h2
      clear h2 hb
      go_enter Tryz.func123, Tryz.ntmps123
      go_wp2_with (go_at_call 120; refine (hI _).mono ?_; rintro e w2 ⟨rfl, hw2⟩; have hw3 := hw2.symm; subst hw3; clear hw2)
      go_ret
      exact ⟨by rw [HB.out]; rfl, kA⟩
  · rw [decide_eq_false ht] at hI
    by_cases h3 : ty = 43
    · have d3 : (ty == 43) = true := by rw [beq_iff_eq]; exact h3
      have hb : filX ty ad left = decide (ad % 2 = 0 ∧ 0 ≤ ad ∧ ad ≤ 62 ∧ ad ≤ left) := by unfold filX; rw [if_neg ht, if_pos h3]
      have dm := tm2 ad
      clear ht h3
      by_cases h4 : ad % 2 = 0
      · rw [decide_eq_true h4] at dm
        have dm2 : (ad % 2 == 0) = true := by rw [beq_iff_eq]; exact h4
        by_cases h5 : 0 ≤ ad
        · have d5 : decide (0 ≤ ad) = true := decide_eq_true h5
          by_cases h6 : ad ≤ 62
          · have d6 : decide (ad ≤ 62) = true := decide_eq_true h6
            by_cases h7 : ad ≤ left
            · have d7 : decide (ad ≤ left) = true := decide_eq_true h7
              have HB : Hid (filX ty ad left = true) := by unfold Hid; rw [hb]; exact decide_eq_true ⟨h4, h5, h6, h7⟩
              clear h5 h6 h7 hb h4
              go_enter Tryz.func123, Tryz.ntmps123
              go_wp2_with (go_at_call 120; refine (hI _).mono ?_; rintro e w2 ⟨rfl, hw2⟩; have hw3 := hw2.symm; subst hw3; clear hw2)
              go_ret
              exact ⟨by rw [HB.out]; rfl, kA⟩
            · have d7 : decide (ad ≤ left) = false := decide_eq_false h7
              have HB : Hid (filX ty ad left = false) := by unfold Hid; rw [hb]; exact decide_eq_false (by omega)
              clear h5 h6 h7 hb h4
              go_enter Tryz.func123, Tryz.ntmps123
              go_wp2_with (go_at_call 120; refine (hI _).mono ?_; rintro e w2 ⟨rfl, hw2⟩; have hw3 := hw2.symm; subst hw3; clear hw2)
              go_ret
              exact ⟨by rw [HB.out]; rfl, kA⟩
          · have d6 : decide (ad ≤ 62) = false := decide_eq_false h6
            have HB : Hid (filX ty ad left = false) := by unfold Hid; rw [hb]; exact decide_eq_false (by omega)
            clear h5 h6 hb h4
            go_enter Tryz.func123, Tryz.ntmps123
            go_wp2_with (go_at_call 120; refine (hI _).mono ?_; rintro e w2 ⟨rfl, hw2⟩; have hw3 := hw2.symm; subst hw3; clear hw2)
            go_ret
            exact ⟨by rw [HB.out]; rfl, kA⟩
        · have d5 : decide (0 ≤ ad) = false := decide_eq_false h5
          have HB : Hid (filX ty ad left = false) := by unfold Hid; rw [hb]; exact decide_eq_false (by omega)
          clear h5 hb h4
          go_enter Tryz.func123, Tryz.ntmps123
          go_wp2_with (go_at_call 120; refine (hI _).mono ?_; rintro e w2 ⟨rfl, hw2⟩; have hw3 := hw2.symm; subst hw3; clear hw2)
          go_ret
          exact ⟨by rw [HB.out]; rfl, kA⟩
      · rw [decide_eq_false h4] at dm
        have dm2 : (ad % 2 == 0) = false := by rw [beq_eq_false_iff_ne]; exact h4
        have HB : Hid (filX ty ad left = false) := by unfold Hid; rw [hb]; exact decide_eq_false (by omega)
        clear hb h4
        go_enter Tryz.func123, Tryz.ntmps123
        go_wp2_with (go_at_call 120; refine (hI _).mono ?_; rintro e w2 ⟨rfl, hw2⟩; have hw3 := hw2.symm; subst hw3; clear hw2)
        go_ret
        exact ⟨by rw [HB.out]; rfl, kA⟩
    · have d3 : (ty == 43) = false := by rw [beq_eq_false_iff_ne]; exact h3
      have HB : Hid (filX ty ad left = true) := by unfold Hid filX; rw [if_neg ht, if_neg h3]
      clear ht h3
      go_enter Tryz.func123, Tryz.ntmps123
      go_wp2_with (go_at_call 120; refine (hI _).mono ?_; rintro e w2 ⟨rfl, hw2⟩; have hw3 := hw2.symm; subst hw3; clear hw2)
      go_ret
      exact ⟨by rw [HB.out]; rfl, kA⟩

set_option maxRecDepth 20000 in
set_option maxHeartbeats 1600000 in
theorem isOfKind_walk (sec off ty sy ad : Int) (s : ByteArray) (al : Int) (a : Option Addr) (len cap : Nat) (sz : Int) (w : World) (h0 : 0 ≤ ty) (h1 : ty < 256) (hs : s.size ≤ maxLen) :
    Calls Tryz.prog 122 #[relW sec off ty sy ad, sectV s al a len cap sz] w fun e w' => e = .returned (.bool (kndX ty off (kindN (nm s)))) ∧ Kept w w' := by
  obtain ⟨wa, hwa, B1, kA, sA⟩ := box_rela w sec off ty sy ad
  have B2 := Box.new wa s al (.slice a len cap) sz
  obtain ⟨wb, hwb⟩ : ∃ wb, wa.alloc (.cells #[.string s, .int .i64 al, .slice a len cap, .int .i64 sz] 37) = wb := ⟨_, rfl⟩
  rw [hwb, sA] at B2
  have kB : Kept wa wb := by rw [← hwb]; exact Kept.alloc _ _
  obtain ⟨_, c1, c2, _, _, _, _, _, _, _⟩ := B1.kept kB
  obtain ⟨d0, _, _, _, _, _, _, _⟩ := B2
  have K := kA.trans kB
  have c1' : Hid (wb.cell? ⟨w.heap.size, 1, none⟩ = some (.int .i64 off)) := c1
  have c2' : Hid (wb.cell? ⟨w.heap.size, 2, none⟩ = some (.int .u8 ty)) := c2
  have hK := fun w => kind_walk s w hs
  have hI := fun w => isIn_any ty w h0 h1
  have hk4 := kindN_le (nm s)
  clear h0 h1 B1 kA kB hs
  obtain ⟨k, hk⟩ : ∃ k, kindN (nm s) = k := ⟨_, rfl⟩
  have hke : kE (nm s) = if k = 0 then 3 else 0 := by rw [← hk]; rfl
  rw [hk, hke] at hK
  rw [hk] at hk4 ⊢
  obtain ⟨x, hx⟩ : ∃ x : Int, (k : Int) = x := ⟨_, rfl⟩
  rw [hx] at hK
  clear hk hke
  by_cases hk0 : k = 0
  · rw [if_pos hk0] at hK
    have HB : Hid (kndX ty off k = false) := by unfold Hid kndX; rw [decide_eq_false (by omega), Bool.false_and]
    clear hI hx hk4 hk0
    go_enter Tryz.func122, Tryz.ntmps122
    go_wp2_with ((go_at_call 76; refine (hK _).mono ?_; rintro e w4 ⟨rfl, k4⟩; clear c1 c2; have c1 := k4.cell c1'.out; have c2 := k4.cell c2'.out))
    go_ret
    exact ⟨by rw [HB.out]; rfl, K.trans k4⟩
  · rw [if_neg hk0] at hK
    have hpl : kndX ty off k = if plnX ty = true then decide (k ≠ 4) else decide (k = 1 ∧ off % 2 = 0) := by unfold kndX; rw [decide_eq_true (by omega : k ≠ 0), Bool.true_and]
    have hI' : plnX ty = decide (ty = 1 ∨ ty = 2 ∨ (33 ≤ ty ∧ ty ≤ 40)) := rfl
    rw [← hI'] at hI
    cases hp : plnX ty with
    | true =>
      rw [hp] at hI hpl
      rw [if_pos rfl] at hpl
      by_cases h4 : x = 4
      · have q4 : (x == 4) = true := by rw [beq_iff_eq]; exact h4
        have q5 : (x != 4) = false := by rw [h4]; rfl
        have HB : Hid (kndX ty off k = false) := by unfold Hid; rw [hpl]; exact decide_eq_false (by omega)
        clear h4 hpl hk0 hx hk4 hp hI'
        go_enter Tryz.func122, Tryz.ntmps122
        go_wp2_with (first | (go_at_call 76; refine (hK _).mono ?_; rintro e w4 ⟨rfl, k4⟩; clear c1 c2; have c1 := k4.cell c1'.out; have c2 := k4.cell c2'.out) | (go_at_call 120; refine (hI _).mono ?_; rintro e w2 ⟨rfl, hw2⟩; have hw3 := hw2.symm; subst hw3; clear hw2))
        go_ret
        exact ⟨by rw [HB.out]; rfl, K.trans k4⟩
      · have q4 : (x == 4) = false := by rw [beq_eq_false_iff_ne]; exact h4
        have q5 : (x != 4) = true := by rw [bne_iff_ne]; exact h4
        have HB : Hid (kndX ty off k = true) := by unfold Hid; rw [hpl]; exact decide_eq_true (by omega)
        clear h4 hpl hk0 hx hk4 hp hI'
        go_enter Tryz.func122, Tryz.ntmps122
        go_wp2_with (first | (go_at_call 76; refine (hK _).mono ?_; rintro e w4 ⟨rfl, k4⟩; clear c1 c2; have c1 := k4.cell c1'.out; have c2 := k4.cell c2'.out) | (go_at_call 120; refine (hI _).mono ?_; rintro e w2 ⟨rfl, hw2⟩; have hw3 := hw2.symm; subst hw3; clear hw2))
        go_ret
        exact ⟨by rw [HB.out]; rfl, K.trans k4⟩
    | false =>
      rw [hp] at hI hpl
      rw [if_neg (by decide)] at hpl
      have dm := tm2 off
      by_cases h6 : off % 2 = 0
      · rw [decide_eq_true h6] at dm
        have dm2 : (off % 2 == 0) = true := by rw [beq_iff_eq]; exact h6
        by_cases h4 : x = 1
        · have q4 : (x == 1) = true := by rw [beq_iff_eq]; exact h4
          have HB : Hid (kndX ty off k = true) := by unfold Hid; rw [hpl]; exact decide_eq_true ⟨by omega, h6⟩
          clear h4 hpl hk0 hx hk4 hp hI' h6
          go_enter Tryz.func122, Tryz.ntmps122
          go_wp2_with (first | (go_at_call 76; refine (hK _).mono ?_; rintro e w4 ⟨rfl, k4⟩; clear c1 c2; have c1 := k4.cell c1'.out; have c2 := k4.cell c2'.out) | (go_at_call 120; refine (hI _).mono ?_; rintro e w2 ⟨rfl, hw2⟩; have hw3 := hw2.symm; subst hw3; clear hw2))
          go_ret
          exact ⟨by rw [HB.out]; rfl, K.trans k4⟩
        · have q4 : (x == 1) = false := by rw [beq_eq_false_iff_ne]; exact h4
          have HB : Hid (kndX ty off k = false) := by unfold Hid; rw [hpl]; exact decide_eq_false (by omega)
          clear h4 hpl hk0 hx hk4 hp hI' h6
          go_enter Tryz.func122, Tryz.ntmps122
          go_wp2_with (first | (go_at_call 76; refine (hK _).mono ?_; rintro e w4 ⟨rfl, k4⟩; clear c1 c2; have c1 := k4.cell c1'.out; have c2 := k4.cell c2'.out) | (go_at_call 120; refine (hI _).mono ?_; rintro e w2 ⟨rfl, hw2⟩; have hw3 := hw2.symm; subst hw3; clear hw2))
          go_ret
          exact ⟨by rw [HB.out]; rfl, K.trans k4⟩
      · rw [decide_eq_false h6] at dm
        have dm2 : (off % 2 == 0) = false := by rw [beq_eq_false_iff_ne]; exact h6
        by_cases h4 : x = 1
        · have q4 : (x == 1) = true := by rw [beq_iff_eq]; exact h4
          have HB : Hid (kndX ty off k = false) := by unfold Hid; rw [hpl]; exact decide_eq_false (by omega)
          clear h4 hpl hk0 hx hk4 hp hI' h6
          go_enter Tryz.func122, Tryz.ntmps122
          go_wp2_with (first | (go_at_call 76; refine (hK _).mono ?_; rintro e w4 ⟨rfl, k4⟩; clear c1 c2; have c1 := k4.cell c1'.out; have c2 := k4.cell c2'.out) | (go_at_call 120; refine (hI _).mono ?_; rintro e w2 ⟨rfl, hw2⟩; have hw3 := hw2.symm; subst hw3; clear hw2))
          go_ret
          exact ⟨by rw [HB.out]; rfl, K.trans k4⟩
        · have q4 : (x == 1) = false := by rw [beq_eq_false_iff_ne]; exact h4
          have HB : Hid (kndX ty off k = false) := by unfold Hid; rw [hpl]; exact decide_eq_false (by omega)
          clear h4 hpl hk0 hx hk4 hp hI' h6
          go_enter Tryz.func122, Tryz.ntmps122
          go_wp2_with (first | (go_at_call 76; refine (hK _).mono ?_; rintro e w4 ⟨rfl, k4⟩; clear c1 c2; have c1 := k4.cell c1'.out; have c2 := k4.cell c2'.out) | (go_at_call 120; refine (hI _).mono ?_; rintro e w2 ⟨rfl, hw2⟩; have hw3 := hw2.symm; subst hw3; clear hw2))
          go_ret
          exact ⟨by rw [HB.out]; rfl, K.trans k4⟩

set_option maxRecDepth 20000 in
set_option maxHeartbeats 1600000 in
theorem hasBytes_walk (sec off ty sy ad : Int) (w : World) :
    Calls Tryz.prog 130 #[relW sec off ty sy ad] w fun e w' => e = .returned (.bool (codX off ty sy ad)) ∧ Kept w w' := by
  obtain ⟨wa, hwa, B1, kA, sA⟩ := box_rela w sec off ty sy ad
  obtain ⟨c0, c1, c2, c3, c4, _, _, _, _, _⟩ := B1
  have hF := fun w => field_walk ty w
  have hA := fun w => isAddend_walk ad w
  by_cases ht : 0 ≤ abtN ty
  · rw [show fdV ty = abtN ty from if_pos ht, show fdE ty = 0 from if_pos ht] at hF
    obtain ⟨m, hm⟩ : ∃ m, abtN ty = m := ⟨_, rfl⟩
    have hcd : codX off ty sy ad = (decide (0 ≤ m ∧ 0 ≤ off ∧ off ≤ 4096 ∧ -1 ≤ sy ∧ sy < 64) && adB ad) := by rw [← hm]; rfl
    rw [hm] at hF ht
    obtain ⟨g, hg⟩ : ∃ g, adB ad = g := ⟨_, rfl⟩
    rw [hg] at hcd hA
    clear hm hg
    by_cases h2 : 0 ≤ off
    · have d2 : decide (0 ≤ off) = true := decide_eq_true h2
      by_cases h3 : off ≤ 4096
      · have d3 : decide (off ≤ 4096) = true := decide_eq_true h3
        by_cases h4 : -1 ≤ sy
        · have d4 : decide (-1 ≤ sy) = true := decide_eq_true h4
          by_cases h5 : sy < 64
          · have d5 : decide (sy < 64) = true := decide_eq_true h5
            have HB : Hid (codX off ty sy ad = g) := by unfold Hid; rw [hcd, decide_eq_true (by omega), Bool.true_and]
            clear h2 h3 h4 h5 ht hcd
            go_enter Tryz.func130, Tryz.ntmps130
            go_wp2_with (first | (go_at_call 121; refine (hF _).mono ?_; rintro e w2 ⟨rfl, hw2⟩; have hw3 := hw2.symm; subst hw3; clear hw2) | (go_at_call 84; refine (hA _).mono ?_; rintro e w2 ⟨rfl, hw2⟩; have hw3 := hw2.symm; subst hw3; clear hw2))
            go_ret
            exact ⟨by rw [HB.out]; rfl, kA⟩
          · have d5 : decide (sy < 64) = false := decide_eq_false h5
            have HB : Hid (codX off ty sy ad = false) := by unfold Hid; rw [hcd, decide_eq_false (by omega), Bool.false_and]
            clear h2 h3 h4 h5 ht hcd
            go_enter Tryz.func130, Tryz.ntmps130
            go_wp2_with (first | (go_at_call 121; refine (hF _).mono ?_; rintro e w2 ⟨rfl, hw2⟩; have hw3 := hw2.symm; subst hw3; clear hw2) | (go_at_call 84; refine (hA _).mono ?_; rintro e w2 ⟨rfl, hw2⟩; have hw3 := hw2.symm; subst hw3; clear hw2))
            go_ret
            exact ⟨by rw [HB.out]; rfl, kA⟩
        · have d4 : decide (-1 ≤ sy) = false := decide_eq_false h4
          have HB : Hid (codX off ty sy ad = false) := by unfold Hid; rw [hcd, decide_eq_false (by omega), Bool.false_and]
          clear h2 h3 h4 ht hcd
          go_enter Tryz.func130, Tryz.ntmps130
          go_wp2_with (first | (go_at_call 121; refine (hF _).mono ?_; rintro e w2 ⟨rfl, hw2⟩; have hw3 := hw2.symm; subst hw3; clear hw2) | (go_at_call 84; refine (hA _).mono ?_; rintro e w2 ⟨rfl, hw2⟩; have hw3 := hw2.symm; subst hw3; clear hw2))
          go_ret
          exact ⟨by rw [HB.out]; rfl, kA⟩
      · have d3 : decide (off ≤ 4096) = false := decide_eq_false h3
        have HB : Hid (codX off ty sy ad = false) := by unfold Hid; rw [hcd, decide_eq_false (by omega), Bool.false_and]
        clear h2 h3 ht hcd
        go_enter Tryz.func130, Tryz.ntmps130
        go_wp2_with (first | (go_at_call 121; refine (hF _).mono ?_; rintro e w2 ⟨rfl, hw2⟩; have hw3 := hw2.symm; subst hw3; clear hw2) | (go_at_call 84; refine (hA _).mono ?_; rintro e w2 ⟨rfl, hw2⟩; have hw3 := hw2.symm; subst hw3; clear hw2))
        go_ret
        exact ⟨by rw [HB.out]; rfl, kA⟩
    · have d2 : decide (0 ≤ off) = false := decide_eq_false h2
      have HB : Hid (codX off ty sy ad = false) := by unfold Hid; rw [hcd, decide_eq_false (by omega), Bool.false_and]
      clear h2 ht hcd
      go_enter Tryz.func130, Tryz.ntmps130
      go_wp2_with (first | (go_at_call 121; refine (hF _).mono ?_; rintro e w2 ⟨rfl, hw2⟩; have hw3 := hw2.symm; subst hw3; clear hw2) | (go_at_call 84; refine (hA _).mono ?_; rintro e w2 ⟨rfl, hw2⟩; have hw3 := hw2.symm; subst hw3; clear hw2))
      go_ret
      exact ⟨by rw [HB.out]; rfl, kA⟩
  · have HB : Hid (codX off ty sy ad = false) := by unfold Hid codX; rw [decide_eq_false (fun h => ht h.1), Bool.false_and]
    rw [show fdV ty = 0 from if_neg ht, show fdE ty = 2 from if_neg ht] at hF
    clear ht hA
    go_enter Tryz.func130, Tryz.ntmps130
    go_wp2_with (go_at_call 121; refine (hF _).mono ?_; rintro e w2 ⟨rfl, hw2⟩; have hw3 := hw2.symm; subst hw3; clear hw2)
    go_ret
    exact ⟨by rw [HB.out]; rfl, kA⟩

theorem plc_no {sec off ty ad : Int} {l : List SecV} (h : ¬ (0 ≤ abtN ty ∧ 1 ≤ sec ∧ sec ≤ l.length)) : plcX sec off ty ad l = false := by
  unfold plcX
  rw [decide_eq_false h, Bool.false_and]
theorem plc_at {sec off ty ad : Int} {l : List SecV} {k : Nat} {s : ByteArray} {al : Int} {a : Option Addr} {cap : Nat} {sz : Int} {z : List Int} (h0 : 0 ≤ abtN ty) (hk : sec - 1 = k) (hl : k < l.length) (hv : l.getD k secNo = ⟨s, al, a, cap, sz, z⟩) :
    plcX sec off ty ad l = (kndX ty off (kindN (nm s)) && decide (0 ≤ off) && decide (abtN ty ≤ (z.length : Int) - off) && filX ty ad ((z.length : Int) - off)) := by
  have e : (sec - 1).toNat = k := by omega
  unfold plcX
  rw [decide_eq_true (by omega), Bool.true_and, e, hv]

set_option maxRecDepth 20000 in
set_option maxHeartbeats 3200000 in
theorem isPlacedX_walk (sec off ty sy ad : Int) (a : Option Addr) (n cap : Nat) (l : List SecV) (w : World) (h0 : 0 ≤ ty) (h1 : ty < 256) (hl : l.length = n) (_hcap : n ≤ cap) (hn : n ≤ maxLen) (hS : Secs w a l) (ho : off ≤ 9223372036854775807) :
    Calls Tryz.prog 86 #[relW sec off ty sy ad, .slice a n cap] w fun e w' => e = .returned (.bool (plcX sec off ty ad l)) ∧ Kept w w' := by
  obtain ⟨wa, hwa, B1, kA, sA⟩ := box_rela w sec off ty sy ad
  have B1' := B1
  obtain ⟨c0, c1, c2, c3, c4, _, _, _, _, _⟩ := B1'
  have hF := fun w => field_walk ty w
  have hmx : maxLen ≤ 9223372036854775807 := by decide
  by_cases ht : 0 ≤ abtN ty
  · rw [show fdV ty = abtN ty from if_pos ht, show fdE ty = 0 from if_pos ht] at hF
    by_cases hs : sec < 1
    · have d1 : decide (sec < 1) = true := decide_eq_true hs
      have HB : Hid (plcX sec off ty ad l = false) := plc_no (by omega)
      clear hs ht hS B1 hmx
      go_enter Tryz.func86, Tryz.ntmps86
      go_wp2_with (go_at_call 121; refine (hF _).mono ?_; rintro e w2 ⟨rfl, hw2⟩; have hw3 := hw2.symm; subst hw3; clear hw2)
      go_ret
      exact ⟨by rw [HB.out]; rfl, kA⟩
    have d1 : decide (sec < 1) = false := decide_eq_false hs
    by_cases hs2 : (n : Int) < sec
    · have d2 : decide ((n : Int) < sec) = true := decide_eq_true hs2
      have HB : Hid (plcX sec off ty ad l = false) := plc_no (by omega)
      clear hs hs2 ht hS B1 hmx
      go_enter Tryz.func86, Tryz.ntmps86
      go_wp2_with (go_at_call 121; refine (hF _).mono ?_; rintro e w2 ⟨rfl, hw2⟩; have hw3 := hw2.symm; subst hw3; clear hw2)
      go_ret
      exact ⟨by rw [HB.out]; rfl, kA⟩
    have d2 : decide ((n : Int) < sec) = false := decide_eq_false hs2
    obtain ⟨k, hk⟩ : ∃ k : Nat, sec - 1 = k := ⟨(sec - 1).toNat, by omega⟩
    have hkn : k < n := by omega
    obtain ⟨b, o, rfl, hAt⟩ := (hS.kept kA).at (show k < l.length by omega)
    obtain ⟨v, hv⟩ : ∃ v, l.getD k secNo = v := ⟨_, rfl⟩
    obtain ⟨s, al, a', cp, sz, z⟩ := v
    have hpl := plc_at (off := off) (ad := ad) ht hk (show k < l.length by omega) hv
    rw [hv] at hAt
    have x0 : wa.cell? ⟨b, o + k * 4, none⟩ = some (.string s) := hAt.c0
    have x1 : wa.cell? ⟨b, o + k * 4 + 1, none⟩ = some (.int .i64 al) := hAt.c1
    have x2 : wa.cell? ⟨b, o + k * 4 + 2, none⟩ = some (.slice a' z.length cp) := hAt.c2
    have x3 : wa.cell? ⟨b, o + k * 4 + 3, none⟩ = some (.int .i64 sz) := hAt.c3
    have hsz : s.size ≤ maxLen := hAt.ok.size
    have hzl : z.length ≤ maxLen := hAt.ok.cap
    obtain ⟨len, hlen⟩ : ∃ len, z.length = len := ⟨_, rfl⟩
    rw [hlen] at hpl x2 hzl
    obtain ⟨m, hm⟩ : ∃ m, abtN ty = m := ⟨_, rfl⟩
    have hK := fun w => isOfKind_walk sec off ty sy ad s al a' len cp sz w h0 h1 hsz
    have hL := fun left w => isFilled_walk sec off ty sy ad left w h0 h1
    have hm8 := abt_le ty
    rw [hm] at hF ht hpl hm8
    have hwk : wrap64 (k : Int) = k := by unfold wrap64; omega
    have hlen2 : (len : Int) ≤ 9223372036854775807 := by omega
    -- the box of the section
    have Z1 := Box.new wa ⟨#[]⟩ 0 (.slice none 0 0) 0
    obtain ⟨wb, hwb⟩ : ∃ wb, wa.alloc (.cells #[.string ⟨#[]⟩, .int .i64 0, .slice none 0 0, .int .i64 0] 37) = wb := ⟨_, rfl⟩
    rw [hwb, sA] at Z1
    have kB : Kept wa wb := by rw [← hwb]; exact Kept.alloc _ _
    have Z2 := Z1.put s al (.slice a' len cp) sz
    have K2 : Kept w _ := below_put (kA.trans kB) (Nat.le_succ w.heap.size) s al (.slice a' len cp) sz
    have B2 : XBx (put4 wb (w.heap.size + 1) s al (.slice a' len cp) sz) w.heap.size sec off ty sy ad := (((((B1.kept kB).far _ _ _ (by omega)).far _ _ _ (by omega)).far _ _ _ (by omega)).far _ _ _ (by omega))
    have Z1' := Z1
    obtain ⟨z0, z1, z2, z3, y0, y1, y2, y3⟩ := Z1'
    obtain ⟨wc, hwc⟩ : ∃ wc, put4 wb (w.heap.size + 1) s al (.slice a' len cp) sz = wc := ⟨_, rfl⟩
    rw [hwc] at Z2 K2 B2
    clear hS hv hAt hlen hm hsz hs hs2 kB Z1 hzl hmx h0 h1
    go_enter Tryz.func86, Tryz.ntmps86
    go_upto_region 5 with (go_at_call 121; refine (hF _).mono ?_; rintro e w2 ⟨rfl, hw2⟩; have hw3 := hw2.symm; subst hw3; clear hw2)
    obtain ⟨g1, hg1⟩ : ∃ g, kndX ty off (kindN (nm s)) = g := ⟨_, rfl⟩
    obtain ⟨g2, hg2⟩ : ∃ g, filX ty ad ((len : Int) - off) = g := ⟨_, rfl⟩
    have hL' := hL ((len : Int) - off)
    rw [hg1] at hK hpl
    rw [hg2] at hL' hpl
    clear hg1 hg2 hL hF z0 z1 z2 z3 y0 y1 y2 y3 x0 x1 x2 x3 c0 c1 c2 c3 c4 hwb hwc hwa B1 kA sA hwk d1 d2 hk
    have B2' := B2
    have Z2' := Z2
    obtain ⟨c0, c1, c2, c3, c4, _, _, _, _, _⟩ := B2'
    obtain ⟨z0, z1, z2, z3, _, _, _, _⟩ := Z2'
    cases g1 with
    | false =>
      have HB : Hid (plcX sec off ty ad l = false) := by unfold Hid; rw [hpl]; rfl
      clear hpl hL' ht
      go_wp2_with (go_at_call 122; refine (hK _).mono ?_; rintro e w4 ⟨rfl, k4⟩; clear c0 c1 c2 c3 c4 z0 z1 z2 z3; obtain ⟨c0, c1, c2, c3, c4, _, _, _, _, _⟩ := B2.kept k4; obtain ⟨z0, z1, z2, z3, _, _, _, _⟩ := Z2.kept k4)
      go_ret
      exact ⟨by rw [HB.out]; rfl, K2.trans k4⟩
    | true =>
      by_cases h2 : 0 ≤ off
      · have d2 : decide (0 ≤ off) = true := decide_eq_true h2
        by_cases h3 : m ≤ (len : Int) - off
        · have d3 : decide (m ≤ (len : Int) - off) = true := decide_eq_true h3
          have HB : Hid (plcX sec off ty ad l = g2) := by unfold Hid; rw [hpl, d2, d3]; simp
          clear hpl ht h3
          go_wp2_with (first | (go_at_call 122; refine (hK _).mono ?_; rintro e w4 ⟨rfl, k4⟩; clear c0 c1 c2 c3 c4 z0 z1 z2 z3; obtain ⟨c0, c1, c2, c3, c4, _, _, _, _, _⟩ := B2.kept k4; obtain ⟨z0, z1, z2, z3, _, _, _, _⟩ := Z2.kept k4) | (go_at_call 123; refine (hL' _).mono ?_; rintro e w5 ⟨rfl, k5⟩))
          go_ret
          exact ⟨by rw [HB.out]; rfl, (K2.trans k4).trans k5⟩
        · have d3 : decide (m ≤ (len : Int) - off) = false := decide_eq_false h3
          have HB : Hid (plcX sec off ty ad l = false) := by unfold Hid; rw [hpl, d3]; simp
          clear hpl ht h3
          go_wp2_with (go_at_call 122; refine (hK _).mono ?_; rintro e w4 ⟨rfl, k4⟩; clear c0 c1 c2 c3 c4 z0 z1 z2 z3; obtain ⟨c0, c1, c2, c3, c4, _, _, _, _, _⟩ := B2.kept k4; obtain ⟨z0, z1, z2, z3, _, _, _, _⟩ := Z2.kept k4)
          go_ret
          exact ⟨by rw [HB.out]; rfl, K2.trans k4⟩
      · have d2 : decide (0 ≤ off) = false := decide_eq_false h2
        have HB : Hid (plcX sec off ty ad l = false) := by unfold Hid; rw [hpl, d2]; simp
        clear hpl ht h2
        go_wp2_with (go_at_call 122; refine (hK _).mono ?_; rintro e w4 ⟨rfl, k4⟩; clear c0 c1 c2 c3 c4 z0 z1 z2 z3; obtain ⟨c0, c1, c2, c3, c4, _, _, _, _, _⟩ := B2.kept k4; obtain ⟨z0, z1, z2, z3, _, _, _, _⟩ := Z2.kept k4)
        go_ret
        exact ⟨by rw [HB.out]; rfl, K2.trans k4⟩
  · rw [show fdV ty = 0 from if_neg ht, show fdE ty = 2 from if_neg ht] at hF
    have HB : Hid (plcX sec off ty ad l = false) := plc_no (by omega)
    clear ht hS B1 hmx
    go_enter Tryz.func86, Tryz.ntmps86
    go_wp2_with (go_at_call 121; refine (hF _).mono ?_; rintro e w2 ⟨rfl, hw2⟩; have hw3 := hw2.symm; subst hw3; clear hw2)
    go_ret
    exact ⟨by rw [HB.out]; rfl, kA⟩
end Go.Proofs.YtljmgbpecoifnaaGreatDoor
