/- How many sections the relocations are of: the program's. How great the parts of an object that may be are: mathematics. The seven steps by which a file is gathered: the program's. How a file is gathered: the program's. -/
import Derived.Test.YtljmgbpecoifnaaGreatDoorJar
import Derived.Test.YtljmgbpecoifnaaGreatDoorJau
namespace Go.Proofs.YtljmgbpecoifnaaGreatDoor
open Go.RowKit

theorem rl_new_len {o : ObjM} {k m : Nat} (hk : k < o.rs.length) (hs : (o.rs.getD k relNo).sec = (m : Int) + 1) (hm : m < o.ss.length) (ro : o.rs.Pairwise fun a b => a.sec ≤ b.sec) (hn : (o.rs.getD k relNo).sec ≠ prvR o.rs k) :
    (rlK o 0 (k + 1)).length = (rlK o 0 k).length + 1 := by rw [rl_new hk hs hm ro hn, List.length_append]; rfl
theorem rl_same_len {o : ObjM} {k m : Nat} (hk : k < o.rs.length) (hs : (o.rs.getD k relNo).sec = (m : Int) + 1) (hm : m < o.ss.length) (ro : o.rs.Pairwise fun a b => a.sec ≤ b.sec) (hn : (o.rs.getD k relNo).sec = prvR o.rs k) :
    (rlK o 0 (k + 1)).length = (rlK o 0 k).length := by
  obtain ⟨A, z, h1, h2⟩ := rl_same (f := 0) hk hs hm ro hn
  rw [h1, h2, List.length_append, List.length_append]
  rfl
theorem wm_succ {L : Nat} (h : L ≤ 16) : Go.RowKit.wrap64 ((L : Int) + 1) = (L : Int) + 1 := w64 (by omega) (by omega)
theorem wm_succ' {L : Nat} (h : L ≤ 16) : IntKind.i64.wrap ((L : Int) + 1) = (L : Int) + 1 := w64i (by omega) (by omega)

set_option maxRecDepth 20000 in
set_option maxHeartbeats 3200000 in
theorem many_walk (M : ObjM) (ra : Option Addr) (n rc : Nat) (rs : List RelM) (w : World) (hl : rs.length = n) (hR : RelR w ra rs) (hrn : n ≤ 256) (hsn : M.ss.length ≤ 16) (HMr : Hid (M.rs = rs))
    (hrs : ∀ j, j < n → 1 ≤ (rs.getD j relNo).sec ∧ (rs.getD j relNo).sec ≤ M.ss.length) (hro : rs.Pairwise fun a b => a.sec ≤ b.sec) :
    Calls Tryz.prog 53 #[.slice ra n rc] w fun e w' => e = .returned (.int .i64 ((rlK M 0 n).length : Int)) ∧ Kept w w' := by
  obtain ⟨sn, hsl⟩ : ∃ sn, M.ss.length = sn := ⟨_, rfl⟩
  have HMl : Hid (M.ss.length = sn) := hsl
  rw [hsl] at hsn hrs
  clear hsl
  go_enter Tryz.func53, Tryz.ntmps53
  go_wp2
  go_loopw [3, 4, 9] (fun c l i wr => ∃ k : Nat, k ≤ n ∧ i = .int .i64 k ∧ l = .int .i64 (prvR rs k) ∧ c = .int .i64 ((rlK M 0 k).length : Int) ∧ Kept w wr) (fun _ _ i _ => n - (intOf i).toNat)
  case atStart => exact ⟨0, Nat.zero_le _, rfl, rfl, by rw [rlK_zero]; rfl, Kept.refl _⟩
  case round =>
    obtain ⟨k, hk, rfl, rfl, rfl, K⟩ := hrel
    by_cases hlt : k < n
    · obtain ⟨b, off, rfl, hAt⟩ := (hR.kept K).cells (show k < rs.length by omega)
      obtain ⟨r, hr⟩ : ∃ r, rs.getD k relNo = r := ⟨_, rfl⟩
      obtain ⟨hs1, hs2⟩ := hrs k hlt
      rw [hr] at hAt hs1 hs2
      have HV : Hid (rs.getD k relNo = r) := hr
      obtain ⟨sec, of, ty, sy, ad⟩ := r
      dsimp only at hs1 hs2
      obtain ⟨m, rfl⟩ : ∃ m : Nat, sec = (m : Int) + 1 := ⟨(sec - 1).toNat, by omega⟩
      have hm : m < sn := by omega
      have x0 : wr.cell? ⟨b, off + k * 5, none⟩ = some (.int .i64 ((m : Int) + 1)) := hAt.c0
      have x1 : wr.cell? ⟨b, off + k * 5 + 1, none⟩ = some (.int .i64 of) := hAt.c1
      have x2 : wr.cell? ⟨b, off + k * 5 + 2, none⟩ = some (.int .u8 ty) := hAt.c2
      have x3 : wr.cell? ⟨b, off + k * 5 + 3, none⟩ = some (.int .i64 sy) := hAt.c3
      have x4 : wr.cell? ⟨b, off + k * 5 + 4, none⟩ = some (.int .i64 ad) := hAt.c4
      obtain ⟨wb, wc, hwb, hwc, Y1, Y2, K6, s6⟩ := put_rel wr ((m : Int) + 1) of ty sy ad
      obtain ⟨gb, hgb⟩ : ∃ gb, wr.heap.size = gb := ⟨_, rfl⟩
      rw [hgb] at hwc Y1 Y2 s6
      obtain ⟨z0, z1, z2, z3, z4, y0, y1, y2, y3, y4⟩ := Y1
      obtain ⟨u0, u1, u2, u3, u4, _, _, _, _, _⟩ := id Y2
      have hK6 := K.trans K6
      obtain ⟨p, hp⟩ : ∃ p, prvR rs k = p := ⟨_, rfl⟩
      obtain ⟨L, hL⟩ : ∃ L, (rlK M 0 k).length = L := ⟨_, rfl⟩
      have hL16 : L ≤ 16 := by
        rw [← hL]
        exact Nat.le_trans (rlK_length_le M 0 k) (by rw [HMl.out]; exact hsn)
      have hw1 := wm_succ hL16
      have hw2 := wm_succ' hL16
      have HNX : Hid (prvR rs (k + 1) = (m : Int) + 1) := by unfold Hid prvR; rw [if_neg (Nat.succ_ne_zero k), Nat.add_sub_cancel, HV.out]
      by_cases hn : (m : Int) + 1 = p
      · have d1 : ((m : Int) + 1 == p) = true := beq_iff_eq.2 hn
        have d2 : ((m : Int) + 1 != p) = false := by rw [bne, d1]; rfl
        have HE : Hid ((m : Int) + 1 = p) := hn
        have HS : Hid ((rlK M 0 (k + 1)).length = L) := by
          unfold Hid
          rw [← hL]
          exact rl_same_len (m := m) (by rw [HMr.out, hl]; exact hlt) (by rw [HMr.out, HV.out]) (by rw [HMl.out]; exact hm) (by rw [HMr.out]; exact hro) (by rw [HMr.out, HV.out, hp]; exact hn)
        rw [hp, hL]
        clear hn hp hL hr hAt
        go_wp2
        go_roundw
        case rel => exact ⟨k + 1, by omega, by go_num, by rw [HNX.out, HE.out], by rw [HS.out], hK6⟩
        case measure => simp [intOf]; omega
      · have d1 : ((m : Int) + 1 == p) = false := beq_eq_false_iff_ne.2 hn
        have d2 : ((m : Int) + 1 != p) = true := by rw [bne, d1]; rfl
        have HS : Hid ((rlK M 0 (k + 1)).length = L + 1) := by
          unfold Hid
          rw [← hL]
          exact rl_new_len (m := m) (by rw [HMr.out, hl]; exact hlt) (by rw [HMr.out, HV.out]) (by rw [HMl.out]; exact hm) (by rw [HMr.out]; exact hro) (by rw [HMr.out, HV.out, hp]; exact hn)
        rw [hp, hL]
        clear hn hp hL hr hAt
        go_wp2
        go_roundw
        case rel => exact ⟨k + 1, by omega, by go_num, by rw [HNX.out], by rw [HS.out]; rfl, hK6⟩
        case measure => simp [intOf]; omega
    · obtain rfl : k = n := by omega
      go_wp2
      go_ret
      exact ⟨rfl, K⟩

structure SmP (p : PartM) : Prop where
  a1 : 1 ≤ p.al
  a2 : p.al ≤ 64
  z : p.z.length ≤ 7000
  n1 : p.nm.length ≤ 60
  n2 : ∀ x ∈ p.nm, x ≠ 0
theorem wt_small {ps : List PartM} (h : ∀ p ∈ ps, SmP p) : wtP ps ≤ 7064 * ps.length := by
  induction ps with
  | nil => simp [wtP]
  | cons p r ih =>
    have h1 := ih (fun q hq => h q (by simp [hq]))
    have h2 := (h p (by simp)).z
    have e : wtP (p :: r) = 64 + p.z.length + wtP r := by simp [wtP]
    rw [e, List.length_cons]
    omega
theorem lay_small {ps : List PartM} (h : ∀ p ∈ ps, SmP p) (hn : ps.length ≤ 60) : layN 64 ps ≤ 424000 := by
  have h1 := layN_le (fun p hp => ⟨(h p hp).a1, (h p hp).a2⟩) 64
  have h2 := wt_small h
  omega
theorem sm_app {a b : List PartM} (ha : ∀ p ∈ a, SmP p) (hb : ∀ p ∈ b, SmP p) : ∀ p ∈ a ++ b, SmP p := by
  intro p hp
  rcases List.mem_append.1 hp with hp | hp
  · exact ha p hp
  · exact hb p hp
theorem may_nm {l : List Int} (h : mayNm l = true) : l.length ≤ 32 ∧ ∀ x ∈ l, x ≠ 0 := by
  have hm := mayNm_true h
  refine ⟨hm.2.1, fun x hx => ?_⟩
  have := of_decide_eq_true (hm.2.2 x hx)
  omega
theorem zip_mem {l : List SctM} {q : SctM × Nat} (hq : q ∈ l.zipIdx) : q.1 ∈ l := by
  have := List.mem_map_of_mem (f := Prod.fst) hq
  rwa [List.zipIdx_map_fst] at this
theorem sm_sec {o : ObjM} (h : OkP o) : ∀ p ∈ secPs o, SmP p := by
  intro p hp
  obtain ⟨q, hq, rfl⟩ := List.mem_map.1 hp
  have hs : q.1 ∈ o.ss := zip_mem hq
  have hb := h.ss _ hs
  obtain ⟨h1, h2, h3, h4, h5, h6⟩ := sectB_has hb
  have hz := sct_len hb
  have hn := may_nm h1
  have hd : q.1.al ∣ 64 := Int.dvd_of_emod_eq_zero h6
  have hle := Int.le_of_dvd (by decide) hd
  refine ⟨?_, ?_, ?_, ?_, hn.2⟩
  · show 1 ≤ q.1.al.toNat; omega
  · show q.1.al.toNat ≤ 64; omega
  · show q.1.z.length ≤ 7000; omega
  · show q.1.nm.length ≤ 60; omega
theorem grp_len {o : ObjM} (h : OkP o) {g : GrpM} (hg : g ∈ o.gs) : g.l.length ≤ 16 ∧ mayNm g.nm = true ∧ ∀ n ∈ g.l, 1 ≤ n ∧ n ≤ 16 := by
  obtain ⟨i, hi, rfl⟩ := mem_at hg grpNo
  have h1 := h.gs i hi
  unfold grpAt at h1
  rw [Bool.and_eq_true, Bool.and_eq_true, Bool.and_eq_true, decide_eq_true_eq] at h1
  have h2 := h.sn
  refine ⟨by omega, h1.1.1.1, fun n hn => ?_⟩
  have := ((okO_OkO h).gs _ hg).2 n hn
  omega
theorem sm_grp {o : ObjM} (h : OkP o) (f : Int) : ∀ p ∈ o.gs.map (grpP f), SmP p := by
  intro p hp
  obtain ⟨g, hg, rfl⟩ := List.mem_map.1 hp
  obtain ⟨h1, h2, _⟩ := grp_len h hg
  have hn := may_nm h2
  refine ⟨Nat.le_of_ble_eq_true rfl, Nat.le_of_ble_eq_true rfl, ?_, ?_, ?_⟩
  · show (byN (uOf 1) 4 ++ gfL g.l).length ≤ 7000
    rw [List.length_append, byN_length, gfL_length]
    omega
  · show (gpNm ++ g.nm).length ≤ 60
    rw [List.length_append]
    have : gpNm.length = 7 := rfl
    omega
  · intro x hx
    rcases List.mem_append.1 (show x ∈ gpNm ++ g.nm from hx) with hx | hx
    · exact (by decide : ∀ x ∈ gpNm, x ≠ 0) x hx
    · exact hn.2 x hx
theorem sm_rel {o : ObjM} (h : OkP o) (f : Int) (k : Nat) : ∀ p ∈ rlK o f k, SmP p := by
  intro p hp
  unfold rlK relPs at hp
  obtain ⟨q, hq, rfl⟩ := List.mem_map.1 hp
  have hq : q ∈ o.ss.zipIdx := (List.mem_filter.1 hq).1
  have hs : q.1 ∈ o.ss := zip_mem hq
  have hb := h.ss _ hs
  obtain ⟨h1, _⟩ := sectB_has hb
  have hn := may_nm h1
  refine ⟨Nat.le_of_ble_eq_true rfl, Nat.le_of_ble_eq_true rfl, ?_, ?_, ?_⟩
  · show (relsL (wR o k) ((q.2 : Int) + 1)).length ≤ 7000
    unfold relsL
    rw [flat_length (k := 24) relM _ (fun x _ => relL_length _ _ _ _)]
    unfold relsOf
    have h2 := List.length_filter_le (fun r : RelM => r.sec == (q.2 : Int) + 1) (wR o k).rs
    have h3 : (wR o k).rs.length ≤ 256 := by
      show (o.rs.take k).length ≤ 256
      rw [List.length_take]
      have := h.rn
      omega
    omega
  · show (rlNm ++ q.1.nm).length ≤ 60
    rw [List.length_append]
    have : rlNm.length = 5 := rfl
    omega
  · intro x hx
    rcases List.mem_append.1 (show x ∈ rlNm ++ q.1.nm from hx) with hx | hx
    · exact (by decide : ∀ x ∈ rlNm, x ≠ 0) x hx
    · exact hn.2 x hx
theorem sm_sym {o : ObjM} (h : OkP o) (f : Int) : SmP (symPt o f) := by
  refine ⟨Nat.le_of_ble_eq_true rfl, Nat.le_of_ble_eq_true rfl, ?_, ?_, ?_⟩
  · show (symsL o).length ≤ 7000
    unfold symsL
    rw [List.length_append, List.length_replicate, flat_length (k := 24) (symM (fsts (yNames o))) _ (fun x _ => symL_length _ _ _ _ _ _)]
    have := h.yn
    omega
  · show syNm.length ≤ 60; decide
  · show ∀ x ∈ syNm, x ≠ 0; decide
theorem ytbl_le {o : ObjM} (h : OkP o) : (tbl (fsts (yNames o))).length ≤ 5000 := by
  have hO := okO_OkO h
  have hle := tbl_fsts_le (yNames o) 32 (fun s hs => by
    obtain ⟨q, hq, rfl⟩ := List.mem_map.1 hs
    exact (mayNm_true (hO.ys q hq).1).2.1)
  have hl : (yNames o).length = o.ys.length := by simp [yNames]
  have := h.yn
  omega
theorem sm_str {o : ObjM} (h : OkP o) : SmP (strPt o) := by
  refine ⟨Nat.le_of_ble_eq_true rfl, Nat.le_of_ble_eq_true rfl, ?_, ?_, ?_⟩
  · show (tbl (fsts (yNames o))).length ≤ 7000
    have := ytbl_le h
    omega
  · show stNm.length ≤ 60; decide
  · show ∀ x ∈ stNm, x ≠ 0; decide
theorem sm_parts {o : ObjM} (h : OkP o) : ∀ p ∈ partsO o, SmP p := by
  unfold partsO
  refine sm_app (sm_sec h) (sm_app (sm_grp h _) (sm_app ?_ ?_))
  · rw [← rlK_all]; exact sm_rel h _ _
  · intro p hp
    rcases List.mem_cons.1 hp with rfl | hp
    · exact sm_sym h _
    · rw [List.mem_singleton] at hp; subst hp; exact sm_str h
theorem grps_length (o : ObjM) (f : Int) : (o.gs.map (grpP f)).length = o.gs.length := by rw [List.length_map]
theorem first_le {o : ObjM} (h : OkP o) : firstN o ≤ 49 := by
  unfold firstN
  have h1 := List.length_filter_le (fun q : SctM × Nat => hasR o q.2) o.ss.zipIdx
  rw [List.length_zipIdx] at h1
  have := h.sn
  have := h.gn
  omega
theorem relPs_length (o : ObjM) (f : Int) : (relPs o f).length = (o.ss.zipIdx.filter fun q => hasR o q.2).length := by unfold relPs; rw [List.length_map]

/-- The parts that are there behind the k-th step. -/
def stgP (o : ObjM) : Nat → List PartM
  | 0 => []
  | 1 => secPs o
  | 2 => secPs o ++ o.gs.map (grpP (firstN o))
  | 3 => secPs o ++ o.gs.map (grpP (firstN o)) ++ relPs o (firstN o)
  | 4 => secPs o ++ o.gs.map (grpP (firstN o)) ++ relPs o (firstN o) ++ [symPt o (firstN o)]
  | _ => secPs o ++ o.gs.map (grpP (firstN o)) ++ relPs o (firstN o) ++ [symPt o (firstN o)] ++ [strPt o]
theorem stg_five (o : ObjM) : stgP o 5 = partsO o := by
  unfold stgP partsO
  simp only [List.append_assoc, List.singleton_append]
/-- What a file under way is behind the k-th step. -/
def GSt (o : ObjM) (k : Nat) (σ : FSt) : Prop :=
  if k ≤ 3 then PSt (stgP o k) σ ∧ σ.sy = (firstN o : Int)
  else if k ≤ 5 then PSt (stgP o k) σ ∧ σ.tb = tbl (fsts (yNames o))
  else if k = 6 then σ.b = bodyL (partsO o) ∧ σ.hs = List.replicate 10 0 :: headsP (partsO o) ∧ σ.e = 0
  else σ.b = fileO o ∧ σ.e = 0
theorem nmok_parts {o : ObjM} (h : OkP o) : NmOk (partsO o) := fun p hp => ⟨(sm_parts h p hp).n1, (sm_parts h p hp).n2⟩
theorem namesP_le {o : ObjM} (h : OkP o) : (tbl (fsts (namesP (partsO o)))).length ≤ 4000 := by
  have hle := tbl_fsts_le (namesP (partsO o)) 60 (fun s hs => by
    unfold namesP at hs
    rcases List.mem_append.1 hs with hs | hs
    · obtain ⟨p, hp, rfl⟩ := List.mem_map.1 hs
      exact (sm_parts h p hp).n1
    · rw [List.mem_singleton] at hs; rw [hs]; decide)
  have hl : (namesP (partsO o)).length = (partsO o).length + 1 := by simp [namesP]
  have h2 := partsO_length o
  have h3 := first_le h
  omega
theorem body_le {o : ObjM} (h : OkP o) : (bodyL (partsO o)).length ≤ 430000 := by
  have h1 := lay_small (sm_parts h) (by have := partsO_length o; have := first_le h; omega)
  unfold bodyL
  rw [layB_length, List.length_replicate]
  unfold allP
  rw [layN_append]
  show layN 64 (partsO o) + padN (layN 64 (partsO o)) 1 + (tbl (fsts (namesP (partsO o)))).length ≤ _
  have h4 := padN_lt (len := layN 64 (partsO o)) (m := 1) (by omega)
  have h5 := namesP_le h
  omega
/-- All heads may be. -/
theorem heads_ok {o : ObjM} (h : OkP o) (i : Nat) (hi : i < (partsO o).length + 2) :
    headB ((List.replicate 10 0 :: headsP (partsO o)).getD i []) = true ∧ ∀ n ∈ (List.replicate 10 0 :: headsP (partsO o)).getD i [], 0 ≤ n ∧ n ≤ 9223372036854775807 := by
  match i with
  | 0 =>
    rw [List.getD_cons_zero]
    exact ⟨by decide, by decide⟩
  | i + 1 =>
    have hi1 : i < (partsO o).length + 1 := by omega
    have hi' : i < (allP (partsO o)).length := by rw [allP_length]; exact hi1
    have hp := allP_ok (partsO_ok (okO_OkO h)) _ (allP_mem (partsO o) i hi1)
    have hb := body_le h
    have hl : (bodyL (partsO o)).length = layN 64 (allP (partsO o)) := by unfold bodyL; rw [layB_length, List.length_replicate]
    have h1 := layO_at 64 (allP (partsO o)) i hi'
    rw [List.getD_cons_succ, headsP_at _ _ hi1]
    have hpl : plc (fsts (namesP (partsO o))) ((allP (partsO o)).getD i partNo).nm < 4294967296 := by
      have h2 := (plc_in (.inl (part_nm i hi1 hp.nm.1))).1
      have h3 := namesP_le h
      omega
    obtain ⟨r1, r2⟩ := hdV_ok hp hpl (off := (layO 64 (allP (partsO o))).getD i 0) (by omega) (by omega)
    refine ⟨r1, fun n hn => ⟨?_, r2 n hn⟩⟩
    have h2 := hp.ty
    have h3 := hp.fl
    have h4 := hp.lk
    have h5 := hp.nf
    have h6 := hp.en
    have h7 := hp.sz
    unfold hdV at hn
    simp only [List.mem_cons, List.not_mem_nil, or_false] at hn
    rcases hn with rfl | rfl | rfl | rfl | rfl | rfl | rfl | rfl | rfl | rfl
    · omega
    · omega
    · omega
    · omega
    · omega
    · split <;> omega
    · omega
    · omega
    · omega
    · omega
theorem file_eq (o : ObjM) : fhL (padB (bodyL (partsO o)) 8).length ((partsO o).length + 2) ++ (padB (bodyL (partsO o)) 8 ++ hdsL (List.replicate 10 0 :: headsP (partsO o))).drop 64 = fileO o := by
  have h1 := bodyL_ge (partsO o)
  have h2 := outL_ge (partsO o)
  unfold fileO fileP
  show fhL (outL (partsO o)).length _ ++ (outL (partsO o) ++ _).drop 64 = _
  rw [List.drop_append_of_le_length (by omega)]
  congr 2

/-- What the world that came in holds, and what is known of the object. -/
structure Inp (W : World) (o : ObjV) : Prop where
  obj : ObjOk W o
  k : OkP o.m
  tk : TabK W
  tx : TabX W
  ty : Tab W
theorem Inp.sn {W : World} {o : ObjV} (h : Inp W o) : o.sn ≤ 16 := by
  have := h.k.sn
  have e : o.m.ss.length = o.ss.length := by show (o.ss.map sctOf).length = _; rw [List.length_map]
  have := h.obj.hs
  omega
theorem Inp.gn {W : World} {o : ObjV} (h : Inp W o) : o.gn ≤ 16 := by
  have := h.k.gn
  have e : o.m.gs.length = o.gs.length := by show (o.gs.map grpOfV).length = _; rw [List.length_map]
  have := h.obj.hg
  omega
theorem Inp.rn {W : World} {o : ObjV} (h : Inp W o) : o.rn ≤ 256 := by
  have := h.k.rn
  have e : o.m.rs.length = o.rs.length := rfl
  have := h.obj.hr
  omega
theorem Inp.all {W : World} {o : ObjV} (h : Inp W o) : o.ss.all okS = true := by
  rw [List.all_eq_true]
  intro v hv
  exact h.k.ss (sctOf v) (List.mem_map.2 ⟨v, hv, rfl⟩)
theorem Inp.grp {W : World} {o : ObjV} (h : Inp W o) {j : Nat} (hj : j < o.gn) : (o.gs.getD j grpV0).l.length ≤ 16 ∧ (o.gs.getD j grpV0).s.size ≤ 1000 ∧ ∀ i, i < (o.gs.getD j grpV0).l.length → 0 ≤ (o.gs.getD j grpV0).l.getD i 0 ∧ (o.gs.getD j grpV0).l.getD i 0 ≤ 16 := by
  have hm : grpOfV (o.gs.getD j grpV0) ∈ o.m.gs := List.mem_map.2 ⟨_, getD_in (by rw [h.obj.hg]; exact hj) _, rfl⟩
  obtain ⟨h1, h2, h3⟩ := grp_len h.k hm
  have hn : (nm (o.gs.getD j grpV0).s).length ≤ 32 := (may_nm h2).1
  rw [nm_length] at hn
  refine ⟨h1, by omega, fun i hi => ?_⟩
  have := h3 _ (getD_in hi 0)
  omega
theorem Inp.rel {W : World} {o : ObjV} (h : Inp W o) {j : Nat} (hj : j < o.rn) : codX (o.rs.getD j relNo).off (o.rs.getD j relNo).ty (o.rs.getD j relNo).sy (o.rs.getD j relNo).ad = true ∧ 1 ≤ (o.rs.getD j relNo).sec ∧ (o.rs.getD j relNo).sec ≤ o.sn := by
  have := (okO_OkO h.k).rs _ (getD_in (show j < o.rs.length by rw [h.obj.hr]; exact hj) relNo)
  have e : o.m.ss.length = o.sn := by show (o.ss.map sctOf).length = _; rw [List.length_map]; exact h.obj.hs
  rw [e] at this
  exact this
theorem Inp.sec {W : World} {o : ObjV} (h : Inp W o) {j : Nat} (hj : j < o.sn) : (o.ss.getD j secNo).s.size ≤ 1000 := by
  have hm : sctOf (o.ss.getD j secNo) ∈ o.m.ss := List.mem_map.2 ⟨_, getD_in (by rw [h.obj.hs]; exact hj) _, rfl⟩
  have hn : (nm (o.ss.getD j secNo).s).length ≤ 32 := (may_nm (sectB_has (h.k.ss _ hm)).1).1
  rw [nm_length] at hn
  omega
theorem Inp.ro {W : World} {o : ObjV} (h : Inp W o) : o.rs.Pairwise fun a b => a.sec ≤ b.sec := (okO_OkO h.k).ro
theorem grK_all {o : ObjV} {n : Nat} (f : Int) (h : o.gs.length = n) : grK f o.gs n = o.m.gs.map (grpP f) := by
  unfold grK
  rw [List.take_of_length_le (by omega)]
  show _ = (o.gs.map grpOfV).map (grpP f)
  rw [List.map_map]
  rfl
theorem secK_le {o : ObjM} (k : Nat) : ∀ p ∈ secK o.gs o.ss k, p ∈ secPs o := fun _p hp => List.mem_of_mem_take hp
theorem grK_mem {o : ObjV} {f : Int} {k : Nat} : ∀ p ∈ grK f o.gs k, p ∈ o.m.gs.map (grpP f) := by
  intro p hp
  unfold grK at hp
  obtain ⟨g, hg, rfl⟩ := List.mem_map.1 hp
  exact List.mem_map.2 ⟨grpOfV g, List.mem_map.2 ⟨g, List.mem_of_mem_take hg, rfl⟩, rfl⟩
theorem grK_len {o : ObjV} {f : Int} {k : Nat} : (grK f o.gs k).length ≤ o.gs.length := by
  unfold grK
  rw [List.length_map, List.length_take]
  omega
theorem sec_len (o : ObjM) : (secPs o).length = o.ss.length := secPs_length o

theorem st0 {B fb : Nat} {σ : FSt} {o : ObjV} {W w : World} (h : Inp W o) (hF : FileOk B w fb σ) (hG : GSt o.m 0 σ) (hWw : Kept W w) (hWB : W.heap.size ≤ B) :
    Calls Tryz.prog 54 #[.pointer (some ⟨fb, 0, none⟩), objW o] w fun e w' => e = .returned (.tuple #[]) ∧ ∃ σ', Went B fb σ w σ' w' ∧ GSt o.m 1 σ' := by
  unfold GSt at hG
  rw [if_pos (by decide)] at hG
  have hl := lay_small (ps := secK o.m.gs o.m.ss 0) (by intro p hp; cases hp) (by simp [secK])
  refine (putSections_walk B fb σ o W w hF hG.1 h.obj hWw hWB h.tk h.sn h.all h.gn (fun j hj => by have := (h.grp hj).1; omega) (fun k hk => ?_)).mono ?_
  · have := lay_small (ps := secK o.m.gs o.m.ss k) (fun p hp => sm_sec h.k p (secK_le k p hp)) (by unfold secK; rw [List.length_take, List.length_map, List.length_zipIdx]; have := h.k.sn; omega)
    exact Nat.le_trans this (by decide)
  · rintro e w' ⟨rfl, σ', hW, hP, hK⟩
    refine ⟨rfl, σ', hW, ?_⟩
    unfold GSt
    rw [if_pos (by decide)]
    refine ⟨?_, hK.1.trans hG.2⟩
    have e1 : secK (o.gs.map grpOfV) (o.ss.map sctOf) o.sn = secPs o.m := by
      have := secK_all o.m
      rw [show o.m.ss.length = o.sn from by show (o.ss.map sctOf).length = _; rw [List.length_map]; exact h.obj.hs] at this
      exact this
    show PSt (secPs o.m) σ'
    rw [← e1]
    exact hP
theorem st1 {B fb : Nat} {σ : FSt} {o : ObjV} {W w : World} (h : Inp W o) (hF : FileOk B w fb σ) (hG : GSt o.m 1 σ) (hWw : Kept W w) (hWB : W.heap.size ≤ B) :
    Calls Tryz.prog 55 #[.pointer (some ⟨fb, 0, none⟩), objW o] w fun e w' => e = .returned (.tuple #[]) ∧ ∃ σ', Went B fb σ w σ' w' ∧ GSt o.m 2 σ' := by
  unfold GSt at hG
  rw [if_pos (by decide)] at hG
  have hs := h.k.sn
  have hg := h.k.gn
  have hgl : o.m.gs.length = o.gs.length := by show (o.gs.map grpOfV).length = _; rw [List.length_map]
  refine (putGroups_walk B fb σ (secPs o.m) o W w hF hG.1 h.obj hWw hWB h.gn (fun j hj => (h.grp hj).1) (fun j hj => (h.grp hj).2.2) (fun j hj => (h.grp hj).2.1) (fun k hk => ?_) (by rw [sec_len]; omega)).mono ?_
  · have := lay_small (ps := secPs o.m ++ grK σ.sy o.gs k) (sm_app (sm_sec h.k) (fun p hp => sm_grp h.k _ p (grK_mem p hp))) (by rw [List.length_append, sec_len]; have := grK_len (o := o) (f := σ.sy) (k := k); omega)
    exact Nat.le_trans this (by decide)
  · rintro e w' ⟨rfl, σ', hW, hP, hK⟩
    refine ⟨rfl, σ', hW, ?_⟩
    unfold GSt
    rw [if_pos (by decide)]
    refine ⟨?_, hK.1.trans hG.2⟩
    rw [grK_all _ h.obj.hg, hG.2] at hP
    exact hP
theorem st2 {B fb : Nat} {σ : FSt} {o : ObjV} {W w : World} (h : Inp W o) (hF : FileOk B w fb σ) (hG : GSt o.m 2 σ) (hWw : Kept W w) (hWB : W.heap.size ≤ B) :
    Calls Tryz.prog 56 #[.pointer (some ⟨fb, 0, none⟩), objW o] w fun e w' => e = .returned (.tuple #[]) ∧ ∃ σ', Went B fb σ w σ' w' ∧ GSt o.m 3 σ' := by
  unfold GSt at hG
  rw [if_pos (by decide)] at hG
  have hs := h.k.sn
  have hg := h.k.gn
  have hps : (secPs o.m ++ o.m.gs.map (grpP (firstN o.m))).length ≤ 32 := by rw [List.length_append, sec_len, List.length_map]; omega
  refine (putRelas_walk B fb σ _ o W w hF hG.1 h.obj hWw hWB h.tx h.sn h.rn (fun j hj => h.rel hj) h.ro (fun j hj => h.sec hj) (fun k hk => ?_) (Nat.le_trans hps (by decide))).mono ?_
  · have := lay_small (ps := (secPs o.m ++ o.m.gs.map (grpP (firstN o.m))) ++ rlK o.m σ.sy k) (sm_app (sm_app (sm_sec h.k) (sm_grp h.k _)) (sm_rel h.k _ _)) (by rw [List.length_append]; have := rlK_length_le o.m σ.sy k; omega)
    exact Nat.le_trans this (by decide)
  · rintro e w' ⟨rfl, σ', hW, hP, hK⟩
    refine ⟨rfl, σ', hW, ?_⟩
    unfold GSt
    rw [if_pos (by decide)]
    refine ⟨?_, hK.1.trans hG.2⟩
    have e1 : o.rn = o.m.rs.length := h.obj.hr.symm
    rw [e1, rlK_all, hG.2] at hP
    exact hP
theorem st3_len {o : ObjM} (h : OkP o) : (stgP o 3).length ≤ 48 ∧ ∀ p ∈ stgP o 3, SmP p := by
  have hs := h.sn
  have hg := h.gn
  have h1 := rlK_length_le o (firstN o) o.rs.length
  rw [rlK_all] at h1
  refine ⟨?_, ?_⟩
  · show (secPs o ++ o.gs.map (grpP (firstN o)) ++ relPs o (firstN o)).length ≤ 48
    rw [List.length_append, List.length_append, sec_len, List.length_map]
    omega
  · refine sm_app (sm_app (sm_sec h) (sm_grp h _)) ?_
    rw [← rlK_all]
    exact sm_rel h _ _
theorem st3 {B fb : Nat} {σ : FSt} {o : ObjV} {W w : World} (h : Inp W o) (hF : FileOk B w fb σ) (hG : GSt o.m 3 σ) (hWw : Kept W w) (hWB : W.heap.size ≤ B) :
    Calls Tryz.prog 57 #[.pointer (some ⟨fb, 0, none⟩), objW o] w fun e w' => e = .returned (.tuple #[]) ∧ ∃ σ', Went B fb σ w σ' w' ∧ GSt o.m 4 σ' := by
  unfold GSt at hG
  rw [if_pos (by decide)] at hG
  obtain ⟨h1, h2⟩ := st3_len h.k
  have h3 := lay_small h2 (by omega)
  have h4 := first_le h.k
  refine (putSymbols_walk B fb σ _ o W w (firstN o.m) hF hG.1 h.obj hWw hWB h.ty (okO_OkO h.k) hG.2 (by omega) (by omega) (by omega)).mono ?_
  rintro e w' ⟨rfl, σ', hW, hP, hK1, hK2⟩
  refine ⟨rfl, σ', hW, ?_⟩
  unfold GSt
  rw [if_neg (by decide), if_pos (by decide)]
  exact ⟨hP, hK2⟩
theorem st4 {B fb : Nat} {σ : FSt} {o : ObjV} {W w : World} (h : Inp W o) (hF : FileOk B w fb σ) (hG : GSt o.m 4 σ) :
    Calls Tryz.prog 58 #[.pointer (some ⟨fb, 0, none⟩), objW o] w fun e w' => e = .returned (.tuple #[]) ∧ ∃ σ', Went B fb σ w σ' w' ∧ GSt o.m 5 σ' := by
  unfold GSt at hG
  rw [if_neg (by decide), if_pos (by decide)] at hG
  obtain ⟨h1, h2⟩ := st3_len h.k
  have h5 : (stgP o.m 4).length ≤ 49 := by
    show (stgP o.m 3 ++ [symPt o.m (firstN o.m)]).length ≤ 49
    rw [List.length_append, List.length_singleton]
    omega
  have h3 := lay_small (ps := stgP o.m 4) (sm_app h2 (by intro p hp; rw [List.mem_singleton] at hp; subst hp; exact sm_sym h.k _)) (by omega)
  refine (putSymbolNames_walk B fb σ _ _ _ _ _ _ w rfl hF hG.1 (by omega) (by omega) (by rw [hG.2]; have := ytbl_le h.k; omega)).mono ?_
  rintro e w' ⟨rfl, σ', hW, hP, hK⟩
  refine ⟨rfl, σ', hW, ?_⟩
  unfold GSt
  rw [if_neg (by decide), if_pos (by decide)]
  refine ⟨?_, hK.2.2.trans hG.2⟩
  rw [hG.2] at hP
  exact hP
theorem st5 {B fb : Nat} {σ : FSt} {o : ObjV} {W w : World} (h : Inp W o) (hF : FileOk B w fb σ) (hG : GSt o.m 5 σ) :
    Calls Tryz.prog 59 #[.pointer (some ⟨fb, 0, none⟩), objW o] w fun e w' => e = .returned (.tuple #[]) ∧ ∃ σ', Went B fb σ w σ' w' ∧ GSt o.m 6 σ' := by
  unfold GSt at hG
  rw [if_neg (by decide), if_pos (by decide), stg_five] at hG
  have h1 := partsO_length o.m
  have h2 := first_le h.k
  have h3 := lay_small (sm_parts h.k) (by omega)
  refine (putHeadNames_walk B fb σ _ _ _ _ _ _ w rfl hF hG.1 (by omega) (by omega) (nmok_parts h.k)).mono ?_
  rintro e w' ⟨rfl, σ', hW, a, b, c⟩
  refine ⟨rfl, σ', hW, ?_⟩
  unfold GSt
  rw [if_neg (by decide), if_neg (by decide), if_pos rfl]
  exact ⟨a, b, c⟩
theorem st6 {B fb : Nat} {σ : FSt} {o : ObjV} {W w : World} (h : Inp W o) (hF : FileOk B w fb σ) (hG : GSt o.m 6 σ) :
    Calls Tryz.prog 60 #[.pointer (some ⟨fb, 0, none⟩), objW o] w fun e w' => e = .returned (.tuple #[]) ∧ ∃ σ', Went B fb σ w σ' w' ∧ GSt o.m 7 σ' := by
  unfold GSt at hG
  rw [if_neg (by decide), if_neg (by decide), if_pos rfl] at hG
  obtain ⟨g1, g2, g3⟩ := hG
  have h1 := partsO_length o.m
  have h2 := first_le h.k
  have hl : σ.hs.length = (partsO o.m).length + 2 := by rw [g2, List.length_cons, headsP_length]
  have hb := body_le h.k
  have hb2 := bodyL_ge (partsO o.m)
  refine (putHeads_walk B fb σ _ _ _ _ _ w rfl hF (by rw [g1]; exact hb2) (by rw [g1]; omega) (by omega) (by omega) (fun i hi => by rw [g2]; exact heads_ok h.k i (by omega))).mono ?_
  rintro e w' ⟨rfl, σ', hW, a, b⟩
  refine ⟨rfl, σ', hW, ?_⟩
  unfold GSt
  rw [if_neg (by decide), if_neg (by decide), if_neg (by decide)]
  refine ⟨?_, b.trans g3⟩
  rw [a, hl, g1, g2]
  exact file_eq o.m

theorem hmkF (w : World) : (Instr.makeSlice 35 (.int .i64 64) (.int .i64 64)).run Tryz.prog w = .ok (.slice (some ⟨w.heap.size, 0, none⟩) 64 64) (w.alloc (.cells (Array.replicate 64 (.int .u8 0)) 5)) := by kernel_rfl
/-- What stays while a file is begun. -/
abbrev SG (wa : World) (b : Nat) (v0 v2 v3 : Value) (x : World) : Prop := x.cell? ⟨b, 0, none⟩ = some v0 ∧ x.cell? ⟨b, 2, none⟩ = some v2 ∧ x.cell? ⟨b, 3, none⟩ = some v3 ∧ Kept wa x
theorem SG_kept {wa : World} {b : Nat} {v0 v2 v3 : Value} {x y : World} (h : SG wa b v0 v2 v3 x) (k : Kept x y) : SG wa b v0 v2 v3 y := ⟨k.cell h.1, k.cell h.2.1, k.cell h.2.2.1, h.2.2.2.trans k⟩
theorem SG_alloc {wa : World} {b : Nat} {v0 v2 v3 : Value} {x : World} (h : SG wa b v0 v2 v3 x) (o : Obj) : SG wa b v0 v2 v3 (x.alloc o) := SG_kept h (Kept.alloc _ _)
theorem ownB_at {x : World} {g B : Nat} (hg : x.heap.size = g) (h : B ≤ g) : Own (x.alloc (.cells (Array.replicate 64 (.int .u8 0)) 5)) B (.slice (some ⟨g, 0, none⟩) 64 64) (List.replicate 64 0) := by
  subst hg
  exact ⟨rfl, .inr ⟨x.heap.size, 64, _, rfl, h, heap_alloc_new x _, Nat.le_refl _, by decide, by simp, by simp⟩⟩
theorem ownH_at {x : World} {g B : Nat} (hg : x.heap.size = g) (h : B ≤ g) : OwnH (x.alloc (headO 0 0 0 0 0 0 0 0 0 0)) B (.slice (some ⟨g, 0, none⟩) 1 1) [List.replicate 10 0] := by
  subst hg
  exact ⟨rfl, .inr ⟨x.heap.size, 1, _, rfl, h, heap_alloc_new x _, Nat.le_refl _, by decide, rfl, rfl⟩⟩
theorem ownN_at {x : World} {g B : Nat} (hg : x.heap.size = g) (h : B ≤ g) : OwnS (x.alloc (.cells #[.string ⟨#[]⟩] 9)) B (.slice (some ⟨g, 0, none⟩) 1 1) [⟨#[]⟩] := by
  subst hg
  exact ⟨rfl, .inr ⟨x.heap.size, 1, _, rfl, h, heap_alloc_new x _, Nat.le_refl _, by decide, rfl, rfl⟩⟩
/-- A file is begun. -/
theorem file_at {B : Nat} {x : World} {gb gh gn fb : Nat} {sy : Int} (hf : x.heap.size = fb) (hb : Own x B (.slice (some ⟨gb, 0, none⟩) 64 64) (List.replicate 64 0)) (hh : OwnH x B (.slice (some ⟨gh, 0, none⟩) 1 1) [List.replicate 10 0]) (hn : OwnS x B (.slice (some ⟨gn, 0, none⟩) 1 1) [⟨#[]⟩])
    (d1 : gb ≠ gh) (d2 : gb ≠ gn) (d3 : gh ≠ gn) (hB : B ≤ fb) :
    FileOk B (x.alloc (.cells #[.slice (some ⟨gb, 0, none⟩) 64 64, .slice (some ⟨gh, 0, none⟩) 1 1, .slice (some ⟨gn, 0, none⟩) 1 1, .int .i64 sy, .slice none 0 0, .int .i64 0] 61)) fb
      ⟨gb, 64, gh, 1, gn, 1, .slice none 0 0, List.replicate 64 0, [List.replicate 10 0], [⟨#[]⟩], sy, [], 0⟩ := by
  subst hf
  have lb := (hb.lt _ rfl).2
  have lh := (hh.lt _ rfl).2
  have ln := (hn.lt _ rfl).2
  refine ⟨by simp, by simp, by simp, by simp, by simp, by simp, by simp, by simp, by simp, by simp, by simp, by simp, World.ownsRow.alloc hb _, World.ownsRow.alloc hh _, World.ownsRow.alloc hn _, Own.nil _ _, ?_, ⟨fun e => ?_, d1, d2, by simp [Value.ownBlock]⟩, ⟨fun e => ?_, d3, by simp [Value.ownBlock]⟩, ⟨fun e => ?_, by simp [Value.ownBlock]⟩, by simp [Value.ownBlock], hB⟩
  · intro v hv
    rw [List.mem_singleton] at hv
    subst hv
    rfl
  · exact absurd e (Nat.ne_of_lt lb)
  · exact absurd e (Nat.ne_of_lt lh)
  · exact absurd e (Nat.ne_of_lt ln)
theorem gst_new (M : ObjM) {gb gh gn : Nat} {sy : Int} (h : sy = (firstN M : Int)) : GSt M 0 ⟨gb, 64, gh, 1, gn, 1, .slice none 0 0, List.replicate 64 0, [List.replicate 10 0], [⟨#[]⟩], sy, [], 0⟩ := by
  unfold GSt
  rw [if_pos (by decide)]
  exact ⟨⟨rfl, rfl, rfl, rfl⟩, h⟩
set_option maxRecDepth 20000 in
set_option maxHeartbeats 6400000 in
theorem gather_walk (o : ObjV) (w : World) (h : Inp w o) :
    Calls Tryz.prog 25 #[objW o] w fun e w' => ∃ fb B σ, e = .returned (.pointer (some ⟨fb, 0, none⟩)) ∧ w.heap.size ≤ B ∧ FileOk B w' fb σ ∧ GSt o.m 7 σ ∧ Kept w w' := by
  have hsn := h.sn
  have hgn := h.gn
  have hrn := h.rn
  have hM : ∀ w', Kept w w' → Calls Tryz.prog 53 #[.slice o.ra o.rn o.rc] w' fun e w2 => e = .returned (.int .i64 ((rlK o.m 0 o.rn).length : Int)) ∧ Kept w' w2 := fun w' hk =>
    many_walk o.m o.ra o.rn o.rc o.rs w' h.obj.hr (h.obj.r.kept hk) hrn h.k.sn (show o.m.rs = o.rs from rfl) (fun j hj => by
      have := (h.rel hj).2
      rwa [show o.m.ss.length = o.sn from by show (o.ss.map sctOf).length = _; rw [List.length_map]; exact h.obj.hs]) h.ro
  have HI : Hid (Inp w o) := h
  have HFN : Hid (1 + o.sn + o.gn + (rlK o.m 0 o.rn).length = firstN o.m) := by
    unfold Hid firstN
    have e1 : o.rn = o.m.rs.length := h.obj.hr.symm
    have e2 : o.m.ss.length = o.sn := by show (o.ss.map sctOf).length = _; rw [List.length_map]; exact h.obj.hs
    have e3 : o.m.gs.length = o.gn := by show (o.gs.map grpOfV).length = _; rw [List.length_map]; exact h.obj.hg
    rw [e1, rlK_all, relPs_length, e2, e3]
  obtain ⟨r, hr⟩ : ∃ r, (rlK o.m 0 o.rn).length = r := ⟨_, rfl⟩
  have hr16 : r ≤ 16 := by
    rw [← hr]
    have := rlK_length_le o.m 0 o.rn
    have := h.k.sn
    omega
  rw [hr] at hM HFN
  obtain ⟨M, hM0⟩ : ∃ M, o.m = M := ⟨_, rfl⟩
  rw [hM0] at HFN ⊢
  have HMM : Hid (o.m = M) := hM0
  clear h hr hM0
  obtain ⟨ss, sa, sn, sc, ys, ya, yn, yc, rs, ra, rn, rc, gs, ga, gn, gc⟩ := o
  dsimp only at hM HFN hsn hgn
  obtain ⟨wa, hwa, B1, kA, sA⟩ := box_obj w (.slice sa sn sc) (.slice ya yn yc) (.slice ra rn rc) (.slice ga gn gc)
  have c0 := B1.c0
  have c2 := B1.c2
  have c3 := B1.c3
  go_enter Tryz.func25, Tryz.ntmps25
  go_upto_region 1 with fail
  have A0 : SG wa w.heap.size (.slice sa sn sc) (.slice ra rn rc) (.slice ga gn gc) wa := ⟨c0, c2, c3, Kept.refl _⟩
  have A1 := SG_kept A0 (kept_drew wa)
  have hr1 : Go.RowKit.wrap64 ((1 : Int) + (sn : Int)) = 1 + sn := w64 (by omega) (by omega)
  have hr2 : Go.RowKit.wrap64 ((1 : Int) + (sn : Int) + (gn : Int)) = 1 + sn + gn := w64 (by omega) (by omega)
  have hr3 : Go.RowKit.wrap64 ((1 : Int) + (sn : Int) + (gn : Int) + (r : Int)) = 1 + sn + gn + r := w64 (by omega) (by omega)
  have hq1 : IntKind.i64.wrap ((1 : Int) + (sn : Int)) = 1 + sn := w64i (by omega) (by omega)
  have hq2 : IntKind.i64.wrap ((1 : Int) + (sn : Int) + (gn : Int)) = 1 + sn + gn := w64i (by omega) (by omega)
  have hq3 : IntKind.i64.wrap ((1 : Int) + (sn : Int) + (gn : Int) + (r : Int)) = 1 + sn + gn + r := w64i (by omega) (by omega)
  have HW : Hid (Kept w wa) := kA
  have hmk := hmkF
  clear hwa kA sA c0 c2 c3
  go_cut [3] (fun f wx => ∃ fb σ, f = .pointer (some ⟨fb, 0, none⟩) ∧ FileOk wa.heap.size wx fb σ ∧ GSt M 0 σ ∧ Kept wa wx)
  case first =>
    go_region_held3 (fun x : World => x.cell? ⟨w.heap.size, 0, none⟩ = some (.slice sa sn sc) ∧ x.cell? ⟨w.heap.size, 2, none⟩ = some (.slice ra rn rc) ∧ x.cell? ⟨w.heap.size, 3, none⟩ = some (.slice ga gn gc) ∧ Kept wa x)
      (repeat (first | with_reducible exact A0 | with_reducible (refine SG_alloc ?_ _) | with_reducible (refine SG_kept ?_ (kept_drew _)) | with_reducible (refine SG_kept ?_ (by assumption))))
      ((go_at_call 53; refine (hM _ (HW.out.trans (show SG wa w.heap.size (.slice sa sn sc) (.slice ra rn rc) (.slice ga gn gc) _ from by (repeat (first | with_reducible exact A0 | with_reducible (refine SG_alloc ?_ _) | with_reducible (refine SG_kept ?_ (kept_drew _))))).2.2.2)).mono ?_; rintro e w2 ⟨rfl, k2⟩))
    all_goals
      go_wp2
      go_meet
      have hz := k2.size
      simp at hz
      refine ⟨_, _, rfl, file_at (by simp) ?_ ?_ ?_ (by omega) (by omega) (by omega) (by omega), gst_new M (by have := HFN.out; omega), ?_⟩
      · repeat (first | with_reducible exact ownB_at (by simp) (by omega) | with_reducible (refine World.ownsRow.alloc ?_ _) | with_reducible (refine row_kept ?_ (kept_drew _)) | with_reducible (refine row_kept ?_ k2))
      · repeat (first | with_reducible exact ownH_at (by simp) (by omega) | with_reducible (refine World.ownsRow.alloc ?_ _) | with_reducible (refine row_kept ?_ (kept_drew _)) | with_reducible (refine row_kept ?_ k2))
      · repeat (first | with_reducible exact ownN_at (by simp) (by omega) | with_reducible (refine World.ownsRow.alloc ?_ _) | with_reducible (refine row_kept ?_ (kept_drew _)) | with_reducible (refine row_kept ?_ k2))
      · repeat (first | with_reducible exact Kept.refl _ | with_reducible (refine Kept.trans ?_ (Kept.alloc _ _)) | with_reducible (refine Kept.trans ?_ (kept_drew _)) | with_reducible (refine Kept.trans ?_ k2))
  case rest =>
    obtain ⟨fb, σ, rfl, ok, hG, kW⟩ := hcut
    have hWa : w.heap.size ≤ wa.heap.size := HW.out.size
    have hwlt : w.heap.size < wa.heap.size := B1.lt
    clear A0 A1 hM hmk hr1 hr2 hr3 hq1 hq2 hq3
    have B2 := B1.kept kW
    obtain ⟨gt, hgt⟩ : ∃ gt, wc.heap.size = gt := ⟨_, rfl⟩
    have hngt : ¬ FS fb σ gt := fun e => by have := (ok.lt _ e).2; omega
    have hnb : ¬ FS fb σ w.heap.size := fun e => by have := (ok.lt _ e).1; omega
    go_wp2
    have kT := Kept.alloc wc (.cells #[.func (.func 54) #[] #[], .func (.func 55) #[] #[], .func (.func 56) #[] #[], .func (.func 57) #[] #[], .func (.func 58) #[] #[], .func (.func 59) #[] #[], .func (.func 60) #[] #[]] 94)
    have t0 : (wc.alloc (.cells #[.func (.func 54) #[] #[], .func (.func 55) #[] #[], .func (.func 56) #[] #[], .func (.func 57) #[] #[], .func (.func 58) #[] #[], .func (.func 59) #[] #[], .func (.func 60) #[] #[]] 94)).cell? ⟨gt, 0, none⟩ = some (.func (.func 54) #[] #[]) := by rw [← hgt]; simp
    have t1 : (wc.alloc (.cells #[.func (.func 54) #[] #[], .func (.func 55) #[] #[], .func (.func 56) #[] #[], .func (.func 57) #[] #[], .func (.func 58) #[] #[], .func (.func 59) #[] #[], .func (.func 60) #[] #[]] 94)).cell? ⟨gt, 1, none⟩ = some (.func (.func 55) #[] #[]) := by rw [← hgt]; simp
    have t2 : (wc.alloc (.cells #[.func (.func 54) #[] #[], .func (.func 55) #[] #[], .func (.func 56) #[] #[], .func (.func 57) #[] #[], .func (.func 58) #[] #[], .func (.func 59) #[] #[], .func (.func 60) #[] #[]] 94)).cell? ⟨gt, 2, none⟩ = some (.func (.func 56) #[] #[]) := by rw [← hgt]; simp
    have t3 : (wc.alloc (.cells #[.func (.func 54) #[] #[], .func (.func 55) #[] #[], .func (.func 56) #[] #[], .func (.func 57) #[] #[], .func (.func 58) #[] #[], .func (.func 59) #[] #[], .func (.func 60) #[] #[]] 94)).cell? ⟨gt, 3, none⟩ = some (.func (.func 57) #[] #[]) := by rw [← hgt]; simp
    have t4 : (wc.alloc (.cells #[.func (.func 54) #[] #[], .func (.func 55) #[] #[], .func (.func 56) #[] #[], .func (.func 57) #[] #[], .func (.func 58) #[] #[], .func (.func 59) #[] #[], .func (.func 60) #[] #[]] 94)).cell? ⟨gt, 4, none⟩ = some (.func (.func 58) #[] #[]) := by rw [← hgt]; simp
    have t5 : (wc.alloc (.cells #[.func (.func 54) #[] #[], .func (.func 55) #[] #[], .func (.func 56) #[] #[], .func (.func 57) #[] #[], .func (.func 58) #[] #[], .func (.func 59) #[] #[], .func (.func 60) #[] #[]] 94)).cell? ⟨gt, 5, none⟩ = some (.func (.func 59) #[] #[]) := by rw [← hgt]; simp
    have t6 : (wc.alloc (.cells #[.func (.func 54) #[] #[], .func (.func 55) #[] #[], .func (.func 56) #[] #[], .func (.func 57) #[] #[], .func (.func 58) #[] #[], .func (.func 59) #[] #[], .func (.func 60) #[] #[]] 94)).cell? ⟨gt, 6, none⟩ = some (.func (.func 60) #[] #[]) := by rw [← hgt]; simp
    generalize wc.alloc _ = w3 at *
    have ok3 := ok.kept kT
    have B3 := B2.kept kT
    have k3 := HW.out.trans (kW.trans kT)
    have ltT : gt < w3.heap.size := block_lt_of_cell t0
    have S0 : ∀ (τ : FSt) (x : World), FileOk wa.heap.size x fb τ → GSt M 0 τ → Kept w x → Calls Tryz.prog 54 #[.pointer (some ⟨fb, 0, none⟩), .agg #[.slice sa sn sc, .slice ya yn yc, .slice ra rn rc, .slice ga gn gc]] x fun e w' => e = .returned (.tuple #[]) ∧ ∃ σ', Went wa.heap.size fb τ x σ' w' ∧ GSt M 1 σ' := by
      intro τ x hf hg hk
      rw [← HMM.out] at hg ⊢
      exact st0 HI.out hf hg hk hWa
    have S1 : ∀ (τ : FSt) (x : World), FileOk wa.heap.size x fb τ → GSt M 1 τ → Kept w x → Calls Tryz.prog 55 #[.pointer (some ⟨fb, 0, none⟩), .agg #[.slice sa sn sc, .slice ya yn yc, .slice ra rn rc, .slice ga gn gc]] x fun e w' => e = .returned (.tuple #[]) ∧ ∃ σ', Went wa.heap.size fb τ x σ' w' ∧ GSt M 2 σ' := by
      intro τ x hf hg hk
      rw [← HMM.out] at hg ⊢
      exact st1 HI.out hf hg hk hWa
    have S2 : ∀ (τ : FSt) (x : World), FileOk wa.heap.size x fb τ → GSt M 2 τ → Kept w x → Calls Tryz.prog 56 #[.pointer (some ⟨fb, 0, none⟩), .agg #[.slice sa sn sc, .slice ya yn yc, .slice ra rn rc, .slice ga gn gc]] x fun e w' => e = .returned (.tuple #[]) ∧ ∃ σ', Went wa.heap.size fb τ x σ' w' ∧ GSt M 3 σ' := by
      intro τ x hf hg hk
      rw [← HMM.out] at hg ⊢
      exact st2 HI.out hf hg hk hWa
    have S3 : ∀ (τ : FSt) (x : World), FileOk wa.heap.size x fb τ → GSt M 3 τ → Kept w x → Calls Tryz.prog 57 #[.pointer (some ⟨fb, 0, none⟩), .agg #[.slice sa sn sc, .slice ya yn yc, .slice ra rn rc, .slice ga gn gc]] x fun e w' => e = .returned (.tuple #[]) ∧ ∃ σ', Went wa.heap.size fb τ x σ' w' ∧ GSt M 4 σ' := by
      intro τ x hf hg hk
      rw [← HMM.out] at hg ⊢
      exact st3 HI.out hf hg hk hWa
    have S4 : ∀ (τ : FSt) (x : World), FileOk wa.heap.size x fb τ → GSt M 4 τ → Calls Tryz.prog 58 #[.pointer (some ⟨fb, 0, none⟩), .agg #[.slice sa sn sc, .slice ya yn yc, .slice ra rn rc, .slice ga gn gc]] x fun e w' => e = .returned (.tuple #[]) ∧ ∃ σ', Went wa.heap.size fb τ x σ' w' ∧ GSt M 5 σ' := by
      intro τ x hf hg 
      rw [← HMM.out] at hg ⊢
      exact st4 HI.out hf hg
    have S5 : ∀ (τ : FSt) (x : World), FileOk wa.heap.size x fb τ → GSt M 5 τ → Calls Tryz.prog 59 #[.pointer (some ⟨fb, 0, none⟩), .agg #[.slice sa sn sc, .slice ya yn yc, .slice ra rn rc, .slice ga gn gc]] x fun e w' => e = .returned (.tuple #[]) ∧ ∃ σ', Went wa.heap.size fb τ x σ' w' ∧ GSt M 6 σ' := by
      intro τ x hf hg 
      rw [← HMM.out] at hg ⊢
      exact st5 HI.out hf hg
    have S6 : ∀ (τ : FSt) (x : World), FileOk wa.heap.size x fb τ → GSt M 6 τ → Calls Tryz.prog 60 #[.pointer (some ⟨fb, 0, none⟩), .agg #[.slice sa sn sc, .slice ya yn yc, .slice ra rn rc, .slice ga gn gc]] x fun e w' => e = .returned (.tuple #[]) ∧ ∃ σ', Went wa.heap.size fb τ x σ' w' ∧ GSt M 7 σ' := by
      intro τ x hf hg 
      rw [← HMM.out] at hg ⊢
      exact st6 HI.out hf hg
    clear B1 B2 ok kW kT hgt
    go_loopw [26] (fun i wr => ∃ (k : Nat) (τ : FSt), k ≤ 7 ∧ i = .int .i64 k ∧ Went wa.heap.size fb σ w3 τ wr ∧ GSt M k τ) (fun i _ => 7 - (intOf i).toNat)
    case atStart => exact ⟨0, σ, by omega, rfl, Went.refl ok3, hG⟩
    case round =>
      obtain ⟨k, τ, hk, rfl, hWk, hGk⟩ := hrel
      have hKw : Kept w wr := Below.trans k3 ((hWk.below ok3).mono hWa)
      obtain ⟨d0, d1, d2, d3⟩ : wr.cell? ⟨w.heap.size, 0, none⟩ = some (.slice sa sn sc) ∧ wr.cell? ⟨w.heap.size, 1, none⟩ = some (.slice ya yn yc) ∧ wr.cell? ⟨w.heap.size, 2, none⟩ = some (.slice ra rn rc) ∧ wr.cell? ⟨w.heap.size, 3, none⟩ = some (.slice ga gn gc) :=
        ⟨hWk.turn.cell B3.c0 hnb, hWk.turn.cell B3.c1 hnb, hWk.turn.cell B3.c2 hnb, hWk.turn.cell B3.c3 hnb⟩
      by_cases hlt : k < 7
      · rcases (show k = 0 ∨ k = 1 ∨ k = 2 ∨ k = 3 ∨ k = 4 ∨ k = 5 ∨ k = 6 by omega) with rfl | rfl | rfl | rfl | rfl | rfl | rfl
        · have x0 := hWk.turn.cell t0 hngt
          have hC := S0 τ wr hWk.ok hGk hKw
          clear S0 S1 S2 S3 S4 S5 S6
          go_wp2_with (go_at_call 54; refine hC.mono ?_; rintro e w9 ⟨rfl, σ9, hW9, hG9⟩)
          go_roundw
          case rel => exact ⟨1, σ9, by omega, by go_num, hWk.trans hW9, hG9⟩
          case measure => simp [intOf]
        · have x0 := hWk.turn.cell t1 hngt
          have hC := S1 τ wr hWk.ok hGk hKw
          clear S0 S1 S2 S3 S4 S5 S6
          go_wp2_with (go_at_call 55; refine hC.mono ?_; rintro e w9 ⟨rfl, σ9, hW9, hG9⟩)
          go_roundw
          case rel => exact ⟨2, σ9, by omega, by go_num, hWk.trans hW9, hG9⟩
          case measure => simp [intOf]
        · have x0 := hWk.turn.cell t2 hngt
          have hC := S2 τ wr hWk.ok hGk hKw
          clear S0 S1 S2 S3 S4 S5 S6
          go_wp2_with (go_at_call 56; refine hC.mono ?_; rintro e w9 ⟨rfl, σ9, hW9, hG9⟩)
          go_roundw
          case rel => exact ⟨3, σ9, by omega, by go_num, hWk.trans hW9, hG9⟩
          case measure => simp [intOf]
        · have x0 := hWk.turn.cell t3 hngt
          have hC := S3 τ wr hWk.ok hGk hKw
          clear S0 S1 S2 S3 S4 S5 S6
          go_wp2_with (go_at_call 57; refine hC.mono ?_; rintro e w9 ⟨rfl, σ9, hW9, hG9⟩)
          go_roundw
          case rel => exact ⟨4, σ9, by omega, by go_num, hWk.trans hW9, hG9⟩
          case measure => simp [intOf]
        · have x0 := hWk.turn.cell t4 hngt
          have hC := S4 τ wr hWk.ok hGk 
          clear S0 S1 S2 S3 S4 S5 S6
          go_wp2_with (go_at_call 58; refine hC.mono ?_; rintro e w9 ⟨rfl, σ9, hW9, hG9⟩)
          go_roundw
          case rel => exact ⟨5, σ9, by omega, by go_num, hWk.trans hW9, hG9⟩
          case measure => simp [intOf]
        · have x0 := hWk.turn.cell t5 hngt
          have hC := S5 τ wr hWk.ok hGk 
          clear S0 S1 S2 S3 S4 S5 S6
          go_wp2_with (go_at_call 59; refine hC.mono ?_; rintro e w9 ⟨rfl, σ9, hW9, hG9⟩)
          go_roundw
          case rel => exact ⟨6, σ9, by omega, by go_num, hWk.trans hW9, hG9⟩
          case measure => simp [intOf]
        · have x0 := hWk.turn.cell t6 hngt
          have hC := S6 τ wr hWk.ok hGk 
          clear S0 S1 S2 S3 S4 S5 S6
          go_wp2_with (go_at_call 60; refine hC.mono ?_; rintro e w9 ⟨rfl, σ9, hW9, hG9⟩)
          go_roundw
          case rel => exact ⟨7, σ9, by omega, by go_num, hWk.trans hW9, hG9⟩
          case measure => simp [intOf]
      · obtain rfl : k = 7 := by omega
        clear S0 S1 S2 S3 S4 S5 S6
        go_wp2
        go_ret
        exact ⟨fb, _, τ, rfl, hWa, hWk.ok, hGk, hKw⟩
end Go.Proofs.YtljmgbpecoifnaaGreatDoor
