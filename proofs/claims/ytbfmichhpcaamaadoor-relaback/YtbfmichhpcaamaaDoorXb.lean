/- The table of sizes; a relocation that lies in a block; a slice of sections. -/
import Derived.Test.YtbfmichhpcaamaaDoorSb
import Derived.Test.YtbfmichhpcaamaaDoorXm
import Derived.OpenShut
import Derived.ShutString
import Derived.ChangeSlices
namespace Go.Proofs.YtbfmichhpcaamaaDoor
open Go.RowKit Go.ChangeShapes Go.WideShapes

/-- The sizes, in their order. -/
def sizeTabX : List Int := [8, 4, 4, 8]
theorem gSizesX : Tryd.prog.globalNamed "quoin/rela.sizes" = some 0 := by kernel_rfl
theorem gSizesTypeX : (Tryd.prog.globals[0]?).map (·.type) = some 54 := by kernel_rfl
theorem cellsSizesX : Tryd.prog.cellsOf 54 = 4 := by kernel_rfl
/-- The world holds the sizes. -/
def TabX (w : World) : Prop := ∀ i, i < 4 → w.cell? ⟨0, i, none⟩ = some (.int .i64 ((relS.getD i 0 : Nat) : Int))
theorem TabX.kept {w w' : World} (h : TabX w) (k : Kept w w') : TabX w' := fun i hi => k.cell (h i hi)
theorem tabX_of_laid {W : World} (h : laidMetH Tryd.prog [("quoin/rela.sizes", Rows.laid_quoin_rela_sizes)] W) : TabX W := by
  have h' : laidMet Tryd.prog [("quoin/rela.sizes", intData .i64 sizeTabX)] W := h
  intro i hi
  have := ints_of_head gSizesX gSizesTypeX Tryd.underlying54 Tryd.underlying3 cellsOneInt cellsSizesX h' i (by simpa [sizeTabX] using hi)
  rw [this]
  match i, hi with
  | 0, _ => rfl
  | 1, _ => rfl
  | 2, _ => rfl
  | 3, _ => rfl
theorem TabX.all {w : World} (h : TabX w) : w.cell? ⟨0, 0, none⟩ = some (.int .i64 8) ∧ w.cell? ⟨0, 1, none⟩ = some (.int .i64 4) ∧ w.cell? ⟨0, 2, none⟩ = some (.int .i64 4) ∧ w.cell? ⟨0, 3, none⟩ = some (.int .i64 8) :=
  ⟨h 0 (by decide), h 1 (by decide), h 2 (by decide), h 3 (by decide)⟩
theorem TabX.grown {w w' : World} {g : Nat} (h : TabX w) (hg : w.grownBy w' (some g)) (hb : 0 ≠ g) : TabX w' := fun i hi => grown_cell hg (h i hi) hb
theorem TabX.lt {w : World} (h : TabX w) : 0 < w.heap.size := block_lt_of_cell (h 0 (by decide))

abbrev relW (sec off ty sy ad : Int) : Value := .agg #[.int .i64 sec, .int .i64 off, .int .u8 ty, .int .i64 sy, .int .i64 ad]
abbrev relO (sec off ty sy ad : Int) : Obj := .cells #[.int .i64 sec, .int .i64 off, .int .u8 ty, .int .i64 sy, .int .i64 ad] 27
/-- A relocation that lies in a block. -/
structure XBx (w : World) (b : Nat) (sec off ty sy ad : Int) : Prop where
  c0 : w.cell? ⟨b, 0, none⟩ = some (.int .i64 sec)
  c1 : w.cell? ⟨b, 1, none⟩ = some (.int .i64 off)
  c2 : w.cell? ⟨b, 2, none⟩ = some (.int .u8 ty)
  c3 : w.cell? ⟨b, 3, none⟩ = some (.int .i64 sy)
  c4 : w.cell? ⟨b, 4, none⟩ = some (.int .i64 ad)
  f0 : w.frozen? ⟨b, 0, none⟩ = false
  f1 : w.frozen? ⟨b, 1, none⟩ = false
  f2 : w.frozen? ⟨b, 2, none⟩ = false
  f3 : w.frozen? ⟨b, 3, none⟩ = false
  f4 : w.frozen? ⟨b, 4, none⟩ = false
theorem XBx.lt {w : World} {b : Nat} {sec off ty sy ad : Int} (h : XBx w b sec off ty sy ad) : b < w.heap.size := block_lt_of_cell h.c0
theorem XBx.below {n : Nat} {w w' : World} {b : Nat} {sec off ty sy ad : Int} (h : XBx w b sec off ty sy ad) (k : Below n w w') (hb : b < n) : XBx w' b sec off ty sy ad :=
  ⟨(k.cell hb).trans h.c0, (k.cell hb).trans h.c1, (k.cell hb).trans h.c2, (k.cell hb).trans h.c3, (k.cell hb).trans h.c4, (k.frozen hb).trans h.f0, (k.frozen hb).trans h.f1, (k.frozen hb).trans h.f2, (k.frozen hb).trans h.f3, (k.frozen hb).trans h.f4⟩
theorem XBx.kept {w w' : World} {b : Nat} {sec off ty sy ad : Int} (h : XBx w b sec off ty sy ad) (k : Kept w w') : XBx w' b sec off ty sy ad := h.below k h.lt
theorem XBx.set0 {w : World} {b : Nat} {sec off ty sy ad : Int} (h : XBx w b sec off ty sy ad) (u : Int) : XBx (w.setCell ⟨b, 0, none⟩ (.int .i64 u)) b u off ty sy ad :=
  ⟨World.cell?_setCell_same _ _ _ h.c0, set_other h.c1 (by decide), set_other h.c2 (by decide), set_other h.c3 (by decide), set_other h.c4 (by decide), set_frozen h.f0, set_frozen h.f1, set_frozen h.f2, set_frozen h.f3, set_frozen h.f4⟩
theorem XBx.set1 {w : World} {b : Nat} {sec off ty sy ad : Int} (h : XBx w b sec off ty sy ad) (u : Int) : XBx (w.setCell ⟨b, 1, none⟩ (.int .i64 u)) b sec u ty sy ad :=
  ⟨set_other h.c0 (by decide), World.cell?_setCell_same _ _ _ h.c1, set_other h.c2 (by decide), set_other h.c3 (by decide), set_other h.c4 (by decide), set_frozen h.f0, set_frozen h.f1, set_frozen h.f2, set_frozen h.f3, set_frozen h.f4⟩
theorem XBx.set2 {w : World} {b : Nat} {sec off ty sy ad : Int} (h : XBx w b sec off ty sy ad) (u : Int) : XBx (w.setCell ⟨b, 2, none⟩ (.int .u8 u)) b sec off u sy ad :=
  ⟨set_other h.c0 (by decide), set_other h.c1 (by decide), World.cell?_setCell_same _ _ _ h.c2, set_other h.c3 (by decide), set_other h.c4 (by decide), set_frozen h.f0, set_frozen h.f1, set_frozen h.f2, set_frozen h.f3, set_frozen h.f4⟩
theorem XBx.set3 {w : World} {b : Nat} {sec off ty sy ad : Int} (h : XBx w b sec off ty sy ad) (u : Int) : XBx (w.setCell ⟨b, 3, none⟩ (.int .i64 u)) b sec off ty u ad :=
  ⟨set_other h.c0 (by decide), set_other h.c1 (by decide), set_other h.c2 (by decide), World.cell?_setCell_same _ _ _ h.c3, set_other h.c4 (by decide), set_frozen h.f0, set_frozen h.f1, set_frozen h.f2, set_frozen h.f3, set_frozen h.f4⟩
theorem XBx.set4 {w : World} {b : Nat} {sec off ty sy ad : Int} (h : XBx w b sec off ty sy ad) (u : Int) : XBx (w.setCell ⟨b, 4, none⟩ (.int .i64 u)) b sec off ty sy u :=
  ⟨set_other h.c0 (by decide), set_other h.c1 (by decide), set_other h.c2 (by decide), set_other h.c3 (by decide), World.cell?_setCell_same _ _ _ h.c4, set_frozen h.f0, set_frozen h.f1, set_frozen h.f2, set_frozen h.f3, set_frozen h.f4⟩
theorem XBx.far {w : World} {b : Nat} {sec off ty sy ad : Int} (h : XBx w b sec off ty sy ad) (b' i : Nat) (u : Value) (hb : b' ≠ b) : XBx (w.setCell ⟨b', i, none⟩ u) b sec off ty sy ad :=
  ⟨set_far h.c0 hb, set_far h.c1 hb, set_far h.c2 hb, set_far h.c3 hb, set_far h.c4 hb, set_frozen h.f0, set_frozen h.f1, set_frozen h.f2, set_frozen h.f3, set_frozen h.f4⟩
theorem XBx.new (w : World) (sec off ty sy ad : Int) : XBx (w.alloc (relO sec off ty sy ad)) w.heap.size sec off ty sy ad := by
  constructor <;> simp
/-- The five cells of a relocation, put one after another. -/
abbrev putX (w : World) (b : Nat) (sec off ty sy ad : Int) : World :=
  ((((w.setCell ⟨b, 0, none⟩ (.int .i64 sec)).setCell ⟨b, 1, none⟩ (.int .i64 off)).setCell ⟨b, 2, none⟩ (.int .u8 ty)).setCell ⟨b, 3, none⟩ (.int .i64 sy)).setCell ⟨b, 4, none⟩ (.int .i64 ad)
theorem XBx.put {w : World} {b : Nat} {sec off ty sy ad : Int} (h : XBx w b sec off ty sy ad) (sec' off' ty' sy' ad' : Int) : XBx (putX w b sec' off' ty' sy' ad') b sec' off' ty' sy' ad' :=
  ((((h.set0 _).set1 _).set2 _).set3 _).set4 _
theorem below_putX {w : World} {b B : Nat} {a : World} (h : Below B a w) (hp : B ≤ b) (sec off ty sy ad : Int) : Below B a (putX w b sec off ty sy ad) :=
  ((((h.setCell hp _).setCell hp _).setCell hp _).setCell hp _).setCell hp _

/-! ### A slice of sections -/
abbrev secW (v : SecV) : Value := .agg #[.string v.s, .int .i64 v.al, .slice v.a v.z.length v.cap, .int .i64 v.sz]
/-- What is known of a section that came in. -/
structure SecOk (w : World) (v : SecV) : Prop where
  size : v.s.size ≤ maxLen
  len : v.z.length ≤ v.cap
  cap : v.z.length ≤ maxLen
  byt : Byt w v.a v.z
  a0 : v.a = none → v.z.length = 0 ∧ v.cap = 0
  al0 : -9223372036854775808 ≤ v.al
  al1 : v.al ≤ 9223372036854775807
  sz0 : -9223372036854775808 ≤ v.sz
  sz1 : v.sz ≤ 9223372036854775807
  rng : ∀ x ∈ v.z, 0 ≤ x ∧ x < 256
theorem SecOk.kept {w w' : World} {v : SecV} (h : SecOk w v) (k : Kept w w') : SecOk w' v := ⟨h.size, h.len, h.cap, h.byt.kept k, h.a0, h.al0, h.al1, h.sz0, h.sz1, h.rng⟩
/-- A section's four cells, from there on. -/
structure SecAt (w : World) (b o : Nat) (v : SecV) : Prop where
  c0 : w.cell? ⟨b, o, none⟩ = some (.string v.s)
  c1 : w.cell? ⟨b, o + 1, none⟩ = some (.int .i64 v.al)
  c2 : w.cell? ⟨b, o + 2, none⟩ = some (.slice v.a v.z.length v.cap)
  c3 : w.cell? ⟨b, o + 3, none⟩ = some (.int .i64 v.sz)
  ok : SecOk w v
theorem SecAt.kept {w w' : World} {b o : Nat} {v : SecV} (h : SecAt w b o v) (k : Kept w w') : SecAt w' b o v := ⟨k.cell h.c0, k.cell h.c1, k.cell h.c2, k.cell h.c3, h.ok.kept k⟩
/-- Sections that lie one behind the other. -/
def Secs (w : World) (a : Option Addr) (l : List SecV) : Prop := l = [] ∨ ∃ b off, a = some ⟨b, off, none⟩ ∧ ∀ i, i < l.length → SecAt w b (off + i * 4) (l.getD i secNo)
theorem Secs.kept {w w' : World} {a : Option Addr} {l : List SecV} (h : Secs w a l) (k : Kept w w') : Secs w' a l := by
  rcases h with h | ⟨b, off, h, hc⟩
  · exact .inl h
  · exact .inr ⟨b, off, h, fun i hi => (hc i hi).kept k⟩
theorem Secs.at {w : World} {a : Option Addr} {l : List SecV} (h : Secs w a l) {k : Nat} (hk : k < l.length) : ∃ b off, a = some ⟨b, off, none⟩ ∧ SecAt w b (off + k * 4) (l.getD k secNo) := by
  rcases h with rfl | ⟨b, off, h, hc⟩
  · simp at hk
  · exact ⟨b, off, h, hc k hk⟩

theorem trod_sect {H : Type} {enc : TypeId × Value → H} {w : World} {base : Nat} {held : Bool} {fuel : Nat} {cs : List Value} {x : DataW H × List MemPlace}
    (hf : DataW.trod enc Tryd.prog w base (fun _ => true) held fuel 47 cs = some x) :
    ∃ v : SecV, cs = [.string v.s, .int .i64 v.al, .slice v.a v.z.length v.cap, .int .i64 v.sz] ∧ SecOk w v := by
  have hcS : Tryd.prog.cellsOf 47 = 4 := by kernel_rfl
  have hc9 : Tryd.prog.cellsOf 9 = 1 := by kernel_rfl
  have hc3 : Tryd.prog.cellsOf 3 = 1 := by kernel_rfl
  have hcB : Tryd.prog.cellsOf 33 = 1 := by kernel_rfl
  obtain ⟨ys, m, _, hx, hsz, hl, hfl⟩ := DataW.trod_struct Tryd.underlying47 hf
  match ys, hl with
  | [y0, y1, y2, y3], _ =>
    have h0 := hfl 0 _ rfl
    have h1 := hfl 1 _ rfl
    have h2 := hfl 2 _ rfl
    have h3 := hfl 3 _ rfl
    rw [hcS] at hsz
    match cs, hsz with
    | [c0, c1, c2, c3], _ =>
      simp [hc9, hc3, hcB] at h0 h1 h2 h3
      obtain ⟨nm, e0, _, s0⟩ := DataW.trod_string Tryd.underlying9 h0
      obtain ⟨al, e1, _, s1⟩ := DataW.trod_int Tryd.underlying3 h1
      obtain ⟨sz, e3, _, s3⟩ := DataW.trod_int Tryd.underlying3 h3
      simp at e0 e1 e3
      subst e0 e1 e3
      have r : ∃ (a : Option Addr) (len cap : Nat) (zs : List Int), c2 = .slice a len cap ∧ IsRow .u8 w a len cap zs ∧ len ≤ maxLen := by
        rcases open_ints Tryd.underlying33 Tryd.underlying5 (by kernel_rfl) h2 with ⟨hcs, _⟩ | ⟨x, l, c, zs, hcs, _, hl, hm, hz, _, hcell, hwz⟩
        · simp at hcs
          exact ⟨none, 0, 0, [], hcs, .inl ⟨rfl, rfl, rfl, rfl⟩, by decide⟩
        · simp at hcs
          exact ⟨some x, l, c, zs, hcs, .inr ⟨_, rfl, hl, hm, by simpa using hz, hcell, hwz⟩, by omega⟩
      obtain ⟨a, len, cap, zs, rfl, hrow, hmx⟩ := r
      obtain ⟨l, rfl, hlc, hb, ha, hr⟩ := hrow.byt
      exact ⟨⟨nm, al, a, cap, sz, l⟩, rfl, s0, hlc, hmx, hb, ha, (wf_int s1).1, (wf_int s1).2, (wf_int s3).1, (wf_int s3).2, hr⟩

/-- A SLICE OF SECTIONS, OPENED. -/
theorem open_secs {H : Type} {enc : TypeId × Value → H} {w : World} {base : Nat} {held : Bool} {v : Value} {d : DataW H} {ps : List MemPlace} {a : Option Addr} {len cap : Nat} (hv : v = .slice a len cap)
    (hd : DataW.Trod enc Tryd.prog w base (fun _ => true) held 28 v d ps) :
    ∃ l : List SecV, l.length = len ∧ len ≤ cap ∧ cap ≤ maxLen ∧ Secs w a l ∧ (a = none → len = 0 ∧ cap = 0) := by
  subst hv
  obtain ⟨fuel, hf⟩ := hd
  have hcS : Tryd.prog.cellsOf 47 = 4 := by kernel_rfl
  rcases DataW.trod_slice Tryd.underlying28 hf with ⟨hcs, _⟩ | ⟨x, len', cap', elems, rest, n, _, hcs, _, _, hl, hm, hlen, hel, _, _⟩
  · simp [Value.cells] at hcs
    obtain ⟨rfl, rfl, rfl⟩ := hcs
    exact ⟨[], rfl, Nat.le_refl _, Nat.zero_le _, .inl rfl, fun _ => ⟨rfl, rfl⟩⟩
  · simp [Value.cells] at hcs
    obtain ⟨rfl, rfl, rfl⟩ := hcs
    have each : ∀ i, i < len → ∃ v : SecV, SecOk w v ∧ ∀ j, j < 4 → w.cell? (x.add (i * 4 + j)) = ([.string v.s, .int .i64 v.al, .slice v.a v.z.length v.cap, .int .i64 v.sz] : List Value)[j]? := by
      intro i hi
      have h1 := hel i hi
      rw [hcS, List.getElem?_eq_getElem (by omega), Option.bind_eq_some_iff] at h1
      obtain ⟨cs, hcs, ht⟩ := h1
      obtain ⟨v, rfl, hok⟩ := trod_sect ht
      obtain ⟨_, _, hc⟩ := World.cells?_some hcs
      refine ⟨v, hok, fun j hj => ?_⟩
      rw [← hc j hj, Addr.add_add]
    have sel : ∃ f : Nat → SecV, ∀ i, i < len → SecOk w (f i) ∧ ∀ j, j < 4 → w.cell? (x.add (i * 4 + j)) = ([.string (f i).s, .int .i64 (f i).al, .slice (f i).a (f i).z.length (f i).cap, .int .i64 (f i).sz] : List Value)[j]? := by
      classical
      refine ⟨fun i => if hi : i < len then Classical.choose (each i hi) else secNo, fun i hi => ?_⟩
      simp only [dif_pos hi]
      exact Classical.choose_spec (each i hi)
    obtain ⟨f, hfs⟩ := sel
    refine ⟨(List.range len).map f, by simp, hl, hm, ?_, by simp⟩
    by_cases h0 : len = 0
    · exact .inl (by simp [h0])
    · have h00 := (hfs 0 (by omega)).2 0 (by decide)
      obtain ⟨b, off, spot⟩ := x
      have hspot : spot = none := by simpa [Addr.add] using World.cell?_spot h00
      subst hspot
      refine .inr ⟨b, off, rfl, fun i hi => ?_⟩
      have hi' : i < len := by simpa using hi
      have e : ((List.range len).map f).getD i secNo = f i := by simp [List.getD, hi']
      have ad : ∀ k, (⟨b, off, none⟩ : Addr).add k = ⟨b, off + k, none⟩ := fun k => by unfold Addr.add; split <;> simp_all
      obtain ⟨ok, hc⟩ := hfs i hi'
      have c0 := hc 0 (by decide)
      have c1 := hc 1 (by decide)
      have c2 := hc 2 (by decide)
      have c3 := hc 3 (by decide)
      rw [ad] at c0 c1 c2 c3
      rw [e]
      exact ⟨c0, c1, c2, c3, ok⟩
end Go.Proofs.YtbfmichhpcaamaaDoor
