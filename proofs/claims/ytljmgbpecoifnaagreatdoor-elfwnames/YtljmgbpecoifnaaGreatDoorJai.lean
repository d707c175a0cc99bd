/- The table of sizes; a relocation that lies in a block; a slice of sections. Objects that came in, opened. -/
import Derived.Test.YtljmgbpecoifnaaGreatDoorJah
import Derived.Test.YtljmgbpecoifnaaGreatDoorJac
import Derived.OpenShut
import Derived.ShutString
import Derived.ChangeSlices
import Derived.Test.YtljmgbpecoifnaaGreatDoorEv
import Derived.Test.YtljmgbpecoifnaaGreatDoorJad
namespace Go.Proofs.YtljmgbpecoifnaaGreatDoor
open Go.RowKit Go.ChangeShapes Go.WideShapes

/-- The sizes, in their order. -/
def sizeTabX : List Int := [8, 4, 4, 8]
set_option maxRecDepth 20000 in
theorem gSizesX : Tryz.prog.globalNamed "quoin/rela.sizes" = some 1 := by kernel_rfl
set_option maxRecDepth 20000 in
theorem gSizesTypeX : (Tryz.prog.globals[1]?).map (·.type) = some 153 := by kernel_rfl
set_option maxRecDepth 20000 in
theorem cellsSizesX : Tryz.prog.cellsOf 153 = 4 := by kernel_rfl
/-- The world holds the sizes. -/
def TabX (w : World) : Prop := ∀ i, i < 4 → w.cell? ⟨1, i, none⟩ = some (.int .i64 ((relS.getD i 0 : Nat) : Int))
theorem TabX.kept {w w' : World} (h : TabX w) (k : Kept w w') : TabX w' := fun i hi => k.cell (h i hi)
set_option maxRecDepth 20000 in
theorem tabX_of_laid {W : World} (h : laidMetH Tryz.prog [("quoin/rela.sizes", Rows.laid_quoin_rela_sizes)] W) : TabX W := by
  have h' : laidMet Tryz.prog [("quoin/rela.sizes", intData .i64 sizeTabX)] W := h
  intro i hi
  have := ints_of_head gSizesX gSizesTypeX Tryz.underlying153 Tryz.underlying3 cellsOneInt cellsSizesX h' i (by simpa [sizeTabX] using hi)
  rw [this]
  match i, hi with
  | 0, _ => rfl
  | 1, _ => rfl
  | 2, _ => rfl
  | 3, _ => rfl
theorem TabX.all {w : World} (h : TabX w) : w.cell? ⟨1, 0, none⟩ = some (.int .i64 8) ∧ w.cell? ⟨1, 1, none⟩ = some (.int .i64 4) ∧ w.cell? ⟨1, 2, none⟩ = some (.int .i64 4) ∧ w.cell? ⟨1, 3, none⟩ = some (.int .i64 8) :=
  ⟨h 0 (by decide), h 1 (by decide), h 2 (by decide), h 3 (by decide)⟩
theorem TabX.grown {w w' : World} {g : Nat} (h : TabX w) (hg : w.grownBy w' (some g)) (hb : 1 ≠ g) : TabX w' := fun i hi => grown_cell hg (h i hi) hb
theorem TabX.lt {w : World} (h : TabX w) : 1 < w.heap.size := block_lt_of_cell (h 0 (by decide))

abbrev relW (sec off ty sy ad : Int) : Value := .agg #[.int .i64 sec, .int .i64 off, .int .u8 ty, .int .i64 sy, .int .i64 ad]
abbrev relO (sec off ty sy ad : Int) : Obj := .cells #[.int .i64 sec, .int .i64 off, .int .u8 ty, .int .i64 sy, .int .i64 ad] 32
/-- A relocation that lies in a block. -/
structure XBx (w : World) (b : Nat) (sec off ty sy ad : Int) : Prop where
  c0 : w.cell? ⟨b, 0, none⟩ = some (.int .i64 sec)
  c1 : w.cell? ⟨b, 1, none⟩ = some (.int .i64 off)
  c2 : w.cell? ⟨b, 2, none⟩ = some (.int .u8 ty)
  c3 : w.cell? ⟨b, 3, none⟩ = some (.int .i64 sy)
  c4 : w.cell? ⟨b, 4, none⟩ = some (.int .i64 ad)
  f0 : w.frozen? ⟨b, 0, none⟩ = false
  f1 : w.frozen? ⟨b, 1, none⟩ = false
  f2 : w.frozen? ⟨b, 2, none⟩ = false
  f3 : w.frozen? ⟨b, 3, none⟩ = false
  f4 : w.frozen? ⟨b, 4, none⟩ = false
theorem XBx.lt {w : World} {b : Nat} {sec off ty sy ad : Int} (h : XBx w b sec off ty sy ad) : b < w.heap.size := block_lt_of_cell h.c0
theorem XBx.below {n : Nat} {w w' : World} {b : Nat} {sec off ty sy ad : Int} (h : XBx w b sec off ty sy ad) (k : Below n w w') (hb : b < n) : XBx w' b sec off ty sy ad :=
  ⟨(k.cell hb).trans h.c0, (k.cell hb).trans h.c1, (k.cell hb).trans h.c2, (k.cell hb).trans h.c3, (k.cell hb).trans h.c4, (k.frozen hb).trans h.f0, (k.frozen hb).trans h.f1, (k.frozen hb).trans h.f2, (k.frozen hb).trans h.f3, (k.frozen hb).trans h.f4⟩
theorem XBx.kept {w w' : World} {b : Nat} {sec off ty sy ad : Int} (h : XBx w b sec off ty sy ad) (k : Kept w w') : XBx w' b sec off ty sy ad := h.below k h.lt
theorem XBx.set0 {w : World} {b : Nat} {sec off ty sy ad : Int} (h : XBx w b sec off ty sy ad) (u : Int) : XBx (w.setCell ⟨b, 0, none⟩ (.int .i64 u)) b u off ty sy ad :=
  ⟨World.cell?_setCell_same _ _ _ h.c0, set_other h.c1 (by decide), set_other h.c2 (by decide), set_other h.c3 (by decide), set_other h.c4 (by decide), set_frozen h.f0, set_frozen h.f1, set_frozen h.f2, set_frozen h.f3, set_frozen h.f4⟩
theorem XBx.set1 {w : World} {b : Nat} {sec off ty sy ad : Int} (h : XBx w b sec off ty sy ad) (u : Int) : XBx (w.setCell ⟨b, 1, none⟩ (.int .i64 u)) b sec u ty sy ad :=
  ⟨set_other h.c0 (by decide), World.cell?_setCell_same _ _ _ h.c1, set_other h.c2 (by decide), set_other h.c3 (by decide), set_other h.c4 (by decide), set_frozen h.f0, set_frozen h.f1, set_frozen h.f2, set_frozen h.f3, set_frozen h.f4⟩
theorem XBx.set2 {w : World} {b : Nat} {sec off ty sy ad : Int} (h : XBx w b sec off ty sy ad) (u : Int) : XBx (w.setCell ⟨b, 2, none⟩ (.int .u8 u)) b sec off u sy ad :=
  ⟨set_other h.c0 (by decide), set_other h.c1 (by decide), World.cell?_setCell_same _ _ _ h.c2, set_other h.c3 (by decide), set_other h.c4 (by decide), set_frozen h.f0, set_frozen h.f1, set_frozen h.f2, set_frozen h.f3, set_frozen h.f4⟩
theorem XBx.set3 {w : World} {b : Nat} {sec off ty sy ad : Int} (h : XBx w b sec off ty sy ad) (u : Int) : XBx (w.setCell ⟨b, 3, none⟩ (.int .i64 u)) b sec off ty u ad :=
  ⟨set_other h.c0 (by decide), set_other h.c1 (by decide), set_other h.c2 (by decide), World.cell?_setCell_same _ _ _ h.c3, set_other h.c4 (by decide), set_frozen h.f0, set_frozen h.f1, set_frozen h.f2, set_frozen h.f3, set_frozen h.f4⟩
theorem XBx.set4 {w : World} {b : Nat} {sec off ty sy ad : Int} (h : XBx w b sec off ty sy ad) (u : Int) : XBx (w.setCell ⟨b, 4, none⟩ (.int .i64 u)) b sec off ty sy u :=
  ⟨set_other h.c0 (by decide), set_other h.c1 (by decide), set_other h.c2 (by decide), set_other h.c3 (by decide), World.cell?_setCell_same _ _ _ h.c4, set_frozen h.f0, set_frozen h.f1, set_frozen h.f2, set_frozen h.f3, set_frozen h.f4⟩
theorem XBx.far {w : World} {b : Nat} {sec off ty sy ad : Int} (h : XBx w b sec off ty sy ad) (b' i : Nat) (u : Value) (hb : b' ≠ b) : XBx (w.setCell ⟨b', i, none⟩ u) b sec off ty sy ad :=
  ⟨set_far h.c0 hb, set_far h.c1 hb, set_far h.c2 hb, set_far h.c3 hb, set_far h.c4 hb, set_frozen h.f0, set_frozen h.f1, set_frozen h.f2, set_frozen h.f3, set_frozen h.f4⟩
theorem XBx.new (w : World) (sec off ty sy ad : Int) : XBx (w.alloc (relO sec off ty sy ad)) w.heap.size sec off ty sy ad := by
  constructor <;> simp
/-- The five cells of a relocation, put one after another. -/
abbrev putX (w : World) (b : Nat) (sec off ty sy ad : Int) : World :=
  ((((w.setCell ⟨b, 0, none⟩ (.int .i64 sec)).setCell ⟨b, 1, none⟩ (.int .i64 off)).setCell ⟨b, 2, none⟩ (.int .u8 ty)).setCell ⟨b, 3, none⟩ (.int .i64 sy)).setCell ⟨b, 4, none⟩ (.int .i64 ad)
theorem XBx.put {w : World} {b : Nat} {sec off ty sy ad : Int} (h : XBx w b sec off ty sy ad) (sec' off' ty' sy' ad' : Int) : XBx (putX w b sec' off' ty' sy' ad') b sec' off' ty' sy' ad' :=
  ((((h.set0 _).set1 _).set2 _).set3 _).set4 _
theorem below_putX {w : World} {b B : Nat} {a : World} (h : Below B a w) (hp : B ≤ b) (sec off ty sy ad : Int) : Below B a (putX w b sec off ty sy ad) :=
  ((((h.setCell hp _).setCell hp _).setCell hp _).setCell hp _).setCell hp _

/-! ### A slice of sections -/
abbrev secW (v : SecV) : Value := .agg #[.string v.s, .int .i64 v.al, .slice v.a v.z.length v.cap, .int .i64 v.sz]
/-- What is known of a section that came in. -/
structure SecOk (w : World) (v : SecV) : Prop where
  size : v.s.size ≤ maxLen
  len : v.z.length ≤ v.cap
  cap : v.z.length ≤ maxLen
  byt : Byt w v.a v.z
  a0 : v.a = none → v.z.length = 0 ∧ v.cap = 0
  al0 : -9223372036854775808 ≤ v.al
  al1 : v.al ≤ 9223372036854775807
  sz0 : -9223372036854775808 ≤ v.sz
  sz1 : v.sz ≤ 9223372036854775807
  rng : ∀ x ∈ v.z, 0 ≤ x ∧ x < 256
theorem SecOk.kept {w w' : World} {v : SecV} (h : SecOk w v) (k : Kept w w') : SecOk w' v := ⟨h.size, h.len, h.cap, h.byt.kept k, h.a0, h.al0, h.al1, h.sz0, h.sz1, h.rng⟩
/-- A section's four cells, from there on. -/
structure SecAt (w : World) (b o : Nat) (v : SecV) : Prop where
  c0 : w.cell? ⟨b, o, none⟩ = some (.string v.s)
  c1 : w.cell? ⟨b, o + 1, none⟩ = some (.int .i64 v.al)
  c2 : w.cell? ⟨b, o + 2, none⟩ = some (.slice v.a v.z.length v.cap)
  c3 : w.cell? ⟨b, o + 3, none⟩ = some (.int .i64 v.sz)
  ok : SecOk w v
theorem SecAt.kept {w w' : World} {b o : Nat} {v : SecV} (h : SecAt w b o v) (k : Kept w w') : SecAt w' b o v := ⟨k.cell h.c0, k.cell h.c1, k.cell h.c2, k.cell h.c3, h.ok.kept k⟩
/-- Sections that lie one behind the other. -/
def Secs (w : World) (a : Option Addr) (l : List SecV) : Prop := l = [] ∨ ∃ b off, a = some ⟨b, off, none⟩ ∧ ∀ i, i < l.length → SecAt w b (off + i * 4) (l.getD i secNo)
theorem Secs.kept {w w' : World} {a : Option Addr} {l : List SecV} (h : Secs w a l) (k : Kept w w') : Secs w' a l := by
  rcases h with h | ⟨b, off, h, hc⟩
  · exact .inl h
  · exact .inr ⟨b, off, h, fun i hi => (hc i hi).kept k⟩
theorem Secs.at {w : World} {a : Option Addr} {l : List SecV} (h : Secs w a l) {k : Nat} (hk : k < l.length) : ∃ b off, a = some ⟨b, off, none⟩ ∧ SecAt w b (off + k * 4) (l.getD k secNo) := by
  rcases h with rfl | ⟨b, off, h, hc⟩
  · simp at hk
  · exact ⟨b, off, h, hc k hk⟩

set_option maxRecDepth 20000 in
theorem trod_sect {H : Type} {enc : TypeId × Value → H} {w : World} {base : Nat} {held : Bool} {fuel : Nat} {cs : List Value} {x : DataW H × List MemPlace}
    (hf : DataW.trod enc Tryz.prog w base (fun _ => true) held fuel 37 cs = some x) :
    ∃ v : SecV, cs = [.string v.s, .int .i64 v.al, .slice v.a v.z.length v.cap, .int .i64 v.sz] ∧ SecOk w v := by
  have hcS : Tryz.prog.cellsOf 37 = 4 := by kernel_rfl
  have hc9 : Tryz.prog.cellsOf 9 = 1 := by kernel_rfl
  have hc3 : Tryz.prog.cellsOf 3 = 1 := by kernel_rfl
  have hcB : Tryz.prog.cellsOf 35 = 1 := by kernel_rfl
  obtain ⟨ys, m, _, hx, hsz, hl, hfl⟩ := DataW.trod_struct Tryz.underlying37 hf
  match ys, hl with
  | [y0, y1, y2, y3], _ =>
    have h0 := hfl 0 _ rfl
    have h1 := hfl 1 _ rfl
    have h2 := hfl 2 _ rfl
    have h3 := hfl 3 _ rfl
    rw [hcS] at hsz
    match cs, hsz with
    | [c0, c1, c2, c3], _ =>
      simp [hc9, hc3, hcB] at h0 h1 h2 h3
      obtain ⟨nm, e0, _, s0⟩ := DataW.trod_string Tryz.underlying9 h0
      obtain ⟨al, e1, _, s1⟩ := DataW.trod_int Tryz.underlying3 h1
      obtain ⟨sz, e3, _, s3⟩ := DataW.trod_int Tryz.underlying3 h3
      simp at e0 e1 e3
      subst e0 e1 e3
      have r : ∃ (a : Option Addr) (len cap : Nat) (zs : List Int), c2 = .slice a len cap ∧ IsRow .u8 w a len cap zs ∧ len ≤ maxLen := by
        rcases open_ints Tryz.underlying35 Tryz.underlying5 (by kernel_rfl) h2 with ⟨hcs, _⟩ | ⟨x, l, c, zs, hcs, _, hl, hm, hz, _, hcell, hwz⟩
        · simp at hcs
          exact ⟨none, 0, 0, [], hcs, .inl ⟨rfl, rfl, rfl, rfl⟩, by decide⟩
        · simp at hcs
          exact ⟨some x, l, c, zs, hcs, .inr ⟨_, rfl, hl, hm, by simpa using hz, hcell, hwz⟩, by omega⟩
      obtain ⟨a, len, cap, zs, rfl, hrow, hmx⟩ := r
      obtain ⟨l, rfl, hlc, hb, ha, hr⟩ := hrow.byt
      exact ⟨⟨nm, al, a, cap, sz, l⟩, rfl, s0, hlc, hmx, hb, ha, (wf_int s1).1, (wf_int s1).2, (wf_int s3).1, (wf_int s3).2, hr⟩

set_option maxRecDepth 20000 in
/-- A SLICE OF SECTIONS, OPENED. -/
theorem open_secs {H : Type} {enc : TypeId × Value → H} {w : World} {base : Nat} {held : Bool} {v : Value} {d : DataW H} {ps : List MemPlace} {a : Option Addr} {len cap : Nat} (hv : v = .slice a len cap)
    (hd : DataW.Trod enc Tryz.prog w base (fun _ => true) held 24 v d ps) :
    ∃ l : List SecV, l.length = len ∧ len ≤ cap ∧ cap ≤ maxLen ∧ Secs w a l ∧ (a = none → len = 0 ∧ cap = 0) := by
  subst hv
  obtain ⟨fuel, hf⟩ := hd
  have hcS : Tryz.prog.cellsOf 37 = 4 := by kernel_rfl
  rcases DataW.trod_slice Tryz.underlying24 hf with ⟨hcs, _⟩ | ⟨x, len', cap', elems, rest, n, _, hcs, _, _, hl, hm, hlen, hel, _, _⟩
  · simp [Value.cells] at hcs
    obtain ⟨rfl, rfl, rfl⟩ := hcs
    exact ⟨[], rfl, Nat.le_refl _, Nat.zero_le _, .inl rfl, fun _ => ⟨rfl, rfl⟩⟩
  · simp [Value.cells] at hcs
    obtain ⟨rfl, rfl, rfl⟩ := hcs
    have each : ∀ i, i < len → ∃ v : SecV, SecOk w v ∧ ∀ j, j < 4 → w.cell? (x.add (i * 4 + j)) = ([.string v.s, .int .i64 v.al, .slice v.a v.z.length v.cap, .int .i64 v.sz] : List Value)[j]? := by
      intro i hi
      have h1 := hel i hi
      rw [hcS, List.getElem?_eq_getElem (by omega), Option.bind_eq_some_iff] at h1
      obtain ⟨cs, hcs, ht⟩ := h1
      obtain ⟨v, rfl, hok⟩ := trod_sect ht
      obtain ⟨_, _, hc⟩ := World.cells?_some hcs
      refine ⟨v, hok, fun j hj => ?_⟩
      rw [← hc j hj, Addr.add_add]
    have sel : ∃ f : Nat → SecV, ∀ i, i < len → SecOk w (f i) ∧ ∀ j, j < 4 → w.cell? (x.add (i * 4 + j)) = ([.string (f i).s, .int .i64 (f i).al, .slice (f i).a (f i).z.length (f i).cap, .int .i64 (f i).sz] : List Value)[j]? := by
      classical
      refine ⟨fun i => if hi : i < len then Classical.choose (each i hi) else secNo, fun i hi => ?_⟩
      simp only [dif_pos hi]
      exact Classical.choose_spec (each i hi)
    obtain ⟨f, hfs⟩ := sel
    refine ⟨(List.range len).map f, by simp, hl, hm, ?_, by simp⟩
    by_cases h0 : len = 0
    · exact .inl (by simp [h0])
    · have h00 := (hfs 0 (by omega)).2 0 (by decide)
      obtain ⟨b, off, spot⟩ := x
      have hspot : spot = none := by simpa [Addr.add] using World.cell?_spot h00
      subst hspot
      refine .inr ⟨b, off, rfl, fun i hi => ?_⟩
      have hi' : i < len := by simpa using hi
      have e : ((List.range len).map f).getD i secNo = f i := by simp [List.getD, hi']
      have ad : ∀ k, (⟨b, off, none⟩ : Addr).add k = ⟨b, off + k, none⟩ := fun k => by unfold Addr.add; split <;> simp_all
      obtain ⟨ok, hc⟩ := hfs i hi'
      have c0 := hc 0 (by decide)
      have c1 := hc 1 (by decide)
      have c2 := hc 2 (by decide)
      have c3 := hc 3 (by decide)
      rw [ad] at c0 c1 c2 c3
      rw [e]
      exact ⟨c0, c1, c2, c3, ok⟩

/-- A symbol, a group, as they came in. -/
structure SymV where
  s : ByteArray
  bind : Int
  hid : Bool
  wh : Int
  val : Int
  sz : Int
structure GrpV where
  s : ByteArray
  a : Option Addr
  cap : Nat
  l : List Int
def symV0 : SymV := ⟨⟨#[]⟩, 0, false, 0, 0, 0⟩
def grpV0 : GrpV := ⟨⟨#[]⟩, none, 0, []⟩
def secC (v : SecV) : List Value := [.string v.s, .int .i64 v.al, .slice v.a v.z.length v.cap, .int .i64 v.sz]
def symC (v : SymV) : List Value := [.string v.s, .int .u8 v.bind, .bool v.hid, .int .i64 v.wh, .int .i64 v.val, .int .i64 v.sz]
def relC (v : RelM) : List Value := [.int .i64 v.sec, .int .i64 v.off, .int .u8 v.ty, .int .i64 v.sy, .int .i64 v.ad]
def grpC (v : GrpV) : List Value := [.string v.s, .slice v.a v.l.length v.cap]
structure SymVOk (v : SymV) : Prop where
  size : v.s.size ≤ maxLen
  b0 : 0 ≤ v.bind
  b1 : v.bind < 256
  wl : -9223372036854775808 ≤ v.wh
  wu : v.wh ≤ 9223372036854775807
  vl : -9223372036854775808 ≤ v.val
  vu : v.val ≤ 9223372036854775807
  zl : -9223372036854775808 ≤ v.sz
  zu : v.sz ≤ 9223372036854775807
structure RelVOk (v : RelM) : Prop where
  sl : -9223372036854775808 ≤ v.sec
  su : v.sec ≤ 9223372036854775807
  ol : -9223372036854775808 ≤ v.off
  ou : v.off ≤ 9223372036854775807
  t0 : 0 ≤ v.ty
  t1 : v.ty < 256
  yl : -9223372036854775808 ≤ v.sy
  yu : v.sy ≤ 9223372036854775807
  al : -9223372036854775808 ≤ v.ad
  au : v.ad ≤ 9223372036854775807
structure GrpOk (w : World) (v : GrpV) : Prop where
  size : v.s.size ≤ maxLen
  len : v.l.length ≤ v.cap
  cap : v.cap ≤ maxLen
  ints : Ints w v.a v.l
  a0 : v.a = none → v.l.length = 0 ∧ v.cap = 0
  rng : ∀ x ∈ v.l, -9223372036854775808 ≤ x ∧ x ≤ 9223372036854775807
theorem GrpOk.kept {w w' : World} {v : GrpV} (h : GrpOk w v) (k : Kept w w') : GrpOk w' v := ⟨h.size, h.len, h.cap, h.ints.kept k, h.a0, h.rng⟩
/-- The four lists of an object. -/
abbrev SecR (w : World) (a : Option Addr) (l : List SecV) : Prop := Recs secNo 4 secC SecOk w a l
abbrev SymR (w : World) (a : Option Addr) (l : List SymV) : Prop := Recs symV0 6 symC (fun _ v => SymVOk v) w a l
abbrev RelR (w : World) (a : Option Addr) (l : List RelM) : Prop := Recs relNo 5 relC (fun _ v => RelVOk v) w a l
abbrev GrpR (w : World) (a : Option Addr) (l : List GrpV) : Prop := Recs grpV0 2 grpC GrpOk w a l
theorem SecR.kept {w w' : World} {a : Option Addr} {l : List SecV} (h : SecR w a l) (k : Kept w w') : SecR w' a l := Recs.kept (no := secNo) (k := 4) (cells := secC) (Ok := SecOk) (fun _ _ _ h k => SecOk.kept h k) (fun _ => rfl) h k
theorem SymR.kept {w w' : World} {a : Option Addr} {l : List SymV} (h : SymR w a l) (k : Kept w w') : SymR w' a l := Recs.kept (no := symV0) (k := 6) (cells := symC) (Ok := fun _ v => SymVOk v) (fun _ _ _ h _ => h) (fun _ => rfl) h k
theorem RelR.kept {w w' : World} {a : Option Addr} {l : List RelM} (h : RelR w a l) (k : Kept w w') : RelR w' a l := Recs.kept (no := relNo) (k := 5) (cells := relC) (Ok := fun _ v => RelVOk v) (fun _ _ _ h _ => h) (fun _ => rfl) h k
theorem GrpR.kept {w w' : World} {a : Option Addr} {l : List GrpV} (h : GrpR w a l) (k : Kept w w') : GrpR w' a l := Recs.kept (no := grpV0) (k := 2) (cells := grpC) (Ok := GrpOk) (fun _ _ _ h k => GrpOk.kept h k) (fun _ => rfl) h k
/-- .. as rela has them (tpl/11/Xb). -/
theorem SecR.secs {w : World} {a : Option Addr} {l : List SecV} (h : SecR w a l) : Secs w a l := by
  rcases h with h | ⟨b, off, h, hc⟩
  · exact .inl h
  · exact .inr ⟨b, off, h, fun i hi => ⟨(hc i hi).2 0 (by decide), (hc i hi).2 1 (by decide), (hc i hi).2 2 (by decide), (hc i hi).2 3 (by decide), (hc i hi).1⟩⟩

set_option maxRecDepth 20000 in
theorem trod_symV {H : Type} {enc : TypeId × Value → H} {w : World} {base : Nat} {held : Bool} (fuel : Nat) (cs : List Value) (x : DataW H × List MemPlace)
    (hf : DataW.trod enc Tryz.prog w base (fun _ => true) held fuel 34 cs = some x) : ∃ v : SymV, cs = symC v ∧ SymVOk v := by
  have hcS : Tryz.prog.cellsOf 34 = 6 := by kernel_rfl
  have hc9 : Tryz.prog.cellsOf 9 = 1 := by kernel_rfl
  have hc5 : Tryz.prog.cellsOf 5 = 1 := by kernel_rfl
  have hc4 : Tryz.prog.cellsOf 4 = 1 := by kernel_rfl
  have hc3 : Tryz.prog.cellsOf 3 = 1 := by kernel_rfl
  obtain ⟨ys, m, _, _, hsz, hl, hfl⟩ := DataW.trod_struct Tryz.underlying34 hf
  match ys, hl with
  | [y0, y1, y2, y3, y4, y5], _ =>
    have h0 := hfl 0 _ rfl
    have h1 := hfl 1 _ rfl
    have h2 := hfl 2 _ rfl
    have h3 := hfl 3 _ rfl
    have h4 := hfl 4 _ rfl
    have h5 := hfl 5 _ rfl
    rw [hcS] at hsz
    match cs, hsz with
    | [c0, c1, c2, c3, c4, c5], _ =>
      simp [hc9, hc5, hc4, hc3] at h0 h1 h2 h3 h4 h5
      obtain ⟨s, e0, _, s0⟩ := DataW.trod_string Tryz.underlying9 h0
      obtain ⟨bind, e1, _, s1⟩ := DataW.trod_int Tryz.underlying5 h1
      obtain ⟨hid, e2, _⟩ := DataW.trod_bool Tryz.underlying4 h2
      obtain ⟨wh, e3, _, s3⟩ := DataW.trod_int Tryz.underlying3 h3
      obtain ⟨val, e4, _, s4⟩ := DataW.trod_int Tryz.underlying3 h4
      obtain ⟨sz, e5, _, s5⟩ := DataW.trod_int Tryz.underlying3 h5
      simp at e0 e1 e2 e3 e4 e5
      subst e0 e1 e2 e3 e4 e5
      exact ⟨⟨s, bind, hid, wh, val, sz⟩, rfl, ⟨s0, (wf_u8 s1).1, (wf_u8 s1).2, (wf_int s3).1, (wf_int s3).2, (wf_int s4).1, (wf_int s4).2, (wf_int s5).1, (wf_int s5).2⟩⟩
set_option maxRecDepth 20000 in
theorem trod_relV {H : Type} {enc : TypeId × Value → H} {w : World} {base : Nat} {held : Bool} (fuel : Nat) (cs : List Value) (x : DataW H × List MemPlace)
    (hf : DataW.trod enc Tryz.prog w base (fun _ => true) held fuel 32 cs = some x) : ∃ v : RelM, cs = relC v ∧ RelVOk v := by
  have hcS : Tryz.prog.cellsOf 32 = 5 := by kernel_rfl
  have hc5 : Tryz.prog.cellsOf 5 = 1 := by kernel_rfl
  have hc3 : Tryz.prog.cellsOf 3 = 1 := by kernel_rfl
  obtain ⟨ys, m, _, _, hsz, hl, hfl⟩ := DataW.trod_struct Tryz.underlying32 hf
  match ys, hl with
  | [y0, y1, y2, y3, y4], _ =>
    have h0 := hfl 0 _ rfl
    have h1 := hfl 1 _ rfl
    have h2 := hfl 2 _ rfl
    have h3 := hfl 3 _ rfl
    have h4 := hfl 4 _ rfl
    rw [hcS] at hsz
    match cs, hsz with
    | [c0, c1, c2, c3, c4], _ =>
      simp [hc5, hc3] at h0 h1 h2 h3 h4
      obtain ⟨sec, e0, _, s0⟩ := DataW.trod_int Tryz.underlying3 h0
      obtain ⟨off, e1, _, s1⟩ := DataW.trod_int Tryz.underlying3 h1
      obtain ⟨ty, e2, _, s2⟩ := DataW.trod_int Tryz.underlying5 h2
      obtain ⟨sy, e3, _, s3⟩ := DataW.trod_int Tryz.underlying3 h3
      obtain ⟨ad, e4, _, s4⟩ := DataW.trod_int Tryz.underlying3 h4
      simp at e0 e1 e2 e3 e4
      subst e0 e1 e2 e3 e4
      exact ⟨⟨sec, off, ty, sy, ad⟩, rfl, ⟨(wf_int s0).1, (wf_int s0).2, (wf_int s1).1, (wf_int s1).2, (wf_u8 s2).1, (wf_u8 s2).2, (wf_int s3).1, (wf_int s3).2, (wf_int s4).1, (wf_int s4).2⟩⟩
set_option maxRecDepth 20000 in
theorem trod_grpV {H : Type} {enc : TypeId × Value → H} {w : World} {base : Nat} {held : Bool} (fuel : Nat) (cs : List Value) (x : DataW H × List MemPlace)
    (hf : DataW.trod enc Tryz.prog w base (fun _ => true) held fuel 49 cs = some x) : ∃ v : GrpV, cs = grpC v ∧ GrpOk w v := by
  have hcS : Tryz.prog.cellsOf 49 = 2 := by kernel_rfl
  have hc9 : Tryz.prog.cellsOf 9 = 1 := by kernel_rfl
  have hcI : Tryz.prog.cellsOf 47 = 1 := by kernel_rfl
  obtain ⟨ys, m, _, _, hsz, hl, hfl⟩ := DataW.trod_struct Tryz.underlying49 hf
  match ys, hl with
  | [y0, y1], _ =>
    have h0 := hfl 0 _ rfl
    have h1 := hfl 1 _ rfl
    rw [hcS] at hsz
    match cs, hsz with
    | [c0, c1], _ =>
      simp [hc9, hcI] at h0 h1
      obtain ⟨nm, e0, _, s0⟩ := DataW.trod_string Tryz.underlying9 h0
      simp at e0
      subst e0
      have r : ∃ (a : Option Addr) (len cap : Nat) (zs : List Int), c1 = .slice a len cap ∧ IsRow .i64 w a len cap zs ∧ cap ≤ maxLen := by
        rcases open_ints Tryz.underlying47 Tryz.underlying3 (by kernel_rfl) h1 with ⟨hcs, _⟩ | ⟨x, l, c, zs, hcs, _, hl, hm, hz, _, hcell, hwz⟩
        · simp at hcs
          exact ⟨none, 0, 0, [], hcs, .inl ⟨rfl, rfl, rfl, rfl⟩, Nat.zero_le _⟩
        · simp at hcs
          exact ⟨some x, l, c, zs, hcs, .inr ⟨_, rfl, hl, hm, by simpa using hz, hcell, hwz⟩, hm⟩
      obtain ⟨a, len, cap, zs, rfl, hrow, hmx⟩ := r
      obtain ⟨l, rfl, hlc, hb, ha, hr⟩ := hrow.ints
      exact ⟨⟨nm, a, cap, l⟩, rfl, s0, hlc, hmx, hb, ha, hr⟩
set_option maxRecDepth 20000 in
theorem trod_secV {H : Type} {enc : TypeId × Value → H} {w : World} {base : Nat} {held : Bool} (fuel : Nat) (cs : List Value) (x : DataW H × List MemPlace)
    (hf : DataW.trod enc Tryz.prog w base (fun _ => true) held fuel 37 cs = some x) : ∃ v : SecV, cs = secC v ∧ SecOk w v := trod_sect hf

/-- An object, as it came in. -/
structure ObjV where
  ss : List SecV
  sa : Option Addr
  sn : Nat
  sc : Nat
  ys : List SymV
  ya : Option Addr
  yn : Nat
  yc : Nat
  rs : List RelM
  ra : Option Addr
  rn : Nat
  rc : Nat
  gs : List GrpV
  ga : Option Addr
  gn : Nat
  gc : Nat
abbrev objW (v : ObjV) : Value := .agg #[.slice v.sa v.sn v.sc, .slice v.ya v.yn v.yc, .slice v.ra v.rn v.rc, .slice v.ga v.gn v.gc]
/-- What is known of it. -/
structure ObjOk (w : World) (v : ObjV) : Prop where
  s : SecR w v.sa v.ss
  y : SymR w v.ya v.ys
  r : RelR w v.ra v.rs
  g : GrpR w v.ga v.gs
  sl : v.sn ≤ v.sc ∧ v.sc ≤ maxLen ∧ (v.sa = none → v.sn = 0 ∧ v.sc = 0)
  yl : v.yn ≤ v.yc ∧ v.yc ≤ maxLen ∧ (v.ya = none → v.yn = 0 ∧ v.yc = 0)
  rl : v.rn ≤ v.rc ∧ v.rc ≤ maxLen ∧ (v.ra = none → v.rn = 0 ∧ v.rc = 0)
  gl : v.gn ≤ v.gc ∧ v.gc ≤ maxLen ∧ (v.ga = none → v.gn = 0 ∧ v.gc = 0)
  hs : v.ss.length = v.sn
  hy : v.ys.length = v.yn
  hr : v.rs.length = v.rn
  hg : v.gs.length = v.gn
theorem ObjOk.kept {w w' : World} {v : ObjV} (h : ObjOk w v) (k : Kept w w') : ObjOk w' v := ⟨h.s.kept k, h.y.kept k, h.r.kept k, h.g.kept k, h.sl, h.yl, h.rl, h.gl, h.hs, h.hy, h.hr, h.hg⟩
/-- .. and what it is. -/
def sctOf (v : SecV) : SctM := ⟨nm v.s, v.al, v.z, v.sz⟩
def symOfV (v : SymV) : SymM := ⟨nm v.s, v.bind, v.hid, v.wh, v.val, v.sz⟩
def grpOfV (v : GrpV) : GrpM := ⟨nm v.s, v.l⟩
def ObjV.m (v : ObjV) : ObjM := ⟨v.ss.map sctOf, v.ys.map symOfV, v.rs, v.gs.map grpOfV⟩

set_option maxRecDepth 20000 in
/-- AN OBJECT, OPENED. -/
theorem open_obj {H : Type} {enc : TypeId × Value → H} {w : World} {base : Nat} {held : Bool} {r : Reach} {b0 : Nat} {v : Value} {d : DataW H} {ps : List MemPlace}
    (hval : Value.okWide Tryz.prog w r b0 29 v) (hd : DataW.Trod enc Tryz.prog w base (fun _ => true) held 29 v d ps) :
    ∃ o : ObjV, v = objW o ∧ ObjOk w o := by
  have hcO : Tryz.prog.cellsOf 29 = 4 := by kernel_rfl
  have hcS : Tryz.prog.cellsOf 24 = 1 := by kernel_rfl
  have hcY : Tryz.prog.cellsOf 25 = 1 := by kernel_rfl
  have hcR : Tryz.prog.cellsOf 26 = 1 := by kernel_rfl
  have hcG : Tryz.prog.cellsOf 27 = 1 := by kernel_rfl
  simp only [Value.okWide, Tryz.underlying29] at hval
  obtain ⟨cs, rfl, hsz, _⟩ := hval
  obtain ⟨fuel, hf⟩ := hd
  obtain ⟨ys, m, _, _, _, hl, hfl⟩ := DataW.trod_struct Tryz.underlying29 hf
  match ys, hl with
  | [y0, y1, y2, y3], _ =>
    have h0 := hfl 0 _ rfl
    have h1 := hfl 1 _ rfl
    have h2 := hfl 2 _ rfl
    have h3 := hfl 3 _ rfl
    obtain ⟨l⟩ := cs
    rw [hcO] at hsz
    match l, hsz with
    | [c0, c1, c2, c3], _ =>
      simp [hcS, hcY, hcR, hcG, Value.cells] at h0 h1 h2 h3
      have sl : ∀ {t e : TypeId} {c : Value} {x : DataW H × List MemPlace}, Tryz.prog.underlying t = some (.slice e) → DataW.trod enc Tryz.prog w base (fun _ => true) held m t [c] = some x → ∃ a len cap, c = .slice a len cap := by
        intro t e c x ht hx
        rcases DataW.trod_slice ht hx with ⟨hcs, _⟩ | ⟨a, len, cap, _, _, _, _, hcs, _⟩
        · simp at hcs; exact ⟨_, _, _, hcs⟩
        · simp at hcs; exact ⟨_, _, _, hcs⟩
      obtain ⟨sa, sn, sc, rfl⟩ := sl Tryz.underlying24 h0
      obtain ⟨ya, yn, yc, rfl⟩ := sl Tryz.underlying25 h1
      obtain ⟨ra, rn, rc, rfl⟩ := sl Tryz.underlying26 h2
      obtain ⟨ga, gn, gc, rfl⟩ := sl Tryz.underlying27 h3
      obtain ⟨ls, rfl, s1, s2, s3, s4⟩ := open_recs (d := y0.1) (ps := y0.2) (k := 4) secNo secC SecOk Tryz.underlying24 (by kernel_rfl) (by decide) (fun _ => rfl) (fun f c x h => trod_secV f c x h) ⟨m, h0⟩
      obtain ⟨ly, rfl, t1, t2, t3, t4⟩ := open_recs (d := y1.1) (ps := y1.2) (k := 6) symV0 symC (fun _ v => SymVOk v) Tryz.underlying25 (by kernel_rfl) (by decide) (fun _ => rfl) (fun f c x h => trod_symV f c x h) ⟨m, h1⟩
      obtain ⟨lr, rfl, u1, u2, u3, u4⟩ := open_recs (d := y2.1) (ps := y2.2) (k := 5) relNo relC (fun _ v => RelVOk v) Tryz.underlying26 (by kernel_rfl) (by decide) (fun _ => rfl) (fun f c x h => trod_relV f c x h) ⟨m, h2⟩
      obtain ⟨lg, rfl, g1, g2, g3, g4⟩ := open_recs (d := y3.1) (ps := y3.2) (k := 2) grpV0 grpC GrpOk Tryz.underlying27 (by kernel_rfl) (by decide) (fun _ => rfl) (fun f c x h => trod_grpV f c x h) ⟨m, h3⟩
      exact ⟨⟨ls, sa, _, sc, ly, ya, _, yc, lr, ra, _, rc, lg, ga, _, gc⟩, rfl, s3, t3, u3, g3, ⟨s1, s2, s4⟩, ⟨t1, t2, t4⟩, ⟨u1, u2, u4⟩, ⟨g1, g2, g4⟩, rfl, rfl, rfl, rfl⟩
end Go.Proofs.YtljmgbpecoifnaaGreatDoor
