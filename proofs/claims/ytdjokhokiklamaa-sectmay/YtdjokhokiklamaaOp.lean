/- A head and a section that came in, opened. -/
import Derived.Test.YtdjokhokiklamaaBy
import Derived.OpenShut
import Derived.ShutString
import Derived.ChangeSlices
namespace Go.Proofs.Ytdjokhokiklamaa
open Go.RowKit Go.ChangeShapes Go.WideShapes

abbrev headW (v0 v1 v2 v3 v4 v5 v6 v7 v8 v9 : Int) : Value := .agg #[.int .i64 v0, .int .i64 v1, .int .i64 v2, .int .i64 v3, .int .i64 v4, .int .i64 v5, .int .i64 v6, .int .i64 v7, .int .i64 v8, .int .i64 v9]
theorem open_head {H : Type} {enc : TypeId × Value → H} {w : World} {base : Nat} {sp : Nat → Bool} {held : Bool} {r : Reach} {b0 : Nat} {v : Value} {d : DataW H} {ps : List MemPlace}
    (hval : Value.okWide Try.prog w r b0 30 v) (hd : DataW.Trod enc Try.prog w base sp held 30 v d ps) :
    ∃ v0 v1 v2 v3 v4 v5 v6 v7 v8 v9 : Int, v = headW v0 v1 v2 v3 v4 v5 v6 v7 v8 v9 ∧ ∀ n ∈ [v0, v1, v2, v3, v4, v5, v6, v7, v8, v9], -9223372036854775808 ≤ n ∧ n ≤ 9223372036854775807 := by
  have hcS : Try.prog.cellsOf 30 = 10 := by kernel_rfl
  have hc3 : Try.prog.cellsOf 3 = 1 := by kernel_rfl
  simp only [Value.okWide, Try.underlying30] at hval
  obtain ⟨cs, rfl, hsz, _⟩ := hval
  obtain ⟨fuel, hf⟩ := hd
  obtain ⟨ys, m, _, hx, _, hl, hfl⟩ := DataW.trod_struct Try.underlying30 hf
  match ys, hl with
  | [y0, y1, y2, y3, y4, y5, y6, y7, y8, y9], _ =>
    have h0 := hfl 0 _ rfl
    have h1 := hfl 1 _ rfl
    have h2 := hfl 2 _ rfl
    have h3 := hfl 3 _ rfl
    have h4 := hfl 4 _ rfl
    have h5 := hfl 5 _ rfl
    have h6 := hfl 6 _ rfl
    have h7 := hfl 7 _ rfl
    have h8 := hfl 8 _ rfl
    have h9 := hfl 9 _ rfl
    obtain ⟨l⟩ := cs
    rw [hcS] at hsz
    match l, hsz with
    | [c0, c1, c2, c3, c4, c5, c6, c7, c8, c9], _ =>
      simp [hc3, Value.cells] at h0 h1 h2 h3 h4 h5 h6 h7 h8 h9
      obtain ⟨n0, e0, rfl, s0⟩ := DataW.trod_int Try.underlying3 h0
      obtain ⟨n1, e1, rfl, s1⟩ := DataW.trod_int Try.underlying3 h1
      obtain ⟨n2, e2, rfl, s2⟩ := DataW.trod_int Try.underlying3 h2
      obtain ⟨n3, e3, rfl, s3⟩ := DataW.trod_int Try.underlying3 h3
      obtain ⟨n4, e4, rfl, s4⟩ := DataW.trod_int Try.underlying3 h4
      obtain ⟨n5, e5, rfl, s5⟩ := DataW.trod_int Try.underlying3 h5
      obtain ⟨n6, e6, rfl, s6⟩ := DataW.trod_int Try.underlying3 h6
      obtain ⟨n7, e7, rfl, s7⟩ := DataW.trod_int Try.underlying3 h7
      obtain ⟨n8, e8, rfl, s8⟩ := DataW.trod_int Try.underlying3 h8
      obtain ⟨n9, e9, rfl, s9⟩ := DataW.trod_int Try.underlying3 h9
      simp at e0 e1 e2 e3 e4 e5 e6 e7 e8 e9
      subst e0 e1 e2 e3 e4 e5 e6 e7 e8 e9
      refine ⟨n0, n1, n2, n3, n4, n5, n6, n7, n8, n9, rfl, fun n hn => ?_⟩
      simp only [List.mem_cons, List.not_mem_nil, or_false] at hn
      rcases hn with rfl | rfl | rfl | rfl | rfl | rfl | rfl | rfl | rfl | rfl
      · exact wf_int s0
      · exact wf_int s1
      · exact wf_int s2
      · exact wf_int s3
      · exact wf_int s4
      · exact wf_int s5
      · exact wf_int s6
      · exact wf_int s7
      · exact wf_int s8
      · exact wf_int s9

abbrev sectW (nm : ByteArray) (align : Int) (a : Option Addr) (len cap : Nat) (size : Int) : Value := .agg #[.string nm, .int .i64 align, .slice a len cap, .int .i64 size]
theorem open_sect {H : Type} {enc : TypeId × Value → H} {w : World} {base : Nat} {held : Bool} {r : Reach} {b0 : Nat} {v : Value} {d : DataW H} {ps : List MemPlace}
    (hval : Value.okWide Try.prog w r b0 28 v) (hd : DataW.Trod enc Try.prog w base (fun _ => true) held 28 v d ps) :
    ∃ (nm : ByteArray) (align : Int) (a : Option Addr) (len cap : Nat) (size : Int) (zs : List Int), v = sectW nm align a len cap size ∧ nm.size ≤ maxLen ∧ (Lit.int .i64 align).wf = true ∧ IsRow .u8 w a len cap zs ∧ (Lit.int .i64 size).wf = true := by
  have hcS : Try.prog.cellsOf 28 = 4 := by kernel_rfl
  have hc9 : Try.prog.cellsOf 9 = 1 := by kernel_rfl
  have hc3 : Try.prog.cellsOf 3 = 1 := by kernel_rfl
  have hcB : Try.prog.cellsOf 26 = 1 := by kernel_rfl
  simp only [Value.okWide, Try.underlying28] at hval
  obtain ⟨cs, rfl, hsz, _⟩ := hval
  obtain ⟨fuel, hf⟩ := hd
  obtain ⟨ys, m, _, hx, _, hl, hfl⟩ := DataW.trod_struct Try.underlying28 hf
  match ys, hl with
  | [y0, y1, y2, y3], _ =>
    have h0 := hfl 0 _ rfl
    have h1 := hfl 1 _ rfl
    have h2 := hfl 2 _ rfl
    have h3 := hfl 3 _ rfl
    obtain ⟨l⟩ := cs
    rw [hcS] at hsz
    match l, hsz with
    | [c0, c1, c2, c3], _ =>
      simp [hc9, hc3, hcB, Value.cells] at h0 h1 h2 h3
      obtain ⟨nm, e0, rfl, s0⟩ := DataW.trod_string Try.underlying9 h0
      obtain ⟨al, e1, rfl, s1⟩ := DataW.trod_int Try.underlying3 h1
      obtain ⟨sz, e3, rfl, s3⟩ := DataW.trod_int Try.underlying3 h3
      simp at e0 e1 e3
      subst e0 e1 e3
      rcases open_ints Try.underlying26 Try.underlying5 (by kernel_rfl) h2 with ⟨hcs, _⟩ | ⟨x, l, c, zs, hcs, _, hl, hm, hz, _, hcell, hwz⟩
      · simp at hcs
        subst hcs
        exact ⟨nm, al, none, 0, 0, sz, [], rfl, s0, s1, .inl ⟨rfl, rfl, rfl, rfl⟩, s3⟩
      · simp at hcs
        subst hcs
        exact ⟨nm, al, some x, l, c, sz, zs, rfl, s0, s1, .inr ⟨_, rfl, hl, hm, by simpa using hz, hcell, hwz⟩, s3⟩
end Go.Proofs.Ytdjokhokiklamaa
