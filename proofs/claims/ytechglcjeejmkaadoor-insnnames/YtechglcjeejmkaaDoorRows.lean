/-
  NARROWER THAN 'FOR EVERY INPUT', by the rows' own cells (each row's printed sentence says how): InsnNames: laid · InsnTells: laid · InsnAlone: laid · InsnLess: laid · InsnAll: laid.
  DERIVED. THE GIVEN ROWS OF THIS SEAT. 5 by the template 'for every input the law returns true; each argument reads behind the call as it read before'; 0 by the template 'total and deterministic' (their statements: YtechglcjeejmkaaDoorTotals.lean).
  GIVEN WITH THE SEED: the statements are not yours to turn. If you find one false, say at which input.
  Laid BY PROGRAM, IN A SANDBOX (cutbox-rows.mjs): the forced cells as the released guide's own fill.sh prints them over the translation 312fa0ab6ecebc0c… (all of the seat's roots in one cut). By AI agents, Wed Nov 11 2026. No macro, syntax, notation, axiom, sorry.
-/
import Derived.Test.YtechglcjeejmkaaDoorChecked
import GoSem.Claim
import GoSem.ClaimJoined
import GoSem.ClaimMapViews
import Derived.JoinedTies
import Derived.KernelRfl
namespace Go.Proofs.YtechglcjeejmkaaDoor
/- THE CELL 'sum', in the pinned program and in every row, IS THE sha256 OF THE DUMP (.gsa) THAT YtechglcjeejmkaaDoorProg.lean LOADS. Nothing in Lean hashes anything: it is a label: what it is worth is what the hold of that sum in a sandbox is worth. -/
noncomputable def Tryd.pinned : Pinned := { name := "ytechglcjeejmkaadoor", sum := "312fa0ab6ecebc0c5a52f7181bb1bd42eca05a827ecfd547ad0d958278ab7200", checked := Tryd.checked }
namespace Rows
def none {H : Type} : Left H := { results := [], args := [] }

/- WHAT THE LISTED PACKAGE-LEVEL VARIABLES READ AS WHEN THE CALL BEGINS. Each datum BY PROGRAM (the guide's laid-datum.mjs) off the statement by which the dump's own 'gosem.cut.vars' lays the variable. In a bare row this is a premise. The card (YtechglcjeejmkaaDoorCards.lean) ties it to the program's text. -/
def laid_quoin_insn_names {H : Type} : DataW H := .agg [.lit (.string [108, 117, 105]), .lit (.string [97, 117, 105, 112, 99]), .lit (.string [106, 97, 108]), .lit (.string [106, 97, 108, 114]), .lit (.string [98, 101, 113]), .lit (.string [98, 110, 101]), .lit (.string [98, 108, 116]), .lit (.string [98, 103, 101]), .lit (.string [98, 108, 116, 117]), .lit (.string [98, 103, 101, 117]), .lit (.string [108, 98]), .lit (.string [108, 104]), .lit (.string [108, 119]), .lit (.string [108, 100]), .lit (.string [108, 98, 117]), .lit (.string [108, 104, 117]), .lit (.string [108, 119, 117]), .lit (.string [115, 98]), .lit (.string [115, 104]), .lit (.string [115, 119]), .lit (.string [115, 100]), .lit (.string [97, 100, 100, 105]), .lit (.string [115, 108, 116, 105]), .lit (.string [115, 108, 116, 105, 117]), .lit (.string [120, 111, 114, 105]), .lit (.string [111, 114, 105]), .lit (.string [97, 110, 100, 105]), .lit (.string [115, 108, 108, 105]), .lit (.string [115, 114, 108, 105]), .lit (.string [115, 114, 97, 105]), .lit (.string [97, 100, 100]), .lit (.string [115, 117, 98]), .lit (.string [115, 108, 108]), .lit (.string [115, 108, 116]), .lit (.string [115, 108, 116, 117]), .lit (.string [120, 111, 114]), .lit (.string [115, 114, 108]), .lit (.string [115, 114, 97]), .lit (.string [111, 114]), .lit (.string [97, 110, 100]), .lit (.string [97, 100, 100, 105, 119]), .lit (.string [115, 108, 108, 105, 119]), .lit (.string [115, 114, 108, 105, 119]), .lit (.string [115, 114, 97, 105, 119]), .lit (.string [97, 100, 100, 119]), .lit (.string [115, 117, 98, 119]), .lit (.string [115, 108, 108, 119]), .lit (.string [115, 114, 108, 119]), .lit (.string [115, 114, 97, 119]), .lit (.string [109, 117, 108]), .lit (.string [109, 117, 108, 104]), .lit (.string [109, 117, 108, 104, 115, 117]), .lit (.string [109, 117, 108, 104, 117]), .lit (.string [100, 105, 118]), .lit (.string [100, 105, 118, 117]), .lit (.string [114, 101, 109]), .lit (.string [114, 101, 109, 117]), .lit (.string [109, 117, 108, 119]), .lit (.string [100, 105, 118, 119]), .lit (.string [100, 105, 118, 117, 119]), .lit (.string [114, 101, 109, 119]), .lit (.string [114, 101, 109, 117, 119]), .lit (.string [102, 101, 110, 99, 101]), .lit (.string [102, 101, 110, 99, 101, 46, 105]), .lit (.string [101, 99, 97, 108, 108]), .lit (.string [101, 98, 114, 101, 97, 107]), .lit (.string [99, 115, 114, 114, 119]), .lit (.string [99, 115, 114, 114, 115]), .lit (.string [99, 115, 114, 114, 99]), .lit (.string [99, 115, 114, 114, 119, 105]), .lit (.string [99, 115, 114, 114, 115, 105]), .lit (.string [99, 115, 114, 114, 99, 105]), .lit (.string [108, 114, 46, 119]), .lit (.string [115, 99, 46, 119]), .lit (.string [97, 109, 111, 115, 119, 97, 112, 46, 119]), .lit (.string [97, 109, 111, 97, 100, 100, 46, 119]), .lit (.string [97, 109, 111, 120, 111, 114, 46, 119]), .lit (.string [97, 109, 111, 97, 110, 100, 46, 119]), .lit (.string [97, 109, 111, 111, 114, 46, 119]), .lit (.string [97, 109, 111, 109, 105, 110, 46, 119]), .lit (.string [97, 109, 111, 109, 97, 120, 46, 119]), .lit (.string [97, 109, 111, 109, 105, 110, 117, 46, 119]), .lit (.string [97, 109, 111, 109, 97, 120, 117, 46, 119]), .lit (.string [108, 114, 46, 100]), .lit (.string [115, 99, 46, 100]), .lit (.string [97, 109, 111, 115, 119, 97, 112, 46, 100]), .lit (.string [97, 109, 111, 97, 100, 100, 46, 100]), .lit (.string [97, 109, 111, 120, 111, 114, 46, 100]), .lit (.string [97, 109, 111, 97, 110, 100, 46, 100]), .lit (.string [97, 109, 111, 111, 114, 46, 100]), .lit (.string [97, 109, 111, 109, 105, 110, 46, 100]), .lit (.string [97, 109, 111, 109, 97, 120, 46, 100]), .lit (.string [97, 109, 111, 109, 105, 110, 117, 46, 100]), .lit (.string [97, 109, 111, 109, 97, 120, 117, 46, 100])]

/-- 'quoinlaw02.InsnNames': WHATEVER THE INPUT: true; the input reads as it did. -/
def insnNamesSpec : ChangeSpec := { name := "insnNames", fn := fun _ => fun
  | [] => { results := [.lit (.bool true)], args := [] }
  | _ => none }
def insnNamesRow : OpenClaim := { program := "ytechglcjeejmkaadoor", sum := "312fa0ab6ecebc0c5a52f7181bb1bd42eca05a827ecfd547ad0d958278ab7200", func := "quoin/quoinlaw02.InsnNames", spec := "insnNames", named := ["quoin/insn.names"], apart := false, laid := [("quoin/insn.names", laid_quoin_insn_names)] }
def InsnNamesSaid : Prop := insnNamesRow.holds Tryd.pinned (OpenSpec.ofChange insnNamesSpec)

/-- ITS FALSE NEIGHBOUR: 'it returns false'. Refute it at one input. -/
def insnNamesWrong : ChangeSpec := { name := "insnNames", fn := fun _ => fun
  | [] => { results := [.lit (.bool false)], args := [] }
  | _ => none }
def InsnNamesWrongFalsely : Prop := insnNamesRow.holds Tryd.pinned (OpenSpec.ofChange insnNamesWrong)

/-- 'quoinlaw02.InsnTells': WHATEVER THE INPUT: true; the input reads as it did. -/
def insnTellsSpec : ChangeSpec := { name := "insnTells", fn := fun _ => fun
  | [d1, d2, d3] => { results := [.lit (.bool true)], args := [d1, d2, d3] }
  | _ => none }
def insnTellsRow : OpenClaim := { program := "ytechglcjeejmkaadoor", sum := "312fa0ab6ecebc0c5a52f7181bb1bd42eca05a827ecfd547ad0d958278ab7200", func := "quoin/quoinlaw02.InsnTells", spec := "insnTells", named := ["quoin/insn.names"], apart := false, laid := [("quoin/insn.names", laid_quoin_insn_names)] }
def InsnTellsSaid : Prop := insnTellsRow.holds Tryd.pinned (OpenSpec.ofChange insnTellsSpec)

/-- ITS FALSE NEIGHBOUR: 'it returns false'. Refute it at one input. -/
def insnTellsWrong : ChangeSpec := { name := "insnTells", fn := fun _ => fun
  | [d1, d2, d3] => { results := [.lit (.bool false)], args := [d1, d2, d3] }
  | _ => none }
def InsnTellsWrongFalsely : Prop := insnTellsRow.holds Tryd.pinned (OpenSpec.ofChange insnTellsWrong)

/-- 'quoinlaw02.InsnAlone': WHATEVER THE INPUT: true; the input reads as it did. -/
def insnAloneSpec : ChangeSpec := { name := "insnAlone", fn := fun _ => fun
  | [d1, d2] => { results := [.lit (.bool true)], args := [d1, d2] }
  | _ => none }
def insnAloneRow : OpenClaim := { program := "ytechglcjeejmkaadoor", sum := "312fa0ab6ecebc0c5a52f7181bb1bd42eca05a827ecfd547ad0d958278ab7200", func := "quoin/quoinlaw02.InsnAlone", spec := "insnAlone", named := ["quoin/insn.names"], apart := false, laid := [("quoin/insn.names", laid_quoin_insn_names)] }
def InsnAloneSaid : Prop := insnAloneRow.holds Tryd.pinned (OpenSpec.ofChange insnAloneSpec)

/-- ITS FALSE NEIGHBOUR: 'it returns false'. Refute it at one input. -/
def insnAloneWrong : ChangeSpec := { name := "insnAlone", fn := fun _ => fun
  | [d1, d2] => { results := [.lit (.bool false)], args := [d1, d2] }
  | _ => none }
def InsnAloneWrongFalsely : Prop := insnAloneRow.holds Tryd.pinned (OpenSpec.ofChange insnAloneWrong)

/-- 'quoinlaw02.InsnLess': WHATEVER THE INPUT: true; the input reads as it did. -/
def insnLessSpec : ChangeSpec := { name := "insnLess", fn := fun _ => fun
  | [d1, d2, d3, d4] => { results := [.lit (.bool true)], args := [d1, d2, d3, d4] }
  | _ => none }
def insnLessRow : OpenClaim := { program := "ytechglcjeejmkaadoor", sum := "312fa0ab6ecebc0c5a52f7181bb1bd42eca05a827ecfd547ad0d958278ab7200", func := "quoin/quoinlaw02.InsnLess", spec := "insnLess", named := ["quoin/insn.names"], apart := false, laid := [("quoin/insn.names", laid_quoin_insn_names)] }
def InsnLessSaid : Prop := insnLessRow.holds Tryd.pinned (OpenSpec.ofChange insnLessSpec)

/-- ITS FALSE NEIGHBOUR: 'it returns false'. Refute it at one input. -/
def insnLessWrong : ChangeSpec := { name := "insnLess", fn := fun _ => fun
  | [d1, d2, d3, d4] => { results := [.lit (.bool false)], args := [d1, d2, d3, d4] }
  | _ => none }
def InsnLessWrongFalsely : Prop := insnLessRow.holds Tryd.pinned (OpenSpec.ofChange insnLessWrong)

/-- 'quoinlaw02.InsnAll': WHATEVER THE INPUT: true; the input reads as it did. -/
def insnAllSpec : ChangeSpec := { name := "insnAll", fn := fun _ => fun
  | [d] => { results := [.lit (.bool true)], args := [d] }
  | _ => none }
def insnAllRow : OpenClaim := { program := "ytechglcjeejmkaadoor", sum := "312fa0ab6ecebc0c5a52f7181bb1bd42eca05a827ecfd547ad0d958278ab7200", func := "quoin/quoinlaw02.InsnAll", spec := "insnAll", named := ["quoin/insn.names"], apart := false, laid := [("quoin/insn.names", laid_quoin_insn_names)] }
def InsnAllSaid : Prop := insnAllRow.holds Tryd.pinned (OpenSpec.ofChange insnAllSpec)

/-- ITS FALSE NEIGHBOUR: 'it returns false'. Refute it at one input. -/
def insnAllWrong : ChangeSpec := { name := "insnAll", fn := fun _ => fun
  | [d] => { results := [.lit (.bool false)], args := [d] }
  | _ => none }
def InsnAllWrongFalsely : Prop := insnAllRow.holds Tryd.pinned (OpenSpec.ofChange insnAllWrong)

/- THE SECOND FORM. 'bulk': how many values and letters a reading holds, each counted each time it is reached (what is shared counts as often as it is met; a slice's spare places count too). A statement '..UptoSaid' is the law's where the arguments, and the package variables that the reading takes, are together of bulk at most 1048576: NARROWER than '..Said'. Prove '..Said' where nothing that the law and all that it calls make is longer than what came in: it says more and counts as full. Else prove '..UptoSaid'. A law counts once. -/
mutual
def uptoBulk {H : Type} : DataW H → Nat
  | .lit (.string bytes) => bytes.length + 1
  | .lit _ => 1
  | .nil => 1
  | .ptr d => uptoBulk d + 1
  | .slice elems spare => uptoBulkAll elems + uptoBulkAll spare + 1
  | .agg parts => uptoBulkAll parts + 1
  | .iface _ d => uptoBulk d + 1
  | .map entries => uptoBulkEntries entries + 1
  | .held _ => 1
def uptoBulkAll {H : Type} : List (DataW H) → Nat
  | [] => 0
  | d :: r => uptoBulk d + uptoBulkAll r
def uptoBulkEntries {H : Type} : List (Lit × DataW H) → Nat
  | [] => 0
  | x :: r => uptoBulkEntry x + uptoBulkEntries r
def uptoBulkEntry {H : Type} : Lit × DataW H → Nat
  | (.string bytes, d) => bytes.length + uptoBulk d + 1
  | (_, d) => uptoBulk d + 1
 end
def uptoSmall : (H : Type) → List (DataW H) → Bool := fun _ ds => decide (uptoBulkAll ds ≤ 1048576)
def OpenSpec.upto (s : _root_.Go.ChangeSpec) : _root_.Go.OpenSpec := { _root_.Go.OpenSpec.ofChange s with cond := some uptoSmall }

/-- 'quoinlaw02.InsnNames', WHERE WHAT IT READS IS OF BULK AT MOST 1048576: true; the input reads as it did. -/
def insnNamesUptoRow : OpenClaim := { program := "ytechglcjeejmkaadoor", sum := "312fa0ab6ecebc0c5a52f7181bb1bd42eca05a827ecfd547ad0d958278ab7200", func := "quoin/quoinlaw02.InsnNames", spec := "insnNames", named := ["quoin/insn.names"], apart := false, laid := [("quoin/insn.names", laid_quoin_insn_names)], narrowed := true }
def InsnNamesUptoSaid : Prop := insnNamesUptoRow.holds Tryd.pinned (OpenSpec.upto insnNamesSpec)

/-- 'quoinlaw02.InsnTells', WHERE WHAT IT READS IS OF BULK AT MOST 1048576: true; the input reads as it did. -/
def insnTellsUptoRow : OpenClaim := { program := "ytechglcjeejmkaadoor", sum := "312fa0ab6ecebc0c5a52f7181bb1bd42eca05a827ecfd547ad0d958278ab7200", func := "quoin/quoinlaw02.InsnTells", spec := "insnTells", named := ["quoin/insn.names"], apart := false, laid := [("quoin/insn.names", laid_quoin_insn_names)], narrowed := true }
def InsnTellsUptoSaid : Prop := insnTellsUptoRow.holds Tryd.pinned (OpenSpec.upto insnTellsSpec)

/-- 'quoinlaw02.InsnAlone', WHERE WHAT IT READS IS OF BULK AT MOST 1048576: true; the input reads as it did. -/
def insnAloneUptoRow : OpenClaim := { program := "ytechglcjeejmkaadoor", sum := "312fa0ab6ecebc0c5a52f7181bb1bd42eca05a827ecfd547ad0d958278ab7200", func := "quoin/quoinlaw02.InsnAlone", spec := "insnAlone", named := ["quoin/insn.names"], apart := false, laid := [("quoin/insn.names", laid_quoin_insn_names)], narrowed := true }
def InsnAloneUptoSaid : Prop := insnAloneUptoRow.holds Tryd.pinned (OpenSpec.upto insnAloneSpec)

/-- 'quoinlaw02.InsnLess', WHERE WHAT IT READS IS OF BULK AT MOST 1048576: true; the input reads as it did. -/
def insnLessUptoRow : OpenClaim := { program := "ytechglcjeejmkaadoor", sum := "312fa0ab6ecebc0c5a52f7181bb1bd42eca05a827ecfd547ad0d958278ab7200", func := "quoin/quoinlaw02.InsnLess", spec := "insnLess", named := ["quoin/insn.names"], apart := false, laid := [("quoin/insn.names", laid_quoin_insn_names)], narrowed := true }
def InsnLessUptoSaid : Prop := insnLessUptoRow.holds Tryd.pinned (OpenSpec.upto insnLessSpec)

/-- 'quoinlaw02.InsnAll', WHERE WHAT IT READS IS OF BULK AT MOST 1048576: true; the input reads as it did. -/
def insnAllUptoRow : OpenClaim := { program := "ytechglcjeejmkaadoor", sum := "312fa0ab6ecebc0c5a52f7181bb1bd42eca05a827ecfd547ad0d958278ab7200", func := "quoin/quoinlaw02.InsnAll", spec := "insnAll", named := ["quoin/insn.names"], apart := false, laid := [("quoin/insn.names", laid_quoin_insn_names)], narrowed := true }
def InsnAllUptoSaid : Prop := insnAllUptoRow.holds Tryd.pinned (OpenSpec.upto insnAllSpec)

end Rows
end Go.Proofs.YtechglcjeejmkaaDoor
