/-
  NARROWER THAN 'FOR EVERY INPUT', by the rows' own cells (each row's printed sentence says how): RelaNames: laid · RelaCodes: laid · RelaBack: laid · RelaFits: laid · RelaFields: laid.
  DERIVED. THE GIVEN ROWS OF THIS SEAT. 5 by the template 'for every input the law returns true; each argument reads behind the call as it read before'; 0 by the template 'total and deterministic' (their statements: YtbfmichhpcaamaaDoorTotals.lean).
  GIVEN WITH THE SEED: the statements are not yours to turn. If you find one false, say at which input.
  Laid BY PROGRAM, IN A SANDBOX (cutbox-rows.mjs): the forced cells as the released guide's own fill.sh prints them over the translation 9bc414f520cd6ec4… (all of the seat's roots in one cut). By AI agents, Wed Nov 11 2026. No macro, syntax, notation, axiom, sorry.
-/
import Derived.Test.YtbfmichhpcaamaaDoorChecked
import GoSem.Claim
import GoSem.ClaimJoined
import GoSem.ClaimMapViews
import Derived.JoinedTies
import Derived.KernelRfl
namespace Go.Proofs.YtbfmichhpcaamaaDoor
/- THE CELL 'sum', in the pinned program and in every row, IS THE sha256 OF THE DUMP (.gsa) THAT YtbfmichhpcaamaaDoorProg.lean LOADS. Nothing in Lean hashes anything: it is a label: what it is worth is what the hold of that sum in a sandbox is worth. -/
noncomputable def Tryd.pinned : Pinned := { name := "ytbfmichhpcaamaadoor", sum := "9bc414f520cd6ec4b881dab73fbd7569822b23e1a6f54435c2ae5a765bb35bc0", checked := Tryd.checked }
namespace Rows
def none {H : Type} : Left H := { results := [], args := [] }

/- WHAT THE LISTED PACKAGE-LEVEL VARIABLES READ AS WHEN THE CALL BEGINS. Each datum BY PROGRAM (the guide's laid-datum.mjs) off the statement by which the dump's own 'gosem.cut.vars' lays the variable. In a bare row this is a premise. The card (YtbfmichhpcaamaaDoorCards.lean) ties it to the program's text. -/
def laid_quoin_rela_sizes {H : Type} : DataW H := .agg [.lit (.int .i64 8), .lit (.int .i64 4), .lit (.int .i64 4), .lit (.int .i64 8)]

/-- 'quoinlaw11.RelaNames': WHATEVER THE INPUT: true; the input reads as it did. -/
def relaNamesSpec : ChangeSpec := { name := "relaNames", fn := fun _ => fun
  | [] => { results := [.lit (.bool true)], args := [] }
  | _ => none }
def relaNamesRow : OpenClaim := { program := "ytbfmichhpcaamaadoor", sum := "9bc414f520cd6ec4b881dab73fbd7569822b23e1a6f54435c2ae5a765bb35bc0", func := "quoin/quoinlaw11.RelaNames", spec := "relaNames", named := ["quoin/rela.sizes"], apart := false, laid := [("quoin/rela.sizes", laid_quoin_rela_sizes)] }
def RelaNamesSaid : Prop := relaNamesRow.holds Tryd.pinned (OpenSpec.ofChange relaNamesSpec)

/-- ITS FALSE NEIGHBOUR: 'it returns false'. Refute it at one input. -/
def relaNamesWrong : ChangeSpec := { name := "relaNames", fn := fun _ => fun
  | [] => { results := [.lit (.bool false)], args := [] }
  | _ => none }
def RelaNamesWrongFalsely : Prop := relaNamesRow.holds Tryd.pinned (OpenSpec.ofChange relaNamesWrong)

/-- 'quoinlaw11.RelaCodes': WHATEVER THE INPUT: true; the input reads as it did. -/
def relaCodesSpec : ChangeSpec := { name := "relaCodes", fn := fun _ => fun
  | [d1, d2, d3, d4, d5] => { results := [.lit (.bool true)], args := [d1, d2, d3, d4, d5] }
  | _ => none }
def relaCodesRow : OpenClaim := { program := "ytbfmichhpcaamaadoor", sum := "9bc414f520cd6ec4b881dab73fbd7569822b23e1a6f54435c2ae5a765bb35bc0", func := "quoin/quoinlaw11.RelaCodes", spec := "relaCodes", named := ["quoin/rela.sizes"], apart := false, laid := [("quoin/rela.sizes", laid_quoin_rela_sizes)] }
def RelaCodesSaid : Prop := relaCodesRow.holds Tryd.pinned (OpenSpec.ofChange relaCodesSpec)

/-- ITS FALSE NEIGHBOUR: 'it returns false'. Refute it at one input. -/
def relaCodesWrong : ChangeSpec := { name := "relaCodes", fn := fun _ => fun
  | [d1, d2, d3, d4, d5] => { results := [.lit (.bool false)], args := [d1, d2, d3, d4, d5] }
  | _ => none }
def RelaCodesWrongFalsely : Prop := relaCodesRow.holds Tryd.pinned (OpenSpec.ofChange relaCodesWrong)

/-- 'quoinlaw11.RelaBack': WHATEVER THE INPUT: true; the input reads as it did. -/
def relaBackSpec : ChangeSpec := { name := "relaBack", fn := fun _ => fun
  | [d1, d2] => { results := [.lit (.bool true)], args := [d1, d2] }
  | _ => none }
def relaBackRow : OpenClaim := { program := "ytbfmichhpcaamaadoor", sum := "9bc414f520cd6ec4b881dab73fbd7569822b23e1a6f54435c2ae5a765bb35bc0", func := "quoin/quoinlaw11.RelaBack", spec := "relaBack", named := ["quoin/rela.sizes"], apart := false, laid := [("quoin/rela.sizes", laid_quoin_rela_sizes)] }
def RelaBackSaid : Prop := relaBackRow.holds Tryd.pinned (OpenSpec.ofChange relaBackSpec)

/-- ITS FALSE NEIGHBOUR: 'it returns false'. Refute it at one input. -/
def relaBackWrong : ChangeSpec := { name := "relaBack", fn := fun _ => fun
  | [d1, d2] => { results := [.lit (.bool false)], args := [d1, d2] }
  | _ => none }
def RelaBackWrongFalsely : Prop := relaBackRow.holds Tryd.pinned (OpenSpec.ofChange relaBackWrong)

/-- 'quoinlaw11.RelaFits': WHATEVER THE INPUT: true; the input reads as it did. -/
def relaFitsSpec : ChangeSpec := { name := "relaFits", fn := fun _ => fun
  | [d1, d2, d3] => { results := [.lit (.bool true)], args := [d1, d2, d3] }
  | _ => none }
def relaFitsRow : OpenClaim := { program := "ytbfmichhpcaamaadoor", sum := "9bc414f520cd6ec4b881dab73fbd7569822b23e1a6f54435c2ae5a765bb35bc0", func := "quoin/quoinlaw11.RelaFits", spec := "relaFits", named := ["quoin/rela.sizes"], apart := false, laid := [("quoin/rela.sizes", laid_quoin_rela_sizes)] }
def RelaFitsSaid : Prop := relaFitsRow.holds Tryd.pinned (OpenSpec.ofChange relaFitsSpec)

/-- ITS FALSE NEIGHBOUR: 'it returns false'. Refute it at one input. -/
def relaFitsWrong : ChangeSpec := { name := "relaFits", fn := fun _ => fun
  | [d1, d2, d3] => { results := [.lit (.bool false)], args := [d1, d2, d3] }
  | _ => none }
def RelaFitsWrongFalsely : Prop := relaFitsRow.holds Tryd.pinned (OpenSpec.ofChange relaFitsWrong)

/-- 'quoinlaw11.RelaFields': WHATEVER THE INPUT: true; the input reads as it did. -/
def relaFieldsSpec : ChangeSpec := { name := "relaFields", fn := fun _ => fun
  | [d1, d2, d3] => { results := [.lit (.bool true)], args := [d1, d2, d3] }
  | _ => none }
def relaFieldsRow : OpenClaim := { program := "ytbfmichhpcaamaadoor", sum := "9bc414f520cd6ec4b881dab73fbd7569822b23e1a6f54435c2ae5a765bb35bc0", func := "quoin/quoinlaw11.RelaFields", spec := "relaFields", named := ["quoin/rela.sizes"], apart := false, laid := [("quoin/rela.sizes", laid_quoin_rela_sizes)] }
def RelaFieldsSaid : Prop := relaFieldsRow.holds Tryd.pinned (OpenSpec.ofChange relaFieldsSpec)

/-- ITS FALSE NEIGHBOUR: 'it returns false'. Refute it at one input. -/
def relaFieldsWrong : ChangeSpec := { name := "relaFields", fn := fun _ => fun
  | [d1, d2, d3] => { results := [.lit (.bool false)], args := [d1, d2, d3] }
  | _ => none }
def RelaFieldsWrongFalsely : Prop := relaFieldsRow.holds Tryd.pinned (OpenSpec.ofChange relaFieldsWrong)

/- THE SECOND FORM. 'bulk': how many values and letters a reading holds, each counted each time it is reached (what is shared counts as often as it is met; a slice's spare places count too). A statement '..UptoSaid' is the law's where the arguments, and the package variables that the reading takes, are together of bulk at most 1048576: NARROWER than '..Said'. Prove '..Said' where nothing that the law and all that it calls make is longer than what came in: it says more and counts as full. Else prove '..UptoSaid'. A law counts once. -/
mutual
def uptoBulk {H : Type} : DataW H → Nat
  | .lit (.string bytes) => bytes.length + 1
  | .lit _ => 1
  | .nil => 1
  | .ptr d => uptoBulk d + 1
  | .slice elems spare => uptoBulkAll elems + uptoBulkAll spare + 1
  | .agg parts => uptoBulkAll parts + 1
  | .iface _ d => uptoBulk d + 1
  | .map entries => uptoBulkEntries entries + 1
  | .held _ => 1
def uptoBulkAll {H : Type} : List (DataW H) → Nat
  | [] => 0
  | d :: r => uptoBulk d + uptoBulkAll r
def uptoBulkEntries {H : Type} : List (Lit × DataW H) → Nat
  | [] => 0
  | x :: r => uptoBulkEntry x + uptoBulkEntries r
def uptoBulkEntry {H : Type} : Lit × DataW H → Nat
  | (.string bytes, d) => bytes.length + uptoBulk d + 1
  | (_, d) => uptoBulk d + 1
 end
def uptoSmall : (H : Type) → List (DataW H) → Bool := fun _ ds => decide (uptoBulkAll ds ≤ 1048576)
def OpenSpec.upto (s : _root_.Go.ChangeSpec) : _root_.Go.OpenSpec := { _root_.Go.OpenSpec.ofChange s with cond := some uptoSmall }

/-- 'quoinlaw11.RelaNames', WHERE WHAT IT READS IS OF BULK AT MOST 1048576: true; the input reads as it did. -/
def relaNamesUptoRow : OpenClaim := { program := "ytbfmichhpcaamaadoor", sum := "9bc414f520cd6ec4b881dab73fbd7569822b23e1a6f54435c2ae5a765bb35bc0", func := "quoin/quoinlaw11.RelaNames", spec := "relaNames", named := ["quoin/rela.sizes"], apart := false, laid := [("quoin/rela.sizes", laid_quoin_rela_sizes)], narrowed := true }
def RelaNamesUptoSaid : Prop := relaNamesUptoRow.holds Tryd.pinned (OpenSpec.upto relaNamesSpec)

/-- 'quoinlaw11.RelaCodes', WHERE WHAT IT READS IS OF BULK AT MOST 1048576: true; the input reads as it did. -/
def relaCodesUptoRow : OpenClaim := { program := "ytbfmichhpcaamaadoor", sum := "9bc414f520cd6ec4b881dab73fbd7569822b23e1a6f54435c2ae5a765bb35bc0", func := "quoin/quoinlaw11.RelaCodes", spec := "relaCodes", named := ["quoin/rela.sizes"], apart := false, laid := [("quoin/rela.sizes", laid_quoin_rela_sizes)], narrowed := true }
def RelaCodesUptoSaid : Prop := relaCodesUptoRow.holds Tryd.pinned (OpenSpec.upto relaCodesSpec)

/-- 'quoinlaw11.RelaBack', WHERE WHAT IT READS IS OF BULK AT MOST 1048576: true; the input reads as it did. -/
def relaBackUptoRow : OpenClaim := { program := "ytbfmichhpcaamaadoor", sum := "9bc414f520cd6ec4b881dab73fbd7569822b23e1a6f54435c2ae5a765bb35bc0", func := "quoin/quoinlaw11.RelaBack", spec := "relaBack", named := ["quoin/rela.sizes"], apart := false, laid := [("quoin/rela.sizes", laid_quoin_rela_sizes)], narrowed := true }
def RelaBackUptoSaid : Prop := relaBackUptoRow.holds Tryd.pinned (OpenSpec.upto relaBackSpec)

/-- 'quoinlaw11.RelaFits', WHERE WHAT IT READS IS OF BULK AT MOST 1048576: true; the input reads as it did. -/
def relaFitsUptoRow : OpenClaim := { program := "ytbfmichhpcaamaadoor", sum := "9bc414f520cd6ec4b881dab73fbd7569822b23e1a6f54435c2ae5a765bb35bc0", func := "quoin/quoinlaw11.RelaFits", spec := "relaFits", named := ["quoin/rela.sizes"], apart := false, laid := [("quoin/rela.sizes", laid_quoin_rela_sizes)], narrowed := true }
def RelaFitsUptoSaid : Prop := relaFitsUptoRow.holds Tryd.pinned (OpenSpec.upto relaFitsSpec)

/-- 'quoinlaw11.RelaFields', WHERE WHAT IT READS IS OF BULK AT MOST 1048576: true; the input reads as it did. -/
def relaFieldsUptoRow : OpenClaim := { program := "ytbfmichhpcaamaadoor", sum := "9bc414f520cd6ec4b881dab73fbd7569822b23e1a6f54435c2ae5a765bb35bc0", func := "quoin/quoinlaw11.RelaFields", spec := "relaFields", named := ["quoin/rela.sizes"], apart := false, laid := [("quoin/rela.sizes", laid_quoin_rela_sizes)], narrowed := true }
def RelaFieldsUptoSaid : Prop := relaFieldsUptoRow.holds Tryd.pinned (OpenSpec.upto relaFieldsSpec)

end Rows
end Go.Proofs.YtbfmichhpcaamaaDoor
