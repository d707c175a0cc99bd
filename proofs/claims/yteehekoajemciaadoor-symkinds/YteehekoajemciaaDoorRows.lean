/-
  NARROWER THAN 'FOR EVERY INPUT', by the rows' own cells (each row's printed sentence says how): SymNames: laid · SymCodes: laid · SymBack: laid · SymWhere: laid · SymUnlike: laid · SymKinds: laid.
  DERIVED. THE GIVEN ROWS OF THIS SEAT. 6 by the template 'for every input the law returns true; each argument reads behind the call as it read before'; 0 by the template 'total and deterministic' (their statements: YteehekoajemciaaDoorTotals.lean).
  GIVEN WITH THE SEED: the statements are not yours to turn. If you find one false, say at which input.
  Laid BY PROGRAM, IN A SANDBOX (cutbox-rows.mjs): the forced cells as the released guide's own fill.sh prints them over the translation 3f06fd918167aaff… (all of the seat's roots in one cut). By AI agents, Wed Nov 11 2026. No macro, syntax, notation, axiom, sorry.
-/
import Derived.Test.YteehekoajemciaaDoorChecked
import GoSem.Claim
import GoSem.ClaimJoined
import GoSem.ClaimMapViews
import Derived.JoinedTies
import Derived.KernelRfl
namespace Go.Proofs.YteehekoajemciaaDoor
/- THE CELL 'sum', in the pinned program and in every row, IS THE sha256 OF THE DUMP (.gsa) THAT YteehekoajemciaaDoorProg.lean LOADS. Nothing in Lean hashes anything: it is a label: what it is worth is what the hold of that sum in a sandbox is worth. -/
noncomputable def Tryd.pinned : Pinned := { name := "yteehekoajemciaadoor", sum := "3f06fd918167aaff3efe7dafd959c7e1c5cd4961b7ff1c57680a7dbda474c227", checked := Tryd.checked }
namespace Rows
def none {H : Type} : Left H := { results := [], args := [] }

/- WHAT THE LISTED PACKAGE-LEVEL VARIABLES READ AS WHEN THE CALL BEGINS. Each datum BY PROGRAM (the guide's laid-datum.mjs) off the statement by which the dump's own 'gosem.cut.vars' lays the variable. In a bare row this is a premise. The card (YteehekoajemciaaDoorCards.lean) ties it to the program's text. -/
def laid_quoin_sym_sizes {H : Type} : DataW H := .agg [.lit (.int .i64 4), .lit (.int .i64 1), .lit (.int .i64 1), .lit (.int .i64 2), .lit (.int .i64 8), .lit (.int .i64 8)]

/-- 'quoinlaw10.SymNames': WHATEVER THE INPUT: true; the input reads as it did. -/
def symNamesSpec : ChangeSpec := { name := "symNames", fn := fun _ => fun
  | [] => { results := [.lit (.bool true)], args := [] }
  | _ => none }
def symNamesRow : OpenClaim := { program := "yteehekoajemciaadoor", sum := "3f06fd918167aaff3efe7dafd959c7e1c5cd4961b7ff1c57680a7dbda474c227", func := "quoin/quoinlaw10.SymNames", spec := "symNames", named := ["quoin/sym.sizes"], apart := false, laid := [("quoin/sym.sizes", laid_quoin_sym_sizes)] }
def SymNamesSaid : Prop := symNamesRow.holds Tryd.pinned (OpenSpec.ofChange symNamesSpec)

/-- ITS FALSE NEIGHBOUR: 'it returns false'. Refute it at one input. -/
def symNamesWrong : ChangeSpec := { name := "symNames", fn := fun _ => fun
  | [] => { results := [.lit (.bool false)], args := [] }
  | _ => none }
def SymNamesWrongFalsely : Prop := symNamesRow.holds Tryd.pinned (OpenSpec.ofChange symNamesWrong)

/-- 'quoinlaw10.SymCodes': WHATEVER THE INPUT: true; the input reads as it did. -/
def symCodesSpec : ChangeSpec := { name := "symCodes", fn := fun _ => fun
  | [d1, d2, d3, d4] => { results := [.lit (.bool true)], args := [d1, d2, d3, d4] }
  | _ => none }
def symCodesRow : OpenClaim := { program := "yteehekoajemciaadoor", sum := "3f06fd918167aaff3efe7dafd959c7e1c5cd4961b7ff1c57680a7dbda474c227", func := "quoin/quoinlaw10.SymCodes", spec := "symCodes", named := ["quoin/sym.sizes"], apart := false, laid := [("quoin/sym.sizes", laid_quoin_sym_sizes)] }
def SymCodesSaid : Prop := symCodesRow.holds Tryd.pinned (OpenSpec.ofChange symCodesSpec)

/-- ITS FALSE NEIGHBOUR: 'it returns false'. Refute it at one input. -/
def symCodesWrong : ChangeSpec := { name := "symCodes", fn := fun _ => fun
  | [d1, d2, d3, d4] => { results := [.lit (.bool false)], args := [d1, d2, d3, d4] }
  | _ => none }
def SymCodesWrongFalsely : Prop := symCodesRow.holds Tryd.pinned (OpenSpec.ofChange symCodesWrong)

/-- 'quoinlaw10.SymBack': WHATEVER THE INPUT: true; the input reads as it did. -/
def symBackSpec : ChangeSpec := { name := "symBack", fn := fun _ => fun
  | [d1, d2, d3] => { results := [.lit (.bool true)], args := [d1, d2, d3] }
  | _ => none }
def symBackRow : OpenClaim := { program := "yteehekoajemciaadoor", sum := "3f06fd918167aaff3efe7dafd959c7e1c5cd4961b7ff1c57680a7dbda474c227", func := "quoin/quoinlaw10.SymBack", spec := "symBack", named := ["quoin/sym.sizes"], apart := false, laid := [("quoin/sym.sizes", laid_quoin_sym_sizes)] }
def SymBackSaid : Prop := symBackRow.holds Tryd.pinned (OpenSpec.ofChange symBackSpec)

/-- ITS FALSE NEIGHBOUR: 'it returns false'. Refute it at one input. -/
def symBackWrong : ChangeSpec := { name := "symBack", fn := fun _ => fun
  | [d1, d2, d3] => { results := [.lit (.bool false)], args := [d1, d2, d3] }
  | _ => none }
def SymBackWrongFalsely : Prop := symBackRow.holds Tryd.pinned (OpenSpec.ofChange symBackWrong)

/-- 'quoinlaw10.SymWhere': WHATEVER THE INPUT: true; the input reads as it did. -/
def symWhereSpec : ChangeSpec := { name := "symWhere", fn := fun _ => fun
  | [d1, d2] => { results := [.lit (.bool true)], args := [d1, d2] }
  | _ => none }
def symWhereRow : OpenClaim := { program := "yteehekoajemciaadoor", sum := "3f06fd918167aaff3efe7dafd959c7e1c5cd4961b7ff1c57680a7dbda474c227", func := "quoin/quoinlaw10.SymWhere", spec := "symWhere", named := ["quoin/sym.sizes"], apart := false, laid := [("quoin/sym.sizes", laid_quoin_sym_sizes)] }
def SymWhereSaid : Prop := symWhereRow.holds Tryd.pinned (OpenSpec.ofChange symWhereSpec)

/-- ITS FALSE NEIGHBOUR: 'it returns false'. Refute it at one input. -/
def symWhereWrong : ChangeSpec := { name := "symWhere", fn := fun _ => fun
  | [d1, d2] => { results := [.lit (.bool false)], args := [d1, d2] }
  | _ => none }
def SymWhereWrongFalsely : Prop := symWhereRow.holds Tryd.pinned (OpenSpec.ofChange symWhereWrong)

/-- 'quoinlaw10.SymUnlike': WHATEVER THE INPUT: true; the input reads as it did. -/
def symUnlikeSpec : ChangeSpec := { name := "symUnlike", fn := fun _ => fun
  | [d1, d2, d3, d4] => { results := [.lit (.bool true)], args := [d1, d2, d3, d4] }
  | _ => none }
def symUnlikeRow : OpenClaim := { program := "yteehekoajemciaadoor", sum := "3f06fd918167aaff3efe7dafd959c7e1c5cd4961b7ff1c57680a7dbda474c227", func := "quoin/quoinlaw10.SymUnlike", spec := "symUnlike", named := ["quoin/sym.sizes"], apart := false, laid := [("quoin/sym.sizes", laid_quoin_sym_sizes)] }
def SymUnlikeSaid : Prop := symUnlikeRow.holds Tryd.pinned (OpenSpec.ofChange symUnlikeSpec)

/-- ITS FALSE NEIGHBOUR: 'it returns false'. Refute it at one input. -/
def symUnlikeWrong : ChangeSpec := { name := "symUnlike", fn := fun _ => fun
  | [d1, d2, d3, d4] => { results := [.lit (.bool false)], args := [d1, d2, d3, d4] }
  | _ => none }
def SymUnlikeWrongFalsely : Prop := symUnlikeRow.holds Tryd.pinned (OpenSpec.ofChange symUnlikeWrong)

/-- 'quoinlaw10.SymKinds': WHATEVER THE INPUT: true; the input reads as it did. -/
def symKindsSpec : ChangeSpec := { name := "symKinds", fn := fun _ => fun
  | [d] => { results := [.lit (.bool true)], args := [d] }
  | _ => none }
def symKindsRow : OpenClaim := { program := "yteehekoajemciaadoor", sum := "3f06fd918167aaff3efe7dafd959c7e1c5cd4961b7ff1c57680a7dbda474c227", func := "quoin/quoinlaw10.SymKinds", spec := "symKinds", named := ["quoin/sym.sizes"], apart := false, laid := [("quoin/sym.sizes", laid_quoin_sym_sizes)] }
def SymKindsSaid : Prop := symKindsRow.holds Tryd.pinned (OpenSpec.ofChange symKindsSpec)

/-- ITS FALSE NEIGHBOUR: 'it returns false'. Refute it at one input. -/
def symKindsWrong : ChangeSpec := { name := "symKinds", fn := fun _ => fun
  | [d] => { results := [.lit (.bool false)], args := [d] }
  | _ => none }
def SymKindsWrongFalsely : Prop := symKindsRow.holds Tryd.pinned (OpenSpec.ofChange symKindsWrong)

/- THE SECOND FORM. 'bulk': how many values and letters a reading holds, each counted each time it is reached (what is shared counts as often as it is met; a slice's spare places count too). A statement '..UptoSaid' is the law's where the arguments, and the package variables that the reading takes, are together of bulk at most 1048576: NARROWER than '..Said'. Prove '..Said' where nothing that the law and all that it calls make is longer than what came in: it says more and counts as full. Else prove '..UptoSaid'. A law counts once. -/
mutual
def uptoBulk {H : Type} : DataW H → Nat
  | .lit (.string bytes) => bytes.length + 1
  | .lit _ => 1
  | .nil => 1
  | .ptr d => uptoBulk d + 1
  | .slice elems spare => uptoBulkAll elems + uptoBulkAll spare + 1
  | .agg parts => uptoBulkAll parts + 1
  | .iface _ d => uptoBulk d + 1
  | .map entries => uptoBulkEntries entries + 1
  | .held _ => 1
def uptoBulkAll {H : Type} : List (DataW H) → Nat
  | [] => 0
  | d :: r => uptoBulk d + uptoBulkAll r
def uptoBulkEntries {H : Type} : List (Lit × DataW H) → Nat
  | [] => 0
  | x :: r => uptoBulkEntry x + uptoBulkEntries r
def uptoBulkEntry {H : Type} : Lit × DataW H → Nat
  | (.string bytes, d) => bytes.length + uptoBulk d + 1
  | (_, d) => uptoBulk d + 1
 end
def uptoSmall : (H : Type) → List (DataW H) → Bool := fun _ ds => decide (uptoBulkAll ds ≤ 1048576)
def OpenSpec.upto (s : _root_.Go.ChangeSpec) : _root_.Go.OpenSpec := { _root_.Go.OpenSpec.ofChange s with cond := some uptoSmall }

/-- 'quoinlaw10.SymNames', WHERE WHAT IT READS IS OF BULK AT MOST 1048576: true; the input reads as it did. -/
def symNamesUptoRow : OpenClaim := { program := "yteehekoajemciaadoor", sum := "3f06fd918167aaff3efe7dafd959c7e1c5cd4961b7ff1c57680a7dbda474c227", func := "quoin/quoinlaw10.SymNames", spec := "symNames", named := ["quoin/sym.sizes"], apart := false, laid := [("quoin/sym.sizes", laid_quoin_sym_sizes)], narrowed := true }
def SymNamesUptoSaid : Prop := symNamesUptoRow.holds Tryd.pinned (OpenSpec.upto symNamesSpec)

/-- 'quoinlaw10.SymCodes', WHERE WHAT IT READS IS OF BULK AT MOST 1048576: true; the input reads as it did. -/
def symCodesUptoRow : OpenClaim := { program := "yteehekoajemciaadoor", sum := "3f06fd918167aaff3efe7dafd959c7e1c5cd4961b7ff1c57680a7dbda474c227", func := "quoin/quoinlaw10.SymCodes", spec := "symCodes", named := ["quoin/sym.sizes"], apart := false, laid := [("quoin/sym.sizes", laid_quoin_sym_sizes)], narrowed := true }
def SymCodesUptoSaid : Prop := symCodesUptoRow.holds Tryd.pinned (OpenSpec.upto symCodesSpec)

/-- 'quoinlaw10.SymBack', WHERE WHAT IT READS IS OF BULK AT MOST 1048576: true; the input reads as it did. -/
def symBackUptoRow : OpenClaim := { program := "yteehekoajemciaadoor", sum := "3f06fd918167aaff3efe7dafd959c7e1c5cd4961b7ff1c57680a7dbda474c227", func := "quoin/quoinlaw10.SymBack", spec := "symBack", named := ["quoin/sym.sizes"], apart := false, laid := [("quoin/sym.sizes", laid_quoin_sym_sizes)], narrowed := true }
def SymBackUptoSaid : Prop := symBackUptoRow.holds Tryd.pinned (OpenSpec.upto symBackSpec)

/-- 'quoinlaw10.SymWhere', WHERE WHAT IT READS IS OF BULK AT MOST 1048576: true; the input reads as it did. -/
def symWhereUptoRow : OpenClaim := { program := "yteehekoajemciaadoor", sum := "3f06fd918167aaff3efe7dafd959c7e1c5cd4961b7ff1c57680a7dbda474c227", func := "quoin/quoinlaw10.SymWhere", spec := "symWhere", named := ["quoin/sym.sizes"], apart := false, laid := [("quoin/sym.sizes", laid_quoin_sym_sizes)], narrowed := true }
def SymWhereUptoSaid : Prop := symWhereUptoRow.holds Tryd.pinned (OpenSpec.upto symWhereSpec)

/-- 'quoinlaw10.SymUnlike', WHERE WHAT IT READS IS OF BULK AT MOST 1048576: true; the input reads as it did. -/
def symUnlikeUptoRow : OpenClaim := { program := "yteehekoajemciaadoor", sum := "3f06fd918167aaff3efe7dafd959c7e1c5cd4961b7ff1c57680a7dbda474c227", func := "quoin/quoinlaw10.SymUnlike", spec := "symUnlike", named := ["quoin/sym.sizes"], apart := false, laid := [("quoin/sym.sizes", laid_quoin_sym_sizes)], narrowed := true }
def SymUnlikeUptoSaid : Prop := symUnlikeUptoRow.holds Tryd.pinned (OpenSpec.upto symUnlikeSpec)

/-- 'quoinlaw10.SymKinds', WHERE WHAT IT READS IS OF BULK AT MOST 1048576: true; the input reads as it did. -/
def symKindsUptoRow : OpenClaim := { program := "yteehekoajemciaadoor", sum := "3f06fd918167aaff3efe7dafd959c7e1c5cd4961b7ff1c57680a7dbda474c227", func := "quoin/quoinlaw10.SymKinds", spec := "symKinds", named := ["quoin/sym.sizes"], apart := false, laid := [("quoin/sym.sizes", laid_quoin_sym_sizes)], narrowed := true }
def SymKindsUptoSaid : Prop := symKindsUptoRow.holds Tryd.pinned (OpenSpec.upto symKindsSpec)

end Rows
end Go.Proofs.YteehekoajemciaaDoor
