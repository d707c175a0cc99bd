/-
  NARROWER THAN 'FOR EVERY INPUT', by the rows' own cells (each row's printed sentence says how): ElfwNames: laid · ElfwWrites: laid · ElfwParts: laid · ElfwApart: laid · ElfwLess: laid.
  DERIVED. THE GIVEN ROWS OF THIS SEAT. 5 by the template 'for every input the law returns true; each argument reads behind the call as it read before'; 0 by the template 'total and deterministic' (their statements: YtljmgbpecoifnaaGreatDoorTotals.lean).
  GIVEN WITH THE SEED: the statements are not yours to turn. If you find one false, say at which input.
  Laid BY PROGRAM, IN A SANDBOX (cutbox-rows.mjs): the forced cells as the released guide's own fill.sh prints them over the translation 8f8d88dbc24b5a92… (all of the seat's roots in one cut). By AI agents, Wed Nov 11 2026. No macro, syntax, notation, axiom, sorry.
-/
import Derived.Test.YtljmgbpecoifnaaGreatDoorChecked
import GoSem.Claim
import GoSem.ClaimJoined
import GoSem.ClaimMapViews
import Derived.JoinedTies
import Derived.KernelRfl
namespace Go.Proofs.YtljmgbpecoifnaaGreatDoor
/- THE CELL 'sum', in the pinned program and in every row, IS THE sha256 OF THE DUMP (.gsa) THAT YtljmgbpecoifnaaGreatDoorProg.lean LOADS. Nothing in Lean hashes anything: it is a label: what it is worth is what the hold of that sum in a sandbox is worth. -/
noncomputable def Tryz.pinned : Pinned := { name := "ytljmgbpecoifnaagreatdoor", sum := "8f8d88dbc24b5a92d4d2f47c212ba62e5bf86f26c5663cbd407f04dcb275fbe8", checked := Tryz.checked }
namespace Rows
def none {H : Type} : Left H := { results := [], args := [] }

/- WHAT THE LISTED PACKAGE-LEVEL VARIABLES READ AS WHEN THE CALL BEGINS. Each datum BY PROGRAM (the guide's laid-datum.mjs) off the statement by which the dump's own 'gosem.cut.vars' lays the variable. In a bare row this is a premise. The card (YtljmgbpecoifnaaGreatDoorCards.lean) ties it to the program's text. -/
def laid_quoin_rela_sizes {H : Type} : DataW H := .agg [.lit (.int .i64 8), .lit (.int .i64 4), .lit (.int .i64 4), .lit (.int .i64 8)]
def laid_quoin_sym_sizes {H : Type} : DataW H := .agg [.lit (.int .i64 4), .lit (.int .i64 1), .lit (.int .i64 1), .lit (.int .i64 2), .lit (.int .i64 8), .lit (.int .i64 8)]
def laid_quoin_elfw_kindFlags {H : Type} : DataW H := .agg [.lit (.int .i64 0), .lit (.int .i64 6), .lit (.int .i64 2), .lit (.int .i64 3), .lit (.int .i64 3)]

/-- 'quoinlaw12.ElfwNames': WHATEVER THE INPUT: true; the input reads as it did. -/
def elfwNamesSpec : ChangeSpec := { name := "elfwNames", fn := fun _ => fun
  | [] => { results := [.lit (.bool true)], args := [] }
  | _ => none }
def elfwNamesRow : OpenClaim := { program := "ytljmgbpecoifnaagreatdoor", sum := "8f8d88dbc24b5a92d4d2f47c212ba62e5bf86f26c5663cbd407f04dcb275fbe8", func := "quoin/quoinlaw12.ElfwNames", spec := "elfwNames", inPlace := ["internal/bytealg.IndexByteString"], unfollowed := true, recurses := true, named := ["quoin/elfw.kindFlags", "quoin/rela.sizes", "quoin/sym.sizes"], apart := false, laid := [("quoin/rela.sizes", laid_quoin_rela_sizes), ("quoin/sym.sizes", laid_quoin_sym_sizes), ("quoin/elfw.kindFlags", laid_quoin_elfw_kindFlags)] }
def ElfwNamesSaid : Prop := elfwNamesRow.holds Tryz.pinned (OpenSpec.ofChange elfwNamesSpec)

/-- ITS FALSE NEIGHBOUR: 'it returns false'. Refute it at one input. -/
def elfwNamesWrong : ChangeSpec := { name := "elfwNames", fn := fun _ => fun
  | [] => { results := [.lit (.bool false)], args := [] }
  | _ => none }
def ElfwNamesWrongFalsely : Prop := elfwNamesRow.holds Tryz.pinned (OpenSpec.ofChange elfwNamesWrong)

/-- 'quoinlaw12.ElfwWrites': WHATEVER THE INPUT: true; the input reads as it did. -/
def elfwWritesSpec : ChangeSpec := { name := "elfwWrites", fn := fun _ => fun
  | [d1, d2] => { results := [.lit (.bool true)], args := [d1, d2] }
  | _ => none }
def elfwWritesRow : OpenClaim := { program := "ytljmgbpecoifnaagreatdoor", sum := "8f8d88dbc24b5a92d4d2f47c212ba62e5bf86f26c5663cbd407f04dcb275fbe8", func := "quoin/quoinlaw12.ElfwWrites", spec := "elfwWrites", inPlace := ["internal/bytealg.IndexByteString"], unfollowed := true, recurses := true, named := ["quoin/elfw.kindFlags", "quoin/rela.sizes", "quoin/sym.sizes"], apart := false, laid := [("quoin/rela.sizes", laid_quoin_rela_sizes), ("quoin/sym.sizes", laid_quoin_sym_sizes), ("quoin/elfw.kindFlags", laid_quoin_elfw_kindFlags)] }
def ElfwWritesSaid : Prop := elfwWritesRow.holds Tryz.pinned (OpenSpec.ofChange elfwWritesSpec)

/-- ITS FALSE NEIGHBOUR: 'it returns false'. Refute it at one input. -/
def elfwWritesWrong : ChangeSpec := { name := "elfwWrites", fn := fun _ => fun
  | [d1, d2] => { results := [.lit (.bool false)], args := [d1, d2] }
  | _ => none }
def ElfwWritesWrongFalsely : Prop := elfwWritesRow.holds Tryz.pinned (OpenSpec.ofChange elfwWritesWrong)

/-- 'quoinlaw12.ElfwParts': WHATEVER THE INPUT: true; the input reads as it did. -/
def elfwPartsSpec : ChangeSpec := { name := "elfwParts", fn := fun _ => fun
  | [d] => { results := [.lit (.bool true)], args := [d] }
  | _ => none }
def elfwPartsRow : OpenClaim := { program := "ytljmgbpecoifnaagreatdoor", sum := "8f8d88dbc24b5a92d4d2f47c212ba62e5bf86f26c5663cbd407f04dcb275fbe8", func := "quoin/quoinlaw12.ElfwParts", spec := "elfwParts", inPlace := ["internal/bytealg.IndexByteString"], unfollowed := true, recurses := true, named := ["quoin/elfw.kindFlags", "quoin/rela.sizes", "quoin/sym.sizes"], apart := false, laid := [("quoin/rela.sizes", laid_quoin_rela_sizes), ("quoin/sym.sizes", laid_quoin_sym_sizes), ("quoin/elfw.kindFlags", laid_quoin_elfw_kindFlags)] }
def ElfwPartsSaid : Prop := elfwPartsRow.holds Tryz.pinned (OpenSpec.ofChange elfwPartsSpec)

/-- ITS FALSE NEIGHBOUR: 'it returns false'. Refute it at one input. -/
def elfwPartsWrong : ChangeSpec := { name := "elfwParts", fn := fun _ => fun
  | [d] => { results := [.lit (.bool false)], args := [d] }
  | _ => none }
def ElfwPartsWrongFalsely : Prop := elfwPartsRow.holds Tryz.pinned (OpenSpec.ofChange elfwPartsWrong)

/-- 'quoinlaw12.ElfwApart': WHATEVER THE INPUT: true; the input reads as it did. -/
def elfwApartSpec : ChangeSpec := { name := "elfwApart", fn := fun _ => fun
  | [d1, d2] => { results := [.lit (.bool true)], args := [d1, d2] }
  | _ => none }
def elfwApartRow : OpenClaim := { program := "ytljmgbpecoifnaagreatdoor", sum := "8f8d88dbc24b5a92d4d2f47c212ba62e5bf86f26c5663cbd407f04dcb275fbe8", func := "quoin/quoinlaw12.ElfwApart", spec := "elfwApart", inPlace := ["internal/bytealg.IndexByteString"], unfollowed := true, recurses := true, named := ["quoin/elfw.kindFlags", "quoin/rela.sizes", "quoin/sym.sizes"], apart := false, laid := [("quoin/rela.sizes", laid_quoin_rela_sizes), ("quoin/sym.sizes", laid_quoin_sym_sizes), ("quoin/elfw.kindFlags", laid_quoin_elfw_kindFlags)] }
def ElfwApartSaid : Prop := elfwApartRow.holds Tryz.pinned (OpenSpec.ofChange elfwApartSpec)

/-- ITS FALSE NEIGHBOUR: 'it returns false'. Refute it at one input. -/
def elfwApartWrong : ChangeSpec := { name := "elfwApart", fn := fun _ => fun
  | [d1, d2] => { results := [.lit (.bool false)], args := [d1, d2] }
  | _ => none }
def ElfwApartWrongFalsely : Prop := elfwApartRow.holds Tryz.pinned (OpenSpec.ofChange elfwApartWrong)

/-- 'quoinlaw12.ElfwLess': WHATEVER THE INPUT: true; the input reads as it did. -/
def elfwLessSpec : ChangeSpec := { name := "elfwLess", fn := fun _ => fun
  | [d1, d2] => { results := [.lit (.bool true)], args := [d1, d2] }
  | _ => none }
def elfwLessRow : OpenClaim := { program := "ytljmgbpecoifnaagreatdoor", sum := "8f8d88dbc24b5a92d4d2f47c212ba62e5bf86f26c5663cbd407f04dcb275fbe8", func := "quoin/quoinlaw12.ElfwLess", spec := "elfwLess", inPlace := ["internal/bytealg.IndexByteString"], unfollowed := true, recurses := true, named := ["quoin/elfw.kindFlags", "quoin/rela.sizes", "quoin/sym.sizes"], apart := false, laid := [("quoin/rela.sizes", laid_quoin_rela_sizes), ("quoin/sym.sizes", laid_quoin_sym_sizes), ("quoin/elfw.kindFlags", laid_quoin_elfw_kindFlags)] }
def ElfwLessSaid : Prop := elfwLessRow.holds Tryz.pinned (OpenSpec.ofChange elfwLessSpec)

/-- ITS FALSE NEIGHBOUR: 'it returns false'. Refute it at one input. -/
def elfwLessWrong : ChangeSpec := { name := "elfwLess", fn := fun _ => fun
  | [d1, d2] => { results := [.lit (.bool false)], args := [d1, d2] }
  | _ => none }
def ElfwLessWrongFalsely : Prop := elfwLessRow.holds Tryz.pinned (OpenSpec.ofChange elfwLessWrong)

/- THE SECOND FORM. 'bulk': how many values and letters a reading holds, each counted each time it is reached (what is shared counts as often as it is met; a slice's spare places count too). A statement '..UptoSaid' is the law's where the arguments, and the package variables that the reading takes, are together of bulk at most 1048576: NARROWER than '..Said'. Prove '..Said' where nothing that the law and all that it calls make is longer than what came in: it says more and counts as full. Else prove '..UptoSaid'. A law counts once. -/
mutual
def uptoBulk {H : Type} : DataW H → Nat
  | .lit (.string bytes) => bytes.length + 1
  | .lit _ => 1
  | .nil => 1
  | .ptr d => uptoBulk d + 1
  | .slice elems spare => uptoBulkAll elems + uptoBulkAll spare + 1
  | .agg parts => uptoBulkAll parts + 1
  | .iface _ d => uptoBulk d + 1
  | .map entries => uptoBulkEntries entries + 1
  | .held _ => 1
def uptoBulkAll {H : Type} : List (DataW H) → Nat
  | [] => 0
  | d :: r => uptoBulk d + uptoBulkAll r
def uptoBulkEntries {H : Type} : List (Lit × DataW H) → Nat
  | [] => 0
  | x :: r => uptoBulkEntry x + uptoBulkEntries r
def uptoBulkEntry {H : Type} : Lit × DataW H → Nat
  | (.string bytes, d) => bytes.length + uptoBulk d + 1
  | (_, d) => uptoBulk d + 1
 end
def uptoSmall : (H : Type) → List (DataW H) → Bool := fun _ ds => decide (uptoBulkAll ds ≤ 1048576)
def OpenSpec.upto (s : _root_.Go.ChangeSpec) : _root_.Go.OpenSpec := { _root_.Go.OpenSpec.ofChange s with cond := some uptoSmall }

/-- 'quoinlaw12.ElfwNames', WHERE WHAT IT READS IS OF BULK AT MOST 1048576: true; the input reads as it did. -/
def elfwNamesUptoRow : OpenClaim := { program := "ytljmgbpecoifnaagreatdoor", sum := "8f8d88dbc24b5a92d4d2f47c212ba62e5bf86f26c5663cbd407f04dcb275fbe8", func := "quoin/quoinlaw12.ElfwNames", spec := "elfwNames", inPlace := ["internal/bytealg.IndexByteString"], unfollowed := true, recurses := true, named := ["quoin/elfw.kindFlags", "quoin/rela.sizes", "quoin/sym.sizes"], apart := false, laid := [("quoin/rela.sizes", laid_quoin_rela_sizes), ("quoin/sym.sizes", laid_quoin_sym_sizes), ("quoin/elfw.kindFlags", laid_quoin_elfw_kindFlags)], narrowed := true }
def ElfwNamesUptoSaid : Prop := elfwNamesUptoRow.holds Tryz.pinned (OpenSpec.upto elfwNamesSpec)

/-- 'quoinlaw12.ElfwWrites', WHERE WHAT IT READS IS OF BULK AT MOST 1048576: true; the input reads as it did. -/
def elfwWritesUptoRow : OpenClaim := { program := "ytljmgbpecoifnaagreatdoor", sum := "8f8d88dbc24b5a92d4d2f47c212ba62e5bf86f26c5663cbd407f04dcb275fbe8", func := "quoin/quoinlaw12.ElfwWrites", spec := "elfwWrites", inPlace := ["internal/bytealg.IndexByteString"], unfollowed := true, recurses := true, named := ["quoin/elfw.kindFlags", "quoin/rela.sizes", "quoin/sym.sizes"], apart := false, laid := [("quoin/rela.sizes", laid_quoin_rela_sizes), ("quoin/sym.sizes", laid_quoin_sym_sizes), ("quoin/elfw.kindFlags", laid_quoin_elfw_kindFlags)], narrowed := true }
def ElfwWritesUptoSaid : Prop := elfwWritesUptoRow.holds Tryz.pinned (OpenSpec.upto elfwWritesSpec)

/-- 'quoinlaw12.ElfwParts', WHERE WHAT IT READS IS OF BULK AT MOST 1048576: true; the input reads as it did. -/
def elfwPartsUptoRow : OpenClaim := { program := "ytljmgbpecoifnaagreatdoor", sum := "8f8d88dbc24b5a92d4d2f47c212ba62e5bf86f26c5663cbd407f04dcb275fbe8", func := "quoin/quoinlaw12.ElfwParts", spec := "elfwParts", inPlace := ["internal/bytealg.IndexByteString"], unfollowed := true, recurses := true, named := ["quoin/elfw.kindFlags", "quoin/rela.sizes", "quoin/sym.sizes"], apart := false, laid := [("quoin/rela.sizes", laid_quoin_rela_sizes), ("quoin/sym.sizes", laid_quoin_sym_sizes), ("quoin/elfw.kindFlags", laid_quoin_elfw_kindFlags)], narrowed := true }
def ElfwPartsUptoSaid : Prop := elfwPartsUptoRow.holds Tryz.pinned (OpenSpec.upto elfwPartsSpec)

/-- 'quoinlaw12.ElfwApart', WHERE WHAT IT READS IS OF BULK AT MOST 1048576: true; the input reads as it did. -/
def elfwApartUptoRow : OpenClaim := { program := "ytljmgbpecoifnaagreatdoor", sum := "8f8d88dbc24b5a92d4d2f47c212ba62e5bf86f26c5663cbd407f04dcb275fbe8", func := "quoin/quoinlaw12.ElfwApart", spec := "elfwApart", inPlace := ["internal/bytealg.IndexByteString"], unfollowed := true, recurses := true, named := ["quoin/elfw.kindFlags", "quoin/rela.sizes", "quoin/sym.sizes"], apart := false, laid := [("quoin/rela.sizes", laid_quoin_rela_sizes), ("quoin/sym.sizes", laid_quoin_sym_sizes), ("quoin/elfw.kindFlags", laid_quoin_elfw_kindFlags)], narrowed := true }
def ElfwApartUptoSaid : Prop := elfwApartUptoRow.holds Tryz.pinned (OpenSpec.upto elfwApartSpec)

/-- 'quoinlaw12.ElfwLess', WHERE WHAT IT READS IS OF BULK AT MOST 1048576: true; the input reads as it did. -/
def elfwLessUptoRow : OpenClaim := { program := "ytljmgbpecoifnaagreatdoor", sum := "8f8d88dbc24b5a92d4d2f47c212ba62e5bf86f26c5663cbd407f04dcb275fbe8", func := "quoin/quoinlaw12.ElfwLess", spec := "elfwLess", inPlace := ["internal/bytealg.IndexByteString"], unfollowed := true, recurses := true, named := ["quoin/elfw.kindFlags", "quoin/rela.sizes", "quoin/sym.sizes"], apart := false, laid := [("quoin/rela.sizes", laid_quoin_rela_sizes), ("quoin/sym.sizes", laid_quoin_sym_sizes), ("quoin/elfw.kindFlags", laid_quoin_elfw_kindFlags)], narrowed := true }
def ElfwLessUptoSaid : Prop := elfwLessUptoRow.holds Tryz.pinned (OpenSpec.upto elfwLessSpec)

end Rows
end Go.Proofs.YtljmgbpecoifnaaGreatDoor
