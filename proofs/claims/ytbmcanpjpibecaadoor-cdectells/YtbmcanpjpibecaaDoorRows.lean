/-
  NARROWER THAN 'FOR EVERY INPUT', by the rows' own cells (each row's printed sentence says how): CdecNames: laid · CdecTells: laid · CdecBack: laid · CdecSize: laid · CdecShort: laid.
  DERIVED. THE GIVEN ROWS OF THIS SEAT. 5 by the template 'for every input the law returns true; each argument reads behind the call as it read before'; 0 by the template 'total and deterministic' (their statements: YtbmcanpjpibecaaDoorTotals.lean).
  GIVEN WITH THE SEED: the statements are not yours to turn. If you find one false, say at which input.
  Laid BY PROGRAM, IN A SANDBOX (cutbox-rows.mjs): the forced cells as the released guide's own fill.sh prints them over the translation fb5e8db26cc64ed0… (all of the seat's roots in one cut). By AI agents, Wed Nov 11 2026. No macro, syntax, notation, axiom, sorry.
-/
import Derived.Test.YtbmcanpjpibecaaDoorChecked
import GoSem.Claim
import GoSem.ClaimJoined
import GoSem.ClaimMapViews
import Derived.JoinedTies
import Derived.KernelRfl
namespace Go.Proofs.YtbmcanpjpibecaaDoor
/- THE CELL 'sum', in the pinned program and in every row, IS THE sha256 OF THE DUMP (.gsa) THAT YtbmcanpjpibecaaDoorProg.lean LOADS. Nothing in Lean hashes anything: it is a label: what it is worth is what the hold of that sum in a sandbox is worth. -/
noncomputable def Tryd.pinned : Pinned := { name := "ytbmcanpjpibecaadoor", sum := "fb5e8db26cc64ed016f8d54d02f0f101e44087b441ebbe122c282f247be17859", checked := Tryd.checked }
namespace Rows
def none {H : Type} : Left H := { results := [], args := [] }

/- WHAT THE LISTED PACKAGE-LEVEL VARIABLES READ AS WHEN THE CALL BEGINS. Each datum BY PROGRAM (the guide's laid-datum.mjs) off the statement by which the dump's own 'gosem.cut.vars' lays the variable. In a bare row this is a premise. The card (YtbmcanpjpibecaaDoorCards.lean) ties it to the program's text. -/
def laid_quoin_cdec_pairs {H : Type} : DataW H := .agg [.lit (.int .u8 32), .lit (.int .u8 36), .lit (.int .u8 39), .lit (.int .u8 40), .lit (.int .u8 46), .lit (.int .u8 45), .lit (.int .u8 0), .lit (.int .u8 0)]

/-- 'quoinlaw06.CdecNames': WHATEVER THE INPUT: true; the input reads as it did. -/
def cdecNamesSpec : ChangeSpec := { name := "cdecNames", fn := fun _ => fun
  | [] => { results := [.lit (.bool true)], args := [] }
  | _ => none }
def cdecNamesRow : OpenClaim := { program := "ytbmcanpjpibecaadoor", sum := "fb5e8db26cc64ed016f8d54d02f0f101e44087b441ebbe122c282f247be17859", func := "quoin/quoinlaw06.CdecNames", spec := "cdecNames", unfollowed := true, recurses := true, named := ["quoin/cdec.pairs"], apart := false, laid := [("quoin/cdec.pairs", laid_quoin_cdec_pairs)] }
def CdecNamesSaid : Prop := cdecNamesRow.holds Tryd.pinned (OpenSpec.ofChange cdecNamesSpec)

/-- ITS FALSE NEIGHBOUR: 'it returns false'. Refute it at one input. -/
def cdecNamesWrong : ChangeSpec := { name := "cdecNames", fn := fun _ => fun
  | [] => { results := [.lit (.bool false)], args := [] }
  | _ => none }
def CdecNamesWrongFalsely : Prop := cdecNamesRow.holds Tryd.pinned (OpenSpec.ofChange cdecNamesWrong)

/-- 'quoinlaw06.CdecTells': WHATEVER THE INPUT: true; the input reads as it did. -/
def cdecTellsSpec : ChangeSpec := { name := "cdecTells", fn := fun _ => fun
  | [d] => { results := [.lit (.bool true)], args := [d] }
  | _ => none }
def cdecTellsRow : OpenClaim := { program := "ytbmcanpjpibecaadoor", sum := "fb5e8db26cc64ed016f8d54d02f0f101e44087b441ebbe122c282f247be17859", func := "quoin/quoinlaw06.CdecTells", spec := "cdecTells", unfollowed := true, recurses := true, named := ["quoin/cdec.pairs"], apart := false, laid := [("quoin/cdec.pairs", laid_quoin_cdec_pairs)] }
def CdecTellsSaid : Prop := cdecTellsRow.holds Tryd.pinned (OpenSpec.ofChange cdecTellsSpec)

/-- ITS FALSE NEIGHBOUR: 'it returns false'. Refute it at one input. -/
def cdecTellsWrong : ChangeSpec := { name := "cdecTells", fn := fun _ => fun
  | [d] => { results := [.lit (.bool false)], args := [d] }
  | _ => none }
def CdecTellsWrongFalsely : Prop := cdecTellsRow.holds Tryd.pinned (OpenSpec.ofChange cdecTellsWrong)

/-- 'quoinlaw06.CdecBack': WHATEVER THE INPUT: true; the input reads as it did. -/
def cdecBackSpec : ChangeSpec := { name := "cdecBack", fn := fun _ => fun
  | [d1, d2] => { results := [.lit (.bool true)], args := [d1, d2] }
  | _ => none }
def cdecBackRow : OpenClaim := { program := "ytbmcanpjpibecaadoor", sum := "fb5e8db26cc64ed016f8d54d02f0f101e44087b441ebbe122c282f247be17859", func := "quoin/quoinlaw06.CdecBack", spec := "cdecBack", unfollowed := true, recurses := true, named := ["quoin/cdec.pairs"], apart := false, laid := [("quoin/cdec.pairs", laid_quoin_cdec_pairs)] }
def CdecBackSaid : Prop := cdecBackRow.holds Tryd.pinned (OpenSpec.ofChange cdecBackSpec)

/-- ITS FALSE NEIGHBOUR: 'it returns false'. Refute it at one input. -/
def cdecBackWrong : ChangeSpec := { name := "cdecBack", fn := fun _ => fun
  | [d1, d2] => { results := [.lit (.bool false)], args := [d1, d2] }
  | _ => none }
def CdecBackWrongFalsely : Prop := cdecBackRow.holds Tryd.pinned (OpenSpec.ofChange cdecBackWrong)

/-- 'quoinlaw06.CdecSize': WHATEVER THE INPUT: true; the input reads as it did. -/
def cdecSizeSpec : ChangeSpec := { name := "cdecSize", fn := fun _ => fun
  | [d] => { results := [.lit (.bool true)], args := [d] }
  | _ => none }
def cdecSizeRow : OpenClaim := { program := "ytbmcanpjpibecaadoor", sum := "fb5e8db26cc64ed016f8d54d02f0f101e44087b441ebbe122c282f247be17859", func := "quoin/quoinlaw06.CdecSize", spec := "cdecSize", unfollowed := true, recurses := true, named := ["quoin/cdec.pairs"], apart := false, laid := [("quoin/cdec.pairs", laid_quoin_cdec_pairs)] }
def CdecSizeSaid : Prop := cdecSizeRow.holds Tryd.pinned (OpenSpec.ofChange cdecSizeSpec)

/-- ITS FALSE NEIGHBOUR: 'it returns false'. Refute it at one input. -/
def cdecSizeWrong : ChangeSpec := { name := "cdecSize", fn := fun _ => fun
  | [d] => { results := [.lit (.bool false)], args := [d] }
  | _ => none }
def CdecSizeWrongFalsely : Prop := cdecSizeRow.holds Tryd.pinned (OpenSpec.ofChange cdecSizeWrong)

/-- 'quoinlaw06.CdecShort': WHATEVER THE INPUT: true; the input reads as it did. -/
def cdecShortSpec : ChangeSpec := { name := "cdecShort", fn := fun _ => fun
  | [d] => { results := [.lit (.bool true)], args := [d] }
  | _ => none }
def cdecShortRow : OpenClaim := { program := "ytbmcanpjpibecaadoor", sum := "fb5e8db26cc64ed016f8d54d02f0f101e44087b441ebbe122c282f247be17859", func := "quoin/quoinlaw06.CdecShort", spec := "cdecShort", unfollowed := true, recurses := true, named := ["quoin/cdec.pairs"], apart := false, laid := [("quoin/cdec.pairs", laid_quoin_cdec_pairs)] }
def CdecShortSaid : Prop := cdecShortRow.holds Tryd.pinned (OpenSpec.ofChange cdecShortSpec)

/-- ITS FALSE NEIGHBOUR: 'it returns false'. Refute it at one input. -/
def cdecShortWrong : ChangeSpec := { name := "cdecShort", fn := fun _ => fun
  | [d] => { results := [.lit (.bool false)], args := [d] }
  | _ => none }
def CdecShortWrongFalsely : Prop := cdecShortRow.holds Tryd.pinned (OpenSpec.ofChange cdecShortWrong)

/- THE SECOND FORM. 'bulk': how many values and letters a reading holds, each counted each time it is reached (what is shared counts as often as it is met; a slice's spare places count too). A statement '..UptoSaid' is the law's where the arguments, and the package variables that the reading takes, are together of bulk at most 1048576: NARROWER than '..Said'. Prove '..Said' where nothing that the law and all that it calls make is longer than what came in: it says more and counts as full. Else prove '..UptoSaid'. A law counts once. -/
mutual
def uptoBulk {H : Type} : DataW H → Nat
  | .lit (.string bytes) => bytes.length + 1
  | .lit _ => 1
  | .nil => 1
  | .ptr d => uptoBulk d + 1
  | .slice elems spare => uptoBulkAll elems + uptoBulkAll spare + 1
  | .agg parts => uptoBulkAll parts + 1
  | .iface _ d => uptoBulk d + 1
  | .map entries => uptoBulkEntries entries + 1
  | .held _ => 1
def uptoBulkAll {H : Type} : List (DataW H) → Nat
  | [] => 0
  | d :: r => uptoBulk d + uptoBulkAll r
def uptoBulkEntries {H : Type} : List (Lit × DataW H) → Nat
  | [] => 0
  | x :: r => uptoBulkEntry x + uptoBulkEntries r
def uptoBulkEntry {H : Type} : Lit × DataW H → Nat
  | (.string bytes, d) => bytes.length + uptoBulk d + 1
  | (_, d) => uptoBulk d + 1
 end
def uptoSmall : (H : Type) → List (DataW H) → Bool := fun _ ds => decide (uptoBulkAll ds ≤ 1048576)
def OpenSpec.upto (s : _root_.Go.ChangeSpec) : _root_.Go.OpenSpec := { _root_.Go.OpenSpec.ofChange s with cond := some uptoSmall }

/-- 'quoinlaw06.CdecNames', WHERE WHAT IT READS IS OF BULK AT MOST 1048576: true; the input reads as it did. -/
def cdecNamesUptoRow : OpenClaim := { program := "ytbmcanpjpibecaadoor", sum := "fb5e8db26cc64ed016f8d54d02f0f101e44087b441ebbe122c282f247be17859", func := "quoin/quoinlaw06.CdecNames", spec := "cdecNames", unfollowed := true, recurses := true, named := ["quoin/cdec.pairs"], apart := false, laid := [("quoin/cdec.pairs", laid_quoin_cdec_pairs)], narrowed := true }
def CdecNamesUptoSaid : Prop := cdecNamesUptoRow.holds Tryd.pinned (OpenSpec.upto cdecNamesSpec)

/-- 'quoinlaw06.CdecTells', WHERE WHAT IT READS IS OF BULK AT MOST 1048576: true; the input reads as it did. -/
def cdecTellsUptoRow : OpenClaim := { program := "ytbmcanpjpibecaadoor", sum := "fb5e8db26cc64ed016f8d54d02f0f101e44087b441ebbe122c282f247be17859", func := "quoin/quoinlaw06.CdecTells", spec := "cdecTells", unfollowed := true, recurses := true, named := ["quoin/cdec.pairs"], apart := false, laid := [("quoin/cdec.pairs", laid_quoin_cdec_pairs)], narrowed := true }
def CdecTellsUptoSaid : Prop := cdecTellsUptoRow.holds Tryd.pinned (OpenSpec.upto cdecTellsSpec)

/-- 'quoinlaw06.CdecBack', WHERE WHAT IT READS IS OF BULK AT MOST 1048576: true; the input reads as it did. -/
def cdecBackUptoRow : OpenClaim := { program := "ytbmcanpjpibecaadoor", sum := "fb5e8db26cc64ed016f8d54d02f0f101e44087b441ebbe122c282f247be17859", func := "quoin/quoinlaw06.CdecBack", spec := "cdecBack", unfollowed := true, recurses := true, named := ["quoin/cdec.pairs"], apart := false, laid := [("quoin/cdec.pairs", laid_quoin_cdec_pairs)], narrowed := true }
def CdecBackUptoSaid : Prop := cdecBackUptoRow.holds Tryd.pinned (OpenSpec.upto cdecBackSpec)

/-- 'quoinlaw06.CdecSize', WHERE WHAT IT READS IS OF BULK AT MOST 1048576: true; the input reads as it did. -/
def cdecSizeUptoRow : OpenClaim := { program := "ytbmcanpjpibecaadoor", sum := "fb5e8db26cc64ed016f8d54d02f0f101e44087b441ebbe122c282f247be17859", func := "quoin/quoinlaw06.CdecSize", spec := "cdecSize", unfollowed := true, recurses := true, named := ["quoin/cdec.pairs"], apart := false, laid := [("quoin/cdec.pairs", laid_quoin_cdec_pairs)], narrowed := true }
def CdecSizeUptoSaid : Prop := cdecSizeUptoRow.holds Tryd.pinned (OpenSpec.upto cdecSizeSpec)

/-- 'quoinlaw06.CdecShort', WHERE WHAT IT READS IS OF BULK AT MOST 1048576: true; the input reads as it did. -/
def cdecShortUptoRow : OpenClaim := { program := "ytbmcanpjpibecaadoor", sum := "fb5e8db26cc64ed016f8d54d02f0f101e44087b441ebbe122c282f247be17859", func := "quoin/quoinlaw06.CdecShort", spec := "cdecShort", unfollowed := true, recurses := true, named := ["quoin/cdec.pairs"], apart := false, laid := [("quoin/cdec.pairs", laid_quoin_cdec_pairs)], narrowed := true }
def CdecShortUptoSaid : Prop := cdecShortUptoRow.holds Tryd.pinned (OpenSpec.upto cdecShortSpec)

end Rows
end Go.Proofs.YtbmcanpjpibecaaDoor
