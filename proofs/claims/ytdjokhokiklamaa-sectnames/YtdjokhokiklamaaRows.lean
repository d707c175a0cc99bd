/-
  No cell of these rows narrows 'for every input' (looked for: loops, veiled, ifaces, maps, wideKeys, modest, calm, conditions, laid).
  DERIVED. THE GIVEN ROWS OF THIS SEAT. 6 by the template 'for every input the law returns true; each argument reads behind the call as it read before'; 0 by the template 'total and deterministic' (their statements: YtdjokhokiklamaaTotals.lean).
  GIVEN WITH THE SEED: the statements are not yours to turn. If you find one false, say at which input.
  Laid BY PROGRAM, IN A SANDBOX (cutbox-rows.mjs): the forced cells as the released guide's own fill.sh prints them over the translation fd8d6bfcba033f29… (all of the seat's roots in one cut). By AI agents, Wed Nov 11 2026. No macro, syntax, notation, axiom, sorry.
-/
import Derived.Test.YtdjokhokiklamaaChecked
import GoSem.Claim
import GoSem.ClaimJoined
import GoSem.ClaimMapViews
import Derived.JoinedTies
import Derived.KernelRfl
namespace Go.Proofs.Ytdjokhokiklamaa
/- THE CELL 'sum', in the pinned program and in every row, IS THE sha256 OF THE DUMP (.gsa) THAT YtdjokhokiklamaaProg.lean LOADS. Nothing in Lean hashes anything: it is a label: what it is worth is what the hold of that sum in a sandbox is worth. -/
noncomputable def Try.pinned : Pinned := { name := "ytdjokhokiklamaa", sum := "fd8d6bfcba033f29ddcac4f355c9897687b81d7b2a1e3259af21b3b2eac40096", checked := Try.checked }
namespace Rows
def none {H : Type} : Left H := { results := [], args := [] }

/-- 'quoinlaw09.SectNames': WHATEVER THE INPUT: true; the input reads as it did. -/
def sectNamesSpec : ChangeSpec := { name := "sectNames", fn := fun _ => fun
  | [] => { results := [.lit (.bool true)], args := [] }
  | _ => none }
def sectNamesRow : OpenClaim := { program := "ytdjokhokiklamaa", sum := "fd8d6bfcba033f29ddcac4f355c9897687b81d7b2a1e3259af21b3b2eac40096", func := "quoin/quoinlaw09.SectNames", spec := "sectNames", apart := false }
def SectNamesSaid : Prop := sectNamesRow.holds Try.pinned (OpenSpec.ofChange sectNamesSpec)

/-- ITS FALSE NEIGHBOUR: 'it returns false'. Refute it at one input. -/
def sectNamesWrong : ChangeSpec := { name := "sectNames", fn := fun _ => fun
  | [] => { results := [.lit (.bool false)], args := [] }
  | _ => none }
def SectNamesWrongFalsely : Prop := sectNamesRow.holds Try.pinned (OpenSpec.ofChange sectNamesWrong)

/-- 'quoinlaw09.SectChecks': WHATEVER THE INPUT: true; the input reads as it did. -/
def sectChecksSpec : ChangeSpec := { name := "sectChecks", fn := fun _ => fun
  | [d1, d2, d3] => { results := [.lit (.bool true)], args := [d1, d2, d3] }
  | _ => none }
def sectChecksRow : OpenClaim := { program := "ytdjokhokiklamaa", sum := "fd8d6bfcba033f29ddcac4f355c9897687b81d7b2a1e3259af21b3b2eac40096", func := "quoin/quoinlaw09.SectChecks", spec := "sectChecks", apart := false }
def SectChecksSaid : Prop := sectChecksRow.holds Try.pinned (OpenSpec.ofChange sectChecksSpec)

/-- ITS FALSE NEIGHBOUR: 'it returns false'. Refute it at one input. -/
def sectChecksWrong : ChangeSpec := { name := "sectChecks", fn := fun _ => fun
  | [d1, d2, d3] => { results := [.lit (.bool false)], args := [d1, d2, d3] }
  | _ => none }
def SectChecksWrongFalsely : Prop := sectChecksRow.holds Try.pinned (OpenSpec.ofChange sectChecksWrong)

/-- 'quoinlaw09.SectHeads': WHATEVER THE INPUT: true; the input reads as it did. -/
def sectHeadsSpec : ChangeSpec := { name := "sectHeads", fn := fun _ => fun
  | [d1, d2] => { results := [.lit (.bool true)], args := [d1, d2] }
  | _ => none }
def sectHeadsRow : OpenClaim := { program := "ytdjokhokiklamaa", sum := "fd8d6bfcba033f29ddcac4f355c9897687b81d7b2a1e3259af21b3b2eac40096", func := "quoin/quoinlaw09.SectHeads", spec := "sectHeads", apart := false }
def SectHeadsSaid : Prop := sectHeadsRow.holds Try.pinned (OpenSpec.ofChange sectHeadsSpec)

/-- ITS FALSE NEIGHBOUR: 'it returns false'. Refute it at one input. -/
def sectHeadsWrong : ChangeSpec := { name := "sectHeads", fn := fun _ => fun
  | [d1, d2] => { results := [.lit (.bool false)], args := [d1, d2] }
  | _ => none }
def SectHeadsWrongFalsely : Prop := sectHeadsRow.holds Try.pinned (OpenSpec.ofChange sectHeadsWrong)

/-- 'quoinlaw09.SectBack': WHATEVER THE INPUT: true; the input reads as it did. -/
def sectBackSpec : ChangeSpec := { name := "sectBack", fn := fun _ => fun
  | [d1, d2] => { results := [.lit (.bool true)], args := [d1, d2] }
  | _ => none }
def sectBackRow : OpenClaim := { program := "ytdjokhokiklamaa", sum := "fd8d6bfcba033f29ddcac4f355c9897687b81d7b2a1e3259af21b3b2eac40096", func := "quoin/quoinlaw09.SectBack", spec := "sectBack", apart := false }
def SectBackSaid : Prop := sectBackRow.holds Try.pinned (OpenSpec.ofChange sectBackSpec)

/-- ITS FALSE NEIGHBOUR: 'it returns false'. Refute it at one input. -/
def sectBackWrong : ChangeSpec := { name := "sectBack", fn := fun _ => fun
  | [d1, d2] => { results := [.lit (.bool false)], args := [d1, d2] }
  | _ => none }
def SectBackWrongFalsely : Prop := sectBackRow.holds Try.pinned (OpenSpec.ofChange sectBackWrong)

/-- 'quoinlaw09.SectKinds': WHATEVER THE INPUT: true; the input reads as it did. -/
def sectKindsSpec : ChangeSpec := { name := "sectKinds", fn := fun _ => fun
  | [d1, d2, d3] => { results := [.lit (.bool true)], args := [d1, d2, d3] }
  | _ => none }
def sectKindsRow : OpenClaim := { program := "ytdjokhokiklamaa", sum := "fd8d6bfcba033f29ddcac4f355c9897687b81d7b2a1e3259af21b3b2eac40096", func := "quoin/quoinlaw09.SectKinds", spec := "sectKinds", apart := false }
def SectKindsSaid : Prop := sectKindsRow.holds Try.pinned (OpenSpec.ofChange sectKindsSpec)

/-- ITS FALSE NEIGHBOUR: 'it returns false'. Refute it at one input. -/
def sectKindsWrong : ChangeSpec := { name := "sectKinds", fn := fun _ => fun
  | [d1, d2, d3] => { results := [.lit (.bool false)], args := [d1, d2, d3] }
  | _ => none }
def SectKindsWrongFalsely : Prop := sectKindsRow.holds Try.pinned (OpenSpec.ofChange sectKindsWrong)

/-- 'quoinlaw09.SectMay': WHATEVER THE INPUT: true; the input reads as it did. -/
def sectMaySpec : ChangeSpec := { name := "sectMay", fn := fun _ => fun
  | [d] => { results := [.lit (.bool true)], args := [d] }
  | _ => none }
def sectMayRow : OpenClaim := { program := "ytdjokhokiklamaa", sum := "fd8d6bfcba033f29ddcac4f355c9897687b81d7b2a1e3259af21b3b2eac40096", func := "quoin/quoinlaw09.SectMay", spec := "sectMay", apart := false }
def SectMaySaid : Prop := sectMayRow.holds Try.pinned (OpenSpec.ofChange sectMaySpec)

/-- ITS FALSE NEIGHBOUR: 'it returns false'. Refute it at one input. -/
def sectMayWrong : ChangeSpec := { name := "sectMay", fn := fun _ => fun
  | [d] => { results := [.lit (.bool false)], args := [d] }
  | _ => none }
def SectMayWrongFalsely : Prop := sectMayRow.holds Try.pinned (OpenSpec.ofChange sectMayWrong)

/- THE SECOND FORM. 'bulk': how many values and letters a reading holds, each counted each time it is reached (what is shared counts as often as it is met; a slice's spare places count too). A statement '..UptoSaid' is the law's where the arguments, and the package variables that the reading takes, are together of bulk at most 1048576: NARROWER than '..Said'. Prove '..Said' where nothing that the law and all that it calls make is longer than what came in: it says more and counts as full. Else prove '..UptoSaid'. A law counts once. -/
mutual
def uptoBulk {H : Type} : DataW H → Nat
  | .lit (.string bytes) => bytes.length + 1
  | .lit _ => 1
  | .nil => 1
  | .ptr d => uptoBulk d + 1
  | .slice elems spare => uptoBulkAll elems + uptoBulkAll spare + 1
  | .agg parts => uptoBulkAll parts + 1
  | .iface _ d => uptoBulk d + 1
  | .map entries => uptoBulkEntries entries + 1
  | .held _ => 1
def uptoBulkAll {H : Type} : List (DataW H) → Nat
  | [] => 0
  | d :: r => uptoBulk d + uptoBulkAll r
def uptoBulkEntries {H : Type} : List (Lit × DataW H) → Nat
  | [] => 0
  | x :: r => uptoBulkEntry x + uptoBulkEntries r
def uptoBulkEntry {H : Type} : Lit × DataW H → Nat
  | (.string bytes, d) => bytes.length + uptoBulk d + 1
  | (_, d) => uptoBulk d + 1
 end
def uptoSmall : (H : Type) → List (DataW H) → Bool := fun _ ds => decide (uptoBulkAll ds ≤ 1048576)
def OpenSpec.upto (s : _root_.Go.ChangeSpec) : _root_.Go.OpenSpec := { _root_.Go.OpenSpec.ofChange s with cond := some uptoSmall }

/-- 'quoinlaw09.SectNames', WHERE WHAT IT READS IS OF BULK AT MOST 1048576: true; the input reads as it did. -/
def sectNamesUptoRow : OpenClaim := { program := "ytdjokhokiklamaa", sum := "fd8d6bfcba033f29ddcac4f355c9897687b81d7b2a1e3259af21b3b2eac40096", func := "quoin/quoinlaw09.SectNames", spec := "sectNames", apart := false, narrowed := true }
def SectNamesUptoSaid : Prop := sectNamesUptoRow.holds Try.pinned (OpenSpec.upto sectNamesSpec)

/-- 'quoinlaw09.SectChecks', WHERE WHAT IT READS IS OF BULK AT MOST 1048576: true; the input reads as it did. -/
def sectChecksUptoRow : OpenClaim := { program := "ytdjokhokiklamaa", sum := "fd8d6bfcba033f29ddcac4f355c9897687b81d7b2a1e3259af21b3b2eac40096", func := "quoin/quoinlaw09.SectChecks", spec := "sectChecks", apart := false, narrowed := true }
def SectChecksUptoSaid : Prop := sectChecksUptoRow.holds Try.pinned (OpenSpec.upto sectChecksSpec)

/-- 'quoinlaw09.SectHeads', WHERE WHAT IT READS IS OF BULK AT MOST 1048576: true; the input reads as it did. -/
def sectHeadsUptoRow : OpenClaim := { program := "ytdjokhokiklamaa", sum := "fd8d6bfcba033f29ddcac4f355c9897687b81d7b2a1e3259af21b3b2eac40096", func := "quoin/quoinlaw09.SectHeads", spec := "sectHeads", apart := false, narrowed := true }
def SectHeadsUptoSaid : Prop := sectHeadsUptoRow.holds Try.pinned (OpenSpec.upto sectHeadsSpec)

/-- 'quoinlaw09.SectBack', WHERE WHAT IT READS IS OF BULK AT MOST 1048576: true; the input reads as it did. -/
def sectBackUptoRow : OpenClaim := { program := "ytdjokhokiklamaa", sum := "fd8d6bfcba033f29ddcac4f355c9897687b81d7b2a1e3259af21b3b2eac40096", func := "quoin/quoinlaw09.SectBack", spec := "sectBack", apart := false, narrowed := true }
def SectBackUptoSaid : Prop := sectBackUptoRow.holds Try.pinned (OpenSpec.upto sectBackSpec)

/-- 'quoinlaw09.SectKinds', WHERE WHAT IT READS IS OF BULK AT MOST 1048576: true; the input reads as it did. -/
def sectKindsUptoRow : OpenClaim := { program := "ytdjokhokiklamaa", sum := "fd8d6bfcba033f29ddcac4f355c9897687b81d7b2a1e3259af21b3b2eac40096", func := "quoin/quoinlaw09.SectKinds", spec := "sectKinds", apart := false, narrowed := true }
def SectKindsUptoSaid : Prop := sectKindsUptoRow.holds Try.pinned (OpenSpec.upto sectKindsSpec)

/-- 'quoinlaw09.SectMay', WHERE WHAT IT READS IS OF BULK AT MOST 1048576: true; the input reads as it did. -/
def sectMayUptoRow : OpenClaim := { program := "ytdjokhokiklamaa", sum := "fd8d6bfcba033f29ddcac4f355c9897687b81d7b2a1e3259af21b3b2eac40096", func := "quoin/quoinlaw09.SectMay", spec := "sectMay", apart := false, narrowed := true }
def SectMayUptoSaid : Prop := sectMayUptoRow.holds Try.pinned (OpenSpec.upto sectMaySpec)

end Rows
end Go.Proofs.Ytdjokhokiklamaa
