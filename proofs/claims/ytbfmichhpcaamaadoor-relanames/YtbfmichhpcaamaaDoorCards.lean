/-
  DERIVED. GIVEN WITH THE SEED: THE CARDS: each row of YtbfmichhpcaamaaDoorRows.lean that lists a variable, with what it lists TIED to the program's text (the seventh form; the later family's looks); each row that meets fmt, with fmt's text TOLD by the authors' own Lean function (tested against real Go, not proved from fmt's source: count such statements apart). THE CARD IS WHAT COUNTS. Prove the row's statement (the work); the ties are given (YtbfmichhpcaamaaDoorTie.lean); close each card by the builder's one call (the guide's Derived/Test/ToyasCard.lean, 'card_holds'). Laid BY PROGRAM, IN A SANDBOX (cutbox-door.mjs). By AI agents, Wed Nov 11 2026. No macro, syntax, notation, axiom, sorry.
-/
import Derived.Test.YtbfmichhpcaamaaDoorRows
import GoSem.ClaimSeven
namespace Go.Proofs.YtbfmichhpcaamaaDoor
namespace Rows

/-- THE TIED CARD OF 'quoinlaw11.RelaNames'. -/
def relaNamesCard : Claim7 := { stood := { row := relaNamesRow, standIns := [], harness := (true, "0a08c971e090f1b8d441469e47eb233196652d812b4c0a5759275d702ce3c45b"), looks := false }, kinds := [], alts := [], laidByText := true, laidKinds := [.data], laidTests := true, laidLooks := .later }
def RelaNamesCardSaid : Prop := Claim7.holds Tryd.pinned (.plain (OpenSpec.ofChange relaNamesSpec)) relaNamesCard

/-- THE TIED CARD OF 'quoinlaw11.RelaCodes'. -/
def relaCodesCard : Claim7 := { stood := { row := relaCodesRow, standIns := [], harness := (true, "0a08c971e090f1b8d441469e47eb233196652d812b4c0a5759275d702ce3c45b"), looks := false }, kinds := [], alts := [], laidByText := true, laidKinds := [.data], laidTests := true, laidLooks := .later }
def RelaCodesCardSaid : Prop := Claim7.holds Tryd.pinned (.plain (OpenSpec.ofChange relaCodesSpec)) relaCodesCard

/-- THE TIED CARD OF 'quoinlaw11.RelaBack'. -/
def relaBackCard : Claim7 := { stood := { row := relaBackRow, standIns := [], harness := (true, "0a08c971e090f1b8d441469e47eb233196652d812b4c0a5759275d702ce3c45b"), looks := false }, kinds := [], alts := [], laidByText := true, laidKinds := [.data], laidTests := true, laidLooks := .later }
def RelaBackCardSaid : Prop := Claim7.holds Tryd.pinned (.plain (OpenSpec.ofChange relaBackSpec)) relaBackCard

/-- THE TIED CARD OF 'quoinlaw11.RelaFits'. -/
def relaFitsCard : Claim7 := { stood := { row := relaFitsRow, standIns := [], harness := (true, "0a08c971e090f1b8d441469e47eb233196652d812b4c0a5759275d702ce3c45b"), looks := false }, kinds := [], alts := [], laidByText := true, laidKinds := [.data], laidTests := true, laidLooks := .later }
def RelaFitsCardSaid : Prop := Claim7.holds Tryd.pinned (.plain (OpenSpec.ofChange relaFitsSpec)) relaFitsCard

/-- THE TIED CARD OF 'quoinlaw11.RelaFields'. -/
def relaFieldsCard : Claim7 := { stood := { row := relaFieldsRow, standIns := [], harness := (true, "0a08c971e090f1b8d441469e47eb233196652d812b4c0a5759275d702ce3c45b"), looks := false }, kinds := [], alts := [], laidByText := true, laidKinds := [.data], laidTests := true, laidLooks := .later }
def RelaFieldsCardSaid : Prop := Claim7.holds Tryd.pinned (.plain (OpenSpec.ofChange relaFieldsSpec)) relaFieldsCard

/-- THE SECOND FORM's CARD OF 'quoinlaw11.RelaNames'. -/
def relaNamesUptoCard : Claim7 := { stood := { row := relaNamesUptoRow, standIns := [], harness := (true, "0a08c971e090f1b8d441469e47eb233196652d812b4c0a5759275d702ce3c45b"), looks := false }, kinds := [], alts := [], laidByText := true, laidKinds := [.data], laidTests := true, laidLooks := .later }
def RelaNamesUptoCardSaid : Prop := Claim7.holds Tryd.pinned (.plain (OpenSpec.upto relaNamesSpec)) relaNamesUptoCard

/-- THE SECOND FORM's CARD OF 'quoinlaw11.RelaCodes'. -/
def relaCodesUptoCard : Claim7 := { stood := { row := relaCodesUptoRow, standIns := [], harness := (true, "0a08c971e090f1b8d441469e47eb233196652d812b4c0a5759275d702ce3c45b"), looks := false }, kinds := [], alts := [], laidByText := true, laidKinds := [.data], laidTests := true, laidLooks := .later }
def RelaCodesUptoCardSaid : Prop := Claim7.holds Tryd.pinned (.plain (OpenSpec.upto relaCodesSpec)) relaCodesUptoCard

/-- THE SECOND FORM's CARD OF 'quoinlaw11.RelaBack'. -/
def relaBackUptoCard : Claim7 := { stood := { row := relaBackUptoRow, standIns := [], harness := (true, "0a08c971e090f1b8d441469e47eb233196652d812b4c0a5759275d702ce3c45b"), looks := false }, kinds := [], alts := [], laidByText := true, laidKinds := [.data], laidTests := true, laidLooks := .later }
def RelaBackUptoCardSaid : Prop := Claim7.holds Tryd.pinned (.plain (OpenSpec.upto relaBackSpec)) relaBackUptoCard

/-- THE SECOND FORM's CARD OF 'quoinlaw11.RelaFits'. -/
def relaFitsUptoCard : Claim7 := { stood := { row := relaFitsUptoRow, standIns := [], harness := (true, "0a08c971e090f1b8d441469e47eb233196652d812b4c0a5759275d702ce3c45b"), looks := false }, kinds := [], alts := [], laidByText := true, laidKinds := [.data], laidTests := true, laidLooks := .later }
def RelaFitsUptoCardSaid : Prop := Claim7.holds Tryd.pinned (.plain (OpenSpec.upto relaFitsSpec)) relaFitsUptoCard

/-- THE SECOND FORM's CARD OF 'quoinlaw11.RelaFields'. -/
def relaFieldsUptoCard : Claim7 := { stood := { row := relaFieldsUptoRow, standIns := [], harness := (true, "0a08c971e090f1b8d441469e47eb233196652d812b4c0a5759275d702ce3c45b"), looks := false }, kinds := [], alts := [], laidByText := true, laidKinds := [.data], laidTests := true, laidLooks := .later }
def RelaFieldsUptoCardSaid : Prop := Claim7.holds Tryd.pinned (.plain (OpenSpec.upto relaFieldsSpec)) relaFieldsUptoCard
end Rows
end Go.Proofs.YtbfmichhpcaamaaDoor
