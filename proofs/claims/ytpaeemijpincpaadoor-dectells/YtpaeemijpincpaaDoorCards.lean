/-
  DERIVED. GIVEN WITH THE SEED: THE CARDS: each row of YtpaeemijpincpaaDoorRows.lean that lists a variable, with what it lists TIED to the program's text (the seventh form; the later family's looks); each row that meets fmt, with fmt's text TOLD by the authors' own Lean function (tested against real Go, not proved from fmt's source: count such statements apart). THE CARD IS WHAT COUNTS. Prove the row's statement (the work); the ties are given (YtpaeemijpincpaaDoorTie.lean); close each card by the builder's one call (the guide's Derived/Test/ToyasCard.lean, 'card_holds'). Laid BY PROGRAM, IN A SANDBOX (cutbox-door.mjs). By AI agents, Wed Nov 11 2026. No macro, syntax, notation, axiom, sorry.
-/
import Derived.Test.YtpaeemijpincpaaDoorRows
import GoSem.ClaimSeven
namespace Go.Proofs.YtpaeemijpincpaaDoor
namespace Rows

/-- THE TIED CARD OF 'quoinlaw04.DecNames'. -/
def decNamesCard : Claim7 := { stood := { row := decNamesRow, standIns := [], harness := (true, "f86227ea97f0ea7215c4c3c0504406a3b14cee95ea8e3f2d9ad046586802783a"), looks := false }, kinds := [], alts := [], laidByText := true, laidKinds := [.data], laidTests := true, laidLooks := .later }
def DecNamesCardSaid : Prop := Claim7.holds Tryd.pinned (.plain (OpenSpec.ofChange decNamesSpec)) decNamesCard

/-- THE TIED CARD OF 'quoinlaw04.DecTells'. -/
def decTellsCard : Claim7 := { stood := { row := decTellsRow, standIns := [], harness := (true, "f86227ea97f0ea7215c4c3c0504406a3b14cee95ea8e3f2d9ad046586802783a"), looks := false }, kinds := [], alts := [], laidByText := true, laidKinds := [.data], laidTests := true, laidLooks := .later }
def DecTellsCardSaid : Prop := Claim7.holds Tryd.pinned (.plain (OpenSpec.ofChange decTellsSpec)) decTellsCard

/-- THE TIED CARD OF 'quoinlaw04.DecBack'. -/
def decBackCard : Claim7 := { stood := { row := decBackRow, standIns := [], harness := (true, "f86227ea97f0ea7215c4c3c0504406a3b14cee95ea8e3f2d9ad046586802783a"), looks := false }, kinds := [], alts := [], laidByText := true, laidKinds := [.data], laidTests := true, laidLooks := .later }
def DecBackCardSaid : Prop := Claim7.holds Tryd.pinned (.plain (OpenSpec.ofChange decBackSpec)) decBackCard

/-- THE TIED CARD OF 'quoinlaw04.DecFixed'. -/
def decFixedCard : Claim7 := { stood := { row := decFixedRow, standIns := [], harness := (true, "f86227ea97f0ea7215c4c3c0504406a3b14cee95ea8e3f2d9ad046586802783a"), looks := false }, kinds := [], alts := [], laidByText := true, laidKinds := [.data], laidTests := true, laidLooks := .later }
def DecFixedCardSaid : Prop := Claim7.holds Tryd.pinned (.plain (OpenSpec.ofChange decFixedSpec)) decFixedCard

/-- THE SECOND FORM's CARD OF 'quoinlaw04.DecNames'. -/
def decNamesUptoCard : Claim7 := { stood := { row := decNamesUptoRow, standIns := [], harness := (true, "f86227ea97f0ea7215c4c3c0504406a3b14cee95ea8e3f2d9ad046586802783a"), looks := false }, kinds := [], alts := [], laidByText := true, laidKinds := [.data], laidTests := true, laidLooks := .later }
def DecNamesUptoCardSaid : Prop := Claim7.holds Tryd.pinned (.plain (OpenSpec.upto decNamesSpec)) decNamesUptoCard

/-- THE SECOND FORM's CARD OF 'quoinlaw04.DecTells'. -/
def decTellsUptoCard : Claim7 := { stood := { row := decTellsUptoRow, standIns := [], harness := (true, "f86227ea97f0ea7215c4c3c0504406a3b14cee95ea8e3f2d9ad046586802783a"), looks := false }, kinds := [], alts := [], laidByText := true, laidKinds := [.data], laidTests := true, laidLooks := .later }
def DecTellsUptoCardSaid : Prop := Claim7.holds Tryd.pinned (.plain (OpenSpec.upto decTellsSpec)) decTellsUptoCard

/-- THE SECOND FORM's CARD OF 'quoinlaw04.DecBack'. -/
def decBackUptoCard : Claim7 := { stood := { row := decBackUptoRow, standIns := [], harness := (true, "f86227ea97f0ea7215c4c3c0504406a3b14cee95ea8e3f2d9ad046586802783a"), looks := false }, kinds := [], alts := [], laidByText := true, laidKinds := [.data], laidTests := true, laidLooks := .later }
def DecBackUptoCardSaid : Prop := Claim7.holds Tryd.pinned (.plain (OpenSpec.upto decBackSpec)) decBackUptoCard

/-- THE SECOND FORM's CARD OF 'quoinlaw04.DecFixed'. -/
def decFixedUptoCard : Claim7 := { stood := { row := decFixedUptoRow, standIns := [], harness := (true, "f86227ea97f0ea7215c4c3c0504406a3b14cee95ea8e3f2d9ad046586802783a"), looks := false }, kinds := [], alts := [], laidByText := true, laidKinds := [.data], laidTests := true, laidLooks := .later }
def DecFixedUptoCardSaid : Prop := Claim7.holds Tryd.pinned (.plain (OpenSpec.upto decFixedSpec)) decFixedUptoCard
end Rows
end Go.Proofs.YtpaeemijpincpaaDoor
