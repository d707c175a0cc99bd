/-
  DERIVED. GIVEN WITH THE SEED: THE CARDS: each row of YtmjpbnpaokafhaaDoorRows.lean that lists a variable, with what it lists TIED to the program's text (the seventh form; the later family's looks); each row that meets fmt, with fmt's text TOLD by the authors' own Lean function (tested against real Go, not proved from fmt's source: count such statements apart). THE CARD IS WHAT COUNTS. Prove the row's statement (the work); the ties are given (YtmjpbnpaokafhaaDoorTie.lean); close each card by the builder's one call (the guide's Derived/Test/ToyasCard.lean, 'card_holds'). Laid BY PROGRAM, IN A SANDBOX (cutbox-door.mjs). By AI agents, Wed Nov 11 2026. No macro, syntax, notation, axiom, sorry.
-/
import Derived.Test.YtmjpbnpaokafhaaDoorRows
import GoSem.ClaimSeven
namespace Go.Proofs.YtmjpbnpaokafhaaDoor
namespace Rows

/-- THE TIED CARD OF 'quoinlaw03.EncNames'. -/
def encNamesCard : Claim7 := { stood := { row := encNamesRow, standIns := [], harness := (true, "e9a7b1badc599e9fb8d08cdcd65f9e40954084a94015a2df64cd5df526432076"), looks := false }, kinds := [], alts := [], laidByText := true, laidKinds := [.data], laidTests := true, laidLooks := .later }
def EncNamesCardSaid : Prop := Claim7.holds Tryd.pinned (.plain (OpenSpec.ofChange encNamesSpec)) encNamesCard

/-- THE TIED CARD OF 'quoinlaw03.EncTells'. -/
def encTellsCard : Claim7 := { stood := { row := encTellsRow, standIns := [], harness := (true, "e9a7b1badc599e9fb8d08cdcd65f9e40954084a94015a2df64cd5df526432076"), looks := false }, kinds := [], alts := [], laidByText := true, laidKinds := [.data], laidTests := true, laidLooks := .later }
def EncTellsCardSaid : Prop := Claim7.holds Tryd.pinned (.plain (OpenSpec.ofChange encTellsSpec)) encTellsCard

/-- THE TIED CARD OF 'quoinlaw03.EncAlone'. -/
def encAloneCard : Claim7 := { stood := { row := encAloneRow, standIns := [], harness := (true, "e9a7b1badc599e9fb8d08cdcd65f9e40954084a94015a2df64cd5df526432076"), looks := false }, kinds := [], alts := [], laidByText := true, laidKinds := [.data], laidTests := true, laidLooks := .later }
def EncAloneCardSaid : Prop := Claim7.holds Tryd.pinned (.plain (OpenSpec.ofChange encAloneSpec)) encAloneCard

/-- THE SECOND FORM's CARD OF 'quoinlaw03.EncNames'. -/
def encNamesUptoCard : Claim7 := { stood := { row := encNamesUptoRow, standIns := [], harness := (true, "e9a7b1badc599e9fb8d08cdcd65f9e40954084a94015a2df64cd5df526432076"), looks := false }, kinds := [], alts := [], laidByText := true, laidKinds := [.data], laidTests := true, laidLooks := .later }
def EncNamesUptoCardSaid : Prop := Claim7.holds Tryd.pinned (.plain (OpenSpec.upto encNamesSpec)) encNamesUptoCard

/-- THE SECOND FORM's CARD OF 'quoinlaw03.EncTells'. -/
def encTellsUptoCard : Claim7 := { stood := { row := encTellsUptoRow, standIns := [], harness := (true, "e9a7b1badc599e9fb8d08cdcd65f9e40954084a94015a2df64cd5df526432076"), looks := false }, kinds := [], alts := [], laidByText := true, laidKinds := [.data], laidTests := true, laidLooks := .later }
def EncTellsUptoCardSaid : Prop := Claim7.holds Tryd.pinned (.plain (OpenSpec.upto encTellsSpec)) encTellsUptoCard

/-- THE SECOND FORM's CARD OF 'quoinlaw03.EncAlone'. -/
def encAloneUptoCard : Claim7 := { stood := { row := encAloneUptoRow, standIns := [], harness := (true, "e9a7b1badc599e9fb8d08cdcd65f9e40954084a94015a2df64cd5df526432076"), looks := false }, kinds := [], alts := [], laidByText := true, laidKinds := [.data], laidTests := true, laidLooks := .later }
def EncAloneUptoCardSaid : Prop := Claim7.holds Tryd.pinned (.plain (OpenSpec.upto encAloneSpec)) encAloneUptoCard
end Rows
end Go.Proofs.YtmjpbnpaokafhaaDoor
