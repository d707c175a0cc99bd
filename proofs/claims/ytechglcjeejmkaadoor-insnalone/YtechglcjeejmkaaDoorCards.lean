/-
  DERIVED. GIVEN WITH THE SEED: THE CARDS: each row of YtechglcjeejmkaaDoorRows.lean that lists a variable, with what it lists TIED to the program's text (the seventh form; the later family's looks); each row that meets fmt, with fmt's text TOLD by the authors' own Lean function (tested against real Go, not proved from fmt's source: count such statements apart). THE CARD IS WHAT COUNTS. Prove the row's statement (the work); the ties are given (YtechglcjeejmkaaDoorTie.lean); close each card by the builder's one call (the guide's Derived/Test/ToyasCard.lean, 'card_holds'). Laid BY PROGRAM, IN A SANDBOX (cutbox-door.mjs). By AI agents, Wed Nov 11 2026. No macro, syntax, notation, axiom, sorry.
-/
import Derived.Test.YtechglcjeejmkaaDoorRows
import GoSem.ClaimSeven
namespace Go.Proofs.YtechglcjeejmkaaDoor
namespace Rows

/-- THE TIED CARD OF 'quoinlaw02.InsnNames'. -/
def insnNamesCard : Claim7 := { stood := { row := insnNamesRow, standIns := [], harness := (true, "fabcb429d9e73857f4fcfed63b80277ece1d0186d3a9390136052c75fdd802ca"), looks := false }, kinds := [], alts := [], laidByText := true, laidKinds := [.data], laidTests := true, laidLooks := .later }
def InsnNamesCardSaid : Prop := Claim7.holds Tryd.pinned (.plain (OpenSpec.ofChange insnNamesSpec)) insnNamesCard

/-- THE TIED CARD OF 'quoinlaw02.InsnTells'. -/
def insnTellsCard : Claim7 := { stood := { row := insnTellsRow, standIns := [], harness := (true, "fabcb429d9e73857f4fcfed63b80277ece1d0186d3a9390136052c75fdd802ca"), looks := false }, kinds := [], alts := [], laidByText := true, laidKinds := [.data], laidTests := true, laidLooks := .later }
def InsnTellsCardSaid : Prop := Claim7.holds Tryd.pinned (.plain (OpenSpec.ofChange insnTellsSpec)) insnTellsCard

/-- THE TIED CARD OF 'quoinlaw02.InsnAlone'. -/
def insnAloneCard : Claim7 := { stood := { row := insnAloneRow, standIns := [], harness := (true, "fabcb429d9e73857f4fcfed63b80277ece1d0186d3a9390136052c75fdd802ca"), looks := false }, kinds := [], alts := [], laidByText := true, laidKinds := [.data], laidTests := true, laidLooks := .later }
def InsnAloneCardSaid : Prop := Claim7.holds Tryd.pinned (.plain (OpenSpec.ofChange insnAloneSpec)) insnAloneCard

/-- THE TIED CARD OF 'quoinlaw02.InsnLess'. -/
def insnLessCard : Claim7 := { stood := { row := insnLessRow, standIns := [], harness := (true, "fabcb429d9e73857f4fcfed63b80277ece1d0186d3a9390136052c75fdd802ca"), looks := false }, kinds := [], alts := [], laidByText := true, laidKinds := [.data], laidTests := true, laidLooks := .later }
def InsnLessCardSaid : Prop := Claim7.holds Tryd.pinned (.plain (OpenSpec.ofChange insnLessSpec)) insnLessCard

/-- THE TIED CARD OF 'quoinlaw02.InsnAll'. -/
def insnAllCard : Claim7 := { stood := { row := insnAllRow, standIns := [], harness := (true, "fabcb429d9e73857f4fcfed63b80277ece1d0186d3a9390136052c75fdd802ca"), looks := false }, kinds := [], alts := [], laidByText := true, laidKinds := [.data], laidTests := true, laidLooks := .later }
def InsnAllCardSaid : Prop := Claim7.holds Tryd.pinned (.plain (OpenSpec.ofChange insnAllSpec)) insnAllCard

/-- THE SECOND FORM's CARD OF 'quoinlaw02.InsnNames'. -/
def insnNamesUptoCard : Claim7 := { stood := { row := insnNamesUptoRow, standIns := [], harness := (true, "fabcb429d9e73857f4fcfed63b80277ece1d0186d3a9390136052c75fdd802ca"), looks := false }, kinds := [], alts := [], laidByText := true, laidKinds := [.data], laidTests := true, laidLooks := .later }
def InsnNamesUptoCardSaid : Prop := Claim7.holds Tryd.pinned (.plain (OpenSpec.upto insnNamesSpec)) insnNamesUptoCard

/-- THE SECOND FORM's CARD OF 'quoinlaw02.InsnTells'. -/
def insnTellsUptoCard : Claim7 := { stood := { row := insnTellsUptoRow, standIns := [], harness := (true, "fabcb429d9e73857f4fcfed63b80277ece1d0186d3a9390136052c75fdd802ca"), looks := false }, kinds := [], alts := [], laidByText := true, laidKinds := [.data], laidTests := true, laidLooks := .later }
def InsnTellsUptoCardSaid : Prop := Claim7.holds Tryd.pinned (.plain (OpenSpec.upto insnTellsSpec)) insnTellsUptoCard

/-- THE SECOND FORM's CARD OF 'quoinlaw02.InsnAlone'. -/
def insnAloneUptoCard : Claim7 := { stood := { row := insnAloneUptoRow, standIns := [], harness := (true, "fabcb429d9e73857f4fcfed63b80277ece1d0186d3a9390136052c75fdd802ca"), looks := false }, kinds := [], alts := [], laidByText := true, laidKinds := [.data], laidTests := true, laidLooks := .later }
def InsnAloneUptoCardSaid : Prop := Claim7.holds Tryd.pinned (.plain (OpenSpec.upto insnAloneSpec)) insnAloneUptoCard

/-- THE SECOND FORM's CARD OF 'quoinlaw02.InsnLess'. -/
def insnLessUptoCard : Claim7 := { stood := { row := insnLessUptoRow, standIns := [], harness := (true, "fabcb429d9e73857f4fcfed63b80277ece1d0186d3a9390136052c75fdd802ca"), looks := false }, kinds := [], alts := [], laidByText := true, laidKinds := [.data], laidTests := true, laidLooks := .later }
def InsnLessUptoCardSaid : Prop := Claim7.holds Tryd.pinned (.plain (OpenSpec.upto insnLessSpec)) insnLessUptoCard

/-- THE SECOND FORM's CARD OF 'quoinlaw02.InsnAll'. -/
def insnAllUptoCard : Claim7 := { stood := { row := insnAllUptoRow, standIns := [], harness := (true, "fabcb429d9e73857f4fcfed63b80277ece1d0186d3a9390136052c75fdd802ca"), looks := false }, kinds := [], alts := [], laidByText := true, laidKinds := [.data], laidTests := true, laidLooks := .later }
def InsnAllUptoCardSaid : Prop := Claim7.holds Tryd.pinned (.plain (OpenSpec.upto insnAllSpec)) insnAllUptoCard
end Rows
end Go.Proofs.YtechglcjeejmkaaDoor
