/-
  DERIVED. GIVEN WITH THE SEED: THE CARDS: each row of YtljmgbpecoifnaaGreatDoorRows.lean that lists a variable, with what it lists TIED to the program's text (the seventh form; the later family's looks); each row that meets fmt, with fmt's text TOLD by the authors' own Lean function (tested against real Go, not proved from fmt's source: count such statements apart). THE CARD IS WHAT COUNTS. Prove the row's statement (the work); the ties are given (YtljmgbpecoifnaaGreatDoorTie.lean); close each card by the builder's one call (the guide's Derived/Test/ToyasCard.lean, 'card_holds'). Laid BY PROGRAM, IN A SANDBOX (cutbox-door.mjs). By AI agents, Wed Nov 11 2026. No macro, syntax, notation, axiom, sorry.
-/
import Derived.Test.YtljmgbpecoifnaaGreatDoorRows
import GoSem.ClaimSeven
namespace Go.Proofs.YtljmgbpecoifnaaGreatDoor
namespace Rows

/-- THE TIED CARD OF 'quoinlaw12.ElfwNames'. -/
def elfwNamesCard : Claim7 := { stood := { row := elfwNamesRow, standIns := [], harness := (true, "162be737ad4950372fcb4b05a39b3bc57c22a5beac01a259067ab6e9defda1d4"), looks := false }, kinds := [], alts := [], laidByText := true, laidKinds := [.data, .data, .data], laidTests := true, laidLooks := .later }
def ElfwNamesCardSaid : Prop := Claim7.holds Tryz.pinned (.plain (OpenSpec.ofChange elfwNamesSpec)) elfwNamesCard

/-- THE TIED CARD OF 'quoinlaw12.ElfwWrites'. -/
def elfwWritesCard : Claim7 := { stood := { row := elfwWritesRow, standIns := [], harness := (true, "162be737ad4950372fcb4b05a39b3bc57c22a5beac01a259067ab6e9defda1d4"), looks := false }, kinds := [], alts := [], laidByText := true, laidKinds := [.data, .data, .data], laidTests := true, laidLooks := .later }
def ElfwWritesCardSaid : Prop := Claim7.holds Tryz.pinned (.plain (OpenSpec.ofChange elfwWritesSpec)) elfwWritesCard

/-- THE TIED CARD OF 'quoinlaw12.ElfwParts'. -/
def elfwPartsCard : Claim7 := { stood := { row := elfwPartsRow, standIns := [], harness := (true, "162be737ad4950372fcb4b05a39b3bc57c22a5beac01a259067ab6e9defda1d4"), looks := false }, kinds := [], alts := [], laidByText := true, laidKinds := [.data, .data, .data], laidTests := true, laidLooks := .later }
def ElfwPartsCardSaid : Prop := Claim7.holds Tryz.pinned (.plain (OpenSpec.ofChange elfwPartsSpec)) elfwPartsCard

/-- THE TIED CARD OF 'quoinlaw12.ElfwApart'. -/
def elfwApartCard : Claim7 := { stood := { row := elfwApartRow, standIns := [], harness := (true, "162be737ad4950372fcb4b05a39b3bc57c22a5beac01a259067ab6e9defda1d4"), looks := false }, kinds := [], alts := [], laidByText := true, laidKinds := [.data, .data, .data], laidTests := true, laidLooks := .later }
def ElfwApartCardSaid : Prop := Claim7.holds Tryz.pinned (.plain (OpenSpec.ofChange elfwApartSpec)) elfwApartCard

/-- THE TIED CARD OF 'quoinlaw12.ElfwLess'. -/
def elfwLessCard : Claim7 := { stood := { row := elfwLessRow, standIns := [], harness := (true, "162be737ad4950372fcb4b05a39b3bc57c22a5beac01a259067ab6e9defda1d4"), looks := false }, kinds := [], alts := [], laidByText := true, laidKinds := [.data, .data, .data], laidTests := true, laidLooks := .later }
def ElfwLessCardSaid : Prop := Claim7.holds Tryz.pinned (.plain (OpenSpec.ofChange elfwLessSpec)) elfwLessCard

/-- THE SECOND FORM's CARD OF 'quoinlaw12.ElfwNames'. -/
def elfwNamesUptoCard : Claim7 := { stood := { row := elfwNamesUptoRow, standIns := [], harness := (true, "162be737ad4950372fcb4b05a39b3bc57c22a5beac01a259067ab6e9defda1d4"), looks := false }, kinds := [], alts := [], laidByText := true, laidKinds := [.data, .data, .data], laidTests := true, laidLooks := .later }
def ElfwNamesUptoCardSaid : Prop := Claim7.holds Tryz.pinned (.plain (OpenSpec.upto elfwNamesSpec)) elfwNamesUptoCard

/-- THE SECOND FORM's CARD OF 'quoinlaw12.ElfwWrites'. -/
def elfwWritesUptoCard : Claim7 := { stood := { row := elfwWritesUptoRow, standIns := [], harness := (true, "162be737ad4950372fcb4b05a39b3bc57c22a5beac01a259067ab6e9defda1d4"), looks := false }, kinds := [], alts := [], laidByText := true, laidKinds := [.data, .data, .data], laidTests := true, laidLooks := .later }
def ElfwWritesUptoCardSaid : Prop := Claim7.holds Tryz.pinned (.plain (OpenSpec.upto elfwWritesSpec)) elfwWritesUptoCard

/-- THE SECOND FORM's CARD OF 'quoinlaw12.ElfwParts'. -/
def elfwPartsUptoCard : Claim7 := { stood := { row := elfwPartsUptoRow, standIns := [], harness := (true, "162be737ad4950372fcb4b05a39b3bc57c22a5beac01a259067ab6e9defda1d4"), looks := false }, kinds := [], alts := [], laidByText := true, laidKinds := [.data, .data, .data], laidTests := true, laidLooks := .later }
def ElfwPartsUptoCardSaid : Prop := Claim7.holds Tryz.pinned (.plain (OpenSpec.upto elfwPartsSpec)) elfwPartsUptoCard

/-- THE SECOND FORM's CARD OF 'quoinlaw12.ElfwApart'. -/
def elfwApartUptoCard : Claim7 := { stood := { row := elfwApartUptoRow, standIns := [], harness := (true, "162be737ad4950372fcb4b05a39b3bc57c22a5beac01a259067ab6e9defda1d4"), looks := false }, kinds := [], alts := [], laidByText := true, laidKinds := [.data, .data, .data], laidTests := true, laidLooks := .later }
def ElfwApartUptoCardSaid : Prop := Claim7.holds Tryz.pinned (.plain (OpenSpec.upto elfwApartSpec)) elfwApartUptoCard

/-- THE SECOND FORM's CARD OF 'quoinlaw12.ElfwLess'. -/
def elfwLessUptoCard : Claim7 := { stood := { row := elfwLessUptoRow, standIns := [], harness := (true, "162be737ad4950372fcb4b05a39b3bc57c22a5beac01a259067ab6e9defda1d4"), looks := false }, kinds := [], alts := [], laidByText := true, laidKinds := [.data, .data, .data], laidTests := true, laidLooks := .later }
def ElfwLessUptoCardSaid : Prop := Claim7.holds Tryz.pinned (.plain (OpenSpec.upto elfwLessSpec)) elfwLessUptoCard
end Rows
end Go.Proofs.YtljmgbpecoifnaaGreatDoor
