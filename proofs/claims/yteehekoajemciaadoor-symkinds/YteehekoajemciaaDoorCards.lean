/-
  DERIVED. GIVEN WITH THE SEED: THE CARDS: each row of YteehekoajemciaaDoorRows.lean that lists a variable, with what it lists TIED to the program's text (the seventh form; the later family's looks); each row that meets fmt, with fmt's text TOLD by the authors' own Lean function (tested against real Go, not proved from fmt's source: count such statements apart). THE CARD IS WHAT COUNTS. Prove the row's statement (the work); the ties are given (YteehekoajemciaaDoorTie.lean); close each card by the builder's one call (the guide's Derived/Test/ToyasCard.lean, 'card_holds'). Laid BY PROGRAM, IN A SANDBOX (cutbox-door.mjs). By AI agents, Wed Nov 11 2026. No macro, syntax, notation, axiom, sorry.
-/
import Derived.Test.YteehekoajemciaaDoorRows
import GoSem.ClaimSeven
namespace Go.Proofs.YteehekoajemciaaDoor
namespace Rows

/-- THE TIED CARD OF 'quoinlaw10.SymNames'. -/
def symNamesCard : Claim7 := { stood := { row := symNamesRow, standIns := [], harness := (true, "ffaf1738e1bd9e1f47576fb618d518bc517e5426707064b2be2b8b6db8a72f5f"), looks := false }, kinds := [], alts := [], laidByText := true, laidKinds := [.data], laidTests := true, laidLooks := .later }
def SymNamesCardSaid : Prop := Claim7.holds Tryd.pinned (.plain (OpenSpec.ofChange symNamesSpec)) symNamesCard

/-- THE TIED CARD OF 'quoinlaw10.SymCodes'. -/
def symCodesCard : Claim7 := { stood := { row := symCodesRow, standIns := [], harness := (true, "ffaf1738e1bd9e1f47576fb618d518bc517e5426707064b2be2b8b6db8a72f5f"), looks := false }, kinds := [], alts := [], laidByText := true, laidKinds := [.data], laidTests := true, laidLooks := .later }
def SymCodesCardSaid : Prop := Claim7.holds Tryd.pinned (.plain (OpenSpec.ofChange symCodesSpec)) symCodesCard

/-- THE TIED CARD OF 'quoinlaw10.SymBack'. -/
def symBackCard : Claim7 := { stood := { row := symBackRow, standIns := [], harness := (true, "ffaf1738e1bd9e1f47576fb618d518bc517e5426707064b2be2b8b6db8a72f5f"), looks := false }, kinds := [], alts := [], laidByText := true, laidKinds := [.data], laidTests := true, laidLooks := .later }
def SymBackCardSaid : Prop := Claim7.holds Tryd.pinned (.plain (OpenSpec.ofChange symBackSpec)) symBackCard

/-- THE TIED CARD OF 'quoinlaw10.SymWhere'. -/
def symWhereCard : Claim7 := { stood := { row := symWhereRow, standIns := [], harness := (true, "ffaf1738e1bd9e1f47576fb618d518bc517e5426707064b2be2b8b6db8a72f5f"), looks := false }, kinds := [], alts := [], laidByText := true, laidKinds := [.data], laidTests := true, laidLooks := .later }
def SymWhereCardSaid : Prop := Claim7.holds Tryd.pinned (.plain (OpenSpec.ofChange symWhereSpec)) symWhereCard

/-- THE TIED CARD OF 'quoinlaw10.SymUnlike'. -/
def symUnlikeCard : Claim7 := { stood := { row := symUnlikeRow, standIns := [], harness := (true, "ffaf1738e1bd9e1f47576fb618d518bc517e5426707064b2be2b8b6db8a72f5f"), looks := false }, kinds := [], alts := [], laidByText := true, laidKinds := [.data], laidTests := true, laidLooks := .later }
def SymUnlikeCardSaid : Prop := Claim7.holds Tryd.pinned (.plain (OpenSpec.ofChange symUnlikeSpec)) symUnlikeCard

/-- THE TIED CARD OF 'quoinlaw10.SymKinds'. -/
def symKindsCard : Claim7 := { stood := { row := symKindsRow, standIns := [], harness := (true, "ffaf1738e1bd9e1f47576fb618d518bc517e5426707064b2be2b8b6db8a72f5f"), looks := false }, kinds := [], alts := [], laidByText := true, laidKinds := [.data], laidTests := true, laidLooks := .later }
def SymKindsCardSaid : Prop := Claim7.holds Tryd.pinned (.plain (OpenSpec.ofChange symKindsSpec)) symKindsCard

/-- THE SECOND FORM's CARD OF 'quoinlaw10.SymNames'. -/
def symNamesUptoCard : Claim7 := { stood := { row := symNamesUptoRow, standIns := [], harness := (true, "ffaf1738e1bd9e1f47576fb618d518bc517e5426707064b2be2b8b6db8a72f5f"), looks := false }, kinds := [], alts := [], laidByText := true, laidKinds := [.data], laidTests := true, laidLooks := .later }
def SymNamesUptoCardSaid : Prop := Claim7.holds Tryd.pinned (.plain (OpenSpec.upto symNamesSpec)) symNamesUptoCard

/-- THE SECOND FORM's CARD OF 'quoinlaw10.SymCodes'. -/
def symCodesUptoCard : Claim7 := { stood := { row := symCodesUptoRow, standIns := [], harness := (true, "ffaf1738e1bd9e1f47576fb618d518bc517e5426707064b2be2b8b6db8a72f5f"), looks := false }, kinds := [], alts := [], laidByText := true, laidKinds := [.data], laidTests := true, laidLooks := .later }
def SymCodesUptoCardSaid : Prop := Claim7.holds Tryd.pinned (.plain (OpenSpec.upto symCodesSpec)) symCodesUptoCard

/-- THE SECOND FORM's CARD OF 'quoinlaw10.SymBack'. -/
def symBackUptoCard : Claim7 := { stood := { row := symBackUptoRow, standIns := [], harness := (true, "ffaf1738e1bd9e1f47576fb618d518bc517e5426707064b2be2b8b6db8a72f5f"), looks := false }, kinds := [], alts := [], laidByText := true, laidKinds := [.data], laidTests := true, laidLooks := .later }
def SymBackUptoCardSaid : Prop := Claim7.holds Tryd.pinned (.plain (OpenSpec.upto symBackSpec)) symBackUptoCard

/-- THE SECOND FORM's CARD OF 'quoinlaw10.SymWhere'. -/
def symWhereUptoCard : Claim7 := { stood := { row := symWhereUptoRow, standIns := [], harness := (true, "ffaf1738e1bd9e1f47576fb618d518bc517e5426707064b2be2b8b6db8a72f5f"), looks := false }, kinds := [], alts := [], laidByText := true, laidKinds := [.data], laidTests := true, laidLooks := .later }
def SymWhereUptoCardSaid : Prop := Claim7.holds Tryd.pinned (.plain (OpenSpec.upto symWhereSpec)) symWhereUptoCard

/-- THE SECOND FORM's CARD OF 'quoinlaw10.SymUnlike'. -/
def symUnlikeUptoCard : Claim7 := { stood := { row := symUnlikeUptoRow, standIns := [], harness := (true, "ffaf1738e1bd9e1f47576fb618d518bc517e5426707064b2be2b8b6db8a72f5f"), looks := false }, kinds := [], alts := [], laidByText := true, laidKinds := [.data], laidTests := true, laidLooks := .later }
def SymUnlikeUptoCardSaid : Prop := Claim7.holds Tryd.pinned (.plain (OpenSpec.upto symUnlikeSpec)) symUnlikeUptoCard

/-- THE SECOND FORM's CARD OF 'quoinlaw10.SymKinds'. -/
def symKindsUptoCard : Claim7 := { stood := { row := symKindsUptoRow, standIns := [], harness := (true, "ffaf1738e1bd9e1f47576fb618d518bc517e5426707064b2be2b8b6db8a72f5f"), looks := false }, kinds := [], alts := [], laidByText := true, laidKinds := [.data], laidTests := true, laidLooks := .later }
def SymKindsUptoCardSaid : Prop := Claim7.holds Tryd.pinned (.plain (OpenSpec.upto symKindsSpec)) symKindsUptoCard
end Rows
end Go.Proofs.YteehekoajemciaaDoor
