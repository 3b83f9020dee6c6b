/-
  DERIVED. GIVEN WITH THE SEED: THE CARDS: each row of YtkjgpagnkpnhaaaDoorRows.lean that lists a variable, with what it lists TIED to the program's text (the seventh form; the later family's looks); each row that meets fmt, with fmt's text TOLD by the authors' own Lean function (tested against real Go, not proved from fmt's source: count such statements apart). THE CARD IS WHAT COUNTS. Prove the row's statement (the work); the ties are given (YtkjgpagnkpnhaaaDoorTie.lean); close each card by the builder's one call (the guide's Derived/Test/ToyasCard.lean, 'card_holds'). Laid BY PROGRAM, IN A SANDBOX (cutbox-door.mjs). By AI agents, Wed Nov 11 2026. No macro, syntax, notation, axiom, sorry.
-/
import Derived.Test.YtkjgpagnkpnhaaaDoorRows
import GoSem.ClaimSeven
namespace Go.Proofs.YtkjgpagnkpnhaaaDoor
namespace Rows

/-- THE TIED CARD OF 'jettisonlaw07.ExprPuts'. -/
def exprPutsCard : Claim7 := { stood := { row := exprPutsRow, standIns := [], harness := (true, "a4b9b407ab7587fc0c895971de71bfebf64a74f0e14fdc6150acfd37d007e216"), looks := false }, kinds := [], alts := [], laidByText := true, laidKinds := [.data, .data, .data, .data, .pinned], laidTests := true, laidLooks := .later }
def ExprPutsCardSaid : Prop := Claim7.holds Tryd.pinned (.plain (OpenSpec.ofChange exprPutsSpec)) exprPutsCard

/-- THE TIED CARD OF 'jettisonlaw07.ExprBrackets'. -/
def exprBracketsCard : Claim7 := { stood := { row := exprBracketsRow, standIns := [], harness := (true, "a4b9b407ab7587fc0c895971de71bfebf64a74f0e14fdc6150acfd37d007e216"), looks := false }, kinds := [], alts := [], laidByText := true, laidKinds := [.data, .data, .data, .data, .pinned], laidTests := true, laidLooks := .later }
def ExprBracketsCardSaid : Prop := Claim7.holds Tryd.pinned (.plain (OpenSpec.ofChange exprBracketsSpec)) exprBracketsCard

/-- THE TIED CARD OF 'jettisonlaw07.ExprTypes'. -/
def exprTypesCard : Claim7 := { stood := { row := exprTypesRow, standIns := [], harness := (true, "a4b9b407ab7587fc0c895971de71bfebf64a74f0e14fdc6150acfd37d007e216"), looks := false }, kinds := [], alts := [], laidByText := true, laidKinds := [.data, .data, .data, .data, .pinned], laidTests := true, laidLooks := .later }
def ExprTypesCardSaid : Prop := Claim7.holds Tryd.pinned (.plain (OpenSpec.ofChange exprTypesSpec)) exprTypesCard

/-- THE TIED CARD OF 'jettisonlaw07.ExprVars'. -/
def exprVarsCard : Claim7 := { stood := { row := exprVarsRow, standIns := [], harness := (true, "a4b9b407ab7587fc0c895971de71bfebf64a74f0e14fdc6150acfd37d007e216"), looks := false }, kinds := [], alts := [], laidByText := true, laidKinds := [.data, .data, .data, .data, .pinned], laidTests := true, laidLooks := .later }
def ExprVarsCardSaid : Prop := Claim7.holds Tryd.pinned (.plain (OpenSpec.ofChange exprVarsSpec)) exprVarsCard

/-- THE TIED CARD OF 'jettisonlaw07.ExprSizes'. -/
def exprSizesCard : Claim7 := { stood := { row := exprSizesRow, standIns := [], harness := (true, "a4b9b407ab7587fc0c895971de71bfebf64a74f0e14fdc6150acfd37d007e216"), looks := false }, kinds := [], alts := [], laidByText := true, laidKinds := [.data, .data, .data, .data, .pinned], laidTests := true, laidLooks := .later }
def ExprSizesCardSaid : Prop := Claim7.holds Tryd.pinned (.plain (OpenSpec.ofChange exprSizesSpec)) exprSizesCard

/-- THE SECOND FORM's CARD OF 'jettisonlaw07.ExprPuts'. -/
def exprPutsUptoCard : Claim7 := { stood := { row := exprPutsUptoRow, standIns := [], harness := (true, "a4b9b407ab7587fc0c895971de71bfebf64a74f0e14fdc6150acfd37d007e216"), looks := false }, kinds := [], alts := [], laidByText := true, laidKinds := [.data, .data, .data, .data, .pinned], laidTests := true, laidLooks := .later }
def ExprPutsUptoCardSaid : Prop := Claim7.holds Tryd.pinned (.plain (OpenSpec.upto exprPutsSpec)) exprPutsUptoCard

/-- THE SECOND FORM's CARD OF 'jettisonlaw07.ExprBrackets'. -/
def exprBracketsUptoCard : Claim7 := { stood := { row := exprBracketsUptoRow, standIns := [], harness := (true, "a4b9b407ab7587fc0c895971de71bfebf64a74f0e14fdc6150acfd37d007e216"), looks := false }, kinds := [], alts := [], laidByText := true, laidKinds := [.data, .data, .data, .data, .pinned], laidTests := true, laidLooks := .later }
def ExprBracketsUptoCardSaid : Prop := Claim7.holds Tryd.pinned (.plain (OpenSpec.upto exprBracketsSpec)) exprBracketsUptoCard

/-- THE SECOND FORM's CARD OF 'jettisonlaw07.ExprTypes'. -/
def exprTypesUptoCard : Claim7 := { stood := { row := exprTypesUptoRow, standIns := [], harness := (true, "a4b9b407ab7587fc0c895971de71bfebf64a74f0e14fdc6150acfd37d007e216"), looks := false }, kinds := [], alts := [], laidByText := true, laidKinds := [.data, .data, .data, .data, .pinned], laidTests := true, laidLooks := .later }
def ExprTypesUptoCardSaid : Prop := Claim7.holds Tryd.pinned (.plain (OpenSpec.upto exprTypesSpec)) exprTypesUptoCard

/-- THE SECOND FORM's CARD OF 'jettisonlaw07.ExprVars'. -/
def exprVarsUptoCard : Claim7 := { stood := { row := exprVarsUptoRow, standIns := [], harness := (true, "a4b9b407ab7587fc0c895971de71bfebf64a74f0e14fdc6150acfd37d007e216"), looks := false }, kinds := [], alts := [], laidByText := true, laidKinds := [.data, .data, .data, .data, .pinned], laidTests := true, laidLooks := .later }
def ExprVarsUptoCardSaid : Prop := Claim7.holds Tryd.pinned (.plain (OpenSpec.upto exprVarsSpec)) exprVarsUptoCard

/-- THE SECOND FORM's CARD OF 'jettisonlaw07.ExprSizes'. -/
def exprSizesUptoCard : Claim7 := { stood := { row := exprSizesUptoRow, standIns := [], harness := (true, "a4b9b407ab7587fc0c895971de71bfebf64a74f0e14fdc6150acfd37d007e216"), looks := false }, kinds := [], alts := [], laidByText := true, laidKinds := [.data, .data, .data, .data, .pinned], laidTests := true, laidLooks := .later }
def ExprSizesUptoCardSaid : Prop := Claim7.holds Tryd.pinned (.plain (OpenSpec.upto exprSizesSpec)) exprSizesUptoCard
end Rows
end Go.Proofs.YtkjgpagnkpnhaaaDoor
