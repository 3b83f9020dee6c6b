/-
  DERIVED. GIVEN WITH THE SEED: THE CARDS: each row of YtbhjimlikffalaaDoorRows.lean that lists a variable, with what it lists TIED to the program's text (the seventh form; the later family's looks); each row that meets fmt, with fmt's text TOLD by the authors' own Lean function (tested against real Go, not proved from fmt's source: count such statements apart). THE CARD IS WHAT COUNTS. Prove the row's statement (the work); the ties are given (YtbhjimlikffalaaDoorTie.lean); close each card by the builder's one call (the guide's Derived/Test/ToyasCard.lean, 'card_holds'). Laid BY PROGRAM, IN A SANDBOX (cutbox-door.mjs). By AI agents, Wed Nov 11 2026. No macro, syntax, notation, axiom, sorry.
-/
import Derived.Test.YtbhjimlikffalaaDoorRows
import GoSem.ClaimSeven
namespace Go.Proofs.YtbhjimlikffalaaDoor
namespace Rows

/-- THE TIED CARD OF 'jettisonlaw07.ExprPuts'. -/
def exprPutsCard : Claim7 := { stood := { row := exprPutsRow, standIns := [], harness := (true, "15d6484715dfbd0f6b46488a3896524e309c4f6557840055edfd8ee5701ff1b1"), looks := true }, kinds := [], alts := [], laidByText := true, laidKinds := [.data, .data, .data, .data, .pinned], laidTests := true, laidLooks := .later }
def ExprPutsCardSaid : Prop := Claim7.holds Tryd.pinned (.plain (OpenSpec.ofChange exprPutsSpec)) exprPutsCard

/-- THE TIED CARD OF 'jettisonlaw07.ExprVars'. -/
def exprVarsCard : Claim7 := { stood := { row := exprVarsRow, standIns := [], harness := (true, "15d6484715dfbd0f6b46488a3896524e309c4f6557840055edfd8ee5701ff1b1"), looks := true }, kinds := [], alts := [], laidByText := true, laidKinds := [.data, .data, .data, .data, .pinned], laidTests := true, laidLooks := .later }
def ExprVarsCardSaid : Prop := Claim7.holds Tryd.pinned (.plain (OpenSpec.ofChange exprVarsSpec)) exprVarsCard

/-- THE TIED CARD OF 'jettisonlaw08.ValueTells'. -/
def valueTellsCard : Claim7 := { stood := { row := valueTellsRow, standIns := [], harness := (true, "15d6484715dfbd0f6b46488a3896524e309c4f6557840055edfd8ee5701ff1b1"), looks := true }, kinds := [], alts := [], laidByText := true, laidKinds := [.data, .pinned], laidTests := true, laidLooks := .later }
def ValueTellsCardSaid : Prop := Claim7.holds Tryd.pinned (.plain (OpenSpec.ofChange valueTellsSpec)) valueTellsCard

/-- THE SECOND FORM's CARD OF 'jettisonlaw07.ExprPuts'. -/
def exprPutsUptoCard : Claim7 := { stood := { row := exprPutsUptoRow, standIns := [], harness := (true, "15d6484715dfbd0f6b46488a3896524e309c4f6557840055edfd8ee5701ff1b1"), looks := true }, kinds := [], alts := [], laidByText := true, laidKinds := [.data, .data, .data, .data, .pinned], laidTests := true, laidLooks := .later }
def ExprPutsUptoCardSaid : Prop := Claim7.holds Tryd.pinned (.plain (OpenSpec.upto exprPutsSpec)) exprPutsUptoCard

/-- THE SECOND FORM's CARD OF 'jettisonlaw07.ExprVars'. -/
def exprVarsUptoCard : Claim7 := { stood := { row := exprVarsUptoRow, standIns := [], harness := (true, "15d6484715dfbd0f6b46488a3896524e309c4f6557840055edfd8ee5701ff1b1"), looks := true }, kinds := [], alts := [], laidByText := true, laidKinds := [.data, .data, .data, .data, .pinned], laidTests := true, laidLooks := .later }
def ExprVarsUptoCardSaid : Prop := Claim7.holds Tryd.pinned (.plain (OpenSpec.upto exprVarsSpec)) exprVarsUptoCard

/-- THE SECOND FORM's CARD OF 'jettisonlaw08.ValueTells'. -/
def valueTellsUptoCard : Claim7 := { stood := { row := valueTellsUptoRow, standIns := [], harness := (true, "15d6484715dfbd0f6b46488a3896524e309c4f6557840055edfd8ee5701ff1b1"), looks := true }, kinds := [], alts := [], laidByText := true, laidKinds := [.data, .pinned], laidTests := true, laidLooks := .later }
def ValueTellsUptoCardSaid : Prop := Claim7.holds Tryd.pinned (.plain (OpenSpec.upto valueTellsSpec)) valueTellsUptoCard
end Rows
end Go.Proofs.YtbhjimlikffalaaDoor
