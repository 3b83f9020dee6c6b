/-
  DERIVED. GIVEN WITH THE SEED: THE CARDS: each row of YtbdfehgofnomhaaDoorRows.lean that lists a variable, with what it lists TIED to the program's text (the seventh form; the later family's looks); each row that meets fmt, with fmt's text TOLD by the authors' own Lean function (tested against real Go, not proved from fmt's source: count such statements apart). THE CARD IS WHAT COUNTS. Prove the row's statement (the work); the ties are given (YtbdfehgofnomhaaDoorTie.lean); close each card by the builder's one call (the guide's Derived/Test/ToyasCard.lean, 'card_holds'). Laid BY PROGRAM, IN A SANDBOX (cutbox-door.mjs). By AI agents, Wed Nov 11 2026. No macro, syntax, notation, axiom, sorry.
-/
import Derived.Test.YtbdfehgofnomhaaDoorRows
import GoSem.ClaimSeven
namespace Go.Proofs.YtbdfehgofnomhaaDoor
namespace Rows

/-- THE TIED CARD OF 'jettisonlaw09.PatternPuts'. -/
def patternPutsCard : Claim7 := { stood := { row := patternPutsRow, standIns := [], harness := (true, "849732a4eae2e29ba71ba57cafbff4426390fff5ff446f3598c82bb8c32c5292"), looks := false }, kinds := [], alts := [], laidByText := true, laidKinds := [.data, .data, .data, .data, .pinned], laidTests := true, laidLooks := .later }
def PatternPutsCardSaid : Prop := Claim7.holds Tryd.pinned (.plain (OpenSpec.ofChange patternPutsSpec)) patternPutsCard

/-- THE TIED CARD OF 'jettisonlaw09.PatternLists'. -/
def patternListsCard : Claim7 := { stood := { row := patternListsRow, standIns := [], harness := (true, "849732a4eae2e29ba71ba57cafbff4426390fff5ff446f3598c82bb8c32c5292"), looks := false }, kinds := [], alts := [], laidByText := true, laidKinds := [.data, .data, .data, .data, .pinned], laidTests := true, laidLooks := .later }
def PatternListsCardSaid : Prop := Claim7.holds Tryd.pinned (.plain (OpenSpec.ofChange patternListsSpec)) patternListsCard

/-- THE TIED CARD OF 'jettisonlaw09.PatternTimes'. -/
def patternTimesCard : Claim7 := { stood := { row := patternTimesRow, standIns := [], harness := (true, "849732a4eae2e29ba71ba57cafbff4426390fff5ff446f3598c82bb8c32c5292"), looks := false }, kinds := [], alts := [], laidByText := true, laidKinds := [.data, .data, .data, .data, .pinned], laidTests := true, laidLooks := .later }
def PatternTimesCardSaid : Prop := Claim7.holds Tryd.pinned (.plain (OpenSpec.ofChange patternTimesSpec)) patternTimesCard

/-- THE TIED CARD OF 'jettisonlaw09.PatternChoice'. -/
def patternChoiceCard : Claim7 := { stood := { row := patternChoiceRow, standIns := [], harness := (true, "849732a4eae2e29ba71ba57cafbff4426390fff5ff446f3598c82bb8c32c5292"), looks := false }, kinds := [], alts := [], laidByText := true, laidKinds := [.data, .data, .data, .data, .pinned], laidTests := true, laidLooks := .later }
def PatternChoiceCardSaid : Prop := Claim7.holds Tryd.pinned (.plain (OpenSpec.ofChange patternChoiceSpec)) patternChoiceCard

/-- THE SECOND FORM's CARD OF 'jettisonlaw09.PatternPuts'. -/
def patternPutsUptoCard : Claim7 := { stood := { row := patternPutsUptoRow, standIns := [], harness := (true, "849732a4eae2e29ba71ba57cafbff4426390fff5ff446f3598c82bb8c32c5292"), looks := false }, kinds := [], alts := [], laidByText := true, laidKinds := [.data, .data, .data, .data, .pinned], laidTests := true, laidLooks := .later }
def PatternPutsUptoCardSaid : Prop := Claim7.holds Tryd.pinned (.plain (OpenSpec.upto patternPutsSpec)) patternPutsUptoCard

/-- THE SECOND FORM's CARD OF 'jettisonlaw09.PatternLists'. -/
def patternListsUptoCard : Claim7 := { stood := { row := patternListsUptoRow, standIns := [], harness := (true, "849732a4eae2e29ba71ba57cafbff4426390fff5ff446f3598c82bb8c32c5292"), looks := false }, kinds := [], alts := [], laidByText := true, laidKinds := [.data, .data, .data, .data, .pinned], laidTests := true, laidLooks := .later }
def PatternListsUptoCardSaid : Prop := Claim7.holds Tryd.pinned (.plain (OpenSpec.upto patternListsSpec)) patternListsUptoCard

/-- THE SECOND FORM's CARD OF 'jettisonlaw09.PatternTimes'. -/
def patternTimesUptoCard : Claim7 := { stood := { row := patternTimesUptoRow, standIns := [], harness := (true, "849732a4eae2e29ba71ba57cafbff4426390fff5ff446f3598c82bb8c32c5292"), looks := false }, kinds := [], alts := [], laidByText := true, laidKinds := [.data, .data, .data, .data, .pinned], laidTests := true, laidLooks := .later }
def PatternTimesUptoCardSaid : Prop := Claim7.holds Tryd.pinned (.plain (OpenSpec.upto patternTimesSpec)) patternTimesUptoCard

/-- THE SECOND FORM's CARD OF 'jettisonlaw09.PatternChoice'. -/
def patternChoiceUptoCard : Claim7 := { stood := { row := patternChoiceUptoRow, standIns := [], harness := (true, "849732a4eae2e29ba71ba57cafbff4426390fff5ff446f3598c82bb8c32c5292"), looks := false }, kinds := [], alts := [], laidByText := true, laidKinds := [.data, .data, .data, .data, .pinned], laidTests := true, laidLooks := .later }
def PatternChoiceUptoCardSaid : Prop := Claim7.holds Tryd.pinned (.plain (OpenSpec.upto patternChoiceSpec)) patternChoiceUptoCard
end Rows
end Go.Proofs.YtbdfehgofnomhaaDoor
