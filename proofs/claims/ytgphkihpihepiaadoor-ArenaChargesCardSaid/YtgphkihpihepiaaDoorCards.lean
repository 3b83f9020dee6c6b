/-
  DERIVED. GIVEN WITH THE SEED: THE CARDS: each row of YtgphkihpihepiaaDoorRows.lean that lists a variable, with what it lists TIED to the program's text (the seventh form; the later family's looks); each row that meets fmt, with fmt's text TOLD by the authors' own Lean function (tested against real Go, not proved from fmt's source: count such statements apart). THE CARD IS WHAT COUNTS. Prove the row's statement (the work); the ties are given (YtgphkihpihepiaaDoorTie.lean); close each card by the builder's one call (the guide's Derived/Test/ToyasCard.lean, 'card_holds'). Laid BY PROGRAM, IN A SANDBOX (cutbox-door.mjs). By AI agents, Wed Nov 11 2026. No macro, syntax, notation, axiom, sorry.
-/
import Derived.Test.YtgphkihpihepiaaDoorRows
import GoSem.ClaimSeven
namespace Go.Proofs.YtgphkihpihepiaaDoor
namespace Rows

/-- THE TIED CARD OF 'jettisonlaw03.ArenaPlays'. -/
def arenaPlaysCard : Claim7 := { stood := { row := arenaPlaysRow, standIns := [], harness := (true, "9361aae9d7d50ec591b6ea633bcc1bee9f779949b1b6a294474133bb7d11f726"), looks := false }, kinds := [], alts := [], laidByText := true, laidKinds := [.data, .data], laidTests := true, laidLooks := .later }
def ArenaPlaysCardSaid : Prop := Claim7.holds Tryd.pinned (.plain (OpenSpec.ofChange arenaPlaysSpec)) arenaPlaysCard

/-- THE TIED CARD OF 'jettisonlaw03.ArenaCharges'. -/
def arenaChargesCard : Claim7 := { stood := { row := arenaChargesRow, standIns := [], harness := (true, "9361aae9d7d50ec591b6ea633bcc1bee9f779949b1b6a294474133bb7d11f726"), looks := false }, kinds := [], alts := [], laidByText := true, laidKinds := [.data, .data], laidTests := true, laidLooks := .later }
def ArenaChargesCardSaid : Prop := Claim7.holds Tryd.pinned (.plain (OpenSpec.ofChange arenaChargesSpec)) arenaChargesCard

/-- THE TIED CARD OF 'jettisonlaw03.ArenaStale'. -/
def arenaStaleCard : Claim7 := { stood := { row := arenaStaleRow, standIns := [], harness := (true, "9361aae9d7d50ec591b6ea633bcc1bee9f779949b1b6a294474133bb7d11f726"), looks := false }, kinds := [], alts := [], laidByText := true, laidKinds := [.data, .data], laidTests := true, laidLooks := .later }
def ArenaStaleCardSaid : Prop := Claim7.holds Tryd.pinned (.plain (OpenSpec.ofChange arenaStaleSpec)) arenaStaleCard

/-- THE TIED CARD OF 'jettisonlaw03.ArenaLimits'. -/
def arenaLimitsCard : Claim7 := { stood := { row := arenaLimitsRow, standIns := [], harness := (true, "9361aae9d7d50ec591b6ea633bcc1bee9f779949b1b6a294474133bb7d11f726"), looks := false }, kinds := [], alts := [], laidByText := true, laidKinds := [.data, .data], laidTests := true, laidLooks := .later }
def ArenaLimitsCardSaid : Prop := Claim7.holds Tryd.pinned (.plain (OpenSpec.ofChange arenaLimitsSpec)) arenaLimitsCard

/-- THE TIED CARD OF 'jettisonlaw03.ArenaSlots'. -/
def arenaSlotsCard : Claim7 := { stood := { row := arenaSlotsRow, standIns := [], harness := (true, "9361aae9d7d50ec591b6ea633bcc1bee9f779949b1b6a294474133bb7d11f726"), looks := false }, kinds := [], alts := [], laidByText := true, laidKinds := [.data, .data], laidTests := true, laidLooks := .later }
def ArenaSlotsCardSaid : Prop := Claim7.holds Tryd.pinned (.plain (OpenSpec.ofChange arenaSlotsSpec)) arenaSlotsCard

/-- THE TIED CARD OF 'jettisonlaw03.ArenaPuts'. -/
def arenaPutsCard : Claim7 := { stood := { row := arenaPutsRow, standIns := [], harness := (true, "9361aae9d7d50ec591b6ea633bcc1bee9f779949b1b6a294474133bb7d11f726"), looks := false }, kinds := [], alts := [], laidByText := true, laidKinds := [.data, .data], laidTests := true, laidLooks := .later }
def ArenaPutsCardSaid : Prop := Claim7.holds Tryd.pinned (.plain (OpenSpec.ofChange arenaPutsSpec)) arenaPutsCard

/-- THE TIED CARD OF 'jettisonlaw03.ArenaLeast'. -/
def arenaLeastCard : Claim7 := { stood := { row := arenaLeastRow, standIns := [], harness := (true, "9361aae9d7d50ec591b6ea633bcc1bee9f779949b1b6a294474133bb7d11f726"), looks := false }, kinds := [], alts := [], laidByText := true, laidKinds := [.data, .data], laidTests := true, laidLooks := .later }
def ArenaLeastCardSaid : Prop := Claim7.holds Tryd.pinned (.plain (OpenSpec.ofChange arenaLeastSpec)) arenaLeastCard

/-- THE SECOND FORM's CARD OF 'jettisonlaw03.ArenaPlays'. -/
def arenaPlaysUptoCard : Claim7 := { stood := { row := arenaPlaysUptoRow, standIns := [], harness := (true, "9361aae9d7d50ec591b6ea633bcc1bee9f779949b1b6a294474133bb7d11f726"), looks := false }, kinds := [], alts := [], laidByText := true, laidKinds := [.data, .data], laidTests := true, laidLooks := .later }
def ArenaPlaysUptoCardSaid : Prop := Claim7.holds Tryd.pinned (.plain (OpenSpec.upto arenaPlaysSpec)) arenaPlaysUptoCard

/-- THE SECOND FORM's CARD OF 'jettisonlaw03.ArenaCharges'. -/
def arenaChargesUptoCard : Claim7 := { stood := { row := arenaChargesUptoRow, standIns := [], harness := (true, "9361aae9d7d50ec591b6ea633bcc1bee9f779949b1b6a294474133bb7d11f726"), looks := false }, kinds := [], alts := [], laidByText := true, laidKinds := [.data, .data], laidTests := true, laidLooks := .later }
def ArenaChargesUptoCardSaid : Prop := Claim7.holds Tryd.pinned (.plain (OpenSpec.upto arenaChargesSpec)) arenaChargesUptoCard

/-- THE SECOND FORM's CARD OF 'jettisonlaw03.ArenaStale'. -/
def arenaStaleUptoCard : Claim7 := { stood := { row := arenaStaleUptoRow, standIns := [], harness := (true, "9361aae9d7d50ec591b6ea633bcc1bee9f779949b1b6a294474133bb7d11f726"), looks := false }, kinds := [], alts := [], laidByText := true, laidKinds := [.data, .data], laidTests := true, laidLooks := .later }
def ArenaStaleUptoCardSaid : Prop := Claim7.holds Tryd.pinned (.plain (OpenSpec.upto arenaStaleSpec)) arenaStaleUptoCard

/-- THE SECOND FORM's CARD OF 'jettisonlaw03.ArenaLimits'. -/
def arenaLimitsUptoCard : Claim7 := { stood := { row := arenaLimitsUptoRow, standIns := [], harness := (true, "9361aae9d7d50ec591b6ea633bcc1bee9f779949b1b6a294474133bb7d11f726"), looks := false }, kinds := [], alts := [], laidByText := true, laidKinds := [.data, .data], laidTests := true, laidLooks := .later }
def ArenaLimitsUptoCardSaid : Prop := Claim7.holds Tryd.pinned (.plain (OpenSpec.upto arenaLimitsSpec)) arenaLimitsUptoCard

/-- THE SECOND FORM's CARD OF 'jettisonlaw03.ArenaSlots'. -/
def arenaSlotsUptoCard : Claim7 := { stood := { row := arenaSlotsUptoRow, standIns := [], harness := (true, "9361aae9d7d50ec591b6ea633bcc1bee9f779949b1b6a294474133bb7d11f726"), looks := false }, kinds := [], alts := [], laidByText := true, laidKinds := [.data, .data], laidTests := true, laidLooks := .later }
def ArenaSlotsUptoCardSaid : Prop := Claim7.holds Tryd.pinned (.plain (OpenSpec.upto arenaSlotsSpec)) arenaSlotsUptoCard

/-- THE SECOND FORM's CARD OF 'jettisonlaw03.ArenaPuts'. -/
def arenaPutsUptoCard : Claim7 := { stood := { row := arenaPutsUptoRow, standIns := [], harness := (true, "9361aae9d7d50ec591b6ea633bcc1bee9f779949b1b6a294474133bb7d11f726"), looks := false }, kinds := [], alts := [], laidByText := true, laidKinds := [.data, .data], laidTests := true, laidLooks := .later }
def ArenaPutsUptoCardSaid : Prop := Claim7.holds Tryd.pinned (.plain (OpenSpec.upto arenaPutsSpec)) arenaPutsUptoCard

/-- THE SECOND FORM's CARD OF 'jettisonlaw03.ArenaLeast'. -/
def arenaLeastUptoCard : Claim7 := { stood := { row := arenaLeastUptoRow, standIns := [], harness := (true, "9361aae9d7d50ec591b6ea633bcc1bee9f779949b1b6a294474133bb7d11f726"), looks := false }, kinds := [], alts := [], laidByText := true, laidKinds := [.data, .data], laidTests := true, laidLooks := .later }
def ArenaLeastUptoCardSaid : Prop := Claim7.holds Tryd.pinned (.plain (OpenSpec.upto arenaLeastSpec)) arenaLeastUptoCard
end Rows
end Go.Proofs.YtgphkihpihepiaaDoor
