/-
  DERIVED. GIVEN WITH THE SEED: THE CARDS: each row of YtglhebpblncjaaaDoorRows.lean that lists a variable, with what it lists TIED to the program's text (the seventh form; the later family's looks); each row that meets fmt, with fmt's text TOLD by the authors' own Lean function (tested against real Go, not proved from fmt's source: count such statements apart). THE CARD IS WHAT COUNTS. Prove the row's statement (the work); the ties are given (YtglhebpblncjaaaDoorTie.lean); close each card by the builder's one call (the guide's Derived/Test/ToyasCard.lean, 'card_holds'). Laid BY PROGRAM, IN A SANDBOX (cutbox-door.mjs). By AI agents, Wed Nov 11 2026. No macro, syntax, notation, axiom, sorry.
-/
import Derived.Test.YtglhebpblncjaaaDoorRows
import GoSem.ClaimSeven
namespace Go.Proofs.YtglhebpblncjaaaDoor
namespace Rows

/-- THE TIED CARD OF 'jettisonlaw20.StorePlays'. -/
def storePlaysCard : Claim7 := { stood := { row := storePlaysRow, standIns := [], harness := (true, "2c539ad20f09f136259296012967bcf0c9ab61dedf209994d862a56a668472a6"), looks := true }, kinds := [], alts := [], laidByText := true, laidKinds := [.data, .data], laidTests := true, laidLooks := .later }
def StorePlaysCardSaid : Prop := Claim7.holds Tryd.pinned (.plain (OpenSpec.ofChange storePlaysSpec)) storePlaysCard

/-- THE TIED CARD OF 'jettisonlaw20.StoreCounts'. -/
def storeCountsCard : Claim7 := { stood := { row := storeCountsRow, standIns := [], harness := (true, "2c539ad20f09f136259296012967bcf0c9ab61dedf209994d862a56a668472a6"), looks := true }, kinds := [], alts := [], laidByText := true, laidKinds := [.data, .data], laidTests := true, laidLooks := .later }
def StoreCountsCardSaid : Prop := Claim7.holds Tryd.pinned (.plain (OpenSpec.ofChange storeCountsSpec)) storeCountsCard

/-- THE TIED CARD OF 'jettisonlaw20.StoreCharges'. -/
def storeChargesCard : Claim7 := { stood := { row := storeChargesRow, standIns := [], harness := (true, "2c539ad20f09f136259296012967bcf0c9ab61dedf209994d862a56a668472a6"), looks := true }, kinds := [], alts := [], laidByText := true, laidKinds := [.data, .data], laidTests := true, laidLooks := .later }
def StoreChargesCardSaid : Prop := Claim7.holds Tryd.pinned (.plain (OpenSpec.ofChange storeChargesSpec)) storeChargesCard

/-- THE TIED CARD OF 'jettisonlaw20.StoreRoom'. -/
def storeRoomCard : Claim7 := { stood := { row := storeRoomRow, standIns := [], harness := (true, "2c539ad20f09f136259296012967bcf0c9ab61dedf209994d862a56a668472a6"), looks := true }, kinds := [], alts := [], laidByText := true, laidKinds := [.data, .data], laidTests := true, laidLooks := .later }
def StoreRoomCardSaid : Prop := Claim7.holds Tryd.pinned (.plain (OpenSpec.ofChange storeRoomSpec)) storeRoomCard

/-- THE SECOND FORM's CARD OF 'jettisonlaw20.StorePlays'. -/
def storePlaysUptoCard : Claim7 := { stood := { row := storePlaysUptoRow, standIns := [], harness := (true, "2c539ad20f09f136259296012967bcf0c9ab61dedf209994d862a56a668472a6"), looks := true }, kinds := [], alts := [], laidByText := true, laidKinds := [.data, .data], laidTests := true, laidLooks := .later }
def StorePlaysUptoCardSaid : Prop := Claim7.holds Tryd.pinned (.plain (OpenSpec.upto storePlaysSpec)) storePlaysUptoCard

/-- THE SECOND FORM's CARD OF 'jettisonlaw20.StoreCounts'. -/
def storeCountsUptoCard : Claim7 := { stood := { row := storeCountsUptoRow, standIns := [], harness := (true, "2c539ad20f09f136259296012967bcf0c9ab61dedf209994d862a56a668472a6"), looks := true }, kinds := [], alts := [], laidByText := true, laidKinds := [.data, .data], laidTests := true, laidLooks := .later }
def StoreCountsUptoCardSaid : Prop := Claim7.holds Tryd.pinned (.plain (OpenSpec.upto storeCountsSpec)) storeCountsUptoCard

/-- THE SECOND FORM's CARD OF 'jettisonlaw20.StoreCharges'. -/
def storeChargesUptoCard : Claim7 := { stood := { row := storeChargesUptoRow, standIns := [], harness := (true, "2c539ad20f09f136259296012967bcf0c9ab61dedf209994d862a56a668472a6"), looks := true }, kinds := [], alts := [], laidByText := true, laidKinds := [.data, .data], laidTests := true, laidLooks := .later }
def StoreChargesUptoCardSaid : Prop := Claim7.holds Tryd.pinned (.plain (OpenSpec.upto storeChargesSpec)) storeChargesUptoCard

/-- THE SECOND FORM's CARD OF 'jettisonlaw20.StoreRoom'. -/
def storeRoomUptoCard : Claim7 := { stood := { row := storeRoomUptoRow, standIns := [], harness := (true, "2c539ad20f09f136259296012967bcf0c9ab61dedf209994d862a56a668472a6"), looks := true }, kinds := [], alts := [], laidByText := true, laidKinds := [.data, .data], laidTests := true, laidLooks := .later }
def StoreRoomUptoCardSaid : Prop := Claim7.holds Tryd.pinned (.plain (OpenSpec.upto storeRoomSpec)) storeRoomUptoCard
end Rows
end Go.Proofs.YtglhebpblncjaaaDoor
