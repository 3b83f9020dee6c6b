/-
  DERIVED. GIVEN WITH THE SEED: THE CARDS: each row of YtbojiphhcciliaaDoorRows.lean that lists a variable, with what it lists TIED to the program's text (the seventh form; the later family's looks); each row that meets fmt, with fmt's text TOLD by the authors' own Lean function (tested against real Go, not proved from fmt's source: count such statements apart). THE CARD IS WHAT COUNTS. Prove the row's statement (the work); the ties are given (YtbojiphhcciliaaDoorTie.lean); close each card by the builder's one call (the guide's Derived/Test/ToyasCard.lean, 'card_holds'). Laid BY PROGRAM, IN A SANDBOX (cutbox-door.mjs). By AI agents, Wed Nov 11 2026. No macro, syntax, notation, axiom, sorry.
-/
import Derived.Test.YtbojiphhcciliaaDoorRows
import GoSem.ClaimSeven
namespace Go.Proofs.YtbojiphhcciliaaDoor
namespace Rows

/-- THE TIED CARD OF 'jettisonlaw01.SizeTells'. -/
def sizeTellsCard : Claim7 := { stood := { row := sizeTellsRow, standIns := [], harness := (true, "1a27c9c2bb10d6d7bcad08601755f9f2e547cbbdcc38c546c5b7633013c5f551"), looks := false }, kinds := [], alts := [], laidByText := true, laidKinds := [.data], laidTests := true, laidLooks := .later }
def SizeTellsCardSaid : Prop := Claim7.holds Tryd.pinned (.plain (OpenSpec.ofChange sizeTellsSpec)) sizeTellsCard

/-- THE TIED CARD OF 'jettisonlaw01.SizeRounds'. -/
def sizeRoundsCard : Claim7 := { stood := { row := sizeRoundsRow, standIns := [], harness := (true, "1a27c9c2bb10d6d7bcad08601755f9f2e547cbbdcc38c546c5b7633013c5f551"), looks := false }, kinds := [], alts := [], laidByText := true, laidKinds := [.data], laidTests := true, laidLooks := .later }
def SizeRoundsCardSaid : Prop := Claim7.holds Tryd.pinned (.plain (OpenSpec.ofChange sizeRoundsSpec)) sizeRoundsCard

/-- THE TIED CARD OF 'jettisonlaw01.SizeSums'. -/
def sizeSumsCard : Claim7 := { stood := { row := sizeSumsRow, standIns := [], harness := (true, "1a27c9c2bb10d6d7bcad08601755f9f2e547cbbdcc38c546c5b7633013c5f551"), looks := false }, kinds := [], alts := [], laidByText := true, laidKinds := [.data], laidTests := true, laidLooks := .later }
def SizeSumsCardSaid : Prop := Claim7.holds Tryd.pinned (.plain (OpenSpec.ofChange sizeSumsSpec)) sizeSumsCard

/-- THE TIED CARD OF 'jettisonlaw01.SizeClasses'. -/
def sizeClassesCard : Claim7 := { stood := { row := sizeClassesRow, standIns := [], harness := (true, "1a27c9c2bb10d6d7bcad08601755f9f2e547cbbdcc38c546c5b7633013c5f551"), looks := false }, kinds := [], alts := [], laidByText := true, laidKinds := [.data], laidTests := true, laidLooks := .later }
def SizeClassesCardSaid : Prop := Claim7.holds Tryd.pinned (.plain (OpenSpec.ofChange sizeClassesSpec)) sizeClassesCard

/-- THE TIED CARD OF 'jettisonlaw01.SizeOrder'. -/
def sizeOrderCard : Claim7 := { stood := { row := sizeOrderRow, standIns := [], harness := (true, "1a27c9c2bb10d6d7bcad08601755f9f2e547cbbdcc38c546c5b7633013c5f551"), looks := false }, kinds := [], alts := [], laidByText := true, laidKinds := [.data], laidTests := true, laidLooks := .later }
def SizeOrderCardSaid : Prop := Claim7.holds Tryd.pinned (.plain (OpenSpec.ofChange sizeOrderSpec)) sizeOrderCard

/-- THE SECOND FORM's CARD OF 'jettisonlaw01.SizeTells'. -/
def sizeTellsUptoCard : Claim7 := { stood := { row := sizeTellsUptoRow, standIns := [], harness := (true, "1a27c9c2bb10d6d7bcad08601755f9f2e547cbbdcc38c546c5b7633013c5f551"), looks := false }, kinds := [], alts := [], laidByText := true, laidKinds := [.data], laidTests := true, laidLooks := .later }
def SizeTellsUptoCardSaid : Prop := Claim7.holds Tryd.pinned (.plain (OpenSpec.upto sizeTellsSpec)) sizeTellsUptoCard

/-- THE SECOND FORM's CARD OF 'jettisonlaw01.SizeRounds'. -/
def sizeRoundsUptoCard : Claim7 := { stood := { row := sizeRoundsUptoRow, standIns := [], harness := (true, "1a27c9c2bb10d6d7bcad08601755f9f2e547cbbdcc38c546c5b7633013c5f551"), looks := false }, kinds := [], alts := [], laidByText := true, laidKinds := [.data], laidTests := true, laidLooks := .later }
def SizeRoundsUptoCardSaid : Prop := Claim7.holds Tryd.pinned (.plain (OpenSpec.upto sizeRoundsSpec)) sizeRoundsUptoCard

/-- THE SECOND FORM's CARD OF 'jettisonlaw01.SizeSums'. -/
def sizeSumsUptoCard : Claim7 := { stood := { row := sizeSumsUptoRow, standIns := [], harness := (true, "1a27c9c2bb10d6d7bcad08601755f9f2e547cbbdcc38c546c5b7633013c5f551"), looks := false }, kinds := [], alts := [], laidByText := true, laidKinds := [.data], laidTests := true, laidLooks := .later }
def SizeSumsUptoCardSaid : Prop := Claim7.holds Tryd.pinned (.plain (OpenSpec.upto sizeSumsSpec)) sizeSumsUptoCard

/-- THE SECOND FORM's CARD OF 'jettisonlaw01.SizeClasses'. -/
def sizeClassesUptoCard : Claim7 := { stood := { row := sizeClassesUptoRow, standIns := [], harness := (true, "1a27c9c2bb10d6d7bcad08601755f9f2e547cbbdcc38c546c5b7633013c5f551"), looks := false }, kinds := [], alts := [], laidByText := true, laidKinds := [.data], laidTests := true, laidLooks := .later }
def SizeClassesUptoCardSaid : Prop := Claim7.holds Tryd.pinned (.plain (OpenSpec.upto sizeClassesSpec)) sizeClassesUptoCard

/-- THE SECOND FORM's CARD OF 'jettisonlaw01.SizeOrder'. -/
def sizeOrderUptoCard : Claim7 := { stood := { row := sizeOrderUptoRow, standIns := [], harness := (true, "1a27c9c2bb10d6d7bcad08601755f9f2e547cbbdcc38c546c5b7633013c5f551"), looks := false }, kinds := [], alts := [], laidByText := true, laidKinds := [.data], laidTests := true, laidLooks := .later }
def SizeOrderUptoCardSaid : Prop := Claim7.holds Tryd.pinned (.plain (OpenSpec.upto sizeOrderSpec)) sizeOrderUptoCard
end Rows
end Go.Proofs.YtbojiphhcciliaaDoor
