/-
  DERIVED. GIVEN WITH THE SEED: THE CARDS: each row of YtmnlidfalhjghaaGreatDoorRows.lean that lists a variable, with what it lists TIED to the program's text (the seventh form; the later family's looks); each row that meets fmt, with fmt's text TOLD by the authors' own Lean function (tested against real Go, not proved from fmt's source: count such statements apart). THE CARD IS WHAT COUNTS. Prove the row's statement (the work); the ties are given (YtmnlidfalhjghaaGreatDoorTie.lean); close each card by the builder's one call (the guide's Derived/Test/ToyasCard.lean, 'card_holds'). Laid BY PROGRAM, IN A SANDBOX (cutbox-door.mjs). By AI agents, Wed Nov 11 2026. No macro, syntax, notation, axiom, sorry.
-/
import Derived.Test.YtmnlidfalhjghaaGreatDoorRows
import GoSem.ClaimSeven
namespace Go.Proofs.YtmnlidfalhjghaaGreatDoor
namespace Rows

/-- THE TIED CARD OF 'buttresslaw03.ScalarReduces'. -/
def scalarReducesCard : Claim7 := { stood := { row := scalarReducesRow, standIns := [], harness := (true, "26a915c8dcfc806c9b5db5ee0e24ad265a4c19feec9f3fc58437d5fa72000f67"), looks := false }, kinds := [], alts := [], laidByText := true, laidKinds := [.data], laidTests := true, laidLooks := .later }
def ScalarReducesCardSaid : Prop := Claim7.holds Tryz.pinned (.plain (OpenSpec.ofChange scalarReducesSpec)) scalarReducesCard

/-- THE TIED CARD OF 'buttresslaw03.ScalarMuls'. -/
def scalarMulsCard : Claim7 := { stood := { row := scalarMulsRow, standIns := [], harness := (true, "26a915c8dcfc806c9b5db5ee0e24ad265a4c19feec9f3fc58437d5fa72000f67"), looks := false }, kinds := [], alts := [], laidByText := true, laidKinds := [.data], laidTests := true, laidLooks := .later }
def ScalarMulsCardSaid : Prop := Claim7.holds Tryz.pinned (.plain (OpenSpec.ofChange scalarMulsSpec)) scalarMulsCard

/-- THE TIED CARD OF 'buttresslaw03.ScalarNumbers'. -/
def scalarNumbersCard : Claim7 := { stood := { row := scalarNumbersRow, standIns := [], harness := (true, "26a915c8dcfc806c9b5db5ee0e24ad265a4c19feec9f3fc58437d5fa72000f67"), looks := false }, kinds := [], alts := [], laidByText := true, laidKinds := [.data], laidTests := true, laidLooks := .later }
def ScalarNumbersCardSaid : Prop := Claim7.holds Tryz.pinned (.plain (OpenSpec.ofChange scalarNumbersSpec)) scalarNumbersCard

/-- THE SECOND FORM's CARD OF 'buttresslaw03.ScalarReduces'. -/
def scalarReducesUptoCard : Claim7 := { stood := { row := scalarReducesUptoRow, standIns := [], harness := (true, "26a915c8dcfc806c9b5db5ee0e24ad265a4c19feec9f3fc58437d5fa72000f67"), looks := false }, kinds := [], alts := [], laidByText := true, laidKinds := [.data], laidTests := true, laidLooks := .later }
def ScalarReducesUptoCardSaid : Prop := Claim7.holds Tryz.pinned (.plain (OpenSpec.upto scalarReducesSpec)) scalarReducesUptoCard

/-- THE SECOND FORM's CARD OF 'buttresslaw03.ScalarMuls'. -/
def scalarMulsUptoCard : Claim7 := { stood := { row := scalarMulsUptoRow, standIns := [], harness := (true, "26a915c8dcfc806c9b5db5ee0e24ad265a4c19feec9f3fc58437d5fa72000f67"), looks := false }, kinds := [], alts := [], laidByText := true, laidKinds := [.data], laidTests := true, laidLooks := .later }
def ScalarMulsUptoCardSaid : Prop := Claim7.holds Tryz.pinned (.plain (OpenSpec.upto scalarMulsSpec)) scalarMulsUptoCard

/-- THE SECOND FORM's CARD OF 'buttresslaw03.ScalarNumbers'. -/
def scalarNumbersUptoCard : Claim7 := { stood := { row := scalarNumbersUptoRow, standIns := [], harness := (true, "26a915c8dcfc806c9b5db5ee0e24ad265a4c19feec9f3fc58437d5fa72000f67"), looks := false }, kinds := [], alts := [], laidByText := true, laidKinds := [.data], laidTests := true, laidLooks := .later }
def ScalarNumbersUptoCardSaid : Prop := Claim7.holds Tryz.pinned (.plain (OpenSpec.upto scalarNumbersSpec)) scalarNumbersUptoCard
end Rows
end Go.Proofs.YtmnlidfalhjghaaGreatDoor
