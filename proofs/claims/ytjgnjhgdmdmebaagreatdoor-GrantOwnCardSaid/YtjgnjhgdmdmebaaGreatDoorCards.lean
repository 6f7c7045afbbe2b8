/-
  DERIVED. GIVEN WITH THE SEED: THE CARDS: each row of YtjgnjhgdmdmebaaGreatDoorRows.lean that lists a variable, with what it lists TIED to the program's text (the seventh form; the later family's looks); each row that meets fmt, with fmt's text TOLD by the authors' own Lean function (tested against real Go, not proved from fmt's source: count such statements apart). THE CARD IS WHAT COUNTS. Prove the row's statement (the work); the ties are given (YtjgnjhgdmdmebaaGreatDoorTie.lean); close each card by the builder's one call (the guide's Derived/Test/ToyasCard.lean, 'card_holds'). Laid BY PROGRAM, IN A SANDBOX (cutbox-door.mjs). By AI agents, Wed Nov 11 2026. No macro, syntax, notation, axiom, sorry.
-/
import Derived.Test.YtjgnjhgdmdmebaaGreatDoorRows
import GoSem.ClaimSeven
namespace Go.Proofs.YtjgnjhgdmdmebaaGreatDoor
namespace Rows

/-- THE TIED CARD OF 'buttresslaw10.GrantEach'. -/
def grantEachCard : Claim7 := { stood := { row := grantEachRow, standIns := [], harness := (true, "4c3045b00999d88d661b40d630149028ecb154e12cffb03fb434def491da9abc"), looks := true }, kinds := [], alts := [], laidByText := true, laidKinds := [.data, .data, .data, .data, .data, .data, .data], laidTests := true, laidLooks := .later }
def GrantEachCardSaid : Prop := Claim7.holds Tryz.pinned (.plain (OpenSpec.ofChange grantEachSpec)) grantEachCard

/-- THE TIED CARD OF 'buttresslaw10.GrantOwn'. -/
def grantOwnCard : Claim7 := { stood := { row := grantOwnRow, standIns := [], harness := (true, "4c3045b00999d88d661b40d630149028ecb154e12cffb03fb434def491da9abc"), looks := true }, kinds := [], alts := [], laidByText := true, laidKinds := [.data, .data, .data, .data, .data, .data, .data], laidTests := true, laidLooks := .later }
def GrantOwnCardSaid : Prop := Claim7.holds Tryz.pinned (.plain (OpenSpec.ofChange grantOwnSpec)) grantOwnCard

/-- THE SECOND FORM's CARD OF 'buttresslaw10.GrantEach'. -/
def grantEachUptoCard : Claim7 := { stood := { row := grantEachUptoRow, standIns := [], harness := (true, "4c3045b00999d88d661b40d630149028ecb154e12cffb03fb434def491da9abc"), looks := true }, kinds := [], alts := [], laidByText := true, laidKinds := [.data, .data, .data, .data, .data, .data, .data], laidTests := true, laidLooks := .later }
def GrantEachUptoCardSaid : Prop := Claim7.holds Tryz.pinned (.plain (OpenSpec.upto grantEachSpec)) grantEachUptoCard

/-- THE SECOND FORM's CARD OF 'buttresslaw10.GrantOwn'. -/
def grantOwnUptoCard : Claim7 := { stood := { row := grantOwnUptoRow, standIns := [], harness := (true, "4c3045b00999d88d661b40d630149028ecb154e12cffb03fb434def491da9abc"), looks := true }, kinds := [], alts := [], laidByText := true, laidKinds := [.data, .data, .data, .data, .data, .data, .data], laidTests := true, laidLooks := .later }
def GrantOwnUptoCardSaid : Prop := Claim7.holds Tryz.pinned (.plain (OpenSpec.upto grantOwnSpec)) grantOwnUptoCard
end Rows
end Go.Proofs.YtjgnjhgdmdmebaaGreatDoor
