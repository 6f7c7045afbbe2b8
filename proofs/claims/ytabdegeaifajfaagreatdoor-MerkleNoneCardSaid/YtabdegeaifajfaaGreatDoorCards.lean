/-
  DERIVED. GIVEN WITH THE SEED: THE CARDS: each row of YtabdegeaifajfaaGreatDoorRows.lean that lists a variable, with what it lists TIED to the program's text (the seventh form; the later family's looks); each row that meets fmt, with fmt's text TOLD by the authors' own Lean function (tested against real Go, not proved from fmt's source: count such statements apart). THE CARD IS WHAT COUNTS. Prove the row's statement (the work); the ties are given (YtabdegeaifajfaaGreatDoorTie.lean); close each card by the builder's one call (the guide's Derived/Test/ToyasCard.lean, 'card_holds'). Laid BY PROGRAM, IN A SANDBOX (cutbox-door.mjs). By AI agents, Wed Nov 11 2026. No macro, syntax, notation, axiom, sorry.
-/
import Derived.Test.YtabdegeaifajfaaGreatDoorRows
import GoSem.ClaimSeven
namespace Go.Proofs.YtabdegeaifajfaaGreatDoor
namespace Rows

/-- THE TIED CARD OF 'buttresslaw12.MerkleNone'. -/
def merkleNoneCard : Claim7 := { stood := { row := merkleNoneRow, standIns := [], harness := (true, "dbf60cecce68f02617f00f68c7af770d0f56d9822ab826cc0d8118d194d274ab"), looks := true }, kinds := [], alts := [], laidByText := true, laidKinds := [.data, .data, .data, .pinned], laidTests := true, laidLooks := .later }
def MerkleNoneCardSaid : Prop := Claim7.holds Tryz.pinned (.plain (OpenSpec.ofChange merkleNoneSpec)) merkleNoneCard

/-- THE SECOND FORM's CARD OF 'buttresslaw12.MerkleNone'. -/
def merkleNoneUptoCard : Claim7 := { stood := { row := merkleNoneUptoRow, standIns := [], harness := (true, "dbf60cecce68f02617f00f68c7af770d0f56d9822ab826cc0d8118d194d274ab"), looks := true }, kinds := [], alts := [], laidByText := true, laidKinds := [.data, .data, .data, .pinned], laidTests := true, laidLooks := .later }
def MerkleNoneUptoCardSaid : Prop := Claim7.holds Tryz.pinned (.plain (OpenSpec.upto merkleNoneSpec)) merkleNoneUptoCard
end Rows
end Go.Proofs.YtabdegeaifajfaaGreatDoor
