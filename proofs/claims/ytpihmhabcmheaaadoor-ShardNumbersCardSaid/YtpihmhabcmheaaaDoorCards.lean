/-
  DERIVED. GIVEN WITH THE SEED: THE CARDS: each row of YtpihmhabcmheaaaDoorRows.lean that lists a variable, with what it lists TIED to the program's text (the seventh form; the later family's looks); each row that meets fmt, with fmt's text TOLD by the authors' own Lean function (tested against real Go, not proved from fmt's source: count such statements apart). THE CARD IS WHAT COUNTS. Prove the row's statement (the work); the ties are given (YtpihmhabcmheaaaDoorTie.lean); close each card by the builder's one call (the guide's Derived/Test/ToyasCard.lean, 'card_holds'). Laid BY PROGRAM, IN A SANDBOX (cutbox-door.mjs). By AI agents, Wed Nov 11 2026. No macro, syntax, notation, axiom, sorry.
-/
import Derived.Test.YtpihmhabcmheaaaDoorRows
import GoSem.ClaimSeven
namespace Go.Proofs.YtpihmhabcmheaaaDoor
namespace Rows

/-- THE TIED CARD OF 'buttresslaw11.ShardTells'. -/
def shardTellsCard : Claim7 := { stood := { row := shardTellsRow, standIns := [], harness := (true, "92848ff27b032285aced69faf4d638d66a465079d3586717f078e572dffe77a2"), looks := false }, kinds := [], alts := [], laidByText := true, laidKinds := [.data, .data], laidTests := true, laidLooks := .later }
def ShardTellsCardSaid : Prop := Claim7.holds Tryd.pinned (.plain (OpenSpec.ofChange shardTellsSpec)) shardTellsCard

/-- THE TIED CARD OF 'buttresslaw11.ShardNumbers'. -/
def shardNumbersCard : Claim7 := { stood := { row := shardNumbersRow, standIns := [], harness := (true, "92848ff27b032285aced69faf4d638d66a465079d3586717f078e572dffe77a2"), looks := false }, kinds := [], alts := [], laidByText := true, laidKinds := [.data, .data], laidTests := true, laidLooks := .later }
def ShardNumbersCardSaid : Prop := Claim7.holds Tryd.pinned (.plain (OpenSpec.ofChange shardNumbersSpec)) shardNumbersCard

/-- THE TIED CARD OF 'buttresslaw11.ShardWhole'. -/
def shardWholeCard : Claim7 := { stood := { row := shardWholeRow, standIns := [], harness := (true, "92848ff27b032285aced69faf4d638d66a465079d3586717f078e572dffe77a2"), looks := false }, kinds := [], alts := [], laidByText := true, laidKinds := [.data, .data], laidTests := true, laidLooks := .later }
def ShardWholeCardSaid : Prop := Claim7.holds Tryd.pinned (.plain (OpenSpec.ofChange shardWholeSpec)) shardWholeCard

/-- THE SECOND FORM's CARD OF 'buttresslaw11.ShardTells'. -/
def shardTellsUptoCard : Claim7 := { stood := { row := shardTellsUptoRow, standIns := [], harness := (true, "92848ff27b032285aced69faf4d638d66a465079d3586717f078e572dffe77a2"), looks := false }, kinds := [], alts := [], laidByText := true, laidKinds := [.data, .data], laidTests := true, laidLooks := .later }
def ShardTellsUptoCardSaid : Prop := Claim7.holds Tryd.pinned (.plain (OpenSpec.upto shardTellsSpec)) shardTellsUptoCard

/-- THE SECOND FORM's CARD OF 'buttresslaw11.ShardNumbers'. -/
def shardNumbersUptoCard : Claim7 := { stood := { row := shardNumbersUptoRow, standIns := [], harness := (true, "92848ff27b032285aced69faf4d638d66a465079d3586717f078e572dffe77a2"), looks := false }, kinds := [], alts := [], laidByText := true, laidKinds := [.data, .data], laidTests := true, laidLooks := .later }
def ShardNumbersUptoCardSaid : Prop := Claim7.holds Tryd.pinned (.plain (OpenSpec.upto shardNumbersSpec)) shardNumbersUptoCard

/-- THE SECOND FORM's CARD OF 'buttresslaw11.ShardWhole'. -/
def shardWholeUptoCard : Claim7 := { stood := { row := shardWholeUptoRow, standIns := [], harness := (true, "92848ff27b032285aced69faf4d638d66a465079d3586717f078e572dffe77a2"), looks := false }, kinds := [], alts := [], laidByText := true, laidKinds := [.data, .data], laidTests := true, laidLooks := .later }
def ShardWholeUptoCardSaid : Prop := Claim7.holds Tryd.pinned (.plain (OpenSpec.upto shardWholeSpec)) shardWholeUptoCard
end Rows
end Go.Proofs.YtpihmhabcmheaaaDoor
