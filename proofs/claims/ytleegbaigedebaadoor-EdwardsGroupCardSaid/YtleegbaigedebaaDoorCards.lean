/-
  DERIVED. GIVEN WITH THE SEED: THE CARDS: each row of YtleegbaigedebaaDoorRows.lean that lists a variable, with what it lists TIED to the program's text (the seventh form; the later family's looks); each row that meets fmt, with fmt's text TOLD by the authors' own Lean function (tested against real Go, not proved from fmt's source: count such statements apart). THE CARD IS WHAT COUNTS. Prove the row's statement (the work); the ties are given (YtleegbaigedebaaDoorTie.lean); close each card by the builder's one call (the guide's Derived/Test/ToyasCard.lean, 'card_holds'). Laid BY PROGRAM, IN A SANDBOX (cutbox-door.mjs). By AI agents, Wed Nov 11 2026. No macro, syntax, notation, axiom, sorry.
-/
import Derived.Test.YtleegbaigedebaaDoorRows
import GoSem.ClaimSeven
namespace Go.Proofs.YtleegbaigedebaaDoor
namespace Rows

/-- THE TIED CARD OF 'buttresslaw04.EdwardsGroup'. -/
def edwardsGroupCard : Claim7 := { stood := { row := edwardsGroupRow, standIns := [], harness := (true, "4b8da288729912136ccfb5c3d8ecf4cf3a0723be5d1feb3b61f00d00d6fe56f2"), looks := false }, kinds := [], alts := [], laidByText := true, laidKinds := [.data, .data, .data, .data], laidTests := true, laidLooks := .later }
def EdwardsGroupCardSaid : Prop := Claim7.holds Tryd.pinned (.plain (OpenSpec.ofChange edwardsGroupSpec)) edwardsGroupCard

/-- THE TIED CARD OF 'buttresslaw04.EdwardsOften'. -/
def edwardsOftenCard : Claim7 := { stood := { row := edwardsOftenRow, standIns := [], harness := (true, "4b8da288729912136ccfb5c3d8ecf4cf3a0723be5d1feb3b61f00d00d6fe56f2"), looks := false }, kinds := [], alts := [], laidByText := true, laidKinds := [.data, .data, .data, .data, .data], laidTests := true, laidLooks := .later }
def EdwardsOftenCardSaid : Prop := Claim7.holds Tryd.pinned (.plain (OpenSpec.ofChange edwardsOftenSpec)) edwardsOftenCard

/-- THE TIED CARD OF 'buttresslaw04.EdwardsCurve'. -/
def edwardsCurveCard : Claim7 := { stood := { row := edwardsCurveRow, standIns := [], harness := (true, "4b8da288729912136ccfb5c3d8ecf4cf3a0723be5d1feb3b61f00d00d6fe56f2"), looks := false }, kinds := [], alts := [], laidByText := true, laidKinds := [.data, .data, .data, .data], laidTests := true, laidLooks := .later }
def EdwardsCurveCardSaid : Prop := Claim7.holds Tryd.pinned (.plain (OpenSpec.ofChange edwardsCurveSpec)) edwardsCurveCard

/-- THE SECOND FORM's CARD OF 'buttresslaw04.EdwardsGroup'. -/
def edwardsGroupUptoCard : Claim7 := { stood := { row := edwardsGroupUptoRow, standIns := [], harness := (true, "4b8da288729912136ccfb5c3d8ecf4cf3a0723be5d1feb3b61f00d00d6fe56f2"), looks := false }, kinds := [], alts := [], laidByText := true, laidKinds := [.data, .data, .data, .data], laidTests := true, laidLooks := .later }
def EdwardsGroupUptoCardSaid : Prop := Claim7.holds Tryd.pinned (.plain (OpenSpec.upto edwardsGroupSpec)) edwardsGroupUptoCard

/-- THE SECOND FORM's CARD OF 'buttresslaw04.EdwardsOften'. -/
def edwardsOftenUptoCard : Claim7 := { stood := { row := edwardsOftenUptoRow, standIns := [], harness := (true, "4b8da288729912136ccfb5c3d8ecf4cf3a0723be5d1feb3b61f00d00d6fe56f2"), looks := false }, kinds := [], alts := [], laidByText := true, laidKinds := [.data, .data, .data, .data, .data], laidTests := true, laidLooks := .later }
def EdwardsOftenUptoCardSaid : Prop := Claim7.holds Tryd.pinned (.plain (OpenSpec.upto edwardsOftenSpec)) edwardsOftenUptoCard

/-- THE SECOND FORM's CARD OF 'buttresslaw04.EdwardsCurve'. -/
def edwardsCurveUptoCard : Claim7 := { stood := { row := edwardsCurveUptoRow, standIns := [], harness := (true, "4b8da288729912136ccfb5c3d8ecf4cf3a0723be5d1feb3b61f00d00d6fe56f2"), looks := false }, kinds := [], alts := [], laidByText := true, laidKinds := [.data, .data, .data, .data], laidTests := true, laidLooks := .later }
def EdwardsCurveUptoCardSaid : Prop := Claim7.holds Tryd.pinned (.plain (OpenSpec.upto edwardsCurveSpec)) edwardsCurveUptoCard
end Rows
end Go.Proofs.YtleegbaigedebaaDoor
