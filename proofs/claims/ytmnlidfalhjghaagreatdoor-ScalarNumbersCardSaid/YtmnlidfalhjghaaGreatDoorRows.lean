/-
  NARROWER THAN 'FOR EVERY INPUT', by the rows' own cells (each row's printed sentence says how): ScalarReduces: laid · ScalarMuls: laid · ScalarNumbers: laid.
  DERIVED. THE GIVEN ROWS OF THIS SEAT. 3 by the template 'for every input the law returns true; each argument reads behind the call as it read before'; 0 by the template 'total and deterministic' (their statements: YtmnlidfalhjghaaGreatDoorTotals.lean).
  GIVEN WITH THE SEED: the statements are not yours to turn. If you find one false, say at which input.
  Laid BY PROGRAM, IN A SANDBOX (cutbox-rows.mjs): the forced cells as the released guide's own fill.sh prints them over the translation 65fed0f70c72ecf7… (all of the seat's roots in one cut). By AI agents, Wed Nov 11 2026. No macro, syntax, notation, axiom, sorry.
-/
import Derived.Test.YtmnlidfalhjghaaGreatDoorChecked
import GoSem.Claim
import GoSem.ClaimJoined
import GoSem.ClaimMapViews
import Derived.JoinedTies
import Derived.KernelRfl
namespace Go.Proofs.YtmnlidfalhjghaaGreatDoor
/- THE CELL 'sum', in the pinned program and in every row, IS THE sha256 OF THE DUMP (.gsa) THAT YtmnlidfalhjghaaGreatDoorProg.lean LOADS. Nothing in Lean hashes anything: it is a label: what it is worth is what the hold of that sum in a sandbox is worth. -/
noncomputable def Tryz.pinned : Pinned := { name := "ytmnlidfalhjghaagreatdoor", sum := "65fed0f70c72ecf70fa4f737dcc456e468586efc7f77a14d0adc3cdf0e1cba4a", checked := Tryz.checked }
namespace Rows
def none {H : Type} : Left H := { results := [], args := [] }

/- WHAT THE LISTED PACKAGE-LEVEL VARIABLES READ AS WHEN THE CALL BEGINS. Each datum BY PROGRAM (the guide's laid-datum.mjs) off the statement by which the dump's own 'gosem.cut.vars' lays the variable. In a bare row this is a premise. The card (YtmnlidfalhjghaaGreatDoorCards.lean) ties it to the program's text. -/
def laid_buttress_scalar_order {H : Type} : DataW H := .agg [.lit (.int .u64 6346243789798364141), .lit (.int .u64 1503914060200516822), .lit (.int .u64 0), .lit (.int .u64 1152921504606846976)]

/-- 'buttresslaw03.ScalarReduces': WHATEVER THE INPUT: true; the input reads as it did. -/
def scalarReducesSpec : ChangeSpec := { name := "scalarReduces", fn := fun _ => fun
  | [d] => { results := [.lit (.bool true)], args := [d] }
  | _ => none }
def scalarReducesRow : OpenClaim := { program := "ytmnlidfalhjghaagreatdoor", sum := "65fed0f70c72ecf70fa4f737dcc456e468586efc7f77a14d0adc3cdf0e1cba4a", func := "buttress/buttresslaw03.ScalarReduces", spec := "scalarReduces", inPlace := ["math/bits.Add64", "math/bits.Sub64"], unfollowed := true, recurses := true, named := ["buttress/scalar.order"], apart := false, laid := [("buttress/scalar.order", laid_buttress_scalar_order)] }
def ScalarReducesSaid : Prop := scalarReducesRow.holds Tryz.pinned (OpenSpec.ofChange scalarReducesSpec)

/-- ITS FALSE NEIGHBOUR: 'it returns false'. Refute it at one input. -/
def scalarReducesWrong : ChangeSpec := { name := "scalarReduces", fn := fun _ => fun
  | [d] => { results := [.lit (.bool false)], args := [d] }
  | _ => none }
def ScalarReducesWrongFalsely : Prop := scalarReducesRow.holds Tryz.pinned (OpenSpec.ofChange scalarReducesWrong)

/-- 'buttresslaw03.ScalarMuls': WHATEVER THE INPUT: true; the input reads as it did. -/
def scalarMulsSpec : ChangeSpec := { name := "scalarMuls", fn := fun _ => fun
  | [d1, d2, d3] => { results := [.lit (.bool true)], args := [d1, d2, d3] }
  | _ => none }
def scalarMulsRow : OpenClaim := { program := "ytmnlidfalhjghaagreatdoor", sum := "65fed0f70c72ecf70fa4f737dcc456e468586efc7f77a14d0adc3cdf0e1cba4a", func := "buttress/buttresslaw03.ScalarMuls", spec := "scalarMuls", inPlace := ["math/bits.Add64", "math/bits.Sub64"], unfollowed := true, recurses := true, named := ["buttress/scalar.order"], apart := false, laid := [("buttress/scalar.order", laid_buttress_scalar_order)] }
def ScalarMulsSaid : Prop := scalarMulsRow.holds Tryz.pinned (OpenSpec.ofChange scalarMulsSpec)

/-- ITS FALSE NEIGHBOUR: 'it returns false'. Refute it at one input. -/
def scalarMulsWrong : ChangeSpec := { name := "scalarMuls", fn := fun _ => fun
  | [d1, d2, d3] => { results := [.lit (.bool false)], args := [d1, d2, d3] }
  | _ => none }
def ScalarMulsWrongFalsely : Prop := scalarMulsRow.holds Tryz.pinned (OpenSpec.ofChange scalarMulsWrong)

/-- 'buttresslaw03.ScalarNumbers': WHATEVER THE INPUT: true; the input reads as it did. -/
def scalarNumbersSpec : ChangeSpec := { name := "scalarNumbers", fn := fun _ => fun
  | [] => { results := [.lit (.bool true)], args := [] }
  | _ => none }
def scalarNumbersRow : OpenClaim := { program := "ytmnlidfalhjghaagreatdoor", sum := "65fed0f70c72ecf70fa4f737dcc456e468586efc7f77a14d0adc3cdf0e1cba4a", func := "buttress/buttresslaw03.ScalarNumbers", spec := "scalarNumbers", inPlace := ["math/bits.Add64", "math/bits.Sub64"], unfollowed := true, recurses := true, named := ["buttress/scalar.order"], apart := false, laid := [("buttress/scalar.order", laid_buttress_scalar_order)] }
def ScalarNumbersSaid : Prop := scalarNumbersRow.holds Tryz.pinned (OpenSpec.ofChange scalarNumbersSpec)

/-- ITS FALSE NEIGHBOUR: 'it returns false'. Refute it at one input. -/
def scalarNumbersWrong : ChangeSpec := { name := "scalarNumbers", fn := fun _ => fun
  | [] => { results := [.lit (.bool false)], args := [] }
  | _ => none }
def ScalarNumbersWrongFalsely : Prop := scalarNumbersRow.holds Tryz.pinned (OpenSpec.ofChange scalarNumbersWrong)

/- THE SECOND FORM. 'bulk': how many values and letters a reading holds, each counted each time it is reached (what is shared counts as often as it is met; a slice's spare places count too). A statement '..UptoSaid' is the law's where the arguments, and the package variables that the reading takes, are together of bulk at most 1048576: NARROWER than '..Said'. Prove '..Said' where nothing that the law and all that it calls make is longer than what came in: it says more and counts as full. Else prove '..UptoSaid'. A law counts once. -/
mutual
def uptoBulk {H : Type} : DataW H → Nat
  | .lit (.string bytes) => bytes.length + 1
  | .lit _ => 1
  | .nil => 1
  | .ptr d => uptoBulk d + 1
  | .slice elems spare => uptoBulkAll elems + uptoBulkAll spare + 1
  | .agg parts => uptoBulkAll parts + 1
  | .iface _ d => uptoBulk d + 1
  | .map entries => uptoBulkEntries entries + 1
  | .held _ => 1
def uptoBulkAll {H : Type} : List (DataW H) → Nat
  | [] => 0
  | d :: r => uptoBulk d + uptoBulkAll r
def uptoBulkEntries {H : Type} : List (Lit × DataW H) → Nat
  | [] => 0
  | x :: r => uptoBulkEntry x + uptoBulkEntries r
def uptoBulkEntry {H : Type} : Lit × DataW H → Nat
  | (.string bytes, d) => bytes.length + uptoBulk d + 1
  | (_, d) => uptoBulk d + 1
 end
def uptoSmall : (H : Type) → List (DataW H) → Bool := fun _ ds => decide (uptoBulkAll ds ≤ 1048576)
def OpenSpec.upto (s : _root_.Go.ChangeSpec) : _root_.Go.OpenSpec := { _root_.Go.OpenSpec.ofChange s with cond := some uptoSmall }

/-- 'buttresslaw03.ScalarReduces', WHERE WHAT IT READS IS OF BULK AT MOST 1048576: true; the input reads as it did. -/
def scalarReducesUptoRow : OpenClaim := { program := "ytmnlidfalhjghaagreatdoor", sum := "65fed0f70c72ecf70fa4f737dcc456e468586efc7f77a14d0adc3cdf0e1cba4a", func := "buttress/buttresslaw03.ScalarReduces", spec := "scalarReduces", inPlace := ["math/bits.Add64", "math/bits.Sub64"], unfollowed := true, recurses := true, named := ["buttress/scalar.order"], apart := false, laid := [("buttress/scalar.order", laid_buttress_scalar_order)], narrowed := true }
def ScalarReducesUptoSaid : Prop := scalarReducesUptoRow.holds Tryz.pinned (OpenSpec.upto scalarReducesSpec)

/-- 'buttresslaw03.ScalarMuls', WHERE WHAT IT READS IS OF BULK AT MOST 1048576: true; the input reads as it did. -/
def scalarMulsUptoRow : OpenClaim := { program := "ytmnlidfalhjghaagreatdoor", sum := "65fed0f70c72ecf70fa4f737dcc456e468586efc7f77a14d0adc3cdf0e1cba4a", func := "buttress/buttresslaw03.ScalarMuls", spec := "scalarMuls", inPlace := ["math/bits.Add64", "math/bits.Sub64"], unfollowed := true, recurses := true, named := ["buttress/scalar.order"], apart := false, laid := [("buttress/scalar.order", laid_buttress_scalar_order)], narrowed := true }
def ScalarMulsUptoSaid : Prop := scalarMulsUptoRow.holds Tryz.pinned (OpenSpec.upto scalarMulsSpec)

/-- 'buttresslaw03.ScalarNumbers', WHERE WHAT IT READS IS OF BULK AT MOST 1048576: true; the input reads as it did. -/
def scalarNumbersUptoRow : OpenClaim := { program := "ytmnlidfalhjghaagreatdoor", sum := "65fed0f70c72ecf70fa4f737dcc456e468586efc7f77a14d0adc3cdf0e1cba4a", func := "buttress/buttresslaw03.ScalarNumbers", spec := "scalarNumbers", inPlace := ["math/bits.Add64", "math/bits.Sub64"], unfollowed := true, recurses := true, named := ["buttress/scalar.order"], apart := false, laid := [("buttress/scalar.order", laid_buttress_scalar_order)], narrowed := true }
def ScalarNumbersUptoSaid : Prop := scalarNumbersUptoRow.holds Tryz.pinned (OpenSpec.upto scalarNumbersSpec)

end Rows
end Go.Proofs.YtmnlidfalhjghaaGreatDoor
