/-
  NARROWER THAN 'FOR EVERY INPUT', by the rows' own cells (each row's printed sentence says how): FieldGets: laid · FieldNumbers: laid.
  DERIVED. THE GIVEN ROWS OF THIS SEAT. 2 by the template 'for every input the law returns true; each argument reads behind the call as it read before'; 0 by the template 'total and deterministic' (their statements: YtcmnecnbcohaeaaGreatDoorTotals.lean).
  GIVEN WITH THE SEED: the statements are not yours to turn. If you find one false, say at which input.
  Laid BY PROGRAM, IN A SANDBOX (cutbox-rows.mjs): the forced cells as the released guide's own fill.sh prints them over the translation c23218d101515356… (all of the seat's roots in one cut). By AI agents, Wed Nov 11 2026. No macro, syntax, notation, axiom, sorry.
-/
import Derived.Test.YtcmnecnbcohaeaaGreatDoorChecked
import GoSem.Claim
import GoSem.ClaimJoined
import GoSem.ClaimMapViews
import Derived.JoinedTies
import Derived.KernelRfl
namespace Go.Proofs.YtcmnecnbcohaeaaGreatDoor
/- THE CELL 'sum', in the pinned program and in every row, IS THE sha256 OF THE DUMP (.gsa) THAT YtcmnecnbcohaeaaGreatDoorProg.lean LOADS. Nothing in Lean hashes anything: it is a label: what it is worth is what the hold of that sum in a sandbox is worth. -/
noncomputable def Tryz.pinned : Pinned := { name := "ytcmnecnbcohaeaagreatdoor", sum := "c23218d1015153569657a14bdc28f71f37924d66528372387ba5f199b35fd8a9", checked := Tryz.checked }
namespace Rows
def none {H : Type} : Left H := { results := [], args := [] }

/- WHAT THE LISTED PACKAGE-LEVEL VARIABLES READ AS WHEN THE CALL BEGINS. Each datum BY PROGRAM (the guide's laid-datum.mjs) off the statement by which the dump's own 'gosem.cut.vars' lays the variable. In a bare row this is a premise. The card (YtcmnecnbcohaeaaGreatDoorCards.lean) ties it to the program's text. -/
def laid_buttress_field_fourTimesP {H : Type} : DataW H := .agg [.lit (.int .u64 9007199254740916), .lit (.int .u64 9007199254740988), .lit (.int .u64 9007199254740988), .lit (.int .u64 9007199254740988), .lit (.int .u64 9007199254740988)]
def laid_buttress_field_rootOfMinusOne {H : Type} : DataW H := .agg [.lit (.int .u64 1718705420411056), .lit (.int .u64 234908883556509), .lit (.int .u64 2233514472574048), .lit (.int .u64 2117202627021982), .lit (.int .u64 765476049583133)]

/-- 'buttresslaw02.FieldGets': WHATEVER THE INPUT: true; the input reads as it did. -/
def fieldGetsSpec : ChangeSpec := { name := "fieldGets", fn := fun _ => fun
  | [d] => { results := [.lit (.bool true)], args := [d] }
  | _ => none }
def fieldGetsRow : OpenClaim := { program := "ytcmnecnbcohaeaagreatdoor", sum := "c23218d1015153569657a14bdc28f71f37924d66528372387ba5f199b35fd8a9", func := "buttress/buttresslaw02.FieldGets", spec := "fieldGets", inPlace := ["math/bits.Add64"], unfollowed := true, recurses := true, named := ["buttress/field.rootOfMinusOne", "buttress/field.fourTimesP"], apart := false, laid := [("buttress/field.fourTimesP", laid_buttress_field_fourTimesP), ("buttress/field.rootOfMinusOne", laid_buttress_field_rootOfMinusOne)] }
def FieldGetsSaid : Prop := fieldGetsRow.holds Tryz.pinned (OpenSpec.ofChange fieldGetsSpec)

/-- ITS FALSE NEIGHBOUR: 'it returns false'. Refute it at one input. -/
def fieldGetsWrong : ChangeSpec := { name := "fieldGets", fn := fun _ => fun
  | [d] => { results := [.lit (.bool false)], args := [d] }
  | _ => none }
def FieldGetsWrongFalsely : Prop := fieldGetsRow.holds Tryz.pinned (OpenSpec.ofChange fieldGetsWrong)

/-- 'buttresslaw02.FieldNumbers': WHATEVER THE INPUT: true; the input reads as it did. -/
def fieldNumbersSpec : ChangeSpec := { name := "fieldNumbers", fn := fun _ => fun
  | [] => { results := [.lit (.bool true)], args := [] }
  | _ => none }
def fieldNumbersRow : OpenClaim := { program := "ytcmnecnbcohaeaagreatdoor", sum := "c23218d1015153569657a14bdc28f71f37924d66528372387ba5f199b35fd8a9", func := "buttress/buttresslaw02.FieldNumbers", spec := "fieldNumbers", inPlace := ["math/bits.Add64"], unfollowed := true, recurses := true, named := ["buttress/field.fourTimesP", "buttress/field.rootOfMinusOne"], apart := false, laid := [("buttress/field.fourTimesP", laid_buttress_field_fourTimesP), ("buttress/field.rootOfMinusOne", laid_buttress_field_rootOfMinusOne)] }
def FieldNumbersSaid : Prop := fieldNumbersRow.holds Tryz.pinned (OpenSpec.ofChange fieldNumbersSpec)

/-- ITS FALSE NEIGHBOUR: 'it returns false'. Refute it at one input. -/
def fieldNumbersWrong : ChangeSpec := { name := "fieldNumbers", fn := fun _ => fun
  | [] => { results := [.lit (.bool false)], args := [] }
  | _ => none }
def FieldNumbersWrongFalsely : Prop := fieldNumbersRow.holds Tryz.pinned (OpenSpec.ofChange fieldNumbersWrong)

/- THE SECOND FORM. 'bulk': how many values and letters a reading holds, each counted each time it is reached (what is shared counts as often as it is met; a slice's spare places count too). A statement '..UptoSaid' is the law's where the arguments, and the package variables that the reading takes, are together of bulk at most 1048576: NARROWER than '..Said'. Prove '..Said' where nothing that the law and all that it calls make is longer than what came in: it says more and counts as full. Else prove '..UptoSaid'. A law counts once. -/
mutual
def uptoBulk {H : Type} : DataW H → Nat
  | .lit (.string bytes) => bytes.length + 1
  | .lit _ => 1
  | .nil => 1
  | .ptr d => uptoBulk d + 1
  | .slice elems spare => uptoBulkAll elems + uptoBulkAll spare + 1
  | .agg parts => uptoBulkAll parts + 1
  | .iface _ d => uptoBulk d + 1
  | .map entries => uptoBulkEntries entries + 1
  | .held _ => 1
def uptoBulkAll {H : Type} : List (DataW H) → Nat
  | [] => 0
  | d :: r => uptoBulk d + uptoBulkAll r
def uptoBulkEntries {H : Type} : List (Lit × DataW H) → Nat
  | [] => 0
  | x :: r => uptoBulkEntry x + uptoBulkEntries r
def uptoBulkEntry {H : Type} : Lit × DataW H → Nat
  | (.string bytes, d) => bytes.length + uptoBulk d + 1
  | (_, d) => uptoBulk d + 1
 end
def uptoSmall : (H : Type) → List (DataW H) → Bool := fun _ ds => decide (uptoBulkAll ds ≤ 1048576)
def OpenSpec.upto (s : _root_.Go.ChangeSpec) : _root_.Go.OpenSpec := { _root_.Go.OpenSpec.ofChange s with cond := some uptoSmall }

/-- 'buttresslaw02.FieldGets', WHERE WHAT IT READS IS OF BULK AT MOST 1048576: true; the input reads as it did. -/
def fieldGetsUptoRow : OpenClaim := { program := "ytcmnecnbcohaeaagreatdoor", sum := "c23218d1015153569657a14bdc28f71f37924d66528372387ba5f199b35fd8a9", func := "buttress/buttresslaw02.FieldGets", spec := "fieldGets", inPlace := ["math/bits.Add64"], unfollowed := true, recurses := true, named := ["buttress/field.rootOfMinusOne", "buttress/field.fourTimesP"], apart := false, laid := [("buttress/field.fourTimesP", laid_buttress_field_fourTimesP), ("buttress/field.rootOfMinusOne", laid_buttress_field_rootOfMinusOne)], narrowed := true }
def FieldGetsUptoSaid : Prop := fieldGetsUptoRow.holds Tryz.pinned (OpenSpec.upto fieldGetsSpec)

/-- 'buttresslaw02.FieldNumbers', WHERE WHAT IT READS IS OF BULK AT MOST 1048576: true; the input reads as it did. -/
def fieldNumbersUptoRow : OpenClaim := { program := "ytcmnecnbcohaeaagreatdoor", sum := "c23218d1015153569657a14bdc28f71f37924d66528372387ba5f199b35fd8a9", func := "buttress/buttresslaw02.FieldNumbers", spec := "fieldNumbers", inPlace := ["math/bits.Add64"], unfollowed := true, recurses := true, named := ["buttress/field.fourTimesP", "buttress/field.rootOfMinusOne"], apart := false, laid := [("buttress/field.fourTimesP", laid_buttress_field_fourTimesP), ("buttress/field.rootOfMinusOne", laid_buttress_field_rootOfMinusOne)], narrowed := true }
def FieldNumbersUptoSaid : Prop := fieldNumbersUptoRow.holds Tryz.pinned (OpenSpec.upto fieldNumbersSpec)

end Rows
end Go.Proofs.YtcmnecnbcohaeaaGreatDoor
