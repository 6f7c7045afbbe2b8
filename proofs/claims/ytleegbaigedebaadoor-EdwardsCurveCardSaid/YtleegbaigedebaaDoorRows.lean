/-
  NARROWER THAN 'FOR EVERY INPUT', by the rows' own cells (each row's printed sentence says how): EdwardsGroup: laid · EdwardsOften: laid · EdwardsCurve: laid.
  DERIVED. THE GIVEN ROWS OF THIS SEAT. 3 by the template 'for every input the law returns true; each argument reads behind the call as it read before'; 0 by the template 'total and deterministic' (their statements: YtleegbaigedebaaDoorTotals.lean).
  GIVEN WITH THE SEED: the statements are not yours to turn. If you find one false, say at which input.
  Laid BY PROGRAM, IN A SANDBOX (cutbox-rows.mjs): the forced cells as the released guide's own fill.sh prints them over the translation 9af779420244c0e3… (all of the seat's roots in one cut). By AI agents, Wed Nov 11 2026. No macro, syntax, notation, axiom, sorry.
-/
import Derived.Test.YtleegbaigedebaaDoorChecked
import GoSem.Claim
import GoSem.ClaimJoined
import GoSem.ClaimMapViews
import Derived.JoinedTies
import Derived.KernelRfl
namespace Go.Proofs.YtleegbaigedebaaDoor
/- THE CELL 'sum', in the pinned program and in every row, IS THE sha256 OF THE DUMP (.gsa) THAT YtleegbaigedebaaDoorProg.lean LOADS. Nothing in Lean hashes anything: it is a label: what it is worth is what the hold of that sum in a sandbox is worth. -/
noncomputable def Tryd.pinned : Pinned := { name := "ytleegbaigedebaadoor", sum := "9af779420244c0e325ca8e4d2b7f4fab51f47178231a292ea35d0a2e93df06fe", checked := Tryd.checked }
namespace Rows
def none {H : Type} : Left H := { results := [], args := [] }

/- WHAT THE LISTED PACKAGE-LEVEL VARIABLES READ AS WHEN THE CALL BEGINS. Each datum BY PROGRAM (the guide's laid-datum.mjs) off the statement by which the dump's own 'gosem.cut.vars' lays the variable. In a bare row this is a premise. The card (YtleegbaigedebaaDoorCards.lean) ties it to the program's text. -/
def laid_buttress_field_fourTimesP {H : Type} : DataW H := .agg [.lit (.int .u64 9007199254740916), .lit (.int .u64 9007199254740988), .lit (.int .u64 9007199254740988), .lit (.int .u64 9007199254740988), .lit (.int .u64 9007199254740988)]
def laid_buttress_field_rootOfMinusOne {H : Type} : DataW H := .agg [.lit (.int .u64 1718705420411056), .lit (.int .u64 234908883556509), .lit (.int .u64 2233514472574048), .lit (.int .u64 2117202627021982), .lit (.int .u64 765476049583133)]
def laid_buttress_edwards_d {H : Type} : DataW H := .agg [.lit (.int .u64 929955233495203), .lit (.int .u64 466365720129213), .lit (.int .u64 1662059464998953), .lit (.int .u64 2033849074728123), .lit (.int .u64 1442794654840575)]
def laid_buttress_edwards_base {H : Type} : DataW H := .agg [.agg [.lit (.int .u64 1738742601995546), .lit (.int .u64 1146398526822698), .lit (.int .u64 2070867633025821), .lit (.int .u64 562264141797630), .lit (.int .u64 587772402128613)], .agg [.lit (.int .u64 1801439850948184), .lit (.int .u64 1351079888211148), .lit (.int .u64 450359962737049), .lit (.int .u64 900719925474099), .lit (.int .u64 1801439850948198)], .agg [.lit (.int .u64 1), .lit (.int .u64 0), .lit (.int .u64 0), .lit (.int .u64 0), .lit (.int .u64 0)], .agg [.lit (.int .u64 1841354044333475), .lit (.int .u64 16398895984059), .lit (.int .u64 755974180946558), .lit (.int .u64 900171276175154), .lit (.int .u64 1821297809914039)]]
def laid_buttress_scalar_order {H : Type} : DataW H := .agg [.lit (.int .u64 6346243789798364141), .lit (.int .u64 1503914060200516822), .lit (.int .u64 0), .lit (.int .u64 1152921504606846976)]

/-- 'buttresslaw04.EdwardsGroup': WHATEVER THE INPUT: true; the input reads as it did. -/
def edwardsGroupSpec : ChangeSpec := { name := "edwardsGroup", fn := fun _ => fun
  | [d1, d2, d3] => { results := [.lit (.bool true)], args := [d1, d2, d3] }
  | _ => none }
def edwardsGroupRow : OpenClaim := { program := "ytleegbaigedebaadoor", sum := "9af779420244c0e325ca8e4d2b7f4fab51f47178231a292ea35d0a2e93df06fe", func := "buttress/buttresslaw04.EdwardsGroup", spec := "edwardsGroup", inPlace := ["math/bits.Add64"], unfollowed := true, recurses := true, named := ["buttress/edwards.base", "buttress/edwards.d", "buttress/field.fourTimesP", "buttress/field.rootOfMinusOne"], apart := false, laid := [("buttress/field.fourTimesP", laid_buttress_field_fourTimesP), ("buttress/field.rootOfMinusOne", laid_buttress_field_rootOfMinusOne), ("buttress/edwards.d", laid_buttress_edwards_d), ("buttress/edwards.base", laid_buttress_edwards_base)] }
def EdwardsGroupSaid : Prop := edwardsGroupRow.holds Tryd.pinned (OpenSpec.ofChange edwardsGroupSpec)

/-- ITS FALSE NEIGHBOUR: 'it returns false'. Refute it at one input. -/
def edwardsGroupWrong : ChangeSpec := { name := "edwardsGroup", fn := fun _ => fun
  | [d1, d2, d3] => { results := [.lit (.bool false)], args := [d1, d2, d3] }
  | _ => none }
def EdwardsGroupWrongFalsely : Prop := edwardsGroupRow.holds Tryd.pinned (OpenSpec.ofChange edwardsGroupWrong)

/-- 'buttresslaw04.EdwardsOften': WHATEVER THE INPUT: true; the input reads as it did. -/
def edwardsOftenSpec : ChangeSpec := { name := "edwardsOften", fn := fun _ => fun
  | [d1, d2, d3] => { results := [.lit (.bool true)], args := [d1, d2, d3] }
  | _ => none }
def edwardsOftenRow : OpenClaim := { program := "ytleegbaigedebaadoor", sum := "9af779420244c0e325ca8e4d2b7f4fab51f47178231a292ea35d0a2e93df06fe", func := "buttress/buttresslaw04.EdwardsOften", spec := "edwardsOften", inPlace := ["math/bits.Add64", "math/bits.Sub64"], unfollowed := true, recurses := true, named := ["buttress/edwards.base", "buttress/edwards.d", "buttress/field.fourTimesP", "buttress/field.rootOfMinusOne", "buttress/scalar.order"], apart := false, laid := [("buttress/scalar.order", laid_buttress_scalar_order), ("buttress/field.fourTimesP", laid_buttress_field_fourTimesP), ("buttress/field.rootOfMinusOne", laid_buttress_field_rootOfMinusOne), ("buttress/edwards.d", laid_buttress_edwards_d), ("buttress/edwards.base", laid_buttress_edwards_base)] }
def EdwardsOftenSaid : Prop := edwardsOftenRow.holds Tryd.pinned (OpenSpec.ofChange edwardsOftenSpec)

/-- ITS FALSE NEIGHBOUR: 'it returns false'. Refute it at one input. -/
def edwardsOftenWrong : ChangeSpec := { name := "edwardsOften", fn := fun _ => fun
  | [d1, d2, d3] => { results := [.lit (.bool false)], args := [d1, d2, d3] }
  | _ => none }
def EdwardsOftenWrongFalsely : Prop := edwardsOftenRow.holds Tryd.pinned (OpenSpec.ofChange edwardsOftenWrong)

/-- 'buttresslaw04.EdwardsCurve': WHATEVER THE INPUT: true; the input reads as it did. -/
def edwardsCurveSpec : ChangeSpec := { name := "edwardsCurve", fn := fun _ => fun
  | [d] => { results := [.lit (.bool true)], args := [d] }
  | _ => none }
def edwardsCurveRow : OpenClaim := { program := "ytleegbaigedebaadoor", sum := "9af779420244c0e325ca8e4d2b7f4fab51f47178231a292ea35d0a2e93df06fe", func := "buttress/buttresslaw04.EdwardsCurve", spec := "edwardsCurve", inPlace := ["math/bits.Add64"], unfollowed := true, recurses := true, named := ["buttress/edwards.base", "buttress/edwards.d", "buttress/field.fourTimesP", "buttress/field.rootOfMinusOne"], apart := false, laid := [("buttress/field.fourTimesP", laid_buttress_field_fourTimesP), ("buttress/field.rootOfMinusOne", laid_buttress_field_rootOfMinusOne), ("buttress/edwards.d", laid_buttress_edwards_d), ("buttress/edwards.base", laid_buttress_edwards_base)] }
def EdwardsCurveSaid : Prop := edwardsCurveRow.holds Tryd.pinned (OpenSpec.ofChange edwardsCurveSpec)

/-- ITS FALSE NEIGHBOUR: 'it returns false'. Refute it at one input. -/
def edwardsCurveWrong : ChangeSpec := { name := "edwardsCurve", fn := fun _ => fun
  | [d] => { results := [.lit (.bool false)], args := [d] }
  | _ => none }
def EdwardsCurveWrongFalsely : Prop := edwardsCurveRow.holds Tryd.pinned (OpenSpec.ofChange edwardsCurveWrong)

/- THE SECOND FORM. 'bulk': how many values and letters a reading holds, each counted each time it is reached (what is shared counts as often as it is met; a slice's spare places count too). A statement '..UptoSaid' is the law's where the arguments, and the package variables that the reading takes, are together of bulk at most 1048576: NARROWER than '..Said'. Prove '..Said' where nothing that the law and all that it calls make is longer than what came in: it says more and counts as full. Else prove '..UptoSaid'. A law counts once. -/
mutual
def uptoBulk {H : Type} : DataW H → Nat
  | .lit (.string bytes) => bytes.length + 1
  | .lit _ => 1
  | .nil => 1
  | .ptr d => uptoBulk d + 1
  | .slice elems spare => uptoBulkAll elems + uptoBulkAll spare + 1
  | .agg parts => uptoBulkAll parts + 1
  | .iface _ d => uptoBulk d + 1
  | .map entries => uptoBulkEntries entries + 1
  | .held _ => 1
def uptoBulkAll {H : Type} : List (DataW H) → Nat
  | [] => 0
  | d :: r => uptoBulk d + uptoBulkAll r
def uptoBulkEntries {H : Type} : List (Lit × DataW H) → Nat
  | [] => 0
  | x :: r => uptoBulkEntry x + uptoBulkEntries r
def uptoBulkEntry {H : Type} : Lit × DataW H → Nat
  | (.string bytes, d) => bytes.length + uptoBulk d + 1
  | (_, d) => uptoBulk d + 1
 end
def uptoSmall : (H : Type) → List (DataW H) → Bool := fun _ ds => decide (uptoBulkAll ds ≤ 1048576)
def OpenSpec.upto (s : _root_.Go.ChangeSpec) : _root_.Go.OpenSpec := { _root_.Go.OpenSpec.ofChange s with cond := some uptoSmall }

/-- 'buttresslaw04.EdwardsGroup', WHERE WHAT IT READS IS OF BULK AT MOST 1048576: true; the input reads as it did. -/
def edwardsGroupUptoRow : OpenClaim := { program := "ytleegbaigedebaadoor", sum := "9af779420244c0e325ca8e4d2b7f4fab51f47178231a292ea35d0a2e93df06fe", func := "buttress/buttresslaw04.EdwardsGroup", spec := "edwardsGroup", inPlace := ["math/bits.Add64"], unfollowed := true, recurses := true, named := ["buttress/edwards.base", "buttress/edwards.d", "buttress/field.fourTimesP", "buttress/field.rootOfMinusOne"], apart := false, laid := [("buttress/field.fourTimesP", laid_buttress_field_fourTimesP), ("buttress/field.rootOfMinusOne", laid_buttress_field_rootOfMinusOne), ("buttress/edwards.d", laid_buttress_edwards_d), ("buttress/edwards.base", laid_buttress_edwards_base)], narrowed := true }
def EdwardsGroupUptoSaid : Prop := edwardsGroupUptoRow.holds Tryd.pinned (OpenSpec.upto edwardsGroupSpec)

/-- 'buttresslaw04.EdwardsOften', WHERE WHAT IT READS IS OF BULK AT MOST 1048576: true; the input reads as it did. -/
def edwardsOftenUptoRow : OpenClaim := { program := "ytleegbaigedebaadoor", sum := "9af779420244c0e325ca8e4d2b7f4fab51f47178231a292ea35d0a2e93df06fe", func := "buttress/buttresslaw04.EdwardsOften", spec := "edwardsOften", inPlace := ["math/bits.Add64", "math/bits.Sub64"], unfollowed := true, recurses := true, named := ["buttress/edwards.base", "buttress/edwards.d", "buttress/field.fourTimesP", "buttress/field.rootOfMinusOne", "buttress/scalar.order"], apart := false, laid := [("buttress/scalar.order", laid_buttress_scalar_order), ("buttress/field.fourTimesP", laid_buttress_field_fourTimesP), ("buttress/field.rootOfMinusOne", laid_buttress_field_rootOfMinusOne), ("buttress/edwards.d", laid_buttress_edwards_d), ("buttress/edwards.base", laid_buttress_edwards_base)], narrowed := true }
def EdwardsOftenUptoSaid : Prop := edwardsOftenUptoRow.holds Tryd.pinned (OpenSpec.upto edwardsOftenSpec)

/-- 'buttresslaw04.EdwardsCurve', WHERE WHAT IT READS IS OF BULK AT MOST 1048576: true; the input reads as it did. -/
def edwardsCurveUptoRow : OpenClaim := { program := "ytleegbaigedebaadoor", sum := "9af779420244c0e325ca8e4d2b7f4fab51f47178231a292ea35d0a2e93df06fe", func := "buttress/buttresslaw04.EdwardsCurve", spec := "edwardsCurve", inPlace := ["math/bits.Add64"], unfollowed := true, recurses := true, named := ["buttress/edwards.base", "buttress/edwards.d", "buttress/field.fourTimesP", "buttress/field.rootOfMinusOne"], apart := false, laid := [("buttress/field.fourTimesP", laid_buttress_field_fourTimesP), ("buttress/field.rootOfMinusOne", laid_buttress_field_rootOfMinusOne), ("buttress/edwards.d", laid_buttress_edwards_d), ("buttress/edwards.base", laid_buttress_edwards_base)], narrowed := true }
def EdwardsCurveUptoSaid : Prop := edwardsCurveUptoRow.holds Tryd.pinned (OpenSpec.upto edwardsCurveSpec)

end Rows
end Go.Proofs.YtleegbaigedebaaDoor
