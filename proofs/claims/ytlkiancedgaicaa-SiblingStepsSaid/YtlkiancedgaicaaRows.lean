/-
  No cell of these rows narrows 'for every input' (looked for: loops, veiled, ifaces, maps, wideKeys, modest, calm, conditions, laid).
  DERIVED. THE GIVEN ROWS OF THIS SEAT. 2 by the template 'for every input the law returns true; each argument reads behind the call as it read before'; 0 by the template 'total and deterministic' (their statements: YtlkiancedgaicaaTotals.lean).
  GIVEN WITH THE SEED: the statements are not yours to turn. If you find one false, say at which input.
  Laid BY PROGRAM, IN A SANDBOX (cutbox-rows.mjs): the forced cells as the released guide's own fill.sh prints them over the translation 6ebceddc3a6f64fc… (all of the seat's roots in one cut). By AI agents, Wed Nov 11 2026. No macro, syntax, notation, axiom, sorry.
-/
import Derived.Test.YtlkiancedgaicaaChecked
import GoSem.Claim
import GoSem.ClaimJoined
import GoSem.ClaimMapViews
import Derived.JoinedTies
import Derived.KernelRfl
namespace Go.Proofs.Ytlkiancedgaicaa
/- THE CELL 'sum', in the pinned program and in every row, IS THE sha256 OF THE DUMP (.gsa) THAT YtlkiancedgaicaaProg.lean LOADS. Nothing in Lean hashes anything: it is a label: what it is worth is what the hold of that sum in a sandbox is worth. -/
noncomputable def Try.pinned : Pinned := { name := "ytlkiancedgaicaa", sum := "6ebceddc3a6f64fc92b00d9847945721e0df427016328510ab4b55ca616210ef", checked := Try.checked }
namespace Rows
def none {H : Type} : Left H := { results := [], args := [] }

/-- 'buttresslaw09.SiblingSteps': WHATEVER THE INPUT: true; the input reads as it did. -/
def siblingStepsSpec : ChangeSpec := { name := "siblingSteps", fn := fun _ => fun
  | [d1, d2, d3] => { results := [.lit (.bool true)], args := [d1, d2, d3] }
  | _ => none }
def siblingStepsRow : OpenClaim := { program := "ytlkiancedgaicaa", sum := "6ebceddc3a6f64fc92b00d9847945721e0df427016328510ab4b55ca616210ef", func := "buttress/buttresslaw09.SiblingSteps", spec := "siblingSteps", inPlace := ["internal/bytealg.Compare", "slices.overlaps[buttress/api.Dot]"], unfollowed := true, recurses := true, apart := false }
def SiblingStepsSaid : Prop := siblingStepsRow.holds Try.pinned (OpenSpec.ofChange siblingStepsSpec)

/-- ITS FALSE NEIGHBOUR: 'it returns false'. Refute it at one input. -/
def siblingStepsWrong : ChangeSpec := { name := "siblingSteps", fn := fun _ => fun
  | [d1, d2, d3] => { results := [.lit (.bool false)], args := [d1, d2, d3] }
  | _ => none }
def SiblingStepsWrongFalsely : Prop := siblingStepsRow.holds Try.pinned (OpenSpec.ofChange siblingStepsWrong)

/-- 'buttresslaw09.SiblingFrom': WHATEVER THE INPUT: true; the input reads as it did. -/
def siblingFromSpec : ChangeSpec := { name := "siblingFrom", fn := fun _ => fun
  | [d1, d2] => { results := [.lit (.bool true)], args := [d1, d2] }
  | _ => none }
def siblingFromRow : OpenClaim := { program := "ytlkiancedgaicaa", sum := "6ebceddc3a6f64fc92b00d9847945721e0df427016328510ab4b55ca616210ef", func := "buttress/buttresslaw09.SiblingFrom", spec := "siblingFrom", inPlace := ["internal/bytealg.Compare", "slices.overlaps[buttress/api.Dot]"], unfollowed := true, recurses := true, apart := false }
def SiblingFromSaid : Prop := siblingFromRow.holds Try.pinned (OpenSpec.ofChange siblingFromSpec)

/-- ITS FALSE NEIGHBOUR: 'it returns false'. Refute it at one input. -/
def siblingFromWrong : ChangeSpec := { name := "siblingFrom", fn := fun _ => fun
  | [d1, d2] => { results := [.lit (.bool false)], args := [d1, d2] }
  | _ => none }
def SiblingFromWrongFalsely : Prop := siblingFromRow.holds Try.pinned (OpenSpec.ofChange siblingFromWrong)

/- THE SECOND FORM. 'bulk': how many values and letters a reading holds, each counted each time it is reached (what is shared counts as often as it is met; a slice's spare places count too). A statement '..UptoSaid' is the law's where the arguments, and the package variables that the reading takes, are together of bulk at most 1048576: NARROWER than '..Said'. Prove '..Said' where nothing that the law and all that it calls make is longer than what came in: it says more and counts as full. Else prove '..UptoSaid'. A law counts once. -/
mutual
def uptoBulk {H : Type} : DataW H → Nat
  | .lit (.string bytes) => bytes.length + 1
  | .lit _ => 1
  | .nil => 1
  | .ptr d => uptoBulk d + 1
  | .slice elems spare => uptoBulkAll elems + uptoBulkAll spare + 1
  | .agg parts => uptoBulkAll parts + 1
  | .iface _ d => uptoBulk d + 1
  | .map entries => uptoBulkEntries entries + 1
  | .held _ => 1
def uptoBulkAll {H : Type} : List (DataW H) → Nat
  | [] => 0
  | d :: r => uptoBulk d + uptoBulkAll r
def uptoBulkEntries {H : Type} : List (Lit × DataW H) → Nat
  | [] => 0
  | x :: r => uptoBulkEntry x + uptoBulkEntries r
def uptoBulkEntry {H : Type} : Lit × DataW H → Nat
  | (.string bytes, d) => bytes.length + uptoBulk d + 1
  | (_, d) => uptoBulk d + 1
 end
def uptoSmall : (H : Type) → List (DataW H) → Bool := fun _ ds => decide (uptoBulkAll ds ≤ 1048576)
def OpenSpec.upto (s : _root_.Go.ChangeSpec) : _root_.Go.OpenSpec := { _root_.Go.OpenSpec.ofChange s with cond := some uptoSmall }

/-- 'buttresslaw09.SiblingSteps', WHERE WHAT IT READS IS OF BULK AT MOST 1048576: true; the input reads as it did. -/
def siblingStepsUptoRow : OpenClaim := { program := "ytlkiancedgaicaa", sum := "6ebceddc3a6f64fc92b00d9847945721e0df427016328510ab4b55ca616210ef", func := "buttress/buttresslaw09.SiblingSteps", spec := "siblingSteps", inPlace := ["internal/bytealg.Compare", "slices.overlaps[buttress/api.Dot]"], unfollowed := true, recurses := true, apart := false, narrowed := true }
def SiblingStepsUptoSaid : Prop := siblingStepsUptoRow.holds Try.pinned (OpenSpec.upto siblingStepsSpec)

/-- 'buttresslaw09.SiblingFrom', WHERE WHAT IT READS IS OF BULK AT MOST 1048576: true; the input reads as it did. -/
def siblingFromUptoRow : OpenClaim := { program := "ytlkiancedgaicaa", sum := "6ebceddc3a6f64fc92b00d9847945721e0df427016328510ab4b55ca616210ef", func := "buttress/buttresslaw09.SiblingFrom", spec := "siblingFrom", inPlace := ["internal/bytealg.Compare", "slices.overlaps[buttress/api.Dot]"], unfollowed := true, recurses := true, apart := false, narrowed := true }
def SiblingFromUptoSaid : Prop := siblingFromUptoRow.holds Try.pinned (OpenSpec.upto siblingFromSpec)

end Rows
end Go.Proofs.Ytlkiancedgaicaa
