/-
  No cell of these rows narrows 'for every input' (looked for: loops, veiled, ifaces, maps, wideKeys, modest, calm, conditions, laid).
  DERIVED. THE GIVEN ROWS OF THIS SEAT. 8 by the template 'for every input the law returns true; each argument reads behind the call as it read before'; 0 by the template 'total and deterministic' (their statements: YtlkiancedgaicaaGreatTotals.lean).
  GIVEN WITH THE SEED: the statements are not yours to turn. If you find one false, say at which input.
  Laid BY PROGRAM, IN A SANDBOX (cutbox-rows.mjs): the forced cells as the released guide's own fill.sh prints them over the translation 2033681b128477f9… (all of the seat's roots in one cut). By AI agents, Wed Nov 11 2026. No macro, syntax, notation, axiom, sorry.
-/
import Derived.Test.YtlkiancedgaicaaGreatChecked
import GoSem.Claim
import GoSem.ClaimJoined
import GoSem.ClaimMapViews
import Derived.JoinedTies
import Derived.KernelRfl
namespace Go.Proofs.YtlkiancedgaicaaGreat
/- THE CELL 'sum', in the pinned program and in every row, IS THE sha256 OF THE DUMP (.gsa) THAT YtlkiancedgaicaaGreatProg.lean LOADS. Nothing in Lean hashes anything: it is a label: what it is worth is what the hold of that sum in a sandbox is worth. -/
noncomputable def Tryz.pinned : Pinned := { name := "ytlkiancedgaicaagreat", sum := "2033681b128477f93cb4d89712ee286436b1668b7fca30ee85b7137bf7c5032c", checked := Tryz.checked }
namespace Rows
def none {H : Type} : Left H := { results := [], args := [] }

/-- 'buttresslaw06.WirePuts': WHATEVER THE INPUT: true; the input reads as it did. -/
def wirePutsSpec : ChangeSpec := { name := "wirePuts", fn := fun _ => fun
  | [d1, d2] => { results := [.lit (.bool true)], args := [d1, d2] }
  | _ => none }
def wirePutsRow : OpenClaim := { program := "ytlkiancedgaicaagreat", sum := "2033681b128477f93cb4d89712ee286436b1668b7fca30ee85b7137bf7c5032c", func := "buttress/buttresslaw06.WirePuts", spec := "wirePuts", unfollowed := true, recurses := true, apart := false }
def WirePutsSaid : Prop := wirePutsRow.holds Tryz.pinned (OpenSpec.ofChange wirePutsSpec)

/-- ITS FALSE NEIGHBOUR: 'it returns false'. Refute it at one input. -/
def wirePutsWrong : ChangeSpec := { name := "wirePuts", fn := fun _ => fun
  | [d1, d2] => { results := [.lit (.bool false)], args := [d1, d2] }
  | _ => none }
def WirePutsWrongFalsely : Prop := wirePutsRow.holds Tryz.pinned (OpenSpec.ofChange wirePutsWrong)

/-- 'buttresslaw06.WireReads': WHATEVER THE INPUT: true; the input reads as it did. -/
def wireReadsSpec : ChangeSpec := { name := "wireReads", fn := fun _ => fun
  | [d1, d2] => { results := [.lit (.bool true)], args := [d1, d2] }
  | _ => none }
def wireReadsRow : OpenClaim := { program := "ytlkiancedgaicaagreat", sum := "2033681b128477f93cb4d89712ee286436b1668b7fca30ee85b7137bf7c5032c", func := "buttress/buttresslaw06.WireReads", spec := "wireReads", unfollowed := true, recurses := true, apart := false }
def WireReadsSaid : Prop := wireReadsRow.holds Tryz.pinned (OpenSpec.ofChange wireReadsSpec)

/-- ITS FALSE NEIGHBOUR: 'it returns false'. Refute it at one input. -/
def wireReadsWrong : ChangeSpec := { name := "wireReads", fn := fun _ => fun
  | [d1, d2] => { results := [.lit (.bool false)], args := [d1, d2] }
  | _ => none }
def WireReadsWrongFalsely : Prop := wireReadsRow.holds Tryz.pinned (OpenSpec.ofChange wireReadsWrong)

/-- 'buttresslaw06.WireNumbers': WHATEVER THE INPUT: true; the input reads as it did. -/
def wireNumbersSpec : ChangeSpec := { name := "wireNumbers", fn := fun _ => fun
  | [] => { results := [.lit (.bool true)], args := [] }
  | _ => none }
def wireNumbersRow : OpenClaim := { program := "ytlkiancedgaicaagreat", sum := "2033681b128477f93cb4d89712ee286436b1668b7fca30ee85b7137bf7c5032c", func := "buttress/buttresslaw06.WireNumbers", spec := "wireNumbers", unfollowed := true, recurses := true, apart := false }
def WireNumbersSaid : Prop := wireNumbersRow.holds Tryz.pinned (OpenSpec.ofChange wireNumbersSpec)

/-- ITS FALSE NEIGHBOUR: 'it returns false'. Refute it at one input. -/
def wireNumbersWrong : ChangeSpec := { name := "wireNumbers", fn := fun _ => fun
  | [] => { results := [.lit (.bool false)], args := [] }
  | _ => none }
def WireNumbersWrongFalsely : Prop := wireNumbersRow.holds Tryz.pinned (OpenSpec.ofChange wireNumbersWrong)

/-- 'buttresslaw09.SiblingJoins': WHATEVER THE INPUT: true; the input reads as it did. -/
def siblingJoinsSpec : ChangeSpec := { name := "siblingJoins", fn := fun _ => fun
  | [d1, d2, d3] => { results := [.lit (.bool true)], args := [d1, d2, d3] }
  | _ => none }
def siblingJoinsRow : OpenClaim := { program := "ytlkiancedgaicaagreat", sum := "2033681b128477f93cb4d89712ee286436b1668b7fca30ee85b7137bf7c5032c", func := "buttress/buttresslaw09.SiblingJoins", spec := "siblingJoins", inPlace := ["internal/bytealg.Compare", "slices.overlaps[buttress/api.Dot]"], unfollowed := true, recurses := true, apart := false }
def SiblingJoinsSaid : Prop := siblingJoinsRow.holds Tryz.pinned (OpenSpec.ofChange siblingJoinsSpec)

/-- ITS FALSE NEIGHBOUR: 'it returns false'. Refute it at one input. -/
def siblingJoinsWrong : ChangeSpec := { name := "siblingJoins", fn := fun _ => fun
  | [d1, d2, d3] => { results := [.lit (.bool false)], args := [d1, d2, d3] }
  | _ => none }
def SiblingJoinsWrongFalsely : Prop := siblingJoinsRow.holds Tryz.pinned (OpenSpec.ofChange siblingJoinsWrong)

/-- 'buttresslaw09.SiblingPuts': WHATEVER THE INPUT: true; the input reads as it did. -/
def siblingPutsSpec : ChangeSpec := { name := "siblingPuts", fn := fun _ => fun
  | [d] => { results := [.lit (.bool true)], args := [d] }
  | _ => none }
def siblingPutsRow : OpenClaim := { program := "ytlkiancedgaicaagreat", sum := "2033681b128477f93cb4d89712ee286436b1668b7fca30ee85b7137bf7c5032c", func := "buttress/buttresslaw09.SiblingPuts", spec := "siblingPuts", inPlace := ["internal/bytealg.Compare", "slices.overlaps[buttress/api.Dot]"], unfollowed := true, recurses := true, apart := false }
def SiblingPutsSaid : Prop := siblingPutsRow.holds Tryz.pinned (OpenSpec.ofChange siblingPutsSpec)

/-- ITS FALSE NEIGHBOUR: 'it returns false'. Refute it at one input. -/
def siblingPutsWrong : ChangeSpec := { name := "siblingPuts", fn := fun _ => fun
  | [d] => { results := [.lit (.bool false)], args := [d] }
  | _ => none }
def SiblingPutsWrongFalsely : Prop := siblingPutsRow.holds Tryz.pinned (OpenSpec.ofChange siblingPutsWrong)

/-- 'buttresslaw09.SiblingGets': WHATEVER THE INPUT: true; the input reads as it did. -/
def siblingGetsSpec : ChangeSpec := { name := "siblingGets", fn := fun _ => fun
  | [d] => { results := [.lit (.bool true)], args := [d] }
  | _ => none }
def siblingGetsRow : OpenClaim := { program := "ytlkiancedgaicaagreat", sum := "2033681b128477f93cb4d89712ee286436b1668b7fca30ee85b7137bf7c5032c", func := "buttress/buttresslaw09.SiblingGets", spec := "siblingGets", inPlace := ["internal/bytealg.Compare", "slices.overlaps[buttress/api.Dot]"], unfollowed := true, recurses := true, apart := false }
def SiblingGetsSaid : Prop := siblingGetsRow.holds Tryz.pinned (OpenSpec.ofChange siblingGetsSpec)

/-- ITS FALSE NEIGHBOUR: 'it returns false'. Refute it at one input. -/
def siblingGetsWrong : ChangeSpec := { name := "siblingGets", fn := fun _ => fun
  | [d] => { results := [.lit (.bool false)], args := [d] }
  | _ => none }
def SiblingGetsWrongFalsely : Prop := siblingGetsRow.holds Tryz.pinned (OpenSpec.ofChange siblingGetsWrong)

/-- 'buttresslaw09.SiblingNumbers': WHATEVER THE INPUT: true; the input reads as it did. -/
def siblingNumbersSpec : ChangeSpec := { name := "siblingNumbers", fn := fun _ => fun
  | [] => { results := [.lit (.bool true)], args := [] }
  | _ => none }
def siblingNumbersRow : OpenClaim := { program := "ytlkiancedgaicaagreat", sum := "2033681b128477f93cb4d89712ee286436b1668b7fca30ee85b7137bf7c5032c", func := "buttress/buttresslaw09.SiblingNumbers", spec := "siblingNumbers", inPlace := ["internal/bytealg.Compare", "slices.overlaps[buttress/api.Dot]"], unfollowed := true, recurses := true, apart := false }
def SiblingNumbersSaid : Prop := siblingNumbersRow.holds Tryz.pinned (OpenSpec.ofChange siblingNumbersSpec)

/-- ITS FALSE NEIGHBOUR: 'it returns false'. Refute it at one input. -/
def siblingNumbersWrong : ChangeSpec := { name := "siblingNumbers", fn := fun _ => fun
  | [] => { results := [.lit (.bool false)], args := [] }
  | _ => none }
def SiblingNumbersWrongFalsely : Prop := siblingNumbersRow.holds Tryz.pinned (OpenSpec.ofChange siblingNumbersWrong)

/-- 'buttresslaw09.SiblingBack': WHATEVER THE INPUT: true; the input reads as it did. -/
def siblingBackSpec : ChangeSpec := { name := "siblingBack", fn := fun _ => fun
  | [d1, d2, d3] => { results := [.lit (.bool true)], args := [d1, d2, d3] }
  | _ => none }
def siblingBackRow : OpenClaim := { program := "ytlkiancedgaicaagreat", sum := "2033681b128477f93cb4d89712ee286436b1668b7fca30ee85b7137bf7c5032c", func := "buttress/buttresslaw09.SiblingBack", spec := "siblingBack", inPlace := ["internal/bytealg.Compare", "slices.overlaps[buttress/api.Dot]"], unfollowed := true, recurses := true, apart := false }
def SiblingBackSaid : Prop := siblingBackRow.holds Tryz.pinned (OpenSpec.ofChange siblingBackSpec)

/-- ITS FALSE NEIGHBOUR: 'it returns false'. Refute it at one input. -/
def siblingBackWrong : ChangeSpec := { name := "siblingBack", fn := fun _ => fun
  | [d1, d2, d3] => { results := [.lit (.bool false)], args := [d1, d2, d3] }
  | _ => none }
def SiblingBackWrongFalsely : Prop := siblingBackRow.holds Tryz.pinned (OpenSpec.ofChange siblingBackWrong)

/- THE SECOND FORM. 'bulk': how many values and letters a reading holds, each counted each time it is reached (what is shared counts as often as it is met; a slice's spare places count too). A statement '..UptoSaid' is the law's where the arguments, and the package variables that the reading takes, are together of bulk at most 1048576: NARROWER than '..Said'. Prove '..Said' where nothing that the law and all that it calls make is longer than what came in: it says more and counts as full. Else prove '..UptoSaid'. A law counts once. -/
mutual
def uptoBulk {H : Type} : DataW H → Nat
  | .lit (.string bytes) => bytes.length + 1
  | .lit _ => 1
  | .nil => 1
  | .ptr d => uptoBulk d + 1
  | .slice elems spare => uptoBulkAll elems + uptoBulkAll spare + 1
  | .agg parts => uptoBulkAll parts + 1
  | .iface _ d => uptoBulk d + 1
  | .map entries => uptoBulkEntries entries + 1
  | .held _ => 1
def uptoBulkAll {H : Type} : List (DataW H) → Nat
  | [] => 0
  | d :: r => uptoBulk d + uptoBulkAll r
def uptoBulkEntries {H : Type} : List (Lit × DataW H) → Nat
  | [] => 0
  | x :: r => uptoBulkEntry x + uptoBulkEntries r
def uptoBulkEntry {H : Type} : Lit × DataW H → Nat
  | (.string bytes, d) => bytes.length + uptoBulk d + 1
  | (_, d) => uptoBulk d + 1
 end
def uptoSmall : (H : Type) → List (DataW H) → Bool := fun _ ds => decide (uptoBulkAll ds ≤ 1048576)
def OpenSpec.upto (s : _root_.Go.ChangeSpec) : _root_.Go.OpenSpec := { _root_.Go.OpenSpec.ofChange s with cond := some uptoSmall }

/-- 'buttresslaw06.WirePuts', WHERE WHAT IT READS IS OF BULK AT MOST 1048576: true; the input reads as it did. -/
def wirePutsUptoRow : OpenClaim := { program := "ytlkiancedgaicaagreat", sum := "2033681b128477f93cb4d89712ee286436b1668b7fca30ee85b7137bf7c5032c", func := "buttress/buttresslaw06.WirePuts", spec := "wirePuts", unfollowed := true, recurses := true, apart := false, narrowed := true }
def WirePutsUptoSaid : Prop := wirePutsUptoRow.holds Tryz.pinned (OpenSpec.upto wirePutsSpec)

/-- 'buttresslaw06.WireReads', WHERE WHAT IT READS IS OF BULK AT MOST 1048576: true; the input reads as it did. -/
def wireReadsUptoRow : OpenClaim := { program := "ytlkiancedgaicaagreat", sum := "2033681b128477f93cb4d89712ee286436b1668b7fca30ee85b7137bf7c5032c", func := "buttress/buttresslaw06.WireReads", spec := "wireReads", unfollowed := true, recurses := true, apart := false, narrowed := true }
def WireReadsUptoSaid : Prop := wireReadsUptoRow.holds Tryz.pinned (OpenSpec.upto wireReadsSpec)

/-- 'buttresslaw06.WireNumbers', WHERE WHAT IT READS IS OF BULK AT MOST 1048576: true; the input reads as it did. -/
def wireNumbersUptoRow : OpenClaim := { program := "ytlkiancedgaicaagreat", sum := "2033681b128477f93cb4d89712ee286436b1668b7fca30ee85b7137bf7c5032c", func := "buttress/buttresslaw06.WireNumbers", spec := "wireNumbers", unfollowed := true, recurses := true, apart := false, narrowed := true }
def WireNumbersUptoSaid : Prop := wireNumbersUptoRow.holds Tryz.pinned (OpenSpec.upto wireNumbersSpec)

/-- 'buttresslaw09.SiblingJoins', WHERE WHAT IT READS IS OF BULK AT MOST 1048576: true; the input reads as it did. -/
def siblingJoinsUptoRow : OpenClaim := { program := "ytlkiancedgaicaagreat", sum := "2033681b128477f93cb4d89712ee286436b1668b7fca30ee85b7137bf7c5032c", func := "buttress/buttresslaw09.SiblingJoins", spec := "siblingJoins", inPlace := ["internal/bytealg.Compare", "slices.overlaps[buttress/api.Dot]"], unfollowed := true, recurses := true, apart := false, narrowed := true }
def SiblingJoinsUptoSaid : Prop := siblingJoinsUptoRow.holds Tryz.pinned (OpenSpec.upto siblingJoinsSpec)

/-- 'buttresslaw09.SiblingPuts', WHERE WHAT IT READS IS OF BULK AT MOST 1048576: true; the input reads as it did. -/
def siblingPutsUptoRow : OpenClaim := { program := "ytlkiancedgaicaagreat", sum := "2033681b128477f93cb4d89712ee286436b1668b7fca30ee85b7137bf7c5032c", func := "buttress/buttresslaw09.SiblingPuts", spec := "siblingPuts", inPlace := ["internal/bytealg.Compare", "slices.overlaps[buttress/api.Dot]"], unfollowed := true, recurses := true, apart := false, narrowed := true }
def SiblingPutsUptoSaid : Prop := siblingPutsUptoRow.holds Tryz.pinned (OpenSpec.upto siblingPutsSpec)

/-- 'buttresslaw09.SiblingGets', WHERE WHAT IT READS IS OF BULK AT MOST 1048576: true; the input reads as it did. -/
def siblingGetsUptoRow : OpenClaim := { program := "ytlkiancedgaicaagreat", sum := "2033681b128477f93cb4d89712ee286436b1668b7fca30ee85b7137bf7c5032c", func := "buttress/buttresslaw09.SiblingGets", spec := "siblingGets", inPlace := ["internal/bytealg.Compare", "slices.overlaps[buttress/api.Dot]"], unfollowed := true, recurses := true, apart := false, narrowed := true }
def SiblingGetsUptoSaid : Prop := siblingGetsUptoRow.holds Tryz.pinned (OpenSpec.upto siblingGetsSpec)

/-- 'buttresslaw09.SiblingNumbers', WHERE WHAT IT READS IS OF BULK AT MOST 1048576: true; the input reads as it did. -/
def siblingNumbersUptoRow : OpenClaim := { program := "ytlkiancedgaicaagreat", sum := "2033681b128477f93cb4d89712ee286436b1668b7fca30ee85b7137bf7c5032c", func := "buttress/buttresslaw09.SiblingNumbers", spec := "siblingNumbers", inPlace := ["internal/bytealg.Compare", "slices.overlaps[buttress/api.Dot]"], unfollowed := true, recurses := true, apart := false, narrowed := true }
def SiblingNumbersUptoSaid : Prop := siblingNumbersUptoRow.holds Tryz.pinned (OpenSpec.upto siblingNumbersSpec)

/-- 'buttresslaw09.SiblingBack', WHERE WHAT IT READS IS OF BULK AT MOST 1048576: true; the input reads as it did. -/
def siblingBackUptoRow : OpenClaim := { program := "ytlkiancedgaicaagreat", sum := "2033681b128477f93cb4d89712ee286436b1668b7fca30ee85b7137bf7c5032c", func := "buttress/buttresslaw09.SiblingBack", spec := "siblingBack", inPlace := ["internal/bytealg.Compare", "slices.overlaps[buttress/api.Dot]"], unfollowed := true, recurses := true, apart := false, narrowed := true }
def SiblingBackUptoSaid : Prop := siblingBackUptoRow.holds Tryz.pinned (OpenSpec.upto siblingBackSpec)

end Rows
end Go.Proofs.YtlkiancedgaicaaGreat
