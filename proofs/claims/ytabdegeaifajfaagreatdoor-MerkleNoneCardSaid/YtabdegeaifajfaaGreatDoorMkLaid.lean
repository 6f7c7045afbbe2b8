/- merkle's laws: what the rows' lists give of sha's two tables. -/
import Derived.Test.YtabdegeaifajfaaGreatDoorMkArg
import Derived.Test.YtabdegeaifajfaaGreatDoorShaLawKit
import Derived.Test.YtabdegeaifajfaaGreatDoorCards
import Derived.Test.YtabdegeaifajfaaGreatDoorTie
import Derived.ProofKit
import Derived.OpenShut
import Derived.ShutString
import Derived.ChangeOld
import Derived.ChangeMaps
import Derived.Deep.DeepHandedRow
import Derived.Lib.LaidTab
import Derived.SizedLaws
namespace Go.Proofs.YtabdegeaifajfaaGreatDoor
open Go.ChangeShapes Go.WideShapes Go.ChangeAt Go.RowKit
namespace Mk
theorem laidMet_tail {P : Program} {x : String × DataW Unit} {rest : List (String × DataW Unit)} {W : World} (h : laidMet P (x :: rest) W) : laidMet P rest W := by
  obtain ⟨ps, ⟨g, t, cs, fuel, p, q, _, _, _, _, hq, rfl⟩, hn, hc⟩ := h
  exact ⟨q, hq, (List.nodup_append.1 hn).2.1, fun b off hm => hc b off (List.mem_append_right _ hm)⟩
def listK : List Int := Sha.K.map fun (n : Nat) => (n : Int)
def listH : List Int := Sha.H0.map fun (n : Nat) => (n : Int)
theorem laid_sq : Rows.laid_buttress_sha_squareRoots = Lib.tabData (H := Unit) .u64 listH := by kernel_rfl
theorem laid_cu : Rows.laid_buttress_sha_cubeRoots = Lib.tabData (H := Unit) .u64 listK := by kernel_rfl
theorem siTables {W : World} {x : String × DataW Unit} {rest : List (String × DataW Unit)} (h : laidMet Tryz.prog (x :: ("buttress/sha.squareRoots", Rows.laid_buttress_sha_squareRoots) :: ("buttress/sha.cubeRoots", Rows.laid_buttress_sha_cubeRoots) :: rest) W) : Tables W := by
  have k := laidMet_tail h
  rw [laid_sq, laid_cu] at k
  have g0 : Tryz.prog.globalNamed "buttress/sha.squareRoots" = some 0 := by kernel_rfl
  have g1 : Tryz.prog.globalNamed "buttress/sha.cubeRoots" = some 3 := by kernel_rfl
  have h0 := Lib.tabIs_of_head g0 (by kernel_rfl) Tryz.underlying174 Tryz.underlying118 (by kernel_rfl) (by kernel_rfl) k
  have h1 := Lib.tabIs_of_head g1 (by kernel_rfl) Tryz.underlying205 Tryz.underlying118 (by kernel_rfl) (by kernel_rfl) (laidMet_tail k)
  have cast_get : ∀ (l : List Nat) (i : Nat), (l.map fun (n : Nat) => (n : Int)).getD i 0 = ((l.getD i 0 : Nat) : Int) := fun l i => by
    rw [List.getD_eq_getElem?_getD, List.getD_eq_getElem?_getD, List.getElem?_map]
    cases l[i]? <;> rfl
  refine ⟨fun t ht => ?_, fun t ht => ?_⟩
  · rw [h1.cell g1 t ht]; unfold listK; rw [cast_get]; rfl
  · rw [h0.cell g0 t ht]; unfold listH; rw [cast_get]; rfl
/-- other cells in a block -/
def putCells (l : List Value) : Obj → Obj
  | .cells _ t frozen => .cells l.toArray t frozen
  | o => o
def ranges : List Value := ([128, 191, 160, 191, 128, 159, 144, 191, 128, 143] ++ List.replicate 22 0 : List Int).map (Value.int .u8)
def firsts : List Value := (List.replicate 128 240 ++ List.replicate 66 241 ++ List.replicate 30 2 ++ [19] ++ List.replicate 12 3 ++ [35, 3, 3, 52, 4, 4, 4, 68] ++ List.replicate 11 241 : List Int).map (Value.int .u8)
/-- A WORLD FOR A WITNESS: the settled one, the variables holding what their initialisers lay. -/
noncomputable def siWorld (os : Os) : World :=
  { World.holding Tryz.prog os ⟨#[], #[], []⟩ with heap := ((((World.holding Tryz.prog os ⟨#[], #[], []⟩).heap.modify 2 (putCells ranges)).modify 1 (putCells firsts)).modify 0 (putCells (listH.map (Value.int .u64)))).modify 3 (putCells (listK.map (Value.int .u64))) }
theorem own : ownKnob Tryz.prog.godebug = none := by kernel_rfl
theorem laidOut : laidOutB Tryz.prog = true := by kernel_rfl
end Mk
end Go.Proofs.YtabdegeaifajfaaGreatDoor
