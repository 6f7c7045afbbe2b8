/- scalar: what the rows' lists give: the order's four words. -/
import Derived.Test.YtmnlidfalhjghaaGreatDoorScOff
import Derived.Test.YtmnlidfalhjghaaGreatDoorOpen
import Derived.Test.YtmnlidfalhjghaaGreatDoorCards
import Derived.Test.YtmnlidfalhjghaaGreatDoorTie
namespace Go.Proofs.YtmnlidfalhjghaaGreatDoor
open Go.ChangeShapes Go.WideShapes Go.ChangeAt Go.RowKit Ow

def listO : List Int := [6346243789798364141, 1503914060200516822, 0, 1152921504606846976]
theorem laid_is : [("buttress/scalar.order", Rows.laid_buttress_scalar_order)] = [("buttress/scalar.order", Lib.tabData (H := Unit) .u64 listO)] := by kernel_rfl
theorem tables {W : World} (h : laidMet Tryz.prog [("buttress/scalar.order", Rows.laid_buttress_scalar_order)] W) : OTab W := by
  rw [laid_is] at h
  have g0 : Tryz.prog.globalNamed "buttress/scalar.order" = some 0 := by kernel_rfl
  have h0 := Lib.tabIs_of_head g0 (by kernel_rfl) Tryz.underlying44 Tryz.underlying40 (by kernel_rfl) (by kernel_rfl) h
  have hp : ∀ i, i < 4 → W.cell? ⟨0, i, none⟩ = some (u64N (Sc.lw i)) := fun i hi => by
    rw [h0.cell g0 i hi]
    obtain rfl | rfl | rfl | rfl : i = 0 ∨ i = 1 ∨ i = 2 ∨ i = 3 := by omega
    all_goals rfl
  exact ⟨block_lt_of_cell (hp 0 (by decide)), hp⟩
/-- another row in a block -/
def putObj (l : List Int) : Obj → Obj
  | .cells _ t frozen => .cells (l.map (Value.int .u64)).toArray t frozen
  | o => o
/-- A WORLD FOR A WITNESS: the settled one, the order holding what its initialiser lays. -/
noncomputable def laidWorld (os : Os) : World :=
  { World.holding Tryz.prog os ⟨#[], #[], []⟩ with heap := (World.holding Tryz.prog os ⟨#[], #[], []⟩).heap.modify 0 (putObj listO) }
end Go.Proofs.YtmnlidfalhjghaaGreatDoor
