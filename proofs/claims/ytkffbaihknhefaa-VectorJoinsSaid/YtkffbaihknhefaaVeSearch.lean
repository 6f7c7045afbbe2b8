/- sort.Search at this dump: the shelf's contract, laid by hand. -/
import Derived.Shelf.SlSorted.Search
import Derived.Test.YtkffbaihknhefaaProg
namespace Go.Proofs.Ytkffbaihknhefaa
open Go.Shelf
def laysSearch_ren : Go.Shelf.Ren := ⟨fun | 16 => 59 | n => n, fun | 3 => 3 | 4 => 4 | 35 => 103 | 38 => 199 | n => n, fun | n => n⟩
theorem laysSearch : Go.Proofs.SlLaysO.n16 Try.prog laysSearch_ren := {
  mixed := by kernel_rfl
  f16 := Try.func59.trans (congrArg some (by kernel_rfl))
  t3 := Try.underlying3
  a3 := Try.isAgg3
  z3 := Try.sizeOf3
  v3 := Try.zeroValue3
  t4 := Try.underlying4
  a4 := Try.isAgg4
  z4 := Try.sizeOf4
  v4 := Try.zeroValue4
  t35 := Try.underlying103
  a35 := Try.isAgg103
  z35 := Try.sizeOf103
  v35 := Try.zeroValue103
  t38 := Try.underlying199
  a38 := Try.isAgg199
  z38 := Try.sizeOf199
  v38 := Try.zeroValue199 }
end Go.Proofs.Ytkffbaihknhefaa
