/- sort.Search at this dump: the shelf's contract, laid by hand. -/
import Derived.Shelf.SlSorted.Search
import Derived.Test.YtohcoihdijemfaaProg
namespace Go.Proofs.Ytohcoihdijemfaa
open Go.Shelf
def laysSearch_ren : Go.Shelf.Ren := ⟨fun | 16 => 80 | n => n, fun | 3 => 3 | 4 => 4 | 35 => 67 | 38 => 61 | n => n, fun | n => n⟩
theorem laysSearch : Go.Proofs.SlLaysO.n16 Try.prog laysSearch_ren := {
  mixed := by kernel_rfl
  f16 := Try.func80.trans (congrArg some (by kernel_rfl))
  t3 := Try.underlying3
  a3 := Try.isAgg3
  z3 := Try.sizeOf3
  v3 := Try.zeroValue3
  t4 := Try.underlying4
  a4 := Try.isAgg4
  z4 := Try.sizeOf4
  v4 := Try.zeroValue4
  t35 := Try.underlying67
  a35 := Try.isAgg67
  z35 := Try.sizeOf67
  v35 := Try.zeroValue67
  t38 := Try.underlying61
  a38 := Try.isAgg61
  z38 := Try.sizeOf61
  v38 := Try.zeroValue61 }
end Go.Proofs.Ytohcoihdijemfaa
