/- sort.Search at this dump: the shelf's contract, laid by hand. -/
import Derived.Shelf.SlSorted.Search
import Derived.Test.YtkffbaihknhefaaGreatProg
namespace Go.Proofs.YtkffbaihknhefaaGreat
open Go.Shelf
def laysSearch_ren : Go.Shelf.Ren := ⟨fun | 16 => 58 | n => n, fun | 3 => 3 | 4 => 4 | 35 => 102 | 38 => 197 | n => n, fun | n => n⟩
theorem laysSearch : Go.Proofs.SlLaysO.n16 Tryz.prog laysSearch_ren := {
  mixed := by kernel_rfl
  f16 := Tryz.func58.trans (congrArg some (by kernel_rfl))
  t3 := Tryz.underlying3
  a3 := Tryz.isAgg3
  z3 := Tryz.sizeOf3
  v3 := Tryz.zeroValue3
  t4 := Tryz.underlying4
  a4 := Tryz.isAgg4
  z4 := Tryz.sizeOf4
  v4 := Tryz.zeroValue4
  t35 := Tryz.underlying102
  a35 := Tryz.isAgg102
  z35 := Tryz.sizeOf102
  v35 := Tryz.zeroValue102
  t38 := Tryz.underlying197
  a38 := Tryz.isAgg197
  z38 := Tryz.sizeOf197
  v38 := Tryz.zeroValue197 }
end Go.Proofs.YtkffbaihknhefaaGreat
