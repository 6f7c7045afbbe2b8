/- scalar: Reduce, Right, MulAdd: what the package tells. -/
import Derived.Test.YtmnlidfalhjghaaGreatDoorScReduce
import Derived.Test.YtmnlidfalhjghaaGreatDoorScRight
import Derived.Test.YtmnlidfalhjghaaGreatDoorScMulAdd
namespace Go.Proofs.YtmnlidfalhjghaaGreatDoor
open Go.RowKit Ow

end Go.Proofs.YtmnlidfalhjghaaGreatDoor
