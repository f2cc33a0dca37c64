/-
  What the law's helpers do with nodes and trees: copied, sizes summed, held against each other.
-/
import Derived.Test.YtcclhieaiaalkabDoorSiL
import Derived.Test.YtcclhieaiaalkabDoorUf
namespace Go.Proofs.YtcclhieaiaalkabDoor
open Go.RowKit

end Go.Proofs.YtcclhieaiaalkabDoor

