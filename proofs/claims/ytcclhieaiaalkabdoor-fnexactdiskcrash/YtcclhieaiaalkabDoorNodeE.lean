/-
  Nodes and trees held against each other.
-/
import Derived.Test.YtcclhieaiaalkabDoorNodeM
namespace Go.Proofs.YtcclhieaiaalkabDoor
open Go.RowKit
end Go.Proofs.YtcclhieaiaalkabDoor

