/-
  Nodes and trees held against each other.
-/
import Derived.Test.YtijinngmfalfcabDoorNodeM
namespace Go.Proofs.YtijinngmfalfcabDoor
open Go.RowKit
end Go.Proofs.YtijinngmfalfcabDoor

