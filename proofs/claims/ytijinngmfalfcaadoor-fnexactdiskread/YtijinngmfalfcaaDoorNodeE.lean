/-
  Nodes and trees held against each other.
-/
import Derived.Test.YtijinngmfalfcaaDoorNodeM
namespace Go.Proofs.YtijinngmfalfcaaDoor
open Go.RowKit
end Go.Proofs.YtijinngmfalfcaaDoor

