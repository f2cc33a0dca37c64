/-
  What the law's helpers do with nodes and trees: copied, sizes summed, held against each other.
-/
import Derived.Test.YtijinngmfalfcaaDoorSiL
import Derived.Test.YtijinngmfalfcaaDoorUf
namespace Go.Proofs.YtijinngmfalfcaaDoor
open Go.RowKit

end Go.Proofs.YtijinngmfalfcaaDoor

