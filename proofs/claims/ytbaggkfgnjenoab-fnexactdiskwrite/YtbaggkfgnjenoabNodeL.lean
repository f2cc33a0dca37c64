/-
  What the law's helpers do with nodes and trees: copied, sizes summed, held against each other.
-/
import Derived.Test.YtbaggkfgnjenoabSiL
import Derived.Test.YtbaggkfgnjenoabUf
namespace Go.Proofs.Ytbaggkfgnjenoab
open Go.RowKit

end Go.Proofs.Ytbaggkfgnjenoab

