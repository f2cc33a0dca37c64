/-
  What the law's helpers do with nodes and trees: copied, sizes summed, held against each other.
-/
import Derived.Test.YtcclhieaiaalkabSiL
import Derived.Test.YtcclhieaiaalkabUf
namespace Go.Proofs.Ytcclhieaiaalkab
open Go.RowKit

end Go.Proofs.Ytcclhieaiaalkab

