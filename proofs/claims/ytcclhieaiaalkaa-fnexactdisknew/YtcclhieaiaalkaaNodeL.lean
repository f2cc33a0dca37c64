/-
  What the law's helpers do with nodes and trees: copied, sizes summed, held against each other.
-/
import Derived.Test.YtcclhieaiaalkaaSiL
import Derived.Test.YtcclhieaiaalkaaUf
namespace Go.Proofs.Ytcclhieaiaalkaa
open Go.RowKit

end Go.Proofs.Ytcclhieaiaalkaa

