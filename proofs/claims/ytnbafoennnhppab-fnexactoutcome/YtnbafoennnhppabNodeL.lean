/-
  What the law's helpers do with nodes and trees: copied, sizes summed, held against each other.
-/
import Derived.Test.YtnbafoennnhppabSiL
import Derived.Test.YtnbafoennnhppabUf
namespace Go.Proofs.Ytnbafoennnhppab
open Go.RowKit

end Go.Proofs.Ytnbafoennnhppab

