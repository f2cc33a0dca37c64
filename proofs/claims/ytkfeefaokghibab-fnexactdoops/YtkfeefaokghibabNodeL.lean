/-
  What the law's helpers do with nodes and trees: copied, sizes summed, held against each other.
-/
import Derived.Test.YtkfeefaokghibabSiL
import Derived.Test.YtkfeefaokghibabUf
namespace Go.Proofs.Ytkfeefaokghibab
open Go.RowKit

end Go.Proofs.Ytkfeefaokghibab

