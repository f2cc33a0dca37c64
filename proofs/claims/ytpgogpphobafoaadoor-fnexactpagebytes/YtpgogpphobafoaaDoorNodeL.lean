/-
  What the law's helpers do with nodes and trees: copied, sizes summed, held against each other.
-/
import Derived.Test.YtpgogpphobafoaaDoorSiL
import Derived.Test.YtpgogpphobafoaaDoorUf
namespace Go.Proofs.YtpgogpphobafoaaDoor
open Go.RowKit

end Go.Proofs.YtpgogpphobafoaaDoor

