/-
  What the law's helpers do with nodes and trees: copied, sizes summed, held against each other.
-/
import Derived.Test.YtpgogpphobafoaaSiL
import Derived.Test.YtpgogpphobafoaaUf
namespace Go.Proofs.Ytpgogpphobafoaa
open Go.RowKit

end Go.Proofs.Ytpgogpphobafoaa

