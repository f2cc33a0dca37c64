/-
  What the law's helpers do with nodes and trees: copied, sizes summed, held against each other.
-/
import Derived.Test.YtnbafoennnhppaaSiL
import Derived.Test.YtnbafoennnhppaaUf
namespace Go.Proofs.Ytnbafoennnhppaa
open Go.RowKit

end Go.Proofs.Ytnbafoennnhppaa

