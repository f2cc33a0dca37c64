/-
  Nodes and trees held against each other.
-/
import Derived.Test.YtkfeefaokghibabNodeM
namespace Go.Proofs.Ytkfeefaokghibab
open Go.RowKit
end Go.Proofs.Ytkfeefaokghibab

