/-
  Nodes and trees held against each other.
-/
import Derived.Test.YtbaggkfgnjenoabNodeM
namespace Go.Proofs.Ytbaggkfgnjenoab
open Go.RowKit
end Go.Proofs.Ytbaggkfgnjenoab

