/-
  Nodes and trees held against each other.
-/
import Derived.Test.YtcpdedpgjaimkaaNodeM
namespace Go.Proofs.Ytcpdedpgjaimkaa
open Go.RowKit
end Go.Proofs.Ytcpdedpgjaimkaa

