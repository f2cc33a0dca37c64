/-
  Nodes and trees held against each other.
-/
import Derived.Test.YtcclhieaiaalkaaNodeM
namespace Go.Proofs.Ytcclhieaiaalkaa
open Go.RowKit
end Go.Proofs.Ytcclhieaiaalkaa

