/-
  Nodes and trees held against each other.
-/
import Derived.Test.YtcclhieaiaalkabNodeM
namespace Go.Proofs.Ytcclhieaiaalkab
open Go.RowKit
end Go.Proofs.Ytcclhieaiaalkab

