/-
  Nodes and trees held against each other.
-/
import Derived.Test.YtcclhieaiaalkaaDoorNodeM
namespace Go.Proofs.YtcclhieaiaalkaaDoor
open Go.RowKit
end Go.Proofs.YtcclhieaiaalkaaDoor

