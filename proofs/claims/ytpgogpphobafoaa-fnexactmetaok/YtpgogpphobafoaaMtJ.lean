/-
  MetaRead of the program.
-/
import Derived.Test.YtpgogpphobafoaaMtI
namespace Go.Proofs.Ytpgogpphobafoaa
open Go.RowKit
end Go.Proofs.Ytpgogpphobafoaa

