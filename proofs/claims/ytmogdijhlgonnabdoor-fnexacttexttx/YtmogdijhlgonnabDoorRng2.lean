/-
  Keys and ranges, the specification's side, and the law's helpers over ranges.
-/
import Derived.Test.YtmogdijhlgonnabDoorRng
namespace Go.Proofs.YtmogdijhlgonnabDoor
open Go.RowKit

end Go.Proofs.YtmogdijhlgonnabDoor

