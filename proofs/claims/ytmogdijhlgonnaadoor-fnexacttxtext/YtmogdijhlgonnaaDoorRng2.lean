/-
  Keys and ranges, the specification's side, and the law's helpers over ranges.
-/
import Derived.Test.YtmogdijhlgonnaaDoorRng
namespace Go.Proofs.YtmogdijhlgonnaaDoor
open Go.RowKit

end Go.Proofs.YtmogdijhlgonnaaDoor

