/-
  The range that two ranges have in common, with and without an end.
-/
import Derived.Test.YtbaggkfgnjenoaaRngBn
import Derived.Test.YtbaggkfgnjenoaaRngBk
import Derived.Test.YtbaggkfgnjenoaaRngS
namespace Go.Proofs.Ytbaggkfgnjenoaa
open Go.RowKit
theorem implRangeBoth_any (la ha lb hb : ByteArray) (w : World) : Calls Try.prog 156 #[rng la ha, rng lb hb] w fun e w' => e = .returned (.tuple #[rng (bLo la ha lb hb) (bHi la ha lb hb), .bool (bth la ha lb hb)]) ∧ Below w.heap.size w w' := by
  by_cases h : (lsr ha hb).toList = []
  · exact implRangeBoth_no la ha lb hb w h
  · exact implRangeBoth_key la ha lb hb w h
theorem implRangeBoth_x (la ha lb hb : ByteArray) (w : World) : Calls Try.prog 156 #[rng la ha, rng lb hb] w fun e w' => e = .returned (.tuple #[.agg #[.string (bLo la ha lb hb), .string (bHi la ha lb hb)], .bool (bth la ha lb hb)]) ∧ Below w.heap.size w w' := implRangeBoth_any la ha lb hb w
theorem specRangeBoth_x (la ha lb hb : ByteArray) (w : World) : Calls Try.prog 119 #[rng la ha, rng lb hb] w fun e w' => e = .returned (.tuple #[.agg #[.string (bLo la ha lb hb), .string (bHi la ha lb hb)], .bool (bth la ha lb hb)]) ∧ Below w.heap.size w w' := specRangeBoth_any la ha lb hb w
end Go.Proofs.Ytbaggkfgnjenoaa

