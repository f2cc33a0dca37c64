/-
  What the law's helpers do with slices of strings and of numbers: copied, held against each other, sizes summed.
-/
import Derived.Test.YtnbafoennnhppaaNd
namespace Go.Proofs.Ytnbafoennnhppaa
open Go.RowKit

def szOkS (l : List ByteArray) : Prop := ∀ i, (sAt l i).size ≤ 9223372036854775807
end Go.Proofs.Ytnbafoennnhppaa

