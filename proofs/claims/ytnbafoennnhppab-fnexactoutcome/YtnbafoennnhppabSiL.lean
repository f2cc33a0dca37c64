/-
  What the law's helpers do with slices of strings and of numbers: copied, held against each other, sizes summed.
-/
import Derived.Test.YtnbafoennnhppabNd
namespace Go.Proofs.Ytnbafoennnhppab
open Go.RowKit

def szOkS (l : List ByteArray) : Prop := ∀ i, (sAt l i).size ≤ 9223372036854775807
end Go.Proofs.Ytnbafoennnhppab

