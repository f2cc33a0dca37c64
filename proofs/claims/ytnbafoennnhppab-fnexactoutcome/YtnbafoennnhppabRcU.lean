/-
  Clients' keys and values: UserOk and UvalOk of the program and of the specification, and the laws over them.
-/
import Derived.Test.YtnbafoennnhppabBase
namespace Go.Proofs.Ytnbafoennnhppab
open Go.RowKit
set_option linter.unusedVariables false
def uOk (k : ByteArray) : Bool := decide (1 ≤ k.size) && decide (k.size ≤ 8)
def uvOk (v : ByteArray) : Bool := decide (v.size ≤ 20)
end Go.Proofs.Ytnbafoennnhppab

