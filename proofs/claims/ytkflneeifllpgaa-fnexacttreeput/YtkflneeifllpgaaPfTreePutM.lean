/-
  Proved: called with any arguments, the law FnExactTreePut returns true, and each argument reads behind the call as it read before. No condition.
-/
import Derived.Test.YtkflneeifllpgaaMp4
import Derived.ProofKit
import Derived.OpenShut
import Derived.ShutString
import Derived.ChangeOld
import Derived.Below
namespace Go.Proofs.Ytkflneeifllpgaa
open Go.ChangeShapes Go.WideShapes Go.ChangeAt Go.RowKit
open Go.ChangeMaps (open_string shut_string)
set_option linter.unusedVariables false

theorem own_fnExactTreePut : ownKnob Try.prog.godebug = none := by kernel_rfl
theorem laidOut_fnExactTreePut : laidOutB Try.prog = true := by kernel_rfl

end Go.Proofs.Ytkflneeifllpgaa

