/-
  What the model's PutVar answers, for every slice of bytes and every number.
-/
import Derived.Test.YtijinngmfalfcaaDoorApp
import Derived.Test.YtijinngmfalfcaaDoorPlain
namespace Go.Proofs.YtijinngmfalfcaaDoor
open Go.RowKit


/-- What a put leaves: nil and false, or a row of the call's own and true. -/
def Put (w : World) (r : Option (List Int)) (e : Ending) (w' : World) : Prop :=
  Below w.heap.size w w' ∧ ((r = none ∧ e = .returned (.tuple #[.slice none 0 0, .bool false])) ∨ ∃ v zs, r = some zs ∧ e = .returned (.tuple #[v, .bool true]) ∧ Ob w' w.heap.size v zs)

end Go.Proofs.YtijinngmfalfcaaDoor

