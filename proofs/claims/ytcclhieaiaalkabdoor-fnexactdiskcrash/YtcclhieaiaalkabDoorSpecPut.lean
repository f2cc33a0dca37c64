/-
  What the model's PutVar answers, for every slice of bytes and every number.
-/
import Derived.Test.YtcclhieaiaalkabDoorApp
import Derived.Test.YtcclhieaiaalkabDoorPlain
namespace Go.Proofs.YtcclhieaiaalkabDoor
open Go.RowKit

set_option maxHeartbeats 400000 in
theorem specNum_any (n : Int) (w : World) (b : Bool) (hb : b = decide (0 ≤ n ∧ n ≤ 1099511627775)) :
    Calls Tryd.prog 75 #[.int .i64 n] w fun e w' => e = .returned (.bool b) ∧ w = w' := by
  have HB : Hid (b = decide (0 ≤ n ∧ n ≤ 1099511627775)) := hb
  clear hb
  by_cases h0 : 0 ≤ n
  · by_cases h1 : n ≤ 1099511627775
    · go_enter Tryd.func75, Tryd.ntmps75
      go_wp2
      go_ret
      exact ⟨by rw [HB.out]; simp [h0, h1], rfl⟩
    · go_enter Tryd.func75, Tryd.ntmps75
      go_wp2
      go_ret
      exact ⟨by rw [HB.out]; simp [h1], rfl⟩
  · go_enter Tryd.func75, Tryd.ntmps75
    go_wp2
    go_ret
    exact ⟨by rw [HB.out, decide_eq_false (by omega)]; rfl, rfl⟩

/-- What a put leaves: nil and false, or a row of the call's own and true. -/
def Put (w : World) (r : Option (List Int)) (e : Ending) (w' : World) : Prop :=
  Below w.heap.size w w' ∧ ((r = none ∧ e = .returned (.tuple #[.slice none 0 0, .bool false])) ∨ ∃ v zs, r = some zs ∧ e = .returned (.tuple #[v, .bool true]) ∧ Ob w' w.heap.size v zs)

end Go.Proofs.YtcclhieaiaalkabDoor

