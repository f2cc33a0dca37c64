/-
  The laws FnExactKeyOk and FnExactValOk answer true at every string.
-/
import Derived.Test.YtpeaajencheamaaRng2
namespace Go.Proofs.Ytpeaajencheamaa
open Go.RowKit
theorem lawKeyOk_walk (k : ByteArray) (w : World) (_ : k.size ≤ maxLen) : Calls Try.prog 5 #[.string k] w fun e w' => e = .returned (.bool true) ∧ Below w.heap.size w w' := by
  by_cases hbig : 1048576 < k.size
  · have hb : (1048576 : Int) < (k.size : Int) := by omega
    go_enter Try.func5, Try.ntmps5
    go_wp2
    go_ret
    exact ⟨rfl, Below.refl _ _⟩
  · have hb : ¬ (1048576 : Int) < (k.size : Int) := by omega
    go_enter Try.func5, Try.ntmps5
    go_wp2_with fail
    refine (specKeyOk_any k _).mono ?_
    rintro e w1 ⟨rfl, rfl⟩
    go_wp2_with fail
    refine (implKeyOk_any k _).mono ?_
    rintro e w1 ⟨rfl, rfl⟩
    cases kOk k
    · go_wp2
      go_ret
      exact ⟨rfl, Below.refl _ _⟩
    · go_wp2
      go_ret
      exact ⟨rfl, Below.refl _ _⟩
theorem lawValOk_walk (k : ByteArray) (w : World) (_ : k.size ≤ maxLen) : Calls Try.prog 6 #[.string k] w fun e w' => e = .returned (.bool true) ∧ Below w.heap.size w w' := by
  by_cases hbig : 1048576 < k.size
  · have hb : (1048576 : Int) < (k.size : Int) := by omega
    go_enter Try.func6, Try.ntmps6
    go_wp2
    go_ret
    exact ⟨rfl, Below.refl _ _⟩
  · have hb : ¬ (1048576 : Int) < (k.size : Int) := by omega
    go_enter Try.func6, Try.ntmps6
    go_wp2_with fail
    refine (specValOk_any k _).mono ?_
    rintro e w1 ⟨rfl, rfl⟩
    go_wp2_with fail
    refine (implValOk_any k _).mono ?_
    rintro e w1 ⟨rfl, rfl⟩
    cases vOk k
    · go_wp2
      go_ret
      exact ⟨rfl, Below.refl _ _⟩
    · go_wp2
      go_ret
      exact ⟨rfl, Below.refl _ _⟩
end Go.Proofs.Ytpeaajencheamaa
