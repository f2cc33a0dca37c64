/-
  Messages: small functions of the specification.
-/
import Derived.Test.YtbonkheoeohaiaaMgA
namespace Go.Proofs.Ytbonkheoeohaiaa
open Go.RowKit
set_option linter.unusedVariables false
theorem specNuOk_any (nu : Int) (w : World) : Calls Try.prog 29 #[.int .i64 nu] w fun e w' => e = .returned (.bool (nuOk nu)) ∧ w = w' := by
  by_cases h : 1 ≤ nu
  · have HE : Hid (nuOk nu = decide (nu ≤ 16)) := by show nuOk nu = _; simp [nuOk, h]
    go_enter Try.func29, Try.ntmps29
    go_wp2
    go_ret
    exact ⟨by rw [HE.out]; rfl, rfl⟩
  · have HE : Hid (nuOk nu = false) := by show nuOk nu = false; simp [nuOk, h]
    go_enter Try.func29, Try.ntmps29
    go_wp2
    go_ret
    exact ⟨by rw [HE.out]; rfl, rfl⟩
theorem specNumM_any (m : Int) (w : World) : Calls Try.prog 30 #[.int .i64 m] w fun e w' => e = .returned (.bool (decide (0 ≤ m) && decide (m ≤ 1099511627775))) ∧ w = w' := by
  by_cases h : 0 ≤ m
  · have HE : Hid ((decide (0 ≤ m) && decide (m ≤ 1099511627775)) = decide (m ≤ 1099511627775)) := by show _ = _; simp [h]
    go_enter Try.func30, Try.ntmps30
    go_wp2
    go_ret
    exact ⟨by rw [HE.out]; rfl, rfl⟩
  · have HE : Hid ((decide (0 ≤ m) && decide (m ≤ 1099511627775)) = false) := by show _ = false; simp [h]
    go_enter Try.func30, Try.ntmps30
    go_wp2
    go_ret
    exact ⟨by rw [HE.out]; rfl, rfl⟩
theorem prsOk_nil : prsOk [] = true := rfl
theorem stC_0 (st : Int) : stC 0 st = (decide (1 ≤ st) && decide (st ≤ 1099511627775)) := rfl
theorem stC_no {cd : Int} (h : ¬ cd = 0) (st : Int) : stC cd st = decide (st = 0) := by unfold stC; rw [if_neg h]
end Go.Proofs.Ytbonkheoeohaiaa

