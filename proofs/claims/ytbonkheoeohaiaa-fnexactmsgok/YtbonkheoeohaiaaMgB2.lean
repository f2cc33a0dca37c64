/-
  Messages: the stamp.
-/
import Derived.Test.YtbonkheoeohaiaaMgA
namespace Go.Proofs.Ytbonkheoeohaiaa
open Go.RowKit
set_option linter.unusedVariables false
set_option maxHeartbeats 3200000 in
theorem stampOk_any (kd c e n sh nu st k : Int) (ky vl lo hi : ByteArray) (mo : Int) (bk : Bool) (cd : Int) (pa : Option Addr) (pn pc : Nat) (ys : Bool) (w : World) : Calls Try.prog 52 #[.agg #[.int .i64 kd, .int .i64 c, .int .i64 e, .int .i64 n, .int .i64 sh, .int .i64 nu, .int .i64 st, .int .i64 k, .string ky, .string vl, .string lo, .string hi, .int .i64 mo, .bool bk, .int .i64 cd, .slice pa pn pc, .bool ys]] w fun r w' => r = .returned (.bool (stC cd st)) ∧ Below w.heap.size w w' := by
  have B0 := hid (below_new (o := .cells #[.int .i64 kd, .int .i64 c, .int .i64 e, .int .i64 n, .int .i64 sh, .int .i64 nu, .int .i64 st, .int .i64 k, .string ky, .string vl, .string lo, .string hi, .int .i64 mo, .bool bk, .int .i64 cd, .slice pa pn pc, .bool ys] 46) (w := w) (Below.refl _ _))
  have K0 := hid (Bk.new w 46 [.int .i64 kd, .int .i64 c, .int .i64 e, .int .i64 n, .int .i64 sh, .int .i64 nu, .int .i64 st, .int .i64 k, .string ky, .string vl, .string lo, .string hi, .int .i64 mo, .bool bk, .int .i64 cd, .slice pa pn pc, .bool ys])
  by_cases h1 : cd = 0
  · subst h1
    have HV : Hid (stC 0 st = (decide (0 < st) && decide (st ≤ 1099511627775))) := rfl
    by_cases h2 : 0 < st
    · have h3 : 0 ≤ st := by omega
      have C1 : Hid (∀ w, Calls Try.prog 56 #[.int .i64 st] w fun e w' => e = .returned (.bool (decide (st ≤ 1099511627775))) ∧ w = w') := fun w => by
        have := isNumberM_any st w
        rwa [decide_eq_true h3, Bool.true_and] at this
      have HW : Hid (stC 0 st = decide (st ≤ 1099511627775)) := by show _ = _; rw [HV.out, decide_eq_true h2, Bool.true_and]
      go_enter Try.func52, Try.ntmps52
      go_wp2_with fail
      refine (C1.out _).mono ?_
      rintro r w' ⟨rfl, rfl⟩
      go_wp2
      go_ret
      exact ⟨by rw [HW.out]; rfl, B0.out⟩
    · have HW : Hid (stC 0 st = false) := by show _ = false; rw [HV.out, decide_eq_false h2]; rfl
      go_enter Try.func52, Try.ntmps52
      go_wp2
      go_ret
      exact ⟨by rw [HW.out]; rfl, B0.out⟩
  · have HV : Hid (stC cd st = decide (st = 0)) := by show _ = _; unfold stC; rw [if_neg h1]
    by_cases h2 : st = 0
    · subst h2
      go_enter Try.func52, Try.ntmps52
      go_wp2
      go_ret
      exact ⟨by rw [HV.out]; simp, B0.out⟩
    · go_enter Try.func52, Try.ntmps52
      go_wp2
      go_ret
      exact ⟨by rw [HV.out]; simp [h2], B0.out⟩
end Go.Proofs.Ytbonkheoeohaiaa

