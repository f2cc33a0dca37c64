/-
  Messages: what is told, what is asked, the stamp.
-/
import Derived.Test.YtbonkheoeohaiaaMgA
namespace Go.Proofs.Ytbonkheoeohaiaa
open Go.RowKit
set_option linter.unusedVariables false
set_option maxHeartbeats 3200000 in
theorem tellsNothing_any (kd c e n sh nu st k : Int) (ky vl lo hi : ByteArray) (mo : Int) (bk : Bool) (cd : Int) (pa : Option Addr) (pn pc : Nat) (ys : Bool) (w : World) : Calls Try.prog 47 #[.agg #[.int .i64 kd, .int .i64 c, .int .i64 e, .int .i64 n, .int .i64 sh, .int .i64 nu, .int .i64 st, .int .i64 k, .string ky, .string vl, .string lo, .string hi, .int .i64 mo, .bool bk, .int .i64 cd, .slice pa pn pc, .bool ys]] w fun r w' => r = .returned (.bool (noT st cd pn)) ∧ Below w.heap.size w w' := by
  have B0 := hid (below_new (o := .cells #[.int .i64 kd, .int .i64 c, .int .i64 e, .int .i64 n, .int .i64 sh, .int .i64 nu, .int .i64 st, .int .i64 k, .string ky, .string vl, .string lo, .string hi, .int .i64 mo, .bool bk, .int .i64 cd, .slice pa pn pc, .bool ys] 46) (w := w) (Below.refl _ _))
  have K0 := hid (Bk.new w 46 [.int .i64 kd, .int .i64 c, .int .i64 e, .int .i64 n, .int .i64 sh, .int .i64 nu, .int .i64 st, .int .i64 k, .string ky, .string vl, .string lo, .string hi, .int .i64 mo, .bool bk, .int .i64 cd, .slice pa pn pc, .bool ys])
  have HV : Hid (noT st cd pn = (decide (st = 0) && (decide (cd = 0) && decide (pn = 0)))) := rfl
  generalize noT st cd pn = z at *
  go_enter Try.func47, Try.ntmps47
  by_cases h1 : st = 0
  · subst h1
    by_cases h2 : cd = 0
    · subst h2
      by_cases h3 : pn = 0
      · subst h3
        go_wp2
        go_ret
        exact ⟨by rw [HV.out] <;> simp <;> first | assumption | (intros; omega), B0.out⟩
      · skip
        have h4 : ¬ (pn : Int) = 0 := by omega
        have h5 : ((pn : Int) == 0) = false := by simpa using h4
        go_wp2
        go_ret
        exact ⟨by rw [HV.out] <;> simp <;> first | assumption | (intros; omega), B0.out⟩
    · skip
      go_wp2
      go_ret
      exact ⟨by rw [HV.out] <;> simp <;> first | assumption | (intros; omega), B0.out⟩
  · skip
    go_wp2
    go_ret
    exact ⟨by rw [HV.out] <;> simp <;> first | assumption | (intros; omega), B0.out⟩
set_option maxHeartbeats 3200000 in
theorem asksNothing_any (kd c e n sh nu st k : Int) (ky vl lo hi : ByteArray) (mo : Int) (bk : Bool) (cd : Int) (pa : Option Addr) (pn pc : Nat) (ys : Bool) (w : World) : Calls Try.prog 49 #[.agg #[.int .i64 kd, .int .i64 c, .int .i64 e, .int .i64 n, .int .i64 sh, .int .i64 nu, .int .i64 st, .int .i64 k, .string ky, .string vl, .string lo, .string hi, .int .i64 mo, .bool bk, .int .i64 cd, .slice pa pn pc, .bool ys]] w fun r w' => r = .returned (.bool (akZ k ky vl lo hi mo bk)) ∧ Below w.heap.size w w' := by
  have B0 := hid (below_new (o := .cells #[.int .i64 kd, .int .i64 c, .int .i64 e, .int .i64 n, .int .i64 sh, .int .i64 nu, .int .i64 st, .int .i64 k, .string ky, .string vl, .string lo, .string hi, .int .i64 mo, .bool bk, .int .i64 cd, .slice pa pn pc, .bool ys] 46) (w := w) (Below.refl _ _))
  have K0 := hid (Bk.new w 46 [.int .i64 kd, .int .i64 c, .int .i64 e, .int .i64 n, .int .i64 sh, .int .i64 nu, .int .i64 st, .int .i64 k, .string ky, .string vl, .string lo, .string hi, .int .i64 mo, .bool bk, .int .i64 cd, .slice pa pn pc, .bool ys])
  have hq := eql_askZ k ky vl lo hi mo bk
  have hg := guard_ask .eql
  go_enter Try.func49, Try.ntmps49
  go_wp2
  go_ret
  exact ⟨rfl, B0.out⟩
end Go.Proofs.Ytbonkheoeohaiaa

