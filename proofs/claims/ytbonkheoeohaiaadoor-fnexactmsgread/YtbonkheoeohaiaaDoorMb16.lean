/-
  Messages: partsOk at no kind.
-/
import Derived.Test.YtbonkheoeohaiaaDoorMb4
import Derived.Test.YtbonkheoeohaiaaDoorMb6
namespace Go.Proofs.YtbonkheoeohaiaaDoor
open Go.RowKit
set_option linter.unusedVariables false
set_option maxHeartbeats 4000000 in
theorem partsOk_0 (S : Nat → Prop) (ps : List PB) (kd c e n sh nu st k : Int) (ky vl lo hi : ByteArray) (mo : Int) (bk : Bool) (cd : Int) (pa : Option Addr) (pn pc : Nat) (ys : Bool) (w : World) (h : Pr w S (.slice pa pn pc) ps) (hk : ¬ (1 ≤ kd ∧ kd ≤ 7)) : Calls Tryd.prog 62 #[.agg #[.int .i64 kd, .int .i64 c, .int .i64 e, .int .i64 n, .int .i64 sh, .int .i64 nu, .int .i64 st, .int .i64 k, .string ky, .string vl, .string lo, .string hi, .int .i64 mo, .bool bk, .int .i64 cd, .slice pa pn pc, .bool ys]] w fun r w' => r = .returned (.bool (prtOk kd nu st (akOk k ky vl lo hi mo bk) (akZ k ky vl lo hi mo bk) cd ps ys)) ∧ Below w.heap.size w w' := by
  have B0 := hid (below_new (o := .cells #[.int .i64 kd, .int .i64 c, .int .i64 e, .int .i64 n, .int .i64 sh, .int .i64 nu, .int .i64 st, .int .i64 k, .string ky, .string vl, .string lo, .string hi, .int .i64 mo, .bool bk, .int .i64 cd, .slice pa pn pc, .bool ys] 31) (w := w) (Below.refl _ _))
  have K0 := hid (Bk.new w 31 [.int .i64 kd, .int .i64 c, .int .i64 e, .int .i64 n, .int .i64 sh, .int .i64 nu, .int .i64 st, .int .i64 k, .string ky, .string vl, .string lo, .string hi, .int .i64 mo, .bool bk, .int .i64 cd, .slice pa pn pc, .bool ys])
  have HN := hid (Rw.len h).1
  have C1 := hid (fun w => askNumOk_any nu w)
  have C2 := hid (fun w => implAskOk_any k ky vl lo hi mo bk w)
  have C3 := hid (fun w => tellsNothing_any kd c e n sh nu st k ky vl lo hi mo bk cd pa pn pc ys w)
  have C4 := hid (fun w => asksNothing_any kd c e n sh nu st k ky vl lo hi mo bk cd pa pn pc ys w)
  have C5 : Hid (∀ v, Below w.heap.size w v → Calls Tryd.prog 90 #[.agg #[.int .i64 kd, .int .i64 c, .int .i64 e, .int .i64 n, .int .i64 sh, .int .i64 nu, .int .i64 st, .int .i64 k, .string ky, .string vl, .string lo, .string hi, .int .i64 mo, .bool bk, .int .i64 cd, .slice pa pn pc, .bool ys]] v fun r w' => r = .returned (.bool (tel st cd ps)) ∧ Below v.heap.size v w') := fun v hb => tellOk_any S ps kd c e n sh nu st k ky vl lo hi mo bk cd pa pn pc ys v (h.below hb)
  clear h
  generalize akOk k ky vl lo hi mo bk = ak at *
  generalize akZ k ky vl lo hi mo bk = az at *
  have HV := hid (prtOk_no hk nu st ak az cd ps ys)
  generalize prtOk kd nu st ak az cd ps ys = z0 at *
  clear C1 C2 C3 C4 C5
  have q1 : ¬ kd = 1 := by omega
  have q2 : ¬ kd = 2 := by omega
  have q3 : ¬ kd = 3 := by omega
  have q4 : ¬ kd = 4 := by omega
  have q5 : ¬ kd = 5 := by omega
  have q6 : ¬ kd = 6 := by omega
  have q7 : ¬ kd = 7 := by omega
  clear hk
  go_enter Tryd.func62, Tryd.ntmps62
  go_wp2
  go_ret
  exact ⟨by rw [HV.out] <;> simp <;> first | assumption | (intros; omega), B0.out⟩
end Go.Proofs.YtbonkheoeohaiaaDoor
