/-
  MsgOk of the specification.
-/
import Derived.Test.YtbonkheoeohaiaaMgS0
import Derived.Test.YtbonkheoeohaiaaMgS1
import Derived.Test.YtbonkheoeohaiaaMgS2
import Derived.Test.YtbonkheoeohaiaaMgS3
import Derived.Test.YtbonkheoeohaiaaMgS4
import Derived.Test.YtbonkheoeohaiaaMgS5
import Derived.Test.YtbonkheoeohaiaaMgS6
import Derived.Test.YtbonkheoeohaiaaMgS7
namespace Go.Proofs.Ytbonkheoeohaiaa
open Go.RowKit
set_option linter.unusedVariables false
theorem specMsgOk_any (S : Nat → Prop) (ps : List PB) (kd c e n sh nu st k : Int) (ky vl lo hi : ByteArray) (mo : Int) (bk : Bool) (cd : Int) (pa : Option Addr) (pn pc : Nat) (ys : Bool) (w : World) (h : Pr w S (.slice pa pn pc) ps) : Calls Try.prog 14 #[.agg #[.int .i64 kd, .int .i64 c, .int .i64 e, .int .i64 n, .int .i64 sh, .int .i64 nu, .int .i64 st, .int .i64 k, .string ky, .string vl, .string lo, .string hi, .int .i64 mo, .bool bk, .int .i64 cd, .slice pa pn pc, .bool ys]] w fun r w' => r = .returned (.bool (mgOk kd c e n sh nu st (akOk k ky vl lo hi mo bk) (akZ k ky vl lo hi mo bk) cd ps ys)) ∧ Below w.heap.size w w' := by
  by_cases hk : 1 ≤ kd ∧ kd ≤ 7
  · have h7 : kd = 1 ∨ kd = 2 ∨ kd = 3 ∨ kd = 4 ∨ kd = 5 ∨ kd = 6 ∨ kd = 7 := by omega
    rcases h7 with rfl | rfl | rfl | rfl | rfl | rfl | rfl
    · exact specMsgOk_1 S ps c e n sh nu st k ky vl lo hi mo bk cd pa pn pc ys w h
    · exact specMsgOk_2 S ps c e n sh nu st k ky vl lo hi mo bk cd pa pn pc ys w h
    · exact specMsgOk_3 S ps c e n sh nu st k ky vl lo hi mo bk cd pa pn pc ys w h
    · exact specMsgOk_4 S ps c e n sh nu st k ky vl lo hi mo bk cd pa pn pc ys w h
    · exact specMsgOk_5 S ps c e n sh nu st k ky vl lo hi mo bk cd pa pn pc ys w h
    · exact specMsgOk_6 S ps c e n sh nu st k ky vl lo hi mo bk cd pa pn pc ys w h
    · exact specMsgOk_7 S ps c e n sh nu st k ky vl lo hi mo bk cd pa pn pc ys w h
  · exact specMsgOk_0 S ps kd c e n sh nu st k ky vl lo hi mo bk cd pa pn pc ys w h hk
end Go.Proofs.Ytbonkheoeohaiaa

