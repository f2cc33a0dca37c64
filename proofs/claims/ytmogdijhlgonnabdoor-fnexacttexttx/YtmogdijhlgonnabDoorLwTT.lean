/-
  The law FnExactTextTx answers true at every text.
-/
import Derived.Test.YtmogdijhlgonnabDoorTtI
import Derived.Test.YtmogdijhlgonnabDoorTtU
namespace Go.Proofs.YtmogdijhlgonnabDoor
open Go.RowKit
set_option linter.unusedVariables false
theorem eqTx_sameT (c e n : Int) (w : World) : Calls Tryd.prog 6 #[.agg #[.int .i64 c, .int .i64 e, .int .i64 n], .agg #[.int .i64 c, .int .i64 e, .int .i64 n]] w fun r w' => r = .returned (.bool true) ∧ Below w.heap.size w w' := by
  have t0 : (c != c) = false := by simp
  have t1 : (e != e) = false := by simp
  have t2 : (n != n) = false := by simp
  go_enter Tryd.func6, Tryd.ntmps6
  go_wp2
  go_ret
  exact ⟨rfl, below_new (below_new (Below.refl _ _))⟩
set_option maxHeartbeats 1600000 in
theorem lawTextTx_walk (s : ByteArray) (w : World) (hm : s.size ≤ maxLen) (h : GD w) : Calls Tryd.prog 3 #[.string s] w fun r w' => r = .returned (.bool true) ∧ Below w.heap.size w w' := by
  by_cases hbig : 1048576 < s.size
  · have hb' : (1048576 : Int) < (s.size : Int) := by omega
    clear h
    go_enter Tryd.func3, Tryd.ntmps3
    go_wp2
    go_ret
    exact ⟨rfl, Below.refl _ _⟩
  · have hb' : ¬ (1048576 : Int) < (s.size : Int) := by omega
    have HG := hid h
    have HS := hid (fun w => specTextTx_any s w (by omega))
    have HI := hid (fun w h => implTextTx_any s w (by omega) h)
    clear h
    generalize (ttA s).1 = c at HS HI
    generalize (ttA s).2.1 = e at HS HI
    generalize (ttA s).2.2 = n at HS HI
    generalize (ttV s).isSome = b at HS HI
    have HQ := hid (fun w => eqTx_sameT c e n w)
    have hbb : (b != b) = false := by simp
    go_enter Tryd.func3, Tryd.ntmps3
    go_wp2_with fail
    refine (HS.out _).mono ?_
    rintro r w1 ⟨rfl, hb1⟩
    have hn := below_new (o := .cells #[.int .i64 c, .int .i64 e, .int .i64 n] 23) (w := w1) (Below.refl _ _)
    have HB1 := hid (hb1.trans (hn.mono hb1.size))
    have K1 := hid (Bk.new w1 23 [.int .i64 c, .int .i64 e, .int .i64 n])
    have HG1 := hid ((HG.out.below hb1).below hn)
    clear hb1 hn
    go_wp2_with fail
    refine (HI.out _ ?_).mono ?_
    · exact HG1.out
    generalize w1.alloc (.cells #[.int .i64 c, .int .i64 e, .int .i64 n] 23) = U at *
    generalize w1.heap.size = g1 at *
    rintro r w2 ⟨rfl, hb2⟩
    have hn := below_new (o := .cells #[.int .i64 c, .int .i64 e, .int .i64 n] 23) (w := w2) (Below.refl _ _)
    have HB2a := hid (HB1.out.trans (hb2.mono HB1.out.size))
    have HB2 := hid (HB2a.out.trans (hn.mono HB2a.out.size))
    have K2 := hid ((K1.out.below hb2).alloc (.cells #[.int .i64 c, .int .i64 e, .int .i64 n] 23))
    have J2 := hid (Bk.new w2 23 [.int .i64 c, .int .i64 e, .int .i64 n])
    clear hb2 hn HB2a K1 HB1
    have x0 := K2.out.cell (j := 0) rfl
    have x1 := K2.out.cell (j := 1) rfl
    have x2 := K2.out.cell (j := 2) rfl
    have y0 := J2.out.cell (j := 0) rfl
    have y1 := J2.out.cell (j := 1) rfl
    have y2 := J2.out.cell (j := 2) rfl
    go_wp2_with fail
    refine (HQ.out _).mono ?_
    rintro r w3 ⟨rfl, hb3⟩
    have HB3 := hid (HB2.out.trans (hb3.mono HB2.out.size))
    clear hb3
    go_wp2
    go_ret
    exact ⟨rfl, HB3.out⟩
end Go.Proofs.YtmogdijhlgonnabDoor

