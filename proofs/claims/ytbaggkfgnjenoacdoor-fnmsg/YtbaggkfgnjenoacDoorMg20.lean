/-
  Messages: partsOk at the kind 3.
-/
import Derived.Test.YtbaggkfgnjenoacDoorMg5
import Derived.Test.YtbaggkfgnjenoacDoorMg7
namespace Go.Proofs.YtbaggkfgnjenoacDoor
open Go.RowKit
set_option linter.unusedVariables false
set_option maxHeartbeats 4000000 in
theorem partsOk_3 (S : Nat → Prop) (ps : List PB) (c e n sh nu st k : Int) (ky vl lo hi : ByteArray) (mo : Int) (bk : Bool) (cd : Int) (pa : Option Addr) (pn pc : Nat) (ys : Bool) (w : World) (h : Pr w S (.slice pa pn pc) ps) : Calls Tryd.prog 37 #[.agg #[.int .i64 3, .int .i64 c, .int .i64 e, .int .i64 n, .int .i64 sh, .int .i64 nu, .int .i64 st, .int .i64 k, .string ky, .string vl, .string lo, .string hi, .int .i64 mo, .bool bk, .int .i64 cd, .slice pa pn pc, .bool ys]] w fun r w' => r = .returned (.bool (prtOk 3 nu st (akOk k ky vl lo hi mo bk) (akZ k ky vl lo hi mo bk) cd ps ys)) ∧ Below w.heap.size w w' := by
  have B0 := hid (below_new (o := .cells #[.int .i64 3, .int .i64 c, .int .i64 e, .int .i64 n, .int .i64 sh, .int .i64 nu, .int .i64 st, .int .i64 k, .string ky, .string vl, .string lo, .string hi, .int .i64 mo, .bool bk, .int .i64 cd, .slice pa pn pc, .bool ys] 31) (w := w) (Below.refl _ _))
  have K0 := hid (Bk.new w 31 [.int .i64 3, .int .i64 c, .int .i64 e, .int .i64 n, .int .i64 sh, .int .i64 nu, .int .i64 st, .int .i64 k, .string ky, .string vl, .string lo, .string hi, .int .i64 mo, .bool bk, .int .i64 cd, .slice pa pn pc, .bool ys])
  have HN := hid (Rw.len h).1
  have C1 := hid (fun w => askNumOk_any nu w)
  have C2 := hid (fun w => implAskOk_any k ky vl lo hi mo bk w)
  have C3 := hid (fun w => tellsNothing_any 3 c e n sh nu st k ky vl lo hi mo bk cd pa pn pc ys w)
  have C4 := hid (fun w => asksNothing_any 3 c e n sh nu st k ky vl lo hi mo bk cd pa pn pc ys w)
  have C5 : Hid (∀ v, Below w.heap.size w v → Calls Tryd.prog 58 #[.agg #[.int .i64 3, .int .i64 c, .int .i64 e, .int .i64 n, .int .i64 sh, .int .i64 nu, .int .i64 st, .int .i64 k, .string ky, .string vl, .string lo, .string hi, .int .i64 mo, .bool bk, .int .i64 cd, .slice pa pn pc, .bool ys]] v fun r w' => r = .returned (.bool (tel st cd ps)) ∧ Below v.heap.size v w') := fun v hb => tellOk_any S ps 3 c e n sh nu st k ky vl lo hi mo bk cd pa pn pc ys v (h.below hb)
  clear h
  generalize akOk k ky vl lo hi mo bk = ak at *
  generalize akZ k ky vl lo hi mo bk = az at *
  have HV := hid (prtOk_3 nu st ak az cd ps ys)
  rw [← HN.out] at HV
  generalize prtOk 3 nu st ak az cd ps ys = z0 at *
  generalize nuOk nu = z1 at *
  generalize tel st cd ps = z2 at *
  go_enter Tryd.func37, Tryd.ntmps37
  by_cases h1 : cd = 0
  · subst h1
    by_cases h2 : pn = 0
    · subst h2
      go_wp2_with fail
      refine (C1.out _).mono ?_
      rintro r w' ⟨rfl, rfl⟩
      cases z1 with
      | false =>
        go_wp2
        go_ret
        exact ⟨by rw [HV.out] <;> simp <;> first | assumption | (intros; omega), B0.out⟩
      | true =>
        go_wp2_with fail
        refine (C5.out _ B0.out).mono ?_
        generalize w.alloc (.cells #[.int .i64 3, .int .i64 c, .int .i64 e, .int .i64 n, .int .i64 sh, .int .i64 nu, .int .i64 st, .int .i64 k, .string ky, .string vl, .string lo, .string hi, .int .i64 mo, .bool bk, .int .i64 0, .slice pa 0 pc, .bool ys] 31) = U at *
        rintro r w1 ⟨rfl, hb⟩
        have K1 := hid (K0.out.below hb)
        have B1 := hid (btR B0.out hb)
        clear hb B0 K0 
        have x0 := K1.out.cell (j := 0) rfl
        have x1 := K1.out.cell (j := 1) rfl
        have x2 := K1.out.cell (j := 2) rfl
        have x3 := K1.out.cell (j := 3) rfl
        have x4 := K1.out.cell (j := 4) rfl
        have x5 := K1.out.cell (j := 5) rfl
        have x6 := K1.out.cell (j := 6) rfl
        have x7 := K1.out.cell (j := 7) rfl
        have x8 := K1.out.cell (j := 8) rfl
        have x9 := K1.out.cell (j := 9) rfl
        have x10 := K1.out.cell (j := 10) rfl
        have x11 := K1.out.cell (j := 11) rfl
        have x12 := K1.out.cell (j := 12) rfl
        have x13 := K1.out.cell (j := 13) rfl
        have x14 := K1.out.cell (j := 14) rfl
        have x15 := K1.out.cell (j := 15) rfl
        have x16 := K1.out.cell (j := 16) rfl
        cases z2 with
        | false =>
          go_wp2
          go_ret
          exact ⟨by rw [HV.out] <;> simp <;> first | assumption | (intros; omega), B1.out⟩
        | true =>
          go_wp2_with fail
          refine (C4.out _).mono ?_
          rintro r w2 ⟨rfl, hb⟩
          have K2 := hid (K1.out.below hb)
          have B2 := hid (btR B1.out hb)
          clear hb B1 K1 x0 x1 x2 x3 x4 x5 x6 x7 x8 x9 x10 x11 x12 x13 x14 x15 x16
          have x0 := K2.out.cell (j := 0) rfl
          have x1 := K2.out.cell (j := 1) rfl
          have x2 := K2.out.cell (j := 2) rfl
          have x3 := K2.out.cell (j := 3) rfl
          have x4 := K2.out.cell (j := 4) rfl
          have x5 := K2.out.cell (j := 5) rfl
          have x6 := K2.out.cell (j := 6) rfl
          have x7 := K2.out.cell (j := 7) rfl
          have x8 := K2.out.cell (j := 8) rfl
          have x9 := K2.out.cell (j := 9) rfl
          have x10 := K2.out.cell (j := 10) rfl
          have x11 := K2.out.cell (j := 11) rfl
          have x12 := K2.out.cell (j := 12) rfl
          have x13 := K2.out.cell (j := 13) rfl
          have x14 := K2.out.cell (j := 14) rfl
          have x15 := K2.out.cell (j := 15) rfl
          have x16 := K2.out.cell (j := 16) rfl
          cases az with
          | false =>
            go_wp2
            go_ret
            exact ⟨by rw [HV.out] <;> simp <;> first | assumption | (intros; omega), B2.out⟩
          | true =>
            cases ys with
            | true =>
              go_wp2
              go_ret
              exact ⟨by rw [HV.out] <;> simp <;> first | assumption | (intros; omega), B2.out⟩
            | false =>
              go_wp2
              go_ret
              exact ⟨by rw [HV.out] <;> simp <;> first | assumption | (intros; omega), B2.out⟩
    · skip
      have h4 : (0 : Int) < (pn : Int) := by omega
      go_wp2
      go_ret
      exact ⟨by rw [HV.out] <;> simp <;> first | assumption | (intros; omega), B0.out⟩
  · skip
    go_wp2
    go_ret
    exact ⟨by rw [HV.out] <;> simp <;> first | assumption | (intros; omega), B0.out⟩
end Go.Proofs.YtbaggkfgnjenoacDoor
