/-
  Messages: MsgTell.
-/
import Derived.Test.YtbaggkfgnjenoacDoorMg5
namespace Go.Proofs.YtbaggkfgnjenoacDoor
open Go.RowKit
set_option linter.unusedVariables false
set_option maxHeartbeats 3200000 in
theorem tellOk_any (S : Nat → Prop) (ps : List PB) (kd c e n sh nu st k : Int) (ky vl lo hi : ByteArray) (mo : Int) (bk : Bool) (cd : Int) (pa : Option Addr) (pn pc : Nat) (ys : Bool) (w : World) (h : Pr w S (.slice pa pn pc) ps) : Calls Tryd.prog 58 #[.agg #[.int .i64 kd, .int .i64 c, .int .i64 e, .int .i64 n, .int .i64 sh, .int .i64 nu, .int .i64 st, .int .i64 k, .string ky, .string vl, .string lo, .string hi, .int .i64 mo, .bool bk, .int .i64 cd, .slice pa pn pc, .bool ys]] w fun r w' => r = .returned (.bool (tel st cd ps)) ∧ Below w.heap.size w w' := by
  have B0 := hid (below_new (o := .cells #[.int .i64 kd, .int .i64 c, .int .i64 e, .int .i64 n, .int .i64 sh, .int .i64 nu, .int .i64 st, .int .i64 k, .string ky, .string vl, .string lo, .string hi, .int .i64 mo, .bool bk, .int .i64 cd, .slice pa pn pc, .bool ys] 31) (w := w) (Below.refl _ _))
  have K0 := hid (Bk.new w 31 [.int .i64 kd, .int .i64 c, .int .i64 e, .int .i64 n, .int .i64 sh, .int .i64 nu, .int .i64 st, .int .i64 k, .string ky, .string vl, .string lo, .string hi, .int .i64 mo, .bool bk, .int .i64 cd, .slice pa pn pc, .bool ys])
  have H0 := hid h
  clear h
  have HV : Hid (tel st cd ps = ((decide (0 ≤ cd) && decide (cd ≤ 9)) && (stC cd st && prsOk ps))) := rfl
  have C1 := hid (fun w => stampOk_any kd c e n sh nu st k ky vl lo hi mo bk cd pa pn pc ys w)
  have C2 : Hid (∀ v, Below w.heap.size w v → Calls Tryd.prog 70 #[.slice pa pn pc] v fun e w' => e = .returned (.bool (prsOk ps)) ∧ Below v.heap.size v w') := fun v hb => userPairsOk_any S pa pn pc ps v (H0.out.below hb)
  generalize tel st cd ps = z at *
  generalize stC cd st = z1 at *
  generalize prsOk ps = z2 at *
  clear H0
  go_enter Tryd.func58, Tryd.ntmps58
  by_cases h1 : 0 ≤ cd
  · skip
    by_cases h2 : cd ≤ 9
    · skip
      go_wp2_with fail
      refine (C1.out _).mono ?_
      generalize w.alloc (.cells #[.int .i64 kd, .int .i64 c, .int .i64 e, .int .i64 n, .int .i64 sh, .int .i64 nu, .int .i64 st, .int .i64 k, .string ky, .string vl, .string lo, .string hi, .int .i64 mo, .bool bk, .int .i64 cd, .slice pa pn pc, .bool ys] 31) = U at *
      rintro r w1 ⟨rfl, hb⟩
      have K1 := hid (K0.out.below hb)
      have B1 := hid (btR B0.out hb)
      clear hb B0 K0 
      have x0 := K1.out.cell (j := 0) rfl
      have x1 := K1.out.cell (j := 1) rfl
      have x2 := K1.out.cell (j := 2) rfl
      have x3 := K1.out.cell (j := 3) rfl
      have x4 := K1.out.cell (j := 4) rfl
      have x5 := K1.out.cell (j := 5) rfl
      have x6 := K1.out.cell (j := 6) rfl
      have x7 := K1.out.cell (j := 7) rfl
      have x8 := K1.out.cell (j := 8) rfl
      have x9 := K1.out.cell (j := 9) rfl
      have x10 := K1.out.cell (j := 10) rfl
      have x11 := K1.out.cell (j := 11) rfl
      have x12 := K1.out.cell (j := 12) rfl
      have x13 := K1.out.cell (j := 13) rfl
      have x14 := K1.out.cell (j := 14) rfl
      have x15 := K1.out.cell (j := 15) rfl
      have x16 := K1.out.cell (j := 16) rfl
      cases z1 with
      | false =>
        go_wp2
        go_ret
        exact ⟨by rw [HV.out] <;> simp <;> first | assumption | (intros; omega), B1.out⟩
      | true =>
        go_wp2_with fail
        refine (C2.out _ B1.out).mono ?_
        rintro r w2 ⟨rfl, hb⟩
        have K2 := hid (K1.out.below hb)
        have B2 := hid (btR B1.out hb)
        clear hb B1 K1 x0 x1 x2 x3 x4 x5 x6 x7 x8 x9 x10 x11 x12 x13 x14 x15 x16
        have x0 := K2.out.cell (j := 0) rfl
        have x1 := K2.out.cell (j := 1) rfl
        have x2 := K2.out.cell (j := 2) rfl
        have x3 := K2.out.cell (j := 3) rfl
        have x4 := K2.out.cell (j := 4) rfl
        have x5 := K2.out.cell (j := 5) rfl
        have x6 := K2.out.cell (j := 6) rfl
        have x7 := K2.out.cell (j := 7) rfl
        have x8 := K2.out.cell (j := 8) rfl
        have x9 := K2.out.cell (j := 9) rfl
        have x10 := K2.out.cell (j := 10) rfl
        have x11 := K2.out.cell (j := 11) rfl
        have x12 := K2.out.cell (j := 12) rfl
        have x13 := K2.out.cell (j := 13) rfl
        have x14 := K2.out.cell (j := 14) rfl
        have x15 := K2.out.cell (j := 15) rfl
        have x16 := K2.out.cell (j := 16) rfl
        cases z2 with
        | false =>
          go_wp2
          go_ret
          exact ⟨by rw [HV.out] <;> simp <;> first | assumption | (intros; omega), B2.out⟩
        | true =>
          go_wp2
          go_ret
          exact ⟨by rw [HV.out] <;> simp <;> first | assumption | (intros; omega), B2.out⟩
    · skip
      go_wp2
      go_ret
      exact ⟨by rw [HV.out] <;> simp <;> first | assumption | (intros; omega), B0.out⟩
  · skip
    go_wp2
    go_ret
    exact ⟨by rw [HV.out] <;> simp <;> first | assumption | (intros; omega), B0.out⟩
end Go.Proofs.YtbaggkfgnjenoacDoor
