/-
  MsgOk of the specification at the kind 7.
-/
import Derived.Test.YtbaggkfgnjenoacDoorMg5
import Derived.Test.YtbaggkfgnjenoacDoorMg1
import Derived.Test.YtbaggkfgnjenoacDoorMg4
namespace Go.Proofs.YtbaggkfgnjenoacDoor
open Go.RowKit
set_option linter.unusedVariables false
set_option maxHeartbeats 16000000 in
set_option maxRecDepth 20000 in
theorem specMsgOk_7 (S : Nat → Prop) (ps : List PB) (c e n sh nu st k : Int) (ky vl lo hi : ByteArray) (mo : Int) (bk : Bool) (cd : Int) (pa : Option Addr) (pn pc : Nat) (ys : Bool) (w : World) (h : Pr w S (.slice pa pn pc) ps) : Calls Tryd.prog 6 #[.agg #[.int .i64 7, .int .i64 c, .int .i64 e, .int .i64 n, .int .i64 sh, .int .i64 nu, .int .i64 st, .int .i64 k, .string ky, .string vl, .string lo, .string hi, .int .i64 mo, .bool bk, .int .i64 cd, .slice pa pn pc, .bool ys]] w fun r w' => r = .returned (.bool (mgOk 7 c e n sh nu st (akOk k ky vl lo hi mo bk) (akZ k ky vl lo hi mo bk) cd ps ys)) ∧ Below w.heap.size w w' := by
  have B0 : Hid (Below w.heap.size w ((w.alloc (.cells #[.int .i64 7, .int .i64 c, .int .i64 e, .int .i64 n, .int .i64 sh, .int .i64 nu, .int .i64 st, .int .i64 k, .string ky, .string vl, .string lo, .string hi, .int .i64 mo, .bool bk, .int .i64 cd, .slice pa pn pc, .bool ys] 31)).alloc (.cells #[.int .i64 0, .string ⟨#[]⟩, .string ⟨#[]⟩, .string ⟨#[]⟩, .string ⟨#[]⟩, .int .i64 0, .bool false] 28))) := below_new (below_new (Below.refl _ _))
  have K0 := hid ((Bk.new w 31 [.int .i64 7, .int .i64 c, .int .i64 e, .int .i64 n, .int .i64 sh, .int .i64 nu, .int .i64 st, .int .i64 k, .string ky, .string vl, .string lo, .string hi, .int .i64 mo, .bool bk, .int .i64 cd, .slice pa pn pc, .bool ys]).alloc (.cells #[.int .i64 0, .string ⟨#[]⟩, .string ⟨#[]⟩, .string ⟨#[]⟩, .string ⟨#[]⟩, .int .i64 0, .bool false] 28))
  have J0 := hid (Bk.new (w.alloc (.cells #[.int .i64 7, .int .i64 c, .int .i64 e, .int .i64 n, .int .i64 sh, .int .i64 nu, .int .i64 st, .int .i64 k, .string ky, .string vl, .string lo, .string hi, .int .i64 mo, .bool bk, .int .i64 cd, .slice pa pn pc, .bool ys] 31)) 28 [.int .i64 0, .string ⟨#[]⟩, .string ⟨#[]⟩, .string ⟨#[]⟩, .string ⟨#[]⟩, .int .i64 0, .bool false])
  rw [show (w.alloc (.cells #[.int .i64 7, .int .i64 c, .int .i64 e, .int .i64 n, .int .i64 sh, .int .i64 nu, .int .i64 st, .int .i64 k, .string ky, .string vl, .string lo, .string hi, .int .i64 mo, .bool bk, .int .i64 cd, .slice pa pn pc, .bool ys] 31)).heap.size = w.heap.size + 1 by simp] at J0
  have HN := hid (Rw.len h).1
  have hcc := (Rw.len h).2
  have H0 := hid h
  clear h
  have C1 := hid (fun w => specTxOk_any c e n w)
  have C2 := hid (fun w => specNuOk_any nu w)
  have C3 := hid (fun w => specAskOk_any k ky vl lo hi mo bk w)
  have C4 := hid (fun w => specNumM_any st w)
  have hq := neq_askZ k ky vl lo hi mo bk
  have hg := guard_ask .neq
  have HV : Hid (mgOk 7 c e n sh nu st (akOk k ky vl lo hi mo bk) (akZ k ky vl lo hi mo bk) cd ps ys = (txOk (c, e, n) && (decide (0 ≤ sh) && (decide (sh < 4) && prtOk 7 nu st (akOk k ky vl lo hi mo bk) (akZ k ky vl lo hi mo bk) cd ps ys)))) := rfl
  generalize mgOk 7 c e n sh nu st (akOk k ky vl lo hi mo bk) (akZ k ky vl lo hi mo bk) cd ps ys = z at *
  generalize akOk k ky vl lo hi mo bk = ak at *
  generalize akZ k ky vl lo hi mo bk = az at *
  generalize txOk (c, e, n) = z1 at *
  rw [prtOk_7, show noT st cd ps.length = (decide (st = 0) && (decide (cd = 0) && decide (pn = 0))) by rw [← HN.out]; rfl] at HV
  clear H0
  go_enter Tryd.func6, Tryd.ntmps6
  go_wp2_with fail
  refine (C1.out _).mono ?_
  generalize (w.alloc (.cells #[.int .i64 7, .int .i64 c, .int .i64 e, .int .i64 n, .int .i64 sh, .int .i64 nu, .int .i64 st, .int .i64 k, .string ky, .string vl, .string lo, .string hi, .int .i64 mo, .bool bk, .int .i64 cd, .slice pa pn pc, .bool ys] 31)).alloc (.cells #[.int .i64 0, .string ⟨#[]⟩, .string ⟨#[]⟩, .string ⟨#[]⟩, .string ⟨#[]⟩, .int .i64 0, .bool false] 28) = U at *
  rintro r w1 ⟨rfl, hb⟩
  have K1 := hid (K0.out.below hb)
  have J1 := hid (J0.out.below hb)
  have B1 := hid (btR B0.out hb)
  clear hb B0 K0 J0 
  have x0 := K1.out.cell (j := 0) rfl
  have x1 := K1.out.cell (j := 1) rfl
  have x2 := K1.out.cell (j := 2) rfl
  have x3 := K1.out.cell (j := 3) rfl
  have x4 := K1.out.cell (j := 4) rfl
  have x5 := K1.out.cell (j := 5) rfl
  have x6 := K1.out.cell (j := 6) rfl
  have x7 := K1.out.cell (j := 7) rfl
  have x8 := K1.out.cell (j := 8) rfl
  have x9 := K1.out.cell (j := 9) rfl
  have x10 := K1.out.cell (j := 10) rfl
  have x11 := K1.out.cell (j := 11) rfl
  have x12 := K1.out.cell (j := 12) rfl
  have x13 := K1.out.cell (j := 13) rfl
  have x14 := K1.out.cell (j := 14) rfl
  have x15 := K1.out.cell (j := 15) rfl
  have x16 := K1.out.cell (j := 16) rfl
  have y0 := J1.out.cell (j := 0) rfl
  have y1 := J1.out.cell (j := 1) rfl
  have y2 := J1.out.cell (j := 2) rfl
  have y3 := J1.out.cell (j := 3) rfl
  have y4 := J1.out.cell (j := 4) rfl
  have y5 := J1.out.cell (j := 5) rfl
  have y6 := J1.out.cell (j := 6) rfl
  cases z1 with
  | false =>
    go_wp2
    go_ret
    exact ⟨by rw [HV.out] <;> simp <;> first | assumption | (intros; omega), B1.out⟩
  | true =>
    by_cases h1 : 0 ≤ sh
    · skip
      by_cases h2 : sh < 4
      · skip
        by_cases h7 : nu = 0
        · subst h7
          cases az with
          | false =>
            go_wp2
            go_ret
            exact ⟨by rw [HV.out] <;> simp <;> first | assumption | (intros; omega), B1.out⟩
          | true =>
            by_cases h3 : cd = 0
            · subst h3
              by_cases h4 : pn = 0
              · subst h4
                obtain rfl : ps = [] := List.eq_nil_of_length_eq_zero HN.out.symm
                go_wp2_with fail
                go_loopw [115] (fun i v => i = .int .i64 0 ∧ v = w1) (fun _ _ => 0)
                case atStart => exact ⟨rfl, rfl⟩
                case round =>
                  obtain ⟨rfl, rfl⟩ := hrel
                  by_cases h6 : st = 0
                  · subst h6
                    cases ys with
                    | true =>
                      go_wp2
                      go_ret
                      exact ⟨by rw [HV.out] <;> simp <;> first | assumption | (intros; omega), B1.out⟩
                    | false =>
                      go_wp2
                      go_ret
                      exact ⟨by rw [HV.out] <;> simp <;> first | assumption | (intros; omega), B1.out⟩
                  · skip
                    go_wp2
                    go_ret
                    exact ⟨by rw [HV.out] <;> simp <;> first | assumption | (intros; omega), B1.out⟩
              · skip
                have h5 : (0 : Int) < (pn : Int) := by omega
                go_wp2
                go_ret
                exact ⟨by rw [HV.out] <;> simp <;> first | assumption | (intros; omega), B1.out⟩
            · skip
              go_wp2
              go_ret
              exact ⟨by rw [HV.out] <;> simp <;> first | assumption | (intros; omega), B1.out⟩
        · skip
          go_wp2
          go_ret
          exact ⟨by rw [HV.out] <;> simp <;> first | assumption | (intros; omega), B1.out⟩
      · skip
        go_wp2
        go_ret
        exact ⟨by rw [HV.out] <;> simp <;> first | assumption | (intros; omega), B1.out⟩
    · skip
      go_wp2
      go_ret
      exact ⟨by rw [HV.out] <;> simp <;> first | assumption | (intros; omega), B1.out⟩
end Go.Proofs.YtbaggkfgnjenoacDoor
