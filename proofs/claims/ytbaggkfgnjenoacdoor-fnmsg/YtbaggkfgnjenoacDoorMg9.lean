/-
  MsgOk of the specification at the kind 2.
-/
import Derived.Test.YtbaggkfgnjenoacDoorMg5
import Derived.Test.YtbaggkfgnjenoacDoorMg1
import Derived.Test.YtbaggkfgnjenoacDoorMg4
namespace Go.Proofs.YtbaggkfgnjenoacDoor
open Go.RowKit
set_option linter.unusedVariables false
set_option maxHeartbeats 16000000 in
set_option maxRecDepth 20000 in
theorem specMsgOk_2 (S : Nat → Prop) (ps : List PB) (c e n sh nu st k : Int) (ky vl lo hi : ByteArray) (mo : Int) (bk : Bool) (cd : Int) (pa : Option Addr) (pn pc : Nat) (ys : Bool) (w : World) (h : Pr w S (.slice pa pn pc) ps) : Calls Tryd.prog 6 #[.agg #[.int .i64 2, .int .i64 c, .int .i64 e, .int .i64 n, .int .i64 sh, .int .i64 nu, .int .i64 st, .int .i64 k, .string ky, .string vl, .string lo, .string hi, .int .i64 mo, .bool bk, .int .i64 cd, .slice pa pn pc, .bool ys]] w fun r w' => r = .returned (.bool (mgOk 2 c e n sh nu st (akOk k ky vl lo hi mo bk) (akZ k ky vl lo hi mo bk) cd ps ys)) ∧ Below w.heap.size w w' := by
  have B0 : Hid (Below w.heap.size w ((w.alloc (.cells #[.int .i64 2, .int .i64 c, .int .i64 e, .int .i64 n, .int .i64 sh, .int .i64 nu, .int .i64 st, .int .i64 k, .string ky, .string vl, .string lo, .string hi, .int .i64 mo, .bool bk, .int .i64 cd, .slice pa pn pc, .bool ys] 31)).alloc (.cells #[.int .i64 0, .string ⟨#[]⟩, .string ⟨#[]⟩, .string ⟨#[]⟩, .string ⟨#[]⟩, .int .i64 0, .bool false] 28))) := below_new (below_new (Below.refl _ _))
  have K0 := hid ((Bk.new w 31 [.int .i64 2, .int .i64 c, .int .i64 e, .int .i64 n, .int .i64 sh, .int .i64 nu, .int .i64 st, .int .i64 k, .string ky, .string vl, .string lo, .string hi, .int .i64 mo, .bool bk, .int .i64 cd, .slice pa pn pc, .bool ys]).alloc (.cells #[.int .i64 0, .string ⟨#[]⟩, .string ⟨#[]⟩, .string ⟨#[]⟩, .string ⟨#[]⟩, .int .i64 0, .bool false] 28))
  have J0 := hid (Bk.new (w.alloc (.cells #[.int .i64 2, .int .i64 c, .int .i64 e, .int .i64 n, .int .i64 sh, .int .i64 nu, .int .i64 st, .int .i64 k, .string ky, .string vl, .string lo, .string hi, .int .i64 mo, .bool bk, .int .i64 cd, .slice pa pn pc, .bool ys] 31)) 28 [.int .i64 0, .string ⟨#[]⟩, .string ⟨#[]⟩, .string ⟨#[]⟩, .string ⟨#[]⟩, .int .i64 0, .bool false])
  rw [show (w.alloc (.cells #[.int .i64 2, .int .i64 c, .int .i64 e, .int .i64 n, .int .i64 sh, .int .i64 nu, .int .i64 st, .int .i64 k, .string ky, .string vl, .string lo, .string hi, .int .i64 mo, .bool bk, .int .i64 cd, .slice pa pn pc, .bool ys] 31)).heap.size = w.heap.size + 1 by simp] at J0
  have HN := hid (Rw.len h).1
  have hcc := (Rw.len h).2
  have H0 := hid h
  clear h
  have C1 := hid (fun w => specTxOk_any c e n w)
  have C2 := hid (fun w => specNuOk_any nu w)
  have C3 := hid (fun w => specAskOk_any k ky vl lo hi mo bk w)
  have C4 := hid (fun w => specNumM_any st w)
  have hq := neq_askZ k ky vl lo hi mo bk
  have hg := guard_ask .neq
  have HV : Hid (mgOk 2 c e n sh nu st (akOk k ky vl lo hi mo bk) (akZ k ky vl lo hi mo bk) cd ps ys = (txOk (c, e, n) && (decide (0 ≤ sh) && (decide (sh < 4) && prtOk 2 nu st (akOk k ky vl lo hi mo bk) (akZ k ky vl lo hi mo bk) cd ps ys)))) := rfl
  generalize mgOk 2 c e n sh nu st (akOk k ky vl lo hi mo bk) (akZ k ky vl lo hi mo bk) cd ps ys = z at *
  generalize akOk k ky vl lo hi mo bk = ak at *
  generalize akZ k ky vl lo hi mo bk = az at *
  generalize txOk (c, e, n) = z1 at *
  rw [prtOk_2, show tel st cd ps = ((decide (0 ≤ cd) && decide (cd ≤ 9)) && (stC cd st && (decide (pn ≤ 8) && ps.all upOk))) by rw [HN.out]; rfl] at HV
  generalize nuOk nu = z2 at *
  obtain ⟨za, HZA⟩ : ∃ za, Hid (ps.all upOk = za) := ⟨_, rfl⟩
  rw [HZA.out] at HV
  go_enter Tryd.func6, Tryd.ntmps6
  go_wp2_with fail
  refine (C1.out _).mono ?_
  generalize (w.alloc (.cells #[.int .i64 2, .int .i64 c, .int .i64 e, .int .i64 n, .int .i64 sh, .int .i64 nu, .int .i64 st, .int .i64 k, .string ky, .string vl, .string lo, .string hi, .int .i64 mo, .bool bk, .int .i64 cd, .slice pa pn pc, .bool ys] 31)).alloc (.cells #[.int .i64 0, .string ⟨#[]⟩, .string ⟨#[]⟩, .string ⟨#[]⟩, .string ⟨#[]⟩, .int .i64 0, .bool false] 28) = U at *
  rintro r w1 ⟨rfl, hb⟩
  have K1 := hid (K0.out.below hb)
  have J1 := hid (J0.out.below hb)
  have B1 := hid (btR B0.out hb)
  clear hb B0 K0 J0 
  have x0 := K1.out.cell (j := 0) rfl
  have x1 := K1.out.cell (j := 1) rfl
  have x2 := K1.out.cell (j := 2) rfl
  have x3 := K1.out.cell (j := 3) rfl
  have x4 := K1.out.cell (j := 4) rfl
  have x5 := K1.out.cell (j := 5) rfl
  have x6 := K1.out.cell (j := 6) rfl
  have x7 := K1.out.cell (j := 7) rfl
  have x8 := K1.out.cell (j := 8) rfl
  have x9 := K1.out.cell (j := 9) rfl
  have x10 := K1.out.cell (j := 10) rfl
  have x11 := K1.out.cell (j := 11) rfl
  have x12 := K1.out.cell (j := 12) rfl
  have x13 := K1.out.cell (j := 13) rfl
  have x14 := K1.out.cell (j := 14) rfl
  have x15 := K1.out.cell (j := 15) rfl
  have x16 := K1.out.cell (j := 16) rfl
  have y0 := J1.out.cell (j := 0) rfl
  have y1 := J1.out.cell (j := 1) rfl
  have y2 := J1.out.cell (j := 2) rfl
  have y3 := J1.out.cell (j := 3) rfl
  have y4 := J1.out.cell (j := 4) rfl
  have y5 := J1.out.cell (j := 5) rfl
  have y6 := J1.out.cell (j := 6) rfl
  cases z1 with
  | false =>
    go_wp2
    go_ret
    exact ⟨by rw [HV.out] <;> simp <;> first | assumption | (intros; omega), B1.out⟩
  | true =>
    by_cases h1 : 0 ≤ sh
    · skip
      by_cases h2 : sh < 4
      · skip
        go_wp2_with fail
        refine (C2.out _).mono ?_
        rintro r w' ⟨rfl, rfl⟩
        cases z2 with
        | false =>
          go_wp2
          go_ret
          exact ⟨by rw [HV.out] <;> simp <;> first | assumption | (intros; omega), B1.out⟩
        | true =>
          cases az with
          | false =>
            go_wp2
            go_ret
            exact ⟨by rw [HV.out] <;> simp <;> first | assumption | (intros; omega), B1.out⟩
          | true =>
            by_cases h3 : 0 ≤ cd
            · skip
              by_cases h4 : cd ≤ 9
              · skip
                by_cases h5 : pn ≤ 8
                · skip
                  have h6 : ¬ (8 : Int) < (pn : Int) := by omega
                  have HLP := hid (Pr.below H0.out B1.out)
                  clear H0
                  go_wp2_with fail
                  go_loopw [115] (fun i v => ∃ m : Nat, m ≤ pn ∧ i = .int .i64 m ∧ Hid (Below w1.heap.size w1 v) ∧ Hid ((ps.take m).all upOk = true)) (fun i _ => pn - (intOf i).toNat)
                  case atStart => exact ⟨0, Nat.zero_le _, rfl, Below.refl _ _, rfl⟩
                  case round =>
                    obtain ⟨m, hm, rfl, HB, HT⟩ := hrel
                    clear x0 x1 x2 x3 x4 x5 x6 x7 x8 x9 x10 x11 x12 x13 x14 x15 x16 y0 y1 y2 y3 y4 y5 y6
                    by_cases hlt : m < pn
                    · have hlt' : (m : Int) < (pn : Int) := by omega
                      have hml : m < ps.length := by rw [← HN.out]; exact hlt
                      obtain ⟨b, off, ha, -, -, hcell⟩ := Pr.at (HLP.out.below HB.out) (by omega)
                      obtain ⟨hc0, hc1⟩ := hcell m hlt
                      clear hcell
                      subst ha
                      have HCU : Hid (ps[m]?.getD (⟨#[]⟩, ⟨#[]⟩) = pAtB ps m) := rfl
                      generalize pAtB ps m = cur at hc0 hc1 HCU
                      obtain ⟨xk, xv⟩ := cur
                      have HB1 : Hid (Below w1.heap.size w1 (wr.alloc (.cells #[.string xk, .string xv] 54))) := HB.out.alloc HB.out.size _
                      have HX : Hid (upOk (xk, xv) = (uOk xk && uvOk xv)) := rfl
                      go_wp2_with fail
                      refine (specUserOk_any xk _).mono ?_
                      rintro r w' ⟨rfl, rfl⟩
                      cases h7 : uOk xk
                      · have HZ : Hid (ps.all upOk = false) := all_no ps upOk (⟨#[]⟩, ⟨#[]⟩) hml (by rw [HCU.out, HX.out, h7]; rfl)
                        go_wp2
                        go_ret
                        exact ⟨by rw [HV.out, ← HZA.out, HZ.out] <;> simp, btR B1.out HB1.out⟩
                      · go_wp2_with fail
                        refine (specUvalOk_any xv _).mono ?_
                        rintro r w' ⟨rfl, rfl⟩
                        cases h8 : uvOk xv
                        · have HZ : Hid (ps.all upOk = false) := all_no ps upOk (⟨#[]⟩, ⟨#[]⟩) hml (by rw [HCU.out, HX.out, h7, h8]; rfl)
                          go_wp2
                          go_ret
                          exact ⟨by rw [HV.out, ← HZA.out, HZ.out] <;> simp, btR B1.out HB1.out⟩
                        · have HZ : Hid ((ps.take (m + 1)).all upOk = true) := by
                            show _ = true
                            rw [all_take_succ ps upOk (⟨#[]⟩, ⟨#[]⟩) hml, HT.out, HCU.out, HX.out, h7, h8]; rfl
                          go_wp2
                          go_roundw
                          case rel => exact ⟨m + 1, by omega, by go_num, HB1.out, HZ.out⟩
                          case measure => simp [intOf]; omega
                    · have HA : Hid (za = true) := by
                        have := HT.out
                        rw [List.take_of_length_le (by rw [← HN.out]; omega)] at this
                        show za = true
                        rw [← HZA.out]; exact this
                      obtain rfl : za = true := HA.out
                      clear HA HT HZA HLP
                      have K2 := hid (K1.out.below HB.out)
                      have J2 := hid (J1.out.below HB.out)
                      have B2 := hid (btR B1.out HB.out)
                      clear HB K1 J1 B1
                      have x0 := K2.out.cell (j := 0) rfl
                      have x1 := K2.out.cell (j := 1) rfl
                      have x2 := K2.out.cell (j := 2) rfl
                      have x3 := K2.out.cell (j := 3) rfl
                      have x4 := K2.out.cell (j := 4) rfl
                      have x5 := K2.out.cell (j := 5) rfl
                      have x6 := K2.out.cell (j := 6) rfl
                      have x7 := K2.out.cell (j := 7) rfl
                      have x8 := K2.out.cell (j := 8) rfl
                      have x9 := K2.out.cell (j := 9) rfl
                      have x10 := K2.out.cell (j := 10) rfl
                      have x11 := K2.out.cell (j := 11) rfl
                      have x12 := K2.out.cell (j := 12) rfl
                      have x13 := K2.out.cell (j := 13) rfl
                      have x14 := K2.out.cell (j := 14) rfl
                      have x15 := K2.out.cell (j := 15) rfl
                      have x16 := K2.out.cell (j := 16) rfl
                      have y0 := J2.out.cell (j := 0) rfl
                      have y1 := J2.out.cell (j := 1) rfl
                      have y2 := J2.out.cell (j := 2) rfl
                      have y3 := J2.out.cell (j := 3) rfl
                      have y4 := J2.out.cell (j := 4) rfl
                      have y5 := J2.out.cell (j := 5) rfl
                      have y6 := J2.out.cell (j := 6) rfl
                      by_cases h11 : cd = 0
                      · subst h11
                        rw [stC_0] at HV
                        by_cases h8 : 1 ≤ st
                        · skip
                          have h9 : 0 ≤ st := by omega
                          go_wp2_with fail
                          refine (C4.out _).mono ?_
                          rintro r w' ⟨rfl, rfl⟩
                          by_cases h10 : st ≤ 1099511627775
                          · skip
                            cases ys with
                            | true =>
                              go_wp2
                              go_ret
                              exact ⟨by rw [HV.out] <;> simp <;> first | assumption | (intros; omega), B2.out⟩
                            | false =>
                              go_wp2
                              go_ret
                              exact ⟨by rw [HV.out] <;> simp <;> first | assumption | (intros; omega), B2.out⟩
                          · skip
                            go_wp2
                            go_ret
                            exact ⟨by rw [HV.out] <;> simp <;> first | assumption | (intros; omega), B2.out⟩
                        · skip
                          go_wp2
                          go_ret
                          exact ⟨by rw [HV.out] <;> simp <;> first | assumption | (intros; omega), B2.out⟩
                      · skip
                        rw [stC_no h11] at HV
                        have h12 : (cd == 0) = false := by simpa using h11
                        have h13 : decide (cd = 0) = false := by simpa using h11
                        by_cases h6 : st = 0
                        · subst h6
                          cases ys with
                          | true =>
                            go_wp2
                            go_ret
                            exact ⟨by rw [HV.out] <;> simp <;> first | assumption | (intros; omega), B2.out⟩
                          | false =>
                            go_wp2
                            go_ret
                            exact ⟨by rw [HV.out] <;> simp <;> first | assumption | (intros; omega), B2.out⟩
                        · skip
                          go_wp2
                          go_ret
                          exact ⟨by rw [HV.out] <;> simp <;> first | assumption | (intros; omega), B2.out⟩
                · skip
                  have h6 : (8 : Int) < (pn : Int) := by omega
                  go_wp2
                  go_ret
                  exact ⟨by rw [HV.out] <;> simp <;> first | assumption | (intros; omega), B1.out⟩
              · skip
                go_wp2
                go_ret
                exact ⟨by rw [HV.out] <;> simp <;> first | assumption | (intros; omega), B1.out⟩
            · skip
              go_wp2
              go_ret
              exact ⟨by rw [HV.out] <;> simp <;> first | assumption | (intros; omega), B1.out⟩
      · skip
        go_wp2
        go_ret
        exact ⟨by rw [HV.out] <;> simp <;> first | assumption | (intros; omega), B1.out⟩
    · skip
      go_wp2
      go_ret
      exact ⟨by rw [HV.out] <;> simp <;> first | assumption | (intros; omega), B1.out⟩
end Go.Proofs.YtbaggkfgnjenoacDoor
