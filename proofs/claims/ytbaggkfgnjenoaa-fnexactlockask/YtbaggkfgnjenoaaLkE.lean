/-
  Tables of locks that are right: the program's side, whole.
-/
import Derived.Test.YtbaggkfgnjenoaaLkD
namespace Go.Proofs.Ytbaggkfgnjenoaa
open Go.RowKit
set_option linter.unusedVariables false
set_option maxHeartbeats 4000000 in
theorem mustWait_any (S S' : Nat → Prop) (ha : Option Addr) (hn hc : Nat) (wa : Option Addr) (wn wc : Nat) (hl wl : List LK) (c e n : Int) (lo hi : ByteArray) (ex : Bool) (w : World) (h1 : Lr w S (.slice ha hn hc) hl) (h2 : Lr w S' (.slice wa wn wc) wl) :
    Calls Try.prog 91 #[.agg #[.slice ha hn hc, .slice wa wn wc], .agg #[.int .i64 c, .int .i64 e, .int .i64 n, .string lo, .string hi, .bool ex]] w fun r w' => r = .returned (.bool (mustW hl wl ((c, e, n), (lo, hi), ex))) ∧ Below w.heap.size w w' := by
  have B0 := hid (below_new (o := .cells #[.slice ha hn hc, .slice wa wn wc] 25) (w := w) (below_new (o := .cells #[.int .i64 c, .int .i64 e, .int .i64 n, .string lo, .string hi, .bool ex] 31) (w := w.alloc (.cells #[.slice ha hn hc, .slice wa wn wc] 25)) (Below.refl _ _)))
  have K0 := hid ((Bk.new w 25 [.slice ha hn hc, .slice wa wn wc]).alloc (.cells #[.int .i64 c, .int .i64 e, .int .i64 n, .string lo, .string hi, .bool ex] 31))
  have J0 := hid (Bk.new (w.alloc (.cells #[.slice ha hn hc, .slice wa wn wc] 25)) 31 [.int .i64 c, .int .i64 e, .int .i64 n, .string lo, .string hi, .bool ex])
  rw [show (w.alloc (.cells #[.slice ha hn hc, .slice wa wn wc] 25)).heap.size = w.heap.size + 1 by simp] at J0
  have P0 := hid (h1.below B0.out)
  have Q0 := hid (h2.below B0.out)
  have HV := hid (mustW_def hl wl ((c, e, n), (lo, hi), ex))
  have C1 := hid (fun w => claimOf_any c e n lo hi ex w)
  have C2 : Hid (∀ v, Lr v S (.slice ha hn hc) hl → Calls Try.prog 96 #[.agg #[.string lo, .string hi, .int .i64 c, .int .i64 e, .int .i64 n, .bool ex], .slice ha hn hc] v fun r w' => r = .returned (.bool (anyC hl ((c, e, n), (lo, hi), ex))) ∧ Below v.heap.size v w') := fun v hv => cwa_any c e n lo hi ex S _ _ _ hl v hv
  have C3 : Hid (∀ v, Lr v S' (.slice wa wn wc) wl → Calls Try.prog 96 #[.agg #[.string lo, .string hi, .int .i64 c, .int .i64 e, .int .i64 n, .bool ex], .slice wa wn wc] v fun r w' => r = .returned (.bool (anyC wl ((c, e, n), (lo, hi), ex))) ∧ Below v.heap.size v w') := fun v hv => cwa_any c e n lo hi ex S' _ _ _ wl v hv
  clear h1 h2
  generalize anyC hl ((c, e, n), (lo, hi), ex) = z1 at *
  generalize anyC wl ((c, e, n), (lo, hi), ex) = z2 at *
  go_enter Try.func91, Try.ntmps91
  go_wp2_with fail
  refine (C1.out _).mono ?_
  generalize (w.alloc (.cells #[.slice ha hn hc, .slice wa wn wc] 25)).alloc (.cells #[.int .i64 c, .int .i64 e, .int .i64 n, .string lo, .string hi, .bool ex] 31) = U at *
  rintro r w1 ⟨rfl, hb⟩
  have K1 := hid (K0.out.below hb)
  have P1 := hid (P0.out.below hb)
  have Q1 := hid (Q0.out.below hb)
  have B1 := hid (B0.out.trans (hb.mono B0.out.size))
  clear K0 P0 Q0 B0 hb
  have hb := below_new (o := .cells #[.string lo, .string hi, .int .i64 c, .int .i64 e, .int .i64 n, .bool ex] 102) (w := w1) (Below.refl _ _)
  have K2 := hid (K1.out.below hb)
  have P2 := hid (P1.out.below hb)
  have Q2 := hid (Q1.out.below hb)
  have B2 := hid (B1.out.trans (hb.mono B1.out.size))
  have I2 := hid (Bk.new w1 102 [.string lo, .string hi, .int .i64 c, .int .i64 e, .int .i64 n, .bool ex])
  have y0 := K1.out.cell (j := 0) rfl
  have k0 := K1.out.lt
  clear hb K1 P1 Q1 B1
  go_wp2_with fail
  refine (C2.out _ P2.out).mono ?_
  generalize w1.alloc (.cells #[.string lo, .string hi, .int .i64 c, .int .i64 e, .int .i64 n, .bool ex] 102) = V at *
  generalize w1.heap.size = gc at *
  rintro r w3 ⟨rfl, hb⟩
  have K3 := hid (K2.out.below hb)
  have Q3 := hid (Q2.out.below hb)
  have I3 := hid (I2.out.below hb)
  have B3 := hid (B2.out.trans (hb.mono B2.out.size))
  clear hb K2 P2 Q2 B2 I2 y0
  cases z1 with
  | true =>
    go_wp2
    go_ret
    exact ⟨by rw [HV.out]; rfl, B3.out⟩
  | false =>
    have y1 := K3.out.cell (j := 1) rfl
    have x0 := I3.out.cell (j := 0) rfl
    have x1 := I3.out.cell (j := 1) rfl
    have x2 := I3.out.cell (j := 2) rfl
    have x3 := I3.out.cell (j := 3) rfl
    have x4 := I3.out.cell (j := 4) rfl
    have x5 := I3.out.cell (j := 5) rfl
    go_wp2_with fail
    refine (C3.out _ Q3.out).mono ?_
    rintro r w4 ⟨rfl, hb⟩
    have B4 := hid (B3.out.trans (hb.mono B3.out.size))
    clear hb
    go_wp2
    go_ret
    exact ⟨by rw [HV.out]; rfl, B4.out⟩
set_option maxHeartbeats 8000000 in
theorem waitOk_any (S S' : Nat → Prop) (ha : Option Addr) (hn hc : Nat) (wa : Option Addr) (wn wc : Nat) (hl wl : List LK) (w : World) (h1 : Lr w S (.slice ha hn hc) hl) (h2 : Lr w S' (.slice wa wn wc) wl) :
    Calls Try.prog 60 #[.agg #[.slice ha hn hc, .slice wa wn wc]] w fun r w' => r = .returned (.bool (waitB hl wl)) ∧ Below w.heap.size w w' := by
  have HN := hid (Rw.len h2).1
  have bk := (Rw.len h2).2
  have B0 := hid (below_new (o := .cells #[.slice ha hn hc, .slice wa wn wc] 25) (w := w) (Below.refl _ _))
  have K0 := hid (Bk.new w 25 [.slice ha hn hc, .slice wa wn wc])
  have P0 := hid (h1.below B0.out)
  have Q0 := hid (h2.below B0.out)
  have HV := hid (waitB_def hl wl)
  rw [← HN.out] at HV
  clear h1 h2
  have hnot : ∀ (x : Bool) (w : World), (Op.unary .not (.bool x)).run Try.prog w = .ok (.bool (!x)) w := fun _ _ => rfl
  generalize hU : w.alloc (.cells #[.slice ha hn hc, .slice wa wn wc] 25) = U at *
  have HU := hid hU
  clear hU
  go_enter Try.func60, Try.ntmps60
  go_wp2_with fail
  rw [HU.out]
  go_loopw [9] (fun i v => ∃ j : Nat, j ≤ wn ∧ i = .int .i64 j ∧ Hid (Below U.heap.size U v) ∧ Hid ((List.range j).all (wpk hl wl) = true)) (fun i _ => wn - (intOf i).toNat)
  case atStart => exact ⟨0, Nat.zero_le _, rfl, Below.refl _ _, rfl⟩
  case round =>
    obtain ⟨j, hj, rfl, HB, HT⟩ := hrel
    by_cases hlt : j < wn
    · have hlt' : (j : Int) < (wn : Int) := by omega
      have hml : j < wl.length := by rw [← HN.out]; exact hlt
      have HR := hid (Q0.out.below HB.out)
      obtain ⟨b, off, ha', -, -, hcell⟩ := HR.out.at (by omega)
      obtain ⟨hc0, hc1, hc2, hc3, hc4, hc5⟩ := hcell j hlt
      clear hcell
      subst ha'
      have HNO : Hid (wpk hl wl j = false → (List.range wn).all (wpk hl wl) = false) := rall_no _ hlt
      have HYES : Hid ((List.range (j + 1)).all (wpk hl wl) = ((List.range j).all (wpk hl wl) && wpk hl wl j)) := rall_succ _ _
      have HP := hid (wpk_def hl wl j)
      have HM := hid (mustW_def hl (wl.take j) (lAt wl j))
      have HFR := hid (HR.out.first j (by omega))
      have HPR := hid (P0.out.below HB.out)
      have HKR := hid (K0.out.below HB.out)
      generalize lAt wl j = cur at hc0 hc1 hc2 hc3 hc4 hc5 HP HM
      obtain ⟨⟨cc, ce, cn⟩, ⟨clo, chi⟩, cex⟩ := cur
      rw [← HM.out] at HP
      have B1 : Hid (Below U.heap.size U (wr.alloc (.cells #[.int .i64 cc, .int .i64 ce, .int .i64 cn, .string clo, .string chi, .bool cex] 31))) := HB.out.trans (below_new (Below.refl _ _) |>.mono HB.out.size)
      have hb := below_new (o := .cells #[.int .i64 cc, .int .i64 ce, .int .i64 cn, .string clo, .string chi, .bool cex] 31) (w := wr) (Below.refl _ _)
      have J1 := hid (Bk.new wr 31 [.int .i64 cc, .int .i64 ce, .int .i64 cn, .string clo, .string chi, .bool cex])
      have P1 := hid (HPR.out.below hb)
      have Q1 := hid (HFR.out.below hb)
      have K1 := hid (HKR.out.below hb)
      clear hb
      have C1 := hid (fun w => implLockOk_any cc ce cn clo chi cex w)
      have C2 : Hid (∀ v, Lr v S' (.slice (some ⟨b, off, none⟩) j wc) (wl.take j) → Calls Try.prog 49 #[.slice (some ⟨b, off, none⟩) j wc, .agg #[.int .i64 cc, .int .i64 ce, .int .i64 cn]] v fun r w' => r = .returned (.bool (hasT (wl.take j) (cc, ce, cn))) ∧ Below v.heap.size v w') := fun v hv => isAmong_any cc ce cn S' _ j wc (wl.take j) v hv
      have C3 : Hid (∀ v, Lr v S (.slice ha hn hc) hl → Lr v S' (.slice (some ⟨b, off, none⟩) j wc) (wl.take j) → Calls Try.prog 91 #[.agg #[.slice ha hn hc, .slice (some ⟨b, off, none⟩) j wc], .agg #[.int .i64 cc, .int .i64 ce, .int .i64 cn, .string clo, .string chi, .bool cex]] v fun r w' => r = .returned (.bool (mustW hl (wl.take j) ((cc, ce, cn), (clo, chi), cex))) ∧ Below v.heap.size v w') := fun v h1 h2 => mustWait_any S S' _ _ _ _ _ _ hl (wl.take j) cc ce cn clo chi cex v h1 h2
      generalize lkOk ((cc, ce, cn), (clo, chi), cex) = z1 at *
      generalize hasT (wl.take j) (cc, ce, cn) = z2 at *
      generalize mustW hl (wl.take j) ((cc, ce, cn), (clo, chi), cex) = z3 at *
      have hjk : (j : Int) ≤ (wc : Int) := by omega
      have hk0 : ¬ wc = 0 := by omega
      have hk63 : (wc : Int) ≤ 9223372036854775807 := by omega
      have hj0 : (0 : Int) ≤ (j : Int) := by omega
      clear HR HFR hml HPR HKR HM
      have y0 := K1.out.cell (j := 0) rfl
      have y1 := K1.out.cell (j := 1) rfl
      have k0 := K1.out.lt
      have j0 := J1.out.lt
      generalize hG : wr.heap.size = g at *
      go_wp2_with fail
      generalize wr.alloc (.cells #[.int .i64 cc, .int .i64 ce, .int .i64 cn, .string clo, .string chi, .bool cex] 31) = Y at *
      clear hG hc0 hc1 hc2 hc3 hc4 hc5
      go_cut [5] (fun x v => x = .pointer (some ⟨Y.heap.size, 0, none⟩) ∧ Below Y.heap.size Y v ∧ Bk v Y.heap.size 25 [.slice ha hn hc, .slice (some ⟨b, off, none⟩) j wc])
      case first =>
        first | go_region_with (fail) | fail
        all_goals (go_wp2_with fail; go_meet)
        all_goals exact ⟨by simp, below_new (below_drew _), (Bk.new _ _ _).below (below_drew _)⟩
      case rest =>
        obtain ⟨rfl, hb, hbk⟩ := hcut
        rename_i Z
        generalize Y.heap.size = gt at hbk
        have I2 := hid hbk
        have J2 := hid (J1.out.below hb)
        have P2 := hid (P1.out.below hb)
        have Q2 := hid (Q1.out.below hb)
        have B2 := hid (B1.out.trans (hb.mono B1.out.size))
        clear hb hbk J1 P1 Q1 K1 B1 y0 y1 k0 j0
        cases z1 with
        | false =>
          have x0 := J2.out.cell (j := 0) rfl
          have x1 := J2.out.cell (j := 1) rfl
          have x2 := J2.out.cell (j := 2) rfl
          have x3 := J2.out.cell (j := 3) rfl
          have x4 := J2.out.cell (j := 4) rfl
          have x5 := J2.out.cell (j := 5) rfl
          have y0 := I2.out.cell (j := 0) rfl
          have y1 := I2.out.cell (j := 1) rfl
          go_wp2_with fail
          refine (C1.out _).mono ?_
          rintro r w3 ⟨rfl, hb⟩
          have J3 := hid (J2.out.below hb)
          have I3 := hid (I2.out.below hb)
          have P3 := hid (P2.out.below hb)
          have Q3 := hid (Q2.out.below hb)
          have B3 := hid (B2.out.trans (hb.mono B2.out.size))
          clear J2 I2 P2 Q2 B2 hb x0 x1 x2 x3 x4 x5 y0 y1
          have HZ := hid (HNO.out (by rw [HP.out]; rfl))
          go_wp2
          go_ret
          exact ⟨by rw [HV.out, HZ.out]; rfl, B0.out.trans (B3.out.mono B0.out.size)⟩
        | true =>
          have x0 := J2.out.cell (j := 0) rfl
          have x1 := J2.out.cell (j := 1) rfl
          have x2 := J2.out.cell (j := 2) rfl
          have x3 := J2.out.cell (j := 3) rfl
          have x4 := J2.out.cell (j := 4) rfl
          have x5 := J2.out.cell (j := 5) rfl
          have y0 := I2.out.cell (j := 0) rfl
          have y1 := I2.out.cell (j := 1) rfl
          go_wp2_with fail
          refine (C1.out _).mono ?_
          rintro r w3 ⟨rfl, hb⟩
          have J3 := hid (J2.out.below hb)
          have I3 := hid (I2.out.below hb)
          have P3 := hid (P2.out.below hb)
          have Q3 := hid (Q2.out.below hb)
          have B3 := hid (B2.out.trans (hb.mono B2.out.size))
          clear J2 I2 P2 Q2 B2 hb x0 x1 x2 x3 x4 x5 y0 y1
          have x0 := J3.out.cell (j := 0) rfl
          have x1 := J3.out.cell (j := 1) rfl
          have x2 := J3.out.cell (j := 2) rfl
          have x3 := J3.out.cell (j := 3) rfl
          have x4 := J3.out.cell (j := 4) rfl
          have x5 := J3.out.cell (j := 5) rfl
          have y0 := I3.out.cell (j := 0) rfl
          have y1 := I3.out.cell (j := 1) rfl
          go_wp2_with fail
          refine (C2.out _ Q3.out).mono ?_
          rintro r w4 ⟨rfl, hb⟩
          have J4 := hid (J3.out.below hb)
          have I4 := hid (I3.out.below hb)
          have P4 := hid (P3.out.below hb)
          have Q4 := hid (Q3.out.below hb)
          have B4 := hid (B3.out.trans (hb.mono B3.out.size))
          clear J3 I3 P3 Q3 B3 hb x0 x1 x2 x3 x4 x5 y0 y1
          cases z2 with
          | true =>
            have HZ := hid (HNO.out (by rw [HP.out]; rfl))
            go_wp2
            go_ret
            exact ⟨by rw [HV.out, HZ.out]; rfl, B0.out.trans (B4.out.mono B0.out.size)⟩
          | false =>
            have x0 := J4.out.cell (j := 0) rfl
            have x1 := J4.out.cell (j := 1) rfl
            have x2 := J4.out.cell (j := 2) rfl
            have x3 := J4.out.cell (j := 3) rfl
            have x4 := J4.out.cell (j := 4) rfl
            have x5 := J4.out.cell (j := 5) rfl
            have y0 := I4.out.cell (j := 0) rfl
            have y1 := I4.out.cell (j := 1) rfl
            go_wp2_with fail
            refine (C3.out _ P4.out Q4.out).mono ?_
            rintro r w5 ⟨rfl, hb⟩
            have J5 := hid (J4.out.below hb)
            have I5 := hid (I4.out.below hb)
            have P5 := hid (P4.out.below hb)
            have Q5 := hid (Q4.out.below hb)
            have B5 := hid (B4.out.trans (hb.mono B4.out.size))
            clear J4 I4 P4 Q4 B4 hb x0 x1 x2 x3 x4 x5 y0 y1
            cases z3 with
            | false =>
              have HZ := hid (HNO.out (by rw [HP.out]; rfl))
              go_wp2
              go_ret
              exact ⟨by rw [HV.out, HZ.out]; rfl, B0.out.trans (B5.out.mono B0.out.size)⟩
            | true =>
              have HY : Hid ((List.range (j + 1)).all (wpk hl wl) = true) := by
                show _ = true
                rw [HYES.out, HT.out, HP.out]; rfl
              go_wp2
              go_roundw
              case rel => exact ⟨j + 1, by omega, by go_num, B5.out, HY.out⟩
              case measure => simp [intOf]; omega
    · have HA : Hid (waitB hl wl = true) := by
        show _ = true
        rw [HV.out]
        rw [show wn = j by omega]
        exact HT.out
      go_wp2
      go_ret
      exact ⟨by rw [HA.out]; rfl, B0.out.trans (HB.out.mono B0.out.size)⟩
end Go.Proofs.Ytbaggkfgnjenoaa

