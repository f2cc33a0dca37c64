/-
  Preps: when one is right, on both sides.
-/
import Derived.Test.YtgnjknbgahickabRcM
import Derived.Test.YtgnjknbgahickabLkA
namespace Go.Proofs.Ytgnjknbgahickab
open Go.RowKit
set_option linter.unusedVariables false
def rcG (r : RC) : Bool := rcOk r.1 r.2.1 r.2.2.1 r.2.2.2.1 r.2.2.2.2
def rcB (r : RC) : Bool := !rcG r
def prOk (t : TX) (l : List RC) : Bool := txOk t && (decide (l.length ≤ 16) && l.all rcG)
theorem any_rcB (l : List RC) : (!l.any rcB) = l.all rcG := by
  induction l with
  | nil => rfl
  | cons a l ih =>
    rw [List.any_cons, List.all_cons, ← ih]
    unfold rcB
    cases rcG a <;> simp
set_option maxHeartbeats 1600000 in
theorem prFn_any (k : Int) (ky vl lo hi : ByteArray) (w : World) : Calls Try.prog 31 #[.agg #[.int .i64 k, .string ky, .string vl, .string lo, .string hi]] w fun r w' => r = .returned (.bool (rcB (k, ky, vl, lo, hi))) ∧ Below w.heap.size w w' := by
  have HV : Hid (rcB (k, ky, vl, lo, hi) = !rcOk k ky vl lo hi) := rfl
  have C1 := hid (fun w => implRecOk_any k ky vl lo hi w)
  generalize rcOk k ky vl lo hi = z at *
  have B0 := hid (below_new (o := .cells #[.int .i64 k, .string ky, .string vl, .string lo, .string hi] 34) (w := w) (Below.refl _ _))
  go_enter Try.func31, Try.ntmps31
  go_wp2_with fail
  refine (C1.out _).mono ?_
  rintro r w1 ⟨rfl, hb⟩
  have B1 := hid (btR B0.out hb)
  clear hb B0
  go_wp2
  go_ret
  exact ⟨by rw [HV.out]; rfl, B1.out⟩
set_option maxHeartbeats 2000000 in
theorem idxR_any (S : Nat → Prop) (a : Option Addr) (n c : Nat) (l : List RC) (w : World) (h : rcR w S (.slice a n c) l) :
    Calls Try.prog 36 #[.slice a n c, .func (.func 31) #[] #[]] w fun e w' => (∃ x : Int, e = .returned (.int .i64 x) ∧ decide (0 ≤ x) = l.any rcB ∧ -1 ≤ x ∧ x ≤ 9223372036854775807) ∧ Below w.heap.size w w' := by
  have HN := hid (Rw.len h).1
  have bk := (Rw.len h).2
  have H0 := hid h
  clear h
  go_enter Try.func36, Try.ntmps36
  go_wp2_with fail
  go_loopw [8] (fun i v => ∃ k : Nat, k ≤ n ∧ i = .int .i64 k ∧ Hid (Below w.heap.size w v) ∧ Hid ((l.take k).any rcB = false)) (fun i _ => n - (intOf i).toNat)
  case atStart => exact ⟨0, Nat.zero_le _, rfl, Below.refl _ _, rfl⟩
  case round =>
    obtain ⟨m, hm, rfl, HB, HT⟩ := hrel
    by_cases hlt : m < n
    · have hlt' : (m : Int) < (n : Int) := by omega
      have hml : m < l.length := by rw [← HN.out]; exact hlt
      obtain ⟨b, off, ha, -, -, hcell⟩ := (H0.out.below HB.out).at (by omega)
      obtain ⟨hc0, hc1, hc2, hc3, hc4⟩ := hcell m hlt
      clear hcell
      subst ha
      generalize hcur : rcAt l m = cur at hc0 hc1 hc2 hc3 hc4
      have HCU : Hid (l[m]?.getD rc0 = cur) := hcur
      clear hcur
      obtain ⟨xk, xky, xvl, xlo, xhi⟩ := cur
      have HCA := hid (prFn_any xk xky xvl xlo xhi wr)
      go_wp2_with fail
      refine HCA.out.mono ?_
      rintro e w1 ⟨rfl, hb⟩
      have HB1 := hid (HB.out.trans (hb.mono HB.out.size))
      clear hb HB HCA
      cases h1 : rcB (xk, xky, xvl, xlo, xhi)
      · have HT2 : Hid ((l.take (m + 1)).any rcB = false) := by
          show _ = false
          rw [anyl_take _ _ rc0 hml, HT.out, HCU.out, h1]; rfl
        go_wp2
        go_roundw
        case rel => exact ⟨m + 1, by omega, by go_num, HB1.out, HT2.out⟩
        case measure => simp [intOf]; omega
      · have HZ : Hid (l.any rcB = true) := anyl_yes _ _ rc0 hml (by rw [HCU.out]; exact h1)
        go_wp2
        go_ret
        exact ⟨⟨_, rfl, by rw [HZ.out]; simp, by omega, by omega⟩, HB1.out⟩
    · have HA : Hid (l.any rcB = false) := by
        have := HT.out
        rwa [List.take_of_length_le (by rw [← HN.out]; omega)] at this
      go_wp2
      go_ret
      exact ⟨⟨_, rfl, by rw [HA.out]; decide, by omega, by omega⟩, HB.out⟩
set_option maxHeartbeats 800000 in
theorem hasR_any (S : Nat → Prop) (a : Option Addr) (n c : Nat) (l : List RC) (w : World) (h : rcR w S (.slice a n c) l) :
    Calls Try.prog 30 #[.slice a n c, .func (.func 31) #[] #[]] w fun e w' => e = .returned (.bool (l.any rcB)) ∧ Below w.heap.size w w' := by
  have H0 := hid (idxR_any S a n c l w h)
  clear h
  go_enter Try.func30, Try.ntmps30
  go_wp2_with fail
  refine H0.out.mono ?_
  rintro e w1 ⟨⟨x, rfl, hx, h0, h1⟩, hb⟩
  have HX := hid hx
  have HB := hid hb
  clear hx hb
  go_wp2
  go_ret
  exact ⟨by rw [← HX.out]; rfl, HB.out⟩
set_option maxHeartbeats 3200000 in
theorem implPrepOk_any (S : Nat → Prop) (c e n : Int) (ra : Option Addr) (rn rc : Nat) (rl : List RC) (w : World) (h : rcR w S (.slice ra rn rc) rl) : Calls Try.prog 17 #[.agg #[.int .i64 c, .int .i64 e, .int .i64 n, .slice ra rn rc]] w fun r w' => r = .returned (.bool (prOk (c, e, n) rl)) ∧ Below w.heap.size w w' := by
  have HV : Hid (prOk (c, e, n) rl = (txOk (c, e, n) && (decide (rl.length ≤ 16) && rl.all rcG))) := rfl
  have HN := hid (Rw.len h).1
  have C1 := hid (fun w => implTxOk_any c e n w)
  generalize txOk (c, e, n) = z1 at *
  have B0 := hid (below_new (o := .cells #[.int .i64 c, .int .i64 e, .int .i64 n, .slice ra rn rc] 47) (w := w) (Below.refl _ _))
  have K0 := hid (Bk.new w 47 [.int .i64 c, .int .i64 e, .int .i64 n, .slice ra rn rc])
  have H0 := hid h
  clear h
  cases z1 with
  | false =>
    go_enter Try.func17, Try.ntmps17
    go_wp2_with fail
    refine (C1.out _).mono ?_
    generalize w.alloc (.cells #[.int .i64 c, .int .i64 e, .int .i64 n, .slice ra rn rc] 47) = U at *
    rintro r w1 ⟨rfl, hb⟩
    have K1 := hid (K0.out.below hb)
    have B1 := hid (B0.out.trans (hb.mono B0.out.size))
    clear K0 B0 hb
    have x3 := K1.out.cell (j := 3) rfl
    go_wp2
    go_ret
    exact ⟨by rw [HV.out]; rfl, B1.out⟩
  | true =>
    by_cases hbig : rn ≤ 16
    · have hb2 : ¬ (16 : Int) < (rn : Int) := by omega
      have HW : Hid (decide (rl.length ≤ 16) = true) := decide_eq_true (by rw [← HN.out]; exact hbig)
      go_enter Try.func17, Try.ntmps17
      go_wp2_with fail
      refine (C1.out _).mono ?_
      generalize w.alloc (.cells #[.int .i64 c, .int .i64 e, .int .i64 n, .slice ra rn rc] 47) = U at *
      rintro r w1 ⟨rfl, hb⟩
      have K1 := hid (K0.out.below hb)
      have B1 := hid (B0.out.trans (hb.mono B0.out.size))
      clear K0 B0 hb
      have x3 := K1.out.cell (j := 3) rfl
      have C2 := hid (hasR_any S ra rn rc rl w1 (H0.out.below B1.out))
      have HA := hid (any_rcB rl)
      generalize rl.any rcB = z2 at *
      go_wp2_with fail
      refine (C2.out).mono ?_
      rintro r w2 ⟨rfl, hb⟩
      have K2 := hid (K1.out.below hb)
      have B2 := hid (B1.out.trans (hb.mono B1.out.size))
      clear K1 B1 hb x3
      go_wp2
      go_ret
      exact ⟨by rw [HV.out, HW.out, ← HA.out]; rfl, B2.out⟩
    · have hb2 : (16 : Int) < (rn : Int) := by omega
      have HW : Hid (decide (rl.length ≤ 16) = false) := decide_eq_false (by rw [← HN.out]; exact hbig)
      go_enter Try.func17, Try.ntmps17
      go_wp2_with fail
      refine (C1.out _).mono ?_
      generalize w.alloc (.cells #[.int .i64 c, .int .i64 e, .int .i64 n, .slice ra rn rc] 47) = U at *
      rintro r w1 ⟨rfl, hb⟩
      have K1 := hid (K0.out.below hb)
      have B1 := hid (B0.out.trans (hb.mono B0.out.size))
      clear K0 B0 hb
      have x3 := K1.out.cell (j := 3) rfl
      go_wp2
      go_ret
      exact ⟨by rw [HV.out, HW.out]; rfl, B1.out⟩
set_option maxHeartbeats 3200000 in
theorem specPrepOk_any (S : Nat → Prop) (c e n : Int) (ra : Option Addr) (rn rc : Nat) (rl : List RC) (w : World) (h : rcR w S (.slice ra rn rc) rl) : Calls Try.prog 15 #[.agg #[.int .i64 c, .int .i64 e, .int .i64 n, .slice ra rn rc]] w fun r w' => r = .returned (.bool (prOk (c, e, n) rl)) ∧ Below w.heap.size w w' := by
  have HV : Hid (prOk (c, e, n) rl = (txOk (c, e, n) && (decide (rl.length ≤ 16) && rl.all rcG))) := rfl
  have HN := hid (Rw.len h).1
  have C1 := hid (fun w => specTxOk_any c e n w)
  generalize txOk (c, e, n) = z1 at *
  have B0 := hid (below_new (o := .cells #[.int .i64 c, .int .i64 e, .int .i64 n, .slice ra rn rc] 47) (w := w) (Below.refl _ _))
  have K0 := hid (Bk.new w 47 [.int .i64 c, .int .i64 e, .int .i64 n, .slice ra rn rc])
  have H0 := hid h
  clear h
  cases z1 with
  | false =>
    go_enter Try.func15, Try.ntmps15
    go_wp2_with fail
    refine (C1.out _).mono ?_
    generalize w.alloc (.cells #[.int .i64 c, .int .i64 e, .int .i64 n, .slice ra rn rc] 47) = U at *
    rintro r w1 ⟨rfl, hb⟩
    have K1 := hid (K0.out.below hb)
    have B1 := hid (B0.out.trans (hb.mono B0.out.size))
    clear K0 B0 hb
    have x3 := K1.out.cell (j := 3) rfl
    go_wp2
    go_ret
    exact ⟨by rw [HV.out]; rfl, B1.out⟩
  | true =>
    by_cases hbig : rn ≤ 16
    · have hb2 : ¬ (16 : Int) < (rn : Int) := by omega
      have HW : Hid (decide (rl.length ≤ 16) = true) := decide_eq_true (by rw [← HN.out]; exact hbig)
      go_enter Try.func15, Try.ntmps15
      go_wp2_with fail
      refine (C1.out _).mono ?_
      generalize w.alloc (.cells #[.int .i64 c, .int .i64 e, .int .i64 n, .slice ra rn rc] 47) = U at *
      rintro r w1 ⟨rfl, hb⟩
      have K1 := hid (K0.out.below hb)
      have B1 := hid (B0.out.trans (hb.mono B0.out.size))
      clear K0 B0 hb
      have x3 := K1.out.cell (j := 3) rfl
      go_wp2_with fail
      go_loopw [18] (fun i v => ∃ k : Nat, k ≤ rn ∧ i = .int .i64 k ∧ Hid (Below w.heap.size w v) ∧ Hid ((rl.take k).all rcG = true)) (fun i _ => rn - (intOf i).toNat)
      case atStart => exact ⟨0, Nat.zero_le _, rfl, B1.out, rfl⟩
      case round =>
        obtain ⟨m, hm, rfl, HB, HT⟩ := hrel
        clear x3 K1 B1
        by_cases hlt : m < rn
        · have hlt' : (m : Int) < (rn : Int) := by omega
          have hml : m < rl.length := by rw [← HN.out]; exact hlt
          obtain ⟨b, off, ha, -, hbw, hcell⟩ := (H0.out.below HB.out).at (by omega)
          obtain ⟨hc0, hc1, hc2, hc3, hc4⟩ := hcell m hlt
          clear hcell
          subst ha
          generalize hcur : rcAt rl m = cur at hc0 hc1 hc2 hc3 hc4
          have HCU : Hid (rcAt rl m = cur) := hcur
          clear hcur
          obtain ⟨xk, xky, xvl, xlo, xhi⟩ := cur
          have HB1 := hid (HB.out.trans ((below_new (o := .cells #[.int .i64 xk, .string xky, .string xvl, .string xlo, .string xhi] 34) (w := wr) (Below.refl _ _)).mono HB.out.size))
          have C2 := hid (fun w => specRecOk_any xk xky xvl xlo xhi w)
          have HG : Hid (rcG (xk, xky, xvl, xlo, xhi) = rcOk xk xky xvl xlo xhi) := rfl
          generalize rcOk xk xky xvl xlo xhi = z at *
          have HTK : Hid ((rl.take (m + 1)).all rcG = z) := by
            show _ = z
            rw [List.take_succ_eq_append_getElem hml, List.all_append, HT.out]
            have : rl[m] = (xk, xky, xvl, xlo, xhi) := by have := HCU.out; simpa [rcAt, hml] using this
            simp [this, HG.out]
          cases z with
          | false =>
            have HF : Hid (rl.all rcG = false) := by
              have e : rl = rl.take (m + 1) ++ rl.drop (m + 1) := (List.take_append_drop _ _).symm
              show _ = false
              rw [e, List.all_append, HTK.out]; rfl
            go_wp2_with fail
            refine (C2.out _).mono ?_
            rintro e w2 ⟨rfl, hb⟩
            have HB2 := hid (btR HB1.out hb)
            clear hb HB1 HB
            go_wp2
            go_ret
            exact ⟨by rw [HV.out, HW.out, HF.out]; rfl, HB2.out⟩
          | true =>
            go_wp2_with fail
            refine (C2.out _).mono ?_
            rintro e w2 ⟨rfl, hb⟩
            have HB2 := hid (btR HB1.out hb)
            clear hb HB1 HB
            go_wp2
            go_roundw
            case rel => exact ⟨m + 1, by omega, by go_num, HB2.out, HTK.out⟩
            case measure => simp [intOf]; omega
        · have HA : Hid (rl.all rcG = true) := by
            have := HT.out
            rwa [List.take_of_length_le (by rw [← HN.out]; omega)] at this
          go_wp2
          go_ret
          exact ⟨by rw [HV.out, HW.out, HA.out]; rfl, HB.out⟩
    · have hb2 : (16 : Int) < (rn : Int) := by omega
      have HW : Hid (decide (rl.length ≤ 16) = false) := decide_eq_false (by rw [← HN.out]; exact hbig)
      go_enter Try.func15, Try.ntmps15
      go_wp2_with fail
      refine (C1.out _).mono ?_
      generalize w.alloc (.cells #[.int .i64 c, .int .i64 e, .int .i64 n, .slice ra rn rc] 47) = U at *
      rintro r w1 ⟨rfl, hb⟩
      have K1 := hid (K0.out.below hb)
      have B1 := hid (B0.out.trans (hb.mono B0.out.size))
      clear K0 B0 hb
      have x3 := K1.out.cell (j := 3) rfl
      go_wp2
      go_ret
      exact ⟨by rw [HV.out, HW.out]; rfl, B1.out⟩
end Go.Proofs.Ytgnjknbgahickab

