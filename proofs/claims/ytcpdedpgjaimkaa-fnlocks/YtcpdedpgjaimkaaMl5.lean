/-
  LockHas on both sides.
-/
import Derived.Test.YtcpdedpgjaimkaaMl2
import Derived.Test.YtcpdedpgjaimkaaMl3
import Derived.Test.YtcpdedpgjaimkaaMl4
namespace Go.Proofs.Ytcpdedpgjaimkaa
open Go.RowKit
set_option linter.unusedVariables false
/-- One lock of t that has the range, and is exclusive where that is asked. -/
def hasF (t : TX) (lo hi : ByteArray) (ex : Bool) (y : LK) : Bool := decide (y.1 = t) && ((y.2.2 || !ex) && rIn lo hi y.2.1.1 y.2.1.2)
def hasV (h l : List LK) (t : TX) (lo hi : ByteArray) (ex : Bool) : Bool := lksOk h l && h.any (hasF t lo hi ex)
theorem hasV_def (h l : List LK) (t : TX) (lo hi : ByteArray) (ex : Bool) : hasV h l t lo hi ex = (lksOk h l && h.any (hasF t lo hi ex)) := rfl
theorem hasF_def (c e n : Int) (lo hi : ByteArray) (ex : Bool) (a b d : Int) (la ua : ByteArray) (xa : Bool) : hasF (c, e, n) lo hi ex ((a, b, d), (la, ua), xa) = (decide ((a, b, d) = (c, e, n)) && ((xa || !ex) && rIn lo hi la ua)) := rfl
set_option maxHeartbeats 800000 in
theorem covers_any (lo hi la ua : ByteArray) (w : World) : Calls Try.prog 95 #[.agg #[.string la, .string ua], .agg #[.string lo, .string hi]] w fun r w' => r = .returned (.bool (rIn lo hi la ua)) ∧ Below w.heap.size w w' := by
  have C1 : Hid (∀ w, Calls Try.prog 144 #[.agg #[.string lo, .string hi], .agg #[.string la, .string ua]] w fun r w' => r = .returned (.bool (rIn lo hi la ua)) ∧ Below w.heap.size w w') := fun w => implRangeIn_any lo hi la ua w
  generalize rIn lo hi la ua = z at *
  go_enter Try.func95, Try.ntmps95
  go_wp2_with fail
  refine (C1.out _).mono ?_
  rintro r w1 ⟨rfl, hb⟩
  have B1 := hid (below_new (below_new hb))
  clear hb
  go_wp2
  go_ret
  exact ⟨rfl, B1.out⟩
set_option maxHeartbeats 3200000 in
theorem lhFn_any (c e n : Int) (lo hi : ByteArray) (ex : Bool) (a b d : Int) (la ua : ByteArray) (xa : Bool) (g1 g2 g3 : Nat) (w : World) (h1 : Bk w g1 73 [.int .i64 c, .int .i64 e, .int .i64 n]) (h2 : Bk w g2 4 [.bool ex]) (h3 : Bk w g3 27 [.string lo, .string hi]) :
    Calls Try.prog 93 #[.agg #[.int .i64 a, .int .i64 b, .int .i64 d, .string la, .string ua, .bool xa], .pointer (some ⟨g1, 0, none⟩), .pointer (some ⟨g2, 0, none⟩), .pointer (some ⟨g3, 0, none⟩)] w fun r w' => r = .returned (.bool (hasF (c, e, n) lo hi ex ((a, b, d), (la, ua), xa))) ∧ Below w.heap.size w w' := by
  have HV := hid (hasF_def c e n lo hi ex a b d la ua xa)
  have C1 := hid (fun w => claimOf_any a b d la ua xa w)
  have C2 := hid (fun w => covers_any lo hi la ua w)
  have hq := eql_tx a b d c e n
  have hg := guard_tx .eql
  generalize rIn lo hi la ua = z3 at *
  generalize decide ((a, b, d) = (c, e, n)) = z1 at *
  have B0 := hid (below_new (o := .cells #[.int .i64 a, .int .i64 b, .int .i64 d, .string la, .string ua, .bool xa] 75) (w := w) (Below.refl _ _))
  have P0 := hid (h1.below B0.out)
  have Q0 := hid (h2.below B0.out)
  have R0 := hid (h3.below B0.out)
  clear h1 h2 h3
  go_enter Try.func93, Try.ntmps93
  go_wp2_with fail
  refine (C1.out _).mono ?_
  generalize w.alloc (.cells #[.int .i64 a, .int .i64 b, .int .i64 d, .string la, .string ua, .bool xa] 75) = U at *
  rintro r w1 ⟨rfl, hb⟩
  have B1 := hid (B0.out.trans (hb.mono B0.out.size))
  have P1 := hid (P0.out.below hb)
  have Q1 := hid (Q0.out.below hb)
  have R1 := hid (R0.out.below hb)
  clear hb B0 P0 Q0 R0
  have x0 := P1.out.cell (j := 0) rfl
  have x1 := P1.out.cell (j := 1) rfl
  have x2 := P1.out.cell (j := 2) rfl
  have y0 := Q1.out.cell (j := 0) rfl
  have r0 := R1.out.cell (j := 0) rfl
  have r1 := R1.out.cell (j := 1) rfl
  have l1 := P1.out.lt
  have l2 := Q1.out.lt
  have l3 := R1.out.lt
  have B2 : Hid (Below w.heap.size w (w1.alloc (.cells #[.string la, .string ua, .int .i64 a, .int .i64 b, .int .i64 d, .bool xa] 149))) := B1.out.trans (below_new (Below.refl _ _) |>.mono B1.out.size)
  have hnot : ∀ (x : Bool) (w : World), (Op.unary .not (.bool x)).run Try.prog w = .ok (.bool (!x)) w := fun _ _ => rfl
  cases z1 with
  | false =>
    go_wp2
    go_ret
    exact ⟨by rw [HV.out]; rfl, B2.out⟩
  | true =>
    cases xa with
    | true =>
      go_wp2_with fail
      refine (C2.out _).mono ?_
      rintro r w3 ⟨rfl, hb⟩
      have B3 := hid (B2.out.trans (hb.mono B2.out.size))
      clear hb
      go_wp2
      go_ret
      exact ⟨by rw [HV.out]; rfl, B3.out⟩
    | false =>
      cases ex with
      | true =>
        go_wp2
        go_ret
        exact ⟨by rw [HV.out]; rfl, B2.out⟩
      | false =>
        go_wp2_with fail
        refine (C2.out _).mono ?_
        rintro r w3 ⟨rfl, hb⟩
        have B3 := hid (B2.out.trans (hb.mono B2.out.size))
        clear hb
        go_wp2
        go_ret
        exact ⟨by rw [HV.out]; rfl, B3.out⟩
set_option maxHeartbeats 3200000 in
theorem implLockHas_any (S S' : Nat → Prop) (ha : Option Addr) (hn hc : Nat) (wa : Option Addr) (wn wc : Nat) (hl wl : List LK) (c e n : Int) (lo hi : ByteArray) (ex : Bool) (w : World) (h1 : Lr w S (.slice ha hn hc) hl) (h2 : Lr w S' (.slice wa wn wc) wl) (hh : hn ≤ 1048577) (hw : wn ≤ 1048577) :
    Calls Try.prog 32 #[.agg #[.slice ha hn hc, .slice wa wn wc], .agg #[.int .i64 c, .int .i64 e, .int .i64 n], .agg #[.string lo, .string hi], .bool ex] w fun r w' => r = .returned (.bool (hasV hl wl (c, e, n) lo hi ex)) ∧ Below w.heap.size w w' := by
  have HV := hid (hasV_def hl wl (c, e, n) lo hi ex)
  have B0 : Hid (Below w.heap.size w ((((w.alloc (.cells #[.slice ha hn hc, .slice wa wn wc] 71)).alloc (.cells #[.int .i64 c, .int .i64 e, .int .i64 n] 73)).alloc (.cells #[.string lo, .string hi] 27)).alloc (.cells #[.bool ex] 4))) := below_new (below_new (below_new (below_new (Below.refl _ _))))
  have K0 := hid ((((Bk.new w 71 [.slice ha hn hc, .slice wa wn wc]).alloc (.cells #[.int .i64 c, .int .i64 e, .int .i64 n] 73)).alloc (.cells #[.string lo, .string hi] 27)).alloc (.cells #[.bool ex] 4))
  have P0 := hid (((Bk.new (w.alloc (.cells #[.slice ha hn hc, .slice wa wn wc] 71)) 73 [.int .i64 c, .int .i64 e, .int .i64 n]).alloc (.cells #[.string lo, .string hi] 27)).alloc (.cells #[.bool ex] 4))
  have R0 := hid ((Bk.new ((w.alloc (.cells #[.slice ha hn hc, .slice wa wn wc] 71)).alloc (.cells #[.int .i64 c, .int .i64 e, .int .i64 n] 73)) 27 [.string lo, .string hi]).alloc (.cells #[.bool ex] 4))
  have Q0 := hid (Bk.new (((w.alloc (.cells #[.slice ha hn hc, .slice wa wn wc] 71)).alloc (.cells #[.int .i64 c, .int .i64 e, .int .i64 n] 73)).alloc (.cells #[.string lo, .string hi] 27)) 4 [.bool ex])
  rw [show (w.alloc (.cells #[.slice ha hn hc, .slice wa wn wc] 71)).heap.size = w.heap.size + 1 by simp] at P0
  rw [show ((w.alloc (.cells #[.slice ha hn hc, .slice wa wn wc] 71)).alloc (.cells #[.int .i64 c, .int .i64 e, .int .i64 n] 73)).heap.size = w.heap.size + 1 + 1 by simp] at R0
  rw [show (((w.alloc (.cells #[.slice ha hn hc, .slice wa wn wc] 71)).alloc (.cells #[.int .i64 c, .int .i64 e, .int .i64 n] 73)).alloc (.cells #[.string lo, .string hi] 27)).heap.size = w.heap.size + 1 + 1 + 1 by simp] at Q0
  have H1 := hid h1
  have H2 := hid h2
  have C1 := hid (fun v h1 h2 => implLocksOk_any S S' ha hn hc wa wn wc hl wl v h1 h2 hh hw)
  have hnot : ∀ (x : Bool) (w : World), (Op.unary .not (.bool x)).run Try.prog w = .ok (.bool (!x)) w := fun _ _ => rfl
  clear h1 h2
  generalize lksOk hl wl = z1 at *
  go_enter Try.func32, Try.ntmps32
  go_wp2_with fail
  refine (C1.out _ (H1.out.below B0.out) (H2.out.below B0.out)).mono ?_
  generalize (((w.alloc (.cells #[.slice ha hn hc, .slice wa wn wc] 71)).alloc (.cells #[.int .i64 c, .int .i64 e, .int .i64 n] 73)).alloc (.cells #[.string lo, .string hi] 27)).alloc (.cells #[.bool ex] 4) = U at *
  rintro r w1 ⟨rfl, hb⟩
  have B1 := hid (B0.out.trans (hb.mono B0.out.size))
  have K1 := hid (K0.out.below hb)
  have P1 := hid (P0.out.below hb)
  have Q1 := hid (Q0.out.below hb)
  have R1 := hid (R0.out.below hb)
  clear hb B0 K0 P0 Q0 R0
  cases z1 with
  | false =>
    go_wp2
    go_ret
    exact ⟨by rw [HV.out]; rfl, B1.out⟩
  | true =>
    have y0 := K1.out.cell (j := 0) rfl
    have C2 := hid (hasLH_any S ha hn hc hl (.pointer (some ⟨w.heap.size + 1, 0, none⟩)) (.pointer (some ⟨w.heap.size + 1 + 1 + 1, 0, none⟩)) (.pointer (some ⟨w.heap.size + 1 + 1, 0, none⟩)) (hasF (c, e, n) lo hi ex) w1 (H1.out.below B1.out) (fun v hv a b d la ua xa => lhFn_any c e n lo hi ex a b d la ua xa _ _ _ v (P1.out.below hv) (Q1.out.below hv) (R1.out.below hv)))
    generalize hl.any (hasF (c, e, n) lo hi ex) = z2 at *
    go_wp2_with fail
    refine C2.out.mono ?_
    rintro r w2 ⟨rfl, hb⟩
    have B2 := hid (B1.out.trans (hb.mono B1.out.size))
    clear hb
    go_wp2
    go_ret
    exact ⟨by rw [HV.out]; rfl, B2.out⟩
set_option maxHeartbeats 4000000 in
theorem specLockHas_any (S S' : Nat → Prop) (ha : Option Addr) (hn hc : Nat) (wa : Option Addr) (wn wc : Nat) (hl wl : List LK) (c e n : Int) (lo hi : ByteArray) (ex : Bool) (w : World) (h1 : Lr w S (.slice ha hn hc) hl) (h2 : Lr w S' (.slice wa wn wc) wl) (hh : hn ≤ 1048577) (hw : wn ≤ 1048577) :
    Calls Try.prog 33 #[.agg #[.slice ha hn hc, .slice wa wn wc], .agg #[.int .i64 c, .int .i64 e, .int .i64 n], .agg #[.string lo, .string hi], .bool ex] w fun r w' => r = .returned (.bool (hasV hl wl (c, e, n) lo hi ex)) ∧ Below w.heap.size w w' := by
  have HV := hid (hasV_def hl wl (c, e, n) lo hi ex)
  have HN := hid (Rw.len h1).1
  have bk := (Rw.len h1).2
  have B0 : Hid (Below w.heap.size w (((w.alloc (.cells #[.slice ha hn hc, .slice wa wn wc] 71)).alloc (.cells #[.int .i64 c, .int .i64 e, .int .i64 n] 73)).alloc (.cells #[.string lo, .string hi] 27))) := below_new (below_new (below_new (Below.refl _ _)))
  have K0 := hid (((Bk.new w 71 [.slice ha hn hc, .slice wa wn wc]).alloc (.cells #[.int .i64 c, .int .i64 e, .int .i64 n] 73)).alloc (.cells #[.string lo, .string hi] 27))
  have P0 := hid ((Bk.new (w.alloc (.cells #[.slice ha hn hc, .slice wa wn wc] 71)) 73 [.int .i64 c, .int .i64 e, .int .i64 n]).alloc (.cells #[.string lo, .string hi] 27))
  have R0 := hid (Bk.new ((w.alloc (.cells #[.slice ha hn hc, .slice wa wn wc] 71)).alloc (.cells #[.int .i64 c, .int .i64 e, .int .i64 n] 73)) 27 [.string lo, .string hi])
  rw [show (w.alloc (.cells #[.slice ha hn hc, .slice wa wn wc] 71)).heap.size = w.heap.size + 1 by simp] at P0
  rw [show ((w.alloc (.cells #[.slice ha hn hc, .slice wa wn wc] 71)).alloc (.cells #[.int .i64 c, .int .i64 e, .int .i64 n] 73)).heap.size = w.heap.size + 1 + 1 by simp] at R0
  have H1 := hid h1
  have H2 := hid h2
  have C1 := hid (fun v h1 h2 => specLocksOk_any S S' ha hn hc wa wn wc hl wl v h1 h2 hh hw)
  have hnot : ∀ (x : Bool) (w : World), (Op.unary .not (.bool x)).run Try.prog w = .ok (.bool (!x)) w := fun _ _ => rfl
  clear h1 h2
  generalize lksOk hl wl = z1 at *
  go_enter Try.func33, Try.ntmps33
  go_wp2_with fail
  refine (C1.out _ (H1.out.below B0.out) (H2.out.below B0.out)).mono ?_
  generalize ((w.alloc (.cells #[.slice ha hn hc, .slice wa wn wc] 71)).alloc (.cells #[.int .i64 c, .int .i64 e, .int .i64 n] 73)).alloc (.cells #[.string lo, .string hi] 27) = U at *
  rintro r w1 ⟨rfl, hb⟩
  have B1 := hid (B0.out.trans (hb.mono B0.out.size))
  have K1 := hid (K0.out.below hb)
  have P1 := hid (P0.out.below hb)
  have R1 := hid (R0.out.below hb)
  clear hb B0 K0 P0 R0
  cases z1 with
  | false =>
    go_wp2
    go_ret
    exact ⟨by rw [HV.out]; rfl, B1.out⟩
  | true =>
    have y0 := K1.out.cell (j := 0) rfl
    have HD := hid (fun a b d la ua xa => hasF_def c e n lo hi ex a b d la ua xa)
    generalize hf : hasF (c, e, n) lo hi ex = f at *
    clear hf
    go_wp2_with fail
    go_loopw [17] (fun i v => ∃ k : Nat, k ≤ hn ∧ i = .int .i64 k ∧ Hid (Below w1.heap.size w1 v) ∧ Hid ((hl.take k).any f = false)) (fun i _ => hn - (intOf i).toNat)
    case atStart => exact ⟨0, Nat.zero_le _, rfl, Below.refl _ _, rfl⟩
    case round =>
      obtain ⟨j, hj, rfl, HB, HT⟩ := hrel
      clear y0
      by_cases hlt : j < hn
      · have hlt' : (j : Int) < (hn : Int) := by omega
        have hml : j < hl.length := by rw [← HN.out]; exact hlt
        obtain ⟨b, off, ha', -, -, hcell⟩ := (H1.out.below (B1.out.trans (HB.out.mono B1.out.size))).at (by omega)
        obtain ⟨hc0, hc1, hc2, hc3, hc4, hc5⟩ := hcell j hlt
        clear hcell
        subst ha'
        generalize hcur : lAt hl j = cur at hc0 hc1 hc2 hc3 hc4 hc5
        have HCU : Hid (hl[j]?.getD lk0 = cur) := hcur
        clear hcur
        obtain ⟨⟨cc, ce, cn⟩, ⟨clo, chi⟩, cex⟩ := cur
        have HF := hid (HD.out cc ce cn clo chi cex)
        have P2 := hid (P1.out.below HB.out)
        have R2 := hid (R1.out.below HB.out)
        have x0 := P2.out.cell (j := 0) rfl
        have x1 := P2.out.cell (j := 1) rfl
        have x2 := P2.out.cell (j := 2) rfl
        have r0 := R2.out.cell (j := 0) rfl
        have r1 := R2.out.cell (j := 1) rfl
        have l1 := P2.out.lt
        have l2 := R2.out.lt
        have C2 : Hid (∀ w, Calls Try.prog 96 #[.agg #[.string lo, .string hi], .agg #[.string clo, .string chi]] w fun r w' => r = .returned (.bool (rIn lo hi clo chi)) ∧ Below w.heap.size w w') := fun w => specRangeIn_any lo hi clo chi w
        have hq := eql_tx cc ce cn c e n
        have hg := guard_tx .eql
        generalize rIn lo hi clo chi = z3 at *
        generalize decide ((cc, ce, cn) = (c, e, n)) = z2 at *
        have J2 := hid (Bk.new wr 75 [.int .i64 cc, .int .i64 ce, .int .i64 cn, .string clo, .string chi, .bool cex])
        have B2 : Hid (Below w1.heap.size w1 (wr.alloc (.cells #[.int .i64 cc, .int .i64 ce, .int .i64 cn, .string clo, .string chi, .bool cex] 75))) := HB.out.trans (below_new (Below.refl _ _) |>.mono HB.out.size)
        have HNO : Hid (f ((cc, ce, cn), (clo, chi), cex) = false → (hl.take (j + 1)).any f = false) := fun h => by rw [anyl_take _ _ lk0 hml, HT.out, HCU.out, h]; rfl
        have HYES : Hid (f ((cc, ce, cn), (clo, chi), cex) = true → hl.any f = true) := fun h => anyl_yes _ _ lk0 hml (by rw [HCU.out]; exact h)
        clear HD hml HCU HT
        cases z2 with
        | false =>
          have HN2 := hid (HNO.out (by rw [HF.out]; rfl))
          go_wp2
          go_roundw
          case rel => exact ⟨j + 1, by omega, by go_num, B2.out, HN2.out⟩
          case measure => simp [intOf]; omega
        | true =>
          go_wp2_with fail
          refine (C2.out _).mono ?_
          generalize wr.alloc (.cells #[.int .i64 cc, .int .i64 ce, .int .i64 cn, .string clo, .string chi, .bool cex] 75) = Y at *
          generalize wr.heap.size = g at *
          rintro r w4 ⟨rfl, hb⟩
          have B4 := hid (B2.out.trans (hb.mono B2.out.size))
          have J4 := hid (J2.out.below hb)
          clear hb B2 J2
          have q5 := J4.out.cell (j := 5) rfl
          cases z3 with
          | false =>
            have HN2 := hid (HNO.out (by rw [HF.out]; cases cex <;> cases ex <;> rfl))
            go_wp2
            go_roundw
            case rel => exact ⟨j + 1, by omega, by go_num, B4.out, HN2.out⟩
            case measure => simp [intOf]; omega
          | true =>
            cases cex with
            | true =>
              have HY2 := hid (HYES.out (by rw [HF.out]; rfl))
              go_wp2
              go_ret
              exact ⟨by rw [HV.out, HY2.out]; rfl, B1.out.trans (B4.out.mono B1.out.size)⟩
            | false =>
              cases ex with
              | true =>
                have HN2 := hid (HNO.out (by rw [HF.out]; rfl))
                go_wp2
                go_roundw
                case rel => exact ⟨j + 1, by omega, by go_num, B4.out, HN2.out⟩
                case measure => simp [intOf]; omega
              | false =>
                have HY2 := hid (HYES.out (by rw [HF.out]; rfl))
                go_wp2
                go_ret
                exact ⟨by rw [HV.out, HY2.out]; rfl, B1.out.trans (B4.out.mono B1.out.size)⟩
      · have HA : Hid (hl.any f = false) := by
          have := HT.out
          rwa [List.take_of_length_le (by rw [← HN.out]; omega)] at this
        go_wp2
        go_ret
        exact ⟨by rw [HV.out, HA.out]; rfl, B1.out.trans (HB.out.mono B1.out.size)⟩
end Go.Proofs.Ytcpdedpgjaimkaa
