/-
  LockAsk of the specification.
-/
import Derived.Test.YtbaggkfgnjenoaaLkU
import Derived.Test.YtbaggkfgnjenoaaLkT
import Derived.Test.YtbaggkfgnjenoaaLkS
namespace Go.Proofs.Ytbaggkfgnjenoaa
open Go.RowKit
set_option linter.unusedVariables false
theorem btL' {u v w : World} (h : Below u.heap.size u v) (k : Below v.heap.size v w) : Below u.heap.size u w := h.trans (k.mono h.size)
set_option maxHeartbeats 16000000 in
set_option maxRecDepth 20000 in
theorem specLockAsk_any (S S' : Nat → Prop) (ha : Option Addr) (hn hc : Nat) (wa : Option Addr) (wn wc : Nat) (hl wl : List LK) (c e n : Int) (lo hi : ByteArray) (ex : Bool) (w : World) (h1 : Lr w S (.slice ha hn hc) hl) (h2 : Lr w S' (.slice wa wn wc) wl) (hh : hn ≤ 1048576) (hw : wn ≤ 1048576) :
    Calls Try.prog 11 #[.agg #[.slice ha hn hc, .slice wa wn wc], .agg #[.int .i64 c, .int .i64 e, .int .i64 n, .string lo, .string hi, .bool ex]] w fun r w' => AskPost w hl wl ((c, e, n), (lo, hi), ex) r w' := by
  have HNH := hid (Rw.len h1).1
  have HNW := hid (Rw.len h2).1
  have B0 : Hid (Below w.heap.size w (((w.alloc (.cells #[.slice ha hn hc, .slice wa wn wc] 25)).alloc (.cells #[.int .i64 c, .int .i64 e, .int .i64 n, .string lo, .string hi, .bool ex] 31)).alloc (.cells #[.slice none 0 0, .slice none 0 0] 25))) := below_new (below_new (below_new (Below.refl _ _)))
  have K0 := hid (((Bk.new w 25 [.slice ha hn hc, .slice wa wn wc]).alloc (.cells #[.int .i64 c, .int .i64 e, .int .i64 n, .string lo, .string hi, .bool ex] 31)).alloc (.cells #[.slice none 0 0, .slice none 0 0] 25))
  have J0 := hid ((Bk.new (w.alloc (.cells #[.slice ha hn hc, .slice wa wn wc] 25)) 31 [.int .i64 c, .int .i64 e, .int .i64 n, .string lo, .string hi, .bool ex]).alloc (.cells #[.slice none 0 0, .slice none 0 0] 25))
  have I0 := hid (Bk.new ((w.alloc (.cells #[.slice ha hn hc, .slice wa wn wc] 25)).alloc (.cells #[.int .i64 c, .int .i64 e, .int .i64 n, .string lo, .string hi, .bool ex] 31)) 25 [.slice none 0 0, .slice none 0 0])
  rw [show (w.alloc (.cells #[.slice ha hn hc, .slice wa wn wc] 25)).heap.size = w.heap.size + 1 by simp] at J0
  rw [show ((w.alloc (.cells #[.slice ha hn hc, .slice wa wn wc] 25)).alloc (.cells #[.int .i64 c, .int .i64 e, .int .i64 n, .string lo, .string hi, .bool ex] 31)).heap.size = w.heap.size + 1 + 1 by simp] at I0
  have H1 := hid h1
  have H2 := hid h2
  have HV := hid (okAsk_def hl wl ((c, e, n), (lo, hi), ex))
  have HM := hid (mustW_def hl wl ((c, e, n), (lo, hi), ex))
  have hll : hl.length ≤ 1048576 := by rw [← HNH.out]; exact hh
  have hlw : wl.length ≤ 1048576 := by rw [← HNW.out]; exact hw
  have C1 := hid (fun v h1 h2 => specLocksOk_any S S' ha hn hc wa wn wc hl wl v h1 h2 (by omega) (by omega))
  have C2 := hid (fun w => specLockOk_any c e n lo hi ex w)
  have C3 := hid (fun v h2 => l07Waits_any c e n S' (.slice ha hn hc) wa wn wc wl v rfl h2)
  have CC : Hid (∀ v, Below w.heap.size w v → Calls Try.prog 56 #[.agg #[.slice ha hn hc, .slice wa wn wc]] v fun r w' => CpPost v hl wl r w') := fun v hv => l07Copy_any S S' ha hn hc wa wn wc hl wl v (H1.out.below hv) (H2.out.below hv) hll hlw
  have CH := hid (fun v h1 => l07Any_any c e n lo hi ex S ha hn hc hl v h1)
  have CW := hid (fun v h2 => l07Any_any c e n lo hi ex S' wa wn wc wl v h2)
  clear h1 h2
  have hnot : ∀ (x : Bool) (w : World), (Op.unary .not (.bool x)).run Try.prog w = .ok (.bool (!x)) w := fun _ _ => rfl
  generalize lksOk hl wl = z1 at *
  generalize lkOk ((c, e, n), (lo, hi), ex) = z2 at *
  generalize hasT wl (c, e, n) = z3 at *
  generalize anyC hl ((c, e, n), (lo, hi), ex) = q1 at *
  generalize anyC wl ((c, e, n), (lo, hi), ex) = q2 at *
  unfold AskPost
  cases z1 with
  | false =>
    have HA := hid (ask_one (HV.out.trans rfl))
    go_enter Try.func11, Try.ntmps11
    go_wp2_with fail
    refine (C1.out _ (H1.out.below B0.out) (H2.out.below B0.out)).mono ?_
    generalize ((w.alloc (.cells #[.slice ha hn hc, .slice wa wn wc] 25)).alloc (.cells #[.int .i64 c, .int .i64 e, .int .i64 n, .string lo, .string hi, .bool ex] 31)).alloc (.cells #[.slice none 0 0, .slice none 0 0] 25) = U at *
    rintro r w1 ⟨rfl, hb⟩
    have K1 := hid (K0.out.below hb)
    have J1 := hid (J0.out.below hb)
    have I1 := hid (I0.out.below hb)
    have B1 := hid (B0.out.trans (hb.mono B0.out.size))
    clear K0 J0 I0 B0 hb
    have z0 := I1.out.cell (j := 0) rfl
    have z1 := I1.out.cell (j := 1) rfl
    have e0 := I1.out.free 0
    have e1 := I1.out.free 1
    go_wp2
    try simp only [Exit.inBlock, Exit.then]
    refine bodyPost_ret (v := .tuple #[.agg #[.slice none 0 0, .slice none 0 0], .int .i64 1]) ?_ rfl ?_
    · exact results_locks2 rfl _ _ (w.heap.size + 1 + 1) rfl rfl (by go_simp) (by go_simp)
    · rw [HA.out.1, HA.out.2]
      exact ⟨none, 0, 0, none, 0, 0, rfl, lo_nil _ _, (B1.out.setCell (p := ⟨w.heap.size + 1 + 1, 0, none⟩) (by simp <;> omega) _).setCell (p := ⟨w.heap.size + 1 + 1, 1, none⟩) (by simp <;> omega) _⟩
  | true =>
    cases z2 with
    | false =>
      have HA := hid (ask_one (HV.out.trans rfl))
      go_enter Try.func11, Try.ntmps11
      go_wp2_with fail
      refine (C1.out _ (H1.out.below B0.out) (H2.out.below B0.out)).mono ?_
      generalize ((w.alloc (.cells #[.slice ha hn hc, .slice wa wn wc] 25)).alloc (.cells #[.int .i64 c, .int .i64 e, .int .i64 n, .string lo, .string hi, .bool ex] 31)).alloc (.cells #[.slice none 0 0, .slice none 0 0] 25) = U at *
      rintro r w1 ⟨rfl, hb⟩
      have K1 := hid (K0.out.below hb)
      have J1 := hid (J0.out.below hb)
      have I1 := hid (I0.out.below hb)
      have B1 := hid (B0.out.trans (hb.mono B0.out.size))
      clear K0 J0 I0 B0 hb
      have y0 := K1.out.cell (j := 0) rfl
      have y1 := K1.out.cell (j := 1) rfl
      have x0 := J1.out.cell (j := 0) rfl
      have x1 := J1.out.cell (j := 1) rfl
      have x2 := J1.out.cell (j := 2) rfl
      have x3 := J1.out.cell (j := 3) rfl
      have x4 := J1.out.cell (j := 4) rfl
      have x5 := J1.out.cell (j := 5) rfl
      go_wp2_with fail
      refine (C2.out _).mono ?_
      rintro r w2 ⟨rfl, hb⟩
      have K2 := hid (K1.out.below hb)
      have J2 := hid (J1.out.below hb)
      have I2 := hid (I1.out.below hb)
      have B2 := hid (B1.out.trans (hb.mono B1.out.size))
      clear K1 J1 I1 B1 hb y0 y1 x0 x1 x2 x3 x4 x5
      have z0 := I2.out.cell (j := 0) rfl
      have z1 := I2.out.cell (j := 1) rfl
      have e0 := I2.out.free 0
      have e1 := I2.out.free 1
      go_wp2
      try simp only [Exit.inBlock, Exit.then]
      refine bodyPost_ret (v := .tuple #[.agg #[.slice none 0 0, .slice none 0 0], .int .i64 1]) ?_ rfl ?_
      · exact results_locks2 rfl _ _ (w.heap.size + 1 + 1) rfl rfl (by go_simp) (by go_simp)
      · rw [HA.out.1, HA.out.2]
        exact ⟨none, 0, 0, none, 0, 0, rfl, lo_nil _ _, (B2.out.setCell (p := ⟨w.heap.size + 1 + 1, 0, none⟩) (by simp <;> omega) _).setCell (p := ⟨w.heap.size + 1 + 1, 1, none⟩) (by simp <;> omega) _⟩
    | true =>
      cases z3 with
      | true =>
        have HA := hid (ask_one (HV.out.trans rfl))
        go_enter Try.func11, Try.ntmps11
        go_wp2_with fail
        refine (C1.out _ (H1.out.below B0.out) (H2.out.below B0.out)).mono ?_
        generalize ((w.alloc (.cells #[.slice ha hn hc, .slice wa wn wc] 25)).alloc (.cells #[.int .i64 c, .int .i64 e, .int .i64 n, .string lo, .string hi, .bool ex] 31)).alloc (.cells #[.slice none 0 0, .slice none 0 0] 25) = U at *
        rintro r w1 ⟨rfl, hb⟩
        have K1 := hid (K0.out.below hb)
        have J1 := hid (J0.out.below hb)
        have I1 := hid (I0.out.below hb)
        have B1 := hid (B0.out.trans (hb.mono B0.out.size))
        clear K0 J0 I0 B0 hb
        have y0 := K1.out.cell (j := 0) rfl
        have y1 := K1.out.cell (j := 1) rfl
        have x0 := J1.out.cell (j := 0) rfl
        have x1 := J1.out.cell (j := 1) rfl
        have x2 := J1.out.cell (j := 2) rfl
        have x3 := J1.out.cell (j := 3) rfl
        have x4 := J1.out.cell (j := 4) rfl
        have x5 := J1.out.cell (j := 5) rfl
        go_wp2_with fail
        refine (C2.out _).mono ?_
        rintro r w2 ⟨rfl, hb⟩
        have K2 := hid (K1.out.below hb)
        have J2 := hid (J1.out.below hb)
        have I2 := hid (I1.out.below hb)
        have B2 := hid (B1.out.trans (hb.mono B1.out.size))
        clear K1 J1 I1 B1 hb y0 y1 x0 x1 x2 x3 x4 x5
        have y0 := K2.out.cell (j := 0) rfl
        have y1 := K2.out.cell (j := 1) rfl
        have x0 := J2.out.cell (j := 0) rfl
        have x1 := J2.out.cell (j := 1) rfl
        have x2 := J2.out.cell (j := 2) rfl
        have x3 := J2.out.cell (j := 3) rfl
        have x4 := J2.out.cell (j := 4) rfl
        have x5 := J2.out.cell (j := 5) rfl
        go_wp2_with fail
        refine (C3.out _ (H2.out.below B2.out)).mono ?_
        rintro r w3 ⟨rfl, hb⟩
        have K3 := hid (K2.out.below hb)
        have J3 := hid (J2.out.below hb)
        have I3 := hid (I2.out.below hb)
        have B3 := hid (B2.out.trans (hb.mono B2.out.size))
        clear K2 J2 I2 B2 hb y0 y1 x0 x1 x2 x3 x4 x5
        have z0 := I3.out.cell (j := 0) rfl
        have z1 := I3.out.cell (j := 1) rfl
        have e0 := I3.out.free 0
        have e1 := I3.out.free 1
        go_wp2
        try simp only [Exit.inBlock, Exit.then]
        refine bodyPost_ret (v := .tuple #[.agg #[.slice none 0 0, .slice none 0 0], .int .i64 1]) ?_ rfl ?_
        · exact results_locks2 rfl _ _ (w.heap.size + 1 + 1) rfl rfl (by go_simp) (by go_simp)
        · rw [HA.out.1, HA.out.2]
          exact ⟨none, 0, 0, none, 0, 0, rfl, lo_nil _ _, (B3.out.setCell (p := ⟨w.heap.size + 1 + 1, 0, none⟩) (by simp <;> omega) _).setCell (p := ⟨w.heap.size + 1 + 1, 1, none⟩) (by simp <;> omega) _⟩
      | false =>
        have h60 := okAsk_len (HV.out.trans rfl)
        rw [← HNH.out, ← HNW.out] at h60
        by_cases h6 : hn + wn = 60
        · have HA := hid (ask_two (HV.out.trans rfl) (by rw [← HNH.out, ← HNW.out]; exact h6))
          have h6' : (60 : Int) ≤ (hn : Int) + (wn : Int) := by omega
          go_enter Try.func11, Try.ntmps11
          go_wp2_with fail
          refine (C1.out _ (H1.out.below B0.out) (H2.out.below B0.out)).mono ?_
          generalize ((w.alloc (.cells #[.slice ha hn hc, .slice wa wn wc] 25)).alloc (.cells #[.int .i64 c, .int .i64 e, .int .i64 n, .string lo, .string hi, .bool ex] 31)).alloc (.cells #[.slice none 0 0, .slice none 0 0] 25) = U at *
          rintro r w1 ⟨rfl, hb⟩
          have K1 := hid (K0.out.below hb)
          have J1 := hid (J0.out.below hb)
          have I1 := hid (I0.out.below hb)
          have B1 := hid (B0.out.trans (hb.mono B0.out.size))
          clear K0 J0 I0 B0 hb
          have y0 := K1.out.cell (j := 0) rfl
          have y1 := K1.out.cell (j := 1) rfl
          have x0 := J1.out.cell (j := 0) rfl
          have x1 := J1.out.cell (j := 1) rfl
          have x2 := J1.out.cell (j := 2) rfl
          have x3 := J1.out.cell (j := 3) rfl
          have x4 := J1.out.cell (j := 4) rfl
          have x5 := J1.out.cell (j := 5) rfl
          go_wp2_with fail
          refine (C2.out _).mono ?_
          rintro r w2 ⟨rfl, hb⟩
          have K2 := hid (K1.out.below hb)
          have J2 := hid (J1.out.below hb)
          have I2 := hid (I1.out.below hb)
          have B2 := hid (B1.out.trans (hb.mono B1.out.size))
          clear K1 J1 I1 B1 hb y0 y1 x0 x1 x2 x3 x4 x5
          have y0 := K2.out.cell (j := 0) rfl
          have y1 := K2.out.cell (j := 1) rfl
          have x0 := J2.out.cell (j := 0) rfl
          have x1 := J2.out.cell (j := 1) rfl
          have x2 := J2.out.cell (j := 2) rfl
          have x3 := J2.out.cell (j := 3) rfl
          have x4 := J2.out.cell (j := 4) rfl
          have x5 := J2.out.cell (j := 5) rfl
          go_wp2_with fail
          refine (C3.out _ (H2.out.below B2.out)).mono ?_
          rintro r w3 ⟨rfl, hb⟩
          have K3 := hid (K2.out.below hb)
          have J3 := hid (J2.out.below hb)
          have I3 := hid (I2.out.below hb)
          have B3 := hid (B2.out.trans (hb.mono B2.out.size))
          clear K2 J2 I2 B2 hb y0 y1 x0 x1 x2 x3 x4 x5
          have y0 := K3.out.cell (j := 0) rfl
          have y1 := K3.out.cell (j := 1) rfl
          have x0 := J3.out.cell (j := 0) rfl
          have x1 := J3.out.cell (j := 1) rfl
          have x2 := J3.out.cell (j := 2) rfl
          have x3 := J3.out.cell (j := 3) rfl
          have x4 := J3.out.cell (j := 4) rfl
          have x5 := J3.out.cell (j := 5) rfl
          have z0 := I3.out.cell (j := 0) rfl
          have z1 := I3.out.cell (j := 1) rfl
          have e0 := I3.out.free 0
          have e1 := I3.out.free 1
          go_wp2
          try simp only [Exit.inBlock, Exit.then]
          refine bodyPost_ret (v := .tuple #[.agg #[.slice none 0 0, .slice none 0 0], .int .i64 2]) ?_ rfl ?_
          · exact results_locks2 rfl _ _ (w.heap.size + 1 + 1) rfl rfl (by go_simp) (by go_simp)
          · rw [HA.out.1, HA.out.2]
            exact ⟨none, 0, 0, none, 0, 0, rfl, lo_nil _ _, (B3.out.setCell (p := ⟨w.heap.size + 1 + 1, 0, none⟩) (by simp <;> omega) _).setCell (p := ⟨w.heap.size + 1 + 1, 1, none⟩) (by simp <;> omega) _⟩
        · have HA := hid (ask_put (HV.out.trans rfl) (by rw [← HNH.out, ← HNW.out]; exact h6))
          have h6' : ¬ (60 : Int) ≤ (hn : Int) + (wn : Int) := by omega
          go_enter Try.func11, Try.ntmps11
          go_wp2_with fail
          refine (C1.out _ (H1.out.below B0.out) (H2.out.below B0.out)).mono ?_
          generalize ((w.alloc (.cells #[.slice ha hn hc, .slice wa wn wc] 25)).alloc (.cells #[.int .i64 c, .int .i64 e, .int .i64 n, .string lo, .string hi, .bool ex] 31)).alloc (.cells #[.slice none 0 0, .slice none 0 0] 25) = U at *
          rintro r w1 ⟨rfl, hb⟩
          have K1 := hid (K0.out.below hb)
          have J1 := hid (J0.out.below hb)
          have I1 := hid (I0.out.below hb)
          have B1 := hid (B0.out.trans (hb.mono B0.out.size))
          clear K0 J0 I0 B0 hb
          have y0 := K1.out.cell (j := 0) rfl
          have y1 := K1.out.cell (j := 1) rfl
          have x0 := J1.out.cell (j := 0) rfl
          have x1 := J1.out.cell (j := 1) rfl
          have x2 := J1.out.cell (j := 2) rfl
          have x3 := J1.out.cell (j := 3) rfl
          have x4 := J1.out.cell (j := 4) rfl
          have x5 := J1.out.cell (j := 5) rfl
          go_wp2_with fail
          refine (C2.out _).mono ?_
          rintro r w2 ⟨rfl, hb⟩
          have K2 := hid (K1.out.below hb)
          have J2 := hid (J1.out.below hb)
          have I2 := hid (I1.out.below hb)
          have B2 := hid (B1.out.trans (hb.mono B1.out.size))
          clear K1 J1 I1 B1 hb y0 y1 x0 x1 x2 x3 x4 x5
          have y0 := K2.out.cell (j := 0) rfl
          have y1 := K2.out.cell (j := 1) rfl
          have x0 := J2.out.cell (j := 0) rfl
          have x1 := J2.out.cell (j := 1) rfl
          have x2 := J2.out.cell (j := 2) rfl
          have x3 := J2.out.cell (j := 3) rfl
          have x4 := J2.out.cell (j := 4) rfl
          have x5 := J2.out.cell (j := 5) rfl
          go_wp2_with fail
          refine (C3.out _ (H2.out.below B2.out)).mono ?_
          rintro r w3 ⟨rfl, hb⟩
          have K3 := hid (K2.out.below hb)
          have J3 := hid (J2.out.below hb)
          have I3 := hid (I2.out.below hb)
          have B3 := hid (B2.out.trans (hb.mono B2.out.size))
          clear K2 J2 I2 B2 hb y0 y1 x0 x1 x2 x3 x4 x5
          have y0 := K3.out.cell (j := 0) rfl
          have y1 := K3.out.cell (j := 1) rfl
          have x0 := J3.out.cell (j := 0) rfl
          have x1 := J3.out.cell (j := 1) rfl
          have x2 := J3.out.cell (j := 2) rfl
          have x3 := J3.out.cell (j := 3) rfl
          have x4 := J3.out.cell (j := 4) rfl
          have x5 := J3.out.cell (j := 5) rfl
          go_wp2_with fail
          refine (CC.out _ B3.out).mono ?_
          rintro r w4 ⟨a7, n7, c7, b7, m7, d7, rfl, hO, hb4⟩
          have hb := btL' hb4 (below_new (o := .cells #[.slice a7 n7 c7, .slice b7 m7 d7] 25) (w := w4) (Below.refl _ _))
          have K4 := hid (K3.out.below hb)
          have J4 := hid (J3.out.below hb)
          have I4 := hid (I3.out.below hb)
          have B4 := hid (B3.out.trans (hb.mono B3.out.size))
          have O4 := hid (hO.below (below_new (o := .cells #[.slice a7 n7 c7, .slice b7 m7 d7] 25) (w := w4) (Below.refl _ _)))
          have E4 := hid (Bk.new w4 25 [.slice a7 n7 c7, .slice b7 m7 d7])
          have F4 : Hid (∀ y, lbl (.slice a7 n7 c7) (.slice b7 m7 d7) y → w3.heap.size ≤ y ∧ y < w4.heap.size) := fun y hy => hO.lt hy
          have S3 : Hid (w.heap.size + 1 + 1 < w3.heap.size) := I3.out.lt
          have S4 : Hid (w3.heap.size ≤ w4.heap.size) := hb4.size
          have S0 := hid B3.out.size
          clear hb hb4 hO K3 J3 I3 B3 y0 y1 x0 x1 x2 x3 x4 x5
          have y0 := K4.out.cell (j := 0) rfl
          have x0 := J4.out.cell (j := 0) rfl
          have x1 := J4.out.cell (j := 1) rfl
          have x2 := J4.out.cell (j := 2) rfl
          have x3 := J4.out.cell (j := 3) rfl
          have x4 := J4.out.cell (j := 4) rfl
          have x5 := J4.out.cell (j := 5) rfl
          have kl := K4.out.lt
          have jl := J4.out.lt
          go_wp2_with fail
          refine (CH.out _ (H1.out.below B4.out)).mono ?_
          generalize w4.alloc (.cells #[.slice a7 n7 c7, .slice b7 m7 d7] 25) = V4 at *
          generalize w4.heap.size = gb at *
          rintro r w5 ⟨rfl, hb⟩
          have K5 := hid (K4.out.below hb)
          have J5 := hid (J4.out.below hb)
          have I5 := hid (I4.out.below hb)
          have O5 := hid (O4.out.below hb)
          have E5 := hid (E4.out.below hb)
          have B5 := hid (B4.out.trans (hb.mono B4.out.size))
          clear hb K4 J4 I4 O4 E4 B4 y0 x0 x1 x2 x3 x4 x5 kl jl
          cases q1 with
          | true =>
            have HPL := hid (putL_yes (HM.out.trans rfl))
            have x0 := J5.out.cell (j := 0) rfl
            have x1 := J5.out.cell (j := 1) rfl
            have x2 := J5.out.cell (j := 2) rfl
            have x3 := J5.out.cell (j := 3) rfl
            have x4 := J5.out.cell (j := 4) rfl
            have x5 := J5.out.cell (j := 5) rfl
            have g1 := E5.out.cell (j := 1) rfl
            have el := E5.out.lt
            have jl := J5.out.lt
            have HN : Hid (Bk (w5.alloc (.cells #[.int .i64 c, .int .i64 e, .int .i64 n, .string lo, .string hi, .bool ex] 31)) w5.heap.size 31 (lcs [((c, e, n), (lo, hi), ex)])) := Bk.new w5 31 [.int .i64 c, .int .i64 e, .int .i64 n, .string lo, .string hi, .bool ex]
            have hb := below_new (o := .cells #[.int .i64 c, .int .i64 e, .int .i64 n, .string lo, .string hi, .bool ex] 31) (w := w5) (Below.refl _ _)
            have O8 := hid (O5.out.below hb)
            have E8 := hid (E5.out.below hb)
            have I8 := hid (I5.out.below hb)
            have B8 := hid (B5.out.trans (hb.mono B5.out.size))
            have Z8 : Hid (w3.heap.size ≤ (w5.alloc (.cells #[.int .i64 c, .int .i64 e, .int .i64 n, .string lo, .string hi, .bool ex] 31)).heap.size) := by have h1 := E8.out.lt; have h2 := S4.out; show _ ≤ _; omega
            have ES : Hid (gb < w5.heap.size) := E5.out.lt
            clear hb O5 E5 I5 B5
            go_wp2_with (at_builtin; refine wpList_append_lk rfl _ _ rfl w3.heap.size _ wl rfl O8.out.hw w5.heap.size ((c, e, n), (lo, hi), ex) rfl HN.out hlw Z8.out ?_)
            intro a9 n9 c9 w9 hO9 hg9 ha9
            have P9 := hid (O8.out.pushW hO9 hg9 (by simpa using ha9))
            have o9 : Only (fun y => (Value.slice b7 m7 d7).ownBlock = some y) (w5.alloc (.cells #[.int .i64 c, .int .i64 e, .int .i64 n, .string lo, .string hi, .bool ex] 31)) w9 := only_of_grown hg9 (fun k e => e)
            have E9 := hid (E8.out.to o9 (fun q => by have := F4.out _ (.inr q); omega))
            have I9 := hid (I8.out.to o9 (fun q => by have h1 := F4.out _ (.inr q); have h2 := S3.out; omega))
            have B9 := hid (B8.out.trans (o9.below B8.out.size (fun b hb q => by have h1 := F4.out _ (.inr q); have h2 := S0.out; omega)))
            have N9 : Hid (∀ y, lbl (.slice a7 n7 c7) (.slice a9 n9 c9) y → w3.heap.size ≤ y ∧ y ≠ gb) := by
              intro y hy
              have key : (Value.slice a9 n9 c9).ownBlock = some y → w3.heap.size ≤ y ∧ y ≠ gb := by
                intro q
                rcases ha9 with h1 | h1
                · rw [h1] at q; have := F4.out y (.inr q); omega
                · rw [h1] at q
                  have e3 : w5.heap.size + 1 = y := Option.some.inj q
                  have h2 := ES.out
                  have h3 := S4.out
                  omega
              rcases hy with q | q
              · exact (by have := F4.out y (.inl q); omega)
              · exact key q
            clear hO9 hg9 ha9 o9 O8 E8 I8 B8 g1 x0 x1 x2 x3 x4 x5
            have g0 := E9.out.cell (j := 0) rfl
            have g1 := E9.out.cell (j := 1) rfl
            have f1 := E9.out.free 1
            have z0 := I9.out.cell (j := 0) rfl
            have z1 := I9.out.cell (j := 1) rfl
            have e0 := I9.out.free 0
            have e1 := I9.out.free 1
            have d1 : ¬ gb = w.heap.size + 1 + 1 := by have h1 := S3.out; have h2 := S4.out; omega
            have d2 : ¬ w.heap.size + 1 + 1 = gb := by have h1 := S3.out; have h2 := S4.out; omega
            have HF : Hid (∀ W, Only (fun y => y = gb ∨ y = w.heap.size + 1 + 1) w9 W → LO W w.heap.size (.slice a7 n7 c7) (.slice a9 n9 c9) (putL hl wl ((c, e, n), (lo, hi), ex)).1 (putL hl wl ((c, e, n), (lo, hi), ex)).2 ∧ Below w.heap.size w W) := fun W hW => by
              rw [HPL.out]
              have h1 := S3.out
              have h2 := S4.out
              have h3 := S0.out
              exact ⟨(P9.out.to hW (fun y hy q => by have := N9.out y hy; omega)).base (by omega), B9.out.trans (hW.below B9.out.size (fun b hb q => by omega))⟩
            clear P9 N9 B9
            go_wp2
            try simp only [Exit.inBlock, Exit.then]
            refine bodyPost_ret (v := .tuple #[.agg #[.slice a7 n7 c7, .slice a9 n9 c9], .int .i64 3]) ?_ rfl ?_
            · exact results_locks2 rfl _ _ (w.heap.size + 1 + 1) rfl rfl (by go_simp) (by go_simp)
            · rw [HA.out.1, HA.out.2, HM.out]
              exact ⟨a7, n7, c7, a9, n9, c9, rfl, HF.out _ (((only_set (R := fun y => y = gb ∨ y = w.heap.size + 1 + 1) (p := ⟨gb, 1, none⟩) (.inl rfl) _).trans (only_set (R := fun y => y = gb ∨ y = w.heap.size + 1 + 1) (p := ⟨w.heap.size + 1 + 1, 0, none⟩) (.inr rfl) _)).trans (only_set (R := fun y => y = gb ∨ y = w.heap.size + 1 + 1) (p := ⟨w.heap.size + 1 + 1, 1, none⟩) (.inr rfl) _))⟩
          | false =>
            have y1 := K5.out.cell (j := 1) rfl
            have x0 := J5.out.cell (j := 0) rfl
            have x1 := J5.out.cell (j := 1) rfl
            have x2 := J5.out.cell (j := 2) rfl
            have x3 := J5.out.cell (j := 3) rfl
            have x4 := J5.out.cell (j := 4) rfl
            have x5 := J5.out.cell (j := 5) rfl
            go_wp2_with fail
            refine (CW.out _ (H2.out.below B5.out)).mono ?_
            rintro r w6 ⟨rfl, hb⟩
            have J6 := hid (J5.out.below hb)
            have I6 := hid (I5.out.below hb)
            have O6 := hid (O5.out.below hb)
            have E6 := hid (E5.out.below hb)
            have B6 := hid (B5.out.trans (hb.mono B5.out.size))
            clear hb K5 J5 I5 O5 E5 B5 y1 x0 x1 x2 x3 x4 x5
            cases q2 with
            | true =>
              have HPL := hid (putL_yes (HM.out.trans rfl))
              have x0 := J6.out.cell (j := 0) rfl
              have x1 := J6.out.cell (j := 1) rfl
              have x2 := J6.out.cell (j := 2) rfl
              have x3 := J6.out.cell (j := 3) rfl
              have x4 := J6.out.cell (j := 4) rfl
              have x5 := J6.out.cell (j := 5) rfl
              have g1 := E6.out.cell (j := 1) rfl
              have el := E6.out.lt
              have jl := J6.out.lt
              have HN : Hid (Bk (w6.alloc (.cells #[.int .i64 c, .int .i64 e, .int .i64 n, .string lo, .string hi, .bool ex] 31)) w6.heap.size 31 (lcs [((c, e, n), (lo, hi), ex)])) := Bk.new w6 31 [.int .i64 c, .int .i64 e, .int .i64 n, .string lo, .string hi, .bool ex]
              have hb := below_new (o := .cells #[.int .i64 c, .int .i64 e, .int .i64 n, .string lo, .string hi, .bool ex] 31) (w := w6) (Below.refl _ _)
              have O8 := hid (O6.out.below hb)
              have E8 := hid (E6.out.below hb)
              have I8 := hid (I6.out.below hb)
              have B8 := hid (B6.out.trans (hb.mono B6.out.size))
              have Z8 : Hid (w3.heap.size ≤ (w6.alloc (.cells #[.int .i64 c, .int .i64 e, .int .i64 n, .string lo, .string hi, .bool ex] 31)).heap.size) := by have h1 := E8.out.lt; have h2 := S4.out; show _ ≤ _; omega
              have ES : Hid (gb < w6.heap.size) := E6.out.lt
              clear hb O6 E6 I6 B6
              go_wp2_with (at_builtin; refine wpList_append_lk rfl _ _ rfl w3.heap.size _ wl rfl O8.out.hw w6.heap.size ((c, e, n), (lo, hi), ex) rfl HN.out hlw Z8.out ?_)
              intro a9 n9 c9 w9 hO9 hg9 ha9
              have P9 := hid (O8.out.pushW hO9 hg9 (by simpa using ha9))
              have o9 : Only (fun y => (Value.slice b7 m7 d7).ownBlock = some y) (w6.alloc (.cells #[.int .i64 c, .int .i64 e, .int .i64 n, .string lo, .string hi, .bool ex] 31)) w9 := only_of_grown hg9 (fun k e => e)
              have E9 := hid (E8.out.to o9 (fun q => by have := F4.out _ (.inr q); omega))
              have I9 := hid (I8.out.to o9 (fun q => by have h1 := F4.out _ (.inr q); have h2 := S3.out; omega))
              have B9 := hid (B8.out.trans (o9.below B8.out.size (fun b hb q => by have h1 := F4.out _ (.inr q); have h2 := S0.out; omega)))
              have N9 : Hid (∀ y, lbl (.slice a7 n7 c7) (.slice a9 n9 c9) y → w3.heap.size ≤ y ∧ y ≠ gb) := by
                intro y hy
                have key : (Value.slice a9 n9 c9).ownBlock = some y → w3.heap.size ≤ y ∧ y ≠ gb := by
                  intro q
                  rcases ha9 with h1 | h1
                  · rw [h1] at q; have := F4.out y (.inr q); omega
                  · rw [h1] at q
                    have e3 : w6.heap.size + 1 = y := Option.some.inj q
                    have h2 := ES.out
                    have h3 := S4.out
                    omega
                rcases hy with q | q
                · exact (by have := F4.out y (.inl q); omega)
                · exact key q
              clear hO9 hg9 ha9 o9 O8 E8 I8 B8 g1 x0 x1 x2 x3 x4 x5
              have g0 := E9.out.cell (j := 0) rfl
              have g1 := E9.out.cell (j := 1) rfl
              have f1 := E9.out.free 1
              have z0 := I9.out.cell (j := 0) rfl
              have z1 := I9.out.cell (j := 1) rfl
              have e0 := I9.out.free 0
              have e1 := I9.out.free 1
              have d1 : ¬ gb = w.heap.size + 1 + 1 := by have h1 := S3.out; have h2 := S4.out; omega
              have d2 : ¬ w.heap.size + 1 + 1 = gb := by have h1 := S3.out; have h2 := S4.out; omega
              have HF : Hid (∀ W, Only (fun y => y = gb ∨ y = w.heap.size + 1 + 1) w9 W → LO W w.heap.size (.slice a7 n7 c7) (.slice a9 n9 c9) (putL hl wl ((c, e, n), (lo, hi), ex)).1 (putL hl wl ((c, e, n), (lo, hi), ex)).2 ∧ Below w.heap.size w W) := fun W hW => by
                rw [HPL.out]
                have h1 := S3.out
                have h2 := S4.out
                have h3 := S0.out
                exact ⟨(P9.out.to hW (fun y hy q => by have := N9.out y hy; omega)).base (by omega), B9.out.trans (hW.below B9.out.size (fun b hb q => by omega))⟩
              clear P9 N9 B9
              go_wp2
              try simp only [Exit.inBlock, Exit.then]
              refine bodyPost_ret (v := .tuple #[.agg #[.slice a7 n7 c7, .slice a9 n9 c9], .int .i64 3]) ?_ rfl ?_
              · exact results_locks2 rfl _ _ (w.heap.size + 1 + 1) rfl rfl (by go_simp) (by go_simp)
              · rw [HA.out.1, HA.out.2, HM.out]
                exact ⟨a7, n7, c7, a9, n9, c9, rfl, HF.out _ (((only_set (R := fun y => y = gb ∨ y = w.heap.size + 1 + 1) (p := ⟨gb, 1, none⟩) (.inl rfl) _).trans (only_set (R := fun y => y = gb ∨ y = w.heap.size + 1 + 1) (p := ⟨w.heap.size + 1 + 1, 0, none⟩) (.inr rfl) _)).trans (only_set (R := fun y => y = gb ∨ y = w.heap.size + 1 + 1) (p := ⟨w.heap.size + 1 + 1, 1, none⟩) (.inr rfl) _))⟩
            | false =>
              have HPL := hid (putL_no (HM.out.trans rfl))
              have x0 := J6.out.cell (j := 0) rfl
              have x1 := J6.out.cell (j := 1) rfl
              have x2 := J6.out.cell (j := 2) rfl
              have x3 := J6.out.cell (j := 3) rfl
              have x4 := J6.out.cell (j := 4) rfl
              have x5 := J6.out.cell (j := 5) rfl
              have g0 := E6.out.cell (j := 0) rfl
              have el := E6.out.lt
              have jl := J6.out.lt
              have HN : Hid (Bk (w6.alloc (.cells #[.int .i64 c, .int .i64 e, .int .i64 n, .string lo, .string hi, .bool ex] 31)) w6.heap.size 31 (lcs [((c, e, n), (lo, hi), ex)])) := Bk.new w6 31 [.int .i64 c, .int .i64 e, .int .i64 n, .string lo, .string hi, .bool ex]
              have hb := below_new (o := .cells #[.int .i64 c, .int .i64 e, .int .i64 n, .string lo, .string hi, .bool ex] 31) (w := w6) (Below.refl _ _)
              have O8 := hid (O6.out.below hb)
              have E8 := hid (E6.out.below hb)
              have I8 := hid (I6.out.below hb)
              have B8 := hid (B6.out.trans (hb.mono B6.out.size))
              have Z8 : Hid (w3.heap.size ≤ (w6.alloc (.cells #[.int .i64 c, .int .i64 e, .int .i64 n, .string lo, .string hi, .bool ex] 31)).heap.size) := by have h1 := E8.out.lt; have h2 := S4.out; show _ ≤ _; omega
              have ES : Hid (gb < w6.heap.size) := E6.out.lt
              clear hb O6 E6 I6 B6
              go_wp2_with (at_builtin; refine wpList_append_lk rfl _ _ rfl w3.heap.size _ hl rfl O8.out.hh w6.heap.size ((c, e, n), (lo, hi), ex) rfl HN.out hll Z8.out ?_)
              intro a9 n9 c9 w9 hO9 hg9 ha9
              have P9 := hid (O8.out.pushH hO9 hg9 (by simpa using ha9))
              have o9 : Only (fun y => (Value.slice a7 n7 c7).ownBlock = some y) (w6.alloc (.cells #[.int .i64 c, .int .i64 e, .int .i64 n, .string lo, .string hi, .bool ex] 31)) w9 := only_of_grown hg9 (fun k e => e)
              have E9 := hid (E8.out.to o9 (fun q => by have := F4.out _ (.inl q); omega))
              have I9 := hid (I8.out.to o9 (fun q => by have h1 := F4.out _ (.inl q); have h2 := S3.out; omega))
              have B9 := hid (B8.out.trans (o9.below B8.out.size (fun b hb q => by have h1 := F4.out _ (.inl q); have h2 := S0.out; omega)))
              have N9 : Hid (∀ y, lbl (.slice a9 n9 c9) (.slice b7 m7 d7) y → w3.heap.size ≤ y ∧ y ≠ gb) := by
                intro y hy
                have key : (Value.slice a9 n9 c9).ownBlock = some y → w3.heap.size ≤ y ∧ y ≠ gb := by
                  intro q
                  rcases ha9 with h1 | h1
                  · rw [h1] at q; have := F4.out y (.inl q); omega
                  · rw [h1] at q
                    have e3 : w6.heap.size + 1 = y := Option.some.inj q
                    have h2 := ES.out
                    have h3 := S4.out
                    omega
                rcases hy with q | q
                · exact key q
                · exact (by have := F4.out y (.inr q); omega)
              clear hO9 hg9 ha9 o9 O8 E8 I8 B8 g0 x0 x1 x2 x3 x4 x5
              have g0 := E9.out.cell (j := 0) rfl
              have g1 := E9.out.cell (j := 1) rfl
              have f0 := E9.out.free 0
              have z0 := I9.out.cell (j := 0) rfl
              have z1 := I9.out.cell (j := 1) rfl
              have e0 := I9.out.free 0
              have e1 := I9.out.free 1
              have d1 : ¬ gb = w.heap.size + 1 + 1 := by have h1 := S3.out; have h2 := S4.out; omega
              have d2 : ¬ w.heap.size + 1 + 1 = gb := by have h1 := S3.out; have h2 := S4.out; omega
              have HF : Hid (∀ W, Only (fun y => y = gb ∨ y = w.heap.size + 1 + 1) w9 W → LO W w.heap.size (.slice a9 n9 c9) (.slice b7 m7 d7) (putL hl wl ((c, e, n), (lo, hi), ex)).1 (putL hl wl ((c, e, n), (lo, hi), ex)).2 ∧ Below w.heap.size w W) := fun W hW => by
                rw [HPL.out]
                have h1 := S3.out
                have h2 := S4.out
                have h3 := S0.out
                exact ⟨(P9.out.to hW (fun y hy q => by have := N9.out y hy; omega)).base (by omega), B9.out.trans (hW.below B9.out.size (fun b hb q => by omega))⟩
              clear P9 N9 B9
              go_wp2
              try simp only [Exit.inBlock, Exit.then]
              refine bodyPost_ret (v := .tuple #[.agg #[.slice a9 n9 c9, .slice b7 m7 d7], .int .i64 0]) ?_ rfl ?_
              · exact results_locks2 rfl _ _ (w.heap.size + 1 + 1) rfl rfl (by go_simp) (by go_simp)
              · rw [HA.out.1, HA.out.2, HM.out]
                exact ⟨a9, n9, c9, b7, m7, d7, rfl, HF.out _ (((only_set (R := fun y => y = gb ∨ y = w.heap.size + 1 + 1) (p := ⟨gb, 0, none⟩) (.inl rfl) _).trans (only_set (R := fun y => y = gb ∨ y = w.heap.size + 1 + 1) (p := ⟨w.heap.size + 1 + 1, 0, none⟩) (.inr rfl) _)).trans (only_set (R := fun y => y = gb ∨ y = w.heap.size + 1 + 1) (p := ⟨w.heap.size + 1 + 1, 1, none⟩) (.inr rfl) _))⟩
end Go.Proofs.Ytbaggkfgnjenoaa

