/-
  LockAsk of the program.
-/
import Derived.Test.YtcpdedpgjaimkaaMl2
import Derived.Deep.DeepCutAuto
namespace Go.Proofs.Ytcpdedpgjaimkaa
open Go.RowKit
set_option linter.unusedVariables false
def okAsk (h l : List LK) (x : LK) : Bool := lksOk h l && (lkOk x && !hasT l x.1)
theorem okAsk_def (h l : List LK) (x : LK) : okAsk h l x = (lksOk h l && (lkOk x && !hasT l x.1)) := rfl
theorem ask_one {h l : List LK} {x : LK} (e : okAsk h l x = false) : askC h l x = 1 ∧ askT h l x = ([], []) := by
  unfold okAsk at e
  unfold askC askT
  rw [e]
  exact ⟨rfl, rfl⟩
theorem ask_two {h l : List LK} {x : LK} (e : okAsk h l x = true) (k : h.length + l.length = 60) : askC h l x = 2 ∧ askT h l x = ([], []) := by
  unfold okAsk at e
  unfold askC askT
  rw [e, if_pos rfl, if_pos rfl, if_pos k, if_pos k]
  exact ⟨rfl, rfl⟩
theorem ask_put {h l : List LK} {x : LK} (e : okAsk h l x = true) (k : ¬ h.length + l.length = 60) : askC h l x = (if mustW h l x then 3 else 0) ∧ askT h l x = putL h l x := by
  unfold okAsk at e
  unfold askC askT
  rw [e, if_pos rfl, if_pos rfl, if_neg k, if_neg k]
  exact ⟨rfl, rfl⟩
theorem okAsk_len {h l : List LK} {x : LK} (e : okAsk h l x = true) : h.length + l.length ≤ 60 := by
  unfold okAsk at e
  simp only [Bool.and_eq_true] at e
  exact lksOk_len e.1
/-- What LockAsk leaves. -/
def AskPost (w : World) (hl wl : List LK) (x : LK) (e : Ending) (w' : World) : Prop :=
  ∃ a n c a' n' c', e = .returned (.tuple #[.agg #[.slice a n c, .slice a' n' c'], .int .i64 (askC hl wl x)]) ∧ LO w' w.heap.size (.slice a n c) (.slice a' n' c') (askT hl wl x).1 (askT hl wl x).2 ∧ Below w.heap.size w w'
theorem kl8o {u v v' : World} {R : Nat → Prop} {a0 a1 a2 a3 a4 a5 a6 a7 : Addr} {x0 x1 x2 x3 x4 x5 x6 x7 : Value} (ho : Only R v v') (hR : ∀ y, R y → u.heap.size ≤ y) (h : v.cell? a0 = some x0 ∧ v.cell? a1 = some x1 ∧ v.cell? a2 = some x2 ∧ v.cell? a3 = some x3 ∧ v.cell? a4 = some x4 ∧ v.cell? a5 = some x5 ∧ v.cell? a6 = some x6 ∧ v.cell? a7 = some x7 ∧ KL u v [(a0, x0), (a1, x1), (a2, x2), (a3, x3), (a4, x4), (a5, x5), (a6, x6), (a7, x7)]) :
    v'.cell? a0 = some x0 ∧ v'.cell? a1 = some x1 ∧ v'.cell? a2 = some x2 ∧ v'.cell? a3 = some x3 ∧ v'.cell? a4 = some x4 ∧ v'.cell? a5 = some x5 ∧ v'.cell? a6 = some x6 ∧ v'.cell? a7 = some x7 ∧ KL u v' [(a0, x0), (a1, x1), (a2, x2), (a3, x3), (a4, x4), (a5, x5), (a6, x6), (a7, x7)] :=
  kl8 ⟨h.2.2.2.2.2.2.2.2.cells, h.2.2.2.2.2.2.2.2.bel.trans (ho.below h.2.2.2.2.2.2.2.2.bel.size (fun b hb hr => by have := hR b hr; omega))⟩
/-- A table in its box, all of it made since U. -/
structure AB (U v : World) (gb : Nat) (h k : Value) (hl wl : List LK) : Prop where
  bel : Below U.heap.size U v
  box : Bk v gb 71 [h, k]
  own : LO v U.heap.size h k hl wl
  lo : U.heap.size ≤ gb
  sep : ∀ y, lbl h k y → y ≠ gb
theorem AB.below {U v v' : World} {gb : Nat} {h k : Value} {hl wl : List LK} (H : AB U v gb h k hl wl) (hb : Below v.heap.size v v') : AB U v' gb h k hl wl := ⟨H.bel.trans (hb.mono H.bel.size), H.box.below hb, H.own.below hb, H.lo, H.sep⟩
theorem AB.fin {w U v W : World} {gb s : Nat} {h k : Value} {hl wl : List LK} (A : AB U v gb h k hl wl) (B : Below w.heap.size w U) (hs : s < U.heap.size) (hs2 : w.heap.size ≤ s) (hW : Only (fun y => y = s) v W) : LO W w.heap.size h k hl wl ∧ Below w.heap.size w W := by
  have h3 := B.size
  refine ⟨(A.own.to hW (fun y hy e => by have h2 := (A.own.lt hy).1; omega)).base (by omega), ?_⟩
  have hb := B.trans (A.bel.mono B.size)
  exact hb.trans (hW.below hb.size (fun b hb e => by omega))
theorem AB.mk' {U v : World} {gb B : Nat} {h k : Value} {hl wl : List LK} (hb : Below U.heap.size U v) (hO : LO v B h k hl wl) (hB : U.heap.size ≤ B) (hk : Bk v gb 71 [.slice none 0 0, .slice none 0 0]) (hlo : U.heap.size ≤ gb) (hs : ∀ y, lbl h k y → y ≠ gb) : AB U ((v.setCell ⟨gb, 0, none⟩ h).setCell ⟨gb, 1, none⟩ k) gb h k hl wl := by
  have ow : Only (fun y => y = gb) v ((v.setCell ⟨gb, 0, none⟩ h).setCell ⟨gb, 1, none⟩ k) := (only_set (R := fun y => y = gb) (p := ⟨gb, 0, none⟩) rfl _).trans (only_set (R := fun y => y = gb) (p := ⟨gb, 1, none⟩) rfl _)
  exact ⟨hb.trans (ow.below hb.size (fun b hb e => by omega)), (hk.set 0 _).set 1 _, (hO.base hB).to ow (fun y hy e => hs y hy e), hlo, hs⟩
set_option maxHeartbeats 16000000 in
set_option maxRecDepth 20000 in
theorem implLockAsk_any (S S' : Nat → Prop) (ha : Option Addr) (hn hc : Nat) (wa : Option Addr) (wn wc : Nat) (hl wl : List LK) (c e n : Int) (lo hi : ByteArray) (ex : Bool) (w : World) (h1 : Lr w S (.slice ha hn hc) hl) (h2 : Lr w S' (.slice wa wn wc) wl) (hh : hn ≤ 1048576) (hw : wn ≤ 1048576) :
    Calls Try.prog 28 #[.agg #[.slice ha hn hc, .slice wa wn wc], .agg #[.int .i64 c, .int .i64 e, .int .i64 n, .string lo, .string hi, .bool ex]] w fun r w' => AskPost w hl wl ((c, e, n), (lo, hi), ex) r w' := by
  have HNH := hid (Rw.len h1).1
  have HNW := hid (Rw.len h2).1
  have B0 : Hid (Below w.heap.size w (((w.alloc (.cells #[.slice ha hn hc, .slice wa wn wc] 71)).alloc (.cells #[.int .i64 c, .int .i64 e, .int .i64 n, .string lo, .string hi, .bool ex] 75)).alloc (.cells #[.slice none 0 0, .slice none 0 0] 71))) := below_new (below_new (below_new (Below.refl _ _)))
  have K0 := hid (((Bk.new w 71 [.slice ha hn hc, .slice wa wn wc]).alloc (.cells #[.int .i64 c, .int .i64 e, .int .i64 n, .string lo, .string hi, .bool ex] 75)).alloc (.cells #[.slice none 0 0, .slice none 0 0] 71))
  have J0 := hid ((Bk.new (w.alloc (.cells #[.slice ha hn hc, .slice wa wn wc] 71)) 75 [.int .i64 c, .int .i64 e, .int .i64 n, .string lo, .string hi, .bool ex]).alloc (.cells #[.slice none 0 0, .slice none 0 0] 71))
  have I0 := hid (Bk.new ((w.alloc (.cells #[.slice ha hn hc, .slice wa wn wc] 71)).alloc (.cells #[.int .i64 c, .int .i64 e, .int .i64 n, .string lo, .string hi, .bool ex] 75)) 71 [.slice none 0 0, .slice none 0 0])
  rw [show (w.alloc (.cells #[.slice ha hn hc, .slice wa wn wc] 71)).heap.size = w.heap.size + 1 by simp] at J0
  rw [show ((w.alloc (.cells #[.slice ha hn hc, .slice wa wn wc] 71)).alloc (.cells #[.int .i64 c, .int .i64 e, .int .i64 n, .string lo, .string hi, .bool ex] 75)).heap.size = w.heap.size + 1 + 1 by simp] at I0
  have H1 := hid h1
  have H2 := hid h2
  have HV := hid (okAsk_def hl wl ((c, e, n), (lo, hi), ex))
  have C1 := hid (fun v h1 h2 => implLocksOk_any S S' ha hn hc wa wn wc hl wl v h1 h2 (by omega) (by omega))
  have C2 := hid (fun w => implLockOk_any c e n lo hi ex w)
  have C3 := hid (fun v h2 => isAmong_any c e n S' wa wn wc wl v h2)
  have C4 := hid (fun w => lockCount_any ha hn hc wa wn wc w (by omega) (by omega))
  have hll : hl.length ≤ 1048576 := by rw [← HNH.out]; exact hh
  have hlw : wl.length ≤ 1048576 := by rw [← HNW.out]; exact hw
  have CC : Hid (∀ v, Below w.heap.size w v → Calls Try.prog 83 #[.agg #[.slice ha hn hc, .slice wa wn wc]] v fun r w' => CpPost v hl wl r w') := fun v hv => copyLocks_any S S' ha hn hc wa wn wc hl wl v (H1.out.below hv) (H2.out.below hv) hll hlw
  have CW : Hid (∀ (v : World) (B : Nat) (a : Option Addr) (n' c' : Nat) (a' : Option Addr) (n2 c2 : Nat), LO v B (.slice a n' c') (.slice a' n2 c2) hl wl → B ≤ v.heap.size → Calls Try.prog 82 #[.agg #[.slice a n' c', .slice a' n2 c2], .agg #[.int .i64 c, .int .i64 e, .int .i64 n, .string lo, .string hi, .bool ex]] v fun r w' => ∃ a9 n9 c9 b9 m9 d9, r = .returned (.tuple #[.agg #[.slice a9 n9 c9, .slice b9 m9 d9], .bool (!mustW hl wl ((c, e, n), (lo, hi), ex))]) ∧ LO w' B (.slice a9 n9 c9) (.slice b9 m9 d9) (putL hl wl ((c, e, n), (lo, hi), ex)).1 (putL hl wl ((c, e, n), (lo, hi), ex)).2 ∧ Only (lbl (.slice a n' c') (.slice a' n2 c2)) v w' ∧ (∀ y, lbl (.slice a9 n9 c9) (.slice b9 m9 d9) y → lbl (.slice a n' c') (.slice a' n2 c2) y ∨ v.heap.size ≤ y)) := fun v B a n' c' a' n2 c2 hO hB => withLock_any B a n' c' a' n2 c2 hl wl c e n lo hi ex v hO hB hll hlw
  clear h1 h2 hll hlw
  have hnot : ∀ (x : Bool) (w : World), (Op.unary .not (.bool x)).run Try.prog w = .ok (.bool (!x)) w := fun _ _ => rfl
  generalize lksOk hl wl = z1 at *
  generalize lkOk ((c, e, n), (lo, hi), ex) = z2 at *
  generalize hasT wl (c, e, n) = z3 at *
  unfold AskPost
  cases z1 with
  | false =>
    have HA := hid (ask_one (HV.out.trans rfl))
    go_enter Try.func28, Try.ntmps28
    go_wp2_with fail
    refine (C1.out _ (H1.out.below B0.out) (H2.out.below B0.out)).mono ?_
    generalize ((w.alloc (.cells #[.slice ha hn hc, .slice wa wn wc] 71)).alloc (.cells #[.int .i64 c, .int .i64 e, .int .i64 n, .string lo, .string hi, .bool ex] 75)).alloc (.cells #[.slice none 0 0, .slice none 0 0] 71) = U at *
    rintro r w1 ⟨rfl, hb⟩
    have K1 := hid (K0.out.below hb)
    have J1 := hid (J0.out.below hb)
    have I1 := hid (I0.out.below hb)
    have B1 := hid (B0.out.trans (hb.mono B0.out.size))
    clear K0 J0 I0 B0 hb
    have z0 := I1.out.cell (j := 0) rfl
    have z1 := I1.out.cell (j := 1) rfl
    have e0 := I1.out.free 0
    have e1 := I1.out.free 1
    go_wp2
    try simp only [Exit.inBlock, Exit.then]
    refine bodyPost_ret (v := .tuple #[.agg #[.slice none 0 0, .slice none 0 0], .int .i64 1]) ?_ rfl ?_
    · exact results_locks2 rfl _ _ (w.heap.size + 1 + 1) rfl rfl (by go_simp) (by go_simp)
    · rw [HA.out.1, HA.out.2]
      exact ⟨none, 0, 0, none, 0, 0, rfl, lo_nil _ _, (B1.out.setCell (p := ⟨w.heap.size + 1 + 1, 0, none⟩) (by simp <;> omega) _).setCell (p := ⟨w.heap.size + 1 + 1, 1, none⟩) (by simp <;> omega) _⟩
  | true =>
    cases z2 with
    | false =>
      have HA := hid (ask_one (HV.out.trans rfl))
      go_enter Try.func28, Try.ntmps28
      go_wp2_with fail
      refine (C1.out _ (H1.out.below B0.out) (H2.out.below B0.out)).mono ?_
      generalize ((w.alloc (.cells #[.slice ha hn hc, .slice wa wn wc] 71)).alloc (.cells #[.int .i64 c, .int .i64 e, .int .i64 n, .string lo, .string hi, .bool ex] 75)).alloc (.cells #[.slice none 0 0, .slice none 0 0] 71) = U at *
      rintro r w1 ⟨rfl, hb⟩
      have K1 := hid (K0.out.below hb)
      have J1 := hid (J0.out.below hb)
      have I1 := hid (I0.out.below hb)
      have B1 := hid (B0.out.trans (hb.mono B0.out.size))
      clear K0 J0 I0 B0 hb
      have y0 := K1.out.cell (j := 0) rfl
      have y1 := K1.out.cell (j := 1) rfl
      have x0 := J1.out.cell (j := 0) rfl
      have x1 := J1.out.cell (j := 1) rfl
      have x2 := J1.out.cell (j := 2) rfl
      have x3 := J1.out.cell (j := 3) rfl
      have x4 := J1.out.cell (j := 4) rfl
      have x5 := J1.out.cell (j := 5) rfl
      go_wp2_with fail
      refine (C2.out _).mono ?_
      rintro r w2 ⟨rfl, hb⟩
      have K2 := hid (K1.out.below hb)
      have J2 := hid (J1.out.below hb)
      have I2 := hid (I1.out.below hb)
      have B2 := hid (B1.out.trans (hb.mono B1.out.size))
      clear K1 J1 I1 B1 hb y0 y1 x0 x1 x2 x3 x4 x5
      have z0 := I2.out.cell (j := 0) rfl
      have z1 := I2.out.cell (j := 1) rfl
      have e0 := I2.out.free 0
      have e1 := I2.out.free 1
      go_wp2
      try simp only [Exit.inBlock, Exit.then]
      refine bodyPost_ret (v := .tuple #[.agg #[.slice none 0 0, .slice none 0 0], .int .i64 1]) ?_ rfl ?_
      · exact results_locks2 rfl _ _ (w.heap.size + 1 + 1) rfl rfl (by go_simp) (by go_simp)
      · rw [HA.out.1, HA.out.2]
        exact ⟨none, 0, 0, none, 0, 0, rfl, lo_nil _ _, (B2.out.setCell (p := ⟨w.heap.size + 1 + 1, 0, none⟩) (by simp <;> omega) _).setCell (p := ⟨w.heap.size + 1 + 1, 1, none⟩) (by simp <;> omega) _⟩
    | true =>
      cases z3 with
      | true =>
        have HA := hid (ask_one (HV.out.trans rfl))
        go_enter Try.func28, Try.ntmps28
        go_wp2_with fail
        refine (C1.out _ (H1.out.below B0.out) (H2.out.below B0.out)).mono ?_
        generalize ((w.alloc (.cells #[.slice ha hn hc, .slice wa wn wc] 71)).alloc (.cells #[.int .i64 c, .int .i64 e, .int .i64 n, .string lo, .string hi, .bool ex] 75)).alloc (.cells #[.slice none 0 0, .slice none 0 0] 71) = U at *
        rintro r w1 ⟨rfl, hb⟩
        have K1 := hid (K0.out.below hb)
        have J1 := hid (J0.out.below hb)
        have I1 := hid (I0.out.below hb)
        have B1 := hid (B0.out.trans (hb.mono B0.out.size))
        clear K0 J0 I0 B0 hb
        have y0 := K1.out.cell (j := 0) rfl
        have y1 := K1.out.cell (j := 1) rfl
        have x0 := J1.out.cell (j := 0) rfl
        have x1 := J1.out.cell (j := 1) rfl
        have x2 := J1.out.cell (j := 2) rfl
        have x3 := J1.out.cell (j := 3) rfl
        have x4 := J1.out.cell (j := 4) rfl
        have x5 := J1.out.cell (j := 5) rfl
        go_wp2_with fail
        refine (C2.out _).mono ?_
        rintro r w2 ⟨rfl, hb⟩
        have K2 := hid (K1.out.below hb)
        have J2 := hid (J1.out.below hb)
        have I2 := hid (I1.out.below hb)
        have B2 := hid (B1.out.trans (hb.mono B1.out.size))
        clear K1 J1 I1 B1 hb y0 y1 x0 x1 x2 x3 x4 x5
        have y0 := K2.out.cell (j := 0) rfl
        have y1 := K2.out.cell (j := 1) rfl
        have x0 := J2.out.cell (j := 0) rfl
        have x1 := J2.out.cell (j := 1) rfl
        have x2 := J2.out.cell (j := 2) rfl
        have x3 := J2.out.cell (j := 3) rfl
        have x4 := J2.out.cell (j := 4) rfl
        have x5 := J2.out.cell (j := 5) rfl
        go_wp2_with fail
        refine (C3.out _ (H2.out.below B2.out)).mono ?_
        rintro r w3 ⟨rfl, hb⟩
        have K3 := hid (K2.out.below hb)
        have J3 := hid (J2.out.below hb)
        have I3 := hid (I2.out.below hb)
        have B3 := hid (B2.out.trans (hb.mono B2.out.size))
        clear K2 J2 I2 B2 hb y0 y1 x0 x1 x2 x3 x4 x5
        have z0 := I3.out.cell (j := 0) rfl
        have z1 := I3.out.cell (j := 1) rfl
        have e0 := I3.out.free 0
        have e1 := I3.out.free 1
        go_wp2
        try simp only [Exit.inBlock, Exit.then]
        refine bodyPost_ret (v := .tuple #[.agg #[.slice none 0 0, .slice none 0 0], .int .i64 1]) ?_ rfl ?_
        · exact results_locks2 rfl _ _ (w.heap.size + 1 + 1) rfl rfl (by go_simp) (by go_simp)
        · rw [HA.out.1, HA.out.2]
          exact ⟨none, 0, 0, none, 0, 0, rfl, lo_nil _ _, (B3.out.setCell (p := ⟨w.heap.size + 1 + 1, 0, none⟩) (by simp <;> omega) _).setCell (p := ⟨w.heap.size + 1 + 1, 1, none⟩) (by simp <;> omega) _⟩
      | false =>
        have h60 := okAsk_len (HV.out.trans rfl)
        rw [← HNH.out, ← HNW.out] at h60
        by_cases h6 : hn + wn = 60
        · have HA := hid (ask_two (HV.out.trans rfl) (by rw [← HNH.out, ← HNW.out]; exact h6))
          rw [h6] at C4
          clear h6 h60
          go_enter Try.func28, Try.ntmps28
          go_wp2_with fail
          refine (C1.out _ (H1.out.below B0.out) (H2.out.below B0.out)).mono ?_
          generalize ((w.alloc (.cells #[.slice ha hn hc, .slice wa wn wc] 71)).alloc (.cells #[.int .i64 c, .int .i64 e, .int .i64 n, .string lo, .string hi, .bool ex] 75)).alloc (.cells #[.slice none 0 0, .slice none 0 0] 71) = U at *
          rintro r w1 ⟨rfl, hb⟩
          have K1 := hid (K0.out.below hb)
          have J1 := hid (J0.out.below hb)
          have I1 := hid (I0.out.below hb)
          have B1 := hid (B0.out.trans (hb.mono B0.out.size))
          clear K0 J0 I0 B0 hb
          have y0 := K1.out.cell (j := 0) rfl
          have y1 := K1.out.cell (j := 1) rfl
          have x0 := J1.out.cell (j := 0) rfl
          have x1 := J1.out.cell (j := 1) rfl
          have x2 := J1.out.cell (j := 2) rfl
          have x3 := J1.out.cell (j := 3) rfl
          have x4 := J1.out.cell (j := 4) rfl
          have x5 := J1.out.cell (j := 5) rfl
          go_wp2_with fail
          refine (C2.out _).mono ?_
          rintro r w2 ⟨rfl, hb⟩
          have K2 := hid (K1.out.below hb)
          have J2 := hid (J1.out.below hb)
          have I2 := hid (I1.out.below hb)
          have B2 := hid (B1.out.trans (hb.mono B1.out.size))
          clear K1 J1 I1 B1 hb y0 y1 x0 x1 x2 x3 x4 x5
          have y0 := K2.out.cell (j := 0) rfl
          have y1 := K2.out.cell (j := 1) rfl
          have x0 := J2.out.cell (j := 0) rfl
          have x1 := J2.out.cell (j := 1) rfl
          have x2 := J2.out.cell (j := 2) rfl
          have x3 := J2.out.cell (j := 3) rfl
          have x4 := J2.out.cell (j := 4) rfl
          have x5 := J2.out.cell (j := 5) rfl
          go_wp2_with fail
          refine (C3.out _ (H2.out.below B2.out)).mono ?_
          rintro r w3 ⟨rfl, hb⟩
          have K3 := hid (K2.out.below hb)
          have J3 := hid (J2.out.below hb)
          have I3 := hid (I2.out.below hb)
          have B3 := hid (B2.out.trans (hb.mono B2.out.size))
          clear K2 J2 I2 B2 hb y0 y1 x0 x1 x2 x3 x4 x5
          have y0 := K3.out.cell (j := 0) rfl
          have y1 := K3.out.cell (j := 1) rfl
          have x0 := J3.out.cell (j := 0) rfl
          have x1 := J3.out.cell (j := 1) rfl
          have x2 := J3.out.cell (j := 2) rfl
          have x3 := J3.out.cell (j := 3) rfl
          have x4 := J3.out.cell (j := 4) rfl
          have x5 := J3.out.cell (j := 5) rfl
          go_wp2_with fail
          refine (C4.out _).mono ?_
          rintro r w4 ⟨rfl, hb⟩
          have K4 := hid (K3.out.below hb)
          have J4 := hid (J3.out.below hb)
          have I4 := hid (I3.out.below hb)
          have B4 := hid (B3.out.trans (hb.mono B3.out.size))
          clear K3 J3 I3 B3 hb y0 y1 x0 x1 x2 x3 x4 x5
          have z0 := I4.out.cell (j := 0) rfl
          have z1 := I4.out.cell (j := 1) rfl
          have e0 := I4.out.free 0
          have e1 := I4.out.free 1
          go_wp2
          try simp only [Exit.inBlock, Exit.then]
          refine bodyPost_ret (v := .tuple #[.agg #[.slice none 0 0, .slice none 0 0], .int .i64 2]) ?_ rfl ?_
          · exact results_locks2 rfl _ _ (w.heap.size + 1 + 1) rfl rfl (by go_simp) (by go_simp)
          · rw [HA.out.1, HA.out.2]
            exact ⟨none, 0, 0, none, 0, 0, rfl, lo_nil _ _, (B4.out.setCell (p := ⟨w.heap.size + 1 + 1, 0, none⟩) (by simp <;> omega) _).setCell (p := ⟨w.heap.size + 1 + 1, 1, none⟩) (by simp <;> omega) _⟩
        · have HA := hid (ask_put (HV.out.trans rfl) (by rw [← HNH.out, ← HNW.out]; exact h6))
          have h6' : ¬ ((hn + wn : Nat) : Int) = 60 := by omega
          have h6b : (((hn + wn : Nat) : Int) == 60) = false := by simp; omega
          generalize hn + wn = sm at C4 h6' h6b
          clear h6 h60
          go_enter Try.func28, Try.ntmps28
          go_wp2_with fail
          refine (C1.out _ (H1.out.below B0.out) (H2.out.below B0.out)).mono ?_
          generalize ((w.alloc (.cells #[.slice ha hn hc, .slice wa wn wc] 71)).alloc (.cells #[.int .i64 c, .int .i64 e, .int .i64 n, .string lo, .string hi, .bool ex] 75)).alloc (.cells #[.slice none 0 0, .slice none 0 0] 71) = U at *
          rintro r w1 ⟨rfl, hb⟩
          have K1 := hid (K0.out.below hb)
          have J1 := hid (J0.out.below hb)
          have I1 := hid (I0.out.below hb)
          have B1 := hid (B0.out.trans (hb.mono B0.out.size))
          clear K0 J0 I0 B0 hb
          have y0 := K1.out.cell (j := 0) rfl
          have y1 := K1.out.cell (j := 1) rfl
          have x0 := J1.out.cell (j := 0) rfl
          have x1 := J1.out.cell (j := 1) rfl
          have x2 := J1.out.cell (j := 2) rfl
          have x3 := J1.out.cell (j := 3) rfl
          have x4 := J1.out.cell (j := 4) rfl
          have x5 := J1.out.cell (j := 5) rfl
          go_wp2_with fail
          refine (C2.out _).mono ?_
          rintro r w2 ⟨rfl, hb⟩
          have K2 := hid (K1.out.below hb)
          have J2 := hid (J1.out.below hb)
          have I2 := hid (I1.out.below hb)
          have B2 := hid (B1.out.trans (hb.mono B1.out.size))
          clear K1 J1 I1 B1 hb y0 y1 x0 x1 x2 x3 x4 x5
          have y0 := K2.out.cell (j := 0) rfl
          have y1 := K2.out.cell (j := 1) rfl
          have x0 := J2.out.cell (j := 0) rfl
          have x1 := J2.out.cell (j := 1) rfl
          have x2 := J2.out.cell (j := 2) rfl
          have x3 := J2.out.cell (j := 3) rfl
          have x4 := J2.out.cell (j := 4) rfl
          have x5 := J2.out.cell (j := 5) rfl
          go_wp2_with fail
          refine (C3.out _ (H2.out.below B2.out)).mono ?_
          rintro r w3 ⟨rfl, hb⟩
          have K3 := hid (K2.out.below hb)
          have J3 := hid (J2.out.below hb)
          have I3 := hid (I2.out.below hb)
          have B3 := hid (B2.out.trans (hb.mono B2.out.size))
          clear K2 J2 I2 B2 hb y0 y1 x0 x1 x2 x3 x4 x5
          have y0 := K3.out.cell (j := 0) rfl
          have y1 := K3.out.cell (j := 1) rfl
          have x0 := J3.out.cell (j := 0) rfl
          have x1 := J3.out.cell (j := 1) rfl
          have x2 := J3.out.cell (j := 2) rfl
          have x3 := J3.out.cell (j := 3) rfl
          have x4 := J3.out.cell (j := 4) rfl
          have x5 := J3.out.cell (j := 5) rfl
          go_wp2_with fail
          refine (C4.out _).mono ?_
          rintro r w4 ⟨rfl, hb⟩
          have K4 := hid (K3.out.below hb)
          have J4 := hid (J3.out.below hb)
          have I4 := hid (I3.out.below hb)
          have B4 := hid (B3.out.trans (hb.mono B3.out.size))
          clear K3 J3 I3 B3 hb y0 y1 x0 x1 x2 x3 x4 x5
          generalize hz : mustW hl wl ((c, e, n), (lo, hi), ex) = z at CW
          have HM := hid hz
          clear hz
          have T0 := hid (kl8_0 (K4.out.cell (j := 0) rfl) (K4.out.cell (j := 1) rfl) (J4.out.cell (j := 0) rfl) (J4.out.cell (j := 1) rfl) (J4.out.cell (j := 2) rfl) (J4.out.cell (j := 3) rfl) (J4.out.cell (j := 4) rfl) (J4.out.cell (j := 5) rfl))
          have HB : Hid (∀ v, Below w4.heap.size w4 v → Below w.heap.size w v) := fun v hv => B4.out.trans (hv.mono B4.out.size)
          clear C1 C2 C3 C4
          go_wp2_with fail
          skip
          go_cut [6, 7] (fun x y v => ∃ gb ya yn yc za zn zc, x = .pointer (some ⟨gb, 0, none⟩) ∧ y = .bool (!z) ∧ AB w4 v gb (.slice ya yn yc) (.slice za zn zc) (putL hl wl ((c, e, n), (lo, hi), ex)).1 (putL hl wl ((c, e, n), (lo, hi), ex)).2)
          case first =>
            refine wp_region_noPanic ?_
            refine wp_region_held_drew (S := fun v => v.cell? ⟨w.heap.size, 0, none⟩ = some (.slice ha hn hc) ∧ v.cell? ⟨w.heap.size, 1, none⟩ = some (.slice wa wn wc) ∧ v.cell? ⟨w.heap.size + 1, 0, none⟩ = some (.int .i64 c) ∧ v.cell? ⟨w.heap.size + 1, 1, none⟩ = some (.int .i64 e) ∧ v.cell? ⟨w.heap.size + 1, 2, none⟩ = some (.int .i64 n) ∧ v.cell? ⟨w.heap.size + 1, 3, none⟩ = some (.string lo) ∧ v.cell? ⟨w.heap.size + 1, 4, none⟩ = some (.string hi) ∧ v.cell? ⟨w.heap.size + 1, 5, none⟩ = some (.bool ex) ∧ KL w4 v [(⟨w.heap.size, 0, none⟩, .slice ha hn hc), (⟨w.heap.size, 1, none⟩, .slice wa wn wc), (⟨w.heap.size + 1, 0, none⟩, .int .i64 c), (⟨w.heap.size + 1, 1, none⟩, .int .i64 e), (⟨w.heap.size + 1, 2, none⟩, .int .i64 n), (⟨w.heap.size + 1, 3, none⟩, .string lo), (⟨w.heap.size + 1, 4, none⟩, .string hi), (⟨w.heap.size + 1, 5, none⟩, .bool ex)]) (by kernel_rfl) (kl8 (T0.out.call (below_drew _))) (fun hHeld => ?_)
            simp only [List.size_toArray, List.length_cons, List.length_nil, Array.replicate_succ, Array.replicate_zero, Nat.reduceAdd, List.push_toArray, List.nil_append, List.cons_append]
            refine wpAnyH_take (i := 0) (v := (.agg #[.slice ha hn hc, .slice wa wn wc])) rfl (by kernel_rfl) (by kernel_rfl) (by kernel_rfl) (fun _ _ _ h => h) (Or.inl ⟨by rfl, ?_⟩) (by assumption) ?_
            · intro w hSw
              (try dsimp only at hSw)
              go_simp
            try simp only [List.getElem_toArray]
            try simp only [List.getElem_cons_succ]
            try simp only [List.getElem_cons_zero]
            try simp only [Act.put]
            try simp only [List.setIfInBounds_toArray]
            try simp only [List.set_cons_succ]
            try simp only [List.set_cons_zero]
            refine wpAnyH_take (i := 2) (v := (.agg #[.int .i64 c, .int .i64 e, .int .i64 n, .string lo, .string hi, .bool ex])) rfl (by kernel_rfl) (by kernel_rfl) (by kernel_rfl) (fun _ _ _ h => h) (Or.inl ⟨by rfl, ?_⟩) (by assumption) ?_
            · intro w hSw
              (try dsimp only at hSw)
              go_simp
            try simp only [List.getElem_toArray]
            try simp only [List.getElem_cons_succ]
            try simp only [List.getElem_cons_zero]
            try simp only [Act.put]
            try simp only [List.setIfInBounds_toArray]
            try simp only [List.set_cons_succ]
            try simp only [List.set_cons_zero]
            refine wpAnyH_ready (rs := [1, 7]) (by kernel_rfl) (by simp) ?_
            refine AllReadyH.cons rfl (fun K1 hK => ?_) (AllReadyH.cons rfl (fun K1 hK => ?_) AllReadyH.nil)
            · go_simp
              refine (CC.out _ (HB.out _ (kl8_bel (by assumption)))).mono ?_
              rintro r w7 ⟨a7, n7, c7, b7, m7, d7, rfl, hO7, hbC⟩
              have O7 := hid (hO7.base (kl8_bel (by assumption)).size)
              clear hO7
              go_wp2_with fail
              refine hK.out _ _ ?_ (fun hHeld => ?_)
              · exact kl8c hbC (by assumption)
              clear hK K1
              try simp only [List.getElem_toArray]
              try simp only [List.getElem_cons_succ]
              try simp only [List.getElem_cons_zero]
              try simp only [Act.put]
              try simp only [List.setIfInBounds_toArray]
              try simp only [List.set_cons_succ]
              try simp only [List.set_cons_zero]
              refine wpAnyH_ready (rs := [3, 7]) (by kernel_rfl) (by simp) ?_
              refine AllReadyH.cons rfl (fun K1 hK => ?_) (AllReadyH.cons rfl (fun K1 hK => ?_) AllReadyH.nil)
              · go_simp
                refine (CW.out _ _ _ _ _ _ _ _ O7.out (kl8_bel (by assumption)).size).mono ?_
                rintro r w9 ⟨a9, n9, c9, b9, m9, d9, rfl, hO9, ho9, hn9⟩
                have O9 := hid hO9
                have s9 := kl8o ho9 (fun y hy => (O7.out.lt hy).1) (by assumption)
                clear hO9 ho9 hn9 O7
                go_wp2_with fail
                refine hK.out _ _ ?_ (fun hHeld => ?_)
                · exact s9
                clear hK K1
                try simp only [List.getElem_toArray]
                try simp only [List.getElem_cons_succ]
                try simp only [List.getElem_cons_zero]
                try simp only [Act.put]
                try simp only [List.setIfInBounds_toArray]
                try simp only [List.set_cons_succ]
                try simp only [List.set_cons_zero]
                clear s9
                refine wpAnyH_take (i := 4) (v := (.tuple #[.agg #[.slice a9 n9 c9, .slice b9 m9 d9], .bool (!z)])) rfl (by kernel_rfl) (by kernel_rfl) (by kernel_rfl) (fun _ _ _ h => h) (Or.inl ⟨by rfl, ?_⟩) (by assumption) ?_
                · intro w hSw
                  (try dsimp only at hSw)
                  go_simp
                try simp only [List.getElem_toArray]
                try simp only [List.getElem_cons_succ]
                try simp only [List.getElem_cons_zero]
                try simp only [Act.put]
                try simp only [List.setIfInBounds_toArray]
                try simp only [List.set_cons_succ]
                try simp only [List.set_cons_zero]
                refine wpAnyH_take (i := 5) (v := (.agg #[.slice a9 n9 c9, .slice b9 m9 d9])) rfl (by kernel_rfl) (by kernel_rfl) (by kernel_rfl) (fun _ _ _ h => h) (Or.inl ⟨by rfl, ?_⟩) (by assumption) ?_
                · intro w hSw
                  (try dsimp only at hSw)
                  go_simp
                try simp only [List.getElem_toArray]
                try simp only [List.getElem_cons_succ]
                try simp only [List.getElem_cons_zero]
                try simp only [Act.put]
                try simp only [List.setIfInBounds_toArray]
                try simp only [List.set_cons_succ]
                try simp only [List.set_cons_zero]
                refine wpAnyH_take (i := 6) (v := (.bool (!z))) rfl (by kernel_rfl) (by kernel_rfl) (by kernel_rfl) (fun _ _ _ h => h) (Or.inl ⟨by rfl, ?_⟩) (by assumption) ?_
                · intro w hSw
                  (try dsimp only at hSw)
                  go_simp
                try simp only [List.getElem_toArray]
                try simp only [List.getElem_cons_succ]
                try simp only [List.getElem_cons_zero]
                try simp only [Act.put]
                try simp only [List.setIfInBounds_toArray]
                try simp only [List.set_cons_succ]
                try simp only [List.set_cons_zero]
                refine wpAnyH_ready (rs := [7]) (by kernel_rfl) (by simp) ?_
                refine AllReadyH.cons rfl (fun K1 hK => ?_) AllReadyH.nil
                go_simp
                try go_wp2_with fail
                have hbC := below_new (o := .cells #[.slice none 0 0, .slice none 0 0] 71) (w := w9) (Below.refl _ _)
                have E6 := hid (Bk.new (w9) 71 [.slice none 0 0, .slice none 0 0])
                have Z6 : Hid (w4.heap.size ≤ (w9).heap.size) := (kl8_bel (by assumption)).size
                have F9 : Hid (∀ y, lbl (.slice a9 n9 c9) (.slice b9 m9 d9) y → y ≠ w9.heap.size) := fun y hy => by have h1 := (O9.out.lt hy).2; omega
                have O10 := hid (O9.out.below hbC)
                clear O9
                refine hK.out _ _ ?_ (fun hHeld => ?_)
                · exact kl8c hbC (by assumption)
                clear hK K1
                try simp only [List.getElem_toArray]
                try simp only [List.getElem_cons_succ]
                try simp only [List.getElem_cons_zero]
                try simp only [Act.put]
                try simp only [List.setIfInBounds_toArray]
                try simp only [List.set_cons_succ]
                try simp only [List.set_cons_zero]
                clear hbC
                generalize (w9).alloc (.cells #[.slice none 0 0, .slice none 0 0] 71) = v10 at *
                generalize (w9).heap.size = gb at *
                have E9 := E6
                have O9 := O10
                clear E6 O10
                have z0 := E9.out.cell (j := 0) rfl
                have z1 := E9.out.cell (j := 1) rfl
                have e0 := E9.out.free 0
                have e1 := E9.out.free 1
                have AF : Hid (AB w4 ((v10.setCell ⟨gb, 0, none⟩ (.slice a9 n9 c9)).setCell ⟨gb, 1, none⟩ (.slice b9 m9 d9)) gb (.slice a9 n9 c9) (.slice b9 m9 d9) (putL hl wl ((c, e, n), (lo, hi), ex)).1 (putL hl wl ((c, e, n), (lo, hi), ex)).2) := AB.mk' (kl8_bel (by assumption)) O9.out (Nat.le_refl _) E9.out Z6.out F9.out
                have s10 := kl8o (u := w4) (v := v10) (R := fun y => y = gb) (v' := ((v10.setCell ⟨gb, 0, none⟩ (.slice a9 n9 c9)).setCell ⟨gb, 1, none⟩ (.slice b9 m9 d9))) ((only_set (R := fun y => y = gb) (p := ⟨gb, 0, none⟩) rfl _).trans (only_set (R := fun y => y = gb) (p := ⟨gb, 1, none⟩) rfl _)) (fun y hy => by have := Z6.out; omega) (by assumption)
                refine wpAnyH_ready (rs := [8]) (by kernel_rfl) (by simp) ?_
                refine AllReadyH.cons rfl (fun K1 hK => ?_) AllReadyH.nil
                go_simp
                try go_wp2_with fail
                refine hK.out _ _ ?_ (fun hHeld => ?_)
                · exact s10
                clear hK K1
                try simp only [List.getElem_toArray]
                try simp only [List.getElem_cons_succ]
                try simp only [List.getElem_cons_zero]
                try simp only [Act.put]
                try simp only [List.setIfInBounds_toArray]
                try simp only [List.set_cons_succ]
                try simp only [List.set_cons_zero]
                clear s10 z0 z1 e0 e1
                refine wpAnyH_take (i := 9) (v := (.bool (!z))) rfl (by kernel_rfl) (by kernel_rfl) (by kernel_rfl) (fun _ _ _ h => h) (Or.inl ⟨by rfl, ?_⟩) (by assumption) ?_
                · intro w hSw
                  (try dsimp only at hSw)
                  go_simp
                try simp only [List.getElem_toArray]
                try simp only [List.getElem_cons_succ]
                try simp only [List.getElem_cons_zero]
                try simp only [Act.put]
                try simp only [List.setIfInBounds_toArray]
                try simp only [List.set_cons_succ]
                try simp only [List.set_cons_zero]
                refine wpAnyH_done (by kernel_rfl) ?_ _
                refine NoPanic.normal ?_
                go_wp2_with fail
                go_meet
                exact ⟨gb, a9, n9, c9, b9, m9, d9, by simp, by simp, AF.out⟩
              · go_simp
                try go_wp2_with fail
                have hbC := below_new (o := .cells #[.slice none 0 0, .slice none 0 0] 71) (w := w7) (Below.refl _ _)
                have E6 := hid (Bk.new (w7) 71 [.slice none 0 0, .slice none 0 0])
                have Z6 : Hid (w4.heap.size ≤ (w7).heap.size) := (kl8_bel (by assumption)).size
                have F7 : Hid (∀ y, lbl (.slice a7 n7 c7) (.slice b7 m7 d7) y → y ≠ w7.heap.size) := fun y hy => by have h1 := (O7.out.lt hy).2; omega
                have O8 := hid (O7.out.below hbC)
                clear O7
                refine hK.out _ _ ?_ (fun hHeld => ?_)
                · exact kl8c hbC (by assumption)
                clear hK K1
                try simp only [List.getElem_toArray]
                try simp only [List.getElem_cons_succ]
                try simp only [List.getElem_cons_zero]
                try simp only [Act.put]
                try simp only [List.setIfInBounds_toArray]
                try simp only [List.set_cons_succ]
                try simp only [List.set_cons_zero]
                clear hbC
                generalize (w7).alloc (.cells #[.slice none 0 0, .slice none 0 0] 71) = v8 at *
                generalize (w7).heap.size = gb at *
                have E7 := E6
                have O7 := O8
                clear E6 O8
                refine wpAnyH_ready (rs := [3]) (by kernel_rfl) (by simp) ?_
                refine AllReadyH.cons rfl (fun K1 hK => ?_) AllReadyH.nil
                go_simp
                refine (CW.out _ _ _ _ _ _ _ _ O7.out (kl8_bel (by assumption)).size).mono ?_
                rintro r w9 ⟨a9, n9, c9, b9, m9, d9, rfl, hO9, ho9, hn9⟩
                have O9 := hid hO9
                have s9 := kl8o ho9 (fun y hy => (O7.out.lt hy).1) (by assumption)
                have E9 := hid (E7.out.to ho9 (fun e => F7.out _ e rfl))
                have F9 : Hid (∀ y, lbl (.slice a9 n9 c9) (.slice b9 m9 d9) y → y ≠ gb) := fun y hy => by
                  rcases hn9 y hy with h1 | h1
                  · exact F7.out y h1
                  · have h2 := E7.out.lt; omega
                clear E7 F7
                clear hO9 ho9 hn9 O7
                go_wp2_with fail
                refine hK.out _ _ ?_ (fun hHeld => ?_)
                · exact s9
                clear hK K1
                try simp only [List.getElem_toArray]
                try simp only [List.getElem_cons_succ]
                try simp only [List.getElem_cons_zero]
                try simp only [Act.put]
                try simp only [List.setIfInBounds_toArray]
                try simp only [List.set_cons_succ]
                try simp only [List.set_cons_zero]
                clear s9
                refine wpAnyH_take (i := 4) (v := (.tuple #[.agg #[.slice a9 n9 c9, .slice b9 m9 d9], .bool (!z)])) rfl (by kernel_rfl) (by kernel_rfl) (by kernel_rfl) (fun _ _ _ h => h) (Or.inl ⟨by rfl, ?_⟩) (by assumption) ?_
                · intro w hSw
                  (try dsimp only at hSw)
                  go_simp
                try simp only [List.getElem_toArray]
                try simp only [List.getElem_cons_succ]
                try simp only [List.getElem_cons_zero]
                try simp only [Act.put]
                try simp only [List.setIfInBounds_toArray]
                try simp only [List.set_cons_succ]
                try simp only [List.set_cons_zero]
                refine wpAnyH_take (i := 5) (v := (.agg #[.slice a9 n9 c9, .slice b9 m9 d9])) rfl (by kernel_rfl) (by kernel_rfl) (by kernel_rfl) (fun _ _ _ h => h) (Or.inl ⟨by rfl, ?_⟩) (by assumption) ?_
                · intro w hSw
                  (try dsimp only at hSw)
                  go_simp
                try simp only [List.getElem_toArray]
                try simp only [List.getElem_cons_succ]
                try simp only [List.getElem_cons_zero]
                try simp only [Act.put]
                try simp only [List.setIfInBounds_toArray]
                try simp only [List.set_cons_succ]
                try simp only [List.set_cons_zero]
                refine wpAnyH_take (i := 6) (v := (.bool (!z))) rfl (by kernel_rfl) (by kernel_rfl) (by kernel_rfl) (fun _ _ _ h => h) (Or.inl ⟨by rfl, ?_⟩) (by assumption) ?_
                · intro w hSw
                  (try dsimp only at hSw)
                  go_simp
                try simp only [List.getElem_toArray]
                try simp only [List.getElem_cons_succ]
                try simp only [List.getElem_cons_zero]
                try simp only [Act.put]
                try simp only [List.setIfInBounds_toArray]
                try simp only [List.set_cons_succ]
                try simp only [List.set_cons_zero]
                have z0 := E9.out.cell (j := 0) rfl
                have z1 := E9.out.cell (j := 1) rfl
                have e0 := E9.out.free 0
                have e1 := E9.out.free 1
                have AF : Hid (AB w4 ((w9.setCell ⟨gb, 0, none⟩ (.slice a9 n9 c9)).setCell ⟨gb, 1, none⟩ (.slice b9 m9 d9)) gb (.slice a9 n9 c9) (.slice b9 m9 d9) (putL hl wl ((c, e, n), (lo, hi), ex)).1 (putL hl wl ((c, e, n), (lo, hi), ex)).2) := AB.mk' (kl8_bel (by assumption)) O9.out (Nat.le_refl _) E9.out Z6.out F9.out
                have s10 := kl8o (u := w4) (v := w9) (R := fun y => y = gb) (v' := ((w9.setCell ⟨gb, 0, none⟩ (.slice a9 n9 c9)).setCell ⟨gb, 1, none⟩ (.slice b9 m9 d9))) ((only_set (R := fun y => y = gb) (p := ⟨gb, 0, none⟩) rfl _).trans (only_set (R := fun y => y = gb) (p := ⟨gb, 1, none⟩) rfl _)) (fun y hy => by have := Z6.out; omega) (by assumption)
                refine wpAnyH_ready (rs := [8]) (by kernel_rfl) (by simp) ?_
                refine AllReadyH.cons rfl (fun K1 hK => ?_) AllReadyH.nil
                go_simp
                try go_wp2_with fail
                refine hK.out _ _ ?_ (fun hHeld => ?_)
                · exact s10
                clear hK K1
                try simp only [List.getElem_toArray]
                try simp only [List.getElem_cons_succ]
                try simp only [List.getElem_cons_zero]
                try simp only [Act.put]
                try simp only [List.setIfInBounds_toArray]
                try simp only [List.set_cons_succ]
                try simp only [List.set_cons_zero]
                clear s10 z0 z1 e0 e1
                refine wpAnyH_take (i := 9) (v := (.bool (!z))) rfl (by kernel_rfl) (by kernel_rfl) (by kernel_rfl) (fun _ _ _ h => h) (Or.inl ⟨by rfl, ?_⟩) (by assumption) ?_
                · intro w hSw
                  (try dsimp only at hSw)
                  go_simp
                try simp only [List.getElem_toArray]
                try simp only [List.getElem_cons_succ]
                try simp only [List.getElem_cons_zero]
                try simp only [Act.put]
                try simp only [List.setIfInBounds_toArray]
                try simp only [List.set_cons_succ]
                try simp only [List.set_cons_zero]
                refine wpAnyH_done (by kernel_rfl) ?_ _
                refine NoPanic.normal ?_
                go_wp2_with fail
                go_meet
                exact ⟨gb, a9, n9, c9, b9, m9, d9, by simp, by simp, AF.out⟩
            · go_simp
              try go_wp2_with fail
              have h0 := below_new (o := .cells #[.slice none 0 0, .slice none 0 0] 71) (w := w4) (below_drew _)
              have hbC : Below w4.drew.heap.size w4.drew (w4.alloc (.cells #[.slice none 0 0, .slice none 0 0] 71)).drew := ⟨h0.os, h0.tape, h0.output, h0.size, h0.block⟩
              have E6 : Hid (Bk (w4.alloc (.cells #[.slice none 0 0, .slice none 0 0] 71)).drew w4.heap.size 71 [.slice none 0 0, .slice none 0 0]) := (Bk.new w4 71 [.slice none 0 0, .slice none 0 0]).below (below_drew _)
              have Z6 : Hid (w4.heap.size ≤ w4.heap.size) := Nat.le_refl _
              refine hK.out _ _ ?_ (fun hHeld => ?_)
              · exact kl8c hbC (by assumption)
              clear hK K1
              try simp only [List.getElem_toArray]
              try simp only [List.getElem_cons_succ]
              try simp only [List.getElem_cons_zero]
              try simp only [Act.put]
              try simp only [List.setIfInBounds_toArray]
              try simp only [List.set_cons_succ]
              try simp only [List.set_cons_zero]
              clear hbC h0
              generalize (w4.alloc (.cells #[.slice none 0 0, .slice none 0 0] 71)).drew = v6 at *
              refine wpAnyH_ready (rs := [1]) (by kernel_rfl) (by simp) ?_
              refine AllReadyH.cons rfl (fun K1 hK => ?_) AllReadyH.nil
              go_simp
              refine (CC.out _ (HB.out _ (kl8_bel (by assumption)))).mono ?_
              rintro r w7 ⟨a7, n7, c7, b7, m7, d7, rfl, hO7, hbC⟩
              have O7 := hid (hO7.base (kl8_bel (by assumption)).size)
              have E7 := hid (E6.out.below hbC)
              have F7 : Hid (∀ y, lbl (.slice a7 n7 c7) (.slice b7 m7 d7) y → y ≠ w4.heap.size) := fun y hy => by have h1 := (hO7.lt hy).1; have h2 := E6.out.lt; omega
              clear E6
              clear hO7
              go_wp2_with fail
              refine hK.out _ _ ?_ (fun hHeld => ?_)
              · exact kl8c hbC (by assumption)
              clear hK K1
              try simp only [List.getElem_toArray]
              try simp only [List.getElem_cons_succ]
              try simp only [List.getElem_cons_zero]
              try simp only [Act.put]
              try simp only [List.setIfInBounds_toArray]
              try simp only [List.set_cons_succ]
              try simp only [List.set_cons_zero]
              refine wpAnyH_ready (rs := [3]) (by kernel_rfl) (by simp) ?_
              refine AllReadyH.cons rfl (fun K1 hK => ?_) AllReadyH.nil
              go_simp
              refine (CW.out _ _ _ _ _ _ _ _ O7.out (kl8_bel (by assumption)).size).mono ?_
              rintro r w9 ⟨a9, n9, c9, b9, m9, d9, rfl, hO9, ho9, hn9⟩
              have O9 := hid hO9
              have s9 := kl8o ho9 (fun y hy => (O7.out.lt hy).1) (by assumption)
              have E9 := hid (E7.out.to ho9 (fun e => F7.out _ e rfl))
              have F9 : Hid (∀ y, lbl (.slice a9 n9 c9) (.slice b9 m9 d9) y → y ≠ w4.heap.size) := fun y hy => by
                rcases hn9 y hy with h1 | h1
                · exact F7.out y h1
                · have h2 := E7.out.lt; omega
              clear E7 F7
              clear hO9 ho9 hn9 O7
              go_wp2_with fail
              refine hK.out _ _ ?_ (fun hHeld => ?_)
              · exact s9
              clear hK K1
              try simp only [List.getElem_toArray]
              try simp only [List.getElem_cons_succ]
              try simp only [List.getElem_cons_zero]
              try simp only [Act.put]
              try simp only [List.setIfInBounds_toArray]
              try simp only [List.set_cons_succ]
              try simp only [List.set_cons_zero]
              clear s9
              refine wpAnyH_take (i := 4) (v := (.tuple #[.agg #[.slice a9 n9 c9, .slice b9 m9 d9], .bool (!z)])) rfl (by kernel_rfl) (by kernel_rfl) (by kernel_rfl) (fun _ _ _ h => h) (Or.inl ⟨by rfl, ?_⟩) (by assumption) ?_
              · intro w hSw
                (try dsimp only at hSw)
                go_simp
              try simp only [List.getElem_toArray]
              try simp only [List.getElem_cons_succ]
              try simp only [List.getElem_cons_zero]
              try simp only [Act.put]
              try simp only [List.setIfInBounds_toArray]
              try simp only [List.set_cons_succ]
              try simp only [List.set_cons_zero]
              refine wpAnyH_take (i := 5) (v := (.agg #[.slice a9 n9 c9, .slice b9 m9 d9])) rfl (by kernel_rfl) (by kernel_rfl) (by kernel_rfl) (fun _ _ _ h => h) (Or.inl ⟨by rfl, ?_⟩) (by assumption) ?_
              · intro w hSw
                (try dsimp only at hSw)
                go_simp
              try simp only [List.getElem_toArray]
              try simp only [List.getElem_cons_succ]
              try simp only [List.getElem_cons_zero]
              try simp only [Act.put]
              try simp only [List.setIfInBounds_toArray]
              try simp only [List.set_cons_succ]
              try simp only [List.set_cons_zero]
              refine wpAnyH_take (i := 6) (v := (.bool (!z))) rfl (by kernel_rfl) (by kernel_rfl) (by kernel_rfl) (fun _ _ _ h => h) (Or.inl ⟨by rfl, ?_⟩) (by assumption) ?_
              · intro w hSw
                (try dsimp only at hSw)
                go_simp
              try simp only [List.getElem_toArray]
              try simp only [List.getElem_cons_succ]
              try simp only [List.getElem_cons_zero]
              try simp only [Act.put]
              try simp only [List.setIfInBounds_toArray]
              try simp only [List.set_cons_succ]
              try simp only [List.set_cons_zero]
              have z0 := E9.out.cell (j := 0) rfl
              have z1 := E9.out.cell (j := 1) rfl
              have e0 := E9.out.free 0
              have e1 := E9.out.free 1
              have AF : Hid (AB w4 ((w9.setCell ⟨w4.heap.size, 0, none⟩ (.slice a9 n9 c9)).setCell ⟨w4.heap.size, 1, none⟩ (.slice b9 m9 d9)) w4.heap.size (.slice a9 n9 c9) (.slice b9 m9 d9) (putL hl wl ((c, e, n), (lo, hi), ex)).1 (putL hl wl ((c, e, n), (lo, hi), ex)).2) := AB.mk' (kl8_bel (by assumption)) O9.out (Nat.le_refl _) E9.out Z6.out F9.out
              have s10 := kl8o (u := w4) (v := w9) (R := fun y => y = w4.heap.size) (v' := ((w9.setCell ⟨w4.heap.size, 0, none⟩ (.slice a9 n9 c9)).setCell ⟨w4.heap.size, 1, none⟩ (.slice b9 m9 d9))) ((only_set (R := fun y => y = w4.heap.size) (p := ⟨w4.heap.size, 0, none⟩) rfl _).trans (only_set (R := fun y => y = w4.heap.size) (p := ⟨w4.heap.size, 1, none⟩) rfl _)) (fun y hy => by have := Z6.out; omega) (by assumption)
              refine wpAnyH_ready (rs := [8]) (by kernel_rfl) (by simp) ?_
              refine AllReadyH.cons rfl (fun K1 hK => ?_) AllReadyH.nil
              go_simp
              try go_wp2_with fail
              refine hK.out _ _ ?_ (fun hHeld => ?_)
              · exact s10
              clear hK K1
              try simp only [List.getElem_toArray]
              try simp only [List.getElem_cons_succ]
              try simp only [List.getElem_cons_zero]
              try simp only [Act.put]
              try simp only [List.setIfInBounds_toArray]
              try simp only [List.set_cons_succ]
              try simp only [List.set_cons_zero]
              clear s10 z0 z1 e0 e1
              refine wpAnyH_take (i := 9) (v := (.bool (!z))) rfl (by kernel_rfl) (by kernel_rfl) (by kernel_rfl) (fun _ _ _ h => h) (Or.inl ⟨by rfl, ?_⟩) (by assumption) ?_
              · intro w hSw
                (try dsimp only at hSw)
                go_simp
              try simp only [List.getElem_toArray]
              try simp only [List.getElem_cons_succ]
              try simp only [List.getElem_cons_zero]
              try simp only [Act.put]
              try simp only [List.setIfInBounds_toArray]
              try simp only [List.set_cons_succ]
              try simp only [List.set_cons_zero]
              refine wpAnyH_done (by kernel_rfl) ?_ _
              refine NoPanic.normal ?_
              go_wp2_with fail
              go_meet
              exact ⟨w4.heap.size, a9, n9, c9, b9, m9, d9, by simp, by simp, AF.out⟩
          case rest =>
            obtain ⟨gb, a9, n9, c9, b9, m9, d9, rfl, rfl, hAB⟩ := hcut
            have A9 := hid hAB
            have I9 := hid (I4.out.below hAB.bel)
            have S9 : Hid (w.heap.size + 1 + 1 < w4.heap.size) := I4.out.lt
            clear hAB
            have g0 := A9.out.box.cell (j := 0) rfl
            have g1 := A9.out.box.cell (j := 1) rfl
            have z0 := I9.out.cell (j := 0) rfl
            have z1 := I9.out.cell (j := 1) rfl
            have e0 := I9.out.free 0
            have e1 := I9.out.free 1
            have d1 : ¬ gb = w.heap.size + 1 + 1 := by have h1 := A9.out.lo; have h2 := S9.out; omega
            have d2 : ¬ w.heap.size + 1 + 1 = gb := by have h1 := A9.out.lo; have h2 := S9.out; omega
            cases z with
            | true =>
              go_wp2
              try simp only [Exit.inBlock, Exit.then]
              refine bodyPost_ret (v := .tuple #[.agg #[.slice a9 n9 c9, .slice b9 m9 d9], .int .i64 3]) ?_ rfl ?_
              · exact results_locks2 rfl _ _ (w.heap.size + 1 + 1) rfl rfl (by go_simp) (by go_simp)
              · rw [HA.out.1, HA.out.2, HM.out]
                exact ⟨a9, n9, c9, b9, m9, d9, rfl, A9.out.fin B4.out S9.out (by omega) ((only_set (R := fun y => y = w.heap.size + 1 + 1) (p := ⟨w.heap.size + 1 + 1, 0, none⟩) rfl _).trans (only_set (R := fun y => y = w.heap.size + 1 + 1) (p := ⟨w.heap.size + 1 + 1, 1, none⟩) rfl _))⟩
            | false =>
              go_wp2
              try simp only [Exit.inBlock, Exit.then]
              refine bodyPost_ret (v := .tuple #[.agg #[.slice a9 n9 c9, .slice b9 m9 d9], .int .i64 0]) ?_ rfl ?_
              · exact results_locks2 rfl _ _ (w.heap.size + 1 + 1) rfl rfl (by go_simp) (by go_simp)
              · rw [HA.out.1, HA.out.2, HM.out]
                exact ⟨a9, n9, c9, b9, m9, d9, rfl, A9.out.fin B4.out S9.out (by omega) ((only_set (R := fun y => y = w.heap.size + 1 + 1) (p := ⟨w.heap.size + 1 + 1, 0, none⟩) rfl _).trans (only_set (R := fun y => y = w.heap.size + 1 + 1) (p := ⟨w.heap.size + 1 + 1, 1, none⟩) rfl _))⟩
end Go.Proofs.Ytcpdedpgjaimkaa
/-
  l07Copy of the specification.
-/
namespace Go.Proofs.Ytcpdedpgjaimkaa
open Go.RowKit
set_option linter.unusedVariables false
set_option maxHeartbeats 8000000 in
set_option maxRecDepth 20000 in
theorem l07Copy_any (S S' : Nat → Prop) (ha : Option Addr) (hn hc : Nat) (wa : Option Addr) (wn wc : Nat) (hl wl : List LK) (w : World) (h1 : Lr w S (.slice ha hn hc) hl) (h2 : Lr w S' (.slice wa wn wc) wl) (hh : hl.length ≤ 1048576) (hw : wl.length ≤ 1048576) :
    Calls Try.prog 87 #[.agg #[.slice ha hn hc, .slice wa wn wc]] w fun r w' => CpPost w hl wl r w' := by
  have B0 : Hid (Below w.heap.size w ((w.alloc (.cells #[.slice ha hn hc, .slice wa wn wc] 71)).alloc (.cells #[.slice none 0 0, .slice none 0 0] 71))) := below_new (below_new (Below.refl _ _))
  have Kq0 := hid ((Bk.new w 71 [.slice ha hn hc, .slice wa wn wc]).alloc (.cells #[.slice none 0 0, .slice none 0 0] 71))
  have I0 := hid (Bk.new (w.alloc (.cells #[.slice ha hn hc, .slice wa wn wc] 71)) 71 [.slice none 0 0, .slice none 0 0])
  rw [show (w.alloc (.cells #[.slice ha hn hc, .slice wa wn wc] 71)).heap.size = w.heap.size + 1 by simp] at I0
  have H1 := hid h1
  have H2 := hid h2
  clear h1 h2
  unfold CpPost
  go_enter Try.func87, Try.ntmps87
  go_wp2_with fail
  generalize (w.alloc (.cells #[.slice ha hn hc, .slice wa wn wc] 71)).alloc (.cells #[.slice none 0 0, .slice none 0 0] 71) = U at *
  refine wp_region_noPanic ?_
  refine wp_region_held_drew (S := fun v => v.cell? ⟨w.heap.size, 0, none⟩ = some (.slice ha hn hc) ∧ v.cell? ⟨w.heap.size, 1, none⟩ = some (.slice wa wn wc)) (by kernel_rfl) (⟨(Kq0.out.below (below_drew _)).cell (j := 0) rfl, (Kq0.out.below (below_drew _)).cell (j := 1) rfl⟩) (fun hHeld => ?_)
  simp only [List.size_toArray, List.length_cons, List.length_nil, Array.replicate_succ, Array.replicate_zero, Nat.reduceAdd, List.push_toArray, List.nil_append, List.cons_append]
  refine wpAnyH_take (i := 1) (v := (.pointer (some ⟨w.heap.size, 0, none⟩))) rfl (by kernel_rfl) (by kernel_rfl) (by kernel_rfl) (fun _ _ _ h => h) (Or.inl ⟨by rfl, ?_⟩) (by assumption) ?_
  · intro w hSw
    (try dsimp only at hSw)
    go_simp
  try simp only [List.getElem_toArray]
  try simp only [List.getElem_cons_succ]
  try simp only [List.getElem_cons_zero]
  try simp only [Act.put]
  try simp only [List.setIfInBounds_toArray]
  try simp only [List.set_cons_succ]
  try simp only [List.set_cons_zero]
  refine wpAnyH_take (i := 2) (v := (.slice ha hn hc)) rfl (by kernel_rfl) (by kernel_rfl) (by kernel_rfl) (fun _ _ _ h => h) (Or.inl ⟨by rfl, ?_⟩) (by assumption) ?_
  · intro w hSw
    (try dsimp only at hSw)
    go_simp
  try simp only [List.getElem_toArray]
  try simp only [List.getElem_cons_succ]
  try simp only [List.getElem_cons_zero]
  try simp only [Act.put]
  try simp only [List.setIfInBounds_toArray]
  try simp only [List.set_cons_succ]
  try simp only [List.set_cons_zero]
  refine wpAnyH_take (i := 5) (v := (.pointer (some ⟨w.heap.size, 1, none⟩))) rfl (by kernel_rfl) (by kernel_rfl) (by kernel_rfl) (fun _ _ _ h => h) (Or.inl ⟨by rfl, ?_⟩) (by assumption) ?_
  · intro w hSw
    (try dsimp only at hSw)
    go_simp
  try simp only [List.getElem_toArray]
  try simp only [List.getElem_cons_succ]
  try simp only [List.getElem_cons_zero]
  try simp only [Act.put]
  try simp only [List.setIfInBounds_toArray]
  try simp only [List.set_cons_succ]
  try simp only [List.set_cons_zero]
  refine wpAnyH_take (i := 6) (v := (.slice wa wn wc)) rfl (by kernel_rfl) (by kernel_rfl) (by kernel_rfl) (fun _ _ _ h => h) (Or.inl ⟨by rfl, ?_⟩) (by assumption) ?_
  · intro w hSw
    (try dsimp only at hSw)
    go_simp
  try simp only [List.getElem_toArray]
  try simp only [List.getElem_cons_succ]
  try simp only [List.getElem_cons_zero]
  try simp only [Act.put]
  try simp only [List.setIfInBounds_toArray]
  try simp only [List.set_cons_succ]
  try simp only [List.set_cons_zero]
  have BD := hid (B0.out.trans ((below_drew U).mono B0.out.size))
  have KqD := hid (Kq0.out.below (below_drew _))
  have ID := hid (I0.out.below (below_drew _))
  clear B0 Kq0 I0
  generalize U.drew = v0 at *
  have B0 := BD
  have Kq0 := KqD
  have I0 := ID
  clear BD KqD ID
  refine wpAnyH_ready (rs := [0, 4]) (by kernel_rfl) (by simp) ?_
  refine AllReadyH.cons rfl (fun K1 hK => ?_) (AllReadyH.cons rfl (fun K1 hK => ?_) AllReadyH.nil)
  · go_simp
    try go_wp2_with fail
    have hb := below_new (o := .cells #[] 75) (w := v0) (Below.refl _ _)
    have Kq1 := hid (Kq0.out.below hb)
    have I1 := hid (I0.out.below hb)
    have B1 := hid (B0.out.trans (hb.mono B0.out.size))
    have E1_1 := hid (Bk.new v0 75 [])
    have G1 : Hid (w.heap.size + 1 < v0.heap.size) := I0.out.lt
    clear hb Kq0 I0 B0
    refine hK.out _ _ ?_ (fun hHeld => ?_)
    · exact ⟨Kq1.out.cell (j := 0) rfl, Kq1.out.cell (j := 1) rfl⟩
    clear hK K1
    try simp only [List.getElem_toArray]
    try simp only [List.getElem_cons_succ]
    try simp only [List.getElem_cons_zero]
    try simp only [Act.put]
    try simp only [List.setIfInBounds_toArray]
    try simp only [List.set_cons_succ]
    try simp only [List.set_cons_zero]
    generalize v0.alloc (.cells #[] 75) = v1 at *
    generalize v0.heap.size = g1 at *
    refine wpAnyH_ready (rs := [3, 4]) (by kernel_rfl) (by simp) ?_
    refine AllReadyH.cons rfl (fun K1 hK => ?_) (AllReadyH.cons rfl (fun K1 hK => ?_) AllReadyH.nil)
    · refine step_append_lr rfl _ _ rfl w.heap.size _ [] rfl (lw_empty E1_1.out (by have := G1.out; omega)) S (.slice ha hn hc) hl rfl (H1.out.below B1.out) (by simp; omega) (B1.out.size) ?_
      intro a4 n4 c4 v2 hO4 hg4 ha4
      rw [List.nil_append] at hO4
      have o4 : Only (fun y => y = g1) v1 v2 := only_of_grown hg4 (fun k e => (Option.some.inj e).symm)
      have Kq2 := hid (Kq1.out.to o4 (by have := G1.out; omega))
      have I2 := hid (I1.out.to o4 (by have := G1.out; omega))
      have P1_2 := hid hO4
      have B2 := hid (B1.out.trans (o4.below B1.out.size (fun b hb e => by have := G1.out; omega)))
      have A4 : Hid (∀ y, (Value.slice a4 n4 c4).ownBlock = some y → w.heap.size + 1 < y) := fun y e => by
        rcases ha4 with h1 | h1
        · rw [h1] at e
          have e3 : g1 = y := Option.some.inj e
          have := G1.out
          omega
        · rw [h1] at e
          have e3 : v1.heap.size = y := Option.some.inj e
          have := I1.out.lt
          omega
      clear hO4 hg4 ha4 o4 Kq1 I1 B1 E1_1
      refine hK.out _ _ ?_ (fun hHeld => ?_)
      · exact ⟨Kq2.out.cell (j := 0) rfl, Kq2.out.cell (j := 1) rfl⟩
      clear hK K1
      try simp only [List.getElem_toArray]
      try simp only [List.getElem_cons_succ]
      try simp only [List.getElem_cons_zero]
      try simp only [Act.put]
      try simp only [List.setIfInBounds_toArray]
      try simp only [List.set_cons_succ]
      try simp only [List.set_cons_zero]
      refine wpAnyH_ready (rs := [4]) (by kernel_rfl) (by simp) ?_
      refine AllReadyH.cons rfl (fun K1 hK => ?_) AllReadyH.nil
      go_simp
      try go_wp2_with fail
      have hb := below_new (o := .cells #[] 75) (w := v2) (Below.refl _ _)
      have Kq3 := hid (Kq2.out.below hb)
      have I3 := hid (I2.out.below hb)
      have P1_3 := hid (P1_2.out.below hb)
      have B3 := hid (B2.out.trans (hb.mono B2.out.size))
      have E2_3 := hid (Bk.new v2 75 [])
      have G2 : Hid (w.heap.size + 1 < v2.heap.size) := I2.out.lt
      have N4 : Hid (∀ y, (Value.slice a4 n4 c4).ownBlock = some y → y < v2.heap.size) := fun y e => (P1_2.out.lt e).2
      clear hb Kq2 I2 P1_2 B2
      refine hK.out _ _ ?_ (fun hHeld => ?_)
      · exact ⟨Kq3.out.cell (j := 0) rfl, Kq3.out.cell (j := 1) rfl⟩
      clear hK K1
      try simp only [List.getElem_toArray]
      try simp only [List.getElem_cons_succ]
      try simp only [List.getElem_cons_zero]
      try simp only [Act.put]
      try simp only [List.setIfInBounds_toArray]
      try simp only [List.set_cons_succ]
      try simp only [List.set_cons_zero]
      generalize v2.alloc (.cells #[] 75) = v3 at *
      generalize v2.heap.size = g2 at *
      refine wpAnyH_ready (rs := [7]) (by kernel_rfl) (by simp) ?_
      refine AllReadyH.cons rfl (fun K1 hK => ?_) AllReadyH.nil
      refine step_append_lr rfl _ _ rfl w.heap.size _ [] rfl (lw_empty E2_3.out (by have := G2.out; omega)) S' (.slice wa wn wc) wl rfl (H2.out.below B3.out) (by simp; omega) (B3.out.size) ?_
      intro a5 n5 c5 w5 hO5 hg5 ha5
      rw [List.nil_append] at hO5
      have P5 : Hid (LO w5 w.heap.size (.slice a4 n4 c4) (.slice a5 n5 c5) hl wl) := (show LO v3 w.heap.size (.slice a4 n4 c4) (.slice (some ⟨g2, 0, none⟩) 0 0) hl [] from ⟨P1_3.out, lw_empty E2_3.out (by have := G2.out; omega), fun y h e => by have e3 : g2 = y := Option.some.inj e; have := N4.out y h; omega⟩).pushW hO5 hg5 ha5
      have o5 : Only (fun y => y = g2) v3 w5 := only_of_grown hg5 (fun k e => (Option.some.inj e).symm)
      have B5 := hid (B3.out.trans (o5.below B3.out.size (fun b hb e => by have := G2.out; omega)))
      have Kq5 := hid (Kq3.out.to o5 (by have := G2.out; omega))
      have I5 := hid (I3.out.to o5 (by have := G2.out; omega))
      have A5 : Hid (∀ y, lbl (.slice a4 n4 c4) (.slice a5 n5 c5) y → w.heap.size + 1 < y) := fun y e => by
        rcases e with e | e
        · exact A4.out y e
        · rcases ha5 with h1 | h1
          · rw [h1] at e
            have e3 : g2 = y := Option.some.inj e
            have := G2.out
            omega
          · rw [h1] at e
            have e3 : v3.heap.size = y := Option.some.inj e
            have := I3.out.lt
            omega
      clear hO5 hg5 ha5 o5
      refine hK.out _ _ ?_ (fun hHeld => ?_)
      · exact ⟨Kq5.out.cell (j := 0) rfl, Kq5.out.cell (j := 1) rfl⟩
      clear hK K1
      try simp only [List.getElem_toArray]
      try simp only [List.getElem_cons_succ]
      try simp only [List.getElem_cons_zero]
      try simp only [Act.put]
      try simp only [List.setIfInBounds_toArray]
      try simp only [List.set_cons_succ]
      try simp only [List.set_cons_zero]
      refine wpAnyH_take (i := 8) (v := (.agg #[.slice a4 n4 c4, .slice a5 n5 c5])) rfl (by kernel_rfl) (by kernel_rfl) (by kernel_rfl) (fun _ _ _ h => h) (Or.inl ⟨by rfl, ?_⟩) (by assumption) ?_
      · intro w hSw
        (try dsimp only at hSw)
        go_simp
      try simp only [List.getElem_toArray]
      try simp only [List.getElem_cons_succ]
      try simp only [List.getElem_cons_zero]
      try simp only [Act.put]
      try simp only [List.setIfInBounds_toArray]
      try simp only [List.set_cons_succ]
      try simp only [List.set_cons_zero]
      have z0 := I5.out.cell (j := 0) rfl
      have z1 := I5.out.cell (j := 1) rfl
      have e0 := I5.out.free 0
      have e1 := I5.out.free 1
      have Kq6 : Hid (Bk ((w5.setCell ⟨w.heap.size + 1, 0, none⟩ (.slice a4 n4 c4)).setCell ⟨w.heap.size + 1, 1, none⟩ (.slice a5 n5 c5)) w.heap.size 71 [.slice ha hn hc, .slice wa wn wc]) := (Kq5.out.setOther (by omega) 0 _).setOther (by omega) 1 _
      have HF : Hid (LO ((w5.setCell ⟨w.heap.size + 1, 0, none⟩ (.slice a4 n4 c4)).setCell ⟨w.heap.size + 1, 1, none⟩ (.slice a5 n5 c5)) w.heap.size (.slice a4 n4 c4) (.slice a5 n5 c5) hl wl ∧ Below w.heap.size w ((w5.setCell ⟨w.heap.size + 1, 0, none⟩ (.slice a4 n4 c4)).setCell ⟨w.heap.size + 1, 1, none⟩ (.slice a5 n5 c5))) := by
        have ow : Only (fun y => y = w.heap.size + 1) w5 ((w5.setCell ⟨w.heap.size + 1, 0, none⟩ (.slice a4 n4 c4)).setCell ⟨w.heap.size + 1, 1, none⟩ (.slice a5 n5 c5)) := (only_set (R := fun y => y = w.heap.size + 1) (p := ⟨w.heap.size + 1, 0, none⟩) rfl _).trans (only_set (R := fun y => y = w.heap.size + 1) (p := ⟨w.heap.size + 1, 1, none⟩) rfl _)
        exact ⟨P5.out.to ow (fun y hy e => by have := A5.out y hy; omega), B5.out.trans (ow.below B5.out.size (fun b hb e => by omega))⟩
      refine wpAnyH_ready (rs := [9]) (by kernel_rfl) (by simp) ?_
      refine AllReadyH.cons rfl (fun K1 hK => ?_) AllReadyH.nil
      go_simp
      try go_wp2_with fail
      refine hK.out _ _ ?_ (fun hHeld => ?_)
      · exact ⟨Kq6.out.cell (j := 0) rfl, Kq6.out.cell (j := 1) rfl⟩
      clear hK K1
      try simp only [List.getElem_toArray]
      try simp only [List.getElem_cons_succ]
      try simp only [List.getElem_cons_zero]
      try simp only [Act.put]
      try simp only [List.setIfInBounds_toArray]
      try simp only [List.set_cons_succ]
      try simp only [List.set_cons_zero]
      refine wpAnyH_done (by kernel_rfl) ?_ _
      refine NoPanic.normal ?_
      clear z0 z1 e0 e1
      have q0 : ((w5.setCell ⟨w.heap.size + 1, 0, none⟩ (.slice a4 n4 c4)).setCell ⟨w.heap.size + 1, 1, none⟩ (.slice a5 n5 c5)).cell? ⟨w.heap.size + 1, 0, none⟩ = some (.slice a4 n4 c4) := ((I5.out.set 0 _).set 1 _).cell (j := 0) rfl
      have q1 : ((w5.setCell ⟨w.heap.size + 1, 0, none⟩ (.slice a4 n4 c4)).setCell ⟨w.heap.size + 1, 1, none⟩ (.slice a5 n5 c5)).cell? ⟨w.heap.size + 1, 1, none⟩ = some (.slice a5 n5 c5) := ((I5.out.set 0 _).set 1 _).cell (j := 1) rfl
      generalize (w5.setCell ⟨w.heap.size + 1, 0, none⟩ (.slice a4 n4 c4)).setCell ⟨w.heap.size + 1, 1, none⟩ (.slice a5 n5 c5) = V at *
      go_wp2
      try simp only [Exit.inBlock, Exit.then]
      refine bodyPost_ret (v := .agg #[.slice a4 n4 c4, .slice a5 n5 c5]) ?_ rfl ?_
      · exact results_locks rfl _ _ (w.heap.size + 1) rfl q0 q1
      · exact ⟨a4, n4, c4, a5, n5, c5, rfl, HF.out.1, HF.out.2⟩
    · go_simp
      try go_wp2_with fail
      have hb := below_new (o := .cells #[] 75) (w := v1) (Below.refl _ _)
      have Kq2 := hid (Kq1.out.below hb)
      have I2 := hid (I1.out.below hb)
      have E1_2 := hid (E1_1.out.below hb)
      have B2 := hid (B1.out.trans (hb.mono B1.out.size))
      have E2_2 := hid (Bk.new v1 75 [])
      have G2 : Hid (w.heap.size + 1 < v1.heap.size) := I1.out.lt
      have N12 : Hid (g1 < v1.heap.size) := E1_1.out.lt
      clear hb Kq1 I1 E1_1 B1
      refine hK.out _ _ ?_ (fun hHeld => ?_)
      · exact ⟨Kq2.out.cell (j := 0) rfl, Kq2.out.cell (j := 1) rfl⟩
      clear hK K1
      try simp only [List.getElem_toArray]
      try simp only [List.getElem_cons_succ]
      try simp only [List.getElem_cons_zero]
      try simp only [Act.put]
      try simp only [List.setIfInBounds_toArray]
      try simp only [List.set_cons_succ]
      try simp only [List.set_cons_zero]
      generalize v1.alloc (.cells #[] 75) = v2 at *
      generalize v1.heap.size = g2 at *
      refine wpAnyH_ready (rs := [3]) (by kernel_rfl) (by simp) ?_
      refine AllReadyH.cons rfl (fun K1 hK => ?_) AllReadyH.nil
      refine step_append_lr rfl _ _ rfl w.heap.size _ [] rfl (lw_empty E1_2.out (by have := G1.out; omega)) S (.slice ha hn hc) hl rfl (H1.out.below B2.out) (by simp; omega) (B2.out.size) ?_
      intro a4 n4 c4 v3 hO4 hg4 ha4
      rw [List.nil_append] at hO4
      have o4 : Only (fun y => y = g1) v2 v3 := only_of_grown hg4 (fun k e => (Option.some.inj e).symm)
      have Kq3 := hid (Kq2.out.to o4 (by have := G1.out; omega))
      have I3 := hid (I2.out.to o4 (by have := G1.out; omega))
      have P1_3 := hid hO4
      have E2_3 := hid (E2_2.out.to o4 (by have := N12.out; omega))
      have N4 : Hid (∀ y, (Value.slice a4 n4 c4).ownBlock = some y → y ≠ g2) := fun y e => by
        rcases ha4 with h1 | h1
        · rw [h1] at e
          have e3 : g1 = y := Option.some.inj e
          have := N12.out
          omega
        · rw [h1] at e
          have e3 : v2.heap.size = y := Option.some.inj e
          have := E2_2.out.lt
          omega
      have B3 := hid (B2.out.trans (o4.below B2.out.size (fun b hb e => by have := G1.out; omega)))
      have A4 : Hid (∀ y, (Value.slice a4 n4 c4).ownBlock = some y → w.heap.size + 1 < y) := fun y e => by
        rcases ha4 with h1 | h1
        · rw [h1] at e
          have e3 : g1 = y := Option.some.inj e
          have := G1.out
          omega
        · rw [h1] at e
          have e3 : v2.heap.size = y := Option.some.inj e
          have := I2.out.lt
          omega
      clear hO4 hg4 ha4 o4 Kq2 I2 B2 E1_2 E2_2
      refine hK.out _ _ ?_ (fun hHeld => ?_)
      · exact ⟨Kq3.out.cell (j := 0) rfl, Kq3.out.cell (j := 1) rfl⟩
      clear hK K1
      try simp only [List.getElem_toArray]
      try simp only [List.getElem_cons_succ]
      try simp only [List.getElem_cons_zero]
      try simp only [Act.put]
      try simp only [List.setIfInBounds_toArray]
      try simp only [List.set_cons_succ]
      try simp only [List.set_cons_zero]
      refine wpAnyH_ready (rs := [7]) (by kernel_rfl) (by simp) ?_
      refine AllReadyH.cons rfl (fun K1 hK => ?_) AllReadyH.nil
      refine step_append_lr rfl _ _ rfl w.heap.size _ [] rfl (lw_empty E2_3.out (by have := G2.out; omega)) S' (.slice wa wn wc) wl rfl (H2.out.below B3.out) (by simp; omega) (B3.out.size) ?_
      intro a5 n5 c5 w5 hO5 hg5 ha5
      rw [List.nil_append] at hO5
      have P5 : Hid (LO w5 w.heap.size (.slice a4 n4 c4) (.slice a5 n5 c5) hl wl) := (show LO v3 w.heap.size (.slice a4 n4 c4) (.slice (some ⟨g2, 0, none⟩) 0 0) hl [] from ⟨P1_3.out, lw_empty E2_3.out (by have := G2.out; omega), fun y h e => by have e3 : g2 = y := Option.some.inj e; have := N4.out y h; omega⟩).pushW hO5 hg5 ha5
      have o5 : Only (fun y => y = g2) v3 w5 := only_of_grown hg5 (fun k e => (Option.some.inj e).symm)
      have B5 := hid (B3.out.trans (o5.below B3.out.size (fun b hb e => by have := G2.out; omega)))
      have Kq5 := hid (Kq3.out.to o5 (by have := G2.out; omega))
      have I5 := hid (I3.out.to o5 (by have := G2.out; omega))
      have A5 : Hid (∀ y, lbl (.slice a4 n4 c4) (.slice a5 n5 c5) y → w.heap.size + 1 < y) := fun y e => by
        rcases e with e | e
        · exact A4.out y e
        · rcases ha5 with h1 | h1
          · rw [h1] at e
            have e3 : g2 = y := Option.some.inj e
            have := G2.out
            omega
          · rw [h1] at e
            have e3 : v3.heap.size = y := Option.some.inj e
            have := I3.out.lt
            omega
      clear hO5 hg5 ha5 o5
      refine hK.out _ _ ?_ (fun hHeld => ?_)
      · exact ⟨Kq5.out.cell (j := 0) rfl, Kq5.out.cell (j := 1) rfl⟩
      clear hK K1
      try simp only [List.getElem_toArray]
      try simp only [List.getElem_cons_succ]
      try simp only [List.getElem_cons_zero]
      try simp only [Act.put]
      try simp only [List.setIfInBounds_toArray]
      try simp only [List.set_cons_succ]
      try simp only [List.set_cons_zero]
      refine wpAnyH_take (i := 8) (v := (.agg #[.slice a4 n4 c4, .slice a5 n5 c5])) rfl (by kernel_rfl) (by kernel_rfl) (by kernel_rfl) (fun _ _ _ h => h) (Or.inl ⟨by rfl, ?_⟩) (by assumption) ?_
      · intro w hSw
        (try dsimp only at hSw)
        go_simp
      try simp only [List.getElem_toArray]
      try simp only [List.getElem_cons_succ]
      try simp only [List.getElem_cons_zero]
      try simp only [Act.put]
      try simp only [List.setIfInBounds_toArray]
      try simp only [List.set_cons_succ]
      try simp only [List.set_cons_zero]
      have z0 := I5.out.cell (j := 0) rfl
      have z1 := I5.out.cell (j := 1) rfl
      have e0 := I5.out.free 0
      have e1 := I5.out.free 1
      have Kq6 : Hid (Bk ((w5.setCell ⟨w.heap.size + 1, 0, none⟩ (.slice a4 n4 c4)).setCell ⟨w.heap.size + 1, 1, none⟩ (.slice a5 n5 c5)) w.heap.size 71 [.slice ha hn hc, .slice wa wn wc]) := (Kq5.out.setOther (by omega) 0 _).setOther (by omega) 1 _
      have HF : Hid (LO ((w5.setCell ⟨w.heap.size + 1, 0, none⟩ (.slice a4 n4 c4)).setCell ⟨w.heap.size + 1, 1, none⟩ (.slice a5 n5 c5)) w.heap.size (.slice a4 n4 c4) (.slice a5 n5 c5) hl wl ∧ Below w.heap.size w ((w5.setCell ⟨w.heap.size + 1, 0, none⟩ (.slice a4 n4 c4)).setCell ⟨w.heap.size + 1, 1, none⟩ (.slice a5 n5 c5))) := by
        have ow : Only (fun y => y = w.heap.size + 1) w5 ((w5.setCell ⟨w.heap.size + 1, 0, none⟩ (.slice a4 n4 c4)).setCell ⟨w.heap.size + 1, 1, none⟩ (.slice a5 n5 c5)) := (only_set (R := fun y => y = w.heap.size + 1) (p := ⟨w.heap.size + 1, 0, none⟩) rfl _).trans (only_set (R := fun y => y = w.heap.size + 1) (p := ⟨w.heap.size + 1, 1, none⟩) rfl _)
        exact ⟨P5.out.to ow (fun y hy e => by have := A5.out y hy; omega), B5.out.trans (ow.below B5.out.size (fun b hb e => by omega))⟩
      refine wpAnyH_ready (rs := [9]) (by kernel_rfl) (by simp) ?_
      refine AllReadyH.cons rfl (fun K1 hK => ?_) AllReadyH.nil
      go_simp
      try go_wp2_with fail
      refine hK.out _ _ ?_ (fun hHeld => ?_)
      · exact ⟨Kq6.out.cell (j := 0) rfl, Kq6.out.cell (j := 1) rfl⟩
      clear hK K1
      try simp only [List.getElem_toArray]
      try simp only [List.getElem_cons_succ]
      try simp only [List.getElem_cons_zero]
      try simp only [Act.put]
      try simp only [List.setIfInBounds_toArray]
      try simp only [List.set_cons_succ]
      try simp only [List.set_cons_zero]
      refine wpAnyH_done (by kernel_rfl) ?_ _
      refine NoPanic.normal ?_
      clear z0 z1 e0 e1
      have q0 : ((w5.setCell ⟨w.heap.size + 1, 0, none⟩ (.slice a4 n4 c4)).setCell ⟨w.heap.size + 1, 1, none⟩ (.slice a5 n5 c5)).cell? ⟨w.heap.size + 1, 0, none⟩ = some (.slice a4 n4 c4) := ((I5.out.set 0 _).set 1 _).cell (j := 0) rfl
      have q1 : ((w5.setCell ⟨w.heap.size + 1, 0, none⟩ (.slice a4 n4 c4)).setCell ⟨w.heap.size + 1, 1, none⟩ (.slice a5 n5 c5)).cell? ⟨w.heap.size + 1, 1, none⟩ = some (.slice a5 n5 c5) := ((I5.out.set 0 _).set 1 _).cell (j := 1) rfl
      generalize (w5.setCell ⟨w.heap.size + 1, 0, none⟩ (.slice a4 n4 c4)).setCell ⟨w.heap.size + 1, 1, none⟩ (.slice a5 n5 c5) = V at *
      go_wp2
      try simp only [Exit.inBlock, Exit.then]
      refine bodyPost_ret (v := .agg #[.slice a4 n4 c4, .slice a5 n5 c5]) ?_ rfl ?_
      · exact results_locks rfl _ _ (w.heap.size + 1) rfl q0 q1
      · exact ⟨a4, n4, c4, a5, n5, c5, rfl, HF.out.1, HF.out.2⟩
  · go_simp
    try go_wp2_with fail
    have hb := below_new (o := .cells #[] 75) (w := v0) (Below.refl _ _)
    have Kq1 := hid (Kq0.out.below hb)
    have I1 := hid (I0.out.below hb)
    have B1 := hid (B0.out.trans (hb.mono B0.out.size))
    have E2_1 := hid (Bk.new v0 75 [])
    have G2 : Hid (w.heap.size + 1 < v0.heap.size) := I0.out.lt
    clear hb Kq0 I0 B0
    refine hK.out _ _ ?_ (fun hHeld => ?_)
    · exact ⟨Kq1.out.cell (j := 0) rfl, Kq1.out.cell (j := 1) rfl⟩
    clear hK K1
    try simp only [List.getElem_toArray]
    try simp only [List.getElem_cons_succ]
    try simp only [List.getElem_cons_zero]
    try simp only [Act.put]
    try simp only [List.setIfInBounds_toArray]
    try simp only [List.set_cons_succ]
    try simp only [List.set_cons_zero]
    generalize v0.alloc (.cells #[] 75) = v1 at *
    generalize v0.heap.size = g2 at *
    refine wpAnyH_ready (rs := [0]) (by kernel_rfl) (by simp) ?_
    refine AllReadyH.cons rfl (fun K1 hK => ?_) AllReadyH.nil
    go_simp
    try go_wp2_with fail
    have hb := below_new (o := .cells #[] 75) (w := v1) (Below.refl _ _)
    have Kq2 := hid (Kq1.out.below hb)
    have I2 := hid (I1.out.below hb)
    have E2_2 := hid (E2_1.out.below hb)
    have B2 := hid (B1.out.trans (hb.mono B1.out.size))
    have E1_2 := hid (Bk.new v1 75 [])
    have G1 : Hid (w.heap.size + 1 < v1.heap.size) := I1.out.lt
    have N12 : Hid (g2 < v1.heap.size) := E2_1.out.lt
    clear hb Kq1 I1 E2_1 B1
    refine hK.out _ _ ?_ (fun hHeld => ?_)
    · exact ⟨Kq2.out.cell (j := 0) rfl, Kq2.out.cell (j := 1) rfl⟩
    clear hK K1
    try simp only [List.getElem_toArray]
    try simp only [List.getElem_cons_succ]
    try simp only [List.getElem_cons_zero]
    try simp only [Act.put]
    try simp only [List.setIfInBounds_toArray]
    try simp only [List.set_cons_succ]
    try simp only [List.set_cons_zero]
    generalize v1.alloc (.cells #[] 75) = v2 at *
    generalize v1.heap.size = g1 at *
    refine wpAnyH_ready (rs := [3]) (by kernel_rfl) (by simp) ?_
    refine AllReadyH.cons rfl (fun K1 hK => ?_) AllReadyH.nil
    refine step_append_lr rfl _ _ rfl w.heap.size _ [] rfl (lw_empty E1_2.out (by have := G1.out; omega)) S (.slice ha hn hc) hl rfl (H1.out.below B2.out) (by simp; omega) (B2.out.size) ?_
    intro a4 n4 c4 v3 hO4 hg4 ha4
    rw [List.nil_append] at hO4
    have o4 : Only (fun y => y = g1) v2 v3 := only_of_grown hg4 (fun k e => (Option.some.inj e).symm)
    have Kq3 := hid (Kq2.out.to o4 (by have := G1.out; omega))
    have I3 := hid (I2.out.to o4 (by have := G1.out; omega))
    have P1_3 := hid hO4
    have E2_3 := hid (E2_2.out.to o4 (by have := N12.out; omega))
    have N4 : Hid (∀ y, (Value.slice a4 n4 c4).ownBlock = some y → y ≠ g2) := fun y e => by
      rcases ha4 with h1 | h1
      · rw [h1] at e
        have e3 : g1 = y := Option.some.inj e
        have := N12.out
        omega
      · rw [h1] at e
        have e3 : v2.heap.size = y := Option.some.inj e
        have := E2_2.out.lt
        omega
    have B3 := hid (B2.out.trans (o4.below B2.out.size (fun b hb e => by have := G1.out; omega)))
    have A4 : Hid (∀ y, (Value.slice a4 n4 c4).ownBlock = some y → w.heap.size + 1 < y) := fun y e => by
      rcases ha4 with h1 | h1
      · rw [h1] at e
        have e3 : g1 = y := Option.some.inj e
        have := G1.out
        omega
      · rw [h1] at e
        have e3 : v2.heap.size = y := Option.some.inj e
        have := I2.out.lt
        omega
    clear hO4 hg4 ha4 o4 Kq2 I2 B2 E1_2 E2_2
    refine hK.out _ _ ?_ (fun hHeld => ?_)
    · exact ⟨Kq3.out.cell (j := 0) rfl, Kq3.out.cell (j := 1) rfl⟩
    clear hK K1
    try simp only [List.getElem_toArray]
    try simp only [List.getElem_cons_succ]
    try simp only [List.getElem_cons_zero]
    try simp only [Act.put]
    try simp only [List.setIfInBounds_toArray]
    try simp only [List.set_cons_succ]
    try simp only [List.set_cons_zero]
    refine wpAnyH_ready (rs := [7]) (by kernel_rfl) (by simp) ?_
    refine AllReadyH.cons rfl (fun K1 hK => ?_) AllReadyH.nil
    refine step_append_lr rfl _ _ rfl w.heap.size _ [] rfl (lw_empty E2_3.out (by have := G2.out; omega)) S' (.slice wa wn wc) wl rfl (H2.out.below B3.out) (by simp; omega) (B3.out.size) ?_
    intro a5 n5 c5 w5 hO5 hg5 ha5
    rw [List.nil_append] at hO5
    have P5 : Hid (LO w5 w.heap.size (.slice a4 n4 c4) (.slice a5 n5 c5) hl wl) := (show LO v3 w.heap.size (.slice a4 n4 c4) (.slice (some ⟨g2, 0, none⟩) 0 0) hl [] from ⟨P1_3.out, lw_empty E2_3.out (by have := G2.out; omega), fun y h e => by have e3 : g2 = y := Option.some.inj e; have := N4.out y h; omega⟩).pushW hO5 hg5 ha5
    have o5 : Only (fun y => y = g2) v3 w5 := only_of_grown hg5 (fun k e => (Option.some.inj e).symm)
    have B5 := hid (B3.out.trans (o5.below B3.out.size (fun b hb e => by have := G2.out; omega)))
    have Kq5 := hid (Kq3.out.to o5 (by have := G2.out; omega))
    have I5 := hid (I3.out.to o5 (by have := G2.out; omega))
    have A5 : Hid (∀ y, lbl (.slice a4 n4 c4) (.slice a5 n5 c5) y → w.heap.size + 1 < y) := fun y e => by
      rcases e with e | e
      · exact A4.out y e
      · rcases ha5 with h1 | h1
        · rw [h1] at e
          have e3 : g2 = y := Option.some.inj e
          have := G2.out
          omega
        · rw [h1] at e
          have e3 : v3.heap.size = y := Option.some.inj e
          have := I3.out.lt
          omega
    clear hO5 hg5 ha5 o5
    refine hK.out _ _ ?_ (fun hHeld => ?_)
    · exact ⟨Kq5.out.cell (j := 0) rfl, Kq5.out.cell (j := 1) rfl⟩
    clear hK K1
    try simp only [List.getElem_toArray]
    try simp only [List.getElem_cons_succ]
    try simp only [List.getElem_cons_zero]
    try simp only [Act.put]
    try simp only [List.setIfInBounds_toArray]
    try simp only [List.set_cons_succ]
    try simp only [List.set_cons_zero]
    refine wpAnyH_take (i := 8) (v := (.agg #[.slice a4 n4 c4, .slice a5 n5 c5])) rfl (by kernel_rfl) (by kernel_rfl) (by kernel_rfl) (fun _ _ _ h => h) (Or.inl ⟨by rfl, ?_⟩) (by assumption) ?_
    · intro w hSw
      (try dsimp only at hSw)
      go_simp
    try simp only [List.getElem_toArray]
    try simp only [List.getElem_cons_succ]
    try simp only [List.getElem_cons_zero]
    try simp only [Act.put]
    try simp only [List.setIfInBounds_toArray]
    try simp only [List.set_cons_succ]
    try simp only [List.set_cons_zero]
    have z0 := I5.out.cell (j := 0) rfl
    have z1 := I5.out.cell (j := 1) rfl
    have e0 := I5.out.free 0
    have e1 := I5.out.free 1
    have Kq6 : Hid (Bk ((w5.setCell ⟨w.heap.size + 1, 0, none⟩ (.slice a4 n4 c4)).setCell ⟨w.heap.size + 1, 1, none⟩ (.slice a5 n5 c5)) w.heap.size 71 [.slice ha hn hc, .slice wa wn wc]) := (Kq5.out.setOther (by omega) 0 _).setOther (by omega) 1 _
    have HF : Hid (LO ((w5.setCell ⟨w.heap.size + 1, 0, none⟩ (.slice a4 n4 c4)).setCell ⟨w.heap.size + 1, 1, none⟩ (.slice a5 n5 c5)) w.heap.size (.slice a4 n4 c4) (.slice a5 n5 c5) hl wl ∧ Below w.heap.size w ((w5.setCell ⟨w.heap.size + 1, 0, none⟩ (.slice a4 n4 c4)).setCell ⟨w.heap.size + 1, 1, none⟩ (.slice a5 n5 c5))) := by
      have ow : Only (fun y => y = w.heap.size + 1) w5 ((w5.setCell ⟨w.heap.size + 1, 0, none⟩ (.slice a4 n4 c4)).setCell ⟨w.heap.size + 1, 1, none⟩ (.slice a5 n5 c5)) := (only_set (R := fun y => y = w.heap.size + 1) (p := ⟨w.heap.size + 1, 0, none⟩) rfl _).trans (only_set (R := fun y => y = w.heap.size + 1) (p := ⟨w.heap.size + 1, 1, none⟩) rfl _)
      exact ⟨P5.out.to ow (fun y hy e => by have := A5.out y hy; omega), B5.out.trans (ow.below B5.out.size (fun b hb e => by omega))⟩
    refine wpAnyH_ready (rs := [9]) (by kernel_rfl) (by simp) ?_
    refine AllReadyH.cons rfl (fun K1 hK => ?_) AllReadyH.nil
    go_simp
    try go_wp2_with fail
    refine hK.out _ _ ?_ (fun hHeld => ?_)
    · exact ⟨Kq6.out.cell (j := 0) rfl, Kq6.out.cell (j := 1) rfl⟩
    clear hK K1
    try simp only [List.getElem_toArray]
    try simp only [List.getElem_cons_succ]
    try simp only [List.getElem_cons_zero]
    try simp only [Act.put]
    try simp only [List.setIfInBounds_toArray]
    try simp only [List.set_cons_succ]
    try simp only [List.set_cons_zero]
    refine wpAnyH_done (by kernel_rfl) ?_ _
    refine NoPanic.normal ?_
    clear z0 z1 e0 e1
    have q0 : ((w5.setCell ⟨w.heap.size + 1, 0, none⟩ (.slice a4 n4 c4)).setCell ⟨w.heap.size + 1, 1, none⟩ (.slice a5 n5 c5)).cell? ⟨w.heap.size + 1, 0, none⟩ = some (.slice a4 n4 c4) := ((I5.out.set 0 _).set 1 _).cell (j := 0) rfl
    have q1 : ((w5.setCell ⟨w.heap.size + 1, 0, none⟩ (.slice a4 n4 c4)).setCell ⟨w.heap.size + 1, 1, none⟩ (.slice a5 n5 c5)).cell? ⟨w.heap.size + 1, 1, none⟩ = some (.slice a5 n5 c5) := ((I5.out.set 0 _).set 1 _).cell (j := 1) rfl
    generalize (w5.setCell ⟨w.heap.size + 1, 0, none⟩ (.slice a4 n4 c4)).setCell ⟨w.heap.size + 1, 1, none⟩ (.slice a5 n5 c5) = V at *
    go_wp2
    try simp only [Exit.inBlock, Exit.then]
    refine bodyPost_ret (v := .agg #[.slice a4 n4 c4, .slice a5 n5 c5]) ?_ rfl ?_
    · exact results_locks rfl _ _ (w.heap.size + 1) rfl q0 q1
    · exact ⟨a4, n4, c4, a5, n5, c5, rfl, HF.out.1, HF.out.2⟩
end Go.Proofs.Ytcpdedpgjaimkaa
/-
  LocksOk of the specification.
-/
namespace Go.Proofs.Ytcpdedpgjaimkaa
open Go.RowKit
set_option linter.unusedVariables false
theorem lr_k8 {u v : World} {S : Nat → Prop} {x : Value} {l : List LK} (h : Lr u S x l) (k : Below u.heap.size u v) : Lr v S x l := h.below k
set_option maxRecDepth 20000 in
set_option maxHeartbeats 16000000 in
theorem specLocksOk_any (S S' : Nat → Prop) (ha : Option Addr) (hn hc : Nat) (wa : Option Addr) (wn wc : Nat) (hl wl : List LK) (w : World) (h1 : Lr w S (.slice ha hn hc) hl) (h2 : Lr w S' (.slice wa wn wc) wl) (hh : hn ≤ 1048577) (hw : wn ≤ 1048577) :
    Calls Try.prog 84 #[.agg #[.slice ha hn hc, .slice wa wn wc]] w fun r w' => r = .returned (.bool (lksOk hl wl)) ∧ Below w.heap.size w w' := by
  have HNH := hid (Rw.len h1).1
  have HNW := hid (Rw.len h2).1
  have bh := (Rw.len h1).2
  have bw := (Rw.len h2).2
  have B0 := hid (below_new (o := .cells #[.slice ha hn hc, .slice wa wn wc] 71) (w := w) (Below.refl _ _))
  have K0 := hid (Bk.new w 71 [.slice ha hn hc, .slice wa wn wc])
  have P0 := hid (h1.below B0.out)
  have Q0 := hid (h2.below B0.out)
  have HV := hid (lksOk_def hl wl)
  rw [heldB_def, waitB_def, ← HNH.out, ← HNW.out] at HV
  clear h1 h2
  have hnot : ∀ (x : Bool) (w : World), (Op.unary .not (.bool x)).run Try.prog w = .ok (.bool (!x)) w := fun _ _ => rfl
  by_cases h60 : hn + wn ≤ 60
  · rw [decide_eq_true h60] at HV
    have h60' : ¬ (60 : Int) < (hn : Int) + (wn : Int) := by omega
    generalize hU : w.alloc (.cells #[.slice ha hn hc, .slice wa wn wc] 71) = U at *
    have HU := hid hU
    clear hU
    go_enter Try.func84, Try.ntmps84
    go_wp2_with fail
    rw [HU.out]
    go_loopw [18] (fun i v => ∃ j : Nat, j ≤ hn ∧ i = .int .i64 j ∧ Hid (Below U.heap.size U v) ∧ Hid ((List.range j).all (hpk hl) = true)) (fun i _ => hn - (intOf i).toNat)
    case atStart => exact ⟨0, Nat.zero_le _, rfl, Below.refl _ _, rfl⟩
    case round =>
      obtain ⟨j, hj, rfl, HB, HT⟩ := hrel
      by_cases hlt : j < hn
      · skip
        have hlt' : (j : Int) < (hn : Int) := by omega
        have HR := hid (P0.out.below HB.out)
        obtain ⟨b, off, ha', -, -, hcell⟩ := HR.out.at (by omega)
        obtain ⟨hc0, hc1, hc2, hc3, hc4, hc5⟩ := hcell j hlt
        clear hcell
        subst ha'
        have HNO : Hid (hpk hl j = false → (List.range hn).all (hpk hl) = false) := rall_no _ hlt
        have HYES : Hid ((List.range (j + 1)).all (hpk hl) = ((List.range j).all (hpk hl) && hpk hl j)) := rall_succ _ _
        have HFR := hid (HR.out.first j (by omega))
        have HKR := hid (K0.out.below HB.out)
        have HPR := hid (Q0.out.below HB.out)
        have HP := hid (hpk_def hl j)
        generalize lAt hl j = cur at hc0 hc1 hc2 hc3 hc4 hc5 HP
        obtain ⟨⟨cc, ce, cn⟩, ⟨clo, chi⟩, cex⟩ := cur
        have B1 : Hid (Below U.heap.size U (wr.alloc (.cells #[.int .i64 cc, .int .i64 ce, .int .i64 cn, .string clo, .string chi, .bool cex] 75))) := HB.out.trans (below_new (Below.refl _ _) |>.mono HB.out.size)
        have hb := below_new (o := .cells #[.int .i64 cc, .int .i64 ce, .int .i64 cn, .string clo, .string chi, .bool cex] 75) (w := wr) (Below.refl _ _)
        have J1 := hid (Bk.new wr 75 [.int .i64 cc, .int .i64 ce, .int .i64 cn, .string clo, .string chi, .bool cex])
        have P1 := hid (HPR.out.below hb)
        have Q1 := hid (HFR.out.below hb)
        have K1 := hid (HKR.out.below hb)
        clear hb
        have T1 := hid (kl8_0 (J1.out.cell (j := 0) rfl) (J1.out.cell (j := 1) rfl) (J1.out.cell (j := 2) rfl) (J1.out.cell (j := 3) rfl) (J1.out.cell (j := 4) rfl) (J1.out.cell (j := 5) rfl) (K1.out.cell (j := 0) rfl) (K1.out.cell (j := 1) rfl))
        have C1 := hid (fun w => specLockOk_any cc ce cn clo chi cex w)
        have hjk : (j : Int) ≤ (hc : Int) := by omega
        have hk0 : ¬ hc = 0 := by omega
        have hk63 : (hc : Int) ≤ 9223372036854775807 := by omega
        have hj0 : (0 : Int) ≤ (j : Int) := by omega
        have C2 : Hid (∀ v, Lr v S (.slice (some ⟨b, off, none⟩) j hc) (hl.take j) → Calls Try.prog 88 #[.slice (some ⟨b, off, none⟩) j hc, .agg #[.int .i64 cc, .int .i64 ce, .int .i64 cn, .string clo, .string chi, .bool cex]] v fun r w' => r = .returned (.bool (anyC (hl.take j) ((cc, ce, cn), (clo, chi), cex))) ∧ Below v.heap.size v w') := fun v hv => l07Any_any cc ce cn clo chi cex S _ j hc (hl.take j) v hv
        generalize lkOk ((cc, ce, cn), (clo, chi), cex) = z1 at *
        generalize anyC (hl.take j) ((cc, ce, cn), (clo, chi), cex) = z2 at *
        clear HR HFR HPR HKR
        have k0 := K1.out.lt
        generalize hG : wr.heap.size = g at *
        go_wp2_with fail
        generalize wr.alloc (.cells #[.int .i64 cc, .int .i64 ce, .int .i64 cn, .string clo, .string chi, .bool cex] 75) = Y at *
        clear hG hc0 hc1 hc2 hc3 hc4 hc5 J1 K1 k0
        cases z1 with
        | false =>
          have HZ := hid (HNO.out (by rw [HP.out]; rfl))
          refine wp_region_noPanic ?_
          refine wp_region_held_drew (S := fun v => v.cell? ⟨g, 0, none⟩ = some (.int .i64 cc) ∧ v.cell? ⟨g, 1, none⟩ = some (.int .i64 ce) ∧ v.cell? ⟨g, 2, none⟩ = some (.int .i64 cn) ∧ v.cell? ⟨g, 3, none⟩ = some (.string clo) ∧ v.cell? ⟨g, 4, none⟩ = some (.string chi) ∧ v.cell? ⟨g, 5, none⟩ = some (.bool cex) ∧ v.cell? ⟨w.heap.size, 0, none⟩ = some (.slice (some ⟨b, off, none⟩) hn hc) ∧ v.cell? ⟨w.heap.size, 1, none⟩ = some (.slice wa wn wc) ∧ KL Y v [(⟨g, 0, none⟩, .int .i64 cc), (⟨g, 1, none⟩, .int .i64 ce), (⟨g, 2, none⟩, .int .i64 cn), (⟨g, 3, none⟩, .string clo), (⟨g, 4, none⟩, .string chi), (⟨g, 5, none⟩, .bool cex), (⟨w.heap.size, 0, none⟩, .slice (some ⟨b, off, none⟩) hn hc), (⟨w.heap.size, 1, none⟩, .slice wa wn wc)]) (by kernel_rfl) (kl8 (T1.out.call (below_drew _))) (fun hHeld => ?_)
          simp only [List.size_toArray, List.length_cons, List.length_nil, Array.replicate_succ, Array.replicate_zero, Nat.reduceAdd, List.push_toArray, List.nil_append, List.cons_append]
          refine wpAnyH_take (i := 0) (v := (.agg #[.int .i64 cc, .int .i64 ce, .int .i64 cn, .string clo, .string chi, .bool cex])) rfl (by kernel_rfl) (by kernel_rfl) (by kernel_rfl) (fun _ _ _ h => h) (Or.inl ⟨by rfl, ?_⟩) (by assumption) ?_
          · intro w hSw
            (try dsimp only at hSw)
            go_simp
          try simp only [List.getElem_toArray]
          try simp only [List.getElem_cons_succ]
          try simp only [List.getElem_cons_zero]
          try simp only [Act.put]
          try simp only [List.setIfInBounds_toArray]
          try simp only [List.set_cons_succ]
          try simp only [List.set_cons_zero]
          refine wpAnyH_ready (rs := [1]) (by kernel_rfl) (by simp) ?_
          refine AllReadyH.cons rfl (fun K1 hK => ?_) AllReadyH.nil
          go_simp
          refine (C1.out _).mono ?_
          rintro r w' ⟨rfl, hbC⟩
          go_wp2_with fail
          refine hK.out _ _ ?_ (fun hHeld => ?_)
          · exact kl8c hbC (by assumption)
          clear hK K1
          try simp only [List.getElem_toArray]
          try simp only [List.getElem_cons_succ]
          try simp only [List.getElem_cons_zero]
          try simp only [Act.put]
          try simp only [List.setIfInBounds_toArray]
          try simp only [List.set_cons_succ]
          try simp only [List.set_cons_zero]
          refine wpAnyH_take (i := 2) (v := (.bool true)) rfl (by kernel_rfl) (by kernel_rfl) (by kernel_rfl) (fun _ _ _ h => h) (Or.inl ⟨by rfl, ?_⟩) (by assumption) ?_
          · intro w hSw
            (try dsimp only at hSw)
            go_simp
          try simp only [List.getElem_toArray]
          try simp only [List.getElem_cons_succ]
          try simp only [List.getElem_cons_zero]
          try simp only [Act.put]
          try simp only [List.setIfInBounds_toArray]
          try simp only [List.set_cons_succ]
          try simp only [List.set_cons_zero]
          refine wpAnyH_take (i := 3) (v := (.bool true)) rfl (by kernel_rfl) (by kernel_rfl) (by kernel_rfl) (fun _ _ _ h => h) (Or.inl ⟨by rfl, ?_⟩) (by assumption) ?_
          · intro w hSw
            (try dsimp only at hSw)
            go_simp
          try simp only [List.getElem_toArray]
          try simp only [List.getElem_cons_succ]
          try simp only [List.getElem_cons_zero]
          try simp only [Act.put]
          try simp only [List.setIfInBounds_toArray]
          try simp only [List.set_cons_succ]
          try simp only [List.set_cons_zero]
          refine take_no (i := 4) rfl (by kernel_rfl) (by kernel_rfl) (by kernel_rfl) (fun _ _ _ h => h) (by rfl) (by assumption) ?_
          try simp only [List.getElem_toArray]
          try simp only [List.getElem_cons_succ]
          try simp only [List.getElem_cons_zero]
          try simp only [Act.put]
          try simp only [List.setIfInBounds_toArray]
          try simp only [List.set_cons_succ]
          try simp only [List.set_cons_zero]
          refine take_no (i := 5) rfl (by kernel_rfl) (by kernel_rfl) (by kernel_rfl) (fun _ _ _ h => h) (by rfl) (by assumption) ?_
          try simp only [List.getElem_toArray]
          try simp only [List.getElem_cons_succ]
          try simp only [List.getElem_cons_zero]
          try simp only [Act.put]
          try simp only [List.setIfInBounds_toArray]
          try simp only [List.set_cons_succ]
          try simp only [List.set_cons_zero]
          refine take_no (i := 6) rfl (by kernel_rfl) (by kernel_rfl) (by kernel_rfl) (fun _ _ _ h => h) (by rfl) (by assumption) ?_
          try simp only [List.getElem_toArray]
          try simp only [List.getElem_cons_succ]
          try simp only [List.getElem_cons_zero]
          try simp only [Act.put]
          try simp only [List.setIfInBounds_toArray]
          try simp only [List.set_cons_succ]
          try simp only [List.set_cons_zero]
          refine take_no (i := 7) rfl (by kernel_rfl) (by kernel_rfl) (by kernel_rfl) (fun _ _ _ h => h) (by rfl) (by assumption) ?_
          try simp only [List.getElem_toArray]
          try simp only [List.getElem_cons_succ]
          try simp only [List.getElem_cons_zero]
          try simp only [Act.put]
          try simp only [List.setIfInBounds_toArray]
          try simp only [List.set_cons_succ]
          try simp only [List.set_cons_zero]
          refine take_no (i := 8) rfl (by kernel_rfl) (by kernel_rfl) (by kernel_rfl) (fun _ _ _ h => h) (by rfl) (by assumption) ?_
          try simp only [List.getElem_toArray]
          try simp only [List.getElem_cons_succ]
          try simp only [List.getElem_cons_zero]
          try simp only [Act.put]
          try simp only [List.setIfInBounds_toArray]
          try simp only [List.set_cons_succ]
          try simp only [List.set_cons_zero]
          refine take_no (i := 9) rfl (by kernel_rfl) (by kernel_rfl) (by kernel_rfl) (fun _ _ _ h => h) (by rfl) (by assumption) ?_
          try simp only [List.getElem_toArray]
          try simp only [List.getElem_cons_succ]
          try simp only [List.getElem_cons_zero]
          try simp only [Act.put]
          try simp only [List.setIfInBounds_toArray]
          try simp only [List.set_cons_succ]
          try simp only [List.set_cons_zero]
          refine wpAnyH_take (i := 10) (v := (.bool true)) rfl (by kernel_rfl) (by kernel_rfl) (by kernel_rfl) (fun _ _ _ h => h) (Or.inl ⟨by rfl, ?_⟩) (by assumption) ?_
          · intro w hSw
            (try dsimp only at hSw)
            go_simp
          try simp only [List.getElem_toArray]
          try simp only [List.getElem_cons_succ]
          try simp only [List.getElem_cons_zero]
          try simp only [Act.put]
          try simp only [List.setIfInBounds_toArray]
          try simp only [List.set_cons_succ]
          try simp only [List.set_cons_zero]
          refine wpAnyH_done (by kernel_rfl) ?_ _
          refine NoPanic.normal ?_
          have B6 := hid (B1.out.trans ((kl8_bel (by assumption)).mono B1.out.size))
          go_wp2
          go_ret
          exact ⟨by rw [HV.out, HZ.out]; simp, B0.out.trans (B6.out.mono B0.out.size)⟩
        | true =>
          refine wp_region_noPanic ?_
          refine wp_region_held_drew (S := fun v => v.cell? ⟨g, 0, none⟩ = some (.int .i64 cc) ∧ v.cell? ⟨g, 1, none⟩ = some (.int .i64 ce) ∧ v.cell? ⟨g, 2, none⟩ = some (.int .i64 cn) ∧ v.cell? ⟨g, 3, none⟩ = some (.string clo) ∧ v.cell? ⟨g, 4, none⟩ = some (.string chi) ∧ v.cell? ⟨g, 5, none⟩ = some (.bool cex) ∧ v.cell? ⟨w.heap.size, 0, none⟩ = some (.slice (some ⟨b, off, none⟩) hn hc) ∧ v.cell? ⟨w.heap.size, 1, none⟩ = some (.slice wa wn wc) ∧ KL Y v [(⟨g, 0, none⟩, .int .i64 cc), (⟨g, 1, none⟩, .int .i64 ce), (⟨g, 2, none⟩, .int .i64 cn), (⟨g, 3, none⟩, .string clo), (⟨g, 4, none⟩, .string chi), (⟨g, 5, none⟩, .bool cex), (⟨w.heap.size, 0, none⟩, .slice (some ⟨b, off, none⟩) hn hc), (⟨w.heap.size, 1, none⟩, .slice wa wn wc)]) (by kernel_rfl) (kl8 (T1.out.call (below_drew _))) (fun hHeld => ?_)
          simp only [List.size_toArray, List.length_cons, List.length_nil, Array.replicate_succ, Array.replicate_zero, Nat.reduceAdd, List.push_toArray, List.nil_append, List.cons_append]
          refine wpAnyH_take (i := 0) (v := (.agg #[.int .i64 cc, .int .i64 ce, .int .i64 cn, .string clo, .string chi, .bool cex])) rfl (by kernel_rfl) (by kernel_rfl) (by kernel_rfl) (fun _ _ _ h => h) (Or.inl ⟨by rfl, ?_⟩) (by assumption) ?_
          · intro w hSw
            (try dsimp only at hSw)
            go_simp
          try simp only [List.getElem_toArray]
          try simp only [List.getElem_cons_succ]
          try simp only [List.getElem_cons_zero]
          try simp only [Act.put]
          try simp only [List.setIfInBounds_toArray]
          try simp only [List.set_cons_succ]
          try simp only [List.set_cons_zero]
          refine wpAnyH_ready (rs := [1]) (by kernel_rfl) (by simp) ?_
          refine AllReadyH.cons rfl (fun K1 hK => ?_) AllReadyH.nil
          go_simp
          refine (C1.out _).mono ?_
          rintro r w' ⟨rfl, hbC⟩
          go_wp2_with fail
          refine hK.out _ _ ?_ (fun hHeld => ?_)
          · exact kl8c hbC (by assumption)
          clear hK K1
          try simp only [List.getElem_toArray]
          try simp only [List.getElem_cons_succ]
          try simp only [List.getElem_cons_zero]
          try simp only [Act.put]
          try simp only [List.setIfInBounds_toArray]
          try simp only [List.set_cons_succ]
          try simp only [List.set_cons_zero]
          refine wpAnyH_take (i := 2) (v := (.bool false)) rfl (by kernel_rfl) (by kernel_rfl) (by kernel_rfl) (fun _ _ _ h => h) (Or.inl ⟨by rfl, ?_⟩) (by assumption) ?_
          · intro w hSw
            (try dsimp only at hSw)
            go_simp
          try simp only [List.getElem_toArray]
          try simp only [List.getElem_cons_succ]
          try simp only [List.getElem_cons_zero]
          try simp only [Act.put]
          try simp only [List.setIfInBounds_toArray]
          try simp only [List.set_cons_succ]
          try simp only [List.set_cons_zero]
          refine wpAnyH_take (i := 3) (v := (.bool false)) rfl (by kernel_rfl) (by kernel_rfl) (by kernel_rfl) (fun _ _ _ h => h) (Or.inl ⟨by rfl, ?_⟩) (by assumption) ?_
          · intro w hSw
            (try dsimp only at hSw)
            go_simp
          try simp only [List.getElem_toArray]
          try simp only [List.getElem_cons_succ]
          try simp only [List.getElem_cons_zero]
          try simp only [Act.put]
          try simp only [List.setIfInBounds_toArray]
          try simp only [List.set_cons_succ]
          try simp only [List.set_cons_zero]
          refine wpAnyH_take (i := 4) (v := (.pointer (some ⟨w.heap.size, 0, none⟩))) rfl (by kernel_rfl) (by kernel_rfl) (by kernel_rfl) (fun _ _ _ h => h) (Or.inl ⟨by rfl, ?_⟩) (by assumption) ?_
          · intro w hSw
            (try dsimp only at hSw)
            go_simp
          try simp only [List.getElem_toArray]
          try simp only [List.getElem_cons_succ]
          try simp only [List.getElem_cons_zero]
          try simp only [Act.put]
          try simp only [List.setIfInBounds_toArray]
          try simp only [List.set_cons_succ]
          try simp only [List.set_cons_zero]
          refine wpAnyH_take (i := 5) (v := (.slice (some ⟨b, off, none⟩) hn hc)) rfl (by kernel_rfl) (by kernel_rfl) (by kernel_rfl) (fun _ _ _ h => h) (Or.inl ⟨by rfl, ?_⟩) (by assumption) ?_
          · intro w hSw
            (try dsimp only at hSw)
            go_simp
          try simp only [List.getElem_toArray]
          try simp only [List.getElem_cons_succ]
          try simp only [List.getElem_cons_zero]
          try simp only [Act.put]
          try simp only [List.setIfInBounds_toArray]
          try simp only [List.set_cons_succ]
          try simp only [List.set_cons_zero]
          refine wpAnyH_take (i := 6) (v := (.int .i64 j)) rfl (by kernel_rfl) (by kernel_rfl) (by kernel_rfl) (fun _ _ _ h => h) (Or.inl ⟨by rfl, ?_⟩) (by assumption) ?_
          · intro w hSw
            (try dsimp only at hSw)
            go_simp
          try simp only [List.getElem_toArray]
          try simp only [List.getElem_cons_succ]
          try simp only [List.getElem_cons_zero]
          try simp only [Act.put]
          try simp only [List.setIfInBounds_toArray]
          try simp only [List.set_cons_succ]
          try simp only [List.set_cons_zero]
          refine wpAnyH_take (i := 7) (v := (.slice (some ⟨b, off, none⟩) j hc)) rfl (by kernel_rfl) (by kernel_rfl) (by kernel_rfl) (fun _ _ _ h => h) (Or.inl ⟨by rfl, ?_⟩) (by assumption) ?_
          · intro w hSw
            (try dsimp only at hSw)
            go_simp
          try simp only [List.getElem_toArray]
          try simp only [List.getElem_cons_succ]
          try simp only [List.getElem_cons_zero]
          try simp only [Act.put]
          try simp only [List.setIfInBounds_toArray]
          try simp only [List.set_cons_succ]
          try simp only [List.set_cons_zero]
          refine wpAnyH_take (i := 8) (v := (.agg #[.int .i64 cc, .int .i64 ce, .int .i64 cn, .string clo, .string chi, .bool cex])) rfl (by kernel_rfl) (by kernel_rfl) (by kernel_rfl) (fun _ _ _ h => h) (Or.inl ⟨by rfl, ?_⟩) (by assumption) ?_
          · intro w hSw
            (try dsimp only at hSw)
            go_simp
          try simp only [List.getElem_toArray]
          try simp only [List.getElem_cons_succ]
          try simp only [List.getElem_cons_zero]
          try simp only [Act.put]
          try simp only [List.setIfInBounds_toArray]
          try simp only [List.set_cons_succ]
          try simp only [List.set_cons_zero]
          refine wpAnyH_ready (rs := [9]) (by kernel_rfl) (by simp) ?_
          refine AllReadyH.cons rfl (fun K1 hK => ?_) AllReadyH.nil
          go_simp
          refine (C2.out _ (lr_k8 Q1.out (kl8_bel (by assumption)))).mono ?_
          rintro r w' ⟨rfl, hbC⟩
          go_wp2_with fail
          refine hK.out _ _ ?_ (fun hHeld => ?_)
          · exact kl8c hbC (by assumption)
          clear hK K1
          try simp only [List.getElem_toArray]
          try simp only [List.getElem_cons_succ]
          try simp only [List.getElem_cons_zero]
          try simp only [Act.put]
          try simp only [List.setIfInBounds_toArray]
          try simp only [List.set_cons_succ]
          try simp only [List.set_cons_zero]
          refine wpAnyH_take (i := 10) (v := (.bool z2)) rfl (by kernel_rfl) (by kernel_rfl) (by kernel_rfl) (fun _ _ _ h => h) (Or.inl ⟨by rfl, ?_⟩) (by assumption) ?_
          · intro w hSw
            (try dsimp only at hSw)
            go_simp
          try simp only [List.getElem_toArray]
          try simp only [List.getElem_cons_succ]
          try simp only [List.getElem_cons_zero]
          try simp only [Act.put]
          try simp only [List.setIfInBounds_toArray]
          try simp only [List.set_cons_succ]
          try simp only [List.set_cons_zero]
          refine wpAnyH_done (by kernel_rfl) ?_ _
          refine NoPanic.normal ?_
          cases z2 with
          | true =>
            have HZ := hid (HNO.out (by rw [HP.out]; rfl))
            have B6 := hid (B1.out.trans ((kl8_bel (by assumption)).mono B1.out.size))
            go_wp2
            go_ret
            exact ⟨by rw [HV.out, HZ.out]; simp, B0.out.trans (B6.out.mono B0.out.size)⟩
          | false =>
            have HY : Hid ((List.range (j + 1)).all (hpk hl) = true) := by
              show _ = true
              rw [HYES.out, HT.out, HP.out]; rfl
            have B6 := hid (B1.out.trans ((kl8_bel (by assumption)).mono B1.out.size))
            go_wp2
            go_roundw
            case rel => exact ⟨j + 1, by omega, by go_num, B6.out, HY.out⟩
            case measure => simp [intOf]; omega
      · have HA : Hid ((List.range hn).all (hpk hl) = true) := by
          show _ = true
          rw [show hn = j by omega]
          exact HT.out
        rw [HA.out] at HV
        have HBX := HB
        clear HT HB HA
        have K1 := hid (K0.out.below HBX.out)
        have y1 := K1.out.cell (j := 1) rfl
        go_wp2_with fail
        go_loopw [38] (fun i v => ∃ j : Nat, j ≤ wn ∧ i = .int .i64 j ∧ Hid (Below U.heap.size U v) ∧ Hid ((List.range j).all (wpk hl wl) = true)) (fun i _ => wn - (intOf i).toNat)
        case atStart => exact ⟨0, Nat.zero_le _, rfl, HBX.out, rfl⟩
        case round =>
          clear K1 y1 HBX
          clear hlt hj
          obtain ⟨j, hj, rfl, HB, HT⟩ := hrel
          by_cases hlt : j < wn
          · skip
            have hlt' : (j : Int) < (wn : Int) := by omega
            have HR := hid (Q0.out.below HB.out)
            obtain ⟨b, off, ha', -, -, hcell⟩ := HR.out.at (by omega)
            obtain ⟨hc0, hc1, hc2, hc3, hc4, hc5⟩ := hcell j hlt
            clear hcell
            subst ha'
            have HNO : Hid (wpk hl wl j = false → (List.range wn).all (wpk hl wl) = false) := rall_no _ hlt
            have HYES : Hid ((List.range (j + 1)).all (wpk hl wl) = ((List.range j).all (wpk hl wl) && wpk hl wl j)) := rall_succ _ _
            have HFR := hid (HR.out.first j (by omega))
            have HKR := hid (K0.out.below HB.out)
            have HPR := hid (P0.out.below HB.out)
            have HP := hid (wpk_def hl wl j)
            generalize lAt wl j = cur at hc0 hc1 hc2 hc3 hc4 hc5 HP
            obtain ⟨⟨cc, ce, cn⟩, ⟨clo, chi⟩, cex⟩ := cur
            have B1 : Hid (Below U.heap.size U (wr.alloc (.cells #[.int .i64 cc, .int .i64 ce, .int .i64 cn, .string clo, .string chi, .bool cex] 75))) := HB.out.trans (below_new (Below.refl _ _) |>.mono HB.out.size)
            have hb := below_new (o := .cells #[.int .i64 cc, .int .i64 ce, .int .i64 cn, .string clo, .string chi, .bool cex] 75) (w := wr) (Below.refl _ _)
            have J1 := hid (Bk.new wr 75 [.int .i64 cc, .int .i64 ce, .int .i64 cn, .string clo, .string chi, .bool cex])
            have P1 := hid (HPR.out.below hb)
            have Q1 := hid (HFR.out.below hb)
            have K1 := hid (HKR.out.below hb)
            clear hb
            have T1 := hid (kl8_0 (J1.out.cell (j := 0) rfl) (J1.out.cell (j := 1) rfl) (J1.out.cell (j := 2) rfl) (J1.out.cell (j := 3) rfl) (J1.out.cell (j := 4) rfl) (J1.out.cell (j := 5) rfl) (K1.out.cell (j := 0) rfl) (K1.out.cell (j := 1) rfl))
            have C1 := hid (fun w => specLockOk_any cc ce cn clo chi cex w)
            have hjk : (j : Int) ≤ (wc : Int) := by omega
            have hk0 : ¬ wc = 0 := by omega
            have hk63 : (wc : Int) ≤ 9223372036854775807 := by omega
            have hj0 : (0 : Int) ≤ (j : Int) := by omega
            have C2 : Hid (∀ v, Lr v S' (.slice (some ⟨b, off, none⟩) j wc) (wl.take j) → Calls Try.prog 86 #[.agg #[.slice none 0 0, .slice (some ⟨b, off, none⟩) j wc], .agg #[.int .i64 cc, .int .i64 ce, .int .i64 cn]] v fun r w' => r = .returned (.bool (hasT (wl.take j) (cc, ce, cn))) ∧ Below v.heap.size v w') := fun v hv => l07Waits_any cc ce cn S' _ _ j wc (wl.take j) v rfl hv
            have C3 : Hid (∀ v, Lr v S (.slice ha hn hc) hl → Calls Try.prog 88 #[.slice ha hn hc, .agg #[.int .i64 cc, .int .i64 ce, .int .i64 cn, .string clo, .string chi, .bool cex]] v fun r w' => r = .returned (.bool (anyC hl ((cc, ce, cn), (clo, chi), cex))) ∧ Below v.heap.size v w') := fun v hv => l07Any_any cc ce cn clo chi cex S _ _ _ hl v hv
            have C4 : Hid (∀ v, Lr v S' (.slice (some ⟨b, off, none⟩) j wc) (wl.take j) → Calls Try.prog 88 #[.slice (some ⟨b, off, none⟩) j wc, .agg #[.int .i64 cc, .int .i64 ce, .int .i64 cn, .string clo, .string chi, .bool cex]] v fun r w' => r = .returned (.bool (anyC (wl.take j) ((cc, ce, cn), (clo, chi), cex))) ∧ Below v.heap.size v w') := fun v hv => l07Any_any cc ce cn clo chi cex S' _ j wc (wl.take j) v hv
            generalize lkOk ((cc, ce, cn), (clo, chi), cex) = z1 at *
            generalize hasT (wl.take j) (cc, ce, cn) = z2 at *
            generalize anyC hl ((cc, ce, cn), (clo, chi), cex) = z3 at *
            generalize anyC (wl.take j) ((cc, ce, cn), (clo, chi), cex) = z4 at *
            clear HR HFR HPR HKR
            have k0 := K1.out.lt
            generalize hG : wr.heap.size = g at *
            go_wp2_with fail
            generalize wr.alloc (.cells #[.int .i64 cc, .int .i64 ce, .int .i64 cn, .string clo, .string chi, .bool cex] 75) = Y at *
            clear hG hc0 hc1 hc2 hc3 hc4 hc5 J1 K1 k0
            cases z1 with
            | false =>
              have HZ := hid (HNO.out (by rw [HP.out]; rfl))
              refine wp_region_noPanic ?_
              refine wp_region_held_drew (S := fun v => v.cell? ⟨g, 0, none⟩ = some (.int .i64 cc) ∧ v.cell? ⟨g, 1, none⟩ = some (.int .i64 ce) ∧ v.cell? ⟨g, 2, none⟩ = some (.int .i64 cn) ∧ v.cell? ⟨g, 3, none⟩ = some (.string clo) ∧ v.cell? ⟨g, 4, none⟩ = some (.string chi) ∧ v.cell? ⟨g, 5, none⟩ = some (.bool cex) ∧ v.cell? ⟨w.heap.size, 0, none⟩ = some (.slice ha hn hc) ∧ v.cell? ⟨w.heap.size, 1, none⟩ = some (.slice (some ⟨b, off, none⟩) wn wc) ∧ KL Y v [(⟨g, 0, none⟩, .int .i64 cc), (⟨g, 1, none⟩, .int .i64 ce), (⟨g, 2, none⟩, .int .i64 cn), (⟨g, 3, none⟩, .string clo), (⟨g, 4, none⟩, .string chi), (⟨g, 5, none⟩, .bool cex), (⟨w.heap.size, 0, none⟩, .slice ha hn hc), (⟨w.heap.size, 1, none⟩, .slice (some ⟨b, off, none⟩) wn wc)]) (by kernel_rfl) (kl8 (T1.out.call (below_drew _))) (fun hHeld => ?_)
              simp only [List.size_toArray, List.length_cons, List.length_nil, Array.replicate_succ, Array.replicate_zero, Nat.reduceAdd, List.push_toArray, List.nil_append, List.cons_append]
              refine wpAnyH_take (i := 0) (v := (.agg #[.int .i64 cc, .int .i64 ce, .int .i64 cn, .string clo, .string chi, .bool cex])) rfl (by kernel_rfl) (by kernel_rfl) (by kernel_rfl) (fun _ _ _ h => h) (Or.inl ⟨by rfl, ?_⟩) (by assumption) ?_
              · intro w hSw
                (try dsimp only at hSw)
                go_simp
              try simp only [List.getElem_toArray]
              try simp only [List.getElem_cons_succ]
              try simp only [List.getElem_cons_zero]
              try simp only [Act.put]
              try simp only [List.setIfInBounds_toArray]
              try simp only [List.set_cons_succ]
              try simp only [List.set_cons_zero]
              refine wpAnyH_ready (rs := [1]) (by kernel_rfl) (by simp) ?_
              refine AllReadyH.cons rfl (fun K1 hK => ?_) AllReadyH.nil
              go_simp
              refine (C1.out _).mono ?_
              rintro r w' ⟨rfl, hbC⟩
              go_wp2_with fail
              refine hK.out _ _ ?_ (fun hHeld => ?_)
              · exact kl8c hbC (by assumption)
              clear hK K1
              try simp only [List.getElem_toArray]
              try simp only [List.getElem_cons_succ]
              try simp only [List.getElem_cons_zero]
              try simp only [Act.put]
              try simp only [List.setIfInBounds_toArray]
              try simp only [List.set_cons_succ]
              try simp only [List.set_cons_zero]
              refine wpAnyH_take (i := 2) (v := (.bool true)) rfl (by kernel_rfl) (by kernel_rfl) (by kernel_rfl) (fun _ _ _ h => h) (Or.inl ⟨by rfl, ?_⟩) (by assumption) ?_
              · intro w hSw
                (try dsimp only at hSw)
                go_simp
              try simp only [List.getElem_toArray]
              try simp only [List.getElem_cons_succ]
              try simp only [List.getElem_cons_zero]
              try simp only [Act.put]
              try simp only [List.setIfInBounds_toArray]
              try simp only [List.set_cons_succ]
              try simp only [List.set_cons_zero]
              refine wpAnyH_take (i := 3) (v := (.bool true)) rfl (by kernel_rfl) (by kernel_rfl) (by kernel_rfl) (fun _ _ _ h => h) (Or.inl ⟨by rfl, ?_⟩) (by assumption) ?_
              · intro w hSw
                (try dsimp only at hSw)
                go_simp
              try simp only [List.getElem_toArray]
              try simp only [List.getElem_cons_succ]
              try simp only [List.getElem_cons_zero]
              try simp only [Act.put]
              try simp only [List.setIfInBounds_toArray]
              try simp only [List.set_cons_succ]
              try simp only [List.set_cons_zero]
              refine take_no (i := 4) rfl (by kernel_rfl) (by kernel_rfl) (by kernel_rfl) (fun _ _ _ h => h) (by rfl) (by assumption) ?_
              try simp only [List.getElem_toArray]
              try simp only [List.getElem_cons_succ]
              try simp only [List.getElem_cons_zero]
              try simp only [Act.put]
              try simp only [List.setIfInBounds_toArray]
              try simp only [List.set_cons_succ]
              try simp only [List.set_cons_zero]
              refine take_no (i := 5) rfl (by kernel_rfl) (by kernel_rfl) (by kernel_rfl) (fun _ _ _ h => h) (by rfl) (by assumption) ?_
              try simp only [List.getElem_toArray]
              try simp only [List.getElem_cons_succ]
              try simp only [List.getElem_cons_zero]
              try simp only [Act.put]
              try simp only [List.setIfInBounds_toArray]
              try simp only [List.set_cons_succ]
              try simp only [List.set_cons_zero]
              refine take_no (i := 6) rfl (by kernel_rfl) (by kernel_rfl) (by kernel_rfl) (fun _ _ _ h => h) (by rfl) (by assumption) ?_
              try simp only [List.getElem_toArray]
              try simp only [List.getElem_cons_succ]
              try simp only [List.getElem_cons_zero]
              try simp only [Act.put]
              try simp only [List.setIfInBounds_toArray]
              try simp only [List.set_cons_succ]
              try simp only [List.set_cons_zero]
              refine take_no (i := 7) rfl (by kernel_rfl) (by kernel_rfl) (by kernel_rfl) (fun _ _ _ h => h) (by rfl) (by assumption) ?_
              try simp only [List.getElem_toArray]
              try simp only [List.getElem_cons_succ]
              try simp only [List.getElem_cons_zero]
              try simp only [Act.put]
              try simp only [List.setIfInBounds_toArray]
              try simp only [List.set_cons_succ]
              try simp only [List.set_cons_zero]
              refine take_no (i := 8) rfl (by kernel_rfl) (by kernel_rfl) (by kernel_rfl) (fun _ _ _ h => h) (by rfl) (by assumption) ?_
              try simp only [List.getElem_toArray]
              try simp only [List.getElem_cons_succ]
              try simp only [List.getElem_cons_zero]
              try simp only [Act.put]
              try simp only [List.setIfInBounds_toArray]
              try simp only [List.set_cons_succ]
              try simp only [List.set_cons_zero]
              refine take_no (i := 9) rfl (by kernel_rfl) (by kernel_rfl) (by kernel_rfl) (fun _ _ _ h => h) (by rfl) (by assumption) ?_
              try simp only [List.getElem_toArray]
              try simp only [List.getElem_cons_succ]
              try simp only [List.getElem_cons_zero]
              try simp only [Act.put]
              try simp only [List.setIfInBounds_toArray]
              try simp only [List.set_cons_succ]
              try simp only [List.set_cons_zero]
              refine take_no (i := 10) rfl (by kernel_rfl) (by kernel_rfl) (by kernel_rfl) (fun _ _ _ h => h) (by rfl) (by assumption) ?_
              try simp only [List.getElem_toArray]
              try simp only [List.getElem_cons_succ]
              try simp only [List.getElem_cons_zero]
              try simp only [Act.put]
              try simp only [List.setIfInBounds_toArray]
              try simp only [List.set_cons_succ]
              try simp only [List.set_cons_zero]
              refine take_no (i := 11) rfl (by kernel_rfl) (by kernel_rfl) (by kernel_rfl) (fun _ _ _ h => h) (by rfl) (by assumption) ?_
              try simp only [List.getElem_toArray]
              try simp only [List.getElem_cons_succ]
              try simp only [List.getElem_cons_zero]
              try simp only [Act.put]
              try simp only [List.setIfInBounds_toArray]
              try simp only [List.set_cons_succ]
              try simp only [List.set_cons_zero]
              refine wpAnyH_take (i := 12) (v := (.bool true)) rfl (by kernel_rfl) (by kernel_rfl) (by kernel_rfl) (fun _ _ _ h => h) (Or.inl ⟨by rfl, ?_⟩) (by assumption) ?_
              · intro w hSw
                (try dsimp only at hSw)
                go_simp
              try simp only [List.getElem_toArray]
              try simp only [List.getElem_cons_succ]
              try simp only [List.getElem_cons_zero]
              try simp only [Act.put]
              try simp only [List.setIfInBounds_toArray]
              try simp only [List.set_cons_succ]
              try simp only [List.set_cons_zero]
              refine wpAnyH_take (i := 13) (v := (.bool true)) rfl (by kernel_rfl) (by kernel_rfl) (by kernel_rfl) (fun _ _ _ h => h) (Or.inl ⟨by rfl, ?_⟩) (by assumption) ?_
              · intro w hSw
                (try dsimp only at hSw)
                go_simp
              try simp only [List.getElem_toArray]
              try simp only [List.getElem_cons_succ]
              try simp only [List.getElem_cons_zero]
              try simp only [Act.put]
              try simp only [List.setIfInBounds_toArray]
              try simp only [List.set_cons_succ]
              try simp only [List.set_cons_zero]
              refine take_no (i := 14) rfl (by kernel_rfl) (by kernel_rfl) (by kernel_rfl) (fun _ _ _ h => h) (by rfl) (by assumption) ?_
              try simp only [List.getElem_toArray]
              try simp only [List.getElem_cons_succ]
              try simp only [List.getElem_cons_zero]
              try simp only [Act.put]
              try simp only [List.setIfInBounds_toArray]
              try simp only [List.set_cons_succ]
              try simp only [List.set_cons_zero]
              refine take_no (i := 15) rfl (by kernel_rfl) (by kernel_rfl) (by kernel_rfl) (fun _ _ _ h => h) (by rfl) (by assumption) ?_
              try simp only [List.getElem_toArray]
              try simp only [List.getElem_cons_succ]
              try simp only [List.getElem_cons_zero]
              try simp only [Act.put]
              try simp only [List.setIfInBounds_toArray]
              try simp only [List.set_cons_succ]
              try simp only [List.set_cons_zero]
              refine take_no (i := 16) rfl (by kernel_rfl) (by kernel_rfl) (by kernel_rfl) (fun _ _ _ h => h) (by rfl) (by assumption) ?_
              try simp only [List.getElem_toArray]
              try simp only [List.getElem_cons_succ]
              try simp only [List.getElem_cons_zero]
              try simp only [Act.put]
              try simp only [List.setIfInBounds_toArray]
              try simp only [List.set_cons_succ]
              try simp only [List.set_cons_zero]
              refine take_no (i := 17) rfl (by kernel_rfl) (by kernel_rfl) (by kernel_rfl) (fun _ _ _ h => h) (by rfl) (by assumption) ?_
              try simp only [List.getElem_toArray]
              try simp only [List.getElem_cons_succ]
              try simp only [List.getElem_cons_zero]
              try simp only [Act.put]
              try simp only [List.setIfInBounds_toArray]
              try simp only [List.set_cons_succ]
              try simp only [List.set_cons_zero]
              refine take_no (i := 18) rfl (by kernel_rfl) (by kernel_rfl) (by kernel_rfl) (fun _ _ _ h => h) (by rfl) (by assumption) ?_
              try simp only [List.getElem_toArray]
              try simp only [List.getElem_cons_succ]
              try simp only [List.getElem_cons_zero]
              try simp only [Act.put]
              try simp only [List.setIfInBounds_toArray]
              try simp only [List.set_cons_succ]
              try simp only [List.set_cons_zero]
              refine take_no (i := 19) rfl (by kernel_rfl) (by kernel_rfl) (by kernel_rfl) (fun _ _ _ h => h) (by rfl) (by assumption) ?_
              try simp only [List.getElem_toArray]
              try simp only [List.getElem_cons_succ]
              try simp only [List.getElem_cons_zero]
              try simp only [Act.put]
              try simp only [List.setIfInBounds_toArray]
              try simp only [List.set_cons_succ]
              try simp only [List.set_cons_zero]
              refine take_no (i := 20) rfl (by kernel_rfl) (by kernel_rfl) (by kernel_rfl) (fun _ _ _ h => h) (by rfl) (by assumption) ?_
              try simp only [List.getElem_toArray]
              try simp only [List.getElem_cons_succ]
              try simp only [List.getElem_cons_zero]
              try simp only [Act.put]
              try simp only [List.setIfInBounds_toArray]
              try simp only [List.set_cons_succ]
              try simp only [List.set_cons_zero]
              refine take_no (i := 21) rfl (by kernel_rfl) (by kernel_rfl) (by kernel_rfl) (fun _ _ _ h => h) (by rfl) (by assumption) ?_
              try simp only [List.getElem_toArray]
              try simp only [List.getElem_cons_succ]
              try simp only [List.getElem_cons_zero]
              try simp only [Act.put]
              try simp only [List.setIfInBounds_toArray]
              try simp only [List.set_cons_succ]
              try simp only [List.set_cons_zero]
              refine take_no (i := 22) rfl (by kernel_rfl) (by kernel_rfl) (by kernel_rfl) (fun _ _ _ h => h) (by rfl) (by assumption) ?_
              try simp only [List.getElem_toArray]
              try simp only [List.getElem_cons_succ]
              try simp only [List.getElem_cons_zero]
              try simp only [Act.put]
              try simp only [List.setIfInBounds_toArray]
              try simp only [List.set_cons_succ]
              try simp only [List.set_cons_zero]
              refine take_no (i := 23) rfl (by kernel_rfl) (by kernel_rfl) (by kernel_rfl) (fun _ _ _ h => h) (by rfl) (by assumption) ?_
              try simp only [List.getElem_toArray]
              try simp only [List.getElem_cons_succ]
              try simp only [List.getElem_cons_zero]
              try simp only [Act.put]
              try simp only [List.setIfInBounds_toArray]
              try simp only [List.set_cons_succ]
              try simp only [List.set_cons_zero]
              refine take_no (i := 24) rfl (by kernel_rfl) (by kernel_rfl) (by kernel_rfl) (fun _ _ _ h => h) (by rfl) (by assumption) ?_
              try simp only [List.getElem_toArray]
              try simp only [List.getElem_cons_succ]
              try simp only [List.getElem_cons_zero]
              try simp only [Act.put]
              try simp only [List.setIfInBounds_toArray]
              try simp only [List.set_cons_succ]
              try simp only [List.set_cons_zero]
              refine take_no (i := 25) rfl (by kernel_rfl) (by kernel_rfl) (by kernel_rfl) (fun _ _ _ h => h) (by rfl) (by assumption) ?_
              try simp only [List.getElem_toArray]
              try simp only [List.getElem_cons_succ]
              try simp only [List.getElem_cons_zero]
              try simp only [Act.put]
              try simp only [List.setIfInBounds_toArray]
              try simp only [List.set_cons_succ]
              try simp only [List.set_cons_zero]
              refine take_no (i := 26) rfl (by kernel_rfl) (by kernel_rfl) (by kernel_rfl) (fun _ _ _ h => h) (by rfl) (by assumption) ?_
              try simp only [List.getElem_toArray]
              try simp only [List.getElem_cons_succ]
              try simp only [List.getElem_cons_zero]
              try simp only [Act.put]
              try simp only [List.setIfInBounds_toArray]
              try simp only [List.set_cons_succ]
              try simp only [List.set_cons_zero]
              refine take_no (i := 27) rfl (by kernel_rfl) (by kernel_rfl) (by kernel_rfl) (fun _ _ _ h => h) (by rfl) (by assumption) ?_
              try simp only [List.getElem_toArray]
              try simp only [List.getElem_cons_succ]
              try simp only [List.getElem_cons_zero]
              try simp only [Act.put]
              try simp only [List.setIfInBounds_toArray]
              try simp only [List.set_cons_succ]
              try simp only [List.set_cons_zero]
              refine wpAnyH_take (i := 28) (v := (.bool true)) rfl (by kernel_rfl) (by kernel_rfl) (by kernel_rfl) (fun _ _ _ h => h) (Or.inl ⟨by rfl, ?_⟩) (by assumption) ?_
              · intro w hSw
                (try dsimp only at hSw)
                go_simp
              try simp only [List.getElem_toArray]
              try simp only [List.getElem_cons_succ]
              try simp only [List.getElem_cons_zero]
              try simp only [Act.put]
              try simp only [List.setIfInBounds_toArray]
              try simp only [List.set_cons_succ]
              try simp only [List.set_cons_zero]
              refine wpAnyH_done (by kernel_rfl) ?_ _
              refine NoPanic.normal ?_
              have B6 := hid (B1.out.trans ((kl8_bel (by assumption)).mono B1.out.size))
              go_wp2
              go_ret
              exact ⟨by rw [HV.out, HZ.out]; simp, B0.out.trans (B6.out.mono B0.out.size)⟩
            | true =>
              cases z2 with
              | true =>
                have HZ := hid (HNO.out (by rw [HP.out]; rfl))
                refine wp_region_noPanic ?_
                refine wp_region_held_drew (S := fun v => v.cell? ⟨g, 0, none⟩ = some (.int .i64 cc) ∧ v.cell? ⟨g, 1, none⟩ = some (.int .i64 ce) ∧ v.cell? ⟨g, 2, none⟩ = some (.int .i64 cn) ∧ v.cell? ⟨g, 3, none⟩ = some (.string clo) ∧ v.cell? ⟨g, 4, none⟩ = some (.string chi) ∧ v.cell? ⟨g, 5, none⟩ = some (.bool cex) ∧ v.cell? ⟨w.heap.size, 0, none⟩ = some (.slice ha hn hc) ∧ v.cell? ⟨w.heap.size, 1, none⟩ = some (.slice (some ⟨b, off, none⟩) wn wc) ∧ KL Y v [(⟨g, 0, none⟩, .int .i64 cc), (⟨g, 1, none⟩, .int .i64 ce), (⟨g, 2, none⟩, .int .i64 cn), (⟨g, 3, none⟩, .string clo), (⟨g, 4, none⟩, .string chi), (⟨g, 5, none⟩, .bool cex), (⟨w.heap.size, 0, none⟩, .slice ha hn hc), (⟨w.heap.size, 1, none⟩, .slice (some ⟨b, off, none⟩) wn wc)]) (by kernel_rfl) (kl8 (T1.out.call (below_drew _))) (fun hHeld => ?_)
                simp only [List.size_toArray, List.length_cons, List.length_nil, Array.replicate_succ, Array.replicate_zero, Nat.reduceAdd, List.push_toArray, List.nil_append, List.cons_append]
                refine wpAnyH_take (i := 0) (v := (.agg #[.int .i64 cc, .int .i64 ce, .int .i64 cn, .string clo, .string chi, .bool cex])) rfl (by kernel_rfl) (by kernel_rfl) (by kernel_rfl) (fun _ _ _ h => h) (Or.inl ⟨by rfl, ?_⟩) (by assumption) ?_
                · intro w hSw
                  (try dsimp only at hSw)
                  go_simp
                try simp only [List.getElem_toArray]
                try simp only [List.getElem_cons_succ]
                try simp only [List.getElem_cons_zero]
                try simp only [Act.put]
                try simp only [List.setIfInBounds_toArray]
                try simp only [List.set_cons_succ]
                try simp only [List.set_cons_zero]
                refine wpAnyH_ready (rs := [1]) (by kernel_rfl) (by simp) ?_
                refine AllReadyH.cons rfl (fun K1 hK => ?_) AllReadyH.nil
                go_simp
                refine (C1.out _).mono ?_
                rintro r w' ⟨rfl, hbC⟩
                go_wp2_with fail
                refine hK.out _ _ ?_ (fun hHeld => ?_)
                · exact kl8c hbC (by assumption)
                clear hK K1
                try simp only [List.getElem_toArray]
                try simp only [List.getElem_cons_succ]
                try simp only [List.getElem_cons_zero]
                try simp only [Act.put]
                try simp only [List.setIfInBounds_toArray]
                try simp only [List.set_cons_succ]
                try simp only [List.set_cons_zero]
                refine wpAnyH_take (i := 2) (v := (.bool false)) rfl (by kernel_rfl) (by kernel_rfl) (by kernel_rfl) (fun _ _ _ h => h) (Or.inl ⟨by rfl, ?_⟩) (by assumption) ?_
                · intro w hSw
                  (try dsimp only at hSw)
                  go_simp
                try simp only [List.getElem_toArray]
                try simp only [List.getElem_cons_succ]
                try simp only [List.getElem_cons_zero]
                try simp only [Act.put]
                try simp only [List.setIfInBounds_toArray]
                try simp only [List.set_cons_succ]
                try simp only [List.set_cons_zero]
                refine wpAnyH_take (i := 3) (v := (.bool false)) rfl (by kernel_rfl) (by kernel_rfl) (by kernel_rfl) (fun _ _ _ h => h) (Or.inl ⟨by rfl, ?_⟩) (by assumption) ?_
                · intro w hSw
                  (try dsimp only at hSw)
                  go_simp
                try simp only [List.getElem_toArray]
                try simp only [List.getElem_cons_succ]
                try simp only [List.getElem_cons_zero]
                try simp only [Act.put]
                try simp only [List.setIfInBounds_toArray]
                try simp only [List.set_cons_succ]
                try simp only [List.set_cons_zero]
                refine wpAnyH_take (i := 4) (v := (.pointer (some ⟨w.heap.size, 1, none⟩))) rfl (by kernel_rfl) (by kernel_rfl) (by kernel_rfl) (fun _ _ _ h => h) (Or.inl ⟨by rfl, ?_⟩) (by assumption) ?_
                · intro w hSw
                  (try dsimp only at hSw)
                  go_simp
                try simp only [List.getElem_toArray]
                try simp only [List.getElem_cons_succ]
                try simp only [List.getElem_cons_zero]
                try simp only [Act.put]
                try simp only [List.setIfInBounds_toArray]
                try simp only [List.set_cons_succ]
                try simp only [List.set_cons_zero]
                refine wpAnyH_take (i := 5) (v := (.slice (some ⟨b, off, none⟩) wn wc)) rfl (by kernel_rfl) (by kernel_rfl) (by kernel_rfl) (fun _ _ _ h => h) (Or.inl ⟨by rfl, ?_⟩) (by assumption) ?_
                · intro w hSw
                  (try dsimp only at hSw)
                  go_simp
                try simp only [List.getElem_toArray]
                try simp only [List.getElem_cons_succ]
                try simp only [List.getElem_cons_zero]
                try simp only [Act.put]
                try simp only [List.setIfInBounds_toArray]
                try simp only [List.set_cons_succ]
                try simp only [List.set_cons_zero]
                refine wpAnyH_take (i := 6) (v := (.int .i64 j)) rfl (by kernel_rfl) (by kernel_rfl) (by kernel_rfl) (fun _ _ _ h => h) (Or.inl ⟨by rfl, ?_⟩) (by assumption) ?_
                · intro w hSw
                  (try dsimp only at hSw)
                  go_simp
                try simp only [List.getElem_toArray]
                try simp only [List.getElem_cons_succ]
                try simp only [List.getElem_cons_zero]
                try simp only [Act.put]
                try simp only [List.setIfInBounds_toArray]
                try simp only [List.set_cons_succ]
                try simp only [List.set_cons_zero]
                refine wpAnyH_take (i := 7) (v := (.slice (some ⟨b, off, none⟩) j wc)) rfl (by kernel_rfl) (by kernel_rfl) (by kernel_rfl) (fun _ _ _ h => h) (Or.inl ⟨by rfl, ?_⟩) (by assumption) ?_
                · intro w hSw
                  (try dsimp only at hSw)
                  go_simp
                try simp only [List.getElem_toArray]
                try simp only [List.getElem_cons_succ]
                try simp only [List.getElem_cons_zero]
                try simp only [Act.put]
                try simp only [List.setIfInBounds_toArray]
                try simp only [List.set_cons_succ]
                try simp only [List.set_cons_zero]
                refine wpAnyH_take (i := 8) (v := (.agg #[.slice none 0 0, .slice (some ⟨b, off, none⟩) j wc])) rfl (by kernel_rfl) (by kernel_rfl) (by kernel_rfl) (fun _ _ _ h => h) (Or.inl ⟨by rfl, ?_⟩) (by assumption) ?_
                · intro w hSw
                  (try dsimp only at hSw)
                  go_simp
                try simp only [List.getElem_toArray]
                try simp only [List.getElem_cons_succ]
                try simp only [List.getElem_cons_zero]
                try simp only [Act.put]
                try simp only [List.setIfInBounds_toArray]
                try simp only [List.set_cons_succ]
                try simp only [List.set_cons_zero]
                refine wpAnyH_take (i := 9) (v := (.pointer (some ⟨g, 0, none⟩))) rfl (by kernel_rfl) (by kernel_rfl) (by kernel_rfl) (fun _ _ _ h => h) (Or.inl ⟨by rfl, ?_⟩) (by assumption) ?_
                · intro w hSw
                  (try dsimp only at hSw)
                  go_simp
                try simp only [List.getElem_toArray]
                try simp only [List.getElem_cons_succ]
                try simp only [List.getElem_cons_zero]
                try simp only [Act.put]
                try simp only [List.setIfInBounds_toArray]
                try simp only [List.set_cons_succ]
                try simp only [List.set_cons_zero]
                refine wpAnyH_take (i := 10) (v := (.agg #[.int .i64 cc, .int .i64 ce, .int .i64 cn])) rfl (by kernel_rfl) (by kernel_rfl) (by kernel_rfl) (fun _ _ _ h => h) (Or.inl ⟨by rfl, ?_⟩) (by assumption) ?_
                · intro w hSw
                  (try dsimp only at hSw)
                  go_simp
                try simp only [List.getElem_toArray]
                try simp only [List.getElem_cons_succ]
                try simp only [List.getElem_cons_zero]
                try simp only [Act.put]
                try simp only [List.setIfInBounds_toArray]
                try simp only [List.set_cons_succ]
                try simp only [List.set_cons_zero]
                refine wpAnyH_ready (rs := [11]) (by kernel_rfl) (by simp) ?_
                refine AllReadyH.cons rfl (fun K1 hK => ?_) AllReadyH.nil
                go_simp
                refine (C2.out _ (lr_k8 Q1.out (kl8_bel (by assumption)))).mono ?_
                rintro r w' ⟨rfl, hbC⟩
                go_wp2_with fail
                refine hK.out _ _ ?_ (fun hHeld => ?_)
                · exact kl8c hbC (by assumption)
                clear hK K1
                try simp only [List.getElem_toArray]
                try simp only [List.getElem_cons_succ]
                try simp only [List.getElem_cons_zero]
                try simp only [Act.put]
                try simp only [List.setIfInBounds_toArray]
                try simp only [List.set_cons_succ]
                try simp only [List.set_cons_zero]
                refine wpAnyH_take (i := 12) (v := (.bool true)) rfl (by kernel_rfl) (by kernel_rfl) (by kernel_rfl) (fun _ _ _ h => h) (Or.inl ⟨by rfl, ?_⟩) (by assumption) ?_
                · intro w hSw
                  (try dsimp only at hSw)
                  go_simp
                try simp only [List.getElem_toArray]
                try simp only [List.getElem_cons_succ]
                try simp only [List.getElem_cons_zero]
                try simp only [Act.put]
                try simp only [List.setIfInBounds_toArray]
                try simp only [List.set_cons_succ]
                try simp only [List.set_cons_zero]
                refine wpAnyH_take (i := 13) (v := (.bool true)) rfl (by kernel_rfl) (by kernel_rfl) (by kernel_rfl) (fun _ _ _ h => h) (Or.inl ⟨by rfl, ?_⟩) (by assumption) ?_
                · intro w hSw
                  (try dsimp only at hSw)
                  go_simp
                try simp only [List.getElem_toArray]
                try simp only [List.getElem_cons_succ]
                try simp only [List.getElem_cons_zero]
                try simp only [Act.put]
                try simp only [List.setIfInBounds_toArray]
                try simp only [List.set_cons_succ]
                try simp only [List.set_cons_zero]
                refine take_no (i := 14) rfl (by kernel_rfl) (by kernel_rfl) (by kernel_rfl) (fun _ _ _ h => h) (by rfl) (by assumption) ?_
                try simp only [List.getElem_toArray]
                try simp only [List.getElem_cons_succ]
                try simp only [List.getElem_cons_zero]
                try simp only [Act.put]
                try simp only [List.setIfInBounds_toArray]
                try simp only [List.set_cons_succ]
                try simp only [List.set_cons_zero]
                refine take_no (i := 15) rfl (by kernel_rfl) (by kernel_rfl) (by kernel_rfl) (fun _ _ _ h => h) (by rfl) (by assumption) ?_
                try simp only [List.getElem_toArray]
                try simp only [List.getElem_cons_succ]
                try simp only [List.getElem_cons_zero]
                try simp only [Act.put]
                try simp only [List.setIfInBounds_toArray]
                try simp only [List.set_cons_succ]
                try simp only [List.set_cons_zero]
                refine take_no (i := 16) rfl (by kernel_rfl) (by kernel_rfl) (by kernel_rfl) (fun _ _ _ h => h) (by rfl) (by assumption) ?_
                try simp only [List.getElem_toArray]
                try simp only [List.getElem_cons_succ]
                try simp only [List.getElem_cons_zero]
                try simp only [Act.put]
                try simp only [List.setIfInBounds_toArray]
                try simp only [List.set_cons_succ]
                try simp only [List.set_cons_zero]
                refine take_no (i := 17) rfl (by kernel_rfl) (by kernel_rfl) (by kernel_rfl) (fun _ _ _ h => h) (by rfl) (by assumption) ?_
                try simp only [List.getElem_toArray]
                try simp only [List.getElem_cons_succ]
                try simp only [List.getElem_cons_zero]
                try simp only [Act.put]
                try simp only [List.setIfInBounds_toArray]
                try simp only [List.set_cons_succ]
                try simp only [List.set_cons_zero]
                refine take_no (i := 18) rfl (by kernel_rfl) (by kernel_rfl) (by kernel_rfl) (fun _ _ _ h => h) (by rfl) (by assumption) ?_
                try simp only [List.getElem_toArray]
                try simp only [List.getElem_cons_succ]
                try simp only [List.getElem_cons_zero]
                try simp only [Act.put]
                try simp only [List.setIfInBounds_toArray]
                try simp only [List.set_cons_succ]
                try simp only [List.set_cons_zero]
                refine take_no (i := 19) rfl (by kernel_rfl) (by kernel_rfl) (by kernel_rfl) (fun _ _ _ h => h) (by rfl) (by assumption) ?_
                try simp only [List.getElem_toArray]
                try simp only [List.getElem_cons_succ]
                try simp only [List.getElem_cons_zero]
                try simp only [Act.put]
                try simp only [List.setIfInBounds_toArray]
                try simp only [List.set_cons_succ]
                try simp only [List.set_cons_zero]
                refine take_no (i := 20) rfl (by kernel_rfl) (by kernel_rfl) (by kernel_rfl) (fun _ _ _ h => h) (by rfl) (by assumption) ?_
                try simp only [List.getElem_toArray]
                try simp only [List.getElem_cons_succ]
                try simp only [List.getElem_cons_zero]
                try simp only [Act.put]
                try simp only [List.setIfInBounds_toArray]
                try simp only [List.set_cons_succ]
                try simp only [List.set_cons_zero]
                refine take_no (i := 21) rfl (by kernel_rfl) (by kernel_rfl) (by kernel_rfl) (fun _ _ _ h => h) (by rfl) (by assumption) ?_
                try simp only [List.getElem_toArray]
                try simp only [List.getElem_cons_succ]
                try simp only [List.getElem_cons_zero]
                try simp only [Act.put]
                try simp only [List.setIfInBounds_toArray]
                try simp only [List.set_cons_succ]
                try simp only [List.set_cons_zero]
                refine take_no (i := 22) rfl (by kernel_rfl) (by kernel_rfl) (by kernel_rfl) (fun _ _ _ h => h) (by rfl) (by assumption) ?_
                try simp only [List.getElem_toArray]
                try simp only [List.getElem_cons_succ]
                try simp only [List.getElem_cons_zero]
                try simp only [Act.put]
                try simp only [List.setIfInBounds_toArray]
                try simp only [List.set_cons_succ]
                try simp only [List.set_cons_zero]
                refine take_no (i := 23) rfl (by kernel_rfl) (by kernel_rfl) (by kernel_rfl) (fun _ _ _ h => h) (by rfl) (by assumption) ?_
                try simp only [List.getElem_toArray]
                try simp only [List.getElem_cons_succ]
                try simp only [List.getElem_cons_zero]
                try simp only [Act.put]
                try simp only [List.setIfInBounds_toArray]
                try simp only [List.set_cons_succ]
                try simp only [List.set_cons_zero]
                refine take_no (i := 24) rfl (by kernel_rfl) (by kernel_rfl) (by kernel_rfl) (fun _ _ _ h => h) (by rfl) (by assumption) ?_
                try simp only [List.getElem_toArray]
                try simp only [List.getElem_cons_succ]
                try simp only [List.getElem_cons_zero]
                try simp only [Act.put]
                try simp only [List.setIfInBounds_toArray]
                try simp only [List.set_cons_succ]
                try simp only [List.set_cons_zero]
                refine take_no (i := 25) rfl (by kernel_rfl) (by kernel_rfl) (by kernel_rfl) (fun _ _ _ h => h) (by rfl) (by assumption) ?_
                try simp only [List.getElem_toArray]
                try simp only [List.getElem_cons_succ]
                try simp only [List.getElem_cons_zero]
                try simp only [Act.put]
                try simp only [List.setIfInBounds_toArray]
                try simp only [List.set_cons_succ]
                try simp only [List.set_cons_zero]
                refine take_no (i := 26) rfl (by kernel_rfl) (by kernel_rfl) (by kernel_rfl) (fun _ _ _ h => h) (by rfl) (by assumption) ?_
                try simp only [List.getElem_toArray]
                try simp only [List.getElem_cons_succ]
                try simp only [List.getElem_cons_zero]
                try simp only [Act.put]
                try simp only [List.setIfInBounds_toArray]
                try simp only [List.set_cons_succ]
                try simp only [List.set_cons_zero]
                refine take_no (i := 27) rfl (by kernel_rfl) (by kernel_rfl) (by kernel_rfl) (fun _ _ _ h => h) (by rfl) (by assumption) ?_
                try simp only [List.getElem_toArray]
                try simp only [List.getElem_cons_succ]
                try simp only [List.getElem_cons_zero]
                try simp only [Act.put]
                try simp only [List.setIfInBounds_toArray]
                try simp only [List.set_cons_succ]
                try simp only [List.set_cons_zero]
                refine wpAnyH_take (i := 28) (v := (.bool true)) rfl (by kernel_rfl) (by kernel_rfl) (by kernel_rfl) (fun _ _ _ h => h) (Or.inl ⟨by rfl, ?_⟩) (by assumption) ?_
                · intro w hSw
                  (try dsimp only at hSw)
                  go_simp
                try simp only [List.getElem_toArray]
                try simp only [List.getElem_cons_succ]
                try simp only [List.getElem_cons_zero]
                try simp only [Act.put]
                try simp only [List.setIfInBounds_toArray]
                try simp only [List.set_cons_succ]
                try simp only [List.set_cons_zero]
                refine wpAnyH_done (by kernel_rfl) ?_ _
                refine NoPanic.normal ?_
                have B6 := hid (B1.out.trans ((kl8_bel (by assumption)).mono B1.out.size))
                go_wp2
                go_ret
                exact ⟨by rw [HV.out, HZ.out]; simp, B0.out.trans (B6.out.mono B0.out.size)⟩
              | false =>
                cases z3 with
                | true =>
                  refine wp_region_noPanic ?_
                  refine wp_region_held_drew (S := fun v => v.cell? ⟨g, 0, none⟩ = some (.int .i64 cc) ∧ v.cell? ⟨g, 1, none⟩ = some (.int .i64 ce) ∧ v.cell? ⟨g, 2, none⟩ = some (.int .i64 cn) ∧ v.cell? ⟨g, 3, none⟩ = some (.string clo) ∧ v.cell? ⟨g, 4, none⟩ = some (.string chi) ∧ v.cell? ⟨g, 5, none⟩ = some (.bool cex) ∧ v.cell? ⟨w.heap.size, 0, none⟩ = some (.slice ha hn hc) ∧ v.cell? ⟨w.heap.size, 1, none⟩ = some (.slice (some ⟨b, off, none⟩) wn wc) ∧ KL Y v [(⟨g, 0, none⟩, .int .i64 cc), (⟨g, 1, none⟩, .int .i64 ce), (⟨g, 2, none⟩, .int .i64 cn), (⟨g, 3, none⟩, .string clo), (⟨g, 4, none⟩, .string chi), (⟨g, 5, none⟩, .bool cex), (⟨w.heap.size, 0, none⟩, .slice ha hn hc), (⟨w.heap.size, 1, none⟩, .slice (some ⟨b, off, none⟩) wn wc)]) (by kernel_rfl) (kl8 (T1.out.call (below_drew _))) (fun hHeld => ?_)
                  simp only [List.size_toArray, List.length_cons, List.length_nil, Array.replicate_succ, Array.replicate_zero, Nat.reduceAdd, List.push_toArray, List.nil_append, List.cons_append]
                  refine wpAnyH_take (i := 0) (v := (.agg #[.int .i64 cc, .int .i64 ce, .int .i64 cn, .string clo, .string chi, .bool cex])) rfl (by kernel_rfl) (by kernel_rfl) (by kernel_rfl) (fun _ _ _ h => h) (Or.inl ⟨by rfl, ?_⟩) (by assumption) ?_
                  · intro w hSw
                    (try dsimp only at hSw)
                    go_simp
                  try simp only [List.getElem_toArray]
                  try simp only [List.getElem_cons_succ]
                  try simp only [List.getElem_cons_zero]
                  try simp only [Act.put]
                  try simp only [List.setIfInBounds_toArray]
                  try simp only [List.set_cons_succ]
                  try simp only [List.set_cons_zero]
                  refine wpAnyH_ready (rs := [1]) (by kernel_rfl) (by simp) ?_
                  refine AllReadyH.cons rfl (fun K1 hK => ?_) AllReadyH.nil
                  go_simp
                  refine (C1.out _).mono ?_
                  rintro r w' ⟨rfl, hbC⟩
                  go_wp2_with fail
                  refine hK.out _ _ ?_ (fun hHeld => ?_)
                  · exact kl8c hbC (by assumption)
                  clear hK K1
                  try simp only [List.getElem_toArray]
                  try simp only [List.getElem_cons_succ]
                  try simp only [List.getElem_cons_zero]
                  try simp only [Act.put]
                  try simp only [List.setIfInBounds_toArray]
                  try simp only [List.set_cons_succ]
                  try simp only [List.set_cons_zero]
                  refine wpAnyH_take (i := 2) (v := (.bool false)) rfl (by kernel_rfl) (by kernel_rfl) (by kernel_rfl) (fun _ _ _ h => h) (Or.inl ⟨by rfl, ?_⟩) (by assumption) ?_
                  · intro w hSw
                    (try dsimp only at hSw)
                    go_simp
                  try simp only [List.getElem_toArray]
                  try simp only [List.getElem_cons_succ]
                  try simp only [List.getElem_cons_zero]
                  try simp only [Act.put]
                  try simp only [List.setIfInBounds_toArray]
                  try simp only [List.set_cons_succ]
                  try simp only [List.set_cons_zero]
                  refine wpAnyH_take (i := 3) (v := (.bool false)) rfl (by kernel_rfl) (by kernel_rfl) (by kernel_rfl) (fun _ _ _ h => h) (Or.inl ⟨by rfl, ?_⟩) (by assumption) ?_
                  · intro w hSw
                    (try dsimp only at hSw)
                    go_simp
                  try simp only [List.getElem_toArray]
                  try simp only [List.getElem_cons_succ]
                  try simp only [List.getElem_cons_zero]
                  try simp only [Act.put]
                  try simp only [List.setIfInBounds_toArray]
                  try simp only [List.set_cons_succ]
                  try simp only [List.set_cons_zero]
                  refine wpAnyH_take (i := 4) (v := (.pointer (some ⟨w.heap.size, 1, none⟩))) rfl (by kernel_rfl) (by kernel_rfl) (by kernel_rfl) (fun _ _ _ h => h) (Or.inl ⟨by rfl, ?_⟩) (by assumption) ?_
                  · intro w hSw
                    (try dsimp only at hSw)
                    go_simp
                  try simp only [List.getElem_toArray]
                  try simp only [List.getElem_cons_succ]
                  try simp only [List.getElem_cons_zero]
                  try simp only [Act.put]
                  try simp only [List.setIfInBounds_toArray]
                  try simp only [List.set_cons_succ]
                  try simp only [List.set_cons_zero]
                  refine wpAnyH_take (i := 5) (v := (.slice (some ⟨b, off, none⟩) wn wc)) rfl (by kernel_rfl) (by kernel_rfl) (by kernel_rfl) (fun _ _ _ h => h) (Or.inl ⟨by rfl, ?_⟩) (by assumption) ?_
                  · intro w hSw
                    (try dsimp only at hSw)
                    go_simp
                  try simp only [List.getElem_toArray]
                  try simp only [List.getElem_cons_succ]
                  try simp only [List.getElem_cons_zero]
                  try simp only [Act.put]
                  try simp only [List.setIfInBounds_toArray]
                  try simp only [List.set_cons_succ]
                  try simp only [List.set_cons_zero]
                  refine wpAnyH_take (i := 6) (v := (.int .i64 j)) rfl (by kernel_rfl) (by kernel_rfl) (by kernel_rfl) (fun _ _ _ h => h) (Or.inl ⟨by rfl, ?_⟩) (by assumption) ?_
                  · intro w hSw
                    (try dsimp only at hSw)
                    go_simp
                  try simp only [List.getElem_toArray]
                  try simp only [List.getElem_cons_succ]
                  try simp only [List.getElem_cons_zero]
                  try simp only [Act.put]
                  try simp only [List.setIfInBounds_toArray]
                  try simp only [List.set_cons_succ]
                  try simp only [List.set_cons_zero]
                  refine wpAnyH_take (i := 7) (v := (.slice (some ⟨b, off, none⟩) j wc)) rfl (by kernel_rfl) (by kernel_rfl) (by kernel_rfl) (fun _ _ _ h => h) (Or.inl ⟨by rfl, ?_⟩) (by assumption) ?_
                  · intro w hSw
                    (try dsimp only at hSw)
                    go_simp
                  try simp only [List.getElem_toArray]
                  try simp only [List.getElem_cons_succ]
                  try simp only [List.getElem_cons_zero]
                  try simp only [Act.put]
                  try simp only [List.setIfInBounds_toArray]
                  try simp only [List.set_cons_succ]
                  try simp only [List.set_cons_zero]
                  refine wpAnyH_take (i := 8) (v := (.agg #[.slice none 0 0, .slice (some ⟨b, off, none⟩) j wc])) rfl (by kernel_rfl) (by kernel_rfl) (by kernel_rfl) (fun _ _ _ h => h) (Or.inl ⟨by rfl, ?_⟩) (by assumption) ?_
                  · intro w hSw
                    (try dsimp only at hSw)
                    go_simp
                  try simp only [List.getElem_toArray]
                  try simp only [List.getElem_cons_succ]
                  try simp only [List.getElem_cons_zero]
                  try simp only [Act.put]
                  try simp only [List.setIfInBounds_toArray]
                  try simp only [List.set_cons_succ]
                  try simp only [List.set_cons_zero]
                  refine wpAnyH_take (i := 9) (v := (.pointer (some ⟨g, 0, none⟩))) rfl (by kernel_rfl) (by kernel_rfl) (by kernel_rfl) (fun _ _ _ h => h) (Or.inl ⟨by rfl, ?_⟩) (by assumption) ?_
                  · intro w hSw
                    (try dsimp only at hSw)
                    go_simp
                  try simp only [List.getElem_toArray]
                  try simp only [List.getElem_cons_succ]
                  try simp only [List.getElem_cons_zero]
                  try simp only [Act.put]
                  try simp only [List.setIfInBounds_toArray]
                  try simp only [List.set_cons_succ]
                  try simp only [List.set_cons_zero]
                  refine wpAnyH_take (i := 10) (v := (.agg #[.int .i64 cc, .int .i64 ce, .int .i64 cn])) rfl (by kernel_rfl) (by kernel_rfl) (by kernel_rfl) (fun _ _ _ h => h) (Or.inl ⟨by rfl, ?_⟩) (by assumption) ?_
                  · intro w hSw
                    (try dsimp only at hSw)
                    go_simp
                  try simp only [List.getElem_toArray]
                  try simp only [List.getElem_cons_succ]
                  try simp only [List.getElem_cons_zero]
                  try simp only [Act.put]
                  try simp only [List.setIfInBounds_toArray]
                  try simp only [List.set_cons_succ]
                  try simp only [List.set_cons_zero]
                  refine wpAnyH_ready (rs := [11]) (by kernel_rfl) (by simp) ?_
                  refine AllReadyH.cons rfl (fun K1 hK => ?_) AllReadyH.nil
                  go_simp
                  refine (C2.out _ (lr_k8 Q1.out (kl8_bel (by assumption)))).mono ?_
                  rintro r w' ⟨rfl, hbC⟩
                  go_wp2_with fail
                  refine hK.out _ _ ?_ (fun hHeld => ?_)
                  · exact kl8c hbC (by assumption)
                  clear hK K1
                  try simp only [List.getElem_toArray]
                  try simp only [List.getElem_cons_succ]
                  try simp only [List.getElem_cons_zero]
                  try simp only [Act.put]
                  try simp only [List.setIfInBounds_toArray]
                  try simp only [List.set_cons_succ]
                  try simp only [List.set_cons_zero]
                  refine wpAnyH_take (i := 12) (v := (.bool false)) rfl (by kernel_rfl) (by kernel_rfl) (by kernel_rfl) (fun _ _ _ h => h) (Or.inl ⟨by rfl, ?_⟩) (by assumption) ?_
                  · intro w hSw
                    (try dsimp only at hSw)
                    go_simp
                  try simp only [List.getElem_toArray]
                  try simp only [List.getElem_cons_succ]
                  try simp only [List.getElem_cons_zero]
                  try simp only [Act.put]
                  try simp only [List.setIfInBounds_toArray]
                  try simp only [List.set_cons_succ]
                  try simp only [List.set_cons_zero]
                  refine wpAnyH_take (i := 13) (v := (.bool false)) rfl (by kernel_rfl) (by kernel_rfl) (by kernel_rfl) (fun _ _ _ h => h) (Or.inl ⟨by rfl, ?_⟩) (by assumption) ?_
                  · intro w hSw
                    (try dsimp only at hSw)
                    go_simp
                  try simp only [List.getElem_toArray]
                  try simp only [List.getElem_cons_succ]
                  try simp only [List.getElem_cons_zero]
                  try simp only [Act.put]
                  try simp only [List.setIfInBounds_toArray]
                  try simp only [List.set_cons_succ]
                  try simp only [List.set_cons_zero]
                  refine wpAnyH_take (i := 14) (v := (.pointer (some ⟨w.heap.size, 0, none⟩))) rfl (by kernel_rfl) (by kernel_rfl) (by kernel_rfl) (fun _ _ _ h => h) (Or.inl ⟨by rfl, ?_⟩) (by assumption) ?_
                  · intro w hSw
                    (try dsimp only at hSw)
                    go_simp
                  try simp only [List.getElem_toArray]
                  try simp only [List.getElem_cons_succ]
                  try simp only [List.getElem_cons_zero]
                  try simp only [Act.put]
                  try simp only [List.setIfInBounds_toArray]
                  try simp only [List.set_cons_succ]
                  try simp only [List.set_cons_zero]
                  refine wpAnyH_take (i := 15) (v := (.slice ha hn hc)) rfl (by kernel_rfl) (by kernel_rfl) (by kernel_rfl) (fun _ _ _ h => h) (Or.inl ⟨by rfl, ?_⟩) (by assumption) ?_
                  · intro w hSw
                    (try dsimp only at hSw)
                    go_simp
                  try simp only [List.getElem_toArray]
                  try simp only [List.getElem_cons_succ]
                  try simp only [List.getElem_cons_zero]
                  try simp only [Act.put]
                  try simp only [List.setIfInBounds_toArray]
                  try simp only [List.set_cons_succ]
                  try simp only [List.set_cons_zero]
                  refine wpAnyH_take (i := 16) (v := (.agg #[.int .i64 cc, .int .i64 ce, .int .i64 cn, .string clo, .string chi, .bool cex])) rfl (by kernel_rfl) (by kernel_rfl) (by kernel_rfl) (fun _ _ _ h => h) (Or.inl ⟨by rfl, ?_⟩) (by assumption) ?_
                  · intro w hSw
                    (try dsimp only at hSw)
                    go_simp
                  try simp only [List.getElem_toArray]
                  try simp only [List.getElem_cons_succ]
                  try simp only [List.getElem_cons_zero]
                  try simp only [Act.put]
                  try simp only [List.setIfInBounds_toArray]
                  try simp only [List.set_cons_succ]
                  try simp only [List.set_cons_zero]
                  refine wpAnyH_ready (rs := [17]) (by kernel_rfl) (by simp) ?_
                  refine AllReadyH.cons rfl (fun K1 hK => ?_) AllReadyH.nil
                  go_simp
                  refine (C3.out _ (lr_k8 P1.out (kl8_bel (by assumption)))).mono ?_
                  rintro r w' ⟨rfl, hbC⟩
                  go_wp2_with fail
                  refine hK.out _ _ ?_ (fun hHeld => ?_)
                  · exact kl8c hbC (by assumption)
                  clear hK K1
                  try simp only [List.getElem_toArray]
                  try simp only [List.getElem_cons_succ]
                  try simp only [List.getElem_cons_zero]
                  try simp only [Act.put]
                  try simp only [List.setIfInBounds_toArray]
                  try simp only [List.set_cons_succ]
                  try simp only [List.set_cons_zero]
                  refine wpAnyH_take (i := 18) (v := (.bool false)) rfl (by kernel_rfl) (by kernel_rfl) (by kernel_rfl) (fun _ _ _ h => h) (Or.inl ⟨by rfl, ?_⟩) (by assumption) ?_
                  · intro w hSw
                    (try dsimp only at hSw)
                    go_simp
                  try simp only [List.getElem_toArray]
                  try simp only [List.getElem_cons_succ]
                  try simp only [List.getElem_cons_zero]
                  try simp only [Act.put]
                  try simp only [List.setIfInBounds_toArray]
                  try simp only [List.set_cons_succ]
                  try simp only [List.set_cons_zero]
                  refine wpAnyH_take (i := 19) (v := (.bool false)) rfl (by kernel_rfl) (by kernel_rfl) (by kernel_rfl) (fun _ _ _ h => h) (Or.inl ⟨by rfl, ?_⟩) (by assumption) ?_
                  · intro w hSw
                    (try dsimp only at hSw)
                    go_simp
                  try simp only [List.getElem_toArray]
                  try simp only [List.getElem_cons_succ]
                  try simp only [List.getElem_cons_zero]
                  try simp only [Act.put]
                  try simp only [List.setIfInBounds_toArray]
                  try simp only [List.set_cons_succ]
                  try simp only [List.set_cons_zero]
                  refine take_no (i := 20) rfl (by kernel_rfl) (by kernel_rfl) (by kernel_rfl) (fun _ _ _ h => h) (by rfl) (by assumption) ?_
                  try simp only [List.getElem_toArray]
                  try simp only [List.getElem_cons_succ]
                  try simp only [List.getElem_cons_zero]
                  try simp only [Act.put]
                  try simp only [List.setIfInBounds_toArray]
                  try simp only [List.set_cons_succ]
                  try simp only [List.set_cons_zero]
                  refine take_no (i := 21) rfl (by kernel_rfl) (by kernel_rfl) (by kernel_rfl) (fun _ _ _ h => h) (by rfl) (by assumption) ?_
                  try simp only [List.getElem_toArray]
                  try simp only [List.getElem_cons_succ]
                  try simp only [List.getElem_cons_zero]
                  try simp only [Act.put]
                  try simp only [List.setIfInBounds_toArray]
                  try simp only [List.set_cons_succ]
                  try simp only [List.set_cons_zero]
                  refine take_no (i := 22) rfl (by kernel_rfl) (by kernel_rfl) (by kernel_rfl) (fun _ _ _ h => h) (by rfl) (by assumption) ?_
                  try simp only [List.getElem_toArray]
                  try simp only [List.getElem_cons_succ]
                  try simp only [List.getElem_cons_zero]
                  try simp only [Act.put]
                  try simp only [List.setIfInBounds_toArray]
                  try simp only [List.set_cons_succ]
                  try simp only [List.set_cons_zero]
                  refine take_no (i := 23) rfl (by kernel_rfl) (by kernel_rfl) (by kernel_rfl) (fun _ _ _ h => h) (by rfl) (by assumption) ?_
                  try simp only [List.getElem_toArray]
                  try simp only [List.getElem_cons_succ]
                  try simp only [List.getElem_cons_zero]
                  try simp only [Act.put]
                  try simp only [List.setIfInBounds_toArray]
                  try simp only [List.set_cons_succ]
                  try simp only [List.set_cons_zero]
                  refine take_no (i := 24) rfl (by kernel_rfl) (by kernel_rfl) (by kernel_rfl) (fun _ _ _ h => h) (by rfl) (by assumption) ?_
                  try simp only [List.getElem_toArray]
                  try simp only [List.getElem_cons_succ]
                  try simp only [List.getElem_cons_zero]
                  try simp only [Act.put]
                  try simp only [List.setIfInBounds_toArray]
                  try simp only [List.set_cons_succ]
                  try simp only [List.set_cons_zero]
                  refine take_no (i := 25) rfl (by kernel_rfl) (by kernel_rfl) (by kernel_rfl) (fun _ _ _ h => h) (by rfl) (by assumption) ?_
                  try simp only [List.getElem_toArray]
                  try simp only [List.getElem_cons_succ]
                  try simp only [List.getElem_cons_zero]
                  try simp only [Act.put]
                  try simp only [List.setIfInBounds_toArray]
                  try simp only [List.set_cons_succ]
                  try simp only [List.set_cons_zero]
                  refine take_no (i := 26) rfl (by kernel_rfl) (by kernel_rfl) (by kernel_rfl) (fun _ _ _ h => h) (by rfl) (by assumption) ?_
                  try simp only [List.getElem_toArray]
                  try simp only [List.getElem_cons_succ]
                  try simp only [List.getElem_cons_zero]
                  try simp only [Act.put]
                  try simp only [List.setIfInBounds_toArray]
                  try simp only [List.set_cons_succ]
                  try simp only [List.set_cons_zero]
                  refine wpAnyH_take (i := 27) (v := (.bool false)) rfl (by kernel_rfl) (by kernel_rfl) (by kernel_rfl) (fun _ _ _ h => h) (Or.inl ⟨by rfl, ?_⟩) (by assumption) ?_
                  · intro w hSw
                    (try dsimp only at hSw)
                    go_simp
                  try simp only [List.getElem_toArray]
                  try simp only [List.getElem_cons_succ]
                  try simp only [List.getElem_cons_zero]
                  try simp only [Act.put]
                  try simp only [List.setIfInBounds_toArray]
                  try simp only [List.set_cons_succ]
                  try simp only [List.set_cons_zero]
                  refine wpAnyH_take (i := 28) (v := (.bool false)) rfl (by kernel_rfl) (by kernel_rfl) (by kernel_rfl) (fun _ _ _ h => h) (Or.inl ⟨by rfl, ?_⟩) (by assumption) ?_
                  · intro w hSw
                    (try dsimp only at hSw)
                    go_simp
                  try simp only [List.getElem_toArray]
                  try simp only [List.getElem_cons_succ]
                  try simp only [List.getElem_cons_zero]
                  try simp only [Act.put]
                  try simp only [List.setIfInBounds_toArray]
                  try simp only [List.set_cons_succ]
                  try simp only [List.set_cons_zero]
                  refine wpAnyH_done (by kernel_rfl) ?_ _
                  refine NoPanic.normal ?_
                  have HY : Hid ((List.range (j + 1)).all (wpk hl wl) = true) := by
                    show _ = true
                    rw [HYES.out, HT.out, HP.out]; rfl
                  have B6 := hid (B1.out.trans ((kl8_bel (by assumption)).mono B1.out.size))
                  go_wp2
                  go_roundw
                  case rel => exact ⟨j + 1, by omega, by go_num, B6.out, HY.out⟩
                  case measure => simp [intOf]; omega
                | false =>
                  refine wp_region_noPanic ?_
                  refine wp_region_held_drew (S := fun v => v.cell? ⟨g, 0, none⟩ = some (.int .i64 cc) ∧ v.cell? ⟨g, 1, none⟩ = some (.int .i64 ce) ∧ v.cell? ⟨g, 2, none⟩ = some (.int .i64 cn) ∧ v.cell? ⟨g, 3, none⟩ = some (.string clo) ∧ v.cell? ⟨g, 4, none⟩ = some (.string chi) ∧ v.cell? ⟨g, 5, none⟩ = some (.bool cex) ∧ v.cell? ⟨w.heap.size, 0, none⟩ = some (.slice ha hn hc) ∧ v.cell? ⟨w.heap.size, 1, none⟩ = some (.slice (some ⟨b, off, none⟩) wn wc) ∧ KL Y v [(⟨g, 0, none⟩, .int .i64 cc), (⟨g, 1, none⟩, .int .i64 ce), (⟨g, 2, none⟩, .int .i64 cn), (⟨g, 3, none⟩, .string clo), (⟨g, 4, none⟩, .string chi), (⟨g, 5, none⟩, .bool cex), (⟨w.heap.size, 0, none⟩, .slice ha hn hc), (⟨w.heap.size, 1, none⟩, .slice (some ⟨b, off, none⟩) wn wc)]) (by kernel_rfl) (kl8 (T1.out.call (below_drew _))) (fun hHeld => ?_)
                  simp only [List.size_toArray, List.length_cons, List.length_nil, Array.replicate_succ, Array.replicate_zero, Nat.reduceAdd, List.push_toArray, List.nil_append, List.cons_append]
                  refine wpAnyH_take (i := 0) (v := (.agg #[.int .i64 cc, .int .i64 ce, .int .i64 cn, .string clo, .string chi, .bool cex])) rfl (by kernel_rfl) (by kernel_rfl) (by kernel_rfl) (fun _ _ _ h => h) (Or.inl ⟨by rfl, ?_⟩) (by assumption) ?_
                  · intro w hSw
                    (try dsimp only at hSw)
                    go_simp
                  try simp only [List.getElem_toArray]
                  try simp only [List.getElem_cons_succ]
                  try simp only [List.getElem_cons_zero]
                  try simp only [Act.put]
                  try simp only [List.setIfInBounds_toArray]
                  try simp only [List.set_cons_succ]
                  try simp only [List.set_cons_zero]
                  refine wpAnyH_ready (rs := [1]) (by kernel_rfl) (by simp) ?_
                  refine AllReadyH.cons rfl (fun K1 hK => ?_) AllReadyH.nil
                  go_simp
                  refine (C1.out _).mono ?_
                  rintro r w' ⟨rfl, hbC⟩
                  go_wp2_with fail
                  refine hK.out _ _ ?_ (fun hHeld => ?_)
                  · exact kl8c hbC (by assumption)
                  clear hK K1
                  try simp only [List.getElem_toArray]
                  try simp only [List.getElem_cons_succ]
                  try simp only [List.getElem_cons_zero]
                  try simp only [Act.put]
                  try simp only [List.setIfInBounds_toArray]
                  try simp only [List.set_cons_succ]
                  try simp only [List.set_cons_zero]
                  refine wpAnyH_take (i := 2) (v := (.bool false)) rfl (by kernel_rfl) (by kernel_rfl) (by kernel_rfl) (fun _ _ _ h => h) (Or.inl ⟨by rfl, ?_⟩) (by assumption) ?_
                  · intro w hSw
                    (try dsimp only at hSw)
                    go_simp
                  try simp only [List.getElem_toArray]
                  try simp only [List.getElem_cons_succ]
                  try simp only [List.getElem_cons_zero]
                  try simp only [Act.put]
                  try simp only [List.setIfInBounds_toArray]
                  try simp only [List.set_cons_succ]
                  try simp only [List.set_cons_zero]
                  refine wpAnyH_take (i := 3) (v := (.bool false)) rfl (by kernel_rfl) (by kernel_rfl) (by kernel_rfl) (fun _ _ _ h => h) (Or.inl ⟨by rfl, ?_⟩) (by assumption) ?_
                  · intro w hSw
                    (try dsimp only at hSw)
                    go_simp
                  try simp only [List.getElem_toArray]
                  try simp only [List.getElem_cons_succ]
                  try simp only [List.getElem_cons_zero]
                  try simp only [Act.put]
                  try simp only [List.setIfInBounds_toArray]
                  try simp only [List.set_cons_succ]
                  try simp only [List.set_cons_zero]
                  refine wpAnyH_take (i := 4) (v := (.pointer (some ⟨w.heap.size, 1, none⟩))) rfl (by kernel_rfl) (by kernel_rfl) (by kernel_rfl) (fun _ _ _ h => h) (Or.inl ⟨by rfl, ?_⟩) (by assumption) ?_
                  · intro w hSw
                    (try dsimp only at hSw)
                    go_simp
                  try simp only [List.getElem_toArray]
                  try simp only [List.getElem_cons_succ]
                  try simp only [List.getElem_cons_zero]
                  try simp only [Act.put]
                  try simp only [List.setIfInBounds_toArray]
                  try simp only [List.set_cons_succ]
                  try simp only [List.set_cons_zero]
                  refine wpAnyH_take (i := 5) (v := (.slice (some ⟨b, off, none⟩) wn wc)) rfl (by kernel_rfl) (by kernel_rfl) (by kernel_rfl) (fun _ _ _ h => h) (Or.inl ⟨by rfl, ?_⟩) (by assumption) ?_
                  · intro w hSw
                    (try dsimp only at hSw)
                    go_simp
                  try simp only [List.getElem_toArray]
                  try simp only [List.getElem_cons_succ]
                  try simp only [List.getElem_cons_zero]
                  try simp only [Act.put]
                  try simp only [List.setIfInBounds_toArray]
                  try simp only [List.set_cons_succ]
                  try simp only [List.set_cons_zero]
                  refine wpAnyH_take (i := 6) (v := (.int .i64 j)) rfl (by kernel_rfl) (by kernel_rfl) (by kernel_rfl) (fun _ _ _ h => h) (Or.inl ⟨by rfl, ?_⟩) (by assumption) ?_
                  · intro w hSw
                    (try dsimp only at hSw)
                    go_simp
                  try simp only [List.getElem_toArray]
                  try simp only [List.getElem_cons_succ]
                  try simp only [List.getElem_cons_zero]
                  try simp only [Act.put]
                  try simp only [List.setIfInBounds_toArray]
                  try simp only [List.set_cons_succ]
                  try simp only [List.set_cons_zero]
                  refine wpAnyH_take (i := 7) (v := (.slice (some ⟨b, off, none⟩) j wc)) rfl (by kernel_rfl) (by kernel_rfl) (by kernel_rfl) (fun _ _ _ h => h) (Or.inl ⟨by rfl, ?_⟩) (by assumption) ?_
                  · intro w hSw
                    (try dsimp only at hSw)
                    go_simp
                  try simp only [List.getElem_toArray]
                  try simp only [List.getElem_cons_succ]
                  try simp only [List.getElem_cons_zero]
                  try simp only [Act.put]
                  try simp only [List.setIfInBounds_toArray]
                  try simp only [List.set_cons_succ]
                  try simp only [List.set_cons_zero]
                  refine wpAnyH_take (i := 8) (v := (.agg #[.slice none 0 0, .slice (some ⟨b, off, none⟩) j wc])) rfl (by kernel_rfl) (by kernel_rfl) (by kernel_rfl) (fun _ _ _ h => h) (Or.inl ⟨by rfl, ?_⟩) (by assumption) ?_
                  · intro w hSw
                    (try dsimp only at hSw)
                    go_simp
                  try simp only [List.getElem_toArray]
                  try simp only [List.getElem_cons_succ]
                  try simp only [List.getElem_cons_zero]
                  try simp only [Act.put]
                  try simp only [List.setIfInBounds_toArray]
                  try simp only [List.set_cons_succ]
                  try simp only [List.set_cons_zero]
                  refine wpAnyH_take (i := 9) (v := (.pointer (some ⟨g, 0, none⟩))) rfl (by kernel_rfl) (by kernel_rfl) (by kernel_rfl) (fun _ _ _ h => h) (Or.inl ⟨by rfl, ?_⟩) (by assumption) ?_
                  · intro w hSw
                    (try dsimp only at hSw)
                    go_simp
                  try simp only [List.getElem_toArray]
                  try simp only [List.getElem_cons_succ]
                  try simp only [List.getElem_cons_zero]
                  try simp only [Act.put]
                  try simp only [List.setIfInBounds_toArray]
                  try simp only [List.set_cons_succ]
                  try simp only [List.set_cons_zero]
                  refine wpAnyH_take (i := 10) (v := (.agg #[.int .i64 cc, .int .i64 ce, .int .i64 cn])) rfl (by kernel_rfl) (by kernel_rfl) (by kernel_rfl) (fun _ _ _ h => h) (Or.inl ⟨by rfl, ?_⟩) (by assumption) ?_
                  · intro w hSw
                    (try dsimp only at hSw)
                    go_simp
                  try simp only [List.getElem_toArray]
                  try simp only [List.getElem_cons_succ]
                  try simp only [List.getElem_cons_zero]
                  try simp only [Act.put]
                  try simp only [List.setIfInBounds_toArray]
                  try simp only [List.set_cons_succ]
                  try simp only [List.set_cons_zero]
                  refine wpAnyH_ready (rs := [11]) (by kernel_rfl) (by simp) ?_
                  refine AllReadyH.cons rfl (fun K1 hK => ?_) AllReadyH.nil
                  go_simp
                  refine (C2.out _ (lr_k8 Q1.out (kl8_bel (by assumption)))).mono ?_
                  rintro r w' ⟨rfl, hbC⟩
                  go_wp2_with fail
                  refine hK.out _ _ ?_ (fun hHeld => ?_)
                  · exact kl8c hbC (by assumption)
                  clear hK K1
                  try simp only [List.getElem_toArray]
                  try simp only [List.getElem_cons_succ]
                  try simp only [List.getElem_cons_zero]
                  try simp only [Act.put]
                  try simp only [List.setIfInBounds_toArray]
                  try simp only [List.set_cons_succ]
                  try simp only [List.set_cons_zero]
                  refine wpAnyH_take (i := 12) (v := (.bool false)) rfl (by kernel_rfl) (by kernel_rfl) (by kernel_rfl) (fun _ _ _ h => h) (Or.inl ⟨by rfl, ?_⟩) (by assumption) ?_
                  · intro w hSw
                    (try dsimp only at hSw)
                    go_simp
                  try simp only [List.getElem_toArray]
                  try simp only [List.getElem_cons_succ]
                  try simp only [List.getElem_cons_zero]
                  try simp only [Act.put]
                  try simp only [List.setIfInBounds_toArray]
                  try simp only [List.set_cons_succ]
                  try simp only [List.set_cons_zero]
                  refine wpAnyH_take (i := 13) (v := (.bool false)) rfl (by kernel_rfl) (by kernel_rfl) (by kernel_rfl) (fun _ _ _ h => h) (Or.inl ⟨by rfl, ?_⟩) (by assumption) ?_
                  · intro w hSw
                    (try dsimp only at hSw)
                    go_simp
                  try simp only [List.getElem_toArray]
                  try simp only [List.getElem_cons_succ]
                  try simp only [List.getElem_cons_zero]
                  try simp only [Act.put]
                  try simp only [List.setIfInBounds_toArray]
                  try simp only [List.set_cons_succ]
                  try simp only [List.set_cons_zero]
                  refine wpAnyH_take (i := 14) (v := (.pointer (some ⟨w.heap.size, 0, none⟩))) rfl (by kernel_rfl) (by kernel_rfl) (by kernel_rfl) (fun _ _ _ h => h) (Or.inl ⟨by rfl, ?_⟩) (by assumption) ?_
                  · intro w hSw
                    (try dsimp only at hSw)
                    go_simp
                  try simp only [List.getElem_toArray]
                  try simp only [List.getElem_cons_succ]
                  try simp only [List.getElem_cons_zero]
                  try simp only [Act.put]
                  try simp only [List.setIfInBounds_toArray]
                  try simp only [List.set_cons_succ]
                  try simp only [List.set_cons_zero]
                  refine wpAnyH_take (i := 15) (v := (.slice ha hn hc)) rfl (by kernel_rfl) (by kernel_rfl) (by kernel_rfl) (fun _ _ _ h => h) (Or.inl ⟨by rfl, ?_⟩) (by assumption) ?_
                  · intro w hSw
                    (try dsimp only at hSw)
                    go_simp
                  try simp only [List.getElem_toArray]
                  try simp only [List.getElem_cons_succ]
                  try simp only [List.getElem_cons_zero]
                  try simp only [Act.put]
                  try simp only [List.setIfInBounds_toArray]
                  try simp only [List.set_cons_succ]
                  try simp only [List.set_cons_zero]
                  refine wpAnyH_take (i := 16) (v := (.agg #[.int .i64 cc, .int .i64 ce, .int .i64 cn, .string clo, .string chi, .bool cex])) rfl (by kernel_rfl) (by kernel_rfl) (by kernel_rfl) (fun _ _ _ h => h) (Or.inl ⟨by rfl, ?_⟩) (by assumption) ?_
                  · intro w hSw
                    (try dsimp only at hSw)
                    go_simp
                  try simp only [List.getElem_toArray]
                  try simp only [List.getElem_cons_succ]
                  try simp only [List.getElem_cons_zero]
                  try simp only [Act.put]
                  try simp only [List.setIfInBounds_toArray]
                  try simp only [List.set_cons_succ]
                  try simp only [List.set_cons_zero]
                  refine wpAnyH_ready (rs := [17]) (by kernel_rfl) (by simp) ?_
                  refine AllReadyH.cons rfl (fun K1 hK => ?_) AllReadyH.nil
                  go_simp
                  refine (C3.out _ (lr_k8 P1.out (kl8_bel (by assumption)))).mono ?_
                  rintro r w' ⟨rfl, hbC⟩
                  go_wp2_with fail
                  refine hK.out _ _ ?_ (fun hHeld => ?_)
                  · exact kl8c hbC (by assumption)
                  clear hK K1
                  try simp only [List.getElem_toArray]
                  try simp only [List.getElem_cons_succ]
                  try simp only [List.getElem_cons_zero]
                  try simp only [Act.put]
                  try simp only [List.setIfInBounds_toArray]
                  try simp only [List.set_cons_succ]
                  try simp only [List.set_cons_zero]
                  refine wpAnyH_take (i := 18) (v := (.bool true)) rfl (by kernel_rfl) (by kernel_rfl) (by kernel_rfl) (fun _ _ _ h => h) (Or.inl ⟨by rfl, ?_⟩) (by assumption) ?_
                  · intro w hSw
                    (try dsimp only at hSw)
                    go_simp
                  try simp only [List.getElem_toArray]
                  try simp only [List.getElem_cons_succ]
                  try simp only [List.getElem_cons_zero]
                  try simp only [Act.put]
                  try simp only [List.setIfInBounds_toArray]
                  try simp only [List.set_cons_succ]
                  try simp only [List.set_cons_zero]
                  refine wpAnyH_take (i := 19) (v := (.bool true)) rfl (by kernel_rfl) (by kernel_rfl) (by kernel_rfl) (fun _ _ _ h => h) (Or.inl ⟨by rfl, ?_⟩) (by assumption) ?_
                  · intro w hSw
                    (try dsimp only at hSw)
                    go_simp
                  try simp only [List.getElem_toArray]
                  try simp only [List.getElem_cons_succ]
                  try simp only [List.getElem_cons_zero]
                  try simp only [Act.put]
                  try simp only [List.setIfInBounds_toArray]
                  try simp only [List.set_cons_succ]
                  try simp only [List.set_cons_zero]
                  refine wpAnyH_take (i := 20) (v := (.pointer (some ⟨w.heap.size, 1, none⟩))) rfl (by kernel_rfl) (by kernel_rfl) (by kernel_rfl) (fun _ _ _ h => h) (Or.inl ⟨by rfl, ?_⟩) (by assumption) ?_
                  · intro w hSw
                    (try dsimp only at hSw)
                    go_simp
                  try simp only [List.getElem_toArray]
                  try simp only [List.getElem_cons_succ]
                  try simp only [List.getElem_cons_zero]
                  try simp only [Act.put]
                  try simp only [List.setIfInBounds_toArray]
                  try simp only [List.set_cons_succ]
                  try simp only [List.set_cons_zero]
                  refine wpAnyH_take (i := 21) (v := (.slice (some ⟨b, off, none⟩) wn wc)) rfl (by kernel_rfl) (by kernel_rfl) (by kernel_rfl) (fun _ _ _ h => h) (Or.inl ⟨by rfl, ?_⟩) (by assumption) ?_
                  · intro w hSw
                    (try dsimp only at hSw)
                    go_simp
                  try simp only [List.getElem_toArray]
                  try simp only [List.getElem_cons_succ]
                  try simp only [List.getElem_cons_zero]
                  try simp only [Act.put]
                  try simp only [List.setIfInBounds_toArray]
                  try simp only [List.set_cons_succ]
                  try simp only [List.set_cons_zero]
                  refine wpAnyH_take (i := 22) (v := (.int .i64 j)) rfl (by kernel_rfl) (by kernel_rfl) (by kernel_rfl) (fun _ _ _ h => h) (Or.inl ⟨by rfl, ?_⟩) (by assumption) ?_
                  · intro w hSw
                    (try dsimp only at hSw)
                    go_simp
                  try simp only [List.getElem_toArray]
                  try simp only [List.getElem_cons_succ]
                  try simp only [List.getElem_cons_zero]
                  try simp only [Act.put]
                  try simp only [List.setIfInBounds_toArray]
                  try simp only [List.set_cons_succ]
                  try simp only [List.set_cons_zero]
                  refine wpAnyH_take (i := 23) (v := (.slice (some ⟨b, off, none⟩) j wc)) rfl (by kernel_rfl) (by kernel_rfl) (by kernel_rfl) (fun _ _ _ h => h) (Or.inl ⟨by rfl, ?_⟩) (by assumption) ?_
                  · intro w hSw
                    (try dsimp only at hSw)
                    go_simp
                  try simp only [List.getElem_toArray]
                  try simp only [List.getElem_cons_succ]
                  try simp only [List.getElem_cons_zero]
                  try simp only [Act.put]
                  try simp only [List.setIfInBounds_toArray]
                  try simp only [List.set_cons_succ]
                  try simp only [List.set_cons_zero]
                  refine wpAnyH_take (i := 24) (v := (.agg #[.int .i64 cc, .int .i64 ce, .int .i64 cn, .string clo, .string chi, .bool cex])) rfl (by kernel_rfl) (by kernel_rfl) (by kernel_rfl) (fun _ _ _ h => h) (Or.inl ⟨by rfl, ?_⟩) (by assumption) ?_
                  · intro w hSw
                    (try dsimp only at hSw)
                    go_simp
                  try simp only [List.getElem_toArray]
                  try simp only [List.getElem_cons_succ]
                  try simp only [List.getElem_cons_zero]
                  try simp only [Act.put]
                  try simp only [List.setIfInBounds_toArray]
                  try simp only [List.set_cons_succ]
                  try simp only [List.set_cons_zero]
                  refine wpAnyH_ready (rs := [25]) (by kernel_rfl) (by simp) ?_
                  refine AllReadyH.cons rfl (fun K1 hK => ?_) AllReadyH.nil
                  go_simp
                  refine (C4.out _ (lr_k8 Q1.out (kl8_bel (by assumption)))).mono ?_
                  rintro r w' ⟨rfl, hbC⟩
                  go_wp2_with fail
                  refine hK.out _ _ ?_ (fun hHeld => ?_)
                  · exact kl8c hbC (by assumption)
                  clear hK K1
                  try simp only [List.getElem_toArray]
                  try simp only [List.getElem_cons_succ]
                  try simp only [List.getElem_cons_zero]
                  try simp only [Act.put]
                  try simp only [List.setIfInBounds_toArray]
                  try simp only [List.set_cons_succ]
                  try simp only [List.set_cons_zero]
                  refine wpAnyH_take (i := 26) (v := (.bool (!z4))) rfl (by kernel_rfl) (by kernel_rfl) (by kernel_rfl) (fun _ _ _ h => h) (Or.inl ⟨by rfl, ?_⟩) (by assumption) ?_
                  · intro w hSw
                    (try dsimp only at hSw)
                    go_simp
                  try simp only [List.getElem_toArray]
                  try simp only [List.getElem_cons_succ]
                  try simp only [List.getElem_cons_zero]
                  try simp only [Act.put]
                  try simp only [List.setIfInBounds_toArray]
                  try simp only [List.set_cons_succ]
                  try simp only [List.set_cons_zero]
                  refine wpAnyH_take (i := 27) (v := (.bool (!z4))) rfl (by kernel_rfl) (by kernel_rfl) (by kernel_rfl) (fun _ _ _ h => h) (Or.inl ⟨by rfl, ?_⟩) (by assumption) ?_
                  · intro w hSw
                    (try dsimp only at hSw)
                    go_simp
                  try simp only [List.getElem_toArray]
                  try simp only [List.getElem_cons_succ]
                  try simp only [List.getElem_cons_zero]
                  try simp only [Act.put]
                  try simp only [List.setIfInBounds_toArray]
                  try simp only [List.set_cons_succ]
                  try simp only [List.set_cons_zero]
                  refine wpAnyH_take (i := 28) (v := (.bool (!z4))) rfl (by kernel_rfl) (by kernel_rfl) (by kernel_rfl) (fun _ _ _ h => h) (Or.inl ⟨by rfl, ?_⟩) (by assumption) ?_
                  · intro w hSw
                    (try dsimp only at hSw)
                    go_simp
                  try simp only [List.getElem_toArray]
                  try simp only [List.getElem_cons_succ]
                  try simp only [List.getElem_cons_zero]
                  try simp only [Act.put]
                  try simp only [List.setIfInBounds_toArray]
                  try simp only [List.set_cons_succ]
                  try simp only [List.set_cons_zero]
                  refine wpAnyH_done (by kernel_rfl) ?_ _
                  refine NoPanic.normal ?_
                  cases z4 with
                  | false =>
                    have HZ := hid (HNO.out (by rw [HP.out]; rfl))
                    have B6 := hid (B1.out.trans ((kl8_bel (by assumption)).mono B1.out.size))
                    go_wp2
                    go_ret
                    exact ⟨by rw [HV.out, HZ.out]; simp, B0.out.trans (B6.out.mono B0.out.size)⟩
                  | true =>
                    have HY : Hid ((List.range (j + 1)).all (wpk hl wl) = true) := by
                      show _ = true
                      rw [HYES.out, HT.out, HP.out]; rfl
                    have B6 := hid (B1.out.trans ((kl8_bel (by assumption)).mono B1.out.size))
                    go_wp2
                    go_roundw
                    case rel => exact ⟨j + 1, by omega, by go_num, B6.out, HY.out⟩
                    case measure => simp [intOf]; omega
          · have HA : Hid ((List.range wn).all (wpk hl wl) = true) := by
              show _ = true
              rw [show wn = j by omega]
              exact HT.out
            rw [HA.out] at HV
            go_wp2
            go_ret
            exact ⟨by rw [HV.out]; rfl, B0.out.trans (HB.out.mono B0.out.size)⟩
  · rw [decide_eq_false h60] at HV
    have h60' : (60 : Int) < (hn : Int) + (wn : Int) := by omega
    go_enter Try.func84, Try.ntmps84
    go_wp2
    go_ret
    exact ⟨by rw [HV.out]; rfl, B0.out⟩
end Go.Proofs.Ytcpdedpgjaimkaa
/-
  LockAsk of the specification.
-/
namespace Go.Proofs.Ytcpdedpgjaimkaa
open Go.RowKit
set_option linter.unusedVariables false
theorem btL' {u v w : World} (h : Below u.heap.size u v) (k : Below v.heap.size v w) : Below u.heap.size u w := h.trans (k.mono h.size)
set_option maxHeartbeats 16000000 in
set_option maxRecDepth 20000 in
theorem specLockAsk_any (S S' : Nat → Prop) (ha : Option Addr) (hn hc : Nat) (wa : Option Addr) (wn wc : Nat) (hl wl : List LK) (c e n : Int) (lo hi : ByteArray) (ex : Bool) (w : World) (h1 : Lr w S (.slice ha hn hc) hl) (h2 : Lr w S' (.slice wa wn wc) wl) (hh : hn ≤ 1048576) (hw : wn ≤ 1048576) :
    Calls Try.prog 29 #[.agg #[.slice ha hn hc, .slice wa wn wc], .agg #[.int .i64 c, .int .i64 e, .int .i64 n, .string lo, .string hi, .bool ex]] w fun r w' => AskPost w hl wl ((c, e, n), (lo, hi), ex) r w' := by
  have HNH := hid (Rw.len h1).1
  have HNW := hid (Rw.len h2).1
  have B0 : Hid (Below w.heap.size w (((w.alloc (.cells #[.slice ha hn hc, .slice wa wn wc] 71)).alloc (.cells #[.int .i64 c, .int .i64 e, .int .i64 n, .string lo, .string hi, .bool ex] 75)).alloc (.cells #[.slice none 0 0, .slice none 0 0] 71))) := below_new (below_new (below_new (Below.refl _ _)))
  have K0 := hid (((Bk.new w 71 [.slice ha hn hc, .slice wa wn wc]).alloc (.cells #[.int .i64 c, .int .i64 e, .int .i64 n, .string lo, .string hi, .bool ex] 75)).alloc (.cells #[.slice none 0 0, .slice none 0 0] 71))
  have J0 := hid ((Bk.new (w.alloc (.cells #[.slice ha hn hc, .slice wa wn wc] 71)) 75 [.int .i64 c, .int .i64 e, .int .i64 n, .string lo, .string hi, .bool ex]).alloc (.cells #[.slice none 0 0, .slice none 0 0] 71))
  have I0 := hid (Bk.new ((w.alloc (.cells #[.slice ha hn hc, .slice wa wn wc] 71)).alloc (.cells #[.int .i64 c, .int .i64 e, .int .i64 n, .string lo, .string hi, .bool ex] 75)) 71 [.slice none 0 0, .slice none 0 0])
  rw [show (w.alloc (.cells #[.slice ha hn hc, .slice wa wn wc] 71)).heap.size = w.heap.size + 1 by simp] at J0
  rw [show ((w.alloc (.cells #[.slice ha hn hc, .slice wa wn wc] 71)).alloc (.cells #[.int .i64 c, .int .i64 e, .int .i64 n, .string lo, .string hi, .bool ex] 75)).heap.size = w.heap.size + 1 + 1 by simp] at I0
  have H1 := hid h1
  have H2 := hid h2
  have HV := hid (okAsk_def hl wl ((c, e, n), (lo, hi), ex))
  have HM := hid (mustW_def hl wl ((c, e, n), (lo, hi), ex))
  have hll : hl.length ≤ 1048576 := by rw [← HNH.out]; exact hh
  have hlw : wl.length ≤ 1048576 := by rw [← HNW.out]; exact hw
  have C1 := hid (fun v h1 h2 => specLocksOk_any S S' ha hn hc wa wn wc hl wl v h1 h2 (by omega) (by omega))
  have C2 := hid (fun w => specLockOk_any c e n lo hi ex w)
  have C3 := hid (fun v h2 => l07Waits_any c e n S' (.slice ha hn hc) wa wn wc wl v rfl h2)
  have CC : Hid (∀ v, Below w.heap.size w v → Calls Try.prog 87 #[.agg #[.slice ha hn hc, .slice wa wn wc]] v fun r w' => CpPost v hl wl r w') := fun v hv => l07Copy_any S S' ha hn hc wa wn wc hl wl v (H1.out.below hv) (H2.out.below hv) hll hlw
  have CH := hid (fun v h1 => l07Any_any c e n lo hi ex S ha hn hc hl v h1)
  have CW := hid (fun v h2 => l07Any_any c e n lo hi ex S' wa wn wc wl v h2)
  clear h1 h2
  have hnot : ∀ (x : Bool) (w : World), (Op.unary .not (.bool x)).run Try.prog w = .ok (.bool (!x)) w := fun _ _ => rfl
  generalize lksOk hl wl = z1 at *
  generalize lkOk ((c, e, n), (lo, hi), ex) = z2 at *
  generalize hasT wl (c, e, n) = z3 at *
  generalize anyC hl ((c, e, n), (lo, hi), ex) = q1 at *
  generalize anyC wl ((c, e, n), (lo, hi), ex) = q2 at *
  unfold AskPost
  cases z1 with
  | false =>
    have HA := hid (ask_one (HV.out.trans rfl))
    go_enter Try.func29, Try.ntmps29
    go_wp2_with fail
    refine (C1.out _ (H1.out.below B0.out) (H2.out.below B0.out)).mono ?_
    generalize ((w.alloc (.cells #[.slice ha hn hc, .slice wa wn wc] 71)).alloc (.cells #[.int .i64 c, .int .i64 e, .int .i64 n, .string lo, .string hi, .bool ex] 75)).alloc (.cells #[.slice none 0 0, .slice none 0 0] 71) = U at *
    rintro r w1 ⟨rfl, hb⟩
    have K1 := hid (K0.out.below hb)
    have J1 := hid (J0.out.below hb)
    have I1 := hid (I0.out.below hb)
    have B1 := hid (B0.out.trans (hb.mono B0.out.size))
    clear K0 J0 I0 B0 hb
    have z0 := I1.out.cell (j := 0) rfl
    have z1 := I1.out.cell (j := 1) rfl
    have e0 := I1.out.free 0
    have e1 := I1.out.free 1
    go_wp2
    try simp only [Exit.inBlock, Exit.then]
    refine bodyPost_ret (v := .tuple #[.agg #[.slice none 0 0, .slice none 0 0], .int .i64 1]) ?_ rfl ?_
    · exact results_locks2 rfl _ _ (w.heap.size + 1 + 1) rfl rfl (by go_simp) (by go_simp)
    · rw [HA.out.1, HA.out.2]
      exact ⟨none, 0, 0, none, 0, 0, rfl, lo_nil _ _, (B1.out.setCell (p := ⟨w.heap.size + 1 + 1, 0, none⟩) (by simp <;> omega) _).setCell (p := ⟨w.heap.size + 1 + 1, 1, none⟩) (by simp <;> omega) _⟩
  | true =>
    cases z2 with
    | false =>
      have HA := hid (ask_one (HV.out.trans rfl))
      go_enter Try.func29, Try.ntmps29
      go_wp2_with fail
      refine (C1.out _ (H1.out.below B0.out) (H2.out.below B0.out)).mono ?_
      generalize ((w.alloc (.cells #[.slice ha hn hc, .slice wa wn wc] 71)).alloc (.cells #[.int .i64 c, .int .i64 e, .int .i64 n, .string lo, .string hi, .bool ex] 75)).alloc (.cells #[.slice none 0 0, .slice none 0 0] 71) = U at *
      rintro r w1 ⟨rfl, hb⟩
      have K1 := hid (K0.out.below hb)
      have J1 := hid (J0.out.below hb)
      have I1 := hid (I0.out.below hb)
      have B1 := hid (B0.out.trans (hb.mono B0.out.size))
      clear K0 J0 I0 B0 hb
      have y0 := K1.out.cell (j := 0) rfl
      have y1 := K1.out.cell (j := 1) rfl
      have x0 := J1.out.cell (j := 0) rfl
      have x1 := J1.out.cell (j := 1) rfl
      have x2 := J1.out.cell (j := 2) rfl
      have x3 := J1.out.cell (j := 3) rfl
      have x4 := J1.out.cell (j := 4) rfl
      have x5 := J1.out.cell (j := 5) rfl
      go_wp2_with fail
      refine (C2.out _).mono ?_
      rintro r w2 ⟨rfl, hb⟩
      have K2 := hid (K1.out.below hb)
      have J2 := hid (J1.out.below hb)
      have I2 := hid (I1.out.below hb)
      have B2 := hid (B1.out.trans (hb.mono B1.out.size))
      clear K1 J1 I1 B1 hb y0 y1 x0 x1 x2 x3 x4 x5
      have z0 := I2.out.cell (j := 0) rfl
      have z1 := I2.out.cell (j := 1) rfl
      have e0 := I2.out.free 0
      have e1 := I2.out.free 1
      go_wp2
      try simp only [Exit.inBlock, Exit.then]
      refine bodyPost_ret (v := .tuple #[.agg #[.slice none 0 0, .slice none 0 0], .int .i64 1]) ?_ rfl ?_
      · exact results_locks2 rfl _ _ (w.heap.size + 1 + 1) rfl rfl (by go_simp) (by go_simp)
      · rw [HA.out.1, HA.out.2]
        exact ⟨none, 0, 0, none, 0, 0, rfl, lo_nil _ _, (B2.out.setCell (p := ⟨w.heap.size + 1 + 1, 0, none⟩) (by simp <;> omega) _).setCell (p := ⟨w.heap.size + 1 + 1, 1, none⟩) (by simp <;> omega) _⟩
    | true =>
      cases z3 with
      | true =>
        have HA := hid (ask_one (HV.out.trans rfl))
        go_enter Try.func29, Try.ntmps29
        go_wp2_with fail
        refine (C1.out _ (H1.out.below B0.out) (H2.out.below B0.out)).mono ?_
        generalize ((w.alloc (.cells #[.slice ha hn hc, .slice wa wn wc] 71)).alloc (.cells #[.int .i64 c, .int .i64 e, .int .i64 n, .string lo, .string hi, .bool ex] 75)).alloc (.cells #[.slice none 0 0, .slice none 0 0] 71) = U at *
        rintro r w1 ⟨rfl, hb⟩
        have K1 := hid (K0.out.below hb)
        have J1 := hid (J0.out.below hb)
        have I1 := hid (I0.out.below hb)
        have B1 := hid (B0.out.trans (hb.mono B0.out.size))
        clear K0 J0 I0 B0 hb
        have y0 := K1.out.cell (j := 0) rfl
        have y1 := K1.out.cell (j := 1) rfl
        have x0 := J1.out.cell (j := 0) rfl
        have x1 := J1.out.cell (j := 1) rfl
        have x2 := J1.out.cell (j := 2) rfl
        have x3 := J1.out.cell (j := 3) rfl
        have x4 := J1.out.cell (j := 4) rfl
        have x5 := J1.out.cell (j := 5) rfl
        go_wp2_with fail
        refine (C2.out _).mono ?_
        rintro r w2 ⟨rfl, hb⟩
        have K2 := hid (K1.out.below hb)
        have J2 := hid (J1.out.below hb)
        have I2 := hid (I1.out.below hb)
        have B2 := hid (B1.out.trans (hb.mono B1.out.size))
        clear K1 J1 I1 B1 hb y0 y1 x0 x1 x2 x3 x4 x5
        have y0 := K2.out.cell (j := 0) rfl
        have y1 := K2.out.cell (j := 1) rfl
        have x0 := J2.out.cell (j := 0) rfl
        have x1 := J2.out.cell (j := 1) rfl
        have x2 := J2.out.cell (j := 2) rfl
        have x3 := J2.out.cell (j := 3) rfl
        have x4 := J2.out.cell (j := 4) rfl
        have x5 := J2.out.cell (j := 5) rfl
        go_wp2_with fail
        refine (C3.out _ (H2.out.below B2.out)).mono ?_
        rintro r w3 ⟨rfl, hb⟩
        have K3 := hid (K2.out.below hb)
        have J3 := hid (J2.out.below hb)
        have I3 := hid (I2.out.below hb)
        have B3 := hid (B2.out.trans (hb.mono B2.out.size))
        clear K2 J2 I2 B2 hb y0 y1 x0 x1 x2 x3 x4 x5
        have z0 := I3.out.cell (j := 0) rfl
        have z1 := I3.out.cell (j := 1) rfl
        have e0 := I3.out.free 0
        have e1 := I3.out.free 1
        go_wp2
        try simp only [Exit.inBlock, Exit.then]
        refine bodyPost_ret (v := .tuple #[.agg #[.slice none 0 0, .slice none 0 0], .int .i64 1]) ?_ rfl ?_
        · exact results_locks2 rfl _ _ (w.heap.size + 1 + 1) rfl rfl (by go_simp) (by go_simp)
        · rw [HA.out.1, HA.out.2]
          exact ⟨none, 0, 0, none, 0, 0, rfl, lo_nil _ _, (B3.out.setCell (p := ⟨w.heap.size + 1 + 1, 0, none⟩) (by simp <;> omega) _).setCell (p := ⟨w.heap.size + 1 + 1, 1, none⟩) (by simp <;> omega) _⟩
      | false =>
        have h60 := okAsk_len (HV.out.trans rfl)
        rw [← HNH.out, ← HNW.out] at h60
        by_cases h6 : hn + wn = 60
        · have HA := hid (ask_two (HV.out.trans rfl) (by rw [← HNH.out, ← HNW.out]; exact h6))
          have h6' : (60 : Int) ≤ (hn : Int) + (wn : Int) := by omega
          go_enter Try.func29, Try.ntmps29
          go_wp2_with fail
          refine (C1.out _ (H1.out.below B0.out) (H2.out.below B0.out)).mono ?_
          generalize ((w.alloc (.cells #[.slice ha hn hc, .slice wa wn wc] 71)).alloc (.cells #[.int .i64 c, .int .i64 e, .int .i64 n, .string lo, .string hi, .bool ex] 75)).alloc (.cells #[.slice none 0 0, .slice none 0 0] 71) = U at *
          rintro r w1 ⟨rfl, hb⟩
          have K1 := hid (K0.out.below hb)
          have J1 := hid (J0.out.below hb)
          have I1 := hid (I0.out.below hb)
          have B1 := hid (B0.out.trans (hb.mono B0.out.size))
          clear K0 J0 I0 B0 hb
          have y0 := K1.out.cell (j := 0) rfl
          have y1 := K1.out.cell (j := 1) rfl
          have x0 := J1.out.cell (j := 0) rfl
          have x1 := J1.out.cell (j := 1) rfl
          have x2 := J1.out.cell (j := 2) rfl
          have x3 := J1.out.cell (j := 3) rfl
          have x4 := J1.out.cell (j := 4) rfl
          have x5 := J1.out.cell (j := 5) rfl
          go_wp2_with fail
          refine (C2.out _).mono ?_
          rintro r w2 ⟨rfl, hb⟩
          have K2 := hid (K1.out.below hb)
          have J2 := hid (J1.out.below hb)
          have I2 := hid (I1.out.below hb)
          have B2 := hid (B1.out.trans (hb.mono B1.out.size))
          clear K1 J1 I1 B1 hb y0 y1 x0 x1 x2 x3 x4 x5
          have y0 := K2.out.cell (j := 0) rfl
          have y1 := K2.out.cell (j := 1) rfl
          have x0 := J2.out.cell (j := 0) rfl
          have x1 := J2.out.cell (j := 1) rfl
          have x2 := J2.out.cell (j := 2) rfl
          have x3 := J2.out.cell (j := 3) rfl
          have x4 := J2.out.cell (j := 4) rfl
          have x5 := J2.out.cell (j := 5) rfl
          go_wp2_with fail
          refine (C3.out _ (H2.out.below B2.out)).mono ?_
          rintro r w3 ⟨rfl, hb⟩
          have K3 := hid (K2.out.below hb)
          have J3 := hid (J2.out.below hb)
          have I3 := hid (I2.out.below hb)
          have B3 := hid (B2.out.trans (hb.mono B2.out.size))
          clear K2 J2 I2 B2 hb y0 y1 x0 x1 x2 x3 x4 x5
          have y0 := K3.out.cell (j := 0) rfl
          have y1 := K3.out.cell (j := 1) rfl
          have x0 := J3.out.cell (j := 0) rfl
          have x1 := J3.out.cell (j := 1) rfl
          have x2 := J3.out.cell (j := 2) rfl
          have x3 := J3.out.cell (j := 3) rfl
          have x4 := J3.out.cell (j := 4) rfl
          have x5 := J3.out.cell (j := 5) rfl
          have z0 := I3.out.cell (j := 0) rfl
          have z1 := I3.out.cell (j := 1) rfl
          have e0 := I3.out.free 0
          have e1 := I3.out.free 1
          go_wp2
          try simp only [Exit.inBlock, Exit.then]
          refine bodyPost_ret (v := .tuple #[.agg #[.slice none 0 0, .slice none 0 0], .int .i64 2]) ?_ rfl ?_
          · exact results_locks2 rfl _ _ (w.heap.size + 1 + 1) rfl rfl (by go_simp) (by go_simp)
          · rw [HA.out.1, HA.out.2]
            exact ⟨none, 0, 0, none, 0, 0, rfl, lo_nil _ _, (B3.out.setCell (p := ⟨w.heap.size + 1 + 1, 0, none⟩) (by simp <;> omega) _).setCell (p := ⟨w.heap.size + 1 + 1, 1, none⟩) (by simp <;> omega) _⟩
        · have HA := hid (ask_put (HV.out.trans rfl) (by rw [← HNH.out, ← HNW.out]; exact h6))
          have h6' : ¬ (60 : Int) ≤ (hn : Int) + (wn : Int) := by omega
          go_enter Try.func29, Try.ntmps29
          go_wp2_with fail
          refine (C1.out _ (H1.out.below B0.out) (H2.out.below B0.out)).mono ?_
          generalize ((w.alloc (.cells #[.slice ha hn hc, .slice wa wn wc] 71)).alloc (.cells #[.int .i64 c, .int .i64 e, .int .i64 n, .string lo, .string hi, .bool ex] 75)).alloc (.cells #[.slice none 0 0, .slice none 0 0] 71) = U at *
          rintro r w1 ⟨rfl, hb⟩
          have K1 := hid (K0.out.below hb)
          have J1 := hid (J0.out.below hb)
          have I1 := hid (I0.out.below hb)
          have B1 := hid (B0.out.trans (hb.mono B0.out.size))
          clear K0 J0 I0 B0 hb
          have y0 := K1.out.cell (j := 0) rfl
          have y1 := K1.out.cell (j := 1) rfl
          have x0 := J1.out.cell (j := 0) rfl
          have x1 := J1.out.cell (j := 1) rfl
          have x2 := J1.out.cell (j := 2) rfl
          have x3 := J1.out.cell (j := 3) rfl
          have x4 := J1.out.cell (j := 4) rfl
          have x5 := J1.out.cell (j := 5) rfl
          go_wp2_with fail
          refine (C2.out _).mono ?_
          rintro r w2 ⟨rfl, hb⟩
          have K2 := hid (K1.out.below hb)
          have J2 := hid (J1.out.below hb)
          have I2 := hid (I1.out.below hb)
          have B2 := hid (B1.out.trans (hb.mono B1.out.size))
          clear K1 J1 I1 B1 hb y0 y1 x0 x1 x2 x3 x4 x5
          have y0 := K2.out.cell (j := 0) rfl
          have y1 := K2.out.cell (j := 1) rfl
          have x0 := J2.out.cell (j := 0) rfl
          have x1 := J2.out.cell (j := 1) rfl
          have x2 := J2.out.cell (j := 2) rfl
          have x3 := J2.out.cell (j := 3) rfl
          have x4 := J2.out.cell (j := 4) rfl
          have x5 := J2.out.cell (j := 5) rfl
          go_wp2_with fail
          refine (C3.out _ (H2.out.below B2.out)).mono ?_
          rintro r w3 ⟨rfl, hb⟩
          have K3 := hid (K2.out.below hb)
          have J3 := hid (J2.out.below hb)
          have I3 := hid (I2.out.below hb)
          have B3 := hid (B2.out.trans (hb.mono B2.out.size))
          clear K2 J2 I2 B2 hb y0 y1 x0 x1 x2 x3 x4 x5
          have y0 := K3.out.cell (j := 0) rfl
          have y1 := K3.out.cell (j := 1) rfl
          have x0 := J3.out.cell (j := 0) rfl
          have x1 := J3.out.cell (j := 1) rfl
          have x2 := J3.out.cell (j := 2) rfl
          have x3 := J3.out.cell (j := 3) rfl
          have x4 := J3.out.cell (j := 4) rfl
          have x5 := J3.out.cell (j := 5) rfl
          go_wp2_with fail
          refine (CC.out _ B3.out).mono ?_
          rintro r w4 ⟨a7, n7, c7, b7, m7, d7, rfl, hO, hb4⟩
          have hb := btL' hb4 (below_new (o := .cells #[.slice a7 n7 c7, .slice b7 m7 d7] 71) (w := w4) (Below.refl _ _))
          have K4 := hid (K3.out.below hb)
          have J4 := hid (J3.out.below hb)
          have I4 := hid (I3.out.below hb)
          have B4 := hid (B3.out.trans (hb.mono B3.out.size))
          have O4 := hid (hO.below (below_new (o := .cells #[.slice a7 n7 c7, .slice b7 m7 d7] 71) (w := w4) (Below.refl _ _)))
          have E4 := hid (Bk.new w4 71 [.slice a7 n7 c7, .slice b7 m7 d7])
          have F4 : Hid (∀ y, lbl (.slice a7 n7 c7) (.slice b7 m7 d7) y → w3.heap.size ≤ y ∧ y < w4.heap.size) := fun y hy => hO.lt hy
          have S3 : Hid (w.heap.size + 1 + 1 < w3.heap.size) := I3.out.lt
          have S4 : Hid (w3.heap.size ≤ w4.heap.size) := hb4.size
          have S0 := hid B3.out.size
          clear hb hb4 hO K3 J3 I3 B3 y0 y1 x0 x1 x2 x3 x4 x5
          have y0 := K4.out.cell (j := 0) rfl
          have x0 := J4.out.cell (j := 0) rfl
          have x1 := J4.out.cell (j := 1) rfl
          have x2 := J4.out.cell (j := 2) rfl
          have x3 := J4.out.cell (j := 3) rfl
          have x4 := J4.out.cell (j := 4) rfl
          have x5 := J4.out.cell (j := 5) rfl
          have kl := K4.out.lt
          have jl := J4.out.lt
          go_wp2_with fail
          refine (CH.out _ (H1.out.below B4.out)).mono ?_
          generalize w4.alloc (.cells #[.slice a7 n7 c7, .slice b7 m7 d7] 71) = V4 at *
          generalize w4.heap.size = gb at *
          rintro r w5 ⟨rfl, hb⟩
          have K5 := hid (K4.out.below hb)
          have J5 := hid (J4.out.below hb)
          have I5 := hid (I4.out.below hb)
          have O5 := hid (O4.out.below hb)
          have E5 := hid (E4.out.below hb)
          have B5 := hid (B4.out.trans (hb.mono B4.out.size))
          clear hb K4 J4 I4 O4 E4 B4 y0 x0 x1 x2 x3 x4 x5 kl jl
          cases q1 with
          | true =>
            have HPL := hid (putL_yes (HM.out.trans rfl))
            have x0 := J5.out.cell (j := 0) rfl
            have x1 := J5.out.cell (j := 1) rfl
            have x2 := J5.out.cell (j := 2) rfl
            have x3 := J5.out.cell (j := 3) rfl
            have x4 := J5.out.cell (j := 4) rfl
            have x5 := J5.out.cell (j := 5) rfl
            have g1 := E5.out.cell (j := 1) rfl
            have el := E5.out.lt
            have jl := J5.out.lt
            have HN : Hid (Bk (w5.alloc (.cells #[.int .i64 c, .int .i64 e, .int .i64 n, .string lo, .string hi, .bool ex] 75)) w5.heap.size 75 (lcs [((c, e, n), (lo, hi), ex)])) := Bk.new w5 75 [.int .i64 c, .int .i64 e, .int .i64 n, .string lo, .string hi, .bool ex]
            have hb := below_new (o := .cells #[.int .i64 c, .int .i64 e, .int .i64 n, .string lo, .string hi, .bool ex] 75) (w := w5) (Below.refl _ _)
            have O8 := hid (O5.out.below hb)
            have E8 := hid (E5.out.below hb)
            have I8 := hid (I5.out.below hb)
            have B8 := hid (B5.out.trans (hb.mono B5.out.size))
            have Z8 : Hid (w3.heap.size ≤ (w5.alloc (.cells #[.int .i64 c, .int .i64 e, .int .i64 n, .string lo, .string hi, .bool ex] 75)).heap.size) := by have h1 := E8.out.lt; have h2 := S4.out; show _ ≤ _; omega
            have ES : Hid (gb < w5.heap.size) := E5.out.lt
            clear hb O5 E5 I5 B5
            go_wp2_with (at_builtin; refine wpList_append_lk rfl _ _ rfl w3.heap.size _ wl rfl O8.out.hw w5.heap.size ((c, e, n), (lo, hi), ex) rfl HN.out hlw Z8.out ?_)
            intro a9 n9 c9 w9 hO9 hg9 ha9
            have P9 := hid (O8.out.pushW hO9 hg9 (by simpa using ha9))
            have o9 : Only (fun y => (Value.slice b7 m7 d7).ownBlock = some y) (w5.alloc (.cells #[.int .i64 c, .int .i64 e, .int .i64 n, .string lo, .string hi, .bool ex] 75)) w9 := only_of_grown hg9 (fun k e => e)
            have E9 := hid (E8.out.to o9 (fun q => by have := F4.out _ (.inr q); omega))
            have I9 := hid (I8.out.to o9 (fun q => by have h1 := F4.out _ (.inr q); have h2 := S3.out; omega))
            have B9 := hid (B8.out.trans (o9.below B8.out.size (fun b hb q => by have h1 := F4.out _ (.inr q); have h2 := S0.out; omega)))
            have N9 : Hid (∀ y, lbl (.slice a7 n7 c7) (.slice a9 n9 c9) y → w3.heap.size ≤ y ∧ y ≠ gb) := by
              intro y hy
              have key : (Value.slice a9 n9 c9).ownBlock = some y → w3.heap.size ≤ y ∧ y ≠ gb := by
                intro q
                rcases ha9 with h1 | h1
                · rw [h1] at q; have := F4.out y (.inr q); omega
                · rw [h1] at q
                  have e3 : w5.heap.size + 1 = y := Option.some.inj q
                  have h2 := ES.out
                  have h3 := S4.out
                  omega
              rcases hy with q | q
              · exact (by have := F4.out y (.inl q); omega)
              · exact key q
            clear hO9 hg9 ha9 o9 O8 E8 I8 B8 g1 x0 x1 x2 x3 x4 x5
            have g0 := E9.out.cell (j := 0) rfl
            have g1 := E9.out.cell (j := 1) rfl
            have f1 := E9.out.free 1
            have z0 := I9.out.cell (j := 0) rfl
            have z1 := I9.out.cell (j := 1) rfl
            have e0 := I9.out.free 0
            have e1 := I9.out.free 1
            have d1 : ¬ gb = w.heap.size + 1 + 1 := by have h1 := S3.out; have h2 := S4.out; omega
            have d2 : ¬ w.heap.size + 1 + 1 = gb := by have h1 := S3.out; have h2 := S4.out; omega
            have HF : Hid (∀ W, Only (fun y => y = gb ∨ y = w.heap.size + 1 + 1) w9 W → LO W w.heap.size (.slice a7 n7 c7) (.slice a9 n9 c9) (putL hl wl ((c, e, n), (lo, hi), ex)).1 (putL hl wl ((c, e, n), (lo, hi), ex)).2 ∧ Below w.heap.size w W) := fun W hW => by
              rw [HPL.out]
              have h1 := S3.out
              have h2 := S4.out
              have h3 := S0.out
              exact ⟨(P9.out.to hW (fun y hy q => by have := N9.out y hy; omega)).base (by omega), B9.out.trans (hW.below B9.out.size (fun b hb q => by omega))⟩
            clear P9 N9 B9
            go_wp2
            try simp only [Exit.inBlock, Exit.then]
            refine bodyPost_ret (v := .tuple #[.agg #[.slice a7 n7 c7, .slice a9 n9 c9], .int .i64 3]) ?_ rfl ?_
            · exact results_locks2 rfl _ _ (w.heap.size + 1 + 1) rfl rfl (by go_simp) (by go_simp)
            · rw [HA.out.1, HA.out.2, HM.out]
              exact ⟨a7, n7, c7, a9, n9, c9, rfl, HF.out _ (((only_set (R := fun y => y = gb ∨ y = w.heap.size + 1 + 1) (p := ⟨gb, 1, none⟩) (.inl rfl) _).trans (only_set (R := fun y => y = gb ∨ y = w.heap.size + 1 + 1) (p := ⟨w.heap.size + 1 + 1, 0, none⟩) (.inr rfl) _)).trans (only_set (R := fun y => y = gb ∨ y = w.heap.size + 1 + 1) (p := ⟨w.heap.size + 1 + 1, 1, none⟩) (.inr rfl) _))⟩
          | false =>
            have y1 := K5.out.cell (j := 1) rfl
            have x0 := J5.out.cell (j := 0) rfl
            have x1 := J5.out.cell (j := 1) rfl
            have x2 := J5.out.cell (j := 2) rfl
            have x3 := J5.out.cell (j := 3) rfl
            have x4 := J5.out.cell (j := 4) rfl
            have x5 := J5.out.cell (j := 5) rfl
            go_wp2_with fail
            refine (CW.out _ (H2.out.below B5.out)).mono ?_
            rintro r w6 ⟨rfl, hb⟩
            have J6 := hid (J5.out.below hb)
            have I6 := hid (I5.out.below hb)
            have O6 := hid (O5.out.below hb)
            have E6 := hid (E5.out.below hb)
            have B6 := hid (B5.out.trans (hb.mono B5.out.size))
            clear hb K5 J5 I5 O5 E5 B5 y1 x0 x1 x2 x3 x4 x5
            cases q2 with
            | true =>
              have HPL := hid (putL_yes (HM.out.trans rfl))
              have x0 := J6.out.cell (j := 0) rfl
              have x1 := J6.out.cell (j := 1) rfl
              have x2 := J6.out.cell (j := 2) rfl
              have x3 := J6.out.cell (j := 3) rfl
              have x4 := J6.out.cell (j := 4) rfl
              have x5 := J6.out.cell (j := 5) rfl
              have g1 := E6.out.cell (j := 1) rfl
              have el := E6.out.lt
              have jl := J6.out.lt
              have HN : Hid (Bk (w6.alloc (.cells #[.int .i64 c, .int .i64 e, .int .i64 n, .string lo, .string hi, .bool ex] 75)) w6.heap.size 75 (lcs [((c, e, n), (lo, hi), ex)])) := Bk.new w6 75 [.int .i64 c, .int .i64 e, .int .i64 n, .string lo, .string hi, .bool ex]
              have hb := below_new (o := .cells #[.int .i64 c, .int .i64 e, .int .i64 n, .string lo, .string hi, .bool ex] 75) (w := w6) (Below.refl _ _)
              have O8 := hid (O6.out.below hb)
              have E8 := hid (E6.out.below hb)
              have I8 := hid (I6.out.below hb)
              have B8 := hid (B6.out.trans (hb.mono B6.out.size))
              have Z8 : Hid (w3.heap.size ≤ (w6.alloc (.cells #[.int .i64 c, .int .i64 e, .int .i64 n, .string lo, .string hi, .bool ex] 75)).heap.size) := by have h1 := E8.out.lt; have h2 := S4.out; show _ ≤ _; omega
              have ES : Hid (gb < w6.heap.size) := E6.out.lt
              clear hb O6 E6 I6 B6
              go_wp2_with (at_builtin; refine wpList_append_lk rfl _ _ rfl w3.heap.size _ wl rfl O8.out.hw w6.heap.size ((c, e, n), (lo, hi), ex) rfl HN.out hlw Z8.out ?_)
              intro a9 n9 c9 w9 hO9 hg9 ha9
              have P9 := hid (O8.out.pushW hO9 hg9 (by simpa using ha9))
              have o9 : Only (fun y => (Value.slice b7 m7 d7).ownBlock = some y) (w6.alloc (.cells #[.int .i64 c, .int .i64 e, .int .i64 n, .string lo, .string hi, .bool ex] 75)) w9 := only_of_grown hg9 (fun k e => e)
              have E9 := hid (E8.out.to o9 (fun q => by have := F4.out _ (.inr q); omega))
              have I9 := hid (I8.out.to o9 (fun q => by have h1 := F4.out _ (.inr q); have h2 := S3.out; omega))
              have B9 := hid (B8.out.trans (o9.below B8.out.size (fun b hb q => by have h1 := F4.out _ (.inr q); have h2 := S0.out; omega)))
              have N9 : Hid (∀ y, lbl (.slice a7 n7 c7) (.slice a9 n9 c9) y → w3.heap.size ≤ y ∧ y ≠ gb) := by
                intro y hy
                have key : (Value.slice a9 n9 c9).ownBlock = some y → w3.heap.size ≤ y ∧ y ≠ gb := by
                  intro q
                  rcases ha9 with h1 | h1
                  · rw [h1] at q; have := F4.out y (.inr q); omega
                  · rw [h1] at q
                    have e3 : w6.heap.size + 1 = y := Option.some.inj q
                    have h2 := ES.out
                    have h3 := S4.out
                    omega
                rcases hy with q | q
                · exact (by have := F4.out y (.inl q); omega)
                · exact key q
              clear hO9 hg9 ha9 o9 O8 E8 I8 B8 g1 x0 x1 x2 x3 x4 x5
              have g0 := E9.out.cell (j := 0) rfl
              have g1 := E9.out.cell (j := 1) rfl
              have f1 := E9.out.free 1
              have z0 := I9.out.cell (j := 0) rfl
              have z1 := I9.out.cell (j := 1) rfl
              have e0 := I9.out.free 0
              have e1 := I9.out.free 1
              have d1 : ¬ gb = w.heap.size + 1 + 1 := by have h1 := S3.out; have h2 := S4.out; omega
              have d2 : ¬ w.heap.size + 1 + 1 = gb := by have h1 := S3.out; have h2 := S4.out; omega
              have HF : Hid (∀ W, Only (fun y => y = gb ∨ y = w.heap.size + 1 + 1) w9 W → LO W w.heap.size (.slice a7 n7 c7) (.slice a9 n9 c9) (putL hl wl ((c, e, n), (lo, hi), ex)).1 (putL hl wl ((c, e, n), (lo, hi), ex)).2 ∧ Below w.heap.size w W) := fun W hW => by
                rw [HPL.out]
                have h1 := S3.out
                have h2 := S4.out
                have h3 := S0.out
                exact ⟨(P9.out.to hW (fun y hy q => by have := N9.out y hy; omega)).base (by omega), B9.out.trans (hW.below B9.out.size (fun b hb q => by omega))⟩
              clear P9 N9 B9
              go_wp2
              try simp only [Exit.inBlock, Exit.then]
              refine bodyPost_ret (v := .tuple #[.agg #[.slice a7 n7 c7, .slice a9 n9 c9], .int .i64 3]) ?_ rfl ?_
              · exact results_locks2 rfl _ _ (w.heap.size + 1 + 1) rfl rfl (by go_simp) (by go_simp)
              · rw [HA.out.1, HA.out.2, HM.out]
                exact ⟨a7, n7, c7, a9, n9, c9, rfl, HF.out _ (((only_set (R := fun y => y = gb ∨ y = w.heap.size + 1 + 1) (p := ⟨gb, 1, none⟩) (.inl rfl) _).trans (only_set (R := fun y => y = gb ∨ y = w.heap.size + 1 + 1) (p := ⟨w.heap.size + 1 + 1, 0, none⟩) (.inr rfl) _)).trans (only_set (R := fun y => y = gb ∨ y = w.heap.size + 1 + 1) (p := ⟨w.heap.size + 1 + 1, 1, none⟩) (.inr rfl) _))⟩
            | false =>
              have HPL := hid (putL_no (HM.out.trans rfl))
              have x0 := J6.out.cell (j := 0) rfl
              have x1 := J6.out.cell (j := 1) rfl
              have x2 := J6.out.cell (j := 2) rfl
              have x3 := J6.out.cell (j := 3) rfl
              have x4 := J6.out.cell (j := 4) rfl
              have x5 := J6.out.cell (j := 5) rfl
              have g0 := E6.out.cell (j := 0) rfl
              have el := E6.out.lt
              have jl := J6.out.lt
              have HN : Hid (Bk (w6.alloc (.cells #[.int .i64 c, .int .i64 e, .int .i64 n, .string lo, .string hi, .bool ex] 75)) w6.heap.size 75 (lcs [((c, e, n), (lo, hi), ex)])) := Bk.new w6 75 [.int .i64 c, .int .i64 e, .int .i64 n, .string lo, .string hi, .bool ex]
              have hb := below_new (o := .cells #[.int .i64 c, .int .i64 e, .int .i64 n, .string lo, .string hi, .bool ex] 75) (w := w6) (Below.refl _ _)
              have O8 := hid (O6.out.below hb)
              have E8 := hid (E6.out.below hb)
              have I8 := hid (I6.out.below hb)
              have B8 := hid (B6.out.trans (hb.mono B6.out.size))
              have Z8 : Hid (w3.heap.size ≤ (w6.alloc (.cells #[.int .i64 c, .int .i64 e, .int .i64 n, .string lo, .string hi, .bool ex] 75)).heap.size) := by have h1 := E8.out.lt; have h2 := S4.out; show _ ≤ _; omega
              have ES : Hid (gb < w6.heap.size) := E6.out.lt
              clear hb O6 E6 I6 B6
              go_wp2_with (at_builtin; refine wpList_append_lk rfl _ _ rfl w3.heap.size _ hl rfl O8.out.hh w6.heap.size ((c, e, n), (lo, hi), ex) rfl HN.out hll Z8.out ?_)
              intro a9 n9 c9 w9 hO9 hg9 ha9
              have P9 := hid (O8.out.pushH hO9 hg9 (by simpa using ha9))
              have o9 : Only (fun y => (Value.slice a7 n7 c7).ownBlock = some y) (w6.alloc (.cells #[.int .i64 c, .int .i64 e, .int .i64 n, .string lo, .string hi, .bool ex] 75)) w9 := only_of_grown hg9 (fun k e => e)
              have E9 := hid (E8.out.to o9 (fun q => by have := F4.out _ (.inl q); omega))
              have I9 := hid (I8.out.to o9 (fun q => by have h1 := F4.out _ (.inl q); have h2 := S3.out; omega))
              have B9 := hid (B8.out.trans (o9.below B8.out.size (fun b hb q => by have h1 := F4.out _ (.inl q); have h2 := S0.out; omega)))
              have N9 : Hid (∀ y, lbl (.slice a9 n9 c9) (.slice b7 m7 d7) y → w3.heap.size ≤ y ∧ y ≠ gb) := by
                intro y hy
                have key : (Value.slice a9 n9 c9).ownBlock = some y → w3.heap.size ≤ y ∧ y ≠ gb := by
                  intro q
                  rcases ha9 with h1 | h1
                  · rw [h1] at q; have := F4.out y (.inl q); omega
                  · rw [h1] at q
                    have e3 : w6.heap.size + 1 = y := Option.some.inj q
                    have h2 := ES.out
                    have h3 := S4.out
                    omega
                rcases hy with q | q
                · exact key q
                · exact (by have := F4.out y (.inr q); omega)
              clear hO9 hg9 ha9 o9 O8 E8 I8 B8 g0 x0 x1 x2 x3 x4 x5
              have g0 := E9.out.cell (j := 0) rfl
              have g1 := E9.out.cell (j := 1) rfl
              have f0 := E9.out.free 0
              have z0 := I9.out.cell (j := 0) rfl
              have z1 := I9.out.cell (j := 1) rfl
              have e0 := I9.out.free 0
              have e1 := I9.out.free 1
              have d1 : ¬ gb = w.heap.size + 1 + 1 := by have h1 := S3.out; have h2 := S4.out; omega
              have d2 : ¬ w.heap.size + 1 + 1 = gb := by have h1 := S3.out; have h2 := S4.out; omega
              have HF : Hid (∀ W, Only (fun y => y = gb ∨ y = w.heap.size + 1 + 1) w9 W → LO W w.heap.size (.slice a9 n9 c9) (.slice b7 m7 d7) (putL hl wl ((c, e, n), (lo, hi), ex)).1 (putL hl wl ((c, e, n), (lo, hi), ex)).2 ∧ Below w.heap.size w W) := fun W hW => by
                rw [HPL.out]
                have h1 := S3.out
                have h2 := S4.out
                have h3 := S0.out
                exact ⟨(P9.out.to hW (fun y hy q => by have := N9.out y hy; omega)).base (by omega), B9.out.trans (hW.below B9.out.size (fun b hb q => by omega))⟩
              clear P9 N9 B9
              go_wp2
              try simp only [Exit.inBlock, Exit.then]
              refine bodyPost_ret (v := .tuple #[.agg #[.slice a9 n9 c9, .slice b7 m7 d7], .int .i64 0]) ?_ rfl ?_
              · exact results_locks2 rfl _ _ (w.heap.size + 1 + 1) rfl rfl (by go_simp) (by go_simp)
              · rw [HA.out.1, HA.out.2, HM.out]
                exact ⟨a9, n9, c9, b7, m7, d7, rfl, HF.out _ (((only_set (R := fun y => y = gb ∨ y = w.heap.size + 1 + 1) (p := ⟨gb, 0, none⟩) (.inl rfl) _).trans (only_set (R := fun y => y = gb ∨ y = w.heap.size + 1 + 1) (p := ⟨w.heap.size + 1 + 1, 0, none⟩) (.inr rfl) _)).trans (only_set (R := fun y => y = gb ∨ y = w.heap.size + 1 + 1) (p := ⟨w.heap.size + 1 + 1, 1, none⟩) (.inr rfl) _))⟩
end Go.Proofs.Ytcpdedpgjaimkaa
/-
  Freeing: who is granted, in plain; a table, a row of grants and a row that is gone through, all apart; locksOfOthers of the program.
-/
namespace Go.Proofs.Ytcpdedpgjaimkaa
open Go.RowKit
set_option linter.unusedVariables false
def gstep (s : List LK × List LK × List LK) (y : LK) : List LK × List LK × List LK := if mustW s.1 s.2.1 y then (s.1, s.2.1 ++ [y], s.2.2) else (s.1 ++ [y], s.2.1, s.2.2 ++ [y])
theorem grant_eq (ys : List LK) : ∀ s, grant ys s = ys.foldl gstep s := by
  induction ys with
  | nil => intro s; rfl
  | cons y ys ih =>
    rintro ⟨h, l, g⟩
    rw [List.foldl_cons, ← ih]
    rfl
theorem grant_snoc (ys : List LK) (y : LK) (s : List LK × List LK × List LK) : grant (ys ++ [y]) s = gstep (grant ys s) y := by
  rw [grant_eq, grant_eq, List.foldl_append]; rfl
theorem gstep_yes {s : List LK × List LK × List LK} {y : LK} (h : mustW s.1 s.2.1 y = true) : gstep s y = (s.1, s.2.1 ++ [y], s.2.2) := by rw [gstep, h]; rfl
theorem gstep_no {s : List LK × List LK × List LK} {y : LK} (h : mustW s.1 s.2.1 y = false) : gstep s y = (s.1 ++ [y], s.2.1, s.2.2 ++ [y]) := by rw [gstep, h]; rfl
theorem grant_len (ys : List LK) (s : List LK × List LK × List LK) : (grant ys s).1.length ≤ s.1.length + ys.length ∧ (grant ys s).2.1.length ≤ s.2.1.length + ys.length ∧ (grant ys s).2.2.length ≤ s.2.2.length + ys.length := by
  rw [grant_eq]
  induction ys generalizing s with
  | nil => simp
  | cons y ys ih =>
    rw [List.foldl_cons]
    have h1 := ih (gstep s y)
    have h2 : (gstep s y).1.length ≤ s.1.length + 1 ∧ (gstep s y).2.1.length ≤ s.2.1.length + 1 ∧ (gstep s y).2.2.length ≤ s.2.2.length + 1 := by
      unfold gstep
      split <;> simp
    simp only [List.length_cons]
    omega
theorem others_take (l : List LK) (t : TX) {k : Nat} (h : k < l.length) : others (l.take (k + 1)) t = others (l.take k) t ++ (if (lAt l k).1 = t then [] else [lAt l k]) := by
  unfold others
  rw [List.take_succ_eq_append_getElem h, List.filter_append]
  have e : lAt l k = l[k] := by simp [lAt, h]
  rw [e]
  by_cases q : (l[k]).1 = t
  · simp [q]
  · simp [q]
theorem others_len (l : List LK) (t : TX) : (others l t).length ≤ l.length := List.length_filter_le _ _
/-- A table h, v, a row of grants g and a row r, all made since U and apart from one another and from the box gb. -/
structure FR (U wr : World) (gb : Nat) (h v g r : Value) (hl wl gl rl : List LK) : Prop where
  bel : Below U.heap.size U wr
  own : LO wr U.heap.size h v hl wl
  gr : LW wr U.heap.size g gl
  row : LW wr U.heap.size r rl
  lo : U.heap.size ≤ gb
  hi : gb < wr.heap.size
  s1 : ∀ y, lbl h v y → y ≠ gb ∧ g.ownBlock ≠ some y ∧ r.ownBlock ≠ some y
  s2 : ∀ y, g.ownBlock = some y → y ≠ gb ∧ r.ownBlock ≠ some y
  s3 : ∀ y, r.ownBlock = some y → y ≠ gb
theorem FR.below {U w w' : World} {gb : Nat} {h v g r : Value} {hl wl gl rl : List LK} (H : FR U w gb h v g r hl wl gl rl) (hb : Below w.heap.size w w') : FR U w' gb h v g r hl wl gl rl :=
  ⟨H.bel.trans (hb.mono H.bel.size), H.own.below hb, H.gr.below hb, H.row.below hb, H.lo, Nat.lt_of_lt_of_le H.hi hb.size, H.s1, H.s2, H.s3⟩
theorem FR.step {U u w2 : World} {gb : Nat} {h v g r h' v' : Value} {hl wl gl rl hl' wl' : List LK} (H : FR U u gb h v g r hl wl gl rl) (ho : Only (lbl h v) u w2) (hO : LO w2 U.heap.size h' v' hl' wl') (hn : ∀ y, lbl h' v' y → lbl h v y ∨ u.heap.size ≤ y) : FR U w2 gb h' v' g r hl' wl' gl rl := by
  refine ⟨H.bel.trans (ho.below H.bel.size (fun b hb e => by have := (H.own.lt e).1; omega)), hO, H.gr.to ho (fun y e e2 => (H.s1 y e2).2.1 e), H.row.to ho (fun y e e2 => (H.s1 y e2).2.2 e), H.lo, Nat.lt_of_lt_of_le H.hi ho.size, fun y hy => ?_, H.s2, H.s3⟩
  rcases hn y hy with q | q
  · exact H.s1 y q
  · refine ⟨by have := H.hi; omega, fun e => ?_, fun e => ?_⟩
    · have := (H.gr.lt e).2; omega
    · have := (H.row.lt e).2; omega
theorem FR.stepG {U u w2 : World} {gb : Nat} {h v g r g' : Value} {hl wl gl rl gl' : List LK} (H : FR U u gb h v g r hl wl gl rl) (ho : LW w2 U.heap.size g' gl') (hg : u.grownBy w2 g.ownBlock) (ha : g'.ownBlock = g.ownBlock ∨ g'.ownBlock = some u.heap.size) : FR U w2 gb h v g' r hl wl gl' rl := by
  have o : Only (fun y => g.ownBlock = some y) u w2 := only_of_grown hg (fun k e => e)
  have hn : ∀ y, g'.ownBlock = some y → g.ownBlock = some y ∨ u.heap.size ≤ y := fun y e => by
    rcases ha with q | q
    · rw [q] at e; exact .inl e
    · rw [q] at e; have : u.heap.size = y := Option.some.inj e; exact .inr (by omega)
  refine ⟨H.bel.trans (o.below H.bel.size (fun b hb e => by have := (H.gr.lt e).1; omega)), H.own.to o (fun y hy e => (H.s1 y hy).2.1 e), ho, H.row.to o (fun y e e2 => (H.s2 y e2).2 e), H.lo, Nat.lt_of_lt_of_le H.hi o.size, fun y hy => ⟨(H.s1 y hy).1, fun e => ?_, (H.s1 y hy).2.2⟩, fun y e => ?_, H.s3⟩
  · rcases hn y e with q | q
    · exact (H.s1 y hy).2.1 q
    · have := (H.own.lt hy).2; omega
  · rcases hn y e with q | q
    · exact H.s2 y q
    · exact ⟨by have := H.hi; omega, fun e2 => by have := (H.row.lt e2).2; omega⟩
theorem FR.box {U u w2 : World} {gb : Nat} {h v g r : Value} {hl wl gl rl : List LK} (H : FR U u gb h v g r hl wl gl rl) (ho : Only (fun y => y = gb) u w2) : FR U w2 gb h v g r hl wl gl rl :=
  ⟨H.bel.trans (ho.below H.bel.size (fun b hb e => by have := H.lo; omega)), H.own.to ho (fun y hy e => (H.s1 y hy).1 e), H.gr.to ho (fun y hy e => (H.s2 y hy).1 e), H.row.to ho (fun y hy e => H.s3 y hy e), H.lo, Nat.lt_of_lt_of_le H.hi ho.size, H.s1, H.s2, H.s3⟩
/-- What LockFree leaves. -/
def FreePost (w : World) (hl wl : List LK) (t : TX) (e : Ending) (w' : World) : Prop :=
  ∃ a n c a' n' c' g m d, e = .returned (.tuple #[.agg #[.slice a n c, .slice a' n' c'], .slice g m d]) ∧ LO w' w.heap.size (.slice a n c) (.slice a' n' c') (freeV hl wl t).1 (freeV hl wl t).2.1 ∧ LW w' w.heap.size (.slice g m d) (freeV hl wl t).2.2 ∧ (∀ y, lbl (.slice a n c) (.slice a' n' c') y → (Value.slice g m d).ownBlock ≠ some y) ∧ Below w.heap.size w w'
set_option maxHeartbeats 4000000 in
theorem locksOfOthers_any (S : Nat → Prop) (a : Option Addr) (m k : Nat) (l : List LK) (c e n : Int) (w : World) (h : Lr w S (.slice a m k) l) (hsz : l.length ≤ 1048576) :
    Calls Try.prog 89 #[.slice a m k, .agg #[.int .i64 c, .int .i64 e, .int .i64 n]] w fun r w' => ∃ a' n' c', r = .returned (.slice a' n' c') ∧ LW w' w.heap.size (.slice a' n' c') (others l (c, e, n)) ∧ Below w.heap.size w w' := by
  have HN := hid (Rw.len h).1
  have bk := (Rw.len h).2
  have B0 := hid (below_new (o := .cells #[.int .i64 c, .int .i64 e, .int .i64 n] 73) (w := w) (Below.refl _ _))
  have K0 := hid (Bk.new w 73 [.int .i64 c, .int .i64 e, .int .i64 n])
  have H0 := hid h
  clear h
  have hq := fun a b d => neq_tx a b d c e n
  have hg := guard_tx .neq
  generalize hU : w.alloc (.cells #[.int .i64 c, .int .i64 e, .int .i64 n] 73) = U at *
  have HU := hid hU
  have SU : Hid (w.heap.size < U.heap.size) := K0.out.lt
  clear hU
  go_enter Try.func89, Try.ntmps89
  go_wp2_with fail
  rw [HU.out]
  go_loopw [5, 10] (fun x i wr => ∃ (j : Nat) (ra : Option Addr) (rn rc : Nat), x = .slice ra rn rc ∧ i = .int .i64 j ∧ j ≤ m ∧ Hid (Below U.heap.size U wr) ∧ Hid (LW wr U.heap.size (.slice ra rn rc) (others (l.take j) (c, e, n)))) (fun _ i _ => m - (intOf i).toNat)
  case atStart => exact ⟨0, none, 0, 0, rfl, rfl, Nat.zero_le _, Below.refl _ _, lw_nil _ _⟩
  case round =>
    obtain ⟨j, ra, rn, rc, rfl, rfl, hj, HB, HR⟩ := hrel
    by_cases hlt : j < m
    · have hlt' : (j : Int) < (m : Int) := by omega
      have hml : j < l.length := by rw [← HN.out]; exact hlt
      obtain ⟨b, off, ha, -, -, hcell⟩ := (H0.out.below (B0.out.trans (HB.out.mono B0.out.size))).at (by omega)
      obtain ⟨hc0, hc1, hc2, hc3, hc4, hc5⟩ := hcell j hlt
      clear hcell
      subst ha
      have HT := hid (others_take l (c, e, n) hml)
      have HLN := hid (others_len (l.take j) (c, e, n))
      generalize lAt l j = cur at hc0 hc1 hc2 hc3 hc4 hc5 HT
      obtain ⟨⟨cc, ce, cn⟩, ⟨clo, chi⟩, cex⟩ := cur
      have K1 := hid (K0.out.below HB.out)
      have k0 := K1.out.lt
      have x0 := K1.out.cell (j := 0) rfl
      have x1 := K1.out.cell (j := 1) rfl
      have x2 := K1.out.cell (j := 2) rfl
      have hq1 := hq cc ce cn
      clear hq
      have hsr : (others (l.take j) (c, e, n)).length ≤ 1048576 := by have := HLN.out; simp at this; omega
      by_cases hd : (cc, ce, cn) = (c, e, n)
      · have HO : Hid (others (l.take (j + 1)) (c, e, n) = others (l.take j) (c, e, n)) := by show _ = _; rw [HT.out, if_pos hd, List.append_nil]
        rw [decide_eq_true hd] at hq1
        have hb := below_new (o := .cells #[.int .i64 cc, .int .i64 ce, .int .i64 cn, .string clo, .string chi, .bool cex] 75) (w := wr) (Below.refl _ _)
        have B2 := hid (HB.out.trans (hb.mono HB.out.size))
        have R2 := hid (HR.out.below hb)
        clear hb hd HT
        go_wp2
        go_roundw
        case rel => exact ⟨j + 1, ra, rn, rc, rfl, by go_num, by omega, B2.out, by rw [HO.out]; exact R2.out⟩
        case measure => simp [intOf]; omega
      · have HO : Hid (others (l.take (j + 1)) (c, e, n) = others (l.take j) (c, e, n) ++ [((cc, ce, cn), (clo, chi), cex)]) := by show _ = _; rw [HT.out, if_neg hd]
        rw [decide_eq_false hd] at hq1
        have hb := below_new (o := .cells #[.int .i64 cc, .int .i64 ce, .int .i64 cn, .string clo, .string chi, .bool cex] 75) (w := wr) (below_new (o := .cells #[.int .i64 cc, .int .i64 ce, .int .i64 cn, .string clo, .string chi, .bool cex] 75) (w := wr.alloc (.cells #[.int .i64 cc, .int .i64 ce, .int .i64 cn, .string clo, .string chi, .bool cex] 75)) (Below.refl _ _))
        have B2 := hid (HB.out.trans (hb.mono HB.out.size))
        have R2 := hid (HR.out.below hb)
        have NB : Hid (Bk ((wr.alloc (.cells #[.int .i64 cc, .int .i64 ce, .int .i64 cn, .string clo, .string chi, .bool cex] 75)).alloc (.cells #[.int .i64 cc, .int .i64 ce, .int .i64 cn, .string clo, .string chi, .bool cex] 75)) (wr.heap.size + 1) 75 (lcs [((cc, ce, cn), (clo, chi), cex)])) := by
          have := Bk.new (wr.alloc (.cells #[.int .i64 cc, .int .i64 ce, .int .i64 cn, .string clo, .string chi, .bool cex] 75)) 75 [.int .i64 cc, .int .i64 ce, .int .i64 cn, .string clo, .string chi, .bool cex]
          rw [show (wr.alloc (.cells #[.int .i64 cc, .int .i64 ce, .int .i64 cn, .string clo, .string chi, .bool cex] 75)).heap.size = wr.heap.size + 1 by simp] at this
          exact this
        clear hb hd HT
        go_wp2_with (at_builtin; refine wpList_append_lk rfl _ _ rfl U.heap.size _ _ rfl R2.out (wr.heap.size + 1) ((cc, ce, cn), (clo, chi), cex) rfl NB.out hsr B2.out.size ?_)
        intro a' n' c' w4 hO4 hg4 ha4
        have B4 : Hid (Below U.heap.size U w4) := B2.out.trans ((only_of_grown hg4 (R := fun y => (Value.slice ra rn rc).ownBlock = some y) (fun k q => q)).below B2.out.size (fun b hb q => by have := (R2.out.lt q).1; omega))
        have R4 : Hid (LW w4 U.heap.size (.slice a' n' c') (others (l.take (j + 1)) (c, e, n))) := by show LW _ _ _ _; rw [HO.out]; exact hO4
        clear hO4 hg4 ha4
        go_wp2
        go_roundw
        case rel => exact ⟨j + 1, a', n', c', rfl, by go_num, by omega, B4.out, R4.out⟩
        case measure => simp [intOf]; omega
    · have HA : Hid (LW wr U.heap.size (.slice ra rn rc) (others l (c, e, n))) := by
        have := HR.out
        rwa [List.take_of_length_le (by rw [← HN.out]; omega)] at this
      go_wp2
      go_ret
      exact ⟨ra, rn, rc, rfl, HA.out.base (by have := SU.out; omega), B0.out.trans (HB.out.mono B0.out.size)⟩
end Go.Proofs.Ytcpdedpgjaimkaa
