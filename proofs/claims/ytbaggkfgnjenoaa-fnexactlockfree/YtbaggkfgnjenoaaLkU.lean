/-
  LockAsk of the program.
-/
import Derived.Test.YtbaggkfgnjenoaaLkR
import Derived.Test.YtbaggkfgnjenoaaKl
import Derived.Deep.DeepCutAuto
namespace Go.Proofs.Ytbaggkfgnjenoaa
open Go.RowKit
set_option linter.unusedVariables false
def okAsk (h l : List LK) (x : LK) : Bool := lksOk h l && (lkOk x && !hasT l x.1)
theorem okAsk_def (h l : List LK) (x : LK) : okAsk h l x = (lksOk h l && (lkOk x && !hasT l x.1)) := rfl
theorem ask_one {h l : List LK} {x : LK} (e : okAsk h l x = false) : askC h l x = 1 ∧ askT h l x = ([], []) := by
  unfold okAsk at e
  unfold askC askT
  rw [e]
  exact ⟨rfl, rfl⟩
theorem ask_two {h l : List LK} {x : LK} (e : okAsk h l x = true) (k : h.length + l.length = 60) : askC h l x = 2 ∧ askT h l x = ([], []) := by
  unfold okAsk at e
  unfold askC askT
  rw [e, if_pos rfl, if_pos rfl, if_pos k, if_pos k]
  exact ⟨rfl, rfl⟩
theorem ask_put {h l : List LK} {x : LK} (e : okAsk h l x = true) (k : ¬ h.length + l.length = 60) : askC h l x = (if mustW h l x then 3 else 0) ∧ askT h l x = putL h l x := by
  unfold okAsk at e
  unfold askC askT
  rw [e, if_pos rfl, if_pos rfl, if_neg k, if_neg k]
  exact ⟨rfl, rfl⟩
theorem okAsk_len {h l : List LK} {x : LK} (e : okAsk h l x = true) : h.length + l.length ≤ 60 := by
  unfold okAsk at e
  simp only [Bool.and_eq_true] at e
  exact lksOk_len e.1
/-- What LockAsk leaves. -/
def AskPost (w : World) (hl wl : List LK) (x : LK) (e : Ending) (w' : World) : Prop :=
  ∃ a n c a' n' c', e = .returned (.tuple #[.agg #[.slice a n c, .slice a' n' c'], .int .i64 (askC hl wl x)]) ∧ LO w' w.heap.size (.slice a n c) (.slice a' n' c') (askT hl wl x).1 (askT hl wl x).2 ∧ Below w.heap.size w w'
theorem kl8o {u v v' : World} {R : Nat → Prop} {a0 a1 a2 a3 a4 a5 a6 a7 : Addr} {x0 x1 x2 x3 x4 x5 x6 x7 : Value} (ho : Only R v v') (hR : ∀ y, R y → u.heap.size ≤ y) (h : v.cell? a0 = some x0 ∧ v.cell? a1 = some x1 ∧ v.cell? a2 = some x2 ∧ v.cell? a3 = some x3 ∧ v.cell? a4 = some x4 ∧ v.cell? a5 = some x5 ∧ v.cell? a6 = some x6 ∧ v.cell? a7 = some x7 ∧ KL u v [(a0, x0), (a1, x1), (a2, x2), (a3, x3), (a4, x4), (a5, x5), (a6, x6), (a7, x7)]) :
    v'.cell? a0 = some x0 ∧ v'.cell? a1 = some x1 ∧ v'.cell? a2 = some x2 ∧ v'.cell? a3 = some x3 ∧ v'.cell? a4 = some x4 ∧ v'.cell? a5 = some x5 ∧ v'.cell? a6 = some x6 ∧ v'.cell? a7 = some x7 ∧ KL u v' [(a0, x0), (a1, x1), (a2, x2), (a3, x3), (a4, x4), (a5, x5), (a6, x6), (a7, x7)] :=
  kl8 ⟨h.2.2.2.2.2.2.2.2.cells, h.2.2.2.2.2.2.2.2.bel.trans (ho.below h.2.2.2.2.2.2.2.2.bel.size (fun b hb hr => by have := hR b hr; omega))⟩
/-- A table in its box, all of it made since U. -/
structure AB (U v : World) (gb : Nat) (h k : Value) (hl wl : List LK) : Prop where
  bel : Below U.heap.size U v
  box : Bk v gb 25 [h, k]
  own : LO v U.heap.size h k hl wl
  lo : U.heap.size ≤ gb
  sep : ∀ y, lbl h k y → y ≠ gb
theorem AB.below {U v v' : World} {gb : Nat} {h k : Value} {hl wl : List LK} (H : AB U v gb h k hl wl) (hb : Below v.heap.size v v') : AB U v' gb h k hl wl := ⟨H.bel.trans (hb.mono H.bel.size), H.box.below hb, H.own.below hb, H.lo, H.sep⟩
theorem AB.fin {w U v W : World} {gb s : Nat} {h k : Value} {hl wl : List LK} (A : AB U v gb h k hl wl) (B : Below w.heap.size w U) (hs : s < U.heap.size) (hs2 : w.heap.size ≤ s) (hW : Only (fun y => y = s) v W) : LO W w.heap.size h k hl wl ∧ Below w.heap.size w W := by
  have h3 := B.size
  refine ⟨(A.own.to hW (fun y hy e => by have h2 := (A.own.lt hy).1; omega)).base (by omega), ?_⟩
  have hb := B.trans (A.bel.mono B.size)
  exact hb.trans (hW.below hb.size (fun b hb e => by omega))
theorem AB.mk' {U v : World} {gb B : Nat} {h k : Value} {hl wl : List LK} (hb : Below U.heap.size U v) (hO : LO v B h k hl wl) (hB : U.heap.size ≤ B) (hk : Bk v gb 25 [.slice none 0 0, .slice none 0 0]) (hlo : U.heap.size ≤ gb) (hs : ∀ y, lbl h k y → y ≠ gb) : AB U ((v.setCell ⟨gb, 0, none⟩ h).setCell ⟨gb, 1, none⟩ k) gb h k hl wl := by
  have ow : Only (fun y => y = gb) v ((v.setCell ⟨gb, 0, none⟩ h).setCell ⟨gb, 1, none⟩ k) := (only_set (R := fun y => y = gb) (p := ⟨gb, 0, none⟩) rfl _).trans (only_set (R := fun y => y = gb) (p := ⟨gb, 1, none⟩) rfl _)
  exact ⟨hb.trans (ow.below hb.size (fun b hb e => by omega)), (hk.set 0 _).set 1 _, (hO.base hB).to ow (fun y hy e => hs y hy e), hlo, hs⟩
set_option maxHeartbeats 16000000 in
set_option maxRecDepth 20000 in
theorem implLockAsk_any (S S' : Nat → Prop) (ha : Option Addr) (hn hc : Nat) (wa : Option Addr) (wn wc : Nat) (hl wl : List LK) (c e n : Int) (lo hi : ByteArray) (ex : Bool) (w : World) (h1 : Lr w S (.slice ha hn hc) hl) (h2 : Lr w S' (.slice wa wn wc) wl) (hh : hn ≤ 1048576) (hw : wn ≤ 1048576) :
    Calls Try.prog 10 #[.agg #[.slice ha hn hc, .slice wa wn wc], .agg #[.int .i64 c, .int .i64 e, .int .i64 n, .string lo, .string hi, .bool ex]] w fun r w' => AskPost w hl wl ((c, e, n), (lo, hi), ex) r w' := by
  have HNH := hid (Rw.len h1).1
  have HNW := hid (Rw.len h2).1
  have B0 : Hid (Below w.heap.size w (((w.alloc (.cells #[.slice ha hn hc, .slice wa wn wc] 25)).alloc (.cells #[.int .i64 c, .int .i64 e, .int .i64 n, .string lo, .string hi, .bool ex] 31)).alloc (.cells #[.slice none 0 0, .slice none 0 0] 25))) := below_new (below_new (below_new (Below.refl _ _)))
  have K0 := hid (((Bk.new w 25 [.slice ha hn hc, .slice wa wn wc]).alloc (.cells #[.int .i64 c, .int .i64 e, .int .i64 n, .string lo, .string hi, .bool ex] 31)).alloc (.cells #[.slice none 0 0, .slice none 0 0] 25))
  have J0 := hid ((Bk.new (w.alloc (.cells #[.slice ha hn hc, .slice wa wn wc] 25)) 31 [.int .i64 c, .int .i64 e, .int .i64 n, .string lo, .string hi, .bool ex]).alloc (.cells #[.slice none 0 0, .slice none 0 0] 25))
  have I0 := hid (Bk.new ((w.alloc (.cells #[.slice ha hn hc, .slice wa wn wc] 25)).alloc (.cells #[.int .i64 c, .int .i64 e, .int .i64 n, .string lo, .string hi, .bool ex] 31)) 25 [.slice none 0 0, .slice none 0 0])
  rw [show (w.alloc (.cells #[.slice ha hn hc, .slice wa wn wc] 25)).heap.size = w.heap.size + 1 by simp] at J0
  rw [show ((w.alloc (.cells #[.slice ha hn hc, .slice wa wn wc] 25)).alloc (.cells #[.int .i64 c, .int .i64 e, .int .i64 n, .string lo, .string hi, .bool ex] 31)).heap.size = w.heap.size + 1 + 1 by simp] at I0
  have H1 := hid h1
  have H2 := hid h2
  have HV := hid (okAsk_def hl wl ((c, e, n), (lo, hi), ex))
  have C1 := hid (fun v h1 h2 => implLocksOk_any S S' ha hn hc wa wn wc hl wl v h1 h2 (by omega) (by omega))
  have C2 := hid (fun w => implLockOk_any c e n lo hi ex w)
  have C3 := hid (fun v h2 => isAmong_any c e n S' wa wn wc wl v h2)
  have C4 := hid (fun w => lockCount_any ha hn hc wa wn wc w (by omega) (by omega))
  have hll : hl.length ≤ 1048576 := by rw [← HNH.out]; exact hh
  have hlw : wl.length ≤ 1048576 := by rw [← HNW.out]; exact hw
  have CC : Hid (∀ v, Below w.heap.size w v → Calls Try.prog 52 #[.agg #[.slice ha hn hc, .slice wa wn wc]] v fun r w' => CpPost v hl wl r w') := fun v hv => copyLocks_any S S' ha hn hc wa wn wc hl wl v (H1.out.below hv) (H2.out.below hv) hll hlw
  have CW : Hid (∀ (v : World) (B : Nat) (a : Option Addr) (n' c' : Nat) (a' : Option Addr) (n2 c2 : Nat), LO v B (.slice a n' c') (.slice a' n2 c2) hl wl → B ≤ v.heap.size → Calls Try.prog 51 #[.agg #[.slice a n' c', .slice a' n2 c2], .agg #[.int .i64 c, .int .i64 e, .int .i64 n, .string lo, .string hi, .bool ex]] v fun r w' => ∃ a9 n9 c9 b9 m9 d9, r = .returned (.tuple #[.agg #[.slice a9 n9 c9, .slice b9 m9 d9], .bool (!mustW hl wl ((c, e, n), (lo, hi), ex))]) ∧ LO w' B (.slice a9 n9 c9) (.slice b9 m9 d9) (putL hl wl ((c, e, n), (lo, hi), ex)).1 (putL hl wl ((c, e, n), (lo, hi), ex)).2 ∧ Only (lbl (.slice a n' c') (.slice a' n2 c2)) v w' ∧ (∀ y, lbl (.slice a9 n9 c9) (.slice b9 m9 d9) y → lbl (.slice a n' c') (.slice a' n2 c2) y ∨ v.heap.size ≤ y)) := fun v B a n' c' a' n2 c2 hO hB => withLock_any B a n' c' a' n2 c2 hl wl c e n lo hi ex v hO hB hll hlw
  clear h1 h2 hll hlw
  have hnot : ∀ (x : Bool) (w : World), (Op.unary .not (.bool x)).run Try.prog w = .ok (.bool (!x)) w := fun _ _ => rfl
  generalize lksOk hl wl = z1 at *
  generalize lkOk ((c, e, n), (lo, hi), ex) = z2 at *
  generalize hasT wl (c, e, n) = z3 at *
  unfold AskPost
  cases z1 with
  | false =>
    have HA := hid (ask_one (HV.out.trans rfl))
    go_enter Try.func10, Try.ntmps10
    go_wp2_with fail
    refine (C1.out _ (H1.out.below B0.out) (H2.out.below B0.out)).mono ?_
    generalize ((w.alloc (.cells #[.slice ha hn hc, .slice wa wn wc] 25)).alloc (.cells #[.int .i64 c, .int .i64 e, .int .i64 n, .string lo, .string hi, .bool ex] 31)).alloc (.cells #[.slice none 0 0, .slice none 0 0] 25) = U at *
    rintro r w1 ⟨rfl, hb⟩
    have K1 := hid (K0.out.below hb)
    have J1 := hid (J0.out.below hb)
    have I1 := hid (I0.out.below hb)
    have B1 := hid (B0.out.trans (hb.mono B0.out.size))
    clear K0 J0 I0 B0 hb
    have z0 := I1.out.cell (j := 0) rfl
    have z1 := I1.out.cell (j := 1) rfl
    have e0 := I1.out.free 0
    have e1 := I1.out.free 1
    go_wp2
    try simp only [Exit.inBlock, Exit.then]
    refine bodyPost_ret (v := .tuple #[.agg #[.slice none 0 0, .slice none 0 0], .int .i64 1]) ?_ rfl ?_
    · exact results_locks2 rfl _ _ (w.heap.size + 1 + 1) rfl rfl (by go_simp) (by go_simp)
    · rw [HA.out.1, HA.out.2]
      exact ⟨none, 0, 0, none, 0, 0, rfl, lo_nil _ _, (B1.out.setCell (p := ⟨w.heap.size + 1 + 1, 0, none⟩) (by simp <;> omega) _).setCell (p := ⟨w.heap.size + 1 + 1, 1, none⟩) (by simp <;> omega) _⟩
  | true =>
    cases z2 with
    | false =>
      have HA := hid (ask_one (HV.out.trans rfl))
      go_enter Try.func10, Try.ntmps10
      go_wp2_with fail
      refine (C1.out _ (H1.out.below B0.out) (H2.out.below B0.out)).mono ?_
      generalize ((w.alloc (.cells #[.slice ha hn hc, .slice wa wn wc] 25)).alloc (.cells #[.int .i64 c, .int .i64 e, .int .i64 n, .string lo, .string hi, .bool ex] 31)).alloc (.cells #[.slice none 0 0, .slice none 0 0] 25) = U at *
      rintro r w1 ⟨rfl, hb⟩
      have K1 := hid (K0.out.below hb)
      have J1 := hid (J0.out.below hb)
      have I1 := hid (I0.out.below hb)
      have B1 := hid (B0.out.trans (hb.mono B0.out.size))
      clear K0 J0 I0 B0 hb
      have y0 := K1.out.cell (j := 0) rfl
      have y1 := K1.out.cell (j := 1) rfl
      have x0 := J1.out.cell (j := 0) rfl
      have x1 := J1.out.cell (j := 1) rfl
      have x2 := J1.out.cell (j := 2) rfl
      have x3 := J1.out.cell (j := 3) rfl
      have x4 := J1.out.cell (j := 4) rfl
      have x5 := J1.out.cell (j := 5) rfl
      go_wp2_with fail
      refine (C2.out _).mono ?_
      rintro r w2 ⟨rfl, hb⟩
      have K2 := hid (K1.out.below hb)
      have J2 := hid (J1.out.below hb)
      have I2 := hid (I1.out.below hb)
      have B2 := hid (B1.out.trans (hb.mono B1.out.size))
      clear K1 J1 I1 B1 hb y0 y1 x0 x1 x2 x3 x4 x5
      have z0 := I2.out.cell (j := 0) rfl
      have z1 := I2.out.cell (j := 1) rfl
      have e0 := I2.out.free 0
      have e1 := I2.out.free 1
      go_wp2
      try simp only [Exit.inBlock, Exit.then]
      refine bodyPost_ret (v := .tuple #[.agg #[.slice none 0 0, .slice none 0 0], .int .i64 1]) ?_ rfl ?_
      · exact results_locks2 rfl _ _ (w.heap.size + 1 + 1) rfl rfl (by go_simp) (by go_simp)
      · rw [HA.out.1, HA.out.2]
        exact ⟨none, 0, 0, none, 0, 0, rfl, lo_nil _ _, (B2.out.setCell (p := ⟨w.heap.size + 1 + 1, 0, none⟩) (by simp <;> omega) _).setCell (p := ⟨w.heap.size + 1 + 1, 1, none⟩) (by simp <;> omega) _⟩
    | true =>
      cases z3 with
      | true =>
        have HA := hid (ask_one (HV.out.trans rfl))
        go_enter Try.func10, Try.ntmps10
        go_wp2_with fail
        refine (C1.out _ (H1.out.below B0.out) (H2.out.below B0.out)).mono ?_
        generalize ((w.alloc (.cells #[.slice ha hn hc, .slice wa wn wc] 25)).alloc (.cells #[.int .i64 c, .int .i64 e, .int .i64 n, .string lo, .string hi, .bool ex] 31)).alloc (.cells #[.slice none 0 0, .slice none 0 0] 25) = U at *
        rintro r w1 ⟨rfl, hb⟩
        have K1 := hid (K0.out.below hb)
        have J1 := hid (J0.out.below hb)
        have I1 := hid (I0.out.below hb)
        have B1 := hid (B0.out.trans (hb.mono B0.out.size))
        clear K0 J0 I0 B0 hb
        have y0 := K1.out.cell (j := 0) rfl
        have y1 := K1.out.cell (j := 1) rfl
        have x0 := J1.out.cell (j := 0) rfl
        have x1 := J1.out.cell (j := 1) rfl
        have x2 := J1.out.cell (j := 2) rfl
        have x3 := J1.out.cell (j := 3) rfl
        have x4 := J1.out.cell (j := 4) rfl
        have x5 := J1.out.cell (j := 5) rfl
        go_wp2_with fail
        refine (C2.out _).mono ?_
        rintro r w2 ⟨rfl, hb⟩
        have K2 := hid (K1.out.below hb)
        have J2 := hid (J1.out.below hb)
        have I2 := hid (I1.out.below hb)
        have B2 := hid (B1.out.trans (hb.mono B1.out.size))
        clear K1 J1 I1 B1 hb y0 y1 x0 x1 x2 x3 x4 x5
        have y0 := K2.out.cell (j := 0) rfl
        have y1 := K2.out.cell (j := 1) rfl
        have x0 := J2.out.cell (j := 0) rfl
        have x1 := J2.out.cell (j := 1) rfl
        have x2 := J2.out.cell (j := 2) rfl
        have x3 := J2.out.cell (j := 3) rfl
        have x4 := J2.out.cell (j := 4) rfl
        have x5 := J2.out.cell (j := 5) rfl
        go_wp2_with fail
        refine (C3.out _ (H2.out.below B2.out)).mono ?_
        rintro r w3 ⟨rfl, hb⟩
        have K3 := hid (K2.out.below hb)
        have J3 := hid (J2.out.below hb)
        have I3 := hid (I2.out.below hb)
        have B3 := hid (B2.out.trans (hb.mono B2.out.size))
        clear K2 J2 I2 B2 hb y0 y1 x0 x1 x2 x3 x4 x5
        have z0 := I3.out.cell (j := 0) rfl
        have z1 := I3.out.cell (j := 1) rfl
        have e0 := I3.out.free 0
        have e1 := I3.out.free 1
        go_wp2
        try simp only [Exit.inBlock, Exit.then]
        refine bodyPost_ret (v := .tuple #[.agg #[.slice none 0 0, .slice none 0 0], .int .i64 1]) ?_ rfl ?_
        · exact results_locks2 rfl _ _ (w.heap.size + 1 + 1) rfl rfl (by go_simp) (by go_simp)
        · rw [HA.out.1, HA.out.2]
          exact ⟨none, 0, 0, none, 0, 0, rfl, lo_nil _ _, (B3.out.setCell (p := ⟨w.heap.size + 1 + 1, 0, none⟩) (by simp <;> omega) _).setCell (p := ⟨w.heap.size + 1 + 1, 1, none⟩) (by simp <;> omega) _⟩
      | false =>
        have h60 := okAsk_len (HV.out.trans rfl)
        rw [← HNH.out, ← HNW.out] at h60
        by_cases h6 : hn + wn = 60
        · have HA := hid (ask_two (HV.out.trans rfl) (by rw [← HNH.out, ← HNW.out]; exact h6))
          rw [h6] at C4
          clear h6 h60
          go_enter Try.func10, Try.ntmps10
          go_wp2_with fail
          refine (C1.out _ (H1.out.below B0.out) (H2.out.below B0.out)).mono ?_
          generalize ((w.alloc (.cells #[.slice ha hn hc, .slice wa wn wc] 25)).alloc (.cells #[.int .i64 c, .int .i64 e, .int .i64 n, .string lo, .string hi, .bool ex] 31)).alloc (.cells #[.slice none 0 0, .slice none 0 0] 25) = U at *
          rintro r w1 ⟨rfl, hb⟩
          have K1 := hid (K0.out.below hb)
          have J1 := hid (J0.out.below hb)
          have I1 := hid (I0.out.below hb)
          have B1 := hid (B0.out.trans (hb.mono B0.out.size))
          clear K0 J0 I0 B0 hb
          have y0 := K1.out.cell (j := 0) rfl
          have y1 := K1.out.cell (j := 1) rfl
          have x0 := J1.out.cell (j := 0) rfl
          have x1 := J1.out.cell (j := 1) rfl
          have x2 := J1.out.cell (j := 2) rfl
          have x3 := J1.out.cell (j := 3) rfl
          have x4 := J1.out.cell (j := 4) rfl
          have x5 := J1.out.cell (j := 5) rfl
          go_wp2_with fail
          refine (C2.out _).mono ?_
          rintro r w2 ⟨rfl, hb⟩
          have K2 := hid (K1.out.below hb)
          have J2 := hid (J1.out.below hb)
          have I2 := hid (I1.out.below hb)
          have B2 := hid (B1.out.trans (hb.mono B1.out.size))
          clear K1 J1 I1 B1 hb y0 y1 x0 x1 x2 x3 x4 x5
          have y0 := K2.out.cell (j := 0) rfl
          have y1 := K2.out.cell (j := 1) rfl
          have x0 := J2.out.cell (j := 0) rfl
          have x1 := J2.out.cell (j := 1) rfl
          have x2 := J2.out.cell (j := 2) rfl
          have x3 := J2.out.cell (j := 3) rfl
          have x4 := J2.out.cell (j := 4) rfl
          have x5 := J2.out.cell (j := 5) rfl
          go_wp2_with fail
          refine (C3.out _ (H2.out.below B2.out)).mono ?_
          rintro r w3 ⟨rfl, hb⟩
          have K3 := hid (K2.out.below hb)
          have J3 := hid (J2.out.below hb)
          have I3 := hid (I2.out.below hb)
          have B3 := hid (B2.out.trans (hb.mono B2.out.size))
          clear K2 J2 I2 B2 hb y0 y1 x0 x1 x2 x3 x4 x5
          have y0 := K3.out.cell (j := 0) rfl
          have y1 := K3.out.cell (j := 1) rfl
          have x0 := J3.out.cell (j := 0) rfl
          have x1 := J3.out.cell (j := 1) rfl
          have x2 := J3.out.cell (j := 2) rfl
          have x3 := J3.out.cell (j := 3) rfl
          have x4 := J3.out.cell (j := 4) rfl
          have x5 := J3.out.cell (j := 5) rfl
          go_wp2_with fail
          refine (C4.out _).mono ?_
          rintro r w4 ⟨rfl, hb⟩
          have K4 := hid (K3.out.below hb)
          have J4 := hid (J3.out.below hb)
          have I4 := hid (I3.out.below hb)
          have B4 := hid (B3.out.trans (hb.mono B3.out.size))
          clear K3 J3 I3 B3 hb y0 y1 x0 x1 x2 x3 x4 x5
          have z0 := I4.out.cell (j := 0) rfl
          have z1 := I4.out.cell (j := 1) rfl
          have e0 := I4.out.free 0
          have e1 := I4.out.free 1
          go_wp2
          try simp only [Exit.inBlock, Exit.then]
          refine bodyPost_ret (v := .tuple #[.agg #[.slice none 0 0, .slice none 0 0], .int .i64 2]) ?_ rfl ?_
          · exact results_locks2 rfl _ _ (w.heap.size + 1 + 1) rfl rfl (by go_simp) (by go_simp)
          · rw [HA.out.1, HA.out.2]
            exact ⟨none, 0, 0, none, 0, 0, rfl, lo_nil _ _, (B4.out.setCell (p := ⟨w.heap.size + 1 + 1, 0, none⟩) (by simp <;> omega) _).setCell (p := ⟨w.heap.size + 1 + 1, 1, none⟩) (by simp <;> omega) _⟩
        · have HA := hid (ask_put (HV.out.trans rfl) (by rw [← HNH.out, ← HNW.out]; exact h6))
          have h6' : ¬ ((hn + wn : Nat) : Int) = 60 := by omega
          have h6b : (((hn + wn : Nat) : Int) == 60) = false := by simp; omega
          generalize hn + wn = sm at C4 h6' h6b
          clear h6 h60
          go_enter Try.func10, Try.ntmps10
          go_wp2_with fail
          refine (C1.out _ (H1.out.below B0.out) (H2.out.below B0.out)).mono ?_
          generalize ((w.alloc (.cells #[.slice ha hn hc, .slice wa wn wc] 25)).alloc (.cells #[.int .i64 c, .int .i64 e, .int .i64 n, .string lo, .string hi, .bool ex] 31)).alloc (.cells #[.slice none 0 0, .slice none 0 0] 25) = U at *
          rintro r w1 ⟨rfl, hb⟩
          have K1 := hid (K0.out.below hb)
          have J1 := hid (J0.out.below hb)
          have I1 := hid (I0.out.below hb)
          have B1 := hid (B0.out.trans (hb.mono B0.out.size))
          clear K0 J0 I0 B0 hb
          have y0 := K1.out.cell (j := 0) rfl
          have y1 := K1.out.cell (j := 1) rfl
          have x0 := J1.out.cell (j := 0) rfl
          have x1 := J1.out.cell (j := 1) rfl
          have x2 := J1.out.cell (j := 2) rfl
          have x3 := J1.out.cell (j := 3) rfl
          have x4 := J1.out.cell (j := 4) rfl
          have x5 := J1.out.cell (j := 5) rfl
          go_wp2_with fail
          refine (C2.out _).mono ?_
          rintro r w2 ⟨rfl, hb⟩
          have K2 := hid (K1.out.below hb)
          have J2 := hid (J1.out.below hb)
          have I2 := hid (I1.out.below hb)
          have B2 := hid (B1.out.trans (hb.mono B1.out.size))
          clear K1 J1 I1 B1 hb y0 y1 x0 x1 x2 x3 x4 x5
          have y0 := K2.out.cell (j := 0) rfl
          have y1 := K2.out.cell (j := 1) rfl
          have x0 := J2.out.cell (j := 0) rfl
          have x1 := J2.out.cell (j := 1) rfl
          have x2 := J2.out.cell (j := 2) rfl
          have x3 := J2.out.cell (j := 3) rfl
          have x4 := J2.out.cell (j := 4) rfl
          have x5 := J2.out.cell (j := 5) rfl
          go_wp2_with fail
          refine (C3.out _ (H2.out.below B2.out)).mono ?_
          rintro r w3 ⟨rfl, hb⟩
          have K3 := hid (K2.out.below hb)
          have J3 := hid (J2.out.below hb)
          have I3 := hid (I2.out.below hb)
          have B3 := hid (B2.out.trans (hb.mono B2.out.size))
          clear K2 J2 I2 B2 hb y0 y1 x0 x1 x2 x3 x4 x5
          have y0 := K3.out.cell (j := 0) rfl
          have y1 := K3.out.cell (j := 1) rfl
          have x0 := J3.out.cell (j := 0) rfl
          have x1 := J3.out.cell (j := 1) rfl
          have x2 := J3.out.cell (j := 2) rfl
          have x3 := J3.out.cell (j := 3) rfl
          have x4 := J3.out.cell (j := 4) rfl
          have x5 := J3.out.cell (j := 5) rfl
          go_wp2_with fail
          refine (C4.out _).mono ?_
          rintro r w4 ⟨rfl, hb⟩
          have K4 := hid (K3.out.below hb)
          have J4 := hid (J3.out.below hb)
          have I4 := hid (I3.out.below hb)
          have B4 := hid (B3.out.trans (hb.mono B3.out.size))
          clear K3 J3 I3 B3 hb y0 y1 x0 x1 x2 x3 x4 x5
          generalize hz : mustW hl wl ((c, e, n), (lo, hi), ex) = z at CW
          have HM := hid hz
          clear hz
          have T0 := hid (kl8_0 (K4.out.cell (j := 0) rfl) (K4.out.cell (j := 1) rfl) (J4.out.cell (j := 0) rfl) (J4.out.cell (j := 1) rfl) (J4.out.cell (j := 2) rfl) (J4.out.cell (j := 3) rfl) (J4.out.cell (j := 4) rfl) (J4.out.cell (j := 5) rfl))
          have HB : Hid (∀ v, Below w4.heap.size w4 v → Below w.heap.size w v) := fun v hv => B4.out.trans (hv.mono B4.out.size)
          clear C1 C2 C3 C4
          go_wp2_with fail
          skip
          go_cut [6, 7] (fun x y v => ∃ gb ya yn yc za zn zc, x = .pointer (some ⟨gb, 0, none⟩) ∧ y = .bool (!z) ∧ AB w4 v gb (.slice ya yn yc) (.slice za zn zc) (putL hl wl ((c, e, n), (lo, hi), ex)).1 (putL hl wl ((c, e, n), (lo, hi), ex)).2)
          case first =>
            refine wp_region_noPanic ?_
            refine wp_region_held_drew (S := fun v => v.cell? ⟨w.heap.size, 0, none⟩ = some (.slice ha hn hc) ∧ v.cell? ⟨w.heap.size, 1, none⟩ = some (.slice wa wn wc) ∧ v.cell? ⟨w.heap.size + 1, 0, none⟩ = some (.int .i64 c) ∧ v.cell? ⟨w.heap.size + 1, 1, none⟩ = some (.int .i64 e) ∧ v.cell? ⟨w.heap.size + 1, 2, none⟩ = some (.int .i64 n) ∧ v.cell? ⟨w.heap.size + 1, 3, none⟩ = some (.string lo) ∧ v.cell? ⟨w.heap.size + 1, 4, none⟩ = some (.string hi) ∧ v.cell? ⟨w.heap.size + 1, 5, none⟩ = some (.bool ex) ∧ KL w4 v [(⟨w.heap.size, 0, none⟩, .slice ha hn hc), (⟨w.heap.size, 1, none⟩, .slice wa wn wc), (⟨w.heap.size + 1, 0, none⟩, .int .i64 c), (⟨w.heap.size + 1, 1, none⟩, .int .i64 e), (⟨w.heap.size + 1, 2, none⟩, .int .i64 n), (⟨w.heap.size + 1, 3, none⟩, .string lo), (⟨w.heap.size + 1, 4, none⟩, .string hi), (⟨w.heap.size + 1, 5, none⟩, .bool ex)]) (by kernel_rfl) (kl8 (T0.out.call (below_drew _))) (fun hHeld => ?_)
            simp only [List.size_toArray, List.length_cons, List.length_nil, Array.replicate_succ, Array.replicate_zero, Nat.reduceAdd, List.push_toArray, List.nil_append, List.cons_append]
            refine wpAnyH_take (i := 0) (v := (.agg #[.slice ha hn hc, .slice wa wn wc])) rfl (by kernel_rfl) (by kernel_rfl) (by kernel_rfl) (fun _ _ _ h => h) (Or.inl ⟨by rfl, ?_⟩) (by assumption) ?_
            · intro w hSw
              (try dsimp only at hSw)
              go_simp
            try simp only [List.getElem_toArray]
            try simp only [List.getElem_cons_succ]
            try simp only [List.getElem_cons_zero]
            try simp only [Act.put]
            try simp only [List.setIfInBounds_toArray]
            try simp only [List.set_cons_succ]
            try simp only [List.set_cons_zero]
            refine wpAnyH_take (i := 2) (v := (.agg #[.int .i64 c, .int .i64 e, .int .i64 n, .string lo, .string hi, .bool ex])) rfl (by kernel_rfl) (by kernel_rfl) (by kernel_rfl) (fun _ _ _ h => h) (Or.inl ⟨by rfl, ?_⟩) (by assumption) ?_
            · intro w hSw
              (try dsimp only at hSw)
              go_simp
            try simp only [List.getElem_toArray]
            try simp only [List.getElem_cons_succ]
            try simp only [List.getElem_cons_zero]
            try simp only [Act.put]
            try simp only [List.setIfInBounds_toArray]
            try simp only [List.set_cons_succ]
            try simp only [List.set_cons_zero]
            refine wpAnyH_ready (rs := [1, 7]) (by kernel_rfl) (by simp) ?_
            refine AllReadyH.cons rfl (fun K1 hK => ?_) (AllReadyH.cons rfl (fun K1 hK => ?_) AllReadyH.nil)
            · go_simp
              refine (CC.out _ (HB.out _ (kl8_bel (by assumption)))).mono ?_
              rintro r w7 ⟨a7, n7, c7, b7, m7, d7, rfl, hO7, hbC⟩
              have O7 := hid (hO7.base (kl8_bel (by assumption)).size)
              clear hO7
              go_wp2_with fail
              refine hK.out _ _ ?_ (fun hHeld => ?_)
              · exact kl8c hbC (by assumption)
              clear hK K1
              try simp only [List.getElem_toArray]
              try simp only [List.getElem_cons_succ]
              try simp only [List.getElem_cons_zero]
              try simp only [Act.put]
              try simp only [List.setIfInBounds_toArray]
              try simp only [List.set_cons_succ]
              try simp only [List.set_cons_zero]
              refine wpAnyH_ready (rs := [3, 7]) (by kernel_rfl) (by simp) ?_
              refine AllReadyH.cons rfl (fun K1 hK => ?_) (AllReadyH.cons rfl (fun K1 hK => ?_) AllReadyH.nil)
              · go_simp
                refine (CW.out _ _ _ _ _ _ _ _ O7.out (kl8_bel (by assumption)).size).mono ?_
                rintro r w9 ⟨a9, n9, c9, b9, m9, d9, rfl, hO9, ho9, hn9⟩
                have O9 := hid hO9
                have s9 := kl8o ho9 (fun y hy => (O7.out.lt hy).1) (by assumption)
                clear hO9 ho9 hn9 O7
                go_wp2_with fail
                refine hK.out _ _ ?_ (fun hHeld => ?_)
                · exact s9
                clear hK K1
                try simp only [List.getElem_toArray]
                try simp only [List.getElem_cons_succ]
                try simp only [List.getElem_cons_zero]
                try simp only [Act.put]
                try simp only [List.setIfInBounds_toArray]
                try simp only [List.set_cons_succ]
                try simp only [List.set_cons_zero]
                clear s9
                refine wpAnyH_take (i := 4) (v := (.tuple #[.agg #[.slice a9 n9 c9, .slice b9 m9 d9], .bool (!z)])) rfl (by kernel_rfl) (by kernel_rfl) (by kernel_rfl) (fun _ _ _ h => h) (Or.inl ⟨by rfl, ?_⟩) (by assumption) ?_
                · intro w hSw
                  (try dsimp only at hSw)
                  go_simp
                try simp only [List.getElem_toArray]
                try simp only [List.getElem_cons_succ]
                try simp only [List.getElem_cons_zero]
                try simp only [Act.put]
                try simp only [List.setIfInBounds_toArray]
                try simp only [List.set_cons_succ]
                try simp only [List.set_cons_zero]
                refine wpAnyH_take (i := 5) (v := (.agg #[.slice a9 n9 c9, .slice b9 m9 d9])) rfl (by kernel_rfl) (by kernel_rfl) (by kernel_rfl) (fun _ _ _ h => h) (Or.inl ⟨by rfl, ?_⟩) (by assumption) ?_
                · intro w hSw
                  (try dsimp only at hSw)
                  go_simp
                try simp only [List.getElem_toArray]
                try simp only [List.getElem_cons_succ]
                try simp only [List.getElem_cons_zero]
                try simp only [Act.put]
                try simp only [List.setIfInBounds_toArray]
                try simp only [List.set_cons_succ]
                try simp only [List.set_cons_zero]
                refine wpAnyH_take (i := 6) (v := (.bool (!z))) rfl (by kernel_rfl) (by kernel_rfl) (by kernel_rfl) (fun _ _ _ h => h) (Or.inl ⟨by rfl, ?_⟩) (by assumption) ?_
                · intro w hSw
                  (try dsimp only at hSw)
                  go_simp
                try simp only [List.getElem_toArray]
                try simp only [List.getElem_cons_succ]
                try simp only [List.getElem_cons_zero]
                try simp only [Act.put]
                try simp only [List.setIfInBounds_toArray]
                try simp only [List.set_cons_succ]
                try simp only [List.set_cons_zero]
                refine wpAnyH_ready (rs := [7]) (by kernel_rfl) (by simp) ?_
                refine AllReadyH.cons rfl (fun K1 hK => ?_) AllReadyH.nil
                go_simp
                try go_wp2_with fail
                have hbC := below_new (o := .cells #[.slice none 0 0, .slice none 0 0] 25) (w := w9) (Below.refl _ _)
                have E6 := hid (Bk.new (w9) 25 [.slice none 0 0, .slice none 0 0])
                have Z6 : Hid (w4.heap.size ≤ (w9).heap.size) := (kl8_bel (by assumption)).size
                have F9 : Hid (∀ y, lbl (.slice a9 n9 c9) (.slice b9 m9 d9) y → y ≠ w9.heap.size) := fun y hy => by have h1 := (O9.out.lt hy).2; omega
                have O10 := hid (O9.out.below hbC)
                clear O9
                refine hK.out _ _ ?_ (fun hHeld => ?_)
                · exact kl8c hbC (by assumption)
                clear hK K1
                try simp only [List.getElem_toArray]
                try simp only [List.getElem_cons_succ]
                try simp only [List.getElem_cons_zero]
                try simp only [Act.put]
                try simp only [List.setIfInBounds_toArray]
                try simp only [List.set_cons_succ]
                try simp only [List.set_cons_zero]
                clear hbC
                generalize (w9).alloc (.cells #[.slice none 0 0, .slice none 0 0] 25) = v10 at *
                generalize (w9).heap.size = gb at *
                have E9 := E6
                have O9 := O10
                clear E6 O10
                have z0 := E9.out.cell (j := 0) rfl
                have z1 := E9.out.cell (j := 1) rfl
                have e0 := E9.out.free 0
                have e1 := E9.out.free 1
                have AF : Hid (AB w4 ((v10.setCell ⟨gb, 0, none⟩ (.slice a9 n9 c9)).setCell ⟨gb, 1, none⟩ (.slice b9 m9 d9)) gb (.slice a9 n9 c9) (.slice b9 m9 d9) (putL hl wl ((c, e, n), (lo, hi), ex)).1 (putL hl wl ((c, e, n), (lo, hi), ex)).2) := AB.mk' (kl8_bel (by assumption)) O9.out (Nat.le_refl _) E9.out Z6.out F9.out
                have s10 := kl8o (u := w4) (v := v10) (R := fun y => y = gb) (v' := ((v10.setCell ⟨gb, 0, none⟩ (.slice a9 n9 c9)).setCell ⟨gb, 1, none⟩ (.slice b9 m9 d9))) ((only_set (R := fun y => y = gb) (p := ⟨gb, 0, none⟩) rfl _).trans (only_set (R := fun y => y = gb) (p := ⟨gb, 1, none⟩) rfl _)) (fun y hy => by have := Z6.out; omega) (by assumption)
                refine wpAnyH_ready (rs := [8]) (by kernel_rfl) (by simp) ?_
                refine AllReadyH.cons rfl (fun K1 hK => ?_) AllReadyH.nil
                go_simp
                try go_wp2_with fail
                refine hK.out _ _ ?_ (fun hHeld => ?_)
                · exact s10
                clear hK K1
                try simp only [List.getElem_toArray]
                try simp only [List.getElem_cons_succ]
                try simp only [List.getElem_cons_zero]
                try simp only [Act.put]
                try simp only [List.setIfInBounds_toArray]
                try simp only [List.set_cons_succ]
                try simp only [List.set_cons_zero]
                clear s10 z0 z1 e0 e1
                refine wpAnyH_take (i := 9) (v := (.bool (!z))) rfl (by kernel_rfl) (by kernel_rfl) (by kernel_rfl) (fun _ _ _ h => h) (Or.inl ⟨by rfl, ?_⟩) (by assumption) ?_
                · intro w hSw
                  (try dsimp only at hSw)
                  go_simp
                try simp only [List.getElem_toArray]
                try simp only [List.getElem_cons_succ]
                try simp only [List.getElem_cons_zero]
                try simp only [Act.put]
                try simp only [List.setIfInBounds_toArray]
                try simp only [List.set_cons_succ]
                try simp only [List.set_cons_zero]
                refine wpAnyH_done (by kernel_rfl) ?_ _
                refine NoPanic.normal ?_
                go_wp2_with fail
                go_meet
                exact ⟨gb, a9, n9, c9, b9, m9, d9, by simp, by simp, AF.out⟩
              · go_simp
                try go_wp2_with fail
                have hbC := below_new (o := .cells #[.slice none 0 0, .slice none 0 0] 25) (w := w7) (Below.refl _ _)
                have E6 := hid (Bk.new (w7) 25 [.slice none 0 0, .slice none 0 0])
                have Z6 : Hid (w4.heap.size ≤ (w7).heap.size) := (kl8_bel (by assumption)).size
                have F7 : Hid (∀ y, lbl (.slice a7 n7 c7) (.slice b7 m7 d7) y → y ≠ w7.heap.size) := fun y hy => by have h1 := (O7.out.lt hy).2; omega
                have O8 := hid (O7.out.below hbC)
                clear O7
                refine hK.out _ _ ?_ (fun hHeld => ?_)
                · exact kl8c hbC (by assumption)
                clear hK K1
                try simp only [List.getElem_toArray]
                try simp only [List.getElem_cons_succ]
                try simp only [List.getElem_cons_zero]
                try simp only [Act.put]
                try simp only [List.setIfInBounds_toArray]
                try simp only [List.set_cons_succ]
                try simp only [List.set_cons_zero]
                clear hbC
                generalize (w7).alloc (.cells #[.slice none 0 0, .slice none 0 0] 25) = v8 at *
                generalize (w7).heap.size = gb at *
                have E7 := E6
                have O7 := O8
                clear E6 O8
                refine wpAnyH_ready (rs := [3]) (by kernel_rfl) (by simp) ?_
                refine AllReadyH.cons rfl (fun K1 hK => ?_) AllReadyH.nil
                go_simp
                refine (CW.out _ _ _ _ _ _ _ _ O7.out (kl8_bel (by assumption)).size).mono ?_
                rintro r w9 ⟨a9, n9, c9, b9, m9, d9, rfl, hO9, ho9, hn9⟩
                have O9 := hid hO9
                have s9 := kl8o ho9 (fun y hy => (O7.out.lt hy).1) (by assumption)
                have E9 := hid (E7.out.to ho9 (fun e => F7.out _ e rfl))
                have F9 : Hid (∀ y, lbl (.slice a9 n9 c9) (.slice b9 m9 d9) y → y ≠ gb) := fun y hy => by
                  rcases hn9 y hy with h1 | h1
                  · exact F7.out y h1
                  · have h2 := E7.out.lt; omega
                clear E7 F7
                clear hO9 ho9 hn9 O7
                go_wp2_with fail
                refine hK.out _ _ ?_ (fun hHeld => ?_)
                · exact s9
                clear hK K1
                try simp only [List.getElem_toArray]
                try simp only [List.getElem_cons_succ]
                try simp only [List.getElem_cons_zero]
                try simp only [Act.put]
                try simp only [List.setIfInBounds_toArray]
                try simp only [List.set_cons_succ]
                try simp only [List.set_cons_zero]
                clear s9
                refine wpAnyH_take (i := 4) (v := (.tuple #[.agg #[.slice a9 n9 c9, .slice b9 m9 d9], .bool (!z)])) rfl (by kernel_rfl) (by kernel_rfl) (by kernel_rfl) (fun _ _ _ h => h) (Or.inl ⟨by rfl, ?_⟩) (by assumption) ?_
                · intro w hSw
                  (try dsimp only at hSw)
                  go_simp
                try simp only [List.getElem_toArray]
                try simp only [List.getElem_cons_succ]
                try simp only [List.getElem_cons_zero]
                try simp only [Act.put]
                try simp only [List.setIfInBounds_toArray]
                try simp only [List.set_cons_succ]
                try simp only [List.set_cons_zero]
                refine wpAnyH_take (i := 5) (v := (.agg #[.slice a9 n9 c9, .slice b9 m9 d9])) rfl (by kernel_rfl) (by kernel_rfl) (by kernel_rfl) (fun _ _ _ h => h) (Or.inl ⟨by rfl, ?_⟩) (by assumption) ?_
                · intro w hSw
                  (try dsimp only at hSw)
                  go_simp
                try simp only [List.getElem_toArray]
                try simp only [List.getElem_cons_succ]
                try simp only [List.getElem_cons_zero]
                try simp only [Act.put]
                try simp only [List.setIfInBounds_toArray]
                try simp only [List.set_cons_succ]
                try simp only [List.set_cons_zero]
                refine wpAnyH_take (i := 6) (v := (.bool (!z))) rfl (by kernel_rfl) (by kernel_rfl) (by kernel_rfl) (fun _ _ _ h => h) (Or.inl ⟨by rfl, ?_⟩) (by assumption) ?_
                · intro w hSw
                  (try dsimp only at hSw)
                  go_simp
                try simp only [List.getElem_toArray]
                try simp only [List.getElem_cons_succ]
                try simp only [List.getElem_cons_zero]
                try simp only [Act.put]
                try simp only [List.setIfInBounds_toArray]
                try simp only [List.set_cons_succ]
                try simp only [List.set_cons_zero]
                have z0 := E9.out.cell (j := 0) rfl
                have z1 := E9.out.cell (j := 1) rfl
                have e0 := E9.out.free 0
                have e1 := E9.out.free 1
                have AF : Hid (AB w4 ((w9.setCell ⟨gb, 0, none⟩ (.slice a9 n9 c9)).setCell ⟨gb, 1, none⟩ (.slice b9 m9 d9)) gb (.slice a9 n9 c9) (.slice b9 m9 d9) (putL hl wl ((c, e, n), (lo, hi), ex)).1 (putL hl wl ((c, e, n), (lo, hi), ex)).2) := AB.mk' (kl8_bel (by assumption)) O9.out (Nat.le_refl _) E9.out Z6.out F9.out
                have s10 := kl8o (u := w4) (v := w9) (R := fun y => y = gb) (v' := ((w9.setCell ⟨gb, 0, none⟩ (.slice a9 n9 c9)).setCell ⟨gb, 1, none⟩ (.slice b9 m9 d9))) ((only_set (R := fun y => y = gb) (p := ⟨gb, 0, none⟩) rfl _).trans (only_set (R := fun y => y = gb) (p := ⟨gb, 1, none⟩) rfl _)) (fun y hy => by have := Z6.out; omega) (by assumption)
                refine wpAnyH_ready (rs := [8]) (by kernel_rfl) (by simp) ?_
                refine AllReadyH.cons rfl (fun K1 hK => ?_) AllReadyH.nil
                go_simp
                try go_wp2_with fail
                refine hK.out _ _ ?_ (fun hHeld => ?_)
                · exact s10
                clear hK K1
                try simp only [List.getElem_toArray]
                try simp only [List.getElem_cons_succ]
                try simp only [List.getElem_cons_zero]
                try simp only [Act.put]
                try simp only [List.setIfInBounds_toArray]
                try simp only [List.set_cons_succ]
                try simp only [List.set_cons_zero]
                clear s10 z0 z1 e0 e1
                refine wpAnyH_take (i := 9) (v := (.bool (!z))) rfl (by kernel_rfl) (by kernel_rfl) (by kernel_rfl) (fun _ _ _ h => h) (Or.inl ⟨by rfl, ?_⟩) (by assumption) ?_
                · intro w hSw
                  (try dsimp only at hSw)
                  go_simp
                try simp only [List.getElem_toArray]
                try simp only [List.getElem_cons_succ]
                try simp only [List.getElem_cons_zero]
                try simp only [Act.put]
                try simp only [List.setIfInBounds_toArray]
                try simp only [List.set_cons_succ]
                try simp only [List.set_cons_zero]
                refine wpAnyH_done (by kernel_rfl) ?_ _
                refine NoPanic.normal ?_
                go_wp2_with fail
                go_meet
                exact ⟨gb, a9, n9, c9, b9, m9, d9, by simp, by simp, AF.out⟩
            · go_simp
              try go_wp2_with fail
              have h0 := below_new (o := .cells #[.slice none 0 0, .slice none 0 0] 25) (w := w4) (below_drew _)
              have hbC : Below w4.drew.heap.size w4.drew (w4.alloc (.cells #[.slice none 0 0, .slice none 0 0] 25)).drew := ⟨h0.os, h0.tape, h0.output, h0.size, h0.block⟩
              have E6 : Hid (Bk (w4.alloc (.cells #[.slice none 0 0, .slice none 0 0] 25)).drew w4.heap.size 25 [.slice none 0 0, .slice none 0 0]) := (Bk.new w4 25 [.slice none 0 0, .slice none 0 0]).below (below_drew _)
              have Z6 : Hid (w4.heap.size ≤ w4.heap.size) := Nat.le_refl _
              refine hK.out _ _ ?_ (fun hHeld => ?_)
              · exact kl8c hbC (by assumption)
              clear hK K1
              try simp only [List.getElem_toArray]
              try simp only [List.getElem_cons_succ]
              try simp only [List.getElem_cons_zero]
              try simp only [Act.put]
              try simp only [List.setIfInBounds_toArray]
              try simp only [List.set_cons_succ]
              try simp only [List.set_cons_zero]
              clear hbC h0
              generalize (w4.alloc (.cells #[.slice none 0 0, .slice none 0 0] 25)).drew = v6 at *
              refine wpAnyH_ready (rs := [1]) (by kernel_rfl) (by simp) ?_
              refine AllReadyH.cons rfl (fun K1 hK => ?_) AllReadyH.nil
              go_simp
              refine (CC.out _ (HB.out _ (kl8_bel (by assumption)))).mono ?_
              rintro r w7 ⟨a7, n7, c7, b7, m7, d7, rfl, hO7, hbC⟩
              have O7 := hid (hO7.base (kl8_bel (by assumption)).size)
              have E7 := hid (E6.out.below hbC)
              have F7 : Hid (∀ y, lbl (.slice a7 n7 c7) (.slice b7 m7 d7) y → y ≠ w4.heap.size) := fun y hy => by have h1 := (hO7.lt hy).1; have h2 := E6.out.lt; omega
              clear E6
              clear hO7
              go_wp2_with fail
              refine hK.out _ _ ?_ (fun hHeld => ?_)
              · exact kl8c hbC (by assumption)
              clear hK K1
              try simp only [List.getElem_toArray]
              try simp only [List.getElem_cons_succ]
              try simp only [List.getElem_cons_zero]
              try simp only [Act.put]
              try simp only [List.setIfInBounds_toArray]
              try simp only [List.set_cons_succ]
              try simp only [List.set_cons_zero]
              refine wpAnyH_ready (rs := [3]) (by kernel_rfl) (by simp) ?_
              refine AllReadyH.cons rfl (fun K1 hK => ?_) AllReadyH.nil
              go_simp
              refine (CW.out _ _ _ _ _ _ _ _ O7.out (kl8_bel (by assumption)).size).mono ?_
              rintro r w9 ⟨a9, n9, c9, b9, m9, d9, rfl, hO9, ho9, hn9⟩
              have O9 := hid hO9
              have s9 := kl8o ho9 (fun y hy => (O7.out.lt hy).1) (by assumption)
              have E9 := hid (E7.out.to ho9 (fun e => F7.out _ e rfl))
              have F9 : Hid (∀ y, lbl (.slice a9 n9 c9) (.slice b9 m9 d9) y → y ≠ w4.heap.size) := fun y hy => by
                rcases hn9 y hy with h1 | h1
                · exact F7.out y h1
                · have h2 := E7.out.lt; omega
              clear E7 F7
              clear hO9 ho9 hn9 O7
              go_wp2_with fail
              refine hK.out _ _ ?_ (fun hHeld => ?_)
              · exact s9
              clear hK K1
              try simp only [List.getElem_toArray]
              try simp only [List.getElem_cons_succ]
              try simp only [List.getElem_cons_zero]
              try simp only [Act.put]
              try simp only [List.setIfInBounds_toArray]
              try simp only [List.set_cons_succ]
              try simp only [List.set_cons_zero]
              clear s9
              refine wpAnyH_take (i := 4) (v := (.tuple #[.agg #[.slice a9 n9 c9, .slice b9 m9 d9], .bool (!z)])) rfl (by kernel_rfl) (by kernel_rfl) (by kernel_rfl) (fun _ _ _ h => h) (Or.inl ⟨by rfl, ?_⟩) (by assumption) ?_
              · intro w hSw
                (try dsimp only at hSw)
                go_simp
              try simp only [List.getElem_toArray]
              try simp only [List.getElem_cons_succ]
              try simp only [List.getElem_cons_zero]
              try simp only [Act.put]
              try simp only [List.setIfInBounds_toArray]
              try simp only [List.set_cons_succ]
              try simp only [List.set_cons_zero]
              refine wpAnyH_take (i := 5) (v := (.agg #[.slice a9 n9 c9, .slice b9 m9 d9])) rfl (by kernel_rfl) (by kernel_rfl) (by kernel_rfl) (fun _ _ _ h => h) (Or.inl ⟨by rfl, ?_⟩) (by assumption) ?_
              · intro w hSw
                (try dsimp only at hSw)
                go_simp
              try simp only [List.getElem_toArray]
              try simp only [List.getElem_cons_succ]
              try simp only [List.getElem_cons_zero]
              try simp only [Act.put]
              try simp only [List.setIfInBounds_toArray]
              try simp only [List.set_cons_succ]
              try simp only [List.set_cons_zero]
              refine wpAnyH_take (i := 6) (v := (.bool (!z))) rfl (by kernel_rfl) (by kernel_rfl) (by kernel_rfl) (fun _ _ _ h => h) (Or.inl ⟨by rfl, ?_⟩) (by assumption) ?_
              · intro w hSw
                (try dsimp only at hSw)
                go_simp
              try simp only [List.getElem_toArray]
              try simp only [List.getElem_cons_succ]
              try simp only [List.getElem_cons_zero]
              try simp only [Act.put]
              try simp only [List.setIfInBounds_toArray]
              try simp only [List.set_cons_succ]
              try simp only [List.set_cons_zero]
              have z0 := E9.out.cell (j := 0) rfl
              have z1 := E9.out.cell (j := 1) rfl
              have e0 := E9.out.free 0
              have e1 := E9.out.free 1
              have AF : Hid (AB w4 ((w9.setCell ⟨w4.heap.size, 0, none⟩ (.slice a9 n9 c9)).setCell ⟨w4.heap.size, 1, none⟩ (.slice b9 m9 d9)) w4.heap.size (.slice a9 n9 c9) (.slice b9 m9 d9) (putL hl wl ((c, e, n), (lo, hi), ex)).1 (putL hl wl ((c, e, n), (lo, hi), ex)).2) := AB.mk' (kl8_bel (by assumption)) O9.out (Nat.le_refl _) E9.out Z6.out F9.out
              have s10 := kl8o (u := w4) (v := w9) (R := fun y => y = w4.heap.size) (v' := ((w9.setCell ⟨w4.heap.size, 0, none⟩ (.slice a9 n9 c9)).setCell ⟨w4.heap.size, 1, none⟩ (.slice b9 m9 d9))) ((only_set (R := fun y => y = w4.heap.size) (p := ⟨w4.heap.size, 0, none⟩) rfl _).trans (only_set (R := fun y => y = w4.heap.size) (p := ⟨w4.heap.size, 1, none⟩) rfl _)) (fun y hy => by have := Z6.out; omega) (by assumption)
              refine wpAnyH_ready (rs := [8]) (by kernel_rfl) (by simp) ?_
              refine AllReadyH.cons rfl (fun K1 hK => ?_) AllReadyH.nil
              go_simp
              try go_wp2_with fail
              refine hK.out _ _ ?_ (fun hHeld => ?_)
              · exact s10
              clear hK K1
              try simp only [List.getElem_toArray]
              try simp only [List.getElem_cons_succ]
              try simp only [List.getElem_cons_zero]
              try simp only [Act.put]
              try simp only [List.setIfInBounds_toArray]
              try simp only [List.set_cons_succ]
              try simp only [List.set_cons_zero]
              clear s10 z0 z1 e0 e1
              refine wpAnyH_take (i := 9) (v := (.bool (!z))) rfl (by kernel_rfl) (by kernel_rfl) (by kernel_rfl) (fun _ _ _ h => h) (Or.inl ⟨by rfl, ?_⟩) (by assumption) ?_
              · intro w hSw
                (try dsimp only at hSw)
                go_simp
              try simp only [List.getElem_toArray]
              try simp only [List.getElem_cons_succ]
              try simp only [List.getElem_cons_zero]
              try simp only [Act.put]
              try simp only [List.setIfInBounds_toArray]
              try simp only [List.set_cons_succ]
              try simp only [List.set_cons_zero]
              refine wpAnyH_done (by kernel_rfl) ?_ _
              refine NoPanic.normal ?_
              go_wp2_with fail
              go_meet
              exact ⟨w4.heap.size, a9, n9, c9, b9, m9, d9, by simp, by simp, AF.out⟩
          case rest =>
            obtain ⟨gb, a9, n9, c9, b9, m9, d9, rfl, rfl, hAB⟩ := hcut
            have A9 := hid hAB
            have I9 := hid (I4.out.below hAB.bel)
            have S9 : Hid (w.heap.size + 1 + 1 < w4.heap.size) := I4.out.lt
            clear hAB
            have g0 := A9.out.box.cell (j := 0) rfl
            have g1 := A9.out.box.cell (j := 1) rfl
            have z0 := I9.out.cell (j := 0) rfl
            have z1 := I9.out.cell (j := 1) rfl
            have e0 := I9.out.free 0
            have e1 := I9.out.free 1
            have d1 : ¬ gb = w.heap.size + 1 + 1 := by have h1 := A9.out.lo; have h2 := S9.out; omega
            have d2 : ¬ w.heap.size + 1 + 1 = gb := by have h1 := A9.out.lo; have h2 := S9.out; omega
            cases z with
            | true =>
              go_wp2
              try simp only [Exit.inBlock, Exit.then]
              refine bodyPost_ret (v := .tuple #[.agg #[.slice a9 n9 c9, .slice b9 m9 d9], .int .i64 3]) ?_ rfl ?_
              · exact results_locks2 rfl _ _ (w.heap.size + 1 + 1) rfl rfl (by go_simp) (by go_simp)
              · rw [HA.out.1, HA.out.2, HM.out]
                exact ⟨a9, n9, c9, b9, m9, d9, rfl, A9.out.fin B4.out S9.out (by omega) ((only_set (R := fun y => y = w.heap.size + 1 + 1) (p := ⟨w.heap.size + 1 + 1, 0, none⟩) rfl _).trans (only_set (R := fun y => y = w.heap.size + 1 + 1) (p := ⟨w.heap.size + 1 + 1, 1, none⟩) rfl _))⟩
            | false =>
              go_wp2
              try simp only [Exit.inBlock, Exit.then]
              refine bodyPost_ret (v := .tuple #[.agg #[.slice a9 n9 c9, .slice b9 m9 d9], .int .i64 0]) ?_ rfl ?_
              · exact results_locks2 rfl _ _ (w.heap.size + 1 + 1) rfl rfl (by go_simp) (by go_simp)
              · rw [HA.out.1, HA.out.2, HM.out]
                exact ⟨a9, n9, c9, b9, m9, d9, rfl, A9.out.fin B4.out S9.out (by omega) ((only_set (R := fun y => y = w.heap.size + 1 + 1) (p := ⟨w.heap.size + 1 + 1, 0, none⟩) rfl _).trans (only_set (R := fun y => y = w.heap.size + 1 + 1) (p := ⟨w.heap.size + 1 + 1, 1, none⟩) rfl _))⟩
end Go.Proofs.Ytbaggkfgnjenoaa

