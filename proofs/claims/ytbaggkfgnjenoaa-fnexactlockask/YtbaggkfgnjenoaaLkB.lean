/-
  Locks on both sides: when one is right, when two clash, whether one of a row clashes, whether a transaction has one in a row.
-/
import Derived.Test.YtbaggkfgnjenoaaLkA
import Derived.Test.YtbaggkfgnjenoaaRngBA
namespace Go.Proofs.Ytbaggkfgnjenoaa
open Go.RowKit
set_option linter.unusedVariables false
theorem results_claim {fn : Func} {p : Tmp} (h : fn.results = #[.cell p 102]) (tmps : Array Value) (w : World) (g : Nat) {c e n : Int} {lo hi : ByteArray} {ex : Bool} (hp : tmps.getD p undef = .pointer (some ⟨g, 0, none⟩))
    (c0 : w.cell? ⟨g, 0, none⟩ = some (.string lo)) (c1 : w.cell? ⟨g, 1, none⟩ = some (.string hi)) (c2 : w.cell? ⟨g, 2, none⟩ = some (.int .i64 c)) (c3 : w.cell? ⟨g, 3, none⟩ = some (.int .i64 e)) (c4 : w.cell? ⟨g, 4, none⟩ = some (.int .i64 n)) (c5 : w.cell? ⟨g, 5, none⟩ = some (.bool ex)) : (results fn tmps).run Try.prog w = .ok (.agg #[.string lo, .string hi, .int .i64 c, .int .i64 e, .int .i64 n, .bool ex]) w := by
  have hp' : tmps[p]?.getD undef = .pointer (some ⟨g, 0, none⟩) := by simpa using hp
  have hl : (loadVar 102 ⟨g, 0, none⟩).run Try.prog w = .ok (.agg #[.string lo, .string hi, .int .i64 c, .int .i64 e, .int .i64 n, .bool ex]) w := by go_simp
  simp [results, h, hp', asAddr, hl]
theorem clash_def (c e n : Int) (lo hi : ByteArray) (ex : Bool) (c' e' n' : Int) (lo' hi' : ByteArray) (ex' : Bool) : clash ((c, e, n), (lo, hi), ex) ((c', e', n'), (lo', hi'), ex') = (!decide ((c, e, n) = (c', e', n')) && ((ex || ex') && bth lo hi lo' hi')) := rfl
theorem lkOk_def (c e n : Int) (lo hi : ByteArray) (ex : Bool) : lkOk ((c, e, n), (lo, hi), ex) = (txOk (c, e, n) && rOk lo hi) := rfl
set_option maxHeartbeats 1600000 in
theorem implLockOk_any (c e n : Int) (lo hi : ByteArray) (ex : Bool) (w : World) : Calls Try.prog 48 #[.agg #[.int .i64 c, .int .i64 e, .int .i64 n, .string lo, .string hi, .bool ex]] w fun r w' => r = .returned (.bool (lkOk ((c, e, n), (lo, hi), ex))) ∧ Below w.heap.size w w' := by
  have HV := hid (lkOk_def c e n lo hi ex)
  have C1 := hid (fun w => implTxOk_any c e n w)
  have C2 : Hid (∀ w, Calls Try.prog 77 #[.agg #[.string lo, .string hi]] w fun r w' => r = .returned (.bool (rOk lo hi)) ∧ Below w.heap.size w w') := fun w => implRangeOk_any lo hi w
  generalize txOk (c, e, n) = z1 at *
  generalize rOk lo hi = z2 at *
  have B0 := hid (below_new (o := .cells #[.int .i64 c, .int .i64 e, .int .i64 n, .string lo, .string hi, .bool ex] 31) (w := w) (Below.refl _ _))
  have K0 := hid (Bk.new w 31 [.int .i64 c, .int .i64 e, .int .i64 n, .string lo, .string hi, .bool ex])
  cases z1 with
  | false =>
    go_enter Try.func48, Try.ntmps48
    go_wp2_with fail
    refine (C1.out _).mono ?_
    generalize w.alloc (.cells #[.int .i64 c, .int .i64 e, .int .i64 n, .string lo, .string hi, .bool ex] 31) = U at *
    rintro r w1 ⟨rfl, hb⟩
    have K1 := hid (K0.out.below hb)
    have B1 := hid (B0.out.trans (hb.mono B0.out.size))
    clear K0 B0 hb
    have x0 := K1.out.cell (j := 0) rfl
    have x1 := K1.out.cell (j := 1) rfl
    have x2 := K1.out.cell (j := 2) rfl
    have x3 := K1.out.cell (j := 3) rfl
    have x4 := K1.out.cell (j := 4) rfl
    have x5 := K1.out.cell (j := 5) rfl
    go_wp2
    go_ret
    exact ⟨by rw [HV.out]; rfl, B1.out⟩
  | true =>
    go_enter Try.func48, Try.ntmps48
    go_wp2_with fail
    refine (C1.out _).mono ?_
    generalize w.alloc (.cells #[.int .i64 c, .int .i64 e, .int .i64 n, .string lo, .string hi, .bool ex] 31) = U at *
    rintro r w1 ⟨rfl, hb⟩
    have K1 := hid (K0.out.below hb)
    have B1 := hid (B0.out.trans (hb.mono B0.out.size))
    clear K0 B0 hb
    have x0 := K1.out.cell (j := 0) rfl
    have x1 := K1.out.cell (j := 1) rfl
    have x2 := K1.out.cell (j := 2) rfl
    have x3 := K1.out.cell (j := 3) rfl
    have x4 := K1.out.cell (j := 4) rfl
    have x5 := K1.out.cell (j := 5) rfl
    go_wp2_with fail
    refine (C2.out _).mono ?_
    rintro r w2 ⟨rfl, hb⟩
    have K2 := hid (K1.out.below hb)
    have B2 := hid (B1.out.trans (hb.mono B1.out.size))
    clear K1 B1 hb x0 x1 x2 x3 x4 x5
    go_wp2
    go_ret
    exact ⟨by rw [HV.out]; rfl, B2.out⟩
set_option maxHeartbeats 1600000 in
theorem specLockOk_any (c e n : Int) (lo hi : ByteArray) (ex : Bool) (w : World) : Calls Try.prog 54 #[.agg #[.int .i64 c, .int .i64 e, .int .i64 n, .string lo, .string hi, .bool ex]] w fun r w' => r = .returned (.bool (lkOk ((c, e, n), (lo, hi), ex))) ∧ Below w.heap.size w w' := by
  have HV := hid (lkOk_def c e n lo hi ex)
  have C1 := hid (fun w => specTxOk_any c e n w)
  have C2 : Hid (∀ w, Calls Try.prog 94 #[.agg #[.string lo, .string hi]] w fun r w' => r = .returned (.bool (rOk lo hi)) ∧ Below w.heap.size w w') := fun w => specRangeOk_any lo hi w
  generalize txOk (c, e, n) = z1 at *
  generalize rOk lo hi = z2 at *
  have B0 := hid (below_new (o := .cells #[.int .i64 c, .int .i64 e, .int .i64 n, .string lo, .string hi, .bool ex] 31) (w := w) (Below.refl _ _))
  have K0 := hid (Bk.new w 31 [.int .i64 c, .int .i64 e, .int .i64 n, .string lo, .string hi, .bool ex])
  cases z1 with
  | false =>
    go_enter Try.func54, Try.ntmps54
    go_wp2_with fail
    refine (C1.out _).mono ?_
    generalize w.alloc (.cells #[.int .i64 c, .int .i64 e, .int .i64 n, .string lo, .string hi, .bool ex] 31) = U at *
    rintro r w1 ⟨rfl, hb⟩
    have K1 := hid (K0.out.below hb)
    have B1 := hid (B0.out.trans (hb.mono B0.out.size))
    clear K0 B0 hb
    have x0 := K1.out.cell (j := 0) rfl
    have x1 := K1.out.cell (j := 1) rfl
    have x2 := K1.out.cell (j := 2) rfl
    have x3 := K1.out.cell (j := 3) rfl
    have x4 := K1.out.cell (j := 4) rfl
    have x5 := K1.out.cell (j := 5) rfl
    go_wp2
    go_ret
    exact ⟨by rw [HV.out]; rfl, B1.out⟩
  | true =>
    go_enter Try.func54, Try.ntmps54
    go_wp2_with fail
    refine (C1.out _).mono ?_
    generalize w.alloc (.cells #[.int .i64 c, .int .i64 e, .int .i64 n, .string lo, .string hi, .bool ex] 31) = U at *
    rintro r w1 ⟨rfl, hb⟩
    have K1 := hid (K0.out.below hb)
    have B1 := hid (B0.out.trans (hb.mono B0.out.size))
    clear K0 B0 hb
    have x0 := K1.out.cell (j := 0) rfl
    have x1 := K1.out.cell (j := 1) rfl
    have x2 := K1.out.cell (j := 2) rfl
    have x3 := K1.out.cell (j := 3) rfl
    have x4 := K1.out.cell (j := 4) rfl
    have x5 := K1.out.cell (j := 5) rfl
    go_wp2_with fail
    refine (C2.out _).mono ?_
    rintro r w2 ⟨rfl, hb⟩
    have K2 := hid (K1.out.below hb)
    have B2 := hid (B1.out.trans (hb.mono B1.out.size))
    clear K1 B1 hb x0 x1 x2 x3 x4 x5
    go_wp2
    go_ret
    exact ⟨by rw [HV.out]; rfl, B2.out⟩
set_option maxHeartbeats 1600000 in
theorem claimOf_any (c e n : Int) (lo hi : ByteArray) (ex : Bool) (w : World) : Calls Try.prog 63 #[.agg #[.int .i64 c, .int .i64 e, .int .i64 n, .string lo, .string hi, .bool ex]] w fun r w' => r = .returned (.agg #[.string lo, .string hi, .int .i64 c, .int .i64 e, .int .i64 n, .bool ex]) ∧ Below w.heap.size w w' := by
  go_enter Try.func63, Try.ntmps63
  go_wp2
  try simp only [Exit.inBlock, Exit.then]
  refine bodyPost_ret (v := .agg #[.string lo, .string hi, .int .i64 c, .int .i64 e, .int .i64 n, .bool ex]) ?_ rfl ?_
  · exact results_claim rfl _ _ _ rfl (by go_simp) (by go_simp) (by go_simp) (by go_simp) (by go_simp) (by go_simp)
  · exact ⟨rfl, below_new (below_new (Below.refl _ _))⟩
set_option maxHeartbeats 1600000 in
theorem meets_any (lo hi lo' hi' : ByteArray) (w : World) : Calls Try.prog 144 #[.agg #[.string lo, .string hi], .agg #[.string lo', .string hi']] w fun r w' => r = .returned (.bool (bth lo hi lo' hi')) ∧ Below w.heap.size w w' := by
  have C1 : Hid (∀ w, Calls Try.prog 156 #[.agg #[.string lo, .string hi], .agg #[.string lo', .string hi']] w fun e w' => e = .returned (.tuple #[.agg #[.string (bLo lo hi lo' hi'), .string (bHi lo hi lo' hi')], .bool (bth lo hi lo' hi')]) ∧ Below w.heap.size w w') := fun w => implRangeBoth_x lo hi lo' hi' w
  generalize bLo lo hi lo' hi' = z1 at *
  generalize bHi lo hi lo' hi' = z2 at *
  generalize bth lo hi lo' hi' = z3 at *
  go_enter Try.func144, Try.ntmps144
  go_wp2_with fail
  refine (C1.out _).mono ?_
  rintro r w1 ⟨rfl, hb⟩
  have B1 := hid (below_new (below_new hb))
  clear hb
  go_wp2
  go_ret
  exact ⟨rfl, B1.out.alloc B1.out.size _⟩
set_option maxHeartbeats 3200000 in
theorem clashes_any (c e n : Int) (lo hi : ByteArray) (ex : Bool) (c' e' n' : Int) (lo' hi' : ByteArray) (ex' : Bool) (w : World) : Calls Try.prog 121 #[.agg #[.string lo, .string hi, .int .i64 c, .int .i64 e, .int .i64 n, .bool ex], .agg #[.string lo', .string hi', .int .i64 c', .int .i64 e', .int .i64 n', .bool ex']] w fun r w' => r = .returned (.bool (clash ((c, e, n), (lo, hi), ex) ((c', e', n'), (lo', hi'), ex'))) ∧ Below w.heap.size w w' := by
  have HV := hid (clash_def c e n lo hi ex c' e' n' lo' hi' ex')
  have C1 := hid (fun w => meets_any lo hi lo' hi' w)
  have hq := neq_tx c e n c' e' n'
  have hg := guard_tx .neq
  generalize bth lo hi lo' hi' = z3 at *
  generalize decide ((c, e, n) = (c', e', n')) = z1 at *
  have B0 := hid (below_new (o := .cells #[.string lo, .string hi, .int .i64 c, .int .i64 e, .int .i64 n, .bool ex] 102) (w := w) (below_new (o := .cells #[.string lo', .string hi', .int .i64 c', .int .i64 e', .int .i64 n', .bool ex'] 102) (w := w.alloc (.cells #[.string lo, .string hi, .int .i64 c, .int .i64 e, .int .i64 n, .bool ex] 102)) (Below.refl _ _)))
  cases z1 with
  | true =>
    go_enter Try.func121, Try.ntmps121
    go_wp2
    go_ret
    exact ⟨by rw [HV.out]; rfl, B0.out⟩
  | false =>
    cases ex with
    | true =>
      go_enter Try.func121, Try.ntmps121
      go_wp2_with fail
      refine (C1.out _).mono ?_
      rintro r w1 ⟨rfl, hb⟩
      have B1 := hid (B0.out.trans (hb.mono B0.out.size))
      clear hb
      go_wp2
      go_ret
      exact ⟨by rw [HV.out]; rfl, B1.out⟩
    | false =>
      cases ex' with
      | true =>
        go_enter Try.func121, Try.ntmps121
        go_wp2_with fail
        refine (C1.out _).mono ?_
        rintro r w1 ⟨rfl, hb⟩
        have B1 := hid (B0.out.trans (hb.mono B0.out.size))
        clear hb
        go_wp2
        go_ret
        exact ⟨by rw [HV.out]; rfl, B1.out⟩
      | false =>
        go_enter Try.func121, Try.ntmps121
        go_wp2
        go_ret
        exact ⟨by rw [HV.out]; rfl, B0.out⟩
set_option maxHeartbeats 3200000 in
theorem l07Clash_any (c e n : Int) (lo hi : ByteArray) (ex : Bool) (c' e' n' : Int) (lo' hi' : ByteArray) (ex' : Bool) (w : World) : Calls Try.prog 95 #[.agg #[.int .i64 c, .int .i64 e, .int .i64 n, .string lo, .string hi, .bool ex], .agg #[.int .i64 c', .int .i64 e', .int .i64 n', .string lo', .string hi', .bool ex']] w fun r w' => r = .returned (.bool (clash ((c, e, n), (lo, hi), ex) ((c', e', n'), (lo', hi'), ex'))) ∧ Below w.heap.size w w' := by
  have HV := hid (clash_def c e n lo hi ex c' e' n' lo' hi' ex')
  have C1 : Hid (∀ w, Calls Try.prog 119 #[.agg #[.string lo, .string hi], .agg #[.string lo', .string hi']] w fun e w' => e = .returned (.tuple #[.agg #[.string (bLo lo hi lo' hi'), .string (bHi lo hi lo' hi')], .bool (bth lo hi lo' hi')]) ∧ Below w.heap.size w w') := fun w => specRangeBoth_x lo hi lo' hi' w
  have hq := neq_tx c e n c' e' n'
  have hg := guard_tx .neq
  generalize bLo lo hi lo' hi' = z4 at *
  generalize bHi lo hi lo' hi' = z5 at *
  generalize bth lo hi lo' hi' = z3 at *
  generalize decide ((c, e, n) = (c', e', n')) = z1 at *
  have B0 := hid (below_new (o := .cells #[.int .i64 c, .int .i64 e, .int .i64 n, .string lo, .string hi, .bool ex] 31) (w := w) (below_new (o := .cells #[.int .i64 c', .int .i64 e', .int .i64 n', .string lo', .string hi', .bool ex'] 31) (w := w.alloc (.cells #[.int .i64 c, .int .i64 e, .int .i64 n, .string lo, .string hi, .bool ex] 31)) (Below.refl _ _)))
  have K0 := hid ((Bk.new w 31 [.int .i64 c, .int .i64 e, .int .i64 n, .string lo, .string hi, .bool ex]).alloc (.cells #[.int .i64 c', .int .i64 e', .int .i64 n', .string lo', .string hi', .bool ex'] 31))
  have J0 := hid (Bk.new (w.alloc (.cells #[.int .i64 c, .int .i64 e, .int .i64 n, .string lo, .string hi, .bool ex] 31)) 31 [.int .i64 c', .int .i64 e', .int .i64 n', .string lo', .string hi', .bool ex'])
  rw [show (w.alloc (.cells #[.int .i64 c, .int .i64 e, .int .i64 n, .string lo, .string hi, .bool ex] 31)).heap.size = w.heap.size + 1 by simp] at J0
  go_enter Try.func95, Try.ntmps95
  go_wp2_with fail
  refine (C1.out _).mono ?_
  generalize (w.alloc (.cells #[.int .i64 c, .int .i64 e, .int .i64 n, .string lo, .string hi, .bool ex] 31)).alloc (.cells #[.int .i64 c', .int .i64 e', .int .i64 n', .string lo', .string hi', .bool ex'] 31) = U at *
  rintro r w1 ⟨rfl, hb⟩
  have K1 := hid (K0.out.below hb)
  have J1 := hid (J0.out.below hb)
  have B1 := hid (B0.out.trans (hb.mono B0.out.size))
  clear K0 J0 B0 hb
  have x0 := K1.out.cell (j := 0) rfl
  have x1 := K1.out.cell (j := 1) rfl
  have x2 := K1.out.cell (j := 2) rfl
  have x5 := K1.out.cell (j := 5) rfl
  have y0 := J1.out.cell (j := 0) rfl
  have y1 := J1.out.cell (j := 1) rfl
  have y2 := J1.out.cell (j := 2) rfl
  have y5 := J1.out.cell (j := 5) rfl
  have B2 : Hid (Below w.heap.size w (w1.alloc (.cells #[.string z4, .string z5] 29))) := B1.out.trans (below_new (Below.refl _ _) |>.mono B1.out.size)
  have k0 := K1.out.lt
  have j0 := J1.out.lt
  cases z1 with
  | true =>
    go_wp2
    go_ret
    exact ⟨by rw [HV.out]; rfl, B2.out⟩
  | false =>
    cases z3 with
    | false =>
      go_wp2
      go_ret
      exact ⟨by rw [HV.out]; cases ex <;> cases ex' <;> rfl, B2.out⟩
    | true =>
      cases ex with
      | true =>
        go_wp2
        go_ret
        exact ⟨by rw [HV.out]; rfl, B2.out⟩
      | false =>
        go_wp2
        go_ret
        exact ⟨by rw [HV.out]; cases ex' <;> rfl, B2.out⟩
end Go.Proofs.Ytbaggkfgnjenoaa

