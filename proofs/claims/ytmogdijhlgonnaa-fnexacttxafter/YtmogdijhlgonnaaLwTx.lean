/-
  The laws FnExactTxOk and FnExactTxAfter answer true at every name.
-/
import Derived.Test.YtmogdijhlgonnaaLkA
import Derived.Test.YtmogdijhlgonnaaKc
namespace Go.Proofs.Ytmogdijhlgonnaa
open Go.RowKit
set_option linter.unusedVariables false
theorem btX {u v w : World} (h : Below u.heap.size u v) (k : Below v.heap.size v w) : Below u.heap.size u w := h.trans (k.mono h.size)
set_option maxHeartbeats 1600000 in
theorem lawTxOk_walk (c e n : Int) (w : World) : Calls Try.prog 5 #[.agg #[.int .i64 c, .int .i64 e, .int .i64 n]] w fun r w' => r = .returned (.bool true) ∧ Below w.heap.size w w' := by
  have H1 := hid (fun w => specTxOk_any c e n w)
  have H2 := hid (fun w => implTxOk_any c e n w)
  generalize txOk (c, e, n) = z at *
  have hz : (z != z) = false := by simp
  have B0 := hid (below_new (o := .cells #[.int .i64 c, .int .i64 e, .int .i64 n] 43) (w := w) (Below.refl _ _))
  have K0 := hid (Bk.new w 43 [.int .i64 c, .int .i64 e, .int .i64 n])
  go_enter Try.func5, Try.ntmps5
  go_wp2_with fail
  refine (toTx_any c e n _).mono ?_
  generalize w.alloc (.cells #[.int .i64 c, .int .i64 e, .int .i64 n] 43) = U at *
  rintro r w1 ⟨rfl, hb⟩
  have B1 := hid (btX B0.out hb)
  have K1 := hid (K0.out.below hb)
  clear hb B0 K0
  go_wp2_with fail
  refine (H1.out _).mono ?_
  rintro r w2 ⟨rfl, hb⟩
  have B2 := hid (btX B1.out hb)
  have K2 := hid (K1.out.below hb)
  have x0 := K2.out.cell (j := 0) rfl
  have x1 := K2.out.cell (j := 1) rfl
  have x2 := K2.out.cell (j := 2) rfl
  clear hb B1 K1
  go_wp2_with fail
  refine (toTx_any c e n _).mono ?_
  rintro r w3 ⟨rfl, hb⟩
  have B3 := hid (btX B2.out hb)
  clear hb B2 K2 x0 x1 x2
  go_wp2_with fail
  refine (H2.out _).mono ?_
  rintro r w4 ⟨rfl, hb⟩
  have B4 := hid (btX B3.out hb)
  clear hb B3
  go_wp2
  go_ret
  exact ⟨rfl, B4.out⟩
set_option maxHeartbeats 1600000 in
theorem lawTxAfter_walk (c e n c' e' n' : Int) (w : World) : Calls Try.prog 6 #[.agg #[.int .i64 c, .int .i64 e, .int .i64 n], .agg #[.int .i64 c', .int .i64 e', .int .i64 n']] w fun r w' => r = .returned (.bool true) ∧ Below w.heap.size w w' := by
  have H1 := hid (fun w => specTxAfter_any c e n c' e' n' w)
  have H2 := hid (fun w => implTxAfter_any c e n c' e' n' w)
  generalize txAfter (c, e, n) (c', e', n') = z at *
  have hz : (z != z) = false := by simp
  have B0 := hid (below_new (o := .cells #[.int .i64 c, .int .i64 e, .int .i64 n] 43) (w := w) (below_new (o := .cells #[.int .i64 c', .int .i64 e', .int .i64 n'] 43) (w := w.alloc (.cells #[.int .i64 c, .int .i64 e, .int .i64 n] 43)) (Below.refl _ _)))
  have K0 := hid ((Bk.new w 43 [.int .i64 c, .int .i64 e, .int .i64 n]).alloc (.cells #[.int .i64 c', .int .i64 e', .int .i64 n'] 43))
  have J0 := hid (Bk.new (w.alloc (.cells #[.int .i64 c, .int .i64 e, .int .i64 n] 43)) 43 [.int .i64 c', .int .i64 e', .int .i64 n'])
  rw [show (w.alloc (.cells #[.int .i64 c, .int .i64 e, .int .i64 n] 43)).heap.size = w.heap.size + 1 by simp] at J0
  generalize hU : (w.alloc (.cells #[.int .i64 c, .int .i64 e, .int .i64 n] 43)).alloc (.cells #[.int .i64 c', .int .i64 e', .int .i64 n'] 43) = U at *
  have HU := hid hU
  clear hU
  have T0 := hid (kc0_6 (K0.out.cell (j := 0) rfl) (K0.out.cell (j := 1) rfl) (K0.out.cell (j := 2) rfl) (J0.out.cell (j := 0) rfl) (J0.out.cell (j := 1) rfl) (J0.out.cell (j := 2) rfl))
  go_enter Try.func6, Try.ntmps6
  go_wp2_with fail
  rw [HU.out]
  go_region_held3 (fun v => (v.cell? ⟨w.heap.size, 0, none⟩ = some (.int .i64 c) ∧ v.cell? ⟨w.heap.size, 1, none⟩ = some (.int .i64 e) ∧ v.cell? ⟨w.heap.size, 2, none⟩ = some (.int .i64 n) ∧ v.cell? ⟨w.heap.size + 1, 0, none⟩ = some (.int .i64 c') ∧ v.cell? ⟨w.heap.size + 1, 1, none⟩ = some (.int .i64 e') ∧ v.cell? ⟨w.heap.size + 1, 2, none⟩ = some (.int .i64 n') ∧ KC U v [(⟨w.heap.size, 0, none⟩, .int .i64 c), (⟨w.heap.size, 1, none⟩, .int .i64 e), (⟨w.heap.size, 2, none⟩, .int .i64 n), (⟨w.heap.size + 1, 0, none⟩, .int .i64 c'), (⟨w.heap.size + 1, 1, none⟩, .int .i64 e'), (⟨w.heap.size + 1, 2, none⟩, .int .i64 n')]))
    (first | assumption | exact kc6 (T0.out.call (below_drew _)) | exact kc6c hbC (by assumption))
    (first
      | (go_at_call_of 17 (Value.agg #[Value.int IntKind.i64 c, Value.int IntKind.i64 e, Value.int IntKind.i64 n]); refine (toTx_any c e n _).mono ?_; rintro r w' ⟨rfl, hbC⟩)
      | (go_at_call_of 17 (Value.agg #[Value.int IntKind.i64 c', Value.int IntKind.i64 e', Value.int IntKind.i64 n']); refine (toTx_any c' e' n' _).mono ?_; rintro r w' ⟨rfl, hbC⟩)
      | (go_at_call 19; refine (H1.out _).mono ?_; rintro r w' ⟨rfl, hbC⟩))
  rename_i v3 hS
  have T1 := hid hS.2.2.2.2.2.2
  clear hS
  go_wp2_with fail
  go_region_held3 (fun v => (v.cell? ⟨w.heap.size, 0, none⟩ = some (.int .i64 c) ∧ v.cell? ⟨w.heap.size, 1, none⟩ = some (.int .i64 e) ∧ v.cell? ⟨w.heap.size, 2, none⟩ = some (.int .i64 n) ∧ v.cell? ⟨w.heap.size + 1, 0, none⟩ = some (.int .i64 c') ∧ v.cell? ⟨w.heap.size + 1, 1, none⟩ = some (.int .i64 e') ∧ v.cell? ⟨w.heap.size + 1, 2, none⟩ = some (.int .i64 n') ∧ KC U v [(⟨w.heap.size, 0, none⟩, .int .i64 c), (⟨w.heap.size, 1, none⟩, .int .i64 e), (⟨w.heap.size, 2, none⟩, .int .i64 n), (⟨w.heap.size + 1, 0, none⟩, .int .i64 c'), (⟨w.heap.size + 1, 1, none⟩, .int .i64 e'), (⟨w.heap.size + 1, 2, none⟩, .int .i64 n')]))
    (first | assumption | exact kc6 (T1.out.call (below_drew _)) | exact kc6c hbC (by assumption))
    (first
      | (go_at_call_of 17 (Value.agg #[Value.int IntKind.i64 c, Value.int IntKind.i64 e, Value.int IntKind.i64 n]); refine (toTx_any c e n _).mono ?_; rintro r w' ⟨rfl, hbC⟩)
      | (go_at_call_of 17 (Value.agg #[Value.int IntKind.i64 c', Value.int IntKind.i64 e', Value.int IntKind.i64 n']); refine (toTx_any c' e' n' _).mono ?_; rintro r w' ⟨rfl, hbC⟩)
      | (go_at_call 20; refine (H2.out _).mono ?_; rintro r w' ⟨rfl, hbC⟩))
  rename_i hS
  have B6 := hid (btX B0.out hS.2.2.2.2.2.2.bel)
  clear hS
  go_wp2
  go_ret
  exact ⟨rfl, B6.out⟩
end Go.Proofs.Ytmogdijhlgonnaa

