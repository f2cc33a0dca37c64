/-
  Names of transactions: TxOk and TxAfter of the program and of the specification; what the law's helpers do with a name.
-/
import Derived.Test.YtgnjknbgahickaaDoorLkP
import Derived.Laws.StructEq
namespace Go.Proofs.YtgnjknbgahickaaDoor
open Go.RowKit
set_option linter.unusedVariables false
theorem load_tx {w : World} {g o : Nat} {c e n : Int} (c0 : w.cell? ⟨g, o, none⟩ = some (.int .i64 c)) (c1 : w.cell? ⟨g, o + 1, none⟩ = some (.int .i64 e)) (c2 : w.cell? ⟨g, o + 2, none⟩ = some (.int .i64 n)) :
    (loadVar 34 ⟨g, o, none⟩).run Tryd.prog w = .ok (.agg #[.int .i64 c, .int .i64 e, .int .i64 n]) w := by go_simp
theorem load_tx0 {w : World} {g : Nat} {c e n : Int} (c0 : w.cell? ⟨g, 0, none⟩ = some (.int .i64 c)) (c1 : w.cell? ⟨g, 1, none⟩ = some (.int .i64 e)) (c2 : w.cell? ⟨g, 2, none⟩ = some (.int .i64 n)) :
    (loadVar 34 ⟨g, 0, none⟩).run Tryd.prog w = .ok (.agg #[.int .i64 c, .int .i64 e, .int .i64 n]) w := by go_simp
theorem results_tx {fn : Func} {p : Tmp} (h : fn.results = #[.cell p 34]) (tmps : Array Value) (w : World) (g : Nat) {c e n : Int} (hp : tmps.getD p undef = .pointer (some ⟨g, 0, none⟩))
    (c0 : w.cell? ⟨g, 0, none⟩ = some (.int .i64 c)) (c1 : w.cell? ⟨g, 1, none⟩ = some (.int .i64 e)) (c2 : w.cell? ⟨g, 2, none⟩ = some (.int .i64 n)) : (results fn tmps).run Tryd.prog w = .ok (.agg #[.int .i64 c, .int .i64 e, .int .i64 n]) w := by
  have hp' : tmps[p]?.getD undef = .pointer (some ⟨g, 0, none⟩) := by simpa using hp
  simp [results, h, hp', asAddr, load_tx0 c0 c1 c2]
theorem eqIn_tx (c e n c' e' n' : Int) (w : World) : (Op.equalIn 10000 34 (.agg #[.int .i64 c, .int .i64 e, .int .i64 n]) (.agg #[.int .i64 c', .int .i64 e', .int .i64 n'])).run Tryd.prog w = .ok (decide ((c, e, n) = (c', e', n'))) w := by
  rw [run_equalIn_struct w 9999 34 _ _ (by kernel_rfl) (by kernel_rfl)]
  obtain ⟨f0, f1, f2, hu, n0, n1, n2, t0, t1, t2, o0, o1, o2⟩ : ∃ f0 f1 f2 : Field, Tryd.prog.underlying 34 = some (.struct #[f0, f1, f2]) ∧ f0.name = "C" ∧ f1.name = "E" ∧ f2.name = "N" ∧ f0.type = 3 ∧ f1.type = 3 ∧ f2.type = 3 ∧ f0.offset = 0 ∧ f1.offset = 1 ∧ f2.offset = 2 := ⟨_, _, _, Tryd.underlying34, rfl, rfl, rfl, rfl, rfl, rfl, rfl, rfl, rfl⟩
  have hl : (Tryd.prog.fieldsOf 34).toList = [f0, f1, f2] := by simp [Program.fieldsOf, hu]
  rw [hl]
  have p0 : ∀ (x y z : Value) (w : World), (Go.part 3 #[x, y, z] 0).run Tryd.prog w = .ok x w := fun x y z w => by kernel_rfl
  have p1 : ∀ (x y z : Value) (w : World), (Go.part 3 #[x, y, z] 1).run Tryd.prog w = .ok y w := fun x y z w => by kernel_rfl
  have p2 : ∀ (x y z : Value) (w : World), (Go.part 3 #[x, y, z] 2).run Tryd.prog w = .ok z w := fun x y z w => by kernel_rfl
  have hi : ∀ (a b : Int) (w : World), (Op.equalIn 9999 3 (.int .i64 a) (.int .i64 b)).run Tryd.prog w = .ok (a == b) w := fun a b w => run_equalIn_int w 9998 3 .i64 .i64 a b (by kernel_rfl)
  have q0 : ("C" : String) ≠ "_" := by decide
  have q1 : ("E" : String) ≠ "_" := by decide
  have q2 : ("N" : String) ≠ "_" := by decide
  simp only [Op.eqFields, n0, n1, n2, t0, t1, t2, o0, o1, o2, if_pos q0, if_pos q1, if_pos q2, Sem.run_bind, p0, p1, p2, hi, Result.andThen_ok, Sem.run_ite, Sem.run_pure]
  by_cases h0 : c = c'
  · by_cases h1 : e = e'
    · by_cases h2 : n = n'
      · simp [h0, h1, h2]
      · simp [h0, h1, h2]
    · simp [h0, h1]
  · simp [h0]
theorem eql_tx (c e n c' e' n' : Int) (w : World) : (binOp .eql 34 (.agg #[.int .i64 c, .int .i64 e, .int .i64 n]) (.agg #[.int .i64 c', .int .i64 e', .int .i64 n'])).run Tryd.prog w = .ok (.bool (decide ((c, e, n) = (c', e', n')))) w := by
  rw [run_eql_struct, eqIn_tx]; rfl
theorem neq_tx (c e n c' e' n' : Int) (w : World) : (binOp .neq 34 (.agg #[.int .i64 c, .int .i64 e, .int .i64 n]) (.agg #[.int .i64 c', .int .i64 e', .int .i64 n'])).run Tryd.prog w = .ok (.bool (!decide ((c, e, n) = (c', e', n')))) w := by
  rw [run_neq_struct, eqIn_tx]; rfl
theorem guard_tx (op : BinOp) (x y : Operand) (xs ys : Array Value) (w : World) : (eqGuard op 34 x y (.agg xs) (.agg ys)).run Tryd.prog w = .ok () w := run_eqGuard_agg w op 34 x y xs ys (by kernel_rfl)

set_option maxHeartbeats 1600000 in
theorem implTxOk_any (c e n : Int) (w : World) : Calls Tryd.prog 25 #[.agg #[.int .i64 c, .int .i64 e, .int .i64 n]] w fun r w' => r = .returned (.bool (txOk (c, e, n))) ∧ Below w.heap.size w w' := by
  have HB := hid (below_new (o := .cells #[.int .i64 c, .int .i64 e, .int .i64 n] 34) (w := w) (Below.refl _ _))
  by_cases h0 : 0 ≤ c
  · skip
    by_cases h1 : c ≤ 7
    · skip
      by_cases h2 : 1 ≤ e
      · skip
        by_cases h3 : e ≤ 999
        · skip
          by_cases h4 : 1 ≤ n
          · skip
            by_cases h5 : n ≤ 999
            · skip
              have HE : Hid (txOk (c, e, n) = true) := (txOk_iff (c, e, n)).2 ⟨h0, h1, h2, h3, h4, h5⟩
              go_enter Tryd.func25, Tryd.ntmps25
              go_wp2
              go_ret
              exact ⟨by rw [HE.out]; rfl, HB.out⟩
            · have HE : Hid (txOk (c, e, n) = false) := by show _ = false; rw [Bool.eq_false_iff]; intro h; exact h5 ((txOk_iff (c, e, n)).1 h).2.2.2.2.2
              have g5 : 999 < n := by omega
              go_enter Tryd.func25, Tryd.ntmps25
              go_wp2
              go_ret
              exact ⟨by rw [HE.out]; rfl, HB.out⟩
          · have HE : Hid (txOk (c, e, n) = false) := by show _ = false; rw [Bool.eq_false_iff]; intro h; exact h4 ((txOk_iff (c, e, n)).1 h).2.2.2.2.1
            have g4 : n < 1 := by omega
            go_enter Tryd.func25, Tryd.ntmps25
            go_wp2
            go_ret
            exact ⟨by rw [HE.out]; rfl, HB.out⟩
        · have HE : Hid (txOk (c, e, n) = false) := by show _ = false; rw [Bool.eq_false_iff]; intro h; exact h3 ((txOk_iff (c, e, n)).1 h).2.2.2.1
          have g3 : 999 < e := by omega
          go_enter Tryd.func25, Tryd.ntmps25
          go_wp2
          go_ret
          exact ⟨by rw [HE.out]; rfl, HB.out⟩
      · have HE : Hid (txOk (c, e, n) = false) := by show _ = false; rw [Bool.eq_false_iff]; intro h; exact h2 ((txOk_iff (c, e, n)).1 h).2.2.1
        have g2 : e < 1 := by omega
        go_enter Tryd.func25, Tryd.ntmps25
        go_wp2
        go_ret
        exact ⟨by rw [HE.out]; rfl, HB.out⟩
    · have HE : Hid (txOk (c, e, n) = false) := by show _ = false; rw [Bool.eq_false_iff]; intro h; exact h1 ((txOk_iff (c, e, n)).1 h).2.1
      have g1 : 7 < c := by omega
      go_enter Tryd.func25, Tryd.ntmps25
      go_wp2
      go_ret
      exact ⟨by rw [HE.out]; rfl, HB.out⟩
  · have HE : Hid (txOk (c, e, n) = false) := by show _ = false; rw [Bool.eq_false_iff]; intro h; exact h0 ((txOk_iff (c, e, n)).1 h).1
    have g0 : c < 0 := by omega
    go_enter Tryd.func25, Tryd.ntmps25
    go_wp2
    go_ret
    exact ⟨by rw [HE.out]; rfl, HB.out⟩
set_option maxHeartbeats 1600000 in
theorem specTxOk_any (c e n : Int) (w : World) : Calls Tryd.prog 11 #[.agg #[.int .i64 c, .int .i64 e, .int .i64 n]] w fun r w' => r = .returned (.bool (txOk (c, e, n))) ∧ Below w.heap.size w w' := by
  have HB := hid (below_new (o := .cells #[.int .i64 c, .int .i64 e, .int .i64 n] 34) (w := w) (Below.refl _ _))
  by_cases h0 : 0 ≤ c
  · skip
    by_cases h1 : c ≤ 7
    · skip
      by_cases h2 : 1 ≤ e
      · skip
        by_cases h3 : e ≤ 999
        · skip
          by_cases h4 : 1 ≤ n
          · skip
            by_cases h5 : n ≤ 999
            · skip
              have HE : Hid (txOk (c, e, n) = true) := (txOk_iff (c, e, n)).2 ⟨h0, h1, h2, h3, h4, h5⟩
              go_enter Tryd.func11, Tryd.ntmps11
              go_wp2
              go_ret
              exact ⟨by rw [HE.out]; rfl, HB.out⟩
            · have HE : Hid (txOk (c, e, n) = false) := by show _ = false; rw [Bool.eq_false_iff]; intro h; exact h5 ((txOk_iff (c, e, n)).1 h).2.2.2.2.2
              have g5 : 999 < n := by omega
              go_enter Tryd.func11, Tryd.ntmps11
              go_wp2
              go_ret
              exact ⟨by rw [HE.out]; rfl, HB.out⟩
          · have HE : Hid (txOk (c, e, n) = false) := by show _ = false; rw [Bool.eq_false_iff]; intro h; exact h4 ((txOk_iff (c, e, n)).1 h).2.2.2.2.1
            have g4 : n < 1 := by omega
            go_enter Tryd.func11, Tryd.ntmps11
            go_wp2
            go_ret
            exact ⟨by rw [HE.out]; rfl, HB.out⟩
        · have HE : Hid (txOk (c, e, n) = false) := by show _ = false; rw [Bool.eq_false_iff]; intro h; exact h3 ((txOk_iff (c, e, n)).1 h).2.2.2.1
          have g3 : 999 < e := by omega
          go_enter Tryd.func11, Tryd.ntmps11
          go_wp2
          go_ret
          exact ⟨by rw [HE.out]; rfl, HB.out⟩
      · have HE : Hid (txOk (c, e, n) = false) := by show _ = false; rw [Bool.eq_false_iff]; intro h; exact h2 ((txOk_iff (c, e, n)).1 h).2.2.1
        have g2 : e < 1 := by omega
        go_enter Tryd.func11, Tryd.ntmps11
        go_wp2
        go_ret
        exact ⟨by rw [HE.out]; rfl, HB.out⟩
    · have HE : Hid (txOk (c, e, n) = false) := by show _ = false; rw [Bool.eq_false_iff]; intro h; exact h1 ((txOk_iff (c, e, n)).1 h).2.1
      have g1 : 7 < c := by omega
      go_enter Tryd.func11, Tryd.ntmps11
      go_wp2
      go_ret
      exact ⟨by rw [HE.out]; rfl, HB.out⟩
  · have HE : Hid (txOk (c, e, n) = false) := by show _ = false; rw [Bool.eq_false_iff]; intro h; exact h0 ((txOk_iff (c, e, n)).1 h).1
    have g0 : c < 0 := by omega
    go_enter Tryd.func11, Tryd.ntmps11
    go_wp2
    go_ret
    exact ⟨by rw [HE.out]; rfl, HB.out⟩
set_option maxHeartbeats 3200000 in
theorem implTxAfter_any (c e n c' e' n' : Int) (w : World) : Calls Tryd.prog 13 #[.agg #[.int .i64 c, .int .i64 e, .int .i64 n], .agg #[.int .i64 c', .int .i64 e', .int .i64 n']] w fun r w' => r = .returned (.bool (txAfter (c, e, n) (c', e', n'))) ∧ Below w.heap.size w w' := by
  have HB := hid (below_new (o := .cells #[.int .i64 c, .int .i64 e, .int .i64 n] 34) (w := w) (below_new (o := .cells #[.int .i64 c', .int .i64 e', .int .i64 n'] 34) (w := w.alloc (.cells #[.int .i64 c, .int .i64 e, .int .i64 n] 34)) (Below.refl _ _)))
  have KA := hid ((Bk.new w 34 [.int .i64 c, .int .i64 e, .int .i64 n]).alloc (.cells #[.int .i64 c', .int .i64 e', .int .i64 n'] 34))
  have KB := hid (Bk.new (w.alloc (.cells #[.int .i64 c, .int .i64 e, .int .i64 n] 34)) 34 [.int .i64 c', .int .i64 e', .int .i64 n'])
  rw [show (w.alloc (.cells #[.int .i64 c, .int .i64 e, .int .i64 n] 34)).heap.size = w.heap.size + 1 by simp] at KB
  have HV : Hid (txAfter (c, e, n) (c', e', n') = (txOk (c, e, n) && (txOk (c', e', n') && (decide (c = c') && (decide (e' < e) || (decide (e = e') && decide (n' < n))))))) := rfl
  have HO1 := hid (fun w => implTxOk_any c e n w)
  have HO2 := hid (fun w => implTxOk_any c' e' n' w)
  generalize txOk (c, e, n) = z1 at *
  generalize txOk (c', e', n') = z2 at *
  cases z1 with
  | false =>
    go_enter Tryd.func13, Tryd.ntmps13
    go_wp2_with fail
    refine (HO1.out _).mono ?_
    generalize (w.alloc (.cells #[.int .i64 c, .int .i64 e, .int .i64 n] 34)).alloc (.cells #[.int .i64 c', .int .i64 e', .int .i64 n'] 34) = U at *
    rintro r w1 ⟨rfl, hb⟩
    have KA1 := hid (KA.out.below hb)
    have KB1 := hid (KB.out.below hb)
    have HB1 := hid (HB.out.trans (hb.mono HB.out.size))
    clear hb KA KB HB
    go_wp2
    go_ret
    exact ⟨by rw [HV.out]; rfl, HB1.out⟩
  | true =>
    cases z2 with
    | false =>
      go_enter Tryd.func13, Tryd.ntmps13
      go_wp2_with fail
      refine (HO1.out _).mono ?_
      generalize (w.alloc (.cells #[.int .i64 c, .int .i64 e, .int .i64 n] 34)).alloc (.cells #[.int .i64 c', .int .i64 e', .int .i64 n'] 34) = U at *
      rintro r w1 ⟨rfl, hb⟩
      have KA1 := hid (KA.out.below hb)
      have KB1 := hid (KB.out.below hb)
      have HB1 := hid (HB.out.trans (hb.mono HB.out.size))
      clear hb KA KB HB
      have x0 := KA1.out.cell (j := 0) rfl
      have x1 := KA1.out.cell (j := 1) rfl
      have x2 := KA1.out.cell (j := 2) rfl
      have y0 := KB1.out.cell (j := 0) rfl
      have y1 := KB1.out.cell (j := 1) rfl
      have y2 := KB1.out.cell (j := 2) rfl
      go_wp2_with fail
      refine (HO2.out _).mono ?_
      rintro r w2 ⟨rfl, hb⟩
      have KA2 := hid (KA1.out.below hb)
      have KB2 := hid (KB1.out.below hb)
      have HB2 := hid (HB1.out.trans (hb.mono HB1.out.size))
      clear hb KA1 KB1 HB1 x0 x1 x2 y0 y1 y2
      go_wp2
      go_ret
      exact ⟨by rw [HV.out]; rfl, HB2.out⟩
    | true =>
      by_cases hc : c' = c
      · subst hc
        have tc : (c' == c') = true := by simp
        have tc' : (c' != c') = false := by simp
        by_cases he : e' < e
        · have he2 : ¬ e = e' := by omega
          have HF : Hid (txAfter (c', e, n) (c', e', n') = true) := by show _ = _; rw [HV.out]; simp [he]
          go_enter Tryd.func13, Tryd.ntmps13
          go_wp2_with fail
          refine (HO1.out _).mono ?_
          generalize (w.alloc (.cells #[.int .i64 c', .int .i64 e, .int .i64 n] 34)).alloc (.cells #[.int .i64 c', .int .i64 e', .int .i64 n'] 34) = U at *
          rintro r w1 ⟨rfl, hb⟩
          have KA1 := hid (KA.out.below hb)
          have KB1 := hid (KB.out.below hb)
          have HB1 := hid (HB.out.trans (hb.mono HB.out.size))
          clear hb KA KB HB
          have x0 := KA1.out.cell (j := 0) rfl
          have x1 := KA1.out.cell (j := 1) rfl
          have x2 := KA1.out.cell (j := 2) rfl
          have y0 := KB1.out.cell (j := 0) rfl
          have y1 := KB1.out.cell (j := 1) rfl
          have y2 := KB1.out.cell (j := 2) rfl
          go_wp2_with fail
          refine (HO2.out _).mono ?_
          rintro r w2 ⟨rfl, hb⟩
          have KA2 := hid (KA1.out.below hb)
          have KB2 := hid (KB1.out.below hb)
          have HB2 := hid (HB1.out.trans (hb.mono HB1.out.size))
          clear hb KA1 KB1 HB1 x0 x1 x2 y0 y1 y2
          have x0 := KA2.out.cell (j := 0) rfl
          have x1 := KA2.out.cell (j := 1) rfl
          have x2 := KA2.out.cell (j := 2) rfl
          have y0 := KB2.out.cell (j := 0) rfl
          have y1 := KB2.out.cell (j := 1) rfl
          have y2 := KB2.out.cell (j := 2) rfl
          go_wp2
          go_ret
          exact ⟨by rw [HF.out]; rfl, HB2.out⟩
        · by_cases hq : e' = e
          · subst hq
            have tq : (e' == e') = true := by simp
            have HF : Hid (txAfter (c', e', n) (c', e', n') = decide (n' < n)) := by show _ = _; rw [HV.out]; simp
            go_enter Tryd.func13, Tryd.ntmps13
            go_wp2_with fail
            refine (HO1.out _).mono ?_
            generalize (w.alloc (.cells #[.int .i64 c', .int .i64 e', .int .i64 n] 34)).alloc (.cells #[.int .i64 c', .int .i64 e', .int .i64 n'] 34) = U at *
            rintro r w1 ⟨rfl, hb⟩
            have KA1 := hid (KA.out.below hb)
            have KB1 := hid (KB.out.below hb)
            have HB1 := hid (HB.out.trans (hb.mono HB.out.size))
            clear hb KA KB HB
            have x0 := KA1.out.cell (j := 0) rfl
            have x1 := KA1.out.cell (j := 1) rfl
            have x2 := KA1.out.cell (j := 2) rfl
            have y0 := KB1.out.cell (j := 0) rfl
            have y1 := KB1.out.cell (j := 1) rfl
            have y2 := KB1.out.cell (j := 2) rfl
            go_wp2_with fail
            refine (HO2.out _).mono ?_
            rintro r w2 ⟨rfl, hb⟩
            have KA2 := hid (KA1.out.below hb)
            have KB2 := hid (KB1.out.below hb)
            have HB2 := hid (HB1.out.trans (hb.mono HB1.out.size))
            clear hb KA1 KB1 HB1 x0 x1 x2 y0 y1 y2
            have x0 := KA2.out.cell (j := 0) rfl
            have x1 := KA2.out.cell (j := 1) rfl
            have x2 := KA2.out.cell (j := 2) rfl
            have y0 := KB2.out.cell (j := 0) rfl
            have y1 := KB2.out.cell (j := 1) rfl
            have y2 := KB2.out.cell (j := 2) rfl
            go_wp2
            go_ret
            exact ⟨by rw [HF.out]; rfl, HB2.out⟩
          · have tq : (e == e') = false := by simp; omega
            have tq2 : ¬ e = e' := by omega
            have HF : Hid (txAfter (c', e, n) (c', e', n') = decide (e' < e)) := by show _ = _; rw [HV.out]; simp [tq2]
            go_enter Tryd.func13, Tryd.ntmps13
            go_wp2_with fail
            refine (HO1.out _).mono ?_
            generalize (w.alloc (.cells #[.int .i64 c', .int .i64 e, .int .i64 n] 34)).alloc (.cells #[.int .i64 c', .int .i64 e', .int .i64 n'] 34) = U at *
            rintro r w1 ⟨rfl, hb⟩
            have KA1 := hid (KA.out.below hb)
            have KB1 := hid (KB.out.below hb)
            have HB1 := hid (HB.out.trans (hb.mono HB.out.size))
            clear hb KA KB HB
            have x0 := KA1.out.cell (j := 0) rfl
            have x1 := KA1.out.cell (j := 1) rfl
            have x2 := KA1.out.cell (j := 2) rfl
            have y0 := KB1.out.cell (j := 0) rfl
            have y1 := KB1.out.cell (j := 1) rfl
            have y2 := KB1.out.cell (j := 2) rfl
            go_wp2_with fail
            refine (HO2.out _).mono ?_
            rintro r w2 ⟨rfl, hb⟩
            have KA2 := hid (KA1.out.below hb)
            have KB2 := hid (KB1.out.below hb)
            have HB2 := hid (HB1.out.trans (hb.mono HB1.out.size))
            clear hb KA1 KB1 HB1 x0 x1 x2 y0 y1 y2
            have x0 := KA2.out.cell (j := 0) rfl
            have x1 := KA2.out.cell (j := 1) rfl
            have x2 := KA2.out.cell (j := 2) rfl
            have y0 := KB2.out.cell (j := 0) rfl
            have y1 := KB2.out.cell (j := 1) rfl
            have y2 := KB2.out.cell (j := 2) rfl
            go_wp2
            go_ret
            exact ⟨by rw [HF.out]; rfl, HB2.out⟩
      · have tc : (c == c') = false := by simp; omega
        have tc2 : ¬ c = c' := by omega
        have tc' : (c != c') = true := by simp; omega
        have HF : Hid (txAfter (c, e, n) (c', e', n') = false) := by show _ = _; rw [HV.out]; simp; omega
        go_enter Tryd.func13, Tryd.ntmps13
        go_wp2_with fail
        refine (HO1.out _).mono ?_
        generalize (w.alloc (.cells #[.int .i64 c, .int .i64 e, .int .i64 n] 34)).alloc (.cells #[.int .i64 c', .int .i64 e', .int .i64 n'] 34) = U at *
        rintro r w1 ⟨rfl, hb⟩
        have KA1 := hid (KA.out.below hb)
        have KB1 := hid (KB.out.below hb)
        have HB1 := hid (HB.out.trans (hb.mono HB.out.size))
        clear hb KA KB HB
        have x0 := KA1.out.cell (j := 0) rfl
        have x1 := KA1.out.cell (j := 1) rfl
        have x2 := KA1.out.cell (j := 2) rfl
        have y0 := KB1.out.cell (j := 0) rfl
        have y1 := KB1.out.cell (j := 1) rfl
        have y2 := KB1.out.cell (j := 2) rfl
        go_wp2_with fail
        refine (HO2.out _).mono ?_
        rintro r w2 ⟨rfl, hb⟩
        have KA2 := hid (KA1.out.below hb)
        have KB2 := hid (KB1.out.below hb)
        have HB2 := hid (HB1.out.trans (hb.mono HB1.out.size))
        clear hb KA1 KB1 HB1 x0 x1 x2 y0 y1 y2
        have x0 := KA2.out.cell (j := 0) rfl
        have x1 := KA2.out.cell (j := 1) rfl
        have x2 := KA2.out.cell (j := 2) rfl
        have y0 := KB2.out.cell (j := 0) rfl
        have y1 := KB2.out.cell (j := 1) rfl
        have y2 := KB2.out.cell (j := 2) rfl
        go_wp2
        go_ret
        exact ⟨by rw [HF.out]; rfl, HB2.out⟩
end Go.Proofs.YtgnjknbgahickaaDoor

