/-
  Names of transactions: TxOk and TxAfter of the program and of the specification; what the law's helpers do with a name.
-/
import Derived.Test.YtnbafoennnhppabLkP
import Derived.Laws.StructEq
namespace Go.Proofs.Ytnbafoennnhppab
open Go.RowKit
set_option linter.unusedVariables false
theorem load_tx {w : World} {g o : Nat} {c e n : Int} (c0 : w.cell? ⟨g, o, none⟩ = some (.int .i64 c)) (c1 : w.cell? ⟨g, o + 1, none⟩ = some (.int .i64 e)) (c2 : w.cell? ⟨g, o + 2, none⟩ = some (.int .i64 n)) :
    (loadVar 29 ⟨g, o, none⟩).run Try.prog w = .ok (.agg #[.int .i64 c, .int .i64 e, .int .i64 n]) w := by go_simp
theorem load_tx0 {w : World} {g : Nat} {c e n : Int} (c0 : w.cell? ⟨g, 0, none⟩ = some (.int .i64 c)) (c1 : w.cell? ⟨g, 1, none⟩ = some (.int .i64 e)) (c2 : w.cell? ⟨g, 2, none⟩ = some (.int .i64 n)) :
    (loadVar 29 ⟨g, 0, none⟩).run Try.prog w = .ok (.agg #[.int .i64 c, .int .i64 e, .int .i64 n]) w := by go_simp
theorem results_tx {fn : Func} {p : Tmp} (h : fn.results = #[.cell p 29]) (tmps : Array Value) (w : World) (g : Nat) {c e n : Int} (hp : tmps.getD p undef = .pointer (some ⟨g, 0, none⟩))
    (c0 : w.cell? ⟨g, 0, none⟩ = some (.int .i64 c)) (c1 : w.cell? ⟨g, 1, none⟩ = some (.int .i64 e)) (c2 : w.cell? ⟨g, 2, none⟩ = some (.int .i64 n)) : (results fn tmps).run Try.prog w = .ok (.agg #[.int .i64 c, .int .i64 e, .int .i64 n]) w := by
  have hp' : tmps[p]?.getD undef = .pointer (some ⟨g, 0, none⟩) := by simpa using hp
  simp [results, h, hp', asAddr, load_tx0 c0 c1 c2]
theorem eqIn_tx (c e n c' e' n' : Int) (w : World) : (Op.equalIn 10000 29 (.agg #[.int .i64 c, .int .i64 e, .int .i64 n]) (.agg #[.int .i64 c', .int .i64 e', .int .i64 n'])).run Try.prog w = .ok (decide ((c, e, n) = (c', e', n'))) w := by
  rw [run_equalIn_struct w 9999 29 _ _ (by kernel_rfl) (by kernel_rfl)]
  obtain ⟨f0, f1, f2, hu, n0, n1, n2, t0, t1, t2, o0, o1, o2⟩ : ∃ f0 f1 f2 : Field, Try.prog.underlying 29 = some (.struct #[f0, f1, f2]) ∧ f0.name = "C" ∧ f1.name = "E" ∧ f2.name = "N" ∧ f0.type = 3 ∧ f1.type = 3 ∧ f2.type = 3 ∧ f0.offset = 0 ∧ f1.offset = 1 ∧ f2.offset = 2 := ⟨_, _, _, Try.underlying29, rfl, rfl, rfl, rfl, rfl, rfl, rfl, rfl, rfl⟩
  have hl : (Try.prog.fieldsOf 29).toList = [f0, f1, f2] := by simp [Program.fieldsOf, hu]
  rw [hl]
  have p0 : ∀ (x y z : Value) (w : World), (Go.part 3 #[x, y, z] 0).run Try.prog w = .ok x w := fun x y z w => by kernel_rfl
  have p1 : ∀ (x y z : Value) (w : World), (Go.part 3 #[x, y, z] 1).run Try.prog w = .ok y w := fun x y z w => by kernel_rfl
  have p2 : ∀ (x y z : Value) (w : World), (Go.part 3 #[x, y, z] 2).run Try.prog w = .ok z w := fun x y z w => by kernel_rfl
  have hi : ∀ (a b : Int) (w : World), (Op.equalIn 9999 3 (.int .i64 a) (.int .i64 b)).run Try.prog w = .ok (a == b) w := fun a b w => run_equalIn_int w 9998 3 .i64 .i64 a b (by kernel_rfl)
  have q0 : ("C" : String) ≠ "_" := by decide
  have q1 : ("E" : String) ≠ "_" := by decide
  have q2 : ("N" : String) ≠ "_" := by decide
  simp only [Op.eqFields, n0, n1, n2, t0, t1, t2, o0, o1, o2, if_pos q0, if_pos q1, if_pos q2, Sem.run_bind, p0, p1, p2, hi, Result.andThen_ok, Sem.run_ite, Sem.run_pure]
  by_cases h0 : c = c'
  · by_cases h1 : e = e'
    · by_cases h2 : n = n'
      · simp [h0, h1, h2]
      · simp [h0, h1, h2]
    · simp [h0, h1]
  · simp [h0]
theorem eql_tx (c e n c' e' n' : Int) (w : World) : (binOp .eql 29 (.agg #[.int .i64 c, .int .i64 e, .int .i64 n]) (.agg #[.int .i64 c', .int .i64 e', .int .i64 n'])).run Try.prog w = .ok (.bool (decide ((c, e, n) = (c', e', n')))) w := by
  rw [run_eql_struct, eqIn_tx]; rfl
theorem neq_tx (c e n c' e' n' : Int) (w : World) : (binOp .neq 29 (.agg #[.int .i64 c, .int .i64 e, .int .i64 n]) (.agg #[.int .i64 c', .int .i64 e', .int .i64 n'])).run Try.prog w = .ok (.bool (!decide ((c, e, n) = (c', e', n')))) w := by
  rw [run_neq_struct, eqIn_tx]; rfl
theorem guard_tx (op : BinOp) (x y : Operand) (xs ys : Array Value) (w : World) : (eqGuard op 29 x y (.agg xs) (.agg ys)).run Try.prog w = .ok () w := run_eqGuard_agg w op 29 x y xs ys (by kernel_rfl)

theorem toTx_any (c e n : Int) (w : World) : Calls Try.prog 8 #[.agg #[.int .i64 c, .int .i64 e, .int .i64 n]] w fun r w' => r = .returned (.agg #[.int .i64 c, .int .i64 e, .int .i64 n]) ∧ Below w.heap.size w w' := by
  go_enter Try.func8, Try.ntmps8
  go_wp2
  try simp only [Exit.inBlock, Exit.then]
  refine bodyPost_ret (v := .agg #[.int .i64 c, .int .i64 e, .int .i64 n]) ?_ rfl ?_
  · exact results_tx rfl _ _ _ rfl (by go_simp) (by go_simp) (by go_simp)
  · exact ⟨rfl, below_new (below_new (below_new (Below.refl _ _)))⟩
theorem eqTx_same (c e n : Int) (w : World) : Calls Try.prog 22 #[.agg #[.int .i64 c, .int .i64 e, .int .i64 n], .agg #[.int .i64 c, .int .i64 e, .int .i64 n]] w fun r w' => r = .returned (.bool true) ∧ Below w.heap.size w w' := by
  have t0 : (c != c) = false := by simp
  have t1 : (e != e) = false := by simp
  have t2 : (n != n) = false := by simp
  go_enter Try.func22, Try.ntmps22
  go_wp2
  go_ret
  exact ⟨rfl, below_new (below_new (Below.refl _ _))⟩
end Go.Proofs.Ytnbafoennnhppab

