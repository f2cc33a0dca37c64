/-
  Records: when one is right, on both sides; what the law's helpers do with one; the laws FnExactReachOk and FnExactRecOk.
-/
import Derived.Test.YtnbafoennnhppabRcU
import Derived.Test.YtnbafoennnhppabRng2
import Derived.Test.YtnbafoennnhppabPairL
import Derived.Laws.StructEq
namespace Go.Proofs.Ytnbafoennnhppab
open Go.RowKit
set_option linter.unusedVariables false
def isE (s : ByteArray) : Bool := decide (s.toList = [])
def rchOk (lo hi : ByteArray) : Bool := rOk lo hi && (decide (lo.size ≤ 9) && decide (hi.size ≤ 9))
def rcOk (k : Int) (ky vl lo hi : ByteArray) : Bool :=
  if k = 1 then uOk ky && (uvOk vl && (isE lo && isE hi)) else if k = 2 then uOk ky && (isE vl && (isE lo && isE hi)) else if k = 3 ∨ k = 4 then isE ky && (isE vl && rchOk lo hi) else false
theorem rcOk_1 (ky vl lo hi : ByteArray) : rcOk 1 ky vl lo hi = (uOk ky && (uvOk vl && (isE lo && isE hi))) := rfl
theorem rcOk_2 (ky vl lo hi : ByteArray) : rcOk 2 ky vl lo hi = (uOk ky && (isE vl && (isE lo && isE hi))) := rfl
theorem rcOk_3 (ky vl lo hi : ByteArray) : rcOk 3 ky vl lo hi = (isE ky && (isE vl && rchOk lo hi)) := rfl
theorem rcOk_4 (ky vl lo hi : ByteArray) : rcOk 4 ky vl lo hi = (isE ky && (isE vl && rchOk lo hi)) := rfl
theorem rcOk_no {k : Int} (h1 : ¬ k = 1) (h2 : ¬ k = 2) (h3 : ¬ k = 3) (h4 : ¬ k = 4) (ky vl lo hi : ByteArray) : rcOk k ky vl lo hi = false := by simp [rcOk, h1, h2, h3, h4]
theorem btR {u v w : World} (h : Below u.heap.size u v) (k : Below v.heap.size v w) : Below u.heap.size u w := h.trans (k.mono h.size)
theorem eqIn_rng (lo hi lo' hi' : ByteArray) (w : World) : (Op.equalIn 10000 41 (.agg #[.string lo, .string hi]) (.agg #[.string lo', .string hi'])).run Try.prog w = .ok (lo.toList == lo'.toList && hi.toList == hi'.toList) w := by
  rw [run_equalIn_struct w 9999 41 _ _ (by kernel_rfl) (by kernel_rfl)]
  obtain ⟨f0, f1, hu, n0, n1, t0, t1, o0, o1⟩ : ∃ f0 f1 : Field, Try.prog.underlying 41 = some (.struct #[f0, f1]) ∧ f0.name = "Lo" ∧ f1.name = "Hi" ∧ f0.type = 9 ∧ f1.type = 9 ∧ f0.offset = 0 ∧ f1.offset = 1 := ⟨_, _, Try.underlying41, rfl, rfl, rfl, rfl, rfl, rfl⟩
  have hl : (Try.prog.fieldsOf 41).toList = [f0, f1] := by simp [Program.fieldsOf, hu]
  rw [hl]
  have p0 : ∀ (x y : Value) (w : World), (Go.part 9 #[x, y] 0).run Try.prog w = .ok x w := fun x y w => by kernel_rfl
  have p1 : ∀ (x y : Value) (w : World), (Go.part 9 #[x, y] 1).run Try.prog w = .ok y w := fun x y w => by kernel_rfl
  have hs : ∀ (a b : ByteArray) (w : World), (Op.equalIn 9999 9 (.string a) (.string b)).run Try.prog w = .ok (a.toList == b.toList) w := fun a b w => run_equalIn_string w 9998 9 a b (by kernel_rfl)
  have q0 : ("Lo" : String) ≠ "_" := by decide
  have q1 : ("Hi" : String) ≠ "_" := by decide
  simp only [Op.eqFields, n0, n1, t0, t1, o0, o1, if_pos q0, if_pos q1, Sem.run_bind, p0, p1, hs, Result.andThen_ok, Sem.run_ite, Sem.run_pure]
  cases h0 : (lo.toList == lo'.toList)
  · simp
  · cases h1 : (hi.toList == hi'.toList) <;> simp
theorem isE_beq (s : ByteArray) : (s.toList == (⟨#[]⟩ : ByteArray).toList) = isE s := by
  unfold isE
  rw [show (⟨#[]⟩ : ByteArray).toList = [] by rw [ByteArray.toList_eq]]
  cases h : s.toList with
  | nil => rfl
  | cons a l => rfl
theorem eql_rng0 (lo hi : ByteArray) (w : World) : (binOp .eql 41 (.agg #[.string lo, .string hi]) (.agg #[.string ⟨#[]⟩, .string ⟨#[]⟩])).run Try.prog w = .ok (.bool (isE lo && isE hi)) w := by
  rw [run_eql_struct, eqIn_rng, isE_beq, isE_beq]; rfl
theorem guard_rng (op : BinOp) (x y : Operand) (xs ys : Array Value) (w : World) : (eqGuard op 41 x y (.agg xs) (.agg ys)).run Try.prog w = .ok () w := run_eqGuard_agg w op 41 x y xs ys (by kernel_rfl)
end Go.Proofs.Ytnbafoennnhppab

