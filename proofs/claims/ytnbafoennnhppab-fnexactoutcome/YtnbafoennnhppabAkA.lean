/-
  Asks: when one is right, on both sides; == of asks.
-/
import Derived.Test.YtnbafoennnhppabRcA
namespace Go.Proofs.Ytnbafoennnhppab
open Go.RowKit
set_option linter.unusedVariables false
def akK (ky vl lo hi : ByteArray) (mo : Int) (bk : Bool) : Bool := uOk ky && (uvOk vl && ((isE lo && isE hi) && (decide (mo = 0) && !bk)))
def akS (ky vl lo hi : ByteArray) (mo : Int) : Bool := (decide (1 ≤ mo) && decide (mo ≤ 8)) && (rchOk lo hi && (isE ky && isE vl))
def akOk (k : Int) (ky vl lo hi : ByteArray) (mo : Int) (bk : Bool) : Bool :=
  if k = 4 then akS ky vl lo hi mo else if k = 2 then akK ky vl lo hi mo bk else if k = 1 ∨ k = 3 then isE vl && akK ky vl lo hi mo bk else false
theorem akOk_4 (ky vl lo hi : ByteArray) (mo : Int) (bk : Bool) : akOk 4 ky vl lo hi mo bk = akS ky vl lo hi mo := rfl
theorem akOk_2 (ky vl lo hi : ByteArray) (mo : Int) (bk : Bool) : akOk 2 ky vl lo hi mo bk = akK ky vl lo hi mo bk := rfl
theorem akOk_1 (ky vl lo hi : ByteArray) (mo : Int) (bk : Bool) : akOk 1 ky vl lo hi mo bk = (isE vl && akK ky vl lo hi mo bk) := rfl
theorem akOk_3 (ky vl lo hi : ByteArray) (mo : Int) (bk : Bool) : akOk 3 ky vl lo hi mo bk = (isE vl && akK ky vl lo hi mo bk) := rfl
theorem akOk_no {k : Int} (h1 : ¬ k = 1) (h2 : ¬ k = 2) (h3 : ¬ k = 3) (h4 : ¬ k = 4) (ky vl lo hi : ByteArray) (mo : Int) (bk : Bool) : akOk k ky vl lo hi mo bk = false := by simp [akOk, h1, h2, h3, h4]
theorem eqIn_rng9 (lo hi lo' hi' : ByteArray) (w : World) : (Op.equalIn 9999 41 (.agg #[.string lo, .string hi]) (.agg #[.string lo', .string hi'])).run Try.prog w = .ok (lo.toList == lo'.toList && hi.toList == hi'.toList) w := by
  rw [run_equalIn_struct w 9998 41 _ _ (by kernel_rfl) (by kernel_rfl)]
  obtain ⟨f0, f1, hu, n0, n1, t0, t1, o0, o1⟩ : ∃ f0 f1 : Field, Try.prog.underlying 41 = some (.struct #[f0, f1]) ∧ f0.name = "Lo" ∧ f1.name = "Hi" ∧ f0.type = 9 ∧ f1.type = 9 ∧ f0.offset = 0 ∧ f1.offset = 1 := ⟨_, _, Try.underlying41, rfl, rfl, rfl, rfl, rfl, rfl⟩
  have hl : (Try.prog.fieldsOf 41).toList = [f0, f1] := by simp [Program.fieldsOf, hu]
  rw [hl]
  have p0 : ∀ (x y : Value) (w : World), (Go.part 9 #[x, y] 0).run Try.prog w = .ok x w := fun x y w => by kernel_rfl
  have p1 : ∀ (x y : Value) (w : World), (Go.part 9 #[x, y] 1).run Try.prog w = .ok y w := fun x y w => by kernel_rfl
  have hs : ∀ (a b : ByteArray) (w : World), (Op.equalIn 9998 9 (.string a) (.string b)).run Try.prog w = .ok (a.toList == b.toList) w := fun a b w => run_equalIn_string w 9997 9 a b (by kernel_rfl)
  have q0 : ("Lo" : String) ≠ "_" := by decide
  have q1 : ("Hi" : String) ≠ "_" := by decide
  simp only [Op.eqFields, n0, n1, t0, t1, o0, o1, if_pos q0, if_pos q1, Sem.run_bind, p0, p1, hs, Result.andThen_ok, Sem.run_ite, Sem.run_pure]
  cases h0 : (lo.toList == lo'.toList)
  · simp
  · cases h1 : (hi.toList == hi'.toList) <;> simp
theorem eqIn_ask (k : Int) (ky vl lo hi : ByteArray) (mo : Int) (bk : Bool) (k' : Int) (ky' : ByteArray) (vl' : ByteArray) (lo' : ByteArray) (hi' : ByteArray) (mo' : Int) (bk' : Bool) (w : World) : (Op.equalIn 10000 43 (.agg #[.int .i64 k, .string ky, .string vl, .string lo, .string hi, .int .i64 mo, .bool bk]) (.agg #[.int .i64 k', .string ky', .string vl', .string lo', .string hi', .int .i64 mo', .bool bk'])).run Try.prog w = .ok ((k == k') && (ky.toList == ky'.toList && (vl.toList == vl'.toList && ((lo.toList == lo'.toList && hi.toList == hi'.toList) && (mo == mo' && bk == bk'))))) w := by
  rw [run_equalIn_struct w 9999 43 _ _ (by kernel_rfl) (by kernel_rfl)]
  obtain ⟨f0, f1, f2, f3, f4, f5, hu, n0, n1, n2, n3, n4, n5, t0, t1, t2, t3, t4, t5, o0, o1, o2, o3, o4, o5⟩ : ∃ f0 f1 f2 f3 f4 f5 : Field, Try.prog.underlying 43 = some (.struct #[f0, f1, f2, f3, f4, f5]) ∧ f0.name = "Kind" ∧ f1.name = "Key" ∧ f2.name = "Val" ∧ f3.name = "Range" ∧ f4.name = "Most" ∧ f5.name = "Back" ∧ f0.type = 3 ∧ f1.type = 9 ∧ f2.type = 9 ∧ f3.type = 41 ∧ f4.type = 3 ∧ f5.type = 4 ∧ f0.offset = 0 ∧ f1.offset = 1 ∧ f2.offset = 2 ∧ f3.offset = 3 ∧ f4.offset = 5 ∧ f5.offset = 6 := ⟨_, _, _, _, _, _, Try.underlying43, rfl, rfl, rfl, rfl, rfl, rfl, rfl, rfl, rfl, rfl, rfl, rfl, rfl, rfl, rfl, rfl, rfl, rfl⟩
  have hl : (Try.prog.fieldsOf 43).toList = [f0, f1, f2, f3, f4, f5] := by simp [Program.fieldsOf, hu]
  rw [hl]
  have p0 : ∀ (x0 x1 x2 x3 x4 x5 x6 : Value) (w : World), (Go.part 3 #[x0, x1, x2, x3, x4, x5, x6] 0).run Try.prog w = .ok x0 w := fun x0 x1 x2 x3 x4 x5 x6 w => by kernel_rfl
  have p1 : ∀ (x0 x1 x2 x3 x4 x5 x6 : Value) (w : World), (Go.part 9 #[x0, x1, x2, x3, x4, x5, x6] 1).run Try.prog w = .ok x1 w := fun x0 x1 x2 x3 x4 x5 x6 w => by kernel_rfl
  have p2 : ∀ (x0 x1 x2 x3 x4 x5 x6 : Value) (w : World), (Go.part 9 #[x0, x1, x2, x3, x4, x5, x6] 2).run Try.prog w = .ok x2 w := fun x0 x1 x2 x3 x4 x5 x6 w => by kernel_rfl
  have p3 : ∀ (x0 x1 x2 x3 x4 x5 x6 : Value) (w : World), (Go.part 41 #[x0, x1, x2, x3, x4, x5, x6] 3).run Try.prog w = .ok (.agg #[x3, x4]) w := fun x0 x1 x2 x3 x4 x5 x6 w => by kernel_rfl
  have p4 : ∀ (x0 x1 x2 x3 x4 x5 x6 : Value) (w : World), (Go.part 3 #[x0, x1, x2, x3, x4, x5, x6] 5).run Try.prog w = .ok x5 w := fun x0 x1 x2 x3 x4 x5 x6 w => by kernel_rfl
  have p5 : ∀ (x0 x1 x2 x3 x4 x5 x6 : Value) (w : World), (Go.part 4 #[x0, x1, x2, x3, x4, x5, x6] 6).run Try.prog w = .ok x6 w := fun x0 x1 x2 x3 x4 x5 x6 w => by kernel_rfl
  have hin : ∀ (a b : Int) (w : World), (Op.equalIn 9999 3 (.int .i64 a) (.int .i64 b)).run Try.prog w = .ok (a == b) w := fun a b w => run_equalIn_int w 9998 3 .i64 .i64 a b (by kernel_rfl)
  have hs : ∀ (a b : ByteArray) (w : World), (Op.equalIn 9999 9 (.string a) (.string b)).run Try.prog w = .ok (a.toList == b.toList) w := fun a b w => run_equalIn_string w 9998 9 a b (by kernel_rfl)
  have hbo : ∀ (a b : Bool) (w : World), (Op.equalIn 9999 4 (.bool a) (.bool b)).run Try.prog w = .ok (a == b) w := fun a b w => run_equalIn_bool' w 9998 4 a b (by kernel_rfl)
  have q0 : ("Kind" : String) ≠ "_" := by decide
  have q1 : ("Key" : String) ≠ "_" := by decide
  have q2 : ("Val" : String) ≠ "_" := by decide
  have q3 : ("Range" : String) ≠ "_" := by decide
  have q4 : ("Most" : String) ≠ "_" := by decide
  have q5 : ("Back" : String) ≠ "_" := by decide
  simp only [Op.eqFields, n0, t0, o0, if_pos q0, n1, t1, o1, if_pos q1, n2, t2, o2, if_pos q2, n3, t3, o3, if_pos q3, n4, t4, o4, if_pos q4, n5, t5, o5, if_pos q5, Sem.run_bind, p0, p1, p2, p3, p4, p5, hin, hs, hbo, eqIn_rng9, Result.andThen_ok, Sem.run_ite, Sem.run_pure]
  generalize (k == k') = b0
  generalize (ky.toList == ky'.toList) = b1
  generalize (vl.toList == vl'.toList) = b2
  generalize (lo.toList == lo'.toList && hi.toList == hi'.toList) = b3
  generalize (mo == mo') = b4
  generalize (bk == bk') = b5
  cases b0 <;> cases b1 <;> cases b2 <;> cases b3 <;> cases b4 <;> cases b5 <;> first | rfl | simp
def akZ (k : Int) (ky vl lo hi : ByteArray) (mo : Int) (bk : Bool) : Bool := decide (k = 0) && (isE ky && (isE vl && ((isE lo && isE hi) && (decide (mo = 0) && !bk))))
theorem bl_same (s : ByteArray) : (s.toList == s.toList) = true := by simp
theorem eql_askK (k : Int) (ky vl lo hi : ByteArray) (mo : Int) (bk : Bool) (w : World) : (binOp .eql 43 (.agg #[.int .i64 k, .string ky, .string vl, .string lo, .string hi, .int .i64 mo, .bool bk]) (.agg #[.int .i64 k, .string ky, .string vl, .string ⟨#[]⟩, .string ⟨#[]⟩, .int .i64 0, .bool false])).run Try.prog w = .ok (.bool ((isE lo && isE hi) && (decide (mo = 0) && !bk))) w := by
  rw [run_eql_struct, eqIn_ask, isE_beq, isE_beq, bl_same, bl_same]
  simp only [beq_self_eq_true, Bool.true_and, Result.andThen_ok]
  cases bk <;> rfl
theorem eql_askS (k : Int) (ky vl lo hi : ByteArray) (mo : Int) (bk : Bool) (w : World) : (binOp .eql 43 (.agg #[.int .i64 k, .string ky, .string vl, .string lo, .string hi, .int .i64 mo, .bool bk]) (.agg #[.int .i64 k, .string ⟨#[]⟩, .string ⟨#[]⟩, .string lo, .string hi, .int .i64 mo, .bool bk])).run Try.prog w = .ok (.bool (isE ky && isE vl)) w := by
  rw [run_eql_struct, eqIn_ask, isE_beq, isE_beq, bl_same, bl_same]
  simp only [beq_self_eq_true, Bool.true_and, Bool.and_true, Result.andThen_ok]
theorem eql_askZ (k : Int) (ky vl lo hi : ByteArray) (mo : Int) (bk : Bool) (w : World) : (binOp .eql 43 (.agg #[.int .i64 k, .string ky, .string vl, .string lo, .string hi, .int .i64 mo, .bool bk]) (.agg #[.int .i64 0, .string ⟨#[]⟩, .string ⟨#[]⟩, .string ⟨#[]⟩, .string ⟨#[]⟩, .int .i64 0, .bool false])).run Try.prog w = .ok (.bool (akZ k ky vl lo hi mo bk)) w := by
  rw [run_eql_struct, eqIn_ask, isE_beq, isE_beq, isE_beq, isE_beq]
  unfold akZ
  cases bk <;> rfl
theorem neq_askZ (k : Int) (ky vl lo hi : ByteArray) (mo : Int) (bk : Bool) (w : World) : (binOp .neq 43 (.agg #[.int .i64 k, .string ky, .string vl, .string lo, .string hi, .int .i64 mo, .bool bk]) (.agg #[.int .i64 0, .string ⟨#[]⟩, .string ⟨#[]⟩, .string ⟨#[]⟩, .string ⟨#[]⟩, .int .i64 0, .bool false])).run Try.prog w = .ok (.bool (!akZ k ky vl lo hi mo bk)) w := by
  rw [run_neq_struct, eqIn_ask, isE_beq, isE_beq, isE_beq, isE_beq]
  unfold akZ
  cases bk <;> rfl
theorem guard_ask (op : BinOp) (x y : Operand) (xs ys : Array Value) (w : World) : (eqGuard op 43 x y (.agg xs) (.agg ys)).run Try.prog w = .ok () w := run_eqGuard_agg w op 43 x y xs ys (by kernel_rfl)
end Go.Proofs.Ytnbafoennnhppab

