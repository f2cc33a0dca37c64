/-
  Asks: when one is right, on both sides; == of asks.
-/
import Derived.Test.YtcpdedpgjaimkaaRcA
namespace Go.Proofs.Ytcpdedpgjaimkaa
open Go.RowKit
set_option linter.unusedVariables false
def akK (ky vl lo hi : ByteArray) (mo : Int) (bk : Bool) : Bool := uOk ky && (uvOk vl && ((isE lo && isE hi) && (decide (mo = 0) && !bk)))
def akS (ky vl lo hi : ByteArray) (mo : Int) : Bool := (decide (1 ≤ mo) && decide (mo ≤ 8)) && (rchOk lo hi && (isE ky && isE vl))
def akOk (k : Int) (ky vl lo hi : ByteArray) (mo : Int) (bk : Bool) : Bool :=
  if k = 4 then akS ky vl lo hi mo else if k = 2 then akK ky vl lo hi mo bk else if k = 1 ∨ k = 3 then isE vl && akK ky vl lo hi mo bk else false
theorem akOk_4 (ky vl lo hi : ByteArray) (mo : Int) (bk : Bool) : akOk 4 ky vl lo hi mo bk = akS ky vl lo hi mo := rfl
theorem akOk_2 (ky vl lo hi : ByteArray) (mo : Int) (bk : Bool) : akOk 2 ky vl lo hi mo bk = akK ky vl lo hi mo bk := rfl
theorem akOk_1 (ky vl lo hi : ByteArray) (mo : Int) (bk : Bool) : akOk 1 ky vl lo hi mo bk = (isE vl && akK ky vl lo hi mo bk) := rfl
theorem akOk_3 (ky vl lo hi : ByteArray) (mo : Int) (bk : Bool) : akOk 3 ky vl lo hi mo bk = (isE vl && akK ky vl lo hi mo bk) := rfl
theorem akOk_no {k : Int} (h1 : ¬ k = 1) (h2 : ¬ k = 2) (h3 : ¬ k = 3) (h4 : ¬ k = 4) (ky vl lo hi : ByteArray) (mo : Int) (bk : Bool) : akOk k ky vl lo hi mo bk = false := by simp [akOk, h1, h2, h3, h4]
theorem eqIn_rng9 (lo hi lo' hi' : ByteArray) (w : World) : (Op.equalIn 9999 27 (.agg #[.string lo, .string hi]) (.agg #[.string lo', .string hi'])).run Try.prog w = .ok (lo.toList == lo'.toList && hi.toList == hi'.toList) w := by
  rw [run_equalIn_struct w 9998 27 _ _ (by kernel_rfl) (by kernel_rfl)]
  obtain ⟨f0, f1, hu, n0, n1, t0, t1, o0, o1⟩ : ∃ f0 f1 : Field, Try.prog.underlying 27 = some (.struct #[f0, f1]) ∧ f0.name = "Lo" ∧ f1.name = "Hi" ∧ f0.type = 9 ∧ f1.type = 9 ∧ f0.offset = 0 ∧ f1.offset = 1 := ⟨_, _, Try.underlying27, rfl, rfl, rfl, rfl, rfl, rfl⟩
  have hl : (Try.prog.fieldsOf 27).toList = [f0, f1] := by simp [Program.fieldsOf, hu]
  rw [hl]
  have p0 : ∀ (x y : Value) (w : World), (Go.part 9 #[x, y] 0).run Try.prog w = .ok x w := fun x y w => by kernel_rfl
  have p1 : ∀ (x y : Value) (w : World), (Go.part 9 #[x, y] 1).run Try.prog w = .ok y w := fun x y w => by kernel_rfl
  have hs : ∀ (a b : ByteArray) (w : World), (Op.equalIn 9998 9 (.string a) (.string b)).run Try.prog w = .ok (a.toList == b.toList) w := fun a b w => run_equalIn_string w 9997 9 a b (by kernel_rfl)
  have q0 : ("Lo" : String) ≠ "_" := by decide
  have q1 : ("Hi" : String) ≠ "_" := by decide
  simp only [Op.eqFields, n0, n1, t0, t1, o0, o1, if_pos q0, if_pos q1, Sem.run_bind, p0, p1, hs, Result.andThen_ok, Sem.run_ite, Sem.run_pure]
  cases h0 : (lo.toList == lo'.toList)
  · simp
  · cases h1 : (hi.toList == hi'.toList) <;> simp
theorem eqIn_ask (k : Int) (ky vl lo hi : ByteArray) (mo : Int) (bk : Bool) (k' : Int) (ky' : ByteArray) (vl' : ByteArray) (lo' : ByteArray) (hi' : ByteArray) (mo' : Int) (bk' : Bool) (w : World) : (Op.equalIn 10000 64 (.agg #[.int .i64 k, .string ky, .string vl, .string lo, .string hi, .int .i64 mo, .bool bk]) (.agg #[.int .i64 k', .string ky', .string vl', .string lo', .string hi', .int .i64 mo', .bool bk'])).run Try.prog w = .ok ((k == k') && (ky.toList == ky'.toList && (vl.toList == vl'.toList && ((lo.toList == lo'.toList && hi.toList == hi'.toList) && (mo == mo' && bk == bk'))))) w := by
  rw [run_equalIn_struct w 9999 64 _ _ (by kernel_rfl) (by kernel_rfl)]
  obtain ⟨f0, f1, f2, f3, f4, f5, hu, n0, n1, n2, n3, n4, n5, t0, t1, t2, t3, t4, t5, o0, o1, o2, o3, o4, o5⟩ : ∃ f0 f1 f2 f3 f4 f5 : Field, Try.prog.underlying 64 = some (.struct #[f0, f1, f2, f3, f4, f5]) ∧ f0.name = "Kind" ∧ f1.name = "Key" ∧ f2.name = "Val" ∧ f3.name = "Range" ∧ f4.name = "Most" ∧ f5.name = "Back" ∧ f0.type = 3 ∧ f1.type = 9 ∧ f2.type = 9 ∧ f3.type = 27 ∧ f4.type = 3 ∧ f5.type = 4 ∧ f0.offset = 0 ∧ f1.offset = 1 ∧ f2.offset = 2 ∧ f3.offset = 3 ∧ f4.offset = 5 ∧ f5.offset = 6 := ⟨_, _, _, _, _, _, Try.underlying64, rfl, rfl, rfl, rfl, rfl, rfl, rfl, rfl, rfl, rfl, rfl, rfl, rfl, rfl, rfl, rfl, rfl, rfl⟩
  have hl : (Try.prog.fieldsOf 64).toList = [f0, f1, f2, f3, f4, f5] := by simp [Program.fieldsOf, hu]
  rw [hl]
  have p0 : ∀ (x0 x1 x2 x3 x4 x5 x6 : Value) (w : World), (Go.part 3 #[x0, x1, x2, x3, x4, x5, x6] 0).run Try.prog w = .ok x0 w := fun x0 x1 x2 x3 x4 x5 x6 w => by kernel_rfl
  have p1 : ∀ (x0 x1 x2 x3 x4 x5 x6 : Value) (w : World), (Go.part 9 #[x0, x1, x2, x3, x4, x5, x6] 1).run Try.prog w = .ok x1 w := fun x0 x1 x2 x3 x4 x5 x6 w => by kernel_rfl
  have p2 : ∀ (x0 x1 x2 x3 x4 x5 x6 : Value) (w : World), (Go.part 9 #[x0, x1, x2, x3, x4, x5, x6] 2).run Try.prog w = .ok x2 w := fun x0 x1 x2 x3 x4 x5 x6 w => by kernel_rfl
  have p3 : ∀ (x0 x1 x2 x3 x4 x5 x6 : Value) (w : World), (Go.part 27 #[x0, x1, x2, x3, x4, x5, x6] 3).run Try.prog w = .ok (.agg #[x3, x4]) w := fun x0 x1 x2 x3 x4 x5 x6 w => by kernel_rfl
  have p4 : ∀ (x0 x1 x2 x3 x4 x5 x6 : Value) (w : World), (Go.part 3 #[x0, x1, x2, x3, x4, x5, x6] 5).run Try.prog w = .ok x5 w := fun x0 x1 x2 x3 x4 x5 x6 w => by kernel_rfl
  have p5 : ∀ (x0 x1 x2 x3 x4 x5 x6 : Value) (w : World), (Go.part 4 #[x0, x1, x2, x3, x4, x5, x6] 6).run Try.prog w = .ok x6 w := fun x0 x1 x2 x3 x4 x5 x6 w => by kernel_rfl
  have hin : ∀ (a b : Int) (w : World), (Op.equalIn 9999 3 (.int .i64 a) (.int .i64 b)).run Try.prog w = .ok (a == b) w := fun a b w => run_equalIn_int w 9998 3 .i64 .i64 a b (by kernel_rfl)
  have hs : ∀ (a b : ByteArray) (w : World), (Op.equalIn 9999 9 (.string a) (.string b)).run Try.prog w = .ok (a.toList == b.toList) w := fun a b w => run_equalIn_string w 9998 9 a b (by kernel_rfl)
  have hbo : ∀ (a b : Bool) (w : World), (Op.equalIn 9999 4 (.bool a) (.bool b)).run Try.prog w = .ok (a == b) w := fun a b w => run_equalIn_bool' w 9998 4 a b (by kernel_rfl)
  have q0 : ("Kind" : String) ≠ "_" := by decide
  have q1 : ("Key" : String) ≠ "_" := by decide
  have q2 : ("Val" : String) ≠ "_" := by decide
  have q3 : ("Range" : String) ≠ "_" := by decide
  have q4 : ("Most" : String) ≠ "_" := by decide
  have q5 : ("Back" : String) ≠ "_" := by decide
  simp only [Op.eqFields, n0, t0, o0, if_pos q0, n1, t1, o1, if_pos q1, n2, t2, o2, if_pos q2, n3, t3, o3, if_pos q3, n4, t4, o4, if_pos q4, n5, t5, o5, if_pos q5, Sem.run_bind, p0, p1, p2, p3, p4, p5, hin, hs, hbo, eqIn_rng9, Result.andThen_ok, Sem.run_ite, Sem.run_pure]
  generalize (k == k') = b0
  generalize (ky.toList == ky'.toList) = b1
  generalize (vl.toList == vl'.toList) = b2
  generalize (lo.toList == lo'.toList && hi.toList == hi'.toList) = b3
  generalize (mo == mo') = b4
  generalize (bk == bk') = b5
  cases b0 <;> cases b1 <;> cases b2 <;> cases b3 <;> cases b4 <;> cases b5 <;> first | rfl | simp
def akZ (k : Int) (ky vl lo hi : ByteArray) (mo : Int) (bk : Bool) : Bool := decide (k = 0) && (isE ky && (isE vl && ((isE lo && isE hi) && (decide (mo = 0) && !bk))))
theorem bl_same (s : ByteArray) : (s.toList == s.toList) = true := by simp
theorem eql_askK (k : Int) (ky vl lo hi : ByteArray) (mo : Int) (bk : Bool) (w : World) : (binOp .eql 64 (.agg #[.int .i64 k, .string ky, .string vl, .string lo, .string hi, .int .i64 mo, .bool bk]) (.agg #[.int .i64 k, .string ky, .string vl, .string ⟨#[]⟩, .string ⟨#[]⟩, .int .i64 0, .bool false])).run Try.prog w = .ok (.bool ((isE lo && isE hi) && (decide (mo = 0) && !bk))) w := by
  rw [run_eql_struct, eqIn_ask, isE_beq, isE_beq, bl_same, bl_same]
  simp only [beq_self_eq_true, Bool.true_and, Result.andThen_ok]
  cases bk <;> rfl
theorem eql_askS (k : Int) (ky vl lo hi : ByteArray) (mo : Int) (bk : Bool) (w : World) : (binOp .eql 64 (.agg #[.int .i64 k, .string ky, .string vl, .string lo, .string hi, .int .i64 mo, .bool bk]) (.agg #[.int .i64 k, .string ⟨#[]⟩, .string ⟨#[]⟩, .string lo, .string hi, .int .i64 mo, .bool bk])).run Try.prog w = .ok (.bool (isE ky && isE vl)) w := by
  rw [run_eql_struct, eqIn_ask, isE_beq, isE_beq, bl_same, bl_same]
  simp only [beq_self_eq_true, Bool.true_and, Bool.and_true, Result.andThen_ok]
theorem eql_askZ (k : Int) (ky vl lo hi : ByteArray) (mo : Int) (bk : Bool) (w : World) : (binOp .eql 64 (.agg #[.int .i64 k, .string ky, .string vl, .string lo, .string hi, .int .i64 mo, .bool bk]) (.agg #[.int .i64 0, .string ⟨#[]⟩, .string ⟨#[]⟩, .string ⟨#[]⟩, .string ⟨#[]⟩, .int .i64 0, .bool false])).run Try.prog w = .ok (.bool (akZ k ky vl lo hi mo bk)) w := by
  rw [run_eql_struct, eqIn_ask, isE_beq, isE_beq, isE_beq, isE_beq]
  unfold akZ
  cases bk <;> rfl
theorem neq_askZ (k : Int) (ky vl lo hi : ByteArray) (mo : Int) (bk : Bool) (w : World) : (binOp .neq 64 (.agg #[.int .i64 k, .string ky, .string vl, .string lo, .string hi, .int .i64 mo, .bool bk]) (.agg #[.int .i64 0, .string ⟨#[]⟩, .string ⟨#[]⟩, .string ⟨#[]⟩, .string ⟨#[]⟩, .int .i64 0, .bool false])).run Try.prog w = .ok (.bool (!akZ k ky vl lo hi mo bk)) w := by
  rw [run_neq_struct, eqIn_ask, isE_beq, isE_beq, isE_beq, isE_beq]
  unfold akZ
  cases bk <;> rfl
theorem guard_ask (op : BinOp) (x y : Operand) (xs ys : Array Value) (w : World) : (eqGuard op 64 x y (.agg xs) (.agg ys)).run Try.prog w = .ok () w := run_eqGuard_agg w op 64 x y xs ys (by kernel_rfl)
set_option maxHeartbeats 3200000 in
theorem keyAskOk_any (k : Int) (ky vl lo hi : ByteArray) (mo : Int) (bk : Bool) (w : World) : Calls Try.prog 133 #[.agg #[.int .i64 k, .string ky, .string vl, .string lo, .string hi, .int .i64 mo, .bool bk]] w fun r w' => r = .returned (.bool (akK ky vl lo hi mo bk)) ∧ Below w.heap.size w w' := by
  have hq := eql_askK k ky vl lo hi mo bk
  have hg := guard_ask .eql
  have C1 := hid (fun w => implUserOk_any ky w)
  have C2 := hid (fun w => implUvalOk_any vl w)
  have B0 := hid (below_new (o := .cells #[.int .i64 k, .string ky, .string vl, .string lo, .string hi, .int .i64 mo, .bool bk] 64) (w := w) (Below.refl _ _))
  have HV : Hid (akK ky vl lo hi mo bk = (uOk ky && (uvOk vl && ((isE lo && isE hi) && (decide (mo = 0) && !bk))))) := rfl
  generalize akK ky vl lo hi mo bk = z0 at *
  generalize uOk ky = z1 at *
  generalize uvOk vl = z2 at *
  generalize ((isE lo && isE hi) && (decide (mo = 0) && !bk)) = z3 at *
  cases z1 with
  | false =>
    go_enter Try.func133, Try.ntmps133
    go_wp2_with fail
    refine (C1.out _).mono ?_
    rintro r w1 ⟨rfl, rfl⟩
    go_wp2
    go_ret
    exact ⟨by rw [HV.out]; rfl, B0.out⟩
  | true =>
    cases z2 with
    | false =>
      go_enter Try.func133, Try.ntmps133
      go_wp2_with fail
      refine (C1.out _).mono ?_
      rintro r w1 ⟨rfl, rfl⟩
      go_wp2_with fail
      refine (C2.out _).mono ?_
      rintro r w1 ⟨rfl, rfl⟩
      go_wp2
      go_ret
      exact ⟨by rw [HV.out]; rfl, B0.out⟩
    | true =>
      go_enter Try.func133, Try.ntmps133
      go_wp2_with fail
      refine (C1.out _).mono ?_
      rintro r w1 ⟨rfl, rfl⟩
      go_wp2_with fail
      refine (C2.out _).mono ?_
      rintro r w1 ⟨rfl, rfl⟩
      go_wp2
      go_ret
      exact ⟨by rw [HV.out]; rfl, B0.out⟩
set_option maxHeartbeats 3200000 in
theorem scanOk_any (k : Int) (ky vl lo hi : ByteArray) (mo : Int) (bk : Bool) (w : World) : Calls Try.prog 134 #[.agg #[.int .i64 k, .string ky, .string vl, .string lo, .string hi, .int .i64 mo, .bool bk]] w fun r w' => r = .returned (.bool (akS ky vl lo hi mo)) ∧ Below w.heap.size w w' := by
  have hq := eql_askS k ky vl lo hi mo bk
  have hg := guard_ask .eql
  have C1 : Hid (∀ w, Calls Try.prog 165 #[.agg #[.string lo, .string hi]] w fun r w' => r = .returned (.bool (rchOk lo hi)) ∧ Below w.heap.size w w') := fun w => implReachOk_any lo hi w
  have B0 := hid (below_new (o := .cells #[.int .i64 k, .string ky, .string vl, .string lo, .string hi, .int .i64 mo, .bool bk] 64) (w := w) (Below.refl _ _))
  have K0 := hid (Bk.new w 64 [.int .i64 k, .string ky, .string vl, .string lo, .string hi, .int .i64 mo, .bool bk])
  have HV : Hid (akS ky vl lo hi mo = ((decide (1 ≤ mo) && decide (mo ≤ 8)) && (rchOk lo hi && (isE ky && isE vl)))) := rfl
  generalize akS ky vl lo hi mo = z0 at *
  generalize rchOk lo hi = z1 at *
  generalize (isE ky && isE vl) = z2 at *
  by_cases m1 : mo < 1
  · have HW : Hid (decide (1 ≤ mo) = false) := by show _ = false; simp; omega
    go_enter Try.func134, Try.ntmps134
    go_wp2
    go_ret
    exact ⟨by rw [HV.out, HW.out]; rfl, B0.out⟩
  · by_cases m2 : 8 < mo
    · have HW : Hid (decide (mo ≤ 8) = false) := by show _ = false; simp; omega
      go_enter Try.func134, Try.ntmps134
      go_wp2
      go_ret
      exact ⟨by rw [HV.out, HW.out, Bool.and_false]; rfl, B0.out⟩
    · have HW : Hid ((decide (1 ≤ mo) && decide (mo ≤ 8)) = true) := by show _ = true; simp; omega
      cases z1 with
      | false =>
        go_enter Try.func134, Try.ntmps134
        go_wp2_with fail
        refine (C1.out _).mono ?_
        generalize w.alloc (.cells #[.int .i64 k, .string ky, .string vl, .string lo, .string hi, .int .i64 mo, .bool bk] 64) = U at *
        rintro r w1 ⟨rfl, hb⟩
        have K1 := hid (K0.out.below hb)
        have B1 := hid (B0.out.trans (hb.mono B0.out.size))
        clear K0 B0 hb
        have x0 := K1.out.cell (j := 0) rfl
        have x1 := K1.out.cell (j := 1) rfl
        have x2 := K1.out.cell (j := 2) rfl
        have x3 := K1.out.cell (j := 3) rfl
        have x4 := K1.out.cell (j := 4) rfl
        have x5 := K1.out.cell (j := 5) rfl
        have x6 := K1.out.cell (j := 6) rfl
        go_wp2
        go_ret
        exact ⟨by rw [HV.out, HW.out]; rfl, B1.out⟩
      | true =>
        go_enter Try.func134, Try.ntmps134
        go_wp2_with fail
        refine (C1.out _).mono ?_
        generalize w.alloc (.cells #[.int .i64 k, .string ky, .string vl, .string lo, .string hi, .int .i64 mo, .bool bk] 64) = U at *
        rintro r w1 ⟨rfl, hb⟩
        have K1 := hid (K0.out.below hb)
        have B1 := hid (B0.out.trans (hb.mono B0.out.size))
        clear K0 B0 hb
        have x0 := K1.out.cell (j := 0) rfl
        have x1 := K1.out.cell (j := 1) rfl
        have x2 := K1.out.cell (j := 2) rfl
        have x3 := K1.out.cell (j := 3) rfl
        have x4 := K1.out.cell (j := 4) rfl
        have x5 := K1.out.cell (j := 5) rfl
        have x6 := K1.out.cell (j := 6) rfl
        go_wp2
        go_ret
        exact ⟨by rw [HV.out, HW.out]; rfl, B1.out⟩
set_option maxHeartbeats 3200000 in
theorem implAskOk_any (k : Int) (ky vl lo hi : ByteArray) (mo : Int) (bk : Bool) (w : World) : Calls Try.prog 75 #[.agg #[.int .i64 k, .string ky, .string vl, .string lo, .string hi, .int .i64 mo, .bool bk]] w fun r w' => r = .returned (.bool (akOk k ky vl lo hi mo bk)) ∧ Below w.heap.size w w' := by
  have C1 := hid (fun w => keyAskOk_any k ky vl lo hi mo bk w)
  have C2 := hid (fun w => scanOk_any k ky vl lo hi mo bk w)
  have B0 := hid (below_new (o := .cells #[.int .i64 k, .string ky, .string vl, .string lo, .string hi, .int .i64 mo, .bool bk] 64) (w := w) (Below.refl _ _))
  by_cases k1 : k = 1
  · subst k1
    have HV := hid (akOk_1 ky vl lo hi mo bk)
    by_cases h2 : vl.toList = []
    · have HW : Hid (isE vl = true) := by show _ = true; exact decide_eq_true h2
      generalize akOk 1 ky vl lo hi mo bk = z0 at *
      go_enter Try.func75, Try.ntmps75
      go_wp2_with fail
      refine (C1.out _).mono ?_
      rintro r w1 ⟨rfl, hb⟩
      have B1 := hid (btR B0.out hb)
      clear hb B0
      go_wp2
      go_ret
      exact ⟨by rw [HV.out, HW.out]; rfl, B1.out⟩
    · have HW : Hid (isE vl = false) := by show _ = false; exact decide_eq_false h2
      have h3 : vl.toList.isEmpty = false := by simpa using h2
      generalize akOk 1 ky vl lo hi mo bk = z0 at *
      go_enter Try.func75, Try.ntmps75
      go_wp2
      go_ret
      exact ⟨by rw [HV.out, HW.out]; rfl, B0.out⟩
  · by_cases k3 : k = 3
    · subst k3
      have HV := hid (akOk_3 ky vl lo hi mo bk)
      by_cases h2 : vl.toList = []
      · have HW : Hid (isE vl = true) := by show _ = true; exact decide_eq_true h2
        generalize akOk 3 ky vl lo hi mo bk = z0 at *
        go_enter Try.func75, Try.ntmps75
        go_wp2_with fail
        refine (C1.out _).mono ?_
        rintro r w1 ⟨rfl, hb⟩
        have B1 := hid (btR B0.out hb)
        clear hb B0
        go_wp2
        go_ret
        exact ⟨by rw [HV.out, HW.out]; rfl, B1.out⟩
      · have HW : Hid (isE vl = false) := by show _ = false; exact decide_eq_false h2
        have h3 : vl.toList.isEmpty = false := by simpa using h2
        generalize akOk 3 ky vl lo hi mo bk = z0 at *
        go_enter Try.func75, Try.ntmps75
        go_wp2
        go_ret
        exact ⟨by rw [HV.out, HW.out]; rfl, B0.out⟩
    · by_cases k2 : k = 2
      · subst k2
        have HV := hid (akOk_2 ky vl lo hi mo bk)
        generalize akOk 2 ky vl lo hi mo bk = z0 at *
        go_enter Try.func75, Try.ntmps75
        go_wp2_with fail
        refine (C1.out _).mono ?_
        rintro r w1 ⟨rfl, hb⟩
        have B1 := hid (btR B0.out hb)
        clear hb B0
        go_wp2
        go_ret
        exact ⟨by rw [HV.out]; rfl, B1.out⟩
      · by_cases k4 : k = 4
        · subst k4
          have HV := hid (akOk_4 ky vl lo hi mo bk)
          generalize akOk 4 ky vl lo hi mo bk = z0 at *
          go_enter Try.func75, Try.ntmps75
          go_wp2_with fail
          refine (C2.out _).mono ?_
          rintro r w1 ⟨rfl, hb⟩
          have B1 := hid (btR B0.out hb)
          clear hb B0
          go_wp2
          go_ret
          exact ⟨by rw [HV.out]; rfl, B1.out⟩
        · have HV := hid (akOk_no k1 k2 k3 k4 ky vl lo hi mo bk)
          clear C1 C2
          go_enter Try.func75, Try.ntmps75
          go_wp2
          go_ret
          exact ⟨by rw [HV.out]; rfl, B0.out⟩
set_option maxHeartbeats 6400000 in
theorem specAskOk_any (k : Int) (ky vl lo hi : ByteArray) (mo : Int) (bk : Bool) (w : World) : Calls Try.prog 73 #[.agg #[.int .i64 k, .string ky, .string vl, .string lo, .string hi, .int .i64 mo, .bool bk]] w fun r w' => r = .returned (.bool (akOk k ky vl lo hi mo bk)) ∧ Below w.heap.size w w' := by
  have hq := eql_rng0 lo hi
  have hg := guard_rng .eql
  have C1 := hid (fun w => specUserOk_any ky w)
  have C2 := hid (fun w => specUvalOk_any vl w)
  have C3 : Hid (∀ w, Calls Try.prog 129 #[.agg #[.string lo, .string hi]] w fun r w' => r = .returned (.bool (rchOk lo hi)) ∧ Below w.heap.size w w') := fun w => specReachOk_any lo hi w
  have B0 := hid (below_new (o := .cells #[.int .i64 k, .string ky, .string vl, .string lo, .string hi, .int .i64 mo, .bool bk] 64) (w := w) (below_new (o := .cells #[.string ⟨#[]⟩, .string ⟨#[]⟩] 27) (w := w.alloc (.cells #[.int .i64 k, .string ky, .string vl, .string lo, .string hi, .int .i64 mo, .bool bk] 64)) (Below.refl _ _)))
  by_cases k1 : k = 1
  · subst k1
    have HV := hid (akOk_1 ky vl lo hi mo bk)
    by_cases h2 : vl.toList = []
    · have HW : Hid (isE vl = true) := by show _ = true; exact decide_eq_true h2
      generalize akOk 1 ky vl lo hi mo bk = z0 at *
      have HX : Hid (akK ky vl lo hi mo bk = (uOk ky && (uvOk vl && ((isE lo && isE hi) && (decide (mo = 0) && !bk))))) := rfl
      generalize akK ky vl lo hi mo bk = zk at *
      generalize uOk ky = z1 at *
      generalize uvOk vl = z2 at *
      generalize (isE lo && isE hi) = z3 at *
      cases z1 with
      | false =>
        go_enter Try.func73, Try.ntmps73
        go_wp2_with fail
        refine (C1.out _).mono ?_
        rintro r w1 ⟨rfl, rfl⟩
        go_wp2
        go_ret
        exact ⟨by rw [HV.out, HW.out, HX.out]; rfl, B0.out⟩
      | true =>
        cases z2 with
        | false =>
          go_enter Try.func73, Try.ntmps73
          go_wp2_with fail
          refine (C1.out _).mono ?_
          rintro r w1 ⟨rfl, rfl⟩
          go_wp2_with fail
          refine (C2.out _).mono ?_
          rintro r w1 ⟨rfl, rfl⟩
          go_wp2
          go_ret
          exact ⟨by rw [HV.out, HW.out, HX.out]; rfl, B0.out⟩
        | true =>
          cases z3 with
          | false =>
            go_enter Try.func73, Try.ntmps73
            go_wp2_with fail
            refine (C1.out _).mono ?_
            rintro r w1 ⟨rfl, rfl⟩
            go_wp2_with fail
            refine (C2.out _).mono ?_
            rintro r w1 ⟨rfl, rfl⟩
            go_wp2
            go_ret
            exact ⟨by rw [HV.out, HW.out, HX.out]; rfl, B0.out⟩
          | true =>
            by_cases h5 : mo = 0
            · subst h5
              have HM : Hid (decide ((0 : Int) = 0) = true) := decide_eq_true rfl
              go_enter Try.func73, Try.ntmps73
              go_wp2_with fail
              refine (C1.out _).mono ?_
              rintro r w1 ⟨rfl, rfl⟩
              go_wp2_with fail
              refine (C2.out _).mono ?_
              rintro r w1 ⟨rfl, rfl⟩
              go_wp2
              go_ret
              exact ⟨by rw [HV.out, HW.out, HX.out, HM.out]; rfl, B0.out⟩
            · have HM : Hid (decide (mo = 0) = false) := decide_eq_false h5
              go_enter Try.func73, Try.ntmps73
              go_wp2_with fail
              refine (C1.out _).mono ?_
              rintro r w1 ⟨rfl, rfl⟩
              go_wp2_with fail
              refine (C2.out _).mono ?_
              rintro r w1 ⟨rfl, rfl⟩
              go_wp2
              go_ret
              exact ⟨by rw [HV.out, HW.out, HX.out, HM.out]; rfl, B0.out⟩
    · have HW : Hid (isE vl = false) := by show _ = false; exact decide_eq_false h2
      have h3 : vl.toList.isEmpty = false := by simpa using h2
      generalize akOk 1 ky vl lo hi mo bk = z0 at *
      go_enter Try.func73, Try.ntmps73
      go_wp2
      go_ret
      exact ⟨by rw [HV.out, HW.out]; rfl, B0.out⟩
  · by_cases k3 : k = 3
    · subst k3
      have HV := hid (akOk_3 ky vl lo hi mo bk)
      by_cases h2 : vl.toList = []
      · have HW : Hid (isE vl = true) := by show _ = true; exact decide_eq_true h2
        generalize akOk 3 ky vl lo hi mo bk = z0 at *
        have HX : Hid (akK ky vl lo hi mo bk = (uOk ky && (uvOk vl && ((isE lo && isE hi) && (decide (mo = 0) && !bk))))) := rfl
        generalize akK ky vl lo hi mo bk = zk at *
        generalize uOk ky = z1 at *
        generalize uvOk vl = z2 at *
        generalize (isE lo && isE hi) = z3 at *
        cases z1 with
        | false =>
          go_enter Try.func73, Try.ntmps73
          go_wp2_with fail
          refine (C1.out _).mono ?_
          rintro r w1 ⟨rfl, rfl⟩
          go_wp2
          go_ret
          exact ⟨by rw [HV.out, HW.out, HX.out]; rfl, B0.out⟩
        | true =>
          cases z2 with
          | false =>
            go_enter Try.func73, Try.ntmps73
            go_wp2_with fail
            refine (C1.out _).mono ?_
            rintro r w1 ⟨rfl, rfl⟩
            go_wp2_with fail
            refine (C2.out _).mono ?_
            rintro r w1 ⟨rfl, rfl⟩
            go_wp2
            go_ret
            exact ⟨by rw [HV.out, HW.out, HX.out]; rfl, B0.out⟩
          | true =>
            cases z3 with
            | false =>
              go_enter Try.func73, Try.ntmps73
              go_wp2_with fail
              refine (C1.out _).mono ?_
              rintro r w1 ⟨rfl, rfl⟩
              go_wp2_with fail
              refine (C2.out _).mono ?_
              rintro r w1 ⟨rfl, rfl⟩
              go_wp2
              go_ret
              exact ⟨by rw [HV.out, HW.out, HX.out]; rfl, B0.out⟩
            | true =>
              by_cases h5 : mo = 0
              · subst h5
                have HM : Hid (decide ((0 : Int) = 0) = true) := decide_eq_true rfl
                go_enter Try.func73, Try.ntmps73
                go_wp2_with fail
                refine (C1.out _).mono ?_
                rintro r w1 ⟨rfl, rfl⟩
                go_wp2_with fail
                refine (C2.out _).mono ?_
                rintro r w1 ⟨rfl, rfl⟩
                go_wp2
                go_ret
                exact ⟨by rw [HV.out, HW.out, HX.out, HM.out]; rfl, B0.out⟩
              · have HM : Hid (decide (mo = 0) = false) := decide_eq_false h5
                go_enter Try.func73, Try.ntmps73
                go_wp2_with fail
                refine (C1.out _).mono ?_
                rintro r w1 ⟨rfl, rfl⟩
                go_wp2_with fail
                refine (C2.out _).mono ?_
                rintro r w1 ⟨rfl, rfl⟩
                go_wp2
                go_ret
                exact ⟨by rw [HV.out, HW.out, HX.out, HM.out]; rfl, B0.out⟩
      · have HW : Hid (isE vl = false) := by show _ = false; exact decide_eq_false h2
        have h3 : vl.toList.isEmpty = false := by simpa using h2
        generalize akOk 3 ky vl lo hi mo bk = z0 at *
        go_enter Try.func73, Try.ntmps73
        go_wp2
        go_ret
        exact ⟨by rw [HV.out, HW.out]; rfl, B0.out⟩
    · by_cases k2 : k = 2
      · subst k2
        have HV := hid (akOk_2 ky vl lo hi mo bk)
        generalize akOk 2 ky vl lo hi mo bk = z0 at *
        have HX : Hid (akK ky vl lo hi mo bk = (uOk ky && (uvOk vl && ((isE lo && isE hi) && (decide (mo = 0) && !bk))))) := rfl
        generalize akK ky vl lo hi mo bk = zk at *
        generalize uOk ky = z1 at *
        generalize uvOk vl = z2 at *
        generalize (isE lo && isE hi) = z3 at *
        cases z1 with
        | false =>
          go_enter Try.func73, Try.ntmps73
          go_wp2_with fail
          refine (C1.out _).mono ?_
          rintro r w1 ⟨rfl, rfl⟩
          go_wp2
          go_ret
          exact ⟨by rw [HV.out, HX.out]; rfl, B0.out⟩
        | true =>
          cases z2 with
          | false =>
            go_enter Try.func73, Try.ntmps73
            go_wp2_with fail
            refine (C1.out _).mono ?_
            rintro r w1 ⟨rfl, rfl⟩
            go_wp2_with fail
            refine (C2.out _).mono ?_
            rintro r w1 ⟨rfl, rfl⟩
            go_wp2
            go_ret
            exact ⟨by rw [HV.out, HX.out]; rfl, B0.out⟩
          | true =>
            cases z3 with
            | false =>
              go_enter Try.func73, Try.ntmps73
              go_wp2_with fail
              refine (C1.out _).mono ?_
              rintro r w1 ⟨rfl, rfl⟩
              go_wp2_with fail
              refine (C2.out _).mono ?_
              rintro r w1 ⟨rfl, rfl⟩
              go_wp2
              go_ret
              exact ⟨by rw [HV.out, HX.out]; rfl, B0.out⟩
            | true =>
              by_cases h5 : mo = 0
              · subst h5
                have HM : Hid (decide ((0 : Int) = 0) = true) := decide_eq_true rfl
                go_enter Try.func73, Try.ntmps73
                go_wp2_with fail
                refine (C1.out _).mono ?_
                rintro r w1 ⟨rfl, rfl⟩
                go_wp2_with fail
                refine (C2.out _).mono ?_
                rintro r w1 ⟨rfl, rfl⟩
                go_wp2
                go_ret
                exact ⟨by rw [HV.out, HX.out, HM.out]; rfl, B0.out⟩
              · have HM : Hid (decide (mo = 0) = false) := decide_eq_false h5
                go_enter Try.func73, Try.ntmps73
                go_wp2_with fail
                refine (C1.out _).mono ?_
                rintro r w1 ⟨rfl, rfl⟩
                go_wp2_with fail
                refine (C2.out _).mono ?_
                rintro r w1 ⟨rfl, rfl⟩
                go_wp2
                go_ret
                exact ⟨by rw [HV.out, HX.out, HM.out]; rfl, B0.out⟩
      · by_cases k4 : k = 4
        · subst k4
          have HV := hid (akOk_4 ky vl lo hi mo bk)
          generalize akOk 4 ky vl lo hi mo bk = z0 at *
          have HX : Hid (akS ky vl lo hi mo = ((decide (1 ≤ mo) && decide (mo ≤ 8)) && (rchOk lo hi && (isE ky && isE vl)))) := rfl
          generalize akS ky vl lo hi mo = zk at *
          generalize rchOk lo hi = z1 at *
          clear hq hg C1 C2
          by_cases h1 : ky.toList = []
          · have HW1 : Hid (isE ky = true) := by show _ = true; exact decide_eq_true h1
            by_cases h2 : vl.toList = []
            · have HW2 : Hid (isE vl = true) := by show _ = true; exact decide_eq_true h2
              have K0 := hid ((Bk.new w 64 [.int .i64 4, .string ky, .string vl, .string lo, .string hi, .int .i64 mo, .bool bk]).alloc (.cells #[.string ⟨#[]⟩, .string ⟨#[]⟩] 27))
              cases z1 with
              | false =>
                go_enter Try.func73, Try.ntmps73
                go_wp2_with fail
                refine (C3.out _).mono ?_
                generalize (w.alloc (.cells #[.int .i64 4, .string ky, .string vl, .string lo, .string hi, .int .i64 mo, .bool bk] 64)).alloc (.cells #[.string ⟨#[]⟩, .string ⟨#[]⟩] 27) = U at *
                rintro r w1 ⟨rfl, hb⟩
                have K1 := hid (K0.out.below hb)
                have B1 := hid (B0.out.trans (hb.mono B0.out.size))
                clear K0 B0 hb
                have x0 := K1.out.cell (j := 0) rfl
                have x1 := K1.out.cell (j := 1) rfl
                have x2 := K1.out.cell (j := 2) rfl
                have x3 := K1.out.cell (j := 3) rfl
                have x4 := K1.out.cell (j := 4) rfl
                have x5 := K1.out.cell (j := 5) rfl
                have x6 := K1.out.cell (j := 6) rfl
                go_wp2
                go_ret
                exact ⟨by rw [HV.out, HX.out, HW1.out, HW2.out]; simp, B1.out⟩
              | true =>
                by_cases m1 : 1 ≤ mo
                · have HD : Hid (decide (1 ≤ mo) = true) := decide_eq_true m1
                  go_enter Try.func73, Try.ntmps73
                  go_wp2_with fail
                  refine (C3.out _).mono ?_
                  generalize (w.alloc (.cells #[.int .i64 4, .string ky, .string vl, .string lo, .string hi, .int .i64 mo, .bool bk] 64)).alloc (.cells #[.string ⟨#[]⟩, .string ⟨#[]⟩] 27) = U at *
                  rintro r w1 ⟨rfl, hb⟩
                  have K1 := hid (K0.out.below hb)
                  have B1 := hid (B0.out.trans (hb.mono B0.out.size))
                  clear K0 B0 hb
                  have x0 := K1.out.cell (j := 0) rfl
                  have x1 := K1.out.cell (j := 1) rfl
                  have x2 := K1.out.cell (j := 2) rfl
                  have x3 := K1.out.cell (j := 3) rfl
                  have x4 := K1.out.cell (j := 4) rfl
                  have x5 := K1.out.cell (j := 5) rfl
                  have x6 := K1.out.cell (j := 6) rfl
                  go_wp2
                  go_ret
                  exact ⟨by rw [HV.out, HX.out, HW1.out, HW2.out, HD.out]; simp, B1.out⟩
                · have HD : Hid (decide (1 ≤ mo) = false) := decide_eq_false m1
                  go_enter Try.func73, Try.ntmps73
                  go_wp2_with fail
                  refine (C3.out _).mono ?_
                  generalize (w.alloc (.cells #[.int .i64 4, .string ky, .string vl, .string lo, .string hi, .int .i64 mo, .bool bk] 64)).alloc (.cells #[.string ⟨#[]⟩, .string ⟨#[]⟩] 27) = U at *
                  rintro r w1 ⟨rfl, hb⟩
                  have K1 := hid (K0.out.below hb)
                  have B1 := hid (B0.out.trans (hb.mono B0.out.size))
                  clear K0 B0 hb
                  have x0 := K1.out.cell (j := 0) rfl
                  have x1 := K1.out.cell (j := 1) rfl
                  have x2 := K1.out.cell (j := 2) rfl
                  have x3 := K1.out.cell (j := 3) rfl
                  have x4 := K1.out.cell (j := 4) rfl
                  have x5 := K1.out.cell (j := 5) rfl
                  have x6 := K1.out.cell (j := 6) rfl
                  go_wp2
                  go_ret
                  exact ⟨by rw [HV.out, HX.out, HW1.out, HW2.out, HD.out]; simp, B1.out⟩
            · have HW2 : Hid (isE vl = false) := by show _ = false; exact decide_eq_false h2
              have h3 : vl.toList.isEmpty = false := by simpa using h2
              go_enter Try.func73, Try.ntmps73
              go_wp2
              go_ret
              exact ⟨by rw [HV.out, HX.out, HW1.out, HW2.out]; simp, B0.out⟩
          · have HW1 : Hid (isE ky = false) := by show _ = false; exact decide_eq_false h1
            have h3 : ky.toList.isEmpty = false := by simpa using h1
            go_enter Try.func73, Try.ntmps73
            go_wp2
            go_ret
            exact ⟨by rw [HV.out, HX.out, HW1.out]; simp, B0.out⟩
        · have HV := hid (akOk_no k1 k2 k3 k4 ky vl lo hi mo bk)
          clear hq hg C1 C2 C3
          by_cases h2 : vl.toList = []
          · by_cases g1 : 1 ≤ k
            · have g2 : ¬ k ≤ 3 := by omega
              go_enter Try.func73, Try.ntmps73
              go_wp2
              go_ret
              exact ⟨by rw [HV.out]; rfl, B0.out⟩
            · skip
              go_enter Try.func73, Try.ntmps73
              go_wp2
              go_ret
              exact ⟨by rw [HV.out]; rfl, B0.out⟩
          · have h3 : vl.toList.isEmpty = false := by simpa using h2
            go_enter Try.func73, Try.ntmps73
            go_wp2
            go_ret
            exact ⟨by rw [HV.out]; rfl, B0.out⟩
end Go.Proofs.Ytcpdedpgjaimkaa

