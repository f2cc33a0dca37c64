/-
  Records: when one is right, on both sides; what the law's helpers do with one; the laws FnExactReachOk and FnExactRecOk.
-/
import Derived.Test.YtgnjknbgahickabDoorRcU
import Derived.Test.YtgnjknbgahickabDoorRng2
import Derived.Test.YtgnjknbgahickabDoorPairL
import Derived.Laws.StructEq
namespace Go.Proofs.YtgnjknbgahickabDoor
open Go.RowKit
set_option linter.unusedVariables false
def isE (s : ByteArray) : Bool := decide (s.toList = [])
def rchOk (lo hi : ByteArray) : Bool := rOk lo hi && (decide (lo.size ≤ 9) && decide (hi.size ≤ 9))
def rcOk (k : Int) (ky vl lo hi : ByteArray) : Bool :=
  if k = 1 then uOk ky && (uvOk vl && (isE lo && isE hi)) else if k = 2 then uOk ky && (isE vl && (isE lo && isE hi)) else if k = 3 ∨ k = 4 then isE ky && (isE vl && rchOk lo hi) else false
theorem rcOk_1 (ky vl lo hi : ByteArray) : rcOk 1 ky vl lo hi = (uOk ky && (uvOk vl && (isE lo && isE hi))) := rfl
theorem rcOk_2 (ky vl lo hi : ByteArray) : rcOk 2 ky vl lo hi = (uOk ky && (isE vl && (isE lo && isE hi))) := rfl
theorem rcOk_3 (ky vl lo hi : ByteArray) : rcOk 3 ky vl lo hi = (isE ky && (isE vl && rchOk lo hi)) := rfl
theorem rcOk_4 (ky vl lo hi : ByteArray) : rcOk 4 ky vl lo hi = (isE ky && (isE vl && rchOk lo hi)) := rfl
theorem rcOk_no {k : Int} (h1 : ¬ k = 1) (h2 : ¬ k = 2) (h3 : ¬ k = 3) (h4 : ¬ k = 4) (ky vl lo hi : ByteArray) : rcOk k ky vl lo hi = false := by simp [rcOk, h1, h2, h3, h4]
theorem btR {u v w : World} (h : Below u.heap.size u v) (k : Below v.heap.size v w) : Below u.heap.size u w := h.trans (k.mono h.size)
theorem eqIn_rng (lo hi lo' hi' : ByteArray) (w : World) : (Op.equalIn 10000 28 (.agg #[.string lo, .string hi]) (.agg #[.string lo', .string hi'])).run Tryd.prog w = .ok (lo.toList == lo'.toList && hi.toList == hi'.toList) w := by
  rw [run_equalIn_struct w 9999 28 _ _ (by kernel_rfl) (by kernel_rfl)]
  obtain ⟨f0, f1, hu, n0, n1, t0, t1, o0, o1⟩ : ∃ f0 f1 : Field, Tryd.prog.underlying 28 = some (.struct #[f0, f1]) ∧ f0.name = "Lo" ∧ f1.name = "Hi" ∧ f0.type = 9 ∧ f1.type = 9 ∧ f0.offset = 0 ∧ f1.offset = 1 := ⟨_, _, Tryd.underlying28, rfl, rfl, rfl, rfl, rfl, rfl⟩
  have hl : (Tryd.prog.fieldsOf 28).toList = [f0, f1] := by simp [Program.fieldsOf, hu]
  rw [hl]
  have p0 : ∀ (x y : Value) (w : World), (Go.part 9 #[x, y] 0).run Tryd.prog w = .ok x w := fun x y w => by kernel_rfl
  have p1 : ∀ (x y : Value) (w : World), (Go.part 9 #[x, y] 1).run Tryd.prog w = .ok y w := fun x y w => by kernel_rfl
  have hs : ∀ (a b : ByteArray) (w : World), (Op.equalIn 9999 9 (.string a) (.string b)).run Tryd.prog w = .ok (a.toList == b.toList) w := fun a b w => run_equalIn_string w 9998 9 a b (by kernel_rfl)
  have q0 : ("Lo" : String) ≠ "_" := by decide
  have q1 : ("Hi" : String) ≠ "_" := by decide
  simp only [Op.eqFields, n0, n1, t0, t1, o0, o1, if_pos q0, if_pos q1, Sem.run_bind, p0, p1, hs, Result.andThen_ok, Sem.run_ite, Sem.run_pure]
  cases h0 : (lo.toList == lo'.toList)
  · simp
  · cases h1 : (hi.toList == hi'.toList) <;> simp
theorem isE_beq (s : ByteArray) : (s.toList == (⟨#[]⟩ : ByteArray).toList) = isE s := by
  unfold isE
  rw [show (⟨#[]⟩ : ByteArray).toList = [] by rw [ByteArray.toList_eq]]
  cases h : s.toList with
  | nil => rfl
  | cons a l => rfl
theorem eql_rng0 (lo hi : ByteArray) (w : World) : (binOp .eql 28 (.agg #[.string lo, .string hi]) (.agg #[.string ⟨#[]⟩, .string ⟨#[]⟩])).run Tryd.prog w = .ok (.bool (isE lo && isE hi)) w := by
  rw [run_eql_struct, eqIn_rng, isE_beq, isE_beq]; rfl
theorem guard_rng (op : BinOp) (x y : Operand) (xs ys : Array Value) (w : World) : (eqGuard op 28 x y (.agg xs) (.agg ys)).run Tryd.prog w = .ok () w := run_eqGuard_agg w op 28 x y xs ys (by kernel_rfl)
theorem load_rec {w : World} {g : Nat} {k : Int} {ky vl lo hi : ByteArray} (c0 : w.cell? ⟨g, 0, none⟩ = some (.int .i64 k)) (c1 : w.cell? ⟨g, 1, none⟩ = some (.string ky)) (c2 : w.cell? ⟨g, 2, none⟩ = some (.string vl)) (c3 : w.cell? ⟨g, 3, none⟩ = some (.string lo)) (c4 : w.cell? ⟨g, 4, none⟩ = some (.string hi)) :
    (loadVar 30 ⟨g, 0, none⟩).run Tryd.prog w = .ok (.agg #[.int .i64 k, .string ky, .string vl, .string lo, .string hi]) w := by go_simp
theorem results_rec {fn : Func} {p : Tmp} (h : fn.results = #[.cell p 30]) (tmps : Array Value) (w : World) (g : Nat) {k : Int} {ky vl lo hi : ByteArray} (hp : tmps.getD p undef = .pointer (some ⟨g, 0, none⟩))
    (c0 : w.cell? ⟨g, 0, none⟩ = some (.int .i64 k)) (c1 : w.cell? ⟨g, 1, none⟩ = some (.string ky)) (c2 : w.cell? ⟨g, 2, none⟩ = some (.string vl)) (c3 : w.cell? ⟨g, 3, none⟩ = some (.string lo)) (c4 : w.cell? ⟨g, 4, none⟩ = some (.string hi)) :
    (results fn tmps).run Tryd.prog w = .ok (.agg #[.int .i64 k, .string ky, .string vl, .string lo, .string hi]) w := by
  have hp' : tmps[p]?.getD undef = .pointer (some ⟨g, 0, none⟩) := by simpa using hp
  simp [results, h, hp', asAddr, load_rec c0 c1 c2 c3 c4]
theorem results_rec_bool {fn : Func} {p u : Tmp} (h : fn.results = #[.cell p 30, .tmp u]) (tmps : Array Value) (w : World) (g : Nat) {k : Int} {ky vl lo hi : ByteArray} {b : Value} (hp : tmps.getD p undef = .pointer (some ⟨g, 0, none⟩)) (hb : tmps.getD u undef = b)
    (c0 : w.cell? ⟨g, 0, none⟩ = some (.int .i64 k)) (c1 : w.cell? ⟨g, 1, none⟩ = some (.string ky)) (c2 : w.cell? ⟨g, 2, none⟩ = some (.string vl)) (c3 : w.cell? ⟨g, 3, none⟩ = some (.string lo)) (c4 : w.cell? ⟨g, 4, none⟩ = some (.string hi)) :
    (results fn tmps).run Tryd.prog w = .ok (.tuple #[.agg #[.int .i64 k, .string ky, .string vl, .string lo, .string hi], b]) w := by
  have hp' : tmps[p]?.getD undef = .pointer (some ⟨g, 0, none⟩) := by simpa using hp
  have hb' : tmps[u]?.getD undef = b := by simpa using hb
  simp [results, h, hp', hb', asAddr, load_rec c0 c1 c2 c3 c4]
set_option maxHeartbeats 1600000 in
theorem implReachOk_any (lo hi : ByteArray) (w : World) : Calls Tryd.prog 54 #[.agg #[.string lo, .string hi]] w fun r w' => r = .returned (.bool (rchOk lo hi)) ∧ Below w.heap.size w w' := by
  have HV : Hid (rchOk lo hi = (rOk lo hi && (decide (lo.size ≤ 9) && decide (hi.size ≤ 9)))) := rfl
  have C1 : Hid (∀ w, Calls Tryd.prog 68 #[.agg #[.string lo, .string hi]] w fun r w' => r = .returned (.bool (rOk lo hi)) ∧ Below w.heap.size w w') := fun w => implRangeOk_any lo hi w
  generalize rOk lo hi = z1 at *
  have B0 := hid (below_new (o := .cells #[.string lo, .string hi] 28) (w := w) (Below.refl _ _))
  have K0 := hid (Bk.new w 28 [.string lo, .string hi])
  cases z1 with
  | false =>
    go_enter Tryd.func54, Tryd.ntmps54
    go_wp2_with fail
    refine (C1.out _).mono ?_
    generalize w.alloc (.cells #[.string lo, .string hi] 28) = U at *
    rintro r w1 ⟨rfl, hb⟩
    have K1 := hid (K0.out.below hb)
    have B1 := hid (B0.out.trans (hb.mono B0.out.size))
    clear K0 B0 hb
    have x0 := K1.out.cell (j := 0) rfl
    have x1 := K1.out.cell (j := 1) rfl
    go_wp2
    go_ret
    exact ⟨by rw [HV.out]; rfl, B1.out⟩
  | true =>
    by_cases h : lo.size ≤ 9
    · have h1 : (lo.size : Int) ≤ 9 := by omega
      have HH : Hid (decide (hi.size ≤ 9) = decide ((hi.size : Int) ≤ 9)) := by show _ = _; simp; omega
      go_enter Tryd.func54, Tryd.ntmps54
      go_wp2_with fail
      refine (C1.out _).mono ?_
      generalize w.alloc (.cells #[.string lo, .string hi] 28) = U at *
      rintro r w1 ⟨rfl, hb⟩
      have K1 := hid (K0.out.below hb)
      have B1 := hid (B0.out.trans (hb.mono B0.out.size))
      clear K0 B0 hb
      have x0 := K1.out.cell (j := 0) rfl
      have x1 := K1.out.cell (j := 1) rfl
      go_wp2
      go_ret
      exact ⟨by rw [HV.out, decide_eq_true h, HH.out]; rfl, B1.out⟩
    · have h1 : ¬ (lo.size : Int) ≤ 9 := by omega
      go_enter Tryd.func54, Tryd.ntmps54
      go_wp2_with fail
      refine (C1.out _).mono ?_
      generalize w.alloc (.cells #[.string lo, .string hi] 28) = U at *
      rintro r w1 ⟨rfl, hb⟩
      have K1 := hid (K0.out.below hb)
      have B1 := hid (B0.out.trans (hb.mono B0.out.size))
      clear K0 B0 hb
      have x0 := K1.out.cell (j := 0) rfl
      have x1 := K1.out.cell (j := 1) rfl
      go_wp2
      go_ret
      exact ⟨by rw [HV.out, decide_eq_false h]; rfl, B1.out⟩
set_option maxHeartbeats 1600000 in
theorem specReachOk_any (lo hi : ByteArray) (w : World) : Calls Tryd.prog 50 #[.agg #[.string lo, .string hi]] w fun r w' => r = .returned (.bool (rchOk lo hi)) ∧ Below w.heap.size w w' := by
  have HV : Hid (rchOk lo hi = (rOk lo hi && (decide (lo.size ≤ 9) && decide (hi.size ≤ 9)))) := rfl
  have C1 : Hid (∀ w, Calls Tryd.prog 67 #[.agg #[.string lo, .string hi]] w fun r w' => r = .returned (.bool (rOk lo hi)) ∧ Below w.heap.size w w') := fun w => specRangeOk_any lo hi w
  generalize rOk lo hi = z1 at *
  have B0 := hid (below_new (o := .cells #[.string lo, .string hi] 28) (w := w) (Below.refl _ _))
  have K0 := hid (Bk.new w 28 [.string lo, .string hi])
  cases z1 with
  | false =>
    go_enter Tryd.func50, Tryd.ntmps50
    go_wp2_with fail
    refine (C1.out _).mono ?_
    generalize w.alloc (.cells #[.string lo, .string hi] 28) = U at *
    rintro r w1 ⟨rfl, hb⟩
    have K1 := hid (K0.out.below hb)
    have B1 := hid (B0.out.trans (hb.mono B0.out.size))
    clear K0 B0 hb
    have x0 := K1.out.cell (j := 0) rfl
    have x1 := K1.out.cell (j := 1) rfl
    go_wp2
    go_ret
    exact ⟨by rw [HV.out]; rfl, B1.out⟩
  | true =>
    by_cases h : lo.size ≤ 9
    · have h1 : (lo.size : Int) ≤ 9 := by omega
      have HH : Hid (decide (hi.size ≤ 9) = decide ((hi.size : Int) ≤ 9)) := by show _ = _; simp; omega
      go_enter Tryd.func50, Tryd.ntmps50
      go_wp2_with fail
      refine (C1.out _).mono ?_
      generalize w.alloc (.cells #[.string lo, .string hi] 28) = U at *
      rintro r w1 ⟨rfl, hb⟩
      have K1 := hid (K0.out.below hb)
      have B1 := hid (B0.out.trans (hb.mono B0.out.size))
      clear K0 B0 hb
      have x0 := K1.out.cell (j := 0) rfl
      have x1 := K1.out.cell (j := 1) rfl
      go_wp2
      go_ret
      exact ⟨by rw [HV.out, decide_eq_true h, HH.out]; rfl, B1.out⟩
    · have h1 : ¬ (lo.size : Int) ≤ 9 := by omega
      go_enter Tryd.func50, Tryd.ntmps50
      go_wp2_with fail
      refine (C1.out _).mono ?_
      generalize w.alloc (.cells #[.string lo, .string hi] 28) = U at *
      rintro r w1 ⟨rfl, hb⟩
      have K1 := hid (K0.out.below hb)
      have B1 := hid (B0.out.trans (hb.mono B0.out.size))
      clear K0 B0 hb
      have x0 := K1.out.cell (j := 0) rfl
      have x1 := K1.out.cell (j := 1) rfl
      go_wp2
      go_ret
      exact ⟨by rw [HV.out, decide_eq_false h]; rfl, B1.out⟩
set_option maxHeartbeats 3200000 in
theorem implRecOk_any (k : Int) (ky vl lo hi : ByteArray) (w : World) : Calls Tryd.prog 26 #[.agg #[.int .i64 k, .string ky, .string vl, .string lo, .string hi]] w fun r w' => r = .returned (.bool (rcOk k ky vl lo hi)) ∧ Below w.heap.size w w' := by
  have hq := eql_rng0 lo hi
  have hg := guard_rng .eql
  have C1 := hid (fun w => implUserOk_any ky w)
  have C2 := hid (fun w => implUvalOk_any vl w)
  have C3 : Hid (∀ w, Calls Tryd.prog 54 #[.agg #[.string lo, .string hi]] w fun r w' => r = .returned (.bool (rchOk lo hi)) ∧ Below w.heap.size w w') := fun w => implReachOk_any lo hi w
  have B0 := hid (below_new (o := .cells #[.int .i64 k, .string ky, .string vl, .string lo, .string hi] 30) (w := w) (Below.refl _ _))
  have hE1 : isE ky = decide (ky.toList = []) := rfl
  have hE2 : isE vl = decide (vl.toList = []) := rfl
  have HE1 := hid hE1
  have HE2 := hid hE2
  clear hE1 hE2
  by_cases k1 : k = 1
  · subst k1
    have HV := hid (rcOk_1 ky vl lo hi)
    clear C3 HE1 HE2
    generalize uOk ky = z1 at *
    generalize uvOk vl = z2 at *
    generalize (isE lo && isE hi) = z3 at *
    cases z1 with
    | false =>
      go_enter Tryd.func26, Tryd.ntmps26
      go_wp2_with fail
      refine (C1.out _).mono ?_
      rintro r w1 ⟨rfl, rfl⟩
      go_wp2
      go_ret
      exact ⟨by rw [HV.out]; rfl, B0.out⟩
    | true =>
      cases z2 with
      | false =>
        go_enter Tryd.func26, Tryd.ntmps26
        go_wp2_with fail
        refine (C1.out _).mono ?_
        rintro r w1 ⟨rfl, rfl⟩
        go_wp2_with fail
        refine (C2.out _).mono ?_
        rintro r w1 ⟨rfl, rfl⟩
        go_wp2
        go_ret
        exact ⟨by rw [HV.out]; rfl, B0.out⟩
      | true =>
        go_enter Tryd.func26, Tryd.ntmps26
        go_wp2_with fail
        refine (C1.out _).mono ?_
        rintro r w1 ⟨rfl, rfl⟩
        go_wp2_with fail
        refine (C2.out _).mono ?_
        rintro r w1 ⟨rfl, rfl⟩
        go_wp2
        go_ret
        exact ⟨by rw [HV.out]; rfl, B0.out⟩
  · by_cases k2 : k = 2
    · subst k2
      have HV := hid (rcOk_2 ky vl lo hi)
      clear C2 C3 HE1
      generalize uOk ky = z1 at *
      generalize (isE lo && isE hi) = z3 at *
      cases z1 with
      | false =>
        go_enter Tryd.func26, Tryd.ntmps26
        go_wp2_with fail
        refine (C1.out _).mono ?_
        rintro r w1 ⟨rfl, rfl⟩
        go_wp2
        go_ret
        exact ⟨by rw [HV.out]; rfl, B0.out⟩
      | true =>
        by_cases h2 : vl.toList = []
        · have HW : Hid (isE vl = true) := by show _ = true; rw [HE2.out]; exact decide_eq_true h2
          go_enter Tryd.func26, Tryd.ntmps26
          go_wp2_with fail
          refine (C1.out _).mono ?_
          rintro r w1 ⟨rfl, rfl⟩
          go_wp2
          go_ret
          exact ⟨by rw [HV.out, HW.out]; rfl, B0.out⟩
        · have HW : Hid (isE vl = false) := by show _ = false; rw [HE2.out]; exact decide_eq_false h2
          have h3 : vl.toList.isEmpty = false := by simpa using h2
          go_enter Tryd.func26, Tryd.ntmps26
          go_wp2_with fail
          refine (C1.out _).mono ?_
          rintro r w1 ⟨rfl, rfl⟩
          go_wp2
          go_ret
          exact ⟨by rw [HV.out, HW.out]; rfl, B0.out⟩
    · by_cases k3 : k = 3 ∨ k = 4
      · have HV : Hid (rcOk k ky vl lo hi = (isE ky && (isE vl && rchOk lo hi))) := by rcases k3 with rfl | rfl <;> rfl
        clear C1 C2 hq hg
        generalize rchOk lo hi = z3 at *
        generalize rcOk k ky vl lo hi = z4 at *
        rcases k3 with rfl | rfl
        · by_cases h1 : ky.toList = []
          · have HW1 : Hid (isE ky = true) := by show _ = true; rw [HE1.out]; exact decide_eq_true h1
            by_cases h2 : vl.toList = []
            · have HW2 : Hid (isE vl = true) := by show _ = true; rw [HE2.out]; exact decide_eq_true h2
              go_enter Tryd.func26, Tryd.ntmps26
              go_wp2_with fail
              refine (C3.out _).mono ?_
              rintro r w1 ⟨rfl, hb⟩
              have B1 := hid (btR B0.out hb)
              clear hb B0
              go_wp2
              go_ret
              exact ⟨by rw [HV.out, HW1.out, HW2.out]; rfl, B1.out⟩
            · have HW2 : Hid (isE vl = false) := by show _ = false; rw [HE2.out]; exact decide_eq_false h2
              have h3 : vl.toList.isEmpty = false := by simpa using h2
              go_enter Tryd.func26, Tryd.ntmps26
              go_wp2
              go_ret
              exact ⟨by rw [HV.out, HW1.out, HW2.out]; rfl, B0.out⟩
          · have HW1 : Hid (isE ky = false) := by show _ = false; rw [HE1.out]; exact decide_eq_false h1
            have h3 : ky.toList.isEmpty = false := by simpa using h1
            go_enter Tryd.func26, Tryd.ntmps26
            go_wp2
            go_ret
            exact ⟨by rw [HV.out, HW1.out]; rfl, B0.out⟩
        · by_cases h1 : ky.toList = []
          · have HW1 : Hid (isE ky = true) := by show _ = true; rw [HE1.out]; exact decide_eq_true h1
            by_cases h2 : vl.toList = []
            · have HW2 : Hid (isE vl = true) := by show _ = true; rw [HE2.out]; exact decide_eq_true h2
              go_enter Tryd.func26, Tryd.ntmps26
              go_wp2_with fail
              refine (C3.out _).mono ?_
              rintro r w1 ⟨rfl, hb⟩
              have B1 := hid (btR B0.out hb)
              clear hb B0
              go_wp2
              go_ret
              exact ⟨by rw [HV.out, HW1.out, HW2.out]; rfl, B1.out⟩
            · have HW2 : Hid (isE vl = false) := by show _ = false; rw [HE2.out]; exact decide_eq_false h2
              have h3 : vl.toList.isEmpty = false := by simpa using h2
              go_enter Tryd.func26, Tryd.ntmps26
              go_wp2
              go_ret
              exact ⟨by rw [HV.out, HW1.out, HW2.out]; rfl, B0.out⟩
          · have HW1 : Hid (isE ky = false) := by show _ = false; rw [HE1.out]; exact decide_eq_false h1
            have h3 : ky.toList.isEmpty = false := by simpa using h1
            go_enter Tryd.func26, Tryd.ntmps26
            go_wp2
            go_ret
            exact ⟨by rw [HV.out, HW1.out]; rfl, B0.out⟩
      · have k4 : ¬ k = 3 := fun h => k3 (.inl h)
        have k5 : ¬ k = 4 := fun h => k3 (.inr h)
        have HV := hid (rcOk_no k1 k2 k4 k5 ky vl lo hi)
        clear k3 hq hg C1 C2 C3
        go_enter Tryd.func26, Tryd.ntmps26
        go_wp2
        go_ret
        exact ⟨by rw [HV.out]; rfl, B0.out⟩
set_option maxHeartbeats 3200000 in
theorem specRecOk_any (k : Int) (ky vl lo hi : ByteArray) (w : World) : Calls Tryd.prog 23 #[.agg #[.int .i64 k, .string ky, .string vl, .string lo, .string hi]] w fun r w' => r = .returned (.bool (rcOk k ky vl lo hi)) ∧ Below w.heap.size w w' := by
  have hq := eql_rng0 lo hi
  have hg := guard_rng .eql
  have C1 := hid (fun w => specUserOk_any ky w)
  have C2 := hid (fun w => specUvalOk_any vl w)
  have C3 : Hid (∀ w, Calls Tryd.prog 50 #[.agg #[.string lo, .string hi]] w fun r w' => r = .returned (.bool (rchOk lo hi)) ∧ Below w.heap.size w w') := fun w => specReachOk_any lo hi w
  have B0 := hid (below_new (o := .cells #[.int .i64 k, .string ky, .string vl, .string lo, .string hi] 30) (w := w) (below_new (o := .cells #[.string ⟨#[]⟩, .string ⟨#[]⟩] 28) (w := w.alloc (.cells #[.int .i64 k, .string ky, .string vl, .string lo, .string hi] 30)) (Below.refl _ _)))
  have hE1 : isE ky = decide (ky.toList = []) := rfl
  have hE2 : isE vl = decide (vl.toList = []) := rfl
  have HE1 := hid hE1
  have HE2 := hid hE2
  clear hE1 hE2
  by_cases k1 : k = 1
  · subst k1
    have HV := hid (rcOk_1 ky vl lo hi)
    clear C3 HE1 HE2
    generalize uOk ky = z1 at *
    generalize uvOk vl = z2 at *
    generalize (isE lo && isE hi) = z3 at *
    cases z1 with
    | false =>
      go_enter Tryd.func23, Tryd.ntmps23
      go_wp2_with fail
      refine (C1.out _).mono ?_
      rintro r w1 ⟨rfl, rfl⟩
      go_wp2
      go_ret
      exact ⟨by rw [HV.out]; rfl, B0.out⟩
    | true =>
      cases z2 with
      | false =>
        go_enter Tryd.func23, Tryd.ntmps23
        go_wp2_with fail
        refine (C1.out _).mono ?_
        rintro r w1 ⟨rfl, rfl⟩
        go_wp2_with fail
        refine (C2.out _).mono ?_
        rintro r w1 ⟨rfl, rfl⟩
        go_wp2
        go_ret
        exact ⟨by rw [HV.out]; rfl, B0.out⟩
      | true =>
        go_enter Tryd.func23, Tryd.ntmps23
        go_wp2_with fail
        refine (C1.out _).mono ?_
        rintro r w1 ⟨rfl, rfl⟩
        go_wp2_with fail
        refine (C2.out _).mono ?_
        rintro r w1 ⟨rfl, rfl⟩
        go_wp2
        go_ret
        exact ⟨by rw [HV.out]; rfl, B0.out⟩
  · by_cases k2 : k = 2
    · subst k2
      have HV := hid (rcOk_2 ky vl lo hi)
      clear C2 C3 HE1
      generalize uOk ky = z1 at *
      generalize (isE lo && isE hi) = z3 at *
      cases z1 with
      | false =>
        go_enter Tryd.func23, Tryd.ntmps23
        go_wp2_with fail
        refine (C1.out _).mono ?_
        rintro r w1 ⟨rfl, rfl⟩
        go_wp2
        go_ret
        exact ⟨by rw [HV.out]; rfl, B0.out⟩
      | true =>
        by_cases h2 : vl.toList = []
        · have HW : Hid (isE vl = true) := by show _ = true; rw [HE2.out]; exact decide_eq_true h2
          go_enter Tryd.func23, Tryd.ntmps23
          go_wp2_with fail
          refine (C1.out _).mono ?_
          rintro r w1 ⟨rfl, rfl⟩
          go_wp2
          go_ret
          exact ⟨by rw [HV.out, HW.out]; rfl, B0.out⟩
        · have HW : Hid (isE vl = false) := by show _ = false; rw [HE2.out]; exact decide_eq_false h2
          have h3 : vl.toList.isEmpty = false := by simpa using h2
          go_enter Tryd.func23, Tryd.ntmps23
          go_wp2_with fail
          refine (C1.out _).mono ?_
          rintro r w1 ⟨rfl, rfl⟩
          go_wp2
          go_ret
          exact ⟨by rw [HV.out, HW.out]; rfl, B0.out⟩
    · by_cases k3 : k = 3 ∨ k = 4
      · have HV : Hid (rcOk k ky vl lo hi = (isE ky && (isE vl && rchOk lo hi))) := by rcases k3 with rfl | rfl <;> rfl
        clear C1 C2 hq hg
        generalize rchOk lo hi = z3 at *
        generalize rcOk k ky vl lo hi = z4 at *
        rcases k3 with rfl | rfl
        · by_cases h1 : ky.toList = []
          · have HW1 : Hid (isE ky = true) := by show _ = true; rw [HE1.out]; exact decide_eq_true h1
            by_cases h2 : vl.toList = []
            · have HW2 : Hid (isE vl = true) := by show _ = true; rw [HE2.out]; exact decide_eq_true h2
              go_enter Tryd.func23, Tryd.ntmps23
              go_wp2_with fail
              refine (C3.out _).mono ?_
              rintro r w1 ⟨rfl, hb⟩
              have B1 := hid (btR B0.out hb)
              clear hb B0
              go_wp2
              go_ret
              exact ⟨by rw [HV.out, HW1.out, HW2.out]; rfl, B1.out⟩
            · have HW2 : Hid (isE vl = false) := by show _ = false; rw [HE2.out]; exact decide_eq_false h2
              have h3 : vl.toList.isEmpty = false := by simpa using h2
              go_enter Tryd.func23, Tryd.ntmps23
              go_wp2
              go_ret
              exact ⟨by rw [HV.out, HW1.out, HW2.out]; rfl, B0.out⟩
          · have HW1 : Hid (isE ky = false) := by show _ = false; rw [HE1.out]; exact decide_eq_false h1
            have h3 : ky.toList.isEmpty = false := by simpa using h1
            go_enter Tryd.func23, Tryd.ntmps23
            go_wp2
            go_ret
            exact ⟨by rw [HV.out, HW1.out]; rfl, B0.out⟩
        · by_cases h1 : ky.toList = []
          · have HW1 : Hid (isE ky = true) := by show _ = true; rw [HE1.out]; exact decide_eq_true h1
            by_cases h2 : vl.toList = []
            · have HW2 : Hid (isE vl = true) := by show _ = true; rw [HE2.out]; exact decide_eq_true h2
              go_enter Tryd.func23, Tryd.ntmps23
              go_wp2_with fail
              refine (C3.out _).mono ?_
              rintro r w1 ⟨rfl, hb⟩
              have B1 := hid (btR B0.out hb)
              clear hb B0
              go_wp2
              go_ret
              exact ⟨by rw [HV.out, HW1.out, HW2.out]; rfl, B1.out⟩
            · have HW2 : Hid (isE vl = false) := by show _ = false; rw [HE2.out]; exact decide_eq_false h2
              have h3 : vl.toList.isEmpty = false := by simpa using h2
              go_enter Tryd.func23, Tryd.ntmps23
              go_wp2
              go_ret
              exact ⟨by rw [HV.out, HW1.out, HW2.out]; rfl, B0.out⟩
          · have HW1 : Hid (isE ky = false) := by show _ = false; rw [HE1.out]; exact decide_eq_false h1
            have h3 : ky.toList.isEmpty = false := by simpa using h1
            go_enter Tryd.func23, Tryd.ntmps23
            go_wp2
            go_ret
            exact ⟨by rw [HV.out, HW1.out]; rfl, B0.out⟩
      · have k4 : ¬ k = 3 := fun h => k3 (.inl h)
        have k5 : ¬ k = 4 := fun h => k3 (.inr h)
        have HV := hid (rcOk_no k1 k2 k4 k5 ky vl lo hi)
        clear k3 hq hg C1 C2 C3
        go_enter Tryd.func23, Tryd.ntmps23
        go_wp2
        go_ret
        exact ⟨by rw [HV.out]; rfl, B0.out⟩
set_option maxHeartbeats 1600000 in
theorem toRec_any (k : Int) (ky vl lo hi : ByteArray) (w : World) : Calls Tryd.prog 8 #[.agg #[.int .i64 k, .string ky, .string vl, .string lo, .string hi]] w fun r w' => r = .returned (.agg #[.int .i64 k, .string ky, .string vl, .string lo, .string hi]) ∧ Below w.heap.size w w' := by
  have C1 : Hid (∀ w, Calls Tryd.prog 25 #[.agg #[.string lo, .string hi]] w fun r w' => r = .returned (.agg #[.string lo, .string hi]) ∧ Below w.heap.size w w') := fun w => toRange_any lo hi w
  have B0 := hid (below_new (o := .cells #[.int .i64 k, .string ky, .string vl, .string lo, .string hi] 25) (w := w) (below_new (o := .cells #[.int .i64 0, .string ⟨#[]⟩, .string ⟨#[]⟩, .string ⟨#[]⟩, .string ⟨#[]⟩] 30) (w := w.alloc (.cells #[.int .i64 k, .string ky, .string vl, .string lo, .string hi] 25)) (below_new (o := .cells #[.int .i64 k, .string ky, .string vl, .string ⟨#[]⟩, .string ⟨#[]⟩] 30) (w := (w.alloc (.cells #[.int .i64 k, .string ky, .string vl, .string lo, .string hi] 25)).alloc (.cells #[.int .i64 0, .string ⟨#[]⟩, .string ⟨#[]⟩, .string ⟨#[]⟩, .string ⟨#[]⟩] 30)) (Below.refl _ _))))
  have J0 := hid ((Bk.new (w.alloc (.cells #[.int .i64 k, .string ky, .string vl, .string lo, .string hi] 25)) 30 [.int .i64 0, .string ⟨#[]⟩, .string ⟨#[]⟩, .string ⟨#[]⟩, .string ⟨#[]⟩]).alloc (.cells #[.int .i64 k, .string ky, .string vl, .string ⟨#[]⟩, .string ⟨#[]⟩] 30))
  have I0 := hid (Bk.new ((w.alloc (.cells #[.int .i64 k, .string ky, .string vl, .string lo, .string hi] 25)).alloc (.cells #[.int .i64 0, .string ⟨#[]⟩, .string ⟨#[]⟩, .string ⟨#[]⟩, .string ⟨#[]⟩] 30)) 30 [.int .i64 k, .string ky, .string vl, .string ⟨#[]⟩, .string ⟨#[]⟩])
  rw [show (w.alloc (.cells #[.int .i64 k, .string ky, .string vl, .string lo, .string hi] 25)).heap.size = w.heap.size + 1 by simp] at J0
  rw [show ((w.alloc (.cells #[.int .i64 k, .string ky, .string vl, .string lo, .string hi] 25)).alloc (.cells #[.int .i64 0, .string ⟨#[]⟩, .string ⟨#[]⟩, .string ⟨#[]⟩, .string ⟨#[]⟩] 30)).heap.size = w.heap.size + 1 + 1 by simp] at I0
  go_enter Tryd.func8, Tryd.ntmps8
  go_wp2_with fail
  refine (C1.out _).mono ?_
  generalize ((w.alloc (.cells #[.int .i64 k, .string ky, .string vl, .string lo, .string hi] 25)).alloc (.cells #[.int .i64 0, .string ⟨#[]⟩, .string ⟨#[]⟩, .string ⟨#[]⟩, .string ⟨#[]⟩] 30)).alloc (.cells #[.int .i64 k, .string ky, .string vl, .string ⟨#[]⟩, .string ⟨#[]⟩] 30) = U at *
  rintro r w1 ⟨rfl, hb⟩
  have J1 := hid (J0.out.below hb)
  have I1 := hid (I0.out.below hb)
  have B1 := hid (btR B0.out hb)
  clear J0 I0 B0 hb
  have y0 := I1.out.cell (j := 0) rfl
  have y1 := I1.out.cell (j := 1) rfl
  have y2 := I1.out.cell (j := 2) rfl
  have y3 := I1.out.cell (j := 3) rfl
  have y4 := I1.out.cell (j := 4) rfl
  have f3 := I1.out.free 3
  have f4 := I1.out.free 4
  have z0 := J1.out.cell (j := 0) rfl
  have z1 := J1.out.cell (j := 1) rfl
  have z2 := J1.out.cell (j := 2) rfl
  have z3 := J1.out.cell (j := 3) rfl
  have z4 := J1.out.cell (j := 4) rfl
  have g0 := J1.out.free 0
  have g1 := J1.out.free 1
  have g2 := J1.out.free 2
  have g3 := J1.out.free 3
  have g4 := J1.out.free 4
  have J2 : Hid (Bk ((w1.setCell ⟨w.heap.size + 1 + 1, 3, none⟩ (.string lo)).setCell ⟨w.heap.size + 1 + 1, 4, none⟩ (.string hi)) (w.heap.size + 1) 30 [.int .i64 0, .string ⟨#[]⟩, .string ⟨#[]⟩, .string ⟨#[]⟩, .string ⟨#[]⟩]) := (J1.out.setOther (by omega) _ _).setOther (by omega) _ _
  have J3 := hid (((((J2.out.set 0 (.int .i64 k)).set 1 (.string ky)).set 2 (.string vl)).set 3 (.string lo)).set 4 (.string hi))
  have B3 := hid (Below.setCell (p := ⟨w.heap.size + 1, 4, none⟩) (Below.setCell (p := ⟨w.heap.size + 1, 3, none⟩) (Below.setCell (p := ⟨w.heap.size + 1, 2, none⟩) (Below.setCell (p := ⟨w.heap.size + 1, 1, none⟩) (Below.setCell (p := ⟨w.heap.size + 1, 0, none⟩) (Below.setCell (p := ⟨w.heap.size + 1 + 1, 4, none⟩) (Below.setCell (p := ⟨w.heap.size + 1 + 1, 3, none⟩) B1.out (by simp; omega) (.string lo)) (by simp; omega) (.string hi)) (by simp) (.int .i64 k)) (by simp) (.string ky)) (by simp) (.string vl)) (by simp) (.string lo)) (by simp) (.string hi))
  have d1 : ¬ w.heap.size + 1 = w.heap.size + 1 + 1 := by omega
  have d2 : ¬ w.heap.size + 1 + 1 = w.heap.size + 1 := by omega
  clear J1 I1 B1 J2
  go_wp2
  try simp only [Exit.inBlock, Exit.then]
  refine bodyPost_ret (v := .agg #[.int .i64 k, .string ky, .string vl, .string lo, .string hi]) ?_ rfl ?_
  · exact results_rec rfl _ _ _ rfl (J3.out.cell (j := 0) rfl) (J3.out.cell (j := 1) rfl) (J3.out.cell (j := 2) rfl) (J3.out.cell (j := 3) rfl) (J3.out.cell (j := 4) rfl)
  · exact ⟨rfl, B3.out⟩
set_option maxHeartbeats 1600000 in
theorem szRec_any (k : Int) (ky vl lo hi : ByteArray) (left : Int) (w : World) (h0 : 0 ≤ left) (h1 : left ≤ 1048576) (hs : ky.size ≤ 9223372036854775807 ∧ vl.size ≤ 9223372036854775807 ∧ lo.size ≤ 9223372036854775807 ∧ hi.size ≤ 9223372036854775807) :
    Calls Tryd.prog 6 #[.agg #[.int .i64 k, .string ky, .string vl, .string lo, .string hi], .int .i64 left] w fun e w' => (∃ x : Int, e = .returned (.int .i64 x) ∧ x ≤ left ∧ -1 ≤ x) ∧ Below w.heap.size w w' := by
  obtain ⟨s1, s2, s3, s4⟩ := hs
  have B0 := hid (below_new (o := .cells #[.int .i64 k, .string ky, .string vl, .string lo, .string hi] 25) (w := w) (Below.refl _ _))
  have K0 := hid (Bk.new w 25 [.int .i64 k, .string ky, .string vl, .string lo, .string hi])
  by_cases q1 : left - ky.size < 0
  · go_enter Tryd.func6, Tryd.ntmps6
    go_wp2
    go_ret
    exact ⟨⟨-1, rfl, by omega, by omega⟩, B0.out⟩
  · by_cases q2 : left - ky.size - vl.size < 0
    · go_enter Tryd.func6, Tryd.ntmps6
      go_wp2
      go_ret
      exact ⟨⟨-1, rfl, by omega, by omega⟩, B0.out⟩
    · have C1 : Hid (∀ w, Calls Tryd.prog 22 #[.agg #[.string lo, .string hi], .int .i64 (left - ky.size - vl.size)] w fun e w' => (∃ x : Int, e = .returned (.int .i64 x) ∧ x ≤ left - ky.size - vl.size ∧ -1 ≤ x) ∧ Below w.heap.size w w') := fun w => szRange_any lo hi _ w (by omega) (by omega) s3 s4
      go_enter Tryd.func6, Tryd.ntmps6
      go_wp2_with fail
      refine (C1.out _).mono ?_
      rintro e w1 ⟨⟨x, rfl, hx1, hx2⟩, hb⟩
      have B1 := hid (btR B0.out hb)
      clear hb B0 K0
      by_cases hx : x < 0
      · go_wp2
        go_ret
        exact ⟨⟨-1, rfl, by omega, by omega⟩, B1.out⟩
      · go_wp2
        go_ret
        exact ⟨⟨x, rfl, by omega, by omega⟩, B1.out⟩
end Go.Proofs.YtgnjknbgahickabDoor

