/-
  What is known of asks and messages that come in as arguments.
-/
import Derived.Test.YtbonkheoeohaiaaAkA
import Derived.Test.YtbonkheoeohaiaaArgX
import Derived.Test.YtbonkheoeohaiaaArgP
import Derived.Deep.Strs
import Derived.Deep.Slices
import Derived.ChangeSlices
import Derived.WideShapes
import Derived.ChangeSame
import Derived.ProofKit
import Derived.OpenShut
namespace Go.Proofs.Ytbonkheoeohaiaa
open Go.ChangeShapes Go.WideShapes Go.ChangeAt Go.RowKit
set_option linter.unusedVariables false
theorem arrK7 {α : Type} {cs : Array α} (h : cs.size = 7) : ∃ v0 v1 v2 v3 v4 v5 v6, cs = #[v0, v1, v2, v3, v4, v5, v6] := by
  obtain ⟨l⟩ := cs
  match l, h with
  | [v0, v1, v2, v3, v4, v5, v6], _ => exact ⟨v0, v1, v2, v3, v4, v5, v6, rfl⟩
theorem arrK17 {α : Type} {cs : Array α} (h : cs.size = 17) : ∃ v0 v1 v2 v3 v4 v5 v6 v7 v8 v9 v10 v11 v12 v13 v14 v15 v16, cs = #[v0, v1, v2, v3, v4, v5, v6, v7, v8, v9, v10, v11, v12, v13, v14, v15, v16] := by
  obtain ⟨l⟩ := cs
  match l, h with
  | [v0, v1, v2, v3, v4, v5, v6, v7, v8, v9, v10, v11, v12, v13, v14, v15, v16], _ => exact ⟨v0, v1, v2, v3, v4, v5, v6, v7, v8, v9, v10, v11, v12, v13, v14, v15, v16, rfl⟩
set_option maxRecDepth 100000 in
theorem rangeK_two : ∃ f0 f1 : Field, Try.prog.underlying 23 = some (.struct #[f0, f1]) ∧ f0.type = 9 ∧ f1.type = 9 ∧ f0.offset = 0 ∧ f1.offset = 1 := ⟨_, _, Try.underlying23, rfl, rfl, rfl, rfl⟩
set_option maxRecDepth 100000 in
theorem open_rngK {H : Type} {enc : TypeId × Value → H} {w : World} {base : Nat} {spare : Nat → Bool} {held : Bool} {fuel : Nat} {v0 v1 : Value} {x : DataW H × List MemPlace}
    (h : DataW.trod enc Try.prog w base spare held fuel 23 [v0, v1] = some x) : ∃ lo hi : ByteArray, v0 = .string lo ∧ v1 = .string hi ∧ lo.size ≤ maxLen ∧ hi.size ≤ maxLen := by
  obtain ⟨f0, f1, hs, t0, t1, o0, o1⟩ := rangeK_two
  have k0 : Try.prog.cellsOf 9 = 1 := by kernel_rfl
  obtain ⟨y0, y1, n', _, _, d0, d1⟩ := trod_struct2 hs h
  rw [t0, o0, k0] at d0
  rw [t1, o1, k0] at d1
  simp at d0 d1
  obtain ⟨s0, e0, _, l0⟩ := DataW.trod_string Try.underlying9 d0
  obtain ⟨s1, e1, _, l1⟩ := DataW.trod_string Try.underlying9 d1
  simp at e0 e1
  exact ⟨s0, s1, e0, e1, l0, l1⟩
set_option maxRecDepth 100000 in
theorem ask_six : ∃ f0 f1 f2 f3 f4 f5 : Field, Try.prog.underlying 25 = some (.struct #[f0, f1, f2, f3, f4, f5]) ∧ f0.type = 3 ∧ f1.type = 9 ∧ f2.type = 9 ∧ f3.type = 23 ∧ f4.type = 3 ∧ f5.type = 4 ∧ f0.offset = 0 ∧ f1.offset = 1 ∧ f2.offset = 2 ∧ f3.offset = 3 ∧ f4.offset = 5 ∧ f5.offset = 6 := ⟨_, _, _, _, _, _, Try.underlying25, rfl, rfl, rfl, rfl, rfl, rfl, rfl, rfl, rfl, rfl, rfl, rfl⟩
set_option maxRecDepth 100000 in
theorem open_askc {H : Type} {enc : TypeId × Value → H} {w : World} {base : Nat} {spare : Nat → Bool} {held : Bool} {fuel : Nat} {v0 v1 v2 v3 v4 v5 v6 : Value} {x : DataW H × List MemPlace}
    (h : DataW.trod enc Try.prog w base spare held fuel 25 [v0, v1, v2, v3, v4, v5, v6] = some x) : ∃ (k : Int) (ky vl lo hi : ByteArray) (mo : Int) (bk : Bool), v0 = .int .i64 k ∧ v1 = .string ky ∧ v2 = .string vl ∧ v3 = .string lo ∧ v4 = .string hi ∧ v5 = .int .i64 mo ∧ v6 = .bool bk ∧ ky.size ≤ maxLen ∧ vl.size ≤ maxLen ∧ lo.size ≤ maxLen ∧ hi.size ≤ maxLen := by
  obtain ⟨f0, f1, f2, f3, f4, f5, hs, t0, t1, t2, t3, t4, t5, o0, o1, o2, o3, o4, o5⟩ := ask_six
  have kbool : Try.prog.cellsOf 4 = 1 := by kernel_rfl
  have kint : Try.prog.cellsOf 3 = 1 := by kernel_rfl
  have klawsRange : Try.prog.cellsOf 23 = 2 := by kernel_rfl
  have kstring : Try.prog.cellsOf 9 = 1 := by kernel_rfl
  obtain ⟨xs, n', _, rfl, hl, hlen, hf⟩ := DataW.trod_struct hs h
  match xs, hlen with
  | [y0, y1, y2, y3, y4, y5], _ =>
    have d0 := hf 0 f0 rfl
    have d1 := hf 1 f1 rfl
    have d2 := hf 2 f2 rfl
    have d3 := hf 3 f3 rfl
    have d4 := hf 4 f4 rfl
    have d5 := hf 5 f5 rfl
    rw [t0, o0, kint] at d0
    rw [t1, o1, kstring] at d1
    rw [t2, o2, kstring] at d2
    rw [t3, o3, klawsRange] at d3
    rw [t4, o4, kint] at d4
    rw [t5, o5, kbool] at d5
    simp at d0 d1 d2 d3 d4 d5
    obtain ⟨s0, e0, _⟩ := DataW.trod_int Try.underlying3 d0
    obtain ⟨s1, e1, _, l1⟩ := DataW.trod_string Try.underlying9 d1
    obtain ⟨s2, e2, _, l2⟩ := DataW.trod_string Try.underlying9 d2
    obtain ⟨lo, hi, e3, e4, l3, l4⟩ := open_rngK d3
    obtain ⟨s4, e5, _⟩ := DataW.trod_int Try.underlying3 d4
    obtain ⟨s5, e6, _⟩ := DataW.trod_bool Try.underlying4 d5
    simp at e0 e1 e2 e5 e6
    exact ⟨s0, s1, s2, lo, hi, s4, s5, e0, e1, e2, e3, e4, e5, e6, l1, l2, l3, l4⟩
set_option maxRecDepth 100000 in
theorem open_ask {H : Type} {enc : TypeId × Value → H} {w : World} {base : Nat} {spare : Nat → Bool} {held : Bool} {r : Reach} {b0 : Nat} {v : Value} {d : DataW H} {p : List MemPlace}
    (hv : Value.okWide Try.prog w r b0 25 v) (h : DataW.Trod enc Try.prog w base spare held 25 v d p) : ∃ (k : Int) (ky vl lo hi : ByteArray) (mo : Int) (bk : Bool), v = .agg #[.int .i64 k, .string ky, .string vl, .string lo, .string hi, .int .i64 mo, .bool bk] ∧ ky.size ≤ maxLen ∧ vl.size ≤ maxLen ∧ lo.size ≤ maxLen ∧ hi.size ≤ maxLen := by
  obtain ⟨f0, f1, f2, f3, f4, f5, hs, _⟩ := ask_six
  obtain ⟨cs, rfl, hsz⟩ := okWide_struct hs hv
  obtain ⟨v0, v1, v2, v3, v4, v5, v6, rfl⟩ := arrK7 (hsz.trans (by kernel_rfl))
  obtain ⟨fuel, hf⟩ := h
  simp [Value.cells] at hf
  obtain ⟨k, ky, vl, lo, hi, mo, bk, rfl, rfl, rfl, rfl, rfl, rfl, rfl, hl⟩ := open_askc hf
  exact ⟨k, ky, vl, lo, hi, mo, bk, rfl, hl⟩
set_option maxRecDepth 100000 in
theorem msg_nine : ∃ f0 f1 f2 f3 f4 f5 f6 f7 f8 : Field, Try.prog.underlying 40 = some (.struct #[f0, f1, f2, f3, f4, f5, f6, f7, f8]) ∧ f0.type = 3 ∧ f1.type = 37 ∧ f2.type = 3 ∧ f3.type = 3 ∧ f4.type = 3 ∧ f5.type = 25 ∧ f6.type = 3 ∧ f7.type = 38 ∧ f8.type = 4 ∧ f0.offset = 0 ∧ f1.offset = 1 ∧ f2.offset = 4 ∧ f3.offset = 5 ∧ f4.offset = 6 ∧ f5.offset = 7 ∧ f6.offset = 14 ∧ f7.offset = 15 ∧ f8.offset = 16 := ⟨_, _, _, _, _, _, _, _, _, Try.underlying40, rfl, rfl, rfl, rfl, rfl, rfl, rfl, rfl, rfl, rfl, rfl, rfl, rfl, rfl, rfl, rfl, rfl, rfl⟩
set_option maxRecDepth 100000 in
theorem txK_three : ∃ f0 f1 f2 : Field, Try.prog.underlying 37 = some (.struct #[f0, f1, f2]) ∧ f0.type = 3 ∧ f1.type = 3 ∧ f2.type = 3 ∧ f0.offset = 0 ∧ f1.offset = 1 ∧ f2.offset = 2 := ⟨_, _, _, Try.underlying37, rfl, rfl, rfl, rfl, rfl, rfl⟩
set_option maxRecDepth 100000 in
theorem open_msgc {H : Type} {enc : TypeId × Value → H} {w : World} {base : Nat} {spare : Nat → Bool} {held : Bool} {fuel : Nat} {v0 v1 v2 v3 v4 v5 v6 v7 v8 v9 v10 v11 v12 v13 v14 v15 v16 : Value} {x : DataW H × List MemPlace}
    (h : DataW.trod enc Try.prog w base spare held fuel 40 [v0, v1, v2, v3, v4, v5, v6, v7, v8, v9, v10, v11, v12, v13, v14, v15, v16] = some x) : ∃ (kd c e n sh nu st : Int) (k : Int) (ky vl lo hi : ByteArray) (mo : Int) (bk : Bool) (cd : Int) (ps : List PB) (ys : Bool), v0 = .int .i64 kd ∧ v1 = .int .i64 c ∧ v2 = .int .i64 e ∧ v3 = .int .i64 n ∧ v4 = .int .i64 sh ∧ v5 = .int .i64 nu ∧ v6 = .int .i64 st ∧ v7 = .int .i64 k ∧ v8 = .string ky ∧ v9 = .string vl ∧ v10 = .string lo ∧ v11 = .string hi ∧ v12 = .int .i64 mo ∧ v13 = .bool bk ∧ v14 = .int .i64 cd ∧ v16 = .bool ys ∧ (ky.size ≤ maxLen ∧ vl.size ≤ maxLen ∧ lo.size ≤ maxLen ∧ hi.size ≤ maxLen) ∧ Pr w (fun _ => True) v15 ps ∧ szOkP ps := by
  obtain ⟨f0, f1, f2, f3, f4, f5, f6, f7, f8, hs, t0, t1, t2, t3, t4, t5, t6, t7, t8, o0, o1, o2, o3, o4, o5, o6, o7, o8⟩ := msg_nine
  have kSlawsPair : Try.prog.cellsOf 38 = 1 := by kernel_rfl
  have kbool : Try.prog.cellsOf 4 = 1 := by kernel_rfl
  have kint : Try.prog.cellsOf 3 = 1 := by kernel_rfl
  have klawsAsk : Try.prog.cellsOf 25 = 7 := by kernel_rfl
  have klawsTx : Try.prog.cellsOf 37 = 3 := by kernel_rfl
  obtain ⟨xs, n', _, rfl, hl, hlen, hf⟩ := DataW.trod_struct hs h
  match xs, hlen with
  | [y0, y1, y2, y3, y4, y5, y6, y7, y8], _ =>
    have d0 := hf 0 f0 rfl
    have d1 := hf 1 f1 rfl
    have d2 := hf 2 f2 rfl
    have d3 := hf 3 f3 rfl
    have d4 := hf 4 f4 rfl
    have d5 := hf 5 f5 rfl
    have d6 := hf 6 f6 rfl
    have d7 := hf 7 f7 rfl
    have d8 := hf 8 f8 rfl
    rw [t0, o0, kint] at d0
    rw [t1, o1, klawsTx] at d1
    rw [t2, o2, kint] at d2
    rw [t3, o3, kint] at d3
    rw [t4, o4, kint] at d4
    rw [t5, o5, klawsAsk] at d5
    rw [t6, o6, kint] at d6
    rw [t7, o7, kSlawsPair] at d7
    rw [t8, o8, kbool] at d8
    simp at d0 d1 d2 d3 d4 d5 d6 d7 d8
    obtain ⟨s0, e0, _⟩ := DataW.trod_int Try.underlying3 d0
    obtain ⟨g0, g1, g2, hs2, u0, u1, u2, i0, i1, i2⟩ := txK_three
    obtain ⟨z0, z1, z2, n2, _, _, j0, j1, j2⟩ := Go.Deep.trod_struct3 hs2 d1
    rw [u0, i0, kint] at j0
    rw [u1, i1, kint] at j1
    rw [u2, i2, kint] at j2
    simp at j0 j1 j2
    obtain ⟨q0, b0, _⟩ := DataW.trod_int Try.underlying3 j0
    obtain ⟨q1, b1, _⟩ := DataW.trod_int Try.underlying3 j1
    obtain ⟨q2, b2, _⟩ := DataW.trod_int Try.underlying3 j2
    obtain ⟨s2, e2, _⟩ := DataW.trod_int Try.underlying3 d2
    obtain ⟨s3, e3, _⟩ := DataW.trod_int Try.underlying3 d3
    obtain ⟨s4, e4, _⟩ := DataW.trod_int Try.underlying3 d4
    obtain ⟨k, ky, vl, lo, hi, mo, bk, a0, a1, a2, a3, a4, a5, a6, hz⟩ := open_askc d5
    obtain ⟨s6, e6, _⟩ := DataW.trod_int Try.underlying3 d6
    obtain ⟨ps, p1, p2⟩ := open_pairs d7
    obtain ⟨s8, e8, _⟩ := DataW.trod_bool Try.underlying4 d8
    simp at e0 b0 b1 b2 e2 e3 e4 e6 e8
    exact ⟨s0, q0, q1, q2, s2, s3, s4, k, ky, vl, lo, hi, mo, bk, s6, ps, s8, e0, b0, b1, b2, e2, e3, e4, a0, a1, a2, a3, a4, a5, a6, e6, e8, hz, p1, p2⟩
set_option maxRecDepth 100000 in
theorem open_msg {H : Type} {enc : TypeId × Value → H} {w : World} {base : Nat} {spare : Nat → Bool} {held : Bool} {r : Reach} {b0 : Nat} {v : Value} {d : DataW H} {p : List MemPlace}
    (hv : Value.okWide Try.prog w r b0 40 v) (h : DataW.Trod enc Try.prog w base spare held 40 v d p) : ∃ (kd c e n sh nu st : Int) (k : Int) (ky vl lo hi : ByteArray) (mo : Int) (bk : Bool) (cd : Int) (pa : Option Addr) (pn pc : Nat) (ps : List PB) (ys : Bool),
      v = .agg #[.int .i64 kd, .int .i64 c, .int .i64 e, .int .i64 n, .int .i64 sh, .int .i64 nu, .int .i64 st, .int .i64 k, .string ky, .string vl, .string lo, .string hi, .int .i64 mo, .bool bk, .int .i64 cd, .slice pa pn pc, .bool ys] ∧ (ky.size ≤ maxLen ∧ vl.size ≤ maxLen ∧ lo.size ≤ maxLen ∧ hi.size ≤ maxLen) ∧ Pr w (fun _ => True) (.slice pa pn pc) ps ∧ szOkP ps := by
  obtain ⟨f0, f1, f2, f3, f4, f5, f6, f7, f8, hs, _⟩ := msg_nine
  obtain ⟨cs, rfl, hsz⟩ := okWide_struct hs hv
  obtain ⟨v0, v1, v2, v3, v4, v5, v6, v7, v8, v9, v10, v11, v12, v13, v14, v15, v16, rfl⟩ := arrK17 (hsz.trans (by kernel_rfl))
  obtain ⟨fuel, hf⟩ := h
  simp [Value.cells] at hf
  obtain ⟨kd, c, e, n, sh, nu, st, k, ky, vl, lo, hi, mo, bk, cd, ps, ys, rfl, rfl, rfl, rfl, rfl, rfl, rfl, rfl, rfl, rfl, rfl, rfl, rfl, rfl, rfl, rfl, hz, p1, p2⟩ := open_msgc hf
  obtain ⟨pa, pc, rfl, _⟩ := Rw.shape p1
  exact ⟨kd, c, e, n, sh, nu, st, k, ky, vl, lo, hi, mo, bk, cd, pa, _, pc, ps, ys, rfl, hz, p1, p2⟩
end Go.Proofs.Ytbonkheoeohaiaa

