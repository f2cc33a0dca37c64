/-
  What is known of asks and messages that come in as arguments.
-/
import Derived.Test.YtnbafoennnhppabAkA
import Derived.Test.YtnbafoennnhppabArgX
import Derived.Deep.Strs
import Derived.Deep.Slices
import Derived.ChangeSlices
import Derived.WideShapes
import Derived.ChangeSame
import Derived.ProofKit
import Derived.OpenShut
namespace Go.Proofs.Ytnbafoennnhppab
open Go.ChangeShapes Go.WideShapes Go.ChangeAt Go.RowKit
set_option linter.unusedVariables false
theorem arrK7 {α : Type} {cs : Array α} (h : cs.size = 7) : ∃ v0 v1 v2 v3 v4 v5 v6, cs = #[v0, v1, v2, v3, v4, v5, v6] := by
  obtain ⟨l⟩ := cs
  match l, h with
  | [v0, v1, v2, v3, v4, v5, v6], _ => exact ⟨v0, v1, v2, v3, v4, v5, v6, rfl⟩
theorem arrK17 {α : Type} {cs : Array α} (h : cs.size = 17) : ∃ v0 v1 v2 v3 v4 v5 v6 v7 v8 v9 v10 v11 v12 v13 v14 v15 v16, cs = #[v0, v1, v2, v3, v4, v5, v6, v7, v8, v9, v10, v11, v12, v13, v14, v15, v16] := by
  obtain ⟨l⟩ := cs
  match l, h with
  | [v0, v1, v2, v3, v4, v5, v6, v7, v8, v9, v10, v11, v12, v13, v14, v15, v16], _ => exact ⟨v0, v1, v2, v3, v4, v5, v6, v7, v8, v9, v10, v11, v12, v13, v14, v15, v16, rfl⟩
set_option maxRecDepth 100000 in
theorem rangeK_two : ∃ f0 f1 : Field, Try.prog.underlying 35 = some (.struct #[f0, f1]) ∧ f0.type = 9 ∧ f1.type = 9 ∧ f0.offset = 0 ∧ f1.offset = 1 := ⟨_, _, Try.underlying35, rfl, rfl, rfl, rfl⟩
set_option maxRecDepth 100000 in
theorem open_rngK {H : Type} {enc : TypeId × Value → H} {w : World} {base : Nat} {spare : Nat → Bool} {held : Bool} {fuel : Nat} {v0 v1 : Value} {x : DataW H × List MemPlace}
    (h : DataW.trod enc Try.prog w base spare held fuel 35 [v0, v1] = some x) : ∃ lo hi : ByteArray, v0 = .string lo ∧ v1 = .string hi ∧ lo.size ≤ maxLen ∧ hi.size ≤ maxLen := by
  obtain ⟨f0, f1, hs, t0, t1, o0, o1⟩ := rangeK_two
  have k0 : Try.prog.cellsOf 9 = 1 := by kernel_rfl
  obtain ⟨y0, y1, n', _, _, d0, d1⟩ := trod_struct2 hs h
  rw [t0, o0, k0] at d0
  rw [t1, o1, k0] at d1
  simp at d0 d1
  obtain ⟨s0, e0, _, l0⟩ := DataW.trod_string Try.underlying9 d0
  obtain ⟨s1, e1, _, l1⟩ := DataW.trod_string Try.underlying9 d1
  simp at e0 e1
  exact ⟨s0, s1, e0, e1, l0, l1⟩
set_option maxRecDepth 100000 in
theorem ask_six : ∃ f0 f1 f2 f3 f4 f5 : Field, Try.prog.underlying 37 = some (.struct #[f0, f1, f2, f3, f4, f5]) ∧ f0.type = 3 ∧ f1.type = 9 ∧ f2.type = 9 ∧ f3.type = 35 ∧ f4.type = 3 ∧ f5.type = 4 ∧ f0.offset = 0 ∧ f1.offset = 1 ∧ f2.offset = 2 ∧ f3.offset = 3 ∧ f4.offset = 5 ∧ f5.offset = 6 := ⟨_, _, _, _, _, _, Try.underlying37, rfl, rfl, rfl, rfl, rfl, rfl, rfl, rfl, rfl, rfl, rfl, rfl⟩
set_option maxRecDepth 100000 in
theorem open_askc {H : Type} {enc : TypeId × Value → H} {w : World} {base : Nat} {spare : Nat → Bool} {held : Bool} {fuel : Nat} {v0 v1 v2 v3 v4 v5 v6 : Value} {x : DataW H × List MemPlace}
    (h : DataW.trod enc Try.prog w base spare held fuel 37 [v0, v1, v2, v3, v4, v5, v6] = some x) : ∃ (k : Int) (ky vl lo hi : ByteArray) (mo : Int) (bk : Bool), v0 = .int .i64 k ∧ v1 = .string ky ∧ v2 = .string vl ∧ v3 = .string lo ∧ v4 = .string hi ∧ v5 = .int .i64 mo ∧ v6 = .bool bk ∧ ky.size ≤ maxLen ∧ vl.size ≤ maxLen ∧ lo.size ≤ maxLen ∧ hi.size ≤ maxLen := by
  obtain ⟨f0, f1, f2, f3, f4, f5, hs, t0, t1, t2, t3, t4, t5, o0, o1, o2, o3, o4, o5⟩ := ask_six
  have kbool : Try.prog.cellsOf 4 = 1 := by kernel_rfl
  have kint : Try.prog.cellsOf 3 = 1 := by kernel_rfl
  have klawsRange : Try.prog.cellsOf 35 = 2 := by kernel_rfl
  have kstring : Try.prog.cellsOf 9 = 1 := by kernel_rfl
  obtain ⟨xs, n', _, rfl, hl, hlen, hf⟩ := DataW.trod_struct hs h
  match xs, hlen with
  | [y0, y1, y2, y3, y4, y5], _ =>
    have d0 := hf 0 f0 rfl
    have d1 := hf 1 f1 rfl
    have d2 := hf 2 f2 rfl
    have d3 := hf 3 f3 rfl
    have d4 := hf 4 f4 rfl
    have d5 := hf 5 f5 rfl
    rw [t0, o0, kint] at d0
    rw [t1, o1, kstring] at d1
    rw [t2, o2, kstring] at d2
    rw [t3, o3, klawsRange] at d3
    rw [t4, o4, kint] at d4
    rw [t5, o5, kbool] at d5
    simp at d0 d1 d2 d3 d4 d5
    obtain ⟨s0, e0, _⟩ := DataW.trod_int Try.underlying3 d0
    obtain ⟨s1, e1, _, l1⟩ := DataW.trod_string Try.underlying9 d1
    obtain ⟨s2, e2, _, l2⟩ := DataW.trod_string Try.underlying9 d2
    obtain ⟨lo, hi, e3, e4, l3, l4⟩ := open_rngK d3
    obtain ⟨s4, e5, _⟩ := DataW.trod_int Try.underlying3 d4
    obtain ⟨s5, e6, _⟩ := DataW.trod_bool Try.underlying4 d5
    simp at e0 e1 e2 e5 e6
    exact ⟨s0, s1, s2, lo, hi, s4, s5, e0, e1, e2, e3, e4, e5, e6, l1, l2, l3, l4⟩
set_option maxRecDepth 100000 in
theorem open_ask {H : Type} {enc : TypeId × Value → H} {w : World} {base : Nat} {spare : Nat → Bool} {held : Bool} {r : Reach} {b0 : Nat} {v : Value} {d : DataW H} {p : List MemPlace}
    (hv : Value.okWide Try.prog w r b0 37 v) (h : DataW.Trod enc Try.prog w base spare held 37 v d p) : ∃ (k : Int) (ky vl lo hi : ByteArray) (mo : Int) (bk : Bool), v = .agg #[.int .i64 k, .string ky, .string vl, .string lo, .string hi, .int .i64 mo, .bool bk] ∧ ky.size ≤ maxLen ∧ vl.size ≤ maxLen ∧ lo.size ≤ maxLen ∧ hi.size ≤ maxLen := by
  obtain ⟨f0, f1, f2, f3, f4, f5, hs, _⟩ := ask_six
  obtain ⟨cs, rfl, hsz⟩ := okWide_struct hs hv
  obtain ⟨v0, v1, v2, v3, v4, v5, v6, rfl⟩ := arrK7 (hsz.trans (by kernel_rfl))
  obtain ⟨fuel, hf⟩ := h
  simp [Value.cells] at hf
  obtain ⟨k, ky, vl, lo, hi, mo, bk, rfl, rfl, rfl, rfl, rfl, rfl, rfl, hl⟩ := open_askc hf
  exact ⟨k, ky, vl, lo, hi, mo, bk, rfl, hl⟩
end Go.Proofs.Ytnbafoennnhppab

