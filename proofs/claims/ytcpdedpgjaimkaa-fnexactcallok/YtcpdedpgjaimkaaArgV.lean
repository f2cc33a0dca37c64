/-
  What is known of calls that come in as arguments.
-/
import Derived.Test.YtcpdedpgjaimkaaCaA
import Derived.Test.YtcpdedpgjaimkaaArgK
namespace Go.Proofs.Ytcpdedpgjaimkaa
open Go.ChangeShapes Go.WideShapes Go.ChangeAt Go.RowKit
set_option linter.unusedVariables false
theorem arrK8 {α : Type} {cs : Array α} (h : cs.size = 8) : ∃ v0 v1 v2 v3 v4 v5 v6 v7, cs = #[v0, v1, v2, v3, v4, v5, v6, v7] := by
  obtain ⟨l⟩ := cs
  match l, h with
  | [v0, v1, v2, v3, v4, v5, v6, v7], _ => exact ⟨v0, v1, v2, v3, v4, v5, v6, v7, rfl⟩
set_option maxRecDepth 100000 in
theorem call_two : ∃ f0 f1 : Field, Try.prog.underlying 60 = some (.struct #[f0, f1]) ∧ f0.type = 3 ∧ f1.type = 58 ∧ f0.offset = 0 ∧ f1.offset = 1 := ⟨_, _, Try.underlying60, rfl, rfl, rfl, rfl⟩
set_option maxRecDepth 100000 in
theorem open_callc {H : Type} {enc : TypeId × Value → H} {w : World} {base : Nat} {spare : Nat → Bool} {held : Bool} {fuel : Nat} {v0 v1 v2 v3 v4 v5 v6 v7 : Value} {x : DataW H × List MemPlace}
    (h : DataW.trod enc Try.prog w base spare held fuel 60 [v0, v1, v2, v3, v4, v5, v6, v7] = some x) : ∃ (kd : Int) (k : Int) (ky vl lo hi : ByteArray) (mo : Int) (bk : Bool), v0 = .int .i64 kd ∧ v1 = .int .i64 k ∧ v2 = .string ky ∧ v3 = .string vl ∧ v4 = .string lo ∧ v5 = .string hi ∧ v6 = .int .i64 mo ∧ v7 = .bool bk ∧ ky.size ≤ maxLen ∧ vl.size ≤ maxLen ∧ lo.size ≤ maxLen ∧ hi.size ≤ maxLen := by
  obtain ⟨f0, f1, hs, t0, t1, o0, o1⟩ := call_two
  have kint : Try.prog.cellsOf 3 = 1 := by kernel_rfl
  have klawsAsk : Try.prog.cellsOf 58 = 7 := by kernel_rfl
  obtain ⟨xs, n', _, rfl, hl, hlen, hf⟩ := DataW.trod_struct hs h
  match xs, hlen with
  | [y0, y1], _ =>
    have d0 := hf 0 f0 rfl
    have d1 := hf 1 f1 rfl
    rw [t0, o0, kint] at d0
    rw [t1, o1, klawsAsk] at d1
    simp at d0 d1
    obtain ⟨s0, e0, _⟩ := DataW.trod_int Try.underlying3 d0
    obtain ⟨k, ky, vl, lo, hi, mo, bk, a0, a1, a2, a3, a4, a5, a6, hz⟩ := open_askc d1
    simp at e0
    exact ⟨s0, k, ky, vl, lo, hi, mo, bk, e0, a0, a1, a2, a3, a4, a5, a6, hz⟩
set_option maxRecDepth 100000 in
theorem open_call {H : Type} {enc : TypeId × Value → H} {w : World} {base : Nat} {spare : Nat → Bool} {held : Bool} {r : Reach} {b0 : Nat} {v : Value} {d : DataW H} {p : List MemPlace}
    (hv : Value.okWide Try.prog w r b0 60 v) (h : DataW.Trod enc Try.prog w base spare held 60 v d p) : ∃ (kd : Int) (k : Int) (ky vl lo hi : ByteArray) (mo : Int) (bk : Bool), v = .agg #[.int .i64 kd, .int .i64 k, .string ky, .string vl, .string lo, .string hi, .int .i64 mo, .bool bk] ∧ ky.size ≤ maxLen ∧ vl.size ≤ maxLen ∧ lo.size ≤ maxLen ∧ hi.size ≤ maxLen := by
  obtain ⟨f0, f1, hs, _⟩ := call_two
  obtain ⟨cs, rfl, hsz⟩ := okWide_struct hs hv
  obtain ⟨v0, v1, v2, v3, v4, v5, v6, v7, rfl⟩ := arrK8 (hsz.trans (by kernel_rfl))
  obtain ⟨fuel, hf⟩ := h
  simp [Value.cells] at hf
  obtain ⟨kd, k, ky, vl, lo, hi, mo, bk, rfl, rfl, rfl, rfl, rfl, rfl, rfl, rfl, hl⟩ := open_callc hf
  exact ⟨kd, k, ky, vl, lo, hi, mo, bk, rfl, hl⟩
end Go.Proofs.Ytcpdedpgjaimkaa

