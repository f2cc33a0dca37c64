/-
  What is known of ranges that come in as arguments.
-/
import Derived.Test.YtbaggkfgnjenoaaRng
import Derived.WideShapes
import Derived.ChangeSame
import Derived.ProofKit
import Derived.OpenShut
namespace Go.Proofs.Ytbaggkfgnjenoaa
open Go.ChangeShapes Go.WideShapes Go.ChangeAt Go.RowKit
theorem arr2 {α : Type} {cs : Array α} (h : cs.size = 2) : ∃ a b, cs = #[a, b] := by
  obtain ⟨l⟩ := cs
  match l, h with
  | [a, b], _ => exact ⟨a, b, rfl⟩
theorem range_two : ∃ f0 f1 : Field, Try.prog.underlying 47 = some (.struct #[f0, f1]) ∧ f0.type = 9 ∧ f1.type = 9 ∧ f0.offset = 0 ∧ f1.offset = 1 := ⟨_, _, Try.underlying47, rfl, rfl, rfl, rfl⟩
set_option maxRecDepth 100000 in
theorem open_range {H : Type} {enc : TypeId × Value → H} {w : World} {base : Nat} {spare : Nat → Bool} {held : Bool} {r : Reach} {b0 : Nat} {v : Value} {d : DataW H} {p : List MemPlace}
    (hv : Value.okWide Try.prog w r b0 47 v) (h : DataW.Trod enc Try.prog w base spare held 47 v d p) :
    ∃ lo hi : ByteArray, v = .agg #[.string lo, .string hi] ∧ lo.size ≤ maxLen ∧ hi.size ≤ maxLen := by
  obtain ⟨f0, f1, hs, t0, t1, o0, o1⟩ := range_two
  obtain ⟨cs, rfl, hsz⟩ := okWide_struct hs hv
  obtain ⟨c0, c1, rfl⟩ := arr2 (hsz.trans (by kernel_rfl))
  obtain ⟨fuel, hf⟩ := h
  obtain ⟨y0, y1, n, hx, _, h0, h1⟩ := trod_struct2 hs hf
  have k : Try.prog.cellsOf 9 = 1 := by kernel_rfl
  rw [t0, o0, k] at h0
  rw [t1, o1, k] at h1
  simp [Value.cells] at h0 h1
  obtain ⟨s0, e0, _, l0⟩ := DataW.trod_string Try.underlying9 h0
  obtain ⟨s1, e1, _, l1⟩ := DataW.trod_string Try.underlying9 h1
  simp at e0 e1
  exact ⟨s0, s1, by rw [e0, e1], l0, l1⟩
end Go.Proofs.Ytbaggkfgnjenoaa

