/-
  What is known of metas that come in as arguments.
-/
import Derived.Test.YtpgogpphobafoaaBase
import Derived.WideShapes
import Derived.ChangeSame
import Derived.ProofKit
import Derived.OpenShut
namespace Go.Proofs.Ytpgogpphobafoaa
open Go.ChangeShapes Go.WideShapes Go.ChangeAt Go.RowKit
theorem arrM {α : Type} {cs : Array α} (h : cs.size = 2) : ∃ a b, cs = #[a, b] := by
  obtain ⟨l⟩ := cs
  match l, h with
  | [a, b], _ => exact ⟨a, b, rfl⟩
theorem meta_two : ∃ f0 f1 : Field, Try.prog.underlying 33 = some (.struct #[f0, f1]) ∧ f0.type = 3 ∧ f1.type = 3 ∧ f0.offset = 0 ∧ f1.offset = 1 := ⟨_, _, Try.underlying33, rfl, rfl, rfl, rfl⟩
theorem open_meta {H : Type} {enc : TypeId × Value → H} {w : World} {base : Nat} {spare : Nat → Bool} {held : Bool} {r : Reach} {b0 : Nat} {v : Value} {d : DataW H} {p : List MemPlace}
    (hv : Value.okWide Try.prog w r b0 33 v) (h : DataW.Trod enc Try.prog w base spare held 33 v d p) :
    ∃ g t : Int, v = .agg #[.int .i64 g, .int .i64 t] ∧ (Lit.int .i64 g).wf = true ∧ (Lit.int .i64 t).wf = true := by
  obtain ⟨f0, f1, hs, t0, t1, o0, o1⟩ := meta_two
  obtain ⟨cs, rfl, hsz⟩ := okWide_struct hs hv
  obtain ⟨c0, c1, rfl⟩ := arrM (hsz.trans (by kernel_rfl))
  obtain ⟨fuel, hf⟩ := h
  obtain ⟨y0, y1, n, hx, _, h0, h1⟩ := trod_struct2 hs hf
  have k : Try.prog.cellsOf 3 = 1 := by kernel_rfl
  rw [t0, o0, k] at h0
  rw [t1, o1, k] at h1
  simp [Value.cells] at h0 h1
  obtain ⟨s0, e0, _, l0⟩ := DataW.trod_int Try.underlying3 h0
  obtain ⟨s1, e1, _, l1⟩ := DataW.trod_int Try.underlying3 h1
  simp at e0 e1
  exact ⟨s0, s1, by rw [e0, e1], l0, l1⟩
end Go.Proofs.Ytpgogpphobafoaa

