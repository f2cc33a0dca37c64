/-
  What is known of names of transactions, of locks and of tables of locks that come in as arguments.
-/
import Derived.Test.YtnbafoennnhppabLkP
import Derived.Deep.Strs
import Derived.Deep.Slices
import Derived.ChangeSlices
import Derived.WideShapes
import Derived.ChangeSame
import Derived.ProofKit
import Derived.OpenShut
namespace Go.Proofs.Ytnbafoennnhppab
open Go.ChangeShapes Go.WideShapes Go.ChangeAt Go.RowKit
theorem arrX3 {α : Type} {cs : Array α} (h : cs.size = 3) : ∃ a b c, cs = #[a, b, c] := by
  obtain ⟨l⟩ := cs
  match l, h with
  | [a, b, c], _ => exact ⟨a, b, c, rfl⟩
theorem arrX6 {α : Type} {cs : Array α} (h : cs.size = 6) : ∃ a b c d e f, cs = #[a, b, c, d, e, f] := by
  obtain ⟨l⟩ := cs
  match l, h with
  | [a, b, c, d, e, f], _ => exact ⟨a, b, c, d, e, f, rfl⟩
theorem arrX2 {α : Type} {cs : Array α} (h : cs.size = 2) : ∃ a b, cs = #[a, b] := by
  obtain ⟨l⟩ := cs
  match l, h with
  | [a, b], _ => exact ⟨a, b, rfl⟩
set_option maxRecDepth 100000 in
theorem tx_three : ∃ f0 f1 f2 : Field, Try.prog.underlying 24 = some (.struct #[f0, f1, f2]) ∧ f0.type = 3 ∧ f1.type = 3 ∧ f2.type = 3 ∧ f0.offset = 0 ∧ f1.offset = 1 ∧ f2.offset = 2 := ⟨_, _, _, Try.underlying24, rfl, rfl, rfl, rfl, rfl, rfl⟩
set_option maxRecDepth 100000 in
theorem open_txc {H : Type} {enc : TypeId × Value → H} {w : World} {base : Nat} {spare : Nat → Bool} {held : Bool} {fuel : Nat} {v0 v1 v2 : Value} {x : DataW H × List MemPlace}
    (h : DataW.trod enc Try.prog w base spare held fuel 24 [v0, v1, v2] = some x) : ∃ t : TX, v0 = .int .i64 t.1 ∧ v1 = .int .i64 t.2.1 ∧ v2 = .int .i64 t.2.2 := by
  obtain ⟨f0, f1, f2, hs, t0, t1, t2, o0, o1, o2⟩ := tx_three
  have k0 : Try.prog.cellsOf 3 = 1 := by kernel_rfl
  obtain ⟨y0, y1, y2, n', _, _, d0, d1, d2⟩ := Go.Deep.trod_struct3 hs h
  rw [t0, o0, k0] at d0
  rw [t1, o1, k0] at d1
  rw [t2, o2, k0] at d2
  simp at d0 d1 d2
  obtain ⟨s0, e0, _⟩ := DataW.trod_int Try.underlying3 d0
  obtain ⟨s1, e1, _⟩ := DataW.trod_int Try.underlying3 d1
  obtain ⟨s2, e2, _⟩ := DataW.trod_int Try.underlying3 d2
  simp at e0 e1 e2
  exact ⟨(s0, s1, s2), e0, e1, e2⟩
set_option maxRecDepth 100000 in
theorem open_tx {H : Type} {enc : TypeId × Value → H} {w : World} {base : Nat} {spare : Nat → Bool} {held : Bool} {r : Reach} {b0 : Nat} {v : Value} {d : DataW H} {p : List MemPlace}
    (hv : Value.okWide Try.prog w r b0 24 v) (h : DataW.Trod enc Try.prog w base spare held 24 v d p) : ∃ c e n : Int, v = .agg #[.int .i64 c, .int .i64 e, .int .i64 n] := by
  obtain ⟨f0, f1, f2, hs, t0, t1, t2, o0, o1, o2⟩ := tx_three
  obtain ⟨cs, rfl, hsz⟩ := okWide_struct hs hv
  obtain ⟨c0, c1, c2, rfl⟩ := arrX3 (hsz.trans (by kernel_rfl))
  obtain ⟨fuel, hf⟩ := h
  simp [Value.cells] at hf
  obtain ⟨t, rfl, rfl, rfl⟩ := open_txc hf
  exact ⟨t.1, t.2.1, t.2.2, rfl⟩
end Go.Proofs.Ytnbafoennnhppab

