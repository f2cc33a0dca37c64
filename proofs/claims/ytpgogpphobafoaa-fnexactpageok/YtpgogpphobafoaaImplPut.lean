/-
  What the program's PutVar answers, for every slice of bytes and every number: the same as the model's.
-/
import Derived.Test.YtpgogpphobafoaaWriter
import Derived.Test.YtpgogpphobafoaaSpecPut
namespace Go.Proofs.Ytpgogpphobafoaa
open Go.RowKit

theorem addSt_start (most : Nat) (zs : List Int) : addSt most (some []) zs = if zs.length ≤ most then some zs else none := by
  unfold addSt; simp
theorem addSt_two (most : Nat) (xs ys : List Int) : addSt most (addSt most (some []) xs) ys = if (xs ++ ys).length ≤ most then some (xs ++ ys) else none := by
  rw [addSt_addSt, addSt_start]
theorem Ob.mono {w : World} {B B' : Nat} {v : Value} {zs : List Int} (h : Ob w B v zs) (hB : B' ≤ B) : Ob w B' v zs := by
  obtain ⟨h1, h2⟩ := h
  refine ⟨h1, ?_⟩
  rcases h2 with h | ⟨g, cap, cur, e, hbg, hr⟩
  · exact .inl h
  · exact .inr ⟨g, cap, cur, e, Nat.le_trans hB hbg, hr⟩
end Go.Proofs.Ytpgogpphobafoaa

