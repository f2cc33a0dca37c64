/-
  Blocks that may be written.
-/
import Derived.Test.YtnbafoennnhppabPairL
namespace Go.Proofs.Ytnbafoennnhppab
open Go.RowKit
/-- Block b is a row that may be written. -/
def Uf (w : World) (b : Nat) : Prop := ∃ xs T, w.heap[b]? = some (.cells xs T (0, 0))
theorem Bk.uf {w : World} {g : Nat} {T : TypeId} {xs : List Value} (h : Bk w g T xs) : Uf w g := ⟨_, _, h⟩
theorem Uf.to {w w' : World} {b : Nat} {R : Nat → Prop} (h : Uf w b) (ho : Only R w w') (hR : ¬ R b) : Uf w' b := by
  obtain ⟨xs, T, h⟩ := h
  exact ⟨xs, T, (ho.block b (Array.getElem?_eq_some_iff.1 h).1 hR).trans h⟩
end Go.Proofs.Ytnbafoennnhppab

