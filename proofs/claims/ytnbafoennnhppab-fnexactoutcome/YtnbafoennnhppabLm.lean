/-
  A limb of the program: a pointer to a struct of two slices, its pairs and its kids; which blocks it has for its own.
-/
import Derived.Test.YtnbafoennnhppabNodeM
import Derived.Deep.LoopGhost
namespace Go.Proofs.Ytnbafoennnhppab
open Go.RowKit

def tAt (ks : List T) (i : Nat) : T := ks[i]?.getD default
def ptr (b : Nat) : Value := .pointer (some ⟨b, 0, none⟩)
def ptrs (A : Nat → Nat) (n : Nat) : List Value := (List.range n).map fun i => ptr (A i)
theorem ptrs_at (A : Nat → Nat) (n i : Nat) (h : i < n) : (ptrs A n)[i]? = some (ptr (A i)) := by simp [ptrs, h]
theorem own_max {w : World} {base : Nat} {e : TypeId} {size : Nat} {v : Value} {n : Nat} {xs : List Value} (h : w.ownsRow base e size v n xs) : n ≤ maxLen := by
  rcases h.2 with ⟨rfl, rfl⟩ | ⟨g, cap, cur, rfl, _, _, h5, h6, _⟩
  · exact Nat.zero_le _
  · exact Nat.le_trans h5 h6
theorem undrew (w : World) (q : Nat) : Below (w.drewN q).heap.size (w.drewN q) w := ⟨rfl, rfl, rfl, Nat.le_refl _, fun _ _ => rfl⟩
def T.bare (t : T) : Bool := decide (t.ps.length + t.ks.length = 0)
/-- The first leaf below has a pair. -/
def T.ne : T → Prop
  | .mk ps [] => ps ≠ []
  | .mk _ (k :: _) => k.ne
def T.dpt (t : T) : Nat := if t.bare = true then 0 else t.lv
end Go.Proofs.Ytnbafoennnhppab

