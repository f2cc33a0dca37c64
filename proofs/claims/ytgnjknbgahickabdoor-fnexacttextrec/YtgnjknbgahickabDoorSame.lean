/-
  l04Same: two slices of bytes hold the same.
-/
import Derived.Test.YtgnjknbgahickabDoorStr
import Derived.Test.YtgnjknbgahickabDoorZeros
import Derived.Test.YtgnjknbgahickabDoorOrd
import Derived.Test.YtgnjknbgahickabDoorPlain
namespace Go.Proofs.YtgnjknbgahickabDoor
open Go.RowKit
def zAt (zs : List Int) (i : Nat) : Int := zs[i]?.getD 0
theorem strOf_eq {xs ys : List Int} (hx : ∀ z ∈ xs, 0 ≤ z ∧ z ≤ 255) (hy : ∀ z ∈ ys, 0 ≤ z ∧ z ≤ 255) (h : strOf xs = strOf ys) : xs = ys := by
  have key : ∀ (o : List Int), (∀ z ∈ o, 0 ≤ z ∧ z ≤ 255) → bytesOf (strOf o) = o := by
    intro o ho
    simp only [bytesOf, strOf, List.map_map]
    conv => rhs; rw [← List.map_id o]
    refine List.map_congr_left fun z hz => ?_
    have := ho z hz
    simp
    omega
  rw [← key xs hx, ← key ys hy, h]
end Go.Proofs.YtgnjknbgahickabDoor

