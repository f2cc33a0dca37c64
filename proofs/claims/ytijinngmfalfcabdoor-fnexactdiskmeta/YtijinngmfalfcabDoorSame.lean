/-
  l04Same: two slices of bytes hold the same.
-/
import Derived.Test.YtijinngmfalfcabDoorStr
import Derived.Test.YtijinngmfalfcabDoorZeros
import Derived.Test.YtijinngmfalfcabDoorOrd
import Derived.Test.YtijinngmfalfcabDoorPlain
namespace Go.Proofs.YtijinngmfalfcabDoor
open Go.RowKit
def zAt (zs : List Int) (i : Nat) : Int := zs[i]?.getD 0
theorem strOf_eq {xs ys : List Int} (hx : ∀ z ∈ xs, 0 ≤ z ∧ z ≤ 255) (hy : ∀ z ∈ ys, 0 ≤ z ∧ z ≤ 255) (h : strOf xs = strOf ys) : xs = ys := by
  have key : ∀ (o : List Int), (∀ z ∈ o, 0 ≤ z ∧ z ≤ 255) → bytesOf (strOf o) = o := by
    intro o ho
    simp only [bytesOf, strOf, List.map_map]
    conv => rhs; rw [← List.map_id o]
    refine List.map_congr_left fun z hz => ?_
    have := ho z hz
    simp
    omega
  rw [← key xs hx, ← key ys hy, h]
set_option maxHeartbeats 800000 in
theorem same_any (a b : Option Addr) (n m c d : Nat) (xs ys : List Int) (w : World) (hx : Rd w a n c xs) (hy : Rd w b m d ys) :
    Calls Tryd.prog 62 #[.slice a n c, .slice b m d] w fun e w' => e = .returned (.bool (decide (xs = ys))) ∧ w = w' := by
  have h1 := run_str hx
  have h2 := run_str hy
  have b1 := at_byte hx.2.2.2.2.1
  have b2 := at_byte hy.2.2.2.2.1
  by_cases e : xs = ys
  · subst e
    generalize strOf xs = s at *
    rw [decide_eq_true rfl]
    clear b1 b2 hx hy
    go_enter Tryd.func62, Tryd.ntmps62
    go_wp2
    go_ret
    exact ⟨rfl, rfl⟩
  · have hne : ((strOf xs).toList == (strOf ys).toList) = false := by
      rw [beq_eq_false_iff_ne]
      exact fun h => e (strOf_eq b1 b2 (str_ext h))
    rw [decide_eq_false e]
    generalize strOf xs = s at *
    generalize strOf ys = t at *
    clear b1 b2 hx hy e
    go_enter Tryd.func62, Tryd.ntmps62
    go_wp2
    go_ret
    exact ⟨rfl, rfl⟩
end Go.Proofs.YtijinngmfalfcabDoor

