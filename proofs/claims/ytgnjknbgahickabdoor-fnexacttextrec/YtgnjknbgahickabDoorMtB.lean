/-
  MetaBytes and MetaRead of the specification; what is read out of a meta's bytes, as plain data.
-/
import Derived.Test.YtgnjknbgahickabDoorMtP
import Derived.Test.YtgnjknbgahickabDoorSame
namespace Go.Proofs.YtgnjknbgahickabDoor
open Go.RowKit
theorem ob_lit (w : World) (z : Int) : Ob (w.alloc (.cells #[.int .u8 z] 5)) w.heap.size (.slice (some ⟨w.heap.size, 0, none⟩) 1 1) [z] :=
  ⟨rfl, .inr ⟨w.heap.size, 1, #[.int .u8 z], rfl, Nat.le_refl _, heap_alloc_new w _, Nat.le_refl _, by decide, rfl, rfl⟩⟩
theorem rd_two (w : World) (y z : Int) (h0 : 0 ≤ y ∧ y ≤ 255) (h1 : 0 ≤ z ∧ z ≤ 255) : Rd (w.alloc (.cells #[.int .u8 y, .int .u8 z] 5)) (some ⟨w.heap.size, 0, none⟩) 2 2 [y, z] := by
  refine ⟨rfl, Nat.le_refl _, by omega, by omega, fun i => ?_, fun _ => ⟨w.heap.size, 0, rfl, by simp, fun i hi => ?_⟩⟩
  · match i with
    | 0 => exact h0
    | 1 => exact h1
    | n + 2 => simp
  · have k := Bk.new w 5 [.int .u8 y, .int .u8 z]
    match i, hi with
    | 0, _ => exact k.cell (j := 0) rfl
    | 1, _ => exact k.cell (j := 1) rfl
theorem PutM.got {w w' : World} {r : Option (List Int)} {e : Ending} {zs : List Int} (h : Put w r e w') (hr : r = some zs) : ∃ v, e = .returned (.tuple #[v, .bool true]) ∧ Ob w' w.heap.size v zs ∧ Below w.heap.size w w' := by
  obtain ⟨hb, ⟨h1, _⟩ | ⟨v, zs', h1, h2, h3⟩⟩ := h
  · rw [hr] at h1; cases h1
  · rw [hr] at h1; cases h1
    exact ⟨v, h2, h3, hb⟩
theorem btw {u v w : World} (h : Below u.heap.size u v) (k : Below v.heap.size v w) : Below u.heap.size u w := h.trans (k.mono h.size)
/-- What append leaves below, and what it keeps. -/
theorem Ob.grown {u w w' : World} {v : Value} {zs : List Int} (h : Ob w u.heap.size v zs) (hb : Below u.heap.size u w) (hg : w.grownBy w' v.ownBlock) : Below u.heap.size u w' := by
  have hon : Only (fun y => v.ownBlock = some y) w w' := only_of_grown hg (fun k e => e)
  exact hb.trans (hon.below hb.size (fun b hb' e => by have := (World.ownsRow.lt h b e).1; omega))
theorem Ob.bk {u : Nat} {w w' : World} {v : Value} {zs : List Int} {b : Nat} {T : TypeId} {xs : List Value} (h : Ob w u v zs) (hk : Bk w b T xs) (hg : w.grownBy w' v.ownBlock) (hb : b < u) : Bk w' b T xs :=
  hk.to (only_of_grown hg (R := fun y => v.ownBlock = some y) (fun k e => e)) (fun e => by have := (World.ownsRow.lt h b e).1; omega)
end Go.Proofs.YtgnjknbgahickabDoor

