/-
  Two ranges that lie in new blocks, kept.
-/
import Derived.Test.YtmogdijhlgonnabRng3
namespace Go.Proofs.Ytmogdijhlgonnab
open Go.RowKit
theorem below_alloc' (w : World) (o : Obj) : Below w.heap.size w (w.alloc o) := (Below.refl _ _).alloc (Nat.le_refl _) o
/-- Two ranges that lie in new blocks, kept. -/
theorem two_then {w w1 : World} {la ha lb hb : ByteArray} {T T' : TypeId} (h : Below ((w.alloc (.cells #[.string la, .string ha] T)).alloc (.cells #[.string lb, .string hb] T')).heap.size ((w.alloc (.cells #[.string la, .string ha] T)).alloc (.cells #[.string lb, .string hb] T')) w1) :
    w1.cell? ⟨w.heap.size, 0, none⟩ = some (.string la) ∧ w1.cell? ⟨w.heap.size, 1, none⟩ = some (.string ha) ∧ w1.cell? ⟨w.heap.size + 1, 0, none⟩ = some (.string lb) ∧ w1.cell? ⟨w.heap.size + 1, 1, none⟩ = some (.string hb) ∧ Below ((w.alloc (.cells #[.string la, .string ha] T)).alloc (.cells #[.string lb, .string hb] T')).heap.size ((w.alloc (.cells #[.string la, .string ha] T)).alloc (.cells #[.string lb, .string hb] T')) w1 := by
  have h1 := s2 ((below_alloc' _ _).trans (h.mono (by simp)))
  have h2 := s2 h
  refine ⟨h1.1, h1.2.1, ?_, ?_, h⟩
  · have := h2.1; simpa using this
  · have := h2.2.1; simpa using this

/-- Two blocks of two cells that a world u has are kept in v, with all else that u has. -/
structure Q4 (u v : World) (n m : Nat) (p0 p1 q0 q1 : Value) : Prop where
  a0 : u.cell? ⟨n, 0, none⟩ = some p0
  a1 : u.cell? ⟨n, 1, none⟩ = some p1
  b0 : u.cell? ⟨m, 0, none⟩ = some q0
  b1 : u.cell? ⟨m, 1, none⟩ = some q1
  bel : Below u.heap.size u v
variable {u v v' : World} {n m g : Nat} {p0 p1 q0 q1 x y : Value} {o o' : Obj}
theorem Q4.cells (T : Q4 u v n m p0 p1 q0 q1) : v.cell? ⟨n, 0, none⟩ = some p0 ∧ v.cell? ⟨n, 1, none⟩ = some p1 ∧ v.cell? ⟨m, 0, none⟩ = some q0 ∧ v.cell? ⟨m, 1, none⟩ = some q1 ∧ Q4 u v n m p0 p1 q0 q1 :=
  ⟨(T.bel.cell (p := ⟨n, 0, none⟩) (block_lt T.a0)).trans T.a0, (T.bel.cell (p := ⟨n, 1, none⟩) (block_lt T.a1)).trans T.a1, (T.bel.cell (p := ⟨m, 0, none⟩) (block_lt T.b0)).trans T.b0, (T.bel.cell (p := ⟨m, 1, none⟩) (block_lt T.b1)).trans T.b1, T⟩
theorem Q4.step (T : Q4 u v n m p0 p1 q0 q1) (k : Below v.heap.size v v') : Q4 u v' n m p0 p1 q0 q1 := { T with bel := T.bel.trans (k.mono T.bel.size) }
theorem Q4.call (k : Below v.heap.size v v') (h : v.cell? ⟨n, 0, none⟩ = some p0 ∧ v.cell? ⟨n, 1, none⟩ = some p1 ∧ v.cell? ⟨m, 0, none⟩ = some q0 ∧ v.cell? ⟨m, 1, none⟩ = some q1 ∧ Q4 u v n m p0 p1 q0 q1) : v'.cell? ⟨n, 0, none⟩ = some p0 ∧ v'.cell? ⟨n, 1, none⟩ = some p1 ∧ v'.cell? ⟨m, 0, none⟩ = some q0 ∧ v'.cell? ⟨m, 1, none⟩ = some q1 ∧ Q4 u v' n m p0 p1 q0 q1 := (h.2.2.2.2.step k).cells
theorem Q4.big (k : Below v.heap.size v v') (h : v.cell? ⟨n, 0, none⟩ = some p0 ∧ v.cell? ⟨n, 1, none⟩ = some p1 ∧ v.cell? ⟨m, 0, none⟩ = some q0 ∧ v.cell? ⟨m, 1, none⟩ = some q1 ∧ Q4 u v n m p0 p1 q0 q1) : u.heap.size ≤ v'.heap.size := Nat.le_trans h.2.2.2.2.bel.size k.size
theorem Q4.of (h : v.cell? ⟨n, 0, none⟩ = some p0 ∧ v.cell? ⟨n, 1, none⟩ = some p1 ∧ v.cell? ⟨m, 0, none⟩ = some q0 ∧ v.cell? ⟨m, 1, none⟩ = some q1 ∧ Q4 u v n m p0 p1 q0 q1) : Q4 u v n m p0 p1 q0 q1 := h.2.2.2.2
theorem Q4.swap (hz : u.heap.size ≤ v.heap.size) (h : (v.alloc o).cell? ⟨n, 0, none⟩ = some p0 ∧ (v.alloc o).cell? ⟨n, 1, none⟩ = some p1 ∧ (v.alloc o).cell? ⟨m, 0, none⟩ = some q0 ∧ (v.alloc o).cell? ⟨m, 1, none⟩ = some q1 ∧ Q4 u (v.alloc o) n m p0 p1 q0 q1) : (v.alloc o').cell? ⟨n, 0, none⟩ = some p0 ∧ (v.alloc o').cell? ⟨n, 1, none⟩ = some p1 ∧ (v.alloc o').cell? ⟨m, 0, none⟩ = some q0 ∧ (v.alloc o').cell? ⟨m, 1, none⟩ = some q1 ∧ Q4 u (v.alloc o') n m p0 p1 q0 q1 := by
  have T := h.2.2.2.2
  exact Q4.cells { T with bel := ⟨T.bel.os, T.bel.tape, T.bel.output, by simp; omega, fun k hk => by rw [heap_alloc_old v o' (by omega), ← heap_alloc_old v o (by omega)]; exact T.bel.block k hk⟩ }
theorem Q4.sets (hz : u.heap.size ≤ g) (h : v.cell? ⟨n, 0, none⟩ = some p0 ∧ v.cell? ⟨n, 1, none⟩ = some p1 ∧ v.cell? ⟨m, 0, none⟩ = some q0 ∧ v.cell? ⟨m, 1, none⟩ = some q1 ∧ Q4 u v n m p0 p1 q0 q1) : ((v.setCell ⟨g, 0, none⟩ x).setCell ⟨g, 1, none⟩ y).cell? ⟨n, 0, none⟩ = some p0 ∧ ((v.setCell ⟨g, 0, none⟩ x).setCell ⟨g, 1, none⟩ y).cell? ⟨n, 1, none⟩ = some p1 ∧ ((v.setCell ⟨g, 0, none⟩ x).setCell ⟨g, 1, none⟩ y).cell? ⟨m, 0, none⟩ = some q0 ∧ ((v.setCell ⟨g, 0, none⟩ x).setCell ⟨g, 1, none⟩ y).cell? ⟨m, 1, none⟩ = some q1 ∧ Q4 u ((v.setCell ⟨g, 0, none⟩ x).setCell ⟨g, 1, none⟩ y) n m p0 p1 q0 q1 :=
  Q4.cells { h.2.2.2.2 with bel := (h.2.2.2.2.bel.setCell (p := ⟨g, 0, none⟩) hz x).setCell (p := ⟨g, 1, none⟩) hz y }
end Go.Proofs.Ytmogdijhlgonnab

