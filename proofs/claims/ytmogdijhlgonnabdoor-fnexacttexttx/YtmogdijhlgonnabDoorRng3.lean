/-
  Points, ranges in common, ranges within ranges: what the program's functions and the specification's answer.
-/
import Derived.Test.YtmogdijhlgonnabDoorRng2
namespace Go.Proofs.YtmogdijhlgonnabDoor
open Go.RowKit

/-- The lesser of two ends (none: the greatest). -/
def lsr (a b : ByteArray) : ByteArray := if a.toList = [] then b else if ahd a b then a else b
/-- The greater of two beginnings. -/
def mxl (a b : ByteArray) : ByteArray := if Op.bytesLess a.toList b.toList then b else a
def bth (la ha lb hb : ByteArray) : Bool := rOk la ha && rOk lb hb && rOk (mxl la lb) (lsr ha hb)
def bLo (la ha lb hb : ByteArray) : ByteArray := if bth la ha lb hb then mxl la lb else ⟨#[]⟩
def bHi (la ha lb hb : ByteArray) : ByteArray := if bth la ha lb hb then lsr ha hb else ⟨#[]⟩
theorem run_mxl (ts : Array TypeId) (t : TypeId) (a b : ByteArray) (w : World) : (Builtin.max_ ts t #[.string a, .string b]).run Tryd.prog w = .ok (.string (mxl a b)) w := by
  have e : (Builtin.max_ ts t #[.string a, .string b]).run Tryd.prog w = .ok (.string (if (!Op.bytesLess a.toList b.toList) = true then a else b)) w := by
    simp [Builtin.max_, Builtin.max2, Op.stringOp, asBool]
  rw [e]
  unfold mxl
  cases Op.bytesLess a.toList b.toList <;> rfl
theorem keep4 {w w1 : World} {g : Nat} {x y : Value} (h : Below w.heap.size w w1) (q0 : w.cell? ⟨g, 0, none⟩ = some x) (q1 : w.cell? ⟨g, 1, none⟩ = some y) (q2 : w.frozen? ⟨g, 0, none⟩ = false) (q3 : w.frozen? ⟨g, 1, none⟩ = false) :
    w1.cell? ⟨g, 0, none⟩ = some x ∧ w1.cell? ⟨g, 1, none⟩ = some y ∧ w1.frozen? ⟨g, 0, none⟩ = false ∧ w1.frozen? ⟨g, 1, none⟩ = false := by
  have hl : g < w.heap.size := block_lt q0
  exact ⟨by rw [h.cell (p := ⟨g, 0, none⟩) hl]; exact q0, by rw [h.cell (p := ⟨g, 1, none⟩) hl]; exact q1, by rw [h.frozen (p := ⟨g, 0, none⟩) hl]; exact q2, by rw [h.frozen (p := ⟨g, 1, none⟩) hl]; exact q3⟩
theorem keep4_then {C : Prop} {w w1 : World} {g : Nat} {x y : Value} (h : Below w.heap.size w w1) (q0 : w.cell? ⟨g, 0, none⟩ = some x) (q1 : w.cell? ⟨g, 1, none⟩ = some y) (q2 : w.frozen? ⟨g, 0, none⟩ = false) (q3 : w.frozen? ⟨g, 1, none⟩ = false)
    (k : w1.cell? ⟨g, 0, none⟩ = some x → w1.cell? ⟨g, 1, none⟩ = some y → w1.frozen? ⟨g, 0, none⟩ = false → w1.frozen? ⟨g, 1, none⟩ = false → C) : C :=
  k (keep4 h q0 q1 q2 q3).1 (keep4 h q0 q1 q2 q3).2.1 (keep4 h q0 q1 q2 q3).2.2.1 (keep4 h q0 q1 q2 q3).2.2.2
theorem cell_kept {w w1 : World} {g o : Nat} {x : Value} (h : w.cell? ⟨g, o, none⟩ = some x) (hb : Below w.heap.size w w1) : w1.cell? ⟨g, o, none⟩ = some x := (hb.cell (p := ⟨g, o, none⟩) (block_lt h)).trans h
theorem below_alloc (w : World) (o : Obj) : Below w.heap.size w (w.alloc o) := (Below.refl _ _).alloc (Nat.le_refl _) o
end Go.Proofs.YtmogdijhlgonnabDoor

