/-
  Points, ranges in common, ranges within ranges: what the program's functions and the specification's answer.
-/
import Derived.Test.YtnbafoennnhppabRng2
namespace Go.Proofs.Ytnbafoennnhppab
open Go.RowKit

theorem eqRange_same (lo hi : ByteArray) (w : World) : Calls Try.prog 29 #[rng lo hi, rng lo hi] w fun e w' => e = .returned (.bool true) ∧ Below w.heap.size w w' := by
  show Calls Try.prog 29 #[.agg #[.string lo, .string hi], .agg #[.string lo, .string hi]] w _
  go_enter Try.func29, Try.ntmps29
  go_wp2
  go_ret
  exact ⟨rfl, below_new (below_new (Below.refl _ _))⟩
/-- The lesser of two ends (none: the greatest). -/
def lsr (a b : ByteArray) : ByteArray := if a.toList = [] then b else if ahd a b then a else b
/-- The greater of two beginnings. -/
def mxl (a b : ByteArray) : ByteArray := if Op.bytesLess a.toList b.toList then b else a
def bth (la ha lb hb : ByteArray) : Bool := rOk la ha && rOk lb hb && rOk (mxl la lb) (lsr ha hb)
def bLo (la ha lb hb : ByteArray) : ByteArray := if bth la ha lb hb then mxl la lb else ⟨#[]⟩
def bHi (la ha lb hb : ByteArray) : ByteArray := if bth la ha lb hb then lsr ha hb else ⟨#[]⟩
theorem run_mxl (ts : Array TypeId) (t : TypeId) (a b : ByteArray) (w : World) : (Builtin.max_ ts t #[.string a, .string b]).run Try.prog w = .ok (.string (mxl a b)) w := by
  have e : (Builtin.max_ ts t #[.string a, .string b]).run Try.prog w = .ok (.string (if (!Op.bytesLess a.toList b.toList) = true then a else b)) w := by
    simp [Builtin.max_, Builtin.max2, Op.stringOp, asBool]
  rw [e]
  unfold mxl
  cases Op.bytesLess a.toList b.toList <;> rfl
theorem s2q {w w1 : World} (h : Below (w.alloc (.cells #[.string ⟨#[]⟩, .string ⟨#[]⟩] 41)).heap.size (w.alloc (.cells #[.string ⟨#[]⟩, .string ⟨#[]⟩] 41)) w1) :
    w1.cell? ⟨w.heap.size, 0, none⟩ = some (.string ⟨#[]⟩) ∧ w1.cell? ⟨w.heap.size, 1, none⟩ = some (.string ⟨#[]⟩) ∧ w1.frozen? ⟨w.heap.size, 0, none⟩ = false ∧ w1.frozen? ⟨w.heap.size, 1, none⟩ = false := by
  exact ((Blk.new w ⟨#[]⟩ ⟨#[]⟩).kept h).facts
theorem keep4 {w w1 : World} {g : Nat} {x y : Value} (h : Below w.heap.size w w1) (q0 : w.cell? ⟨g, 0, none⟩ = some x) (q1 : w.cell? ⟨g, 1, none⟩ = some y) (q2 : w.frozen? ⟨g, 0, none⟩ = false) (q3 : w.frozen? ⟨g, 1, none⟩ = false) :
    w1.cell? ⟨g, 0, none⟩ = some x ∧ w1.cell? ⟨g, 1, none⟩ = some y ∧ w1.frozen? ⟨g, 0, none⟩ = false ∧ w1.frozen? ⟨g, 1, none⟩ = false := by
  have hl : g < w.heap.size := block_lt q0
  exact ⟨by rw [h.cell (p := ⟨g, 0, none⟩) hl]; exact q0, by rw [h.cell (p := ⟨g, 1, none⟩) hl]; exact q1, by rw [h.frozen (p := ⟨g, 0, none⟩) hl]; exact q2, by rw [h.frozen (p := ⟨g, 1, none⟩) hl]; exact q3⟩
theorem s2q_then {C : Prop} {w w1 : World} (h : Below (w.alloc (.cells #[.string ⟨#[]⟩, .string ⟨#[]⟩] 41)).heap.size (w.alloc (.cells #[.string ⟨#[]⟩, .string ⟨#[]⟩] 41)) w1)
    (k : w1.cell? ⟨w.heap.size, 0, none⟩ = some (.string ⟨#[]⟩) → w1.cell? ⟨w.heap.size, 1, none⟩ = some (.string ⟨#[]⟩) → w1.frozen? ⟨w.heap.size, 0, none⟩ = false → w1.frozen? ⟨w.heap.size, 1, none⟩ = false → C) : C :=
  k (s2q h).1 (s2q h).2.1 (s2q h).2.2.1 (s2q h).2.2.2
theorem s2d_then {C : Prop} {w w1 : World} (h : Below (w.alloc (.cells #[.string ⟨#[]⟩, .string ⟨#[]⟩] 41)).drew.heap.size (w.alloc (.cells #[.string ⟨#[]⟩, .string ⟨#[]⟩] 41)).drew w1)
    (k : w1.cell? ⟨w.heap.size, 0, none⟩ = some (.string ⟨#[]⟩) → w1.cell? ⟨w.heap.size, 1, none⟩ = some (.string ⟨#[]⟩) → w1.frozen? ⟨w.heap.size, 0, none⟩ = false → w1.frozen? ⟨w.heap.size, 1, none⟩ = false → C) : C :=
  s2q_then (w := w) ⟨h.os, h.tape, h.output, h.size, h.block⟩ k
theorem keep4_then {C : Prop} {w w1 : World} {g : Nat} {x y : Value} (h : Below w.heap.size w w1) (q0 : w.cell? ⟨g, 0, none⟩ = some x) (q1 : w.cell? ⟨g, 1, none⟩ = some y) (q2 : w.frozen? ⟨g, 0, none⟩ = false) (q3 : w.frozen? ⟨g, 1, none⟩ = false)
    (k : w1.cell? ⟨g, 0, none⟩ = some x → w1.cell? ⟨g, 1, none⟩ = some y → w1.frozen? ⟨g, 0, none⟩ = false → w1.frozen? ⟨g, 1, none⟩ = false → C) : C :=
  k (keep4 h q0 q1 q2 q3).1 (keep4 h q0 q1 q2 q3).2.1 (keep4 h q0 q1 q2 q3).2.2.1 (keep4 h q0 q1 q2 q3).2.2.2
theorem Trio.cells {w v : World} {la ha lb hb : ByteArray} (T : Trio w v la ha lb hb) :
    v.cell? ⟨w.heap.size, 0, none⟩ = some (.string la) ∧ v.cell? ⟨w.heap.size, 1, none⟩ = some (.string ha) ∧ v.cell? ⟨w.heap.size + 1, 0, none⟩ = some (.string lb) ∧ v.cell? ⟨w.heap.size + 1, 1, none⟩ = some (.string hb) ∧ Trio w v la ha lb hb :=
  ⟨T.a.facts.1, T.a.facts.2.1, T.b.facts.1, T.b.facts.2.1, T⟩
theorem Trio.call {w v v' : World} {la ha lb hb : ByteArray} (k : Below v.heap.size v v') (h : v.cell? ⟨w.heap.size, 0, none⟩ = some (.string la) ∧ v.cell? ⟨w.heap.size, 1, none⟩ = some (.string ha) ∧ v.cell? ⟨w.heap.size + 1, 0, none⟩ = some (.string lb) ∧ v.cell? ⟨w.heap.size + 1, 1, none⟩ = some (.string hb) ∧ Trio w v la ha lb hb) :
    v'.cell? ⟨w.heap.size, 0, none⟩ = some (.string la) ∧ v'.cell? ⟨w.heap.size, 1, none⟩ = some (.string ha) ∧ v'.cell? ⟨w.heap.size + 1, 0, none⟩ = some (.string lb) ∧ v'.cell? ⟨w.heap.size + 1, 1, none⟩ = some (.string hb) ∧ Trio w v' la ha lb hb := (h.2.2.2.2.step k).cells
theorem Trio.big {w v v' : World} {la ha lb hb : ByteArray} (k : Below v.heap.size v v') (h : v.cell? ⟨w.heap.size, 0, none⟩ = some (.string la) ∧ v.cell? ⟨w.heap.size, 1, none⟩ = some (.string ha) ∧ v.cell? ⟨w.heap.size + 1, 0, none⟩ = some (.string lb) ∧ v.cell? ⟨w.heap.size + 1, 1, none⟩ = some (.string hb) ∧ Trio w v la ha lb hb) :
    w.heap.size + 1 + 1 < v'.heap.size := Nat.lt_of_lt_of_le h.2.2.2.2.r.lt k.size
theorem Trio.swap {w v : World} {la ha lb hb : ByteArray} {o o' : Obj} (hz : w.heap.size + 1 + 1 < v.heap.size) (h : (v.alloc o).cell? ⟨w.heap.size, 0, none⟩ = some (.string la) ∧ (v.alloc o).cell? ⟨w.heap.size, 1, none⟩ = some (.string ha) ∧ (v.alloc o).cell? ⟨w.heap.size + 1, 0, none⟩ = some (.string lb) ∧ (v.alloc o).cell? ⟨w.heap.size + 1, 1, none⟩ = some (.string hb) ∧ Trio w (v.alloc o) la ha lb hb) :
    (v.alloc o').cell? ⟨w.heap.size, 0, none⟩ = some (.string la) ∧ (v.alloc o').cell? ⟨w.heap.size, 1, none⟩ = some (.string ha) ∧ (v.alloc o').cell? ⟨w.heap.size + 1, 0, none⟩ = some (.string lb) ∧ (v.alloc o').cell? ⟨w.heap.size + 1, 1, none⟩ = some (.string hb) ∧ Trio w (v.alloc o') la ha lb hb := by
  have T := h.2.2.2.2
  refine Trio.cells ⟨⟨T.bel.os, T.bel.tape, T.bel.output, by simp; omega, fun k hk => ?_⟩, ?_, ?_, ?_⟩
  · rw [heap_alloc_old v o' (by omega), ← heap_alloc_old v o (by omega)]; exact T.bel.block k hk
  · exact (heap_alloc_old v o' (by omega)).trans ((heap_alloc_old v o (by omega)).symm.trans T.a)
  · exact (heap_alloc_old v o' (by omega)).trans ((heap_alloc_old v o (by omega)).symm.trans T.b)
  · exact (heap_alloc_old v o' (by omega)).trans ((heap_alloc_old v o (by omega)).symm.trans T.r)
theorem Trio.set {w v : World} {la ha lb hb : ByteArray} {g o : Nat} {x : Value} (hz : w.heap.size + 1 + 1 < g) (T : Trio w v la ha lb hb) : Trio w (v.setCell ⟨g, o, none⟩ x) la ha lb hb :=
  ⟨T.bel.setCell (p := ⟨g, o, none⟩) (by show w.heap.size ≤ g; omega) x, (Below.heap_setCell v ⟨g, o, none⟩ x _ (by show w.heap.size ≠ g; omega)).trans T.a,
    (Below.heap_setCell v ⟨g, o, none⟩ x _ (by show w.heap.size + 1 ≠ g; omega)).trans T.b, (Below.heap_setCell v ⟨g, o, none⟩ x _ (by show w.heap.size + 1 + 1 ≠ g; omega)).trans T.r⟩
theorem Trio.sets {w v : World} {la ha lb hb : ByteArray} {g : Nat} {x y : Value} (hz : w.heap.size + 1 + 1 < g) (h : v.cell? ⟨w.heap.size, 0, none⟩ = some (.string la) ∧ v.cell? ⟨w.heap.size, 1, none⟩ = some (.string ha) ∧ v.cell? ⟨w.heap.size + 1, 0, none⟩ = some (.string lb) ∧ v.cell? ⟨w.heap.size + 1, 1, none⟩ = some (.string hb) ∧ Trio w v la ha lb hb) :
    ((v.setCell ⟨g, 0, none⟩ x).setCell ⟨g, 1, none⟩ y).cell? ⟨w.heap.size, 0, none⟩ = some (.string la) ∧ ((v.setCell ⟨g, 0, none⟩ x).setCell ⟨g, 1, none⟩ y).cell? ⟨w.heap.size, 1, none⟩ = some (.string ha) ∧ ((v.setCell ⟨g, 0, none⟩ x).setCell ⟨g, 1, none⟩ y).cell? ⟨w.heap.size + 1, 0, none⟩ = some (.string lb) ∧ ((v.setCell ⟨g, 0, none⟩ x).setCell ⟨g, 1, none⟩ y).cell? ⟨w.heap.size + 1, 1, none⟩ = some (.string hb) ∧ Trio w ((v.setCell ⟨g, 0, none⟩ x).setCell ⟨g, 1, none⟩ y) la ha lb hb := ((h.2.2.2.2.set hz).set hz).cells
theorem Trio.of {w v : World} {la ha lb hb : ByteArray} (h : v.cell? ⟨w.heap.size, 0, none⟩ = some (.string la) ∧ v.cell? ⟨w.heap.size, 1, none⟩ = some (.string ha) ∧ v.cell? ⟨w.heap.size + 1, 0, none⟩ = some (.string lb) ∧ v.cell? ⟨w.heap.size + 1, 1, none⟩ = some (.string hb) ∧ Trio w v la ha lb hb) : Trio w v la ha lb hb := h.2.2.2.2
theorem cell_kept {w w1 : World} {g o : Nat} {x : Value} (h : w.cell? ⟨g, o, none⟩ = some x) (hb : Below w.heap.size w w1) : w1.cell? ⟨g, o, none⟩ = some x := (hb.cell (p := ⟨g, o, none⟩) (block_lt h)).trans h
theorem below_alloc (w : World) (o : Obj) : Below w.heap.size w (w.alloc o) := (Below.refl _ _).alloc (Nat.le_refl _) o
end Go.Proofs.Ytnbafoennnhppab

