/-
  Keys and ranges: what the program's functions and the specification's answer, for all strings.
-/
import Derived.Test.YtnbafoennnhppabBase
import Derived.Test.YtnbafoennnhppabOrd
import Derived.Test.YtnbafoennnhppabKV
import Derived.Deep.RegionHeld3
import Derived.Laws.Cover1
namespace Go.Proofs.Ytnbafoennnhppab
open Go.RowKit

def rng (lo hi : ByteArray) : Value := .agg #[.string lo, .string hi]
/-- Whether s lies ahead of the end hi. -/
def ahd (s hi : ByteArray) : Bool := decide (hi.toList = []) || Op.bytesLess s.toList hi.toList
/-- A range that lies in a new block, kept. -/
theorem s2 {w w1 : World} {lo hi : ByteArray} {T : TypeId} (h : Below (w.alloc (.cells #[.string lo, .string hi] T)).heap.size (w.alloc (.cells #[.string lo, .string hi] T)) w1) :
    w1.cell? ⟨w.heap.size, 0, none⟩ = some (.string lo) ∧ w1.cell? ⟨w.heap.size, 1, none⟩ = some (.string hi) ∧ Below (w.alloc (.cells #[.string lo, .string hi] T)).heap.size (w.alloc (.cells #[.string lo, .string hi] T)) w1 := by
  refine ⟨?_, ?_, h⟩
  · rw [h.cell (p := ⟨w.heap.size, 0, none⟩) (by simp), World.cell?_alloc_at (hn := rfl)]; rfl
  · rw [h.cell (p := ⟨w.heap.size, 1, none⟩) (by simp), World.cell?_alloc_at (hn := rfl)]; rfl
theorem s2k {w w1 w2 : World} {lo hi : ByteArray} {T : TypeId} (h2 : Below w1.heap.size w1 w2)
    (h : w1.cell? ⟨w.heap.size, 0, none⟩ = some (.string lo) ∧ w1.cell? ⟨w.heap.size, 1, none⟩ = some (.string hi) ∧ Below (w.alloc (.cells #[.string lo, .string hi] T)).heap.size (w.alloc (.cells #[.string lo, .string hi] T)) w1) :
    w2.cell? ⟨w.heap.size, 0, none⟩ = some (.string lo) ∧ w2.cell? ⟨w.heap.size, 1, none⟩ = some (.string hi) ∧ Below (w.alloc (.cells #[.string lo, .string hi] T)).heap.size (w.alloc (.cells #[.string lo, .string hi] T)) w2 :=
  s2 (h.2.2.trans (h2.mono h.2.2.size))
def rOk (lo hi : ByteArray) : Bool := decide (lo.size ≤ 17) && decide (hi.size ≤ 17) && ahd lo hi
def rHas (lo hi k : ByteArray) : Bool := rOk lo hi && kOk k && !Op.bytesLess k.toList lo.toList && ahd k hi

end Go.Proofs.Ytnbafoennnhppab

