/-
  Slices of strings: what is read of one; the law's helpers over them; SplitsOk of the program and of the specification.
-/
import Derived.Test.YtcpdedpgjaimkaaRng
namespace Go.Proofs.Ytcpdedpgjaimkaa
open Go.RowKit

/-- The slice value '.slice a n c' has in the world w the strings ss. -/
def Sd (w : World) (a : Option Addr) (n c : Nat) (ss : List ByteArray) : Prop :=
  n = ss.length ∧ n ≤ c ∧ c ≤ 9223372036854775807 ∧ (∀ i : Nat, (ss[i]?.getD ⟨#[]⟩).size ≤ 9223372036854775807) ∧
    (0 < n → ∃ b off, a = some ⟨b, off, none⟩ ∧ b < w.heap.size ∧ ∀ i, i < n → w.cell? ⟨b, off + i, none⟩ = some (.string (ss[i]?.getD ⟨#[]⟩)))
theorem Sd.kept {w w' : World} {a : Option Addr} {n c : Nat} {ss : List ByteArray} (h : Sd w a n c ss) (hB : Below w.heap.size w w') : Sd w' a n c ss := by
  obtain ⟨h1, h2, h3, h4, h5⟩ := h
  refine ⟨h1, h2, h3, h4, fun hp => ?_⟩
  obtain ⟨b, off, rfl, hb, hc⟩ := h5 hp
  refine ⟨b, off, rfl, Nat.lt_of_lt_of_le hb hB.size, fun i hi => ?_⟩
  rw [hB.cell (p := ⟨b, off + i, none⟩) hb]
  exact hc i hi
/-- The list is right from place k on: keys, each above the one ahead. -/
def sOkF (ss : List ByteArray) : Nat → Nat → Bool
  | 0, _ => true
  | f + 1, k => kOk (ss[k]?.getD ⟨#[]⟩) && (decide (k = 0) || Op.bytesLess (ss[k - 1]?.getD ⟨#[]⟩).toList (ss[k]?.getD ⟨#[]⟩).toList) && sOkF ss f (k + 1)
def sOk (ss : List ByteArray) : Bool := decide (ss.length ≤ 3) && sOkF ss ss.length 0
theorem sOkF_no (ss : List ByteArray) (f k : Nat) (h : kOk (ss[k]?.getD ⟨#[]⟩) = false) : sOkF ss (f + 1) k = false := by simp [sOkF, h]
theorem sOkF_0 (ss : List ByteArray) (f : Nat) (h : kOk (ss[0]?.getD ⟨#[]⟩) = true) : sOkF ss (f + 1) 0 = sOkF ss f 1 := by simp only [sOkF, h]; simp
theorem sOkF_s (ss : List ByteArray) (f j : Nat) (h : kOk (ss[j + 1]?.getD ⟨#[]⟩) = true) (b : Bool) (h2 : Op.bytesLess (ss[j]?.getD ⟨#[]⟩).toList (ss[j + 1]?.getD ⟨#[]⟩).toList = b) : sOkF ss (f + 1) (j + 1) = (b && sOkF ss f (j + 1 + 1)) := by
  simp only [sOkF, h, Nat.add_sub_cancel, h2]; simp
end Go.Proofs.Ytcpdedpgjaimkaa

