/-
  slices.BinarySearchFunc over pairs that ascend; pairFor: the place of a key in a leaf.
-/
import Derived.Test.YtbaggkfgnjenoaaCmp
namespace Go.Proofs.Ytbaggkfgnjenoaa
open Go.RowKit
theorem Pr.cells {w : World} {S : Nat → Prop} {b off n c : Nat} {l : List PB} (h : Pr w S (.slice (some ⟨b, off, none⟩) n c) l) {i : Nat} (hi : i < l.length) : w.cell? ⟨b, off + i * 2, none⟩ = some (.string (pAtB l i).1) ∧ w.cell? ⟨b, off + i * 2 + 1, none⟩ = some (.string (pAtB l i).2) := by
  have hn := (Rw.len h).1
  obtain ⟨b', off', e, _, _, hc⟩ := Rw.at h (by omega)
  cases e
  obtain ⟨h1, h2⟩ := pcs_at l i hi
  exact ⟨hc _ _ h1, hc _ _ h2⟩
def there (l : List PB) (k : ByteArray) : Bool := decide (pos l k < l.length ∧ (pAtB l (pos l k)).1 = k)
end Go.Proofs.Ytbaggkfgnjenoaa

