/-
  'string(b)' of a slice of bytes that is read.
-/
import Derived.Test.YtijinngmfalfcabDoorBase
import Derived.Laws.IdiomStrings
namespace Go.Proofs.YtijinngmfalfcabDoor
open Go.RowKit

/-- The string of these bytes. -/
def strOf (zs : List Int) : ByteArray := ⟨(zs.map fun z => UInt8.ofNat z.toNat).toArray⟩
theorem foldl_push (zs : List Int) : ∀ s : ByteArray, zs.foldl (fun r n => r.push (UInt8.ofNat n.toNat)) s = ⟨(s.data.toList ++ zs.map fun z => UInt8.ofNat z.toNat).toArray⟩ := by
  induction zs with
  | nil => intro s; simp
  | cons z zs ih =>
    intro s
    rw [List.foldl_cons, ih]
    simp [ByteArray.push]
theorem strOf_foldl (zs : List Int) : zs.foldl (fun r n => r.push (UInt8.ofNat n.toNat)) ByteArray.empty = strOf zs := by
  rw [foldl_push]
  simp only [strOf]
  rfl

/-- 'string(b)'. -/
theorem run_str {w : World} {a : Option Addr} {n c : Nat} {zs : List Int} (h : Rd w a n c zs) : (convert 46 9 (.slice a n c)).run Tryd.prog w = .ok (.string (strOf zs)) w := by
  rw [run_convert_bytes_string w _ _ _ a n c Tryd.underlying46 Tryd.underlying5 Tryd.underlying9]
  obtain ⟨h1, h2, h3, h30, h4, h5⟩ := h
  cases a with
  | none =>
    have hm : n = 0 := by
      rcases Nat.eq_zero_or_pos n with h | h
      · exact h
      · obtain ⟨b, off, e, _⟩ := h5 h
        cases e
    have hz : zs = [] := List.eq_nil_of_length_eq_zero (by omega)
    subst hz
    rfl
  | some x =>
    rw [run_bytesToString w x n c zs, strOf_foldl]
    have hl := run_firstCells_some (P := Tryd.prog) w 1 n x n c (zs.map (Value.int .u8)) (by simp [h1]) (by
        intro j u hu
        have hj : j < zs.length := by
          have := (List.getElem?_eq_some_iff.1 hu).1
          simpa using this
        obtain ⟨b, off, e, _, hc⟩ := h5 (by omega)
        cases e
        have := hc j (by omega)
        rw [Addr.add_lit, this]
        simp [hj] at hu
        simp [hj, hu])
    simpa [Builtin.firstCells] using hl
end Go.Proofs.YtijinngmfalfcabDoor

