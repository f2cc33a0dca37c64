/-
  What the law's helpers do with slices of strings: their sizes are summed, they are copied, they are held against each other.
-/
import Derived.Test.YtpeaajencheamaaStrs
namespace Go.Proofs.Ytpeaajencheamaa
open Go.RowKit

theorem infoStr : (Try.prog.info? 9).map (fun i => (i.zero, i.size, i.bytes)) = some (some (.string ⟨#[]⟩), 1, 16) := by kernel_rfl
def strVals (ss : List ByteArray) : Array Value := (ss.map Value.string).toArray
def partS (ss : List ByteArray) (k : Nat) : Array Value := ((ss.take k).map Value.string ++ List.replicate (ss.length - k) (Value.string ⟨#[]⟩)).toArray
theorem partS_zero (ss : List ByteArray) : partS ss 0 = madeCells #[.string ⟨#[]⟩] ss.length := by
  apply Array.ext
  · simp [partS, madeCells]
  · intro i h1 h2; simp [partS, madeCells, Nat.mod_one]
theorem partS_all (ss : List ByteArray) : partS ss ss.length = strVals ss := by simp [partS, strVals]
theorem partS_at (ss : List ByteArray) (k : Nat) (h : k < ss.length) : (partS ss k)[k]? = some (.string ⟨#[]⟩) := by
  simp only [partS, List.getElem?_toArray]
  have hl : ((ss.take k).map Value.string).length = k := by simp; omega
  rw [List.getElem?_append_right (by omega), hl, List.getElem?_replicate]
  rw [if_pos (by omega)]
theorem partS_set (ss : List ByteArray) (k : Nat) (h : k < ss.length) : (partS ss k).setIfInBounds k (.string (ss[k]?.getD ⟨#[]⟩)) = partS ss (k + 1) := by
  have e : ss[k]?.getD ⟨#[]⟩ = ss[k] := by simp [h]
  rw [e]
  simp only [partS, List.setIfInBounds_toArray]
  congr 1
  have hl : ((ss.take k).map Value.string).length = k := by simp; omega
  rw [List.set_append_right _ _ (by omega), hl]
  have h2 : ss.length - k = (ss.length - (k + 1)) + 1 := by omega
  rw [List.take_succ_eq_append_getElem h, h2, List.replicate_succ, List.map_append, Nat.sub_self, List.set_cons_zero, List.append_assoc]
  rfl
theorem sd_new (w : World) (ss : List ByteArray) (hl : ss.length ≤ 9223372036854775807) (hb : ∀ i : Nat, (ss[i]?.getD ⟨#[]⟩).size ≤ 9223372036854775807) :
    Sd (w.alloc (.cells (strVals ss) 9)) (some ⟨w.heap.size, 0, none⟩) ss.length ss.length ss := by
  refine ⟨rfl, Nat.le_refl _, hl, hb, fun _ => ⟨w.heap.size, 0, rfl, by simp, fun i hi => ?_⟩⟩
  rw [World.cell?_alloc_at (hn := rfl)]
  simp [strVals, hi]
end Go.Proofs.Ytpeaajencheamaa
