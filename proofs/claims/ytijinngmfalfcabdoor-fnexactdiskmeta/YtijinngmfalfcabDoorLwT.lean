/-
  The law FnExactTear answers true at every argument.
-/
import Derived.Test.YtijinngmfalfcabDoorTeI
import Derived.Test.YtijinngmfalfcabDoorMarks
namespace Go.Proofs.YtijinngmfalfcabDoor
open Go.RowKit
theorem tear_facts (xs ys : List Int) (t : Int) (hx : ∀ i : Nat, 0 ≤ xs[i]?.getD 0 ∧ xs[i]?.getD 0 ≤ 255) (hy : ∀ i : Nat, 0 ≤ ys[i]?.getD 0 ∧ ys[i]?.getD 0 ≤ 255) :
    (∀ i : Nat, 0 ≤ ((tearV xs ys t).getD [])[i]?.getD 0 ∧ ((tearV xs ys t).getD [])[i]?.getD 0 ≤ 255) ∧ ((tearV xs ys t).getD []).length ≤ 4096 := by
  unfold tearV
  split
  · rename_i h
    have hx' := sheet_byte (at_byte hx)
    have hy' := sheet_byte (at_byte hy)
    have l1 := sheet_len h.1
    have l2 := sheet_len h.2
    refine ⟨byte_at ?_, ?_⟩
    · intro z hz
      rw [Option.getD_some, trB] at hz
      rcases List.mem_append.1 hz with h | h
      · exact hy' z (List.mem_of_mem_take h)
      · exact hx' z (List.mem_of_mem_drop h)
    · rw [Option.getD_some, trB, List.length_append, List.length_take, List.length_drop]
      omega
  · simp
theorem TePost.see {w w' : World} {r : Option (List Int)} {e : Ending} (h : TePost r w e w') (hb : ∀ i : Nat, 0 ≤ (r.getD [])[i]?.getD 0 ∧ (r.getD [])[i]?.getD 0 ≤ 255) (hl : (r.getD []).length ≤ 4096) :
    ∃ a c, e = .returned (.slice a (r.getD []).length c) ∧ Rd w' a (r.getD []).length c (r.getD []) ∧ (∀ x, a = some x → w.heap.size ≤ x.block) ∧ Wb w' a (r.getD []).length ∧ Below w.heap.size w w' := by
  obtain ⟨hbel, ⟨rfl, rfl⟩ | ⟨v, zs, rfl, rfl, ho⟩⟩ := h
  · exact ⟨none, 0, rfl, ⟨rfl, by simp, by omega, by simp, by simp, fun h => by simp at h⟩, (fun x hx => by cases hx), (fun x hx => by cases hx), hbel⟩
  · simp only [Option.getD_some] at hb hl ⊢
    obtain ⟨a, c, rfl, hrd, hB⟩ := ho.rd hb (by omega)
    exact ⟨a, c, rfl, hrd, hB, ho.wb rfl _, hbel⟩
theorem bt3 {u v w : World} (h : Below u.heap.size u v) (k : Below v.heap.size v w) : Below u.heap.size u w := h.trans (k.mono h.size)
end Go.Proofs.YtijinngmfalfcabDoor

