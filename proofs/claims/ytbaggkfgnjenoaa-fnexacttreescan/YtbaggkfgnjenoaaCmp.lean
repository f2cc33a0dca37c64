/-
  strings.Compare, and slices.BinarySearchFunc over pairs that ascend.
-/
import Derived.Test.YtbaggkfgnjenoaaGt
import Derived.Lib.Bytealg
namespace Go.Proofs.Ytbaggkfgnjenoaa
open Go.RowKit
def cmpV (a b : ByteArray) : Int := Lib.compareBytes a.data.toList b.data.toList
theorem cmpL_cases : ∀ (a b : List UInt8), (Op.bytesLess a b = true ∧ Lib.compareBytes a b = -1) ∨ (a = b ∧ Lib.compareBytes a b = 0) ∨ (Op.bytesLess b a = true ∧ Lib.compareBytes a b = 1)
  | [], [] => .inr (.inl ⟨rfl, rfl⟩)
  | [], _ :: _ => .inl ⟨rfl, rfl⟩
  | _ :: _, [] => .inr (.inr ⟨rfl, rfl⟩)
  | x :: a, y :: b => by
    simp only [Op.bytesLess, Lib.compareBytes]
    by_cases h1 : x < y
    · exact .inl ⟨by simp [h1], by simp [h1]⟩
    · by_cases h2 : y < x
      · exact .inr (.inr ⟨by simp [h2], by simp [h1, h2]⟩)
      · have e : x = y := UInt8.le_antisymm (UInt8.not_lt.1 h2) (UInt8.not_lt.1 h1)
        subst e
        simp only [h1, if_false, decide_false, Bool.false_or, beq_self_eq_true, Bool.true_and]
        rcases cmpL_cases a b with h | ⟨rfl, h⟩ | h
        · exact .inl h
        · exact .inr (.inl ⟨rfl, h⟩)
        · exact .inr (.inr h)
theorem cmpV_cases (a b : ByteArray) : (klt a b = true ∧ cmpV a b = -1) ∨ (a = b ∧ cmpV a b = 0) ∨ (klt a b = false ∧ a ≠ b ∧ cmpV a b = 1) := by
  unfold klt cmpV
  rw [ByteArray.toList_eq, ByteArray.toList_eq]
  rcases cmpL_cases a.data.toList b.data.toList with h | ⟨h1, h2⟩ | ⟨h1, h2⟩
  · exact .inl h
  · exact .inr (.inl ⟨str_ext (by rw [ByteArray.toList_eq, ByteArray.toList_eq]; exact h1), h2⟩)
  · refine .inr (.inr ⟨less_asymm _ _ h1, ?_, h2⟩)
    rintro rfl
    rw [less_irrefl] at h1
    cases h1
end Go.Proofs.Ytbaggkfgnjenoaa

