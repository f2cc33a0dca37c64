/-
  The order of byte strings: strict, total; the empty string is the least; a byte 0 behind makes the next one.
-/
import Derived.WalkKit
import Derived.Laws.IdiomStrings
namespace Go.Proofs.Ytnbafoennnhppab

theorem less_irrefl (a : List UInt8) : Op.bytesLess a a = false := by
  induction a with
  | nil => rfl
  | cons x a ih => simp [Op.bytesLess, ih]
theorem less_asymm (a : List UInt8) : ∀ b, Op.bytesLess a b = true → Op.bytesLess b a = false := by
  induction a with
  | nil => intro b h; cases b <;> rfl
  | cons x a ih =>
    intro b h
    cases b with
    | nil => simp [Op.bytesLess] at h
    | cons y b =>
      simp only [Op.bytesLess, Bool.or_eq_true, decide_eq_true_eq, Bool.and_eq_true, beq_iff_eq, Bool.or_eq_false_iff, decide_eq_false_iff_not, Bool.and_eq_false_iff] at h ⊢
      rcases h with h | ⟨rfl, h⟩
      · exact ⟨fun h' => absurd (UInt8.lt_trans h h') (UInt8.lt_irrefl _), .inl (by
          simp only [beq_eq_false_iff_ne]; intro e; subst e; exact UInt8.lt_irrefl _ h)⟩
      · exact ⟨UInt8.lt_irrefl _, .inr (ih b h)⟩
theorem less_total (a : List UInt8) : ∀ b, Op.bytesLess a b = false → a ≠ b → Op.bytesLess b a = true := by
  induction a with
  | nil => intro b h hne; cases b with | nil => exact absurd rfl hne | cons y b => simp [Op.bytesLess] at h
  | cons x a ih =>
    intro b h hne
    cases b with
    | nil => rfl
    | cons y b =>
      simp only [Op.bytesLess, Bool.or_eq_true, decide_eq_true_eq, Bool.and_eq_true, beq_iff_eq, Bool.or_eq_false_iff, decide_eq_false_iff_not, Bool.and_eq_false_iff] at h ⊢
      by_cases e : x = y
      · subst e
        refine .inr ⟨rfl, ih b ?_ (fun e => hne (by rw [e]))⟩
        rcases h.2 with h' | h'
        · simp at h'
        · exact h'
      · refine .inl ?_
        rcases Nat.lt_or_ge y.toNat x.toNat with h' | h'
        · exact UInt8.lt_iff_toNat_lt.2 h'
        · refine absurd (UInt8.lt_iff_toNat_lt.2 (Nat.lt_of_le_of_ne h' fun e' => e (UInt8.toNat_inj.1 e'))) h.1
theorem less_trans (a : List UInt8) : ∀ b c, Op.bytesLess a b = true → Op.bytesLess b c = true → Op.bytesLess a c = true := by
  induction a with
  | nil => intro b c h1 h2; cases c with | nil => cases b <;> simp [Op.bytesLess] at h2 | cons z c => rfl
  | cons x a ih =>
    intro b c h1 h2
    cases b with
    | nil => simp [Op.bytesLess] at h1
    | cons y b =>
      cases c with
      | nil => simp [Op.bytesLess] at h2
      | cons z c =>
        simp only [Op.bytesLess, Bool.or_eq_true, decide_eq_true_eq, Bool.and_eq_true, beq_iff_eq] at h1 h2 ⊢
        rcases h1 with h1 | ⟨rfl, h1⟩
        · rcases h2 with h2 | ⟨rfl, h2⟩
          · exact .inl (UInt8.lt_trans h1 h2)
          · exact .inl h1
        · rcases h2 with h2 | ⟨rfl, h2⟩
          · exact .inl h2
          · exact .inr ⟨rfl, ih _ _ h1 h2⟩
/-- a is not above b, b is below c. -/
theorem nless_less (a b c : List UInt8) (h1 : Op.bytesLess b a = false) (h2 : Op.bytesLess b c = true) : Op.bytesLess a c = true := by
  by_cases e : a = b
  · subst e; exact h2
  · exact less_trans _ _ _ (less_total _ _ h1 (Ne.symm e)) h2
theorem less_nless (a b c : List UInt8) (h1 : Op.bytesLess a b = true) (h2 : Op.bytesLess c b = false) : Op.bytesLess a c = true := by
  by_cases e : b = c
  · subst e; exact h1
  · exact less_trans _ _ _ h1 (less_total _ _ h2 (Ne.symm e))
theorem nless_trans (a b c : List UInt8) (h1 : Op.bytesLess b a = false) (h2 : Op.bytesLess c b = false) : Op.bytesLess c a = false := by
  cases h : Op.bytesLess c a with
  | false => rfl
  | true => rw [less_nless c a b h h1] at h2; cases h2
theorem less_nil (a : List UInt8) : Op.bytesLess a [] = false := by cases a <;> rfl
theorem less_zero (a : List UInt8) : Op.bytesLess a (a ++ [0]) = true := by
  induction a with
  | nil => rfl
  | cons x a ih => simp [Op.bytesLess, ih]
theorem nil_less (a : List UInt8) (h : ¬ a = []) : Op.bytesLess [] a = true := by cases a with | nil => exact absurd rfl h | cons _ _ => rfl

theorem str_ext {a b : ByteArray} (h : a.toList = b.toList) : a = b := by
  rw [ByteArray.toList_eq, ByteArray.toList_eq] at h
  cases a; cases b
  simp at h
  rw [h]
theorem str_beq {a b : ByteArray} (h : a ≠ b) : (a.toList == b.toList) = false := by
  simp only [beq_eq_false_iff_ne, ne_eq]
  exact fun e => h (str_ext e)
theorem tri (a b : ByteArray) : (Op.bytesLess a.toList b.toList = true ∧ Op.bytesLess b.toList a.toList = false ∧ (a.toList == b.toList) = false ∧ (b.toList == a.toList) = false) ∨ a = b ∨
    (Op.bytesLess a.toList b.toList = false ∧ Op.bytesLess b.toList a.toList = true ∧ (a.toList == b.toList) = false ∧ (b.toList == a.toList) = false) := by
  by_cases e : a = b
  · exact .inr (.inl e)
  · cases h : Op.bytesLess a.toList b.toList with
    | true => exact .inl ⟨rfl, less_asymm _ _ h, str_beq e, str_beq (Ne.symm e)⟩
    | false => exact .inr (.inr ⟨rfl, less_total _ _ h (fun e' => e (str_ext e')), str_beq e, str_beq (Ne.symm e)⟩)
end Go.Proofs.Ytnbafoennnhppab

