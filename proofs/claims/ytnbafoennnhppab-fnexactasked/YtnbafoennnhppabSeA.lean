/-
  Data in order, in plain; DataOk of the specification.
-/
import Derived.Test.YtnbafoennnhppabRcU
import Derived.Test.YtnbafoennnhppabGt
namespace Go.Proofs.Ytnbafoennnhppab
open Go.RowKit
def daF (l : List PB) : Nat → Nat → Bool
  | 0, _ => true
  | f + 1, k => uOk (pAtB l k).1 && uvOk (pAtB l k).2 && (decide (k = 0) || Op.bytesLess (pAtB l (k - 1)).1.toList (pAtB l k).1.toList) && daF l f (k + 1)
/-- Right data. -/
def daOk (l : List PB) : Bool := daF l l.length 0
theorem daF_k (l : List PB) (f k : Nat) (h : uOk (pAtB l k).1 = false) : daF l (f + 1) k = false := by simp [daF, h]
theorem daF_v (l : List PB) (f k : Nat) (h : uvOk (pAtB l k).2 = false) : daF l (f + 1) k = false := by simp [daF, h]
theorem daF_0 (l : List PB) (f : Nat) (h : uOk (pAtB l 0).1 = true) (h2 : uvOk (pAtB l 0).2 = true) : daF l (f + 1) 0 = daF l f 1 := by simp [daF, h, h2]
theorem daF_s (l : List PB) (f j : Nat) (h : uOk (pAtB l (j + 1)).1 = true) (h2 : uvOk (pAtB l (j + 1)).2 = true) (b : Bool) (h3 : Op.bytesLess (pAtB l j).1.toList (pAtB l (j + 1)).1.toList = b) : daF l (f + 1) (j + 1) = (b && daF l f (j + 1 + 1)) := by
  simp only [daF, h, h2, Nat.add_sub_cancel, h3]; simp
theorem daF_iff (l : List PB) : ∀ (f k : Nat), daF l f k = true ↔ ∀ i, k ≤ i → i < k + f → (uOk (pAtB l i).1 = true ∧ uvOk (pAtB l i).2 = true) ∧ (i ≠ 0 → klt (pAtB l (i - 1)).1 (pAtB l i).1 = true)
  | 0, k => by simp only [daF, true_iff]; intro i h1 h2; omega
  | f + 1, k => by
    simp only [daF, Bool.and_eq_true]
    rw [daF_iff l f (k + 1)]
    constructor
    · rintro ⟨⟨⟨h1, h2⟩, h3⟩, h4⟩ i hi hk
      by_cases e : i = k
      · subst e
        refine ⟨⟨h1, h2⟩, fun h0 => ?_⟩
        simp [h0] at h3
        exact h3
      · exact h4 i (by omega) (by omega)
    · intro h
      refine ⟨⟨(h k (Nat.le_refl _) (by omega)).1, ?_⟩, fun i h1 h2 => h i (by omega) (by omega)⟩
      by_cases h0 : k = 0
      · simp [h0]
      · have := (h k (Nat.le_refl _) (by omega)).2 h0
        simp [h0]
        exact this
theorem daOk_iff (l : List PB) : daOk l = true ↔ ∀ i, i < l.length → (uOk (pAtB l i).1 = true ∧ uvOk (pAtB l i).2 = true) ∧ (i ≠ 0 → klt (pAtB l (i - 1)).1 (pAtB l i).1 = true) := by
  unfold daOk
  rw [daF_iff]
  constructor
  · exact fun h i hi => h i (Nat.zero_le _) (by omega)
  · exact fun h i _ hi => h i (by omega)
theorem daOk_no {l : List PB} {i : Nat} (hi : i < l.length) (h : ¬ ((uOk (pAtB l i).1 = true ∧ uvOk (pAtB l i).2 = true) ∧ (i ≠ 0 → klt (pAtB l (i - 1)).1 (pAtB l i).1 = true))) : daOk l = false := by
  cases hd : daOk l with
  | false => rfl
  | true => exact absurd ((daOk_iff l).1 hd i hi) h
theorem daOk_asc {l : List PB} (h : daOk l = true) : Asc l := by
  rw [daOk_iff] at h
  have adj : ∀ i, i + 1 < l.length → klt (pAtB l i).1 (pAtB l (i + 1)).1 = true := fun i hi => (h (i + 1) hi).2 (by omega)
  have far : ∀ d i, i + d + 1 < l.length → klt (pAtB l i).1 (pAtB l (i + d + 1)).1 = true := by
    intro d
    induction d with
    | zero => exact adj
    | succ d ih => exact fun i hi => klt_trans (ih i (by omega)) (adj _ (by omega))
  refine List.pairwise_iff_getElem.2 fun i j hi hj hij => ?_
  have := far (j - i - 1) i (by omega)
  rw [show i + (j - i - 1) + 1 = j by omega, pAtB_lt hi, pAtB_lt hj] at this
  exact this
/-- Whether the keys rise. -/
def riB (l : List PB) : Bool := decide (∀ i, i < l.length → i ≠ 0 → klt (pAtB l (i - 1)).1 (pAtB l i).1 = true)
theorem daOk_riB {l : List PB} (h : ∀ i, i < l.length → uOk (pAtB l i).1 = true ∧ uvOk (pAtB l i).2 = true) : riB l = daOk l := by
  unfold riB
  by_cases hr : ∀ i, i < l.length → i ≠ 0 → klt (pAtB l (i - 1)).1 (pAtB l i).1 = true
  · rw [decide_eq_true hr]
    exact ((daOk_iff l).2 fun i hi => ⟨h i hi, hr i hi⟩).symm
  · rw [decide_eq_false hr]
    cases hd : daOk l with
    | false => rfl
    | true => exact absurd (fun i hi => ((daOk_iff l).1 hd i hi).2) hr
theorem Pr.below' {w w' : World} {S : Nat → Prop} {v : Value} {ps : List PB} (h : Pr w S v ps) (hb : Below w.heap.size w w') : Pr w' S v ps := Rw.to h (only_of_below hb (fun _ => False)) (fun _ _ _ h => h)
end Go.Proofs.Ytnbafoennnhppab

