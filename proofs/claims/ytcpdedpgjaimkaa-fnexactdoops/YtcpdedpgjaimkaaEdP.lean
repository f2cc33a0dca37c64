/-
  Edits as plain data, rows of edits; BatchOk on both sides.
-/
import Derived.Test.YtcpdedpgjaimkaaNd
import Derived.Test.YtcpdedpgjaimkaaPgO
namespace Go.Proofs.Ytcpdedpgjaimkaa
open Go.RowKit
set_option linter.unusedVariables false
/-- An edit: its key, its value, whether it is a drop. -/
abbrev ED := ByteArray × ByteArray × Bool
def eAt (l : List ED) (i : Nat) : ED := l[i]?.getD (⟨#[]⟩, ⟨#[]⟩, false)
/-- The cells of a row of edits. -/
def ecs : List ED → List Value
  | [] => []
  | p :: ps => .string p.1 :: .string p.2.1 :: .bool p.2.2 :: ecs ps
theorem ecs_length (l : List ED) : (ecs l).length = l.length * 3 := by
  induction l with
  | nil => rfl
  | cons p ps ih => simp [ecs, ih]; omega
theorem ecs_at (l : List ED) : ∀ i, i < l.length → (ecs l)[i * 3]? = some (.string (eAt l i).1) ∧ (ecs l)[i * 3 + 1]? = some (.string (eAt l i).2.1) ∧ (ecs l)[i * 3 + 2]? = some (.bool (eAt l i).2.2) := by
  induction l with
  | nil => intro i h; exact absurd h (Nat.not_lt_zero _)
  | cons p ps ih =>
    intro i h
    cases i with
    | zero => exact ⟨rfl, rfl, rfl⟩
    | succ i =>
      have := ih i (by simpa using h)
      rw [show (i + 1) * 3 = i * 3 + 3 by omega, show i * 3 + 3 + 1 = i * 3 + 1 + 3 by omega, show i * 3 + 3 + 2 = i * 3 + 2 + 3 by omega]
      exact this
theorem ecs_set (l : List ED) (p : ED) : ∀ j, j < l.length → ecs (l.set j p) = (((ecs l).set (j * 3) (.string p.1)).set (j * 3 + 1) (.string p.2.1)).set (j * 3 + 2) (.bool p.2.2) := by
  induction l with
  | nil => intro j h; exact absurd h (Nat.not_lt_zero _)
  | cons q l ih =>
    intro j h
    cases j with
    | zero => rfl
    | succ j =>
      have := ih j (by simpa using h)
      rw [show (j + 1) * 3 = j * 3 + 3 by omega, show j * 3 + 3 + 1 = j * 3 + 1 + 3 by omega, show j * 3 + 3 + 2 = j * 3 + 2 + 3 by omega]
      show Value.string q.1 :: Value.string q.2.1 :: Value.bool q.2.2 :: ecs (l.set j p) = _
      rw [this]
      rfl
theorem ecs_one (l : List ED) : ∀ u ∈ ecs l, u.oneCell' = true := by
  induction l with
  | nil => intro u hu; cases hu
  | cons p ps ih =>
    intro u hu
    simp only [ecs, List.mem_cons] at hu
    rcases hu with rfl | rfl | rfl | hu
    · rfl
    · rfl
    · rfl
    · exact ih u hu
/-- The slice value v leads to the edits l. -/
def Er (w : World) (S : Nat → Prop) (v : Value) (l : List ED) : Prop := Rw w S v l.length (ecs l)
theorem Er.to {w w' : World} {S R : Nat → Prop} {v : Value} {l : List ED} (h : Er w S v l) (ho : Only R w w') (hd : ∀ b, S b → b < w.heap.size → ¬ R b) : Er w' S v l := Rw.to h ho hd
theorem Er.below {w w' : World} {S : Nat → Prop} {v : Value} {l : List ED} (h : Er w S v l) (hb : Below w.heap.size w w') : Er w' S v l := Rw.to h (only_of_below hb (fun _ => False)) (fun _ _ _ h => h)
theorem Er.mono {w : World} {S R : Nat → Prop} {v : Value} {l : List ED} (h : Er w S v l) (hd : ∀ b, S b → b < w.heap.size → R b) : Er w R v l := Rw.mono h hd
theorem Er.len {w : World} {S : Nat → Prop} {a : Option Addr} {n c : Nat} {l : List ED} (h : Er w S (.slice a n c) l) : n = l.length ∧ n ≤ c ∧ c ≤ 9223372036854775807 := Rw.len h
theorem Er.at {w : World} {S : Nat → Prop} {a : Option Addr} {n c : Nat} {l : List ED} (h : Er w S (.slice a n c) l) (hp : 0 < n) : ∃ b off, a = some ⟨b, off, none⟩ ∧ S b ∧ b < w.heap.size ∧
    ∀ i, i < n → w.cell? ⟨b, off + i * 3, none⟩ = some (.string (eAt l i).1) ∧ w.cell? ⟨b, off + i * 3 + 1, none⟩ = some (.string (eAt l i).2.1) ∧ w.cell? ⟨b, off + i * 3 + 2, none⟩ = some (.bool (eAt l i).2.2) := by
  obtain ⟨b, off, h1, h2, h3, h4⟩ := Rw.at h hp
  refine ⟨b, off, h1, h2, h3, fun i hi => ?_⟩
  have hn := h.len.1
  have := ecs_at l i (by omega)
  exact ⟨h4 _ _ this.1, by rw [Nat.add_assoc]; exact h4 _ _ this.2.1, by rw [Nat.add_assoc]; exact h4 _ _ this.2.2⟩
/-- When an edit, a batch is right. -/
def eOk (e : ED) : Bool := kOk e.1 && (vOk e.2.1 && (!e.2.2 || decide (e.2.1 = ⟨#[]⟩)))
def bOk (l : List ED) : Bool := decide (l.length ≤ 40) && l.all eOk
theorem bOk_no {l : List ED} (h : ¬ l.length ≤ 40) : bOk l = false := by rw [bOk, decide_eq_false h]; rfl
theorem bOk_yes {l : List ED} (h : l.length ≤ 40) : bOk l = l.all eOk := by rw [bOk, decide_eq_true h]; rfl
theorem empty_toList : (⟨#[]⟩ : ByteArray).toList = [] := by rw [ByteArray.toList_eq]
theorem bytes_empty {s : ByteArray} : s.toList = [] ↔ s = ⟨#[]⟩ := by
  constructor
  · intro h
    exact str_ext (h.trans empty_toList.symm)
  · rintro rfl; exact empty_toList
end Go.Proofs.Ytcpdedpgjaimkaa

