/-
  Locks as plain data: names of transactions, rows of locks, what clashes, when a table of locks is right, asking and freeing.
-/
import Derived.Test.YtnbafoennnhppabNd
import Derived.Test.YtnbafoennnhppabRng3
namespace Go.Proofs.Ytnbafoennnhppab
open Go.RowKit
set_option linter.unusedVariables false
abbrev TX := Int × Int × Int
/-- A lock: its transaction, its range, whether it is exclusive. -/
abbrev LK := TX × (ByteArray × ByteArray) × Bool
def lk0 : LK := ((0, 0, 0), (⟨#[]⟩, ⟨#[]⟩), false)
def lAt (l : List LK) (i : Nat) : LK := l[i]?.getD lk0
theorem lAt_take {l : List LK} {i k : Nat} (h : i < k) : lAt (l.take k) i = lAt l i := by simp [lAt, List.getElem?_take_of_lt h]
theorem lAt_mem {l : List LK} {i : Nat} (h : i < l.length) : lAt l i ∈ l := by simp [lAt, h]
/-- The cells of a row of locks. -/
def lcs : List LK → List Value
  | [] => []
  | p :: ps => .int .i64 p.1.1 :: .int .i64 p.1.2.1 :: .int .i64 p.1.2.2 :: .string p.2.1.1 :: .string p.2.1.2 :: .bool p.2.2 :: lcs ps
theorem lcs_length (l : List LK) : (lcs l).length = l.length * 6 := by
  induction l with
  | nil => rfl
  | cons p ps ih => simp [lcs, ih]; omega
theorem lcs_append (l r : List LK) : lcs (l ++ r) = lcs l ++ lcs r := by
  induction l with
  | nil => rfl
  | cons p ps ih => simp only [lcs, List.cons_append, ih]
theorem lcs_take (l : List LK) : ∀ k, lcs (l.take k) = (lcs l).take (k * 6) := by
  induction l with
  | nil => intro k; simp [lcs]
  | cons p ps ih =>
    intro k
    cases k with
    | zero => rfl
    | succ k =>
      rw [show (k + 1) * 6 = k * 6 + 6 by omega]
      simp only [List.take_succ_cons, lcs, ih]
theorem lcs_at (l : List LK) : ∀ i, i < l.length → (lcs l)[i * 6]? = some (.int .i64 (lAt l i).1.1) ∧ (lcs l)[i * 6 + 1]? = some (.int .i64 (lAt l i).1.2.1) ∧ (lcs l)[i * 6 + 2]? = some (.int .i64 (lAt l i).1.2.2) ∧
    (lcs l)[i * 6 + 3]? = some (.string (lAt l i).2.1.1) ∧ (lcs l)[i * 6 + 4]? = some (.string (lAt l i).2.1.2) ∧ (lcs l)[i * 6 + 5]? = some (.bool (lAt l i).2.2) := by
  induction l with
  | nil => intro i h; exact absurd h (Nat.not_lt_zero _)
  | cons p ps ih =>
    intro i h
    cases i with
    | zero => exact ⟨rfl, rfl, rfl, rfl, rfl, rfl⟩
    | succ i =>
      have := ih i (by simpa using h)
      rw [show (i + 1) * 6 = i * 6 + 6 by omega, show i * 6 + 6 + 1 = i * 6 + 1 + 6 by omega, show i * 6 + 6 + 2 = i * 6 + 2 + 6 by omega, show i * 6 + 6 + 3 = i * 6 + 3 + 6 by omega, show i * 6 + 6 + 4 = i * 6 + 4 + 6 by omega, show i * 6 + 6 + 5 = i * 6 + 5 + 6 by omega]
      exact this
theorem lcs_set (l : List LK) (p : LK) : ∀ j, j < l.length → lcs (l.set j p) = ((((((lcs l).set (j * 6) (.int .i64 p.1.1)).set (j * 6 + 1) (.int .i64 p.1.2.1)).set (j * 6 + 2) (.int .i64 p.1.2.2)).set (j * 6 + 3) (.string p.2.1.1)).set (j * 6 + 4) (.string p.2.1.2)).set (j * 6 + 5) (.bool p.2.2) := by
  induction l with
  | nil => intro j h; exact absurd h (Nat.not_lt_zero _)
  | cons q l ih =>
    intro j h
    cases j with
    | zero => rfl
    | succ j =>
      have := ih j (by simpa using h)
      rw [show (j + 1) * 6 = j * 6 + 6 by omega, show j * 6 + 6 + 1 = j * 6 + 1 + 6 by omega, show j * 6 + 6 + 2 = j * 6 + 2 + 6 by omega, show j * 6 + 6 + 3 = j * 6 + 3 + 6 by omega, show j * 6 + 6 + 4 = j * 6 + 4 + 6 by omega, show j * 6 + 6 + 5 = j * 6 + 5 + 6 by omega]
      show Value.int .i64 q.1.1 :: Value.int .i64 q.1.2.1 :: Value.int .i64 q.1.2.2 :: Value.string q.2.1.1 :: Value.string q.2.1.2 :: Value.bool q.2.2 :: lcs (l.set j p) = _
      rw [this]
      rfl
theorem lcs_one (l : List LK) : ∀ u ∈ lcs l, u.oneCell' = true := by
  induction l with
  | nil => intro u hu; cases hu
  | cons p ps ih =>
    intro u hu
    simp only [lcs, List.mem_cons] at hu
    rcases hu with rfl | rfl | rfl | rfl | rfl | rfl | hu
    · rfl
    · rfl
    · rfl
    · rfl
    · rfl
    · rfl
    · exact ih u hu
/-- The slice value v leads to the locks l. -/
def Lr (w : World) (S : Nat → Prop) (v : Value) (l : List LK) : Prop := Rw w S v l.length (lcs l)
theorem Lr.to {w w' : World} {S R : Nat → Prop} {v : Value} {l : List LK} (h : Lr w S v l) (ho : Only R w w') (hd : ∀ b, S b → b < w.heap.size → ¬ R b) : Lr w' S v l := Rw.to h ho hd
theorem Lr.below {w w' : World} {S : Nat → Prop} {v : Value} {l : List LK} (h : Lr w S v l) (hb : Below w.heap.size w w') : Lr w' S v l := Rw.to h (only_of_below hb (fun _ => False)) (fun _ _ _ h => h)
theorem Lr.mono {w : World} {S R : Nat → Prop} {v : Value} {l : List LK} (h : Lr w S v l) (hd : ∀ b, S b → b < w.heap.size → R b) : Lr w R v l := Rw.mono h hd
theorem Lr.len {w : World} {S : Nat → Prop} {a : Option Addr} {n c : Nat} {l : List LK} (h : Lr w S (.slice a n c) l) : n = l.length ∧ n ≤ c ∧ c ≤ 9223372036854775807 := Rw.len h
theorem Lr.at {w : World} {S : Nat → Prop} {a : Option Addr} {n c : Nat} {l : List LK} (h : Lr w S (.slice a n c) l) (hp : 0 < n) : ∃ b off, a = some ⟨b, off, none⟩ ∧ S b ∧ b < w.heap.size ∧
    ∀ i, i < n → w.cell? ⟨b, off + i * 6, none⟩ = some (.int .i64 (lAt l i).1.1) ∧ w.cell? ⟨b, off + i * 6 + 1, none⟩ = some (.int .i64 (lAt l i).1.2.1) ∧ w.cell? ⟨b, off + i * 6 + 2, none⟩ = some (.int .i64 (lAt l i).1.2.2) ∧
      w.cell? ⟨b, off + i * 6 + 3, none⟩ = some (.string (lAt l i).2.1.1) ∧ w.cell? ⟨b, off + i * 6 + 4, none⟩ = some (.string (lAt l i).2.1.2) ∧ w.cell? ⟨b, off + i * 6 + 5, none⟩ = some (.bool (lAt l i).2.2) := by
  obtain ⟨b, off, h1, h2, h3, h4⟩ := Rw.at h hp
  refine ⟨b, off, h1, h2, h3, fun i hi => ?_⟩
  have hn := h.len.1
  obtain ⟨k0, k1, k2, k3, k4, k5⟩ := lcs_at l i (by omega)
  exact ⟨h4 _ _ k0, by rw [Nat.add_assoc]; exact h4 _ _ k1, by rw [Nat.add_assoc]; exact h4 _ _ k2, by rw [Nat.add_assoc]; exact h4 _ _ k3, by rw [Nat.add_assoc]; exact h4 _ _ k4, by rw [Nat.add_assoc]; exact h4 _ _ k5⟩
theorem lr_nil (w : World) (S : Nat → Prop) : Lr w S (.slice none 0 0) [] := rw_nil w S
/-- The first locks of a row. -/
theorem Lr.first {w : World} {S : Nat → Prop} {a : Option Addr} {n c : Nat} {l : List LK} (h : Lr w S (.slice a n c) l) (k : Nat) (hk : k ≤ n) : Lr w S (.slice a k c) (l.take k) := by
  obtain ⟨a', c', h1, h2, h3, h4, hn, h5⟩ := h
  cases h1
  have hl : (l.take k).length = k := by simp; omega
  unfold Lr
  rw [hl]
  refine ⟨a, c, rfl, by omega, h3, fun h0 => by subst h0; rfl, hn, fun hp => ?_⟩
  obtain ⟨b, off, h6, h7, h8, h9⟩ := h5 (by omega)
  refine ⟨b, off, h6, h7, h8, fun j u hu => h9 j u ?_⟩
  rw [lcs_take] at hu
  have hj : j < k * 6 := by
    rcases Nat.lt_or_ge j (k * 6) with h | h
    · exact h
    · rw [List.getElem?_eq_none (by simp; omega)] at hu; cases hu
  rwa [List.getElem?_take_of_lt hj] at hu
theorem Lr.offS {w : World} {S : Nat → Prop} {a : Option Addr} {n c : Nat} {l : List LK} (h : Lr w S (.slice a n c) l) (k : Nat) (hk : k ≤ n) : Lr w S (.slice a k c) (l.take k) := h.first k hk
theorem anyl_take {α : Type} (l : List α) (f : α → Bool) (d : α) {k : Nat} (h : k < l.length) : (l.take (k + 1)).any f = ((l.take k).any f || f (l[k]?.getD d)) := by
  rw [List.take_succ_eq_append_getElem h, List.any_append]
  simp [h]
theorem anyl_yes {α : Type} (l : List α) (f : α → Bool) (d : α) {k : Nat} (h : k < l.length) (hf : f (l[k]?.getD d) = true) : l.any f = true := by
  rw [List.any_eq_true]
  exact ⟨l[k], List.getElem_mem h, by simpa [h] using hf⟩
theorem rall_succ (f : Nat → Bool) (k : Nat) : (List.range (k + 1)).all f = ((List.range k).all f && f k) := by simp [List.range_succ, List.all_append]
theorem rall_no (f : Nat → Bool) {k n : Nat} (h : k < n) (hf : f k = false) : (List.range n).all f = false := by
  rw [List.all_eq_false]
  exact ⟨k, by simpa using h, by simp [hf]⟩
/-- When a name is right; when one is after another. -/
def txOk (x : TX) : Bool := decide (0 ≤ x.1) && (decide (x.1 ≤ 7) && (decide (1 ≤ x.2.1) && (decide (x.2.1 ≤ 999) && (decide (1 ≤ x.2.2) && decide (x.2.2 ≤ 999)))))
theorem txOk_iff (x : TX) : txOk x = true ↔ (0 ≤ x.1 ∧ x.1 ≤ 7 ∧ 1 ≤ x.2.1 ∧ x.2.1 ≤ 999 ∧ 1 ≤ x.2.2 ∧ x.2.2 ≤ 999) := by simp [txOk]
def txAfter (a b : TX) : Bool := txOk a && (txOk b && (decide (a.1 = b.1) && (decide (b.2.1 < a.2.1) || (decide (a.2.1 = b.2.1) && decide (b.2.2 < a.2.2)))))
def lkOk (x : LK) : Bool := txOk x.1 && rOk x.2.1.1 x.2.1.2
def clash (a b : LK) : Bool := !decide (a.1 = b.1) && ((a.2.2 || b.2.2) && bth a.2.1.1 a.2.1.2 b.2.1.1 b.2.1.2)
def anyC (l : List LK) (x : LK) : Bool := l.any (clash x)
def hasT (l : List LK) (t : TX) : Bool := l.any (fun y => decide (y.1 = t))
def hpk (l : List LK) (i : Nat) : Bool := lkOk (lAt l i) && !anyC (l.take i) (lAt l i)
def wpk (h l : List LK) (i : Nat) : Bool := lkOk (lAt l i) && (!hasT (l.take i) (lAt l i).1 && (anyC h (lAt l i) || anyC (l.take i) (lAt l i)))
def heldB (h : List LK) : Bool := (List.range h.length).all (hpk h)
def waitB (h l : List LK) : Bool := (List.range l.length).all (wpk h l)
/-- When a table of locks is right. -/
def lksOk (h l : List LK) : Bool := decide (h.length + l.length ≤ 60) && (heldB h && waitB h l)
theorem lksOk_len {h l : List LK} (e : lksOk h l = true) : h.length + l.length ≤ 60 := by
  simp [lksOk] at e
  exact e.1
/-- One lock more. -/
def mustW (h l : List LK) (x : LK) : Bool := anyC h x || anyC l x
def putL (h l : List LK) (x : LK) : List LK × List LK := if mustW h l x then (h, l ++ [x]) else (h ++ [x], l)
/-- LockAsk: the code, and the table. -/
def askC (h l : List LK) (x : LK) : Int := if lksOk h l && (lkOk x && !hasT l x.1) then (if h.length + l.length = 60 then 2 else if mustW h l x then 3 else 0) else 1
def askT (h l : List LK) (x : LK) : List LK × List LK := if lksOk h l && (lkOk x && !hasT l x.1) then (if h.length + l.length = 60 then ([], []) else putL h l x) else ([], [])
/-- LockFree over those that wait and aren't freed: the table, and what was granted. -/
def grant : List LK → List LK × List LK × List LK → List LK × List LK × List LK
  | [], s => s
  | y :: ys, (h, l, g) => grant ys (if mustW h l y then (h, l ++ [y], g) else (h ++ [y], l, g ++ [y]))
def others (l : List LK) (t : TX) : List LK := l.filter (fun y => !decide (y.1 = t))
def freeV (h l : List LK) (t : TX) : List LK × List LK × List LK := if lksOk h l then grant (others l t) (others h t, [], []) else ([], [], [])
end Go.Proofs.Ytnbafoennnhppab

