/-
  Rows of records as plain data, and in memory.
-/
import Derived.Test.YtgnjknbgahickabDoorNd
namespace Go.Proofs.YtgnjknbgahickabDoor
open Go.RowKit
set_option linter.unusedVariables false
abbrev RC := Int × ByteArray × ByteArray × ByteArray × ByteArray
def rc0 : RC := (0, ⟨#[]⟩, ⟨#[]⟩, ⟨#[]⟩, ⟨#[]⟩)
def rcAt (l : List RC) (i : Nat) : RC := l[i]?.getD rc0
theorem rcAt_mem {l : List RC} {i : Nat} (h : i < l.length) : rcAt l i ∈ l := by simp [rcAt, h]
/-- The cells of a row. -/
def rccs : List RC → List Value
  | [] => []
  | p :: ps => .int .i64 p.1 :: .string p.2.1 :: .string p.2.2.1 :: .string p.2.2.2.1 :: .string p.2.2.2.2 :: rccs ps
theorem rccs_length (l : List RC) : (rccs l).length = l.length * 5 := by
  induction l with
  | nil => rfl
  | cons p ps ih => simp [rccs, ih]; omega
theorem rccs_append (l r : List RC) : rccs (l ++ r) = rccs l ++ rccs r := by
  induction l with
  | nil => rfl
  | cons p ps ih => simp only [rccs, List.cons_append, ih]
theorem rccs_take (l : List RC) : ∀ k, rccs (l.take k) = (rccs l).take (k * 5) := by
  induction l with
  | nil => intro k; simp [rccs]
  | cons p ps ih =>
    intro k
    cases k with
    | zero => rfl
    | succ k =>
      rw [show (k + 1) * 5 = k * 5 + 5 by omega]
      simp only [List.take_succ_cons, rccs, ih]
theorem rccs_at (l : List RC) : ∀ i, i < l.length → (rccs l)[i * 5]? = some (.int .i64 (rcAt l i).1) ∧ (rccs l)[i * 5 + 1]? = some (.string (rcAt l i).2.1) ∧ (rccs l)[i * 5 + 2]? = some (.string (rcAt l i).2.2.1) ∧ (rccs l)[i * 5 + 3]? = some (.string (rcAt l i).2.2.2.1) ∧ (rccs l)[i * 5 + 4]? = some (.string (rcAt l i).2.2.2.2) := by
  induction l with
  | nil => intro i h; exact absurd h (Nat.not_lt_zero _)
  | cons p ps ih =>
    intro i h
    cases i with
    | zero => exact ⟨rfl, rfl, rfl, rfl, rfl⟩
    | succ i =>
      have := ih i (by simpa using h)
      rw [show (i + 1) * 5 = i * 5 + 5 by omega, show i * 5 + 5 + 1 = i * 5 + 1 + 5 by omega, show i * 5 + 5 + 2 = i * 5 + 2 + 5 by omega, show i * 5 + 5 + 3 = i * 5 + 3 + 5 by omega, show i * 5 + 5 + 4 = i * 5 + 4 + 5 by omega]
      exact this
theorem rccs_set (l : List RC) (p : RC) : ∀ j, j < l.length → rccs (l.set j p) = ((((((rccs l).set (j * 5) (.int .i64 p.1)).set (j * 5 + 1) (.string p.2.1)).set (j * 5 + 2) (.string p.2.2.1)).set (j * 5 + 3) (.string p.2.2.2.1)).set (j * 5 + 4) (.string p.2.2.2.2)) := by
  induction l with
  | nil => intro j h; exact absurd h (Nat.not_lt_zero _)
  | cons q l ih =>
    intro i h
    cases i with
    | zero => rfl
    | succ i =>
      have := ih i (by simpa using h)
      rw [show (i + 1) * 5 = i * 5 + 5 by omega, show i * 5 + 5 + 1 = i * 5 + 1 + 5 by omega, show i * 5 + 5 + 2 = i * 5 + 2 + 5 by omega, show i * 5 + 5 + 3 = i * 5 + 3 + 5 by omega, show i * 5 + 5 + 4 = i * 5 + 4 + 5 by omega]
      show Value.int .i64 q.1 :: Value.string q.2.1 :: Value.string q.2.2.1 :: Value.string q.2.2.2.1 :: Value.string q.2.2.2.2 :: rccs (l.set i p) = _
      rw [this]
      rfl
theorem rccs_one (l : List RC) : ∀ u ∈ rccs l, u.oneCell' = true := by
  induction l with
  | nil => intro u hu; cases hu
  | cons p ps ih =>
    intro u hu
    simp only [rccs, List.mem_cons] at hu
    rcases hu with rfl | rfl | rfl | rfl | rfl | hu
    · rfl
    · rfl
    · rfl
    · rfl
    · rfl
    · exact ih u hu
/-- The slice value v leads to the row l. -/
def rcR (w : World) (S : Nat → Prop) (v : Value) (l : List RC) : Prop := Rw w S v l.length (rccs l)
theorem rcR.to {w w' : World} {S R : Nat → Prop} {v : Value} {l : List RC} (h : rcR w S v l) (ho : Only R w w') (hd : ∀ b, S b → b < w.heap.size → ¬ R b) : rcR w' S v l := Rw.to h ho hd
theorem rcR.below {w w' : World} {S : Nat → Prop} {v : Value} {l : List RC} (h : rcR w S v l) (hb : Below w.heap.size w w') : rcR w' S v l := Rw.to h (only_of_below hb (fun _ => False)) (fun _ _ _ h => h)
theorem rcR.mono {w : World} {S R : Nat → Prop} {v : Value} {l : List RC} (h : rcR w S v l) (hd : ∀ b, S b → b < w.heap.size → R b) : rcR w R v l := Rw.mono h hd
theorem rcR.len {w : World} {S : Nat → Prop} {a : Option Addr} {n c : Nat} {l : List RC} (h : rcR w S (.slice a n c) l) : n = l.length ∧ n ≤ c ∧ c ≤ 9223372036854775807 := Rw.len h
theorem rcR.at {w : World} {S : Nat → Prop} {a : Option Addr} {n c : Nat} {l : List RC} (h : rcR w S (.slice a n c) l) (hp : 0 < n) : ∃ b off, a = some ⟨b, off, none⟩ ∧ S b ∧ b < w.heap.size ∧
    ∀ i, i < n → w.cell? ⟨b, off + i * 5, none⟩ = some (.int .i64 (rcAt l i).1) ∧ w.cell? ⟨b, off + i * 5 + 1, none⟩ = some (.string (rcAt l i).2.1) ∧ w.cell? ⟨b, off + i * 5 + 2, none⟩ = some (.string (rcAt l i).2.2.1) ∧ w.cell? ⟨b, off + i * 5 + 3, none⟩ = some (.string (rcAt l i).2.2.2.1) ∧ w.cell? ⟨b, off + i * 5 + 4, none⟩ = some (.string (rcAt l i).2.2.2.2) := by
  obtain ⟨b, off, h1, h2, h3, h4⟩ := Rw.at h hp
  refine ⟨b, off, h1, h2, h3, fun i hi => ?_⟩
  have hn := h.len.1
  obtain ⟨k0, k1, k2, k3, k4⟩ := rccs_at l i (by omega)
  exact ⟨h4 _ _ k0, by rw [Nat.add_assoc]; exact h4 _ _ k1, by rw [Nat.add_assoc]; exact h4 _ _ k2, by rw [Nat.add_assoc]; exact h4 _ _ k3, by rw [Nat.add_assoc]; exact h4 _ _ k4⟩
theorem rcr_nil (w : World) (S : Nat → Prop) : rcR w S (.slice none 0 0) [] := rw_nil w S
/-- A row of one's own. -/
def rcW (w : World) (B : Nat) (v : Value) (l : List RC) : Prop := w.ownsRow B 30 5 v l.length (rccs l)
theorem rcW.to {w w' : World} {B : Nat} {R : Nat → Prop} {v : Value} {l : List RC} (h : rcW w B v l) (ho : Only R w w') (hR : ∀ y, v.ownBlock = some y → ¬ R y) : rcW w' B v l := own_kept h ho hR
theorem rcW.below {w w' : World} {B : Nat} {v : Value} {l : List RC} (h : rcW w B v l) (hb : Below w.heap.size w w') : rcW w' B v l := h.to (only_of_below hb (fun _ => False)) (fun _ _ h => h)
theorem rcW.base {w : World} {B B' : Nat} {v : Value} {l : List RC} (h : rcW w B v l) (hB : B' ≤ B) : rcW w B' v l := by
  refine ⟨h.1, h.2.imp id ?_⟩
  rintro ⟨g, cap, cur, k1, k2, k3⟩
  exact ⟨g, cap, cur, k1, by omega, k3⟩
theorem rcW.lt {w : World} {B : Nat} {v : Value} {l : List RC} (h : rcW w B v l) {y : Nat} (hy : v.ownBlock = some y) : B ≤ y ∧ y < w.heap.size := World.ownsRow.lt h y hy
theorem rcW.r {w : World} {B : Nat} {v : Value} {l : List RC} (h : rcW w B v l) : rcR w (fun _ => True) v l := rw_own h (fun _ _ _ _ => trivial)
theorem rcw_nil (w : World) (B : Nat) : rcW w B (.slice none 0 0) [] := World.ownsRow_nil _ _ _ _
theorem rcw_bk {w : World} {g B : Nat} {l : List RC} {n : Nat} (h : Bk w g 30 (rccs l)) (hl : n = l.length) (hn : n ≤ 1048577) (hB : B ≤ g) : rcW w B (.slice (some ⟨g, 0, none⟩) n n) l := by
  subst hl
  exact ⟨rccs_length l, .inr ⟨g, l.length, (rccs l).toArray, rfl, hB, h, Nat.le_refl _, by unfold maxLen; omega, by simpa using rccs_length l, by simp [← rccs_length l]⟩⟩
theorem Bk.rcr {w : World} {g n : Nat} {T : TypeId} {l : List RC} (h : Bk w g T (rccs l)) (hn : n = l.length) (hc : n ≤ 9223372036854775807) (S : Nat → Prop) (hS : S g) : rcR w S (.slice (some ⟨g, 0, none⟩) n n) l := by
  subst hn
  exact h.rw (Nat.le_refl _) hc (fun h0 => by rw [List.eq_nil_of_length_eq_zero h0]; rfl) S hS
theorem rcInfo : (Tryd.prog.info? 30).map (fun i => (i.zero, i.size, i.bytes)) = some (some (.agg #[.int .i64 0, .string ⟨#[]⟩, .string ⟨#[]⟩, .string ⟨#[]⟩, .string ⟨#[]⟩]), 5, 72) := by kernel_rfl
theorem rc_made (n : Nat) : madeCells (Value.agg #[.int .i64 0, .string ⟨#[]⟩, .string ⟨#[]⟩, .string ⟨#[]⟩, .string ⟨#[]⟩]).cells (n * 5) = (rccs (List.replicate n rc0)).toArray := by
  apply Array.ext
  · simp [madeCells, rccs_length]
  · intro i h1 h2
    simp [rccs_length] at h2
    simp only [madeCells, List.getElem_toArray]
    have hq : rcAt (List.replicate n rc0) (i / 5) = rc0 := by simp [rcAt, show i / 5 < n by omega]
    have h0 := rccs_at (List.replicate n rc0) (i / 5) (by simp; omega)
    rw [hq] at h0
    have h3 : i % 5 = 0 ∨ i % 5 = 1 ∨ i % 5 = 2 ∨ i % 5 = 3 ∨ i % 5 = 4 := by omega
    rcases h3 with e | e | e | e | e
    · have h4 := List.getElem?_eq_some_iff.1 (show (rccs (List.replicate n rc0))[i]? = some (.int .i64 0) by rw [show i / 5 * 5 = i by omega] at h0; exact h0.1)
      rw [h4.2]
      simp [Value.cells, e]
    · have h4 := List.getElem?_eq_some_iff.1 (show (rccs (List.replicate n rc0))[i]? = some (.string ⟨#[]⟩) by rw [show i / 5 * 5 + 1 = i by omega] at h0; exact h0.2.1)
      rw [h4.2]
      simp [Value.cells, e]
    · have h4 := List.getElem?_eq_some_iff.1 (show (rccs (List.replicate n rc0))[i]? = some (.string ⟨#[]⟩) by rw [show i / 5 * 5 + 2 = i by omega] at h0; exact h0.2.2.1)
      rw [h4.2]
      simp [Value.cells, e]
    · have h4 := List.getElem?_eq_some_iff.1 (show (rccs (List.replicate n rc0))[i]? = some (.string ⟨#[]⟩) by rw [show i / 5 * 5 + 3 = i by omega] at h0; exact h0.2.2.2.1)
      rw [h4.2]
      simp [Value.cells, e]
    · have h4 := List.getElem?_eq_some_iff.1 (show (rccs (List.replicate n rc0))[i]? = some (.string ⟨#[]⟩) by rw [show i / 5 * 5 + 4 = i by omega] at h0; exact h0.2.2.2.2)
      rw [h4.2]
      simp [Value.cells, e]
/-- The row as far as copied. -/
def rcPt (l : List RC) (k : Nat) : List RC := l.take k ++ List.replicate (l.length - k) rc0
theorem rcPt_length (l : List RC) (k : Nat) (h : k ≤ l.length) : (rcPt l k).length = l.length := by simp [rcPt]; omega
theorem rcPt_set (l : List RC) (k : Nat) (h : k < l.length) : (rcPt l k).set k (rcAt l k) = rcPt l (k + 1) := by
  have e : rcAt l k = l[k] := by simp [rcAt, h]
  rw [e]
  have hl : (l.take k).length = k := by simp; omega
  simp only [rcPt]
  rw [List.set_append_right _ _ (by omega), hl]
  have h2 : l.length - k = (l.length - (k + 1)) + 1 := by omega
  rw [List.take_succ_eq_append_getElem h, h2, List.replicate_succ, Nat.sub_self, List.set_cons_zero, List.append_assoc]
  rfl
end Go.Proofs.YtgnjknbgahickabDoor

