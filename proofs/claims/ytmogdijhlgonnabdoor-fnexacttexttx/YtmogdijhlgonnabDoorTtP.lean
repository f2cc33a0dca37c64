/-
  A text cut at each dot: l07Parts of the specification, and what the parts of a name's text are.
-/
import Derived.Test.YtmogdijhlgonnabDoorTtI
import Derived.Test.YtmogdijhlgonnabDoorApG
namespace Go.Proofs.YtmogdijhlgonnabDoor
open Go.RowKit
set_option linter.unusedVariables false
/-- What is cut at each dot, acc being what stands ahead. -/
def spl : List UInt8 → List UInt8 → List (List UInt8)
  | acc, [] => [acc]
  | acc, c :: l => if c = 46 then acc :: spl [] l else spl (acc ++ [c]) l
theorem spl_dot (rest : List UInt8) : ∀ (xs acc : List UInt8), (∀ c ∈ xs, c ≠ 46) → spl acc (xs ++ 46 :: rest) = (acc ++ xs) :: spl [] rest := by
  intro xs
  induction xs with
  | nil => intro acc _; simp [spl]
  | cons x xs ih =>
    intro acc h
    have hx : x ≠ 46 := h x (by simp)
    rw [List.cons_append, show spl acc (x :: (xs ++ 46 :: rest)) = spl (acc ++ [x]) (xs ++ 46 :: rest) from if_neg hx, ih _ (fun c hc => h c (by simp [hc]))]
    simp
theorem spl_end : ∀ (xs acc : List UInt8), (∀ c ∈ xs, c ≠ 46) → spl acc xs = [acc ++ xs] := by
  intro xs
  induction xs with
  | nil => intro acc _; simp [spl]
  | cons x xs ih =>
    intro acc h
    have hx : x ≠ 46 := h x (by simp)
    rw [show spl acc (x :: xs) = spl (acc ++ [x]) xs from if_neg hx, ih _ (fun c hc => h c (by simp [hc]))]
    simp
/-- The parts of a text. -/
def prt (s : ByteArray) : List ByteArray := (spl [] s.data.toList).map fun l => ⟨l.toArray⟩
theorem prt_txT (x : TX) (h : txOk x = true) : prt (txT x) = [numS x.1, numS x.2.1, numS x.2.2] := by
  obtain ⟨k0, k1, k2, k3, k4, k5⟩ := (txOk_iff x).1 h
  have a := (numS_dig x.1 k0 (by omega)).2
  have b := (numS_dig x.2.1 (by omega) (by omega)).2
  have c := (numS_dig x.2.2 (by omega) (by omega)).2
  unfold prt
  rw [txT_data x h, spl_dot _ _ _ a, spl_dot _ _ _ b, spl_end _ _ c]
  rfl
def gAt (ps : List ByteArray) (i : Nat) : Int := if i < ps.length then tgN (ps[i]?.getD ⟨#[]⟩) else 0
/-- The three numbers that the specification reads. -/
def qtx (s : ByteArray) : TX := (gAt (prt s) 0, gAt (prt s) 1, gAt (prt s) 2)
theorem qtx_txT (x : TX) (h : txOk x = true) : qtx (txT x) = x := by
  obtain ⟨k0, k1, k2, k3, k4, k5⟩ := (txOk_iff x).1 h
  unfold qtx gAt
  rw [prt_txT x h]
  simp [tgN, (numS_dig x.1 k0 (by omega)).1, (numS_dig x.2.1 (by omega) (by omega)).1, (numS_dig x.2.2 (by omega) (by omega)).1]
theorem numS_len (n : Int) (f : Nat) (h : n.toNat < 10 ^ (f + 1)) (h0 : 0 ≤ n) (h1 : n ≤ 1099511627775) : (numS n).size ≤ f + 1 := by
  rw [numS_ok n h0 h1]
  have := dec_len f n.toNat h
  show (Lib.decDigits n.toNat).toArray.size ≤ f + 1
  simpa using this
theorem txT_size (x : TX) (h : txOk x = true) : (txT x).size ≤ 9 ∧ 0 < (txT x).size := by
  obtain ⟨k0, k1, k2, k3, k4, k5⟩ := (txOk_iff x).1 h
  have a := numS_len x.1 0 (by omega) k0 (by omega)
  have b := numS_len x.2.1 2 (by omega) (by omega) (by omega)
  have c := numS_len x.2.2 2 (by omega) (by omega) (by omega)
  have hd := dot_size
  rw [txT_yes h]
  simp only [ByteArray.size_append]
  omega
/-- What the specification finds is what the program finds. -/
theorem spec_tt (s : ByteArray) : ((s.size ≤ 9 ∧ 0 < s.size ∧ txT (qtx s) = s) → ttV s = some (qtx s)) ∧ (¬ (s.size ≤ 9 ∧ 0 < s.size ∧ txT (qtx s) = s) → ttV s = none) := by
  constructor
  · rintro ⟨h1, h2, h3⟩
    refine ttV_some.2 ⟨?_, h3⟩
    cases e : txOk (qtx s) with
    | true => rfl
    | false =>
      rw [txT_no e] at h3
      rw [← h3] at h2
      exact absurd h2 (by decide)
  · intro h
    cases e : ttV s with
    | none => rfl
    | some x =>
      obtain ⟨h1, rfl⟩ := ttV_some.1 e
      exact absurd ⟨(txT_size x h1).1, (txT_size x h1).2, by rw [qtx_txT x h1]⟩ h
theorem spl_step (l acc : List UInt8) (i : Nat) (h : i < l.length) : spl acc (l.drop i) = if l[i] = 46 then acc :: spl [] (l.drop (i + 1)) else spl (acc ++ [l[i]]) (l.drop (i + 1)) := by
  rw [List.drop_eq_getElem_cons h]
  rfl
end Go.Proofs.YtmogdijhlgonnabDoor

