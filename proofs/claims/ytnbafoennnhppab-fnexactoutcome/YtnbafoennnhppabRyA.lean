/-
  Replies in plain; rows of them.
-/
import Derived.Test.YtnbafoennnhppabMgN
import Derived.Deep.MidRow
namespace Go.Proofs.Ytnbafoennnhppab
open Go.RowKit
set_option linter.unusedVariables false
structure RY where
  k : Int
  c : Int
  e : Int
  n : Int
  ak : Int
  ky : ByteArray
  vl : ByteArray
  lo : ByteArray
  hi : ByteArray
  mo : Int
  bk : Bool
  co : Int
  ps : List PB
instance : Inhabited RY := ⟨⟨0, 0, 0, 0, 0, ⟨#[]⟩, ⟨#[]⟩, ⟨#[]⟩, ⟨#[]⟩, 0, false, 0, []⟩⟩
/-- A reply's cells, v its pairs. -/
def RY.cs (r : RY) (v : Value) : List Value := [.int .i64 r.k, .int .i64 r.c, .int .i64 r.e, .int .i64 r.n, .int .i64 r.ak, .string r.ky, .string r.vl, .string r.lo, .string r.hi, .int .i64 r.mo, .bool r.bk, .int .i64 r.co, v]
abbrev RV := RY × Value
def rvAt (l : List RV) (i : Nat) : RV := l[i]?.getD (default, .slice none 0 0)
def ryAt (l : List RY) (i : Nat) : RY := l[i]?.getD default
def rycs : List RV → List Value
  | [] => []
  | p :: l => p.1.cs p.2 ++ rycs l
theorem rycs_length (l : List RV) : (rycs l).length = l.length * 13 := by
  induction l with
  | nil => rfl
  | cons p l ih => simp only [rycs, List.length_append, ih, List.length_cons, RY.cs, List.length_nil]; omega
theorem rycs_append (l m : List RV) : rycs (l ++ m) = rycs l ++ rycs m := by
  induction l with
  | nil => rfl
  | cons p l ih => simp only [rycs, List.cons_append, ih, List.append_assoc]
theorem rycs_at (l : List RV) : ∀ i, i < l.length → ∀ j u, ((rvAt l i).1.cs (rvAt l i).2)[j]? = some u → (rycs l)[i * 13 + j]? = some u := by
  induction l with
  | nil => intro i h; exact absurd h (Nat.not_lt_zero _)
  | cons p l ih =>
    intro i h j u hu
    cases i with
    | zero =>
      have hj : j < (p.1.cs p.2).length := (List.getElem?_eq_some_iff.1 hu).1
      simp only [rycs, Nat.zero_mul, Nat.zero_add]
      rw [List.getElem?_append_left hj]
      exact hu
    | succ i =>
      have := ih i (by simpa using h) j u hu
      simp only [rycs]
      rw [List.getElem?_append_right (by simp [RY.cs]; omega), show (i + 1) * 13 + j - (p.1.cs p.2).length = i * 13 + j by simp [RY.cs]; omega]
      exact this
theorem rycs_one (l : List RV) (h : ∀ p ∈ l, ∃ a n c, p.2 = .slice a n c) : ∀ u ∈ rycs l, u.oneCell' = true := by
  induction l with
  | nil => intro u hu; cases hu
  | cons p l ih =>
    intro u hu
    simp only [rycs, List.mem_append] at hu
    rcases hu with hu | hu
    · obtain ⟨a, n, c, e⟩ := h p (by simp)
      simp only [RY.cs, List.mem_cons, List.not_mem_nil, or_false] at hu
      rcases hu with rfl | rfl | rfl | rfl | rfl | rfl | rfl | rfl | rfl | rfl | rfl | rfl | rfl <;> first | rfl | (rw [e]; rfl)
    · exact ih (fun p hp => h p (by simp [hp])) u hu
/-- The slice value v leads to the replies rs, all of it in blocks of S. -/
def Yr (w : World) (S : Nat → Prop) (v : Value) (rs : List RY) : Prop := ∃ V : List RV, V.map (·.1) = rs ∧ Rw w S v V.length (rycs V) ∧ ∀ p ∈ V, Pr w S p.2 p.1.ps
theorem Yr.to {w w' : World} {S R : Nat → Prop} {v : Value} {rs : List RY} (h : Yr w S v rs) (ho : Only R w w') (hd : ∀ b, S b → b < w.heap.size → ¬ R b) : Yr w' S v rs := by
  obtain ⟨V, h1, h2, h3⟩ := h
  exact ⟨V, h1, Rw.to h2 ho hd, fun p hp => Rw.to (h3 p hp) ho hd⟩
theorem Yr.below {w w' : World} {S : Nat → Prop} {v : Value} {rs : List RY} (h : Yr w S v rs) (hb : Below w.heap.size w w') : Yr w' S v rs := h.to (only_of_below hb (fun _ => False)) (fun _ _ _ h => h)
theorem Yr.mono {w : World} {S R : Nat → Prop} {v : Value} {rs : List RY} (h : Yr w S v rs) (hd : ∀ b, S b → b < w.heap.size → R b) : Yr w R v rs := by
  obtain ⟨V, h1, h2, h3⟩ := h
  exact ⟨V, h1, Rw.mono h2 hd, fun p hp => Rw.mono (h3 p hp) hd⟩
theorem Yr.len {w : World} {S : Nat → Prop} {a : Option Addr} {n c : Nat} {rs : List RY} (h : Yr w S (.slice a n c) rs) : n = rs.length ∧ n ≤ c ∧ c ≤ 9223372036854775807 := by
  obtain ⟨V, h1, h2, h3⟩ := h
  obtain ⟨e1, e2, e3⟩ := Rw.len h2
  refine ⟨?_, by omega, e3⟩
  rw [← h1, List.length_map]
  exact e1
theorem Yr.shape {w : World} {S : Nat → Prop} {v : Value} {rs : List RY} (h : Yr w S v rs) : ∃ a n c, v = .slice a n c := by
  obtain ⟨V, h1, h2, h3⟩ := h
  obtain ⟨a, c, e, _⟩ := Rw.shape h2
  exact ⟨a, _, c, e⟩
theorem Yr.at {w : World} {S : Nat → Prop} {a : Option Addr} {n c : Nat} {rs : List RY} (h : Yr w S (.slice a n c) rs) (hp : 0 < n) : ∃ b off, a = some ⟨b, off, none⟩ ∧ S b ∧ b < w.heap.size ∧
    ∀ i, i < n → ∃ pa pn pc, w.rangeAt b (off + i * 13) ((ryAt rs i).cs (.slice pa pn pc)) ∧ Pr w S (.slice pa pn pc) (ryAt rs i).ps := by
  obtain ⟨V, h1, h2, h3⟩ := h
  have hn := (Rw.len h2).1
  obtain ⟨b, off, e, hS, hb, hc⟩ := Rw.at h2 hp
  refine ⟨b, off, e, hS, hb, fun i hi => ?_⟩
  have hi' : i < V.length := by omega
  have e1 : ryAt rs i = (rvAt V i).1 := by
    subst h1
    simp [ryAt, rvAt, hi']
  have hm : rvAt V i ∈ V := by simp [rvAt, hi']
  have hP := h3 _ hm
  obtain ⟨pa, pc, e2, _⟩ := hP.shape
  refine ⟨pa, (rvAt V i).1.ps.length, pc, ?_, ?_⟩
  · rw [e1, ← e2]
    intro j u hu
    rw [Nat.add_assoc]
    exact hc _ _ (rycs_at V i hi' j u hu)
  · rw [e1, ← e2]
    exact hP
theorem yr_nil (w : World) (S : Nat → Prop) : Yr w S (.slice none 0 0) [] := ⟨[], rfl, rw_nil w S, fun p hp => by cases hp⟩
end Go.Proofs.Ytnbafoennnhppab

