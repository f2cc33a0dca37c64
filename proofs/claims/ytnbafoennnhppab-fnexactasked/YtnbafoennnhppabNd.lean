/-
  Slices of strings, of numbers and of nodes: what is read through them.
-/
import Derived.Test.YtnbafoennnhppabPairL
namespace Go.Proofs.Ytnbafoennnhppab
open Go.RowKit

def Sr (w : World) (S : Nat → Prop) (v : Value) (ss : List ByteArray) : Prop := Rw w S v ss.length (ss.map Value.string)
def Ir (w : World) (S : Nat → Prop) (v : Value) (ks : List Int) : Prop := Rw w S v ks.length (ks.map (Value.int .i64))
def sAt (ss : List ByteArray) (i : Nat) : ByteArray := ss[i]?.getD ⟨#[]⟩
def iAt (ks : List Int) (i : Nat) : Int := ks[i]?.getD 0
theorem Sr.to {w w' : World} {S R : Nat → Prop} {v : Value} {ss : List ByteArray} (h : Sr w S v ss) (ho : Only R w w') (hd : ∀ b, S b → b < w.heap.size → ¬ R b) : Sr w' S v ss := Rw.to h ho hd
theorem Ir.to {w w' : World} {S R : Nat → Prop} {v : Value} {ss : List Int} (h : Ir w S v ss) (ho : Only R w w') (hd : ∀ b, S b → b < w.heap.size → ¬ R b) : Ir w' S v ss := Rw.to h ho hd
theorem Pr.to {w w' : World} {S R : Nat → Prop} {v : Value} {ss : List PB} (h : Pr w S v ss) (ho : Only R w w') (hd : ∀ b, S b → b < w.heap.size → ¬ R b) : Pr w' S v ss := Rw.to h ho hd
theorem Rw.below {w w' : World} {S : Nat → Prop} {v : Value} {n : Nat} {xs : List Value} (h : Rw w S v n xs) (hb : Below w.heap.size w w') : Rw w' S v n xs := Rw.to h (only_of_below hb (fun _ => False)) (fun _ _ _ h => h)
theorem Sr.below {w w' : World} {S : Nat → Prop} {v : Value} {ss : List ByteArray} (h : Sr w S v ss) (hb : Below w.heap.size w w') : Sr w' S v ss := Rw.below h hb
theorem Ir.below {w w' : World} {S : Nat → Prop} {v : Value} {ss : List Int} (h : Ir w S v ss) (hb : Below w.heap.size w w') : Ir w' S v ss := Rw.below h hb
theorem Sr.shape {w : World} {S : Nat → Prop} {v : Value} {ss : List ByteArray} (h : Sr w S v ss) : ∃ a c, v = .slice a ss.length c ∧ ss.length ≤ c ∧ c ≤ 9223372036854775807 := Rw.shape h
theorem Ir.shape {w : World} {S : Nat → Prop} {v : Value} {ss : List Int} (h : Ir w S v ss) : ∃ a c, v = .slice a ss.length c ∧ ss.length ≤ c ∧ c ≤ 9223372036854775807 := Rw.shape h
theorem Rw.at {w : World} {S : Nat → Prop} {a : Option Addr} {n c m : Nat} {xs : List Value} (h : Rw w S (.slice a n c) m xs) (hp : 0 < n) : ∃ b off, a = some ⟨b, off, none⟩ ∧ S b ∧ b < w.heap.size ∧ ∀ j u, xs[j]? = some u → w.cell? ⟨b, off + j, none⟩ = some u := by
  obtain ⟨a', c', h1, h2, h3, h4, hn, h5⟩ := h
  cases h1
  obtain ⟨b, off, h6, h7, h8, h9⟩ := h5 hp
  exact ⟨b, off, h6, h8, h7, h9⟩
theorem Sr.at {w : World} {S : Nat → Prop} {a : Option Addr} {n c : Nat} {ss : List ByteArray} (h : Sr w S (.slice a n c) ss) (hp : 0 < n) : ∃ b off, a = some ⟨b, off, none⟩ ∧ S b ∧ b < w.heap.size ∧ ∀ i, i < n → w.cell? ⟨b, off + i, none⟩ = some (.string (sAt ss i)) := by
  have hn := (Rw.len h).1
  obtain ⟨b, off, h1, h2, h3, h4⟩ := Rw.at h hp
  refine ⟨b, off, h1, h2, h3, fun i hi => h4 i _ ?_⟩
  simp [sAt, show i < ss.length by omega]
theorem Ir.at {w : World} {S : Nat → Prop} {a : Option Addr} {n c : Nat} {ss : List Int} (h : Ir w S (.slice a n c) ss) (hp : 0 < n) : ∃ b off, a = some ⟨b, off, none⟩ ∧ S b ∧ b < w.heap.size ∧ ∀ i, i < n → w.cell? ⟨b, off + i, none⟩ = some (.int .i64 (iAt ss i)) := by
  have hn := (Rw.len h).1
  obtain ⟨b, off, h1, h2, h3, h4⟩ := Rw.at h hp
  refine ⟨b, off, h1, h2, h3, fun i hi => h4 i _ ?_⟩
  simp [iAt, show i < ss.length by omega]
abbrev V3 := Value × Value × Value
/-- The cells of a list of nodes. -/
def ncs : List V3 → List Value
  | [] => []
  | p :: ps => p.1 :: p.2.1 :: p.2.2 :: ncs ps
def vAt (V : List V3) (i : Nat) : V3 := V[i]?.getD (.slice none 0 0, .slice none 0 0, .slice none 0 0)
theorem ncs_length (ps : List V3) : (ncs ps).length = ps.length * 3 := by
  induction ps with
  | nil => rfl
  | cons p ps ih => simp only [ncs, List.length_cons, ih]; omega
theorem ncs_append (ps qs : List V3) : ncs (ps ++ qs) = ncs ps ++ ncs qs := by
  induction ps with
  | nil => rfl
  | cons p ps ih => simp only [ncs, List.cons_append, ih]
theorem ncs_at (ps : List V3) : ∀ i, i < ps.length → (ncs ps)[i * 3]? = some (vAt ps i).1 ∧ (ncs ps)[i * 3 + 1]? = some (vAt ps i).2.1 ∧ (ncs ps)[i * 3 + 2]? = some (vAt ps i).2.2 := by
  induction ps with
  | nil => intro i h; exact absurd h (Nat.not_lt_zero _)
  | cons p ps ih =>
    intro i h
    cases i with
    | zero => exact ⟨rfl, rfl, rfl⟩
    | succ i =>
      have := ih i (by simpa using h)
      have e : (i + 1) * 3 = i * 3 + 3 := by omega
      rw [e]
      exact this
theorem ncs_set (ps : List V3) (p : V3) : ∀ j, j < ps.length → ncs (ps.set j p) = (((ncs ps).set (j * 3) p.1).set (j * 3 + 1) p.2.1).set (j * 3 + 2) p.2.2 := by
  induction ps with
  | nil => intro j h; exact absurd h (Nat.not_lt_zero _)
  | cons q ps ih =>
    intro j h
    cases j with
    | zero => rfl
    | succ j =>
      have := ih j (by simpa using h)
      rw [show (j + 1) * 3 = j * 3 + 3 by omega, show j * 3 + 3 + 1 = j * 3 + 1 + 3 by omega, show j * 3 + 3 + 2 = j * 3 + 2 + 3 by omega]
      show q.1 :: q.2.1 :: q.2.2 :: ncs (ps.set j p) = _
      rw [this]
      rfl
/-- A node's three values lead to what it holds. -/
def N1 (w : World) (S : Nat → Prop) (p : V3) (x : NB) : Prop := Pr w S p.1 x.ps ∧ Sr w S p.2.1 x.keys ∧ Ir w S p.2.2 x.kids
theorem N1.to {w w' : World} {S R : Nat → Prop} {p : V3} {x : NB} (h : N1 w S p x) (ho : Only R w w') (hd : ∀ b, S b → b < w.heap.size → ¬ R b) : N1 w' S p x := ⟨h.1.to ho hd, h.2.1.to ho hd, h.2.2.to ho hd⟩
theorem N1.mono {w : World} {S R : Nat → Prop} {p : V3} {x : NB} (h : N1 w S p x) (hd : ∀ b, S b → b < w.heap.size → R b) : N1 w R p x := ⟨Rw.mono h.1 hd, Rw.mono h.2.1 hd, Rw.mono h.2.2 hd⟩
theorem N1.below {w w' : World} {S : Nat → Prop} {p : V3} {x : NB} (h : N1 w S p x) (hb : Below w.heap.size w w') : N1 w' S p x := h.to (only_of_below hb (fun _ => False)) (fun _ _ _ h => h)
/-- The slice value v leads to the nodes ns. -/
def Nr (w : World) (S : Nat → Prop) (v : Value) (ns : List NB) : Prop := ∃ V : List V3, V.length = ns.length ∧ Rw w S v ns.length (ncs V) ∧ ∀ i, i < ns.length → N1 w S (vAt V i) (nAt ns i)
theorem Nr.to {w w' : World} {S R : Nat → Prop} {v : Value} {ns : List NB} (h : Nr w S v ns) (ho : Only R w w') (hd : ∀ b, S b → b < w.heap.size → ¬ R b) : Nr w' S v ns := by
  obtain ⟨V, h1, h2, h3⟩ := h
  exact ⟨V, h1, h2.to ho hd, fun i hi => (h3 i hi).to ho hd⟩
theorem Nr.mono {w : World} {S R : Nat → Prop} {v : Value} {ns : List NB} (h : Nr w S v ns) (hd : ∀ b, S b → b < w.heap.size → R b) : Nr w R v ns := by
  obtain ⟨V, h1, h2, h3⟩ := h
  exact ⟨V, h1, h2.mono hd, fun i hi => (h3 i hi).mono hd⟩
theorem Nr.below {w w' : World} {S : Nat → Prop} {v : Value} {ns : List NB} (h : Nr w S v ns) (hb : Below w.heap.size w w') : Nr w' S v ns := h.to (only_of_below hb (fun _ => False)) (fun _ _ _ h => h)
theorem Nr.shape {w : World} {S : Nat → Prop} {v : Value} {ns : List NB} (h : Nr w S v ns) : ∃ a c, v = .slice a ns.length c ∧ ns.length ≤ c ∧ c ≤ 9223372036854775807 := by
  obtain ⟨V, h1, h2, h3⟩ := h
  exact h2.shape
theorem Nr.len {w : World} {S : Nat → Prop} {a : Option Addr} {n c : Nat} {ns : List NB} (h : Nr w S (.slice a n c) ns) : n = ns.length ∧ n ≤ c ∧ c ≤ 9223372036854775807 := by
  obtain ⟨V, h1, h2, h3⟩ := h
  exact Rw.len h2
/-- The node at place i: its three values, the shapes of these, where they lie. -/
theorem Nr.at {w : World} {S : Nat → Prop} {a : Option Addr} {n c : Nat} {ns : List NB} (h : Nr w S (.slice a n c) ns) (hp : 0 < n) : ∃ b off, a = some ⟨b, off, none⟩ ∧ S b ∧ b < w.heap.size ∧ ∀ i, i < n → ∃ ap np cp ax nx cx ai ni ci,
    w.cell? ⟨b, off + i * 3, none⟩ = some (.slice ap np cp) ∧ w.cell? ⟨b, off + i * 3 + 1, none⟩ = some (.slice ax nx cx) ∧ w.cell? ⟨b, off + i * 3 + 2, none⟩ = some (.slice ai ni ci) ∧
      Pr w S (.slice ap np cp) (nAt ns i).ps ∧ Sr w S (.slice ax nx cx) (nAt ns i).keys ∧ Ir w S (.slice ai ni ci) (nAt ns i).kids := by
  obtain ⟨V, h1, h2, h3⟩ := h
  have hn := (Rw.len h2).1
  obtain ⟨b, off, e1, e2, e3, e4⟩ := h2.at hp
  refine ⟨b, off, e1, e2, e3, fun i hi => ?_⟩
  obtain ⟨k1, k2, k3⟩ := h3 i (by omega)
  obtain ⟨c0, c1, c2⟩ := ncs_at V i (by omega)
  have d0 := e4 _ _ c0
  have d1 := e4 _ _ c1
  have d2 := e4 _ _ c2
  generalize vAt V i = p at *
  obtain ⟨p0, p1, p2⟩ := p
  obtain ⟨ap, cp, g0, _⟩ := k1.shape
  obtain ⟨ax, cx, g1, _⟩ := k2.shape
  obtain ⟨ai, ci, g2, _⟩ := k3.shape
  simp only at g0 g1 g2
  subst g0 g1 g2
  exact ⟨ap, _, cp, ax, _, cx, ai, _, ci, d0, d1, d2, k1, k2, k3⟩
end Go.Proofs.Ytnbafoennnhppab

