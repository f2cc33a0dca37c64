/-
  What is read through a slice value, and in which blocks it lies; which blocks a stretch of the program may have turned.
-/
import Derived.Test.YtnbafoennnhppabTrR
import Derived.Laws.AppendOwnNone
namespace Go.Proofs.Ytnbafoennnhppab
open Go.RowKit

/-- Of the blocks of w only those of R have turned in w'. -/
structure Only (R : Nat → Prop) (w w' : World) : Prop where
  os : w'.os = w.os
  tape : w'.tape = w.tape
  output : w'.output = w.output
  size : w.heap.size ≤ w'.heap.size
  block : ∀ b, b < w.heap.size → ¬ R b → w'.heap[b]? = w.heap[b]?
theorem Only.refl (R : Nat → Prop) (w : World) : Only R w w := ⟨rfl, rfl, rfl, Nat.le_refl _, fun _ _ _ => rfl⟩
theorem Only.trans {R : Nat → Prop} {a b c : World} (h : Only R a b) (k : Only R b c) : Only R a c :=
  ⟨k.os.trans h.os, k.tape.trans h.tape, k.output.trans h.output, Nat.le_trans h.size k.size, fun i hi hr => (k.block i (Nat.lt_of_lt_of_le hi h.size) hr).trans (h.block i hi hr)⟩
/-- What was made since a may turn. -/
theorem Only.then {R R' : Nat → Prop} {a b c : World} (h : Only R a b) (k : Only R' b c) (hr : ∀ i, i < a.heap.size → R' i → R i) : Only R a c :=
  ⟨k.os.trans h.os, k.tape.trans h.tape, k.output.trans h.output, Nat.le_trans h.size k.size, fun i hi hn => (k.block i (Nat.lt_of_lt_of_le hi h.size) (fun h' => hn (hr i hi h'))).trans (h.block i hi hn)⟩
theorem Only.mono {R R' : Nat → Prop} {a b : World} (h : Only R a b) (hr : ∀ i, i < a.heap.size → R i → R' i) : Only R' a b :=
  ⟨h.os, h.tape, h.output, h.size, fun i hi hn => h.block i hi (fun h' => hn (hr i hi h'))⟩
theorem only_of_below {w w' : World} (h : Below w.heap.size w w') (R : Nat → Prop) : Only R w w' := ⟨h.os, h.tape, h.output, h.size, fun b hb _ => h.block b hb⟩
theorem only_of_grown {w w' : World} {row : Option Nat} (h : w.grownBy w' row) {R : Nat → Prop} (hr : ∀ k, row = some k → R k) : Only R w w' :=
  ⟨h.os, h.tape, h.output, h.size, fun b hb hn => h.block b hb (fun e => hn (hr b e.symm))⟩
theorem Only.below {R : Nat → Prop} {w w' : World} {B : Nat} (h : Only R w w') (hB : B ≤ w.heap.size) (hr : ∀ b, b < B → ¬ R b) : Below B w w' := ⟨h.os, h.tape, h.output, h.size, fun b hb => h.block b (by omega) (hr b hb)⟩
theorem only_alloc (R : Nat → Prop) (w : World) (o : Obj) : Only R w (w.alloc o) := ⟨rfl, rfl, rfl, by simp, fun b hb _ => Below.heap_alloc _ _ _ hb⟩
theorem only_set {R : Nat → Prop} {w : World} {p : Addr} (h : R p.block) (u : Value) : Only R w (w.setCell p u) := ⟨rfl, rfl, rfl, by simp [World.setCell], fun b _ hn => Below.heap_setCell _ _ _ _ (fun e => hn (e ▸ h))⟩
theorem only_drew (R : Nat → Prop) (w : World) (q : Nat) : Only R w (w.drewN q) := ⟨rfl, rfl, rfl, Nat.le_refl _, fun _ _ _ => rfl⟩

/-- The slice value v leads in w to n elements whose cells are xs, in a block of S. -/
def Rw (w : World) (S : Nat → Prop) (v : Value) (n : Nat) (xs : List Value) : Prop :=
  ∃ a c, v = .slice a n c ∧ n ≤ c ∧ c ≤ 9223372036854775807 ∧ (n = 0 → xs = []) ∧ (a = none → c = 0) ∧ (0 < n → ∃ b off, a = some ⟨b, off, none⟩ ∧ b < w.heap.size ∧ S b ∧ ∀ j u, xs[j]? = some u → w.cell? ⟨b, off + j, none⟩ = some u)
theorem Rw.to {w w' : World} {S R : Nat → Prop} {v : Value} {n : Nat} {xs : List Value} (h : Rw w S v n xs) (ho : Only R w w') (hd : ∀ b, S b → b < w.heap.size → ¬ R b) : Rw w' S v n xs := by
  obtain ⟨a, c, h1, h2, h3, h4, hn, h5⟩ := h
  refine ⟨a, c, h1, h2, h3, h4, hn, fun hp => ?_⟩
  obtain ⟨b, off, h6, h7, h8, h9⟩ := h5 hp
  refine ⟨b, off, h6, Nat.lt_of_lt_of_le h7 ho.size, h8, fun j u hu => ?_⟩
  rw [← h9 j u hu]
  exact World.cell?_of_block (w := w) (ho.block b h7 (hd b h8 h7))
theorem Rw.mono {w : World} {S R : Nat → Prop} {v : Value} {n : Nat} {xs : List Value} (h : Rw w S v n xs) (hd : ∀ b, S b → b < w.heap.size → R b) : Rw w R v n xs := by
  obtain ⟨a, c, h1, h2, h3, h4, hn, h5⟩ := h
  refine ⟨a, c, h1, h2, h3, h4, hn, fun hp => ?_⟩
  obtain ⟨b, off, h6, h7, h8, h9⟩ := h5 hp
  exact ⟨b, off, h6, h7, hd b h8 h7, h9⟩
theorem rw_nil (w : World) (S : Nat → Prop) : Rw w S (.slice none 0 0) 0 [] := ⟨none, 0, rfl, Nat.le_refl _, by omega, fun _ => rfl, fun _ => rfl, fun h => by omega⟩
/-- What one owns is read. -/
theorem rw_own {w : World} {base : Nat} {e : TypeId} {size : Nat} {v : Value} {n : Nat} {xs : List Value} (h : w.ownsRow base e size v n xs) {S : Nat → Prop} (hS : ∀ k, v.ownBlock = some k → base ≤ k → k < w.heap.size → S k) : Rw w S v n xs := by
  have hlt := World.ownsRow.lt h
  have hc := fun g hg => World.ownsRow.cells h (g := g) hg
  obtain ⟨h1, h2⟩ := h
  rcases h2 with ⟨rfl, rfl⟩ | ⟨g, cap, cur, rfl, h3, h4, h5, h6, h7, h8⟩
  · have : xs = [] := List.eq_nil_of_length_eq_zero (by omega)
    subst this
    exact rw_nil w S
  · refine ⟨_, cap, rfl, h5, by unfold maxLen at h6; omega, fun h0 => List.eq_nil_of_length_eq_zero (by rw [h1, h0]; omega), fun h => by (cases h), fun _ => ⟨g, 0, rfl, (hlt g rfl).2, hS g rfl h3 (hlt g rfl).2, fun j u hu => ?_⟩⟩
    have := hc g rfl j u hu
    rwa [Addr.add_lit] at this
theorem own_kept {w w' : World} {R : Nat → Prop} {base : Nat} {e : TypeId} {size : Nat} {v : Value} {n : Nat} {xs : List Value} (h : w.ownsRow base e size v n xs) (ho : Only R w w') (hR : ∀ k, v.ownBlock = some k → ¬ R k) : w'.ownsRow base e size v n xs := by
  have hlt := World.ownsRow.lt h
  obtain ⟨h1, h2⟩ := h
  refine ⟨h1, ?_⟩
  rcases h2 with h2 | ⟨g, cap, cur, rfl, h3, h4, h5⟩
  · exact .inl h2
  · exact .inr ⟨g, cap, cur, rfl, h3, (ho.block g (hlt g rfl).2 (hR g rfl)).trans h4, h5⟩
theorem own_shape {w : World} {base : Nat} {e : TypeId} {size : Nat} {v : Value} {n : Nat} {xs : List Value} (h : w.ownsRow base e size v n xs) : ∃ a c, v = .slice a n c := by
  rcases h.2 with ⟨rfl, rfl⟩ | ⟨g, cap, cur, rfl, _⟩
  · exact ⟨none, 0, rfl⟩
  · exact ⟨_, cap, rfl⟩

/-- append(dst, src...): dst a row of one's own, src any row. -/
theorem run_append_row {P : Program} {w : World} (base : Nat) (t ty e : TypeId) (i : TypeInfo) (z : Value) (size bytes : Nat) (ht : P.underlying t = some (.slice e)) (hi : P.info? e = some i) (hz : i.zero = some z)
    (hsize : i.size = size) (hby : i.bytes = bytes) (hzs : z.cells.size = size) (hsz : 0 < size) (v : Value) (n : Nat) (xs : List Value) (hown : w.ownsRow base e size v n xs)
    (S : Nat → Prop) (src : Value) (m : Nat) (news : List Value) (hsrc : Rw w S src m news) (hl : news.length = m * size) (h1 : ∀ u ∈ news, u.oneCell' = true)
    (h63 : n + m ≤ maxLen) (hbytes : (n + m) * bytes ≤ 140737488355328) (hbase : base ≤ w.heap.size) :
    ∃ v' w', (Builtin.append_ #[t, t] ty #[v, src]).run P w = .ok v' w' ∧ w'.ownsRow base e size v' (n + m) (xs ++ news) ∧ w.grownBy w' v.ownBlock := by
  obtain ⟨a, c, rfl, h2, h3, h4, hn, h5⟩ := hsrc
  by_cases hm : 0 < m
  · obtain ⟨b, off, rfl, hb, hS, hc⟩ := h5 hm
    obtain ⟨v', w', hr, ho, hg, _⟩ := run_append_own w base t ty e i z size bytes ht hi hz hsize hby hzs hsz v n xs hown ⟨b, off, none⟩ m c news hl (fun j u hu => by rw [Addr.add_lit]; exact hc j u hu) h1 h63 hbytes hbase
    exact ⟨v', w', hr, ho, hg⟩
  · obtain rfl : m = 0 := by omega
    obtain rfl := h4 rfl
    cases a with
    | some ad =>
      obtain ⟨v', w', hr, ho, hg, _⟩ := run_append_own w base t ty e i z size bytes ht hi hz hsize hby hzs hsz v n xs hown ad 0 c [] hl (fun j u hu => by simp at hu) h1 h63 hbytes hbase
      exact ⟨v', w', hr, ho, hg⟩
    | none =>
      obtain rfl := hn rfl
      have hrun := run_append_owned_none (P := P) (w := w) base t ty e i size ht hi v n xs hown
      exact ⟨v, w, hrun, by simpa using hown, ⟨rfl, rfl, rfl, Nat.le_refl _, fun _ _ _ => rfl⟩⟩
theorem wpList_append_row {P : Program} {w : World} {ops : Array Oper} {rest : List Oper} {o : Oper} {a : Act} {Q : Exit → Act → World → Prop} (hgd : o.guard = none) (s x : Operand) (t : TypeId)
    (ho : o.op = .call { callee := .builtin .append, args := #[s, x], argTypes := #[t, t] })
    (base : Nat) (e : TypeId) (i : TypeInfo) (z : Value) (size bytes : Nat) (ht : P.underlying t = some (.slice e)) (hi : P.info? e = some i) (hz : i.zero = some z)
    (hsize : i.size = size) (hby : i.bytes = bytes) (hzs : z.cells.size = size) (hsz : 0 < size) (v : Value) (n : Nat) (xs : List Value) (hs : a.eval s = v) (hown : w.ownsRow base e size v n xs)
    (S : Nat → Prop) (src : Value) (m : Nat) (news : List Value) (hx : a.eval x = src) (hsrc : Rw w S src m news) (hl : news.length = m * size) (h1 : ∀ u ∈ news, u.oneCell' = true)
    (h63 : n + m ≤ maxLen) (hbytes : (n + m) * bytes ≤ 140737488355328) (hbase : base ≤ w.heap.size)
    (h : ∀ v' w', w'.ownsRow base e size v' (n + m) (xs ++ news) → w.grownBy w' v.ownBlock → wpList P ops Q rest (a.put o.dst v') w') : wpList P ops Q (o :: rest) a w := by
  refine wpList_plain hgd fun K hK => ?_
  obtain ⟨v', w', hr, h2, h3⟩ := run_append_row (P := P) (w := w) base t o.type e i z size bytes ht hi hz hsize hby hzs hsz v n xs hown S src m news hsrc hl h1 h63 hbytes hbase
  unfold Oper.wp execOp
  simp only [ho, resolve, invoke, builtin, Sem.run_bind, Sem.run_pure, Result.andThen_ok, List.map_toArray, List.map_cons, List.map_nil, hs, hx, hr]
  exact hK _ _ (h v' w' h2 h3)

/-- The cells of a list of pairs. -/
def pcs : List PB → List Value
  | [] => []
  | p :: ps => .string p.1 :: .string p.2 :: pcs ps
theorem pcs_length (ps : List PB) : (pcs ps).length = ps.length * 2 := by
  induction ps with
  | nil => rfl
  | cons p ps ih => simp only [pcs, List.length_cons, ih]; omega
theorem pcs_append (ps qs : List PB) : pcs (ps ++ qs) = pcs ps ++ pcs qs := by
  induction ps with
  | nil => rfl
  | cons p ps ih => simp only [pcs, List.cons_append, ih]
theorem pcs_one (ps : List PB) : ∀ u ∈ pcs ps, u.oneCell' = true := by
  induction ps with
  | nil => intro u hu; cases hu
  | cons p ps ih =>
    intro u hu
    simp only [pcs, List.mem_cons] at hu
    rcases hu with rfl | rfl | hu
    · rfl
    · rfl
    · exact ih u hu
theorem pcs_at (ps : List PB) : ∀ i, i < ps.length → (pcs ps)[i * 2]? = some (.string (pAtB ps i).1) ∧ (pcs ps)[i * 2 + 1]? = some (.string (pAtB ps i).2) := by
  induction ps with
  | nil => intro i h; exact absurd h (Nat.not_lt_zero _)
  | cons p ps ih =>
    intro i h
    cases i with
    | zero => exact ⟨rfl, rfl⟩
    | succ i =>
      have := ih i (by simpa using h)
      have e : (i + 1) * 2 = i * 2 + 2 := by omega
      rw [e]
      exact this
/-- The slice value v leads to the pairs ps. -/
def Pr (w : World) (S : Nat → Prop) (v : Value) (ps : List PB) : Prop := Rw w S v ps.length (pcs ps)
theorem Pr.cell {w : World} {S : Nat → Prop} {v : Value} {ps : List PB} (h : Pr w S v ps) (hp : 0 < ps.length) : ∃ b off c, v = .slice (some ⟨b, off, none⟩) ps.length c ∧ S b ∧ b < w.heap.size ∧
    ∀ i, i < ps.length → w.cell? ⟨b, off + i * 2, none⟩ = some (.string (pAtB ps i).1) ∧ w.cell? ⟨b, off + i * 2 + 1, none⟩ = some (.string (pAtB ps i).2) := by
  obtain ⟨a, c, rfl, h2, h3, h4, hn, h5⟩ := h
  obtain ⟨b, off, rfl, h7, h8, h9⟩ := h5 hp
  refine ⟨b, off, c, rfl, h8, h7, fun i hi => ?_⟩
  obtain ⟨e1, e2⟩ := pcs_at ps i hi
  exact ⟨h9 _ _ e1, h9 _ _ e2⟩
theorem Rw.shape {w : World} {S : Nat → Prop} {v : Value} {n : Nat} {xs : List Value} (h : Rw w S v n xs) : ∃ a c, v = .slice a n c ∧ n ≤ c ∧ c ≤ 9223372036854775807 := by
  obtain ⟨a, c, h1, h2, h3, _⟩ := h
  exact ⟨a, c, h1, h2, h3⟩
theorem Rw.len {w : World} {S : Nat → Prop} {a : Option Addr} {n m c : Nat} {xs : List Value} (h : Rw w S (.slice a n c) m xs) : n = m ∧ n ≤ c ∧ c ≤ 9223372036854775807 := by
  obtain ⟨a', c', h1, h2, h3, _⟩ := h
  cases h1
  exact ⟨rfl, h2, h3⟩
theorem Pr.shape {w : World} {S : Nat → Prop} {v : Value} {ps : List PB} (h : Pr w S v ps) : ∃ a c, v = .slice a ps.length c ∧ ps.length ≤ c ∧ c ≤ 9223372036854775807 := Rw.shape h
theorem Pr.at {w : World} {S : Nat → Prop} {a : Option Addr} {n c : Nat} {ps : List PB} (h : Pr w S (.slice a n c) ps) (hp : 0 < n) : ∃ b off, a = some ⟨b, off, none⟩ ∧ S b ∧ b < w.heap.size ∧
    ∀ i, i < n → w.cell? ⟨b, off + i * 2, none⟩ = some (.string (pAtB ps i).1) ∧ w.cell? ⟨b, off + i * 2 + 1, none⟩ = some (.string (pAtB ps i).2) := by
  have hn := (Rw.len h).1
  obtain ⟨b, off, c', hv, h1, h2, h3⟩ := h.cell (by omega)
  cases hv
  exact ⟨b, off, rfl, h1, h2, h3⟩
end Go.Proofs.Ytnbafoennnhppab

