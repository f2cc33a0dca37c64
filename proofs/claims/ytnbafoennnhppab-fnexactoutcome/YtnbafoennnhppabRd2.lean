/-
  Rows of pointers to limbs that are appended to; what is known of a tree that was read.
-/
import Derived.Test.YtnbafoennnhppabRd1
import Derived.Maps.AppendAt
namespace Go.Proofs.Ytnbafoennnhppab
open Go.RowKit

/-- append(dst, src...), and where the new row lies. -/
theorem run_append_row_at {P : Program} {w : World} (base : Nat) (t ty e : TypeId) (i : TypeInfo) (z : Value) (size bytes : Nat) (ht : P.underlying t = some (.slice e)) (hi : P.info? e = some i) (hz : i.zero = some z)
    (hsize : i.size = size) (hby : i.bytes = bytes) (hzs : z.cells.size = size) (hsz : 0 < size) (v : Value) (n : Nat) (xs : List Value) (hown : w.ownsRow base e size v n xs)
    (S : Nat → Prop) (src : Value) (m : Nat) (news : List Value) (hsrc : Rw w S src m news) (hl : news.length = m * size) (h1 : ∀ u ∈ news, u.oneCell' = true)
    (h63 : n + m ≤ maxLen) (hbytes : (n + m) * bytes ≤ 140737488355328) (hbase : base ≤ w.heap.size) :
    ∃ v' w', (Builtin.append_ #[t, t] ty #[v, src]).run P w = .ok v' w' ∧ w'.ownsRow base e size v' (n + m) (xs ++ news) ∧ w.grownBy w' v.ownBlock ∧ (v'.ownBlock = v.ownBlock ∨ v'.ownBlock = some w.heap.size) := by
  obtain ⟨a, c, rfl, h2, h3, h4, hn, h5⟩ := hsrc
  by_cases hm : 0 < m
  · obtain ⟨b, off, rfl, hb, hS, hc⟩ := h5 hm
    obtain ⟨v', w', hr, ho, hg, _, ha⟩ := run_append_own_at w base t ty e i z size bytes ht hi hz hsize hby hzs hsz v n xs hown ⟨b, off, none⟩ m c news hl (fun j u hu => by rw [Addr.add_lit]; exact hc j u hu) h1 h63 hbytes hbase
    exact ⟨v', w', hr, ho, hg, ha⟩
  · obtain rfl : m = 0 := by omega
    obtain rfl := h4 rfl
    cases a with
    | some ad =>
      obtain ⟨v', w', hr, ho, hg, _, ha⟩ := run_append_own_at w base t ty e i z size bytes ht hi hz hsize hby hzs hsz v n xs hown ad 0 c [] hl (fun j u hu => by simp at hu) h1 h63 hbytes hbase
      exact ⟨v', w', hr, ho, hg, ha⟩
    | none =>
      obtain rfl := hn rfl
      have hrun := run_append_owned_none (P := P) (w := w) base t ty e i size ht hi v n xs hown
      exact ⟨v, w, hrun, by simpa using hown, ⟨rfl, rfl, rfl, Nat.le_refl _, fun _ _ _ => rfl⟩, .inl rfl⟩
theorem wpList_append_row_at {P : Program} {w : World} {ops : Array Oper} {rest : List Oper} {o : Oper} {a : Act} {Q : Exit → Act → World → Prop} (hgd : o.guard = none) (s x : Operand) (t : TypeId)
    (ho : o.op = .call { callee := .builtin .append, args := #[s, x], argTypes := #[t, t] })
    (base : Nat) (e : TypeId) (i : TypeInfo) (z : Value) (size bytes : Nat) (ht : P.underlying t = some (.slice e)) (hi : P.info? e = some i) (hz : i.zero = some z)
    (hsize : i.size = size) (hby : i.bytes = bytes) (hzs : z.cells.size = size) (hsz : 0 < size) (v : Value) (n : Nat) (xs : List Value) (hs : a.eval s = v) (hown : w.ownsRow base e size v n xs)
    (S : Nat → Prop) (src : Value) (m : Nat) (news : List Value) (hx : a.eval x = src) (hsrc : Rw w S src m news) (hl : news.length = m * size) (h1 : ∀ u ∈ news, u.oneCell' = true)
    (h63 : n + m ≤ maxLen) (hbytes : (n + m) * bytes ≤ 140737488355328) (hbase : base ≤ w.heap.size)
    (h : ∀ v' w', w'.ownsRow base e size v' (n + m) (xs ++ news) → w.grownBy w' v.ownBlock → (v'.ownBlock = v.ownBlock ∨ v'.ownBlock = some w.heap.size) → wpList P ops Q rest (a.put o.dst v') w') : wpList P ops Q (o :: rest) a w := by
  refine wpList_plain hgd fun K hK => ?_
  obtain ⟨v', w', hr, h2, h3, h4⟩ := run_append_row_at (P := P) (w := w) base t o.type e i z size bytes ht hi hz hsize hby hzs hsz v n xs hown S src m news hsrc hl h1 h63 hbytes hbase
  unfold Oper.wp execOp
  simp only [ho, resolve, invoke, builtin, Sem.run_bind, Sem.run_pure, Result.andThen_ok, List.map_toArray, List.map_cons, List.map_nil, hs, hx, hr]
  exact hK _ _ (h v' w' h2 h3 h4)
theorem ptrs_snoc (A : Nat → Nat) (n b : Nat) : ptrs A n ++ [ptr b] = ptrs (fun i => if i = n then b else A i) (n + 1) := by
  simp only [ptrs, List.range_succ, List.map_append, List.map_cons, List.map_nil, if_true]
  congr 1
  apply List.map_congr_left
  intro i hi
  rw [if_neg (by have := List.mem_range.1 hi; omega)]
theorem tAt_snoc (ts : List T) (t : T) (i : Nat) (h : i < (ts ++ [t]).length) : tAt (ts ++ [t]) i = if i = ts.length then t else tAt ts i := by
  by_cases e : i = ts.length
  · subst e; simp [tAt]
  · simp at h
    rw [if_neg e]
    simp [tAt, List.getElem?_append_left (show i < ts.length by omega)]
theorem full_ne : ∀ (t : T) (r : Bool), t.full r = true → t.ne
  | .mk ps [], r, h => by
    have := full_lf h
    show ps ≠ []
    rintro rfl
    simp at this
  | .mk ps (k :: ks), r, h => by
    have := full_br h (by simp)
    exact full_ne k false (this.2.2.2 k (by simp))
/-- What the methods ask of a tree. -/
structure Rdy (t : T) : Prop where
  ne : t.ne
  bare : t.bare = false
  few : t.ps.length + t.ks.length ≤ 1048576
  lv : t.lv ≤ 1048576
theorem full_few {t : T} {r : Bool} (h : t.full r = true) : t.ps.length + t.ks.length ≤ 8 ∧ t.bare = false := by
  obtain ⟨ps, ks⟩ := t
  by_cases hk : ks = []
  · subst hk
    have := full_lf h
    simp [T.ps, T.ks, T.bare]
    refine ⟨by omega, ?_⟩
    rintro rfl
    simp at this
  · have := full_br h hk
    simp only [T.ps, T.ks, T.bare, this.2.2.1, List.length_nil, decide_eq_false_iff_not]
    omega
theorem rdy_of {h : Nat} {t : T} {r : Bool} (e : Ev h t) (hu : t.full r = true) (hs : t.size ≤ 1048576) : Rdy t := by
  have h1 := full_few hu
  have h2 := ev_le_size e hu
  have h3 := ev_lv h t e
  exact ⟨full_ne t r hu, h1.2, by omega, by omega⟩
theorem pre_len {ns l : List NB} {a : Nat} (h : Pre ns a l) (hl : 0 < l.length) : a + l.length ≤ ns.length := by
  have := h (l.length - 1) (by omega)
  rw [List.getElem?_eq_getElem (by omega : l.length - 1 < l.length)] at this
  have := (List.getElem?_eq_some_iff.1 this).1
  omega
theorem rdI_rdy {ns : List NB} {f : Nat} {pl : Int} {nx n1 : Nat} {t : T} (h : rdI ns f pl nx = some (t, n1)) (hl : ns.length ≤ 1048576) : Rdy t ∧ n1 ≤ ns.length ∧ nx < n1 := by
  obtain ⟨_, h2, h3, ⟨e, h4⟩, h5, rfl⟩ := rdI_sound ns f pl nx t n1 h
  have h6 := pre_len h5 (by rw [lay_length]; exact T.size_pos t)
  rw [lay_length] at h6
  have := T.size_pos t
  exact ⟨rdy_of h4 h3 (by omega), by omega, by omega⟩
def brT (ns : List NB) (f : Nat) (x : NB) (nx : Nat) : Option (T × Nat) := if brOk x = true then (match rdIL (rdI ns f) x.keys [] x.kids nx with
  | none => none
  | some (ts, n) => some (.mk [] ts, n)) else none
end Go.Proofs.Ytnbafoennnhppab

