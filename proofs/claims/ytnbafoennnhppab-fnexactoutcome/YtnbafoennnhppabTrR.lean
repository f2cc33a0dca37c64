/-
  Which lists of nodes are right trees, said once for the program's way of reading and the specification's.
-/
import Derived.Test.YtnbafoennnhppabTrQ
namespace Go.Proofs.Ytnbafoennnhppab
open Go.RowKit

def pAtB (l : List PB) (i : Nat) : PB := l[i]?.getD (⟨#[]⟩, ⟨#[]⟩)
/-- The pairs are right from place k on. -/
def pOkF (l : List PB) : Nat → Nat → Bool
  | 0, _ => true
  | f + 1, k => kOk (pAtB l k).1 && vOk (pAtB l k).2 && (decide (k = 0) || Op.bytesLess (pAtB l (k - 1)).1.toList (pAtB l k).1.toList) && pOkF l f (k + 1)
def pOk (l : List PB) : Bool := decide (l.length ≤ 200) && pOkF l l.length 0
theorem pOk_len {l : List PB} (h : pOk l = true) : l.length ≤ 200 := by simp [pOk] at h; exact h.1
mutual
theorem full_all : ∀ (t : T), t.full false = true → t.size + 1 ≤ t.all.length
  | .mk ps ks, h => by
    by_cases hk : ks = []
    · subst hk
      have := full_lf h
      simp at this
      simp [T.size, szL, T.all, allL]
      omega
    · obtain ⟨h1, h2, rfl, h3⟩ := full_br h hk
      have := fullL_all ks h3
      simp [T.size, T.all]
      omega
theorem fullL_all : ∀ (ks : List T), (∀ k ∈ ks, k.full false = true) → szL ks + ks.length ≤ (allL ks).length
  | [], _ => by simp [szL]
  | k :: ks, h => by
    have h1 := full_all k (h k (by simp))
    have h2 := fullL_all ks (fun x hx => h x (by simp [hx]))
    simp [szL, allL]
    omega
end
theorem full_root {t : T} (h : t.full true = true) : t.size ≤ t.all.length := by
  obtain ⟨ps, ks⟩ := t
  by_cases hk : ks = []
  · subst hk
    have := full_lf h
    simp [T.size, szL, T.all, allL]
    omega
  · obtain ⟨h1, h2, rfl, h3⟩ := full_br h hk
    have := fullL_all ks h3
    simp [T.size, T.all]
    omega
theorem ev_size : ∀ (h : Nat) (t : T) (r : Bool), Ev h t → t.full r = true → 2 ^ h ≤ t.size + 1
  | 0, t, r, e, _ => e.elim
  | h + 1, .mk ps ks, r, e, hu => by
    rcases e with ⟨rfl, rfl⟩ | ⟨hk, e⟩
    · simp [T.size, szL]
    · obtain ⟨h1, h2, rfl, h3⟩ := full_br hu hk
      have : ∀ (l : List T), (∀ k ∈ l, k ∈ ks) → l.length * (2 ^ h - 1) ≤ szL l := by
        intro l
        induction l with
        | nil => simp [szL]
        | cons k l ih =>
          intro hl
          have a1 := ev_size h k false (e k (hl k (by simp))) (h3 k (hl k (by simp)))
          have a2 := ih (fun x hx => hl x (by simp [hx]))
          simp only [szL, List.length_cons, Nat.add_mul, Nat.one_mul]
          omega
      have a1 := this ks (fun _ h => h)
      have a2 : 2 * (2 ^ h - 1) ≤ ks.length * (2 ^ h - 1) := Nat.mul_le_mul_right _ h1
      have a3 : 0 < 2 ^ h := Nat.pos_of_ne_zero (by simp)
      simp only [T.size]
      rw [Nat.pow_succ]
      omega
theorem ev_le_size {h : Nat} {t : T} {r : Bool} (e : Ev h t) (hu : t.full r = true) : h ≤ t.size := by
  have h1 := ev_size h t r e hu
  have h2 : h < 2 ^ h := Nat.lt_two_pow_self
  omega
/-- The nodes ns are the right tree t. -/
structure Good (ns : List NB) (t : T) : Prop where
  full : t.full true = true
  even : ∃ h, Ev h t
  ok : pOk t.all = true
  laid : lay 0 t = ns
def okT (ns : List NB) : Option T :=
  if ns.length = 0 then some (.mk [] []) else if 400 ≤ ns.length then none else match rdI ns ns.length 0 0 with
    | none => none
    | some (t, n) => if n = ns.length ∧ pOk t.all = true then some t else none
theorem pre_self (ns : List NB) : Pre ns 0 ns := fun i _ => by simp
theorem pre_all {ns l : List NB} (h : Pre ns 0 l) (hl : l.length = ns.length) : l = ns := by
  apply List.ext_getElem?
  intro i
  by_cases hi : i < l.length
  · have := h i hi; simpa using this.symm
  · rw [List.getElem?_eq_none (by omega), List.getElem?_eq_none (by omega)]
theorem Good.len {ns : List NB} {t : T} (g : Good ns t) : ns.length = t.size ∧ ns.length ≤ 200 := by
  have h1 := full_root g.full
  have h2 := pOk_len g.ok
  have h3 := lay_length t 0
  rw [g.laid] at h3
  omega
theorem okT_good {ns : List NB} {t : T} (hne : ns.length ≠ 0) : okT ns = some t ↔ Good ns t := by
  constructor
  · intro h
    rw [okT, if_neg hne] at h
    split at h
    · cases h
    · split at h
      · cases h
      · rename_i x t' n hr
        split at h
        · rename_i hc
          cases h
          obtain ⟨_, _, h3, h4, h5, rfl⟩ := rdI_sound ns _ _ _ _ _ hr
          exact ⟨h3, h4, hc.2, pre_all h5 (by rw [lay_length]; omega)⟩
        · cases h
  · intro g
    obtain ⟨h, hh⟩ := g.even
    have hl := g.len
    have := rdI_some ns ns.length t h 0 hh g.full (by have := ev_le_size hh g.full; omega) (by rw [g.laid]; exact pre_self ns)
    rw [okT, if_neg hne, if_neg (by omega)]
    rw [show rdI ns ns.length 0 0 = some (t, 0 + t.size) from this]
    simp only
    rw [if_pos ⟨by omega, g.ok⟩]
instance : DecidableEq NB := fun a b => decidable_of_iff (a.ps = b.ps ∧ a.keys = b.keys ∧ a.kids = b.kids) (by cases a; cases b; simp)
/-- What the specification asks of the nodes. -/
def spOk (ns : List NB) : Bool :=
  if ns.length = 0 then true else if 400 < ns.length then false else match rdS ns 13 0 with
    | none => false
    | some (t, n) => decide (n = ns.length) && t.full true && decide (0 ≤ t.dp) && pOk t.all && decide (lay 0 t = ns)
theorem Good.read {ns : List NB} {t : T} (g : Good ns t) : rdS ns 13 0 = some (t, ns.length) := by
  obtain ⟨h, hh⟩ := g.even
  have hl := g.len
  have h1 := ev_size h t true hh g.full
  have h2 : h ≤ 13 := by
    rcases Nat.lt_or_ge 13 h with h3 | h3
    · have : 2 ^ 13 ≤ 2 ^ h := Nat.pow_le_pow_right (by omega) (by omega)
      have e : 2 ^ 13 = 8192 := by decide
      omega
    · exact h3
  have := rdS_some ns 13 t h 0 true hh g.full h2 (by rw [g.laid]; exact pre_self ns)
  rw [show rdS ns 13 0 = some (t, 0 + t.size) from this]
  simp; omega
theorem Good.dp {ns : List NB} {t : T} (g : Good ns t) : t.dp = t.lv := by
  obtain ⟨h, hh⟩ := g.even
  rw [ev_dp h t hh, ev_lv h t hh]
theorem spOk_eq (ns : List NB) : spOk ns = (okT ns).isSome := by
  by_cases hne : ns.length = 0
  · simp [spOk, okT, hne]
  · cases e : okT ns with
    | some t =>
      have g := (okT_good hne).1 e
      have hl := g.len
      have hd := g.dp
      simp only [spOk, hne, if_false, g.read, g.full, g.ok, g.laid]
      rw [if_neg (by omega)]
      simp
      omega
    | none =>
      rw [Option.isSome_none, Bool.eq_false_iff]
      intro h
      simp only [spOk, hne, if_false] at h
      split at h
      · cases h
      · split at h
        · cases h
        · rename_i x t n hr
          simp only [Bool.and_eq_true, decide_eq_true_eq] at h
          obtain ⟨⟨⟨⟨h1, h2⟩, h3⟩, h4⟩, h5⟩ := h
          have := (okT_good hne).2 ⟨h2, ⟨_, dp_ev t h3⟩, h4, h5⟩
          rw [e] at this
          cases this
end Go.Proofs.Ytnbafoennnhppab

