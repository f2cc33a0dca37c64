/-
  Looking a key up: in a list of pairs that ascend, in a tree. Nothing here speaks of the program.
-/
import Derived.Test.YtnbafoennnhppabLm
import Derived.Test.YtnbafoennnhppabRd2
namespace Go.Proofs.Ytnbafoennnhppab
open Go.RowKit
def klt (a b : ByteArray) : Bool := Op.bytesLess a.toList b.toList
theorem klt_irrefl (a : ByteArray) : klt a a = false := less_irrefl _
theorem klt_trans {a b c : ByteArray} (h : klt a b = true) (k : klt b c = true) : klt a c = true := less_trans _ _ _ h k
theorem klt_ne {a b : ByteArray} (h : klt a b = true) : a ≠ b := by
  rintro rfl
  rw [klt_irrefl] at h
  cases h
theorem klt_asymm {a b : ByteArray} (h : klt a b = true) : klt b a = false := less_asymm _ _ h
def Asc (l : List PB) : Prop := l.Pairwise fun p q => klt p.1 q.1 = true
theorem pOkF_adj (l : List PB) : ∀ (f k : Nat), pOkF l f k = true → ∀ i, k ≤ i → i < k + f → i ≠ 0 → klt (pAtB l (i - 1)).1 (pAtB l i).1 = true
  | 0, k, _, i, h1, h2, _ => by omega
  | f + 1, k, h, i, h1, h2, h3 => by
    simp only [pOkF, Bool.and_eq_true] at h
    by_cases e : i = k
    · subst e
      have := h.1.2
      simp [h3] at this
      exact this
    · exact pOkF_adj l f (k + 1) h.2 i (by omega) (by omega) h3
theorem pAtB_lt {l : List PB} {i : Nat} (h : i < l.length) : pAtB l i = l[i] := by simp [pAtB, h]
theorem pOk_asc {l : List PB} (h : pOk l = true) : Asc l := by
  simp only [pOk, Bool.and_eq_true] at h
  have adj : ∀ i, i + 1 < l.length → klt (pAtB l i).1 (pAtB l (i + 1)).1 = true := fun i hi => pOkF_adj l _ 0 h.2 (i + 1) (by omega) (by omega) (by omega)
  have far : ∀ d i, i + d + 1 < l.length → klt (pAtB l i).1 (pAtB l (i + d + 1)).1 = true := by
    intro d
    induction d with
    | zero => exact adj
    | succ d ih => exact fun i hi => klt_trans (ih i (by omega)) (adj _ (by omega))
  refine List.pairwise_iff_getElem.2 fun i j hi hj hij => ?_
  have := far (j - i - 1) i (by omega)
  rw [show i + (j - i - 1) + 1 = j by omega, pAtB_lt hi, pAtB_lt hj] at this
  exact this
theorem Asc.at {l : List PB} (h : Asc l) {i j : Nat} (hij : i < j) (hj : j < l.length) : klt (pAtB l i).1 (pAtB l j).1 = true := by
  have := List.pairwise_iff_getElem.1 h i j (by omega) hj hij
  rw [pAtB_lt (by omega), pAtB_lt hj]
  exact this
/-- The value beside the first pair with the key. -/
def fnd (l : List PB) (k : ByteArray) : Option ByteArray := l.findSome? fun p => if p.1 = k then some p.2 else none
theorem fnd_append (l m : List PB) (k : ByteArray) : fnd (l ++ m) k = (fnd l k).or (fnd m k) := List.findSome?_append
theorem fnd_none {l : List PB} {k : ByteArray} (h : ∀ p ∈ l, p.1 ≠ k) : fnd l k = none := by
  rw [fnd, List.findSome?_eq_none_iff]
  intro p hp
  simp [h p hp]
theorem fnd_at : ∀ (l : List PB) (k : ByteArray) (i : Nat), i < l.length → (pAtB l i).1 = k → (∀ a, a < i → (pAtB l a).1 ≠ k) → fnd l k = some (pAtB l i).2
  | [], _, _, h, _, _ => by simp at h
  | p :: l, k, 0, _, hk, _ => by
    have : p.1 = k := hk
    simp [fnd, this, pAtB]
  | p :: l, k, i + 1, h, hk, hl => by
    have h0 : p.1 ≠ k := hl 0 (by omega)
    have := fnd_at l k i (by simpa using h) hk (fun a ha => hl (a + 1) (by omega))
    rw [fnd, List.findSome?_cons]
    simp only [h0, if_false]
    exact this
theorem allL_append (a b : List T) : allL (a ++ b) = allL a ++ allL b := by
  induction a with
  | nil => rfl
  | cons k a ih => simp only [List.cons_append, allL, ih, List.append_assoc]
theorem tAt_lt {ks : List T} {i : Nat} (h : i < ks.length) : tAt ks i = ks[i] := by simp [tAt, h]
theorem ks_split {ks : List T} {q : Nat} (h : q < ks.length) : ks = ks.take q ++ tAt ks q :: ks.drop (q + 1) := by
  rw [tAt_lt h, List.getElem_cons_drop h, List.take_append_drop]
theorem all_split {ks : List T} {q : Nat} (h : q < ks.length) : allL ks = allL (ks.take q) ++ ((tAt ks q).all ++ allL (ks.drop (q + 1))) := by
  have := congrArg allL (ks_split h)
  rwa [allL_append, allL] at this
theorem full_head (t : T) : ∀ r, t.full r = true → ∃ v rest, t.all = (t.least, v) :: rest := by
  induction t using T.ind
  rename_i ps ks ih
  intro r hf
  cases ks with
  | nil =>
    have := full_lf hf
    cases ps with
    | nil => simp at this
    | cons p ps => exact ⟨p.2, ps, by simp [T.all, allL, T.least]⟩
  | cons k ks =>
    obtain ⟨_, _, rfl, h3⟩ := full_br hf (by simp)
    obtain ⟨v, rest, e⟩ := ih k (by simp) false (h3 k (by simp))
    exact ⟨v, rest ++ allL ks, by simp [T.all, allL, T.least, e]⟩
def kidF (ks : List T) (k : ByteArray) : Nat → Nat → Nat
  | 0, p => p
  | f + 1, p => if p + 1 < ks.length ∧ klt k (tAt ks (p + 1)).least = false then kidF ks k f (p + 1) else p
/-- The place of the kid that a key leads to. -/
def kidOf (ks : List T) (k : ByteArray) : Nat := kidF ks k ks.length 0
theorem kidF_spec (ks : List T) (k : ByteArray) : ∀ f p, p < ks.length → ks.length ≤ p + 1 + f → (p = 0 ∨ klt k (tAt ks p).least = false) →
    kidF ks k f p < ks.length ∧ (kidF ks k f p = 0 ∨ klt k (tAt ks (kidF ks k f p)).least = false) ∧ (kidF ks k f p + 1 < ks.length → klt k (tAt ks (kidF ks k f p + 1)).least = true)
  | 0, p, h1, h2, h3 => ⟨h1, h3, fun h => by simp only [kidF] at h; omega⟩
  | f + 1, p, h1, h2, h3 => by
    rw [kidF]
    by_cases hc : p + 1 < ks.length ∧ klt k (tAt ks (p + 1)).least = false
    · rw [if_pos hc]
      exact kidF_spec ks k f (p + 1) hc.1 (by omega) (.inr hc.2)
    · rw [if_neg hc]
      refine ⟨h1, h3, fun h => ?_⟩
      cases hk : klt k (tAt ks (p + 1)).least with
      | true => rfl
      | false => exact absurd ⟨h, hk⟩ hc
theorem kidOf_spec {ks : List T} (k : ByteArray) (h : ks ≠ []) : kidOf ks k < ks.length ∧ (kidOf ks k = 0 ∨ klt k (tAt ks (kidOf ks k)).least = false) ∧ (kidOf ks k + 1 < ks.length → klt k (tAt ks (kidOf ks k + 1)).least = true) :=
  kidF_spec ks k ks.length 0 (List.length_pos_iff.2 h) (by omega) (.inl rfl)
theorem asc_head {p : PB} {l : List PB} (h : Asc (p :: l)) {x : PB} (hx : x ∈ p :: l) : x = p ∨ klt p.1 x.1 = true := by
  rcases List.mem_cons.1 hx with rfl | hx
  · exact .inl rfl
  · exact .inr ((List.pairwise_cons.1 h).1 x hx)
theorem tAt_mem {ks : List T} {q : Nat} (h : q < ks.length) : tAt ks q ∈ ks := by rw [tAt_lt h]; exact List.getElem_mem h
/-- What lies ahead of the kid is less than the key, what lies behind it greater. -/
theorem kid_apart {ks : List T} {k : ByteArray} (hf : ∀ x ∈ ks, x.full false = true) (ha : Asc (allL ks)) {q : Nat} (h1 : q < ks.length) (h2 : q = 0 ∨ klt k (tAt ks q).least = false) (h3 : q + 1 < ks.length → klt k (tAt ks (q + 1)).least = true) :
    (∀ x ∈ allL (ks.take q), klt x.1 k = true) ∧ (∀ x ∈ allL (ks.drop (q + 1)), klt k x.1 = true) ∧ Asc (tAt ks q).all := by
  rw [all_split h1] at ha
  obtain ⟨_, hb, hab⟩ := List.pairwise_append.1 ha
  obtain ⟨hc, hd, hcd⟩ := List.pairwise_append.1 hb
  refine ⟨fun x hx => ?_, fun x hx => ?_, hc⟩
  · rcases h2 with rfl | h2
    · simp [allL] at hx
    · obtain ⟨v, rest, e⟩ := full_head _ _ (hf _ (tAt_mem h1))
      have hlt := hab x hx ((tAt ks q).least, v) (by rw [e]; simp)
      exact less_nless _ _ _ hlt h2
  · by_cases hq : q + 1 < ks.length
    · have hs : ks.drop (q + 1) = tAt ks (q + 1) :: ks.drop (q + 1 + 1) := by rw [tAt_lt hq, List.getElem_cons_drop hq]
      rw [hs, allL] at hx hd
      obtain ⟨v, rest, e⟩ := full_head _ _ (hf _ (tAt_mem hq))
      rw [e] at hx hd
      rcases asc_head hd hx with rfl | h
      · exact h3 hq
      · exact klt_trans (h3 hq) h
    · rw [List.drop_eq_nil_of_le (by omega)] at hx
      simp [allL] at hx
theorem kid_fnd {ks : List T} {k : ByteArray} (hk : ks ≠ []) (hf : ∀ x ∈ ks, x.full false = true) (ha : Asc (allL ks)) : fnd (allL ks) k = fnd (tAt ks (kidOf ks k)).all k ∧ Asc (tAt ks (kidOf ks k)).all := by
  obtain ⟨h1, h2, h3⟩ := kidOf_spec k hk
  obtain ⟨a1, a2, a3⟩ := kid_apart hf ha h1 h2 h3
  refine ⟨?_, a3⟩
  rw [all_split h1, fnd_append, fnd_append, fnd_none (l := allL (ks.take _)) (fun p hp => klt_ne (a1 p hp)), fnd_none (l := allL (ks.drop _)) (fun p hp => (klt_ne (a2 p hp)).symm)]
  simp
/-- How many keys are less. -/
def pos : List PB → ByteArray → Nat
  | [], _ => 0
  | p :: l, k => if klt p.1 k = true then pos l k + 1 else 0
theorem pos_le : ∀ (l : List PB) (k : ByteArray), pos l k ≤ l.length
  | [], _ => Nat.le_refl _
  | p :: l, k => by
    rw [pos]
    split
    · have := pos_le l k; simp; omega
    · exact Nat.zero_le _
theorem pos_uniq : ∀ (l : List PB) (k : ByteArray) (i : Nat), i ≤ l.length → (∀ a, a < i → klt (pAtB l a).1 k = true) → (i < l.length → klt (pAtB l i).1 k = false) → i = pos l k
  | [], _, i, h, _, _ => by simp at h; subst h; rfl
  | p :: l, k, 0, _, _, h => by
    have : klt p.1 k = false := h (by simp)
    rw [pos, this]
    rfl
  | p :: l, k, i + 1, h, hl, hr => by
    have h0 : klt p.1 k = true := hl 0 (by omega)
    have := pos_uniq l k i (by simpa using h) (fun a ha => hl (a + 1) (by omega)) (fun hi => hr (by simpa using hi))
    rw [pos, h0, if_pos rfl, ← this]
theorem pos_spec : ∀ (l : List PB) (k : ByteArray), (∀ a, a < pos l k → klt (pAtB l a).1 k = true) ∧ (pos l k < l.length → klt (pAtB l (pos l k)).1 k = false)
  | [], k => ⟨fun a h => absurd h (Nat.not_lt_zero _), fun h => absurd h (Nat.not_lt_zero _)⟩
  | p :: l, k => by
    rw [pos]
    cases hk : klt p.1 k with
    | false => exact ⟨fun a h => by simp at h, fun _ => hk⟩
    | true =>
      obtain ⟨h1, h2⟩ := pos_spec l k
      simp only [if_true]
      refine ⟨fun a h => ?_, fun h => h2 (by simpa using h)⟩
      cases a with
      | zero => exact hk
      | succ a => exact h1 a (by omega)
theorem pos_fnd {l : List PB} (k : ByteArray) (ha : Asc l) : fnd l k = if pos l k < l.length ∧ (pAtB l (pos l k)).1 = k then some (pAtB l (pos l k)).2 else none := by
  obtain ⟨h1, h2⟩ := pos_spec l k
  split
  · rename_i h
    exact fnd_at l k _ h.1 h.2 (fun a hl => klt_ne (h1 a hl))
  · rename_i h
    refine fnd_none fun p hp e => ?_
    obtain ⟨i, hi, rfl⟩ := List.mem_iff_getElem.1 hp
    rw [← pAtB_lt hi] at e
    rcases Nat.lt_trichotomy i (pos l k) with hlt | heq | hgt
    · exact klt_ne (h1 i hlt) e
    · exact h ⟨by omega, by rw [← heq]; exact e⟩
    · have h3 := ha.at hgt hi
      rw [e] at h3
      rw [h2 (by omega)] at h3
      cases h3
end Go.Proofs.Ytnbafoennnhppab

