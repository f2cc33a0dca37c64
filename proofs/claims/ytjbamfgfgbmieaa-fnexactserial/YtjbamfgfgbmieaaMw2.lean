/-
  Looking a key up: in a list of pairs that ascend, in a tree. Nothing here speaks of the program.
-/
import Derived.Test.YtjbamfgfgbmieaaMw1
import Derived.Deep.WholeRow
import Derived.Deep.DeepCutAuto
import Derived.Laws.CopyRow
import Derived.Lib.AppendZerosOnto
import Derived.Lib.Overlaps
import Derived.Deep.RegionLaw
import Derived.Lib.Bytealg
import Derived.Laws.StructEq
namespace Go.Proofs.Ytjbamfgfgbmieaa
open Go.RowKit
def klt (a b : ByteArray) : Bool := Op.bytesLess a.toList b.toList
theorem klt_irrefl (a : ByteArray) : klt a a = false := less_irrefl _
theorem klt_trans {a b c : ByteArray} (h : klt a b = true) (k : klt b c = true) : klt a c = true := less_trans _ _ _ h k
theorem klt_ne {a b : ByteArray} (h : klt a b = true) : a ≠ b := by
  rintro rfl
  rw [klt_irrefl] at h
  cases h
theorem klt_asymm {a b : ByteArray} (h : klt a b = true) : klt b a = false := less_asymm _ _ h
def Asc (l : List PB) : Prop := l.Pairwise fun p q => klt p.1 q.1 = true
theorem pOkF_adj (l : List PB) : ∀ (f k : Nat), pOkF l f k = true → ∀ i, k ≤ i → i < k + f → i ≠ 0 → klt (pAtB l (i - 1)).1 (pAtB l i).1 = true
  | 0, k, _, i, h1, h2, _ => by omega
  | f + 1, k, h, i, h1, h2, h3 => by
    simp only [pOkF, Bool.and_eq_true] at h
    by_cases e : i = k
    · subst e
      have := h.1.2
      simp [h3] at this
      exact this
    · exact pOkF_adj l f (k + 1) h.2 i (by omega) (by omega) h3
theorem pAtB_lt {l : List PB} {i : Nat} (h : i < l.length) : pAtB l i = l[i] := by simp [pAtB, h]
theorem pOk_asc {l : List PB} (h : pOk l = true) : Asc l := by
  simp only [pOk, Bool.and_eq_true] at h
  have adj : ∀ i, i + 1 < l.length → klt (pAtB l i).1 (pAtB l (i + 1)).1 = true := fun i hi => pOkF_adj l _ 0 h.2 (i + 1) (by omega) (by omega) (by omega)
  have far : ∀ d i, i + d + 1 < l.length → klt (pAtB l i).1 (pAtB l (i + d + 1)).1 = true := by
    intro d
    induction d with
    | zero => exact adj
    | succ d ih => exact fun i hi => klt_trans (ih i (by omega)) (adj _ (by omega))
  refine List.pairwise_iff_getElem.2 fun i j hi hj hij => ?_
  have := far (j - i - 1) i (by omega)
  rw [show i + (j - i - 1) + 1 = j by omega, pAtB_lt hi, pAtB_lt hj] at this
  exact this
theorem Asc.at {l : List PB} (h : Asc l) {i j : Nat} (hij : i < j) (hj : j < l.length) : klt (pAtB l i).1 (pAtB l j).1 = true := by
  have := List.pairwise_iff_getElem.1 h i j (by omega) hj hij
  rw [pAtB_lt (by omega), pAtB_lt hj]
  exact this
/-- The value beside the first pair with the key. -/
def fnd (l : List PB) (k : ByteArray) : Option ByteArray := l.findSome? fun p => if p.1 = k then some p.2 else none
theorem fnd_append (l m : List PB) (k : ByteArray) : fnd (l ++ m) k = (fnd l k).or (fnd m k) := List.findSome?_append
theorem fnd_none {l : List PB} {k : ByteArray} (h : ∀ p ∈ l, p.1 ≠ k) : fnd l k = none := by
  rw [fnd, List.findSome?_eq_none_iff]
  intro p hp
  simp [h p hp]
theorem fnd_at : ∀ (l : List PB) (k : ByteArray) (i : Nat), i < l.length → (pAtB l i).1 = k → (∀ a, a < i → (pAtB l a).1 ≠ k) → fnd l k = some (pAtB l i).2
  | [], _, _, h, _, _ => by simp at h
  | p :: l, k, 0, _, hk, _ => by
    have : p.1 = k := hk
    simp [fnd, this, pAtB]
  | p :: l, k, i + 1, h, hk, hl => by
    have h0 : p.1 ≠ k := hl 0 (by omega)
    have := fnd_at l k i (by simpa using h) hk (fun a ha => hl (a + 1) (by omega))
    rw [fnd, List.findSome?_cons]
    simp only [h0, if_false]
    exact this
theorem allL_append (a b : List T) : allL (a ++ b) = allL a ++ allL b := by
  induction a with
  | nil => rfl
  | cons k a ih => simp only [List.cons_append, allL, ih, List.append_assoc]
theorem tAt_lt {ks : List T} {i : Nat} (h : i < ks.length) : tAt ks i = ks[i] := by simp [tAt, h]
theorem ks_split {ks : List T} {q : Nat} (h : q < ks.length) : ks = ks.take q ++ tAt ks q :: ks.drop (q + 1) := by
  rw [tAt_lt h, List.getElem_cons_drop h, List.take_append_drop]
theorem all_split {ks : List T} {q : Nat} (h : q < ks.length) : allL ks = allL (ks.take q) ++ ((tAt ks q).all ++ allL (ks.drop (q + 1))) := by
  have := congrArg allL (ks_split h)
  rwa [allL_append, allL] at this
theorem full_head (t : T) : ∀ r, t.full r = true → ∃ v rest, t.all = (t.least, v) :: rest := by
  induction t using T.ind
  rename_i ps ks ih
  intro r hf
  cases ks with
  | nil =>
    have := full_lf hf
    cases ps with
    | nil => simp at this
    | cons p ps => exact ⟨p.2, ps, by simp [T.all, allL, T.least]⟩
  | cons k ks =>
    obtain ⟨_, _, rfl, h3⟩ := full_br hf (by simp)
    obtain ⟨v, rest, e⟩ := ih k (by simp) false (h3 k (by simp))
    exact ⟨v, rest ++ allL ks, by simp [T.all, allL, T.least, e]⟩
def kidF (ks : List T) (k : ByteArray) : Nat → Nat → Nat
  | 0, p => p
  | f + 1, p => if p + 1 < ks.length ∧ klt k (tAt ks (p + 1)).least = false then kidF ks k f (p + 1) else p
/-- The place of the kid that a key leads to. -/
def kidOf (ks : List T) (k : ByteArray) : Nat := kidF ks k ks.length 0
theorem kidF_spec (ks : List T) (k : ByteArray) : ∀ f p, p < ks.length → ks.length ≤ p + 1 + f → (p = 0 ∨ klt k (tAt ks p).least = false) →
    kidF ks k f p < ks.length ∧ (kidF ks k f p = 0 ∨ klt k (tAt ks (kidF ks k f p)).least = false) ∧ (kidF ks k f p + 1 < ks.length → klt k (tAt ks (kidF ks k f p + 1)).least = true)
  | 0, p, h1, h2, h3 => ⟨h1, h3, fun h => by simp only [kidF] at h; omega⟩
  | f + 1, p, h1, h2, h3 => by
    rw [kidF]
    by_cases hc : p + 1 < ks.length ∧ klt k (tAt ks (p + 1)).least = false
    · rw [if_pos hc]
      exact kidF_spec ks k f (p + 1) hc.1 (by omega) (.inr hc.2)
    · rw [if_neg hc]
      refine ⟨h1, h3, fun h => ?_⟩
      cases hk : klt k (tAt ks (p + 1)).least with
      | true => rfl
      | false => exact absurd ⟨h, hk⟩ hc
theorem kidOf_spec {ks : List T} (k : ByteArray) (h : ks ≠ []) : kidOf ks k < ks.length ∧ (kidOf ks k = 0 ∨ klt k (tAt ks (kidOf ks k)).least = false) ∧ (kidOf ks k + 1 < ks.length → klt k (tAt ks (kidOf ks k + 1)).least = true) :=
  kidF_spec ks k ks.length 0 (List.length_pos_iff.2 h) (by omega) (.inl rfl)
theorem asc_head {p : PB} {l : List PB} (h : Asc (p :: l)) {x : PB} (hx : x ∈ p :: l) : x = p ∨ klt p.1 x.1 = true := by
  rcases List.mem_cons.1 hx with rfl | hx
  · exact .inl rfl
  · exact .inr ((List.pairwise_cons.1 h).1 x hx)
theorem tAt_mem {ks : List T} {q : Nat} (h : q < ks.length) : tAt ks q ∈ ks := by rw [tAt_lt h]; exact List.getElem_mem h
/-- What lies ahead of the kid is less than the key, what lies behind it greater. -/
theorem kid_apart {ks : List T} {k : ByteArray} (hf : ∀ x ∈ ks, x.full false = true) (ha : Asc (allL ks)) {q : Nat} (h1 : q < ks.length) (h2 : q = 0 ∨ klt k (tAt ks q).least = false) (h3 : q + 1 < ks.length → klt k (tAt ks (q + 1)).least = true) :
    (∀ x ∈ allL (ks.take q), klt x.1 k = true) ∧ (∀ x ∈ allL (ks.drop (q + 1)), klt k x.1 = true) ∧ Asc (tAt ks q).all := by
  rw [all_split h1] at ha
  obtain ⟨_, hb, hab⟩ := List.pairwise_append.1 ha
  obtain ⟨hc, hd, hcd⟩ := List.pairwise_append.1 hb
  refine ⟨fun x hx => ?_, fun x hx => ?_, hc⟩
  · rcases h2 with rfl | h2
    · simp [allL] at hx
    · obtain ⟨v, rest, e⟩ := full_head _ _ (hf _ (tAt_mem h1))
      have hlt := hab x hx ((tAt ks q).least, v) (by rw [e]; simp)
      exact less_nless _ _ _ hlt h2
  · by_cases hq : q + 1 < ks.length
    · have hs : ks.drop (q + 1) = tAt ks (q + 1) :: ks.drop (q + 1 + 1) := by rw [tAt_lt hq, List.getElem_cons_drop hq]
      rw [hs, allL] at hx hd
      obtain ⟨v, rest, e⟩ := full_head _ _ (hf _ (tAt_mem hq))
      rw [e] at hx hd
      rcases asc_head hd hx with rfl | h
      · exact h3 hq
      · exact klt_trans (h3 hq) h
    · rw [List.drop_eq_nil_of_le (by omega)] at hx
      simp [allL] at hx
theorem kid_fnd {ks : List T} {k : ByteArray} (hk : ks ≠ []) (hf : ∀ x ∈ ks, x.full false = true) (ha : Asc (allL ks)) : fnd (allL ks) k = fnd (tAt ks (kidOf ks k)).all k ∧ Asc (tAt ks (kidOf ks k)).all := by
  obtain ⟨h1, h2, h3⟩ := kidOf_spec k hk
  obtain ⟨a1, a2, a3⟩ := kid_apart hf ha h1 h2 h3
  refine ⟨?_, a3⟩
  rw [all_split h1, fnd_append, fnd_append, fnd_none (l := allL (ks.take _)) (fun p hp => klt_ne (a1 p hp)), fnd_none (l := allL (ks.drop _)) (fun p hp => (klt_ne (a2 p hp)).symm)]
  simp
/-- How many keys are less. -/
def pos : List PB → ByteArray → Nat
  | [], _ => 0
  | p :: l, k => if klt p.1 k = true then pos l k + 1 else 0
theorem pos_le : ∀ (l : List PB) (k : ByteArray), pos l k ≤ l.length
  | [], _ => Nat.le_refl _
  | p :: l, k => by
    rw [pos]
    split
    · have := pos_le l k; simp; omega
    · exact Nat.zero_le _
theorem pos_uniq : ∀ (l : List PB) (k : ByteArray) (i : Nat), i ≤ l.length → (∀ a, a < i → klt (pAtB l a).1 k = true) → (i < l.length → klt (pAtB l i).1 k = false) → i = pos l k
  | [], _, i, h, _, _ => by simp at h; subst h; rfl
  | p :: l, k, 0, _, _, h => by
    have : klt p.1 k = false := h (by simp)
    rw [pos, this]
    rfl
  | p :: l, k, i + 1, h, hl, hr => by
    have h0 : klt p.1 k = true := hl 0 (by omega)
    have := pos_uniq l k i (by simpa using h) (fun a ha => hl (a + 1) (by omega)) (fun hi => hr (by simpa using hi))
    rw [pos, h0, if_pos rfl, ← this]
theorem pos_spec : ∀ (l : List PB) (k : ByteArray), (∀ a, a < pos l k → klt (pAtB l a).1 k = true) ∧ (pos l k < l.length → klt (pAtB l (pos l k)).1 k = false)
  | [], k => ⟨fun a h => absurd h (Nat.not_lt_zero _), fun h => absurd h (Nat.not_lt_zero _)⟩
  | p :: l, k => by
    rw [pos]
    cases hk : klt p.1 k with
    | false => exact ⟨fun a h => by simp at h, fun _ => hk⟩
    | true =>
      obtain ⟨h1, h2⟩ := pos_spec l k
      simp only [if_true]
      refine ⟨fun a h => ?_, fun h => h2 (by simpa using h)⟩
      cases a with
      | zero => exact hk
      | succ a => exact h1 a (by omega)
theorem pos_fnd {l : List PB} (k : ByteArray) (ha : Asc l) : fnd l k = if pos l k < l.length ∧ (pAtB l (pos l k)).1 = k then some (pAtB l (pos l k)).2 else none := by
  obtain ⟨h1, h2⟩ := pos_spec l k
  split
  · rename_i h
    exact fnd_at l k _ h.1 h.2 (fun a hl => klt_ne (h1 a hl))
  · rename_i h
    refine fnd_none fun p hp e => ?_
    obtain ⟨i, hi, rfl⟩ := List.mem_iff_getElem.1 hp
    rw [← pAtB_lt hi] at e
    rcases Nat.lt_trichotomy i (pos l k) with hlt | heq | hgt
    · exact klt_ne (h1 i hlt) e
    · exact h ⟨by omega, by rw [← heq]; exact e⟩
    · have h3 := ha.at hgt hi
      rw [e] at h3
      rw [h2 (by omega)] at h3
      cases h3
end Go.Proofs.Ytjbamfgfgbmieaa
/-
  Data in order, in plain; DataOk of the specification.
-/
namespace Go.Proofs.Ytjbamfgfgbmieaa
open Go.RowKit
def daF (l : List PB) : Nat → Nat → Bool
  | 0, _ => true
  | f + 1, k => uOk (pAtB l k).1 && uvOk (pAtB l k).2 && (decide (k = 0) || Op.bytesLess (pAtB l (k - 1)).1.toList (pAtB l k).1.toList) && daF l f (k + 1)
/-- Right data. -/
def daOk (l : List PB) : Bool := daF l l.length 0
theorem daF_k (l : List PB) (f k : Nat) (h : uOk (pAtB l k).1 = false) : daF l (f + 1) k = false := by simp [daF, h]
theorem daF_v (l : List PB) (f k : Nat) (h : uvOk (pAtB l k).2 = false) : daF l (f + 1) k = false := by simp [daF, h]
theorem daF_0 (l : List PB) (f : Nat) (h : uOk (pAtB l 0).1 = true) (h2 : uvOk (pAtB l 0).2 = true) : daF l (f + 1) 0 = daF l f 1 := by simp [daF, h, h2]
theorem daF_s (l : List PB) (f j : Nat) (h : uOk (pAtB l (j + 1)).1 = true) (h2 : uvOk (pAtB l (j + 1)).2 = true) (b : Bool) (h3 : Op.bytesLess (pAtB l j).1.toList (pAtB l (j + 1)).1.toList = b) : daF l (f + 1) (j + 1) = (b && daF l f (j + 1 + 1)) := by
  simp only [daF, h, h2, Nat.add_sub_cancel, h3]; simp
theorem daF_iff (l : List PB) : ∀ (f k : Nat), daF l f k = true ↔ ∀ i, k ≤ i → i < k + f → (uOk (pAtB l i).1 = true ∧ uvOk (pAtB l i).2 = true) ∧ (i ≠ 0 → klt (pAtB l (i - 1)).1 (pAtB l i).1 = true)
  | 0, k => by simp only [daF, true_iff]; intro i h1 h2; omega
  | f + 1, k => by
    simp only [daF, Bool.and_eq_true]
    rw [daF_iff l f (k + 1)]
    constructor
    · rintro ⟨⟨⟨h1, h2⟩, h3⟩, h4⟩ i hi hk
      by_cases e : i = k
      · subst e
        refine ⟨⟨h1, h2⟩, fun h0 => ?_⟩
        simp [h0] at h3
        exact h3
      · exact h4 i (by omega) (by omega)
    · intro h
      refine ⟨⟨(h k (Nat.le_refl _) (by omega)).1, ?_⟩, fun i h1 h2 => h i (by omega) (by omega)⟩
      by_cases h0 : k = 0
      · simp [h0]
      · have := (h k (Nat.le_refl _) (by omega)).2 h0
        simp [h0]
        exact this
theorem daOk_iff (l : List PB) : daOk l = true ↔ ∀ i, i < l.length → (uOk (pAtB l i).1 = true ∧ uvOk (pAtB l i).2 = true) ∧ (i ≠ 0 → klt (pAtB l (i - 1)).1 (pAtB l i).1 = true) := by
  unfold daOk
  rw [daF_iff]
  constructor
  · exact fun h i hi => h i (Nat.zero_le _) (by omega)
  · exact fun h i _ hi => h i (by omega)
theorem daOk_no {l : List PB} {i : Nat} (hi : i < l.length) (h : ¬ ((uOk (pAtB l i).1 = true ∧ uvOk (pAtB l i).2 = true) ∧ (i ≠ 0 → klt (pAtB l (i - 1)).1 (pAtB l i).1 = true))) : daOk l = false := by
  cases hd : daOk l with
  | false => rfl
  | true => exact absurd ((daOk_iff l).1 hd i hi) h
theorem daOk_asc {l : List PB} (h : daOk l = true) : Asc l := by
  rw [daOk_iff] at h
  have adj : ∀ i, i + 1 < l.length → klt (pAtB l i).1 (pAtB l (i + 1)).1 = true := fun i hi => (h (i + 1) hi).2 (by omega)
  have far : ∀ d i, i + d + 1 < l.length → klt (pAtB l i).1 (pAtB l (i + d + 1)).1 = true := by
    intro d
    induction d with
    | zero => exact adj
    | succ d ih => exact fun i hi => klt_trans (ih i (by omega)) (adj _ (by omega))
  refine List.pairwise_iff_getElem.2 fun i j hi hj hij => ?_
  have := far (j - i - 1) i (by omega)
  rw [show i + (j - i - 1) + 1 = j by omega, pAtB_lt hi, pAtB_lt hj] at this
  exact this
/-- Whether the keys rise. -/
def riB (l : List PB) : Bool := decide (∀ i, i < l.length → i ≠ 0 → klt (pAtB l (i - 1)).1 (pAtB l i).1 = true)
theorem daOk_riB {l : List PB} (h : ∀ i, i < l.length → uOk (pAtB l i).1 = true ∧ uvOk (pAtB l i).2 = true) : riB l = daOk l := by
  unfold riB
  by_cases hr : ∀ i, i < l.length → i ≠ 0 → klt (pAtB l (i - 1)).1 (pAtB l i).1 = true
  · rw [decide_eq_true hr]
    exact ((daOk_iff l).2 fun i hi => ⟨h i hi, hr i hi⟩).symm
  · rw [decide_eq_false hr]
    cases hd : daOk l with
    | false => rfl
    | true => exact absurd (fun i hi => ((daOk_iff l).1 hd i hi).2) hr
theorem Pr.below' {w w' : World} {S : Nat → Prop} {v : Value} {ps : List PB} (h : Pr w S v ps) (hb : Below w.heap.size w w') : Pr w' S v ps := Rw.to h (only_of_below hb (fun _ => False)) (fun _ _ _ h => h)
theorem specUserOk_is (k : ByteArray) (b : Bool) (h : uOk k = b) (w : World) : Calls Try.prog 70 #[.string k] w fun e w' => e = .returned (.bool b) ∧ w' = w := by
  subst h
  exact (specUserOk_any k w).mono fun _ _ ⟨h1, h2⟩ => ⟨h1, h2.symm⟩
theorem specUvalOk_is (k : ByteArray) (b : Bool) (h : uvOk k = b) (w : World) : Calls Try.prog 71 #[.string k] w fun e w' => e = .returned (.bool b) ∧ w' = w := by
  subst h
  exact (specUvalOk_any k w).mono fun _ _ ⟨h1, h2⟩ => ⟨h1, h2.symm⟩
theorem implUserOk_is (k : ByteArray) (b : Bool) (h : uOk k = b) (w : World) : Calls Try.prog 41 #[.string k] w fun e w' => e = .returned (.bool b) ∧ w = w' := by
  subst h
  exact implUserOk_any k w
theorem implUvalOk_is (k : ByteArray) (b : Bool) (h : uvOk k = b) (w : World) : Calls Try.prog 42 #[.string k] w fun e w' => e = .returned (.bool b) ∧ w = w' := by
  subst h
  exact implUvalOk_any k w
set_option maxHeartbeats 4000000 in
theorem specDataOk_at (S : Nat → Prop) (a : Option Addr) (n c : Nat) (l : List PB) (w : World) (h : Pr w S (.slice a n c) l) (hnm : n ≤ 1048576) :
    Calls Try.prog 37 #[.slice a n c] w fun e w' => e = .returned (.bool (daOk l)) ∧ Below w.heap.size w w' := by
  obtain ⟨hn, hnc, hc⟩ := Rw.len h
  have H0 := hid h
  clear h
  have HN := hid hn
  clear hn
  have HR : Hid (daOk l = daF l n 0) := by show daOk l = daF l n 0; have := HN.out; rw [this]; rfl
  go_enter Try.func37, Try.ntmps37
  go_wp2_with fail
  go_loopw [3, 4, 7] (fun x y i wr => ∃ k : Nat, k ≤ n ∧ i = .int .i64 k ∧ Hid (Below w.heap.size w wr) ∧ Hid (daF l (n - k) k = daF l n 0)) (fun _ _ i _ => n - (intOf i).toNat)
  case atStart => exact ⟨0, Nat.zero_le _, rfl, Below.refl _ _, rfl⟩
  case round =>
    obtain ⟨k, hk, rfl, HB, HS⟩ := hrel
    by_cases hlt : k < n
    · have hlt' : (k : Int) < (n : Int) := by omega
      have HP := hid (H0.out.below HB.out)
      obtain ⟨b, off, rfl, _, hbw, hcell⟩ := HP.out.at (by omega)
      have hck := (hcell k hlt).1
      have hck1 := (hcell k hlt).2
      have e1 : n - k = (n - (k + 1)) + 1 := by omega
      have HE1 := hid e1
      clear e1
      rw [HE1.out] at HS
      cases k with
      | zero =>
        clear hcell
        simp only [Nat.zero_mul, Nat.add_zero] at hck hck1
        generalize hcur : pAtB l 0 = cur at hck hck1
        obtain ⟨ck, cv⟩ := cur
        have HC := hid hcur
        clear hcur
        cases h1 : uOk ck
        · have HZ : Hid (daF l n 0 = false) := by show daF l n 0 = false; rw [← HS.out]; exact daF_k l _ _ (by rw [HC.out]; exact h1)
          have C1 := specUserOk_is ck _ h1
          clear h1
          go_wp2_with fail
          go_quiet (first | (go_at_call 70; exact Calls.quiet_of_same (C1 _)) | fail)
          go_wp2
          go_ret
          exact ⟨by rw [HR.out, HZ.out]; rfl, Below.then' HB.out (Below.drewN' (below_new (Below.refl _ _)) _) (Nat.le_refl _)⟩
        · cases h2 : uvOk cv
          · have HZ : Hid (daF l n 0 = false) := by show daF l n 0 = false; rw [← HS.out]; exact daF_v l _ _ (by rw [HC.out]; exact h2)
            have C1 := specUserOk_is ck _ h1
            have C2 := specUvalOk_is cv _ h2
            clear h1 h2
            go_wp2_with fail
            go_quiet (first | (go_at_call 70; exact Calls.quiet_of_same (C1 _)) | (go_at_call 71; exact Calls.quiet_of_same (C2 _)) | fail)
            go_wp2
            go_ret
            exact ⟨by rw [HR.out, HZ.out]; rfl, Below.then' HB.out (Below.drewN' (below_new (Below.refl _ _)) _) (Nat.le_refl _)⟩
          · have HZ : Hid (daF l (n - 1) 1 = daF l n 0) := by
              show daF l (n - 1) 1 = daF l n 0
              rw [← HS.out]; exact (daF_0 l _ (by rw [HC.out]; exact h1) (by rw [HC.out]; exact h2)).symm
            have C1 := specUserOk_is ck _ h1
            have C2 := specUvalOk_is cv _ h2
            clear h1 h2
            go_wp2_with fail
            go_quiet (first | (go_at_call 70; exact Calls.quiet_of_same (C1 _)) | (go_at_call 71; exact Calls.quiet_of_same (C2 _)) | fail)
            go_wp2
            go_roundw
            case rel => exact ⟨1, by omega, by go_num, Below.then' HB.out (Below.drewN' (below_new (Below.refl _ _)) _) (Nat.le_refl _), HZ⟩
            case measure => simp [intOf]; omega
      | succ j =>
        have hcj := (hcell j (by omega)).1
        have hj1 : (0 : Int) < (j : Int) + 1 := by omega
        clear hcell
        generalize hcur : pAtB l (j + 1) = cur at hck hck1
        obtain ⟨ck, cv⟩ := cur
        generalize hprev : (pAtB l j).1 = prev at hcj
        have HC := hid hcur
        have HQ := hid hprev
        clear hcur hprev
        cases h1 : uOk ck
        · have HZ : Hid (daF l n 0 = false) := by show daF l n 0 = false; rw [← HS.out]; exact daF_k l _ _ (by rw [HC.out]; exact h1)
          have C1 := specUserOk_is ck _ h1
          clear h1
          go_wp2_with fail
          go_quiet (first | (go_at_call 70; exact Calls.quiet_of_same (C1 _)) | fail)
          go_wp2
          go_ret
          exact ⟨by rw [HR.out, HZ.out]; rfl, Below.then' HB.out (Below.drewN' (below_new (Below.refl _ _)) _) (Nat.le_refl _)⟩
        · cases h2 : uvOk cv
          · have HZ : Hid (daF l n 0 = false) := by show daF l n 0 = false; rw [← HS.out]; exact daF_v l _ _ (by rw [HC.out]; exact h2)
            have C1 := specUserOk_is ck _ h1
            have C2 := specUvalOk_is cv _ h2
            clear h1 h2
            go_wp2_with fail
            go_quiet (first | (go_at_call 70; exact Calls.quiet_of_same (C1 _)) | (go_at_call 71; exact Calls.quiet_of_same (C2 _)) | fail)
            go_wp2
            go_ret
            exact ⟨by rw [HR.out, HZ.out]; rfl, Below.then' HB.out (Below.drewN' (below_new (Below.refl _ _)) _) (Nat.le_refl _)⟩
          · have HG : Hid (∀ b, Op.bytesLess prev.toList ck.toList = b → (b && daF l (n - (j + 1 + 1)) (j + 1 + 1)) = daF l n 0) := by
              intro b hb
              rw [← HS.out]
              exact (daF_s l _ j (by rw [HC.out]; exact h1) (by rw [HC.out]; exact h2) b (by rw [HQ.out, HC.out]; exact hb)).symm
            have C1 := specUserOk_is ck _ h1
            have C2 := specUvalOk_is cv _ h2
            clear h1 h2
            rcases tri prev ck with ⟨t1, t2, t3, t4⟩ | rfl | ⟨t1, t2, t3, t4⟩
            · have HZ : Hid (daF l (n - (j + 1 + 1)) (j + 1 + 1) = daF l n 0) := by show daF l (n - (j + 1 + 1)) (j + 1 + 1) = daF l n 0; have := HG.out _ t1; simpa using this
              go_wp2_with fail
              go_quiet (first | (go_at_call 70; exact Calls.quiet_of_same (C1 _)) | (go_at_call 71; exact Calls.quiet_of_same (C2 _)) | fail)
              go_wp2
              go_roundw
              case rel => exact ⟨j + 1 + 1, by omega, by go_num, Below.then' HB.out (Below.drewN' (below_new (Below.refl _ _)) _) (Nat.le_refl _), HZ⟩
              case measure => simp [intOf]; omega
            · have t1 := less_irrefl prev.toList
              have HZ : Hid (daF l n 0 = false) := by show daF l n 0 = false; have := HG.out _ t1; simpa using this.symm
              go_wp2_with fail
              go_quiet (first | (go_at_call 70; exact Calls.quiet_of_same (C1 _)) | (go_at_call 71; exact Calls.quiet_of_same (C2 _)) | fail)
              go_wp2
              go_ret
              exact ⟨by rw [HR.out, HZ.out]; rfl, Below.then' HB.out (Below.drewN' (below_new (Below.refl _ _)) _) (Nat.le_refl _)⟩
            · have HZ : Hid (daF l n 0 = false) := by show daF l n 0 = false; have := HG.out _ t1; simpa using this.symm
              go_wp2_with fail
              go_quiet (first | (go_at_call 70; exact Calls.quiet_of_same (C1 _)) | (go_at_call 71; exact Calls.quiet_of_same (C2 _)) | fail)
              go_wp2
              go_ret
              exact ⟨by rw [HR.out, HZ.out]; rfl, Below.then' HB.out (Below.drewN' (below_new (Below.refl _ _)) _) (Nat.le_refl _)⟩
    · have hk' : k = n := by omega
      have HZ : Hid (daF l n 0 = true) := by show daF l n 0 = true; rw [← HS.out, hk', Nat.sub_self]; rfl
      clear hk'
      go_wp2
      go_ret
      exact ⟨by rw [HR.out, HZ.out]; rfl, HB.out⟩
theorem specDataOk_any (S : Nat → Prop) (v : Value) (l : List PB) (w : World) (h : Pr w S v l) (hnm : l.length ≤ 1048576) :
    Calls Try.prog 37 #[v] w fun e w' => e = .returned (.bool (daOk l)) ∧ Below w.heap.size w w' := by
  obtain ⟨a, c, rfl, _⟩ := h.shape
  exact specDataOk_at S a _ c l w h hnm
end Go.Proofs.Ytjbamfgfgbmieaa
/-
  Rows of replies: they are the same as themselves.
-/
namespace Go.Proofs.Ytjbamfgfgbmieaa
open Go.RowKit
set_option linter.unusedVariables false
theorem range_below {w w' : World} {b o : Nat} {cs : List Value} (h : w.rangeAt b o cs) (hb : Below w.heap.size w w') : w'.rangeAt b o cs := fun j v hv => by
  have := h j v hv
  exact (hb.cell (p := ⟨b, o + j, none⟩) (block_lt this)).trans this
theorem ex_load_mid {P : Program} {ρ : Operand → Value} {o : Oper} {w : World} (ty : TypeId) (x : Operand) (ho : o.op = .load ty x) (b k : Nat) (hx : ρ x = .pointer (some ⟨b, k, none⟩)) (cs : List Value) (d : TypeDesc) (hc : w.rangeAt b k cs)
    (hu : P.underlying ty = some d) (hd : d.isRow = true) (hi : (P.info? ty).map (·.size) = some cs.length) : (execOp ρ o).run P w = .ok (.value (.agg cs.toArray)) w := by
  unfold execOp
  simp only [ho, hx, Instr.loadAt, Instr.sureAddr, Sem.run_bind, Sem.run_pure, Result.andThen_ok, run_loadVar_mid w b k ty cs d hc hu hd hi]
set_option maxHeartbeats 4000000 in
set_option maxRecDepth 20000 in
theorem eqReplyS_same (S S' : Nat → Prop) (a a' : Option Addr) (n n' c c' : Nat) (rs : List RY) (w : World) (h : Yr w S (.slice a n c) rs) (h' : Yr w S' (.slice a' n' c') rs) :
    Calls Try.prog 19 #[.slice a n c, .slice a' n' c'] w fun e w' => e = .returned (.bool true) ∧ Below w.heap.size w w' := by
  obtain ⟨hn, hnc, hcc⟩ := h.len
  obtain ⟨hn', hnc', hcc'⟩ := h'.len
  obtain rfl : n = n' := by omega
  have H0 := hid h
  have H0' := hid h'
  clear h h' hn hn'
  have hz : ((n : Int) != (n : Int)) = false := by simp
  go_enter Try.func19, Try.ntmps19
  go_wp2
  go_loopw [5] (fun i wr => ∃ k : Nat, k ≤ n ∧ i = .int .i64 k ∧ Hid (Below w.heap.size w wr)) (fun i _ => n - (intOf i).toNat)
  case atStart => exact ⟨0, Nat.zero_le _, rfl, Below.refl _ _⟩
  case round =>
    obtain ⟨k, hk, rfl, HB⟩ := hrel
    by_cases hlt : k < n
    · have hlt' : (k : Int) < (n : Int) := by omega
      have hk0 : (0 : Int) ≤ (k : Int) := by omega
      obtain ⟨b, off, rfl, _, _, hcell⟩ := (H0.out.below HB.out).at (by omega)
      obtain ⟨pa, pn, pc, hr, hpp⟩ := hcell k hlt
      obtain ⟨b', off', rfl, _, _, hcell'⟩ := (H0'.out.below HB.out).at (by omega)
      obtain ⟨pa', pn', pc', hr', hpp'⟩ := hcell' k hlt
      generalize ryAt rs k = ry at *
      have HR := hid hr
      have HR' := hid hr'
      have HPS := hid hpp
      have HPS' := hid hpp'
      clear hcell hcell' hr hr' hpp hpp'
      go_wp2_with fail
      refine wp_region_noPanic ?_
      refine wp_region_held_drew (S := fun v => v.rangeAt b (off + k * 13) (ry.cs (.slice pa pn pc)) ∧ v.rangeAt b' (off' + k * 13) (ry.cs (.slice pa' pn' pc')) ∧ Below wr.heap.size wr v) (by kernel_rfl) (⟨range_below HR.out (below_drew _), range_below HR'.out (below_drew _), below_drew _⟩) (fun hHeld => ?_)
      simp only [List.size_toArray, List.length_cons, List.length_nil, Array.replicate_succ, Array.replicate_zero, Nat.reduceAdd, List.push_toArray, List.nil_append, List.cons_append]
      refine wpAnyH_take (i := 0) (v := (.slice (some ⟨b, off, none⟩) n c)) rfl (by kernel_rfl) (by kernel_rfl) (by kernel_rfl) (fun _ _ _ h => h) (Or.inl ⟨by rfl, ?_⟩) (by assumption) ?_
      · intro w hSw
        (try dsimp only at hSw)
        go_simp
      try simp only [List.getElem_toArray]
      try simp only [List.getElem_cons_succ]
      try simp only [List.getElem_cons_zero]
      try simp only [Act.put]
      try simp only [List.setIfInBounds_toArray]
      try simp only [List.set_cons_succ]
      try simp only [List.set_cons_zero]
      refine wpAnyH_take (i := 1) (v := (.int .i64 k)) rfl (by kernel_rfl) (by kernel_rfl) (by kernel_rfl) (fun _ _ _ h => h) (Or.inl ⟨by rfl, ?_⟩) (by assumption) ?_
      · intro w hSw
        (try dsimp only at hSw)
        go_simp
      try simp only [List.getElem_toArray]
      try simp only [List.getElem_cons_succ]
      try simp only [List.getElem_cons_zero]
      try simp only [Act.put]
      try simp only [List.setIfInBounds_toArray]
      try simp only [List.set_cons_succ]
      try simp only [List.set_cons_zero]
      refine wpAnyH_take (i := 2) (v := (.pointer (some ⟨b, off + k * 13, none⟩))) rfl (by kernel_rfl) (by kernel_rfl) (by kernel_rfl) (fun _ _ _ h => h) (Or.inl ⟨by rfl, ?_⟩) (by assumption) ?_
      · intro w hSw
        (try dsimp only at hSw)
        go_simp
      try simp only [List.getElem_toArray]
      try simp only [List.getElem_cons_succ]
      try simp only [List.getElem_cons_zero]
      try simp only [Act.put]
      try simp only [List.setIfInBounds_toArray]
      try simp only [List.set_cons_succ]
      try simp only [List.set_cons_zero]
      refine wpAnyH_take (i := 3) (v := (.agg #[.int .i64 ry.k, .int .i64 ry.c, .int .i64 ry.e, .int .i64 ry.n, .int .i64 ry.ak, .string ry.ky, .string ry.vl, .string ry.lo, .string ry.hi, .int .i64 ry.mo, .bool ry.bk, .int .i64 ry.co, .slice pa pn pc])) rfl (by kernel_rfl) (by kernel_rfl) (by kernel_rfl) (fun _ _ _ h => h) (Or.inl ⟨by rfl, ?_⟩) (by assumption) ?_
      · intro w hSw
        exact ex_load_mid 87 _ rfl b (off + k * 13) rfl _ _ hSw.1 Try.underlying87 rfl (by kernel_rfl)
      try simp only [List.getElem_toArray]
      try simp only [List.getElem_cons_succ]
      try simp only [List.getElem_cons_zero]
      try simp only [Act.put]
      try simp only [List.setIfInBounds_toArray]
      try simp only [List.set_cons_succ]
      try simp only [List.set_cons_zero]
      refine wpAnyH_take (i := 4) (v := (.slice (some ⟨b', off', none⟩) n c')) rfl (by kernel_rfl) (by kernel_rfl) (by kernel_rfl) (fun _ _ _ h => h) (Or.inl ⟨by rfl, ?_⟩) (by assumption) ?_
      · intro w hSw
        (try dsimp only at hSw)
        go_simp
      try simp only [List.getElem_toArray]
      try simp only [List.getElem_cons_succ]
      try simp only [List.getElem_cons_zero]
      try simp only [Act.put]
      try simp only [List.setIfInBounds_toArray]
      try simp only [List.set_cons_succ]
      try simp only [List.set_cons_zero]
      refine wpAnyH_take (i := 5) (v := (.int .i64 k)) rfl (by kernel_rfl) (by kernel_rfl) (by kernel_rfl) (fun _ _ _ h => h) (Or.inl ⟨by rfl, ?_⟩) (by assumption) ?_
      · intro w hSw
        (try dsimp only at hSw)
        go_simp
      try simp only [List.getElem_toArray]
      try simp only [List.getElem_cons_succ]
      try simp only [List.getElem_cons_zero]
      try simp only [Act.put]
      try simp only [List.setIfInBounds_toArray]
      try simp only [List.set_cons_succ]
      try simp only [List.set_cons_zero]
      refine wpAnyH_take (i := 6) (v := (.pointer (some ⟨b', off' + k * 13, none⟩))) rfl (by kernel_rfl) (by kernel_rfl) (by kernel_rfl) (fun _ _ _ h => h) (Or.inl ⟨by rfl, ?_⟩) (by assumption) ?_
      · intro w hSw
        (try dsimp only at hSw)
        go_simp
      try simp only [List.getElem_toArray]
      try simp only [List.getElem_cons_succ]
      try simp only [List.getElem_cons_zero]
      try simp only [Act.put]
      try simp only [List.setIfInBounds_toArray]
      try simp only [List.set_cons_succ]
      try simp only [List.set_cons_zero]
      refine wpAnyH_take (i := 7) (v := (.agg #[.int .i64 ry.k, .int .i64 ry.c, .int .i64 ry.e, .int .i64 ry.n, .int .i64 ry.ak, .string ry.ky, .string ry.vl, .string ry.lo, .string ry.hi, .int .i64 ry.mo, .bool ry.bk, .int .i64 ry.co, .slice pa' pn' pc'])) rfl (by kernel_rfl) (by kernel_rfl) (by kernel_rfl) (fun _ _ _ h => h) (Or.inl ⟨by rfl, ?_⟩) (by assumption) ?_
      · intro w hSw
        exact ex_load_mid 87 _ rfl b' (off' + k * 13) rfl _ _ hSw.2.1 Try.underlying87 rfl (by kernel_rfl)
      try simp only [List.getElem_toArray]
      try simp only [List.getElem_cons_succ]
      try simp only [List.getElem_cons_zero]
      try simp only [Act.put]
      try simp only [List.setIfInBounds_toArray]
      try simp only [List.set_cons_succ]
      try simp only [List.set_cons_zero]
      refine wpAnyH_ready (rs := [8]) (by kernel_rfl) (by simp) ?_
      refine AllReadyH.cons rfl (fun K1 hK => ?_) AllReadyH.nil
      go_simp
      refine (eqReply_same S S' ry.ps ry.k ry.c ry.e ry.n ry.ak ry.ky ry.vl ry.lo ry.hi ry.mo ry.bk ry.co pa pn pc pa' pn' pc' _ (HPS.out.below' hHeld.2.2) (HPS'.out.below' hHeld.2.2)).mono ?_
      rintro r w1 ⟨rfl, hbC⟩
      have hH := (⟨range_below hHeld.1 hbC, range_below hHeld.2.1 hbC, hHeld.2.2.trans (hbC.mono hHeld.2.2.size)⟩ : _ ∧ _ ∧ _)
      go_wp2_with fail
      refine hK.out _ _ ?_ (fun hHeld => ?_)
      · exact hH
      clear hK K1
      try simp only [List.getElem_toArray]
      try simp only [List.getElem_cons_succ]
      try simp only [List.getElem_cons_zero]
      try simp only [Act.put]
      try simp only [List.setIfInBounds_toArray]
      try simp only [List.set_cons_succ]
      try simp only [List.set_cons_zero]
      refine wpAnyH_take (i := 9) (v := (.bool false)) rfl (by kernel_rfl) (by kernel_rfl) (by kernel_rfl) (fun _ _ _ h => h) (Or.inl ⟨by rfl, ?_⟩) (by assumption) ?_
      · intro w hSw
        (try dsimp only at hSw)
        go_simp
      try simp only [List.getElem_toArray]
      try simp only [List.getElem_cons_succ]
      try simp only [List.getElem_cons_zero]
      try simp only [Act.put]
      try simp only [List.setIfInBounds_toArray]
      try simp only [List.set_cons_succ]
      try simp only [List.set_cons_zero]
      refine wpAnyH_done (by kernel_rfl) ?_ _
      refine NoPanic.normal ?_
      have HB1 := hid (HB.out.trans (hHeld.2.2.mono HB.out.size))
      clear hH hHeld
      go_wp2
      go_roundw
      case rel => exact ⟨k + 1, by omega, by go_num, HB1.out⟩
      case measure => simp [intOf]; omega
    · go_wp2
      go_ret
      exact ⟨rfl, HB.out⟩
end Go.Proofs.Ytjbamfgfgbmieaa
/-
  Outcomes and asks of a log, in plain.
-/
namespace Go.Proofs.Ytjbamfgfgbmieaa
open Go.RowKit
set_option linter.unusedVariables false
def RY.tx (r : RY) : TX := (r.c, r.e, r.n)
/-- An ask that x was told of. -/
def dnR (t : TX) (r : RY) : Bool := decide (r.k = 2) && (decide (r.tx = t) && decide (r.co = 0))
def akN (t : TX) (rs : List RY) : Int := ((rs.filter (dnR t)).length : Nat)
def unR (r : RY) : Bool := (decide (r.k = 4) && decide (r.co = 0)) || ((decide (r.k = 2) || decide (r.k = 3)) && decide (1 < r.co))
def ocF (t : TX) : List RY → Int → Int
  | [], x => x
  | r :: rs, x => if r.tx = t then (if r.k = 3 ∧ r.co = 0 then 1 else if unR r = true then ocF t rs 2 else ocF t rs x) else ocF t rs x
def ocV (t : TX) (rs : List RY) : Int := ocF t rs 0
theorem ry_drop {rs : List RY} {k : Nat} (h : k < rs.length) : rs.drop k = ryAt rs k :: rs.drop (k + 1) := by
  rw [List.drop_eq_getElem_cons h]
  simp [ryAt, h]
theorem ocF_step {t : TX} {rs : List RY} {k : Nat} (h : k < rs.length) (x : Int) : ocF t (rs.drop k) x = if (ryAt rs k).tx = t then (if (ryAt rs k).k = 3 ∧ (ryAt rs k).co = 0 then 1 else if unR (ryAt rs k) = true then ocF t (rs.drop (k + 1)) 2 else ocF t (rs.drop (k + 1)) x) else ocF t (rs.drop (k + 1)) x := by
  rw [ry_drop h, ocF]
theorem akN_step {t : TX} {rs : List RY} {k : Nat} (h : k < rs.length) : ((rs.take (k + 1)).filter (dnR t)).length = ((rs.take k).filter (dnR t)).length + (if dnR t (ryAt rs k) = true then 1 else 0) := by
  have e : rs.take (k + 1) = rs.take k ++ [ryAt rs k] := by rw [List.take_succ_eq_append_getElem h]; simp [ryAt, h]
  rw [e, List.filter_append, List.length_append]
  by_cases hd : dnR t (ryAt rs k) = true <;> simp [hd]
theorem akN_le (t : TX) (rs : List RY) (k : Nat) : ((rs.take k).filter (dnR t)).length ≤ k := Nat.le_trans (List.length_filter_le _ _) (by rw [List.length_take]; omega)
theorem wpList_store_new {P : Program} {w : World} {ops : Array Oper} {rest : List Oper} {o : Oper} {a : Act} {Q : Exit → Act → World → Prop} (hgd : o.guard = none) (ty : TypeId) (x y : Operand) (ho : o.op = .store ty x y) (T : TypeId) (old cells : Array Value)
    (hx : a.eval x = .pointer (some ⟨w.heap.size, 0, none⟩)) (hy : a.eval y = .agg cells) (hi : (P.info? ty).map (·.size) = some cells.size) (hold : old.size = cells.size) (h1 : cells.all (·.oneCell') = true)
    (h : wpList P ops Q rest (a.put o.dst undef) (w.alloc (.cells cells T))) : wpList P ops Q (o :: rest) a (w.alloc (.cells old T)) := by
  refine wpList_store_row hgd ty x y ho w.heap.size cells hx hy T old (heap_alloc_new w _) hi hold h1 ?_
  rw [World.setRow_alloc_new]
  exact h
theorem range_below' {w w' : World} {b o : Nat} {cs : List Value} (h : w.rangeAt b o cs) (hb : Below w.heap.size w w') : w'.rangeAt b o cs := range_below h hb
end Go.Proofs.Ytjbamfgfgbmieaa
/-
  A scan: the pairs of a list in a range, from the first on or from the last on, as many as there is room for. Nothing here speaks of the program.
-/
namespace Go.Proofs.Ytjbamfgfgbmieaa
open Go.RowKit
def dirL (back : Bool) (l : List PB) : List PB := if back = true then l.reverse else l
/-- What a scan tells. -/
def scV (l : List PB) (lo hi : ByteArray) (most : Int) (back : Bool) : List PB := ((dirL back l).filter fun p => rHas lo hi p.1).take most.toNat
def scJ (l : List PB) (lo hi : ByteArray) (most : Int) (back : Bool) (j : Nat) : List PB := (((dirL back l).take j).filter fun p => rHas lo hi p.1).take most.toNat
theorem dirL_length (back : Bool) (l : List PB) : (dirL back l).length = l.length := by cases back <;> simp [dirL]
theorem dirL_at (l : List PB) (j : Nat) (h : j < l.length) : pAtB (dirL true l) j = pAtB l (l.length - 1 - j) := by
  rw [pAtB_lt (by rw [dirL_length]; exact h), pAtB_lt (by omega)]
  simp [dirL]
theorem scJ_end (l : List PB) (lo hi : ByteArray) (most : Int) (back : Bool) : scJ l lo hi most back l.length = scV l lo hi most back := by
  have e : (dirL back l).take l.length = dirL back l := List.take_of_length_le (by rw [dirL_length]; exact Nat.le_refl _)
  rw [scJ, e]
  rfl
theorem scJ_le (l : List PB) (lo hi : ByteArray) (most : Int) (back : Bool) (j : Nat) : (scJ l lo hi most back j).length ≤ l.length := by
  rw [scJ, List.length_take]
  refine Nat.le_trans (Nat.min_le_right _ _) (Nat.le_trans (List.length_filter_le _ _) ?_)
  rw [List.length_take, dirL_length]
  omega
theorem scJ_step (l : List PB) (lo hi : ByteArray) (most : Int) (back : Bool) (j : Nat) (h : j < l.length) : scJ l lo hi most back (j + 1) =
    if ((scJ l lo hi most back j).length : Int) < most ∧ rHas lo hi (pAtB (dirL back l) j).1 = true then scJ l lo hi most back j ++ [pAtB (dirL back l) j] else scJ l lo hi most back j := by
  have hj : j < (dirL back l).length := by rw [dirL_length]; exact h
  have e : (dirL back l).take (j + 1) = (dirL back l).take j ++ [pAtB (dirL back l) j] := by rw [List.take_succ_eq_append_getElem hj, pAtB_lt hj]
  unfold scJ
  rw [e, List.filter_append]
  generalize ((dirL back l).take j).filter (fun p => rHas lo hi p.1) = X
  cases hp : rHas lo hi (pAtB (dirL back l) j).1 with
  | false => simp [hp]
  | true =>
    simp only [List.filter_cons, hp, if_true, List.filter_nil, and_true, List.length_take]
    by_cases hx : X.length < most.toNat
    · rw [if_pos (by omega), List.take_of_length_le (by simp; omega), List.take_of_length_le (by omega)]
    · rw [if_neg (by omega), List.take_append_of_le_length (by omega)]
end Go.Proofs.Ytjbamfgfgbmieaa
/-
  copy of elements of more than one cell into a row that is known whole. Nothing here speaks of the program.
-/
namespace Go.Proofs.Ytjbamfgfgbmieaa
open Go.RowKit
theorem run_copy_rowK {P : Program} (w : World) (dT sT ty elem : TypeId) (g o dLen dCap : Nat) (a : Addr) (sLen sCap size : Nat) (cur : List Value) (t : TypeId) (cs : List Value)
    (hu : P.underlying dT = some (.slice elem)) (hs : (P.info? elem).map (·.size) = some size)
    (hg : Bk w g t cur) (hn : cs.length = Nat.min sLen dLen * size)
    (hsrc : ∀ j v, cs[j]? = some v → w.cell? (a.add j) = some v) (hfit : o + cs.length ≤ cur.length) (h1 : ∀ v ∈ cs, v.oneCell' = true) :
    (Builtin.copy_ #[dT, sT] ty #[.slice (some ⟨g, o, none⟩) dLen dCap, .slice (some a) sLen sCap]).run P w =
      .ok (goInt (Nat.min sLen dLen)) (w.setRow g (cur.take o ++ cs ++ cur.drop (o + cs.length)).toArray) := by
  have hl := run_loadCells_list (P := P) w a cs hsrc
  have hst := run_storeCells_at P g o t cs 0 cur.toArray w hg (by simpa using hfit) h1
  cases hq : P.info? elem with
  | none => simp [hq] at hs
  | some i =>
    have hi : i.size = size := by simpa [hq] using hs
    simp only [Nat.add_zero] at hst
    simp [Builtin.copy_, run_underlying hu, Builtin.lenOf, Builtin.firstCells, sizeOf, typeInfo, hq, hi, ← hn, hl, hst]
theorem Bk.setRow {w : World} {g : Nat} {T : TypeId} {xs : List Value} (h : Bk w g T xs) (ys : List Value) : Bk (w.setRow g ys.toArray) g T ys := setRow_heap w g _ _ T _ h
theorem only_setRow {R : Nat → Prop} {w : World} {g : Nat} (h : R g) (cs : Array Value) : Only R w (w.setRow g cs) := by
  refine ⟨rfl, rfl, rfl, by simp [World.setRow], fun b _ hn => ?_⟩
  have : b ≠ g := fun e => hn (e ▸ h)
  simp [World.setRow, Array.getElem?_modify, Ne.symm this]
theorem wpList_copy_run {P : Program} (w : World) {ops : Array Oper} {rest : List Oper} {o : Oper} {a : Act} {Q : Exit → Act → World → Prop} (hgd : o.guard = none) (d s : Operand) (t t' : TypeId)
    (ho : o.op = .call { callee := .builtin .copy, args := #[d, s], argTypes := #[t, t'] }) (v u : Value) (hd : a.eval d = v) (hs : a.eval s = u) {v' : Value} {w' : World}
    (hr : (Builtin.copy_ #[t, t'] o.type #[v, u]).run P w = .ok v' w') (h : wpList P ops Q rest (a.put o.dst v') w') : wpList P ops Q (o :: rest) a w := by
  refine wpList_plain hgd fun K hK => ?_
  unfold Oper.wp execOp
  simp only [ho, resolve, invoke, builtin, Sem.run_bind, Sem.run_pure, Result.andThen_ok, List.map_toArray, List.map_cons, List.map_nil, hd, hs, hr]
  exact hK _ _ h
theorem step_copy_run {P : Program} {ops : Array Oper} {o : Oper} {a : Act} {w : World} {K : Act → World → Prop} {Q : Exit → Act → World → Prop} {E : Prop}
    (hg : o.guard = none) (d x : Operand) (dT sT : TypeId) (hop : o.op = Op.call { callee := Callee.builtin Builtin.copy, args := #[d, x], argTypes := #[dT, sT] })
    (v u : Value) (hd : a.eval d = v) (hx : a.eval x = u) {v' : Value} {w' : World} (hr : (Builtin.copy_ #[dT, sT] o.type #[v, u]).run P w = .ok v' w') (hK : K (a.put o.dst v') w') :
    if Region.wanted o (yielded ops a.tmps) = true then Oper.wp P o a w K Q else E := by
  have hw : Region.wanted o (yielded ops a.tmps) = true := by simp [Region.wanted, hg]
  rw [if_pos hw]
  unfold Oper.wp
  simp [execOp, hop, resolve, invoke, builtin, hd, hx, hr, Result.andThen]
  exact hK
theorem drop_at {A Z : List Value} {m : Nat} (h : A.length = m) (k : Nat) : (A ++ Z).drop (m + k) = Z.drop k := by rw [← h, List.drop_length_add_append]
theorem take_at {A Z : List Value} {m : Nat} (h : A.length = m) : (A ++ Z).take m = A := by rw [← h, List.take_left']; rfl
theorem bk_take {w : World} {g : Nat} {T : TypeId} {cl : List Value} (h : Bk w g T cl) {m j : Nat} {u : Value} (hu : (cl.take m)[j]? = some u) : w.cell? ⟨g, j, none⟩ = some u := by
  refine h.cell ?_
  rw [List.getElem?_take] at hu
  split at hu
  · exact hu
  · cases hu
/-- What a row holds behind an insertion in place. -/
theorem ins_list (cur ys : List Value) (i n s : Nat) (hn : (n + 1) * s ≤ cur.length) (hi : i ≤ n) (hy : ys.length = s) :
    let c1 := cur.take ((i + 1) * s) ++ (cur.take (n * s)).drop (i * s) ++ cur.drop ((i + 1) * s + ((cur.take (n * s)).drop (i * s)).length)
    (c1.take (i * s) ++ ys ++ c1.drop (i * s + ys.length)).take ((n + 1) * s) = (cur.take (n * s)).take (i * s) ++ ys ++ (cur.take (n * s)).drop (i * s) := by
  have e1 : (i + 1) * s = i * s + s := by rw [Nat.add_mul, Nat.one_mul]
  have e2 : (n + 1) * s = n * s + s := by rw [Nat.add_mul, Nat.one_mul]
  have e3 : i * s ≤ n * s := Nat.mul_le_mul_right s hi
  have hl : ((cur.take (n * s)).drop (i * s)).length = n * s - i * s := by rw [List.length_drop, List.length_take]; omega
  intro c1
  have hA : (cur.take ((i + 1) * s)).length = i * s + s := by rw [List.length_take]; omega
  have hc1t : c1.take (i * s) = cur.take (i * s) := by
    show (cur.take ((i + 1) * s) ++ _ ++ _).take (i * s) = _
    rw [List.append_assoc, List.take_append_of_le_length (by omega), List.take_take, Nat.min_eq_left (by omega)]
  have hc1d : c1.drop (i * s + ys.length) = (cur.take (n * s)).drop (i * s) ++ cur.drop ((i + 1) * s + ((cur.take (n * s)).drop (i * s)).length) := by
    show (cur.take ((i + 1) * s) ++ _ ++ _).drop (i * s + ys.length) = _
    rw [List.append_assoc, List.drop_append_of_le_length (by omega), List.drop_eq_nil_of_le (by omega), List.nil_append]
  rw [hc1t, hc1d, List.take_take, Nat.min_eq_left e3]
  rw [← List.append_assoc]
  rw [List.take_append_of_le_length (by simp only [List.length_append, List.length_take, hl]; omega)]
  rw [List.take_of_length_le (by simp only [List.length_append, List.length_take, hl]; omega)]
end Go.Proofs.Ytjbamfgfgbmieaa
/-
  A sub of the specification: a flag and two slices, its pairs and its kids.
-/
namespace Go.Proofs.Ytjbamfgfgbmieaa
open Go.RowKit

def mkV (L : Nat → Bool) (P K : Nat → Value) (n : Nat) : List V3 := (List.range n).map fun i => (.bool (L i), P i, K i)
theorem mkV_length (L : Nat → Bool) (P K : Nat → Value) (n : Nat) : (mkV L P K n).length = n := by simp [mkV]
theorem mkV_at (L : Nat → Bool) (P K : Nat → Value) (n i : Nat) (h : i < n) : vAt (mkV L P K n) i = (.bool (L i), P i, K i) := by simp [mkV, vAt, h]
/-- The three values are in w the sub t; what is read lies in blocks of S. -/
inductive Sub (w : World) (S : Nat → Prop) : Bool → Value → Value → T → Prop
  | mk (lf : Bool) (pv kv : Value) (ps : List PB) (ks : List T) (L : Nat → Bool) (P K : Nat → Value) (hlf : lf = decide (ks.length = 0)) (hP : Pr w S pv ps)
      (hK : Rw w S kv ks.length (ncs (mkV L P K ks.length))) (hk : ∀ i, i < ks.length → Sub w S (L i) (P i) (K i) (tAt ks i)) : Sub w S lf pv kv (.mk ps ks)
theorem Sub.to {w w' : World} {S R : Nat → Prop} (ho : Only R w w') (hR : ∀ x, S x → x < w.heap.size → ¬ R x) {lf : Bool} {pv kv : Value} {t : T} (h : Sub w S lf pv kv t) : Sub w' S lf pv kv t := by
  induction h with
  | mk lf pv kv ps ks L P K hlf hP hK hk ih => exact .mk lf pv kv ps ks L P K hlf (hP.to ho hR) (hK.to ho hR) ih
theorem Sub.mono {w : World} {S R : Nat → Prop} (hR : ∀ x, S x → x < w.heap.size → R x) {lf : Bool} {pv kv : Value} {t : T} (h : Sub w S lf pv kv t) : Sub w R lf pv kv t := by
  induction h with
  | mk lf pv kv ps ks L P K hlf hP hK hk ih => exact .mk lf pv kv ps ks L P K hlf (Rw.mono hP hR) (hK.mono hR) ih
theorem Sub.kept {w w' : World} {S : Nat → Prop} {lf : Bool} {pv kv : Value} {t : T} (h : Sub w S lf pv kv t) (hb : Below w.heap.size w w') : Sub w' S lf pv kv t := h.to (only_of_below hb (fun _ => False)) (fun _ _ _ h => h)
theorem Sub.shape {w : World} {S : Nat → Prop} {lf : Bool} {pv kv : Value} {t : T} (h : Sub w S lf pv kv t) : ∃ ap np cp ak nk ck, pv = .slice ap np cp ∧ kv = .slice ak nk ck ∧ Hid (np = t.ps.length) ∧ Hid (nk = t.ks.length) ∧ np ≤ 9223372036854775807 ∧ nk ≤ 9223372036854775807 ∧ lf = decide (nk = 0) ∧ Pr w S (.slice ap np cp) t.ps := by
  cases h with
  | mk lf pv kv ps ks L P K hlf hP hK hk =>
    obtain ⟨ap, cp, rfl, h1, h2⟩ := hP.shape
    obtain ⟨ak, ck, rfl, h3, h4⟩ := hK.shape
    exact ⟨ap, _, cp, ak, _, ck, rfl, rfl, rfl, rfl, by omega, by omega, hlf, hP⟩
theorem Sub.kids {w : World} {S : Nat → Prop} {lf : Bool} {pv : Value} {ak : Option Addr} {nk ck : Nat} {t : T} (h : Sub w S lf pv (.slice ak nk ck) t) (hp : 0 < nk) : ∃ g off, ak = some ⟨g, off, none⟩ ∧ S g ∧ g < w.heap.size ∧ ∀ i, i < nk → ∃ l ap np cp ak' nk' ck',
    w.cell? ⟨g, off + i * 3, none⟩ = some (.bool l) ∧ w.cell? ⟨g, off + i * 3 + 1, none⟩ = some (.slice ap np cp) ∧ w.cell? ⟨g, off + i * 3 + 2, none⟩ = some (.slice ak' nk' ck') ∧ Sub w S l (.slice ap np cp) (.slice ak' nk' ck') (tAt t.ks i) := by
  cases h with
  | mk lf pv kv ps ks L P K hlf hP hK hk =>
    have hn := (Rw.len hK).1
    obtain ⟨g, off, h1, h2, h3, h4⟩ := hK.at hp
    refine ⟨g, off, h1, h2, h3, fun i hi => ?_⟩
    have hik : i < ks.length := by omega
    obtain ⟨c0, c1, c2⟩ := ncs_at (mkV L P K ks.length) i (by rw [mkV_length]; exact hik)
    rw [mkV_at _ _ _ _ _ hik] at c0 c1 c2
    have d0 := h4 _ _ c0
    have d1 := h4 _ _ c1
    have d2 := h4 _ _ c2
    have hs := hk i hik
    obtain ⟨ap, np, cp, ak', nk', ck', e1, e2, _⟩ := hs.shape
    simp only at d1 d2
    rw [e1] at d1 hs
    rw [e2] at d2 hs
    exact ⟨L i, ap, np, cp, ak', nk', ck', d0, d1, d2, hs⟩
end Go.Proofs.Ytjbamfgfgbmieaa
/-
  l03Deep, l03Full, l03Pairs of the specification.
-/
namespace Go.Proofs.Ytjbamfgfgbmieaa
open Go.RowKit
mutual
def T.ht : T → Nat | .mk _ ks => 1 + htL ks
def htL : List T → Nat | [] => 0 | k :: ks => max k.ht (htL ks)
end
theorem htL_mem (ks : List T) : ∀ k ∈ ks, k.ht ≤ htL ks := by
  induction ks with
  | nil => intro k h; cases h
  | cons x ks ih =>
    intro k h
    simp only [htL]
    rcases List.mem_cons.1 h with rfl | h
    · omega
    · have := ih k h; omega
theorem ev_ht : ∀ (h : Nat) (t : T), Ev h t → h ≤ t.ht
  | 0, _, e => e.elim
  | h + 1, .mk ps ks, e => by
    rcases e with ⟨_, rfl⟩ | ⟨e1, e2⟩
    · simp [T.ht]
    · obtain ⟨k, hk⟩ := List.exists_mem_of_ne_nil ks e1
      have h1 := ev_ht h k (e2 k hk)
      have h2 := htL_mem ks k hk
      simp only [T.ht]
      omega
theorem dp_bound (t : T) : -1 ≤ t.dp ∧ t.dp ≤ t.ht := by
  have hlo : -1 ≤ t.dp := by
    obtain ⟨ps, ks⟩ := t
    by_cases hk : ks = []
    · subst hk; simp [T.dp]
    · have e : (T.mk ps ks).dp = dpL true 0 ks := by simp [T.dp, hk]
      rw [e]
      rcases dpL_neg_or ks true 0 with h | ⟨h, _⟩
      · omega
      · obtain ⟨k, hk'⟩ := List.exists_mem_of_ne_nil ks hk
        have := h k hk'
        omega
  refine ⟨hlo, ?_⟩
  by_cases h0 : 0 ≤ t.dp
  · have := ev_ht _ t (dp_ev t h0)
    omega
  · omega
theorem drop_tAt {ks : List T} {k : Nat} (h : k < ks.length) : ks.drop k = tAt ks k :: ks.drop (k + 1) := by
  rw [List.drop_eq_getElem_cons h]
  simp [tAt, h]
end Go.Proofs.Ytjbamfgfgbmieaa
/-
  l03Read of the specification: what is kept while it reads.
-/
namespace Go.Proofs.Ytjbamfgfgbmieaa
open Go.RowKit
/-- What comes of the specification's reading. -/
def SubPost (o : Option (T × Nat)) (w : World) (e : Ending) (w' : World) : Prop := match o with
  | none => e = .returned (.tuple #[.agg #[.bool false, .slice none 0 0, .slice none 0 0], .int .i64 0, .bool false])
  | some (t, n) => ∃ lf ap np cp ak nk ck, e = .returned (.tuple #[.agg #[.bool lf, .slice ap np cp, .slice ak nk ck], .int .i64 (n : Nat), .bool true]) ∧ Sub w' (fun y => w.heap.size ≤ y ∧ y < w'.heap.size) lf (.slice ap np cp) (.slice ak nk ck) t
theorem mkV_snoc (L : Nat → Bool) (P K : Nat → Value) (n : Nat) (l : Bool) (p k : Value) : mkV L P K n ++ [(.bool l, p, k)] = mkV (fun i => if i = n then l else L i) (fun i => if i = n then p else P i) (fun i => if i = n then k else K i) (n + 1) := by
  simp only [mkV, List.range_succ, List.map_append, List.map_cons, List.map_nil, if_true]
  congr 1
  apply List.map_congr_left
  intro i hi
  have : i ≠ n := by have := List.mem_range.1 hi; omega
  simp [this]
theorem ow_at {W : World} {g base : Nat} (hg : W.heap[g]? = some (.cells #[] 34 (0, 0))) (hb : base ≤ g) : Ow W base (.slice (some ⟨g, 0, none⟩) 0 0) [] :=
  ⟨rfl, .inr ⟨g, 0, #[], rfl, hb, hg, Nat.le_refl _, by decide, rfl, rfl⟩⟩
theorem kc2g {u v v' : World} {a0 a1 : Addr} {x0 x1 : Value} {row : Option Nat} (hg : v.grownBy v' row) (hr : ∀ k, row = some k → u.heap.size ≤ k) (h : v.cell? a0 = some x0 ∧ v.cell? a1 = some x1 ∧ KC u v [(a0, x0), (a1, x1)]) : v'.cell? a0 = some x0 ∧ v'.cell? a1 = some x1 ∧ KC u v' [(a0, x0), (a1, x1)] :=
  kc2 ⟨h.2.2.cells, h.2.2.bel.grown hg h.2.2.bel.size hr⟩
theorem kc2w {u v : World} {o o' : Obj} {a0 a1 : Addr} {x0 x1 : Value} (hs : u.heap.size ≤ v.heap.size) (h : (v.alloc o).cell? a0 = some x0 ∧ (v.alloc o).cell? a1 = some x1 ∧ KC u (v.alloc o) [(a0, x0), (a1, x1)]) : (v.alloc o').cell? a0 = some x0 ∧ (v.alloc o').cell? a1 = some x1 ∧ KC u (v.alloc o') [(a0, x0), (a1, x1)] := by
  obtain ⟨_, _, h1, h2⟩ := h
  refine kc2 ⟨h1, h2.os, h2.tape, h2.output, by simp; omega, fun k hk => ?_⟩
  rw [Below.heap_alloc _ _ _ (by omega), ← h2.block k hk, Below.heap_alloc _ _ _ (by omega)]
theorem kc2s {u v : World} {g i j k : Nat} {x y z : Value} {a0 a1 : Addr} {x0 x1 : Value} (hs : u.heap.size ≤ g) (h : v.cell? a0 = some x0 ∧ v.cell? a1 = some x1 ∧ KC u v [(a0, x0), (a1, x1)]) :
    (((v.setCell ⟨g, i, none⟩ x).setCell ⟨g, j, none⟩ y).setCell ⟨g, k, none⟩ z).cell? a0 = some x0 ∧ (((v.setCell ⟨g, i, none⟩ x).setCell ⟨g, j, none⟩ y).setCell ⟨g, k, none⟩ z).cell? a1 = some x1 ∧ KC u (((v.setCell ⟨g, i, none⟩ x).setCell ⟨g, j, none⟩ y).setCell ⟨g, k, none⟩ z) [(a0, x0), (a1, x1)] :=
  kc2 ⟨h.2.2.cells, ((h.2.2.bel.setCell hs _).setCell hs _).setCell hs _⟩
/-- append onto a new row without elements, as one step of a region that draws. -/
theorem step_clone {w : World} {ops : Array Oper} {o : Oper} {a : Act} {K : Act → World → Prop} {Q : Exit → Act → World → Prop} {E : Prop} (hgd : o.guard = none) (s x : Operand)
    (ho : o.op = .call { callee := .builtin .append, args := #[s, x], argTypes := #[23, 23] }) (base g : Nat) (hs : a.eval s = .slice (some ⟨g, 0, none⟩) 0 0) (hown : w.heap[g]? = some (.cells #[] 34 (0, 0))) (hbg : base ≤ g)
    (S : Nat → Prop) (src : Value) (m : List PB) (hx : a.eval x = src) (hsrc : Pr w S src m) (hb : m.length ≤ 2097154)
    (h : ∀ a' n' c' w', Ow w' base (.slice a' n' c') m → w.grownBy w' (some g) → ((Value.slice a' n' c').ownBlock = some g ∨ (Value.slice a' n' c').ownBlock = some w.heap.size) → (∀ b o, b < w.heap.size → b ≠ g → w'.cell? ⟨b, o, none⟩ = w.cell? ⟨b, o, none⟩) → (∀ b o, b < w.heap.size → b ≠ g → w'.frozen? ⟨b, o, none⟩ = w.frozen? ⟨b, o, none⟩) → K (a.put o.dst (.slice a' n' c')) w') :
    if Region.wanted o (yielded ops a.tmps) = true then Oper.wp Try.prog o a w K Q else E := by
  have hw : Region.wanted o (yielded ops a.tmps) = true := by simp [Region.wanted, hgd]
  rw [if_pos hw]
  have hO := ow_at hown hbg
  have hlt : g < w.heap.size := (Array.getElem?_eq_some_iff.1 hown).1
  obtain ⟨i, hi, hz, hsz, hby⟩ := info_of infoPairI
  obtain ⟨v', w', hr, h2, h3, h5⟩ := run_append_row_at (P := Try.prog) (w := w) base 23 o.type 34 i _ 2 32 Try.underlying23 hi hz hsz hby rfl (by decide) _ 0 [] hO S src m.length (pcs m) hsrc (pcs_length m) (pcs_one m) (by unfold maxLen; omega) (by omega) (by omega)
  have h4 : Ow w' base v' m := by
    unfold Ow
    simpa using h2
  obtain ⟨a', n', c', rfl, _⟩ := h4.shape'
  unfold Oper.wp execOp
  simp only [ho, resolve, invoke, builtin, Sem.run_bind, Sem.run_pure, Result.andThen_ok, List.map_toArray, List.map_cons, List.map_nil, hs, hx, hr]
  exact h a' n' c' w' h4 h3 h5 (fun b o hb hne => World.cell?_of_block (w := w) (h3.block b hb (fun e => hne (by cases e; rfl)))) (fun b o hb hne => World.frozen?_of_block (w := w) (h3.block b hb (fun e => hne (by cases e; rfl))))
/-- append as one step of a region that draws. -/
theorem step_append_pairs {w : World} {ops : Array Oper} {o : Oper} {a : Act} {K : Act → World → Prop} {Q : Exit → Act → World → Prop} {E : Prop} (hgd : o.guard = none) (s x : Operand)
    (ho : o.op = .call { callee := .builtin .append, args := #[s, x], argTypes := #[23, 23] }) (base : Nat) (v : Value) (l : List PB) (hs : a.eval s = v) (hown : Ow w base v l)
    (S : Nat → Prop) (src : Value) (m : List PB) (hx : a.eval x = src) (hsrc : Pr w S src m) (hb : l.length + m.length ≤ 2097154) (hbase : base ≤ w.heap.size)
    (h : ∀ v' w', Ow w' base v' (l ++ m) → w.grownBy w' v.ownBlock → K (a.put o.dst v') w') :
    if Region.wanted o (yielded ops a.tmps) = true then Oper.wp Try.prog o a w K Q else E := by
  have hw : Region.wanted o (yielded ops a.tmps) = true := by simp [Region.wanted, hgd]
  rw [if_pos hw]
  obtain ⟨i, hi, hz, hsz, hby⟩ := info_of infoPairI
  obtain ⟨v', w', hr, h2, h3⟩ := run_append_row (P := Try.prog) (w := w) base 23 o.type 34 i _ 2 32 Try.underlying23 hi hz hsz hby rfl (by decide) v l.length (pcs l) hown S src m.length (pcs m) hsrc (pcs_length m) (pcs_one m) (by unfold maxLen; omega) (by omega) hbase
  unfold Oper.wp execOp
  simp only [ho, resolve, invoke, builtin, Sem.run_bind, Sem.run_pure, Result.andThen_ok, List.map_toArray, List.map_cons, List.map_nil, hs, hx, hr]
  refine h v' w' ?_ h3
  unfold Ow
  rw [List.length_append, pcs_append]
  exact h2
theorem rdSL_cons (rd : Int → Option (T × Nat)) (k : Int) (kids : List Int) (nx : Nat) : rdSL rd (k :: kids) nx = if k ≠ (nx : Int) then none else match rd k with
    | none => none
    | some (t, n1) => match rdSL rd kids n1 with
      | none => none
      | some (ts, n2) => some (t :: ts, n2) := rfl
/-- What is told at the end, ts having been read. -/
def rdJ (rd : Int → Option (T × Nat)) (ts : List T) (kids : List Int) (nx : Nat) : Option (List T × Nat) := match rdSL rd kids nx with
  | none => none
  | some (ts', n) => some (ts ++ ts', n)
theorem rdJ_nil (rd : Int → Option (T × Nat)) (kids : List Int) (nx : Nat) : rdJ rd [] kids nx = rdSL rd kids nx := by
  rw [rdJ]
  cases rdSL rd kids nx with
  | none => rfl
  | some x => obtain ⟨ts, n⟩ := x; rfl
theorem rdJ_no (rd : Int → Option (T × Nat)) (ts : List T) (k : Int) (kids : List Int) (nx : Nat) (h : k ≠ (nx : Int) ∨ rd k = none) : rdJ rd ts (k :: kids) nx = none := by
  rw [rdJ, rdSL_cons]
  by_cases e : k = (nx : Int)
  · rw [if_neg (fun h => h e)]
    rcases h with h | h
    · exact absurd e h
    · rw [h]
  · rw [if_pos e]
theorem rdJ_step (rd : Int → Option (T × Nat)) (ts : List T) (k : Int) (kids : List Int) (nx n1 : Nat) (t : T) (e : k = (nx : Int)) (h : rd k = some (t, n1)) : rdJ rd ts (k :: kids) nx = rdJ rd (ts ++ [t]) kids n1 := by
  rw [rdJ, rdSL_cons, if_neg (fun h => h e), h, rdJ]
  simp only
  cases rdSL rd kids n1 with
  | none => rfl
  | some x => obtain ⟨ts', n⟩ := x; simp
theorem rdJ_end (rd : Int → Option (T × Nat)) (ts : List T) (nx : Nat) : rdJ rd ts [] nx = some (ts, nx) := by simp [rdJ, rdSL]
end Go.Proofs.Ytjbamfgfgbmieaa
/-
  A list of nodes that is being laid: a row of one's own, each node's slices apart from it.
-/
namespace Go.Proofs.Ytjbamfgfgbmieaa
open Go.RowKit
/-- A node's rows are its own. -/
def OwN (w : World) (p : V3) (x : NB) : Prop := w.ownsRow 0 34 2 p.1 x.ps.length (pcs x.ps) ∧ w.ownsRow 0 9 1 p.2.1 x.keys.length (x.keys.map Value.string) ∧ w.ownsRow 0 3 1 p.2.2 x.kids.length (x.kids.map (Value.int .i64))
def bl (p : V3) (y : Nat) : Prop := p.1.ownBlock = some y ∨ p.2.1.ownBlock = some y ∨ p.2.2.ownBlock = some y
def ap3 (p : V3) : Prop := ∀ y, (p.1.ownBlock = some y → p.2.1.ownBlock ≠ some y ∧ p.2.2.ownBlock ≠ some y) ∧ (p.2.1.ownBlock = some y → p.2.2.ownBlock ≠ some y)
theorem OwN.to {w w' : World} {R : Nat → Prop} {p : V3} {x : NB} (h : OwN w p x) (ho : Only R w w') (hR : ∀ y, bl p y → ¬ R y) : OwN w' p x :=
  ⟨own_kept h.1 ho (fun y e => hR y (.inl e)), own_kept h.2.1 ho (fun y e => hR y (.inr (.inl e))), own_kept h.2.2 ho (fun y e => hR y (.inr (.inr e)))⟩
theorem OwN.lt {w : World} {p : V3} {x : NB} (h : OwN w p x) {y : Nat} (hy : bl p y) : y < w.heap.size := by
  rcases hy with e | e | e
  · exact (World.ownsRow.lt h.1 y e).2
  · exact (World.ownsRow.lt h.2.1 y e).2
  · exact (World.ownsRow.lt h.2.2 y e).2
theorem own_lower {w : World} {base : Nat} {e : TypeId} {size n : Nat} {v : Value} {xs : List Value} (h : w.ownsRow base e size v n xs) : w.ownsRow 0 e size v n xs := by
  refine ⟨h.1, h.2.imp id ?_⟩
  rintro ⟨g, cap, cur, h1, h2, h3⟩
  exact ⟨g, cap, cur, h1, Nat.zero_le _, h3⟩
theorem own_ge {w : World} {base : Nat} {e : TypeId} {size n : Nat} {v : Value} {xs : List Value} (h : w.ownsRow base e size v n xs) (k : Nat) (hk : v.ownBlock = some k) : base ≤ k := by
  rcases h.2 with ⟨rfl, _⟩ | ⟨g, cap, cur, rfl, hb, _⟩
  · cases hk
  · cases hk; exact hb
/-- A node whose rows are its own, in blocks of F, apart from each other. -/
def N1K (w : World) (F : Nat → Prop) (p : V3) (x : NB) : Prop := N1 w F p x ∧ OwN w p x ∧ ap3 p ∧ ∀ y, bl p y → F y
theorem N1K.to {w w' : World} {S R : Nat → Prop} {p : V3} {x : NB} (h : N1K w S p x) (ho : Only R w w') (hd : ∀ b, S b → b < w.heap.size → ¬ R b) : N1K w' S p x :=
  ⟨h.1.to ho hd, h.2.1.to ho (fun y hy => hd y (h.2.2.2 y hy) (h.2.1.lt hy)), h.2.2⟩
theorem N1K.mono {w : World} {S R : Nat → Prop} {p : V3} {x : NB} (h : N1K w S p x) (hd : ∀ b, S b → b < w.heap.size → R b) : N1K w R p x :=
  ⟨h.1.mono hd, h.2.1, h.2.2.1, fun y hy => hd y (h.2.2.2 y hy) (h.2.1.lt hy)⟩
theorem OwN.n1 {w : World} {S : Nat → Prop} {p : V3} {x : NB} (h : OwN w p x) (hS : ∀ y, bl p y → S y) : N1 w S p x :=
  ⟨rw_own h.1 (fun k e _ _ => hS k (.inl e)), rw_own h.2.1 (fun k e _ _ => hS k (.inr (.inl e))), rw_own h.2.2 (fun k e _ _ => hS k (.inr (.inr e)))⟩
theorem n1K_nil (w : World) (F : Nat → Prop) : N1K w F (.slice none 0 0, .slice none 0 0, .slice none 0 0) ⟨[], [], []⟩ :=
  ⟨⟨rw_nil _ _, rw_nil _ _, rw_nil _ _⟩, ⟨World.ownsRow_nil _ _ _ _, World.ownsRow_nil _ _ _ _, World.ownsRow_nil _ _ _ _⟩, fun y => ⟨fun e => by (cases e), fun e => by (cases e)⟩, fun y hy => by rcases hy with e | e | e <;> cases e⟩
def apartV (V : List V3) (n : Nat) : Prop := ∀ i j, i < n → j < n → i ≠ j → ∀ y, bl (vAt V i) y → ¬ bl (vAt V j) y
theorem nAt_append_left {ns ms : List NB} {i : Nat} (h : i < ns.length) : nAt (ns ++ ms) i = nAt ns i := by simp [nAt, List.getElem?_append_left h]
theorem nAt_append_at (ns : List NB) (x : NB) (ms : List NB) : nAt (ns ++ x :: ms) ns.length = x := by simp [nAt]
theorem vAt_append_left {V W : List V3} {i : Nat} (h : i < V.length) : vAt (V ++ W) i = vAt V i := by simp [vAt, List.getElem?_append_left h]
theorem vAt_append_at (V : List V3) (x : V3) : vAt (V ++ [x]) V.length = x := by simp [vAt]
end Go.Proofs.Ytjbamfgfgbmieaa
/-
  l03Lay of the specification: laws of append for it, and plain facts of lists.
-/
namespace Go.Proofs.Ytjbamfgfgbmieaa
open Go.RowKit
theorem kc0_5 {u : World} {a0 a1 a2 a3 a4 : Addr} {x0 x1 x2 x3 x4 : Value} (h0 : u.cell? a0 = some x0) (h1 : u.cell? a1 = some x1) (h2 : u.cell? a2 = some x2) (h3 : u.cell? a3 = some x3) (h4 : u.cell? a4 = some x4) : KC u u [(a0, x0), (a1, x1), (a2, x2), (a3, x3), (a4, x4)] :=
  ⟨fun p hp => by simp at hp; rcases hp with rfl | rfl | rfl | rfl | rfl <;> assumption, Below.refl _ _⟩
theorem places_length (ks : List T) : ∀ a, (places a ks).length = ks.length := by
  induction ks with
  | nil => intro a; rfl
  | cons k ks ih => intro a; simp [places, ih]
theorem infoStr' : (Try.prog.info? 9).map (fun i => (i.zero, i.size, i.bytes)) = some (some (.string ⟨#[]⟩), 1, 16) := by kernel_rfl
theorem infoInt' : (Try.prog.info? 3).map (fun i => (i.zero, i.size, i.bytes)) = some (some (.int .i64 0), 1, 8) := by kernel_rfl
theorem wpList_append_int1 {w : World} {ops : Array Oper} {rest : List Oper} {o : Oper} {a : Act} {Q : Exit → Act → World → Prop} (hgd : o.guard = none) (s x : Operand)
    (ho : o.op = .call { callee := .builtin .append, args := #[s, x], argTypes := #[101, 101] }) (v : Value) (n : Nat) (xs : List Value) (hs : a.eval s = v) (hown : w.ownsRow 0 3 1 v n xs)
    (g : Nat) (z : Int) (hx : a.eval x = .slice (some ⟨g, 0, none⟩) 1 1) (hB : Bk w g 3 [.int .i64 z]) (hb : n ≤ 1048576)
    (h : ∀ a' n' c' w', w'.ownsRow 0 3 1 (.slice a' n' c') (n + 1) (xs ++ [.int .i64 z]) → w.grownBy w' v.ownBlock → ((Value.slice a' n' c').ownBlock = v.ownBlock ∨ (Value.slice a' n' c').ownBlock = some w.heap.size) → wpList Try.prog ops Q rest (a.put o.dst (.slice a' n' c')) w') : wpList Try.prog ops Q (o :: rest) a w := by
  obtain ⟨i, hi, hz, hsz, hby⟩ := info_of infoInt'
  refine wpList_append_row_at hgd s x 101 ho 0 3 i _ 1 8 Try.underlying101 hi hz hsz hby rfl (by decide) v n xs hs hown (fun _ => True) _ 1 [.int .i64 z] hx (hB.rw (Nat.le_refl _) (by omega) (fun h => by omega) _ trivial) rfl
    (by intro u hu; simp at hu; subst hu; rfl) (by unfold maxLen; omega) (by omega) (Nat.zero_le _) ?_
  intro v' w' k1 k2 k3
  obtain ⟨a', c', rfl⟩ := own_shape k1
  exact h a' _ c' w' k1 k2 k3
/-- append of one string as a step of a region that draws. -/
theorem step_append_str1 {w : World} {ops : Array Oper} {o : Oper} {a : Act} {K : Act → World → Prop} {Q : Exit → Act → World → Prop} {E : Prop} (hgd : o.guard = none) (s x : Operand)
    (ho : o.op = .call { callee := .builtin .append, args := #[s, x], argTypes := #[100, 100] }) (v : Value) (n : Nat) (xs : List Value) (hs : a.eval s = v) (hown : w.ownsRow 0 9 1 v n xs)
    (g : Nat) (z : ByteArray) (hx : a.eval x = .slice (some ⟨g, 0, none⟩) 1 1) (hB : w.cell? ⟨g, 0, none⟩ = some (.string z)) (hb : n ≤ 1048576) (b0 o0 : Nat) (x0 : Value) (hc0 : w.cell? ⟨b0, o0, none⟩ = some x0) (hf0 : w.frozen? ⟨b0, o0, none⟩ = false) (hne : v.ownBlock ≠ some b0)
    (h : ∀ a' n' c' w', w'.ownsRow 0 9 1 (.slice a' n' c') (n + 1) (xs ++ [.string z]) → w.grownBy w' v.ownBlock → ((Value.slice a' n' c').ownBlock = v.ownBlock ∨ (Value.slice a' n' c').ownBlock = some w.heap.size) → w'.cell? ⟨b0, o0, none⟩ = some x0 → w'.frozen? ⟨b0, o0, none⟩ = false → K (a.put o.dst (.slice a' n' c')) w') :
    if Region.wanted o (yielded ops a.tmps) = true then Oper.wp Try.prog o a w K Q else E := by
  have hw : Region.wanted o (yielded ops a.tmps) = true := by simp [Region.wanted, hgd]
  rw [if_pos hw]
  obtain ⟨i, hi, hz, hsz, hby⟩ := info_of infoStr'
  have hsrc : Rw w (fun _ => True) (.slice (some ⟨g, 0, none⟩) 1 1) 1 [.string z] := by
    refine ⟨_, 1, rfl, Nat.le_refl _, by omega, fun h => by omega, fun h => (by cases h), fun _ => ⟨g, 0, rfl, block_lt hB, trivial, fun j u hu => ?_⟩⟩
    cases j with
    | zero => simp at hu; subst hu; simpa using hB
    | succ j => simp at hu
  obtain ⟨v', w', hr, h2, h3, h5⟩ := run_append_row_at (P := Try.prog) (w := w) 0 100 o.type 9 i _ 1 16 Try.underlying100 hi hz hsz hby rfl (by decide) v n xs hown (fun _ => True) _ 1 [.string z] hsrc rfl (by intro u hu; simp at hu; subst hu; rfl) (by unfold maxLen; omega) (by omega) (Nat.zero_le _)
  obtain ⟨a', c', rfl⟩ := own_shape h2
  have hbl := h3.block b0 (block_lt hc0) (fun e => hne e.symm)
  unfold Oper.wp execOp
  simp only [ho, resolve, invoke, builtin, Sem.run_bind, Sem.run_pure, Result.andThen_ok, List.map_toArray, List.map_cons, List.map_nil, hs, hx, hr]
  exact h a' _ c' w' h2 h3 h5 ((World.cell?_of_block (w := w) (a := ⟨b0, o0, none⟩) hbl).trans hc0) ((World.frozen?_of_block (w := w) (a := ⟨b0, o0, none⟩) hbl).trans hf0)
/-- Cells that are kept, R alone of the blocks having turned. -/
structure KO (R : Nat → Prop) (u v : World) (cs : List (Addr × Value)) : Prop where
  cells : ∀ p ∈ cs, u.cell? p.1 = some p.2 ∧ ¬ R p.1.block
  only : Only R u v
theorem KO.at {R : Nat → Prop} {u v : World} {cs : List (Addr × Value)} (h : KO R u v cs) {a : Addr} {x : Value} (hp : (a, x) ∈ cs) : v.cell? a = some x := by
  obtain ⟨hc, hr⟩ := h.cells (a, x) hp
  exact (World.cell?_of_block (w := u) (h.only.block a.block (block_lt hc) hr)).trans hc
theorem ko4 {R : Nat → Prop} {u v : World} {a0 a1 a2 a3 : Addr} {x0 x1 x2 x3 : Value} (h : KO R u v [(a0, x0), (a1, x1), (a2, x2), (a3, x3)]) : v.cell? a0 = some x0 ∧ v.cell? a1 = some x1 ∧ v.cell? a2 = some x2 ∧ v.cell? a3 = some x3 ∧ KO R u v [(a0, x0), (a1, x1), (a2, x2), (a3, x3)] := ⟨h.at (by simp), h.at (by simp), h.at (by simp), h.at (by simp), h⟩
theorem ko4o {R : Nat → Prop} {u v v' : World} {a0 a1 a2 a3 : Addr} {x0 x1 x2 x3 : Value} (k : Only R v v') (h : v.cell? a0 = some x0 ∧ v.cell? a1 = some x1 ∧ v.cell? a2 = some x2 ∧ v.cell? a3 = some x3 ∧ KO R u v [(a0, x0), (a1, x1), (a2, x2), (a3, x3)]) : v'.cell? a0 = some x0 ∧ v'.cell? a1 = some x1 ∧ v'.cell? a2 = some x2 ∧ v'.cell? a3 = some x3 ∧ KO R u v' [(a0, x0), (a1, x1), (a2, x2), (a3, x3)] :=
  ko4 ⟨h.2.2.2.2.cells, h.2.2.2.2.only.trans k⟩
theorem szL_take (ks : List T) (k : Nat) (h : k < ks.length) : szL (ks.take (k + 1)) = szL (ks.take k) + (tAt ks k).size := by
  induction ks generalizing k with
  | nil => simp at h
  | cons x ks ih =>
    cases k with
    | zero => simp [szL, tAt]
    | succ k =>
      have := ih k (by simpa using h)
      simp only [List.take_succ_cons, szL, this, Nat.add_assoc]
      rfl
theorem layL_take (ks : List T) (k a : Nat) (h : k < ks.length) : layL a (ks.take (k + 1)) = layL a (ks.take k) ++ lay (a + szL (ks.take k)) (tAt ks k) := by
  induction ks generalizing k a with
  | nil => simp at h
  | cons x ks ih =>
    cases k with
    | zero => simp [layL, tAt, szL]
    | succ k =>
      have := ih k (a + x.size) (by simpa using h)
      simp only [List.take_succ_cons, layL, this, List.append_assoc, szL, Nat.add_assoc]
      rfl
theorem places_take (ks : List T) (k a : Nat) (h : k < ks.length) : places a (ks.take (k + 1)) = places a (ks.take k) ++ [((a + szL (ks.take k) : Nat) : Int)] := by
  induction ks generalizing k a with
  | nil => simp at h
  | cons x ks ih =>
    cases k with
    | zero => simp [places, szL]
    | succ k =>
      have := ih k (a + x.size) (by simpa using h)
      simp only [List.take_succ_cons, places, this, List.cons_append, szL, Nat.add_assoc]
theorem keys_take (ks : List T) (k : Nat) (h : k + 1 < ks.length) : (ks.take (k + 1 + 1)).tail.map T.least = (ks.take (k + 1)).tail.map T.least ++ [(tAt ks (k + 1)).least] := by
  cases ks with
  | nil => simp at h
  | cons x ks =>
    simp only [List.take_succ_cons, List.tail_cons]
    have hk : k < ks.length := by simpa using h
    have e : ks.take (k + 1) = ks.take k ++ [tAt (x :: ks) (k + 1)] := by
      rw [List.take_succ_eq_append_getElem hk]
      simp [tAt, hk]
    rw [e, List.map_append]
    rfl
theorem szL_take_le (ks : List T) (k : Nat) : szL (ks.take k) ≤ szL ks := by
  induction ks generalizing k with
  | nil => simp [szL]
  | cons x ks ih =>
    cases k with
    | zero => simp [szL]
    | succ k =>
      have := ih k
      simp only [List.take_succ_cons, szL]
      omega
theorem ncs_set0 (V : List V3) (x : Value) : ∀ j, j < V.length → ncs (V.set j (x, (vAt V j).2)) = (ncs V).set (j * 3) x := by
  induction V with
  | nil => intro j h; exact absurd h (Nat.not_lt_zero _)
  | cons q V ih =>
    intro j h
    cases j with
    | zero => rfl
    | succ j =>
      have := ih j (by simpa using h)
      rw [show (j + 1) * 3 = j * 3 + 3 by omega]
      show q.1 :: q.2.1 :: q.2.2 :: ncs (V.set j (x, (vAt V j).2)) = _
      rw [this]
      rfl
end Go.Proofs.Ytjbamfgfgbmieaa
/-
  slices.Insert of one element into a row of its own (pairs).
-/
namespace Go.Proofs.Ytjbamfgfgbmieaa
open Go.RowKit
/-- What comes of an insertion: a row of its own with the element; of what was there only the old row may have turned. -/
def InsPost (E : TypeId) (size base : Nat) (xs : List Value) (n : Nat) (v : Value) (w : World) (e : Ending) (w' : World) : Prop :=
  ∃ a c, e = .returned (.slice a n c) ∧ w'.ownsRow base E size (.slice a n c) n xs ∧ w.grownBy w' v.ownBlock ∧ ((Value.slice a n c).ownBlock = v.ownBlock ∨ ∃ k, (Value.slice a n c).ownBlock = some k ∧ w.heap.size ≤ k)
theorem grown_only {w w' : World} {o : Option Nat} (h : Only (fun y => o = some y) w w') : w.grownBy w' o := ⟨h.os, h.tape, h.output, h.size, fun k hk hne => h.block k hk (fun e => hne e.symm)⟩
end Go.Proofs.Ytjbamfgfgbmieaa
/-
  slices.Insert of one element into a row of its own (limbs).
-/
namespace Go.Proofs.Ytjbamfgfgbmieaa
open Go.RowKit
end Go.Proofs.Ytjbamfgfgbmieaa
/-
  slices.Grow of nil, slices.Concat of two (pairs).
-/
namespace Go.Proofs.Ytjbamfgfgbmieaa
open Go.RowKit
/-- What is made newly: a row of its own, beside all that was there. -/
def NewPost (E : TypeId) (size n : Nat) (xs : List Value) (w : World) (e : Ending) (w' : World) : Prop := ∃ a c, e = .returned (.slice a n c) ∧ w'.ownsRow w.heap.size E size (.slice a n c) n xs ∧ Below w.heap.size w w'
end Go.Proofs.Ytjbamfgfgbmieaa
/-
  slices.Grow of nil, slices.Concat of two (limbs).
-/
namespace Go.Proofs.Ytjbamfgfgbmieaa
open Go.RowKit

end Go.Proofs.Ytjbamfgfgbmieaa
/-
  slices.Clone, share (pairs).
-/
namespace Go.Proofs.Ytjbamfgfgbmieaa
open Go.RowKit
def cutN (n : Nat) : Nat := if n ≤ 4 then n else 3
/-- What comes of sharing out: two rows of their own, made newly, apart from each other. -/
def SharePost (E : TypeId) (size n : Nat) (xs : List Value) (w : World) (e : Ending) (w' : World) : Prop :=
  ∃ a m c a' m' c', e = .returned (.tuple #[.slice a m c, .slice a' m' c']) ∧ m = cutN n ∧ m' = n - cutN n ∧ w'.ownsRow w.heap.size E size (.slice a m c) m (xs.take (m * size)) ∧ w'.ownsRow w.heap.size E size (.slice a' m' c') m' (xs.drop (m * size)) ∧
    (∀ x, (Value.slice a m c).ownBlock = some x → (Value.slice a' m' c').ownBlock ≠ some x) ∧ Below w.heap.size w w'
end Go.Proofs.Ytjbamfgfgbmieaa
/-
  slices.Clone, share (limbs).
-/
namespace Go.Proofs.Ytjbamfgfgbmieaa
open Go.RowKit

end Go.Proofs.Ytjbamfgfgbmieaa
/-
  together: what two neighbours have between them is shared out anew.
-/
namespace Go.Proofs.Ytjbamfgfgbmieaa
open Go.RowKit
theorem ptrs_length (A : Nat → Nat) (n : Nat) : (ptrs A n).length = n := by simp [ptrs]
theorem ptrs_one (A : Nat → Nat) (n : Nat) : ∀ u ∈ ptrs A n, u.oneCell' = true := by
  intro u hu
  simp [ptrs] at hu
  obtain ⟨i, _, rfl⟩ := hu
  rfl
theorem own_set {w : World} {base : Nat} {e : TypeId} {size : Nat} {v : Value} {n : Nat} {xs : List Value} (h : w.ownsRow base e size v n xs) {b : Nat} (hb : b < base) (o : Nat) (u : Value) : (w.setCell ⟨b, o, none⟩ u).ownsRow base e size v n xs :=
  own_kept h (only_set (R := fun y => y = b) rfl u) (fun k hk e => by have := (World.ownsRow.lt h k hk).1; omega)
end Go.Proofs.Ytjbamfgfgbmieaa
/-
  together, of limbs.
-/
namespace Go.Proofs.Ytjbamfgfgbmieaa
open Go.RowKit
/-- Two neighbours' pairs and kids, shared out anew. -/
def shT (a b : T) : T × T := (.mk ((a.ps ++ b.ps).take (cutN (a.ps ++ b.ps).length)) ((a.ks ++ b.ks).take (cutN (a.ks ++ b.ks).length)), .mk ((a.ps ++ b.ps).drop (cutN (a.ps ++ b.ps).length)) ((a.ks ++ b.ks).drop (cutN (a.ks ++ b.ks).length)))
theorem pcs_take (l : List PB) : ∀ m, (pcs l).take (m * 2) = pcs (l.take m) := by
  induction l with
  | nil => intro m; simp [pcs]
  | cons p l ih =>
    intro m
    cases m with
    | zero => simp [pcs]
    | succ m => rw [show (m + 1) * 2 = m * 2 + 1 + 1 by omega, pcs, List.take_succ_cons, List.take_succ_cons, ih, List.take_succ_cons, pcs]
theorem pcs_drop (l : List PB) : ∀ m, (pcs l).drop (m * 2) = pcs (l.drop m) := by
  induction l with
  | nil => intro m; simp [pcs]
  | cons p l ih =>
    intro m
    cases m with
    | zero => simp
    | succ m => rw [show (m + 1) * 2 = m * 2 + 1 + 1 by omega, pcs, List.drop_succ_cons, List.drop_succ_cons, ih, List.drop_succ_cons]
theorem ptrs_take (A : Nat → Nat) (n m : Nat) (h : m ≤ n) : (ptrs A n).take m = ptrs A m := by
  apply List.ext_getElem
  · simp [ptrs]; omega
  · intro i h1 h2; simp [ptrs]
theorem ptrs_drop (A : Nat → Nat) (n m : Nat) : (ptrs A n).drop m = ptrs (fun i => A (m + i)) (n - m) := by
  apply List.ext_getElem
  · simp [ptrs]
  · intro i h1 h2; simp [ptrs]
theorem ptrs_app (A1 A2 : Nat → Nat) (n1 n2 : Nat) : ptrs A1 n1 ++ ptrs A2 n2 = ptrs (fun i => if i < n1 then A1 i else A2 (i - n1)) (n1 + n2) := by
  apply List.ext_getElem
  · simp [ptrs]
  · intro i h1 h2
    by_cases hi : i < n1
    · rw [List.getElem_append_left (by simpa [ptrs] using hi)]; simp [ptrs, hi]
    · rw [List.getElem_append_right (by simpa [ptrs] using hi)]; simp [ptrs, hi]
theorem cutN_le (n : Nat) : cutN n ≤ n := by unfold cutN; split <;> omega
theorem tAt_take {ks : List T} {m i : Nat} (h : i < m) : tAt (ks.take m) i = tAt ks i := by simp [tAt, h]
theorem tAt_drop {ks : List T} {m i : Nat} : tAt (ks.drop m) i = tAt ks (m + i) := by simp [tAt]
theorem tAt_app1 {ks ls : List T} {i : Nat} (h : i < ks.length) : tAt (ks ++ ls) i = tAt ks i := by simp [tAt, List.getElem?_append_left h]
theorem tAt_app2 {ks ls : List T} {i : Nat} (h : ks.length ≤ i) : tAt (ks ++ ls) i = tAt ls (i - ks.length) := by simp [tAt, List.getElem?_append_right h]
end Go.Proofs.Ytjbamfgfgbmieaa
/-
  strings.Compare, and slices.BinarySearchFunc over pairs that ascend.
-/
namespace Go.Proofs.Ytjbamfgfgbmieaa
open Go.RowKit
def cmpV (a b : ByteArray) : Int := Lib.compareBytes a.data.toList b.data.toList
theorem cmpL_cases : ∀ (a b : List UInt8), (Op.bytesLess a b = true ∧ Lib.compareBytes a b = -1) ∨ (a = b ∧ Lib.compareBytes a b = 0) ∨ (Op.bytesLess b a = true ∧ Lib.compareBytes a b = 1)
  | [], [] => .inr (.inl ⟨rfl, rfl⟩)
  | [], _ :: _ => .inl ⟨rfl, rfl⟩
  | _ :: _, [] => .inr (.inr ⟨rfl, rfl⟩)
  | x :: a, y :: b => by
    simp only [Op.bytesLess, Lib.compareBytes]
    by_cases h1 : x < y
    · exact .inl ⟨by simp [h1], by simp [h1]⟩
    · by_cases h2 : y < x
      · exact .inr (.inr ⟨by simp [h2], by simp [h1, h2]⟩)
      · have e : x = y := UInt8.le_antisymm (UInt8.not_lt.1 h2) (UInt8.not_lt.1 h1)
        subst e
        simp only [h1, if_false, decide_false, Bool.false_or, beq_self_eq_true, Bool.true_and]
        rcases cmpL_cases a b with h | ⟨rfl, h⟩ | h
        · exact .inl h
        · exact .inr (.inl ⟨rfl, h⟩)
        · exact .inr (.inr h)
theorem cmpV_cases (a b : ByteArray) : (klt a b = true ∧ cmpV a b = -1) ∨ (a = b ∧ cmpV a b = 0) ∨ (klt a b = false ∧ a ≠ b ∧ cmpV a b = 1) := by
  unfold klt cmpV
  rw [ByteArray.toList_eq, ByteArray.toList_eq]
  rcases cmpL_cases a.data.toList b.data.toList with h | ⟨h1, h2⟩ | ⟨h1, h2⟩
  · exact .inl h
  · exact .inr (.inl ⟨str_ext (by rw [ByteArray.toList_eq, ByteArray.toList_eq]; exact h1), h2⟩)
  · refine .inr (.inr ⟨less_asymm _ _ h1, ?_, h2⟩)
    rintro rfl
    rw [less_irrefl] at h1
    cases h1
set_option maxHeartbeats 1000000 in
set_option maxRecDepth 100000 in
theorem compareString_any (a b : ByteArray) (w : World) : Calls Try.prog 102 #[.string a, .string b] w fun e w' => e = .returned (.int .i64 (cmpV a b)) ∧ w' = w := by
  go_enter Try.func102, Try.ntmps102
  go_wp2
  rw [run_callFunc_extern Try.func104 (by kernel_rfl) (by kernel_rfl) (by kernel_rfl) (e := Extern.BytealgCompare.compare) (by kernel_rfl), Lib.run_compareString]
  simp only [Result.andThen]
  rw [Oper.upon_value]
  go_wp2
  go_ret
  exact ⟨rfl, rfl⟩
set_option maxHeartbeats 1000000 in
theorem compare_any (a b : ByteArray) (w : World) : Calls Try.prog 96 #[.string a, .string b] w fun e w' => e = .returned (.int .i64 (cmpV a b)) ∧ w' = w := by
  go_enter Try.func96, Try.ntmps96
  go_wp2_with fail
  refine (compareString_any a b w).mono ?_
  rintro e w1 ⟨rfl, rfl⟩
  generalize hx : cmpV a b = x
  have HX := hid hx
  clear hx
  go_wp2
  go_ret
  exact ⟨by rw [HX.out]; rfl, rfl⟩
end Go.Proofs.Ytjbamfgfgbmieaa
/-
  slices.BinarySearchFunc over pairs that ascend; pairFor: the place of a key in a leaf.
-/
namespace Go.Proofs.Ytjbamfgfgbmieaa
open Go.RowKit
theorem Pr.cells {w : World} {S : Nat → Prop} {b off n c : Nat} {l : List PB} (h : Pr w S (.slice (some ⟨b, off, none⟩) n c) l) {i : Nat} (hi : i < l.length) : w.cell? ⟨b, off + i * 2, none⟩ = some (.string (pAtB l i).1) ∧ w.cell? ⟨b, off + i * 2 + 1, none⟩ = some (.string (pAtB l i).2) := by
  have hn := (Rw.len h).1
  obtain ⟨b', off', e, _, _, hc⟩ := Rw.at h (by omega)
  cases e
  obtain ⟨h1, h2⟩ := pcs_at l i hi
  exact ⟨hc _ _ h1, hc _ _ h2⟩
def there (l : List PB) (k : ByteArray) : Bool := decide (pos l k < l.length ∧ (pAtB l (pos l k)).1 = k)
end Go.Proofs.Ytjbamfgfgbmieaa
/-
  putPair: a pair comes into a leaf.
-/
namespace Go.Proofs.Ytjbamfgfgbmieaa
open Go.RowKit
/-- A list with the pair, at its key's place. -/
def insP (l : List PB) (p : PB) : List PB := if there l p.1 = true then l.set (pos l p.1) p else l.take (pos l p.1) ++ [p] ++ l.drop (pos l p.1)
theorem pcs_set1 (ps : List PB) (p : PB) (j : Nat) (hj : j < ps.length) : ((pcs ps).set (j * 2) (.string p.1)).set (j * 2 + 1) (.string p.2) = pcs (ps.set j p) := (pcs_set ps p j hj).symm
theorem bk_grown {w w' : World} {b : Nat} {T : TypeId} {xs : List Value} {o : Option Nat} (h : Bk w b T xs) (hg : w.grownBy w' o) (hne : o ≠ some b) : Bk w' b T xs := (hg.block b h.lt (fun e => hne e.symm)).trans h
theorem pcs_ins (ps : List PB) (p : Nat) (k v : ByteArray) : (pcs ps).take (p * 2) ++ [.string k, .string v] ++ (pcs ps).drop (p * 2) = pcs (ps.take p ++ [(k, v)] ++ ps.drop p) := by
  rw [pcs_take, pcs_drop, pcs_append, pcs_append]
  rfl
end Go.Proofs.Ytjbamfgfgbmieaa
/-
  Cells that are stored in a row one behind the other.
-/
namespace Go.Proofs.Ytjbamfgfgbmieaa
open Go.RowKit
def setL : List Value → Nat → List Value → List Value
  | cl, _, [] => cl
  | cl, o, v :: vs => setL (cl.set o v) (o + 1) vs
theorem setL_length (vs : List Value) : ∀ (cl : List Value) (o : Nat), (setL cl o vs).length = cl.length := by
  induction vs with
  | nil => intro cl o; rfl
  | cons v vs ih => intro cl o; rw [setL, ih, List.length_set]
theorem setL_at (vs : List Value) : ∀ (cl : List Value) (o x : Nat), (setL cl o vs)[x]? = if o ≤ x ∧ x < o + vs.length ∧ x < cl.length then vs[x - o]? else cl[x]? := by
  induction vs with
  | nil => intro cl o x; rw [setL, if_neg]; simp; omega
  | cons v vs ih =>
    intro cl o x
    rw [setL, ih, List.length_set, List.length_cons]
    by_cases h1 : o + 1 ≤ x ∧ x < o + 1 + vs.length ∧ x < cl.length
    · rw [if_pos h1, if_pos (by omega)]
      obtain ⟨y, rfl⟩ : ∃ y, x = o + 1 + y := ⟨x - (o + 1), by omega⟩
      rw [show o + 1 + y - (o + 1) = y by omega, show o + 1 + y - o = y + 1 by omega]
      rfl
    · rw [if_neg h1, List.getElem?_set]
      by_cases h2 : o = x
      · subst h2
        rw [if_pos rfl]
        by_cases h3 : o < cl.length
        · rw [if_pos h3, if_pos (by omega), Nat.sub_self]; rfl
        · rw [if_neg h3, if_neg (by omega), List.getElem?_eq_none (by omega)]
      · rw [if_neg h2, if_neg (by omega)]
theorem bk_setL {g : Nat} {T : TypeId} (vs : List Value) : ∀ (o : Nat) (w : World) (cl : List Value), Bk w g T cl → Bk (w.setCells g o vs) g T (setL cl o vs) := by
  induction vs with
  | nil => intro o w cl h; exact h
  | cons v vs ih => intro o w cl h; rw [World.setCells, setL]; exact ih (o + 1) _ _ (h.set o v)
theorem only_setL {R : Nat → Prop} {b : Nat} (h : R b) : ∀ (vs : List Value) (o : Nat) (w : World), Only R w (w.setCells b o vs)
  | [], _, w => Only.refl _ _
  | v :: vs, o, w => by
    rw [World.setCells]
    exact (only_set h v).trans (only_setL h vs (o + 1) _)
/-- What taking the element i out of a row leaves. -/
theorem del_list (cl xs zs : List Value) (i n s : Nat) (hi : i < n) (hl : n * s ≤ cl.length) (hx : cl.take (n * s) = xs) :
    (setL (setL cl (i * s) (xs.drop ((i + 1) * s))) ((n - 1) * s) zs).take ((n - 1) * s) = xs.take (i * s) ++ xs.drop ((i + 1) * s) := by
  have hxl : xs.length = n * s := by rw [← hx, List.length_take]; omega
  have e1 : (n - 1) * s + s = n * s := by rw [← Nat.succ_mul]; congr 1; omega
  have e2 : (i + 1) * s = i * s + s := Nat.succ_mul i s
  have e3 : (i + 1) * s ≤ n * s := Nat.mul_le_mul_right s hi
  have hd : (xs.drop ((i + 1) * s)).length = n * s - (i + 1) * s := by rw [List.length_drop, hxl]
  apply List.ext_getElem?
  intro x
  rw [List.getElem?_take]
  have hin : ∀ y, y < n * s → cl[y]? = xs[y]? := by
    intro y hy
    rw [← hx, List.getElem?_take, if_pos hy]
  by_cases h1 : x < (n - 1) * s
  · rw [if_pos h1, setL_at, if_neg (by omega), setL_at, hd]
    by_cases h2 : x < i * s
    · rw [if_neg (by omega), List.getElem?_append_left (by rw [List.length_take, hxl]; omega), List.getElem?_take, if_pos h2]
      exact hin x (by omega)
    · rw [if_pos (by omega), List.getElem?_append_right (by rw [List.length_take, hxl]; omega), List.length_take, hxl, Nat.min_eq_left (by omega)]
  · rw [if_neg h1, List.getElem?_eq_none (by rw [List.length_append, List.length_take, hxl, hd]; omega)]
def DelPost (E : TypeId) (size base : Nat) (xs : List Value) (n : Nat) (v : Value) (w : World) (e : Ending) (w' : World) : Prop :=
  ∃ g c, v = .slice (some ⟨g, 0, none⟩) (n + 1) c ∧ e = .returned (.slice (some ⟨g, 0, none⟩) n c) ∧ w'.ownsRow base E size (.slice (some ⟨g, 0, none⟩) n c) n xs ∧ Only (fun y => y = g) w w'
end Go.Proofs.Ytjbamfgfgbmieaa
/-
  kidFor, get: the way down to a key.
-/
namespace Go.Proofs.Ytjbamfgfgbmieaa
open Go.RowKit
theorem kidF_stop {ks : List T} {k : ByteArray} {f p : Nat} (h : ¬ (p + 1 < ks.length ∧ klt k (tAt ks (p + 1)).least = false)) : kidF ks k f p = p := by
  cases f with
  | zero => rfl
  | succ f => rw [kidF, if_neg h]
end Go.Proofs.Ytjbamfgfgbmieaa
/-
  get: what lies beside a key in a tree.
-/
namespace Go.Proofs.Ytjbamfgfgbmieaa
open Go.RowKit
/-- What a look-up answers. -/
def gotV : Option ByteArray → Value
  | none => .tuple #[.string ⟨#[]⟩, .bool false]
  | some v => .tuple #[.string v, .bool true]
structure GetOk (t : T) : Prop where
  asc : Asc t.all
  br : t.ks ≠ [] → t.ps = [] ∧ ∀ x ∈ t.ks, x.full false = true
  few : t.ps.length ≤ 8 ∧ t.ks.length ≤ 8
theorem full_getOk {t : T} {r : Bool} (h : t.full r = true) (ha : Asc t.all) : GetOk t := by
  obtain ⟨ps, ks⟩ := t
  by_cases hk : ks = []
  · subst hk
    exact ⟨ha, fun h => absurd rfl h, by have := full_lf h; show ps.length ≤ 8 ∧ 0 ≤ 8; omega⟩
  · have := full_br h hk
    refine ⟨ha, fun _ => this.2.2, ?_, ?_⟩
    · show ps.length ≤ 8
      rw [this.2.2.1]
      decide
    · show ks.length ≤ 8
      omega
theorem szL_mem : ∀ (ks : List T) (x : T), x ∈ ks → x.size ≤ szL ks
  | k :: ks, x, h => by
    rw [szL]
    rcases List.mem_cons.1 h with rfl | h
    · omega
    · have := szL_mem ks x h; omega
theorem kid_size {ps : List PB} {ks : List T} {x : T} (h : x ∈ ks) : x.size < (T.mk ps ks).size := by
  have := szL_mem ks x h
  rw [T.size]
  omega
end Go.Proofs.Ytjbamfgfgbmieaa
/-
  put: a pair comes into a tree; what one node can't hold comes newly behind it.
-/
namespace Go.Proofs.Ytjbamfgfgbmieaa
open Go.RowKit
def bareT : T := .mk [] []
/-- Kids, one of which has become two. -/
def insK (ks : List T) (i : Nat) (r : T × T) : List T := if r.2.bare = true then ks.set i r.1 else (ks.set i r.1).take (i + 1) ++ [r.2] ++ (ks.set i r.1).drop (i + 1)
def putF : Nat → T → PB → T × T
  | 0, t, _ => (t, bareT)
  | f + 1, t, p => if t.ks = [] then shT (.mk (insP t.ps p) t.ks) bareT else shT (.mk t.ps (insK t.ks (kidOf t.ks p.1) (putF f (tAt t.ks (kidOf t.ks p.1)) p))) bareT
theorem insP_len (l : List PB) (p : PB) : (insP l p).length ≤ l.length + 1 := by
  unfold insP
  split
  · simp
  · simp only [List.length_append, List.length_take, List.length_drop, List.length_cons, List.length_nil]; omega
theorem insK_len (ks : List T) (i : Nat) (r : T × T) : (insK ks i r).length ≤ ks.length + 1 := by
  unfold insK
  split
  · simp
  · simp only [List.length_append, List.length_take, List.length_drop, List.length_cons, List.length_nil, List.length_set]; omega
theorem shT_small (a b : T) : (shT a b).2.ps.length ≤ a.ps.length + b.ps.length ∧ (shT a b).2.ks.length ≤ a.ks.length + b.ks.length := by
  constructor
  · show ((a.ps ++ b.ps).drop _).length ≤ _
    rw [List.length_drop, List.length_append]; omega
  · show ((a.ks ++ b.ks).drop _).length ≤ _
    rw [List.length_drop, List.length_append]; omega
theorem ptrs_ins (A : Nat → Nat) (n p c : Nat) (h : p ≤ n) : (ptrs A n).take p ++ [ptr c] ++ (ptrs A n).drop p = ptrs (fun i => if i < p then A i else if i = p then c else A (i - 1)) (n + 1) := by
  apply List.ext_getElem?
  intro i
  rcases Nat.lt_trichotomy i p with hi | hi | hi
  · rw [List.append_assoc, List.getElem?_append_left (by simp [ptrs]; omega), List.getElem?_take, if_pos hi, ptrs_at _ _ _ (by omega), ptrs_at _ _ _ (by omega), if_pos hi]
  · rw [List.append_assoc, List.getElem?_append_right (by simp [ptrs]; omega), ptrs_at _ _ _ (by omega), if_neg (by omega), if_pos hi]
    have : i - (List.take p (ptrs A n)).length = 0 := by simp [ptrs]; omega
    rw [this]; rfl
  · rw [List.getElem?_append_right (by simp [ptrs]; omega), List.getElem?_drop]
    have : p + (i - (List.take p (ptrs A n) ++ [ptr c]).length) = i - 1 := by simp [ptrs]; omega
    rw [this]
    by_cases hn : i < n + 1
    · rw [ptrs_at _ _ _ (by omega), ptrs_at _ _ _ hn, if_neg (by omega), if_neg (by omega)]
    · rw [List.getElem?_eq_none (by simp [ptrs]; omega), List.getElem?_eq_none (by simp [ptrs]; omega)]
theorem tAt_ins (ks : List T) (p : Nat) (c : T) (h : p ≤ ks.length) (i : Nat) : tAt (ks.take p ++ [c] ++ ks.drop p) i = if i < p then tAt ks i else if i = p then c else tAt ks (i - 1) := by
  have hl : (ks.take p).length = p := by rw [List.length_take]; omega
  rcases Nat.lt_trichotomy i p with hi | hi | hi
  · rw [List.append_assoc, tAt_app1 (by omega), tAt_take hi, if_pos hi]
  · rw [List.append_assoc, tAt_app2 (by omega), hl, if_neg (by omega), if_pos hi, show i - p = 0 by omega]; rfl
  · rw [tAt_app2 (by rw [List.length_append, hl]; simp; omega), tAt_drop, if_neg (by omega), if_neg (by omega)]
    congr 1
    rw [List.length_append, hl]; simp; omega
end Go.Proofs.Ytjbamfgfgbmieaa
/-
  Putting a pair in, as plain data: the program's way and the specification's come to the same; what comes of it is full, even and in order.
-/
namespace Go.Proofs.Ytjbamfgfgbmieaa
open Go.RowKit
theorem key_eq {a b : ByteArray} (h : klt a b = false) (h' : klt b a = false) : a = b := by
  by_cases e : a.toList = b.toList
  · exact str_ext e
  · have := less_total _ _ h e
    rw [show Op.bytesLess b.toList a.toList = klt b a from rfl, h'] at this
    cases this
theorem there_cons_lt {x p : PB} {l : List PB} (h : klt x.1 p.1 = true) : there (x :: l) p.1 = there l p.1 ∧ pos (x :: l) p.1 = pos l p.1 + 1 := by
  have e : pos (x :: l) p.1 = pos l p.1 + 1 := by rw [pos, if_pos h]
  refine ⟨?_, e⟩
  unfold there
  rw [e]
  have h1 : (pos l p.1 + 1 < (x :: l).length) = (pos l p.1 < l.length) := by simp
  have h2 : pAtB (x :: l) (pos l p.1 + 1) = pAtB l (pos l p.1) := by simp [pAtB]
  rw [h2]
  simp only [h1]
theorem pos_cons_ge {x p : PB} {l : List PB} (h : klt x.1 p.1 = false) : pos (x :: l) p.1 = 0 := by rw [pos, h]; rfl
theorem insP_nil (p : PB) : insP [] p = [p] := by simp [insP, there, pos]
theorem insP_lt {x p : PB} {l : List PB} (h : klt x.1 p.1 = true) : insP (x :: l) p = x :: insP l p := by
  obtain ⟨h1, h2⟩ := there_cons_lt (l := l) h
  unfold insP
  rw [h1, h2]
  split <;> simp
theorem insP_eq {x p : PB} {l : List PB} (h : x.1 = p.1) : insP (x :: l) p = p :: l := by
  have h0 : klt x.1 p.1 = false := by rw [h]; exact klt_irrefl _
  have h1 := pos_cons_ge (l := l) h0
  have h2 : there (x :: l) p.1 = true := by unfold there; rw [h1]; simp [pAtB, h]
  unfold insP
  rw [h2, h1]; simp
theorem insP_gt {x p : PB} {l : List PB} (h : klt x.1 p.1 = false) (hne : x.1 ≠ p.1) : insP (x :: l) p = p :: x :: l := by
  have h1 := pos_cons_ge (l := l) h
  have h2 : there (x :: l) p.1 = false := by unfold there; rw [h1]; simp [pAtB, hne]
  unfold insP
  rw [h2, h1]; simp
theorem insP_left (A : List PB) {B : List PB} {p : PB} (h : ∀ x ∈ A, klt x.1 p.1 = true) : insP (A ++ B) p = A ++ insP B p := by
  induction A with
  | nil => rfl
  | cons a A ih => rw [List.cons_append, insP_lt (h a (by simp)), ih (fun x hx => h x (by simp [hx])), List.cons_append]
theorem insP_right (A : List PB) {B : List PB} {p : PB} (h : ∀ x ∈ B, klt p.1 x.1 = true) : insP (A ++ B) p = insP A p ++ B := by
  induction A with
  | nil =>
    rw [List.nil_append, insP_nil]
    cases B with
    | nil => rw [insP_nil]; rfl
    | cons b B =>
      have := h b (by simp)
      rw [insP_gt (klt_asymm this) (klt_ne this).symm]; rfl
  | cons a A ih =>
    rw [List.cons_append]
    cases hk : klt a.1 p.1 with
    | true => rw [insP_lt hk, insP_lt hk, ih]; rfl
    | false =>
      by_cases e : a.1 = p.1
      · rw [insP_eq e, insP_eq e]; rfl
      · rw [insP_gt hk e, insP_gt hk e]; rfl
theorem insP_mem {l : List PB} {p x : PB} (h : x ∈ insP l p) : x = p ∨ x ∈ l := by
  induction l with
  | nil => rw [insP_nil] at h; simpa using h
  | cons a l ih =>
    cases hk : klt a.1 p.1 with
    | true =>
      rw [insP_lt hk] at h
      rcases List.mem_cons.1 h with h | h
      · exact .inr (by simp [h])
      · exact (ih h).imp id (fun h => by simp [h])
    | false =>
      by_cases e : a.1 = p.1
      · rw [insP_eq e] at h
        rcases List.mem_cons.1 h with h | h
        · exact .inl h
        · exact .inr (by simp [h])
      · rw [insP_gt hk e] at h
        rcases List.mem_cons.1 h with h | h
        · exact .inl h
        · exact .inr h
theorem insP_asc {l : List PB} {p : PB} (h : Asc l) : Asc (insP l p) := by
  induction l with
  | nil => rw [insP_nil]; exact List.pairwise_singleton _ _
  | cons a l ih =>
    obtain ⟨h1, h2⟩ := List.pairwise_cons.1 h
    cases hk : klt a.1 p.1 with
    | true =>
      rw [insP_lt hk]
      refine List.pairwise_cons.2 ⟨fun x hx => ?_, ih h2⟩
      rcases insP_mem hx with rfl | hx
      · exact hk
      · exact h1 x hx
    | false =>
      by_cases e : a.1 = p.1
      · rw [insP_eq e]
        exact List.pairwise_cons.2 ⟨fun x hx => by rw [← e]; exact h1 x hx, h2⟩
      · rw [insP_gt hk e]
        have hlt : klt p.1 a.1 = true := by
          cases hq : klt p.1 a.1 with
          | true => rfl
          | false => exact absurd (key_eq hk hq) e
        refine List.pairwise_cons.2 ⟨fun x hx => ?_, h⟩
        rcases List.mem_cons.1 hx with rfl | hx
        · exact hlt
        · exact klt_trans hlt (h1 x hx)
theorem insP_pos (l : List PB) (p : PB) : l.length ≤ (insP l p).length ∧ 1 ≤ (insP l p).length := by
  induction l with
  | nil => rw [insP_nil]; simp
  | cons a l ih =>
    cases hk : klt a.1 p.1 with
    | true => rw [insP_lt hk]; simp; omega
    | false =>
      by_cases e : a.1 = p.1
      · rw [insP_eq e]; simp
      · rw [insP_gt hk e]; simp
/-- The specification's way: pair after pair. -/
def insS : List PB → PB → Bool → List PB
  | [], p, d => if d = true then [] else [p]
  | x :: l, p, d => (if d = false ∧ klt x.1 p.1 = false then [p] else []) ++ ((if x.1 = p.1 then [] else [x]) ++ insS l p (d || !klt x.1 p.1))
theorem insS_done {l : List PB} {p : PB} (h : ∀ x ∈ l, x.1 ≠ p.1) : insS l p true = l := by
  induction l with
  | nil => rfl
  | cons a l ih =>
    rw [insS, if_neg (by simp), if_neg (h a (by simp))]
    simp [ih (fun x hx => h x (by simp [hx]))]
theorem insS_eq {l : List PB} {p : PB} (h : Asc l) : insS l p false = insP l p := by
  induction l with
  | nil => rw [insP_nil]; rfl
  | cons a l ih =>
    obtain ⟨h1, h2⟩ := List.pairwise_cons.1 h
    cases hk : klt a.1 p.1 with
    | true =>
      rw [insP_lt hk, insS, if_neg (by simp [hk]), if_neg (klt_ne hk), hk, ← ih h2]; rfl
    | false =>
      by_cases e : a.1 = p.1
      · rw [insP_eq e, insS, if_pos ⟨rfl, hk⟩, if_pos e, hk]
        have := insS_done (l := l) (p := p) (fun x hx => by rw [← e]; exact (klt_ne (h1 x hx)).symm)
        simp [this]
      · have hlt : klt p.1 a.1 = true := by
          cases hq : klt p.1 a.1 with
          | true => rfl
          | false => exact absurd (key_eq hk hq) e
        rw [insP_gt hk e, insS, if_pos ⟨rfl, hk⟩, if_neg e, hk]
        have := insS_done (l := l) (p := p) (fun x hx => (klt_ne (klt_trans hlt (h1 x hx))).symm)
        simp [this]
/-- The specification's way down: the last kid whose least key isn't greater. -/
def wayF (ks : List T) (k : ByteArray) : Nat → Nat → Nat → Nat
  | 0, _, a => a
  | f + 1, i, a => if i < ks.length then wayF ks k f (i + 1) (if klt k (tAt ks i).least = false then i else a) else a
def wayOf (ks : List T) (k : ByteArray) : Nat := wayF ks k ks.length 1 0
theorem wayF_up (ks : List T) (k : ByteArray) : ∀ f i a, ks.length ≤ i + f → (∀ j, i ≤ j → j < ks.length → klt k (tAt ks j).least = true) → wayF ks k f i a = a
  | 0, i, a, _, _ => rfl
  | f + 1, i, a, h, hg => by
    rw [wayF]
    split
    · rename_i hi
      rw [hg i (Nat.le_refl _) hi]
      exact wayF_up ks k f (i + 1) a (by omega) (fun j h1 h2 => hg j (by omega) h2)
    · rfl
theorem wayF_spec (ks : List T) (k : ByteArray) (q : Nat) (hlo : ∀ j, 1 ≤ j → j ≤ q → j < ks.length → klt k (tAt ks j).least = false) (hhi : ∀ j, q < j → j < ks.length → klt k (tAt ks j).least = true) (hq : q < ks.length) : ∀ f i, 1 ≤ i → i ≤ q + 1 → ks.length ≤ i + f → wayF ks k f i (i - 1) = q
  | 0, i, h1, h2, h3 => by rw [wayF]; omega
  | f + 1, i, h1, h2, h3 => by
    by_cases e : i = q + 1
    · rw [wayF_up ks k (f + 1) i _ h3 (fun j hj hl => hhi j (by omega) hl)]; omega
    · rw [wayF, if_pos (by omega), if_pos (hlo i h1 (by omega) (by omega))]
      exact wayF_spec ks k q hlo hhi hq f (i + 1) (by omega) (by omega) (by omega)
theorem least_mem {t : T} (h : t.full false = true) : ∃ v, (t.least, v) ∈ t.all := by
  obtain ⟨v, rest, e⟩ := full_head _ _ h
  exact ⟨v, by rw [e]; simp⟩
theorem allL_mem {ks : List T} {q : Nat} (h : q < ks.length) {x : PB} (hx : x ∈ (tAt ks q).all) : x ∈ allL ks := by
  rw [all_split h]; simp [hx]
theorem leasts_asc {ks : List T} (hf : ∀ x ∈ ks, x.full false = true) (ha : Asc (allL ks)) {i j : Nat} (hij : i < j) (hj : j < ks.length) : klt (tAt ks i).least (tAt ks j).least = true := by
  have h1 : j < ks.length := hj
  rw [all_split h1] at ha
  obtain ⟨_, _, hab⟩ := List.pairwise_append.1 ha
  obtain ⟨v, hv⟩ := least_mem (hf _ (tAt_mem (show i < ks.length by omega)))
  obtain ⟨u, hu⟩ := least_mem (hf _ (tAt_mem h1))
  have e : tAt (ks.take j) i = tAt ks i := tAt_take hij
  have := allL_mem (ks := ks.take j) (q := i) (by rw [List.length_take]; omega) (by rw [e]; exact hv)
  exact hab _ this _ (List.mem_append_left _ hu)
theorem wayOf_eq {ks : List T} {k : ByteArray} (hk : ks ≠ []) (hf : ∀ x ∈ ks, x.full false = true) (ha : Asc (allL ks)) : wayOf ks k = kidOf ks k := by
  obtain ⟨h1, h2, h3⟩ := kidOf_spec k hk
  refine wayF_spec ks k (kidOf ks k) (fun j a b c => ?_) (fun j a b => ?_) h1 ks.length 1 (Nat.le_refl _) (by omega) (by omega)
  · rcases h2 with h2 | h2
    · omega
    · by_cases e : j = kidOf ks k
      · rw [e]; exact h2
      · have := leasts_asc hf ha (show j < kidOf ks k by omega) h1
        cases hq : klt k (tAt ks j).least with
        | false => rfl
        | true => rw [klt_trans hq this] at h2; cases h2
  · by_cases e : j = kidOf ks k + 1
    · rw [e]; exact h3 (by omega)
    · exact klt_trans (h3 (by omega)) (leasts_asc hf ha (show kidOf ks k + 1 < j by omega) b)
def splT (t : T) : List T := if t.ks = [] ∧ 4 < t.ps.length then [.mk (t.ps.take 3) [], .mk (t.ps.drop 3) []] else if 4 < t.ks.length then [.mk [] (t.ks.take 3), .mk [] (t.ks.drop 3)] else [t]
def putS : Nat → T → PB → List T
  | 0, t, _ => [t]
  | f + 1, t, p => if t.ks = [] then splT (.mk (insS t.ps p false) []) else splT (.mk [] (t.ks.take (wayOf t.ks p.1) ++ putS f (tAt t.ks (wayOf t.ks p.1)) p ++ t.ks.drop (wayOf t.ks p.1 + 1)))
def two (r : T × T) : List T := if r.2.bare = true then [r.1] else [r.1, r.2]
theorem bare_bareT : bareT.bare = true := rfl
theorem bare_iff {t : T} : t.bare = true ↔ t = bareT := by
  obtain ⟨ps, ks⟩ := t
  constructor
  · intro h
    have h : ps.length + ks.length = 0 := of_decide_eq_true h
    rw [List.eq_nil_of_length_eq_zero (show ps.length = 0 by omega), List.eq_nil_of_length_eq_zero (show ks.length = 0 by omega)]; rfl
  · intro h; rw [h]; rfl
theorem shT_bare (t : T) : shT t bareT = (.mk (t.ps.take (cutN t.ps.length)) (t.ks.take (cutN t.ks.length)), .mk (t.ps.drop (cutN t.ps.length)) (t.ks.drop (cutN t.ks.length))) := by
  simp [shT, bareT, T.ps, T.ks]
theorem T.eta (t : T) : T.mk t.ps t.ks = t := by cases t; rfl
theorem shT_one {t : T} (h1 : t.ps.length ≤ 4) (h2 : t.ks.length ≤ 4) : shT t bareT = (t, bareT) := by
  rw [shT_bare, show cutN t.ps.length = t.ps.length by simp [cutN, h1], show cutN t.ks.length = t.ks.length by simp [cutN, h2]]
  simp [T.eta, bareT]
theorem shT_leaf {ps : List PB} (h : 4 < ps.length) : shT (.mk ps []) bareT = (.mk (ps.take 3) [], .mk (ps.drop 3) []) := by
  rw [shT_bare]; simp only [T.ps, T.ks]
  rw [show cutN ps.length = 3 by simp [cutN]; omega]
  simp
theorem shT_branch {ks : List T} (h : 4 < ks.length) : shT (.mk [] ks) bareT = (.mk [] (ks.take 3), .mk [] (ks.drop 3)) := by
  rw [shT_bare]; simp only [T.ps, T.ks]
  rw [show cutN ks.length = 3 by simp [cutN]; omega]
  simp
/-- What is put into one node, of at most five, comes to one full node or two. -/
theorem not_bare {ps : List PB} {ks : List T} (h : 0 < ps.length + ks.length) : (T.mk ps ks).bare = false := decide_eq_false (by show ¬ (ps.length + ks.length = 0); omega)
theorem two_one (a : T) : two (a, bareT) = [a] := rfl
theorem two_two {a b : T} (h : b.bare = false) : two (a, b) = [a, b] := by unfold two; rw [h]; rfl
theorem two_leaf {ps : List PB} : two (shT (.mk ps []) bareT) = splT (.mk ps []) := by
  unfold splT
  show _ = if ([] : List T) = [] ∧ 4 < ps.length then [T.mk (ps.take 3) [], .mk (ps.drop 3) []] else if 4 < ([] : List T).length then _ else _
  by_cases h : 4 < ps.length
  · rw [shT_leaf h, if_pos ⟨rfl, h⟩, two_two (not_bare (by simp; omega))]
  · rw [shT_one (t := .mk ps []) (show ps.length ≤ 4 by omega) (show ([] : List T).length ≤ 4 by simp), two_one, if_neg (fun e => h e.2), if_neg (by simp)]
theorem two_branch {ks : List T} (hk : ks ≠ []) : two (shT (.mk [] ks) bareT) = splT (.mk [] ks) := by
  unfold splT
  show _ = if ks = [] ∧ 4 < ([] : List PB).length then _ else if 4 < ks.length then [T.mk [] (ks.take 3), T.mk [] (ks.drop 3)] else [T.mk [] ks]
  rw [if_neg (fun e => hk e.1)]
  by_cases h : 4 < ks.length
  · rw [shT_branch h, if_pos h, two_two (not_bare (by simp; omega))]
  · rw [shT_one (t := .mk [] ks) (show ([] : List PB).length ≤ 4 by simp) (show ks.length ≤ 4 by omega), two_one, if_neg h]
theorem insK_two (ks : List T) (q : Nat) (r : T × T) (h : q < ks.length) : insK ks q r = ks.take q ++ two r ++ ks.drop (q + 1) := by
  have e : ks.set q r.1 = ks.take q ++ r.1 :: ks.drop (q + 1) := List.set_eq_take_append_cons_drop.trans (by rw [if_pos h])
  have hl : (ks.take q).length = q := by rw [List.length_take]; omega
  unfold insK two
  split
  · rw [e]; simp
  · rw [e]
    have e1 : (ks.take q ++ r.1 :: ks.drop (q + 1)).take (q + 1) = ks.take q ++ [r.1] := by
      rw [List.take_append, hl, List.take_of_length_le (by omega)]; simp [show q + 1 - q = 1 by omega]
    have e2 : (ks.take q ++ r.1 :: ks.drop (q + 1)).drop (q + 1) = ks.drop (q + 1) := by
      rw [List.drop_append, hl, List.drop_of_length_le (by omega)]; simp [show q + 1 - q = 1 by omega]
    rw [e1, e2]; simp
/-- A tree that may be put into: even, full but for a root, in order. -/
structure PutIn (h : Nat) (r : Bool) (t : T) : Prop where
  ev : Ev h t
  full : t.full r = true ∨ (r = true ∧ t = bareT)
  asc : Asc t.all
theorem PutIn.kids {h : Nat} {r : Bool} {ps : List PB} {ks : List T} (g : PutIn (h + 1) r (.mk ps ks)) (hk : ks ≠ []) : ps = [] ∧ 2 ≤ ks.length ∧ ks.length ≤ 4 ∧ (∀ x ∈ ks, x.full false = true) ∧ (∀ x ∈ ks, Ev h x) ∧ Asc (allL ks) := by
  rcases g.full with hf | ⟨_, e⟩
  · obtain ⟨h1, h2, rfl, h3⟩ := full_br hf hk
    rcases g.ev with ⟨e, _⟩ | ⟨_, e⟩
    · exact absurd e hk
    · exact ⟨rfl, h1, h2, h3, e, by simpa [T.all] using g.asc⟩
  · cases e; exact absurd rfl hk
theorem PutIn.kid {h : Nat} {r : Bool} {ps : List PB} {ks : List T} (g : PutIn (h + 1) r (.mk ps ks)) (hk : ks ≠ []) (k : ByteArray) : PutIn h false (tAt ks (kidOf ks k)) := by
  obtain ⟨_, _, _, h3, h4, h5⟩ := g.kids hk
  obtain ⟨q1, _, _⟩ := kidOf_spec k hk
  exact ⟨h4 _ (tAt_mem q1), .inl (h3 _ (tAt_mem q1)), (kid_fnd hk h3 h5).2⟩
theorem PutIn.leaf {h : Nat} {r : Bool} {ps : List PB} (g : PutIn h r (.mk ps [])) : h = 1 ∧ ps.length ≤ 4 ∧ (r = false → 2 ≤ ps.length) ∧ Asc ps := by
  have hh : h = 1 := (ev_lv h _ g.ev).symm
  have ha : Asc ps := by simpa [T.all, allL] using g.asc
  rcases g.full with hf | ⟨rfl, e⟩
  · obtain ⟨h1, h2⟩ := full_lf hf
    exact ⟨hh, h1, fun e => by subst e; simpa using h2, ha⟩
  · cases e; exact ⟨hh, by simp, by simp, ha⟩
theorem putS_eq : ∀ (h : Nat) (r : Bool) (t : T) (p : PB), PutIn h r t → putS h t p = two (putF h t p)
  | 0, r, t, p, g => g.ev.elim
  | h + 1, r, .mk ps ks, p, g => by
    by_cases hk : ks = []
    · subst hk
      obtain ⟨_, _, _, ha⟩ := g.leaf
      rw [putS, putF]
      simp only [T.ks, T.ps, if_true]
      rw [insS_eq ha, two_leaf]
    · obtain ⟨rfl, h1, h2, h3, h4, h5⟩ := g.kids hk
      obtain ⟨q1, _, _⟩ := kidOf_spec p.1 hk
      rw [putS, putF]
      simp only [T.ks, T.ps, hk, if_false]
      rw [wayOf_eq hk h3 h5, putS_eq h false _ p (g.kid hk p.1), insK_two _ _ _ q1, two_branch]
      simp only [two]; split <;> simp
/-- What comes of it. -/
structure PutOut (h : Nat) (r : Bool) (l : List PB) (x : T × T) : Prop where
  ev : ∀ y ∈ two x, Ev h y
  one : x.2.bare = true → x.1.full r = true
  both : x.2.bare = false → x.1.full false = true ∧ x.2.full false = true
  all : allL (two x) = l
theorem allL_two (x : T × T) : allL (two x) = x.1.all ++ x.2.all := by
  unfold two
  split
  · rename_i h; rw [bare_iff.1 h]; simp [allL, bareT, T.all]
  · simp [allL]
theorem PutOut.fulls {h : Nat} {l : List PB} {x : T × T} (g : PutOut h false l x) : ∀ y ∈ two x, y.full false = true := by
  intro y hy
  unfold two at hy
  cases e : x.2.bare with
  | true => rw [e] at hy; simp at hy; subst hy; exact g.one e
  | false =>
    rw [e] at hy; simp at hy
    rcases hy with rfl | rfl
    · exact (g.both e).1
    · exact (g.both e).2
theorem two_len (x : T × T) : 1 ≤ (two x).length ∧ (two x).length ≤ 2 := by unfold two; split <;> simp
theorem full_mk_leaf {ps : List PB} {r : Bool} (h : ps.length ≤ 4) (h2 : 2 ≤ ps.length ∨ r = true ∧ ps.length = 1) : (T.mk ps []).full r = true := by
  simpa [T.full, h] using h2
theorem full_mk_br {ks : List T} {r : Bool} (h1 : 2 ≤ ks.length) (h2 : ks.length ≤ 4) (h3 : ∀ x ∈ ks, x.full false = true) : (T.mk [] ks).full r = true := by
  have hk : ks ≠ [] := by rintro rfl; simp at h1
  simp [T.full, hk, h1, h2, (fullL_iff ks).2 h3]
theorem shT_out_leaf {ps : List PB} {r : Bool} (h5 : ps.length ≤ 5) (h1 : 1 ≤ ps.length) (h2 : r = false → 2 ≤ ps.length) : PutOut 1 r ps (shT (.mk ps []) bareT) := by
  by_cases h : 4 < ps.length
  · rw [shT_leaf h]
    have hb : (T.mk (ps.drop 3) []).bare = false := not_bare (by simp; omega)
    refine ⟨?_, fun e => absurd e (by show ¬ _ = true; rw [hb]; simp), fun _ => ⟨full_mk_leaf (by simp; omega) (.inl (by simp; omega)), full_mk_leaf (by simp; omega) (.inl (by simp; omega))⟩, ?_⟩
    · intro y hy
      simp only [two, hb] at hy
      simp at hy
      rcases hy with rfl | rfl <;> exact .inl ⟨rfl, rfl⟩
    · rw [allL_two]; simp [T.all, allL]
  · rw [shT_one (t := .mk ps []) (show ps.length ≤ 4 by omega) (show ([] : List T).length ≤ 4 by simp)]
    refine ⟨?_, fun _ => full_mk_leaf (by omega) ?_, fun e => absurd e (by show ¬ bareT.bare = false; rw [bare_bareT]; simp), by rw [allL_two]; simp [T.all, allL, bareT]⟩
    · intro y hy
      simp only [two, bare_bareT, if_true, List.mem_singleton] at hy
      subst hy; exact .inl ⟨rfl, rfl⟩
    · cases r with
      | false => exact .inl (h2 rfl)
      | true =>
        by_cases e : ps.length = 1
        · exact .inr ⟨rfl, e⟩
        · exact .inl (by omega)
theorem shT_out_br {h : Nat} {ks : List T} {r : Bool} (h5 : ks.length ≤ 5) (h1 : 2 ≤ ks.length) (hf : ∀ x ∈ ks, x.full false = true) (he : ∀ x ∈ ks, Ev h x) : PutOut (h + 1) r (allL ks) (shT (.mk [] ks) bareT) := by
  have hk : ks ≠ [] := by rintro rfl; simp at h1
  by_cases h' : 4 < ks.length
  · rw [shT_branch h']
    have hb : (T.mk [] (ks.drop 3)).bare = false := not_bare (by simp; omega)
    have m1 : ∀ x ∈ ks.take 3, x ∈ ks := fun x hx => List.mem_of_mem_take hx
    have m2 : ∀ x ∈ ks.drop 3, x ∈ ks := fun x hx => List.mem_of_mem_drop hx
    have n1 : ks.take 3 ≠ [] := by intro e; have := congrArg List.length e; rw [List.length_take, List.length_nil] at this; omega
    have n2 : ks.drop 3 ≠ [] := by intro e; have := congrArg List.length e; simp at this; omega
    refine ⟨?_, fun e => absurd e (by show ¬ _ = true; rw [hb]; simp), fun _ => ⟨full_mk_br (by simp; omega) (by simp; omega) (fun x hx => hf x (m1 x hx)), full_mk_br (by simp; omega) (by simp; omega) (fun x hx => hf x (m2 x hx))⟩, ?_⟩
    · intro y hy
      simp only [two, hb] at hy
      simp at hy
      rcases hy with rfl | rfl
      · exact .inr ⟨n1, fun x hx => he x (m1 x hx)⟩
      · exact .inr ⟨n2, fun x hx => he x (m2 x hx)⟩
    · rw [allL_two]
      simp only [T.all, List.nil_append]
      rw [← allL_append, List.take_append_drop]
  · rw [shT_one (t := .mk [] ks) (show ([] : List PB).length ≤ 4 by simp) (show ks.length ≤ 4 by omega)]
    refine ⟨?_, fun _ => full_mk_br h1 (by omega) hf, fun e => absurd e (by show ¬ bareT.bare = false; rw [bare_bareT]; simp), by rw [allL_two]; simp [T.all, allL, bareT]⟩
    intro y hy
    simp only [two, bare_bareT, if_true, List.mem_singleton] at hy
    subst hy; exact .inr ⟨hk, he⟩
theorem putF_out : ∀ (h : Nat) (r : Bool) (t : T) (p : PB), PutIn h r t → PutOut h r (insP t.all p) (putF h t p)
  | 0, r, t, p, g => g.ev.elim
  | h + 1, r, .mk ps ks, p, g => by
    by_cases hk : ks = []
    · subst hk
      obtain ⟨hh, hl, hr, ha⟩ := g.leaf
      obtain rfl : h = 0 := by omega
      rw [putF]
      simp only [T.ks, T.ps, if_true]
      have := shT_out_leaf (ps := insP ps p) (r := r) (by have := insP_len ps p; omega) (insP_pos ps p).2 (fun e => by have := hr e; have := (insP_pos ps p).1; omega)
      simpa [T.all, allL] using this
    · obtain ⟨rfl, h1, h2, h3, h4, h5⟩ := g.kids hk
      obtain ⟨q1, q2, q3⟩ := kidOf_spec p.1 hk
      obtain ⟨a1, a2, a3⟩ := kid_apart h3 h5 q1 q2 q3
      have ih := putF_out h false _ p (g.kid hk p.1)
      rw [putF]
      simp only [T.ks, T.ps, hk, if_false]
      rw [insK_two _ _ _ q1]
      generalize putF h (tAt ks (kidOf ks p.1)) p = x at *
      have htl := two_len x
      have hm : ∀ y ∈ ks.take (kidOf ks p.1) ++ two x ++ ks.drop (kidOf ks p.1 + 1), y ∈ ks ∨ y ∈ two x := by
        intro y hy
        rcases List.mem_append.1 hy with hy | hy
        · rcases List.mem_append.1 hy with hy | hy
          · exact .inl (List.mem_of_mem_take hy)
          · exact .inr hy
        · exact .inl (List.mem_of_mem_drop hy)
      have := shT_out_br (h := h) (r := r) (ks := ks.take (kidOf ks p.1) ++ two x ++ ks.drop (kidOf ks p.1 + 1)) (by simp only [List.length_append, List.length_take, List.length_drop]; omega) (by simp only [List.length_append, List.length_take, List.length_drop]; omega)
        (fun y hy => (hm y hy).elim (h3 y) (ih.fulls y)) (fun y hy => (hm y hy).elim (h4 y) (ih.ev y))
      have e : allL (ks.take (kidOf ks p.1) ++ two x ++ ks.drop (kidOf ks p.1 + 1)) = insP (T.mk [] ks).all p := by
        rw [allL_append, allL_append, ih.all, show (T.mk [] ks).all = allL ks by simp [T.all], all_split q1, insP_left _ a1, insP_right _ a2, List.append_assoc]
      rwa [e] at this
/-- The root behind the put. -/
def rootT (x : T × T) : T := if x.2.bare = true then x.1 else .mk [] [x.1, x.2]
theorem rootT_full {h : Nat} {l : List PB} {x : T × T} (g : PutOut h true l x) : (rootT x).full true = true ∧ (∃ h, Ev h (rootT x)) ∧ (rootT x).all = l := by
  unfold rootT
  cases e : x.2.bare with
  | true =>
    refine ⟨g.one e, ⟨h, g.ev _ (by simp [two, e])⟩, ?_⟩
    have := g.all
    rw [two, e] at this
    simpa [allL] using this
  | false =>
    obtain ⟨h1, h2⟩ := g.both e
    have ht : two x = [x.1, x.2] := by simp [two, e]
    refine ⟨full_mk_br (by simp) (by simp) (by simp; exact ⟨h1, h2⟩), ⟨h + 1, .inr ⟨by simp, fun y hy => g.ev y (by rw [ht]; exact hy)⟩⟩, ?_⟩
    have := g.all
    rw [ht] at this
    simpa [T.all] using this
theorem pOkF_of (l : List PB) (hk : ∀ x ∈ l, kOk x.1 = true ∧ vOk x.2 = true) (ha : Asc l) : ∀ f k, k + f ≤ l.length → pOkF l f k = true
  | 0, k, _ => rfl
  | f + 1, k, h => by
    have hlt : k < l.length := by omega
    have := hk (pAtB l k) (by rw [pAtB_lt hlt]; exact List.getElem_mem hlt)
    rw [pOkF, this.1, this.2, pOkF_of l hk ha f (k + 1) (by omega)]
    by_cases e : k = 0
    · simp [e]
    · have := ha.at (show k - 1 < k by omega) hlt
      simp only [klt] at this
      simp [this]
theorem pOk_of {l : List PB} (hl : l.length ≤ 200) (hk : ∀ x ∈ l, kOk x.1 = true ∧ vOk x.2 = true) (ha : Asc l) : pOk l = true := by
  simp [pOk, hl, pOkF_of l hk ha l.length 0 (by omega)]
theorem pOkF_mem (l : List PB) : ∀ f k, pOkF l f k = true → ∀ i, k ≤ i → i < k + f → kOk (pAtB l i).1 = true ∧ vOk (pAtB l i).2 = true
  | 0, k, _, i, h1, h2 => by omega
  | f + 1, k, h, i, h1, h2 => by
    rw [pOkF] at h
    simp only [Bool.and_eq_true] at h
    by_cases e : i = k
    · rw [e]; exact ⟨h.1.1.1, h.1.1.2⟩
    · exact pOkF_mem l f (k + 1) h.2 i (by omega) (by omega)
theorem pOk_mem {l : List PB} (h : pOk l = true) {x : PB} (hx : x ∈ l) : kOk x.1 = true ∧ vOk x.2 = true := by
  simp only [pOk, Bool.and_eq_true] at h
  obtain ⟨i, hi, rfl⟩ := List.mem_iff_getElem.1 hx
  rw [← pAtB_lt hi]
  exact pOkF_mem l l.length 0 h.2 i (by omega) (by omega)
theorem pOk_ins {l : List PB} {p : PB} (h : pOk l = true) (hk : kOk p.1 = true) (hv : vOk p.2 = true) (hl : (insP l p).length ≤ 200) : pOk (insP l p) = true :=
  pOk_of hl (fun _ hx => (insP_mem hx).elim (fun e => e ▸ ⟨hk, hv⟩) (fun hx => pOk_mem h hx)) (insP_asc (pOk_asc h))
end Go.Proofs.Ytjbamfgfgbmieaa
/-
  put: a pair comes in below a limb; what is too much for it comes newly behind it.
-/
namespace Go.Proofs.Ytjbamfgfgbmieaa
open Go.RowKit
theorem below_dn (w : World) (q : Nat) : Below w.heap.size w (w.drewN q) := ⟨rfl, rfl, rfl, Nat.le_refl _, fun _ _ => rfl⟩
theorem small_out {h : Nat} {r : Bool} {l : List PB} {x : T × T} (g : PutOut h r l x) : x.2.ps.length + x.2.ks.length ≤ 8 := by
  cases e : x.2.bare with
  | true => rw [bare_iff.1 e]; decide
  | false =>
    have := (g.both e).2
    clear g e
    generalize x.2 = y at *
    obtain ⟨ps, ks⟩ := y
    simp only [T.ps, T.ks]
    by_cases hk : ks = []
    · subst hk; have := full_lf this; simp; omega
    · obtain ⟨_, h2, rfl, _⟩ := full_br this hk; simp; omega
theorem PutIn.small {h : Nat} {r : Bool} {t : T} (g : PutIn h r t) : t.ps.length ≤ 4 ∧ t.ks.length ≤ 4 := by
  obtain ⟨ps, ks⟩ := t
  simp only [T.ps, T.ks]
  rcases g.full with hf | ⟨_, e⟩
  · by_cases hk : ks = []
    · subst hk; exact ⟨(full_lf hf).1, by simp⟩
    · obtain ⟨_, h2, rfl, _⟩ := full_br hf hk; exact ⟨by simp, h2⟩
  · cases e; simp
end Go.Proofs.Ytjbamfgfgbmieaa
/-
  mend: two neighbouring kids are put together.
-/
namespace Go.Proofs.Ytjbamfgfgbmieaa
open Go.RowKit
theorem ptrs_del (A : Nat → Nat) (n p : Nat) (h : p ≤ n) : (ptrs A (n + 1)).take p ++ (ptrs A (n + 1)).drop (p + 1) = ptrs (fun i => if i < p then A i else A (i + 1)) n := by
  apply List.ext_getElem?
  intro i
  by_cases hi : i < p
  · rw [List.getElem?_append_left (by simp [ptrs]; omega), List.getElem?_take, if_pos hi, ptrs_at _ _ _ (by omega), ptrs_at _ _ _ (by omega), if_pos hi]
  · rw [List.getElem?_append_right (by simp [ptrs]; omega), List.getElem?_drop]
    have : p + 1 + (i - (List.take p (ptrs A (n + 1))).length) = i + 1 := by simp [ptrs]; omega
    rw [this]
    by_cases hn : i < n
    · rw [ptrs_at _ _ _ (by omega), ptrs_at _ _ _ hn, if_neg hi]
    · rw [List.getElem?_eq_none (by simp [ptrs]; omega), List.getElem?_eq_none (by simp [ptrs]; omega)]
theorem tAt_del (ks : List T) (p : Nat) (h : p < ks.length) (i : Nat) : tAt (ks.take p ++ ks.drop (p + 1)) i = if i < p then tAt ks i else tAt ks (i + 1) := by
  have hl : (ks.take p).length = p := by rw [List.length_take]; omega
  by_cases hi : i < p
  · rw [tAt_app1 (by omega), tAt_take hi, if_pos hi]
  · rw [tAt_app2 (by omega), tAt_drop, hl, if_neg hi]
    congr 1; omega
/-- The kid at i is put together with the one ahead of it; the first with the second. -/
def mendK (ks : List T) (i : Nat) : List T :=
  if (shT (tAt ks (max i 1 - 1)) (tAt ks (max i 1))).2.bare = true then ((ks.set (max i 1 - 1) (shT (tAt ks (max i 1 - 1)) (tAt ks (max i 1))).1).set (max i 1) (shT (tAt ks (max i 1 - 1)) (tAt ks (max i 1))).2).take (max i 1) ++ ((ks.set (max i 1 - 1) (shT (tAt ks (max i 1 - 1)) (tAt ks (max i 1))).1).set (max i 1) (shT (tAt ks (max i 1 - 1)) (tAt ks (max i 1))).2).drop (max i 1 + 1)
  else (ks.set (max i 1 - 1) (shT (tAt ks (max i 1 - 1)) (tAt ks (max i 1))).1).set (max i 1) (shT (tAt ks (max i 1 - 1)) (tAt ks (max i 1))).2
end Go.Proofs.Ytjbamfgfgbmieaa
/-
  drop: a key is taken out below a limb.
-/
namespace Go.Proofs.Ytjbamfgfgbmieaa
open Go.RowKit
def delP (l : List PB) (k : ByteArray) : List PB := if there l k = true then l.take (pos l k) ++ l.drop (pos l k + 1) else l
def T.poor (t : T) : Bool := decide (t.ps.length + t.ks.length < 2)
def dropF : Nat → T → ByteArray → T
  | 0, t, _ => t
  | f + 1, t, k => if t.ks = [] then .mk (delP t.ps k) t.ks else
    if (dropF f (tAt t.ks (kidOf t.ks k)) k).poor = true then .mk t.ps (mendK (t.ks.set (kidOf t.ks k) (dropF f (tAt t.ks (kidOf t.ks k)) k)) (kidOf t.ks k)) else .mk t.ps (t.ks.set (kidOf t.ks k) (dropF f (tAt t.ks (kidOf t.ks k)) k))
theorem delP_len (l : List PB) (k : ByteArray) : (delP l k).length ≤ l.length := by
  unfold delP
  split
  · rw [List.length_append, List.length_take, List.length_drop]; omega
  · exact Nat.le_refl _
theorem mendK_len (ks : List T) (i : Nat) : (mendK ks i).length ≤ ks.length := by
  unfold mendK
  split
  · rw [List.length_append, List.length_take, List.length_drop, List.length_set, List.length_set]; omega
  · rw [List.length_set, List.length_set]; exact Nat.le_refl _
theorem dropF_len : ∀ (f : Nat) (t : T) (k : ByteArray), (dropF f t k).ps.length ≤ t.ps.length ∧ (dropF f t k).ks.length ≤ t.ks.length
  | 0, t, k => ⟨Nat.le_refl _, Nat.le_refl _⟩
  | f + 1, t, k => by
    rw [dropF]
    split
    · exact ⟨delP_len _ _, Nat.le_refl _⟩
    · split
      · refine ⟨Nat.le_refl _, ?_⟩
        show (mendK _ _).length ≤ _
        have := mendK_len (t.ks.set (kidOf t.ks k) (dropF f (tAt t.ks (kidOf t.ks k)) k)) (kidOf t.ks k)
        rw [List.length_set] at this
        exact this
      · refine ⟨Nat.le_refl _, ?_⟩
        show (t.ks.set _ _).length ≤ _
        rw [List.length_set]; exact Nat.le_refl _
theorem full_small {x : T} {r : Bool} (h : x.full r = true) : x.ps.length ≤ 4 ∧ x.ks.length ≤ 4 := by
  obtain ⟨ps, ks⟩ := x
  simp only [T.ps, T.ks]
  by_cases hk : ks = []
  · subst hk; exact ⟨(full_lf h).1, by simp⟩
  · obtain ⟨_, h2, rfl, _⟩ := full_br h hk; exact ⟨by simp, h2⟩
theorem pcs_del (ps : List PB) (p : Nat) : (pcs ps).take (p * 2) ++ (pcs ps).drop ((p + 1) * 2) = pcs (ps.take p ++ ps.drop (p + 1)) := by
  rw [pcs_take, pcs_drop, pcs_append]
end Go.Proofs.Ytjbamfgfgbmieaa
/-
  Taking a key out, as plain data: the program's way and the specification's come to the same; what comes of it is full, even and in order.
-/
namespace Go.Proofs.Ytjbamfgfgbmieaa
open Go.RowKit
theorem delP_nil (k : ByteArray) : delP [] k = [] := by simp [delP, there, pos]
theorem delP_lt {x : PB} {l : List PB} {k : ByteArray} (h : klt x.1 k = true) : delP (x :: l) k = x :: delP l k := by
  obtain ⟨h1, h2⟩ := there_cons_lt (x := x) (p := (k, k)) (l := l) h
  simp only at h1 h2
  unfold delP
  rw [h1, h2]
  split <;> simp
theorem delP_eq {x : PB} {l : List PB} {k : ByteArray} (h : x.1 = k) : delP (x :: l) k = l := by
  have h0 : klt x.1 k = false := by rw [h]; exact klt_irrefl _
  have h1 := pos_cons_ge (x := x) (p := (k, k)) (l := l) h0
  simp only at h1
  have h2 : there (x :: l) k = true := by unfold there; rw [h1]; simp [pAtB, h]
  unfold delP
  rw [h2, h1]; simp
theorem delP_gt {x : PB} {l : List PB} {k : ByteArray} (h : klt x.1 k = false) (hne : x.1 ≠ k) : delP (x :: l) k = x :: l := by
  have h1 := pos_cons_ge (x := x) (p := (k, k)) (l := l) h
  simp only at h1
  have h2 : there (x :: l) k = false := by unfold there; rw [h1]; simp [pAtB, hne]
  unfold delP
  rw [h2]; simp
theorem delP_left (A : List PB) {B : List PB} {k : ByteArray} (h : ∀ x ∈ A, klt x.1 k = true) : delP (A ++ B) k = A ++ delP B k := by
  induction A with
  | nil => rfl
  | cons a A ih => rw [List.cons_append, delP_lt (h a (by simp)), ih (fun x hx => h x (by simp [hx])), List.cons_append]
theorem delP_right (A : List PB) {B : List PB} {k : ByteArray} (h : ∀ x ∈ B, klt k x.1 = true) : delP (A ++ B) k = delP A k ++ B := by
  induction A with
  | nil =>
    rw [List.nil_append, delP_nil]
    cases B with
    | nil => rw [delP_nil]; rfl
    | cons b B =>
      have := h b (by simp)
      rw [delP_gt (klt_asymm this) (klt_ne this).symm]; rfl
  | cons a A ih =>
    rw [List.cons_append]
    cases hk : klt a.1 k with
    | true => rw [delP_lt hk, delP_lt hk, ih]; rfl
    | false =>
      by_cases e : a.1 = k
      · rw [delP_eq e, delP_eq e]
      · rw [delP_gt hk e, delP_gt hk e]; rfl
theorem delP_mem {l : List PB} {k : ByteArray} {x : PB} (h : x ∈ delP l k) : x ∈ l := by
  unfold delP at h
  split at h
  · rcases List.mem_append.1 h with h | h
    · exact List.mem_of_mem_take h
    · exact List.mem_of_mem_drop h
  · exact h
theorem delP_asc {l : List PB} {k : ByteArray} (h : Asc l) : Asc (delP l k) := by
  unfold delP
  split
  · refine List.Pairwise.sublist ?_ h
    rw [← List.eraseIdx_eq_take_drop_succ]
    exact List.eraseIdx_sublist _ _
  · exact h
theorem delP_ge (l : List PB) (k : ByteArray) : l.length ≤ (delP l k).length + 1 := by
  unfold delP
  split
  · rw [List.length_append, List.length_take, List.length_drop]; omega
  · omega
/-- The specification's way. -/
def delS (l : List PB) (k : ByteArray) : List PB := l.filter fun x => decide (x.1 ≠ k)
theorem delS_eq {l : List PB} {k : ByteArray} (h : Asc l) : delS l k = delP l k := by
  induction l with
  | nil => rw [delP_nil]; rfl
  | cons a l ih =>
    obtain ⟨h1, h2⟩ := List.pairwise_cons.1 h
    unfold delS at ih ⊢
    cases hk : klt a.1 k with
    | true => rw [delP_lt hk, List.filter_cons, if_pos (by simpa using klt_ne hk), ih h2]
    | false =>
      by_cases e : a.1 = k
      · rw [delP_eq e, List.filter_cons, if_neg (by simp [e]), List.filter_eq_self]
        intro x hx
        simpa using fun he => (klt_ne (h1 x hx)) (by rw [e, he])
      · rw [delP_gt hk e, List.filter_cons, if_pos (by simpa using e)]
        congr 1
        rw [List.filter_eq_self]
        intro x hx
        have hlt : klt k a.1 = true := by
          cases hq : klt k a.1 with
          | true => rfl
          | false => exact absurd (key_eq hk hq) e
        simpa using fun he => (klt_ne (klt_trans hlt (h1 x hx))) he.symm
theorem shT_bareT (a b : T) : shT a b = shT (.mk (a.ps ++ b.ps) (a.ks ++ b.ks)) bareT := by simp [shT, bareT, T.ps, T.ks]
theorem mendK_two (ks : List T) (s : Nat) (i : Nat) (hs : max i 1 = s + 1) (h : s + 1 < ks.length) : mendK ks i = ks.take s ++ two (shT (tAt ks s) (tAt ks (s + 1))) ++ ks.drop (s + 2) := by
  unfold mendK
  rw [hs, Nat.add_sub_cancel]
  generalize shT (tAt ks s) (tAt ks (s + 1)) = r
  have e : (ks.set s r.1).set (s + 1) r.2 = ks.take s ++ r.1 :: r.2 :: ks.drop (s + 2) := by
    apply List.ext_getElem?
    intro x
    rw [List.getElem?_set, List.getElem?_set, List.length_set]
    by_cases h1 : s + 1 = x
    · subst h1
      rw [if_pos rfl, if_pos h, List.getElem?_append_right (by rw [List.length_take]; omega), List.length_take, Nat.min_eq_left (by omega), show s + 1 - s = 1 by omega]; rfl
    · rw [if_neg h1]
      by_cases h2 : s = x
      · subst h2
        rw [if_pos rfl, if_pos (by omega), List.getElem?_append_right (by rw [List.length_take]; omega), List.length_take, Nat.min_eq_left (by omega), Nat.sub_self]; rfl
      · rw [if_neg h2]
        by_cases h3 : x < s
        · rw [List.getElem?_append_left (by rw [List.length_take]; omega), List.getElem?_take, if_pos h3]
        · rw [List.getElem?_append_right (by rw [List.length_take]; omega), List.length_take, Nat.min_eq_left (by omega)]
          obtain ⟨y, rfl⟩ : ∃ y, x = s + 2 + y := ⟨x - (s + 2), by omega⟩
          rw [show s + 2 + y - s = y + 1 + 1 by omega, List.getElem?_cons_succ, List.getElem?_cons_succ, List.getElem?_drop]
  rw [e]
  have hl : (ks.take s).length = s := by rw [List.length_take]; omega
  unfold two
  split
  · rw [List.take_append, hl, List.take_of_length_le (show (ks.take s).length ≤ s + 1 by omega), show s + 1 - s = 1 by omega, List.drop_append, hl, List.drop_of_length_le (show (ks.take s).length ≤ s + 1 + 1 by omega), show s + 1 + 1 - s = 2 by omega]; simp
  · simp
/-- What dropping leaves, but for its own fullness. -/
structure Near (h : Nat) (t : T) (l : List PB) : Prop where
  ev : Ev h t
  all : t.all = l
  leaf : t.ks = [] → t.ps.length ≤ 4
  br : t.ks ≠ [] → t.ps = [] ∧ t.ks.length ≤ 4 ∧ ∀ x ∈ t.ks, x.full false = true
theorem Near.full {h : Nat} {t : T} {l : List PB} (g : Near h t l) (hp : t.poor = false) : t.full false = true := by
  have hp : ¬ (t.ps.length + t.ks.length < 2) := of_decide_eq_false hp
  obtain ⟨ps, ks⟩ := t
  by_cases hk : ks = []
  · subst hk; exact full_mk_leaf (g.leaf rfl) (.inl (by simp [T.ps, T.ks] at hp; omega))
  · obtain ⟨h1, h2, h3⟩ := g.br hk
    have h1 : ps = [] := h1
    subst h1
    exact full_mk_br (by simp [T.ps, T.ks] at hp; omega) h2 h3
theorem near_of_full {h : Nat} {t : T} {r : Bool} (he : Ev h t) (hf : t.full r = true) : Near h t t.all := by
  obtain ⟨ps, ks⟩ := t
  refine ⟨he, rfl, fun hk => ?_, fun hk => ?_⟩
  · cases (show ks = [] from hk); exact (full_lf hf).1
  · obtain ⟨_, h2, h3, h4⟩ := full_br hf hk; exact ⟨h3, h2, h4⟩
/-- Two neighbours of one depth, one of them full, one with something: together they are one full node or two. -/
theorem shT_out2 {h : Nat} {a b : T} {la lb : List PB} (ga : Near h a la) (gb : Near h b lb) (hs : 3 ≤ a.ps.length + a.ks.length + (b.ps.length + b.ks.length)) (hs5 : a.ps.length + a.ks.length + (b.ps.length + b.ks.length) ≤ 5) : PutOut h false (la ++ lb) (shT a b) := by
  rw [shT_bareT]
  obtain ⟨pa, ka⟩ := a
  obtain ⟨pb, kb⟩ := b
  simp only [T.ps, T.ks] at hs hs5 ⊢
  cases h with
  | zero => exact ga.ev.elim
  | succ h =>
    rcases ga.ev with ⟨rfl, rfl⟩ | ⟨hka, hea⟩
    · rcases gb.ev with ⟨rfl, _⟩ | ⟨hkb, heb⟩
      · have e : la ++ lb = pa ++ pb := by rw [← ga.all, ← gb.all]; simp [T.all, allL]
        rw [e, List.append_nil]
        refine shT_out_leaf (by simp at hs5 ⊢; omega) (by simp at hs ⊢; omega) (fun _ => by simp at hs ⊢; omega)
      · obtain ⟨x, hx⟩ := List.exists_mem_of_ne_nil kb hkb
        exact (heb x hx).elim
    · rcases gb.ev with ⟨rfl, rfl⟩ | ⟨hkb, heb⟩
      · obtain ⟨x, hx⟩ := List.exists_mem_of_ne_nil ka hka
        exact (hea x hx).elim
      · obtain ⟨a1, _, a3⟩ := ga.br hka
        obtain ⟨b1, _, b3⟩ := gb.br hkb
        have a1 : pa = [] := a1
        have b1 : pb = [] := b1
        subst a1 b1
        have e : la ++ lb = allL (ka ++ kb) := by rw [← ga.all, ← gb.all, allL_append]; simp [T.all]
        rw [e]
        simp only [List.append_nil]
        refine shT_out_br (by simp at hs5 ⊢; omega) (by simp at hs ⊢; omega) (fun x hx => ?_) (fun x hx => ?_)
        · rcases List.mem_append.1 hx with hx | hx
          · exact a3 x hx
          · exact b3 x hx
        · rcases List.mem_append.1 hx with hx | hx
          · exact hea x hx
          · exact heb x hx
theorem full_count {x : T} (h : x.full false = true) : 2 ≤ x.ps.length + x.ks.length ∧ x.ps.length + x.ks.length ≤ 4 := by
  obtain ⟨ps, ks⟩ := x
  simp only [T.ps, T.ks]
  by_cases hk : ks = []
  · subst hk; have := full_lf h; simp at this ⊢; omega
  · obtain ⟨h1, h2, rfl, _⟩ := full_br h hk; simp; omega
theorem dropF_out : ∀ (h : Nat) (r : Bool) (t : T) (k : ByteArray), PutIn h r t → Near h (dropF h t k) (delP t.all k) ∧ t.ps.length + t.ks.length ≤ (dropF h t k).ps.length + (dropF h t k).ks.length + 1
  | 0, r, t, k, g => g.ev.elim
  | h + 1, r, .mk ps ks, k, g => by
    by_cases hk : ks = []
    · subst hk
      obtain ⟨hh, hl, hr, ha⟩ := g.leaf
      obtain rfl : h = 0 := by omega
      rw [dropF]
      simp only [T.ks, T.ps, if_true]
      refine ⟨⟨.inl ⟨rfl, rfl⟩, by simp [T.all, allL], fun _ => ?_, fun h => absurd rfl h⟩, ?_⟩
      · show (delP ps k).length ≤ 4
        have := delP_len ps k; omega
      · show ps.length + 0 ≤ (delP ps k).length + 0 + 1
        have := delP_ge ps k; omega
    · obtain ⟨rfl, h1, h2, h3, h4, h5⟩ := g.kids hk
      obtain ⟨q1, q2, q3⟩ := kidOf_spec k hk
      obtain ⟨a1, a2, a3⟩ := kid_apart h3 h5 q1 q2 q3
      obtain ⟨ih, ihn⟩ := dropF_out h false _ k (g.kid hk k)
      have hkf := full_count (h3 _ (tAt_mem q1))
      have HF : dropF (h + 1) (.mk [] ks) k = if (dropF h (tAt ks (kidOf ks k)) k).poor = true then .mk [] (mendK (ks.set (kidOf ks k) (dropF h (tAt ks (kidOf ks k)) k)) (kidOf ks k)) else .mk [] (ks.set (kidOf ks k) (dropF h (tAt ks (kidOf ks k)) k)) := by rw [dropF]; simp only [T.ks, T.ps, hk, if_false]; rfl
      rw [HF]
      clear HF
      generalize hq : kidOf ks k = q at *
      generalize hrr : dropF h (tAt ks q) k = rr at *
      have hset : ks.set q rr = ks.take q ++ rr :: ks.drop (q + 1) := List.set_eq_take_append_cons_drop.trans (by rw [if_pos q1])
      have hall : allL (ks.set q rr) = delP (T.mk [] ks).all k := by
        rw [hset, allL_append, allL, ih.all, show (T.mk [] ks).all = allL ks by simp [T.all], all_split q1, delP_left _ a1, delP_right _ a2]
      have hmem : ∀ x ∈ ks.set q rr, x = rr ∨ x ∈ ks := fun x hx => (List.mem_or_eq_of_mem_set hx).symm
      have hev : ∀ x ∈ ks.set q rr, Ev h x := fun x hx => (hmem x hx).elim (fun e => e ▸ ih.ev) (h4 x)
      have hln : (ks.set q rr).length = ks.length := List.length_set
      cases hpo : rr.poor with
      | false =>
        rw [if_neg (by simp)]
        refine ⟨⟨.inr ⟨fun e => by rw [e] at hln; simp at hln; omega, hev⟩, by simpa [T.all] using hall, fun e => ?_, fun _ => ⟨rfl, by show (ks.set q rr).length ≤ 4; omega, fun x hx => (hmem x hx).elim (fun e => e ▸ ih.full hpo) (h3 x)⟩⟩, by show 0 + ks.length ≤ 0 + (ks.set q rr).length + 1; omega⟩
        have e : ks.set q rr = [] := e
        rw [e] at hln; simp at hln; omega
      | true =>
        rw [if_pos rfl]
        obtain ⟨s, hs⟩ : ∃ s, max q 1 = s + 1 := ⟨max q 1 - 1, by omega⟩
        have hsl : s + 1 < ks.length := by omega
        have hpoor : rr.ps.length + rr.ks.length < 2 := of_decide_eq_true hpo
        have hrr1 : rr.ps.length + rr.ks.length = 1 := by omega
        rw [mendK_two _ s q hs (by omega)]
        have hat : ∀ i, i < ks.length → tAt (ks.set q rr) i = if i = q then rr else tAt ks i := by
          intro i hi
          by_cases e : i = q
          · subst e; simp [tAt, hi]
          · rw [if_neg e]; simp [tAt, Ne.symm e]
        have hn : ∀ i, i < ks.length → Near h (tAt (ks.set q rr) i) (tAt (ks.set q rr) i).all := by
          intro i hi
          rw [hat i hi]
          by_cases e : i = q
          · rw [if_pos e]; exact ⟨ih.ev, rfl, ih.leaf, ih.br⟩
          · rw [if_neg e]; exact near_of_full (h4 _ (tAt_mem hi)) (h3 _ (tAt_mem hi))
        have hcnt : (tAt (ks.set q rr) s).ps.length + (tAt (ks.set q rr) s).ks.length + ((tAt (ks.set q rr) (s + 1)).ps.length + (tAt (ks.set q rr) (s + 1)).ks.length) ≤ 5 ∧ 3 ≤ (tAt (ks.set q rr) s).ps.length + (tAt (ks.set q rr) s).ks.length + ((tAt (ks.set q rr) (s + 1)).ps.length + (tAt (ks.set q rr) (s + 1)).ks.length) := by
          rw [hat s (by omega), hat (s + 1) hsl]
          rcases (show (s = q ∧ s + 1 ≠ q) ∨ (s ≠ q ∧ s + 1 = q) by omega) with ⟨e1, e2⟩ | ⟨e1, e2⟩
          · rw [if_pos e1, if_neg e2]; have := full_count (h3 _ (tAt_mem hsl)); omega
          · rw [if_neg e1, if_pos e2]; have := full_count (h3 _ (tAt_mem (show s < ks.length by omega))); omega
        have out := shT_out2 (hn s (by omega)) (hn (s + 1) hsl) hcnt.2 hcnt.1
        have hsp : ks.set q rr = (ks.set q rr).take s ++ tAt (ks.set q rr) s :: tAt (ks.set q rr) (s + 1) :: (ks.set q rr).drop (s + 2) := by
          have e1 := ks_split (ks := ks.set q rr) (q := s) (by omega)
          have e2 := drop_tAt (ks := ks.set q rr) (k := s + 1) (by omega)
          rw [e2] at e1
          exact e1
        generalize ks.set q rr = kz at *
        generalize shT (tAt kz s) (tAt kz (s + 1)) = rx at *
        have hsm : ∀ x ∈ kz.take s ++ two rx ++ kz.drop (s + 2), (x ∈ two rx) ∨ (x ∈ kz ∧ (x ∈ kz.take s ∨ x ∈ kz.drop (s + 2))) := by
          intro x hx
          rcases List.mem_append.1 hx with hx | hx
          · rcases List.mem_append.1 hx with hx | hx
            · exact .inr ⟨List.mem_of_mem_take hx, .inl hx⟩
            · exact .inl hx
          · exact .inr ⟨List.mem_of_mem_drop hx, .inr hx⟩
        have hfar : ∀ x, x ∈ kz.take s ∨ x ∈ kz.drop (s + 2) → x.full false = true := by
          intro x hx
          have key : ∃ i, i < ks.length ∧ i ≠ q ∧ x = tAt kz i := by
            rcases hx with hx | hx
            · obtain ⟨i, hi⟩ := List.mem_iff_getElem?.1 hx
              rw [List.getElem?_take] at hi
              split at hi
              · rename_i h9; exact ⟨i, by omega, by omega, by simp [tAt, hi]⟩
              · cases hi
            · obtain ⟨i, hi⟩ := List.mem_iff_getElem?.1 hx
              rw [List.getElem?_drop] at hi
              have := (List.getElem?_eq_some_iff.1 hi).1
              exact ⟨s + 2 + i, by omega, by omega, by simp [tAt, hi]⟩
          obtain ⟨i, hi, hne, rfl⟩ := key
          rw [hat i hi, if_neg hne]
          exact h3 _ (tAt_mem hi)
        have htl := two_len rx
        have hlen : (kz.take s ++ two rx ++ kz.drop (s + 2)).length = s + (two rx).length + (ks.length - (s + 2)) := by simp only [List.length_append, List.length_take, List.length_drop]; omega
        refine ⟨⟨.inr ⟨fun e => by have := congrArg List.length e; rw [hlen, List.length_nil] at this; omega, fun x hx => ?_⟩, ?_, fun e => ?_, fun _ => ⟨rfl, by show (kz.take s ++ two rx ++ kz.drop (s + 2)).length ≤ 4; omega, fun x hx => ?_⟩⟩, by show 0 + ks.length ≤ 0 + (kz.take s ++ two rx ++ kz.drop (s + 2)).length + 1; omega⟩
        · rcases hsm x hx with h | h
          · exact out.ev x h
          · exact hev x h.1
        · rw [← hall]
          show [] ++ allL _ = _
          rw [List.nil_append, allL_append, allL_append, out.all]
          conv => rhs; rw [hsp]
          rw [allL_append, allL, allL]
          simp
        · have e : kz.take s ++ two rx ++ kz.drop (s + 2) = [] := e
          have := congrArg List.length e; rw [hlen, List.length_nil] at this; omega
        · rcases hsm x hx with h | h
          · exact out.fulls x h
          · exact hfar x h.2
theorem full_up {x : T} (h : x.full false = true) : x.full true = true := by
  obtain ⟨ps, ks⟩ := x
  by_cases hk : ks = []
  · subst hk; have := full_lf h; exact full_mk_leaf this.1 (.inl (by simpa using this.2))
  · obtain ⟨h1, h2, rfl, h3⟩ := full_br h hk; exact full_mk_br h1 h2 h3
/-- The root behind the drop. -/
def rootD (t : T) : T := if t.ks.length = 1 then tAt t.ks 0 else t
theorem rootD_out {h : Nat} {t : T} {k : ByteArray} (g : PutIn h true t) : ((rootD (dropF h t k)).full true = true ∨ rootD (dropF h t k) = bareT) ∧ (∃ h', Ev h' (rootD (dropF h t k))) ∧ (rootD (dropF h t k)).all = delP t.all k := by
  obtain ⟨h1, h2⟩ := dropF_out h true t k g
  generalize dropF h t k = y at *
  obtain ⟨ps, ks⟩ := y
  have er : rootD (.mk ps ks) = if ks.length = 1 then tAt ks 0 else .mk ps ks := rfl
  rw [er]
  clear er
  by_cases hk : ks = []
  · subst hk
    rw [if_neg (by simp)]
    refine ⟨?_, ⟨h, h1.ev⟩, h1.all⟩
    by_cases hp : ps = []
    · subst hp; exact .inr rfl
    · have := h1.leaf rfl
      have hl := List.length_pos_iff.2 hp
      refine .inl (full_mk_leaf this ?_)
      by_cases e : ps.length = 1
      · exact .inr ⟨rfl, e⟩
      · exact .inl (by omega)
  · obtain ⟨b1, b2, b3⟩ := h1.br hk
    have b1 : ps = [] := b1
    subst b1
    have b2 : ks.length ≤ 4 := b2
    cases h with
    | zero => exact h1.ev.elim
    | succ h =>
      rcases h1.ev with ⟨e, _⟩ | ⟨_, he⟩
      · exact absurd e hk
      · by_cases e : ks.length = 1
        · rw [if_pos e]
          have hm := tAt_mem (ks := ks) (show 0 < ks.length by omega)
          refine ⟨.inl (full_up (b3 _ hm)), ⟨h, he _ hm⟩, ?_⟩
          rw [← h1.all]
          obtain ⟨x, rfl⟩ := List.length_eq_one_iff.1 e
          simp [tAt, T.all, allL]
        · rw [if_neg e]
          have := List.length_pos_iff.2 hk
          exact ⟨.inl (full_mk_br (by omega) b2 b3), ⟨h + 1, h1.ev⟩, h1.all⟩
theorem pOk_del {l : List PB} {k : ByteArray} (h : pOk l = true) : pOk (delP l k) = true :=
  pOk_of (Nat.le_trans (delP_len l k) (pOk_len h)) (fun _ hx => pOk_mem h (delP_mem hx)) (delP_asc (pOk_asc h))
/-- The specification's way down. -/
def togS (a b : T) : List T := splT (.mk (a.ps ++ b.ps) (a.ks ++ b.ks))
def dropS : Nat → T → ByteArray → T
  | 0, t, _ => t
  | f + 1, t, k => if t.ks = [] then .mk (delS t.ps k) [] else
    if (dropS f (tAt t.ks (wayOf t.ks k)) k).poor = true then .mk [] ((t.ks.set (wayOf t.ks k) (dropS f (tAt t.ks (wayOf t.ks k)) k)).take (max (wayOf t.ks k) 1 - 1) ++ togS (tAt (t.ks.set (wayOf t.ks k) (dropS f (tAt t.ks (wayOf t.ks k)) k)) (max (wayOf t.ks k) 1 - 1)) (tAt (t.ks.set (wayOf t.ks k) (dropS f (tAt t.ks (wayOf t.ks k)) k)) (max (wayOf t.ks k) 1)) ++ (t.ks.set (wayOf t.ks k) (dropS f (tAt t.ks (wayOf t.ks k)) k)).drop (max (wayOf t.ks k) 1 + 1))
    else .mk [] (t.ks.set (wayOf t.ks k) (dropS f (tAt t.ks (wayOf t.ks k)) k))
theorem togS_two {h : Nat} {a b : T} {la lb : List PB} (ga : Near h a la) (gb : Near h b lb) : togS a b = two (shT a b) := by
  rw [shT_bareT]
  unfold togS
  obtain ⟨pa, ka⟩ := a
  obtain ⟨pb, kb⟩ := b
  simp only [T.ps, T.ks]
  cases h with
  | zero => exact ga.ev.elim
  | succ h =>
    rcases ga.ev with ⟨rfl, rfl⟩ | ⟨hka, hea⟩
    · rcases gb.ev with ⟨rfl, _⟩ | ⟨hkb, heb⟩
      · rw [List.append_nil, two_leaf]
      · obtain ⟨x, hx⟩ := List.exists_mem_of_ne_nil kb hkb
        exact (heb x hx).elim
    · obtain ⟨a1, _, _⟩ := ga.br hka
      have a1 : pa = [] := a1
      rcases gb.ev with ⟨rfl, rfl⟩ | ⟨hkb, heb⟩
      · obtain ⟨x, hx⟩ := List.exists_mem_of_ne_nil ka hka
        exact (hea x hx).elim
      · obtain ⟨b1, _, _⟩ := gb.br hkb
        have b1 : pb = [] := b1
        subst a1 b1
        rw [List.append_nil, two_branch (by simp [hka])]
theorem dropS_eq : ∀ (h : Nat) (r : Bool) (t : T) (k : ByteArray), PutIn h r t → dropS h t k = dropF h t k
  | 0, r, t, k, g => rfl
  | h + 1, r, .mk ps ks, k, g => by
    by_cases hk : ks = []
    · subst hk
      obtain ⟨_, _, _, ha⟩ := g.leaf
      rw [dropS, dropF]
      simp only [T.ks, T.ps, if_true]
      rw [delS_eq ha]
    · obtain ⟨rfl, h1, h2, h3, h4, h5⟩ := g.kids hk
      obtain ⟨q1, _, _⟩ := kidOf_spec k hk
      obtain ⟨ih, _⟩ := dropF_out h false _ k (g.kid hk k)
      have e1 : dropS (h + 1) (.mk [] ks) k = if (dropS h (tAt ks (wayOf ks k)) k).poor = true then .mk [] ((ks.set (wayOf ks k) (dropS h (tAt ks (wayOf ks k)) k)).take (max (wayOf ks k) 1 - 1) ++ togS (tAt (ks.set (wayOf ks k) (dropS h (tAt ks (wayOf ks k)) k)) (max (wayOf ks k) 1 - 1)) (tAt (ks.set (wayOf ks k) (dropS h (tAt ks (wayOf ks k)) k)) (max (wayOf ks k) 1)) ++ (ks.set (wayOf ks k) (dropS h (tAt ks (wayOf ks k)) k)).drop (max (wayOf ks k) 1 + 1)) else .mk [] (ks.set (wayOf ks k) (dropS h (tAt ks (wayOf ks k)) k)) := by
        rw [dropS, if_neg (show ¬ (T.mk [] ks).ks = [] from hk)]; rfl
      have e2 : dropF (h + 1) (.mk [] ks) k = if (dropF h (tAt ks (kidOf ks k)) k).poor = true then .mk [] (mendK (ks.set (kidOf ks k) (dropF h (tAt ks (kidOf ks k)) k)) (kidOf ks k)) else .mk [] (ks.set (kidOf ks k) (dropF h (tAt ks (kidOf ks k)) k)) := by
        rw [dropF, if_neg (show ¬ (T.mk [] ks).ks = [] from hk)]; rfl
      rw [e1, e2, wayOf_eq hk h3 h5, dropS_eq h false _ k (g.kid hk k)]
      clear e1 e2
      generalize hq : kidOf ks k = q at *
      generalize hrr : dropF h (tAt ks q) k = rr at *
      cases hpo : rr.poor with
      | false => rfl
      | true =>
        simp only [if_true]
        obtain ⟨s, hs⟩ : ∃ s, max q 1 = s + 1 := ⟨max q 1 - 1, by omega⟩
        have hsl : s + 1 < ks.length := by omega
        have hat : ∀ i, i < ks.length → tAt (ks.set q rr) i = if i = q then rr else tAt ks i := by
          intro i hi
          by_cases e : i = q
          · subst e; simp [tAt, hi]
          · rw [if_neg e]; simp [tAt, Ne.symm e]
        have hn : ∀ i, i < ks.length → Near h (tAt (ks.set q rr) i) (tAt (ks.set q rr) i).all := by
          intro i hi
          rw [hat i hi]
          by_cases e : i = q
          · rw [if_pos e]; exact ⟨ih.ev, rfl, ih.leaf, ih.br⟩
          · rw [if_neg e]; exact near_of_full (h4 _ (tAt_mem hi)) (h3 _ (tAt_mem hi))
        rw [mendK_two _ s q hs (by rw [List.length_set]; omega), hs, Nat.add_sub_cancel, togS_two (hn s (by omega)) (hn (s + 1) hsl)]
end Go.Proofs.Ytjbamfgfgbmieaa
/-
  Asks on right data, in plain.
-/
namespace Go.Proofs.Ytjbamfgfgbmieaa
open Go.RowKit
/-- The piece of a rising list from lo to hi. -/
def spanL (l : List PB) (lo hi : ByteArray) : List PB := if hi.toList = [] then l.drop (pos l lo) else (l.take (pos l hi)).drop (pos l lo)
theorem klt_total {a b : ByteArray} (h : klt a b = false) (hne : a ≠ b) : klt b a = true := less_total _ _ h (fun e => hne (str_ext e))
theorem klt_of_le {a b c : ByteArray} (h : klt b a = false) (k : klt b c = true) : klt a c = true := nless_less _ _ _ h k
theorem klt_to_le {a b c : ByteArray} (h : klt a b = true) (k : klt c b = false) : klt a c = true := less_nless _ _ _ h k
theorem asc_tail {p : PB} {l : List PB} (h : Asc (p :: l)) : Asc l := (List.pairwise_cons.1 h).2
theorem asc_lt {p : PB} {l : List PB} (h : Asc (p :: l)) {x : PB} (hx : x ∈ l) : klt p.1 x.1 = true := (List.pairwise_cons.1 h).1 x hx
theorem filt_lt : ∀ (l : List PB) (hi : ByteArray), Asc l → l.filter (fun p => klt p.1 hi) = l.take (pos l hi)
  | [], _, _ => rfl
  | p :: l, hi, h => by
    rw [pos]
    cases hk : klt p.1 hi with
    | true => simp only [List.filter_cons, hk, if_true, List.take_succ_cons]; rw [filt_lt l hi (asc_tail h)]
    | false =>
      simp only [List.filter_cons, hk, Bool.false_eq_true, if_false, List.take_zero]
      refine List.filter_eq_nil_iff.2 fun x hx => ?_
      have h1 := asc_lt h hx
      intro h2
      rw [klt_trans h1 h2] at hk
      cases hk
theorem filt_ge : ∀ (l : List PB) (lo : ByteArray), Asc l → l.filter (fun p => !klt p.1 lo) = l.drop (pos l lo)
  | [], _, _ => rfl
  | p :: l, lo, h => by
    rw [pos]
    cases hk : klt p.1 lo with
    | true => simp only [List.filter_cons, hk, Bool.not_true, Bool.false_eq_true, if_false, if_true, List.drop_succ_cons]; rw [filt_ge l lo (asc_tail h)]
    | false =>
      simp only [Bool.false_eq_true, if_false, List.drop_zero]
      refine List.filter_eq_self.2 fun x hx => ?_
      rcases List.mem_cons.1 hx with rfl | hx
      · simp [hk]
      · have h1 := asc_lt h hx
        cases h2 : klt x.1 lo with
        | false => rfl
        | true => rw [klt_trans h1 h2] at hk; cases hk
theorem take_asc {l : List PB} (h : Asc l) (n : Nat) : Asc (l.take n) := List.Pairwise.sublist (List.take_sublist n l) h
theorem pos_take {l : List PB} {lo hi : ByteArray} (h : klt lo hi = true) : pos (l.take (pos l hi)) lo = pos l lo := by
  induction l with
  | nil => rfl
  | cons p l ih =>
    rw [pos]
    cases hk : klt p.1 hi with
    | true =>
      simp only [if_true, List.take_succ_cons, pos, ih]
    | false =>
      simp only [Bool.false_eq_true, if_false, List.take_zero, pos]
      cases h1 : klt p.1 lo with
      | false => rfl
      | true => rw [klt_trans h1 h] at hk; cases hk
theorem pos_mono {l : List PB} {lo hi : ByteArray} (h : klt lo hi = true) : pos l lo ≤ pos l hi := by
  have := pos_le (l.take (pos l hi)) lo
  rw [pos_take h, List.length_take] at this
  omega
theorem uOk_kOk {k : ByteArray} (h : uOk k = true) : kOk k = true := by
  simp only [uOk, kOk, Bool.and_eq_true, decide_eq_true_eq] at *
  omega
theorem daOk_key {l : List PB} (h : daOk l = true) {p : PB} (hp : p ∈ l) : uOk p.1 = true ∧ uvOk p.2 = true := by
  obtain ⟨i, hi, rfl⟩ := List.mem_iff_getElem.1 hp
  rw [← pAtB_lt hi]
  exact ((daOk_iff l).1 h i hi).1
theorem daOk_of {l : List PB} (ha : Asc l) (hk : ∀ p ∈ l, uOk p.1 = true ∧ uvOk p.2 = true) : daOk l = true := by
  refine (daOk_iff l).2 fun i hi => ⟨?_, fun h0 => ha.at (by omega) hi⟩
  rw [pAtB_lt hi]
  exact hk _ (List.getElem_mem hi)
def rngF (l : List PB) (lo hi : ByteArray) : List PB := l.filter fun p => rHas lo hi p.1
theorem span_eq {l : List PB} {lo hi : ByteArray} (h : daOk l = true) (hr : rOk lo hi = true) : spanL l lo hi = rngF l lo hi := by
  have ha := daOk_asc h
  have e : ∀ p ∈ l, rHas lo hi p.1 = (!klt p.1 lo && ahd p.1 hi) := by
    intro p hp
    simp only [rHas, hr, uOk_kOk (daOk_key h hp).1, Bool.true_and, klt]
  have e2 : rngF l lo hi = l.filter (fun p => !klt p.1 lo && ahd p.1 hi) := List.filter_congr e
  rw [e2]
  unfold spanL
  split
  · rename_i hh
    rw [← filt_ge l lo ha]
    refine (List.filter_congr fun p _ => ?_).symm
    simp [ahd, hh]
  · rename_i hh
    have hl : klt lo hi = true := by
      simp only [rOk, ahd, Bool.and_eq_true, Bool.or_eq_true, decide_eq_true_eq] at hr
      rcases hr.2 with h | h
      · exact absurd h hh
      · exact h
    have h1 : (l.take (pos l hi)).drop (pos l lo) = (l.take (pos l hi)).filter (fun p => !klt p.1 lo) := by rw [filt_ge _ _ (take_asc ha _), pos_take hl]
    rw [h1, ← filt_lt l hi ha, List.filter_filter]
    refine (List.filter_congr fun p _ => ?_).symm
    simp [ahd, hh, klt]
theorem span_bounds {l : List PB} {lo hi : ByteArray} (hr : rOk lo hi = true) (hh : ¬ hi.toList = []) : pos l lo ≤ pos l hi := by
  refine pos_mono ?_
  simp only [rOk, ahd, Bool.and_eq_true, Bool.or_eq_true, decide_eq_true_eq] at hr
  rcases hr.2 with h | h
  · exact absurd h hh
  · exact h
theorem less_pt : ∀ (a x : List UInt8), Op.bytesLess x a = false → Op.bytesLess x (a ++ [0]) = true → x = a
  | [], [], _, _ => rfl
  | [], y :: x, _, h => by
    simp only [List.nil_append, Op.bytesLess, Bool.or_eq_true, decide_eq_true_eq, Bool.and_eq_true] at h
    rcases h with h | ⟨_, h⟩
    · exact absurd h (by simp [UInt8.lt_iff_toNat_lt])
    · cases h
  | b :: a, [], h, _ => by simp [Op.bytesLess] at h
  | b :: a, y :: x, h, k => by
    simp only [List.cons_append, Op.bytesLess, Bool.or_eq_true, decide_eq_true_eq, Bool.and_eq_true, Bool.or_eq_false_iff, decide_eq_false_iff_not] at h k
    rcases k with k | ⟨k1, k2⟩
    · exact absurd k h.1
    · have e : y = b := by simpa using k1
      subst e
      have h2 : Op.bytesLess x a = false := by
        have := h.2
        simpa using this
      rw [less_pt a x h2 k2]
theorem pt_has {k x : ByteArray} (hk : kOk k = true) (hx : kOk x = true) : rHas (ptLo k) (ptHi k) x = decide (x = k) := by
  have hl : ptLo k = k := by simp [ptLo, hk]
  have hh : ptHi k = k ++ ⟨#[0]⟩ := by simp [ptHi, hk]
  have ht : (k ++ (⟨#[0]⟩ : ByteArray)).toList = k.toList ++ [0] := by simp [ByteArray.toList_eq]
  have hs : (k ++ (⟨#[0]⟩ : ByteArray)).size = k.size + 1 := by simp [ByteArray.size_append]; rfl
  have hz : k.size ≤ 16 := by simp only [kOk, Bool.and_eq_true, decide_eq_true_eq] at hk; exact hk.2
  have hr : rOk k (k ++ ⟨#[0]⟩) = true := by
    simp only [rOk, ahd, hs, ht, less_zero, Bool.or_true, Bool.and_true, Bool.and_eq_true, decide_eq_true_eq]
    omega
  rw [hl, hh]
  simp only [rHas, hr, hx, Bool.true_and, ahd, ht]
  by_cases e : x = k
  · subst e
    simp [less_irrefl, less_zero]
  · rw [decide_eq_false e]
    cases h1 : Op.bytesLess x.toList k.toList with
    | true => simp
    | false =>
      cases h2 : Op.bytesLess x.toList (k.toList ++ [0]) with
      | false => simp
      | true => exact absurd (str_ext (less_pt _ _ h1 h2)) e
theorem pt_ok {k : ByteArray} (hk : kOk k = true) : rOk (ptLo k) (ptHi k) = true := by
  have := pt_has hk hk
  simp only [decide_true] at this
  simp only [rHas, Bool.and_eq_true] at this
  exact this.1.1.1
/-- The pairs with the key. -/
def keyF (l : List PB) (k : ByteArray) : List PB := l.filter fun p => decide (p.1 = k)
theorem keyF_le {l : List PB} (ha : Asc l) (k : ByteArray) : (keyF l k).length ≤ 1 := by
  have h2 : Asc (keyF l k) := List.Pairwise.sublist List.filter_sublist ha
  cases hf : keyF l k with
  | nil => simp
  | cons p r =>
    cases r with
    | nil => simp
    | cons q r =>
      rw [hf] at h2
      have h3 := asc_lt h2 (x := q) (by simp)
      have hp : p ∈ keyF l k := by rw [hf]; simp
      have hq : q ∈ keyF l k := by rw [hf]; simp
      have e1 := of_decide_eq_true (List.mem_filter.1 hp).2
      have e2 := of_decide_eq_true (List.mem_filter.1 hq).2
      rw [e1, e2, klt_irrefl] at h3
      cases h3
theorem get_eq {l : List PB} {k : ByteArray} (h : daOk l = true) (hk : uOk k = true) : scV l (ptLo k) (ptHi k) 1 false = keyF l k := by
  have e : scV l (ptLo k) (ptHi k) 1 false = (l.filter fun p => rHas (ptLo k) (ptHi k) p.1).take 1 := rfl
  have e2 : (l.filter fun p => rHas (ptLo k) (ptHi k) p.1) = keyF l k := List.filter_congr fun p hp => pt_has (uOk_kOk hk) (uOk_kOk (daOk_key h hp).1)
  rw [e, e2]
  exact List.take_of_length_le (keyF_le (daOk_asc h) k)
/-- What an ask makes of right data, and what it tells. -/
def raD (l : List PB) (k : Int) (ky vl : ByteArray) : List PB := if k = 2 then insP l (ky, vl) else if k = 3 then delP l ky else l
def raT (l : List PB) (k : Int) (ky lo hi : ByteArray) (mo : Int) (bk : Bool) : List PB := if k = 1 then keyF l ky else if k = 4 then scV l lo hi mo bk else []
theorem ak_get {k : Int} {ky vl lo hi : ByteArray} {mo : Int} {bk : Bool} (h : akOk k ky vl lo hi mo bk = true) (hk : k = 1 ∨ k = 2 ∨ k = 3) : uOk ky = true ∧ uvOk vl = true ∧ bk = false := by
  have h2 : akK ky vl lo hi mo bk = true := by
    rcases hk with rfl | rfl | rfl
    · rw [akOk_1, Bool.and_eq_true] at h; exact h.2
    · rw [akOk_2] at h; exact h
    · rw [akOk_3, Bool.and_eq_true] at h; exact h.2
  simp only [akK, Bool.and_eq_true, Bool.not_eq_true'] at h2
  exact ⟨h2.1, h2.2.1, h2.2.2.2.2⟩
theorem ak_scan {ky vl lo hi : ByteArray} {mo : Int} {bk : Bool} (h : akOk 4 ky vl lo hi mo bk = true) : rOk lo hi = true ∧ 1 ≤ mo ∧ mo ≤ 8 := by
  rw [akOk_4] at h
  simp only [akS, rchOk, Bool.and_eq_true, decide_eq_true_eq] at h
  exact ⟨h.2.1.1, h.1.1, h.1.2⟩
theorem ak_kind {k : Int} {ky vl lo hi : ByteArray} {mo : Int} {bk : Bool} (h : akOk k ky vl lo hi mo bk = true) : k = 1 ∨ k = 2 ∨ k = 3 ∨ k = 4 := by
  by_cases h1 : k = 1
  · exact .inl h1
  by_cases h2 : k = 2
  · exact .inr (.inl h2)
  by_cases h3 : k = 3
  · exact .inr (.inr (.inl h3))
  by_cases h4 : k = 4
  · exact .inr (.inr (.inr h4))
  rw [akOk_no h1 h2 h3 h4] at h
  cases h
theorem insP_da {l : List PB} {k v : ByteArray} (h : daOk l = true) (hk : uOk k = true) (hv : uvOk v = true) : daOk (insP l (k, v)) = true := by
  refine daOk_of (insP_asc (daOk_asc h)) fun p hp => ?_
  rcases insP_mem hp with rfl | hp
  · exact ⟨hk, hv⟩
  · exact daOk_key h hp
theorem delP_da {l : List PB} {k : ByteArray} (h : daOk l = true) : daOk (delP l k) = true := daOk_of (delP_asc (daOk_asc h)) fun _ hp => daOk_key h (delP_mem hp)
theorem raD_da {l : List PB} {k : Int} {ky vl lo hi : ByteArray} {mo : Int} {bk : Bool} (h : daOk l = true) (ha : akOk k ky vl lo hi mo bk = true) : daOk (raD l k ky vl) = true := by
  unfold raD
  split
  · rename_i e
    obtain ⟨h1, h2, _⟩ := ak_get ha (by omega)
    exact insP_da h h1 h2
  · split
    · exact delP_da h
    · exact h
theorem insP_len1 (l : List PB) (p : PB) : (insP l p).length ≤ l.length + 1 := by
  unfold insP
  split
  · simp
  · simp; have := pos_le l p.1; omega
theorem raD_len (l : List PB) (k : Int) (ky vl : ByteArray) : (raD l k ky vl).length ≤ l.length + 1 := by
  unfold raD
  split
  · exact insP_len1 _ _
  · split
    · have := delP_len l ky; omega
    · omega
theorem raT_len {l : List PB} {k : Int} {ky vl lo hi : ByteArray} {mo : Int} {bk : Bool} (h : daOk l = true) (ha : akOk k ky vl lo hi mo bk = true) : (raT l k ky lo hi mo bk).length ≤ 8 := by
  unfold raT
  split
  · have := keyF_le (daOk_asc h) ky; omega
  · split
    · rename_i _ e
      subst e
      have := (ak_scan ha).2.2
      unfold scV
      rw [List.length_take]
      omega
    · simp
end Go.Proofs.Ytjbamfgfgbmieaa
/-
  readBranch, given read.
-/
namespace Go.Proofs.Ytjbamfgfgbmieaa
open Go.RowKit
end Go.Proofs.Ytjbamfgfgbmieaa
/-
  read: it reads what the plain function reads. rootOf.
-/
namespace Go.Proofs.Ytjbamfgfgbmieaa
open Go.RowKit
theorem rdI_no {ns : List NB} {f : Nat} {pl : Int} {nx : Nat} (h : pl ≠ (nx : Int) ∨ (ns.length : Int) ≤ pl) : rdI ns f pl nx = none := by
  cases f with
  | zero => rfl
  | succ f => rw [rdI, if_pos h]
theorem rdI_leaf {ns : List NB} {f nx : Nat} (h : nx < ns.length) (hk : (nAt ns nx).kids.length = 0) : rdI ns (f + 1) nx nx = (leafT (nAt ns nx) (decide ((nx : Int) = 0))).map (fun t => (t, nx + 1)) := by
  rw [rdI, if_neg (by omega), if_pos hk, leafT]
  split <;> rfl
theorem rdI_br {ns : List NB} {f nx : Nat} (h : nx < ns.length) (hk : (nAt ns nx).kids.length ≠ 0) : rdI ns (f + 1) nx nx = brT ns f (nAt ns nx) (nx + 1) := by
  rw [rdI, if_neg (by omega), if_neg hk]
  rfl
end Go.Proofs.Ytjbamfgfgbmieaa
/-
  rootOf: the right tree, or nil.
-/
namespace Go.Proofs.Ytjbamfgfgbmieaa
open Go.RowKit
mutual
theorem full_all_le : ∀ (t : T) (r : Bool), t.full r = true → t.all.length ≤ 4 * t.size
  | .mk ps ks, r, h => by
    by_cases hk : ks = []
    · subst hk
      have := full_lf h
      simp [T.size, szL, T.all, allL]
      omega
    · obtain ⟨h1, h2, rfl, h3⟩ := full_br h hk
      have := fullL_all_le ks h3
      simp [T.size, T.all]
      omega
theorem fullL_all_le : ∀ (ks : List T), (∀ k ∈ ks, k.full false = true) → (allL ks).length ≤ 4 * szL ks
  | [], _ => by simp [szL, allL]
  | k :: ks, h => by
    have h1 := full_all_le k false (h k (by simp))
    have h2 := fullL_all_le ks (fun x hx => h x (by simp [hx]))
    simp [szL, allL]
    omega
end
end Go.Proofs.Ytjbamfgfgbmieaa
/-
  l03Read of the specification: it reads what the plain function reads.
-/
namespace Go.Proofs.Ytjbamfgfgbmieaa
open Go.RowKit
end Go.Proofs.Ytjbamfgfgbmieaa
/-
  l03Root of the specification.
-/
namespace Go.Proofs.Ytjbamfgfgbmieaa
open Go.RowKit
theorem take_no {P : Program} {md : Region.Mode} {ops : Array Oper} {Q : Exit → Act → World → Prop} {S : World → Prop} {i : Nat} {oi : Oper} {fuel : Nat} {listed : Array Bool} {a : Act} {w : World} (hi : ops[i]? = some oi)
    (hs : Region.noSelect ops = true) (hf : Region.free md ops listed i = true) (hr : (Region.ready md ops listed).contains i = true)
    (hQ : ∀ c a w, Q (.panic c) (a.put oi.dst undef) w → Q (.panic c) a w) (hw : Region.wanted oi (yielded ops a.tmps) = false) (hS : S w)
    (h : wpAnyH P md ops Q S fuel (listed.setIfInBounds i true) (a.put oi.dst undef) w) : wpAnyH P md ops Q S (fuel + 1) listed a w :=
  wpAnyH_take hi hs hf hr hQ (Or.inr ⟨hw, rfl⟩) hS h
/-- What l03Root reads: the sub, where the nodes stand in the walk's order. -/
def rootS (ns : List NB) : Option T := if ns.length = 0 then some (.mk [] []) else match rdS ns 13 0 with
  | none => none
  | some (t, n) => if n = ns.length then some t else none
/-- What comes of l03Root. -/
def RootPost (o : Option T) (w : World) (e : Ending) (w' : World) : Prop := match o with
  | none => ∃ lf ap np cp ak nk ck, e = .returned (.tuple #[.agg #[.bool lf, .slice ap np cp, .slice ak nk ck], .bool false])
  | some t => ∃ lf ap np cp ak nk ck, e = .returned (.tuple #[.agg #[.bool lf, .slice ap np cp, .slice ak nk ck], .bool true]) ∧ Sub w' (fun y => w.heap.size ≤ y ∧ y < w'.heap.size) lf (.slice ap np cp) (.slice ak nk ck) t
end Go.Proofs.Ytjbamfgfgbmieaa
/-
  l03Lay of the specification: the nodes of a sub in the walk's order, behind others.
-/
namespace Go.Proofs.Ytjbamfgfgbmieaa
open Go.RowKit
end Go.Proofs.Ytjbamfgfgbmieaa
/-
  l03SameNode of the specification: it tells whether two nodes hold the same.
-/
namespace Go.Proofs.Ytjbamfgfgbmieaa
open Go.RowKit
theorem neq_pair (a b c d : ByteArray) (w : World) : (binOp .neq 34 (.agg #[.string a, .string b]) (.agg #[.string c, .string d])).run Try.prog w = .ok (.bool (!decide ((a, b) = (c, d)))) w := by
  have u9 := Try.underlying9
  have hS : Try.prog.underlying 34 = some (.struct (Try.prog.fieldsOf 34)) := by kernel_rfl
  have hp : Try.prog.stoodInHeld 34 = false := by kernel_rfl
  rw [run_neq_struct, show (10000 : Nat) = 9999 + 1 from rfl, run_equalIn_agg w 9999 34 _ _ hS hp]
  simp only [Program.fieldsOf, Try.underlying34]
  by_cases h1 : a = c
  · subst h1
    by_cases h2 : b = d
    · subst h2
      rw [decide_eq_true rfl]
      go_simp
    · have t2 := str_beq h2
      rw [decide_eq_false (by simp [h2])]
      clear h2
      go_simp
  · have t1 := str_beq h1
    rw [decide_eq_false (by simp [h1])]
    clear h1
    go_simp
end Go.Proofs.Ytjbamfgfgbmieaa
/-
  TreeOk of the specification.
-/
namespace Go.Proofs.Ytjbamfgfgbmieaa
open Go.RowKit
theorem rdSL_info (f : Nat) (rd : Int → Option (T × Nat)) (hrd : ∀ a t n, rd a = some (t, n) → 0 ≤ a ∧ (n : Int) = a + t.size ∧ t.ht ≤ f) : ∀ (kids : List Int) (nx : Nat) (ts : List T) (n : Nat), rdSL rd kids nx = some (ts, n) → n = nx + szL ts ∧ htL ts ≤ f
  | [], nx, ts, n, h => by
    simp only [rdSL, Option.some.injEq, Prod.mk.injEq] at h
    obtain ⟨rfl, rfl⟩ := h
    simp [szL, htL]
  | k :: kids, nx, ts, n, h => by
    simp only [rdSL] at h
    split at h
    · cases h
    · rename_i he
      cases hr : rd k with
      | none => simp [hr] at h
      | some x =>
        obtain ⟨t, n1⟩ := x
        simp only [hr] at h
        cases hs : rdSL rd kids n1 with
        | none => simp [hs] at h
        | some y =>
          obtain ⟨ts', n2⟩ := y
          simp only [hs, Option.some.injEq, Prod.mk.injEq] at h
          obtain ⟨rfl, rfl⟩ := h
          have h1 := hrd k t n1 hr
          have h2 := rdSL_info f rd hrd kids n1 ts' n2 hs
          have he' : k = (nx : Int) := by
            by_cases q : k = (nx : Int)
            · exact q
            · exact absurd q he
          simp only [szL, htL]
          omega
theorem rdS_info (ns : List NB) : ∀ (f : Nat) (a : Int) (t : T) (n : Nat), rdS ns f a = some (t, n) → 0 ≤ a ∧ (n : Int) = a + t.size ∧ t.ht ≤ f
  | 0, a, t, n, h => by simp [rdS] at h
  | f + 1, a, t, n, h => by
    rw [rdS] at h
    split at h
    · cases h
    · rename_i hc
      cases hs : rdSL (rdS ns f) (nAt ns a.toNat).kids (a.toNat + 1) with
      | none => simp [hs] at h
      | some x =>
        obtain ⟨ts, n1⟩ := x
        simp only [hs, Option.some.injEq, Prod.mk.injEq] at h
        obtain ⟨rfl, rfl⟩ := h
        have := rdSL_info f (rdS ns f) (rdS_info ns f) _ _ _ _ hs
        simp only [T.size, T.ht]
        omega
theorem kc7 {u v : World} {a0 a1 a2 a3 a4 a5 a6 : Addr} {x0 x1 x2 x3 x4 x5 x6 : Value} (h : KC u v [(a0, x0), (a1, x1), (a2, x2), (a3, x3), (a4, x4), (a5, x5), (a6, x6)]) : v.cell? a0 = some x0 ∧ v.cell? a1 = some x1 ∧ v.cell? a2 = some x2 ∧ v.cell? a3 = some x3 ∧ v.cell? a4 = some x4 ∧ v.cell? a5 = some x5 ∧ v.cell? a6 = some x6 ∧ KC u v [(a0, x0), (a1, x1), (a2, x2), (a3, x3), (a4, x4), (a5, x5), (a6, x6)] := ⟨h.at (by simp), h.at (by simp), h.at (by simp), h.at (by simp), h.at (by simp), h.at (by simp), h.at (by simp), h⟩
theorem kc7c {u v v' : World} {a0 a1 a2 a3 a4 a5 a6 : Addr} {x0 x1 x2 x3 x4 x5 x6 : Value} (k : Below v.heap.size v v') (h : v.cell? a0 = some x0 ∧ v.cell? a1 = some x1 ∧ v.cell? a2 = some x2 ∧ v.cell? a3 = some x3 ∧ v.cell? a4 = some x4 ∧ v.cell? a5 = some x5 ∧ v.cell? a6 = some x6 ∧ KC u v [(a0, x0), (a1, x1), (a2, x2), (a3, x3), (a4, x4), (a5, x5), (a6, x6)]) : v'.cell? a0 = some x0 ∧ v'.cell? a1 = some x1 ∧ v'.cell? a2 = some x2 ∧ v'.cell? a3 = some x3 ∧ v'.cell? a4 = some x4 ∧ v'.cell? a5 = some x5 ∧ v'.cell? a6 = some x6 ∧ KC u v' [(a0, x0), (a1, x1), (a2, x2), (a3, x3), (a4, x4), (a5, x5), (a6, x6)] := kc7 (KC.call h.2.2.2.2.2.2.2 k)
end Go.Proofs.Ytjbamfgfgbmieaa
/-
  What is known of a tree that is read.
-/
namespace Go.Proofs.Ytjbamfgfgbmieaa
open Go.RowKit
structure OkF (ns : List NB) (t : T) : Prop where
  root : rootS ns = some t
  few : t.ps.length + t.ks.length ≤ 8
  lv : t.lv ≤ 13
  ht : t.ht ≤ 13
  all : t.all.length ≤ 200
  ok : pOk t.all = true
  dp : ns.length ≠ 0 → t.dp = t.dpt
  nil : ns.length = 0 → t = .mk [] []
theorem okT_facts {ns : List NB} {t : T} (h : okT ns = some t) : OkF ns t := by
  by_cases hne : ns.length = 0
  · rw [okT, if_pos hne] at h
    cases h
    exact ⟨by rw [rootS, if_pos hne], by decide, by decide, by decide, by decide, by decide, fun h => absurd hne h, fun _ => rfl⟩
  · have g := (okT_good hne).1 h
    have hr := g.read
    have hi := rdS_info ns 13 0 t ns.length hr
    have hf := g.full
    obtain ⟨e, he⟩ := g.even
    obtain ⟨ps, ks⟩ := t
    have hfew : (T.mk ps ks).ps.length + (T.mk ps ks).ks.length ≤ 8 ∧ (T.mk ps ks).bare = false := by
      show ps.length + ks.length ≤ 8 ∧ (decide (ps.length + ks.length = 0) = false)
      rw [T.full] at hf
      split at hf
      · rename_i hk
        subst hk
        simp at hf
        constructor
        · simp; omega
        · simp; intro h0; subst h0; simp at hf
      · simp at hf
        constructor
        · have hp0 : ps.length = 0 := by rw [hf.1.2]; rfl
          omega
        · simp; intro h0 h1; subst h1; simp at hf
    refine ⟨?_, hfew.1, ?_, hi.2.2, ?_, g.ok, fun _ => ?_, fun h => absurd h hne⟩
    · rw [rootS, if_neg hne, hr]; simp
    · rw [ev_lv e _ he]; exact Nat.le_trans (ev_ht e _ he) hi.2.2
    · exact pOk_len g.ok
    · rw [g.dp, T.dpt, hfew.2]; rfl
end Go.Proofs.Ytjbamfgfgbmieaa
/-
  spec.TreeAll, impl.TreeAll: the same pairs, in new memory.
-/
namespace Go.Proofs.Ytjbamfgfgbmieaa
open Go.RowKit
def alV (ns : List NB) : List PB := match okT ns with | none => [] | some t => t.all
theorem alV_len (ns : List NB) : (alV ns).length ≤ 200 := by
  unfold alV
  cases h : okT ns with
  | none => exact Nat.zero_le _
  | some t => exact (okT_facts h).all
def OwPost (l : List PB) (w : World) (e : Ending) (w' : World) : Prop := ∃ v, e = .returned v ∧ Ow w' w.heap.size v l ∧ Below w.heap.size w w'
end Go.Proofs.Ytjbamfgfgbmieaa
/-
  spec.TreeScan.
-/
namespace Go.Proofs.Ytjbamfgfgbmieaa
open Go.RowKit
theorem wpList_append_pair1 {w : World} {ops : Array Oper} {rest : List Oper} {o : Oper} {a : Act} {Q : Exit → Act → World → Prop} (hgd : o.guard = none) (s x : Operand)
    (ho : o.op = .call { callee := .builtin .append, args := #[s, x], argTypes := #[23, 23] }) (base : Nat) (v : Value) (l : List PB) (hs : a.eval s = v) (hown : Ow w base v l)
    (g : Nat) (y z : ByteArray) (hx : a.eval x = .slice (some ⟨g, 0, none⟩) 1 1) (hB : Bk w g 34 [.string y, .string z]) (hb : l.length ≤ 1048576) (hbase : base ≤ w.heap.size)
    (h : ∀ a' n' c' w', Ow w' base (.slice a' n' c') (l ++ [(y, z)]) → w.grownBy w' v.ownBlock → ((Value.slice a' n' c').ownBlock = v.ownBlock ∨ (Value.slice a' n' c').ownBlock = some w.heap.size) → wpList Try.prog ops Q rest (a.put o.dst (.slice a' n' c')) w') : wpList Try.prog ops Q (o :: rest) a w := by
  obtain ⟨i, hi, hz, hsz, hby⟩ := info_of infoPairI
  refine wpList_append_row_at hgd s x 23 ho base 34 i _ 2 32 Try.underlying23 hi hz hsz hby rfl (by decide) v l.length (pcs l) hs hown (fun _ => True) _ 1 [.string y, .string z] hx (hB.rw (Nat.le_refl _) (by omega) (fun h => by omega) _ trivial) rfl
    (by intro u hu; simp at hu; rcases hu with rfl | rfl <;> rfl) (by unfold maxLen; omega) (by omega) hbase ?_
  intro v' w' k1 k2 k3
  obtain ⟨a', c', rfl⟩ := own_shape k1
  refine h a' _ c' w' ?_ k2 k3
  unfold Ow
  rw [List.length_append, pcs_append]
  exact k1
end Go.Proofs.Ytjbamfgfgbmieaa
/-
  Cells that are kept while a stretch of the program reads and calls in an order that is not known: eight and twelve of them.
-/
namespace Go.Proofs.Ytjbamfgfgbmieaa
open Go.RowKit
structure KL (u v : World) (cs : List (Addr × Value)) : Prop where
  cells : ∀ p ∈ cs, u.cell? p.1 = some p.2
  bel : Below u.heap.size u v
theorem KL.at {u v : World} {cs : List (Addr × Value)} (h : KL u v cs) {a : Addr} {x : Value} (hp : (a, x) ∈ cs) : v.cell? a = some x := by
  have hc := h.cells (a, x) hp
  rw [h.bel.cell (p := a) (block_lt hc)]
  exact hc
theorem KL.call {u v v' : World} {cs : List (Addr × Value)} (h : KL u v cs) (k : Below v.heap.size v v') : KL u v' cs := ⟨h.cells, h.bel.trans (k.mono h.bel.size)⟩
theorem kl2 {u v : World} {a0 a1 : Addr} {x0 x1 : Value} (h : KL u v [(a0, x0), (a1, x1)]) : v.cell? a0 = some x0 ∧ v.cell? a1 = some x1 ∧ KL u v [(a0, x0), (a1, x1)] := ⟨h.at (by simp), h.at (by simp), h⟩
theorem kl2c {u v v' : World} {a0 a1 : Addr} {x0 x1 : Value} (k : Below v.heap.size v v') (h : v.cell? a0 = some x0 ∧ v.cell? a1 = some x1 ∧ KL u v [(a0, x0), (a1, x1)]) : v'.cell? a0 = some x0 ∧ v'.cell? a1 = some x1 ∧ KL u v' [(a0, x0), (a1, x1)] := kl2 (KL.call h.2.2 k)
theorem kl2_bel {u v : World} {a0 a1 : Addr} {x0 x1 : Value} (h : v.cell? a0 = some x0 ∧ v.cell? a1 = some x1 ∧ KL u v [(a0, x0), (a1, x1)]) : Below u.heap.size u v := KL.bel h.2.2
theorem kl2_0 {u : World} {a0 a1 : Addr} {x0 x1 : Value} (h0 : u.cell? a0 = some x0) (h1 : u.cell? a1 = some x1) : KL u u [(a0, x0), (a1, x1)] := ⟨fun p hp => by
    simp only [List.mem_cons, List.not_mem_nil, or_false] at hp
    rcases hp with rfl | rfl <;> assumption, Below.refl _ _⟩
theorem kl4 {u v : World} {a0 a1 a2 a3 : Addr} {x0 x1 x2 x3 : Value} (h : KL u v [(a0, x0), (a1, x1), (a2, x2), (a3, x3)]) : v.cell? a0 = some x0 ∧ v.cell? a1 = some x1 ∧ v.cell? a2 = some x2 ∧ v.cell? a3 = some x3 ∧ KL u v [(a0, x0), (a1, x1), (a2, x2), (a3, x3)] := ⟨h.at (by simp), h.at (by simp), h.at (by simp), h.at (by simp), h⟩
theorem kl4c {u v v' : World} {a0 a1 a2 a3 : Addr} {x0 x1 x2 x3 : Value} (k : Below v.heap.size v v') (h : v.cell? a0 = some x0 ∧ v.cell? a1 = some x1 ∧ v.cell? a2 = some x2 ∧ v.cell? a3 = some x3 ∧ KL u v [(a0, x0), (a1, x1), (a2, x2), (a3, x3)]) : v'.cell? a0 = some x0 ∧ v'.cell? a1 = some x1 ∧ v'.cell? a2 = some x2 ∧ v'.cell? a3 = some x3 ∧ KL u v' [(a0, x0), (a1, x1), (a2, x2), (a3, x3)] := kl4 (KL.call h.2.2.2.2 k)
theorem kl4_bel {u v : World} {a0 a1 a2 a3 : Addr} {x0 x1 x2 x3 : Value} (h : v.cell? a0 = some x0 ∧ v.cell? a1 = some x1 ∧ v.cell? a2 = some x2 ∧ v.cell? a3 = some x3 ∧ KL u v [(a0, x0), (a1, x1), (a2, x2), (a3, x3)]) : Below u.heap.size u v := KL.bel h.2.2.2.2
theorem kl4_0 {u : World} {a0 a1 a2 a3 : Addr} {x0 x1 x2 x3 : Value} (h0 : u.cell? a0 = some x0) (h1 : u.cell? a1 = some x1) (h2 : u.cell? a2 = some x2) (h3 : u.cell? a3 = some x3) : KL u u [(a0, x0), (a1, x1), (a2, x2), (a3, x3)] := ⟨fun p hp => by
    simp only [List.mem_cons, List.not_mem_nil, or_false] at hp
    rcases hp with rfl | rfl | rfl | rfl <;> assumption, Below.refl _ _⟩
theorem kl7 {u v : World} {a0 a1 a2 a3 a4 a5 a6 : Addr} {x0 x1 x2 x3 x4 x5 x6 : Value} (h : KL u v [(a0, x0), (a1, x1), (a2, x2), (a3, x3), (a4, x4), (a5, x5), (a6, x6)]) : v.cell? a0 = some x0 ∧ v.cell? a1 = some x1 ∧ v.cell? a2 = some x2 ∧ v.cell? a3 = some x3 ∧ v.cell? a4 = some x4 ∧ v.cell? a5 = some x5 ∧ v.cell? a6 = some x6 ∧ KL u v [(a0, x0), (a1, x1), (a2, x2), (a3, x3), (a4, x4), (a5, x5), (a6, x6)] := ⟨h.at (by simp), h.at (by simp), h.at (by simp), h.at (by simp), h.at (by simp), h.at (by simp), h.at (by simp), h⟩
theorem kl7c {u v v' : World} {a0 a1 a2 a3 a4 a5 a6 : Addr} {x0 x1 x2 x3 x4 x5 x6 : Value} (k : Below v.heap.size v v') (h : v.cell? a0 = some x0 ∧ v.cell? a1 = some x1 ∧ v.cell? a2 = some x2 ∧ v.cell? a3 = some x3 ∧ v.cell? a4 = some x4 ∧ v.cell? a5 = some x5 ∧ v.cell? a6 = some x6 ∧ KL u v [(a0, x0), (a1, x1), (a2, x2), (a3, x3), (a4, x4), (a5, x5), (a6, x6)]) : v'.cell? a0 = some x0 ∧ v'.cell? a1 = some x1 ∧ v'.cell? a2 = some x2 ∧ v'.cell? a3 = some x3 ∧ v'.cell? a4 = some x4 ∧ v'.cell? a5 = some x5 ∧ v'.cell? a6 = some x6 ∧ KL u v' [(a0, x0), (a1, x1), (a2, x2), (a3, x3), (a4, x4), (a5, x5), (a6, x6)] := kl7 (KL.call h.2.2.2.2.2.2.2 k)
theorem kl7_bel {u v : World} {a0 a1 a2 a3 a4 a5 a6 : Addr} {x0 x1 x2 x3 x4 x5 x6 : Value} (h : v.cell? a0 = some x0 ∧ v.cell? a1 = some x1 ∧ v.cell? a2 = some x2 ∧ v.cell? a3 = some x3 ∧ v.cell? a4 = some x4 ∧ v.cell? a5 = some x5 ∧ v.cell? a6 = some x6 ∧ KL u v [(a0, x0), (a1, x1), (a2, x2), (a3, x3), (a4, x4), (a5, x5), (a6, x6)]) : Below u.heap.size u v := KL.bel h.2.2.2.2.2.2.2
theorem kl7_0 {u : World} {a0 a1 a2 a3 a4 a5 a6 : Addr} {x0 x1 x2 x3 x4 x5 x6 : Value} (h0 : u.cell? a0 = some x0) (h1 : u.cell? a1 = some x1) (h2 : u.cell? a2 = some x2) (h3 : u.cell? a3 = some x3) (h4 : u.cell? a4 = some x4) (h5 : u.cell? a5 = some x5) (h6 : u.cell? a6 = some x6) : KL u u [(a0, x0), (a1, x1), (a2, x2), (a3, x3), (a4, x4), (a5, x5), (a6, x6)] := ⟨fun p hp => by
    simp only [List.mem_cons, List.not_mem_nil, or_false] at hp
    rcases hp with rfl | rfl | rfl | rfl | rfl | rfl | rfl <;> assumption, Below.refl _ _⟩
theorem kl8 {u v : World} {a0 a1 a2 a3 a4 a5 a6 a7 : Addr} {x0 x1 x2 x3 x4 x5 x6 x7 : Value} (h : KL u v [(a0, x0), (a1, x1), (a2, x2), (a3, x3), (a4, x4), (a5, x5), (a6, x6), (a7, x7)]) : v.cell? a0 = some x0 ∧ v.cell? a1 = some x1 ∧ v.cell? a2 = some x2 ∧ v.cell? a3 = some x3 ∧ v.cell? a4 = some x4 ∧ v.cell? a5 = some x5 ∧ v.cell? a6 = some x6 ∧ v.cell? a7 = some x7 ∧ KL u v [(a0, x0), (a1, x1), (a2, x2), (a3, x3), (a4, x4), (a5, x5), (a6, x6), (a7, x7)] := ⟨h.at (by simp), h.at (by simp), h.at (by simp), h.at (by simp), h.at (by simp), h.at (by simp), h.at (by simp), h.at (by simp), h⟩
theorem kl8c {u v v' : World} {a0 a1 a2 a3 a4 a5 a6 a7 : Addr} {x0 x1 x2 x3 x4 x5 x6 x7 : Value} (k : Below v.heap.size v v') (h : v.cell? a0 = some x0 ∧ v.cell? a1 = some x1 ∧ v.cell? a2 = some x2 ∧ v.cell? a3 = some x3 ∧ v.cell? a4 = some x4 ∧ v.cell? a5 = some x5 ∧ v.cell? a6 = some x6 ∧ v.cell? a7 = some x7 ∧ KL u v [(a0, x0), (a1, x1), (a2, x2), (a3, x3), (a4, x4), (a5, x5), (a6, x6), (a7, x7)]) : v'.cell? a0 = some x0 ∧ v'.cell? a1 = some x1 ∧ v'.cell? a2 = some x2 ∧ v'.cell? a3 = some x3 ∧ v'.cell? a4 = some x4 ∧ v'.cell? a5 = some x5 ∧ v'.cell? a6 = some x6 ∧ v'.cell? a7 = some x7 ∧ KL u v' [(a0, x0), (a1, x1), (a2, x2), (a3, x3), (a4, x4), (a5, x5), (a6, x6), (a7, x7)] := kl8 (KL.call h.2.2.2.2.2.2.2.2 k)
theorem kl8_bel {u v : World} {a0 a1 a2 a3 a4 a5 a6 a7 : Addr} {x0 x1 x2 x3 x4 x5 x6 x7 : Value} (h : v.cell? a0 = some x0 ∧ v.cell? a1 = some x1 ∧ v.cell? a2 = some x2 ∧ v.cell? a3 = some x3 ∧ v.cell? a4 = some x4 ∧ v.cell? a5 = some x5 ∧ v.cell? a6 = some x6 ∧ v.cell? a7 = some x7 ∧ KL u v [(a0, x0), (a1, x1), (a2, x2), (a3, x3), (a4, x4), (a5, x5), (a6, x6), (a7, x7)]) : Below u.heap.size u v := KL.bel h.2.2.2.2.2.2.2.2
theorem kl8_0 {u : World} {a0 a1 a2 a3 a4 a5 a6 a7 : Addr} {x0 x1 x2 x3 x4 x5 x6 x7 : Value} (h0 : u.cell? a0 = some x0) (h1 : u.cell? a1 = some x1) (h2 : u.cell? a2 = some x2) (h3 : u.cell? a3 = some x3) (h4 : u.cell? a4 = some x4) (h5 : u.cell? a5 = some x5) (h6 : u.cell? a6 = some x6) (h7 : u.cell? a7 = some x7) : KL u u [(a0, x0), (a1, x1), (a2, x2), (a3, x3), (a4, x4), (a5, x5), (a6, x6), (a7, x7)] := ⟨fun p hp => by
    simp only [List.mem_cons, List.not_mem_nil, or_false] at hp
    rcases hp with rfl | rfl | rfl | rfl | rfl | rfl | rfl | rfl <;> assumption, Below.refl _ _⟩
theorem kl12 {u v : World} {a0 a1 a2 a3 a4 a5 a6 a7 a8 a9 a10 a11 : Addr} {x0 x1 x2 x3 x4 x5 x6 x7 x8 x9 x10 x11 : Value} (h : KL u v [(a0, x0), (a1, x1), (a2, x2), (a3, x3), (a4, x4), (a5, x5), (a6, x6), (a7, x7), (a8, x8), (a9, x9), (a10, x10), (a11, x11)]) : v.cell? a0 = some x0 ∧ v.cell? a1 = some x1 ∧ v.cell? a2 = some x2 ∧ v.cell? a3 = some x3 ∧ v.cell? a4 = some x4 ∧ v.cell? a5 = some x5 ∧ v.cell? a6 = some x6 ∧ v.cell? a7 = some x7 ∧ v.cell? a8 = some x8 ∧ v.cell? a9 = some x9 ∧ v.cell? a10 = some x10 ∧ v.cell? a11 = some x11 ∧ KL u v [(a0, x0), (a1, x1), (a2, x2), (a3, x3), (a4, x4), (a5, x5), (a6, x6), (a7, x7), (a8, x8), (a9, x9), (a10, x10), (a11, x11)] := ⟨h.at (by simp), h.at (by simp), h.at (by simp), h.at (by simp), h.at (by simp), h.at (by simp), h.at (by simp), h.at (by simp), h.at (by simp), h.at (by simp), h.at (by simp), h.at (by simp), h⟩
theorem kl12c {u v v' : World} {a0 a1 a2 a3 a4 a5 a6 a7 a8 a9 a10 a11 : Addr} {x0 x1 x2 x3 x4 x5 x6 x7 x8 x9 x10 x11 : Value} (k : Below v.heap.size v v') (h : v.cell? a0 = some x0 ∧ v.cell? a1 = some x1 ∧ v.cell? a2 = some x2 ∧ v.cell? a3 = some x3 ∧ v.cell? a4 = some x4 ∧ v.cell? a5 = some x5 ∧ v.cell? a6 = some x6 ∧ v.cell? a7 = some x7 ∧ v.cell? a8 = some x8 ∧ v.cell? a9 = some x9 ∧ v.cell? a10 = some x10 ∧ v.cell? a11 = some x11 ∧ KL u v [(a0, x0), (a1, x1), (a2, x2), (a3, x3), (a4, x4), (a5, x5), (a6, x6), (a7, x7), (a8, x8), (a9, x9), (a10, x10), (a11, x11)]) : v'.cell? a0 = some x0 ∧ v'.cell? a1 = some x1 ∧ v'.cell? a2 = some x2 ∧ v'.cell? a3 = some x3 ∧ v'.cell? a4 = some x4 ∧ v'.cell? a5 = some x5 ∧ v'.cell? a6 = some x6 ∧ v'.cell? a7 = some x7 ∧ v'.cell? a8 = some x8 ∧ v'.cell? a9 = some x9 ∧ v'.cell? a10 = some x10 ∧ v'.cell? a11 = some x11 ∧ KL u v' [(a0, x0), (a1, x1), (a2, x2), (a3, x3), (a4, x4), (a5, x5), (a6, x6), (a7, x7), (a8, x8), (a9, x9), (a10, x10), (a11, x11)] := kl12 (KL.call h.2.2.2.2.2.2.2.2.2.2.2.2 k)
theorem kl12_bel {u v : World} {a0 a1 a2 a3 a4 a5 a6 a7 a8 a9 a10 a11 : Addr} {x0 x1 x2 x3 x4 x5 x6 x7 x8 x9 x10 x11 : Value} (h : v.cell? a0 = some x0 ∧ v.cell? a1 = some x1 ∧ v.cell? a2 = some x2 ∧ v.cell? a3 = some x3 ∧ v.cell? a4 = some x4 ∧ v.cell? a5 = some x5 ∧ v.cell? a6 = some x6 ∧ v.cell? a7 = some x7 ∧ v.cell? a8 = some x8 ∧ v.cell? a9 = some x9 ∧ v.cell? a10 = some x10 ∧ v.cell? a11 = some x11 ∧ KL u v [(a0, x0), (a1, x1), (a2, x2), (a3, x3), (a4, x4), (a5, x5), (a6, x6), (a7, x7), (a8, x8), (a9, x9), (a10, x10), (a11, x11)]) : Below u.heap.size u v := KL.bel h.2.2.2.2.2.2.2.2.2.2.2.2
theorem kl12_0 {u : World} {a0 a1 a2 a3 a4 a5 a6 a7 a8 a9 a10 a11 : Addr} {x0 x1 x2 x3 x4 x5 x6 x7 x8 x9 x10 x11 : Value} (h0 : u.cell? a0 = some x0) (h1 : u.cell? a1 = some x1) (h2 : u.cell? a2 = some x2) (h3 : u.cell? a3 = some x3) (h4 : u.cell? a4 = some x4) (h5 : u.cell? a5 = some x5) (h6 : u.cell? a6 = some x6) (h7 : u.cell? a7 = some x7) (h8 : u.cell? a8 = some x8) (h9 : u.cell? a9 = some x9) (h10 : u.cell? a10 = some x10) (h11 : u.cell? a11 = some x11) : KL u u [(a0, x0), (a1, x1), (a2, x2), (a3, x3), (a4, x4), (a5, x5), (a6, x6), (a7, x7), (a8, x8), (a9, x9), (a10, x10), (a11, x11)] := ⟨fun p hp => by
    simp only [List.mem_cons, List.not_mem_nil, or_false] at hp
    rcases hp with rfl | rfl | rfl | rfl | rfl | rfl | rfl | rfl | rfl | rfl | rfl | rfl <;> assumption, Below.refl _ _⟩
end Go.Proofs.Ytjbamfgfgbmieaa
/-
  The program's sorted list: its keys rise; DataOk of the program.
-/
namespace Go.Proofs.Ytjbamfgfgbmieaa
open Go.RowKit
theorem method_pair (k v : ByteArray) (w : World) : (method 249 34 (.agg #[.string k, .string v]) "loop.example/g00392/impl.key").run Try.prog w = .ok (121, .agg #[.string k, .string v]) w := by kernel_rfl
theorem pkey_any (k v : ByteArray) (w : World) : Calls Try.prog 121 #[.agg #[.string k, .string v]] w fun e w' => e = .returned (.string k) ∧ Below w.heap.size w w' := by
  go_enter Try.func121, Try.ntmps121
  go_wp2
  go_ret
  exact ⟨rfl, below_new (Below.refl _ _)⟩
set_option maxHeartbeats 4000000 in
theorem rises_at (S : Nat → Prop) (a : Option Addr) (n c : Nat) (l : List PB) (w : World) (h : Pr w S (.slice a n c) l) (hnm : n ≤ 1048576) :
    Calls Try.prog 43 #[.slice a n c] w fun e w' => e = .returned (.bool (riB l)) ∧ Below w.heap.size w w' := by
  have HN := hid (Rw.len h).1
  have H0 := hid h
  clear h
  go_enter Try.func43, Try.ntmps43
  go_wp2_with fail
  go_loopw [3] (fun i wr => ∃ k : Nat, 1 ≤ k ∧ k ≤ n + 1 ∧ i = .int .i64 k ∧ Hid (Below w.heap.size w wr) ∧ Hid (∀ i, i < k → i < l.length → i ≠ 0 → klt (pAtB l (i - 1)).1 (pAtB l i).1 = true)) (fun i _ => n + 1 - (intOf i).toNat)
  case atStart => exact ⟨1, Nat.le_refl _, by omega, rfl, Below.refl _ _, fun i h1 _ h3 => by omega⟩
  case round =>
    obtain ⟨k, hk1, hk2, rfl, HB, HS⟩ := hrel
    by_cases hlt : k < n
    · have hlt' : (k : Int) < (n : Int) := by omega
      have HP := hid (H0.out.below' HB.out)
      obtain ⟨b, off, rfl, _, hbw, hcell⟩ := HP.out.at (by omega)
      obtain ⟨j, rfl⟩ : ∃ j, k = j + 1 := ⟨k - 1, by omega⟩
      obtain ⟨c0, c1⟩ := hcell (j + 1) hlt
      obtain ⟨d0, d1⟩ := hcell j (by omega)
      have HT : Hid (klt (pAtB l j).1 (pAtB l (j + 1)).1 = true → ∀ i, i < j + 1 + 1 → i < l.length → i ≠ 0 → klt (pAtB l (i - 1)).1 (pAtB l i).1 = true) := by
        intro h i h1 h2 h3
        by_cases e : i = j + 1
        · subst e; exact h
        · exact HS.out i (by omega) h2 h3
      have HF : Hid (¬ klt (pAtB l j).1 (pAtB l (j + 1)).1 = true → riB l = false) := by
        intro h
        exact decide_eq_false fun hh => h (hh (j + 1) (by rw [← HN.out]; exact hlt) (by omega))
      clear hcell hbw HP HS
      generalize pAtB l (j + 1) = cur at c0 c1 HT HF
      generalize pAtB l j = prv at d0 d1 HT HF
      obtain ⟨ck, cv⟩ := cur
      obtain ⟨pk, pv⟩ := prv
      have T0 := hid (kl4_0 c0 c1 d0 d1)
      have m1 := method_pair ck cv
      have m2 := method_pair pk pv
      have hj0 : (0 : Int) < (j : Int) + 1 := by omega
      have hj1 : IntKind.i64.wrap ((j : Int) + 1 - 1) = (j : Int) := by rw [IntKind.wrap_i64]; omega
      have hj2 : (j : Int) < (n : Int) := by omega
      have hj3 : (0 : Int) ≤ (j : Int) + 1 := by omega
      have hj4 : (j : Int) + 1 < (n : Int) := by omega
      have hj5 : IntKind.i64.wrap ((j : Int)) = (j : Int) := by rw [IntKind.wrap_i64]; omega
      clear c0 c1 d0 d1
      rcases tri pk ck with ⟨t1, t2, t3, t4⟩ | rfl | ⟨t1, t2, t3, t4⟩
      · have HS1 := hid (HT.out t1)
        clear HT HF
        go_wp2_with fail
        go_region_held3 (fun v => v.cell? ⟨b, off + (j + 1) * 2, none⟩ = some (.string ck) ∧ v.cell? ⟨b, off + (j + 1) * 2 + 1, none⟩ = some (.string cv) ∧ v.cell? ⟨b, off + j * 2, none⟩ = some (.string pk) ∧ v.cell? ⟨b, off + j * 2 + 1, none⟩ = some (.string pv) ∧ KL wr v [(⟨b, off + (j + 1) * 2, none⟩, .string ck), (⟨b, off + (j + 1) * 2 + 1, none⟩, .string cv), (⟨b, off + j * 2, none⟩, .string pk), (⟨b, off + j * 2 + 1, none⟩, .string pv)])
          (first | assumption | exact kl4 (T0.out.call (below_drew _)) | exact kl4c hbC (by assumption))
          (first
          | (go_at_call_of 121 (Value.agg #[Value.string ck, Value.string cv]); refine (pkey_any ck cv _).mono ?_; rintro e w' ⟨rfl, hbC⟩)
          | (go_at_call_of 121 (Value.agg #[Value.string pk, Value.string pv]); refine (pkey_any pk pv _).mono ?_; rintro e w' ⟨rfl, hbC⟩))
        all_goals (rename_i hS; have HB1 := hid (Below.then' HB.out (kl4_bel hS) (Nat.le_refl _)); clear hS)
        go_wp2
        go_roundw
        case rel => exact ⟨j + 1 + 1, by omega, by omega, by go_num, HB1.out, HS1.out⟩
        case measure => simp [intOf]; omega
      · have t1 := less_irrefl pk.toList
        have HE := hid (HF.out (by show ¬ Op.bytesLess pk.toList pk.toList = true; rw [t1]; simp))
        clear HT HF
        go_wp2_with fail
        go_region_held3 (fun v => v.cell? ⟨b, off + (j + 1) * 2, none⟩ = some (.string pk) ∧ v.cell? ⟨b, off + (j + 1) * 2 + 1, none⟩ = some (.string cv) ∧ v.cell? ⟨b, off + j * 2, none⟩ = some (.string pk) ∧ v.cell? ⟨b, off + j * 2 + 1, none⟩ = some (.string pv) ∧ KL wr v [(⟨b, off + (j + 1) * 2, none⟩, .string pk), (⟨b, off + (j + 1) * 2 + 1, none⟩, .string cv), (⟨b, off + j * 2, none⟩, .string pk), (⟨b, off + j * 2 + 1, none⟩, .string pv)])
          (first | assumption | exact kl4 (T0.out.call (below_drew _)) | exact kl4c hbC (by assumption))
          (first
          | (go_at_call_of 121 (Value.agg #[Value.string pk, Value.string cv]); refine (pkey_any pk cv _).mono ?_; rintro e w' ⟨rfl, hbC⟩)
          | (go_at_call_of 121 (Value.agg #[Value.string pk, Value.string pv]); refine (pkey_any pk pv _).mono ?_; rintro e w' ⟨rfl, hbC⟩))
        all_goals (rename_i hS; have HB1 := hid (Below.then' HB.out (kl4_bel hS) (Nat.le_refl _)); clear hS)
        go_wp2
        go_ret
        exact ⟨by rw [HE.out]; rfl, HB1.out⟩
      · have HE := hid (HF.out (by show ¬ Op.bytesLess pk.toList ck.toList = true; rw [t1]; simp))
        clear HT HF
        go_wp2_with fail
        go_region_held3 (fun v => v.cell? ⟨b, off + (j + 1) * 2, none⟩ = some (.string ck) ∧ v.cell? ⟨b, off + (j + 1) * 2 + 1, none⟩ = some (.string cv) ∧ v.cell? ⟨b, off + j * 2, none⟩ = some (.string pk) ∧ v.cell? ⟨b, off + j * 2 + 1, none⟩ = some (.string pv) ∧ KL wr v [(⟨b, off + (j + 1) * 2, none⟩, .string ck), (⟨b, off + (j + 1) * 2 + 1, none⟩, .string cv), (⟨b, off + j * 2, none⟩, .string pk), (⟨b, off + j * 2 + 1, none⟩, .string pv)])
          (first | assumption | exact kl4 (T0.out.call (below_drew _)) | exact kl4c hbC (by assumption))
          (first
          | (go_at_call_of 121 (Value.agg #[Value.string ck, Value.string cv]); refine (pkey_any ck cv _).mono ?_; rintro e w' ⟨rfl, hbC⟩)
          | (go_at_call_of 121 (Value.agg #[Value.string pk, Value.string pv]); refine (pkey_any pk pv _).mono ?_; rintro e w' ⟨rfl, hbC⟩))
        all_goals (rename_i hS; have HB1 := hid (Below.then' HB.out (kl4_bel hS) (Nat.le_refl _)); clear hS)
        go_wp2
        go_ret
        exact ⟨by rw [HE.out]; rfl, HB1.out⟩
    · have hlt' : ¬ (k : Int) < (n : Int) := by omega
      have HE : Hid (riB l = true) := decide_eq_true fun i h1 h2 => HS.out i (by have := HN.out; omega) h1 h2
      clear HS
      go_wp2
      go_ret
      exact ⟨by rw [HE.out]; rfl, HB.out⟩
set_option maxHeartbeats 4000000 in
theorem implDataOk_at (S : Nat → Prop) (a : Option Addr) (n c : Nat) (l : List PB) (w : World) (h : Pr w S (.slice a n c) l) (hnm : n ≤ 1048576) :
    Calls Try.prog 10 #[.slice a n c] w fun e w' => e = .returned (.bool (daOk l)) ∧ Below w.heap.size w w' := by
  have HN := hid (Rw.len h).1
  have H0 := hid h
  clear h
  go_enter Try.func10, Try.ntmps10
  go_wp2_with fail
  go_loopw [4, 7] (fun x i wr => ∃ k : Nat, k ≤ n ∧ i = .int .i64 k ∧ Hid (Below w.heap.size w wr) ∧ Hid (∀ i, i < k → uOk (pAtB l i).1 = true ∧ uvOk (pAtB l i).2 = true)) (fun _ i _ => n - (intOf i).toNat)
  case atStart => exact ⟨0, Nat.zero_le _, rfl, Below.refl _ _, fun i h => by omega⟩
  case round =>
    obtain ⟨k, hk, rfl, HB, HS⟩ := hrel
    by_cases hlt : k < n
    · have hlt' : (k : Int) < (n : Int) := by omega
      have HP := hid (H0.out.below' HB.out)
      obtain ⟨b, off, rfl, _, hbw, hcell⟩ := HP.out.at (by omega)
      obtain ⟨c0, c1⟩ := hcell k hlt
      have HF : Hid (¬ (uOk (pAtB l k).1 = true ∧ uvOk (pAtB l k).2 = true) → daOk l = false) := fun h => daOk_no (by rw [← HN.out]; exact hlt) fun hh => h hh.1
      have HT : Hid (uOk (pAtB l k).1 = true → uvOk (pAtB l k).2 = true → ∀ i, i < k + 1 → uOk (pAtB l i).1 = true ∧ uvOk (pAtB l i).2 = true) := by
        intro h1 h2 i hi
        by_cases e : i = k
        · subst e; exact ⟨h1, h2⟩
        · exact HS.out i (by omega)
      clear hcell HP HS
      generalize pAtB l k = cur at c0 c1 HF HT
      obtain ⟨ck, cv⟩ := cur
      cases h1 : uOk ck
      · have HE := hid (HF.out fun h => by rw [h1] at h; cases h.1)
        have C1 := hid (implUserOk_is ck _ h1)
        clear h1 HF HT
        go_wp2_with fail
        refine (C1.out _).mono ?_
        rintro e w1 ⟨rfl, rfl⟩
        go_wp2
        go_ret
        exact ⟨by rw [HE.out]; rfl, Below.then' HB.out (below_new (Below.refl _ _)) (Nat.le_refl _)⟩
      · have C1 := hid (implUserOk_is ck _ h1)
        cases h2 : uvOk cv
        · have HE := hid (HF.out fun h => by rw [h2] at h; cases h.2)
          have C2 := hid (implUvalOk_is cv _ h2)
          clear h1 h2 HF HT
          go_wp2_with fail
          refine (C1.out _).mono ?_
          rintro e w1 ⟨rfl, rfl⟩
          go_wp2_with fail
          refine (C2.out _).mono ?_
          rintro e w1 ⟨rfl, rfl⟩
          go_wp2
          go_ret
          exact ⟨by rw [HE.out]; rfl, Below.then' HB.out (below_new (Below.refl _ _)) (Nat.le_refl _)⟩
        · have C2 := hid (implUvalOk_is cv _ h2)
          have HS1 := hid (HT.out h1 h2)
          clear h1 h2 HF HT
          go_wp2_with fail
          refine (C1.out _).mono ?_
          rintro e w1 ⟨rfl, rfl⟩
          go_wp2_with fail
          refine (C2.out _).mono ?_
          rintro e w1 ⟨rfl, rfl⟩
          go_wp2
          go_roundw
          case rel => exact ⟨k + 1, by omega, by go_num, Below.then' HB.out (below_new (Below.refl _ _)) (Nat.le_refl _), HS1.out⟩
          case measure => simp [intOf]; omega
    · have hlt' : ¬ (k : Int) < (n : Int) := by omega
      have HE : Hid (riB l = daOk l) := daOk_riB fun i hi => HS.out i (by have := HN.out; omega)
      have HP := hid (H0.out.below' HB.out)
      clear HS
      go_wp2_with fail
      refine (rises_at S a n c l _ HP.out hnm).mono ?_
      rintro e w1 ⟨rfl, hb⟩
      have HB1 := hid (Below.then' HB.out hb (Nat.le_refl _))
      rw [HE.out]
      obtain ⟨z, hz⟩ : ∃ z, z = daOk l := ⟨_, rfl⟩
      rw [← hz]
      have HZ := hid hz
      clear hb HE hz
      go_wp2
      go_ret
      exact ⟨by rw [← HZ.out]; rfl, HB1.out⟩
end Go.Proofs.Ytjbamfgfgbmieaa
/-
  The program's sorted list: where a key stands.
-/
namespace Go.Proofs.Ytjbamfgfgbmieaa
open Go.RowKit
set_option maxHeartbeats 1000000 in
theorem placeOf1_any (a b k : ByteArray) (w : World) : Calls Try.prog 95 #[.agg #[.string a, .string b], .string k] w fun e w' => e = .returned (.int .i64 (cmpV a k)) ∧ Below w.heap.size w w' := by
  have HB0 := hid (below_new (o := .cells #[.string a, .string b] 34) (w := w) (Below.refl _ _))
  have m1 := method_pair a b
  go_enter Try.func95, Try.ntmps95
  go_wp2_with fail
  refine (pkey_any a b _).mono ?_
  rintro e w1 ⟨rfl, hb⟩
  have HB1 := hid (HB0.out.trans (hb.mono HB0.out.size))
  clear hb HB0
  go_wp2_with fail
  refine (compare_any a k _).mono ?_
  rintro e w2 ⟨rfl, rfl⟩
  generalize hx : cmpV a k = x
  have HX := hid hx
  clear hx
  go_wp2
  go_ret
  exact ⟨by rw [HX.out]; rfl, HB1.out⟩
set_option maxHeartbeats 4000000 in
set_option maxRecDepth 20000 in
theorem bsearchS_any (S : Nat → Prop) (a : Option Addr) (n c : Nat) (l : List PB) (k : ByteArray) (w : World) (h : Pr w S (.slice a n c) l) (ha : Asc l) (hs : n ≤ 1048576) :
    Calls Try.prog 94 #[.slice a n c, .string k, .func (.func 95) #[] #[]] w fun e w' =>
      e = .returned (.tuple #[.int .i64 (pos l k : Nat), .bool (there l k)]) ∧ Below w.heap.size w w' := by
  have HN := hid (Rw.len h).1
  have hnc := (Rw.len h).2.1
  have H0 := hid h
  have HA := hid ha
  clear h ha
  go_enter Try.func94, Try.ntmps94
  go_wp2_with fail
  go_loopw [9, 10] (fun x y wr => ∃ lo hi : Nat, x = .int .i64 lo ∧ y = .int .i64 hi ∧ lo ≤ hi ∧ hi ≤ n ∧ Hid (∀ i, i < lo → klt (pAtB l i).1 k = true) ∧ Hid (∀ i, hi ≤ i → i < n → klt (pAtB l i).1 k = false) ∧ Hid (Below w.heap.size w wr)) (fun x y _ => (intOf y).toNat - (intOf x).toNat)
  case atStart => exact ⟨0, n, rfl, rfl, Nat.zero_le _, Nat.le_refl _, fun i h => absurd h (Nat.not_lt_zero _), fun i h1 h2 => by omega, Below.refl _ _⟩
  case round =>
    obtain ⟨lo, hi, rfl, rfl, hlh, hin, HLO, HHI, HB⟩ := hrel
    by_cases hlt : lo < hi
    · have hlt' : (lo : Int) < (hi : Int) := by omega
      generalize hm : (lo + hi) / 2 = m
      have hm1 : lo ≤ m := by omega
      have hm2 : m < hi := by omega
      have hdv : ((lo : Int) + (hi : Int)) / 2 = (m : Int) := by omega
      obtain ⟨b, off, hab, _, _, _⟩ := Rw.at (Pr.below H0.out HB.out) (by omega)
      subst hab
      obtain ⟨d0, d1⟩ := Pr.cells (Pr.below H0.out HB.out) (i := m) (by have := HN.out; omega)
      have HK := hid (cmpV_cases (pAtB l m).1 k)
      have HM := hid hm
      have hmn : (m : Int) < (n : Int) := by omega
      clear hm
      go_wp2_with fail
      refine (placeOf1_any _ _ k wr).mono ?_
      rintro e w1 ⟨rfl, hb⟩
      have HB1 := hid (Below.then' HB.out hb (Nat.le_refl _))
      clear hb d0 d1 HB
      cases hk : klt (pAtB l m).1 k with
      | true =>
        have hv : cmpV (pAtB l m).1 k < 0 := by
          rcases HK.out with h | ⟨h, _⟩ | ⟨h, _⟩
          · rw [h.2]; decide
          · rw [h, klt_irrefl] at hk; cases hk
          · rw [h] at hk; cases hk
        have HL1 : Hid (∀ i, i < m + 1 → klt (pAtB l i).1 k = true) := by
          intro i hi
          by_cases e : i = m
          · subst e; exact hk
          · exact klt_trans (HA.out.at (show i < m by omega) (by have := HN.out; omega)) hk
        generalize cmpV (pAtB l m).1 k = z at *
        clear hk HK
        go_wp2
        go_roundw
        case rel => exact ⟨m + 1, hi, by go_num, rfl, by omega, hin, HL1.out, HHI.out, HB1.out⟩
        case measure => simp [intOf]; omega
      | false =>
        have hv : ¬ cmpV (pAtB l m).1 k < 0 := by
          rcases HK.out with h | ⟨_, h⟩ | ⟨_, _, h⟩
          · rw [h.1] at hk; cases hk
          · rw [h]; decide
          · rw [h]; decide
        have HH1 : Hid (∀ i, m ≤ i → i < n → klt (pAtB l i).1 k = false) := by
          intro i h1 h2
          by_cases e : i = m
          · subst e; exact hk
          · cases hi : klt (pAtB l i).1 k with
            | false => rfl
            | true =>
              have := klt_trans (HA.out.at (show m < i by omega) (by have := HN.out; omega)) hi
              rw [hk] at this
              cases this
        generalize cmpV (pAtB l m).1 k = z at *
        clear hk HK
        go_wp2
        go_roundw
        case rel => exact ⟨lo, m, rfl, rfl, hm1, by omega, HLO.out, HH1.out, HB1.out⟩
        case measure => simp [intOf]; omega
    · have hlt' : ¬ (lo : Int) < (hi : Int) := by omega
      have e : hi = lo := by omega
      subst e
      have HP : Hid (hi = pos l k) := pos_uniq l k hi (by rw [← HN.out]; exact hin) HLO.out (fun h => HHI.out hi (Nat.le_refl _) (by rw [HN.out]; exact h))
      by_cases hn : hi < n
      · have hn' : (hi : Int) < (n : Int) := by omega
        obtain ⟨b, off, hab, _, _, _⟩ := Rw.at (Pr.below H0.out HB.out) (by omega)
        subst hab
        obtain ⟨d0, d1⟩ := Pr.cells (Pr.below H0.out HB.out) (i := hi) (by have := HN.out; omega)
        have HK := hid (cmpV_cases (pAtB l hi).1 k)
        go_wp2_with fail
        refine (placeOf1_any _ _ k wr).mono ?_
        rintro e w1 ⟨rfl, hb⟩
        have HB1 := hid (Below.then' HB.out hb (Nat.le_refl _))
        clear hb d0 d1 HB
        by_cases hk : (pAtB l hi).1 = k
        · have hv : (cmpV (pAtB l hi).1 k == 0) = true := by
            rcases HK.out with h | ⟨_, h⟩ | ⟨_, h, _⟩
            · rw [hk, klt_irrefl] at h; cases h.1
            · rw [h]; rfl
            · exact absurd hk h
          have HR : Hid (there l k = true) := by
            show _ = _
            unfold there
            rw [← HP.out]
            exact decide_eq_true ⟨by rw [← HN.out]; exact hn, hk⟩
          generalize cmpV (pAtB l hi).1 k = z at *
          clear hk HK
          go_wp2
          go_ret2
          exact ⟨by rw [HR.out, ← HP.out]; rfl, HB1.out⟩
        · have hv : (cmpV (pAtB l hi).1 k == 0) = false := by
            rcases HK.out with ⟨_, h⟩ | ⟨h, _⟩ | ⟨_, _, h⟩
            · rw [h]; rfl
            · exact absurd h hk
            · rw [h]; rfl
          have HR : Hid (there l k = false) := by
            show _ = _
            unfold there
            rw [← HP.out]
            exact decide_eq_false fun h => hk h.2
          generalize cmpV (pAtB l hi).1 k = z at *
          clear hk HK
          go_wp2
          go_ret2
          exact ⟨by rw [HR.out, ← HP.out]; rfl, HB1.out⟩
      · have hn' : ¬ (hi : Int) < (n : Int) := by omega
        have HR : Hid (there l k = false) := by
          show _ = _
          unfold there
          rw [← HP.out]
          exact decide_eq_false fun h => hn (by rw [HN.out]; exact h.1)
        go_wp2
        go_ret2
        exact ⟨by rw [HR.out, ← HP.out]; rfl, HB.out⟩
set_option maxHeartbeats 1000000 in
theorem placeOf_any (S : Nat → Prop) (a : Option Addr) (n c : Nat) (l : List PB) (k : ByteArray) (w : World) (h : Pr w S (.slice a n c) l) (ha : Asc l) (hs : n ≤ 1048576) :
    Calls Try.prog 86 #[.slice a n c, .string k] w fun e w' => e = .returned (.tuple #[.int .i64 (pos l k : Nat), .bool (there l k)]) ∧ Below w.heap.size w w' := by
  have HP := hid h
  clear h
  go_enter Try.func86, Try.ntmps86
  go_wp2_with fail
  refine (bsearchS_any S a n c l k w HP.out ha hs).mono ?_
  rintro e w1 ⟨rfl, hb⟩
  have HB := hid hb
  clear hb
  generalize hp : pos l k = p
  generalize ht : there l k = q
  have HE := hid (And.intro hp ht)
  clear hp ht
  go_wp2
  go_ret2
  exact ⟨by rw [HE.out.1, HE.out.2]; rfl, HB.out⟩
end Go.Proofs.Ytjbamfgfgbmieaa
/-
  slices.IndexFunc, slices.DeleteFunc over pairs, with the scan's function.
-/
namespace Go.Proofs.Ytjbamfgfgbmieaa
open Go.RowKit
/-- Block b is a row whose first n pairs are X's. -/
def Ro (w : World) (b n : Nat) (X : Nat → PB) : Prop := ∃ T xs, Bk w b T xs ∧ ∀ x, x < n → xs[x * 2]? = some (.string (X x).1) ∧ xs[x * 2 + 1]? = some (.string (X x).2)
theorem Ro.below {w w' : World} {b n : Nat} {X : Nat → PB} (h : Ro w b n X) (hb : Below w.heap.size w w') : Ro w' b n X := by
  obtain ⟨T, xs, h1, h2⟩ := h
  exact ⟨T, xs, h1.below hb, h2⟩
theorem Ro.cell {w : World} {b n : Nat} {X : Nat → PB} (h : Ro w b n X) {x : Nat} (hx : x < n) : w.cell? ⟨b, x * 2, none⟩ = some (.string (X x).1) ∧ w.cell? ⟨b, x * 2 + 1, none⟩ = some (.string (X x).2) ∧ w.frozen? ⟨b, x * 2, none⟩ = false ∧ w.frozen? ⟨b, x * 2 + 1, none⟩ = false := by
  obtain ⟨T, xs, h1, h2⟩ := h
  exact ⟨h1.cell (h2 x hx).1, h1.cell (h2 x hx).2, h1.free _, h1.free _⟩
theorem Ro.lt {w : World} {b n : Nat} {X : Nat → PB} (h : Ro w b n X) : b < w.heap.size := by
  obtain ⟨T, xs, h1, h2⟩ := h
  exact h1.lt
theorem Ro.uf {w : World} {b n : Nat} {X : Nat → PB} (h : Ro w b n X) : Uf w b := by
  obtain ⟨T, xs, h1, h2⟩ := h
  exact h1.uf
def upd (X : Nat → PB) (i : Nat) (p : PB) (x : Nat) : PB := if x = i then p else X x
theorem Ro.set {w : World} {b n : Nat} {X : Nat → PB} (h : Ro w b n X) {i : Nat} (hi : i < n) (k v : ByteArray) : Ro ((w.setCell ⟨b, i * 2, none⟩ (.string k)).setCell ⟨b, i * 2 + 1, none⟩ (.string v)) b n (upd X i (k, v)) := by
  obtain ⟨T, xs, h1, h2⟩ := h
  refine ⟨T, _, (h1.set _ _).set _ _, fun x hx => ?_⟩
  have hl0 := (List.getElem?_eq_some_iff.1 (h2 i hi).1).1
  have hl1 := (List.getElem?_eq_some_iff.1 (h2 i hi).2).1
  unfold upd
  by_cases e : x = i
  · subst e
    rw [if_pos rfl]
    constructor
    · rw [List.getElem?_set_ne (by omega)]; simp [hl0]
    · simp [hl1]
  · rw [if_neg e]
    constructor
    · rw [List.getElem?_set_ne (by omega), List.getElem?_set_ne (by omega)]; exact (h2 x hx).1
    · rw [List.getElem?_set_ne (by omega), List.getElem?_set_ne (by omega)]; exact (h2 x hx).2
theorem Ro.pr {w : World} {b n : Nat} {X : Nat → PB} (h : Ro w b n X) {m c : Nat} {l : List PB} (hl : l.length = m) (hm : m ≤ n) (hc : m ≤ c) (hc2 : c ≤ 9223372036854775807) (hX : ∀ x, x < m → pAtB l x = X x) (S : Nat → Prop) (hS : S b) : Pr w S (.slice (some ⟨b, 0, none⟩) m c) l := by
  subst hl
  obtain ⟨T, xs, h1, h2⟩ := h
  refine ⟨_, c, rfl, hc, hc2, fun h0 => ?_, fun h => by (cases h), fun hp => ⟨b, 0, rfl, h1.lt, hS, fun j u hu => ?_⟩⟩
  · have : l = [] := List.eq_nil_of_length_eq_zero h0
    rw [this]; rfl
  · have hj : j < l.length * 2 := by have := (List.getElem?_eq_some_iff.1 hu).1; rwa [pcs_length] at this
    rw [Nat.zero_add]
    have hx := pcs_at l (j / 2) (by omega)
    have hy := h2 (j / 2) (by omega)
    rw [← hX (j / 2) (by omega)] at hy
    rcases Nat.mod_two_eq_zero_or_one j with e | e
    · rw [show j / 2 * 2 = j by omega] at hx hy
      rw [hu] at hx
      rw [h1.cell hy.1, hx.1]
    · rw [show j / 2 * 2 + 1 = j by omega] at hx hy
      rw [hu] at hx
      rw [h1.cell hy.2, hx.2]
theorem Ow.ro {w : World} {base : Nat} {a : Option Addr} {n c : Nat} {l : List PB} (h : Ow w base (.slice a n c) l) (hp : 0 < n) : ∃ b, a = some ⟨b, 0, none⟩ ∧ base ≤ b ∧ n = l.length ∧ n ≤ c ∧ c ≤ 9223372036854775807 ∧ Ro w b n (pAtB l) := by
  rcases h.2 with ⟨e, h0⟩ | ⟨g, cap, cur, e, h3, h4, h5, h6, h7, h8⟩
  · cases e; omega
  · cases e
    refine ⟨g, rfl, h3, rfl, h5, by unfold maxLen at h6; omega, ?_⟩
    refine ⟨_, cur.toList, by show _ = _; simpa using h4, fun x hx => ?_⟩
    obtain ⟨h1, h2⟩ := pcs_at l x hx
    rw [← h8] at h1 h2
    rw [List.getElem?_take] at h1 h2
    split at h1 <;> split at h2 <;> simp_all
theorem only_sets {R : Nat → Prop} {b : Nat} (h : R b) : ∀ (vs : List Value) (o : Nat) (w : World), Only R w (w.setCells b o vs)
  | [], _, w => Only.refl _ _
  | v :: vs, o, w => by
    rw [World.setCells]
    exact (only_set h v).trans (only_sets h vs (o + 1) _)
theorem bk_sets {b : Nat} {T : TypeId} : ∀ (vs : List Value) (o : Nat) (w : World) (xs : List Value), Bk w b T xs → ∃ ys, Bk (w.setCells b o vs) b T ys ∧ ys.length = xs.length ∧ ∀ x, x < o → ys[x]? = xs[x]?
  | [], _, w, xs, h => ⟨xs, h, rfl, fun _ _ => rfl⟩
  | v :: vs, o, w, xs, h => by
    obtain ⟨ys, h1, h2, h3⟩ := bk_sets vs (o + 1) _ _ (h.set o v)
    refine ⟨ys, h1, by rw [h2, List.length_set], fun x hx => ?_⟩
    rw [h3 x (by omega), List.getElem?_set_ne (by omega)]
theorem Ro.sets {w : World} {b n : Nat} {X : Nat → PB} (h : Ro w b n X) {i : Nat} (hi : i ≤ n) (vs : List Value) : Ro (w.setCells b (i * 2) vs) b i X := by
  obtain ⟨T, xs, h1, h2⟩ := h
  obtain ⟨ys, h3, _, h4⟩ := bk_sets vs (i * 2) w xs h1
  refine ⟨T, ys, h3, fun x hx => ?_⟩
  rw [h4 _ (by omega), h4 _ (by omega)]
  exact h2 x (by omega)
theorem run_clear_pairs (ty : TypeId) (w : World) (b o n c : Nat) (hc : ∀ j, j < n * 2 → (w.cell? ⟨b, o + j, none⟩).isSome = true) (hf : ∀ j, j < n * 2 → w.frozen? ⟨b, o + j, none⟩ = false) :
    (Builtin.clear_ #[23] ty #[.slice (some ⟨b, o, none⟩) n c]).run Try.prog w = .ok (.tuple #[]) (w.setCells b o (List.replicate (n * 2) (.string ⟨#[]⟩))) := by
  have hv : (zeroValue 34).run Try.prog w = .ok (.agg #[.string ⟨#[]⟩, .string ⟨#[]⟩]) w := by go_simp
  have hzc : (Builtin.zeroCells (Value.agg #[.string ⟨#[]⟩, .string ⟨#[]⟩]).cells n).toList = List.replicate (n * 2) (.string ⟨#[]⟩) := by
    simp [Builtin.zeroCells, Value.cells]
    apply List.ext_getElem
    · simp
    · intro i h1 h2
      simp
      rcases Nat.mod_two_eq_zero_or_one i with e | e <;> simp [e]
  have hst := run_storeCells_cells (P := Try.prog) b o (List.replicate (n * 2) (.string ⟨#[]⟩)) 0 w (by simpa using hc) (by simpa using hf) (by intro v hv'; rw [List.eq_of_mem_replicate hv']; rfl)
  simp only [Nat.add_zero] at hst
  cases n with
  | zero => simp [Builtin.clear_, World.setCells, run_underlying Try.underlying23]
  | succ m => simp [Builtin.clear_, run_underlying Try.underlying23, hv, hzc, hst]
end Go.Proofs.Ytjbamfgfgbmieaa
/-
  slices.DeleteFunc over pairs, with the scan's function; slices.Reverse of pairs.
-/
namespace Go.Proofs.Ytjbamfgfgbmieaa
open Go.RowKit
/-- The slice value v is a row of its own, from its first place on, that may be written and holds f. -/
def Rp (w : World) (base : Nat) (v : Value) (f : List PB) : Prop := ∃ a m c, v = .slice a m c ∧ m = f.length ∧ m ≤ c ∧ c ≤ 9223372036854775807 ∧ (a = none → c = 0) ∧ (0 < m → ∃ b, a = some ⟨b, 0, none⟩ ∧ base ≤ b ∧ Ro w b m (pAtB f))
theorem Ow.rp {w : World} {base : Nat} {v : Value} {l : List PB} (h : Ow w base v l) : Rp w base v l := by
  obtain ⟨a, n, c, rfl, hn⟩ := h.shape'
  have hlen := Rw.len (h.pr (S := fun _ => True) (fun _ _ _ _ => trivial))
  refine ⟨a, n, c, rfl, hn.out, hlen.2.1, hlen.2.2, ?_, fun hp => ?_⟩
  · rintro rfl
    obtain ⟨a', c', e, _, _, _, h5, _⟩ := h.pr (S := fun _ => True) (fun _ _ _ _ => trivial)
    cases e
    exact h5 rfl
  · obtain ⟨b, h1, h2, _, _, _, h3⟩ := h.ro hp
    exact ⟨b, h1, h2, h3⟩
theorem Rp.pr {w : World} {base : Nat} {v : Value} {f : List PB} (h : Rp w base v f) : Pr w (fun b => base ≤ b ∧ Uf w b) v f := by
  obtain ⟨a, m, c, rfl, h1, h2, h3, h4, h5⟩ := h
  rcases Nat.eq_zero_or_pos m with h0 | hp
  · have : f = [] := List.eq_nil_of_length_eq_zero (by omega)
    subst this h0
    exact ⟨a, c, rfl, h2, h3, fun _ => rfl, h4, fun h => by simp at h⟩
  · obtain ⟨b, rfl, h6, h7⟩ := h5 hp
    exact h7.pr h1.symm (Nat.le_refl _) h2 h3 (fun _ _ => rfl) _ ⟨h6, h7.uf⟩
theorem Rp.below {w w' : World} {base : Nat} {v : Value} {f : List PB} (h : Rp w base v f) (hb : Below w.heap.size w w') : Rp w' base v f := by
  obtain ⟨a, m, c, rfl, h1, h2, h3, h4, h5⟩ := h
  refine ⟨a, m, c, rfl, h1, h2, h3, h4, fun hp => ?_⟩
  obtain ⟨b, h6, h7, h8⟩ := h5 hp
  exact ⟨b, h6, h7, h8.below hb⟩
def RpPost (base : Nat) (f : List PB) (w : World) (e : Ending) (w' : World) : Prop := ∃ a m c, e = .returned (.slice a m c) ∧ Rp w' base (.slice a m c) f ∧ Below base w w'
abbrev hasF (lo hi : ByteArray) (l : List PB) : List PB := l.filter fun p => rHas lo hi p.1
theorem hasF_step (lo hi : ByteArray) (l : List PB) (j : Nat) (h : j < l.length) : hasF lo hi (l.take (j + 1)) = if rHas lo hi (pAtB l j).1 = true then hasF lo hi (l.take j) ++ [pAtB l j] else hasF lo hi (l.take j) := by
  rw [List.take_succ_eq_append_getElem h, ← pAtB_lt h, hasF, List.filter_append]
  cases hh : rHas lo hi (pAtB l j).1 with
  | false => simp [hasF, hh]
  | true => simp [hasF, hh]
theorem hasF_le (lo hi : ByteArray) (l : List PB) (j : Nat) : (hasF lo hi (l.take j)).length ≤ j := Nat.le_trans (List.length_filter_le _ _) (by rw [List.length_take]; omega)
theorem hasF_all {lo hi : ByteArray} {l : List PB} {j : Nat} (hj : j ≤ l.length) (h : ∀ x, x < j → rHas lo hi (pAtB l x).1 = true) : hasF lo hi (l.take j) = l.take j := by
  rw [hasF, List.filter_eq_self]
  intro p hp
  obtain ⟨i, hi, rfl⟩ := List.mem_iff_getElem.1 hp
  have hi' : i < j := by rw [List.length_take] at hi; omega
  have := h i hi'
  rw [pAtB_lt (by omega)] at this
  rw [List.getElem_take]
  exact this
theorem pAtB_take {l : List PB} {j x : Nat} (h : x < j) : pAtB (l.take j) x = pAtB l x := by simp [pAtB, h]
theorem pAtB_snoc {l : List PB} {p : PB} {x : Nat} (h : x < l.length) : pAtB (l ++ [p]) x = pAtB l x := by simp [pAtB, List.getElem?_append_left h]
theorem pAtB_snoc' {l : List PB} {p : PB} : pAtB (l ++ [p]) l.length = p := by simp [pAtB]
end Go.Proofs.Ytjbamfgfgbmieaa
/-
  slices.Reverse of pairs.
-/
namespace Go.Proofs.Ytjbamfgfgbmieaa
open Go.RowKit
def revX (f : List PB) (n i : Nat) (x : Nat) : PB := if x < i ∨ n - i ≤ x then pAtB f (n - 1 - x) else pAtB f x
set_option maxHeartbeats 4000000 in
set_option maxRecDepth 20000 in
theorem rev_any (b n c : Nat) (f : List PB) (w : World) (hR : Ro w b n (pAtB f)) (hp : 0 < n) (hn : n ≤ 200) (hnc : n ≤ c) (hc : c ≤ 9223372036854775807) :
    Calls Try.prog 84 #[.slice (some ⟨b, 0, none⟩) n c] w fun e w' => e = .returned (.tuple #[]) ∧ Ro w' b n (fun x => pAtB f (n - 1 - x)) ∧ Only (fun y => y = b) w w' := by
  have HR := hid hR
  clear hR
  go_enter Try.func84, Try.ntmps84
  go_wp2_with fail
  go_loopw [2, 3] (fun x y wr => ∃ (i j : Nat), x = .int .i64 i ∧ y = .int .i64 j ∧ i + j = n - 1 ∧ i ≤ j + 1 ∧ Hid (Ro wr b n (revX f n i)) ∧ Hid (Only (fun y => y = b) w wr)) (fun _ y _ => (intOf y).toNat)
  case atStart =>
    refine ⟨0, n - 1, rfl, by go_num, by omega, by omega, ?_, Only.refl _ _⟩
    obtain ⟨T, xs, h1, h2⟩ := HR.out
    refine ⟨T, xs, h1, fun x hx => ?_⟩
    rw [revX, if_neg (by omega)]
    exact h2 x hx
  case round =>
    obtain ⟨i, j, rfl, rfl, hij, hle, HX, HO⟩ := hrel
    by_cases hlt : i < j
    · have hlt' : (i : Int) < (j : Int) := by omega
      have hi0 : (0 : Int) ≤ (i : Int) := by omega
      have hj0 : (0 : Int) ≤ (j : Int) := by omega
      have hin : (i : Int) < (n : Int) := by omega
      have hjn : (j : Int) < (n : Int) := by omega
      obtain ⟨a0, a1, a2, a3⟩ := HX.out.cell (x := i) (by omega)
      obtain ⟨b0, b1, b2, b3⟩ := HX.out.cell (x := j) (by omega)
      generalize hxi : revX f n i i = xi at *
      generalize hxj : revX f n i j = xj at *
      obtain ⟨k0, v0⟩ := xi
      obtain ⟨k1, v1⟩ := xj
      simp only at a0 a1 b0 b1
      have hxi' := hid hxi
      have hxj' := hid hxj
      clear hxi hxj
      go_wp2_with fail
      go_region
      have HX1 : Hid (Ro ((((wr.setCell ⟨b, i * 2, none⟩ (.string k1)).setCell ⟨b, i * 2 + 1, none⟩ (.string v1)).setCell ⟨b, j * 2, none⟩ (.string k0)).setCell ⟨b, j * 2 + 1, none⟩ (.string v0)).drew b n (revX f n (i + 1))) := by
        obtain ⟨T, xs, h1, h2⟩ := ((HX.out.set (i := i) (by omega) k1 v1).set (i := j) (by omega) k0 v0).below (below_drew _)
        refine ⟨T, xs, h1, fun x hx => ?_⟩
        have e : revX f n (i + 1) x = upd (upd (revX f n i) i (k1, v1)) j (k0, v0) x := by
          unfold upd
          by_cases e1 : x = j
          · rw [if_pos e1, ← hxi'.out, e1]
            simp only [revX]
            rw [if_pos (by omega), if_neg (by omega), show n - 1 - j = i by omega]
          · rw [if_neg e1]
            by_cases e2 : x = i
            · rw [if_pos e2, ← hxj'.out, e2]
              simp only [revX]
              rw [if_pos (by omega), if_neg (by omega), show n - 1 - i = j by omega]
            · rw [if_neg e2]
              simp only [revX]
              by_cases e3 : x < i ∨ n - i ≤ x
              · rw [if_pos e3, if_pos (by omega)]
              · rw [if_neg e3, if_neg (by omega)]
        rw [e]
        exact h2 x hx
      have HO1 : Hid (Only (fun y => y = b) w ((((wr.setCell ⟨b, i * 2, none⟩ (.string k1)).setCell ⟨b, i * 2 + 1, none⟩ (.string v1)).setCell ⟨b, j * 2, none⟩ (.string k0)).setCell ⟨b, j * 2 + 1, none⟩ (.string v0)).drew) :=
        (((((HO.out.trans (only_set (R := fun y => y = b) rfl _)).trans (only_set (R := fun y => y = b) rfl _)).trans (only_set (R := fun y => y = b) rfl _)).trans (only_set (R := fun y => y = b) rfl _))).trans (only_of_below (below_drew _) _)
      generalize ((((wr.setCell ⟨b, i * 2, none⟩ (.string k1)).setCell ⟨b, i * 2 + 1, none⟩ (.string v1)).setCell ⟨b, j * 2, none⟩ (.string k0)).setCell ⟨b, j * 2 + 1, none⟩ (.string v0)).drew = wz at *
      clear a0 a1 a2 a3 b0 b1 b2 b3
      have hjw : (j : Int) - 1 = ((j - 1 : Nat) : Int) := by omega
      go_wp2
      go_roundw
      case rel => exact ⟨i + 1, j - 1, by go_num, by rw [← hjw], by omega, by omega, HX1.out, HO1.out⟩
      case measure => simp [intOf]; omega
    · have hlt' : ¬ (i : Int) < (j : Int) := by omega
      have HE : Hid (Ro wr b n (fun x => pAtB f (n - 1 - x))) := by
        obtain ⟨T, xs, h1, h2⟩ := HX.out
        refine ⟨T, xs, h1, fun x hx => ?_⟩
        have := h2 x hx
        have e : revX f n i x = pAtB f (n - 1 - x) := by
          rw [revX]
          split
          · rfl
          · rw [show n - 1 - x = x by omega]
        rwa [e] at this
      go_wp2
      go_end0
      exact ⟨rfl, HE.out, HO.out⟩
set_option maxHeartbeats 1000000 in
theorem rev0_any (a : Option Addr) (c : Nat) (w : World) : Calls Try.prog 84 #[.slice a 0 c] w fun e w' => e = .returned (.tuple #[]) ∧ w' = w := by
  go_enter Try.func84, Try.ntmps84
  go_wp2_with fail
  go_loop [2, 3] (fun x y => x = .int .i64 0 ∧ y = .int .i64 (-1)) (fun _ _ => 0)
  case atStart => exact ⟨rfl, rfl⟩
  case round =>
    obtain ⟨rfl, rfl⟩ := hrel
    go_wp2
    go_end0
    exact ⟨rfl, rfl⟩
end Go.Proofs.Ytjbamfgfgbmieaa
/-
  The program's sorted list: the piece of a range, reading it.
-/
namespace Go.Proofs.Ytjbamfgfgbmieaa
open Go.RowKit
theorem pcs_mid (l : List PB) {i j : Nat} (hij : i ≤ j) (hj : j ≤ l.length) {x : Nat} {u : Value} (h : (pcs ((l.take j).drop i))[x]? = some u) : (pcs l)[i * 2 + x]? = some u := by
  have e : l = l.take i ++ ((l.take j).drop i ++ l.drop j) := by
    rw [← List.append_assoc]
    have : l.take i = (l.take j).take i := by rw [List.take_take, Nat.min_eq_left hij]
    rw [this, List.take_append_drop, List.take_append_drop]
  have hx : x < (pcs ((l.take j).drop i)).length := (List.getElem?_eq_some_iff.1 h).1
  rw [e, pcs_append, pcs_append]
  have hl : (pcs (l.take i)).length = i * 2 := by rw [pcs_length, List.length_take]; omega
  rw [List.getElem?_append_right (by omega), hl, show i * 2 + x - i * 2 = x by omega, List.getElem?_append_left hx]
  exact h
theorem pr_sub {w : World} {S : Nat → Prop} {b off n c : Nat} {l : List PB} (h : Pr w S (.slice (some ⟨b, off, none⟩) n c) l) {i j : Nat} (hij : i ≤ j) (hj : j ≤ n) : Pr w S (.slice (some ⟨b, off + i * 2, none⟩) (j - i) (c - i)) ((l.take j).drop i) := by
  have hn := (Rw.len h).1
  have hl : ((l.take j).drop i).length = j - i := by rw [List.length_drop, List.length_take]; omega
  obtain ⟨a', c', e, h2, h3, h4, h5, h6⟩ := h
  cases e
  refine ⟨_, _, by rw [hl], by omega, by omega, fun h0 => ?_, fun h => by (cases h), fun hp => ?_⟩
  · rw [List.eq_nil_of_length_eq_zero h0]; rfl
  · obtain ⟨b', off', e, h7, h8, h9⟩ := h6 (by omega)
    cases e
    refine ⟨b, off + i * 2, rfl, h7, h8, fun x u hu => ?_⟩
    rw [Nat.add_assoc]
    exact h9 _ _ (pcs_mid l hij (by omega) hu)
theorem pr_cut {w : World} {S : Nat → Prop} {a : Option Addr} {n c : Nat} {l : List PB} (h : Pr w S (.slice a n c) l) {i j : Nat} (hij : i ≤ j) (hj : j ≤ n) :
    (c = i → Pr w S (.slice a (j - i) 0) ((l.take j).drop i)) ∧ (∀ x : Addr, a = some x → Pr w S (.slice (some (x.add (i * 2))) (j - i) (c - i)) ((l.take j).drop i)) ∧ (c ≠ i → ∃ x : Addr, a = some x) := by
  have hn := (Rw.len h).1
  obtain ⟨a', c', e, h2, h3, h4, h5, h6⟩ := h
  cases e
  refine ⟨fun e => ?_, fun x e => ?_, fun hc => ?_⟩
  · have hz : (l.take j).drop i = [] := List.drop_eq_nil_of_le (by rw [List.length_take]; omega)
    rw [hz, show j - i = 0 by omega]
    exact ⟨a, 0, rfl, Nat.le_refl _, by omega, fun _ => rfl, fun _ => rfl, fun hp => by simp at hp⟩
  · rcases Nat.eq_or_lt_of_le hij with e2 | hlt
    · have hz : (l.take j).drop i = [] := List.drop_eq_nil_of_le (by rw [List.length_take]; omega)
      rw [hz, show j - i = 0 by omega]
      exact ⟨_, c - i, rfl, Nat.zero_le _, by omega, fun _ => rfl, fun h => by (cases h), fun hp => by simp at hp⟩
    · obtain ⟨b', off', e3, h7, h8, h9⟩ := h6 (by omega)
      rw [e] at e3
      cases e3
      rw [Addr.add_lit]
      exact pr_sub ⟨_, c, rfl, h2, h3, h4, fun h => by (cases h), fun _ => ⟨b', off', rfl, h7, h8, h9⟩⟩ hij hj
  · cases a with
    | none => have := h5 rfl; omega
    | some x => exact ⟨x, rfl⟩
theorem pr_take {w : World} {S : Nat → Prop} {a : Option Addr} {n c : Nat} {l : List PB} (h : Pr w S (.slice a n c) l) {q : Nat} (hq : q ≤ n) : Pr w S (.slice a q c) (l.take q) := by
  have hn := (Rw.len h).1
  obtain ⟨a', c', e, h2, h3, h4, h5, h6⟩ := h
  cases e
  refine ⟨a, c, by rw [List.length_take, Nat.min_eq_left (by omega)], by rw [List.length_take]; omega, h3, fun h0 => ?_, h5, fun hp => ?_⟩
  · rw [List.eq_nil_of_length_eq_zero h0]; rfl
  · rw [List.length_take] at hp
    obtain ⟨b, off, e, h7, h8, h9⟩ := h6 (by omega)
    refine ⟨b, off, e, h7, h8, fun x u hu => ?_⟩
    have := pcs_mid l (i := 0) (j := q) (Nat.zero_le _) (by omega) (x := x) (u := u) (by simpa using hu)
    exact h9 _ _ (by simpa using this)
/-- What the slicing of a row leaves. -/
theorem pr_drop {w : World} {S : Nat → Prop} {b off n c : Nat} {l : List PB} (h : Pr w S (.slice (some ⟨b, off, none⟩) n c) l) {i : Nat} (hi : i ≤ n) : Pr w S (.slice (some ⟨b, off + i * 2, none⟩) (n - i) (c - i)) (l.drop i) := by
  have hn := (Rw.len h).1
  have := pr_sub h hi (Nat.le_refl _)
  rwa [hn, List.take_length, ← hn] at this
set_option maxHeartbeats 1000000 in
theorem copyPr_any (S : Nat → Prop) (a : Option Addr) (n c : Nat) (l : List PB) (w : World) (h : Pr w S (.slice a n c) l) (hl : n ≤ 2097152) :
    Calls Try.prog 35 #[.slice a n c] w fun e w' => ∃ a' n' c', e = .returned (.slice a' n' c') ∧ n' = n ∧ Ow w' w.heap.size (.slice a' n' c') l ∧ Below w.heap.size w w' := by
  obtain ⟨i, hi, hz, hsz, hby⟩ := info_of infoPairI
  have HN := hid (Rw.len h).1
  have HR := hid h
  clear h
  go_enter Try.func35, Try.ntmps35
  go_wp2_with (at_builtin; refine wpList_append_row rfl _ _ 23 rfl w.heap.size 34 i _ 2 32 Try.underlying23 hi hz hsz hby rfl (by decide) (.slice none 0 0) 0 [] rfl (World.ownsRow_nil _ _ _ _) S (.slice a n c) l.length (pcs l) rfl HR.out (pcs_length _) (pcs_one _) (by unfold maxLen; have := HN.out; omega) (by have := HN.out; omega) (Nat.le_refl _) ?_)
  intro v3 w3 hO3 hg3
  obtain ⟨a3, c3, rfl⟩ := own_shape hO3
  have O3 : Hid (Ow w3 w.heap.size (.slice a3 l.length c3) l) := hO3
  have G3 : Hid (Below w.heap.size w w3) := ⟨hg3.os, hg3.tape, hg3.output, hg3.size, fun k hk => hg3.block k hk (fun e => by cases e)⟩
  have HN3 : Hid (l.length = n) := HN.out.symm
  clear hO3 hg3 HR HN
  generalize l.length = m at *
  go_wp2
  go_ret
  exact ⟨_, _, _, rfl, HN3.out, O3.out, G3.out⟩
def SpanPost (S : Nat → Prop) (l : List PB) (w : World) (e : Ending) (w' : World) : Prop := ∃ a n c, e = .returned (.slice a n c) ∧ Pr w' S (.slice a n c) l ∧ Below w.heap.size w w'
set_option maxHeartbeats 2000000 in
theorem span_any (S : Nat → Prop) (a : Option Addr) (n c : Nat) (l : List PB) (lo hi : ByteArray) (w : World) (h : Pr w S (.slice a n c) l) (ha : Asc l) (hs : n ≤ 1048576) (hr : rOk lo hi = true) :
    Calls Try.prog 83 #[.slice a n c, .agg #[.string lo, .string hi]] w fun e w' => SpanPost S (spanL l lo hi) w e w' := by
  have HN := hid (Rw.len h).1
  have hnc := (Rw.len h).2.1
  have hcc := (Rw.len h).2.2
  have HB0 := hid (below_new (o := .cells #[.string lo, .string hi] 25) (w := w) (Below.refl _ _))
  have K0 := hid (Bk.new w 25 [.string lo, .string hi])
  have HP := hid (h.below' HB0.out)
  have HA := hid ha
  have hl0 : pos l lo ≤ n := by have := pos_le l lo; have := HN.out; omega
  have hl1 : pos l hi ≤ n := by have := pos_le l hi; have := HN.out; omega
  have HM := hid (fun hh => span_bounds (l := l) hr hh)
  clear h ha hr
  go_enter Try.func83, Try.ntmps83
  have c0 := K0.out.cell (j := 0) rfl
  go_wp2_with fail
  refine (placeOf_any S a n c l lo _ HP.out HA.out hs).mono ?_
  generalize w.alloc (.cells #[.string lo, .string hi] 25) = U at *
  rintro e w1 ⟨rfl, hb⟩
  have HB1 := hid (HB0.out.trans (hb.mono HB0.out.size))
  have K1 := hid (K0.out.below hb)
  have P1 := hid (HP.out.below' hb)
  clear hb c0 HB0 K0 HP
  have c1 := K1.out.cell (j := 1) rfl
  by_cases hh : hi.toList = []
  · have hh2 : hi.toList.isEmpty = true := by simp [hh]
    have HE : Hid (spanL l lo hi = (l.take n).drop (pos l lo)) := by show _ = _; rw [spanL, if_pos hh, HN.out, List.take_length]
    clear HM
    generalize pos l lo = i at *
    generalize there l lo = q at *
    have hi0 : (0 : Int) ≤ (i : Int) := by omega
    have hin : (i : Int) ≤ (n : Int) := by omega
    have hic : (i : Int) ≤ (c : Int) := by omega
    have HC := hid (pr_cut P1.out (i := i) (j := n) (by omega) (by omega))
    by_cases hci : c = i
    · have HR := hid (HC.out.1 hci)
      clear HC
      go_wp2
      go_ret
      exact ⟨_, _, _, rfl, by rw [HE.out]; exact HR.out, HB1.out⟩
    · obtain ⟨x, rfl⟩ := HC.out.2.2 hci
      have HR := hid (HC.out.2.1 x rfl)
      clear HC
      go_wp2
      go_ret
      exact ⟨_, _, _, rfl, by rw [HE.out]; exact HR.out, HB1.out⟩
    
  · have hh2 : hi.toList.isEmpty = false := by simpa using hh
    have HE : Hid (spanL l lo hi = (l.take (pos l hi)).drop (pos l lo)) := by show _ = _; rw [spanL, if_neg hh]
    have hle : pos l lo ≤ pos l hi := HM.out hh
    clear HM
    go_wp2_with fail
    refine (placeOf_any S a n c l hi _ P1.out HA.out hs).mono ?_
    rintro e w2 ⟨rfl, hb⟩
    have HB2 := hid (HB1.out.trans (hb.mono HB1.out.size))
    have P2 := hid (P1.out.below' hb)
    clear hb c1 HB1 K1 P1
    generalize pos l lo = i at *
    generalize there l lo = q at *
    generalize pos l hi = j at *
    generalize there l hi = q2 at *
    have hi0 : (0 : Int) ≤ (i : Int) := by omega
    have hj0 : (0 : Int) ≤ (j : Int) := by omega
    have hij : (i : Int) ≤ (j : Int) := by omega
    have hjn : (j : Int) ≤ (n : Int) := by omega
    have hin : (i : Int) ≤ (n : Int) := by omega
    have hjc : (j : Int) ≤ (c : Int) := by omega
    have hic : (i : Int) ≤ (c : Int) := by omega
    have HC := hid (pr_cut P2.out (i := i) (j := j) (by omega) (by omega))
    by_cases hci : c = i
    · have HR := hid (HC.out.1 hci)
      clear HC
      go_wp2
      go_ret
      exact ⟨_, _, _, rfl, by rw [HE.out]; exact HR.out, HB2.out⟩
    · obtain ⟨x, rfl⟩ := HC.out.2.2 hci
      have HR := hid (HC.out.2.1 x rfl)
      clear HC
      go_wp2
      go_ret
      exact ⟨_, _, _, rfl, by rw [HE.out]; exact HR.out, HB2.out⟩
    
end Go.Proofs.Ytjbamfgfgbmieaa
/-
  The program's sorted list: reading a range.
-/
namespace Go.Proofs.Ytjbamfgfgbmieaa
open Go.RowKit
theorem own_mono_rp' {w : World} {base base' : Nat} {v : Value} {f : List PB} (h : Rp w base v f) (hb : base' ≤ base) : Rp w base' v f := by
  obtain ⟨a, m, c, h1, h2, h3, h4, h5, h6⟩ := h
  refine ⟨a, m, c, h1, h2, h3, h4, h5, fun hp => ?_⟩
  obtain ⟨b, h7, h8, h9⟩ := h6 hp
  exact ⟨b, h7, Nat.le_trans hb h8, h9⟩
theorem sc_fwd (l : List PB) (lo hi : ByteArray) (q : Nat) : scV l lo hi (q : Int) false = (rngF l lo hi).take q := by
  unfold scV dirL rngF
  simp
theorem sc_bwd (l : List PB) (lo hi : ByteArray) (q n : Nat) (hn : n = (rngF l lo hi).length) : scV l lo hi (q : Int) true = (((rngF l lo hi).take n).drop (n - min q n)).reverse := by
  have e : scV l lo hi (q : Int) true = (rngF l lo hi).reverse.take q := by
    unfold scV dirL rngF
    simp
  rw [e, hn, List.take_length]
  by_cases h : q ≤ (rngF l lo hi).length
  · rw [Nat.min_eq_left h, List.take_reverse]
  · rw [Nat.min_eq_right (by omega), Nat.sub_self, List.drop_zero, List.take_of_length_le (by rw [List.length_reverse]; omega)]
theorem rp_rev {w' : World} {base b n c : Nat} {f : List PB} (hn : n = f.length) (hnc : n ≤ c) (hc : c ≤ 9223372036854775807) (hb : base ≤ b) (h : Ro w' b n (fun x => pAtB f (n - 1 - x))) : Rp w' base (.slice (some ⟨b, 0, none⟩) n c) f.reverse := by
  refine ⟨_, n, c, rfl, by rw [List.length_reverse]; exact hn, hnc, hc, fun h => by (cases h), fun _ => ⟨b, rfl, hb, ?_⟩⟩
  obtain ⟨T, xs, g1, g2⟩ := h
  refine ⟨T, xs, g1, fun x hx => ?_⟩
  have e : pAtB f.reverse x = pAtB f (n - 1 - x) := by
    rw [pAtB_lt (by simp; omega), pAtB_lt (by omega)]
    simp [hn]
  rw [e]
  exact g2 x hx
/-- Reverse of a row of its own. -/
theorem sreverse_any (base : Nat) (a : Option Addr) (n c : Nat) (f : List PB) (w : World) (h : Ow w base (.slice a n c) f) (hn : n ≤ 200) (hbase : base ≤ w.heap.size) :
    Calls Try.prog 84 #[.slice a n c] w fun e w' => e = .returned (.tuple #[]) ∧ Rp w' base (.slice a n c) f.reverse ∧ Below base w w' := by
  rcases Nat.eq_zero_or_pos n with h0 | hp
  · subst h0
    refine (rev0_any a c w).mono ?_
    rintro e w3 ⟨rfl, rfl⟩
    have hf : f = [] := List.eq_nil_of_length_eq_zero (Rw.len (h.pr (S := fun _ => True) (fun _ _ _ _ => trivial))).1.symm
    subst hf
    exact ⟨rfl, h.rp, Below.refl _ _⟩
  · obtain ⟨b, rfl, hbb, hnf, hnc, hcc, hro⟩ := h.ro hp
    refine (rev_any b n c f w hro hp hn hnc hcc).mono ?_
    rintro e w3 ⟨rfl, hr3, ho3⟩
    exact ⟨rfl, rp_rev hnf hnc hcc hbb hr3, ho3.below hbase (fun y h1 h2 => by omega)⟩
set_option maxHeartbeats 4000000 in
set_option maxRecDepth 20000 in
theorem sread_any (S : Nat → Prop) (a : Option Addr) (n c : Nat) (l : List PB) (lo hi : ByteArray) (mo : Int) (bk : Bool) (w : World) (h : Pr w S (.slice a n c) l) (hd : daOk l = true) (hs : n ≤ 1048576) (hr : rOk lo hi = true) (hm : 1 ≤ mo ∧ mo ≤ 8) :
    Calls Try.prog 66 #[.slice a n c, .agg #[.string lo, .string hi], .int .i64 mo, .bool bk] w fun e w' => RpPost w.heap.size (scV l lo hi mo bk) w e w' := by
  obtain ⟨q, rfl⟩ : ∃ q : Nat, mo = (q : Int) := ⟨mo.toNat, by omega⟩
  have hq1 : 1 ≤ q := by omega
  have hq8 : q ≤ 8 := by omega
  have HN := hid (Rw.len h).1
  have HB0 := hid (below_new (o := .cells #[.string lo, .string hi] 25) (w := w) (Below.refl _ _))
  have K0 := hid (Bk.new w 25 [.string lo, .string hi])
  have HP := hid (h.below' HB0.out)
  have HD := hid hd
  have HR := hid hr
  clear h hd hr hm
  go_enter Try.func66, Try.ntmps66
  have c0 := K0.out.cell (j := 0) rfl
  have c1 := K0.out.cell (j := 1) rfl
  go_wp2_with fail
  refine (span_any S a n c l lo hi _ HP.out (daOk_asc HD.out) hs HR.out).mono ?_
  generalize w.alloc (.cells #[.string lo, .string hi] 25) = U at *
  rintro e w1 ⟨a1, n1, c1', rfl, hp1, hb⟩
  rw [span_eq HD.out HR.out] at hp1
  have HB1 := hid (HB0.out.trans (hb.mono HB0.out.size))
  have P1 := hid hp1
  have hn1 : n1 ≤ n := by
    rw [(Rw.len hp1).1, HN.out]
    exact List.length_filter_le _ _
  have HN1 := hid (Rw.len hp1).1
  have hnc1 := (Rw.len hp1).2.1
  have hcc1 := (Rw.len hp1).2.2
  clear hb c0 c1 HB0 K0 HP hp1
  generalize hF : rngF l lo hi = F at *
  cases bk with
  | false =>
    have HE : Hid (scV l lo hi (q : Int) false = F.take q) := by show _ = _; rw [sc_fwd, hF]
    clear hF
    by_cases hqn : q ≤ n1
    · have hqn1 : (q : Int) ≤ (n1 : Int) := by omega
      have hqn2 : ¬ (n1 : Int) < (q : Int) := by omega
      have hmc : (q : Int) ≤ (c1' : Int) := by omega
      have hm0 : (0 : Int) ≤ (q : Int) := by omega
      have P2 := hid (pr_take P1.out (q := q) (by omega))
      clear P1 HN1
      go_wp2_with fail
      refine (copyPr_any S a1 q c1' _ _ P2.out (by omega)).mono ?_
      rintro e w2 ⟨a2, n2, c2, rfl, rfl, hO, hb⟩
      have HB2 := hid (HB1.out.trans (hb.mono HB1.out.size))
      have R2 := hid (own_mono_rp' hO.rp HB1.out.size)
      clear hO hb HB1 P2
      go_wp2
      go_ret
      exact ⟨_, _, _, rfl, by rw [HE.out]; exact R2.out, HB2.out⟩
    · have hqn0 : n1 ≤ q := by omega
      have hqn1 : ¬ (q : Int) ≤ (n1 : Int) := by omega
      have hqn2 : (n1 : Int) < (q : Int) := by omega
      have hqn3 : (n1 : Int) ≤ (q : Int) := by omega
      have hmc : (n1 : Int) ≤ (c1' : Int) := by omega
      have hm0 : (0 : Int) ≤ (n1 : Int) := by omega
      have P2 : Hid (Pr w1 S (.slice a1 n1 c1') (F.take q)) := by show Pr _ _ _ _; rw [List.take_of_length_le (by rw [← HN1.out]; omega)]; exact P1.out
      clear P1 HN1
      go_wp2_with fail
      refine (copyPr_any S a1 n1 c1' _ _ P2.out (by omega)).mono ?_
      rintro e w2 ⟨a2, n2, c2, rfl, rfl, hO, hb⟩
      have HB2 := hid (HB1.out.trans (hb.mono HB1.out.size))
      have R2 := hid (own_mono_rp' hO.rp HB1.out.size)
      clear hO hb HB1 P2
      go_wp2
      go_ret
      exact ⟨_, _, _, rfl, by rw [HE.out]; exact R2.out, HB2.out⟩
  | true =>
    have HE : Hid (scV l lo hi (q : Int) true = ((F.take n1).drop (n1 - min q n1)).reverse) := by
      show _ = _
      rw [sc_bwd l lo hi q n1 (by rw [hF]; exact HN1.out), hF]
    clear hF
    by_cases hqn : q ≤ n1
    · have hqn1 : (q : Int) ≤ (n1 : Int) := by omega
      have hqn2 : ¬ (n1 : Int) < (q : Int) := by omega
      rw [Nat.min_eq_left hqn] at HE
      have HC := hid (pr_cut P1.out (i := n1 - q) (j := n1) (by omega) (Nat.le_refl _))
      obtain ⟨i, hi⟩ : ∃ i, i = n1 - q := ⟨_, rfl⟩
      rw [← hi] at HC HE
      have hw2 : IntKind.i64.wrap ((n1 : Int) - (q : Int)) = (i : Int) := by rw [IntKind.wrap_i64]; omega
      have hw3 : (0 : Int) ≤ (i : Int) := by omega
      have hw4 : (i : Int) ≤ (n1 : Int) := by omega
      have hw5 : (i : Int) ≤ (c1' : Int) := by omega
      have hw7 : IntKind.i64.wrap (i : Int) = (i : Int) := by rw [IntKind.wrap_i64]; omega
      have hw1 : (n1 : Int) - (q : Int) = (i : Int) := by omega
      have HW6 : Hid (n1 - i ≤ 8) := by show _ ≤ _; omega
      have hci : ¬ c1' = i := by omega
      clear hi P1 HN1
      obtain ⟨x, rfl⟩ := HC.out.2.2 hci
      have P2 := hid (HC.out.2.1 x rfl)
      clear HC
      go_wp2_with fail
      refine (copyPr_any S (some (x.add (i * 2))) (n1 - i) (c1' - i) _ _ P2.out (by have := HW6.out; omega)).mono ?_
      rintro e w2 ⟨a2, n2, c2, rfl, hn2, hO, hb⟩
      have HB2 := hid (HB1.out.trans (hb.mono HB1.out.size))
      have O2 := hid hO
      have HS2 := hid hb.size
      have HS1 := hid HB1.out.size
      have HN2 : Hid (n2 ≤ 200) := by show _ ≤ _; have := HW6.out; omega
      clear hO hb hn2 HB1 P2
      go_wp2_with fail
      refine (sreverse_any w1.heap.size a2 n2 c2 _ _ O2.out HN2.out HS2.out).mono ?_
      rintro e w3 ⟨rfl, hR, hb⟩
      have HB3 := hid (HB2.out.trans (hb.mono HS1.out))
      have R3 := hid (own_mono_rp' hR HS1.out)
      clear hR hb HB2 O2
      go_wp2
      go_ret
      exact ⟨_, _, _, rfl, by rw [HE.out]; exact R3.out, HB3.out⟩
    · have hqn1 : ¬ (q : Int) ≤ (n1 : Int) := by omega
      have hqn2 : (n1 : Int) < (q : Int) := by omega
      have hqn3 : (n1 : Int) ≤ (q : Int) := by omega
      rw [Nat.min_eq_right (by omega), Nat.sub_self, List.drop_zero, HN1.out, List.take_length] at HE
      have hw2 : IntKind.i64.wrap ((n1 : Int) - (n1 : Int)) = 0 := by rw [IntKind.wrap_i64]; omega
      have hw4 : (0 : Int) ≤ (n1 : Int) := by omega
      have hw5 : (0 : Int) ≤ (c1' : Int) := by omega
      have HW6 : Hid (n1 ≤ 8) := by show _ ≤ _; omega
      go_wp2_with fail
      refine (copyPr_any S a1 n1 c1' _ _ P1.out (by have := HW6.out; omega)).mono ?_
      rintro e w2 ⟨a2, n2, c2, rfl, hn2, hO, hb⟩
      have HB2 := hid (HB1.out.trans (hb.mono HB1.out.size))
      have O2 := hid hO
      have HS2 := hid hb.size
      have HS1 := hid HB1.out.size
      have HN2 : Hid (n2 ≤ 200) := by show _ ≤ _; have := HW6.out; omega
      clear hO hb hn2 HB1 P1
      go_wp2_with fail
      refine (sreverse_any w1.heap.size a2 n2 c2 _ _ O2.out HN2.out HS2.out).mono ?_
      rintro e w3 ⟨rfl, hR, hb⟩
      have HB3 := hid (HB2.out.trans (hb.mono HS1.out))
      have R3 := hid (own_mono_rp' hR HS1.out)
      clear hR hb HB2 O2
      go_wp2
      go_ret
      exact ⟨_, _, _, rfl, by rw [HE.out]; exact R3.out, HB3.out⟩
end Go.Proofs.Ytjbamfgfgbmieaa
