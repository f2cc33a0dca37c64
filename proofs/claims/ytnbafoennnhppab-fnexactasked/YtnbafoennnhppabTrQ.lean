/-
  Reading: the program reads just the trees that are full, evenly deep and laid in the walk's order; the specification reads these too.
-/
import Derived.Test.YtnbafoennnhppabTrP
namespace Go.Proofs.Ytnbafoennnhppab
open Go.RowKit

theorem ev_lv : ∀ (h : Nat) (t : T), Ev h t → t.lv = h
  | 0, _, e => e.elim
  | h + 1, .mk ps [], e => by
    rcases e with ⟨_, rfl⟩ | ⟨e, _⟩
    · rfl
    · exact absurd rfl e
  | h + 1, .mk ps (k :: ks), e => by
    rcases e with ⟨e, _⟩ | ⟨_, e⟩
    · cases e
    · simp [T.lv, ev_lv h k (e k (by simp))]
theorem ev_dpL (h : Nat) (ih : ∀ t, Ev h t → t.dp = h) : ∀ (ks : List T), (∀ k ∈ ks, Ev h k) → ∀ f, ks ≠ [] ∨ f = false → dpL f (if f then 0 else (h : Int) + 1) ks = h + 1
  | [], _, f, hf => by
    rcases hf with hf | rfl
    · exact absurd rfl hf
    · simp [dpL]
  | k :: ks, hk, f, _ => by
    have e := ih k (hk k (by simp))
    have := ev_dpL h ih ks (fun x hx => hk x (by simp [hx])) false (.inr rfl)
    simp only [dpL, e]
    rw [if_neg]
    · simpa using this
    · rintro (h1 | ⟨rfl, h1⟩)
      · omega
      · simp at h1
theorem ev_dp : ∀ (h : Nat) (t : T), Ev h t → t.dp = h
  | 0, _, e => e.elim
  | h + 1, .mk ps ks, e => by
    rcases e with ⟨rfl, rfl⟩ | ⟨e1, e2⟩
    · simp [T.dp]
    · have := ev_dpL h (ev_dp h) ks e2 true (.inl e1)
      simpa [T.dp, e1] using this
theorem dpL_neg_or (ks : List T) : ∀ (f : Bool) (d : Int), (dpL f d ks = -1) ∨ (∀ k ∈ ks, 0 ≤ k.dp ∧ k.dp + 1 = dpL f d ks) ∧ (f = false → ks ≠ [] → dpL f d ks = d) ∧ (ks = [] → dpL f d ks = d) := by
  induction ks with
  | nil => intro f d; right; simp [dpL]
  | cons k ks ih =>
    intro f d
    simp only [dpL]
    split
    · exact .inl rfl
    · rename_i h
      rcases ih false (k.dp + 1) with h1 | ⟨h1, h2, h3⟩
      · exact .inl h1
      · have hv : dpL false (k.dp + 1) ks = k.dp + 1 := by
          by_cases hk : ks = []
          · exact h3 hk
          · exact h2 rfl hk
        refine .inr ⟨fun x hx => ?_, fun hf _ => ?_, fun h => by cases h⟩
        · rcases List.mem_cons.1 hx with rfl | hx
          · exact ⟨by omega, hv.symm⟩
          · exact h1 x hx
        · rw [hv]
          by_cases e : k.dp + 1 = d
          · exact e
          · exact absurd (.inr ⟨hf, e⟩) h
theorem dp_ev : ∀ (t : T), 0 ≤ t.dp → Ev t.dp.toNat t := by
  refine T.ind ?_
  intro ps ks ih h0
  by_cases hk : ks = []
  · subst hk
    simp [T.dp, Ev]
  · have e : (T.mk ps ks).dp = dpL true 0 ks := by simp [T.dp, hk]
    rw [e] at h0 ⊢
    rcases dpL_neg_or ks true 0 with h1 | ⟨h1, _, _⟩
    · omega
    · obtain ⟨k, hk'⟩ := List.exists_mem_of_ne_nil ks hk
      have := h1 k hk'
      obtain ⟨m, hm⟩ : ∃ m : Nat, dpL true 0 ks = m + 1 := ⟨(dpL true 0 ks).toNat - 1, by omega⟩
      rw [hm]
      show Ev (m + 1) _
      refine .inr ⟨hk, fun x hx => ?_⟩
      have hx' := h1 x hx
      have := ih x hx hx'.1
      rwa [show x.dp.toNat = m by omega] at this
theorem pre_cons {ns : List NB} {a : Nat} {n : NB} {l : List NB} : Pre ns a (n :: l) ↔ ns[a]? = some n ∧ Pre ns (a + 1) l := by
  rw [show n :: l = [n] ++ l from rfl, pre_append]
  constructor
  · rintro ⟨h1, h2⟩; exact ⟨by simpa using h1 0 (by simp), h2⟩
  · rintro ⟨h1, h2⟩; refine ⟨fun i hi => ?_, h2⟩; simp at hi; subst hi; simpa using h1
theorem pre_lt {ns : List NB} {a : Nat} {n : NB} (h : ns[a]? = some n) : a < ns.length ∧ nAt ns a = n := by
  obtain ⟨h1, h2⟩ := List.getElem?_eq_some_iff.1 h
  exact ⟨h1, by simp [nAt, h]⟩
theorem nAt_some {ns : List NB} {a : Nat} (h : a < ns.length) : ns[a]? = some (nAt ns a) := by simp [nAt, h]
theorem T.size_pos (t : T) : 0 < t.size := by cases t; simp [T.size]; omega

theorem fullL_iff (ks : List T) : fullL ks = true ↔ ∀ k ∈ ks, k.full false = true := by
  induction ks with
  | nil => simp [fullL]
  | cons k ks ih => simp [fullL, ih]
theorem full_br {r : Bool} {ps : List PB} {ks : List T} (h : (T.mk ps ks).full r = true) (hk : ks ≠ []) : 2 ≤ ks.length ∧ ks.length ≤ 4 ∧ ps = [] ∧ ∀ k ∈ ks, k.full false = true := by
  simp only [T.full, hk, if_false, Bool.and_eq_true, decide_eq_true_eq] at h
  exact ⟨h.1.1.1, h.1.1.2, List.eq_nil_of_length_eq_zero h.1.2, (fullL_iff ks).1 h.2⟩
theorem full_lf {r : Bool} {ps : List PB} (h : (T.mk ps []).full r = true) : ps.length ≤ 4 ∧ (2 ≤ ps.length ∨ r = true ∧ ps.length = 1) := by
  simpa [T.full] using h

/-- The specification reads what lies there. -/
theorem rdSL_some (ns : List NB) (f : Nat) (ih : ∀ (t : T) (h a : Nat) (r : Bool), Ev h t → t.full r = true → h ≤ f → Pre ns a (lay a t) → rdS ns f a = some (t, a + t.size)) (h : Nat) (hf : h ≤ f) :
    ∀ (ks : List T) (a : Nat), (∀ k ∈ ks, Ev h k) → (∀ k ∈ ks, k.full false = true) → Pre ns a (layL a ks) → rdSL (rdS ns f) (places a ks) a = some (ks, a + szL ks)
  | [], a, _, _, _ => by simp [places, rdSL, szL]
  | k :: ks, a, he, hu, hp => by
    rw [layL, pre_append, lay_length] at hp
    have h1 := ih k h a false (he k (by simp)) (hu k (by simp)) hf hp.1
    have h2 := rdSL_some ns f ih h hf ks (a + k.size) (fun x hx => he x (by simp [hx])) (fun x hx => hu x (by simp [hx])) hp.2
    simp [places, rdSL, h1, h2, szL, Nat.add_assoc]
theorem rdS_some (ns : List NB) : ∀ (f : Nat) (t : T) (h a : Nat) (r : Bool), Ev h t → t.full r = true → h ≤ f → Pre ns a (lay a t) → rdS ns f a = some (t, a + t.size)
  | 0, t, h, a, r, he, hu, hf, hp => by obtain rfl : h = 0 := by omega
                                        exact he.elim
  | f + 1, .mk ps ks, 0, a, r, he, hu, hf, hp => he.elim
  | f + 1, .mk ps ks, h + 1, a, r, he, hu, hf, hp => by
    by_cases hk : ks = []
    · subst hk
      simp only [lay, if_true] at hp
      obtain ⟨h1, h2⟩ := pre_lt (pre_cons.1 hp).1
      simp [rdS, h2, rdSL, T.size, szL]
      omega
    · simp only [lay, hk, if_false] at hp
      obtain ⟨h0, h3⟩ := pre_cons.1 hp
      obtain ⟨h1, h2⟩ := pre_lt h0
      obtain ⟨_, _, rfl, hu'⟩ := full_br hu hk
      rcases he with ⟨e, _⟩ | ⟨_, e⟩
      · exact absurd e hk
      · have := rdSL_some ns f (rdS_some ns f) h (by omega) ks (a + 1) e hu' h3
        simp [rdS, h2, this, T.size]
        omega
/-- The program reads what lies there. -/
theorem rdIL_some (ns : List NB) (f : Nat) (ih : ∀ (t : T) (h a : Nat), Ev h t → t.full (decide (a = 0)) = true → h ≤ f → Pre ns a (lay a t) → rdI ns f a a = some (t, a + t.size)) (h : Nat) (hf : h ≤ f) (keys : List ByteArray) :
    ∀ (ks ts0 : List T) (a : Nat), 0 < a → (∀ k ∈ ts0, Ev h k) → (∀ k ∈ ks, Ev h k) → (∀ k ∈ ks, k.full false = true) → (∀ i, 0 < i → i < (ts0 ++ ks).length → keys[i - 1]?.getD ⟨#[]⟩ = ((ts0 ++ ks)[i]?.getD default).least) →
      Pre ns a (layL a ks) → rdIL (rdI ns f) keys ts0 (places a ks) a = some (ts0 ++ ks, a + szL ks)
  | [], ts0, a, _, _, _, _, _, _ => by simp [places, rdIL, szL]
  | k :: ks, ts0, a, ha, hz, he, hu, hkey, hp => by
    rw [layL, pre_append, lay_length] at hp
    have h1 := ih k h a (he k (by simp)) (by rw [decide_eq_false (by omega)]; exact hu k (by simp)) hf hp.1
    have h2 := rdIL_some ns f ih h hf keys ks (ts0 ++ [k]) (a + k.size) (by omega) (by
        intro x hx
        rcases List.mem_append.1 hx with hx | hx
        · exact hz x hx
        · simp at hx; subst hx; exact he x (by simp)) (fun x hx => he x (by simp [hx])) (fun x hx => hu x (by simp [hx])) (by simpa using hkey) hp.2
    simp only [places, rdIL, h1]
    rw [if_neg]
    · rw [h2]; simp [szL, Nat.add_assoc]
    · rintro ⟨h0, h3 | h3⟩
      · have := hkey ts0.length h0 (by simp)
        simp at this
        exact h3 (by rw [this])
      · apply h3
        rw [ev_lv h k (he k (by simp))]
        obtain ⟨x, hx⟩ : ∃ x, ts0[0]? = some x := ⟨ts0[0], by simp⟩
        rw [hx]
        exact (ev_lv h x (hz x (List.mem_of_getElem? hx))).symm
theorem rdI_some (ns : List NB) : ∀ (f : Nat) (t : T) (h a : Nat), Ev h t → t.full (decide (a = 0)) = true → h ≤ f → Pre ns a (lay a t) → rdI ns f a a = some (t, a + t.size)
  | 0, t, h, a, he, hu, hf, hp => by obtain rfl : h = 0 := by omega
                                     exact he.elim
  | f + 1, .mk ps ks, 0, a, he, hu, hf, hp => he.elim
  | f + 1, .mk ps ks, h + 1, a, he, hu, hf, hp => by
    by_cases hk : ks = []
    · subst hk
      simp only [lay, if_true] at hp
      obtain ⟨h1, h2⟩ := pre_lt (pre_cons.1 hp).1
      obtain ⟨u1, u2⟩ := full_lf hu
      have hl : leafOk ⟨ps, [], []⟩ (decide ((a : Int) = 0)) = true := by
        have e1 : ps.length ≠ 0 := by rcases u2 with u2 | ⟨_, u2⟩ <;> omega
        have e2 : ps.length < 2 → a = 0 := by
          intro h; rcases u2 with u2 | ⟨u2, _⟩
          · omega
          · exact of_decide_eq_true u2
        simp only [leafOk, Bool.not_eq_true', Bool.or_eq_false_iff, decide_eq_false_iff_not, Bool.and_eq_false_iff, List.length_nil, decide_true, Bool.not_true]
        refine ⟨⟨⟨e1, by omega⟩, ?_⟩, trivial⟩
        by_cases h2 : ps.length < 2
        · right; simp [e2 h2]
        · left; exact h2
      rw [rdI, if_neg (by omega), h2, if_pos (by rfl), if_pos hl]
      simp [T.size, szL]
    · simp only [lay, hk, if_false] at hp
      obtain ⟨h0, h3⟩ := pre_cons.1 hp
      obtain ⟨h1, h2⟩ := pre_lt h0
      obtain ⟨u1, u2, rfl, hu'⟩ := full_br hu hk
      rcases he with ⟨e, _⟩ | ⟨_, e⟩
      · exact absurd e hk
      · have := rdIL_some ns f (rdI_some ns f) h (by omega) (ks.tail.map T.least) ks [] (a + 1) (by omega) (by simp) e hu' (by
          intro i hi hlt
          obtain ⟨j, rfl⟩ : ∃ j, i = j + 1 := ⟨i - 1, by omega⟩
          simp at hlt ⊢
          simp [hlt]) h3
        have hpl : ∀ (ks : List T) (a : Nat), (places a ks).length = ks.length := by
          intro ks; induction ks with
          | nil => intro a; rfl
          | cons k ks ih => intro a; simp [places, ih]
        have hb : brOk ⟨[], ks.tail.map T.least, places (a + 1) ks⟩ = true := by
          simp only [brOk, hpl, Bool.not_eq_true', Bool.or_eq_false_iff, decide_eq_false_iff_not, Bool.not_eq_false', decide_eq_true_eq, List.length_nil, List.length_map, List.length_tail]
          refine ⟨⟨⟨by omega, by omega⟩, by omega⟩, trivial⟩
        rw [rdI, if_neg (by omega), h2, if_neg (by simp only [hpl]; omega), if_pos hb]
        simp only [this]
        simp [T.size]
        omega
theorem rdIL_sound (ns : List NB) (f : Nat) (ih : ∀ (pl : Int) (nx : Nat) (t : T) (n1 : Nat), rdI ns f pl nx = some (t, n1) → pl = nx ∧ nx < ns.length ∧ t.full (decide (nx = 0)) = true ∧ (∃ h, Ev h t) ∧ Pre ns nx (lay nx t) ∧ n1 = nx + t.size)
    (keys : List ByteArray) (h : Nat) : ∀ (kids : List Int) (ts0 : List T) (nx : Nat) (ts : List T) (n : Nat), 0 < nx → 0 < ts0.length → (∀ k ∈ ts0, Ev h k) → rdIL (rdI ns f) keys ts0 kids nx = some (ts, n) →
      ∃ ks, ts = ts0 ++ ks ∧ kids = places nx ks ∧ (∀ k ∈ ks, Ev h k) ∧ (∀ k ∈ ks, k.full false = true) ∧ (∀ i, ts0.length ≤ i → i < ts.length → keys[i - 1]?.getD ⟨#[]⟩ = (ts[i]?.getD default).least) ∧ Pre ns nx (layL nx ks) ∧ n = nx + szL ks
  | [], ts0, nx, ts, n, hnx, hl, hz, hr => by
    simp only [rdIL, Option.some.injEq, Prod.mk.injEq] at hr
    obtain ⟨rfl, rfl⟩ := hr
    exact ⟨[], by simp, rfl, by simp, by simp, fun i h1 h2 => by omega, fun i hi => by simp [layL] at hi, rfl⟩
  | k :: kids, ts0, nx, ts, n, hnx, hl, hz, hr => by
    simp only [rdIL] at hr
    cases e : rdI ns f k nx with
    | none => simp [e] at hr
    | some x =>
      obtain ⟨t, n1⟩ := x
      obtain ⟨rfl, i2, i3, ⟨h', i4⟩, i5, rfl⟩ := ih _ _ _ _ e
      simp only [e] at hr
      split at hr
      · cases hr
      · rename_i hc
        have hl0 : t.least = keys[ts0.length - 1]?.getD ⟨#[]⟩ := by
          by_cases q : t.least = keys[ts0.length - 1]?.getD ⟨#[]⟩
          · exact q
          · exact absurd ⟨hl, .inl q⟩ hc
        have hl1 : t.lv = (ts0[0]?.getD default).lv := by
          by_cases q : t.lv = (ts0[0]?.getD default).lv
          · exact q
          · exact absurd ⟨hl, .inr q⟩ hc
        obtain ⟨x, hx⟩ : ∃ x, ts0[0]? = some x := ⟨ts0[0], by simp⟩
        have hh : h' = h := by
          rw [← ev_lv h' t i4, hl1, hx]
          exact ev_lv h x (hz x (List.mem_of_getElem? hx))
        subst hh
        obtain ⟨ks, rfl, rfl, k3, k4, k5, k6, rfl⟩ := rdIL_sound ns f ih keys h' kids (ts0 ++ [t]) (nx + t.size) ts n (by omega) (by simp) (by
          intro y hy
          rcases List.mem_append.1 hy with hy | hy
          · exact hz y hy
          · simp at hy; subst hy; exact i4) hr
        refine ⟨t :: ks, by simp, rfl, ?_, ?_, ?_, ?_, by simp [szL, Nat.add_assoc]⟩
        · intro y hy
          rcases List.mem_cons.1 hy with rfl | hy
          · exact i4
          · exact k3 y hy
        · intro y hy
          rcases List.mem_cons.1 hy with rfl | hy
          · rwa [decide_eq_false (by omega)] at i3
          · exact k4 y hy
        · intro i h1 h2
          by_cases hi : i = ts0.length
          · subst hi
            rw [← hl0]
            simp
          · exact k5 i (by simp; omega) h2
        · rw [layL, pre_append, lay_length]
          exact ⟨i5, k6⟩
theorem rdI_sound (ns : List NB) : ∀ (f : Nat) (pl : Int) (nx : Nat) (t : T) (n1 : Nat), rdI ns f pl nx = some (t, n1) → pl = nx ∧ nx < ns.length ∧ t.full (decide (nx = 0)) = true ∧ (∃ h, Ev h t) ∧ Pre ns nx (lay nx t) ∧ n1 = nx + t.size
  | 0, pl, nx, t, n1, h => by simp [rdI] at h
  | f + 1, pl, nx, t, n1, h => by
    rw [rdI] at h
    split at h
    · cases h
    · rename_i h0
      have hpl : pl = nx := by omega
      subst hpl
      have hlt : nx < ns.length := by omega
      have hn := nAt_some hlt
      generalize nAt ns nx = N at h hn
      obtain ⟨nps, nkeys, nkids⟩ := N
      refine ⟨rfl, hlt, ?_⟩
      split at h
      · rename_i hk
        have hk := List.eq_nil_of_length_eq_zero hk
        simp only at hk
        subst hk
        split at h
        · rename_i hl
          simp only [Option.some.injEq, Prod.mk.injEq] at h
          obtain ⟨rfl, rfl⟩ := h
          simp only [leafOk, Bool.not_eq_true', Bool.or_eq_false_iff, decide_eq_false_iff_not, Bool.and_eq_false_iff, Bool.not_eq_false', decide_eq_true_eq] at hl
          obtain ⟨⟨⟨l1, l2⟩, l3⟩, l4⟩ := hl
          have l4 := List.eq_nil_of_length_eq_zero l4
          subst l4
          refine ⟨?_, ⟨1, by simp [Ev]⟩, ?_, by simp [T.size, szL]⟩
          · simp only [T.full, if_true, Bool.and_eq_true, decide_eq_true_eq, Bool.or_eq_true]
            refine ⟨by omega, ?_⟩
            rcases l3 with l3 | l3
            · left; omega
            · by_cases h2 : 2 ≤ nps.length
              · exact .inl h2
              · right; exact ⟨by omega, by omega⟩
          · simp only [lay, if_true]
            exact pre_cons.2 ⟨hn, fun i hi => by simp at hi⟩
        · cases h
      · rename_i hk
        split at h
        · rename_i hb
          simp only [brOk, Bool.not_eq_true', Bool.or_eq_false_iff, decide_eq_false_iff_not, Bool.not_eq_false', decide_eq_true_eq] at hb
          obtain ⟨⟨⟨b1, b2⟩, b3⟩, b4⟩ := hb
          have b4 := List.eq_nil_of_length_eq_zero b4
          subst b4
          cases nkids with
          | nil => simp at b1
          | cons k kids =>
            cases e : rdIL (rdI ns f) nkeys [] (k :: kids) (nx + 1) with
            | none => simp [e] at h
            | some x =>
              obtain ⟨ts, n⟩ := x
              simp only [e, Option.some.injEq, Prod.mk.injEq] at h
              obtain ⟨rfl, rfl⟩ := h
              simp only [rdIL] at e
              cases e1 : rdI ns f k (nx + 1) with
              | none => simp [e1] at e
              | some y =>
                obtain ⟨t0, n1⟩ := y
                simp only [e1, List.length_nil, Nat.lt_irrefl, false_and, if_false, List.nil_append] at e
                obtain ⟨rfl, i2, i3, ⟨h', i4⟩, i5, rfl⟩ := rdI_sound ns f _ _ _ _ e1
                rw [decide_eq_false (by omega)] at i3
                obtain ⟨ks, rfl, rfl, k3, k4, k5, k6, rfl⟩ := rdIL_sound ns f (rdI_sound ns f) nkeys h' kids [t0] (nx + 1 + t0.size) ts n (by omega) (by simp) (by simp; exact i4) e
                have hpl : ∀ (ks : List T) (a : Nat), (places a ks).length = ks.length := by
                  intro ks; induction ks with
                  | nil => intro a; rfl
                  | cons k ks ih => intro a; simp [places, ih]
                simp only [List.length_cons, hpl] at b1 b2 b3
                have hkeys : nkeys = ks.map T.least := by
                  apply List.ext_getElem
                  · simp; omega
                  · intro i h1 h2
                    have := k5 (i + 1) (by simp) (by simp at h2 ⊢; omega)
                    simp at h2
                    simp [h1, h2] at this
                    simpa using this
                refine ⟨?_, ⟨h' + 1, .inr ⟨by simp, ?_⟩⟩, ?_, by simp [T.size, szL]; omega⟩
                · simp only [T.full, List.singleton_append, reduceCtorEq, if_false, Bool.and_eq_true, decide_eq_true_eq, List.length_cons, List.length_nil]
                  refine ⟨⟨⟨by omega, by omega⟩, trivial⟩, ?_⟩
                  simp only [fullL, i3, Bool.true_and]
                  exact (fullL_iff ks).2 k4
                · intro y hy
                  rcases List.mem_cons.1 hy with rfl | hy
                  · exact i4
                  · exact k3 y hy
                · simp only [lay, List.singleton_append, reduceCtorEq, if_false, List.tail_cons]
                  refine pre_cons.2 ⟨by rw [hn, hkeys]; rfl, ?_⟩
                  rw [layL, pre_append, lay_length]
                  exact ⟨i5, k6⟩
        · cases h
end Go.Proofs.Ytnbafoennnhppab

