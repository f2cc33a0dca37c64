/-
  Taking a key out, as plain data: the program's way and the specification's come to the same; what comes of it is full, even and in order.
-/
import Derived.Test.YtjbamfgfgbmieaaMt1
import Derived.Laws.StructEq
import Derived.Deep.DeepCutAuto
namespace Go.Proofs.Ytjbamfgfgbmieaa
open Go.RowKit
theorem delP_nil (k : ByteArray) : delP [] k = [] := by simp [delP, there, pos]
theorem delP_lt {x : PB} {l : List PB} {k : ByteArray} (h : klt x.1 k = true) : delP (x :: l) k = x :: delP l k := by
  obtain ⟨h1, h2⟩ := there_cons_lt (x := x) (p := (k, k)) (l := l) h
  simp only at h1 h2
  unfold delP
  rw [h1, h2]
  split <;> simp
theorem delP_eq {x : PB} {l : List PB} {k : ByteArray} (h : x.1 = k) : delP (x :: l) k = l := by
  have h0 : klt x.1 k = false := by rw [h]; exact klt_irrefl _
  have h1 := pos_cons_ge (x := x) (p := (k, k)) (l := l) h0
  simp only at h1
  have h2 : there (x :: l) k = true := by unfold there; rw [h1]; simp [pAtB, h]
  unfold delP
  rw [h2, h1]; simp
theorem delP_gt {x : PB} {l : List PB} {k : ByteArray} (h : klt x.1 k = false) (hne : x.1 ≠ k) : delP (x :: l) k = x :: l := by
  have h1 := pos_cons_ge (x := x) (p := (k, k)) (l := l) h
  simp only at h1
  have h2 : there (x :: l) k = false := by unfold there; rw [h1]; simp [pAtB, hne]
  unfold delP
  rw [h2]; simp
theorem delP_left (A : List PB) {B : List PB} {k : ByteArray} (h : ∀ x ∈ A, klt x.1 k = true) : delP (A ++ B) k = A ++ delP B k := by
  induction A with
  | nil => rfl
  | cons a A ih => rw [List.cons_append, delP_lt (h a (by simp)), ih (fun x hx => h x (by simp [hx])), List.cons_append]
theorem delP_right (A : List PB) {B : List PB} {k : ByteArray} (h : ∀ x ∈ B, klt k x.1 = true) : delP (A ++ B) k = delP A k ++ B := by
  induction A with
  | nil =>
    rw [List.nil_append, delP_nil]
    cases B with
    | nil => rw [delP_nil]; rfl
    | cons b B =>
      have := h b (by simp)
      rw [delP_gt (klt_asymm this) (klt_ne this).symm]; rfl
  | cons a A ih =>
    rw [List.cons_append]
    cases hk : klt a.1 k with
    | true => rw [delP_lt hk, delP_lt hk, ih]; rfl
    | false =>
      by_cases e : a.1 = k
      · rw [delP_eq e, delP_eq e]
      · rw [delP_gt hk e, delP_gt hk e]; rfl
theorem delP_mem {l : List PB} {k : ByteArray} {x : PB} (h : x ∈ delP l k) : x ∈ l := by
  unfold delP at h
  split at h
  · rcases List.mem_append.1 h with h | h
    · exact List.mem_of_mem_take h
    · exact List.mem_of_mem_drop h
  · exact h
theorem delP_asc {l : List PB} {k : ByteArray} (h : Asc l) : Asc (delP l k) := by
  unfold delP
  split
  · refine List.Pairwise.sublist ?_ h
    rw [← List.eraseIdx_eq_take_drop_succ]
    exact List.eraseIdx_sublist _ _
  · exact h
theorem delP_ge (l : List PB) (k : ByteArray) : l.length ≤ (delP l k).length + 1 := by
  unfold delP
  split
  · rw [List.length_append, List.length_take, List.length_drop]; omega
  · omega
/-- The specification's way. -/
def delS (l : List PB) (k : ByteArray) : List PB := l.filter fun x => decide (x.1 ≠ k)
theorem delS_eq {l : List PB} {k : ByteArray} (h : Asc l) : delS l k = delP l k := by
  induction l with
  | nil => rw [delP_nil]; rfl
  | cons a l ih =>
    obtain ⟨h1, h2⟩ := List.pairwise_cons.1 h
    unfold delS at ih ⊢
    cases hk : klt a.1 k with
    | true => rw [delP_lt hk, List.filter_cons, if_pos (by simpa using klt_ne hk), ih h2]
    | false =>
      by_cases e : a.1 = k
      · rw [delP_eq e, List.filter_cons, if_neg (by simp [e]), List.filter_eq_self]
        intro x hx
        simpa using fun he => (klt_ne (h1 x hx)) (by rw [e, he])
      · rw [delP_gt hk e, List.filter_cons, if_pos (by simpa using e)]
        congr 1
        rw [List.filter_eq_self]
        intro x hx
        have hlt : klt k a.1 = true := by
          cases hq : klt k a.1 with
          | true => rfl
          | false => exact absurd (key_eq hk hq) e
        simpa using fun he => (klt_ne (klt_trans hlt (h1 x hx))) he.symm
theorem shT_bareT (a b : T) : shT a b = shT (.mk (a.ps ++ b.ps) (a.ks ++ b.ks)) bareT := by simp [shT, bareT, T.ps, T.ks]
theorem mendK_two (ks : List T) (s : Nat) (i : Nat) (hs : max i 1 = s + 1) (h : s + 1 < ks.length) : mendK ks i = ks.take s ++ two (shT (tAt ks s) (tAt ks (s + 1))) ++ ks.drop (s + 2) := by
  unfold mendK
  rw [hs, Nat.add_sub_cancel]
  generalize shT (tAt ks s) (tAt ks (s + 1)) = r
  have e : (ks.set s r.1).set (s + 1) r.2 = ks.take s ++ r.1 :: r.2 :: ks.drop (s + 2) := by
    apply List.ext_getElem?
    intro x
    rw [List.getElem?_set, List.getElem?_set, List.length_set]
    by_cases h1 : s + 1 = x
    · subst h1
      rw [if_pos rfl, if_pos h, List.getElem?_append_right (by rw [List.length_take]; omega), List.length_take, Nat.min_eq_left (by omega), show s + 1 - s = 1 by omega]; rfl
    · rw [if_neg h1]
      by_cases h2 : s = x
      · subst h2
        rw [if_pos rfl, if_pos (by omega), List.getElem?_append_right (by rw [List.length_take]; omega), List.length_take, Nat.min_eq_left (by omega), Nat.sub_self]; rfl
      · rw [if_neg h2]
        by_cases h3 : x < s
        · rw [List.getElem?_append_left (by rw [List.length_take]; omega), List.getElem?_take, if_pos h3]
        · rw [List.getElem?_append_right (by rw [List.length_take]; omega), List.length_take, Nat.min_eq_left (by omega)]
          obtain ⟨y, rfl⟩ : ∃ y, x = s + 2 + y := ⟨x - (s + 2), by omega⟩
          rw [show s + 2 + y - s = y + 1 + 1 by omega, List.getElem?_cons_succ, List.getElem?_cons_succ, List.getElem?_drop]
  rw [e]
  have hl : (ks.take s).length = s := by rw [List.length_take]; omega
  unfold two
  split
  · rw [List.take_append, hl, List.take_of_length_le (show (ks.take s).length ≤ s + 1 by omega), show s + 1 - s = 1 by omega, List.drop_append, hl, List.drop_of_length_le (show (ks.take s).length ≤ s + 1 + 1 by omega), show s + 1 + 1 - s = 2 by omega]; simp
  · simp
/-- What dropping leaves, but for its own fullness. -/
structure Near (h : Nat) (t : T) (l : List PB) : Prop where
  ev : Ev h t
  all : t.all = l
  leaf : t.ks = [] → t.ps.length ≤ 4
  br : t.ks ≠ [] → t.ps = [] ∧ t.ks.length ≤ 4 ∧ ∀ x ∈ t.ks, x.full false = true
theorem Near.full {h : Nat} {t : T} {l : List PB} (g : Near h t l) (hp : t.poor = false) : t.full false = true := by
  have hp : ¬ (t.ps.length + t.ks.length < 2) := of_decide_eq_false hp
  obtain ⟨ps, ks⟩ := t
  by_cases hk : ks = []
  · subst hk; exact full_mk_leaf (g.leaf rfl) (.inl (by simp [T.ps, T.ks] at hp; omega))
  · obtain ⟨h1, h2, h3⟩ := g.br hk
    have h1 : ps = [] := h1
    subst h1
    exact full_mk_br (by simp [T.ps, T.ks] at hp; omega) h2 h3
theorem near_of_full {h : Nat} {t : T} {r : Bool} (he : Ev h t) (hf : t.full r = true) : Near h t t.all := by
  obtain ⟨ps, ks⟩ := t
  refine ⟨he, rfl, fun hk => ?_, fun hk => ?_⟩
  · cases (show ks = [] from hk); exact (full_lf hf).1
  · obtain ⟨_, h2, h3, h4⟩ := full_br hf hk; exact ⟨h3, h2, h4⟩
/-- Two neighbours of one depth, one of them full, one with something: together they are one full node or two. -/
theorem shT_out2 {h : Nat} {a b : T} {la lb : List PB} (ga : Near h a la) (gb : Near h b lb) (hs : 3 ≤ a.ps.length + a.ks.length + (b.ps.length + b.ks.length)) (hs5 : a.ps.length + a.ks.length + (b.ps.length + b.ks.length) ≤ 5) : PutOut h false (la ++ lb) (shT a b) := by
  rw [shT_bareT]
  obtain ⟨pa, ka⟩ := a
  obtain ⟨pb, kb⟩ := b
  simp only [T.ps, T.ks] at hs hs5 ⊢
  cases h with
  | zero => exact ga.ev.elim
  | succ h =>
    rcases ga.ev with ⟨rfl, rfl⟩ | ⟨hka, hea⟩
    · rcases gb.ev with ⟨rfl, _⟩ | ⟨hkb, heb⟩
      · have e : la ++ lb = pa ++ pb := by rw [← ga.all, ← gb.all]; simp [T.all, allL]
        rw [e, List.append_nil]
        refine shT_out_leaf (by simp at hs5 ⊢; omega) (by simp at hs ⊢; omega) (fun _ => by simp at hs ⊢; omega)
      · obtain ⟨x, hx⟩ := List.exists_mem_of_ne_nil kb hkb
        exact (heb x hx).elim
    · rcases gb.ev with ⟨rfl, rfl⟩ | ⟨hkb, heb⟩
      · obtain ⟨x, hx⟩ := List.exists_mem_of_ne_nil ka hka
        exact (hea x hx).elim
      · obtain ⟨a1, _, a3⟩ := ga.br hka
        obtain ⟨b1, _, b3⟩ := gb.br hkb
        have a1 : pa = [] := a1
        have b1 : pb = [] := b1
        subst a1 b1
        have e : la ++ lb = allL (ka ++ kb) := by rw [← ga.all, ← gb.all, allL_append]; simp [T.all]
        rw [e]
        simp only [List.append_nil]
        refine shT_out_br (by simp at hs5 ⊢; omega) (by simp at hs ⊢; omega) (fun x hx => ?_) (fun x hx => ?_)
        · rcases List.mem_append.1 hx with hx | hx
          · exact a3 x hx
          · exact b3 x hx
        · rcases List.mem_append.1 hx with hx | hx
          · exact hea x hx
          · exact heb x hx
theorem full_count {x : T} (h : x.full false = true) : 2 ≤ x.ps.length + x.ks.length ∧ x.ps.length + x.ks.length ≤ 4 := by
  obtain ⟨ps, ks⟩ := x
  simp only [T.ps, T.ks]
  by_cases hk : ks = []
  · subst hk; have := full_lf h; simp at this ⊢; omega
  · obtain ⟨h1, h2, rfl, _⟩ := full_br h hk; simp; omega
theorem dropF_out : ∀ (h : Nat) (r : Bool) (t : T) (k : ByteArray), PutIn h r t → Near h (dropF h t k) (delP t.all k) ∧ t.ps.length + t.ks.length ≤ (dropF h t k).ps.length + (dropF h t k).ks.length + 1
  | 0, r, t, k, g => g.ev.elim
  | h + 1, r, .mk ps ks, k, g => by
    by_cases hk : ks = []
    · subst hk
      obtain ⟨hh, hl, hr, ha⟩ := g.leaf
      obtain rfl : h = 0 := by omega
      rw [dropF]
      simp only [T.ks, T.ps, if_true]
      refine ⟨⟨.inl ⟨rfl, rfl⟩, by simp [T.all, allL], fun _ => ?_, fun h => absurd rfl h⟩, ?_⟩
      · show (delP ps k).length ≤ 4
        have := delP_len ps k; omega
      · show ps.length + 0 ≤ (delP ps k).length + 0 + 1
        have := delP_ge ps k; omega
    · obtain ⟨rfl, h1, h2, h3, h4, h5⟩ := g.kids hk
      obtain ⟨q1, q2, q3⟩ := kidOf_spec k hk
      obtain ⟨a1, a2, a3⟩ := kid_apart h3 h5 q1 q2 q3
      obtain ⟨ih, ihn⟩ := dropF_out h false _ k (g.kid hk k)
      have hkf := full_count (h3 _ (tAt_mem q1))
      have HF : dropF (h + 1) (.mk [] ks) k = if (dropF h (tAt ks (kidOf ks k)) k).poor = true then .mk [] (mendK (ks.set (kidOf ks k) (dropF h (tAt ks (kidOf ks k)) k)) (kidOf ks k)) else .mk [] (ks.set (kidOf ks k) (dropF h (tAt ks (kidOf ks k)) k)) := by rw [dropF]; simp only [T.ks, T.ps, hk, if_false]; rfl
      rw [HF]
      clear HF
      generalize hq : kidOf ks k = q at *
      generalize hrr : dropF h (tAt ks q) k = rr at *
      have hset : ks.set q rr = ks.take q ++ rr :: ks.drop (q + 1) := List.set_eq_take_append_cons_drop.trans (by rw [if_pos q1])
      have hall : allL (ks.set q rr) = delP (T.mk [] ks).all k := by
        rw [hset, allL_append, allL, ih.all, show (T.mk [] ks).all = allL ks by simp [T.all], all_split q1, delP_left _ a1, delP_right _ a2]
      have hmem : ∀ x ∈ ks.set q rr, x = rr ∨ x ∈ ks := fun x hx => (List.mem_or_eq_of_mem_set hx).symm
      have hev : ∀ x ∈ ks.set q rr, Ev h x := fun x hx => (hmem x hx).elim (fun e => e ▸ ih.ev) (h4 x)
      have hln : (ks.set q rr).length = ks.length := List.length_set
      cases hpo : rr.poor with
      | false =>
        rw [if_neg (by simp)]
        refine ⟨⟨.inr ⟨fun e => by rw [e] at hln; simp at hln; omega, hev⟩, by simpa [T.all] using hall, fun e => ?_, fun _ => ⟨rfl, by show (ks.set q rr).length ≤ 4; omega, fun x hx => (hmem x hx).elim (fun e => e ▸ ih.full hpo) (h3 x)⟩⟩, by show 0 + ks.length ≤ 0 + (ks.set q rr).length + 1; omega⟩
        have e : ks.set q rr = [] := e
        rw [e] at hln; simp at hln; omega
      | true =>
        rw [if_pos rfl]
        obtain ⟨s, hs⟩ : ∃ s, max q 1 = s + 1 := ⟨max q 1 - 1, by omega⟩
        have hsl : s + 1 < ks.length := by omega
        have hpoor : rr.ps.length + rr.ks.length < 2 := of_decide_eq_true hpo
        have hrr1 : rr.ps.length + rr.ks.length = 1 := by omega
        rw [mendK_two _ s q hs (by omega)]
        have hat : ∀ i, i < ks.length → tAt (ks.set q rr) i = if i = q then rr else tAt ks i := by
          intro i hi
          by_cases e : i = q
          · subst e; simp [tAt, hi]
          · rw [if_neg e]; simp [tAt, Ne.symm e]
        have hn : ∀ i, i < ks.length → Near h (tAt (ks.set q rr) i) (tAt (ks.set q rr) i).all := by
          intro i hi
          rw [hat i hi]
          by_cases e : i = q
          · rw [if_pos e]; exact ⟨ih.ev, rfl, ih.leaf, ih.br⟩
          · rw [if_neg e]; exact near_of_full (h4 _ (tAt_mem hi)) (h3 _ (tAt_mem hi))
        have hcnt : (tAt (ks.set q rr) s).ps.length + (tAt (ks.set q rr) s).ks.length + ((tAt (ks.set q rr) (s + 1)).ps.length + (tAt (ks.set q rr) (s + 1)).ks.length) ≤ 5 ∧ 3 ≤ (tAt (ks.set q rr) s).ps.length + (tAt (ks.set q rr) s).ks.length + ((tAt (ks.set q rr) (s + 1)).ps.length + (tAt (ks.set q rr) (s + 1)).ks.length) := by
          rw [hat s (by omega), hat (s + 1) hsl]
          rcases (show (s = q ∧ s + 1 ≠ q) ∨ (s ≠ q ∧ s + 1 = q) by omega) with ⟨e1, e2⟩ | ⟨e1, e2⟩
          · rw [if_pos e1, if_neg e2]; have := full_count (h3 _ (tAt_mem hsl)); omega
          · rw [if_neg e1, if_pos e2]; have := full_count (h3 _ (tAt_mem (show s < ks.length by omega))); omega
        have out := shT_out2 (hn s (by omega)) (hn (s + 1) hsl) hcnt.2 hcnt.1
        have hsp : ks.set q rr = (ks.set q rr).take s ++ tAt (ks.set q rr) s :: tAt (ks.set q rr) (s + 1) :: (ks.set q rr).drop (s + 2) := by
          have e1 := ks_split (ks := ks.set q rr) (q := s) (by omega)
          have e2 := drop_tAt (ks := ks.set q rr) (k := s + 1) (by omega)
          rw [e2] at e1
          exact e1
        generalize ks.set q rr = kz at *
        generalize shT (tAt kz s) (tAt kz (s + 1)) = rx at *
        have hsm : ∀ x ∈ kz.take s ++ two rx ++ kz.drop (s + 2), (x ∈ two rx) ∨ (x ∈ kz ∧ (x ∈ kz.take s ∨ x ∈ kz.drop (s + 2))) := by
          intro x hx
          rcases List.mem_append.1 hx with hx | hx
          · rcases List.mem_append.1 hx with hx | hx
            · exact .inr ⟨List.mem_of_mem_take hx, .inl hx⟩
            · exact .inl hx
          · exact .inr ⟨List.mem_of_mem_drop hx, .inr hx⟩
        have hfar : ∀ x, x ∈ kz.take s ∨ x ∈ kz.drop (s + 2) → x.full false = true := by
          intro x hx
          have key : ∃ i, i < ks.length ∧ i ≠ q ∧ x = tAt kz i := by
            rcases hx with hx | hx
            · obtain ⟨i, hi⟩ := List.mem_iff_getElem?.1 hx
              rw [List.getElem?_take] at hi
              split at hi
              · rename_i h9; exact ⟨i, by omega, by omega, by simp [tAt, hi]⟩
              · cases hi
            · obtain ⟨i, hi⟩ := List.mem_iff_getElem?.1 hx
              rw [List.getElem?_drop] at hi
              have := (List.getElem?_eq_some_iff.1 hi).1
              exact ⟨s + 2 + i, by omega, by omega, by simp [tAt, hi]⟩
          obtain ⟨i, hi, hne, rfl⟩ := key
          rw [hat i hi, if_neg hne]
          exact h3 _ (tAt_mem hi)
        have htl := two_len rx
        have hlen : (kz.take s ++ two rx ++ kz.drop (s + 2)).length = s + (two rx).length + (ks.length - (s + 2)) := by simp only [List.length_append, List.length_take, List.length_drop]; omega
        refine ⟨⟨.inr ⟨fun e => by have := congrArg List.length e; rw [hlen, List.length_nil] at this; omega, fun x hx => ?_⟩, ?_, fun e => ?_, fun _ => ⟨rfl, by show (kz.take s ++ two rx ++ kz.drop (s + 2)).length ≤ 4; omega, fun x hx => ?_⟩⟩, by show 0 + ks.length ≤ 0 + (kz.take s ++ two rx ++ kz.drop (s + 2)).length + 1; omega⟩
        · rcases hsm x hx with h | h
          · exact out.ev x h
          · exact hev x h.1
        · rw [← hall]
          show [] ++ allL _ = _
          rw [List.nil_append, allL_append, allL_append, out.all]
          conv => rhs; rw [hsp]
          rw [allL_append, allL, allL]
          simp
        · have e : kz.take s ++ two rx ++ kz.drop (s + 2) = [] := e
          have := congrArg List.length e; rw [hlen, List.length_nil] at this; omega
        · rcases hsm x hx with h | h
          · exact out.fulls x h
          · exact hfar x h.2
theorem full_up {x : T} (h : x.full false = true) : x.full true = true := by
  obtain ⟨ps, ks⟩ := x
  by_cases hk : ks = []
  · subst hk; have := full_lf h; exact full_mk_leaf this.1 (.inl (by simpa using this.2))
  · obtain ⟨h1, h2, rfl, h3⟩ := full_br h hk; exact full_mk_br h1 h2 h3
/-- The root behind the drop. -/
def rootD (t : T) : T := if t.ks.length = 1 then tAt t.ks 0 else t
theorem rootD_out {h : Nat} {t : T} {k : ByteArray} (g : PutIn h true t) : ((rootD (dropF h t k)).full true = true ∨ rootD (dropF h t k) = bareT) ∧ (∃ h', Ev h' (rootD (dropF h t k))) ∧ (rootD (dropF h t k)).all = delP t.all k := by
  obtain ⟨h1, h2⟩ := dropF_out h true t k g
  generalize dropF h t k = y at *
  obtain ⟨ps, ks⟩ := y
  have er : rootD (.mk ps ks) = if ks.length = 1 then tAt ks 0 else .mk ps ks := rfl
  rw [er]
  clear er
  by_cases hk : ks = []
  · subst hk
    rw [if_neg (by simp)]
    refine ⟨?_, ⟨h, h1.ev⟩, h1.all⟩
    by_cases hp : ps = []
    · subst hp; exact .inr rfl
    · have := h1.leaf rfl
      have hl := List.length_pos_iff.2 hp
      refine .inl (full_mk_leaf this ?_)
      by_cases e : ps.length = 1
      · exact .inr ⟨rfl, e⟩
      · exact .inl (by omega)
  · obtain ⟨b1, b2, b3⟩ := h1.br hk
    have b1 : ps = [] := b1
    subst b1
    have b2 : ks.length ≤ 4 := b2
    cases h with
    | zero => exact h1.ev.elim
    | succ h =>
      rcases h1.ev with ⟨e, _⟩ | ⟨_, he⟩
      · exact absurd e hk
      · by_cases e : ks.length = 1
        · rw [if_pos e]
          have hm := tAt_mem (ks := ks) (show 0 < ks.length by omega)
          refine ⟨.inl (full_up (b3 _ hm)), ⟨h, he _ hm⟩, ?_⟩
          rw [← h1.all]
          obtain ⟨x, rfl⟩ := List.length_eq_one_iff.1 e
          simp [tAt, T.all, allL]
        · rw [if_neg e]
          have := List.length_pos_iff.2 hk
          exact ⟨.inl (full_mk_br (by omega) b2 b3), ⟨h + 1, h1.ev⟩, h1.all⟩
theorem pOk_del {l : List PB} {k : ByteArray} (h : pOk l = true) : pOk (delP l k) = true :=
  pOk_of (Nat.le_trans (delP_len l k) (pOk_len h)) (fun _ hx => pOk_mem h (delP_mem hx)) (delP_asc (pOk_asc h))
/-- The specification's way down. -/
def togS (a b : T) : List T := splT (.mk (a.ps ++ b.ps) (a.ks ++ b.ks))
def dropS : Nat → T → ByteArray → T
  | 0, t, _ => t
  | f + 1, t, k => if t.ks = [] then .mk (delS t.ps k) [] else
    if (dropS f (tAt t.ks (wayOf t.ks k)) k).poor = true then .mk [] ((t.ks.set (wayOf t.ks k) (dropS f (tAt t.ks (wayOf t.ks k)) k)).take (max (wayOf t.ks k) 1 - 1) ++ togS (tAt (t.ks.set (wayOf t.ks k) (dropS f (tAt t.ks (wayOf t.ks k)) k)) (max (wayOf t.ks k) 1 - 1)) (tAt (t.ks.set (wayOf t.ks k) (dropS f (tAt t.ks (wayOf t.ks k)) k)) (max (wayOf t.ks k) 1)) ++ (t.ks.set (wayOf t.ks k) (dropS f (tAt t.ks (wayOf t.ks k)) k)).drop (max (wayOf t.ks k) 1 + 1))
    else .mk [] (t.ks.set (wayOf t.ks k) (dropS f (tAt t.ks (wayOf t.ks k)) k))
theorem togS_two {h : Nat} {a b : T} {la lb : List PB} (ga : Near h a la) (gb : Near h b lb) : togS a b = two (shT a b) := by
  rw [shT_bareT]
  unfold togS
  obtain ⟨pa, ka⟩ := a
  obtain ⟨pb, kb⟩ := b
  simp only [T.ps, T.ks]
  cases h with
  | zero => exact ga.ev.elim
  | succ h =>
    rcases ga.ev with ⟨rfl, rfl⟩ | ⟨hka, hea⟩
    · rcases gb.ev with ⟨rfl, _⟩ | ⟨hkb, heb⟩
      · rw [List.append_nil, two_leaf]
      · obtain ⟨x, hx⟩ := List.exists_mem_of_ne_nil kb hkb
        exact (heb x hx).elim
    · obtain ⟨a1, _, _⟩ := ga.br hka
      have a1 : pa = [] := a1
      rcases gb.ev with ⟨rfl, rfl⟩ | ⟨hkb, heb⟩
      · obtain ⟨x, hx⟩ := List.exists_mem_of_ne_nil ka hka
        exact (hea x hx).elim
      · obtain ⟨b1, _, _⟩ := gb.br hkb
        have b1 : pb = [] := b1
        subst a1 b1
        rw [List.append_nil, two_branch (by simp [hka])]
theorem dropS_eq : ∀ (h : Nat) (r : Bool) (t : T) (k : ByteArray), PutIn h r t → dropS h t k = dropF h t k
  | 0, r, t, k, g => rfl
  | h + 1, r, .mk ps ks, k, g => by
    by_cases hk : ks = []
    · subst hk
      obtain ⟨_, _, _, ha⟩ := g.leaf
      rw [dropS, dropF]
      simp only [T.ks, T.ps, if_true]
      rw [delS_eq ha]
    · obtain ⟨rfl, h1, h2, h3, h4, h5⟩ := g.kids hk
      obtain ⟨q1, _, _⟩ := kidOf_spec k hk
      obtain ⟨ih, _⟩ := dropF_out h false _ k (g.kid hk k)
      have e1 : dropS (h + 1) (.mk [] ks) k = if (dropS h (tAt ks (wayOf ks k)) k).poor = true then .mk [] ((ks.set (wayOf ks k) (dropS h (tAt ks (wayOf ks k)) k)).take (max (wayOf ks k) 1 - 1) ++ togS (tAt (ks.set (wayOf ks k) (dropS h (tAt ks (wayOf ks k)) k)) (max (wayOf ks k) 1 - 1)) (tAt (ks.set (wayOf ks k) (dropS h (tAt ks (wayOf ks k)) k)) (max (wayOf ks k) 1)) ++ (ks.set (wayOf ks k) (dropS h (tAt ks (wayOf ks k)) k)).drop (max (wayOf ks k) 1 + 1)) else .mk [] (ks.set (wayOf ks k) (dropS h (tAt ks (wayOf ks k)) k)) := by
        rw [dropS, if_neg (show ¬ (T.mk [] ks).ks = [] from hk)]; rfl
      have e2 : dropF (h + 1) (.mk [] ks) k = if (dropF h (tAt ks (kidOf ks k)) k).poor = true then .mk [] (mendK (ks.set (kidOf ks k) (dropF h (tAt ks (kidOf ks k)) k)) (kidOf ks k)) else .mk [] (ks.set (kidOf ks k) (dropF h (tAt ks (kidOf ks k)) k)) := by
        rw [dropF, if_neg (show ¬ (T.mk [] ks).ks = [] from hk)]; rfl
      rw [e1, e2, wayOf_eq hk h3 h5, dropS_eq h false _ k (g.kid hk k)]
      clear e1 e2
      generalize hq : kidOf ks k = q at *
      generalize hrr : dropF h (tAt ks q) k = rr at *
      cases hpo : rr.poor with
      | false => rfl
      | true =>
        simp only [if_true]
        obtain ⟨s, hs⟩ : ∃ s, max q 1 = s + 1 := ⟨max q 1 - 1, by omega⟩
        have hsl : s + 1 < ks.length := by omega
        have hat : ∀ i, i < ks.length → tAt (ks.set q rr) i = if i = q then rr else tAt ks i := by
          intro i hi
          by_cases e : i = q
          · subst e; simp [tAt, hi]
          · rw [if_neg e]; simp [tAt, Ne.symm e]
        have hn : ∀ i, i < ks.length → Near h (tAt (ks.set q rr) i) (tAt (ks.set q rr) i).all := by
          intro i hi
          rw [hat i hi]
          by_cases e : i = q
          · rw [if_pos e]; exact ⟨ih.ev, rfl, ih.leaf, ih.br⟩
          · rw [if_neg e]; exact near_of_full (h4 _ (tAt_mem hi)) (h3 _ (tAt_mem hi))
        rw [mendK_two _ s q hs (by rw [List.length_set]; omega), hs, Nat.add_sub_cancel, togS_two (hn s (by omega)) (hn (s + 1) hsl)]
end Go.Proofs.Ytjbamfgfgbmieaa
/-
  Records: when one is right, on both sides; what the law's helpers do with one; the laws FnExactReachOk and FnExactRecOk.
-/
namespace Go.Proofs.Ytjbamfgfgbmieaa
open Go.RowKit
set_option linter.unusedVariables false
def isE (s : ByteArray) : Bool := decide (s.toList = [])
def rchOk (lo hi : ByteArray) : Bool := rOk lo hi && (decide (lo.size ≤ 9) && decide (hi.size ≤ 9))
def rcOk (k : Int) (ky vl lo hi : ByteArray) : Bool :=
  if k = 1 then uOk ky && (uvOk vl && (isE lo && isE hi)) else if k = 2 then uOk ky && (isE vl && (isE lo && isE hi)) else if k = 3 ∨ k = 4 then isE ky && (isE vl && rchOk lo hi) else false
theorem rcOk_1 (ky vl lo hi : ByteArray) : rcOk 1 ky vl lo hi = (uOk ky && (uvOk vl && (isE lo && isE hi))) := rfl
theorem rcOk_2 (ky vl lo hi : ByteArray) : rcOk 2 ky vl lo hi = (uOk ky && (isE vl && (isE lo && isE hi))) := rfl
theorem rcOk_3 (ky vl lo hi : ByteArray) : rcOk 3 ky vl lo hi = (isE ky && (isE vl && rchOk lo hi)) := rfl
theorem rcOk_4 (ky vl lo hi : ByteArray) : rcOk 4 ky vl lo hi = (isE ky && (isE vl && rchOk lo hi)) := rfl
theorem rcOk_no {k : Int} (h1 : ¬ k = 1) (h2 : ¬ k = 2) (h3 : ¬ k = 3) (h4 : ¬ k = 4) (ky vl lo hi : ByteArray) : rcOk k ky vl lo hi = false := by simp [rcOk, h1, h2, h3, h4]
theorem btR {u v w : World} (h : Below u.heap.size u v) (k : Below v.heap.size v w) : Below u.heap.size u w := h.trans (k.mono h.size)
theorem eqIn_rng (lo hi lo' hi' : ByteArray) (w : World) : (Op.equalIn 10000 25 (.agg #[.string lo, .string hi]) (.agg #[.string lo', .string hi'])).run Try.prog w = .ok (lo.toList == lo'.toList && hi.toList == hi'.toList) w := by
  rw [run_equalIn_struct w 9999 25 _ _ (by kernel_rfl) (by kernel_rfl)]
  obtain ⟨f0, f1, hu, n0, n1, t0, t1, o0, o1⟩ : ∃ f0 f1 : Field, Try.prog.underlying 25 = some (.struct #[f0, f1]) ∧ f0.name = "Lo" ∧ f1.name = "Hi" ∧ f0.type = 9 ∧ f1.type = 9 ∧ f0.offset = 0 ∧ f1.offset = 1 := ⟨_, _, Try.underlying25, rfl, rfl, rfl, rfl, rfl, rfl⟩
  have hl : (Try.prog.fieldsOf 25).toList = [f0, f1] := by simp [Program.fieldsOf, hu]
  rw [hl]
  have p0 : ∀ (x y : Value) (w : World), (Go.part 9 #[x, y] 0).run Try.prog w = .ok x w := fun x y w => by kernel_rfl
  have p1 : ∀ (x y : Value) (w : World), (Go.part 9 #[x, y] 1).run Try.prog w = .ok y w := fun x y w => by kernel_rfl
  have hs : ∀ (a b : ByteArray) (w : World), (Op.equalIn 9999 9 (.string a) (.string b)).run Try.prog w = .ok (a.toList == b.toList) w := fun a b w => run_equalIn_string w 9998 9 a b (by kernel_rfl)
  have q0 : ("Lo" : String) ≠ "_" := by decide
  have q1 : ("Hi" : String) ≠ "_" := by decide
  simp only [Op.eqFields, n0, n1, t0, t1, o0, o1, if_pos q0, if_pos q1, Sem.run_bind, p0, p1, hs, Result.andThen_ok, Sem.run_ite, Sem.run_pure]
  cases h0 : (lo.toList == lo'.toList)
  · simp
  · cases h1 : (hi.toList == hi'.toList) <;> simp
theorem isE_beq (s : ByteArray) : (s.toList == (⟨#[]⟩ : ByteArray).toList) = isE s := by
  unfold isE
  rw [show (⟨#[]⟩ : ByteArray).toList = [] by rw [ByteArray.toList_eq]]
  cases h : s.toList with
  | nil => rfl
  | cons a l => rfl
theorem eql_rng0 (lo hi : ByteArray) (w : World) : (binOp .eql 25 (.agg #[.string lo, .string hi]) (.agg #[.string ⟨#[]⟩, .string ⟨#[]⟩])).run Try.prog w = .ok (.bool (isE lo && isE hi)) w := by
  rw [run_eql_struct, eqIn_rng, isE_beq, isE_beq]; rfl
theorem guard_rng (op : BinOp) (x y : Operand) (xs ys : Array Value) (w : World) : (eqGuard op 25 x y (.agg xs) (.agg ys)).run Try.prog w = .ok () w := run_eqGuard_agg w op 25 x y xs ys (by kernel_rfl)
set_option maxHeartbeats 1600000 in
theorem implReachOk_any (lo hi : ByteArray) (w : World) : Calls Try.prog 82 #[.agg #[.string lo, .string hi]] w fun r w' => r = .returned (.bool (rchOk lo hi)) ∧ Below w.heap.size w w' := by
  have HV : Hid (rchOk lo hi = (rOk lo hi && (decide (lo.size ≤ 9) && decide (hi.size ≤ 9)))) := rfl
  have C1 : Hid (∀ w, Calls Try.prog 93 #[.agg #[.string lo, .string hi]] w fun r w' => r = .returned (.bool (rOk lo hi)) ∧ Below w.heap.size w w') := fun w => implRangeOk_any lo hi w
  generalize rOk lo hi = z1 at *
  have B0 := hid (below_new (o := .cells #[.string lo, .string hi] 25) (w := w) (Below.refl _ _))
  have K0 := hid (Bk.new w 25 [.string lo, .string hi])
  cases z1 with
  | false =>
    go_enter Try.func82, Try.ntmps82
    go_wp2_with fail
    refine (C1.out _).mono ?_
    generalize w.alloc (.cells #[.string lo, .string hi] 25) = U at *
    rintro r w1 ⟨rfl, hb⟩
    have K1 := hid (K0.out.below hb)
    have B1 := hid (B0.out.trans (hb.mono B0.out.size))
    clear K0 B0 hb
    have x0 := K1.out.cell (j := 0) rfl
    have x1 := K1.out.cell (j := 1) rfl
    go_wp2
    go_ret
    exact ⟨by rw [HV.out]; rfl, B1.out⟩
  | true =>
    by_cases h : lo.size ≤ 9
    · have h1 : (lo.size : Int) ≤ 9 := by omega
      have HH : Hid (decide (hi.size ≤ 9) = decide ((hi.size : Int) ≤ 9)) := by show _ = _; simp; omega
      go_enter Try.func82, Try.ntmps82
      go_wp2_with fail
      refine (C1.out _).mono ?_
      generalize w.alloc (.cells #[.string lo, .string hi] 25) = U at *
      rintro r w1 ⟨rfl, hb⟩
      have K1 := hid (K0.out.below hb)
      have B1 := hid (B0.out.trans (hb.mono B0.out.size))
      clear K0 B0 hb
      have x0 := K1.out.cell (j := 0) rfl
      have x1 := K1.out.cell (j := 1) rfl
      go_wp2
      go_ret
      exact ⟨by rw [HV.out, decide_eq_true h, HH.out]; rfl, B1.out⟩
    · have h1 : ¬ (lo.size : Int) ≤ 9 := by omega
      go_enter Try.func82, Try.ntmps82
      go_wp2_with fail
      refine (C1.out _).mono ?_
      generalize w.alloc (.cells #[.string lo, .string hi] 25) = U at *
      rintro r w1 ⟨rfl, hb⟩
      have K1 := hid (K0.out.below hb)
      have B1 := hid (B0.out.trans (hb.mono B0.out.size))
      clear K0 B0 hb
      have x0 := K1.out.cell (j := 0) rfl
      have x1 := K1.out.cell (j := 1) rfl
      go_wp2
      go_ret
      exact ⟨by rw [HV.out, decide_eq_false h]; rfl, B1.out⟩
set_option maxHeartbeats 1600000 in
theorem specReachOk_any (lo hi : ByteArray) (w : World) : Calls Try.prog 72 #[.agg #[.string lo, .string hi]] w fun r w' => r = .returned (.bool (rchOk lo hi)) ∧ Below w.heap.size w w' := by
  have HV : Hid (rchOk lo hi = (rOk lo hi && (decide (lo.size ≤ 9) && decide (hi.size ≤ 9)))) := rfl
  have C1 : Hid (∀ w, Calls Try.prog 73 #[.agg #[.string lo, .string hi]] w fun r w' => r = .returned (.bool (rOk lo hi)) ∧ Below w.heap.size w w') := fun w => specRangeOk_any lo hi w
  generalize rOk lo hi = z1 at *
  have B0 := hid (below_new (o := .cells #[.string lo, .string hi] 25) (w := w) (Below.refl _ _))
  have K0 := hid (Bk.new w 25 [.string lo, .string hi])
  cases z1 with
  | false =>
    go_enter Try.func72, Try.ntmps72
    go_wp2_with fail
    refine (C1.out _).mono ?_
    generalize w.alloc (.cells #[.string lo, .string hi] 25) = U at *
    rintro r w1 ⟨rfl, hb⟩
    have K1 := hid (K0.out.below hb)
    have B1 := hid (B0.out.trans (hb.mono B0.out.size))
    clear K0 B0 hb
    have x0 := K1.out.cell (j := 0) rfl
    have x1 := K1.out.cell (j := 1) rfl
    go_wp2
    go_ret
    exact ⟨by rw [HV.out]; rfl, B1.out⟩
  | true =>
    by_cases h : lo.size ≤ 9
    · have h1 : (lo.size : Int) ≤ 9 := by omega
      have HH : Hid (decide (hi.size ≤ 9) = decide ((hi.size : Int) ≤ 9)) := by show _ = _; simp; omega
      go_enter Try.func72, Try.ntmps72
      go_wp2_with fail
      refine (C1.out _).mono ?_
      generalize w.alloc (.cells #[.string lo, .string hi] 25) = U at *
      rintro r w1 ⟨rfl, hb⟩
      have K1 := hid (K0.out.below hb)
      have B1 := hid (B0.out.trans (hb.mono B0.out.size))
      clear K0 B0 hb
      have x0 := K1.out.cell (j := 0) rfl
      have x1 := K1.out.cell (j := 1) rfl
      go_wp2
      go_ret
      exact ⟨by rw [HV.out, decide_eq_true h, HH.out]; rfl, B1.out⟩
    · have h1 : ¬ (lo.size : Int) ≤ 9 := by omega
      go_enter Try.func72, Try.ntmps72
      go_wp2_with fail
      refine (C1.out _).mono ?_
      generalize w.alloc (.cells #[.string lo, .string hi] 25) = U at *
      rintro r w1 ⟨rfl, hb⟩
      have K1 := hid (K0.out.below hb)
      have B1 := hid (B0.out.trans (hb.mono B0.out.size))
      clear K0 B0 hb
      have x0 := K1.out.cell (j := 0) rfl
      have x1 := K1.out.cell (j := 1) rfl
      go_wp2
      go_ret
      exact ⟨by rw [HV.out, decide_eq_false h]; rfl, B1.out⟩
end Go.Proofs.Ytjbamfgfgbmieaa
/-
  Asks: when one is right, on both sides; == of asks.
-/
namespace Go.Proofs.Ytjbamfgfgbmieaa
open Go.RowKit
set_option linter.unusedVariables false
def akK (ky vl lo hi : ByteArray) (mo : Int) (bk : Bool) : Bool := uOk ky && (uvOk vl && ((isE lo && isE hi) && (decide (mo = 0) && !bk)))
def akS (ky vl lo hi : ByteArray) (mo : Int) : Bool := (decide (1 ≤ mo) && decide (mo ≤ 8)) && (rchOk lo hi && (isE ky && isE vl))
def akOk (k : Int) (ky vl lo hi : ByteArray) (mo : Int) (bk : Bool) : Bool :=
  if k = 4 then akS ky vl lo hi mo else if k = 2 then akK ky vl lo hi mo bk else if k = 1 ∨ k = 3 then isE vl && akK ky vl lo hi mo bk else false
theorem akOk_4 (ky vl lo hi : ByteArray) (mo : Int) (bk : Bool) : akOk 4 ky vl lo hi mo bk = akS ky vl lo hi mo := rfl
theorem akOk_2 (ky vl lo hi : ByteArray) (mo : Int) (bk : Bool) : akOk 2 ky vl lo hi mo bk = akK ky vl lo hi mo bk := rfl
theorem akOk_1 (ky vl lo hi : ByteArray) (mo : Int) (bk : Bool) : akOk 1 ky vl lo hi mo bk = (isE vl && akK ky vl lo hi mo bk) := rfl
theorem akOk_3 (ky vl lo hi : ByteArray) (mo : Int) (bk : Bool) : akOk 3 ky vl lo hi mo bk = (isE vl && akK ky vl lo hi mo bk) := rfl
theorem akOk_no {k : Int} (h1 : ¬ k = 1) (h2 : ¬ k = 2) (h3 : ¬ k = 3) (h4 : ¬ k = 4) (ky vl lo hi : ByteArray) (mo : Int) (bk : Bool) : akOk k ky vl lo hi mo bk = false := by simp [akOk, h1, h2, h3, h4]
theorem eqIn_rng9 (lo hi lo' hi' : ByteArray) (w : World) : (Op.equalIn 9999 25 (.agg #[.string lo, .string hi]) (.agg #[.string lo', .string hi'])).run Try.prog w = .ok (lo.toList == lo'.toList && hi.toList == hi'.toList) w := by
  rw [run_equalIn_struct w 9998 25 _ _ (by kernel_rfl) (by kernel_rfl)]
  obtain ⟨f0, f1, hu, n0, n1, t0, t1, o0, o1⟩ : ∃ f0 f1 : Field, Try.prog.underlying 25 = some (.struct #[f0, f1]) ∧ f0.name = "Lo" ∧ f1.name = "Hi" ∧ f0.type = 9 ∧ f1.type = 9 ∧ f0.offset = 0 ∧ f1.offset = 1 := ⟨_, _, Try.underlying25, rfl, rfl, rfl, rfl, rfl, rfl⟩
  have hl : (Try.prog.fieldsOf 25).toList = [f0, f1] := by simp [Program.fieldsOf, hu]
  rw [hl]
  have p0 : ∀ (x y : Value) (w : World), (Go.part 9 #[x, y] 0).run Try.prog w = .ok x w := fun x y w => by kernel_rfl
  have p1 : ∀ (x y : Value) (w : World), (Go.part 9 #[x, y] 1).run Try.prog w = .ok y w := fun x y w => by kernel_rfl
  have hs : ∀ (a b : ByteArray) (w : World), (Op.equalIn 9998 9 (.string a) (.string b)).run Try.prog w = .ok (a.toList == b.toList) w := fun a b w => run_equalIn_string w 9997 9 a b (by kernel_rfl)
  have q0 : ("Lo" : String) ≠ "_" := by decide
  have q1 : ("Hi" : String) ≠ "_" := by decide
  simp only [Op.eqFields, n0, n1, t0, t1, o0, o1, if_pos q0, if_pos q1, Sem.run_bind, p0, p1, hs, Result.andThen_ok, Sem.run_ite, Sem.run_pure]
  cases h0 : (lo.toList == lo'.toList)
  · simp
  · cases h1 : (hi.toList == hi'.toList) <;> simp
theorem eqIn_ask (k : Int) (ky vl lo hi : ByteArray) (mo : Int) (bk : Bool) (k' : Int) (ky' : ByteArray) (vl' : ByteArray) (lo' : ByteArray) (hi' : ByteArray) (mo' : Int) (bk' : Bool) (w : World) : (Op.equalIn 10000 27 (.agg #[.int .i64 k, .string ky, .string vl, .string lo, .string hi, .int .i64 mo, .bool bk]) (.agg #[.int .i64 k', .string ky', .string vl', .string lo', .string hi', .int .i64 mo', .bool bk'])).run Try.prog w = .ok ((k == k') && (ky.toList == ky'.toList && (vl.toList == vl'.toList && ((lo.toList == lo'.toList && hi.toList == hi'.toList) && (mo == mo' && bk == bk'))))) w := by
  rw [run_equalIn_struct w 9999 27 _ _ (by kernel_rfl) (by kernel_rfl)]
  obtain ⟨f0, f1, f2, f3, f4, f5, hu, n0, n1, n2, n3, n4, n5, t0, t1, t2, t3, t4, t5, o0, o1, o2, o3, o4, o5⟩ : ∃ f0 f1 f2 f3 f4 f5 : Field, Try.prog.underlying 27 = some (.struct #[f0, f1, f2, f3, f4, f5]) ∧ f0.name = "Kind" ∧ f1.name = "Key" ∧ f2.name = "Val" ∧ f3.name = "Range" ∧ f4.name = "Most" ∧ f5.name = "Back" ∧ f0.type = 3 ∧ f1.type = 9 ∧ f2.type = 9 ∧ f3.type = 25 ∧ f4.type = 3 ∧ f5.type = 4 ∧ f0.offset = 0 ∧ f1.offset = 1 ∧ f2.offset = 2 ∧ f3.offset = 3 ∧ f4.offset = 5 ∧ f5.offset = 6 := ⟨_, _, _, _, _, _, Try.underlying27, rfl, rfl, rfl, rfl, rfl, rfl, rfl, rfl, rfl, rfl, rfl, rfl, rfl, rfl, rfl, rfl, rfl, rfl⟩
  have hl : (Try.prog.fieldsOf 27).toList = [f0, f1, f2, f3, f4, f5] := by simp [Program.fieldsOf, hu]
  rw [hl]
  have p0 : ∀ (x0 x1 x2 x3 x4 x5 x6 : Value) (w : World), (Go.part 3 #[x0, x1, x2, x3, x4, x5, x6] 0).run Try.prog w = .ok x0 w := fun x0 x1 x2 x3 x4 x5 x6 w => by kernel_rfl
  have p1 : ∀ (x0 x1 x2 x3 x4 x5 x6 : Value) (w : World), (Go.part 9 #[x0, x1, x2, x3, x4, x5, x6] 1).run Try.prog w = .ok x1 w := fun x0 x1 x2 x3 x4 x5 x6 w => by kernel_rfl
  have p2 : ∀ (x0 x1 x2 x3 x4 x5 x6 : Value) (w : World), (Go.part 9 #[x0, x1, x2, x3, x4, x5, x6] 2).run Try.prog w = .ok x2 w := fun x0 x1 x2 x3 x4 x5 x6 w => by kernel_rfl
  have p3 : ∀ (x0 x1 x2 x3 x4 x5 x6 : Value) (w : World), (Go.part 25 #[x0, x1, x2, x3, x4, x5, x6] 3).run Try.prog w = .ok (.agg #[x3, x4]) w := fun x0 x1 x2 x3 x4 x5 x6 w => by kernel_rfl
  have p4 : ∀ (x0 x1 x2 x3 x4 x5 x6 : Value) (w : World), (Go.part 3 #[x0, x1, x2, x3, x4, x5, x6] 5).run Try.prog w = .ok x5 w := fun x0 x1 x2 x3 x4 x5 x6 w => by kernel_rfl
  have p5 : ∀ (x0 x1 x2 x3 x4 x5 x6 : Value) (w : World), (Go.part 4 #[x0, x1, x2, x3, x4, x5, x6] 6).run Try.prog w = .ok x6 w := fun x0 x1 x2 x3 x4 x5 x6 w => by kernel_rfl
  have hin : ∀ (a b : Int) (w : World), (Op.equalIn 9999 3 (.int .i64 a) (.int .i64 b)).run Try.prog w = .ok (a == b) w := fun a b w => run_equalIn_int w 9998 3 .i64 .i64 a b (by kernel_rfl)
  have hs : ∀ (a b : ByteArray) (w : World), (Op.equalIn 9999 9 (.string a) (.string b)).run Try.prog w = .ok (a.toList == b.toList) w := fun a b w => run_equalIn_string w 9998 9 a b (by kernel_rfl)
  have hbo : ∀ (a b : Bool) (w : World), (Op.equalIn 9999 4 (.bool a) (.bool b)).run Try.prog w = .ok (a == b) w := fun a b w => run_equalIn_bool' w 9998 4 a b (by kernel_rfl)
  have q0 : ("Kind" : String) ≠ "_" := by decide
  have q1 : ("Key" : String) ≠ "_" := by decide
  have q2 : ("Val" : String) ≠ "_" := by decide
  have q3 : ("Range" : String) ≠ "_" := by decide
  have q4 : ("Most" : String) ≠ "_" := by decide
  have q5 : ("Back" : String) ≠ "_" := by decide
  simp only [Op.eqFields, n0, t0, o0, if_pos q0, n1, t1, o1, if_pos q1, n2, t2, o2, if_pos q2, n3, t3, o3, if_pos q3, n4, t4, o4, if_pos q4, n5, t5, o5, if_pos q5, Sem.run_bind, p0, p1, p2, p3, p4, p5, hin, hs, hbo, eqIn_rng9, Result.andThen_ok, Sem.run_ite, Sem.run_pure]
  generalize (k == k') = b0
  generalize (ky.toList == ky'.toList) = b1
  generalize (vl.toList == vl'.toList) = b2
  generalize (lo.toList == lo'.toList && hi.toList == hi'.toList) = b3
  generalize (mo == mo') = b4
  generalize (bk == bk') = b5
  cases b0 <;> cases b1 <;> cases b2 <;> cases b3 <;> cases b4 <;> cases b5 <;> first | rfl | simp
def akZ (k : Int) (ky vl lo hi : ByteArray) (mo : Int) (bk : Bool) : Bool := decide (k = 0) && (isE ky && (isE vl && ((isE lo && isE hi) && (decide (mo = 0) && !bk))))
theorem bl_same (s : ByteArray) : (s.toList == s.toList) = true := by simp
theorem eql_askK (k : Int) (ky vl lo hi : ByteArray) (mo : Int) (bk : Bool) (w : World) : (binOp .eql 27 (.agg #[.int .i64 k, .string ky, .string vl, .string lo, .string hi, .int .i64 mo, .bool bk]) (.agg #[.int .i64 k, .string ky, .string vl, .string ⟨#[]⟩, .string ⟨#[]⟩, .int .i64 0, .bool false])).run Try.prog w = .ok (.bool ((isE lo && isE hi) && (decide (mo = 0) && !bk))) w := by
  rw [run_eql_struct, eqIn_ask, isE_beq, isE_beq, bl_same, bl_same]
  simp only [beq_self_eq_true, Bool.true_and, Result.andThen_ok]
  cases bk <;> rfl
theorem eql_askS (k : Int) (ky vl lo hi : ByteArray) (mo : Int) (bk : Bool) (w : World) : (binOp .eql 27 (.agg #[.int .i64 k, .string ky, .string vl, .string lo, .string hi, .int .i64 mo, .bool bk]) (.agg #[.int .i64 k, .string ⟨#[]⟩, .string ⟨#[]⟩, .string lo, .string hi, .int .i64 mo, .bool bk])).run Try.prog w = .ok (.bool (isE ky && isE vl)) w := by
  rw [run_eql_struct, eqIn_ask, isE_beq, isE_beq, bl_same, bl_same]
  simp only [beq_self_eq_true, Bool.true_and, Bool.and_true, Result.andThen_ok]
theorem eql_askZ (k : Int) (ky vl lo hi : ByteArray) (mo : Int) (bk : Bool) (w : World) : (binOp .eql 27 (.agg #[.int .i64 k, .string ky, .string vl, .string lo, .string hi, .int .i64 mo, .bool bk]) (.agg #[.int .i64 0, .string ⟨#[]⟩, .string ⟨#[]⟩, .string ⟨#[]⟩, .string ⟨#[]⟩, .int .i64 0, .bool false])).run Try.prog w = .ok (.bool (akZ k ky vl lo hi mo bk)) w := by
  rw [run_eql_struct, eqIn_ask, isE_beq, isE_beq, isE_beq, isE_beq]
  unfold akZ
  cases bk <;> rfl
theorem neq_askZ (k : Int) (ky vl lo hi : ByteArray) (mo : Int) (bk : Bool) (w : World) : (binOp .neq 27 (.agg #[.int .i64 k, .string ky, .string vl, .string lo, .string hi, .int .i64 mo, .bool bk]) (.agg #[.int .i64 0, .string ⟨#[]⟩, .string ⟨#[]⟩, .string ⟨#[]⟩, .string ⟨#[]⟩, .int .i64 0, .bool false])).run Try.prog w = .ok (.bool (!akZ k ky vl lo hi mo bk)) w := by
  rw [run_neq_struct, eqIn_ask, isE_beq, isE_beq, isE_beq, isE_beq]
  unfold akZ
  cases bk <;> rfl
theorem guard_ask (op : BinOp) (x y : Operand) (xs ys : Array Value) (w : World) : (eqGuard op 27 x y (.agg xs) (.agg ys)).run Try.prog w = .ok () w := run_eqGuard_agg w op 27 x y xs ys (by kernel_rfl)
set_option maxHeartbeats 3200000 in
theorem keyAskOk_any (k : Int) (ky vl lo hi : ByteArray) (mo : Int) (bk : Bool) (w : World) : Calls Try.prog 64 #[.agg #[.int .i64 k, .string ky, .string vl, .string lo, .string hi, .int .i64 mo, .bool bk]] w fun r w' => r = .returned (.bool (akK ky vl lo hi mo bk)) ∧ Below w.heap.size w w' := by
  have hq := eql_askK k ky vl lo hi mo bk
  have hg := guard_ask .eql
  have C1 := hid (fun w => implUserOk_any ky w)
  have C2 := hid (fun w => implUvalOk_any vl w)
  have B0 := hid (below_new (o := .cells #[.int .i64 k, .string ky, .string vl, .string lo, .string hi, .int .i64 mo, .bool bk] 27) (w := w) (Below.refl _ _))
  have HV : Hid (akK ky vl lo hi mo bk = (uOk ky && (uvOk vl && ((isE lo && isE hi) && (decide (mo = 0) && !bk))))) := rfl
  generalize akK ky vl lo hi mo bk = z0 at *
  generalize uOk ky = z1 at *
  generalize uvOk vl = z2 at *
  generalize ((isE lo && isE hi) && (decide (mo = 0) && !bk)) = z3 at *
  cases z1 with
  | false =>
    go_enter Try.func64, Try.ntmps64
    go_wp2_with fail
    refine (C1.out _).mono ?_
    rintro r w1 ⟨rfl, rfl⟩
    go_wp2
    go_ret
    exact ⟨by rw [HV.out]; rfl, B0.out⟩
  | true =>
    cases z2 with
    | false =>
      go_enter Try.func64, Try.ntmps64
      go_wp2_with fail
      refine (C1.out _).mono ?_
      rintro r w1 ⟨rfl, rfl⟩
      go_wp2_with fail
      refine (C2.out _).mono ?_
      rintro r w1 ⟨rfl, rfl⟩
      go_wp2
      go_ret
      exact ⟨by rw [HV.out]; rfl, B0.out⟩
    | true =>
      go_enter Try.func64, Try.ntmps64
      go_wp2_with fail
      refine (C1.out _).mono ?_
      rintro r w1 ⟨rfl, rfl⟩
      go_wp2_with fail
      refine (C2.out _).mono ?_
      rintro r w1 ⟨rfl, rfl⟩
      go_wp2
      go_ret
      exact ⟨by rw [HV.out]; rfl, B0.out⟩
set_option maxHeartbeats 3200000 in
theorem scanOk_any (k : Int) (ky vl lo hi : ByteArray) (mo : Int) (bk : Bool) (w : World) : Calls Try.prog 65 #[.agg #[.int .i64 k, .string ky, .string vl, .string lo, .string hi, .int .i64 mo, .bool bk]] w fun r w' => r = .returned (.bool (akS ky vl lo hi mo)) ∧ Below w.heap.size w w' := by
  have hq := eql_askS k ky vl lo hi mo bk
  have hg := guard_ask .eql
  have C1 : Hid (∀ w, Calls Try.prog 82 #[.agg #[.string lo, .string hi]] w fun r w' => r = .returned (.bool (rchOk lo hi)) ∧ Below w.heap.size w w') := fun w => implReachOk_any lo hi w
  have B0 := hid (below_new (o := .cells #[.int .i64 k, .string ky, .string vl, .string lo, .string hi, .int .i64 mo, .bool bk] 27) (w := w) (Below.refl _ _))
  have K0 := hid (Bk.new w 27 [.int .i64 k, .string ky, .string vl, .string lo, .string hi, .int .i64 mo, .bool bk])
  have HV : Hid (akS ky vl lo hi mo = ((decide (1 ≤ mo) && decide (mo ≤ 8)) && (rchOk lo hi && (isE ky && isE vl)))) := rfl
  generalize akS ky vl lo hi mo = z0 at *
  generalize rchOk lo hi = z1 at *
  generalize (isE ky && isE vl) = z2 at *
  by_cases m1 : mo < 1
  · have HW : Hid (decide (1 ≤ mo) = false) := by show _ = false; simp; omega
    go_enter Try.func65, Try.ntmps65
    go_wp2
    go_ret
    exact ⟨by rw [HV.out, HW.out]; rfl, B0.out⟩
  · by_cases m2 : 8 < mo
    · have HW : Hid (decide (mo ≤ 8) = false) := by show _ = false; simp; omega
      go_enter Try.func65, Try.ntmps65
      go_wp2
      go_ret
      exact ⟨by rw [HV.out, HW.out, Bool.and_false]; rfl, B0.out⟩
    · have HW : Hid ((decide (1 ≤ mo) && decide (mo ≤ 8)) = true) := by show _ = true; simp; omega
      cases z1 with
      | false =>
        go_enter Try.func65, Try.ntmps65
        go_wp2_with fail
        refine (C1.out _).mono ?_
        generalize w.alloc (.cells #[.int .i64 k, .string ky, .string vl, .string lo, .string hi, .int .i64 mo, .bool bk] 27) = U at *
        rintro r w1 ⟨rfl, hb⟩
        have K1 := hid (K0.out.below hb)
        have B1 := hid (B0.out.trans (hb.mono B0.out.size))
        clear K0 B0 hb
        have x0 := K1.out.cell (j := 0) rfl
        have x1 := K1.out.cell (j := 1) rfl
        have x2 := K1.out.cell (j := 2) rfl
        have x3 := K1.out.cell (j := 3) rfl
        have x4 := K1.out.cell (j := 4) rfl
        have x5 := K1.out.cell (j := 5) rfl
        have x6 := K1.out.cell (j := 6) rfl
        go_wp2
        go_ret
        exact ⟨by rw [HV.out, HW.out]; rfl, B1.out⟩
      | true =>
        go_enter Try.func65, Try.ntmps65
        go_wp2_with fail
        refine (C1.out _).mono ?_
        generalize w.alloc (.cells #[.int .i64 k, .string ky, .string vl, .string lo, .string hi, .int .i64 mo, .bool bk] 27) = U at *
        rintro r w1 ⟨rfl, hb⟩
        have K1 := hid (K0.out.below hb)
        have B1 := hid (B0.out.trans (hb.mono B0.out.size))
        clear K0 B0 hb
        have x0 := K1.out.cell (j := 0) rfl
        have x1 := K1.out.cell (j := 1) rfl
        have x2 := K1.out.cell (j := 2) rfl
        have x3 := K1.out.cell (j := 3) rfl
        have x4 := K1.out.cell (j := 4) rfl
        have x5 := K1.out.cell (j := 5) rfl
        have x6 := K1.out.cell (j := 6) rfl
        go_wp2
        go_ret
        exact ⟨by rw [HV.out, HW.out]; rfl, B1.out⟩
set_option maxHeartbeats 3200000 in
theorem implAskOk_any (k : Int) (ky vl lo hi : ByteArray) (mo : Int) (bk : Bool) (w : World) : Calls Try.prog 34 #[.agg #[.int .i64 k, .string ky, .string vl, .string lo, .string hi, .int .i64 mo, .bool bk]] w fun r w' => r = .returned (.bool (akOk k ky vl lo hi mo bk)) ∧ Below w.heap.size w w' := by
  have C1 := hid (fun w => keyAskOk_any k ky vl lo hi mo bk w)
  have C2 := hid (fun w => scanOk_any k ky vl lo hi mo bk w)
  have B0 := hid (below_new (o := .cells #[.int .i64 k, .string ky, .string vl, .string lo, .string hi, .int .i64 mo, .bool bk] 27) (w := w) (Below.refl _ _))
  by_cases k1 : k = 1
  · subst k1
    have HV := hid (akOk_1 ky vl lo hi mo bk)
    by_cases h2 : vl.toList = []
    · have HW : Hid (isE vl = true) := by show _ = true; exact decide_eq_true h2
      generalize akOk 1 ky vl lo hi mo bk = z0 at *
      go_enter Try.func34, Try.ntmps34
      go_wp2_with fail
      refine (C1.out _).mono ?_
      rintro r w1 ⟨rfl, hb⟩
      have B1 := hid (btR B0.out hb)
      clear hb B0
      go_wp2
      go_ret
      exact ⟨by rw [HV.out, HW.out]; rfl, B1.out⟩
    · have HW : Hid (isE vl = false) := by show _ = false; exact decide_eq_false h2
      have h3 : vl.toList.isEmpty = false := by simpa using h2
      generalize akOk 1 ky vl lo hi mo bk = z0 at *
      go_enter Try.func34, Try.ntmps34
      go_wp2
      go_ret
      exact ⟨by rw [HV.out, HW.out]; rfl, B0.out⟩
  · by_cases k3 : k = 3
    · subst k3
      have HV := hid (akOk_3 ky vl lo hi mo bk)
      by_cases h2 : vl.toList = []
      · have HW : Hid (isE vl = true) := by show _ = true; exact decide_eq_true h2
        generalize akOk 3 ky vl lo hi mo bk = z0 at *
        go_enter Try.func34, Try.ntmps34
        go_wp2_with fail
        refine (C1.out _).mono ?_
        rintro r w1 ⟨rfl, hb⟩
        have B1 := hid (btR B0.out hb)
        clear hb B0
        go_wp2
        go_ret
        exact ⟨by rw [HV.out, HW.out]; rfl, B1.out⟩
      · have HW : Hid (isE vl = false) := by show _ = false; exact decide_eq_false h2
        have h3 : vl.toList.isEmpty = false := by simpa using h2
        generalize akOk 3 ky vl lo hi mo bk = z0 at *
        go_enter Try.func34, Try.ntmps34
        go_wp2
        go_ret
        exact ⟨by rw [HV.out, HW.out]; rfl, B0.out⟩
    · by_cases k2 : k = 2
      · subst k2
        have HV := hid (akOk_2 ky vl lo hi mo bk)
        generalize akOk 2 ky vl lo hi mo bk = z0 at *
        go_enter Try.func34, Try.ntmps34
        go_wp2_with fail
        refine (C1.out _).mono ?_
        rintro r w1 ⟨rfl, hb⟩
        have B1 := hid (btR B0.out hb)
        clear hb B0
        go_wp2
        go_ret
        exact ⟨by rw [HV.out]; rfl, B1.out⟩
      · by_cases k4 : k = 4
        · subst k4
          have HV := hid (akOk_4 ky vl lo hi mo bk)
          generalize akOk 4 ky vl lo hi mo bk = z0 at *
          go_enter Try.func34, Try.ntmps34
          go_wp2_with fail
          refine (C2.out _).mono ?_
          rintro r w1 ⟨rfl, hb⟩
          have B1 := hid (btR B0.out hb)
          clear hb B0
          go_wp2
          go_ret
          exact ⟨by rw [HV.out]; rfl, B1.out⟩
        · have HV := hid (akOk_no k1 k2 k3 k4 ky vl lo hi mo bk)
          clear C1 C2
          go_enter Try.func34, Try.ntmps34
          go_wp2
          go_ret
          exact ⟨by rw [HV.out]; rfl, B0.out⟩
set_option maxHeartbeats 6400000 in
theorem specAskOk_any (k : Int) (ky vl lo hi : ByteArray) (mo : Int) (bk : Bool) (w : World) : Calls Try.prog 38 #[.agg #[.int .i64 k, .string ky, .string vl, .string lo, .string hi, .int .i64 mo, .bool bk]] w fun r w' => r = .returned (.bool (akOk k ky vl lo hi mo bk)) ∧ Below w.heap.size w w' := by
  have hq := eql_rng0 lo hi
  have hg := guard_rng .eql
  have C1 := hid (fun w => specUserOk_any ky w)
  have C2 := hid (fun w => specUvalOk_any vl w)
  have C3 : Hid (∀ w, Calls Try.prog 72 #[.agg #[.string lo, .string hi]] w fun r w' => r = .returned (.bool (rchOk lo hi)) ∧ Below w.heap.size w w') := fun w => specReachOk_any lo hi w
  have B0 := hid (below_new (o := .cells #[.int .i64 k, .string ky, .string vl, .string lo, .string hi, .int .i64 mo, .bool bk] 27) (w := w) (below_new (o := .cells #[.string ⟨#[]⟩, .string ⟨#[]⟩] 25) (w := w.alloc (.cells #[.int .i64 k, .string ky, .string vl, .string lo, .string hi, .int .i64 mo, .bool bk] 27)) (Below.refl _ _)))
  by_cases k1 : k = 1
  · subst k1
    have HV := hid (akOk_1 ky vl lo hi mo bk)
    by_cases h2 : vl.toList = []
    · have HW : Hid (isE vl = true) := by show _ = true; exact decide_eq_true h2
      generalize akOk 1 ky vl lo hi mo bk = z0 at *
      have HX : Hid (akK ky vl lo hi mo bk = (uOk ky && (uvOk vl && ((isE lo && isE hi) && (decide (mo = 0) && !bk))))) := rfl
      generalize akK ky vl lo hi mo bk = zk at *
      generalize uOk ky = z1 at *
      generalize uvOk vl = z2 at *
      generalize (isE lo && isE hi) = z3 at *
      cases z1 with
      | false =>
        go_enter Try.func38, Try.ntmps38
        go_wp2_with fail
        refine (C1.out _).mono ?_
        rintro r w1 ⟨rfl, rfl⟩
        go_wp2
        go_ret
        exact ⟨by rw [HV.out, HW.out, HX.out]; rfl, B0.out⟩
      | true =>
        cases z2 with
        | false =>
          go_enter Try.func38, Try.ntmps38
          go_wp2_with fail
          refine (C1.out _).mono ?_
          rintro r w1 ⟨rfl, rfl⟩
          go_wp2_with fail
          refine (C2.out _).mono ?_
          rintro r w1 ⟨rfl, rfl⟩
          go_wp2
          go_ret
          exact ⟨by rw [HV.out, HW.out, HX.out]; rfl, B0.out⟩
        | true =>
          cases z3 with
          | false =>
            go_enter Try.func38, Try.ntmps38
            go_wp2_with fail
            refine (C1.out _).mono ?_
            rintro r w1 ⟨rfl, rfl⟩
            go_wp2_with fail
            refine (C2.out _).mono ?_
            rintro r w1 ⟨rfl, rfl⟩
            go_wp2
            go_ret
            exact ⟨by rw [HV.out, HW.out, HX.out]; rfl, B0.out⟩
          | true =>
            by_cases h5 : mo = 0
            · subst h5
              have HM : Hid (decide ((0 : Int) = 0) = true) := decide_eq_true rfl
              go_enter Try.func38, Try.ntmps38
              go_wp2_with fail
              refine (C1.out _).mono ?_
              rintro r w1 ⟨rfl, rfl⟩
              go_wp2_with fail
              refine (C2.out _).mono ?_
              rintro r w1 ⟨rfl, rfl⟩
              go_wp2
              go_ret
              exact ⟨by rw [HV.out, HW.out, HX.out, HM.out]; rfl, B0.out⟩
            · have HM : Hid (decide (mo = 0) = false) := decide_eq_false h5
              go_enter Try.func38, Try.ntmps38
              go_wp2_with fail
              refine (C1.out _).mono ?_
              rintro r w1 ⟨rfl, rfl⟩
              go_wp2_with fail
              refine (C2.out _).mono ?_
              rintro r w1 ⟨rfl, rfl⟩
              go_wp2
              go_ret
              exact ⟨by rw [HV.out, HW.out, HX.out, HM.out]; rfl, B0.out⟩
    · have HW : Hid (isE vl = false) := by show _ = false; exact decide_eq_false h2
      have h3 : vl.toList.isEmpty = false := by simpa using h2
      generalize akOk 1 ky vl lo hi mo bk = z0 at *
      go_enter Try.func38, Try.ntmps38
      go_wp2
      go_ret
      exact ⟨by rw [HV.out, HW.out]; rfl, B0.out⟩
  · by_cases k3 : k = 3
    · subst k3
      have HV := hid (akOk_3 ky vl lo hi mo bk)
      by_cases h2 : vl.toList = []
      · have HW : Hid (isE vl = true) := by show _ = true; exact decide_eq_true h2
        generalize akOk 3 ky vl lo hi mo bk = z0 at *
        have HX : Hid (akK ky vl lo hi mo bk = (uOk ky && (uvOk vl && ((isE lo && isE hi) && (decide (mo = 0) && !bk))))) := rfl
        generalize akK ky vl lo hi mo bk = zk at *
        generalize uOk ky = z1 at *
        generalize uvOk vl = z2 at *
        generalize (isE lo && isE hi) = z3 at *
        cases z1 with
        | false =>
          go_enter Try.func38, Try.ntmps38
          go_wp2_with fail
          refine (C1.out _).mono ?_
          rintro r w1 ⟨rfl, rfl⟩
          go_wp2
          go_ret
          exact ⟨by rw [HV.out, HW.out, HX.out]; rfl, B0.out⟩
        | true =>
          cases z2 with
          | false =>
            go_enter Try.func38, Try.ntmps38
            go_wp2_with fail
            refine (C1.out _).mono ?_
            rintro r w1 ⟨rfl, rfl⟩
            go_wp2_with fail
            refine (C2.out _).mono ?_
            rintro r w1 ⟨rfl, rfl⟩
            go_wp2
            go_ret
            exact ⟨by rw [HV.out, HW.out, HX.out]; rfl, B0.out⟩
          | true =>
            cases z3 with
            | false =>
              go_enter Try.func38, Try.ntmps38
              go_wp2_with fail
              refine (C1.out _).mono ?_
              rintro r w1 ⟨rfl, rfl⟩
              go_wp2_with fail
              refine (C2.out _).mono ?_
              rintro r w1 ⟨rfl, rfl⟩
              go_wp2
              go_ret
              exact ⟨by rw [HV.out, HW.out, HX.out]; rfl, B0.out⟩
            | true =>
              by_cases h5 : mo = 0
              · subst h5
                have HM : Hid (decide ((0 : Int) = 0) = true) := decide_eq_true rfl
                go_enter Try.func38, Try.ntmps38
                go_wp2_with fail
                refine (C1.out _).mono ?_
                rintro r w1 ⟨rfl, rfl⟩
                go_wp2_with fail
                refine (C2.out _).mono ?_
                rintro r w1 ⟨rfl, rfl⟩
                go_wp2
                go_ret
                exact ⟨by rw [HV.out, HW.out, HX.out, HM.out]; rfl, B0.out⟩
              · have HM : Hid (decide (mo = 0) = false) := decide_eq_false h5
                go_enter Try.func38, Try.ntmps38
                go_wp2_with fail
                refine (C1.out _).mono ?_
                rintro r w1 ⟨rfl, rfl⟩
                go_wp2_with fail
                refine (C2.out _).mono ?_
                rintro r w1 ⟨rfl, rfl⟩
                go_wp2
                go_ret
                exact ⟨by rw [HV.out, HW.out, HX.out, HM.out]; rfl, B0.out⟩
      · have HW : Hid (isE vl = false) := by show _ = false; exact decide_eq_false h2
        have h3 : vl.toList.isEmpty = false := by simpa using h2
        generalize akOk 3 ky vl lo hi mo bk = z0 at *
        go_enter Try.func38, Try.ntmps38
        go_wp2
        go_ret
        exact ⟨by rw [HV.out, HW.out]; rfl, B0.out⟩
    · by_cases k2 : k = 2
      · subst k2
        have HV := hid (akOk_2 ky vl lo hi mo bk)
        generalize akOk 2 ky vl lo hi mo bk = z0 at *
        have HX : Hid (akK ky vl lo hi mo bk = (uOk ky && (uvOk vl && ((isE lo && isE hi) && (decide (mo = 0) && !bk))))) := rfl
        generalize akK ky vl lo hi mo bk = zk at *
        generalize uOk ky = z1 at *
        generalize uvOk vl = z2 at *
        generalize (isE lo && isE hi) = z3 at *
        cases z1 with
        | false =>
          go_enter Try.func38, Try.ntmps38
          go_wp2_with fail
          refine (C1.out _).mono ?_
          rintro r w1 ⟨rfl, rfl⟩
          go_wp2
          go_ret
          exact ⟨by rw [HV.out, HX.out]; rfl, B0.out⟩
        | true =>
          cases z2 with
          | false =>
            go_enter Try.func38, Try.ntmps38
            go_wp2_with fail
            refine (C1.out _).mono ?_
            rintro r w1 ⟨rfl, rfl⟩
            go_wp2_with fail
            refine (C2.out _).mono ?_
            rintro r w1 ⟨rfl, rfl⟩
            go_wp2
            go_ret
            exact ⟨by rw [HV.out, HX.out]; rfl, B0.out⟩
          | true =>
            cases z3 with
            | false =>
              go_enter Try.func38, Try.ntmps38
              go_wp2_with fail
              refine (C1.out _).mono ?_
              rintro r w1 ⟨rfl, rfl⟩
              go_wp2_with fail
              refine (C2.out _).mono ?_
              rintro r w1 ⟨rfl, rfl⟩
              go_wp2
              go_ret
              exact ⟨by rw [HV.out, HX.out]; rfl, B0.out⟩
            | true =>
              by_cases h5 : mo = 0
              · subst h5
                have HM : Hid (decide ((0 : Int) = 0) = true) := decide_eq_true rfl
                go_enter Try.func38, Try.ntmps38
                go_wp2_with fail
                refine (C1.out _).mono ?_
                rintro r w1 ⟨rfl, rfl⟩
                go_wp2_with fail
                refine (C2.out _).mono ?_
                rintro r w1 ⟨rfl, rfl⟩
                go_wp2
                go_ret
                exact ⟨by rw [HV.out, HX.out, HM.out]; rfl, B0.out⟩
              · have HM : Hid (decide (mo = 0) = false) := decide_eq_false h5
                go_enter Try.func38, Try.ntmps38
                go_wp2_with fail
                refine (C1.out _).mono ?_
                rintro r w1 ⟨rfl, rfl⟩
                go_wp2_with fail
                refine (C2.out _).mono ?_
                rintro r w1 ⟨rfl, rfl⟩
                go_wp2
                go_ret
                exact ⟨by rw [HV.out, HX.out, HM.out]; rfl, B0.out⟩
      · by_cases k4 : k = 4
        · subst k4
          have HV := hid (akOk_4 ky vl lo hi mo bk)
          generalize akOk 4 ky vl lo hi mo bk = z0 at *
          have HX : Hid (akS ky vl lo hi mo = ((decide (1 ≤ mo) && decide (mo ≤ 8)) && (rchOk lo hi && (isE ky && isE vl)))) := rfl
          generalize akS ky vl lo hi mo = zk at *
          generalize rchOk lo hi = z1 at *
          clear hq hg C1 C2
          by_cases h1 : ky.toList = []
          · have HW1 : Hid (isE ky = true) := by show _ = true; exact decide_eq_true h1
            by_cases h2 : vl.toList = []
            · have HW2 : Hid (isE vl = true) := by show _ = true; exact decide_eq_true h2
              have K0 := hid ((Bk.new w 27 [.int .i64 4, .string ky, .string vl, .string lo, .string hi, .int .i64 mo, .bool bk]).alloc (.cells #[.string ⟨#[]⟩, .string ⟨#[]⟩] 25))
              cases z1 with
              | false =>
                go_enter Try.func38, Try.ntmps38
                go_wp2_with fail
                refine (C3.out _).mono ?_
                generalize (w.alloc (.cells #[.int .i64 4, .string ky, .string vl, .string lo, .string hi, .int .i64 mo, .bool bk] 27)).alloc (.cells #[.string ⟨#[]⟩, .string ⟨#[]⟩] 25) = U at *
                rintro r w1 ⟨rfl, hb⟩
                have K1 := hid (K0.out.below hb)
                have B1 := hid (B0.out.trans (hb.mono B0.out.size))
                clear K0 B0 hb
                have x0 := K1.out.cell (j := 0) rfl
                have x1 := K1.out.cell (j := 1) rfl
                have x2 := K1.out.cell (j := 2) rfl
                have x3 := K1.out.cell (j := 3) rfl
                have x4 := K1.out.cell (j := 4) rfl
                have x5 := K1.out.cell (j := 5) rfl
                have x6 := K1.out.cell (j := 6) rfl
                go_wp2
                go_ret
                exact ⟨by rw [HV.out, HX.out, HW1.out, HW2.out]; simp, B1.out⟩
              | true =>
                by_cases m1 : 1 ≤ mo
                · have HD : Hid (decide (1 ≤ mo) = true) := decide_eq_true m1
                  go_enter Try.func38, Try.ntmps38
                  go_wp2_with fail
                  refine (C3.out _).mono ?_
                  generalize (w.alloc (.cells #[.int .i64 4, .string ky, .string vl, .string lo, .string hi, .int .i64 mo, .bool bk] 27)).alloc (.cells #[.string ⟨#[]⟩, .string ⟨#[]⟩] 25) = U at *
                  rintro r w1 ⟨rfl, hb⟩
                  have K1 := hid (K0.out.below hb)
                  have B1 := hid (B0.out.trans (hb.mono B0.out.size))
                  clear K0 B0 hb
                  have x0 := K1.out.cell (j := 0) rfl
                  have x1 := K1.out.cell (j := 1) rfl
                  have x2 := K1.out.cell (j := 2) rfl
                  have x3 := K1.out.cell (j := 3) rfl
                  have x4 := K1.out.cell (j := 4) rfl
                  have x5 := K1.out.cell (j := 5) rfl
                  have x6 := K1.out.cell (j := 6) rfl
                  go_wp2
                  go_ret
                  exact ⟨by rw [HV.out, HX.out, HW1.out, HW2.out, HD.out]; simp, B1.out⟩
                · have HD : Hid (decide (1 ≤ mo) = false) := decide_eq_false m1
                  go_enter Try.func38, Try.ntmps38
                  go_wp2_with fail
                  refine (C3.out _).mono ?_
                  generalize (w.alloc (.cells #[.int .i64 4, .string ky, .string vl, .string lo, .string hi, .int .i64 mo, .bool bk] 27)).alloc (.cells #[.string ⟨#[]⟩, .string ⟨#[]⟩] 25) = U at *
                  rintro r w1 ⟨rfl, hb⟩
                  have K1 := hid (K0.out.below hb)
                  have B1 := hid (B0.out.trans (hb.mono B0.out.size))
                  clear K0 B0 hb
                  have x0 := K1.out.cell (j := 0) rfl
                  have x1 := K1.out.cell (j := 1) rfl
                  have x2 := K1.out.cell (j := 2) rfl
                  have x3 := K1.out.cell (j := 3) rfl
                  have x4 := K1.out.cell (j := 4) rfl
                  have x5 := K1.out.cell (j := 5) rfl
                  have x6 := K1.out.cell (j := 6) rfl
                  go_wp2
                  go_ret
                  exact ⟨by rw [HV.out, HX.out, HW1.out, HW2.out, HD.out]; simp, B1.out⟩
            · have HW2 : Hid (isE vl = false) := by show _ = false; exact decide_eq_false h2
              have h3 : vl.toList.isEmpty = false := by simpa using h2
              go_enter Try.func38, Try.ntmps38
              go_wp2
              go_ret
              exact ⟨by rw [HV.out, HX.out, HW1.out, HW2.out]; simp, B0.out⟩
          · have HW1 : Hid (isE ky = false) := by show _ = false; exact decide_eq_false h1
            have h3 : ky.toList.isEmpty = false := by simpa using h1
            go_enter Try.func38, Try.ntmps38
            go_wp2
            go_ret
            exact ⟨by rw [HV.out, HX.out, HW1.out]; simp, B0.out⟩
        · have HV := hid (akOk_no k1 k2 k3 k4 ky vl lo hi mo bk)
          clear hq hg C1 C2 C3
          by_cases h2 : vl.toList = []
          · by_cases g1 : 1 ≤ k
            · have g2 : ¬ k ≤ 3 := by omega
              go_enter Try.func38, Try.ntmps38
              go_wp2
              go_ret
              exact ⟨by rw [HV.out]; rfl, B0.out⟩
            · skip
              go_enter Try.func38, Try.ntmps38
              go_wp2
              go_ret
              exact ⟨by rw [HV.out]; rfl, B0.out⟩
          · have h3 : vl.toList.isEmpty = false := by simpa using h2
            go_enter Try.func38, Try.ntmps38
            go_wp2
            go_ret
            exact ⟨by rw [HV.out]; rfl, B0.out⟩
end Go.Proofs.Ytjbamfgfgbmieaa
/-
  Points, ranges in common, ranges within ranges: what the program's functions and the specification's answer.
-/
namespace Go.Proofs.Ytjbamfgfgbmieaa
open Go.RowKit

theorem eqRange_same (lo hi : ByteArray) (w : World) : Calls Try.prog 91 #[rng lo hi, rng lo hi] w fun e w' => e = .returned (.bool true) ∧ Below w.heap.size w w' := by
  show Calls Try.prog 91 #[.agg #[.string lo, .string hi], .agg #[.string lo, .string hi]] w _
  go_enter Try.func91, Try.ntmps91
  go_wp2
  go_ret
  exact ⟨rfl, below_new (below_new (Below.refl _ _))⟩
def ptHi (k : ByteArray) : ByteArray := if kOk k then k ++ ⟨#[0]⟩ else ⟨#[]⟩
def ptLo (k : ByteArray) : ByteArray := if kOk k then k else ⟨#[]⟩
theorem specPointOf_any (k : ByteArray) (w : World) : Calls Try.prog 80 #[.string k] w fun e w' => e = .returned (rng (ptLo k) (ptHi k)) ∧ Below w.heap.size w w' := by
  go_enter Try.func80, Try.ntmps80
  go_wp2_with fail
  refine (specKeyOk_any k _).mono ?_
  rintro e w1 ⟨rfl, rfl⟩
  cases h : kOk k
  · have H1 : Hid (rng (ptLo k) (ptHi k) = rng ⟨#[]⟩ ⟨#[]⟩) := by show rng (ptLo k) (ptHi k) = rng ⟨#[]⟩ ⟨#[]⟩; simp [ptLo, ptHi, h]
    go_wp2
    try simp only [Exit.inBlock, Exit.then]
    refine bodyPost_ret (v := rng ⟨#[]⟩ ⟨#[]⟩) ?_ rfl ?_
    · exact results_rng rfl _ _ _ rfl (by go_simp) (by go_simp)
    · exact ⟨by rw [H1.out], below_new (Below.refl _ _)⟩
  · have H1 : Hid (rng (ptLo k) (ptHi k) = rng k (k ++ ⟨#[0]⟩)) := by show rng (ptLo k) (ptHi k) = rng k (k ++ ⟨#[0]⟩); simp [ptLo, ptHi, h]
    have hk : k.size ≤ 16 := by simp [kOk] at h; omega
    go_wp2
    try simp only [Exit.inBlock, Exit.then]
    refine bodyPost_ret (v := rng k (k ++ ⟨#[0]⟩)) ?_ rfl ?_
    · exact results_rng rfl _ _ _ rfl (by go_simp) (by go_simp)
    · exact ⟨by rw [H1.out], below_new (Below.refl _ _)⟩
theorem implPointOf_any (k : ByteArray) (w : World) : Calls Try.prog 67 #[.string k] w fun e w' => e = .returned (rng (ptLo k) (ptHi k)) ∧ Below w.heap.size w w' := by
  go_enter Try.func67, Try.ntmps67
  go_wp2_with fail
  refine (implKeyOk_any k _).mono ?_
  rintro e w1 ⟨rfl, rfl⟩
  cases h : kOk k
  · have H1 : Hid (rng (ptLo k) (ptHi k) = rng ⟨#[]⟩ ⟨#[]⟩) := by show rng (ptLo k) (ptHi k) = rng ⟨#[]⟩ ⟨#[]⟩; simp [ptLo, ptHi, h]
    go_wp2
    try simp only [Exit.inBlock, Exit.then]
    refine bodyPost_ret (v := rng ⟨#[]⟩ ⟨#[]⟩) ?_ rfl ?_
    · exact results_rng rfl _ _ _ rfl (by go_simp) (by go_simp)
    · exact ⟨by rw [H1.out], below_new (Below.refl _ _)⟩
  · have H1 : Hid (rng (ptLo k) (ptHi k) = rng k (k ++ ⟨#[0]⟩)) := by show rng (ptLo k) (ptHi k) = rng k (k ++ ⟨#[0]⟩); simp [ptLo, ptHi, h]
    have hk : k.size ≤ 16 := by simp [kOk] at h; omega
    go_wp2
    try simp only [Exit.inBlock, Exit.then]
    refine bodyPost_ret (v := rng k (k ++ ⟨#[0]⟩)) ?_ rfl ?_
    · exact results_rng rfl _ _ _ rfl (by go_simp) (by go_simp)
    · exact ⟨by rw [H1.out], below_new (Below.refl _ _)⟩
/-- The lesser of two ends (none: the greatest). -/
def lsr (a b : ByteArray) : ByteArray := if a.toList = [] then b else if ahd a b then a else b
/-- The greater of two beginnings. -/
def mxl (a b : ByteArray) : ByteArray := if Op.bytesLess a.toList b.toList then b else a
def bth (la ha lb hb : ByteArray) : Bool := rOk la ha && rOk lb hb && rOk (mxl la lb) (lsr ha hb)
def bLo (la ha lb hb : ByteArray) : ByteArray := if bth la ha lb hb then mxl la lb else ⟨#[]⟩
def bHi (la ha lb hb : ByteArray) : ByteArray := if bth la ha lb hb then lsr ha hb else ⟨#[]⟩
theorem run_mxl (ts : Array TypeId) (t : TypeId) (a b : ByteArray) (w : World) : (Builtin.max_ ts t #[.string a, .string b]).run Try.prog w = .ok (.string (mxl a b)) w := by
  have e : (Builtin.max_ ts t #[.string a, .string b]).run Try.prog w = .ok (.string (if (!Op.bytesLess a.toList b.toList) = true then a else b)) w := by
    simp [Builtin.max_, Builtin.max2, Op.stringOp, asBool]
  rw [e]
  unfold mxl
  cases Op.bytesLess a.toList b.toList <;> rfl
theorem s2q {w w1 : World} (h : Below (w.alloc (.cells #[.string ⟨#[]⟩, .string ⟨#[]⟩] 25)).heap.size (w.alloc (.cells #[.string ⟨#[]⟩, .string ⟨#[]⟩] 25)) w1) :
    w1.cell? ⟨w.heap.size, 0, none⟩ = some (.string ⟨#[]⟩) ∧ w1.cell? ⟨w.heap.size, 1, none⟩ = some (.string ⟨#[]⟩) ∧ w1.frozen? ⟨w.heap.size, 0, none⟩ = false ∧ w1.frozen? ⟨w.heap.size, 1, none⟩ = false := by
  exact ((Blk.new w ⟨#[]⟩ ⟨#[]⟩).kept h).facts
theorem keep4 {w w1 : World} {g : Nat} {x y : Value} (h : Below w.heap.size w w1) (q0 : w.cell? ⟨g, 0, none⟩ = some x) (q1 : w.cell? ⟨g, 1, none⟩ = some y) (q2 : w.frozen? ⟨g, 0, none⟩ = false) (q3 : w.frozen? ⟨g, 1, none⟩ = false) :
    w1.cell? ⟨g, 0, none⟩ = some x ∧ w1.cell? ⟨g, 1, none⟩ = some y ∧ w1.frozen? ⟨g, 0, none⟩ = false ∧ w1.frozen? ⟨g, 1, none⟩ = false := by
  have hl : g < w.heap.size := block_lt q0
  exact ⟨by rw [h.cell (p := ⟨g, 0, none⟩) hl]; exact q0, by rw [h.cell (p := ⟨g, 1, none⟩) hl]; exact q1, by rw [h.frozen (p := ⟨g, 0, none⟩) hl]; exact q2, by rw [h.frozen (p := ⟨g, 1, none⟩) hl]; exact q3⟩
theorem s2q_then {C : Prop} {w w1 : World} (h : Below (w.alloc (.cells #[.string ⟨#[]⟩, .string ⟨#[]⟩] 25)).heap.size (w.alloc (.cells #[.string ⟨#[]⟩, .string ⟨#[]⟩] 25)) w1)
    (k : w1.cell? ⟨w.heap.size, 0, none⟩ = some (.string ⟨#[]⟩) → w1.cell? ⟨w.heap.size, 1, none⟩ = some (.string ⟨#[]⟩) → w1.frozen? ⟨w.heap.size, 0, none⟩ = false → w1.frozen? ⟨w.heap.size, 1, none⟩ = false → C) : C :=
  k (s2q h).1 (s2q h).2.1 (s2q h).2.2.1 (s2q h).2.2.2
theorem s2d_then {C : Prop} {w w1 : World} (h : Below (w.alloc (.cells #[.string ⟨#[]⟩, .string ⟨#[]⟩] 25)).drew.heap.size (w.alloc (.cells #[.string ⟨#[]⟩, .string ⟨#[]⟩] 25)).drew w1)
    (k : w1.cell? ⟨w.heap.size, 0, none⟩ = some (.string ⟨#[]⟩) → w1.cell? ⟨w.heap.size, 1, none⟩ = some (.string ⟨#[]⟩) → w1.frozen? ⟨w.heap.size, 0, none⟩ = false → w1.frozen? ⟨w.heap.size, 1, none⟩ = false → C) : C :=
  s2q_then (w := w) ⟨h.os, h.tape, h.output, h.size, h.block⟩ k
theorem keep4_then {C : Prop} {w w1 : World} {g : Nat} {x y : Value} (h : Below w.heap.size w w1) (q0 : w.cell? ⟨g, 0, none⟩ = some x) (q1 : w.cell? ⟨g, 1, none⟩ = some y) (q2 : w.frozen? ⟨g, 0, none⟩ = false) (q3 : w.frozen? ⟨g, 1, none⟩ = false)
    (k : w1.cell? ⟨g, 0, none⟩ = some x → w1.cell? ⟨g, 1, none⟩ = some y → w1.frozen? ⟨g, 0, none⟩ = false → w1.frozen? ⟨g, 1, none⟩ = false → C) : C :=
  k (keep4 h q0 q1 q2 q3).1 (keep4 h q0 q1 q2 q3).2.1 (keep4 h q0 q1 q2 q3).2.2.1 (keep4 h q0 q1 q2 q3).2.2.2
theorem Trio.cells {w v : World} {la ha lb hb : ByteArray} (T : Trio w v la ha lb hb) :
    v.cell? ⟨w.heap.size, 0, none⟩ = some (.string la) ∧ v.cell? ⟨w.heap.size, 1, none⟩ = some (.string ha) ∧ v.cell? ⟨w.heap.size + 1, 0, none⟩ = some (.string lb) ∧ v.cell? ⟨w.heap.size + 1, 1, none⟩ = some (.string hb) ∧ Trio w v la ha lb hb :=
  ⟨T.a.facts.1, T.a.facts.2.1, T.b.facts.1, T.b.facts.2.1, T⟩
theorem Trio.call {w v v' : World} {la ha lb hb : ByteArray} (k : Below v.heap.size v v') (h : v.cell? ⟨w.heap.size, 0, none⟩ = some (.string la) ∧ v.cell? ⟨w.heap.size, 1, none⟩ = some (.string ha) ∧ v.cell? ⟨w.heap.size + 1, 0, none⟩ = some (.string lb) ∧ v.cell? ⟨w.heap.size + 1, 1, none⟩ = some (.string hb) ∧ Trio w v la ha lb hb) :
    v'.cell? ⟨w.heap.size, 0, none⟩ = some (.string la) ∧ v'.cell? ⟨w.heap.size, 1, none⟩ = some (.string ha) ∧ v'.cell? ⟨w.heap.size + 1, 0, none⟩ = some (.string lb) ∧ v'.cell? ⟨w.heap.size + 1, 1, none⟩ = some (.string hb) ∧ Trio w v' la ha lb hb := (h.2.2.2.2.step k).cells
theorem Trio.big {w v v' : World} {la ha lb hb : ByteArray} (k : Below v.heap.size v v') (h : v.cell? ⟨w.heap.size, 0, none⟩ = some (.string la) ∧ v.cell? ⟨w.heap.size, 1, none⟩ = some (.string ha) ∧ v.cell? ⟨w.heap.size + 1, 0, none⟩ = some (.string lb) ∧ v.cell? ⟨w.heap.size + 1, 1, none⟩ = some (.string hb) ∧ Trio w v la ha lb hb) :
    w.heap.size + 1 + 1 < v'.heap.size := Nat.lt_of_lt_of_le h.2.2.2.2.r.lt k.size
theorem Trio.swap {w v : World} {la ha lb hb : ByteArray} {o o' : Obj} (hz : w.heap.size + 1 + 1 < v.heap.size) (h : (v.alloc o).cell? ⟨w.heap.size, 0, none⟩ = some (.string la) ∧ (v.alloc o).cell? ⟨w.heap.size, 1, none⟩ = some (.string ha) ∧ (v.alloc o).cell? ⟨w.heap.size + 1, 0, none⟩ = some (.string lb) ∧ (v.alloc o).cell? ⟨w.heap.size + 1, 1, none⟩ = some (.string hb) ∧ Trio w (v.alloc o) la ha lb hb) :
    (v.alloc o').cell? ⟨w.heap.size, 0, none⟩ = some (.string la) ∧ (v.alloc o').cell? ⟨w.heap.size, 1, none⟩ = some (.string ha) ∧ (v.alloc o').cell? ⟨w.heap.size + 1, 0, none⟩ = some (.string lb) ∧ (v.alloc o').cell? ⟨w.heap.size + 1, 1, none⟩ = some (.string hb) ∧ Trio w (v.alloc o') la ha lb hb := by
  have T := h.2.2.2.2
  refine Trio.cells ⟨⟨T.bel.os, T.bel.tape, T.bel.output, by simp; omega, fun k hk => ?_⟩, ?_, ?_, ?_⟩
  · rw [heap_alloc_old v o' (by omega), ← heap_alloc_old v o (by omega)]; exact T.bel.block k hk
  · exact (heap_alloc_old v o' (by omega)).trans ((heap_alloc_old v o (by omega)).symm.trans T.a)
  · exact (heap_alloc_old v o' (by omega)).trans ((heap_alloc_old v o (by omega)).symm.trans T.b)
  · exact (heap_alloc_old v o' (by omega)).trans ((heap_alloc_old v o (by omega)).symm.trans T.r)
theorem Trio.set {w v : World} {la ha lb hb : ByteArray} {g o : Nat} {x : Value} (hz : w.heap.size + 1 + 1 < g) (T : Trio w v la ha lb hb) : Trio w (v.setCell ⟨g, o, none⟩ x) la ha lb hb :=
  ⟨T.bel.setCell (p := ⟨g, o, none⟩) (by show w.heap.size ≤ g; omega) x, (Below.heap_setCell v ⟨g, o, none⟩ x _ (by show w.heap.size ≠ g; omega)).trans T.a,
    (Below.heap_setCell v ⟨g, o, none⟩ x _ (by show w.heap.size + 1 ≠ g; omega)).trans T.b, (Below.heap_setCell v ⟨g, o, none⟩ x _ (by show w.heap.size + 1 + 1 ≠ g; omega)).trans T.r⟩
theorem Trio.sets {w v : World} {la ha lb hb : ByteArray} {g : Nat} {x y : Value} (hz : w.heap.size + 1 + 1 < g) (h : v.cell? ⟨w.heap.size, 0, none⟩ = some (.string la) ∧ v.cell? ⟨w.heap.size, 1, none⟩ = some (.string ha) ∧ v.cell? ⟨w.heap.size + 1, 0, none⟩ = some (.string lb) ∧ v.cell? ⟨w.heap.size + 1, 1, none⟩ = some (.string hb) ∧ Trio w v la ha lb hb) :
    ((v.setCell ⟨g, 0, none⟩ x).setCell ⟨g, 1, none⟩ y).cell? ⟨w.heap.size, 0, none⟩ = some (.string la) ∧ ((v.setCell ⟨g, 0, none⟩ x).setCell ⟨g, 1, none⟩ y).cell? ⟨w.heap.size, 1, none⟩ = some (.string ha) ∧ ((v.setCell ⟨g, 0, none⟩ x).setCell ⟨g, 1, none⟩ y).cell? ⟨w.heap.size + 1, 0, none⟩ = some (.string lb) ∧ ((v.setCell ⟨g, 0, none⟩ x).setCell ⟨g, 1, none⟩ y).cell? ⟨w.heap.size + 1, 1, none⟩ = some (.string hb) ∧ Trio w ((v.setCell ⟨g, 0, none⟩ x).setCell ⟨g, 1, none⟩ y) la ha lb hb := ((h.2.2.2.2.set hz).set hz).cells
theorem Trio.of {w v : World} {la ha lb hb : ByteArray} (h : v.cell? ⟨w.heap.size, 0, none⟩ = some (.string la) ∧ v.cell? ⟨w.heap.size, 1, none⟩ = some (.string ha) ∧ v.cell? ⟨w.heap.size + 1, 0, none⟩ = some (.string lb) ∧ v.cell? ⟨w.heap.size + 1, 1, none⟩ = some (.string hb) ∧ Trio w v la ha lb hb) : Trio w v la ha lb hb := h.2.2.2.2
theorem cell_kept {w w1 : World} {g o : Nat} {x : Value} (h : w.cell? ⟨g, o, none⟩ = some x) (hb : Below w.heap.size w w1) : w1.cell? ⟨g, o, none⟩ = some x := (hb.cell (p := ⟨g, o, none⟩) (block_lt h)).trans h
theorem below_alloc (w : World) (o : Obj) : Below w.heap.size w (w.alloc o) := (Below.refl _ _).alloc (Nat.le_refl _) o
end Go.Proofs.Ytjbamfgfgbmieaa
/-
  Asks on right data, in plain.
-/
namespace Go.Proofs.Ytjbamfgfgbmieaa
open Go.RowKit
/-- The piece of a rising list from lo to hi. -/
def spanL (l : List PB) (lo hi : ByteArray) : List PB := if hi.toList = [] then l.drop (pos l lo) else (l.take (pos l hi)).drop (pos l lo)
theorem klt_total {a b : ByteArray} (h : klt a b = false) (hne : a ≠ b) : klt b a = true := less_total _ _ h (fun e => hne (str_ext e))
theorem klt_of_le {a b c : ByteArray} (h : klt b a = false) (k : klt b c = true) : klt a c = true := nless_less _ _ _ h k
theorem klt_to_le {a b c : ByteArray} (h : klt a b = true) (k : klt c b = false) : klt a c = true := less_nless _ _ _ h k
theorem asc_tail {p : PB} {l : List PB} (h : Asc (p :: l)) : Asc l := (List.pairwise_cons.1 h).2
theorem asc_lt {p : PB} {l : List PB} (h : Asc (p :: l)) {x : PB} (hx : x ∈ l) : klt p.1 x.1 = true := (List.pairwise_cons.1 h).1 x hx
theorem filt_lt : ∀ (l : List PB) (hi : ByteArray), Asc l → l.filter (fun p => klt p.1 hi) = l.take (pos l hi)
  | [], _, _ => rfl
  | p :: l, hi, h => by
    rw [pos]
    cases hk : klt p.1 hi with
    | true => simp only [List.filter_cons, hk, if_true, List.take_succ_cons]; rw [filt_lt l hi (asc_tail h)]
    | false =>
      simp only [List.filter_cons, hk, Bool.false_eq_true, if_false, List.take_zero]
      refine List.filter_eq_nil_iff.2 fun x hx => ?_
      have h1 := asc_lt h hx
      intro h2
      rw [klt_trans h1 h2] at hk
      cases hk
theorem filt_ge : ∀ (l : List PB) (lo : ByteArray), Asc l → l.filter (fun p => !klt p.1 lo) = l.drop (pos l lo)
  | [], _, _ => rfl
  | p :: l, lo, h => by
    rw [pos]
    cases hk : klt p.1 lo with
    | true => simp only [List.filter_cons, hk, Bool.not_true, Bool.false_eq_true, if_false, if_true, List.drop_succ_cons]; rw [filt_ge l lo (asc_tail h)]
    | false =>
      simp only [Bool.false_eq_true, if_false, List.drop_zero]
      refine List.filter_eq_self.2 fun x hx => ?_
      rcases List.mem_cons.1 hx with rfl | hx
      · simp [hk]
      · have h1 := asc_lt h hx
        cases h2 : klt x.1 lo with
        | false => rfl
        | true => rw [klt_trans h1 h2] at hk; cases hk
theorem take_asc {l : List PB} (h : Asc l) (n : Nat) : Asc (l.take n) := List.Pairwise.sublist (List.take_sublist n l) h
theorem pos_take {l : List PB} {lo hi : ByteArray} (h : klt lo hi = true) : pos (l.take (pos l hi)) lo = pos l lo := by
  induction l with
  | nil => rfl
  | cons p l ih =>
    rw [pos]
    cases hk : klt p.1 hi with
    | true =>
      simp only [if_true, List.take_succ_cons, pos, ih]
    | false =>
      simp only [Bool.false_eq_true, if_false, List.take_zero, pos]
      cases h1 : klt p.1 lo with
      | false => rfl
      | true => rw [klt_trans h1 h] at hk; cases hk
theorem pos_mono {l : List PB} {lo hi : ByteArray} (h : klt lo hi = true) : pos l lo ≤ pos l hi := by
  have := pos_le (l.take (pos l hi)) lo
  rw [pos_take h, List.length_take] at this
  omega
theorem uOk_kOk {k : ByteArray} (h : uOk k = true) : kOk k = true := by
  simp only [uOk, kOk, Bool.and_eq_true, decide_eq_true_eq] at *
  omega
theorem daOk_key {l : List PB} (h : daOk l = true) {p : PB} (hp : p ∈ l) : uOk p.1 = true ∧ uvOk p.2 = true := by
  obtain ⟨i, hi, rfl⟩ := List.mem_iff_getElem.1 hp
  rw [← pAtB_lt hi]
  exact ((daOk_iff l).1 h i hi).1
theorem daOk_of {l : List PB} (ha : Asc l) (hk : ∀ p ∈ l, uOk p.1 = true ∧ uvOk p.2 = true) : daOk l = true := by
  refine (daOk_iff l).2 fun i hi => ⟨?_, fun h0 => ha.at (by omega) hi⟩
  rw [pAtB_lt hi]
  exact hk _ (List.getElem_mem hi)
def rngF (l : List PB) (lo hi : ByteArray) : List PB := l.filter fun p => rHas lo hi p.1
theorem span_eq {l : List PB} {lo hi : ByteArray} (h : daOk l = true) (hr : rOk lo hi = true) : spanL l lo hi = rngF l lo hi := by
  have ha := daOk_asc h
  have e : ∀ p ∈ l, rHas lo hi p.1 = (!klt p.1 lo && ahd p.1 hi) := by
    intro p hp
    simp only [rHas, hr, uOk_kOk (daOk_key h hp).1, Bool.true_and, klt]
  have e2 : rngF l lo hi = l.filter (fun p => !klt p.1 lo && ahd p.1 hi) := List.filter_congr e
  rw [e2]
  unfold spanL
  split
  · rename_i hh
    rw [← filt_ge l lo ha]
    refine (List.filter_congr fun p _ => ?_).symm
    simp [ahd, hh]
  · rename_i hh
    have hl : klt lo hi = true := by
      simp only [rOk, ahd, Bool.and_eq_true, Bool.or_eq_true, decide_eq_true_eq] at hr
      rcases hr.2 with h | h
      · exact absurd h hh
      · exact h
    have h1 : (l.take (pos l hi)).drop (pos l lo) = (l.take (pos l hi)).filter (fun p => !klt p.1 lo) := by rw [filt_ge _ _ (take_asc ha _), pos_take hl]
    rw [h1, ← filt_lt l hi ha, List.filter_filter]
    refine (List.filter_congr fun p _ => ?_).symm
    simp [ahd, hh, klt]
theorem span_bounds {l : List PB} {lo hi : ByteArray} (hr : rOk lo hi = true) (hh : ¬ hi.toList = []) : pos l lo ≤ pos l hi := by
  refine pos_mono ?_
  simp only [rOk, ahd, Bool.and_eq_true, Bool.or_eq_true, decide_eq_true_eq] at hr
  rcases hr.2 with h | h
  · exact absurd h hh
  · exact h
theorem less_pt : ∀ (a x : List UInt8), Op.bytesLess x a = false → Op.bytesLess x (a ++ [0]) = true → x = a
  | [], [], _, _ => rfl
  | [], y :: x, _, h => by
    simp only [List.nil_append, Op.bytesLess, Bool.or_eq_true, decide_eq_true_eq, Bool.and_eq_true] at h
    rcases h with h | ⟨_, h⟩
    · exact absurd h (by simp [UInt8.lt_iff_toNat_lt])
    · cases h
  | b :: a, [], h, _ => by simp [Op.bytesLess] at h
  | b :: a, y :: x, h, k => by
    simp only [List.cons_append, Op.bytesLess, Bool.or_eq_true, decide_eq_true_eq, Bool.and_eq_true, Bool.or_eq_false_iff, decide_eq_false_iff_not] at h k
    rcases k with k | ⟨k1, k2⟩
    · exact absurd k h.1
    · have e : y = b := by simpa using k1
      subst e
      have h2 : Op.bytesLess x a = false := by
        have := h.2
        simpa using this
      rw [less_pt a x h2 k2]
theorem pt_has {k x : ByteArray} (hk : kOk k = true) (hx : kOk x = true) : rHas (ptLo k) (ptHi k) x = decide (x = k) := by
  have hl : ptLo k = k := by simp [ptLo, hk]
  have hh : ptHi k = k ++ ⟨#[0]⟩ := by simp [ptHi, hk]
  have ht : (k ++ (⟨#[0]⟩ : ByteArray)).toList = k.toList ++ [0] := by simp [ByteArray.toList_eq]
  have hs : (k ++ (⟨#[0]⟩ : ByteArray)).size = k.size + 1 := by simp [ByteArray.size_append]; rfl
  have hz : k.size ≤ 16 := by simp only [kOk, Bool.and_eq_true, decide_eq_true_eq] at hk; exact hk.2
  have hr : rOk k (k ++ ⟨#[0]⟩) = true := by
    simp only [rOk, ahd, hs, ht, less_zero, Bool.or_true, Bool.and_true, Bool.and_eq_true, decide_eq_true_eq]
    omega
  rw [hl, hh]
  simp only [rHas, hr, hx, Bool.true_and, ahd, ht]
  by_cases e : x = k
  · subst e
    simp [less_irrefl, less_zero]
  · rw [decide_eq_false e]
    cases h1 : Op.bytesLess x.toList k.toList with
    | true => simp
    | false =>
      cases h2 : Op.bytesLess x.toList (k.toList ++ [0]) with
      | false => simp
      | true => exact absurd (str_ext (less_pt _ _ h1 h2)) e
theorem pt_ok {k : ByteArray} (hk : kOk k = true) : rOk (ptLo k) (ptHi k) = true := by
  have := pt_has hk hk
  simp only [decide_true] at this
  simp only [rHas, Bool.and_eq_true] at this
  exact this.1.1.1
/-- The pairs with the key. -/
def keyF (l : List PB) (k : ByteArray) : List PB := l.filter fun p => decide (p.1 = k)
theorem keyF_le {l : List PB} (ha : Asc l) (k : ByteArray) : (keyF l k).length ≤ 1 := by
  have h2 : Asc (keyF l k) := List.Pairwise.sublist List.filter_sublist ha
  cases hf : keyF l k with
  | nil => simp
  | cons p r =>
    cases r with
    | nil => simp
    | cons q r =>
      rw [hf] at h2
      have h3 := asc_lt h2 (x := q) (by simp)
      have hp : p ∈ keyF l k := by rw [hf]; simp
      have hq : q ∈ keyF l k := by rw [hf]; simp
      have e1 := of_decide_eq_true (List.mem_filter.1 hp).2
      have e2 := of_decide_eq_true (List.mem_filter.1 hq).2
      rw [e1, e2, klt_irrefl] at h3
      cases h3
theorem get_eq {l : List PB} {k : ByteArray} (h : daOk l = true) (hk : uOk k = true) : scV l (ptLo k) (ptHi k) 1 false = keyF l k := by
  have e : scV l (ptLo k) (ptHi k) 1 false = (l.filter fun p => rHas (ptLo k) (ptHi k) p.1).take 1 := rfl
  have e2 : (l.filter fun p => rHas (ptLo k) (ptHi k) p.1) = keyF l k := List.filter_congr fun p hp => pt_has (uOk_kOk hk) (uOk_kOk (daOk_key h hp).1)
  rw [e, e2]
  exact List.take_of_length_le (keyF_le (daOk_asc h) k)
/-- What an ask makes of right data, and what it tells. -/
def raD (l : List PB) (k : Int) (ky vl : ByteArray) : List PB := if k = 2 then insP l (ky, vl) else if k = 3 then delP l ky else l
def raT (l : List PB) (k : Int) (ky lo hi : ByteArray) (mo : Int) (bk : Bool) : List PB := if k = 1 then keyF l ky else if k = 4 then scV l lo hi mo bk else []
theorem ak_get {k : Int} {ky vl lo hi : ByteArray} {mo : Int} {bk : Bool} (h : akOk k ky vl lo hi mo bk = true) (hk : k = 1 ∨ k = 2 ∨ k = 3) : uOk ky = true ∧ uvOk vl = true ∧ bk = false := by
  have h2 : akK ky vl lo hi mo bk = true := by
    rcases hk with rfl | rfl | rfl
    · rw [akOk_1, Bool.and_eq_true] at h; exact h.2
    · rw [akOk_2] at h; exact h
    · rw [akOk_3, Bool.and_eq_true] at h; exact h.2
  simp only [akK, Bool.and_eq_true, Bool.not_eq_true'] at h2
  exact ⟨h2.1, h2.2.1, h2.2.2.2.2⟩
theorem ak_scan {ky vl lo hi : ByteArray} {mo : Int} {bk : Bool} (h : akOk 4 ky vl lo hi mo bk = true) : rOk lo hi = true ∧ 1 ≤ mo ∧ mo ≤ 8 := by
  rw [akOk_4] at h
  simp only [akS, rchOk, Bool.and_eq_true, decide_eq_true_eq] at h
  exact ⟨h.2.1.1, h.1.1, h.1.2⟩
theorem ak_kind {k : Int} {ky vl lo hi : ByteArray} {mo : Int} {bk : Bool} (h : akOk k ky vl lo hi mo bk = true) : k = 1 ∨ k = 2 ∨ k = 3 ∨ k = 4 := by
  by_cases h1 : k = 1
  · exact .inl h1
  by_cases h2 : k = 2
  · exact .inr (.inl h2)
  by_cases h3 : k = 3
  · exact .inr (.inr (.inl h3))
  by_cases h4 : k = 4
  · exact .inr (.inr (.inr h4))
  rw [akOk_no h1 h2 h3 h4] at h
  cases h
theorem insP_da {l : List PB} {k v : ByteArray} (h : daOk l = true) (hk : uOk k = true) (hv : uvOk v = true) : daOk (insP l (k, v)) = true := by
  refine daOk_of (insP_asc (daOk_asc h)) fun p hp => ?_
  rcases insP_mem hp with rfl | hp
  · exact ⟨hk, hv⟩
  · exact daOk_key h hp
theorem delP_da {l : List PB} {k : ByteArray} (h : daOk l = true) : daOk (delP l k) = true := daOk_of (delP_asc (daOk_asc h)) fun _ hp => daOk_key h (delP_mem hp)
theorem raD_da {l : List PB} {k : Int} {ky vl lo hi : ByteArray} {mo : Int} {bk : Bool} (h : daOk l = true) (ha : akOk k ky vl lo hi mo bk = true) : daOk (raD l k ky vl) = true := by
  unfold raD
  split
  · rename_i e
    obtain ⟨h1, h2, _⟩ := ak_get ha (by omega)
    exact insP_da h h1 h2
  · split
    · exact delP_da h
    · exact h
theorem insP_len1 (l : List PB) (p : PB) : (insP l p).length ≤ l.length + 1 := by
  unfold insP
  split
  · simp
  · simp; have := pos_le l p.1; omega
theorem raD_len (l : List PB) (k : Int) (ky vl : ByteArray) : (raD l k ky vl).length ≤ l.length + 1 := by
  unfold raD
  split
  · exact insP_len1 _ _
  · split
    · have := delP_len l ky; omega
    · omega
theorem raT_len {l : List PB} {k : Int} {ky vl lo hi : ByteArray} {mo : Int} {bk : Bool} (h : daOk l = true) (ha : akOk k ky vl lo hi mo bk = true) : (raT l k ky lo hi mo bk).length ≤ 8 := by
  unfold raT
  split
  · have := keyF_le (daOk_asc h) ky; omega
  · split
    · rename_i _ e
      subst e
      have := (ak_scan ha).2.2
      unfold scV
      rw [List.length_take]
      omega
    · simp
end Go.Proofs.Ytjbamfgfgbmieaa
/-
  readBranch, given read.
-/
namespace Go.Proofs.Ytjbamfgfgbmieaa
open Go.RowKit
end Go.Proofs.Ytjbamfgfgbmieaa
/-
  read: it reads what the plain function reads. rootOf.
-/
namespace Go.Proofs.Ytjbamfgfgbmieaa
open Go.RowKit
theorem rdI_no {ns : List NB} {f : Nat} {pl : Int} {nx : Nat} (h : pl ≠ (nx : Int) ∨ (ns.length : Int) ≤ pl) : rdI ns f pl nx = none := by
  cases f with
  | zero => rfl
  | succ f => rw [rdI, if_pos h]
theorem rdI_leaf {ns : List NB} {f nx : Nat} (h : nx < ns.length) (hk : (nAt ns nx).kids.length = 0) : rdI ns (f + 1) nx nx = (leafT (nAt ns nx) (decide ((nx : Int) = 0))).map (fun t => (t, nx + 1)) := by
  rw [rdI, if_neg (by omega), if_pos hk, leafT]
  split <;> rfl
theorem rdI_br {ns : List NB} {f nx : Nat} (h : nx < ns.length) (hk : (nAt ns nx).kids.length ≠ 0) : rdI ns (f + 1) nx nx = brT ns f (nAt ns nx) (nx + 1) := by
  rw [rdI, if_neg (by omega), if_neg hk]
  rfl
end Go.Proofs.Ytjbamfgfgbmieaa
/-
  rootOf: the right tree, or nil.
-/
namespace Go.Proofs.Ytjbamfgfgbmieaa
open Go.RowKit
mutual
theorem full_all_le : ∀ (t : T) (r : Bool), t.full r = true → t.all.length ≤ 4 * t.size
  | .mk ps ks, r, h => by
    by_cases hk : ks = []
    · subst hk
      have := full_lf h
      simp [T.size, szL, T.all, allL]
      omega
    · obtain ⟨h1, h2, rfl, h3⟩ := full_br h hk
      have := fullL_all_le ks h3
      simp [T.size, T.all]
      omega
theorem fullL_all_le : ∀ (ks : List T), (∀ k ∈ ks, k.full false = true) → (allL ks).length ≤ 4 * szL ks
  | [], _ => by simp [szL, allL]
  | k :: ks, h => by
    have h1 := full_all_le k false (h k (by simp))
    have h2 := fullL_all_le ks (fun x hx => h x (by simp [hx]))
    simp [szL, allL]
    omega
end
end Go.Proofs.Ytjbamfgfgbmieaa
/-
  l03Read of the specification: it reads what the plain function reads.
-/
namespace Go.Proofs.Ytjbamfgfgbmieaa
open Go.RowKit
end Go.Proofs.Ytjbamfgfgbmieaa
/-
  l03Root of the specification.
-/
namespace Go.Proofs.Ytjbamfgfgbmieaa
open Go.RowKit
theorem take_no {P : Program} {md : Region.Mode} {ops : Array Oper} {Q : Exit → Act → World → Prop} {S : World → Prop} {i : Nat} {oi : Oper} {fuel : Nat} {listed : Array Bool} {a : Act} {w : World} (hi : ops[i]? = some oi)
    (hs : Region.noSelect ops = true) (hf : Region.free md ops listed i = true) (hr : (Region.ready md ops listed).contains i = true)
    (hQ : ∀ c a w, Q (.panic c) (a.put oi.dst undef) w → Q (.panic c) a w) (hw : Region.wanted oi (yielded ops a.tmps) = false) (hS : S w)
    (h : wpAnyH P md ops Q S fuel (listed.setIfInBounds i true) (a.put oi.dst undef) w) : wpAnyH P md ops Q S (fuel + 1) listed a w :=
  wpAnyH_take hi hs hf hr hQ (Or.inr ⟨hw, rfl⟩) hS h
/-- What l03Root reads: the sub, where the nodes stand in the walk's order. -/
def rootS (ns : List NB) : Option T := if ns.length = 0 then some (.mk [] []) else match rdS ns 13 0 with
  | none => none
  | some (t, n) => if n = ns.length then some t else none
/-- What comes of l03Root. -/
def RootPost (o : Option T) (w : World) (e : Ending) (w' : World) : Prop := match o with
  | none => ∃ lf ap np cp ak nk ck, e = .returned (.tuple #[.agg #[.bool lf, .slice ap np cp, .slice ak nk ck], .bool false])
  | some t => ∃ lf ap np cp ak nk ck, e = .returned (.tuple #[.agg #[.bool lf, .slice ap np cp, .slice ak nk ck], .bool true]) ∧ Sub w' (fun y => w.heap.size ≤ y ∧ y < w'.heap.size) lf (.slice ap np cp) (.slice ak nk ck) t
end Go.Proofs.Ytjbamfgfgbmieaa
/-
  l03Lay of the specification: the nodes of a sub in the walk's order, behind others.
-/
namespace Go.Proofs.Ytjbamfgfgbmieaa
open Go.RowKit
end Go.Proofs.Ytjbamfgfgbmieaa
/-
  l03SameNode of the specification: it tells whether two nodes hold the same.
-/
namespace Go.Proofs.Ytjbamfgfgbmieaa
open Go.RowKit
theorem neq_pair (a b c d : ByteArray) (w : World) : (binOp .neq 34 (.agg #[.string a, .string b]) (.agg #[.string c, .string d])).run Try.prog w = .ok (.bool (!decide ((a, b) = (c, d)))) w := by
  have u9 := Try.underlying9
  have hS : Try.prog.underlying 34 = some (.struct (Try.prog.fieldsOf 34)) := by kernel_rfl
  have hp : Try.prog.stoodInHeld 34 = false := by kernel_rfl
  rw [run_neq_struct, show (10000 : Nat) = 9999 + 1 from rfl, run_equalIn_agg w 9999 34 _ _ hS hp]
  simp only [Program.fieldsOf, Try.underlying34]
  by_cases h1 : a = c
  · subst h1
    by_cases h2 : b = d
    · subst h2
      rw [decide_eq_true rfl]
      go_simp
    · have t2 := str_beq h2
      rw [decide_eq_false (by simp [h2])]
      clear h2
      go_simp
  · have t1 := str_beq h1
    rw [decide_eq_false (by simp [h1])]
    clear h1
    go_simp
end Go.Proofs.Ytjbamfgfgbmieaa
/-
  TreeOk of the specification.
-/
namespace Go.Proofs.Ytjbamfgfgbmieaa
open Go.RowKit
theorem rdSL_info (f : Nat) (rd : Int → Option (T × Nat)) (hrd : ∀ a t n, rd a = some (t, n) → 0 ≤ a ∧ (n : Int) = a + t.size ∧ t.ht ≤ f) : ∀ (kids : List Int) (nx : Nat) (ts : List T) (n : Nat), rdSL rd kids nx = some (ts, n) → n = nx + szL ts ∧ htL ts ≤ f
  | [], nx, ts, n, h => by
    simp only [rdSL, Option.some.injEq, Prod.mk.injEq] at h
    obtain ⟨rfl, rfl⟩ := h
    simp [szL, htL]
  | k :: kids, nx, ts, n, h => by
    simp only [rdSL] at h
    split at h
    · cases h
    · rename_i he
      cases hr : rd k with
      | none => simp [hr] at h
      | some x =>
        obtain ⟨t, n1⟩ := x
        simp only [hr] at h
        cases hs : rdSL rd kids n1 with
        | none => simp [hs] at h
        | some y =>
          obtain ⟨ts', n2⟩ := y
          simp only [hs, Option.some.injEq, Prod.mk.injEq] at h
          obtain ⟨rfl, rfl⟩ := h
          have h1 := hrd k t n1 hr
          have h2 := rdSL_info f rd hrd kids n1 ts' n2 hs
          have he' : k = (nx : Int) := by
            by_cases q : k = (nx : Int)
            · exact q
            · exact absurd q he
          simp only [szL, htL]
          omega
theorem rdS_info (ns : List NB) : ∀ (f : Nat) (a : Int) (t : T) (n : Nat), rdS ns f a = some (t, n) → 0 ≤ a ∧ (n : Int) = a + t.size ∧ t.ht ≤ f
  | 0, a, t, n, h => by simp [rdS] at h
  | f + 1, a, t, n, h => by
    rw [rdS] at h
    split at h
    · cases h
    · rename_i hc
      cases hs : rdSL (rdS ns f) (nAt ns a.toNat).kids (a.toNat + 1) with
      | none => simp [hs] at h
      | some x =>
        obtain ⟨ts, n1⟩ := x
        simp only [hs, Option.some.injEq, Prod.mk.injEq] at h
        obtain ⟨rfl, rfl⟩ := h
        have := rdSL_info f (rdS ns f) (rdS_info ns f) _ _ _ _ hs
        simp only [T.size, T.ht]
        omega
theorem kc7 {u v : World} {a0 a1 a2 a3 a4 a5 a6 : Addr} {x0 x1 x2 x3 x4 x5 x6 : Value} (h : KC u v [(a0, x0), (a1, x1), (a2, x2), (a3, x3), (a4, x4), (a5, x5), (a6, x6)]) : v.cell? a0 = some x0 ∧ v.cell? a1 = some x1 ∧ v.cell? a2 = some x2 ∧ v.cell? a3 = some x3 ∧ v.cell? a4 = some x4 ∧ v.cell? a5 = some x5 ∧ v.cell? a6 = some x6 ∧ KC u v [(a0, x0), (a1, x1), (a2, x2), (a3, x3), (a4, x4), (a5, x5), (a6, x6)] := ⟨h.at (by simp), h.at (by simp), h.at (by simp), h.at (by simp), h.at (by simp), h.at (by simp), h.at (by simp), h⟩
theorem kc7c {u v v' : World} {a0 a1 a2 a3 a4 a5 a6 : Addr} {x0 x1 x2 x3 x4 x5 x6 : Value} (k : Below v.heap.size v v') (h : v.cell? a0 = some x0 ∧ v.cell? a1 = some x1 ∧ v.cell? a2 = some x2 ∧ v.cell? a3 = some x3 ∧ v.cell? a4 = some x4 ∧ v.cell? a5 = some x5 ∧ v.cell? a6 = some x6 ∧ KC u v [(a0, x0), (a1, x1), (a2, x2), (a3, x3), (a4, x4), (a5, x5), (a6, x6)]) : v'.cell? a0 = some x0 ∧ v'.cell? a1 = some x1 ∧ v'.cell? a2 = some x2 ∧ v'.cell? a3 = some x3 ∧ v'.cell? a4 = some x4 ∧ v'.cell? a5 = some x5 ∧ v'.cell? a6 = some x6 ∧ KC u v' [(a0, x0), (a1, x1), (a2, x2), (a3, x3), (a4, x4), (a5, x5), (a6, x6)] := kc7 (KC.call h.2.2.2.2.2.2.2 k)
end Go.Proofs.Ytjbamfgfgbmieaa
/-
  What is known of a tree that is read.
-/
namespace Go.Proofs.Ytjbamfgfgbmieaa
open Go.RowKit
structure OkF (ns : List NB) (t : T) : Prop where
  root : rootS ns = some t
  few : t.ps.length + t.ks.length ≤ 8
  lv : t.lv ≤ 13
  ht : t.ht ≤ 13
  all : t.all.length ≤ 200
  ok : pOk t.all = true
  dp : ns.length ≠ 0 → t.dp = t.dpt
  nil : ns.length = 0 → t = .mk [] []
theorem okT_facts {ns : List NB} {t : T} (h : okT ns = some t) : OkF ns t := by
  by_cases hne : ns.length = 0
  · rw [okT, if_pos hne] at h
    cases h
    exact ⟨by rw [rootS, if_pos hne], by decide, by decide, by decide, by decide, by decide, fun h => absurd hne h, fun _ => rfl⟩
  · have g := (okT_good hne).1 h
    have hr := g.read
    have hi := rdS_info ns 13 0 t ns.length hr
    have hf := g.full
    obtain ⟨e, he⟩ := g.even
    obtain ⟨ps, ks⟩ := t
    have hfew : (T.mk ps ks).ps.length + (T.mk ps ks).ks.length ≤ 8 ∧ (T.mk ps ks).bare = false := by
      show ps.length + ks.length ≤ 8 ∧ (decide (ps.length + ks.length = 0) = false)
      rw [T.full] at hf
      split at hf
      · rename_i hk
        subst hk
        simp at hf
        constructor
        · simp; omega
        · simp; intro h0; subst h0; simp at hf
      · simp at hf
        constructor
        · have hp0 : ps.length = 0 := by rw [hf.1.2]; rfl
          omega
        · simp; intro h0 h1; subst h1; simp at hf
    refine ⟨?_, hfew.1, ?_, hi.2.2, ?_, g.ok, fun _ => ?_, fun h => absurd h hne⟩
    · rw [rootS, if_neg hne, hr]; simp
    · rw [ev_lv e _ he]; exact Nat.le_trans (ev_ht e _ he) hi.2.2
    · exact pOk_len g.ok
    · rw [g.dp, T.dpt, hfew.2]; rfl
end Go.Proofs.Ytjbamfgfgbmieaa
/-
  spec.TreeAll, impl.TreeAll: the same pairs, in new memory.
-/
namespace Go.Proofs.Ytjbamfgfgbmieaa
open Go.RowKit
def alV (ns : List NB) : List PB := match okT ns with | none => [] | some t => t.all
theorem alV_len (ns : List NB) : (alV ns).length ≤ 200 := by
  unfold alV
  cases h : okT ns with
  | none => exact Nat.zero_le _
  | some t => exact (okT_facts h).all
def OwPost (l : List PB) (w : World) (e : Ending) (w' : World) : Prop := ∃ v, e = .returned v ∧ Ow w' w.heap.size v l ∧ Below w.heap.size w w'
end Go.Proofs.Ytjbamfgfgbmieaa
/-
  spec.TreeScan.
-/
namespace Go.Proofs.Ytjbamfgfgbmieaa
open Go.RowKit
theorem wpList_append_pair1 {w : World} {ops : Array Oper} {rest : List Oper} {o : Oper} {a : Act} {Q : Exit → Act → World → Prop} (hgd : o.guard = none) (s x : Operand)
    (ho : o.op = .call { callee := .builtin .append, args := #[s, x], argTypes := #[23, 23] }) (base : Nat) (v : Value) (l : List PB) (hs : a.eval s = v) (hown : Ow w base v l)
    (g : Nat) (y z : ByteArray) (hx : a.eval x = .slice (some ⟨g, 0, none⟩) 1 1) (hB : Bk w g 34 [.string y, .string z]) (hb : l.length ≤ 1048576) (hbase : base ≤ w.heap.size)
    (h : ∀ a' n' c' w', Ow w' base (.slice a' n' c') (l ++ [(y, z)]) → w.grownBy w' v.ownBlock → ((Value.slice a' n' c').ownBlock = v.ownBlock ∨ (Value.slice a' n' c').ownBlock = some w.heap.size) → wpList Try.prog ops Q rest (a.put o.dst (.slice a' n' c')) w') : wpList Try.prog ops Q (o :: rest) a w := by
  obtain ⟨i, hi, hz, hsz, hby⟩ := info_of infoPairI
  refine wpList_append_row_at hgd s x 23 ho base 34 i _ 2 32 Try.underlying23 hi hz hsz hby rfl (by decide) v l.length (pcs l) hs hown (fun _ => True) _ 1 [.string y, .string z] hx (hB.rw (Nat.le_refl _) (by omega) (fun h => by omega) _ trivial) rfl
    (by intro u hu; simp at hu; rcases hu with rfl | rfl <;> rfl) (by unfold maxLen; omega) (by omega) hbase ?_
  intro v' w' k1 k2 k3
  obtain ⟨a', c', rfl⟩ := own_shape k1
  refine h a' _ c' w' ?_ k2 k3
  unfold Ow
  rw [List.length_append, pcs_append]
  exact k1
end Go.Proofs.Ytjbamfgfgbmieaa
/-
  Cells that are kept while a stretch of the program reads and calls in an order that is not known: eight and twelve of them.
-/
namespace Go.Proofs.Ytjbamfgfgbmieaa
open Go.RowKit
structure KL (u v : World) (cs : List (Addr × Value)) : Prop where
  cells : ∀ p ∈ cs, u.cell? p.1 = some p.2
  bel : Below u.heap.size u v
theorem KL.at {u v : World} {cs : List (Addr × Value)} (h : KL u v cs) {a : Addr} {x : Value} (hp : (a, x) ∈ cs) : v.cell? a = some x := by
  have hc := h.cells (a, x) hp
  rw [h.bel.cell (p := a) (block_lt hc)]
  exact hc
theorem KL.call {u v v' : World} {cs : List (Addr × Value)} (h : KL u v cs) (k : Below v.heap.size v v') : KL u v' cs := ⟨h.cells, h.bel.trans (k.mono h.bel.size)⟩
theorem kl2 {u v : World} {a0 a1 : Addr} {x0 x1 : Value} (h : KL u v [(a0, x0), (a1, x1)]) : v.cell? a0 = some x0 ∧ v.cell? a1 = some x1 ∧ KL u v [(a0, x0), (a1, x1)] := ⟨h.at (by simp), h.at (by simp), h⟩
theorem kl2c {u v v' : World} {a0 a1 : Addr} {x0 x1 : Value} (k : Below v.heap.size v v') (h : v.cell? a0 = some x0 ∧ v.cell? a1 = some x1 ∧ KL u v [(a0, x0), (a1, x1)]) : v'.cell? a0 = some x0 ∧ v'.cell? a1 = some x1 ∧ KL u v' [(a0, x0), (a1, x1)] := kl2 (KL.call h.2.2 k)
theorem kl2_bel {u v : World} {a0 a1 : Addr} {x0 x1 : Value} (h : v.cell? a0 = some x0 ∧ v.cell? a1 = some x1 ∧ KL u v [(a0, x0), (a1, x1)]) : Below u.heap.size u v := KL.bel h.2.2
theorem kl2_0 {u : World} {a0 a1 : Addr} {x0 x1 : Value} (h0 : u.cell? a0 = some x0) (h1 : u.cell? a1 = some x1) : KL u u [(a0, x0), (a1, x1)] := ⟨fun p hp => by
    simp only [List.mem_cons, List.not_mem_nil, or_false] at hp
    rcases hp with rfl | rfl <;> assumption, Below.refl _ _⟩
theorem kl4 {u v : World} {a0 a1 a2 a3 : Addr} {x0 x1 x2 x3 : Value} (h : KL u v [(a0, x0), (a1, x1), (a2, x2), (a3, x3)]) : v.cell? a0 = some x0 ∧ v.cell? a1 = some x1 ∧ v.cell? a2 = some x2 ∧ v.cell? a3 = some x3 ∧ KL u v [(a0, x0), (a1, x1), (a2, x2), (a3, x3)] := ⟨h.at (by simp), h.at (by simp), h.at (by simp), h.at (by simp), h⟩
theorem kl4c {u v v' : World} {a0 a1 a2 a3 : Addr} {x0 x1 x2 x3 : Value} (k : Below v.heap.size v v') (h : v.cell? a0 = some x0 ∧ v.cell? a1 = some x1 ∧ v.cell? a2 = some x2 ∧ v.cell? a3 = some x3 ∧ KL u v [(a0, x0), (a1, x1), (a2, x2), (a3, x3)]) : v'.cell? a0 = some x0 ∧ v'.cell? a1 = some x1 ∧ v'.cell? a2 = some x2 ∧ v'.cell? a3 = some x3 ∧ KL u v' [(a0, x0), (a1, x1), (a2, x2), (a3, x3)] := kl4 (KL.call h.2.2.2.2 k)
theorem kl4_bel {u v : World} {a0 a1 a2 a3 : Addr} {x0 x1 x2 x3 : Value} (h : v.cell? a0 = some x0 ∧ v.cell? a1 = some x1 ∧ v.cell? a2 = some x2 ∧ v.cell? a3 = some x3 ∧ KL u v [(a0, x0), (a1, x1), (a2, x2), (a3, x3)]) : Below u.heap.size u v := KL.bel h.2.2.2.2
theorem kl4_0 {u : World} {a0 a1 a2 a3 : Addr} {x0 x1 x2 x3 : Value} (h0 : u.cell? a0 = some x0) (h1 : u.cell? a1 = some x1) (h2 : u.cell? a2 = some x2) (h3 : u.cell? a3 = some x3) : KL u u [(a0, x0), (a1, x1), (a2, x2), (a3, x3)] := ⟨fun p hp => by
    simp only [List.mem_cons, List.not_mem_nil, or_false] at hp
    rcases hp with rfl | rfl | rfl | rfl <;> assumption, Below.refl _ _⟩
theorem kl7 {u v : World} {a0 a1 a2 a3 a4 a5 a6 : Addr} {x0 x1 x2 x3 x4 x5 x6 : Value} (h : KL u v [(a0, x0), (a1, x1), (a2, x2), (a3, x3), (a4, x4), (a5, x5), (a6, x6)]) : v.cell? a0 = some x0 ∧ v.cell? a1 = some x1 ∧ v.cell? a2 = some x2 ∧ v.cell? a3 = some x3 ∧ v.cell? a4 = some x4 ∧ v.cell? a5 = some x5 ∧ v.cell? a6 = some x6 ∧ KL u v [(a0, x0), (a1, x1), (a2, x2), (a3, x3), (a4, x4), (a5, x5), (a6, x6)] := ⟨h.at (by simp), h.at (by simp), h.at (by simp), h.at (by simp), h.at (by simp), h.at (by simp), h.at (by simp), h⟩
theorem kl7c {u v v' : World} {a0 a1 a2 a3 a4 a5 a6 : Addr} {x0 x1 x2 x3 x4 x5 x6 : Value} (k : Below v.heap.size v v') (h : v.cell? a0 = some x0 ∧ v.cell? a1 = some x1 ∧ v.cell? a2 = some x2 ∧ v.cell? a3 = some x3 ∧ v.cell? a4 = some x4 ∧ v.cell? a5 = some x5 ∧ v.cell? a6 = some x6 ∧ KL u v [(a0, x0), (a1, x1), (a2, x2), (a3, x3), (a4, x4), (a5, x5), (a6, x6)]) : v'.cell? a0 = some x0 ∧ v'.cell? a1 = some x1 ∧ v'.cell? a2 = some x2 ∧ v'.cell? a3 = some x3 ∧ v'.cell? a4 = some x4 ∧ v'.cell? a5 = some x5 ∧ v'.cell? a6 = some x6 ∧ KL u v' [(a0, x0), (a1, x1), (a2, x2), (a3, x3), (a4, x4), (a5, x5), (a6, x6)] := kl7 (KL.call h.2.2.2.2.2.2.2 k)
theorem kl7_bel {u v : World} {a0 a1 a2 a3 a4 a5 a6 : Addr} {x0 x1 x2 x3 x4 x5 x6 : Value} (h : v.cell? a0 = some x0 ∧ v.cell? a1 = some x1 ∧ v.cell? a2 = some x2 ∧ v.cell? a3 = some x3 ∧ v.cell? a4 = some x4 ∧ v.cell? a5 = some x5 ∧ v.cell? a6 = some x6 ∧ KL u v [(a0, x0), (a1, x1), (a2, x2), (a3, x3), (a4, x4), (a5, x5), (a6, x6)]) : Below u.heap.size u v := KL.bel h.2.2.2.2.2.2.2
theorem kl7_0 {u : World} {a0 a1 a2 a3 a4 a5 a6 : Addr} {x0 x1 x2 x3 x4 x5 x6 : Value} (h0 : u.cell? a0 = some x0) (h1 : u.cell? a1 = some x1) (h2 : u.cell? a2 = some x2) (h3 : u.cell? a3 = some x3) (h4 : u.cell? a4 = some x4) (h5 : u.cell? a5 = some x5) (h6 : u.cell? a6 = some x6) : KL u u [(a0, x0), (a1, x1), (a2, x2), (a3, x3), (a4, x4), (a5, x5), (a6, x6)] := ⟨fun p hp => by
    simp only [List.mem_cons, List.not_mem_nil, or_false] at hp
    rcases hp with rfl | rfl | rfl | rfl | rfl | rfl | rfl <;> assumption, Below.refl _ _⟩
theorem kl8 {u v : World} {a0 a1 a2 a3 a4 a5 a6 a7 : Addr} {x0 x1 x2 x3 x4 x5 x6 x7 : Value} (h : KL u v [(a0, x0), (a1, x1), (a2, x2), (a3, x3), (a4, x4), (a5, x5), (a6, x6), (a7, x7)]) : v.cell? a0 = some x0 ∧ v.cell? a1 = some x1 ∧ v.cell? a2 = some x2 ∧ v.cell? a3 = some x3 ∧ v.cell? a4 = some x4 ∧ v.cell? a5 = some x5 ∧ v.cell? a6 = some x6 ∧ v.cell? a7 = some x7 ∧ KL u v [(a0, x0), (a1, x1), (a2, x2), (a3, x3), (a4, x4), (a5, x5), (a6, x6), (a7, x7)] := ⟨h.at (by simp), h.at (by simp), h.at (by simp), h.at (by simp), h.at (by simp), h.at (by simp), h.at (by simp), h.at (by simp), h⟩
theorem kl8c {u v v' : World} {a0 a1 a2 a3 a4 a5 a6 a7 : Addr} {x0 x1 x2 x3 x4 x5 x6 x7 : Value} (k : Below v.heap.size v v') (h : v.cell? a0 = some x0 ∧ v.cell? a1 = some x1 ∧ v.cell? a2 = some x2 ∧ v.cell? a3 = some x3 ∧ v.cell? a4 = some x4 ∧ v.cell? a5 = some x5 ∧ v.cell? a6 = some x6 ∧ v.cell? a7 = some x7 ∧ KL u v [(a0, x0), (a1, x1), (a2, x2), (a3, x3), (a4, x4), (a5, x5), (a6, x6), (a7, x7)]) : v'.cell? a0 = some x0 ∧ v'.cell? a1 = some x1 ∧ v'.cell? a2 = some x2 ∧ v'.cell? a3 = some x3 ∧ v'.cell? a4 = some x4 ∧ v'.cell? a5 = some x5 ∧ v'.cell? a6 = some x6 ∧ v'.cell? a7 = some x7 ∧ KL u v' [(a0, x0), (a1, x1), (a2, x2), (a3, x3), (a4, x4), (a5, x5), (a6, x6), (a7, x7)] := kl8 (KL.call h.2.2.2.2.2.2.2.2 k)
theorem kl8_bel {u v : World} {a0 a1 a2 a3 a4 a5 a6 a7 : Addr} {x0 x1 x2 x3 x4 x5 x6 x7 : Value} (h : v.cell? a0 = some x0 ∧ v.cell? a1 = some x1 ∧ v.cell? a2 = some x2 ∧ v.cell? a3 = some x3 ∧ v.cell? a4 = some x4 ∧ v.cell? a5 = some x5 ∧ v.cell? a6 = some x6 ∧ v.cell? a7 = some x7 ∧ KL u v [(a0, x0), (a1, x1), (a2, x2), (a3, x3), (a4, x4), (a5, x5), (a6, x6), (a7, x7)]) : Below u.heap.size u v := KL.bel h.2.2.2.2.2.2.2.2
theorem kl8_0 {u : World} {a0 a1 a2 a3 a4 a5 a6 a7 : Addr} {x0 x1 x2 x3 x4 x5 x6 x7 : Value} (h0 : u.cell? a0 = some x0) (h1 : u.cell? a1 = some x1) (h2 : u.cell? a2 = some x2) (h3 : u.cell? a3 = some x3) (h4 : u.cell? a4 = some x4) (h5 : u.cell? a5 = some x5) (h6 : u.cell? a6 = some x6) (h7 : u.cell? a7 = some x7) : KL u u [(a0, x0), (a1, x1), (a2, x2), (a3, x3), (a4, x4), (a5, x5), (a6, x6), (a7, x7)] := ⟨fun p hp => by
    simp only [List.mem_cons, List.not_mem_nil, or_false] at hp
    rcases hp with rfl | rfl | rfl | rfl | rfl | rfl | rfl | rfl <;> assumption, Below.refl _ _⟩
theorem kl12 {u v : World} {a0 a1 a2 a3 a4 a5 a6 a7 a8 a9 a10 a11 : Addr} {x0 x1 x2 x3 x4 x5 x6 x7 x8 x9 x10 x11 : Value} (h : KL u v [(a0, x0), (a1, x1), (a2, x2), (a3, x3), (a4, x4), (a5, x5), (a6, x6), (a7, x7), (a8, x8), (a9, x9), (a10, x10), (a11, x11)]) : v.cell? a0 = some x0 ∧ v.cell? a1 = some x1 ∧ v.cell? a2 = some x2 ∧ v.cell? a3 = some x3 ∧ v.cell? a4 = some x4 ∧ v.cell? a5 = some x5 ∧ v.cell? a6 = some x6 ∧ v.cell? a7 = some x7 ∧ v.cell? a8 = some x8 ∧ v.cell? a9 = some x9 ∧ v.cell? a10 = some x10 ∧ v.cell? a11 = some x11 ∧ KL u v [(a0, x0), (a1, x1), (a2, x2), (a3, x3), (a4, x4), (a5, x5), (a6, x6), (a7, x7), (a8, x8), (a9, x9), (a10, x10), (a11, x11)] := ⟨h.at (by simp), h.at (by simp), h.at (by simp), h.at (by simp), h.at (by simp), h.at (by simp), h.at (by simp), h.at (by simp), h.at (by simp), h.at (by simp), h.at (by simp), h.at (by simp), h⟩
theorem kl12c {u v v' : World} {a0 a1 a2 a3 a4 a5 a6 a7 a8 a9 a10 a11 : Addr} {x0 x1 x2 x3 x4 x5 x6 x7 x8 x9 x10 x11 : Value} (k : Below v.heap.size v v') (h : v.cell? a0 = some x0 ∧ v.cell? a1 = some x1 ∧ v.cell? a2 = some x2 ∧ v.cell? a3 = some x3 ∧ v.cell? a4 = some x4 ∧ v.cell? a5 = some x5 ∧ v.cell? a6 = some x6 ∧ v.cell? a7 = some x7 ∧ v.cell? a8 = some x8 ∧ v.cell? a9 = some x9 ∧ v.cell? a10 = some x10 ∧ v.cell? a11 = some x11 ∧ KL u v [(a0, x0), (a1, x1), (a2, x2), (a3, x3), (a4, x4), (a5, x5), (a6, x6), (a7, x7), (a8, x8), (a9, x9), (a10, x10), (a11, x11)]) : v'.cell? a0 = some x0 ∧ v'.cell? a1 = some x1 ∧ v'.cell? a2 = some x2 ∧ v'.cell? a3 = some x3 ∧ v'.cell? a4 = some x4 ∧ v'.cell? a5 = some x5 ∧ v'.cell? a6 = some x6 ∧ v'.cell? a7 = some x7 ∧ v'.cell? a8 = some x8 ∧ v'.cell? a9 = some x9 ∧ v'.cell? a10 = some x10 ∧ v'.cell? a11 = some x11 ∧ KL u v' [(a0, x0), (a1, x1), (a2, x2), (a3, x3), (a4, x4), (a5, x5), (a6, x6), (a7, x7), (a8, x8), (a9, x9), (a10, x10), (a11, x11)] := kl12 (KL.call h.2.2.2.2.2.2.2.2.2.2.2.2 k)
theorem kl12_bel {u v : World} {a0 a1 a2 a3 a4 a5 a6 a7 a8 a9 a10 a11 : Addr} {x0 x1 x2 x3 x4 x5 x6 x7 x8 x9 x10 x11 : Value} (h : v.cell? a0 = some x0 ∧ v.cell? a1 = some x1 ∧ v.cell? a2 = some x2 ∧ v.cell? a3 = some x3 ∧ v.cell? a4 = some x4 ∧ v.cell? a5 = some x5 ∧ v.cell? a6 = some x6 ∧ v.cell? a7 = some x7 ∧ v.cell? a8 = some x8 ∧ v.cell? a9 = some x9 ∧ v.cell? a10 = some x10 ∧ v.cell? a11 = some x11 ∧ KL u v [(a0, x0), (a1, x1), (a2, x2), (a3, x3), (a4, x4), (a5, x5), (a6, x6), (a7, x7), (a8, x8), (a9, x9), (a10, x10), (a11, x11)]) : Below u.heap.size u v := KL.bel h.2.2.2.2.2.2.2.2.2.2.2.2
theorem kl12_0 {u : World} {a0 a1 a2 a3 a4 a5 a6 a7 a8 a9 a10 a11 : Addr} {x0 x1 x2 x3 x4 x5 x6 x7 x8 x9 x10 x11 : Value} (h0 : u.cell? a0 = some x0) (h1 : u.cell? a1 = some x1) (h2 : u.cell? a2 = some x2) (h3 : u.cell? a3 = some x3) (h4 : u.cell? a4 = some x4) (h5 : u.cell? a5 = some x5) (h6 : u.cell? a6 = some x6) (h7 : u.cell? a7 = some x7) (h8 : u.cell? a8 = some x8) (h9 : u.cell? a9 = some x9) (h10 : u.cell? a10 = some x10) (h11 : u.cell? a11 = some x11) : KL u u [(a0, x0), (a1, x1), (a2, x2), (a3, x3), (a4, x4), (a5, x5), (a6, x6), (a7, x7), (a8, x8), (a9, x9), (a10, x10), (a11, x11)] := ⟨fun p hp => by
    simp only [List.mem_cons, List.not_mem_nil, or_false] at hp
    rcases hp with rfl | rfl | rfl | rfl | rfl | rfl | rfl | rfl | rfl | rfl | rfl | rfl <;> assumption, Below.refl _ _⟩
end Go.Proofs.Ytjbamfgfgbmieaa
/-
  The program's sorted list: its keys rise; DataOk of the program.
-/
namespace Go.Proofs.Ytjbamfgfgbmieaa
open Go.RowKit
theorem method_pair (k v : ByteArray) (w : World) : (method 249 34 (.agg #[.string k, .string v]) "loop.example/g00392/impl.key").run Try.prog w = .ok (121, .agg #[.string k, .string v]) w := by kernel_rfl
theorem pkey_any (k v : ByteArray) (w : World) : Calls Try.prog 121 #[.agg #[.string k, .string v]] w fun e w' => e = .returned (.string k) ∧ Below w.heap.size w w' := by
  go_enter Try.func121, Try.ntmps121
  go_wp2
  go_ret
  exact ⟨rfl, below_new (Below.refl _ _)⟩
set_option maxHeartbeats 4000000 in
theorem rises_at (S : Nat → Prop) (a : Option Addr) (n c : Nat) (l : List PB) (w : World) (h : Pr w S (.slice a n c) l) (hnm : n ≤ 1048576) :
    Calls Try.prog 43 #[.slice a n c] w fun e w' => e = .returned (.bool (riB l)) ∧ Below w.heap.size w w' := by
  have HN := hid (Rw.len h).1
  have H0 := hid h
  clear h
  go_enter Try.func43, Try.ntmps43
  go_wp2_with fail
  go_loopw [3] (fun i wr => ∃ k : Nat, 1 ≤ k ∧ k ≤ n + 1 ∧ i = .int .i64 k ∧ Hid (Below w.heap.size w wr) ∧ Hid (∀ i, i < k → i < l.length → i ≠ 0 → klt (pAtB l (i - 1)).1 (pAtB l i).1 = true)) (fun i _ => n + 1 - (intOf i).toNat)
  case atStart => exact ⟨1, Nat.le_refl _, by omega, rfl, Below.refl _ _, fun i h1 _ h3 => by omega⟩
  case round =>
    obtain ⟨k, hk1, hk2, rfl, HB, HS⟩ := hrel
    by_cases hlt : k < n
    · have hlt' : (k : Int) < (n : Int) := by omega
      have HP := hid (H0.out.below' HB.out)
      obtain ⟨b, off, rfl, _, hbw, hcell⟩ := HP.out.at (by omega)
      obtain ⟨j, rfl⟩ : ∃ j, k = j + 1 := ⟨k - 1, by omega⟩
      obtain ⟨c0, c1⟩ := hcell (j + 1) hlt
      obtain ⟨d0, d1⟩ := hcell j (by omega)
      have HT : Hid (klt (pAtB l j).1 (pAtB l (j + 1)).1 = true → ∀ i, i < j + 1 + 1 → i < l.length → i ≠ 0 → klt (pAtB l (i - 1)).1 (pAtB l i).1 = true) := by
        intro h i h1 h2 h3
        by_cases e : i = j + 1
        · subst e; exact h
        · exact HS.out i (by omega) h2 h3
      have HF : Hid (¬ klt (pAtB l j).1 (pAtB l (j + 1)).1 = true → riB l = false) := by
        intro h
        exact decide_eq_false fun hh => h (hh (j + 1) (by rw [← HN.out]; exact hlt) (by omega))
      clear hcell hbw HP HS
      generalize pAtB l (j + 1) = cur at c0 c1 HT HF
      generalize pAtB l j = prv at d0 d1 HT HF
      obtain ⟨ck, cv⟩ := cur
      obtain ⟨pk, pv⟩ := prv
      have T0 := hid (kl4_0 c0 c1 d0 d1)
      have m1 := method_pair ck cv
      have m2 := method_pair pk pv
      have hj0 : (0 : Int) < (j : Int) + 1 := by omega
      have hj1 : IntKind.i64.wrap ((j : Int) + 1 - 1) = (j : Int) := by rw [IntKind.wrap_i64]; omega
      have hj2 : (j : Int) < (n : Int) := by omega
      have hj3 : (0 : Int) ≤ (j : Int) + 1 := by omega
      have hj4 : (j : Int) + 1 < (n : Int) := by omega
      have hj5 : IntKind.i64.wrap ((j : Int)) = (j : Int) := by rw [IntKind.wrap_i64]; omega
      clear c0 c1 d0 d1
      rcases tri pk ck with ⟨t1, t2, t3, t4⟩ | rfl | ⟨t1, t2, t3, t4⟩
      · have HS1 := hid (HT.out t1)
        clear HT HF
        go_wp2_with fail
        go_region_held3 (fun v => v.cell? ⟨b, off + (j + 1) * 2, none⟩ = some (.string ck) ∧ v.cell? ⟨b, off + (j + 1) * 2 + 1, none⟩ = some (.string cv) ∧ v.cell? ⟨b, off + j * 2, none⟩ = some (.string pk) ∧ v.cell? ⟨b, off + j * 2 + 1, none⟩ = some (.string pv) ∧ KL wr v [(⟨b, off + (j + 1) * 2, none⟩, .string ck), (⟨b, off + (j + 1) * 2 + 1, none⟩, .string cv), (⟨b, off + j * 2, none⟩, .string pk), (⟨b, off + j * 2 + 1, none⟩, .string pv)])
          (first | assumption | exact kl4 (T0.out.call (below_drew _)) | exact kl4c hbC (by assumption))
          (first
          | (go_at_call_of 121 (Value.agg #[Value.string ck, Value.string cv]); refine (pkey_any ck cv _).mono ?_; rintro e w' ⟨rfl, hbC⟩)
          | (go_at_call_of 121 (Value.agg #[Value.string pk, Value.string pv]); refine (pkey_any pk pv _).mono ?_; rintro e w' ⟨rfl, hbC⟩))
        all_goals (rename_i hS; have HB1 := hid (Below.then' HB.out (kl4_bel hS) (Nat.le_refl _)); clear hS)
        go_wp2
        go_roundw
        case rel => exact ⟨j + 1 + 1, by omega, by omega, by go_num, HB1.out, HS1.out⟩
        case measure => simp [intOf]; omega
      · have t1 := less_irrefl pk.toList
        have HE := hid (HF.out (by show ¬ Op.bytesLess pk.toList pk.toList = true; rw [t1]; simp))
        clear HT HF
        go_wp2_with fail
        go_region_held3 (fun v => v.cell? ⟨b, off + (j + 1) * 2, none⟩ = some (.string pk) ∧ v.cell? ⟨b, off + (j + 1) * 2 + 1, none⟩ = some (.string cv) ∧ v.cell? ⟨b, off + j * 2, none⟩ = some (.string pk) ∧ v.cell? ⟨b, off + j * 2 + 1, none⟩ = some (.string pv) ∧ KL wr v [(⟨b, off + (j + 1) * 2, none⟩, .string pk), (⟨b, off + (j + 1) * 2 + 1, none⟩, .string cv), (⟨b, off + j * 2, none⟩, .string pk), (⟨b, off + j * 2 + 1, none⟩, .string pv)])
          (first | assumption | exact kl4 (T0.out.call (below_drew _)) | exact kl4c hbC (by assumption))
          (first
          | (go_at_call_of 121 (Value.agg #[Value.string pk, Value.string cv]); refine (pkey_any pk cv _).mono ?_; rintro e w' ⟨rfl, hbC⟩)
          | (go_at_call_of 121 (Value.agg #[Value.string pk, Value.string pv]); refine (pkey_any pk pv _).mono ?_; rintro e w' ⟨rfl, hbC⟩))
        all_goals (rename_i hS; have HB1 := hid (Below.then' HB.out (kl4_bel hS) (Nat.le_refl _)); clear hS)
        go_wp2
        go_ret
        exact ⟨by rw [HE.out]; rfl, HB1.out⟩
      · have HE := hid (HF.out (by show ¬ Op.bytesLess pk.toList ck.toList = true; rw [t1]; simp))
        clear HT HF
        go_wp2_with fail
        go_region_held3 (fun v => v.cell? ⟨b, off + (j + 1) * 2, none⟩ = some (.string ck) ∧ v.cell? ⟨b, off + (j + 1) * 2 + 1, none⟩ = some (.string cv) ∧ v.cell? ⟨b, off + j * 2, none⟩ = some (.string pk) ∧ v.cell? ⟨b, off + j * 2 + 1, none⟩ = some (.string pv) ∧ KL wr v [(⟨b, off + (j + 1) * 2, none⟩, .string ck), (⟨b, off + (j + 1) * 2 + 1, none⟩, .string cv), (⟨b, off + j * 2, none⟩, .string pk), (⟨b, off + j * 2 + 1, none⟩, .string pv)])
          (first | assumption | exact kl4 (T0.out.call (below_drew _)) | exact kl4c hbC (by assumption))
          (first
          | (go_at_call_of 121 (Value.agg #[Value.string ck, Value.string cv]); refine (pkey_any ck cv _).mono ?_; rintro e w' ⟨rfl, hbC⟩)
          | (go_at_call_of 121 (Value.agg #[Value.string pk, Value.string pv]); refine (pkey_any pk pv _).mono ?_; rintro e w' ⟨rfl, hbC⟩))
        all_goals (rename_i hS; have HB1 := hid (Below.then' HB.out (kl4_bel hS) (Nat.le_refl _)); clear hS)
        go_wp2
        go_ret
        exact ⟨by rw [HE.out]; rfl, HB1.out⟩
    · have hlt' : ¬ (k : Int) < (n : Int) := by omega
      have HE : Hid (riB l = true) := decide_eq_true fun i h1 h2 => HS.out i (by have := HN.out; omega) h1 h2
      clear HS
      go_wp2
      go_ret
      exact ⟨by rw [HE.out]; rfl, HB.out⟩
set_option maxHeartbeats 4000000 in
theorem implDataOk_at (S : Nat → Prop) (a : Option Addr) (n c : Nat) (l : List PB) (w : World) (h : Pr w S (.slice a n c) l) (hnm : n ≤ 1048576) :
    Calls Try.prog 10 #[.slice a n c] w fun e w' => e = .returned (.bool (daOk l)) ∧ Below w.heap.size w w' := by
  have HN := hid (Rw.len h).1
  have H0 := hid h
  clear h
  go_enter Try.func10, Try.ntmps10
  go_wp2_with fail
  go_loopw [4, 7] (fun x i wr => ∃ k : Nat, k ≤ n ∧ i = .int .i64 k ∧ Hid (Below w.heap.size w wr) ∧ Hid (∀ i, i < k → uOk (pAtB l i).1 = true ∧ uvOk (pAtB l i).2 = true)) (fun _ i _ => n - (intOf i).toNat)
  case atStart => exact ⟨0, Nat.zero_le _, rfl, Below.refl _ _, fun i h => by omega⟩
  case round =>
    obtain ⟨k, hk, rfl, HB, HS⟩ := hrel
    by_cases hlt : k < n
    · have hlt' : (k : Int) < (n : Int) := by omega
      have HP := hid (H0.out.below' HB.out)
      obtain ⟨b, off, rfl, _, hbw, hcell⟩ := HP.out.at (by omega)
      obtain ⟨c0, c1⟩ := hcell k hlt
      have HF : Hid (¬ (uOk (pAtB l k).1 = true ∧ uvOk (pAtB l k).2 = true) → daOk l = false) := fun h => daOk_no (by rw [← HN.out]; exact hlt) fun hh => h hh.1
      have HT : Hid (uOk (pAtB l k).1 = true → uvOk (pAtB l k).2 = true → ∀ i, i < k + 1 → uOk (pAtB l i).1 = true ∧ uvOk (pAtB l i).2 = true) := by
        intro h1 h2 i hi
        by_cases e : i = k
        · subst e; exact ⟨h1, h2⟩
        · exact HS.out i (by omega)
      clear hcell HP HS
      generalize pAtB l k = cur at c0 c1 HF HT
      obtain ⟨ck, cv⟩ := cur
      cases h1 : uOk ck
      · have HE := hid (HF.out fun h => by rw [h1] at h; cases h.1)
        have C1 := hid (implUserOk_is ck _ h1)
        clear h1 HF HT
        go_wp2_with fail
        refine (C1.out _).mono ?_
        rintro e w1 ⟨rfl, rfl⟩
        go_wp2
        go_ret
        exact ⟨by rw [HE.out]; rfl, Below.then' HB.out (below_new (Below.refl _ _)) (Nat.le_refl _)⟩
      · have C1 := hid (implUserOk_is ck _ h1)
        cases h2 : uvOk cv
        · have HE := hid (HF.out fun h => by rw [h2] at h; cases h.2)
          have C2 := hid (implUvalOk_is cv _ h2)
          clear h1 h2 HF HT
          go_wp2_with fail
          refine (C1.out _).mono ?_
          rintro e w1 ⟨rfl, rfl⟩
          go_wp2_with fail
          refine (C2.out _).mono ?_
          rintro e w1 ⟨rfl, rfl⟩
          go_wp2
          go_ret
          exact ⟨by rw [HE.out]; rfl, Below.then' HB.out (below_new (Below.refl _ _)) (Nat.le_refl _)⟩
        · have C2 := hid (implUvalOk_is cv _ h2)
          have HS1 := hid (HT.out h1 h2)
          clear h1 h2 HF HT
          go_wp2_with fail
          refine (C1.out _).mono ?_
          rintro e w1 ⟨rfl, rfl⟩
          go_wp2_with fail
          refine (C2.out _).mono ?_
          rintro e w1 ⟨rfl, rfl⟩
          go_wp2
          go_roundw
          case rel => exact ⟨k + 1, by omega, by go_num, Below.then' HB.out (below_new (Below.refl _ _)) (Nat.le_refl _), HS1.out⟩
          case measure => simp [intOf]; omega
    · have hlt' : ¬ (k : Int) < (n : Int) := by omega
      have HE : Hid (riB l = daOk l) := daOk_riB fun i hi => HS.out i (by have := HN.out; omega)
      have HP := hid (H0.out.below' HB.out)
      clear HS
      go_wp2_with fail
      refine (rises_at S a n c l _ HP.out hnm).mono ?_
      rintro e w1 ⟨rfl, hb⟩
      have HB1 := hid (Below.then' HB.out hb (Nat.le_refl _))
      rw [HE.out]
      obtain ⟨z, hz⟩ : ∃ z, z = daOk l := ⟨_, rfl⟩
      rw [← hz]
      have HZ := hid hz
      clear hb HE hz
      go_wp2
      go_ret
      exact ⟨by rw [← HZ.out]; rfl, HB1.out⟩
end Go.Proofs.Ytjbamfgfgbmieaa
/-
  The program's sorted list: where a key stands.
-/
namespace Go.Proofs.Ytjbamfgfgbmieaa
open Go.RowKit
set_option maxHeartbeats 1000000 in
theorem placeOf1_any (a b k : ByteArray) (w : World) : Calls Try.prog 95 #[.agg #[.string a, .string b], .string k] w fun e w' => e = .returned (.int .i64 (cmpV a k)) ∧ Below w.heap.size w w' := by
  have HB0 := hid (below_new (o := .cells #[.string a, .string b] 34) (w := w) (Below.refl _ _))
  have m1 := method_pair a b
  go_enter Try.func95, Try.ntmps95
  go_wp2_with fail
  refine (pkey_any a b _).mono ?_
  rintro e w1 ⟨rfl, hb⟩
  have HB1 := hid (HB0.out.trans (hb.mono HB0.out.size))
  clear hb HB0
  go_wp2_with fail
  refine (compare_any a k _).mono ?_
  rintro e w2 ⟨rfl, rfl⟩
  generalize hx : cmpV a k = x
  have HX := hid hx
  clear hx
  go_wp2
  go_ret
  exact ⟨by rw [HX.out]; rfl, HB1.out⟩
set_option maxHeartbeats 4000000 in
set_option maxRecDepth 20000 in
theorem bsearchS_any (S : Nat → Prop) (a : Option Addr) (n c : Nat) (l : List PB) (k : ByteArray) (w : World) (h : Pr w S (.slice a n c) l) (ha : Asc l) (hs : n ≤ 1048576) :
    Calls Try.prog 94 #[.slice a n c, .string k, .func (.func 95) #[] #[]] w fun e w' =>
      e = .returned (.tuple #[.int .i64 (pos l k : Nat), .bool (there l k)]) ∧ Below w.heap.size w w' := by
  have HN := hid (Rw.len h).1
  have hnc := (Rw.len h).2.1
  have H0 := hid h
  have HA := hid ha
  clear h ha
  go_enter Try.func94, Try.ntmps94
  go_wp2_with fail
  go_loopw [9, 10] (fun x y wr => ∃ lo hi : Nat, x = .int .i64 lo ∧ y = .int .i64 hi ∧ lo ≤ hi ∧ hi ≤ n ∧ Hid (∀ i, i < lo → klt (pAtB l i).1 k = true) ∧ Hid (∀ i, hi ≤ i → i < n → klt (pAtB l i).1 k = false) ∧ Hid (Below w.heap.size w wr)) (fun x y _ => (intOf y).toNat - (intOf x).toNat)
  case atStart => exact ⟨0, n, rfl, rfl, Nat.zero_le _, Nat.le_refl _, fun i h => absurd h (Nat.not_lt_zero _), fun i h1 h2 => by omega, Below.refl _ _⟩
  case round =>
    obtain ⟨lo, hi, rfl, rfl, hlh, hin, HLO, HHI, HB⟩ := hrel
    by_cases hlt : lo < hi
    · have hlt' : (lo : Int) < (hi : Int) := by omega
      generalize hm : (lo + hi) / 2 = m
      have hm1 : lo ≤ m := by omega
      have hm2 : m < hi := by omega
      have hdv : ((lo : Int) + (hi : Int)) / 2 = (m : Int) := by omega
      obtain ⟨b, off, hab, _, _, _⟩ := Rw.at (Pr.below H0.out HB.out) (by omega)
      subst hab
      obtain ⟨d0, d1⟩ := Pr.cells (Pr.below H0.out HB.out) (i := m) (by have := HN.out; omega)
      have HK := hid (cmpV_cases (pAtB l m).1 k)
      have HM := hid hm
      have hmn : (m : Int) < (n : Int) := by omega
      clear hm
      go_wp2_with fail
      refine (placeOf1_any _ _ k wr).mono ?_
      rintro e w1 ⟨rfl, hb⟩
      have HB1 := hid (Below.then' HB.out hb (Nat.le_refl _))
      clear hb d0 d1 HB
      cases hk : klt (pAtB l m).1 k with
      | true =>
        have hv : cmpV (pAtB l m).1 k < 0 := by
          rcases HK.out with h | ⟨h, _⟩ | ⟨h, _⟩
          · rw [h.2]; decide
          · rw [h, klt_irrefl] at hk; cases hk
          · rw [h] at hk; cases hk
        have HL1 : Hid (∀ i, i < m + 1 → klt (pAtB l i).1 k = true) := by
          intro i hi
          by_cases e : i = m
          · subst e; exact hk
          · exact klt_trans (HA.out.at (show i < m by omega) (by have := HN.out; omega)) hk
        generalize cmpV (pAtB l m).1 k = z at *
        clear hk HK
        go_wp2
        go_roundw
        case rel => exact ⟨m + 1, hi, by go_num, rfl, by omega, hin, HL1.out, HHI.out, HB1.out⟩
        case measure => simp [intOf]; omega
      | false =>
        have hv : ¬ cmpV (pAtB l m).1 k < 0 := by
          rcases HK.out with h | ⟨_, h⟩ | ⟨_, _, h⟩
          · rw [h.1] at hk; cases hk
          · rw [h]; decide
          · rw [h]; decide
        have HH1 : Hid (∀ i, m ≤ i → i < n → klt (pAtB l i).1 k = false) := by
          intro i h1 h2
          by_cases e : i = m
          · subst e; exact hk
          · cases hi : klt (pAtB l i).1 k with
            | false => rfl
            | true =>
              have := klt_trans (HA.out.at (show m < i by omega) (by have := HN.out; omega)) hi
              rw [hk] at this
              cases this
        generalize cmpV (pAtB l m).1 k = z at *
        clear hk HK
        go_wp2
        go_roundw
        case rel => exact ⟨lo, m, rfl, rfl, hm1, by omega, HLO.out, HH1.out, HB1.out⟩
        case measure => simp [intOf]; omega
    · have hlt' : ¬ (lo : Int) < (hi : Int) := by omega
      have e : hi = lo := by omega
      subst e
      have HP : Hid (hi = pos l k) := pos_uniq l k hi (by rw [← HN.out]; exact hin) HLO.out (fun h => HHI.out hi (Nat.le_refl _) (by rw [HN.out]; exact h))
      by_cases hn : hi < n
      · have hn' : (hi : Int) < (n : Int) := by omega
        obtain ⟨b, off, hab, _, _, _⟩ := Rw.at (Pr.below H0.out HB.out) (by omega)
        subst hab
        obtain ⟨d0, d1⟩ := Pr.cells (Pr.below H0.out HB.out) (i := hi) (by have := HN.out; omega)
        have HK := hid (cmpV_cases (pAtB l hi).1 k)
        go_wp2_with fail
        refine (placeOf1_any _ _ k wr).mono ?_
        rintro e w1 ⟨rfl, hb⟩
        have HB1 := hid (Below.then' HB.out hb (Nat.le_refl _))
        clear hb d0 d1 HB
        by_cases hk : (pAtB l hi).1 = k
        · have hv : (cmpV (pAtB l hi).1 k == 0) = true := by
            rcases HK.out with h | ⟨_, h⟩ | ⟨_, h, _⟩
            · rw [hk, klt_irrefl] at h; cases h.1
            · rw [h]; rfl
            · exact absurd hk h
          have HR : Hid (there l k = true) := by
            show _ = _
            unfold there
            rw [← HP.out]
            exact decide_eq_true ⟨by rw [← HN.out]; exact hn, hk⟩
          generalize cmpV (pAtB l hi).1 k = z at *
          clear hk HK
          go_wp2
          go_ret2
          exact ⟨by rw [HR.out, ← HP.out]; rfl, HB1.out⟩
        · have hv : (cmpV (pAtB l hi).1 k == 0) = false := by
            rcases HK.out with ⟨_, h⟩ | ⟨h, _⟩ | ⟨_, _, h⟩
            · rw [h]; rfl
            · exact absurd h hk
            · rw [h]; rfl
          have HR : Hid (there l k = false) := by
            show _ = _
            unfold there
            rw [← HP.out]
            exact decide_eq_false fun h => hk h.2
          generalize cmpV (pAtB l hi).1 k = z at *
          clear hk HK
          go_wp2
          go_ret2
          exact ⟨by rw [HR.out, ← HP.out]; rfl, HB1.out⟩
      · have hn' : ¬ (hi : Int) < (n : Int) := by omega
        have HR : Hid (there l k = false) := by
          show _ = _
          unfold there
          rw [← HP.out]
          exact decide_eq_false fun h => hn (by rw [HN.out]; exact h.1)
        go_wp2
        go_ret2
        exact ⟨by rw [HR.out, ← HP.out]; rfl, HB.out⟩
set_option maxHeartbeats 1000000 in
theorem placeOf_any (S : Nat → Prop) (a : Option Addr) (n c : Nat) (l : List PB) (k : ByteArray) (w : World) (h : Pr w S (.slice a n c) l) (ha : Asc l) (hs : n ≤ 1048576) :
    Calls Try.prog 86 #[.slice a n c, .string k] w fun e w' => e = .returned (.tuple #[.int .i64 (pos l k : Nat), .bool (there l k)]) ∧ Below w.heap.size w w' := by
  have HP := hid h
  clear h
  go_enter Try.func86, Try.ntmps86
  go_wp2_with fail
  refine (bsearchS_any S a n c l k w HP.out ha hs).mono ?_
  rintro e w1 ⟨rfl, hb⟩
  have HB := hid hb
  clear hb
  generalize hp : pos l k = p
  generalize ht : there l k = q
  have HE := hid (And.intro hp ht)
  clear hp ht
  go_wp2
  go_ret2
  exact ⟨by rw [HE.out.1, HE.out.2]; rfl, HB.out⟩
end Go.Proofs.Ytjbamfgfgbmieaa
/-
  slices.IndexFunc, slices.DeleteFunc over pairs, with the scan's function.
-/
namespace Go.Proofs.Ytjbamfgfgbmieaa
open Go.RowKit
/-- Block b is a row whose first n pairs are X's. -/
def Ro (w : World) (b n : Nat) (X : Nat → PB) : Prop := ∃ T xs, Bk w b T xs ∧ ∀ x, x < n → xs[x * 2]? = some (.string (X x).1) ∧ xs[x * 2 + 1]? = some (.string (X x).2)
theorem Ro.below {w w' : World} {b n : Nat} {X : Nat → PB} (h : Ro w b n X) (hb : Below w.heap.size w w') : Ro w' b n X := by
  obtain ⟨T, xs, h1, h2⟩ := h
  exact ⟨T, xs, h1.below hb, h2⟩
theorem Ro.cell {w : World} {b n : Nat} {X : Nat → PB} (h : Ro w b n X) {x : Nat} (hx : x < n) : w.cell? ⟨b, x * 2, none⟩ = some (.string (X x).1) ∧ w.cell? ⟨b, x * 2 + 1, none⟩ = some (.string (X x).2) ∧ w.frozen? ⟨b, x * 2, none⟩ = false ∧ w.frozen? ⟨b, x * 2 + 1, none⟩ = false := by
  obtain ⟨T, xs, h1, h2⟩ := h
  exact ⟨h1.cell (h2 x hx).1, h1.cell (h2 x hx).2, h1.free _, h1.free _⟩
theorem Ro.lt {w : World} {b n : Nat} {X : Nat → PB} (h : Ro w b n X) : b < w.heap.size := by
  obtain ⟨T, xs, h1, h2⟩ := h
  exact h1.lt
theorem Ro.uf {w : World} {b n : Nat} {X : Nat → PB} (h : Ro w b n X) : Uf w b := by
  obtain ⟨T, xs, h1, h2⟩ := h
  exact h1.uf
def upd (X : Nat → PB) (i : Nat) (p : PB) (x : Nat) : PB := if x = i then p else X x
theorem Ro.set {w : World} {b n : Nat} {X : Nat → PB} (h : Ro w b n X) {i : Nat} (hi : i < n) (k v : ByteArray) : Ro ((w.setCell ⟨b, i * 2, none⟩ (.string k)).setCell ⟨b, i * 2 + 1, none⟩ (.string v)) b n (upd X i (k, v)) := by
  obtain ⟨T, xs, h1, h2⟩ := h
  refine ⟨T, _, (h1.set _ _).set _ _, fun x hx => ?_⟩
  have hl0 := (List.getElem?_eq_some_iff.1 (h2 i hi).1).1
  have hl1 := (List.getElem?_eq_some_iff.1 (h2 i hi).2).1
  unfold upd
  by_cases e : x = i
  · subst e
    rw [if_pos rfl]
    constructor
    · rw [List.getElem?_set_ne (by omega)]; simp [hl0]
    · simp [hl1]
  · rw [if_neg e]
    constructor
    · rw [List.getElem?_set_ne (by omega), List.getElem?_set_ne (by omega)]; exact (h2 x hx).1
    · rw [List.getElem?_set_ne (by omega), List.getElem?_set_ne (by omega)]; exact (h2 x hx).2
theorem Ro.pr {w : World} {b n : Nat} {X : Nat → PB} (h : Ro w b n X) {m c : Nat} {l : List PB} (hl : l.length = m) (hm : m ≤ n) (hc : m ≤ c) (hc2 : c ≤ 9223372036854775807) (hX : ∀ x, x < m → pAtB l x = X x) (S : Nat → Prop) (hS : S b) : Pr w S (.slice (some ⟨b, 0, none⟩) m c) l := by
  subst hl
  obtain ⟨T, xs, h1, h2⟩ := h
  refine ⟨_, c, rfl, hc, hc2, fun h0 => ?_, fun h => by (cases h), fun hp => ⟨b, 0, rfl, h1.lt, hS, fun j u hu => ?_⟩⟩
  · have : l = [] := List.eq_nil_of_length_eq_zero h0
    rw [this]; rfl
  · have hj : j < l.length * 2 := by have := (List.getElem?_eq_some_iff.1 hu).1; rwa [pcs_length] at this
    rw [Nat.zero_add]
    have hx := pcs_at l (j / 2) (by omega)
    have hy := h2 (j / 2) (by omega)
    rw [← hX (j / 2) (by omega)] at hy
    rcases Nat.mod_two_eq_zero_or_one j with e | e
    · rw [show j / 2 * 2 = j by omega] at hx hy
      rw [hu] at hx
      rw [h1.cell hy.1, hx.1]
    · rw [show j / 2 * 2 + 1 = j by omega] at hx hy
      rw [hu] at hx
      rw [h1.cell hy.2, hx.2]
theorem Ow.ro {w : World} {base : Nat} {a : Option Addr} {n c : Nat} {l : List PB} (h : Ow w base (.slice a n c) l) (hp : 0 < n) : ∃ b, a = some ⟨b, 0, none⟩ ∧ base ≤ b ∧ n = l.length ∧ n ≤ c ∧ c ≤ 9223372036854775807 ∧ Ro w b n (pAtB l) := by
  rcases h.2 with ⟨e, h0⟩ | ⟨g, cap, cur, e, h3, h4, h5, h6, h7, h8⟩
  · cases e; omega
  · cases e
    refine ⟨g, rfl, h3, rfl, h5, by unfold maxLen at h6; omega, ?_⟩
    refine ⟨_, cur.toList, by show _ = _; simpa using h4, fun x hx => ?_⟩
    obtain ⟨h1, h2⟩ := pcs_at l x hx
    rw [← h8] at h1 h2
    rw [List.getElem?_take] at h1 h2
    split at h1 <;> split at h2 <;> simp_all
theorem only_sets {R : Nat → Prop} {b : Nat} (h : R b) : ∀ (vs : List Value) (o : Nat) (w : World), Only R w (w.setCells b o vs)
  | [], _, w => Only.refl _ _
  | v :: vs, o, w => by
    rw [World.setCells]
    exact (only_set h v).trans (only_sets h vs (o + 1) _)
theorem bk_sets {b : Nat} {T : TypeId} : ∀ (vs : List Value) (o : Nat) (w : World) (xs : List Value), Bk w b T xs → ∃ ys, Bk (w.setCells b o vs) b T ys ∧ ys.length = xs.length ∧ ∀ x, x < o → ys[x]? = xs[x]?
  | [], _, w, xs, h => ⟨xs, h, rfl, fun _ _ => rfl⟩
  | v :: vs, o, w, xs, h => by
    obtain ⟨ys, h1, h2, h3⟩ := bk_sets vs (o + 1) _ _ (h.set o v)
    refine ⟨ys, h1, by rw [h2, List.length_set], fun x hx => ?_⟩
    rw [h3 x (by omega), List.getElem?_set_ne (by omega)]
theorem Ro.sets {w : World} {b n : Nat} {X : Nat → PB} (h : Ro w b n X) {i : Nat} (hi : i ≤ n) (vs : List Value) : Ro (w.setCells b (i * 2) vs) b i X := by
  obtain ⟨T, xs, h1, h2⟩ := h
  obtain ⟨ys, h3, _, h4⟩ := bk_sets vs (i * 2) w xs h1
  refine ⟨T, ys, h3, fun x hx => ?_⟩
  rw [h4 _ (by omega), h4 _ (by omega)]
  exact h2 x (by omega)
theorem run_clear_pairs (ty : TypeId) (w : World) (b o n c : Nat) (hc : ∀ j, j < n * 2 → (w.cell? ⟨b, o + j, none⟩).isSome = true) (hf : ∀ j, j < n * 2 → w.frozen? ⟨b, o + j, none⟩ = false) :
    (Builtin.clear_ #[23] ty #[.slice (some ⟨b, o, none⟩) n c]).run Try.prog w = .ok (.tuple #[]) (w.setCells b o (List.replicate (n * 2) (.string ⟨#[]⟩))) := by
  have hv : (zeroValue 34).run Try.prog w = .ok (.agg #[.string ⟨#[]⟩, .string ⟨#[]⟩]) w := by go_simp
  have hzc : (Builtin.zeroCells (Value.agg #[.string ⟨#[]⟩, .string ⟨#[]⟩]).cells n).toList = List.replicate (n * 2) (.string ⟨#[]⟩) := by
    simp [Builtin.zeroCells, Value.cells]
    apply List.ext_getElem
    · simp
    · intro i h1 h2
      simp
      rcases Nat.mod_two_eq_zero_or_one i with e | e <;> simp [e]
  have hst := run_storeCells_cells (P := Try.prog) b o (List.replicate (n * 2) (.string ⟨#[]⟩)) 0 w (by simpa using hc) (by simpa using hf) (by intro v hv'; rw [List.eq_of_mem_replicate hv']; rfl)
  simp only [Nat.add_zero] at hst
  cases n with
  | zero => simp [Builtin.clear_, World.setCells, run_underlying Try.underlying23]
  | succ m => simp [Builtin.clear_, run_underlying Try.underlying23, hv, hzc, hst]
end Go.Proofs.Ytjbamfgfgbmieaa
/-
  slices.DeleteFunc over pairs, with the scan's function; slices.Reverse of pairs.
-/
namespace Go.Proofs.Ytjbamfgfgbmieaa
open Go.RowKit
/-- The slice value v is a row of its own, from its first place on, that may be written and holds f. -/
def Rp (w : World) (base : Nat) (v : Value) (f : List PB) : Prop := ∃ a m c, v = .slice a m c ∧ m = f.length ∧ m ≤ c ∧ c ≤ 9223372036854775807 ∧ (a = none → c = 0) ∧ (0 < m → ∃ b, a = some ⟨b, 0, none⟩ ∧ base ≤ b ∧ Ro w b m (pAtB f))
theorem Ow.rp {w : World} {base : Nat} {v : Value} {l : List PB} (h : Ow w base v l) : Rp w base v l := by
  obtain ⟨a, n, c, rfl, hn⟩ := h.shape'
  have hlen := Rw.len (h.pr (S := fun _ => True) (fun _ _ _ _ => trivial))
  refine ⟨a, n, c, rfl, hn.out, hlen.2.1, hlen.2.2, ?_, fun hp => ?_⟩
  · rintro rfl
    obtain ⟨a', c', e, _, _, _, h5, _⟩ := h.pr (S := fun _ => True) (fun _ _ _ _ => trivial)
    cases e
    exact h5 rfl
  · obtain ⟨b, h1, h2, _, _, _, h3⟩ := h.ro hp
    exact ⟨b, h1, h2, h3⟩
theorem Rp.pr {w : World} {base : Nat} {v : Value} {f : List PB} (h : Rp w base v f) : Pr w (fun b => base ≤ b ∧ Uf w b) v f := by
  obtain ⟨a, m, c, rfl, h1, h2, h3, h4, h5⟩ := h
  rcases Nat.eq_zero_or_pos m with h0 | hp
  · have : f = [] := List.eq_nil_of_length_eq_zero (by omega)
    subst this h0
    exact ⟨a, c, rfl, h2, h3, fun _ => rfl, h4, fun h => by simp at h⟩
  · obtain ⟨b, rfl, h6, h7⟩ := h5 hp
    exact h7.pr h1.symm (Nat.le_refl _) h2 h3 (fun _ _ => rfl) _ ⟨h6, h7.uf⟩
theorem Rp.below {w w' : World} {base : Nat} {v : Value} {f : List PB} (h : Rp w base v f) (hb : Below w.heap.size w w') : Rp w' base v f := by
  obtain ⟨a, m, c, rfl, h1, h2, h3, h4, h5⟩ := h
  refine ⟨a, m, c, rfl, h1, h2, h3, h4, fun hp => ?_⟩
  obtain ⟨b, h6, h7, h8⟩ := h5 hp
  exact ⟨b, h6, h7, h8.below hb⟩
def RpPost (base : Nat) (f : List PB) (w : World) (e : Ending) (w' : World) : Prop := ∃ a m c, e = .returned (.slice a m c) ∧ Rp w' base (.slice a m c) f ∧ Below base w w'
abbrev hasF (lo hi : ByteArray) (l : List PB) : List PB := l.filter fun p => rHas lo hi p.1
theorem hasF_step (lo hi : ByteArray) (l : List PB) (j : Nat) (h : j < l.length) : hasF lo hi (l.take (j + 1)) = if rHas lo hi (pAtB l j).1 = true then hasF lo hi (l.take j) ++ [pAtB l j] else hasF lo hi (l.take j) := by
  rw [List.take_succ_eq_append_getElem h, ← pAtB_lt h, hasF, List.filter_append]
  cases hh : rHas lo hi (pAtB l j).1 with
  | false => simp [hasF, hh]
  | true => simp [hasF, hh]
theorem hasF_le (lo hi : ByteArray) (l : List PB) (j : Nat) : (hasF lo hi (l.take j)).length ≤ j := Nat.le_trans (List.length_filter_le _ _) (by rw [List.length_take]; omega)
theorem hasF_all {lo hi : ByteArray} {l : List PB} {j : Nat} (hj : j ≤ l.length) (h : ∀ x, x < j → rHas lo hi (pAtB l x).1 = true) : hasF lo hi (l.take j) = l.take j := by
  rw [hasF, List.filter_eq_self]
  intro p hp
  obtain ⟨i, hi, rfl⟩ := List.mem_iff_getElem.1 hp
  have hi' : i < j := by rw [List.length_take] at hi; omega
  have := h i hi'
  rw [pAtB_lt (by omega)] at this
  rw [List.getElem_take]
  exact this
theorem pAtB_take {l : List PB} {j x : Nat} (h : x < j) : pAtB (l.take j) x = pAtB l x := by simp [pAtB, h]
theorem pAtB_snoc {l : List PB} {p : PB} {x : Nat} (h : x < l.length) : pAtB (l ++ [p]) x = pAtB l x := by simp [pAtB, List.getElem?_append_left h]
theorem pAtB_snoc' {l : List PB} {p : PB} : pAtB (l ++ [p]) l.length = p := by simp [pAtB]
end Go.Proofs.Ytjbamfgfgbmieaa
/-
  slices.Reverse of pairs.
-/
namespace Go.Proofs.Ytjbamfgfgbmieaa
open Go.RowKit
def revX (f : List PB) (n i : Nat) (x : Nat) : PB := if x < i ∨ n - i ≤ x then pAtB f (n - 1 - x) else pAtB f x
set_option maxHeartbeats 4000000 in
set_option maxRecDepth 20000 in
theorem rev_any (b n c : Nat) (f : List PB) (w : World) (hR : Ro w b n (pAtB f)) (hp : 0 < n) (hn : n ≤ 200) (hnc : n ≤ c) (hc : c ≤ 9223372036854775807) :
    Calls Try.prog 84 #[.slice (some ⟨b, 0, none⟩) n c] w fun e w' => e = .returned (.tuple #[]) ∧ Ro w' b n (fun x => pAtB f (n - 1 - x)) ∧ Only (fun y => y = b) w w' := by
  have HR := hid hR
  clear hR
  go_enter Try.func84, Try.ntmps84
  go_wp2_with fail
  go_loopw [2, 3] (fun x y wr => ∃ (i j : Nat), x = .int .i64 i ∧ y = .int .i64 j ∧ i + j = n - 1 ∧ i ≤ j + 1 ∧ Hid (Ro wr b n (revX f n i)) ∧ Hid (Only (fun y => y = b) w wr)) (fun _ y _ => (intOf y).toNat)
  case atStart =>
    refine ⟨0, n - 1, rfl, by go_num, by omega, by omega, ?_, Only.refl _ _⟩
    obtain ⟨T, xs, h1, h2⟩ := HR.out
    refine ⟨T, xs, h1, fun x hx => ?_⟩
    rw [revX, if_neg (by omega)]
    exact h2 x hx
  case round =>
    obtain ⟨i, j, rfl, rfl, hij, hle, HX, HO⟩ := hrel
    by_cases hlt : i < j
    · have hlt' : (i : Int) < (j : Int) := by omega
      have hi0 : (0 : Int) ≤ (i : Int) := by omega
      have hj0 : (0 : Int) ≤ (j : Int) := by omega
      have hin : (i : Int) < (n : Int) := by omega
      have hjn : (j : Int) < (n : Int) := by omega
      obtain ⟨a0, a1, a2, a3⟩ := HX.out.cell (x := i) (by omega)
      obtain ⟨b0, b1, b2, b3⟩ := HX.out.cell (x := j) (by omega)
      generalize hxi : revX f n i i = xi at *
      generalize hxj : revX f n i j = xj at *
      obtain ⟨k0, v0⟩ := xi
      obtain ⟨k1, v1⟩ := xj
      simp only at a0 a1 b0 b1
      have hxi' := hid hxi
      have hxj' := hid hxj
      clear hxi hxj
      go_wp2_with fail
      go_region
      have HX1 : Hid (Ro ((((wr.setCell ⟨b, i * 2, none⟩ (.string k1)).setCell ⟨b, i * 2 + 1, none⟩ (.string v1)).setCell ⟨b, j * 2, none⟩ (.string k0)).setCell ⟨b, j * 2 + 1, none⟩ (.string v0)).drew b n (revX f n (i + 1))) := by
        obtain ⟨T, xs, h1, h2⟩ := ((HX.out.set (i := i) (by omega) k1 v1).set (i := j) (by omega) k0 v0).below (below_drew _)
        refine ⟨T, xs, h1, fun x hx => ?_⟩
        have e : revX f n (i + 1) x = upd (upd (revX f n i) i (k1, v1)) j (k0, v0) x := by
          unfold upd
          by_cases e1 : x = j
          · rw [if_pos e1, ← hxi'.out, e1]
            simp only [revX]
            rw [if_pos (by omega), if_neg (by omega), show n - 1 - j = i by omega]
          · rw [if_neg e1]
            by_cases e2 : x = i
            · rw [if_pos e2, ← hxj'.out, e2]
              simp only [revX]
              rw [if_pos (by omega), if_neg (by omega), show n - 1 - i = j by omega]
            · rw [if_neg e2]
              simp only [revX]
              by_cases e3 : x < i ∨ n - i ≤ x
              · rw [if_pos e3, if_pos (by omega)]
              · rw [if_neg e3, if_neg (by omega)]
        rw [e]
        exact h2 x hx
      have HO1 : Hid (Only (fun y => y = b) w ((((wr.setCell ⟨b, i * 2, none⟩ (.string k1)).setCell ⟨b, i * 2 + 1, none⟩ (.string v1)).setCell ⟨b, j * 2, none⟩ (.string k0)).setCell ⟨b, j * 2 + 1, none⟩ (.string v0)).drew) :=
        (((((HO.out.trans (only_set (R := fun y => y = b) rfl _)).trans (only_set (R := fun y => y = b) rfl _)).trans (only_set (R := fun y => y = b) rfl _)).trans (only_set (R := fun y => y = b) rfl _))).trans (only_of_below (below_drew _) _)
      generalize ((((wr.setCell ⟨b, i * 2, none⟩ (.string k1)).setCell ⟨b, i * 2 + 1, none⟩ (.string v1)).setCell ⟨b, j * 2, none⟩ (.string k0)).setCell ⟨b, j * 2 + 1, none⟩ (.string v0)).drew = wz at *
      clear a0 a1 a2 a3 b0 b1 b2 b3
      have hjw : (j : Int) - 1 = ((j - 1 : Nat) : Int) := by omega
      go_wp2
      go_roundw
      case rel => exact ⟨i + 1, j - 1, by go_num, by rw [← hjw], by omega, by omega, HX1.out, HO1.out⟩
      case measure => simp [intOf]; omega
    · have hlt' : ¬ (i : Int) < (j : Int) := by omega
      have HE : Hid (Ro wr b n (fun x => pAtB f (n - 1 - x))) := by
        obtain ⟨T, xs, h1, h2⟩ := HX.out
        refine ⟨T, xs, h1, fun x hx => ?_⟩
        have := h2 x hx
        have e : revX f n i x = pAtB f (n - 1 - x) := by
          rw [revX]
          split
          · rfl
          · rw [show n - 1 - x = x by omega]
        rwa [e] at this
      go_wp2
      go_end0
      exact ⟨rfl, HE.out, HO.out⟩
set_option maxHeartbeats 1000000 in
theorem rev0_any (a : Option Addr) (c : Nat) (w : World) : Calls Try.prog 84 #[.slice a 0 c] w fun e w' => e = .returned (.tuple #[]) ∧ w' = w := by
  go_enter Try.func84, Try.ntmps84
  go_wp2_with fail
  go_loop [2, 3] (fun x y => x = .int .i64 0 ∧ y = .int .i64 (-1)) (fun _ _ => 0)
  case atStart => exact ⟨rfl, rfl⟩
  case round =>
    obtain ⟨rfl, rfl⟩ := hrel
    go_wp2
    go_end0
    exact ⟨rfl, rfl⟩
end Go.Proofs.Ytjbamfgfgbmieaa
/-
  The program's sorted list: the piece of a range, reading it.
-/
namespace Go.Proofs.Ytjbamfgfgbmieaa
open Go.RowKit
theorem pcs_mid (l : List PB) {i j : Nat} (hij : i ≤ j) (hj : j ≤ l.length) {x : Nat} {u : Value} (h : (pcs ((l.take j).drop i))[x]? = some u) : (pcs l)[i * 2 + x]? = some u := by
  have e : l = l.take i ++ ((l.take j).drop i ++ l.drop j) := by
    rw [← List.append_assoc]
    have : l.take i = (l.take j).take i := by rw [List.take_take, Nat.min_eq_left hij]
    rw [this, List.take_append_drop, List.take_append_drop]
  have hx : x < (pcs ((l.take j).drop i)).length := (List.getElem?_eq_some_iff.1 h).1
  rw [e, pcs_append, pcs_append]
  have hl : (pcs (l.take i)).length = i * 2 := by rw [pcs_length, List.length_take]; omega
  rw [List.getElem?_append_right (by omega), hl, show i * 2 + x - i * 2 = x by omega, List.getElem?_append_left hx]
  exact h
theorem pr_sub {w : World} {S : Nat → Prop} {b off n c : Nat} {l : List PB} (h : Pr w S (.slice (some ⟨b, off, none⟩) n c) l) {i j : Nat} (hij : i ≤ j) (hj : j ≤ n) : Pr w S (.slice (some ⟨b, off + i * 2, none⟩) (j - i) (c - i)) ((l.take j).drop i) := by
  have hn := (Rw.len h).1
  have hl : ((l.take j).drop i).length = j - i := by rw [List.length_drop, List.length_take]; omega
  obtain ⟨a', c', e, h2, h3, h4, h5, h6⟩ := h
  cases e
  refine ⟨_, _, by rw [hl], by omega, by omega, fun h0 => ?_, fun h => by (cases h), fun hp => ?_⟩
  · rw [List.eq_nil_of_length_eq_zero h0]; rfl
  · obtain ⟨b', off', e, h7, h8, h9⟩ := h6 (by omega)
    cases e
    refine ⟨b, off + i * 2, rfl, h7, h8, fun x u hu => ?_⟩
    rw [Nat.add_assoc]
    exact h9 _ _ (pcs_mid l hij (by omega) hu)
theorem pr_cut {w : World} {S : Nat → Prop} {a : Option Addr} {n c : Nat} {l : List PB} (h : Pr w S (.slice a n c) l) {i j : Nat} (hij : i ≤ j) (hj : j ≤ n) :
    (c = i → Pr w S (.slice a (j - i) 0) ((l.take j).drop i)) ∧ (∀ x : Addr, a = some x → Pr w S (.slice (some (x.add (i * 2))) (j - i) (c - i)) ((l.take j).drop i)) ∧ (c ≠ i → ∃ x : Addr, a = some x) := by
  have hn := (Rw.len h).1
  obtain ⟨a', c', e, h2, h3, h4, h5, h6⟩ := h
  cases e
  refine ⟨fun e => ?_, fun x e => ?_, fun hc => ?_⟩
  · have hz : (l.take j).drop i = [] := List.drop_eq_nil_of_le (by rw [List.length_take]; omega)
    rw [hz, show j - i = 0 by omega]
    exact ⟨a, 0, rfl, Nat.le_refl _, by omega, fun _ => rfl, fun _ => rfl, fun hp => by simp at hp⟩
  · rcases Nat.eq_or_lt_of_le hij with e2 | hlt
    · have hz : (l.take j).drop i = [] := List.drop_eq_nil_of_le (by rw [List.length_take]; omega)
      rw [hz, show j - i = 0 by omega]
      exact ⟨_, c - i, rfl, Nat.zero_le _, by omega, fun _ => rfl, fun h => by (cases h), fun hp => by simp at hp⟩
    · obtain ⟨b', off', e3, h7, h8, h9⟩ := h6 (by omega)
      rw [e] at e3
      cases e3
      rw [Addr.add_lit]
      exact pr_sub ⟨_, c, rfl, h2, h3, h4, fun h => by (cases h), fun _ => ⟨b', off', rfl, h7, h8, h9⟩⟩ hij hj
  · cases a with
    | none => have := h5 rfl; omega
    | some x => exact ⟨x, rfl⟩
theorem pr_take {w : World} {S : Nat → Prop} {a : Option Addr} {n c : Nat} {l : List PB} (h : Pr w S (.slice a n c) l) {q : Nat} (hq : q ≤ n) : Pr w S (.slice a q c) (l.take q) := by
  have hn := (Rw.len h).1
  obtain ⟨a', c', e, h2, h3, h4, h5, h6⟩ := h
  cases e
  refine ⟨a, c, by rw [List.length_take, Nat.min_eq_left (by omega)], by rw [List.length_take]; omega, h3, fun h0 => ?_, h5, fun hp => ?_⟩
  · rw [List.eq_nil_of_length_eq_zero h0]; rfl
  · rw [List.length_take] at hp
    obtain ⟨b, off, e, h7, h8, h9⟩ := h6 (by omega)
    refine ⟨b, off, e, h7, h8, fun x u hu => ?_⟩
    have := pcs_mid l (i := 0) (j := q) (Nat.zero_le _) (by omega) (x := x) (u := u) (by simpa using hu)
    exact h9 _ _ (by simpa using this)
/-- What the slicing of a row leaves. -/
theorem pr_drop {w : World} {S : Nat → Prop} {b off n c : Nat} {l : List PB} (h : Pr w S (.slice (some ⟨b, off, none⟩) n c) l) {i : Nat} (hi : i ≤ n) : Pr w S (.slice (some ⟨b, off + i * 2, none⟩) (n - i) (c - i)) (l.drop i) := by
  have hn := (Rw.len h).1
  have := pr_sub h hi (Nat.le_refl _)
  rwa [hn, List.take_length, ← hn] at this
set_option maxHeartbeats 1000000 in
theorem copyPr_any (S : Nat → Prop) (a : Option Addr) (n c : Nat) (l : List PB) (w : World) (h : Pr w S (.slice a n c) l) (hl : n ≤ 2097152) :
    Calls Try.prog 35 #[.slice a n c] w fun e w' => ∃ a' n' c', e = .returned (.slice a' n' c') ∧ n' = n ∧ Ow w' w.heap.size (.slice a' n' c') l ∧ Below w.heap.size w w' := by
  obtain ⟨i, hi, hz, hsz, hby⟩ := info_of infoPairI
  have HN := hid (Rw.len h).1
  have HR := hid h
  clear h
  go_enter Try.func35, Try.ntmps35
  go_wp2_with (at_builtin; refine wpList_append_row rfl _ _ 23 rfl w.heap.size 34 i _ 2 32 Try.underlying23 hi hz hsz hby rfl (by decide) (.slice none 0 0) 0 [] rfl (World.ownsRow_nil _ _ _ _) S (.slice a n c) l.length (pcs l) rfl HR.out (pcs_length _) (pcs_one _) (by unfold maxLen; have := HN.out; omega) (by have := HN.out; omega) (Nat.le_refl _) ?_)
  intro v3 w3 hO3 hg3
  obtain ⟨a3, c3, rfl⟩ := own_shape hO3
  have O3 : Hid (Ow w3 w.heap.size (.slice a3 l.length c3) l) := hO3
  have G3 : Hid (Below w.heap.size w w3) := ⟨hg3.os, hg3.tape, hg3.output, hg3.size, fun k hk => hg3.block k hk (fun e => by cases e)⟩
  have HN3 : Hid (l.length = n) := HN.out.symm
  clear hO3 hg3 HR HN
  generalize l.length = m at *
  go_wp2
  go_ret
  exact ⟨_, _, _, rfl, HN3.out, O3.out, G3.out⟩
def SpanPost (S : Nat → Prop) (l : List PB) (w : World) (e : Ending) (w' : World) : Prop := ∃ a n c, e = .returned (.slice a n c) ∧ Pr w' S (.slice a n c) l ∧ Below w.heap.size w w'
set_option maxHeartbeats 2000000 in
theorem span_any (S : Nat → Prop) (a : Option Addr) (n c : Nat) (l : List PB) (lo hi : ByteArray) (w : World) (h : Pr w S (.slice a n c) l) (ha : Asc l) (hs : n ≤ 1048576) (hr : rOk lo hi = true) :
    Calls Try.prog 83 #[.slice a n c, .agg #[.string lo, .string hi]] w fun e w' => SpanPost S (spanL l lo hi) w e w' := by
  have HN := hid (Rw.len h).1
  have hnc := (Rw.len h).2.1
  have hcc := (Rw.len h).2.2
  have HB0 := hid (below_new (o := .cells #[.string lo, .string hi] 25) (w := w) (Below.refl _ _))
  have K0 := hid (Bk.new w 25 [.string lo, .string hi])
  have HP := hid (h.below' HB0.out)
  have HA := hid ha
  have hl0 : pos l lo ≤ n := by have := pos_le l lo; have := HN.out; omega
  have hl1 : pos l hi ≤ n := by have := pos_le l hi; have := HN.out; omega
  have HM := hid (fun hh => span_bounds (l := l) hr hh)
  clear h ha hr
  go_enter Try.func83, Try.ntmps83
  have c0 := K0.out.cell (j := 0) rfl
  go_wp2_with fail
  refine (placeOf_any S a n c l lo _ HP.out HA.out hs).mono ?_
  generalize w.alloc (.cells #[.string lo, .string hi] 25) = U at *
  rintro e w1 ⟨rfl, hb⟩
  have HB1 := hid (HB0.out.trans (hb.mono HB0.out.size))
  have K1 := hid (K0.out.below hb)
  have P1 := hid (HP.out.below' hb)
  clear hb c0 HB0 K0 HP
  have c1 := K1.out.cell (j := 1) rfl
  by_cases hh : hi.toList = []
  · have hh2 : hi.toList.isEmpty = true := by simp [hh]
    have HE : Hid (spanL l lo hi = (l.take n).drop (pos l lo)) := by show _ = _; rw [spanL, if_pos hh, HN.out, List.take_length]
    clear HM
    generalize pos l lo = i at *
    generalize there l lo = q at *
    have hi0 : (0 : Int) ≤ (i : Int) := by omega
    have hin : (i : Int) ≤ (n : Int) := by omega
    have hic : (i : Int) ≤ (c : Int) := by omega
    have HC := hid (pr_cut P1.out (i := i) (j := n) (by omega) (by omega))
    by_cases hci : c = i
    · have HR := hid (HC.out.1 hci)
      clear HC
      go_wp2
      go_ret
      exact ⟨_, _, _, rfl, by rw [HE.out]; exact HR.out, HB1.out⟩
    · obtain ⟨x, rfl⟩ := HC.out.2.2 hci
      have HR := hid (HC.out.2.1 x rfl)
      clear HC
      go_wp2
      go_ret
      exact ⟨_, _, _, rfl, by rw [HE.out]; exact HR.out, HB1.out⟩
    
  · have hh2 : hi.toList.isEmpty = false := by simpa using hh
    have HE : Hid (spanL l lo hi = (l.take (pos l hi)).drop (pos l lo)) := by show _ = _; rw [spanL, if_neg hh]
    have hle : pos l lo ≤ pos l hi := HM.out hh
    clear HM
    go_wp2_with fail
    refine (placeOf_any S a n c l hi _ P1.out HA.out hs).mono ?_
    rintro e w2 ⟨rfl, hb⟩
    have HB2 := hid (HB1.out.trans (hb.mono HB1.out.size))
    have P2 := hid (P1.out.below' hb)
    clear hb c1 HB1 K1 P1
    generalize pos l lo = i at *
    generalize there l lo = q at *
    generalize pos l hi = j at *
    generalize there l hi = q2 at *
    have hi0 : (0 : Int) ≤ (i : Int) := by omega
    have hj0 : (0 : Int) ≤ (j : Int) := by omega
    have hij : (i : Int) ≤ (j : Int) := by omega
    have hjn : (j : Int) ≤ (n : Int) := by omega
    have hin : (i : Int) ≤ (n : Int) := by omega
    have hjc : (j : Int) ≤ (c : Int) := by omega
    have hic : (i : Int) ≤ (c : Int) := by omega
    have HC := hid (pr_cut P2.out (i := i) (j := j) (by omega) (by omega))
    by_cases hci : c = i
    · have HR := hid (HC.out.1 hci)
      clear HC
      go_wp2
      go_ret
      exact ⟨_, _, _, rfl, by rw [HE.out]; exact HR.out, HB2.out⟩
    · obtain ⟨x, rfl⟩ := HC.out.2.2 hci
      have HR := hid (HC.out.2.1 x rfl)
      clear HC
      go_wp2
      go_ret
      exact ⟨_, _, _, rfl, by rw [HE.out]; exact HR.out, HB2.out⟩
    
end Go.Proofs.Ytjbamfgfgbmieaa
/-
  The program's sorted list: reading a range.
-/
namespace Go.Proofs.Ytjbamfgfgbmieaa
open Go.RowKit
theorem own_mono_rp' {w : World} {base base' : Nat} {v : Value} {f : List PB} (h : Rp w base v f) (hb : base' ≤ base) : Rp w base' v f := by
  obtain ⟨a, m, c, h1, h2, h3, h4, h5, h6⟩ := h
  refine ⟨a, m, c, h1, h2, h3, h4, h5, fun hp => ?_⟩
  obtain ⟨b, h7, h8, h9⟩ := h6 hp
  exact ⟨b, h7, Nat.le_trans hb h8, h9⟩
theorem sc_fwd (l : List PB) (lo hi : ByteArray) (q : Nat) : scV l lo hi (q : Int) false = (rngF l lo hi).take q := by
  unfold scV dirL rngF
  simp
theorem sc_bwd (l : List PB) (lo hi : ByteArray) (q n : Nat) (hn : n = (rngF l lo hi).length) : scV l lo hi (q : Int) true = (((rngF l lo hi).take n).drop (n - min q n)).reverse := by
  have e : scV l lo hi (q : Int) true = (rngF l lo hi).reverse.take q := by
    unfold scV dirL rngF
    simp
  rw [e, hn, List.take_length]
  by_cases h : q ≤ (rngF l lo hi).length
  · rw [Nat.min_eq_left h, List.take_reverse]
  · rw [Nat.min_eq_right (by omega), Nat.sub_self, List.drop_zero, List.take_of_length_le (by rw [List.length_reverse]; omega)]
theorem rp_rev {w' : World} {base b n c : Nat} {f : List PB} (hn : n = f.length) (hnc : n ≤ c) (hc : c ≤ 9223372036854775807) (hb : base ≤ b) (h : Ro w' b n (fun x => pAtB f (n - 1 - x))) : Rp w' base (.slice (some ⟨b, 0, none⟩) n c) f.reverse := by
  refine ⟨_, n, c, rfl, by rw [List.length_reverse]; exact hn, hnc, hc, fun h => by (cases h), fun _ => ⟨b, rfl, hb, ?_⟩⟩
  obtain ⟨T, xs, g1, g2⟩ := h
  refine ⟨T, xs, g1, fun x hx => ?_⟩
  have e : pAtB f.reverse x = pAtB f (n - 1 - x) := by
    rw [pAtB_lt (by simp; omega), pAtB_lt (by omega)]
    simp [hn]
  rw [e]
  exact g2 x hx
/-- Reverse of a row of its own. -/
theorem sreverse_any (base : Nat) (a : Option Addr) (n c : Nat) (f : List PB) (w : World) (h : Ow w base (.slice a n c) f) (hn : n ≤ 200) (hbase : base ≤ w.heap.size) :
    Calls Try.prog 84 #[.slice a n c] w fun e w' => e = .returned (.tuple #[]) ∧ Rp w' base (.slice a n c) f.reverse ∧ Below base w w' := by
  rcases Nat.eq_zero_or_pos n with h0 | hp
  · subst h0
    refine (rev0_any a c w).mono ?_
    rintro e w3 ⟨rfl, rfl⟩
    have hf : f = [] := List.eq_nil_of_length_eq_zero (Rw.len (h.pr (S := fun _ => True) (fun _ _ _ _ => trivial))).1.symm
    subst hf
    exact ⟨rfl, h.rp, Below.refl _ _⟩
  · obtain ⟨b, rfl, hbb, hnf, hnc, hcc, hro⟩ := h.ro hp
    refine (rev_any b n c f w hro hp hn hnc hcc).mono ?_
    rintro e w3 ⟨rfl, hr3, ho3⟩
    exact ⟨rfl, rp_rev hnf hnc hcc hbb hr3, ho3.below hbase (fun y h1 h2 => by omega)⟩
set_option maxHeartbeats 4000000 in
set_option maxRecDepth 20000 in
theorem sread_any (S : Nat → Prop) (a : Option Addr) (n c : Nat) (l : List PB) (lo hi : ByteArray) (mo : Int) (bk : Bool) (w : World) (h : Pr w S (.slice a n c) l) (hd : daOk l = true) (hs : n ≤ 1048576) (hr : rOk lo hi = true) (hm : 1 ≤ mo ∧ mo ≤ 8) :
    Calls Try.prog 66 #[.slice a n c, .agg #[.string lo, .string hi], .int .i64 mo, .bool bk] w fun e w' => RpPost w.heap.size (scV l lo hi mo bk) w e w' := by
  obtain ⟨q, rfl⟩ : ∃ q : Nat, mo = (q : Int) := ⟨mo.toNat, by omega⟩
  have hq1 : 1 ≤ q := by omega
  have hq8 : q ≤ 8 := by omega
  have HN := hid (Rw.len h).1
  have HB0 := hid (below_new (o := .cells #[.string lo, .string hi] 25) (w := w) (Below.refl _ _))
  have K0 := hid (Bk.new w 25 [.string lo, .string hi])
  have HP := hid (h.below' HB0.out)
  have HD := hid hd
  have HR := hid hr
  clear h hd hr hm
  go_enter Try.func66, Try.ntmps66
  have c0 := K0.out.cell (j := 0) rfl
  have c1 := K0.out.cell (j := 1) rfl
  go_wp2_with fail
  refine (span_any S a n c l lo hi _ HP.out (daOk_asc HD.out) hs HR.out).mono ?_
  generalize w.alloc (.cells #[.string lo, .string hi] 25) = U at *
  rintro e w1 ⟨a1, n1, c1', rfl, hp1, hb⟩
  rw [span_eq HD.out HR.out] at hp1
  have HB1 := hid (HB0.out.trans (hb.mono HB0.out.size))
  have P1 := hid hp1
  have hn1 : n1 ≤ n := by
    rw [(Rw.len hp1).1, HN.out]
    exact List.length_filter_le _ _
  have HN1 := hid (Rw.len hp1).1
  have hnc1 := (Rw.len hp1).2.1
  have hcc1 := (Rw.len hp1).2.2
  clear hb c0 c1 HB0 K0 HP hp1
  generalize hF : rngF l lo hi = F at *
  cases bk with
  | false =>
    have HE : Hid (scV l lo hi (q : Int) false = F.take q) := by show _ = _; rw [sc_fwd, hF]
    clear hF
    by_cases hqn : q ≤ n1
    · have hqn1 : (q : Int) ≤ (n1 : Int) := by omega
      have hqn2 : ¬ (n1 : Int) < (q : Int) := by omega
      have hmc : (q : Int) ≤ (c1' : Int) := by omega
      have hm0 : (0 : Int) ≤ (q : Int) := by omega
      have P2 := hid (pr_take P1.out (q := q) (by omega))
      clear P1 HN1
      go_wp2_with fail
      refine (copyPr_any S a1 q c1' _ _ P2.out (by omega)).mono ?_
      rintro e w2 ⟨a2, n2, c2, rfl, rfl, hO, hb⟩
      have HB2 := hid (HB1.out.trans (hb.mono HB1.out.size))
      have R2 := hid (own_mono_rp' hO.rp HB1.out.size)
      clear hO hb HB1 P2
      go_wp2
      go_ret
      exact ⟨_, _, _, rfl, by rw [HE.out]; exact R2.out, HB2.out⟩
    · have hqn0 : n1 ≤ q := by omega
      have hqn1 : ¬ (q : Int) ≤ (n1 : Int) := by omega
      have hqn2 : (n1 : Int) < (q : Int) := by omega
      have hqn3 : (n1 : Int) ≤ (q : Int) := by omega
      have hmc : (n1 : Int) ≤ (c1' : Int) := by omega
      have hm0 : (0 : Int) ≤ (n1 : Int) := by omega
      have P2 : Hid (Pr w1 S (.slice a1 n1 c1') (F.take q)) := by show Pr _ _ _ _; rw [List.take_of_length_le (by rw [← HN1.out]; omega)]; exact P1.out
      clear P1 HN1
      go_wp2_with fail
      refine (copyPr_any S a1 n1 c1' _ _ P2.out (by omega)).mono ?_
      rintro e w2 ⟨a2, n2, c2, rfl, rfl, hO, hb⟩
      have HB2 := hid (HB1.out.trans (hb.mono HB1.out.size))
      have R2 := hid (own_mono_rp' hO.rp HB1.out.size)
      clear hO hb HB1 P2
      go_wp2
      go_ret
      exact ⟨_, _, _, rfl, by rw [HE.out]; exact R2.out, HB2.out⟩
  | true =>
    have HE : Hid (scV l lo hi (q : Int) true = ((F.take n1).drop (n1 - min q n1)).reverse) := by
      show _ = _
      rw [sc_bwd l lo hi q n1 (by rw [hF]; exact HN1.out), hF]
    clear hF
    by_cases hqn : q ≤ n1
    · have hqn1 : (q : Int) ≤ (n1 : Int) := by omega
      have hqn2 : ¬ (n1 : Int) < (q : Int) := by omega
      rw [Nat.min_eq_left hqn] at HE
      have HC := hid (pr_cut P1.out (i := n1 - q) (j := n1) (by omega) (Nat.le_refl _))
      obtain ⟨i, hi⟩ : ∃ i, i = n1 - q := ⟨_, rfl⟩
      rw [← hi] at HC HE
      have hw2 : IntKind.i64.wrap ((n1 : Int) - (q : Int)) = (i : Int) := by rw [IntKind.wrap_i64]; omega
      have hw3 : (0 : Int) ≤ (i : Int) := by omega
      have hw4 : (i : Int) ≤ (n1 : Int) := by omega
      have hw5 : (i : Int) ≤ (c1' : Int) := by omega
      have hw7 : IntKind.i64.wrap (i : Int) = (i : Int) := by rw [IntKind.wrap_i64]; omega
      have hw1 : (n1 : Int) - (q : Int) = (i : Int) := by omega
      have HW6 : Hid (n1 - i ≤ 8) := by show _ ≤ _; omega
      have hci : ¬ c1' = i := by omega
      clear hi P1 HN1
      obtain ⟨x, rfl⟩ := HC.out.2.2 hci
      have P2 := hid (HC.out.2.1 x rfl)
      clear HC
      go_wp2_with fail
      refine (copyPr_any S (some (x.add (i * 2))) (n1 - i) (c1' - i) _ _ P2.out (by have := HW6.out; omega)).mono ?_
      rintro e w2 ⟨a2, n2, c2, rfl, hn2, hO, hb⟩
      have HB2 := hid (HB1.out.trans (hb.mono HB1.out.size))
      have O2 := hid hO
      have HS2 := hid hb.size
      have HS1 := hid HB1.out.size
      have HN2 : Hid (n2 ≤ 200) := by show _ ≤ _; have := HW6.out; omega
      clear hO hb hn2 HB1 P2
      go_wp2_with fail
      refine (sreverse_any w1.heap.size a2 n2 c2 _ _ O2.out HN2.out HS2.out).mono ?_
      rintro e w3 ⟨rfl, hR, hb⟩
      have HB3 := hid (HB2.out.trans (hb.mono HS1.out))
      have R3 := hid (own_mono_rp' hR HS1.out)
      clear hR hb HB2 O2
      go_wp2
      go_ret
      exact ⟨_, _, _, rfl, by rw [HE.out]; exact R3.out, HB3.out⟩
    · have hqn1 : ¬ (q : Int) ≤ (n1 : Int) := by omega
      have hqn2 : (n1 : Int) < (q : Int) := by omega
      have hqn3 : (n1 : Int) ≤ (q : Int) := by omega
      rw [Nat.min_eq_right (by omega), Nat.sub_self, List.drop_zero, HN1.out, List.take_length] at HE
      have hw2 : IntKind.i64.wrap ((n1 : Int) - (n1 : Int)) = 0 := by rw [IntKind.wrap_i64]; omega
      have hw4 : (0 : Int) ≤ (n1 : Int) := by omega
      have hw5 : (0 : Int) ≤ (c1' : Int) := by omega
      have HW6 : Hid (n1 ≤ 8) := by show _ ≤ _; omega
      go_wp2_with fail
      refine (copyPr_any S a1 n1 c1' _ _ P1.out (by have := HW6.out; omega)).mono ?_
      rintro e w2 ⟨a2, n2, c2, rfl, hn2, hO, hb⟩
      have HB2 := hid (HB1.out.trans (hb.mono HB1.out.size))
      have O2 := hid hO
      have HS2 := hid hb.size
      have HS1 := hid HB1.out.size
      have HN2 : Hid (n2 ≤ 200) := by show _ ≤ _; have := HW6.out; omega
      clear hO hb hn2 HB1 P1
      go_wp2_with fail
      refine (sreverse_any w1.heap.size a2 n2 c2 _ _ O2.out HN2.out HS2.out).mono ?_
      rintro e w3 ⟨rfl, hR, hb⟩
      have HB3 := hid (HB2.out.trans (hb.mono HS1.out))
      have R3 := hid (own_mono_rp' hR HS1.out)
      clear hR hb HB2 O2
      go_wp2
      go_ret
      exact ⟨_, _, _, rfl, by rw [HE.out]; exact R3.out, HB3.out⟩
end Go.Proofs.Ytjbamfgfgbmieaa
/-
  The program's sorted list: slices.Insert of one pair.
-/
namespace Go.Proofs.Ytjbamfgfgbmieaa
open Go.RowKit
theorem append_mix {P : Program} {t t2 e : TypeId} (h : P.underlying t = some (.slice e)) (h2 : P.underlying t2 = some (.slice e)) {ty : TypeId} {args : Array Value} {w : World} :
    (Builtin.append_ #[t, t2] ty args).run P w = (Builtin.append_ #[t, t] ty args).run P w := by
  unfold Builtin.append_
  simp only [List.getElem?_toArray, List.getElem?_cons_zero, List.getElem?_cons_succ]
  cases ha : args[0]? with
  | none => rfl
  | some s =>
    cases hb : args[1]? with
    | none => rfl
    | some x =>
      cases s <;> simp only [Sem.run_bind, run_underlying h, run_underlying h2, Result.andThen_ok]
theorem wpList_append_row_mix {P : Program} {w : World} {ops : Array Oper} {rest : List Oper} {o : Oper} {a : Act} {Q : Exit → Act → World → Prop} (hgd : o.guard = none) (s x : Operand) (t t2 : TypeId)
    (ho : o.op = .call { callee := .builtin .append, args := #[s, x], argTypes := #[t, t2] })
    (base : Nat) (e : TypeId) (i : TypeInfo) (z : Value) (size bytes : Nat) (ht : P.underlying t = some (.slice e)) (ht2 : P.underlying t2 = some (.slice e)) (hi : P.info? e = some i) (hz : i.zero = some z)
    (hsize : i.size = size) (hby : i.bytes = bytes) (hzs : z.cells.size = size) (hsz : 0 < size) (v : Value) (n : Nat) (xs : List Value) (hs : a.eval s = v) (hown : w.ownsRow base e size v n xs)
    (S : Nat → Prop) (src : Value) (m : Nat) (news : List Value) (hx : a.eval x = src) (hsrc : Rw w S src m news) (hl : news.length = m * size) (h1 : ∀ u ∈ news, u.oneCell' = true)
    (h63 : n + m ≤ maxLen) (hbytes : (n + m) * bytes ≤ 140737488355328) (hbase : base ≤ w.heap.size)
    (h : ∀ v' w', w'.ownsRow base e size v' (n + m) (xs ++ news) → w.grownBy w' v.ownBlock → (v'.ownBlock = v.ownBlock ∨ v'.ownBlock = some w.heap.size) → wpList P ops Q rest (a.put o.dst v') w') : wpList P ops Q (o :: rest) a w := by
  refine wpList_plain hgd fun K hK => ?_
  obtain ⟨v', w', hr, h2, h3, h4⟩ := run_append_row_at (P := P) (w := w) base t o.type e i z size bytes ht hi hz hsize hby hzs hsz v n xs hown S src m news hsrc hl h1 h63 hbytes hbase
  rw [← append_mix ht ht2] at hr
  unfold Oper.wp execOp
  simp only [ho, resolve, invoke, builtin, Sem.run_bind, Sem.run_pure, Result.andThen_ok, List.map_toArray, List.map_cons, List.map_nil, hs, hx, hr]
  exact hK _ _ (h v' w' h2 h3 h4)
set_option maxHeartbeats 4000000 in
set_option maxRecDepth 100000 in
theorem insertS_any (v : Value) (n i vb base : Nat) (xs ys : List Value) (w : World) (hO : w.ownsRow base 34 2 v n xs) (hbase : base ≤ w.heap.size) (hi : i ≤ n) (hn : n ≤ 1048576) (hB : Bk w vb 34 ys) (hy : ys.length = 2)
    (h1x : ∀ u ∈ xs, u.oneCell' = true) (h1y : ∀ u ∈ ys, u.oneCell' = true) (hne : v.ownBlock ≠ some vb) :
    Calls Try.prog 87 #[v, .int .i64 i, .slice (some ⟨vb, 0, none⟩) 1 1] w fun e w' => InsPost 34 2 base (xs.take (i * 2) ++ ys ++ xs.drop (i * 2)) (n + 1) v w e w' := by
  obtain ⟨ti, hti, htz, hts, htb⟩ := info_of infoPairI
  have hsz : (Try.prog.info? 34).map (·.size) = some 2 := by rw [hti]; simp [hts]
  have HO := hid hO
  have HB := hid hB
  have HX := hid h1x
  have HY := hid (And.intro hy h1y)
  have HL := hid hO.1
  obtain ⟨a, c, hv⟩ := own_shape hO
  subst hv
  have hnc : n ≤ c ∧ c ≤ 9223372036854775807 := by
    rcases hO.2 with ⟨e, h0⟩ | ⟨g, cap, cur, e, _, _, h5, h6, _⟩
    · cases e; omega
    · cases e; unfold maxLen at h6; omega
  clear h1x hy h1y hB
  by_cases hin : i = n
  · subst hin
    have HE : Hid (xs.take (i * 2) ++ ys ++ xs.drop (i * 2) = xs ++ ys) := by
      show _ = _
      rw [List.take_of_length_le (by have := HL.out; omega), List.drop_eq_nil_of_le (by have := HL.out; omega), List.append_nil]
    clear hO hne
    by_cases hci : c = i
    · subst hci
      go_enter Try.func87, Try.ntmps87
      go_wp2_with (at_builtin; refine wpList_append_row_mix rfl _ _ 68 23 rfl base 34 ti _ 2 32 Try.underlying68 Try.underlying23 hti htz hts htb rfl (by decide) _ c xs rfl HO.out (fun _ => True) _ 1 ys rfl (HB.out.rw (Nat.le_refl _) (by omega) (fun h => by omega) _ trivial) (by rw [HY.out.1]) HY.out.2 (by unfold maxLen; omega) (by omega) hbase ?_)
      intro v' w' k1 k2 k3
      obtain ⟨a', c', rfl⟩ := own_shape k1
      have HK : Hid (InsPost 34 2 base (xs ++ ys) (c + 1) (.slice a c c) w (.returned (.slice a' (c + 1) c')) w') := ⟨a', c', rfl, k1, k2, by
        rcases k3 with e | e
        · exact .inl e
        · exact .inr ⟨_, e, Nat.le_refl _⟩⟩
      clear k1 k2 k3
      go_wp2
      go_ret
      rw [HE.out]
      exact HK.out
    · have hci' : ¬ c = i := hci
      go_enter Try.func87, Try.ntmps87
      go_wp2_with (at_builtin; refine wpList_append_row_mix rfl _ _ 68 23 rfl base 34 ti _ 2 32 Try.underlying68 Try.underlying23 hti htz hts htb rfl (by decide) _ i xs rfl HO.out (fun _ => True) _ 1 ys rfl (HB.out.rw (Nat.le_refl _) (by omega) (fun h => by omega) _ trivial) (by rw [HY.out.1]) HY.out.2 (by unfold maxLen; omega) (by omega) hbase ?_)
      intro v' w' k1 k2 k3
      obtain ⟨a', c', rfl⟩ := own_shape k1
      have HK : Hid (InsPost 34 2 base (xs ++ ys) (i + 1) (.slice a i c) w (.returned (.slice a' (i + 1) c')) w') := ⟨a', c', rfl, k1, k2, by
        rcases k3 with e | e
        · exact .inl e
        · exact .inr ⟨_, e, Nat.le_refl _⟩⟩
      clear k1 k2 k3
      go_wp2
      go_ret
      rw [HE.out]
      exact HK.out
  have hlt : i < n := by omega
  obtain ⟨g, cap, cur, e, hbg, hg, hnc', hcap, hcs, htk⟩ : ∃ g cap cur, Value.slice a n c = .slice (some ⟨g, 0, none⟩) n cap ∧ base ≤ g ∧ w.heap[g]? = some (.cells cur 34 (0, 0)) ∧ n ≤ cap ∧ cap ≤ maxLen ∧ cur.size = cap * 2 ∧ cur.toList.take (n * 2) = xs := by
    rcases hO.2 with ⟨_, h0⟩ | h
    · omega
    · first | exact h | simpa only [Nat.mul_one] using h
  cases e
  have hgb : Bk w g 34 cur.toList := by show _ = _; simpa using hg
  have hgv : vb ≠ g := fun e => hne (by rw [e]; rfl)
  have hcl : cur.toList.length = c * 2 := by simpa using hcs
  clear hO hg hcs hne hcap hnc'
  generalize cur.toList = cl at *
  subst htk
  clear cur
  have hci : ¬ c = i := by omega
  have hci1 : ¬ c = i + 1 ∨ c = i + 1 := by omega
  have hi' : ¬ ((i : Int) = (n : Int)) := by omega
  have hii : (i : Int) ≤ (n : Int) := by omega
  have hxl : (cl.take (n * 2)).length = n * 2 := by rw [List.length_take]; omega
  have hdl : ((cl.take (n * 2)).drop (i * 2)).length = (n - i) * 2 := by rw [List.length_drop, hxl] <;> omega
  have hsrc : ∀ j u, (cl.take (n * 2))[j]? = some u → w.cell? ⟨g, j, none⟩ = some u := fun j u hu => by
    refine hgb.cell ?_
    rw [List.getElem?_take] at hu
    split at hu
    · exact hu
    · cases hu
  have hsa : w.shape? vb = some (34, 2) := by
    have h := HB.out
    have h' : w.heap[vb]? = some (.cells ys.toArray 34 (0, 0)) := h
    simp [World.shape?, h', HY.out.1]
  have hsb : w.shape? g = some (34, c * 2) := by
    have h' : w.heap[g]? = some (.cells cl.toArray 34 (0, 0)) := hgb
    simp [World.shape?, h', hcl]
  by_cases hroom : n + 1 ≤ c
  · have hr' : ¬ (c : Int) < (n : Int) + 1 := by omega
    have hmn1 : Nat.min (n + 1 - i) (n - i) = n - i := by simp only [Nat.min_def]; split <;> omega
    have hcp1 : ∀ ty dc sc, (Builtin.copy_ #[68, 68] ty #[.slice (some ⟨g, (i + 1) * 2, none⟩) (n - i) dc, .slice (some ⟨g, i * 2, none⟩) (n + 1 - i) sc]).run Try.prog w.drew = .ok (goInt (Nat.min (n + 1 - i) (n - i))) (w.drew.setRow g (cl.take ((i + 1) * 2) ++ (cl.take (n * 2)).drop (i * 2) ++ cl.drop ((i + 1) * 2 + ((cl.take (n * 2)).drop (i * 2)).length)).toArray) := fun ty dc sc =>
      run_copy_rowK w.drew _ _ ty 34 g ((i + 1) * 2) (n - i) dc ⟨g, i * 2, none⟩ (n + 1 - i) sc 2 cl 34 _ Try.underlying68 hsz hgb (by rw [hdl, hmn1] <;> omega)
        (fun j u hu => by rw [Addr.add_lit]; exact hsrc _ u (by rwa [List.getElem?_drop] at hu)) (by rw [hdl]; omega) (fun u hu => HX.out u (List.mem_of_mem_drop hu))
    have hg1 := (hgb.below (below_drew w)).setRow (cl.take ((i + 1) * 2) ++ (cl.take (n * 2)).drop (i * 2) ++ cl.drop ((i + 1) * 2 + ((cl.take (n * 2)).drop (i * 2)).length))
    have ho1 : Only (fun y => some g = some y) w (w.drew.setRow g (cl.take ((i + 1) * 2) ++ (cl.take (n * 2)).drop (i * 2) ++ cl.drop ((i + 1) * 2 + ((cl.take (n * 2)).drop (i * 2)).length)).toArray) := (only_of_below (below_drew w) _).trans (only_setRow (R := fun y => some g = some y) rfl _)
    have hil := ins_list cl ys i n 2 (by rw [hcl]; omega) hi HY.out.1
    have hcl1 : (cl.take ((i + 1) * 2) ++ (cl.take (n * 2)).drop (i * 2) ++ cl.drop ((i + 1) * 2 + ((cl.take (n * 2)).drop (i * 2)).length)).length = c * 2 := by
      simp only [List.length_append, List.length_take, List.length_drop, hcl]; omega
    simp only at hil
    generalize cl.take ((i + 1) * 2) ++ (cl.take (n * 2)).drop (i * 2) ++ cl.drop ((i + 1) * 2 + ((cl.take (n * 2)).drop (i * 2)).length) = c1 at *
    generalize w.drew.setRow g c1.toArray = W1 at *
    go_enter Try.func87, Try.ntmps87
    have hov : ∀ lb cb, (callFunc 97 #[.slice (some ⟨vb, 0, none⟩) 1 1, .slice (some ⟨g, (i + 1) * 2, none⟩) lb cb]).run Try.prog w = .ok (.value (.bool false)) w := fun lb cb => by
      rw [run_callFunc_extern Try.func97 (by kernel_rfl) (by kernel_rfl) (by kernel_rfl) (e := Extern.SlicesOverlaps.overlaps #[23, 23] #[4]) (by kernel_rfl),
        Lib.run_overlaps_apart w 23 4 34 Try.underlying23 2 (fun w => by simp [Go.sizeOf, typeInfo, hti, hts]) ⟨vb, 0, none⟩ ⟨g, (i + 1) * 2, none⟩ 1 1 lb cb hgv 34 34 2 (c * 2) hsa hsb (by omega) (HB.out.free _) (HB.out.free _)]
      rfl
    have hcc : ¬ c = i + 1 := by omega
    have hw1 : IntKind.i64.wrap ((i : Int) + 1) = (i : Int) + 1 := by rw [IntKind.wrap_i64]; omega
    have hb1 : (0 : Int) ≤ (i : Int) + 1 := by omega
    have hb2 : (i : Int) + 1 ≤ (n : Int) + 1 := by omega
    have hb3 : (i : Int) ≤ (n : Int) + 1 := by omega
    have htn : ((i : Int) + 1).toNat = i + 1 := by omega
    have hnn : n + 1 - (i + 1) = n - i := by omega
    go_wp2_with (simp only [hov])
    go_region_law (refine step_copy_run rfl _ _ 68 68 rfl _ _ (by simp [Act.eval, Act.put]) (by simp [Act.eval, Act.put]) (hcp1 _ _ _) ?_)
    have hcp2 : ∀ ty, (Builtin.copy_ #[68, 23] ty #[.slice (some ⟨g, i * 2, none⟩) (n + 1 - i) (c - i), .slice (some ⟨vb, 0, none⟩) 1 1]).run Try.prog W1 = .ok (goInt (Nat.min 1 (n + 1 - i))) (W1.setRow g (c1.take (i * 2) ++ ys ++ c1.drop (i * 2 + ys.length)).toArray) := fun ty =>
      run_copy_rowK W1 _ _ ty 34 g (i * 2) (n + 1 - i) (c - i) ⟨vb, 0, none⟩ 1 1 2 c1 34 ys Try.underlying68 hsz hg1 (by rw [HY.out.1]; have : Nat.min 1 (n + 1 - i) = 1 := (by simp only [Nat.min_def]; split <;> omega); rw [this])
        (fun j u hu => by rw [Addr.add_lit, Nat.zero_add]; exact ((HB.out.to ho1 (by simpa using hgv.symm)).cell hu)) (by rw [HY.out.1, hcl1]; omega) HY.out.2
    have HF : Hid (InsPost 34 2 base ((cl.take (n * 2)).take (i * 2) ++ ys ++ (cl.take (n * 2)).drop (i * 2)) (n + 1) (.slice (some ⟨g, 0, none⟩) n c) w (.returned (.slice (some ⟨g, 0, none⟩) (n + 1) c)) (W1.setRow g (c1.take (i * 2) ++ ys ++ c1.drop (i * 2 + ys.length)).toArray)) := by
      refine ⟨_, _, rfl, ⟨?_, .inr ⟨g, c, (c1.take (i * 2) ++ ys ++ c1.drop (i * 2 + ys.length)).toArray, rfl, hbg, hg1.setRow _, hroom, by unfold maxLen; omega, ?_, by first | exact hil | simpa only [Nat.mul_one] using hil⟩⟩, grown_only (ho1.trans (only_setRow (R := fun y => some g = some y) rfl _)), .inl rfl⟩
      · simp only [List.length_append, List.length_take, List.length_drop, HY.out.1, hcl]; omega
      · simp only [List.size_toArray, List.length_append, List.length_take, List.length_drop, HY.out.1, hcl1]; omega
    generalize W1.setRow g (c1.take (i * 2) ++ ys ++ c1.drop (i * 2 + ys.length)).toArray = W2 at *
    clear hil hcl1 hg1 ho1 hcp1 hov
    go_wp2_with (at_builtin; refine wpList_copy_run _ rfl _ _ 68 23 rfl _ _ rfl rfl (hcp2 _) ?_)
    go_ret
    exact HF.out
  · have hr' : (c : Int) < (n : Int) + 1 := by omega
    have hkk : (n : Int) + 1 - (i : Int) = ((n + 1 - i : Nat) : Int) := by omega
    have hik : i + (n + 1 - i) = n + 1 := by omega
    have hold : (Builtin.firstCells ti.size i (.slice (some ⟨g, 0, none⟩) i c)).run Try.prog w.drew = .ok ((cl.take (n * 2)).take (i * 2)).toArray w.drew := by
      rw [hts]
      refine run_firstCells_some w.drew 2 i ⟨g, 0, none⟩ i c _ (by rw [List.length_take, hxl]; omega) (fun j u hu => ?_)
      rw [Addr.add_lit, Nat.zero_add]
      rw [List.getElem?_take] at hu
      split at hu
      · exact hsrc j u hu
      · cases hu
    have hrz : ∀ ty, (Builtin.append_ #[68, 3] ty #[.slice (some ⟨g, 0, none⟩) i c, .int .i64 ((n : Int) + 1 - (i : Int))]).run Try.prog w =
        .ok (.slice (some ⟨w.heap.size, 0, none⟩) (n + 1) (grownCap w (n + 1) c 34)) (w.drew.alloc (.cells (((cl.take (n * 2)).take (i * 2)).toArray ++ Builtin.zeroCells (Value.agg #[.string ⟨#[]⟩, .string ⟨#[]⟩]).cells (n + 1 - i) ++ Builtin.zeroCells (Value.agg #[.string ⟨#[]⟩, .string ⟨#[]⟩]).cells (grownCap w (n + 1) c 34 - (n + 1))) 34)) := fun ty => by
      have h := Lib.run_append_grow_zeros w 68 3 ty 34 ti _ .i64 .i64 Try.underlying68 Try.underlying3 hti htz (some ⟨g, 0, none⟩) i c ((cl.take (n * 2)).take (i * 2)) hold (n + 1 - i) (by omega) (by omega) (by omega) (by omega) (by rw [htb]; omega) (by rw [htb, hik]; exact growslice_fits (by omega) (by omega))
      rw [hik] at h
      rw [hkk]
      exact h
    have hGn : n + 1 ≤ grownCap w (n + 1) c 34 := grownCap_ge w _ _ _
    have hG63 : grownCap w (n + 1) c 34 ≤ 9223372036854775807 := by
      have := grownCap_le_maxLen w (n + 1) c 34 (by unfold maxLen; omega)
      unfold maxLen at this
      omega
    generalize grownCap w (n + 1) c 34 = G at *
    obtain ⟨Z, hZ⟩ : ∃ Z : List Value, Z = (Builtin.zeroCells (Value.agg #[.string ⟨#[]⟩, .string ⟨#[]⟩]).cells (n + 1 - i)).toList ++ (Builtin.zeroCells (Value.agg #[.string ⟨#[]⟩, .string ⟨#[]⟩]).cells (G - (n + 1))).toList := ⟨_, rfl⟩
    have hZl : Z.length = (n + 1 - i) * 2 + (G - (n + 1)) * 2 := by rw [hZ]; simp [Builtin.zeroCells, Value.cells]
    have hK0 : Bk (w.drew.alloc (.cells (((cl.take (n * 2)).take (i * 2)).toArray ++ Builtin.zeroCells (Value.agg #[.string ⟨#[]⟩, .string ⟨#[]⟩]).cells (n + 1 - i) ++ Builtin.zeroCells (Value.agg #[.string ⟨#[]⟩, .string ⟨#[]⟩]).cells (G - (n + 1))) 34)) w.heap.size 34 ((cl.take (n * 2)).take (i * 2) ++ Z) := by
      have := Bk.new w.drew 34 ((cl.take (n * 2)).take (i * 2) ++ Z)
      have e : ((cl.take (n * 2)).take (i * 2) ++ Z).toArray = ((cl.take (n * 2)).take (i * 2)).toArray ++ Builtin.zeroCells (Value.agg #[.string ⟨#[]⟩, .string ⟨#[]⟩]).cells (n + 1 - i) ++ Builtin.zeroCells (Value.agg #[.string ⟨#[]⟩, .string ⟨#[]⟩]).cells (G - (n + 1)) := by
        rw [hZ]
        apply Array.ext'
        simp
      rw [e] at this
      exact this
    have hb0 : Below w.heap.size w (w.drew.alloc (.cells (((cl.take (n * 2)).take (i * 2)).toArray ++ Builtin.zeroCells (Value.agg #[.string ⟨#[]⟩, .string ⟨#[]⟩]).cells (n + 1 - i) ++ Builtin.zeroCells (Value.agg #[.string ⟨#[]⟩, .string ⟨#[]⟩]).cells (G - (n + 1))) 34)) := Below.then' (below_drew w) (below_new (Below.refl _ _)) (Nat.le_refl _)
    generalize w.drew.alloc (.cells (((cl.take (n * 2)).take (i * 2)).toArray ++ Builtin.zeroCells (Value.agg #[.string ⟨#[]⟩, .string ⟨#[]⟩]).cells (n + 1 - i) ++ Builtin.zeroCells (Value.agg #[.string ⟨#[]⟩, .string ⟨#[]⟩]).cells (G - (n + 1))) 34) = W0 at *
    clear hZ hold
    have hAl : ((cl.take (n * 2)).take (i * 2)).length = i * 2 := by rw [List.length_take, hxl]; omega
    have hEA : ((cl.take (n * 2)).take (i * 2) ++ Z).take (i * 2) ++ ys ++ ((cl.take (n * 2)).take (i * 2) ++ Z).drop (i * 2 + ys.length) = (cl.take (n * 2)).take (i * 2) ++ ys ++ Z.drop 2 := by
      rw [take_at hAl, drop_at hAl, HY.out.1]
    have hcpA : ∀ ty, (Builtin.copy_ #[68, 23] ty #[.slice (some ⟨w.heap.size, i * 2, none⟩) (n + 1 - i) (G - i), .slice (some ⟨vb, 0, none⟩) 1 1]).run Try.prog W0 = .ok (goInt (Nat.min 1 (n + 1 - i))) (W0.setRow w.heap.size ((cl.take (n * 2)).take (i * 2) ++ ys ++ Z.drop 2).toArray) := fun ty => by
      rw [← hEA]
      exact run_copy_rowK W0 _ _ ty 34 w.heap.size (i * 2) (n + 1 - i) (G - i) ⟨vb, 0, none⟩ 1 1 2 _ 34 ys Try.underlying68 hsz hK0 (by rw [HY.out.1]; have : Nat.min 1 (n + 1 - i) = 1 := (by simp only [Nat.min_def]; split <;> omega); rw [this])
        (fun j u hu => by rw [Addr.add_lit, Nat.zero_add]; exact ((HB.out.below hb0).cell hu)) (by rw [HY.out.1, List.length_append, hAl, hZl]; omega) HY.out.2
    have hK1 := hK0.setRow ((cl.take (n * 2)).take (i * 2) ++ ys ++ Z.drop 2)
    have hb1 : Below w.heap.size w (W0.setRow w.heap.size ((cl.take (n * 2)).take (i * 2) ++ ys ++ Z.drop 2).toArray) := hb0.trans ((only_setRow (R := fun y => y = w.heap.size) rfl _).below hb0.size (fun b h1 h2 => by omega))
    generalize W0.setRow w.heap.size ((cl.take (n * 2)).take (i * 2) ++ ys ++ Z.drop 2).toArray = W1 at *
    have hEB : ((cl.take (n * 2)).take (i * 2) ++ ys ++ Z.drop 2).take ((i + 1) * 2) ++ (cl.take (n * 2)).drop (i * 2) ++ ((cl.take (n * 2)).take (i * 2) ++ ys ++ Z.drop 2).drop ((i + 1) * 2 + ((cl.take (n * 2)).drop (i * 2)).length) = (cl.take (n * 2)).take (i * 2) ++ ys ++ (cl.take (n * 2)).drop (i * 2) ++ Z.drop (2 + (n - i) * 2) := by
      have hl2 : ((cl.take (n * 2)).take (i * 2) ++ ys).length = (i + 1) * 2 := by rw [List.length_append, hAl, HY.out.1] <;> omega
      rw [take_at hl2, drop_at hl2, List.drop_drop, hdl]
    have hcpB : ∀ ty, (Builtin.copy_ #[68, 68] ty #[.slice (some ⟨w.heap.size, (i + 1) * 2, none⟩) (n - i) (G - (i + 1)), .slice (some ⟨g, i * 2, none⟩) (n - i) (c - i)]).run Try.prog W1.drew = .ok (goInt (Nat.min (n - i) (n - i))) (W1.drew.setRow w.heap.size ((cl.take (n * 2)).take (i * 2) ++ ys ++ (cl.take (n * 2)).drop (i * 2) ++ Z.drop (2 + (n - i) * 2)).toArray) := fun ty => by
      rw [← hEB]
      exact run_copy_rowK W1.drew _ _ ty 34 w.heap.size ((i + 1) * 2) (n - i) (G - (i + 1)) ⟨g, i * 2, none⟩ (n - i) (c - i) 2 _ 34 _ Try.underlying68 hsz (hK1.below (below_drew _)) (by rw [hdl] <;> simp)
        (fun j u hu => by rw [Addr.add_lit]; exact bk_take ((hgb.below hb1).below (below_drew _)) (by rwa [List.getElem?_drop] at hu))
        (by simp only [List.length_append, List.length_drop, hAl, HY.out.1, hZl, hxl]; omega) (fun u hu => HX.out u (List.mem_of_mem_drop hu))
    have HF : Hid (InsPost 34 2 base ((cl.take (n * 2)).take (i * 2) ++ ys ++ (cl.take (n * 2)).drop (i * 2)) (n + 1) (.slice (some ⟨g, 0, none⟩) n c) w (.returned (.slice (some ⟨w.heap.size, 0, none⟩) (n + 1) G)) (W1.drew.setRow w.heap.size ((cl.take (n * 2)).take (i * 2) ++ ys ++ (cl.take (n * 2)).drop (i * 2) ++ Z.drop (2 + (n - i) * 2)).toArray)) := by
      refine ⟨_, _, rfl, ⟨?_, .inr ⟨w.heap.size, G, _, rfl, hbase, (hK1.below (below_drew _)).setRow _, hGn, by unfold maxLen; omega, ?_, ?_⟩⟩, ?_, .inr ⟨_, rfl, Nat.le_refl _⟩⟩
      · simp only [List.length_append, hAl, HY.out.1, hdl]; omega
      · simp only [List.size_toArray, List.length_append, List.length_drop, hAl, HY.out.1, hZl, hxl]; omega
      · try rw [Nat.mul_one (n + 1)]
        show ((cl.take (n * 2)).take (i * 2) ++ ys ++ (cl.take (n * 2)).drop (i * 2) ++ Z.drop (2 + (n - i) * 2)).take ((n + 1) * 2) = _
        have hl3 : ((cl.take (n * 2)).take (i * 2) ++ ys ++ (cl.take (n * 2)).drop (i * 2)).length = (n + 1) * 2 := by simp only [List.length_append, hAl, HY.out.1, hdl]; omega
        rw [List.take_append_of_le_length (by omega), List.take_of_length_le (by omega)]
      · have hb2 := hb1.trans (((only_of_below (below_drew W1) _).trans (only_setRow (R := fun y => y = w.heap.size) rfl ((cl.take (n * 2)).take (i * 2) ++ ys ++ (cl.take (n * 2)).drop (i * 2) ++ Z.drop (2 + (n - i) * 2)).toArray)).below hb1.size (fun b h1 h2 => by omega))
        exact ⟨hb2.os, hb2.tape, hb2.output, hb2.size, fun k hk _ => hb2.block k hk⟩
    generalize W1.drew.setRow w.heap.size ((cl.take (n * 2)).take (i * 2) ++ ys ++ (cl.take (n * 2)).drop (i * 2) ++ Z.drop (2 + (n - i) * 2)).toArray = W2 at *
    have hGi : ¬ G = i := by omega
    have hGi1 : ¬ G = i + 1 := by omega
    have hw1 : IntKind.i64.wrap ((i : Int) + 1) = (i : Int) + 1 := by rw [IntKind.wrap_i64]; omega
    have hbb1 : (0 : Int) ≤ (i : Int) + 1 := by omega
    have hbb2 : (i : Int) + 1 ≤ (n : Int) + 1 := by omega
    have hbb3 : (i : Int) ≤ (n : Int) + 1 := by omega
    have htn : ((i : Int) + 1).toNat = i + 1 := by omega
    have hnn : n + 1 - (i + 1) = n - i := by omega
    clear hEA hEB hK0 hK1 hb0 hb1 hkk hik hsrc
    go_enter Try.func87, Try.ntmps87
    go_wp2_with (first
      | (at_builtin; refine Lib.wpList_append_run _ rfl _ _ _ _ rfl _ _ rfl rfl _ _ (hrz _) ?_)
      | (at_builtin; refine wpList_copy_run _ rfl _ _ 68 23 rfl _ _ rfl rfl (hcpA _) ?_))
    go_region_law (refine step_copy_run rfl _ _ 68 68 rfl _ _ (by simp [Act.eval, Act.put]) (by simp [Act.eval, Act.put]) (hcpB _) ?_)
    go_wp2
    go_ret
    exact HF.out
end Go.Proofs.Ytjbamfgfgbmieaa
/-
  The program's sorted list: slices.Delete of one pair.
-/
namespace Go.Proofs.Ytjbamfgfgbmieaa
open Go.RowKit
theorem run_clearS (ty : TypeId) (w : World) (b o c : Nat) (hc : ∀ j, j < 2 → (w.cell? ⟨b, o + j, none⟩).isSome = true) (hf : ∀ j, j < 2 → w.frozen? ⟨b, o + j, none⟩ = false) :
    (Builtin.clear_ #[68] ty #[.slice (some ⟨b, o, none⟩) 1 c]).run Try.prog w = .ok (.tuple #[]) (w.setCells b o [.string ⟨#[]⟩, .string ⟨#[]⟩]) := by
  have hv : (zeroValue 34).run Try.prog w = .ok (.agg #[.string ⟨#[]⟩, .string ⟨#[]⟩]) w := by go_simp
  have hst := run_storeCells_cells (P := Try.prog) b o [.string ⟨#[]⟩, .string ⟨#[]⟩] 0 w (by simpa using hc) (by simpa using hf) (by intro v hv'; simp at hv'; subst hv'; rfl)
  simp only [Nat.add_zero] at hst
  have hzc : (Builtin.zeroCells (Value.cells (.agg #[.string ⟨#[]⟩, .string ⟨#[]⟩])) 1).toList = [.string ⟨#[]⟩, .string ⟨#[]⟩] := by
    simp [Builtin.zeroCells, Value.cells]
    try rfl
  simp [Builtin.clear_, run_underlying Try.underlying68, hv, hzc, hst]
set_option maxHeartbeats 2000000 in
set_option maxRecDepth 20000 in
theorem deleteS_any (v : Value) (n i base : Nat) (xs : List Value) (w : World) (hO : w.ownsRow base 34 2 v (n + 1) xs) (hi : i ≤ n) (hn : n ≤ 1048576) (h1x : ∀ u ∈ xs, u.oneCell' = true) :
    Calls Try.prog 88 #[v, .int .i64 (i : Int), .int .i64 ((i : Int) + 1)] w fun e w' => DelPost 34 2 base (xs.take (i * 2) ++ xs.drop ((i + 1) * 2)) n v w e w' := by
  obtain ⟨ti, hti, htz, hts, htb⟩ := info_of infoPairI
  obtain ⟨hxl, hO2⟩ := hO
  rcases hO2 with ⟨_, h0⟩ | ⟨g, c, cur, rfl, hg0, hg, hnc, hcm, hcs, htk⟩
  · omega
  have hB : Bk w g 34 cur.toList := by show _ = _; simpa using hg
  have hcl : cur.toList.length = c * 2 := by simpa using hcs
  generalize cur.toList = cl at *
  unfold maxLen at hcm
  have HDL : Hid ((setL (setL cl (i * 2) (xs.drop ((i + 1) * 2))) (n * 2) [.string ⟨#[]⟩, .string ⟨#[]⟩]).take (n * 2) = xs.take (i * 2) ++ xs.drop ((i + 1) * 2)) := by
    have := del_list cl xs [.string ⟨#[]⟩, .string ⟨#[]⟩] i (n + 1) 2 (by omega) (by omega) htk
    show _ = _
    simpa using this
  have hxd : (xs.drop ((i + 1) * 2)).length = (n - i) * 2 := by rw [List.length_drop, hxl]; omega
  have KB := hid (hB.below (below_drew w))
  have K2 := hid (bk_setL (xs.drop ((i + 1) * 2)) (i * 2) _ _ KB.out)
  have K3 := hid (bk_setL [.string ⟨#[]⟩, .string ⟨#[]⟩] (n * 2) _ _ K2.out)
  have HXD := hid hxd
  have HXL := hid hxl
  have H1X := hid h1x
  have hi1 : (i : Int) + 1 ≤ (n : Int) + 1 := by omega
  have hi2 : (0 : Int) ≤ (i : Int) := by omega
  have hi3 : (i : Int) ≤ (c : Int) := by omega
  have hi4 : (n : Int) + 1 ≤ (c : Int) := by omega
  have hi5 : (i : Int) + 1 ≤ (c : Int) := by omega
  have hi6 : (i : Int) ≤ 1048576 := by omega
  have hi7 : ¬ (i : Int) = (i : Int) + 1 := by omega
  have hi8 : (n : Int) ≤ 1048576 := by omega
  have hi9 : (0 : Int) ≤ (i : Int) + 1 := by omega
  have hia : ((i + (n - i) : Nat) : Int) = (n : Int) := by omega
  have HSP : Hid (∀ j, j < (xs.drop ((i + 1) * 2)).length → (w.drew.cell? ⟨g, 0 + i * 2 + j, none⟩).isSome = true ∧ w.drew.frozen? ⟨g, 0 + i * 2 + j, none⟩ = false) := by
    intro j hj
    rw [hxd] at hj
    have hlt : 0 + i * 2 + j < cl.length := by rw [hcl]; omega
    obtain ⟨u, hu⟩ : ∃ u, cl[0 + i * 2 + j]? = some u := ⟨cl[0 + i * 2 + j], by simp⟩
    exact ⟨by rw [KB.out.cell hu]; rfl, KB.out.free _⟩
  have HSC : Hid (∀ j u, (xs.drop ((i + 1) * 2))[j]? = some u → w.drew.cell? ((⟨g, (i + 1) * 2, none⟩ : Addr).add j) = some u) := by
    intro j u hu
    rw [Addr.add_lit]
    rw [List.getElem?_drop] at hu
    refine KB.out.cell ?_
    rw [← htk, List.getElem?_take] at hu
    split at hu
    · exact hu
    · cases hu
  have hclr := run_clearS 0 (w.drew.setCells g (i * 2) (xs.drop ((i + 1) * 2))) g (n * 2) (c - n) (fun j hj => by
    have hlt : n * 2 + j < (setL cl (i * 2) (xs.drop ((i + 1) * 2))).length := by rw [setL_length, hcl]; omega
    rw [K2.out.cell (List.getElem?_eq_getElem hlt)]; rfl) (fun j hj => K2.out.free _)
  have HFIN : Hid (DelPost 34 2 base (xs.take (i * 2) ++ xs.drop ((i + 1) * 2)) n (.slice (some ⟨g, 0, none⟩) (n + 1) c) w (.returned (.slice (some ⟨g, 0, none⟩) n c)) ((w.drew.setCells g (i * 2) (xs.drop ((i + 1) * 2))).setCells g (n * 2) [.string ⟨#[]⟩, .string ⟨#[]⟩])) := by
    refine ⟨g, c, rfl, rfl, ⟨?_, .inr ⟨g, c, (setL (setL cl (i * 2) (xs.drop ((i + 1) * 2))) (n * 2) [.string ⟨#[]⟩, .string ⟨#[]⟩]).toArray, rfl, hg0, K3.out, by omega, by unfold maxLen; omega, ?_, ?_⟩⟩, ((only_of_below (below_drew w) _).trans (only_setL (R := fun y => y = g) rfl _ _ _)).trans (only_setL (R := fun y => y = g) rfl _ _ _)⟩
    · rw [List.length_append, List.length_take, hxd, hxl]; omega
    · simp only [List.size_toArray]; rw [setL_length, setL_length, hcl]
    · simpa using HDL.out
  clear hB hxl hxd htk hcl h1x hg0 hg hcs
  by_cases hcc : c = i + 1
  · have hni : n = i := by omega
    subst hcc hni
    have hz : xs.drop ((n + 1) * 2) = [] := List.drop_eq_nil_of_le (by rw [HXL.out]; omega)
    rw [hz] at HSP HSC HXD HFIN hclr
    have HZ := hid hz
    clear hz
    have hj1 : (n : Int) ≤ (n : Int) + 1 := by omega
    have e0 : w.drew.setCells g (n * 2) [] = w.drew := rfl
    rw [e0] at hclr HFIN
    rw [show n + 1 - n = 1 by omega] at hclr
    go_enter Try.func88, Try.ntmps88
    go_wp2_with fail
    go_region_law (refine step_append_room rfl _ _ _ rfl 34 ti 2 Try.underlying68 hti hts g 0 n (n + 1) rfl ⟨g, 0, none⟩ 0 0 [] rfl rfl (fun j u hu => by simp at hu) (fun u hu => by simp at hu) (by omega) (fun j hj => by simp at hj) ?_)
    all_goals (go_wp2)
    all_goals go_ret
    all_goals (rw [HZ.out]; exact HFIN.out)
  · go_enter Try.func88, Try.ntmps88
    go_wp2_with fail
    go_region_law (refine step_append_room rfl _ _ _ rfl 34 ti 2 Try.underlying68 hti hts g 0 i c rfl ⟨g, (i + 1) * 2, none⟩ (n - i) (c - (i + 1)) (xs.drop ((i + 1) * 2)) rfl HXD.out HSC.out (fun u hu => H1X.out u (List.mem_of_mem_drop hu)) (by omega) HSP.out ?_)
    all_goals (go_wp2)
    all_goals go_ret
    all_goals exact HFIN.out
end Go.Proofs.Ytjbamfgfgbmieaa
/-
  The program's sorted list in a box: put and drop.
-/
namespace Go.Proofs.Ytjbamfgfgbmieaa
open Go.RowKit
theorem kl3 {u v : World} {a0 a1 a2 : Addr} {x0 x1 x2 : Value} (h : KL u v [(a0, x0), (a1, x1), (a2, x2)]) : v.cell? a0 = some x0 ∧ v.cell? a1 = some x1 ∧ v.cell? a2 = some x2 ∧ KL u v [(a0, x0), (a1, x1), (a2, x2)] := ⟨h.at (by simp), h.at (by simp), h.at (by simp), h⟩
theorem kl3c {u v v' : World} {a0 a1 a2 : Addr} {x0 x1 x2 : Value} (k : Below v.heap.size v v') (h : v.cell? a0 = some x0 ∧ v.cell? a1 = some x1 ∧ v.cell? a2 = some x2 ∧ KL u v [(a0, x0), (a1, x1), (a2, x2)]) : v'.cell? a0 = some x0 ∧ v'.cell? a1 = some x1 ∧ v'.cell? a2 = some x2 ∧ KL u v' [(a0, x0), (a1, x1), (a2, x2)] := kl3 (KL.call h.2.2.2 k)
theorem kl3_bel {u v : World} {a0 a1 a2 : Addr} {x0 x1 x2 : Value} (h : v.cell? a0 = some x0 ∧ v.cell? a1 = some x1 ∧ v.cell? a2 = some x2 ∧ KL u v [(a0, x0), (a1, x1), (a2, x2)]) : Below u.heap.size u v := KL.bel h.2.2.2
theorem kl3_0 {u : World} {a0 a1 a2 : Addr} {x0 x1 x2 : Value} (h0 : u.cell? a0 = some x0) (h1 : u.cell? a1 = some x1) (h2 : u.cell? a2 = some x2) : KL u u [(a0, x0), (a1, x1), (a2, x2)] := ⟨fun p hp => by
    simp only [List.mem_cons, List.not_mem_nil, or_false] at hp
    rcases hp with rfl | rfl | rfl <;> assumption, Below.refl _ _⟩
/-- Box g holds a list l of one's own. -/
structure SB (w : World) (base g : Nat) (v : Value) (l : List PB) : Prop where
  bk : Bk w g 68 [v]
  own : Ow w base v l
  ne : v.ownBlock ≠ some g
  le : base ≤ g
theorem SB.below {w w' : World} {base g : Nat} {v : Value} {l : List PB} (h : SB w base g v l) (hb : Below w.heap.size w w') : SB w' base g v l := ⟨h.bk.below hb, h.own.kept hb, h.ne, h.le⟩
def SbPost (base g : Nat) (l : List PB) (w : World) (e : Ending) (w' : World) : Prop := e = .returned (.tuple #[]) ∧ (∃ v', SB w' base g v' l) ∧ Below base w w'
set_option maxHeartbeats 4000000 in
set_option maxRecDepth 20000 in
theorem sput_any (base g : Nat) (v0 : Value) (ps : List PB) (k v : ByteArray) (w : World) (h : SB w base g v0 ps) (hbase : base ≤ w.heap.size) (ha : Asc ps) (hs : ps.length ≤ 1048576) :
    Calls Try.prog 68 #[.pointer (some ⟨g, 0, none⟩), .agg #[.string k, .string v]] w fun e w' => SbPost base g (insP ps (k, v)) w e w' := by
  have hb := below_new (o := .cells #[.string k, .string v] 34) (w := w) (Below.refl _ _)
  have HB0 := hid hb
  have KP := hid (Bk.new w 34 [.string k, .string v])
  have HA := hid ha
  obtain ⟨a, n, c, rfl, hn⟩ := h.own.shape'
  have HN : Hid (n = ps.length) := hn
  have hnn : n ≤ 1048576 := by rw [HN.out]; exact hs
  have S0 := hid (h.below hb)
  have HS0 := hid (Nat.le_trans hbase hb.size)
  have HSW := hid hbase
  have m1 := method_pair k v
  clear hb h ha hs hn hbase
  have C1 : Hid (∀ w' : World, SB w' base g (.slice a n c) ps → Calls Try.prog 86 #[.slice a n c, .string k] w' fun e w'' => e = .returned (.tuple #[.int .i64 (pos ps k : Nat), .bool (there ps k)]) ∧ Below w'.heap.size w' w'') :=
    fun w' hS => placeOf_any (fun _ => True) a n c ps k w' (hS.own.pr (fun _ _ _ _ => trivial)) HA.out hnn
  have c0 := S0.out.bk.cell (j := 0) rfl
  have p0 := KP.out.cell (j := 0) rfl
  have p1 := KP.out.cell (j := 1) rfl
  have T0 := hid (kl3_0 c0 p0 p1)
  go_enter Try.func68, Try.ntmps68
  go_wp2_with fail
  generalize hU : w.alloc (.cells #[.string k, .string v] 34) = U at *
  clear hU
  go_region_held3 (fun u => u.cell? ⟨g, 0, none⟩ = some (.slice a n c) ∧ u.cell? ⟨w.heap.size, 0, none⟩ = some (.string k) ∧ u.cell? ⟨w.heap.size, 1, none⟩ = some (.string v) ∧ KL U u [(⟨g, 0, none⟩, .slice a n c), (⟨w.heap.size, 0, none⟩, .string k), (⟨w.heap.size, 1, none⟩, .string v)])
    (first | assumption | exact kl3 (T0.out.call (below_drew _)) | exact kl3c hbC (by assumption))
    (first
      | (go_at_call 121; refine (pkey_any k v _).mono ?_; rintro e w' ⟨rfl, hbC⟩)
      | (go_at_call 86; refine (C1.out _ (S0.out.below (kl3_bel (by assumption)))).mono ?_; rintro e w' ⟨rfl, hbC⟩))
  rename_i hS
  have hb := kl3_bel hS
  have SB1 := hid (S0.out.below hb)
  have KP1 := hid (KP.out.below hb)
  have HB1 := hid (HB0.out.trans (hb.mono HB0.out.size))
  have HS1 := hid (Nat.le_trans HS0.out hb.size)
  have HW1 := hid (Nat.le_trans HB0.out.size hb.size)
  clear hb hS T0 C1 c0 p0 p1 m1 S0 KP HB0 HS0
  clear hbC
  have c0 := SB1.out.bk.cell (j := 0) rfl
  have f0 := SB1.out.bk.free 0
  have p0 := KP1.out.cell (j := 0) rfl
  have p1 := KP1.out.cell (j := 1) rfl
  cases hth : there ps k with
  | true =>
    have hlt := (of_decide_eq_true hth).1
    have HI : Hid (insP ps (k, v) = ps.set (pos ps k) (k, v)) := by show _ = _; rw [insP, if_pos hth]
    obtain ⟨y, cap, cur, e, hyb, hg, hnc, hcm, hcs, htk⟩ : ∃ y cap cur, Value.slice a n c = .slice (some ⟨y, 0, none⟩) ps.length cap ∧ base ≤ y ∧ w'.heap[y]? = some (.cells cur 34 (0, 0)) ∧ ps.length ≤ cap ∧ cap ≤ maxLen ∧ cur.size = cap * 2 ∧ cur.toList.take (ps.length * 2) = pcs ps := by
      rcases SB1.out.own.2 with ⟨_, h0⟩ | h
      · omega
      · exact h
    cases e
    unfold maxLen at hcm
    have hgb : Bk w' y 34 cur.toList := by show _ = _; simpa using hg
    have hcl : cur.toList.length = c * 2 := by simpa using hcs
    generalize cur.toList = cl at *
    generalize hpp : pos ps k = p at *
    have hc : ∀ j u, (pcs ps)[j]? = some u → cl[j]? = some u := fun j u hu => by
      rw [← htk, List.getElem?_take] at hu
      split at hu
      · exact hu
      · cases hu
    have a0 := hgb.cell (hc _ _ (pcs_at ps p hlt).1)
    have a1 := hgb.cell (hc _ _ (pcs_at ps p hlt).2)
    have a2 := hgb.free (p * 2)
    have a3 := hgb.free (p * 2 + 1)
    have hgne : ¬ y = g := fun e => SB1.out.ne (by rw [e]; rfl)
    have hlt' : (p : Int) < (ps.length : Int) := by omega
    have hp0 : (0 : Int) ≤ (p : Int) := by omega
    have HK : Hid (SbPost base g (insP ps (k, v)) w (.returned (.tuple #[])) ((w'.setCell ⟨y, p * 2, none⟩ (.string k)).setCell ⟨y, p * 2 + 1, none⟩ (.string v)).drew) := by
      have hon : Only (fun z => z = y) w' ((w'.setCell ⟨y, p * 2, none⟩ (.string k)).setCell ⟨y, p * 2 + 1, none⟩ (.string v)).drew :=
        (((only_set (R := fun z => z = y) (p := ⟨y, p * 2, none⟩) rfl _).trans (only_set (R := fun z => z = y) (p := ⟨y, p * 2 + 1, none⟩) rfl _))).trans (only_of_below (below_drew _) _)
      refine ⟨rfl, ⟨.slice (some ⟨y, 0, none⟩) ps.length c, ?_, ?_, SB1.out.ne, SB1.out.le⟩, ?_⟩
      · exact SB1.out.bk.to hon (fun e => hgne e.symm)
      · rw [HI.out]
        refine ⟨?_, .inr ⟨y, c, ((cl.set (p * 2) (.string k)).set (p * 2 + 1) (.string v)).toArray, by rw [List.length_set], hyb, (hgb.set _ _).set _ _, ?_, ?_, ?_, ?_⟩⟩
        · rw [pcs_length]
        · rw [List.length_set]; omega
        · unfold maxLen; omega
        · simp [hcl]
        · show ((cl.set (p * 2) (.string k)).set (p * 2 + 1) (.string v)).take ((ps.set p (k, v)).length * 2) = _
          rw [List.length_set, List.take_set, List.take_set, htk]
          exact (pcs_set ps (k, v) p hlt).symm
      · exact (HB1.out.mono HSW.out).trans (hon.below HS1.out (fun b h1 h2 => by omega))
    clear hg hcs htk hc HI hgb hcl HB1 SB1 KP1
    generalize (pAtB ps p).1 = x0 at *
    generalize (pAtB ps p).2 = x1 at *
    generalize ps.length = n at *
    go_wp2_with fail
    go_region
    all_goals (go_wp2_with fail)
    all_goals go_end0
    all_goals exact HK.out
  | false =>
    have HI : Hid (insP ps (k, v) = ps.take (pos ps k) ++ [(k, v)] ++ ps.drop (pos ps k)) := by
      show _ = _
      rw [insP, if_neg (by rw [show ((k, v) : PB).1 = k from rfl, hth]; decide)]
    have hle := pos_le ps k
    generalize hpp : pos ps k = p at *
    have HIN := hid (fun (u : World) vb (hO : u.ownsRow base 34 2 (.slice a n c) n (pcs ps)) hu hB hne => insertS_any (.slice a n c) n p vb base (pcs ps) [.string k, .string v] u hO hu (by rw [HN.out]; exact hle) hnn hB rfl (pcs_one ps) (by intro z hz; simp at hz; rcases hz with rfl | rfl <;> rfl) hne)
    clear hpp hth
    have hO1 : w'.ownsRow base 34 2 (.slice a n c) n (pcs ps) := by have := SB1.out.own; unfold Ow at this; rw [HN.out]; rw [HN.out] at this; exact this
    have hbn := below_new (o := .cells #[.string k, .string v] 34) (w := w') (Below.refl _ _)
    have hbd : Below w'.heap.size w' (w'.alloc (.cells #[.string k, .string v] 34)).drew := Below.then' hbn (below_drew _) (Nat.le_refl _)
    have HC := hid (HIN.out (w'.alloc (.cells #[.string k, .string v] 34)).drew w'.heap.size (own_kept hO1 (only_of_below hbd (fun _ => False)) (fun _ _ h => h)) (Nat.le_trans HS1.out hbd.size) ((Bk.new w' 34 [.string k, .string v]).below (below_drew _)) (fun e => by have := (World.ownsRow.lt hO1 _ e).2; omega))
    have KB2 := hid (SB1.out.bk.below hbd)
    have c0a := (SB1.out.bk.below hbn).cell (j := 0) rfl
    have c0b := (SB1.out.bk.below hbd).cell (j := 0) rfl
    have HBD := hid hbd
    have HBN := hid SB1.out.ne
    have HFIN : Hid (∀ (a3 : Option Addr) (c3 : Nat) (w3 : World), w3.ownsRow base 34 2 (.slice a3 (n + 1) c3) (n + 1) ((pcs ps).take (p * 2) ++ [.string k, .string v] ++ (pcs ps).drop (p * 2)) → (w'.alloc (.cells #[.string k, .string v] 34)).drew.grownBy w3 (Value.slice a n c).ownBlock →
        ((Value.slice a3 (n + 1) c3).ownBlock = (Value.slice a n c).ownBlock ∨ ∃ q, (Value.slice a3 (n + 1) c3).ownBlock = some q ∧ (w'.alloc (.cells #[.string k, .string v] 34)).drew.heap.size ≤ q) → SbPost base g (insP ps (k, v)) w (.returned (.tuple #[])) (w3.setCell ⟨g, 0, none⟩ (.slice a3 (n + 1) c3))) := by
      intro a3 c3 w3 hO3 hg3 hw3
      rw [pcs_ins] at hO3
      have hl : (ps.take p ++ [(k, v)] ++ ps.drop p).length = n + 1 := by have := HN.out; simp only [List.length_append, List.length_take, List.length_drop, List.length_cons, List.length_nil]; omega
      have hgl : g < w'.heap.size := SB1.out.bk.lt
      have hne3 : (Value.slice a3 (n + 1) c3).ownBlock ≠ some g := by
        rcases hw3 with e | ⟨q, e, hq⟩
        · rw [e]; exact HBN.out
        · rw [e]; intro h; cases h; have := hbd.size; omega
      refine ⟨rfl, ⟨.slice a3 (n + 1) c3, (bk_grown KB2.out hg3 HBN.out).set 0 _, ?_, hne3, SB1.out.le⟩, ?_⟩
      · rw [HI.out]
        show World.ownsRow _ _ _ _ _ _ _
        rw [hl]
        exact own_kept hO3 (only_set (R := fun z => z = g) rfl _) (fun q e h => hne3 (h ▸ e))
      · have hob : Only (fun z => base ≤ z) w' (w3.setCell ⟨g, 0, none⟩ (.slice a3 (n + 1) c3)) := ((only_of_below hbd _).trans (only_of_grown hg3 (R := fun z => base ≤ z) (fun q e => (World.ownsRow.lt hO1 q e).1))).trans (only_set (R := fun z => base ≤ z) SB1.out.le _)
        exact (HB1.out.mono HSW.out).trans (hob.below HS1.out (fun b h1 h2 => by omega))
    clear hbn hbd HIN hO1 SB1 HB1 KP1 HA
    go_wp2_with fail
    go_region_with (go_at_call 87; refine HC.out.mono ?_; rintro e w3 ⟨a3, c3, rfl, hO3, hg3, hw3⟩; have e0 := (bk_grown KB2.out hg3 HBN.out).cell (j := 0) rfl; have e1 := (bk_grown KB2.out hg3 HBN.out).free 0)
    all_goals (go_wp2_with fail)
    all_goals go_end0
    all_goals exact HFIN.out _ _ _ hO3 hg3 hw3
end Go.Proofs.Ytjbamfgfgbmieaa
/-
  The program's sorted list in a box: drop.
-/
namespace Go.Proofs.Ytjbamfgfgbmieaa
open Go.RowKit
theorem SbPost.keep {base g : Nat} {v : Value} {l : List PB} {w w' : World} (h : SB w' base g v l) (hb : Below w.heap.size w w') (hbase : base ≤ w.heap.size) : SbPost base g l w (.returned (.tuple #[])) w' := ⟨rfl, ⟨v, h⟩, hb.mono hbase⟩
set_option maxHeartbeats 4000000 in
set_option maxRecDepth 20000 in
theorem sdrop_any (base g : Nat) (v0 : Value) (ps : List PB) (k : ByteArray) (w : World) (h : SB w base g v0 ps) (hbase : base ≤ w.heap.size) (ha : Asc ps) (hs : ps.length ≤ 1048576) :
    Calls Try.prog 69 #[.pointer (some ⟨g, 0, none⟩), .string k] w fun e w' => SbPost base g (delP ps k) w e w' := by
  have HA := hid ha
  obtain ⟨a, n, c, rfl, hn⟩ := h.own.shape'
  have HN : Hid (n = ps.length) := hn
  have hnn : n ≤ 1048576 := by rw [HN.out]; exact hs
  have S0 := hid h
  have HSW := hid hbase
  clear h ha hs hn hbase
  have c0 := S0.out.bk.cell (j := 0) rfl
  have HP := hid (S0.out.own.pr (S := fun _ => True) (fun _ _ _ _ => trivial))
  go_enter Try.func69, Try.ntmps69
  go_wp2_with fail
  refine (placeOf_any (fun _ => True) a n c ps k w HP.out HA.out hnn).mono ?_
  rintro e w1 ⟨rfl, hb⟩
  have S1 := hid (S0.out.below hb)
  have HB1 := hid hb
  have HS1 := hid (Nat.le_trans HSW.out hb.size)
  clear hb c0 HP S0 HA
  have c0 := S1.out.bk.cell (j := 0) rfl
  have f0 := S1.out.bk.free 0
  cases hth : there ps k with
  | false =>
    have HI : Hid (SbPost base g (delP ps k) w (.returned (.tuple #[])) w1) := by
      show SbPost _ _ _ _ _ _
      rw [delP, if_neg (by rw [hth]; simp)]
      exact SbPost.keep S1.out HB1.out HSW.out
    generalize pos ps k = p at *
    clear hth
    go_wp2
    first
      | (go_end0; exact HI.out)
      | (refine bodyPost_ret (results_none rfl _ _ _) rfl ?_; exact HI.out)
  | true =>
    have hlt := (of_decide_eq_true hth).1
    have HI : Hid (delP ps k = ps.take (pos ps k) ++ ps.drop (pos ps k + 1)) := by show _ = _; rw [delP, if_pos hth]
    obtain ⟨m, hm⟩ : ∃ m, n = m + 1 := ⟨n - 1, by have := HN.out; omega⟩
    subst hm
    have hO1 : w1.ownsRow base 34 2 (.slice a (m + 1) c) (m + 1) (pcs ps) := by have := S1.out.own; unfold Ow at this; rw [← HN.out] at this; exact this
    have HDL := hid (deleteS_any (.slice a (m + 1) c) m (pos ps k) base (pcs ps) w1 hO1 (by have := HN.out; omega) (by omega) (pcs_one ps))
    have HLT := hid hlt
    generalize hpp : pos ps k = p at *
    have hp9 : (p : Int) ≤ 1048576 := by have := HN.out; omega
    have hp0 : (0 : Int) ≤ (p : Int) := by omega
    have HO1 := hid hO1
    clear hth hpp hlt hO1
    go_wp2_with fail
    refine HDL.out.mono ?_
    rintro e w3 ⟨g3, c3, hv3, rfl, hO3, ho3⟩
    cases hv3
    have hne3 : ¬ g3 = g := fun e => S1.out.ne (by rw [e]; rfl)
    have K3 := S1.out.bk.to ho3 (fun e => hne3 e.symm)
    have HG3 := hid (World.ownsRow.lt HO1.out g3 rfl).1
    have HF : Hid (SbPost base g (delP ps k) w (.returned (.tuple #[])) (w3.setCell ⟨g, 0, none⟩ (.slice (some ⟨g3, 0, none⟩) m c))) := by
      show SbPost _ _ _ _ _ _
      rw [HI.out]
      rw [pcs_del] at hO3
      have hl : (ps.take p ++ ps.drop (p + 1)).length = m := by have := HN.out; have := HLT.out; rw [List.length_append, List.length_take, List.length_drop]; omega
      refine ⟨rfl, ⟨.slice (some ⟨g3, 0, none⟩) m c, K3.set 0 _, ?_, fun e => hne3 (by cases e; rfl), S1.out.le⟩, ?_⟩
      · show World.ownsRow _ _ _ _ _ _ _
        rw [hl]
        exact own_kept hO3 (only_set (R := fun z => z = g) rfl _) (fun q e h => hne3 (by cases e; exact h))
      · have hob : Only (fun z => base ≤ z) w1 (w3.setCell ⟨g, 0, none⟩ (.slice (some ⟨g3, 0, none⟩) m c)) := (ho3.mono (fun i _ hi => by subst hi; exact HG3.out)).trans (only_set (R := fun z => base ≤ z) S1.out.le _)
        exact (HB1.out.mono HSW.out).trans (hob.below HS1.out (fun b h1 h2 => by omega))
    have e0 := K3.cell (j := 0) rfl
    have e1 := K3.free 0
    clear hO3 ho3 K3 S1 HB1 HDL HI c0 f0
    go_wp2
    first
      | (go_end0; exact HF.out)
      | (refine bodyPost_ret (results_none rfl _ _ _) rfl ?_; exact HF.out)
end Go.Proofs.Ytjbamfgfgbmieaa
/-
  The program's asks on a sorted list in a box.
-/
namespace Go.Proofs.Ytjbamfgfgbmieaa
open Go.RowKit
theorem kl5 {u v : World} {a0 a1 a2 a3 a4 : Addr} {x0 x1 x2 x3 x4 : Value} (h : KL u v [(a0, x0), (a1, x1), (a2, x2), (a3, x3), (a4, x4)]) : v.cell? a0 = some x0 ∧ v.cell? a1 = some x1 ∧ v.cell? a2 = some x2 ∧ v.cell? a3 = some x3 ∧ v.cell? a4 = some x4 ∧ KL u v [(a0, x0), (a1, x1), (a2, x2), (a3, x3), (a4, x4)] := ⟨h.at (by simp), h.at (by simp), h.at (by simp), h.at (by simp), h.at (by simp), h⟩
theorem kl5c {u v v' : World} {a0 a1 a2 a3 a4 : Addr} {x0 x1 x2 x3 x4 : Value} (k : Below v.heap.size v v') (h : v.cell? a0 = some x0 ∧ v.cell? a1 = some x1 ∧ v.cell? a2 = some x2 ∧ v.cell? a3 = some x3 ∧ v.cell? a4 = some x4 ∧ KL u v [(a0, x0), (a1, x1), (a2, x2), (a3, x3), (a4, x4)]) : v'.cell? a0 = some x0 ∧ v'.cell? a1 = some x1 ∧ v'.cell? a2 = some x2 ∧ v'.cell? a3 = some x3 ∧ v'.cell? a4 = some x4 ∧ KL u v' [(a0, x0), (a1, x1), (a2, x2), (a3, x3), (a4, x4)] := kl5 (KL.call h.2.2.2.2.2 k)
theorem kl5_bel {u v : World} {a0 a1 a2 a3 a4 : Addr} {x0 x1 x2 x3 x4 : Value} (h : v.cell? a0 = some x0 ∧ v.cell? a1 = some x1 ∧ v.cell? a2 = some x2 ∧ v.cell? a3 = some x3 ∧ v.cell? a4 = some x4 ∧ KL u v [(a0, x0), (a1, x1), (a2, x2), (a3, x3), (a4, x4)]) : Below u.heap.size u v := KL.bel h.2.2.2.2.2
theorem kl5_0 {u : World} {a0 a1 a2 a3 a4 : Addr} {x0 x1 x2 x3 x4 : Value} (h0 : u.cell? a0 = some x0) (h1 : u.cell? a1 = some x1) (h2 : u.cell? a2 = some x2) (h3 : u.cell? a3 = some x3) (h4 : u.cell? a4 = some x4) : KL u u [(a0, x0), (a1, x1), (a2, x2), (a3, x3), (a4, x4)] := ⟨fun p hp => by
    simp only [List.mem_cons, List.not_mem_nil, or_false] at hp
    rcases hp with rfl | rfl | rfl | rfl | rfl <;> assumption, Below.refl _ _⟩
/-- What an ask leaves: what it tells, in new memory; the list behind it. -/
def RkPost (base g : Nat) (D T : List PB) (w : World) (e : Ending) (w' : World) : Prop :=
  ∃ a n c, e = .returned (.slice a n c) ∧ Rp w' w.heap.size (.slice a n c) T ∧ (∃ v', SB w' base g v' D ∧ (T ≠ [] → ∀ y, v'.ownBlock = some y → y < w.heap.size)) ∧ Below base w w'
theorem rk_nil {base g : Nat} {D : List PB} {w U w1 : World} (hU : Below w.heap.size w U) (hbase : base ≤ w.heap.size) (h : SbPost base g D U (.returned (.tuple #[])) w1) : RkPost base g D [] w (.returned (.slice none 0 0)) w1 := by
  obtain ⟨_, ⟨v', hs⟩, hb⟩ := h
  exact ⟨none, 0, 0, rfl, (ow_nil _ _).rp, ⟨v', hs, fun h => absurd rfl h⟩, (hU.mono hbase).trans hb⟩
theorem rk_read {base g : Nat} {v : Value} {D T : List PB} {w U w1 : World} {a : Option Addr} {n c : Nat} (hU : Below w.heap.size w U) (hbase : base ≤ w.heap.size) (h0 : SB w base g v D) (hb : Below U.heap.size U w1) (hR : Rp w1 w.heap.size (.slice a n c) T) : RkPost base g D T w (.returned (.slice a n c)) w1 :=
  ⟨a, n, c, rfl, hR, ⟨v, (h0.below hU).below hb, fun _ y hy => (World.ownsRow.lt h0.own y hy).2⟩, (hU.trans (hb.mono hU.size)).mono hbase⟩
set_option maxHeartbeats 4000000 in
set_option maxRecDepth 20000 in
theorem runAsk_any (base g : Nat) (v0 : Value) (l : List PB) (k : Int) (ky vl lo hi : ByteArray) (mo : Int) (bk : Bool) (w : World) (h : SB w base g v0 l) (hbase : base ≤ w.heap.size) (hd : daOk l = true) (hs : l.length ≤ 1048576) (hk : akOk k ky vl lo hi mo bk = true) :
    Calls Try.prog 36 #[.pointer (some ⟨g, 0, none⟩), .agg #[.int .i64 k, .string ky, .string vl, .string lo, .string hi, .int .i64 mo, .bool bk]] w fun e w' => RkPost base g (raD l k ky vl) (raT l k ky lo hi mo bk) w e w' := by
  have hb := below_new (o := .cells #[.int .i64 k, .string ky, .string vl, .string lo, .string hi, .int .i64 mo, .bool bk] 27) (w := w) (Below.refl _ _)
  have HB0 := hid hb
  have K0 := hid (Bk.new w 27 [.int .i64 k, .string ky, .string vl, .string lo, .string hi, .int .i64 mo, .bool bk])
  have S0 := hid (h.below hb)
  have S00 := hid h
  have HBA := hid hbase
  have HBU := hid (Nat.le_trans hbase hb.size)
  have HD := hid hd
  have HL := hid hs
  have HK := hid hk
  obtain ⟨a, n, c, rfl, hn⟩ := h.own.shape'
  have HN : Hid (n = l.length) := hn
  have hnn : n ≤ 1048576 := by rw [HN.out]; exact HL.out
  clear hb h hbase hd hs hk hn
  rcases ak_kind HK.out with rfl | rfl | rfl | rfl
  · have HG := hid (ak_get HK.out (.inl rfl))
    have HT : Hid (raT l 1 ky lo hi mo bk = scV l (ptLo ky) (ptHi ky) 1 false) := (get_eq HD.out HG.out.1).symm
    have HDD : Hid (raD l 1 ky vl = l) := rfl
    have C1 : Hid (∀ u, Calls Try.prog 67 #[.string ky] u fun e w' => e = .returned (.agg #[.string (ptLo ky), .string (ptHi ky)]) ∧ Below u.heap.size u w') := fun u => implPointOf_any ky u
    have C2 : Hid (∀ u : World, SB u base g (.slice a n c) l → Calls Try.prog 66 #[.slice a n c, .agg #[.string (ptLo ky), .string (ptHi ky)], .int .i64 1, .bool false] u fun e w' => RpPost u.heap.size (scV l (ptLo ky) (ptHi ky) 1 false) u e w') := fun u hu => sread_any (fun _ => True) a n c l _ _ 1 false u (hu.own.pr (fun _ _ _ _ => trivial)) HD.out hnn (pt_ok (uOk_kOk HG.out.1)) (by omega)
    have c0 := S0.out.bk.cell (j := 0) rfl
    have k0 := K0.out.cell (j := 0) rfl
    have k1 := K0.out.cell (j := 1) rfl
    have k2 := K0.out.cell (j := 2) rfl
    have k3 := K0.out.cell (j := 3) rfl
    have k4 := K0.out.cell (j := 4) rfl
    have k5 := K0.out.cell (j := 5) rfl
    have k6 := K0.out.cell (j := 6) rfl
    have T0 := hid (kl2_0 c0 k1)
    go_enter Try.func36, Try.ntmps36
    go_wp2_with fail
    generalize hU : w.alloc (.cells #[.int .i64 1, .string ky, .string vl, .string lo, .string hi, .int .i64 mo, .bool bk] 27) = U at *
    clear hU k0 k2 k3 k4 k5 k6
    go_region_held3 (fun u => u.cell? ⟨g, 0, none⟩ = some (.slice a n c) ∧ u.cell? ⟨w.heap.size, 1, none⟩ = some (.string ky) ∧ KL U u [(⟨g, 0, none⟩, .slice a n c), (⟨w.heap.size, 1, none⟩, .string ky)])
      (first | assumption | exact kl2 (T0.out.call (below_drew _)) | exact kl2c hbC (by assumption))
      (first
        | (go_at_call 67; refine (C1.out _).mono ?_; rintro e w' ⟨rfl, hbC⟩)
        | (go_at_call 66; have hz := (kl2_bel (by assumption)).size; refine (C2.out _ (S0.out.below (kl2_bel (by assumption)))).mono ?_; rintro e w' ⟨a2, n2, c2, rfl, hR, hbC0⟩; have hbC := hbC0))
    rename_i hS
    have HF := hid (rk_read HB0.out HBA.out S00.out (kl2_bel hS) (own_mono_rp' hR (Nat.le_trans HB0.out.size hz)))
    clear hS hR hbC hbC0 hz T0 c0 k1 C1 C2 S0 S00 HB0
    go_wp2
    go_ret
    rw [HT.out, HDD.out]
    exact HF.out
  · have HG := hid (ak_get HK.out (.inr (.inl rfl)))
    have HT : Hid (raT l 2 ky lo hi mo bk = []) := rfl
    have HDD : Hid (raD l 2 ky vl = insP l (ky, vl)) := rfl
    have c0 := S0.out.bk.cell (j := 0) rfl
    have k0 := K0.out.cell (j := 0) rfl
    have k1 := K0.out.cell (j := 1) rfl
    have k2 := K0.out.cell (j := 2) rfl
    have k3 := K0.out.cell (j := 3) rfl
    have k4 := K0.out.cell (j := 4) rfl
    have k5 := K0.out.cell (j := 5) rfl
    have k6 := K0.out.cell (j := 6) rfl
    go_enter Try.func36, Try.ntmps36
    go_wp2_with fail
    refine (sput_any base g _ l ky vl _ S0.out HBU.out (daOk_asc HD.out) HL.out).mono ?_
    rintro e w1 hp
    obtain rfl : e = .returned (.tuple #[]) := hp.1
    have HF := hid (rk_nil HB0.out HBA.out hp)
    clear hp c0 k0 k1 k2 k3 k4 k5 k6 S0 S00 HB0
    go_wp2
    go_ret
    rw [HT.out, HDD.out]
    exact HF.out
  · have HG := hid (ak_get HK.out (.inr (.inr rfl)))
    have HT : Hid (raT l 3 ky lo hi mo bk = []) := rfl
    have HDD : Hid (raD l 3 ky vl = delP l ky) := rfl
    have c0 := S0.out.bk.cell (j := 0) rfl
    have k0 := K0.out.cell (j := 0) rfl
    have k1 := K0.out.cell (j := 1) rfl
    have k2 := K0.out.cell (j := 2) rfl
    have k3 := K0.out.cell (j := 3) rfl
    have k4 := K0.out.cell (j := 4) rfl
    have k5 := K0.out.cell (j := 5) rfl
    have k6 := K0.out.cell (j := 6) rfl
    go_enter Try.func36, Try.ntmps36
    go_wp2_with fail
    refine (sdrop_any base g _ l ky _ S0.out HBU.out (daOk_asc HD.out) HL.out).mono ?_
    rintro e w1 hp
    obtain rfl : e = .returned (.tuple #[]) := hp.1
    have HF := hid (rk_nil HB0.out HBA.out hp)
    clear hp c0 k0 k1 k2 k3 k4 k5 k6 S0 S00 HB0
    go_wp2
    go_ret
    rw [HT.out, HDD.out]
    exact HF.out
  · have HG := hid (ak_scan HK.out)
    have HT : Hid (raT l 4 ky lo hi mo bk = scV l lo hi mo bk) := rfl
    have HDD : Hid (raD l 4 ky vl = l) := rfl
    have C2 : Hid (∀ u : World, SB u base g (.slice a n c) l → Calls Try.prog 66 #[.slice a n c, .agg #[.string lo, .string hi], .int .i64 mo, .bool bk] u fun e w' => RpPost u.heap.size (scV l lo hi mo bk) u e w') := fun u hu => sread_any (fun _ => True) a n c l _ _ mo bk u (hu.own.pr (fun _ _ _ _ => trivial)) HD.out hnn HG.out.1 HG.out.2
    have c0 := S0.out.bk.cell (j := 0) rfl
    have k0 := K0.out.cell (j := 0) rfl
    have k1 := K0.out.cell (j := 1) rfl
    have k2 := K0.out.cell (j := 2) rfl
    have k3 := K0.out.cell (j := 3) rfl
    have k4 := K0.out.cell (j := 4) rfl
    have k5 := K0.out.cell (j := 5) rfl
    have k6 := K0.out.cell (j := 6) rfl
    have T0 := hid (kl5_0 c0 k3 k4 k5 k6)
    go_enter Try.func36, Try.ntmps36
    go_wp2_with fail
    generalize hU : w.alloc (.cells #[.int .i64 4, .string ky, .string vl, .string lo, .string hi, .int .i64 mo, .bool bk] 27) = U at *
    clear hU k0 k1 k2
    go_region_held3 (fun u => u.cell? ⟨g, 0, none⟩ = some (.slice a n c) ∧ u.cell? ⟨w.heap.size, 3, none⟩ = some (.string lo) ∧ u.cell? ⟨w.heap.size, 4, none⟩ = some (.string hi) ∧ u.cell? ⟨w.heap.size, 5, none⟩ = some (.int .i64 mo) ∧ u.cell? ⟨w.heap.size, 6, none⟩ = some (.bool bk) ∧ KL U u [(⟨g, 0, none⟩, .slice a n c), (⟨w.heap.size, 3, none⟩, .string lo), (⟨w.heap.size, 4, none⟩, .string hi), (⟨w.heap.size, 5, none⟩, .int .i64 mo), (⟨w.heap.size, 6, none⟩, .bool bk)])
      (first | assumption | exact kl5 (T0.out.call (below_drew _)) | exact kl5c hbC (by assumption))
      (first | (go_at_call 66; have hz := (kl5_bel (by assumption)).size; refine (C2.out _ (S0.out.below (kl5_bel (by assumption)))).mono ?_; rintro e w' ⟨a2, n2, c2, rfl, hR, hbC⟩))
    rename_i hS
    have HF := hid (rk_read HB0.out HBA.out S00.out (kl5_bel hS) (own_mono_rp' hR (Nat.le_trans HB0.out.size hz)))
    clear hS hR hbC hz T0 c0 k3 k4 k5 k6 C2 S0 S00 HB0
    go_wp2
    go_ret
    rw [HT.out, HDD.out]
    exact HF.out
end Go.Proofs.Ytjbamfgfgbmieaa
/-
  RunAsk of the program.
-/
namespace Go.Proofs.Ytjbamfgfgbmieaa
open Go.RowKit
def raK (l : List PB) (k : Int) (ky vl lo hi : ByteArray) (mo : Int) (bk : Bool) : Bool := daOk l && akOk k ky vl lo hi mo bk
def raDo (l : List PB) (k : Int) (ky vl lo hi : ByteArray) (mo : Int) (bk : Bool) : List PB := if raK l k ky vl lo hi mo bk = true then raD l k ky vl else []
def raTo (l : List PB) (k : Int) (ky vl lo hi : ByteArray) (mo : Int) (bk : Bool) : List PB := if raK l k ky vl lo hi mo bk = true then raT l k ky lo hi mo bk else []
theorem raDo_len (l : List PB) (k : Int) (ky vl lo hi : ByteArray) (mo : Int) (bk : Bool) : (raDo l k ky vl lo hi mo bk).length ≤ l.length + 1 := by
  unfold raDo
  split
  · exact raD_len _ _ _ _
  · simp
theorem raTo_len (l : List PB) (k : Int) (ky vl lo hi : ByteArray) (mo : Int) (bk : Bool) : (raTo l k ky vl lo hi mo bk).length ≤ 8 := by
  unfold raTo raK
  split
  · rename_i h
    rw [Bool.and_eq_true] at h
    exact raT_len h.1 h.2
  · simp
theorem ow_mono {w : World} {base base' : Nat} {v : Value} {l : List PB} (h : Ow w base v l) (hb : base' ≤ base) : Ow w base' v l := by
  refine ⟨h.1, h.2.imp id ?_⟩
  rintro ⟨g, cap, cur, k1, k2, k3⟩
  exact ⟨g, cap, cur, k1, by omega, k3⟩
/-- What RunAsk leaves: the data, and behind it what is told; the truth of it. -/
def RaPost (ok : Bool) (D T : List PB) (w : World) (e : Ending) (w' : World) : Prop :=
  ∃ a n c a2 n2 c2, e = .returned (.tuple #[.slice a n c, .slice a2 n2 c2, .bool ok]) ∧ Ow w' w.heap.size (.slice a n c) D ∧ (∃ B2, w.heap.size ≤ B2 ∧ Rp w' B2 (.slice a2 n2 c2) T ∧ (T ≠ [] → ∀ y, (Value.slice a n c).ownBlock = some y → y < B2)) ∧ Below w.heap.size w w'
theorem ra_no {w w' : World} (hb : Below w.heap.size w w') : RaPost false [] [] w (.returned (.tuple #[.slice none 0 0, .slice none 0 0, .bool false])) w' := ⟨none, 0, 0, none, 0, 0, rfl, ow_nil _ _, ⟨w.heap.size, Nat.le_refl _, (ow_nil _ _).rp, fun h => absurd rfl h⟩, hb⟩
set_option maxHeartbeats 4000000 in
set_option maxRecDepth 20000 in
theorem implRunAsk_any (S : Nat → Prop) (a : Option Addr) (n c : Nat) (l : List PB) (k : Int) (ky vl lo hi : ByteArray) (mo : Int) (bk : Bool) (w : World) (h : Pr w S (.slice a n c) l) (hs : n ≤ 1048576) :
    Calls Try.prog 7 #[.slice a n c, .agg #[.int .i64 k, .string ky, .string vl, .string lo, .string hi, .int .i64 mo, .bool bk]] w fun e w' => RaPost (raK l k ky vl lo hi mo bk) (raDo l k ky vl lo hi mo bk) (raTo l k ky vl lo hi mo bk) w e w' := by
  have hb := below_new (o := .cells #[.int .i64 k, .string ky, .string vl, .string lo, .string hi, .int .i64 mo, .bool bk] 27) (w := w) (Below.refl _ _)
  have HB0 := hid hb
  have K0 := hid (Bk.new w 27 [.int .i64 k, .string ky, .string vl, .string lo, .string hi, .int .i64 mo, .bool bk])
  have P0 := hid (h.below' hb)
  have HN := hid (Rw.len h).1
  clear hb h
  have k0 := K0.out.cell (j := 0) rfl
  have k1 := K0.out.cell (j := 1) rfl
  have k2 := K0.out.cell (j := 2) rfl
  have k3 := K0.out.cell (j := 3) rfl
  have k4 := K0.out.cell (j := 4) rfl
  have k5 := K0.out.cell (j := 5) rfl
  have k6 := K0.out.cell (j := 6) rfl
  go_enter Try.func7, Try.ntmps7
  go_wp2_with fail
  refine (implDataOk_at S a n c l _ P0.out hs).mono ?_
  generalize w.alloc (.cells #[.int .i64 k, .string ky, .string vl, .string lo, .string hi, .int .i64 mo, .bool bk] 27) = U at *
  rintro e w1 ⟨rfl, hb⟩
  have HB1 := hid (HB0.out.trans (hb.mono HB0.out.size))
  have K1 := hid (K0.out.below hb)
  have P1 := hid (P0.out.below' hb)
  clear hb k0 k1 k2 k3 k4 k5 k6 K0 P0 HB0
  have k0 := K1.out.cell (j := 0) rfl
  have k1 := K1.out.cell (j := 1) rfl
  have k2 := K1.out.cell (j := 2) rfl
  have k3 := K1.out.cell (j := 3) rfl
  have k4 := K1.out.cell (j := 4) rfl
  have k5 := K1.out.cell (j := 5) rfl
  have k6 := K1.out.cell (j := 6) rfl
  cases hd : daOk l with
  | false =>
    have HE : Hid (raK l k ky vl lo hi mo bk = false ∧ raDo l k ky vl lo hi mo bk = [] ∧ raTo l k ky vl lo hi mo bk = []) := by
      have e : raK l k ky vl lo hi mo bk = false := by simp [raK, hd]
      show _ ∧ _ ∧ _
      exact ⟨e, by simp [raDo, e], by simp [raTo, e]⟩
    clear hd
    go_wp2
    go_ret3
    rw [HE.out.1, HE.out.2.1, HE.out.2.2]
    exact ra_no HB1.out
  | true =>
    go_wp2_with fail
    refine (implAskOk_any k ky vl lo hi mo bk _).mono ?_
    rintro e w2 ⟨rfl, hb⟩
    have HB2 := hid (HB1.out.trans (hb.mono HB1.out.size))
    have K2 := hid (K1.out.below hb)
    have P2 := hid (P1.out.below' hb)
    clear hb k0 k1 k2 k3 k4 k5 k6 K1 P1 HB1
    have k0 := K2.out.cell (j := 0) rfl
    have k1 := K2.out.cell (j := 1) rfl
    have k2 := K2.out.cell (j := 2) rfl
    have k3 := K2.out.cell (j := 3) rfl
    have k4 := K2.out.cell (j := 4) rfl
    have k5 := K2.out.cell (j := 5) rfl
    have k6 := K2.out.cell (j := 6) rfl
    cases hk : akOk k ky vl lo hi mo bk with
    | false =>
      have HE : Hid (raK l k ky vl lo hi mo bk = false ∧ raDo l k ky vl lo hi mo bk = [] ∧ raTo l k ky vl lo hi mo bk = []) := by
        have e : raK l k ky vl lo hi mo bk = false := by simp [raK, hk]
        show _ ∧ _ ∧ _
        exact ⟨e, by simp [raDo, e], by simp [raTo, e]⟩
      clear hd hk
      go_wp2
      go_ret3
      rw [HE.out.1, HE.out.2.1, HE.out.2.2]
      exact ra_no HB2.out
    | true =>
      have HE : Hid (raK l k ky vl lo hi mo bk = true ∧ raDo l k ky vl lo hi mo bk = raD l k ky vl ∧ raTo l k ky vl lo hi mo bk = raT l k ky lo hi mo bk) := by
        have e : raK l k ky vl lo hi mo bk = true := by simp [raK, hd, hk]
        show _ ∧ _ ∧ _
        exact ⟨e, by simp [raDo, e], by simp [raTo, e]⟩
      have HD := hid hd
      have HK := hid hk
      clear hd hk
      go_wp2_with fail
      refine (copyPr_any S a n c l _ P2.out (by omega)).mono ?_
      rintro e w3 ⟨a3, n3, c3, rfl, hn3, hO, hb⟩
      have HB3 := hid (HB2.out.trans (hb.mono HB2.out.size))
      have K3 := hid (K2.out.below hb)
      have HS23 := hid hb.size
      have HO3 := hid hO
      clear hb hO hn3 k0 k1 k2 k3 k4 k5 k6 K2 P2
      have hbn := below_new (o := .cells #[.slice a3 n3 c3] 68) (w := w3) (Below.refl _ _)
      have SB4 : Hid (SB (w3.alloc (.cells #[.slice a3 n3 c3] 68)) w2.heap.size w3.heap.size (.slice a3 n3 c3) l) := ⟨Bk.new w3 _ _, HO3.out.kept hbn, fun e => by have := (World.ownsRow.lt HO3.out _ e).2; omega, HS23.out⟩
      have HB4 := hid (HB3.out.trans (hbn.mono HB3.out.size))
      have K4 := hid (K3.out.below hbn)
      have HS4 := hid (Nat.le_trans HS23.out hbn.size)
      have HSZ := hid (Nat.le_trans HB3.out.size hbn.size)
      clear hbn K3 HO3
      have k0 := K4.out.cell (j := 0) rfl
      have k1 := K4.out.cell (j := 1) rfl
      have k2 := K4.out.cell (j := 2) rfl
      have k3 := K4.out.cell (j := 3) rfl
      have k4 := K4.out.cell (j := 4) rfl
      have k5 := K4.out.cell (j := 5) rfl
      have k6 := K4.out.cell (j := 6) rfl
      go_wp2_with fail
      refine (runAsk_any w2.heap.size w3.heap.size _ l k ky vl lo hi mo bk _ SB4.out HS4.out HD.out (by rw [← HN.out]; exact hs) HK.out).mono ?_
      generalize hU4 : w3.alloc (.cells #[.slice a3 n3 c3] 68) = U4 at *
      clear hU4
      rintro e w5 ⟨a5, n5, c5, rfl, hR, ⟨v5, hS5, hne⟩, hb⟩
      obtain ⟨a6, n6, c6, rfl, _⟩ := hS5.own.shape'
      have HF : Hid (RaPost true (raD l k ky vl) (raT l k ky lo hi mo bk) w (.returned (.tuple #[.slice a6 n6 c6, .slice a5 n5 c5, .bool true])) w5) := ⟨a6, n6, c6, a5, n5, c5, rfl, ow_mono hS5.own HB2.out.size, ⟨U4.heap.size, HSZ.out, hR, hne⟩, HB4.out.trans (hb.mono HB2.out.size)⟩
      have d0 := hS5.bk.cell (j := 0) rfl
      clear hR hS5 hne hb k0 k1 k2 k3 k4 k5 k6 K4 SB4 HB4 HB2 HB3
      go_wp2
      go_ret3
      rw [HE.out.1, HE.out.2.1, HE.out.2.2]
      exact HF.out
end Go.Proofs.Ytjbamfgfgbmieaa
