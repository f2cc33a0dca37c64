/-
  Cells that are stored in a row one behind the other.
-/
import Derived.Test.YtcpdedpgjaimkaaDoorMs4
import Derived.Deep.RegionLaw
import Derived.Test.YtcpdedpgjaimkaaDoorMs3
import Derived.Deep.DeepCutAuto
import Derived.Test.YtcpdedpgjaimkaaDoorMs1
import Derived.Laws.StructEq
namespace Go.Proofs.YtcpdedpgjaimkaaDoor
open Go.RowKit
def setL : List Value → Nat → List Value → List Value
  | cl, _, [] => cl
  | cl, o, v :: vs => setL (cl.set o v) (o + 1) vs
theorem setL_length (vs : List Value) : ∀ (cl : List Value) (o : Nat), (setL cl o vs).length = cl.length := by
  induction vs with
  | nil => intro cl o; rfl
  | cons v vs ih => intro cl o; rw [setL, ih, List.length_set]
theorem setL_at (vs : List Value) : ∀ (cl : List Value) (o x : Nat), (setL cl o vs)[x]? = if o ≤ x ∧ x < o + vs.length ∧ x < cl.length then vs[x - o]? else cl[x]? := by
  induction vs with
  | nil => intro cl o x; rw [setL, if_neg]; simp; omega
  | cons v vs ih =>
    intro cl o x
    rw [setL, ih, List.length_set, List.length_cons]
    by_cases h1 : o + 1 ≤ x ∧ x < o + 1 + vs.length ∧ x < cl.length
    · rw [if_pos h1, if_pos (by omega)]
      obtain ⟨y, rfl⟩ : ∃ y, x = o + 1 + y := ⟨x - (o + 1), by omega⟩
      rw [show o + 1 + y - (o + 1) = y by omega, show o + 1 + y - o = y + 1 by omega]
      rfl
    · rw [if_neg h1, List.getElem?_set]
      by_cases h2 : o = x
      · subst h2
        rw [if_pos rfl]
        by_cases h3 : o < cl.length
        · rw [if_pos h3, if_pos (by omega), Nat.sub_self]; rfl
        · rw [if_neg h3, if_neg (by omega), List.getElem?_eq_none (by omega)]
      · rw [if_neg h2, if_neg (by omega)]
theorem bk_setL {g : Nat} {T : TypeId} (vs : List Value) : ∀ (o : Nat) (w : World) (cl : List Value), Bk w g T cl → Bk (w.setCells g o vs) g T (setL cl o vs) := by
  induction vs with
  | nil => intro o w cl h; exact h
  | cons v vs ih => intro o w cl h; rw [World.setCells, setL]; exact ih (o + 1) _ _ (h.set o v)
theorem only_setL {R : Nat → Prop} {b : Nat} (h : R b) : ∀ (vs : List Value) (o : Nat) (w : World), Only R w (w.setCells b o vs)
  | [], _, w => Only.refl _ _
  | v :: vs, o, w => by
    rw [World.setCells]
    exact (only_set h v).trans (only_setL h vs (o + 1) _)
/-- What taking the element i out of a row leaves. -/
theorem del_list (cl xs zs : List Value) (i n s : Nat) (hi : i < n) (hl : n * s ≤ cl.length) (hx : cl.take (n * s) = xs) :
    (setL (setL cl (i * s) (xs.drop ((i + 1) * s))) ((n - 1) * s) zs).take ((n - 1) * s) = xs.take (i * s) ++ xs.drop ((i + 1) * s) := by
  have hxl : xs.length = n * s := by rw [← hx, List.length_take]; omega
  have e1 : (n - 1) * s + s = n * s := by rw [← Nat.succ_mul]; congr 1; omega
  have e2 : (i + 1) * s = i * s + s := Nat.succ_mul i s
  have e3 : (i + 1) * s ≤ n * s := Nat.mul_le_mul_right s hi
  have hd : (xs.drop ((i + 1) * s)).length = n * s - (i + 1) * s := by rw [List.length_drop, hxl]
  apply List.ext_getElem?
  intro x
  rw [List.getElem?_take]
  have hin : ∀ y, y < n * s → cl[y]? = xs[y]? := by
    intro y hy
    rw [← hx, List.getElem?_take, if_pos hy]
  by_cases h1 : x < (n - 1) * s
  · rw [if_pos h1, setL_at, if_neg (by omega), setL_at, hd]
    by_cases h2 : x < i * s
    · rw [if_neg (by omega), List.getElem?_append_left (by rw [List.length_take, hxl]; omega), List.getElem?_take, if_pos h2]
      exact hin x (by omega)
    · rw [if_pos (by omega), List.getElem?_append_right (by rw [List.length_take, hxl]; omega), List.length_take, hxl, Nat.min_eq_left (by omega)]
  · rw [if_neg h1, List.getElem?_eq_none (by rw [List.length_append, List.length_take, hxl, hd]; omega)]
def DelPost (E : TypeId) (size base : Nat) (xs : List Value) (n : Nat) (v : Value) (w : World) (e : Ending) (w' : World) : Prop :=
  ∃ g c, v = .slice (some ⟨g, 0, none⟩) (n + 1) c ∧ e = .returned (.slice (some ⟨g, 0, none⟩) n c) ∧ w'.ownsRow base E size (.slice (some ⟨g, 0, none⟩) n c) n xs ∧ Only (fun y => y = g) w w'
end Go.Proofs.YtcpdedpgjaimkaaDoor
/-
  put: a pair comes in below a limb; what is too much for it comes newly behind it.
-/
namespace Go.Proofs.YtcpdedpgjaimkaaDoor
open Go.RowKit
theorem below_dn (w : World) (q : Nat) : Below w.heap.size w (w.drewN q) := ⟨rfl, rfl, rfl, Nat.le_refl _, fun _ _ => rfl⟩
theorem small_out {h : Nat} {r : Bool} {l : List PB} {x : T × T} (g : PutOut h r l x) : x.2.ps.length + x.2.ks.length ≤ 8 := by
  cases e : x.2.bare with
  | true => rw [bare_iff.1 e]; decide
  | false =>
    have := (g.both e).2
    clear g e
    generalize x.2 = y at *
    obtain ⟨ps, ks⟩ := y
    simp only [T.ps, T.ks]
    by_cases hk : ks = []
    · subst hk; have := full_lf this; simp; omega
    · obtain ⟨_, h2, rfl, _⟩ := full_br this hk; simp; omega
theorem PutIn.small {h : Nat} {r : Bool} {t : T} (g : PutIn h r t) : t.ps.length ≤ 4 ∧ t.ks.length ≤ 4 := by
  obtain ⟨ps, ks⟩ := t
  simp only [T.ps, T.ks]
  rcases g.full with hf | ⟨_, e⟩
  · by_cases hk : ks = []
    · subst hk; exact ⟨(full_lf hf).1, by simp⟩
    · obtain ⟨_, h2, rfl, _⟩ := full_br hf hk; exact ⟨by simp, h2⟩
  · cases e; simp
end Go.Proofs.YtcpdedpgjaimkaaDoor
/-
  mend: two neighbouring kids are put together.
-/
namespace Go.Proofs.YtcpdedpgjaimkaaDoor
open Go.RowKit
theorem ptrs_del (A : Nat → Nat) (n p : Nat) (h : p ≤ n) : (ptrs A (n + 1)).take p ++ (ptrs A (n + 1)).drop (p + 1) = ptrs (fun i => if i < p then A i else A (i + 1)) n := by
  apply List.ext_getElem?
  intro i
  by_cases hi : i < p
  · rw [List.getElem?_append_left (by simp [ptrs]; omega), List.getElem?_take, if_pos hi, ptrs_at _ _ _ (by omega), ptrs_at _ _ _ (by omega), if_pos hi]
  · rw [List.getElem?_append_right (by simp [ptrs]; omega), List.getElem?_drop]
    have : p + 1 + (i - (List.take p (ptrs A (n + 1))).length) = i + 1 := by simp [ptrs]; omega
    rw [this]
    by_cases hn : i < n
    · rw [ptrs_at _ _ _ (by omega), ptrs_at _ _ _ hn, if_neg hi]
    · rw [List.getElem?_eq_none (by simp [ptrs]; omega), List.getElem?_eq_none (by simp [ptrs]; omega)]
theorem tAt_del (ks : List T) (p : Nat) (h : p < ks.length) (i : Nat) : tAt (ks.take p ++ ks.drop (p + 1)) i = if i < p then tAt ks i else tAt ks (i + 1) := by
  have hl : (ks.take p).length = p := by rw [List.length_take]; omega
  by_cases hi : i < p
  · rw [tAt_app1 (by omega), tAt_take hi, if_pos hi]
  · rw [tAt_app2 (by omega), tAt_drop, hl, if_neg hi]
    congr 1; omega
/-- The kid at i is put together with the one ahead of it; the first with the second. -/
def mendK (ks : List T) (i : Nat) : List T :=
  if (shT (tAt ks (max i 1 - 1)) (tAt ks (max i 1))).2.bare = true then ((ks.set (max i 1 - 1) (shT (tAt ks (max i 1 - 1)) (tAt ks (max i 1))).1).set (max i 1) (shT (tAt ks (max i 1 - 1)) (tAt ks (max i 1))).2).take (max i 1) ++ ((ks.set (max i 1 - 1) (shT (tAt ks (max i 1 - 1)) (tAt ks (max i 1))).1).set (max i 1) (shT (tAt ks (max i 1 - 1)) (tAt ks (max i 1))).2).drop (max i 1 + 1)
  else (ks.set (max i 1 - 1) (shT (tAt ks (max i 1 - 1)) (tAt ks (max i 1))).1).set (max i 1) (shT (tAt ks (max i 1 - 1)) (tAt ks (max i 1))).2
end Go.Proofs.YtcpdedpgjaimkaaDoor
/-
  drop: a key is taken out below a limb.
-/
namespace Go.Proofs.YtcpdedpgjaimkaaDoor
open Go.RowKit
def delP (l : List PB) (k : ByteArray) : List PB := if there l k = true then l.take (pos l k) ++ l.drop (pos l k + 1) else l
def T.poor (t : T) : Bool := decide (t.ps.length + t.ks.length < 2)
def dropF : Nat → T → ByteArray → T
  | 0, t, _ => t
  | f + 1, t, k => if t.ks = [] then .mk (delP t.ps k) t.ks else
    if (dropF f (tAt t.ks (kidOf t.ks k)) k).poor = true then .mk t.ps (mendK (t.ks.set (kidOf t.ks k) (dropF f (tAt t.ks (kidOf t.ks k)) k)) (kidOf t.ks k)) else .mk t.ps (t.ks.set (kidOf t.ks k) (dropF f (tAt t.ks (kidOf t.ks k)) k))
theorem delP_len (l : List PB) (k : ByteArray) : (delP l k).length ≤ l.length := by
  unfold delP
  split
  · rw [List.length_append, List.length_take, List.length_drop]; omega
  · exact Nat.le_refl _
theorem mendK_len (ks : List T) (i : Nat) : (mendK ks i).length ≤ ks.length := by
  unfold mendK
  split
  · rw [List.length_append, List.length_take, List.length_drop, List.length_set, List.length_set]; omega
  · rw [List.length_set, List.length_set]; exact Nat.le_refl _
theorem dropF_len : ∀ (f : Nat) (t : T) (k : ByteArray), (dropF f t k).ps.length ≤ t.ps.length ∧ (dropF f t k).ks.length ≤ t.ks.length
  | 0, t, k => ⟨Nat.le_refl _, Nat.le_refl _⟩
  | f + 1, t, k => by
    rw [dropF]
    split
    · exact ⟨delP_len _ _, Nat.le_refl _⟩
    · split
      · refine ⟨Nat.le_refl _, ?_⟩
        show (mendK _ _).length ≤ _
        have := mendK_len (t.ks.set (kidOf t.ks k) (dropF f (tAt t.ks (kidOf t.ks k)) k)) (kidOf t.ks k)
        rw [List.length_set] at this
        exact this
      · refine ⟨Nat.le_refl _, ?_⟩
        show (t.ks.set _ _).length ≤ _
        rw [List.length_set]; exact Nat.le_refl _
theorem full_small {x : T} {r : Bool} (h : x.full r = true) : x.ps.length ≤ 4 ∧ x.ks.length ≤ 4 := by
  obtain ⟨ps, ks⟩ := x
  simp only [T.ps, T.ks]
  by_cases hk : ks = []
  · subst hk; exact ⟨(full_lf h).1, by simp⟩
  · obtain ⟨_, h2, rfl, _⟩ := full_br h hk; exact ⟨by simp, h2⟩
theorem pcs_del (ps : List PB) (p : Nat) : (pcs ps).take (p * 2) ++ (pcs ps).drop ((p + 1) * 2) = pcs (ps.take p ++ ps.drop (p + 1)) := by
  rw [pcs_take, pcs_drop, pcs_append]
end Go.Proofs.YtcpdedpgjaimkaaDoor
/-
  Taking a key out, as plain data: the program's way and the specification's come to the same; what comes of it is full, even and in order.
-/
namespace Go.Proofs.YtcpdedpgjaimkaaDoor
open Go.RowKit
theorem delP_nil (k : ByteArray) : delP [] k = [] := by simp [delP, there, pos]
theorem delP_lt {x : PB} {l : List PB} {k : ByteArray} (h : klt x.1 k = true) : delP (x :: l) k = x :: delP l k := by
  obtain ⟨h1, h2⟩ := there_cons_lt (x := x) (p := (k, k)) (l := l) h
  simp only at h1 h2
  unfold delP
  rw [h1, h2]
  split <;> simp
theorem delP_eq {x : PB} {l : List PB} {k : ByteArray} (h : x.1 = k) : delP (x :: l) k = l := by
  have h0 : klt x.1 k = false := by rw [h]; exact klt_irrefl _
  have h1 := pos_cons_ge (x := x) (p := (k, k)) (l := l) h0
  simp only at h1
  have h2 : there (x :: l) k = true := by unfold there; rw [h1]; simp [pAtB, h]
  unfold delP
  rw [h2, h1]; simp
theorem delP_gt {x : PB} {l : List PB} {k : ByteArray} (h : klt x.1 k = false) (hne : x.1 ≠ k) : delP (x :: l) k = x :: l := by
  have h1 := pos_cons_ge (x := x) (p := (k, k)) (l := l) h
  simp only at h1
  have h2 : there (x :: l) k = false := by unfold there; rw [h1]; simp [pAtB, hne]
  unfold delP
  rw [h2]; simp
theorem delP_left (A : List PB) {B : List PB} {k : ByteArray} (h : ∀ x ∈ A, klt x.1 k = true) : delP (A ++ B) k = A ++ delP B k := by
  induction A with
  | nil => rfl
  | cons a A ih => rw [List.cons_append, delP_lt (h a (by simp)), ih (fun x hx => h x (by simp [hx])), List.cons_append]
theorem delP_right (A : List PB) {B : List PB} {k : ByteArray} (h : ∀ x ∈ B, klt k x.1 = true) : delP (A ++ B) k = delP A k ++ B := by
  induction A with
  | nil =>
    rw [List.nil_append, delP_nil]
    cases B with
    | nil => rw [delP_nil]; rfl
    | cons b B =>
      have := h b (by simp)
      rw [delP_gt (klt_asymm this) (klt_ne this).symm]; rfl
  | cons a A ih =>
    rw [List.cons_append]
    cases hk : klt a.1 k with
    | true => rw [delP_lt hk, delP_lt hk, ih]; rfl
    | false =>
      by_cases e : a.1 = k
      · rw [delP_eq e, delP_eq e]
      · rw [delP_gt hk e, delP_gt hk e]; rfl
theorem delP_mem {l : List PB} {k : ByteArray} {x : PB} (h : x ∈ delP l k) : x ∈ l := by
  unfold delP at h
  split at h
  · rcases List.mem_append.1 h with h | h
    · exact List.mem_of_mem_take h
    · exact List.mem_of_mem_drop h
  · exact h
theorem delP_asc {l : List PB} {k : ByteArray} (h : Asc l) : Asc (delP l k) := by
  unfold delP
  split
  · refine List.Pairwise.sublist ?_ h
    rw [← List.eraseIdx_eq_take_drop_succ]
    exact List.eraseIdx_sublist _ _
  · exact h
theorem delP_ge (l : List PB) (k : ByteArray) : l.length ≤ (delP l k).length + 1 := by
  unfold delP
  split
  · rw [List.length_append, List.length_take, List.length_drop]; omega
  · omega
/-- The specification's way. -/
def delS (l : List PB) (k : ByteArray) : List PB := l.filter fun x => decide (x.1 ≠ k)
theorem delS_eq {l : List PB} {k : ByteArray} (h : Asc l) : delS l k = delP l k := by
  induction l with
  | nil => rw [delP_nil]; rfl
  | cons a l ih =>
    obtain ⟨h1, h2⟩ := List.pairwise_cons.1 h
    unfold delS at ih ⊢
    cases hk : klt a.1 k with
    | true => rw [delP_lt hk, List.filter_cons, if_pos (by simpa using klt_ne hk), ih h2]
    | false =>
      by_cases e : a.1 = k
      · rw [delP_eq e, List.filter_cons, if_neg (by simp [e]), List.filter_eq_self]
        intro x hx
        simpa using fun he => (klt_ne (h1 x hx)) (by rw [e, he])
      · rw [delP_gt hk e, List.filter_cons, if_pos (by simpa using e)]
        congr 1
        rw [List.filter_eq_self]
        intro x hx
        have hlt : klt k a.1 = true := by
          cases hq : klt k a.1 with
          | true => rfl
          | false => exact absurd (key_eq hk hq) e
        simpa using fun he => (klt_ne (klt_trans hlt (h1 x hx))) he.symm
theorem shT_bareT (a b : T) : shT a b = shT (.mk (a.ps ++ b.ps) (a.ks ++ b.ks)) bareT := by simp [shT, bareT, T.ps, T.ks]
theorem mendK_two (ks : List T) (s : Nat) (i : Nat) (hs : max i 1 = s + 1) (h : s + 1 < ks.length) : mendK ks i = ks.take s ++ two (shT (tAt ks s) (tAt ks (s + 1))) ++ ks.drop (s + 2) := by
  unfold mendK
  rw [hs, Nat.add_sub_cancel]
  generalize shT (tAt ks s) (tAt ks (s + 1)) = r
  have e : (ks.set s r.1).set (s + 1) r.2 = ks.take s ++ r.1 :: r.2 :: ks.drop (s + 2) := by
    apply List.ext_getElem?
    intro x
    rw [List.getElem?_set, List.getElem?_set, List.length_set]
    by_cases h1 : s + 1 = x
    · subst h1
      rw [if_pos rfl, if_pos h, List.getElem?_append_right (by rw [List.length_take]; omega), List.length_take, Nat.min_eq_left (by omega), show s + 1 - s = 1 by omega]; rfl
    · rw [if_neg h1]
      by_cases h2 : s = x
      · subst h2
        rw [if_pos rfl, if_pos (by omega), List.getElem?_append_right (by rw [List.length_take]; omega), List.length_take, Nat.min_eq_left (by omega), Nat.sub_self]; rfl
      · rw [if_neg h2]
        by_cases h3 : x < s
        · rw [List.getElem?_append_left (by rw [List.length_take]; omega), List.getElem?_take, if_pos h3]
        · rw [List.getElem?_append_right (by rw [List.length_take]; omega), List.length_take, Nat.min_eq_left (by omega)]
          obtain ⟨y, rfl⟩ : ∃ y, x = s + 2 + y := ⟨x - (s + 2), by omega⟩
          rw [show s + 2 + y - s = y + 1 + 1 by omega, List.getElem?_cons_succ, List.getElem?_cons_succ, List.getElem?_drop]
  rw [e]
  have hl : (ks.take s).length = s := by rw [List.length_take]; omega
  unfold two
  split
  · rw [List.take_append, hl, List.take_of_length_le (show (ks.take s).length ≤ s + 1 by omega), show s + 1 - s = 1 by omega, List.drop_append, hl, List.drop_of_length_le (show (ks.take s).length ≤ s + 1 + 1 by omega), show s + 1 + 1 - s = 2 by omega]; simp
  · simp
/-- What dropping leaves, but for its own fullness. -/
structure Near (h : Nat) (t : T) (l : List PB) : Prop where
  ev : Ev h t
  all : t.all = l
  leaf : t.ks = [] → t.ps.length ≤ 4
  br : t.ks ≠ [] → t.ps = [] ∧ t.ks.length ≤ 4 ∧ ∀ x ∈ t.ks, x.full false = true
theorem Near.full {h : Nat} {t : T} {l : List PB} (g : Near h t l) (hp : t.poor = false) : t.full false = true := by
  have hp : ¬ (t.ps.length + t.ks.length < 2) := of_decide_eq_false hp
  obtain ⟨ps, ks⟩ := t
  by_cases hk : ks = []
  · subst hk; exact full_mk_leaf (g.leaf rfl) (.inl (by simp [T.ps, T.ks] at hp; omega))
  · obtain ⟨h1, h2, h3⟩ := g.br hk
    have h1 : ps = [] := h1
    subst h1
    exact full_mk_br (by simp [T.ps, T.ks] at hp; omega) h2 h3
theorem near_of_full {h : Nat} {t : T} {r : Bool} (he : Ev h t) (hf : t.full r = true) : Near h t t.all := by
  obtain ⟨ps, ks⟩ := t
  refine ⟨he, rfl, fun hk => ?_, fun hk => ?_⟩
  · cases (show ks = [] from hk); exact (full_lf hf).1
  · obtain ⟨_, h2, h3, h4⟩ := full_br hf hk; exact ⟨h3, h2, h4⟩
/-- Two neighbours of one depth, one of them full, one with something: together they are one full node or two. -/
theorem shT_out2 {h : Nat} {a b : T} {la lb : List PB} (ga : Near h a la) (gb : Near h b lb) (hs : 3 ≤ a.ps.length + a.ks.length + (b.ps.length + b.ks.length)) (hs5 : a.ps.length + a.ks.length + (b.ps.length + b.ks.length) ≤ 5) : PutOut h false (la ++ lb) (shT a b) := by
  rw [shT_bareT]
  obtain ⟨pa, ka⟩ := a
  obtain ⟨pb, kb⟩ := b
  simp only [T.ps, T.ks] at hs hs5 ⊢
  cases h with
  | zero => exact ga.ev.elim
  | succ h =>
    rcases ga.ev with ⟨rfl, rfl⟩ | ⟨hka, hea⟩
    · rcases gb.ev with ⟨rfl, _⟩ | ⟨hkb, heb⟩
      · have e : la ++ lb = pa ++ pb := by rw [← ga.all, ← gb.all]; simp [T.all, allL]
        rw [e, List.append_nil]
        refine shT_out_leaf (by simp at hs5 ⊢; omega) (by simp at hs ⊢; omega) (fun _ => by simp at hs ⊢; omega)
      · obtain ⟨x, hx⟩ := List.exists_mem_of_ne_nil kb hkb
        exact (heb x hx).elim
    · rcases gb.ev with ⟨rfl, rfl⟩ | ⟨hkb, heb⟩
      · obtain ⟨x, hx⟩ := List.exists_mem_of_ne_nil ka hka
        exact (hea x hx).elim
      · obtain ⟨a1, _, a3⟩ := ga.br hka
        obtain ⟨b1, _, b3⟩ := gb.br hkb
        have a1 : pa = [] := a1
        have b1 : pb = [] := b1
        subst a1 b1
        have e : la ++ lb = allL (ka ++ kb) := by rw [← ga.all, ← gb.all, allL_append]; simp [T.all]
        rw [e]
        simp only [List.append_nil]
        refine shT_out_br (by simp at hs5 ⊢; omega) (by simp at hs ⊢; omega) (fun x hx => ?_) (fun x hx => ?_)
        · rcases List.mem_append.1 hx with hx | hx
          · exact a3 x hx
          · exact b3 x hx
        · rcases List.mem_append.1 hx with hx | hx
          · exact hea x hx
          · exact heb x hx
theorem full_count {x : T} (h : x.full false = true) : 2 ≤ x.ps.length + x.ks.length ∧ x.ps.length + x.ks.length ≤ 4 := by
  obtain ⟨ps, ks⟩ := x
  simp only [T.ps, T.ks]
  by_cases hk : ks = []
  · subst hk; have := full_lf h; simp at this ⊢; omega
  · obtain ⟨h1, h2, rfl, _⟩ := full_br h hk; simp; omega
theorem dropF_out : ∀ (h : Nat) (r : Bool) (t : T) (k : ByteArray), PutIn h r t → Near h (dropF h t k) (delP t.all k) ∧ t.ps.length + t.ks.length ≤ (dropF h t k).ps.length + (dropF h t k).ks.length + 1
  | 0, r, t, k, g => g.ev.elim
  | h + 1, r, .mk ps ks, k, g => by
    by_cases hk : ks = []
    · subst hk
      obtain ⟨hh, hl, hr, ha⟩ := g.leaf
      obtain rfl : h = 0 := by omega
      rw [dropF]
      simp only [T.ks, T.ps, if_true]
      refine ⟨⟨.inl ⟨rfl, rfl⟩, by simp [T.all, allL], fun _ => ?_, fun h => absurd rfl h⟩, ?_⟩
      · show (delP ps k).length ≤ 4
        have := delP_len ps k; omega
      · show ps.length + 0 ≤ (delP ps k).length + 0 + 1
        have := delP_ge ps k; omega
    · obtain ⟨rfl, h1, h2, h3, h4, h5⟩ := g.kids hk
      obtain ⟨q1, q2, q3⟩ := kidOf_spec k hk
      obtain ⟨a1, a2, a3⟩ := kid_apart h3 h5 q1 q2 q3
      obtain ⟨ih, ihn⟩ := dropF_out h false _ k (g.kid hk k)
      have hkf := full_count (h3 _ (tAt_mem q1))
      have HF : dropF (h + 1) (.mk [] ks) k = if (dropF h (tAt ks (kidOf ks k)) k).poor = true then .mk [] (mendK (ks.set (kidOf ks k) (dropF h (tAt ks (kidOf ks k)) k)) (kidOf ks k)) else .mk [] (ks.set (kidOf ks k) (dropF h (tAt ks (kidOf ks k)) k)) := by rw [dropF]; simp only [T.ks, T.ps, hk, if_false]; rfl
      rw [HF]
      clear HF
      generalize hq : kidOf ks k = q at *
      generalize hrr : dropF h (tAt ks q) k = rr at *
      have hset : ks.set q rr = ks.take q ++ rr :: ks.drop (q + 1) := List.set_eq_take_append_cons_drop.trans (by rw [if_pos q1])
      have hall : allL (ks.set q rr) = delP (T.mk [] ks).all k := by
        rw [hset, allL_append, allL, ih.all, show (T.mk [] ks).all = allL ks by simp [T.all], all_split q1, delP_left _ a1, delP_right _ a2]
      have hmem : ∀ x ∈ ks.set q rr, x = rr ∨ x ∈ ks := fun x hx => (List.mem_or_eq_of_mem_set hx).symm
      have hev : ∀ x ∈ ks.set q rr, Ev h x := fun x hx => (hmem x hx).elim (fun e => e ▸ ih.ev) (h4 x)
      have hln : (ks.set q rr).length = ks.length := List.length_set
      cases hpo : rr.poor with
      | false =>
        rw [if_neg (by simp)]
        refine ⟨⟨.inr ⟨fun e => by rw [e] at hln; simp at hln; omega, hev⟩, by simpa [T.all] using hall, fun e => ?_, fun _ => ⟨rfl, by show (ks.set q rr).length ≤ 4; omega, fun x hx => (hmem x hx).elim (fun e => e ▸ ih.full hpo) (h3 x)⟩⟩, by show 0 + ks.length ≤ 0 + (ks.set q rr).length + 1; omega⟩
        have e : ks.set q rr = [] := e
        rw [e] at hln; simp at hln; omega
      | true =>
        rw [if_pos rfl]
        obtain ⟨s, hs⟩ : ∃ s, max q 1 = s + 1 := ⟨max q 1 - 1, by omega⟩
        have hsl : s + 1 < ks.length := by omega
        have hpoor : rr.ps.length + rr.ks.length < 2 := of_decide_eq_true hpo
        have hrr1 : rr.ps.length + rr.ks.length = 1 := by omega
        rw [mendK_two _ s q hs (by omega)]
        have hat : ∀ i, i < ks.length → tAt (ks.set q rr) i = if i = q then rr else tAt ks i := by
          intro i hi
          by_cases e : i = q
          · subst e; simp [tAt, hi]
          · rw [if_neg e]; simp [tAt, Ne.symm e]
        have hn : ∀ i, i < ks.length → Near h (tAt (ks.set q rr) i) (tAt (ks.set q rr) i).all := by
          intro i hi
          rw [hat i hi]
          by_cases e : i = q
          · rw [if_pos e]; exact ⟨ih.ev, rfl, ih.leaf, ih.br⟩
          · rw [if_neg e]; exact near_of_full (h4 _ (tAt_mem hi)) (h3 _ (tAt_mem hi))
        have hcnt : (tAt (ks.set q rr) s).ps.length + (tAt (ks.set q rr) s).ks.length + ((tAt (ks.set q rr) (s + 1)).ps.length + (tAt (ks.set q rr) (s + 1)).ks.length) ≤ 5 ∧ 3 ≤ (tAt (ks.set q rr) s).ps.length + (tAt (ks.set q rr) s).ks.length + ((tAt (ks.set q rr) (s + 1)).ps.length + (tAt (ks.set q rr) (s + 1)).ks.length) := by
          rw [hat s (by omega), hat (s + 1) hsl]
          rcases (show (s = q ∧ s + 1 ≠ q) ∨ (s ≠ q ∧ s + 1 = q) by omega) with ⟨e1, e2⟩ | ⟨e1, e2⟩
          · rw [if_pos e1, if_neg e2]; have := full_count (h3 _ (tAt_mem hsl)); omega
          · rw [if_neg e1, if_pos e2]; have := full_count (h3 _ (tAt_mem (show s < ks.length by omega))); omega
        have out := shT_out2 (hn s (by omega)) (hn (s + 1) hsl) hcnt.2 hcnt.1
        have hsp : ks.set q rr = (ks.set q rr).take s ++ tAt (ks.set q rr) s :: tAt (ks.set q rr) (s + 1) :: (ks.set q rr).drop (s + 2) := by
          have e1 := ks_split (ks := ks.set q rr) (q := s) (by omega)
          have e2 := drop_tAt (ks := ks.set q rr) (k := s + 1) (by omega)
          rw [e2] at e1
          exact e1
        generalize ks.set q rr = kz at *
        generalize shT (tAt kz s) (tAt kz (s + 1)) = rx at *
        have hsm : ∀ x ∈ kz.take s ++ two rx ++ kz.drop (s + 2), (x ∈ two rx) ∨ (x ∈ kz ∧ (x ∈ kz.take s ∨ x ∈ kz.drop (s + 2))) := by
          intro x hx
          rcases List.mem_append.1 hx with hx | hx
          · rcases List.mem_append.1 hx with hx | hx
            · exact .inr ⟨List.mem_of_mem_take hx, .inl hx⟩
            · exact .inl hx
          · exact .inr ⟨List.mem_of_mem_drop hx, .inr hx⟩
        have hfar : ∀ x, x ∈ kz.take s ∨ x ∈ kz.drop (s + 2) → x.full false = true := by
          intro x hx
          have key : ∃ i, i < ks.length ∧ i ≠ q ∧ x = tAt kz i := by
            rcases hx with hx | hx
            · obtain ⟨i, hi⟩ := List.mem_iff_getElem?.1 hx
              rw [List.getElem?_take] at hi
              split at hi
              · rename_i h9; exact ⟨i, by omega, by omega, by simp [tAt, hi]⟩
              · cases hi
            · obtain ⟨i, hi⟩ := List.mem_iff_getElem?.1 hx
              rw [List.getElem?_drop] at hi
              have := (List.getElem?_eq_some_iff.1 hi).1
              exact ⟨s + 2 + i, by omega, by omega, by simp [tAt, hi]⟩
          obtain ⟨i, hi, hne, rfl⟩ := key
          rw [hat i hi, if_neg hne]
          exact h3 _ (tAt_mem hi)
        have htl := two_len rx
        have hlen : (kz.take s ++ two rx ++ kz.drop (s + 2)).length = s + (two rx).length + (ks.length - (s + 2)) := by simp only [List.length_append, List.length_take, List.length_drop]; omega
        refine ⟨⟨.inr ⟨fun e => by have := congrArg List.length e; rw [hlen, List.length_nil] at this; omega, fun x hx => ?_⟩, ?_, fun e => ?_, fun _ => ⟨rfl, by show (kz.take s ++ two rx ++ kz.drop (s + 2)).length ≤ 4; omega, fun x hx => ?_⟩⟩, by show 0 + ks.length ≤ 0 + (kz.take s ++ two rx ++ kz.drop (s + 2)).length + 1; omega⟩
        · rcases hsm x hx with h | h
          · exact out.ev x h
          · exact hev x h.1
        · rw [← hall]
          show [] ++ allL _ = _
          rw [List.nil_append, allL_append, allL_append, out.all]
          conv => rhs; rw [hsp]
          rw [allL_append, allL, allL]
          simp
        · have e : kz.take s ++ two rx ++ kz.drop (s + 2) = [] := e
          have := congrArg List.length e; rw [hlen, List.length_nil] at this; omega
        · rcases hsm x hx with h | h
          · exact out.fulls x h
          · exact hfar x h.2
theorem full_up {x : T} (h : x.full false = true) : x.full true = true := by
  obtain ⟨ps, ks⟩ := x
  by_cases hk : ks = []
  · subst hk; have := full_lf h; exact full_mk_leaf this.1 (.inl (by simpa using this.2))
  · obtain ⟨h1, h2, rfl, h3⟩ := full_br h hk; exact full_mk_br h1 h2 h3
/-- The root behind the drop. -/
def rootD (t : T) : T := if t.ks.length = 1 then tAt t.ks 0 else t
theorem rootD_out {h : Nat} {t : T} {k : ByteArray} (g : PutIn h true t) : ((rootD (dropF h t k)).full true = true ∨ rootD (dropF h t k) = bareT) ∧ (∃ h', Ev h' (rootD (dropF h t k))) ∧ (rootD (dropF h t k)).all = delP t.all k := by
  obtain ⟨h1, h2⟩ := dropF_out h true t k g
  generalize dropF h t k = y at *
  obtain ⟨ps, ks⟩ := y
  have er : rootD (.mk ps ks) = if ks.length = 1 then tAt ks 0 else .mk ps ks := rfl
  rw [er]
  clear er
  by_cases hk : ks = []
  · subst hk
    rw [if_neg (by simp)]
    refine ⟨?_, ⟨h, h1.ev⟩, h1.all⟩
    by_cases hp : ps = []
    · subst hp; exact .inr rfl
    · have := h1.leaf rfl
      have hl := List.length_pos_iff.2 hp
      refine .inl (full_mk_leaf this ?_)
      by_cases e : ps.length = 1
      · exact .inr ⟨rfl, e⟩
      · exact .inl (by omega)
  · obtain ⟨b1, b2, b3⟩ := h1.br hk
    have b1 : ps = [] := b1
    subst b1
    have b2 : ks.length ≤ 4 := b2
    cases h with
    | zero => exact h1.ev.elim
    | succ h =>
      rcases h1.ev with ⟨e, _⟩ | ⟨_, he⟩
      · exact absurd e hk
      · by_cases e : ks.length = 1
        · rw [if_pos e]
          have hm := tAt_mem (ks := ks) (show 0 < ks.length by omega)
          refine ⟨.inl (full_up (b3 _ hm)), ⟨h, he _ hm⟩, ?_⟩
          rw [← h1.all]
          obtain ⟨x, rfl⟩ := List.length_eq_one_iff.1 e
          simp [tAt, T.all, allL]
        · rw [if_neg e]
          have := List.length_pos_iff.2 hk
          exact ⟨.inl (full_mk_br (by omega) b2 b3), ⟨h + 1, h1.ev⟩, h1.all⟩
theorem pOk_del {l : List PB} {k : ByteArray} (h : pOk l = true) : pOk (delP l k) = true :=
  pOk_of (Nat.le_trans (delP_len l k) (pOk_len h)) (fun _ hx => pOk_mem h (delP_mem hx)) (delP_asc (pOk_asc h))
/-- The specification's way down. -/
def togS (a b : T) : List T := splT (.mk (a.ps ++ b.ps) (a.ks ++ b.ks))
def dropS : Nat → T → ByteArray → T
  | 0, t, _ => t
  | f + 1, t, k => if t.ks = [] then .mk (delS t.ps k) [] else
    if (dropS f (tAt t.ks (wayOf t.ks k)) k).poor = true then .mk [] ((t.ks.set (wayOf t.ks k) (dropS f (tAt t.ks (wayOf t.ks k)) k)).take (max (wayOf t.ks k) 1 - 1) ++ togS (tAt (t.ks.set (wayOf t.ks k) (dropS f (tAt t.ks (wayOf t.ks k)) k)) (max (wayOf t.ks k) 1 - 1)) (tAt (t.ks.set (wayOf t.ks k) (dropS f (tAt t.ks (wayOf t.ks k)) k)) (max (wayOf t.ks k) 1)) ++ (t.ks.set (wayOf t.ks k) (dropS f (tAt t.ks (wayOf t.ks k)) k)).drop (max (wayOf t.ks k) 1 + 1))
    else .mk [] (t.ks.set (wayOf t.ks k) (dropS f (tAt t.ks (wayOf t.ks k)) k))
theorem togS_two {h : Nat} {a b : T} {la lb : List PB} (ga : Near h a la) (gb : Near h b lb) : togS a b = two (shT a b) := by
  rw [shT_bareT]
  unfold togS
  obtain ⟨pa, ka⟩ := a
  obtain ⟨pb, kb⟩ := b
  simp only [T.ps, T.ks]
  cases h with
  | zero => exact ga.ev.elim
  | succ h =>
    rcases ga.ev with ⟨rfl, rfl⟩ | ⟨hka, hea⟩
    · rcases gb.ev with ⟨rfl, _⟩ | ⟨hkb, heb⟩
      · rw [List.append_nil, two_leaf]
      · obtain ⟨x, hx⟩ := List.exists_mem_of_ne_nil kb hkb
        exact (heb x hx).elim
    · obtain ⟨a1, _, _⟩ := ga.br hka
      have a1 : pa = [] := a1
      rcases gb.ev with ⟨rfl, rfl⟩ | ⟨hkb, heb⟩
      · obtain ⟨x, hx⟩ := List.exists_mem_of_ne_nil ka hka
        exact (hea x hx).elim
      · obtain ⟨b1, _, _⟩ := gb.br hkb
        have b1 : pb = [] := b1
        subst a1 b1
        rw [List.append_nil, two_branch (by simp [hka])]
theorem dropS_eq : ∀ (h : Nat) (r : Bool) (t : T) (k : ByteArray), PutIn h r t → dropS h t k = dropF h t k
  | 0, r, t, k, g => rfl
  | h + 1, r, .mk ps ks, k, g => by
    by_cases hk : ks = []
    · subst hk
      obtain ⟨_, _, _, ha⟩ := g.leaf
      rw [dropS, dropF]
      simp only [T.ks, T.ps, if_true]
      rw [delS_eq ha]
    · obtain ⟨rfl, h1, h2, h3, h4, h5⟩ := g.kids hk
      obtain ⟨q1, _, _⟩ := kidOf_spec k hk
      obtain ⟨ih, _⟩ := dropF_out h false _ k (g.kid hk k)
      have e1 : dropS (h + 1) (.mk [] ks) k = if (dropS h (tAt ks (wayOf ks k)) k).poor = true then .mk [] ((ks.set (wayOf ks k) (dropS h (tAt ks (wayOf ks k)) k)).take (max (wayOf ks k) 1 - 1) ++ togS (tAt (ks.set (wayOf ks k) (dropS h (tAt ks (wayOf ks k)) k)) (max (wayOf ks k) 1 - 1)) (tAt (ks.set (wayOf ks k) (dropS h (tAt ks (wayOf ks k)) k)) (max (wayOf ks k) 1)) ++ (ks.set (wayOf ks k) (dropS h (tAt ks (wayOf ks k)) k)).drop (max (wayOf ks k) 1 + 1)) else .mk [] (ks.set (wayOf ks k) (dropS h (tAt ks (wayOf ks k)) k)) := by
        rw [dropS, if_neg (show ¬ (T.mk [] ks).ks = [] from hk)]; rfl
      have e2 : dropF (h + 1) (.mk [] ks) k = if (dropF h (tAt ks (kidOf ks k)) k).poor = true then .mk [] (mendK (ks.set (kidOf ks k) (dropF h (tAt ks (kidOf ks k)) k)) (kidOf ks k)) else .mk [] (ks.set (kidOf ks k) (dropF h (tAt ks (kidOf ks k)) k)) := by
        rw [dropF, if_neg (show ¬ (T.mk [] ks).ks = [] from hk)]; rfl
      rw [e1, e2, wayOf_eq hk h3 h5, dropS_eq h false _ k (g.kid hk k)]
      clear e1 e2
      generalize hq : kidOf ks k = q at *
      generalize hrr : dropF h (tAt ks q) k = rr at *
      cases hpo : rr.poor with
      | false => rfl
      | true =>
        simp only [if_true]
        obtain ⟨s, hs⟩ : ∃ s, max q 1 = s + 1 := ⟨max q 1 - 1, by omega⟩
        have hsl : s + 1 < ks.length := by omega
        have hat : ∀ i, i < ks.length → tAt (ks.set q rr) i = if i = q then rr else tAt ks i := by
          intro i hi
          by_cases e : i = q
          · subst e; simp [tAt, hi]
          · rw [if_neg e]; simp [tAt, Ne.symm e]
        have hn : ∀ i, i < ks.length → Near h (tAt (ks.set q rr) i) (tAt (ks.set q rr) i).all := by
          intro i hi
          rw [hat i hi]
          by_cases e : i = q
          · rw [if_pos e]; exact ⟨ih.ev, rfl, ih.leaf, ih.br⟩
          · rw [if_neg e]; exact near_of_full (h4 _ (tAt_mem hi)) (h3 _ (tAt_mem hi))
        rw [mendK_two _ s q hs (by rw [List.length_set]; omega), hs, Nat.add_sub_cancel, togS_two (hn s (by omega)) (hn (s + 1) hsl)]
end Go.Proofs.YtcpdedpgjaimkaaDoor
/-
  l03Few and l03Together of the specification.
-/
namespace Go.Proofs.YtcpdedpgjaimkaaDoor
open Go.RowKit
set_option maxHeartbeats 1000000 in
theorem specFew_any (S : Nat → Prop) (lf : Bool) (ap ak : Option Addr) (np cp nk ck : Nat) (t : T) (w : World) (h : Sub w S lf (.slice ap np cp) (.slice ak nk ck) t) (hb : t.ks ≠ [] → t.ps = []) :
    Calls Tryd.prog 75 #[.agg #[.bool lf, .slice ap np cp, .slice ak nk ck]] w fun e w' => e = .returned (.bool t.poor) ∧ Below w.heap.size w w' := by
  obtain ⟨_, _, _, _, _, _, e1, e2, HNP, HNK, b1, b2, hlf, -⟩ := h.shape
  cases e1
  cases e2
  have HB0 := hid (below_new (o := .cells #[.bool lf, .slice ap np cp, .slice ak nk ck] 98) (w := w) (Below.refl _ _))
  have K0 := hid (Bk.new w 98 [.bool lf, .slice ap np cp, .slice ak nk ck])
  have c0 := K0.out.cell (j := 0) rfl
  have c1 := K0.out.cell (j := 1) rfl
  have c2 := K0.out.cell (j := 2) rfl
  clear h
  by_cases hk : nk = 0
  · have hlf' : lf = true := by rw [hlf, hk]; rfl
    have HE : Hid (t.poor = decide ((np : Int) < 2)) := by
      show decide (t.ps.length + t.ks.length < 2) = decide ((np : Int) < 2)
      rw [← HNK.out, ← HNP.out, hk, decide_eq_decide]; omega
    subst hlf' hk
    clear hlf hb
    by_cases h2 : np < 2
    · have h2' : (np : Int) < 2 := by omega
      have HE2 : Hid (t.poor = true) := by show _ = _; rw [HE.out]; exact decide_eq_true h2'
      go_enter Tryd.func75, Tryd.ntmps75
      go_wp2
      go_ret
      exact ⟨by rw [HE2.out]; rfl, HB0.out⟩
    · have h2' : ¬ (np : Int) < 2 := by omega
      have HE2 : Hid (t.poor = false) := by show _ = _; rw [HE.out]; exact decide_eq_false h2'
      go_enter Tryd.func75, Tryd.ntmps75
      go_wp2
      go_ret
      exact ⟨by rw [HE2.out]; rfl, HB0.out⟩
  · have hlf' : lf = false := by rw [hlf]; exact decide_eq_false hk
    have hps : t.ps = [] := hb (fun e => hk (by rw [HNK.out, e]; rfl))
    have HE : Hid (t.poor = decide ((nk : Int) < 2)) := by
      show decide (t.ps.length + t.ks.length < 2) = decide ((nk : Int) < 2)
      rw [← HNK.out, hps, decide_eq_decide]; simp; omega
    subst hlf'
    clear hlf hb hps
    by_cases h2 : nk < 2
    · have h2' : (nk : Int) < 2 := by omega
      have HE2 : Hid (t.poor = true) := by show _ = _; rw [HE.out]; exact decide_eq_true h2'
      go_enter Tryd.func75, Tryd.ntmps75
      go_wp2
      go_ret
      exact ⟨by rw [HE2.out]; rfl, HB0.out⟩
    · have h2' : ¬ (nk : Int) < 2 := by omega
      have HE2 : Hid (t.poor = false) := by show _ = _; rw [HE.out]; exact decide_eq_false h2'
      go_enter Tryd.func75, Tryd.ntmps75
      go_wp2
      go_ret
      exact ⟨by rw [HE2.out]; rfl, HB0.out⟩
structure TgI (w wr : World) (xa xb xs : List Value) : Prop where
  a : Bk wr w.heap.size 98 xa
  b : Bk wr (w.heap.size + 1) 98 xb
  s : Bk wr (w.heap.size + 1 + 1) 98 xs
  bel : Below w.heap.size w wr
  z : w.heap.size + 3 ≤ wr.heap.size
theorem TgI.keep {w wr w1 : World} {xa xb xs : List Value} (h : TgI w wr xa xb xs) (hb : Below wr.heap.size wr w1) : TgI w w1 xa xb xs := ⟨h.a.below hb, h.b.below hb, h.s.below hb, Below.then' h.bel hb (Nat.le_refl _), Nat.le_trans h.z hb.size⟩
theorem TgI.grow {w u w2 : World} {xa xb xs : List Value} {o : Option Nat} (h : TgI w u xa xb xs) (hg : u.grownBy w2 o) (ho : ∀ x, o = some x → w.heap.size + 3 ≤ x) : TgI w w2 xa xb xs := by
  have hon : Only (fun y => o = some y) u w2 := only_of_grown hg (fun _ e => e)
  exact ⟨h.a.to hon (fun e => by have := ho _ e; omega), h.b.to hon (fun e => by have := ho _ e; omega), h.s.to hon (fun e => by have := ho _ e; omega), h.bel.trans (hon.below h.bel.size (fun b hb e => by have := ho _ e; omega)), Nat.le_trans h.z hg.size⟩
theorem TgI.put {w u : World} {xa xb xs : List Value} (h : TgI w u xa xb xs) (j : Nat) (v : Value) : TgI w (u.setCell ⟨w.heap.size + 1 + 1, j, none⟩ v) xa xb (xs.set j v) := by
  have hon : Only (fun y => y = w.heap.size + 1 + 1) u (u.setCell ⟨w.heap.size + 1 + 1, j, none⟩ v) := only_set (R := fun y => y = w.heap.size + 1 + 1) rfl _
  exact ⟨h.a.to hon (by omega), h.b.to hon (by omega), h.s.set j v, h.bel.trans (hon.below h.bel.size (fun b hb e => by omega)), Nat.le_trans h.z hon.size⟩
theorem SubR.subP {w : World} {S : Nat → Prop} {lf : Bool} {pv kv : Value} {ps : List PB} {ts : List T} (h : SubR w S kv ts) (hP : Pr w S pv ps) (hlf : lf = decide (ts.length = 0)) : Sub w S lf pv kv (.mk ps ts) := by
  obtain ⟨L, P, K, h1, h2⟩ := h
  exact .mk lf pv kv ps ts L P K hlf hP h1 h2
set_option maxHeartbeats 2000000 in
set_option maxRecDepth 20000 in
theorem specTogether_any (S : Nat → Prop) (l1 l2 : Bool) (ap1 ak1 ap2 ak2 : Option Addr) (np1 cp1 nk1 ck1 np2 cp2 nk2 ck2 : Nat) (t1 t2 : T) (w : World) (h1 : Sub w S l1 (.slice ap1 np1 cp1) (.slice ak1 nk1 ck1) t1) (h2 : Sub w S l2 (.slice ap2 np2 cp2) (.slice ak2 nk2 ck2) t2)
    (hab : t1.ks = [] ↔ t2.ks = []) (hs : t1.ps.length + t2.ps.length ≤ 1000) (hs2 : t1.ks.length + t2.ks.length ≤ 1000) :
    Calls Tryd.prog 76 #[.agg #[.bool l1, .slice ap1 np1 cp1, .slice ak1 nk1 ck1], .agg #[.bool l2, .slice ap2 np2 cp2, .slice ak2 nk2 ck2]] w fun e w' => SubsPost w S (togS t1 t2) e w' := by
  obtain ⟨_, _, _, _, _, _, e1, e2, HNP1, HNK1, -, -, hl1, hP1⟩ := h1.shape
  cases e1
  cases e2
  obtain ⟨_, _, _, _, _, _, e1, e2, HNP2, HNK2, -, -, -, hP2⟩ := h2.shape
  cases e1
  cases e2
  have HLF : Hid (l1 = decide ((t1.ks ++ t2.ks).length = 0)) := by
    show _ = _
    rw [hl1, HNK1.out, decide_eq_decide, List.length_append]
    constructor
    · intro h
      have := hab.1 (List.eq_nil_of_length_eq_zero h)
      rw [this]; simp; exact List.eq_nil_of_length_eq_zero h
    · intro h; omega
  have H1 : Hid (Sub w (fun y => S y ∧ y < w.heap.size) l1 (.slice ap1 np1 cp1) (.slice ak1 nk1 ck1) t1) := h1.mono (fun y hy hl => ⟨hy, hl⟩)
  have H2 : Hid (Sub w (fun y => S y ∧ y < w.heap.size) l2 (.slice ap2 np2 cp2) (.slice ak2 nk2 ck2) t2) := h2.mono (fun y hy hl => ⟨hy, hl⟩)
  have HP1 : Hid (Pr w (fun y => S y ∧ y < w.heap.size) (.slice ap1 np1 cp1) t1.ps) := Rw.mono hP1 (fun y hy hl => ⟨hy, hl⟩)
  have HP2 : Hid (Pr w (fun y => S y ∧ y < w.heap.size) (.slice ap2 np2 cp2) t2.ps) := Rw.mono hP2 (fun y hy hl => ⟨hy, hl⟩)
  have HSP : Hid (t1.ps.length + t2.ps.length ≤ 1000 ∧ t1.ks.length + t2.ks.length ≤ 1000) := ⟨hs, hs2⟩
  clear h1 h2 hP1 hP2 hab hl1 hs hs2
  have HI0 : Hid (TgI w (((w.alloc (.cells #[.bool l1, .slice ap1 np1 cp1, .slice ak1 nk1 ck1] 98)).alloc (.cells #[.bool l2, .slice ap2 np2 cp2, .slice ak2 nk2 ck2] 98)).alloc (.cells #[.bool l1, .slice none 0 0, .slice none 0 0] 98)) [.bool l1, .slice ap1 np1 cp1, .slice ak1 nk1 ck1] [.bool l2, .slice ap2 np2 cp2, .slice ak2 nk2 ck2] [.bool l1, .slice none 0 0, .slice none 0 0]) := by
    refine ⟨((Bk.new w 98 [.bool l1, .slice ap1 np1 cp1, .slice ak1 nk1 ck1]).alloc _).alloc _, ?_, ?_, below_new (below_new (below_new (Below.refl _ _))), by simp⟩
    · have := (Bk.new (w.alloc (.cells #[.bool l1, .slice ap1 np1 cp1, .slice ak1 nk1 ck1] 98)) 98 [.bool l2, .slice ap2 np2 cp2, .slice ak2 nk2 ck2]).alloc (.cells #[.bool l1, .slice none 0 0, .slice none 0 0] 98)
      simpa using this
    · have := Bk.new ((w.alloc (.cells #[.bool l1, .slice ap1 np1 cp1, .slice ak1 nk1 ck1] 98)).alloc (.cells #[.bool l2, .slice ap2 np2 cp2, .slice ak2 nk2 ck2] 98)) 98 [.bool l1, .slice none 0 0, .slice none 0 0]
      simpa using this
  have q0 := ((Bk.new w 98 [.bool l1, .slice ap1 np1 cp1, .slice ak1 nk1 ck1]).alloc (.cells #[.bool l2, .slice ap2 np2 cp2, .slice ak2 nk2 ck2] 98)).cell (j := 0) rfl
  go_enter Tryd.func76, Tryd.ntmps76
  go_wp2_with fail
  generalize ((w.alloc (.cells #[.bool l1, .slice ap1 np1 cp1, .slice ak1 nk1 ck1] 98)).alloc (.cells #[.bool l2, .slice ap2 np2 cp2, .slice ak2 nk2 ck2] 98)).alloc (.cells #[.bool l1, .slice none 0 0, .slice none 0 0] 98) = U at *
  clear q0
  have a1 := HI0.out.a.cell (j := 1) rfl
  have b1 := HI0.out.b.cell (j := 1) rfl
  have s1 := HI0.out.s.cell (j := 1) rfl
  have sf := HI0.out.s.free 1
  have HIb := hid (HI0.out.keep (below_new (o := .cells #[] 91) (w := U) (Below.refl _ _)))
  have HIa := hid (HIb.out.keep (below_drew _))
  have a1' := HIb.out.a.cell (j := 1) rfl
  have b1' := HIb.out.b.cell (j := 1) rfl
  have HO0 := hid ((ow_new U (w.heap.size + 3) HI0.out.z).kept (below_drew _))
  have HW1 : Hid (∀ (v2 : Value) (w2 : World), Ow w2 (w.heap.size + 3) v2 ([] ++ t1.ps) → (U.alloc (.cells #[] 91)).drew.grownBy w2 (Value.slice (some ⟨U.heap.size, 0, none⟩) 0 0).ownBlock → TgI w w2 [.bool l1, .slice ap1 np1 cp1, .slice ak1 nk1 ck1] [.bool l2, .slice ap2 np2 cp2, .slice ak2 nk2 ck2] [.bool l1, .slice none 0 0, .slice none 0 0]) := fun v2 w2 _ hg => HIa.out.grow hg (fun x e => by have := HI0.out.z; have e' : U.heap.size = x := (by simpa [Value.ownBlock] using e); omega)
  have HFIN : Hid (∀ (w2 w3 : World) (a2 a3 : Option Addr) (n2 c2 n3 c3 : Nat), TgI w w2 [.bool l1, .slice ap1 np1 cp1, .slice ak1 nk1 ck1] [.bool l2, .slice ap2 np2 cp2, .slice ak2 nk2 ck2] [.bool l1, .slice none 0 0, .slice none 0 0] → Ow w2 (w.heap.size + 3) (.slice a2 n2 c2) ([] ++ t1.ps) → w2.grownBy w3 (Value.slice a2 n2 c2).ownBlock → Ow w3 (w.heap.size + 3) (.slice a3 n3 c3) (([] ++ t1.ps) ++ t2.ps) →
      TgI w (w3.setCell ⟨w.heap.size + 1 + 1, 1, none⟩ (.slice a3 n3 c3)) [.bool l1, .slice ap1 np1 cp1, .slice ak1 nk1 ck1] [.bool l2, .slice ap2 np2 cp2, .slice ak2 nk2 ck2] [.bool l1, .slice a3 n3 c3, .slice none 0 0] ∧ Ow (w3.setCell ⟨w.heap.size + 1 + 1, 1, none⟩ (.slice a3 n3 c3)) (w.heap.size + 3) (.slice a3 n3 c3) (t1.ps ++ t2.ps)) := by
    intro w2 w3 a2 a3 n2 c2 n3 c3 hI hO2 hg hO3
    refine ⟨(hI.grow hg (fun x e => (World.ownsRow.lt hO2 x e).1)).put 1 _, ?_⟩
    exact Ow.to hO3 (only_set (R := fun y => y = w.heap.size + 1 + 1) rfl _) (fun x e h => by have := (World.ownsRow.lt hO3 x e).1; omega)
  have hl1 : ([] : List PB).length + t1.ps.length ≤ 2097154 := by have := HSP.out.1; simp; omega
  have hl2 : (([] : List PB) ++ t1.ps).length + t2.ps.length ≤ 2097154 := by have := HSP.out.1; simp; omega
  go_cut [15] (fun x v => ∃ (a3 : Option Addr) (n3 c3 : Nat), x = x ∧ Hid (TgI w v [.bool l1, .slice ap1 np1 cp1, .slice ak1 nk1 ck1] [.bool l2, .slice ap2 np2 cp2, .slice ak2 nk2 ck2] [.bool l1, .slice a3 n3 c3, .slice none 0 0]) ∧ Hid (Ow v (w.heap.size + 3) (.slice a3 n3 c3) (t1.ps ++ t2.ps)))
  case first =>
    go_region_law (first
      | (refine step_append_pairs rfl _ _ rfl (w.heap.size + 3) (.slice (some ⟨U.heap.size, 0, none⟩) 0 0) [] rfl HO0.out _ _ t1.ps rfl (HP1.out.below HIa.out.bel) hl1 HIa.out.z ?_; intro v2 w2 hO2 hg2; obtain ⟨a2, n2, c2, e2, -⟩ := hO2.shape'; subst e2; have hI2 := HW1.out _ _ hO2 hg2; have b2' := hI2.b.cell (j := 1) rfl)
      | (refine step_append_pairs rfl _ _ rfl (w.heap.size + 3) (.slice a2 n2 c2) ([] ++ t1.ps) rfl hO2 _ _ t2.ps rfl (HP2.out.below hI2.bel) hl2 hI2.z ?_; intro v3 w3 hO3 hg3; obtain ⟨a3, n3, c3, e3, -⟩ := hO3.shape'; subst e3; have hI3 := hI2.grow hg3 (fun x e => (World.ownsRow.lt hO2 x e).1); have s3 := hI3.s.cell (j := 1) rfl; have s3f := hI3.s.free 1))
    all_goals (go_wp2_with fail; go_meet)
    all_goals exact ⟨_, _, _, trivial, (HFIN.out _ _ _ _ _ _ _ _ hI2 hO2 hg3 hO3).1, (HFIN.out _ _ _ _ _ _ _ _ hI2 hO2 hg3 hO3).2⟩
  case rest =>
    obtain ⟨a3, n3, c3, -, HI3, HO3⟩ := hcut
    clear HFIN HW1 HO0 HIa HIb a1 b1 s1 sf a1' b1' HI0 hl1 hl2
    have a1 := HI3.out.a.cell (j := 2) rfl
    have b1 := HI3.out.b.cell (j := 2) rfl
    have s1 := HI3.out.s.cell (j := 2) rfl
    have sf := HI3.out.s.free 2
    have HIb := hid (HI3.out.keep (below_new (o := .cells #[] 98) (w := wc) (Below.refl _ _)))
    have HIa := hid (HIb.out.keep (below_drew _))
    have a1' := HIb.out.a.cell (j := 2) rfl
    have b1' := HIb.out.b.cell (j := 2) rfl
    have HS0 := hid ((so_new wc wc.heap.size (Nat.le_refl _)).kept (below_drew _))
    have HZ := hid HI3.out.z
    have HAP : Hid (∀ y, S y ∧ y < w.heap.size → (Value.slice (some ⟨wc.heap.size, 0, none⟩) 0 0).ownBlock ≠ some y) := fun y hy e => by have := HZ.out; have e' : wc.heap.size = y := (by simpa [Value.ownBlock] using e); have := hy.2; omega
    have HAQ : Hid (∀ (w4 : World) (R : Nat → Prop) (v4 : Value) (L : List T), SO w4 wc.heap.size R v4 L → ∀ y, S y ∧ y < w.heap.size → v4.ownBlock ≠ some y) := fun w4 R v4 L h y hy e => by have := HZ.out; have := (h.lo y e).1; have := hy.2; omega
    have hl1 : ([] : List T).length + t1.ks.length ≤ 1048576 := by have := HSP.out.2; simp; omega
    have hl2 : (([] : List T) ++ t1.ks).length + t2.ks.length ≤ 1048576 := by have := HSP.out.2; simp; omega
    have HZA : Hid (wc.heap.size ≤ (wc.alloc (.cells #[] 98)).drew.heap.size) := by show wc.heap.size ≤ (wc.alloc (.cells #[] 98)).heap.size; simp
    have HGR : Hid (∀ (w4 : World) (R : Nat → Prop) (v4 : Value) (L : List T), (wc.alloc (.cells #[] 98)).drew.grownBy w4 (Value.slice (some ⟨wc.heap.size, 0, none⟩) 0 0).ownBlock → TgI w w4 [.bool l1, .slice ap1 np1 cp1, .slice ak1 nk1 ck1] [.bool l2, .slice ap2 np2 cp2, .slice ak2 nk2 ck2] [.bool l1, .slice a3 n3 c3, .slice none 0 0] ∧ wc.heap.size ≤ w4.heap.size ∧ Ow w4 (w.heap.size + 3) (.slice a3 n3 c3) (t1.ps ++ t2.ps)) := by
      intro w4 R v4 L hg
      have hon : Only (fun y => wc.heap.size ≤ y) (wc.alloc (.cells #[] 98)).drew w4 := only_of_grown hg (fun k e => by have e' : wc.heap.size = k := (by simpa [Value.ownBlock] using e); omega)
      refine ⟨HIa.out.grow hg (fun x e => by have := HZ.out; have e' : wc.heap.size = x := (by simpa [Value.ownBlock] using e); omega), Nat.le_trans HZA.out hg.size, ?_⟩
      exact ((HO3.out.kept (below_new (Below.refl _ _))).kept (below_drew _)).to hon (fun x e h => by have := (World.ownsRow.lt HO3.out x e).2; omega)
    have HFIN : Hid (∀ (w4 w5 : World) (a4 a5 : Option Addr) (n4 c4 n5 c5 : Nat) (R4 R5 : Nat → Prop), TgI w w4 [.bool l1, .slice ap1 np1 cp1, .slice ak1 nk1 ck1] [.bool l2, .slice ap2 np2 cp2, .slice ak2 nk2 ck2] [.bool l1, .slice a3 n3 c3, .slice none 0 0] → SO w4 wc.heap.size R4 (.slice a4 n4 c4) ([] ++ t1.ks) → w4.grownBy w5 (Value.slice a4 n4 c4).ownBlock → SO w5 wc.heap.size R5 (.slice a5 n5 c5) (([] ++ t1.ks) ++ t2.ks) → (∀ y, R5 y → S y ∧ y < w.heap.size) → Ow w4 (w.heap.size + 3) (.slice a3 n3 c3) (t1.ps ++ t2.ps) →
        TgI w (w5.setCell ⟨w.heap.size + 1 + 1, 2, none⟩ (.slice a5 n5 c5)) [.bool l1, .slice ap1 np1 cp1, .slice ak1 nk1 ck1] [.bool l2, .slice ap2 np2 cp2, .slice ak2 nk2 ck2] [.bool l1, .slice a3 n3 c3, .slice a5 n5 c5] ∧ Sub (w5.setCell ⟨w.heap.size + 1 + 1, 2, none⟩ (.slice a5 n5 c5)) (fun y => S y ∨ w.heap.size ≤ y) l1 (.slice a3 n3 c3) (.slice a5 n5 c5) (.mk (t1.ps ++ t2.ps) (t1.ks ++ t2.ks))) := by
      intro w4 w5 a4 a5 n4 c4 n5 c5 R4 R5 hI hO4 hg hO5 hR hOw
      have hz := HZ.out
      have hon : Only (fun y => y = w.heap.size + 1 + 1) w5 (w5.setCell ⟨w.heap.size + 1 + 1, 2, none⟩ (.slice a5 n5 c5)) := only_set (R := fun y => y = w.heap.size + 1 + 1) rfl _
      have hon4 : Only (fun y => wc.heap.size ≤ y) w4 w5 := only_of_grown hg (fun k e => (hO4.lo k e).1)
      have hlt3 := World.ownsRow.lt HO3.out
      have hw5 := hOw.to hon4 (fun x e h => by have := (hlt3 x e).2; omega)
      have hwf := hw5.to hon (fun x e h => by have := (hlt3 x e).1; omega)
      refine ⟨(hI.grow hg (fun x e => by have := (hO4.lo x e).1; omega)).put 2 _, ?_⟩
      have hSO := hO5.to hon (fun y e h => by have := (hO5.lo y e).1; omega) (fun y hy _ h => by have := (hR y hy).2; omega)
      refine (hSO.subR (R := fun y => S y ∨ w.heap.size ≤ y) (fun y _ h1 _ => .inr (by omega)) (fun y hy _ => .inl (hR y hy).1)).subP (hwf.pr (fun k _ h1 _ => .inr (by omega))) ?_
      have := HLF.out
      simpa using this
    go_wp2_with fail
    go_cut [23] (fun x v => ∃ (a5 : Option Addr) (n5 c5 : Nat), x = x ∧ Hid (TgI w v [.bool l1, .slice ap1 np1 cp1, .slice ak1 nk1 ck1] [.bool l2, .slice ap2 np2 cp2, .slice ak2 nk2 ck2] [.bool l1, .slice a3 n3 c3, .slice a5 n5 c5]) ∧ Hid (Sub v (fun y => S y ∨ w.heap.size ≤ y) l1 (.slice a3 n3 c3) (.slice a5 n5 c5) (.mk (t1.ps ++ t2.ps) (t1.ks ++ t2.ks))))
    case first =>
      go_region_law (first
        | (refine step_append_subs rfl _ _ rfl wc.heap.size _ (fun y => S y ∧ y < w.heap.size) (.slice (some ⟨wc.heap.size, 0, none⟩) 0 0) _ [] t1.ks rfl HS0.out rfl ((H1.out.kept HIa.out.bel).row) HAP.out hl1 HZA.out ?_; intro v4 w4 hO4 hg4 ha4; obtain ⟨a4, n4, c4, e4, -⟩ := hO4.shape; subst e4; obtain ⟨hI4, hz4, hw4⟩ := HGR.out w4 (fun _ => True) (.slice none 0 0) [] hg4; have b2' := hI4.b.cell (j := 2) rfl)
        | (refine step_append_subs rfl _ _ rfl wc.heap.size _ (fun y => S y ∧ y < w.heap.size) (.slice a4 n4 c4) _ ([] ++ t1.ks) t2.ks rfl hO4 rfl ((H2.out.kept hI4.bel).row) (HAQ.out _ _ _ _ hO4) hl2 hz4 ?_; intro v5 w5 hO5 hg5 ha5; obtain ⟨a5, n5, c5, e5, -⟩ := hO5.shape; subst e5; have hI5 := hI4.grow hg5 (fun x e => Nat.le_trans HZ.out (hO4.lo x e).1); have s3 := hI5.s.cell (j := 2) rfl; have s3f := hI5.s.free 2))
      all_goals (go_wp2_with fail; go_meet)
      all_goals exact ⟨_, _, _, trivial, (HFIN.out _ _ _ _ _ _ _ _ _ _ hI4 hO4 hg5 hO5 (fun y hy => by rcases hy.1 with ⟨h | h, _⟩ | h; exact h.elim; exact h; exact h) hw4).1, (HFIN.out _ _ _ _ _ _ _ _ _ _ hI4 hO4 hg5 hO5 (fun y hy => by rcases hy.1 with ⟨h | h, _⟩ | h; exact h.elim; exact h; exact h) hw4).2⟩
    case rest =>
      obtain ⟨a5, n5, c5, -, HI5, HS5⟩ := hcut
      clear HFIN HGR HAQ HAP HS0 HIa HIb a1 b1 s1 sf a1' b1' HI3 HO3
      have q0 := HI5.out.s.cell (j := 0) rfl
      have q1 := HI5.out.s.cell (j := 1) rfl
      have q2 := HI5.out.s.cell (j := 2) rfl
      rename_i wc2
      have HSP2 := hid (specSplit_any _ l1 a3 a5 n3 c3 n5 c5 _ _ HS5.out)
      go_wp2_with fail
      refine HSP2.out.mono ?_
      rintro e w7 ⟨v7, rfl, h8, h9⟩
      have H8 : Hid (SubR w7 (fun y => S y ∨ w.heap.size ≤ y) v7 (togS t1 t2)) := h8.mono (fun y hy _ => hy.elim id (fun h => .inr (by have := HI5.out.z; omega)))
      have H9 := hid (Below.then' HI5.out.bel h9 (Nat.le_refl _))
      clear h8 h9 HSP2
      go_wp2
      go_ret
      exact ⟨_, rfl, H8.out, H9.out⟩
end Go.Proofs.YtcpdedpgjaimkaaDoor
/-
  A list of nodes whose rows are all apart from each other.
-/
namespace Go.Proofs.YtcpdedpgjaimkaaDoor
open Go.RowKit
structure NA (w : World) (v : Value) (V : List V3) (ns : List NB) : Prop where
  len : V.length = ns.length
  row : w.ownsRow 0 112 3 v ns.length (ncs V)
  own : ∀ i, i < ns.length → OwN w (vAt V i) (nAt ns i) ∧ ap3 (vAt V i)
  apart : ∀ i j, i < ns.length → j < ns.length → i ≠ j → ∀ y, bl (vAt V i) y → ¬ bl (vAt V j) y
  off : ∀ i, i < ns.length → ∀ y, bl (vAt V i) y → v.ownBlock ≠ some y
theorem NA.to {w w' : World} {R : Nat → Prop} {v : Value} {V : List V3} {ns : List NB} (h : NA w v V ns) (ho : Only R w w') (hv : ∀ y, v.ownBlock = some y → ¬ R y) (hR : ∀ i, i < ns.length → ∀ y, bl (vAt V i) y → ¬ R y) : NA w' v V ns :=
  ⟨h.len, own_kept h.row ho hv, fun i hi => ⟨(h.own i hi).1.to ho (hR i hi), (h.own i hi).2⟩, h.apart, h.off⟩
theorem NA.kept {w w' : World} {v : Value} {V : List V3} {ns : List NB} (h : NA w v V ns) (hb : Below w.heap.size w w') : NA w' v V ns := h.to (only_of_below hb (fun _ => False)) (fun _ _ h => h) (fun _ _ _ _ h => h)
theorem na_nil (w : World) : NA w (.slice none 0 0) [] [] := ⟨rfl, World.ownsRow_nil _ _ _ _, fun i hi => by simp at hi, fun i j hi => by simp at hi, fun i hi => by simp at hi⟩
theorem NA.nr {w : World} {v : Value} {V : List V3} {ns : List NB} (h : NA w v V ns) {S : Nat → Prop} (hS : ∀ y, y < w.heap.size → S y) : Nr w S v ns :=
  ⟨V, h.len, rw_own h.row (fun k _ _ h => hS k h), fun i hi => ⟨rw_own (h.own i hi).1.1 (fun k _ _ h => hS k h), rw_own (h.own i hi).1.2.1 (fun k _ _ h => hS k h), rw_own (h.own i hi).1.2.2 (fun k _ _ h => hS k h)⟩⟩
/-- append(nodes, a node). -/
theorem NA.push {u w2 : World} {v v' : Value} {V : List V3} {ns : List NB} (h : NA u v V ns) (x : NB) (p : V3) (hx : OwN u p x) (hap : ap3 p) (hd : ∀ y, bl p y → v.ownBlock ≠ some y ∧ ∀ i, i < ns.length → ¬ bl (vAt V i) y)
    (ho : w2.ownsRow 0 112 3 v' (ns.length + 1) (ncs V ++ [p.1, p.2.1, p.2.2])) (hg : u.grownBy w2 v.ownBlock) (ha : v'.ownBlock = v.ownBlock ∨ v'.ownBlock = some u.heap.size) :
    NA w2 v' (V ++ [p]) (ns ++ [x]) := by
  have o : Only (fun y => v.ownBlock = some y) u w2 := only_of_grown hg (fun k e => e)
  have hl := h.len
  have hat : ∀ i, i < (ns ++ [x]).length → (i < ns.length ∧ vAt (V ++ [p]) i = vAt V i ∧ nAt (ns ++ [x]) i = nAt ns i) ∨ (i = ns.length ∧ vAt (V ++ [p]) i = p ∧ nAt (ns ++ [x]) i = x) := by
    intro i hi
    simp at hi
    by_cases e : i < ns.length
    · exact .inl ⟨e, vAt_append_left (by omega), nAt_append_left e⟩
    · obtain rfl : i = ns.length := by omega
      exact .inr ⟨rfl, by rw [← hl, vAt_append_at], nAt_append_at _ _ _⟩
  refine ⟨by simp [hl], by rw [ncs_append, List.length_append]; exact ho, fun i hi => ?_, fun i j hi hj hij y hy hz => ?_, fun i hi y hy hv => ?_⟩
  · rcases hat i hi with ⟨e, e1, e2⟩ | ⟨e, e1, e2⟩
    · rw [e1, e2]; exact ⟨(h.own i e).1.to o (h.off i e), (h.own i e).2⟩
    · rw [e1, e2]; exact ⟨hx.to o (fun y hy => (hd y hy).1), hap⟩
  · rcases hat i hi with ⟨e, e1, _⟩ | ⟨e, e1, _⟩
    · rw [e1] at hy
      rcases hat j hj with ⟨d, d1, _⟩ | ⟨d, d1, _⟩
      · rw [d1] at hz; exact h.apart i j e d hij y hy hz
      · rw [d1] at hz; exact (hd y hz).2 i e hy
    · rw [e1] at hy
      rcases hat j hj with ⟨d, d1, _⟩ | ⟨d, d1, _⟩
      · rw [d1] at hz; exact (hd y hy).2 j d hz
      · omega
  · have : y < u.heap.size ∧ v.ownBlock ≠ some y := by
      rcases hat i hi with ⟨e, e1, _⟩ | ⟨e, e1, _⟩
      · rw [e1] at hy; exact ⟨(h.own i e).1.lt hy, h.off i e y hy⟩
      · rw [e1] at hy; exact ⟨hx.lt hy, (hd y hy).1⟩
    rcases ha with ha | ha
    · rw [ha] at hv; exact this.2 hv
    · rw [ha] at hv; cases hv; omega
theorem nAt_other (ms : List NB) (z x : NB) (l : List NB) {i : Nat} (h : i ≠ ms.length) : nAt (ms ++ x :: l) i = nAt (ms ++ z :: l) i := by
  by_cases hi2 : i < ms.length
  · rw [nAt_append_left hi2, nAt_append_left hi2]
  · obtain ⟨j, rfl⟩ : ∃ j, i = ms.length + 1 + j := ⟨i - ms.length - 1, by omega⟩
    simp only [nAt]
    rw [List.getElem?_append_right (by omega), List.getElem?_append_right (by omega), show ms.length + 1 + j - ms.length = j + 1 by omega]
    rfl
/-- One node has turned. -/
theorem NA.upd {u w2 w3 : World} {v : Value} {V : List V3} {ms l : List NB} {z z' : NB} {p' : V3} {g : Nat} (h : NA u v V (ms ++ z :: l)) (hv : v.ownBlock = some g) (ho : Only (bl (vAt V ms.length)) u w2) (hown : OwN w2 p' z') (hap : ap3 p')
    (hbl : ∀ y, bl p' y → bl (vAt V ms.length) y ∨ u.heap.size ≤ y) (o3 : Only (fun y => y = g) w2 w3) (hrow : w3.ownsRow 0 112 3 v (ms ++ z :: l).length (ncs (V.set ms.length p'))) : NA w3 v (V.set ms.length p') (ms ++ z' :: l) := by
  have hl2 : (ms ++ z' :: l).length = (ms ++ z :: l).length := by simp
  have hlt : ms.length < (ms ++ z :: l).length := by simp
  have hl := h.len
  have hg : g < u.heap.size := (World.ownsRow.lt h.row g hv).2
  have hoff : ∀ y, bl p' y → y ≠ g := by
    intro y hy e
    rcases hbl y hy with h1 | h1
    · exact h.off _ hlt y h1 (by rw [hv, e])
    · omega
  have hat : ∀ i, i ≠ ms.length → vAt (V.set ms.length p') i = vAt V i := fun i hi => vAt_other _ _ _ _ hi
  have hat0 : vAt (V.set ms.length p') ms.length = p' := vAt_set _ _ _ (by omega)
  refine ⟨by rw [List.length_set, hl, hl2], by rw [hl2]; exact hrow, fun i hi => ?_, fun i j hi hj hij y hy hz => ?_, fun i hi y hy hv' => ?_⟩
  · rw [hl2] at hi
    by_cases e : i = ms.length
    · subst e
      rw [hat0, nAt_append_at]
      exact ⟨hown.to o3 (fun y hy => hoff y hy), hap⟩
    · rw [hat i e, nAt_other ms z z' l e]
      exact ⟨((h.own i hi).1.to ho (fun y hy hz => h.apart i ms.length hi hlt e y hy hz)).to o3 (fun y hy e2 => h.off i hi y hy (by rw [hv, e2])), (h.own i hi).2⟩
  · rw [hl2] at hi hj
    have key : ∀ i, i < (ms ++ z :: l).length → i ≠ ms.length → ∀ y, bl (vAt V i) y → ¬ bl p' y := by
      intro i hi e y hy hz
      rcases hbl y hz with h1 | h1
      · exact h.apart i ms.length hi hlt e y hy h1
      · have := (h.own i hi).1.lt hy; omega
    by_cases e : i = ms.length
    · rw [e, hat0] at hy
      have hj' : j ≠ ms.length := by omega
      rw [hat j hj'] at hz
      exact key j hj hj' y hz hy
    · rw [hat i e] at hy
      by_cases e2 : j = ms.length
      · rw [e2, hat0] at hz; exact key i hi e y hy hz
      · rw [hat j e2] at hz; exact h.apart i j hi hj hij y hy hz
  · rw [hl2] at hi
    rw [hv] at hv'
    cases hv'
    by_cases e : i = ms.length
    · rw [e, hat0] at hy; exact hoff _ hy rfl
    · rw [hat i e] at hy; exact h.off i hi _ hy hv
theorem row_set {w : World} {E : TypeId} {s g n c m : Nat} {xs : List Value} (h : w.ownsRow 0 E s (.slice (some ⟨g, 0, none⟩) n c) m xs) (j : Nat) (u : Value) : (w.setCell ⟨g, j, none⟩ u).ownsRow 0 E s (.slice (some ⟨g, 0, none⟩) n c) m (xs.set j u) := by
  obtain ⟨k1, k2⟩ := h
  rcases k2 with ⟨k2, _⟩ | ⟨g', cap, cur, e, k3, k4, k5, k6, k7, k8⟩
  · cases k2
  · cases e
    refine ⟨by simpa using k1, .inr ⟨g, c, cur.setIfInBounds j u, rfl, k3, ?_, k5, k6, by simpa using k7, ?_⟩⟩
    · simp [World.setCell, Array.getElem?_modify, k4]
    · rw [← k8]
      simp only [Array.toList_setIfInBounds, List.take_set]
theorem set_same {xs : List Value} {j : Nat} {u : Value} (h : xs[j]? = some u) : xs.set j u = xs := by
  apply List.ext_getElem?
  intro i
  rw [List.getElem?_set]
  split
  · rename_i e; subst e
    split
    · exact h.symm
    · rename_i hl; rw [List.getElem?_eq_none (by omega)]
  · rfl
theorem ncs_set1 (V : List V3) (j : Nat) (x : Value) (h : j < V.length) : ncs (V.set j ((vAt V j).1, x, (vAt V j).2.2)) = (ncs V).set (j * 3 + 1) x := by
  obtain ⟨c0, c1, c2⟩ := ncs_at V j h
  rw [ncs_set _ _ _ h]
  simp only
  rw [set_same c0]
  apply set_same
  rw [List.getElem?_set, if_neg (by omega)]
  exact c2
theorem ncs_set2 (V : List V3) (j : Nat) (x : Value) (h : j < V.length) : ncs (V.set j ((vAt V j).1, (vAt V j).2.1, x)) = (ncs V).set (j * 3 + 2) x := by
  obtain ⟨c0, c1, c2⟩ := ncs_at V j h
  rw [ncs_set _ _ _ h]
  simp only
  rw [set_same c0, set_same c1]
/-- l[at].Keys = append(l[at].Keys, s) -/
theorem NA.addKey {u w2 : World} {g n c : Nat} {V : List V3} {ms l : List NB} {z : NB} {kx' : Value} {s : ByteArray} (h : NA u (.slice (some ⟨g, 0, none⟩) n c) V (ms ++ z :: l)) (hO : w2.ownsRow 0 9 1 kx' (z.keys.length + 1) (z.keys.map Value.string ++ [.string s])) (hg : u.grownBy w2 (vAt V ms.length).2.1.ownBlock)
    (ha : kx'.ownBlock = (vAt V ms.length).2.1.ownBlock ∨ ∃ k, kx'.ownBlock = some k ∧ u.heap.size ≤ k) :
    NA (w2.setCell ⟨g, ms.length * 3 + 1, none⟩ kx') (.slice (some ⟨g, 0, none⟩) n c) (V.set ms.length ((vAt V ms.length).1, kx', (vAt V ms.length).2.2)) (ms ++ ⟨z.ps, z.keys ++ [s], z.kids⟩ :: l) := by
  have hlt : ms.length < (ms ++ z :: l).length := by simp
  obtain ⟨h1, h2⟩ := h.own _ hlt
  rw [nAt_append_at] at h1
  have o : Only (fun y => (vAt V ms.length).2.1.ownBlock = some y) u w2 := only_of_grown hg (fun k e => e)
  have hl := h.len
  have hnew : ∀ y, kx'.ownBlock = some y → (vAt V ms.length).2.1.ownBlock = some y ∨ u.heap.size ≤ y := by
    intro y hy
    rcases ha with e | ⟨k, e, hk⟩
    · exact .inl (e ▸ hy)
    · rw [e] at hy; cases hy; exact .inr hk
  refine h.upd rfl (o.mono (fun y _ e => .inr (.inl e))) ⟨?_, ?_, ?_⟩ ?_ ?_ (only_set (R := fun y => y = g) rfl _) ?_
  · exact own_kept h1.1 o (fun y e e2 => ((h2 y).1 e).1 e2)
  · simpa using hO
  · exact own_kept h1.2.2 o (fun y e e2 => (h2 y).2 e2 e)
  · intro y
    refine ⟨fun e => ⟨fun e2 => ?_, ((h2 y).1 e).2⟩, fun e e2 => ?_⟩
    · rcases hnew y e2 with h3 | h3
      · exact ((h2 y).1 e).1 h3
      · have := h1.lt (.inl e); omega
    · rcases hnew y e with h3 | h3
      · exact (h2 y).2 h3 e2
      · have := h1.lt (.inr (.inr e2)); omega
  · rintro y (e | e | e)
    · exact .inl (.inl e)
    · exact (hnew y e).imp (fun h => .inr (.inl h)) id
    · exact .inl (.inr (.inr e))
  · rw [ncs_set1 _ _ _ (by omega)]
    exact row_set (own_kept h.row o (fun y e e2 => h.off _ hlt y (.inr (.inl e2)) e)) _ _
/-- l[at].Kids = append(l[at].Kids, s) -/
theorem NA.addKid {u w2 : World} {g n c : Nat} {V : List V3} {ms l : List NB} {z : NB} {ki' : Value} {s : Int} (h : NA u (.slice (some ⟨g, 0, none⟩) n c) V (ms ++ z :: l)) (hO : w2.ownsRow 0 3 1 ki' (z.kids.length + 1) (z.kids.map (Value.int .i64) ++ [.int .i64 s])) (hg : u.grownBy w2 (vAt V ms.length).2.2.ownBlock)
    (ha : ki'.ownBlock = (vAt V ms.length).2.2.ownBlock ∨ ∃ k, ki'.ownBlock = some k ∧ u.heap.size ≤ k) :
    NA (w2.setCell ⟨g, ms.length * 3 + 2, none⟩ ki') (.slice (some ⟨g, 0, none⟩) n c) (V.set ms.length ((vAt V ms.length).1, (vAt V ms.length).2.1, ki')) (ms ++ ⟨z.ps, z.keys, z.kids ++ [s]⟩ :: l) := by
  have hlt : ms.length < (ms ++ z :: l).length := by simp
  obtain ⟨h1, h2⟩ := h.own _ hlt
  rw [nAt_append_at] at h1
  have o : Only (fun y => (vAt V ms.length).2.2.ownBlock = some y) u w2 := only_of_grown hg (fun k e => e)
  have hl := h.len
  have hnew : ∀ y, ki'.ownBlock = some y → (vAt V ms.length).2.2.ownBlock = some y ∨ u.heap.size ≤ y := by
    intro y hy
    rcases ha with e | ⟨k, e, hk⟩
    · exact .inl (e ▸ hy)
    · rw [e] at hy; cases hy; exact .inr hk
  refine h.upd rfl (o.mono (fun y _ e => .inr (.inr e))) ⟨?_, ?_, ?_⟩ ?_ ?_ (only_set (R := fun y => y = g) rfl _) ?_
  · exact own_kept h1.1 o (fun y e e2 => ((h2 y).1 e).2 e2)
  · exact own_kept h1.2.1 o (fun y e e2 => (h2 y).2 e e2)
  · simpa using hO
  · intro y
    refine ⟨fun e => ⟨((h2 y).1 e).1, fun e2 => ?_⟩, fun e e2 => ?_⟩
    · rcases hnew y e2 with h3 | h3
      · exact ((h2 y).1 e).2 h3
      · have := h1.lt (.inl e); omega
    · rcases hnew y e2 with h3 | h3
      · exact (h2 y).2 e h3
      · have := h1.lt (.inr (.inl e)); omega
  · rintro y (e | e | e)
    · exact .inl (.inl e)
    · exact .inl (.inr (.inl e))
    · exact (hnew y e).imp (fun h => .inr (.inr h)) id
  · rw [ncs_set2 _ _ _ (by omega)]
    exact row_set (own_kept h.row o (fun y e e2 => h.off _ hlt y (.inr (.inr e2)) e)) _ _
/-- How far nodes has come: L stands there, ns stood there at the start; new rows lie in blocks of P or in new ones. -/
structure NI (w wr : World) (v vv : Value) (V0 V : List V3) (ns L : List NB) (P : Nat → Prop) : Prop where
  na : NA wr vv V L
  old : ∀ i, i < ns.length → vAt V i = vAt V0 i
  new : ∀ i, ns.length ≤ i → i < L.length → ∀ y, bl (vAt V i) y → P y ∨ w.heap.size ≤ y
  only : Only (fun y => v.ownBlock = some y) w wr
  vb : ∀ y, vv.ownBlock = some y → v.ownBlock = some y ∨ w.heap.size ≤ y
theorem NI.keep {w wr w1 : World} {v vv : Value} {V0 V : List V3} {ns L : List NB} {P : Nat → Prop} (h : NI w wr v vv V0 V ns L P) (hb : Below wr.heap.size wr w1) : NI w w1 v vv V0 V ns L P :=
  ⟨h.na.kept hb, h.old, h.new, h.only.trans (only_of_below hb _), h.vb⟩
theorem NI.mono {w wr : World} {v vv : Value} {V0 V : List V3} {ns L : List NB} {P Q : Nat → Prop} (h : NI w wr v vv V0 V ns L P) (hq : ∀ y, P y → Q y) : NI w wr v vv V0 V ns L Q :=
  ⟨h.na, h.old, fun i h1 h2 y hy => (h.new i h1 h2 y hy).imp (hq y) id, h.only, h.vb⟩
/-- Behind a kid's nodes. -/
theorem NI.then {w wr w' : World} {v vv v' : Value} {V0 V V' : List V3} {ns L M : List NB} {P Q : Nat → Prop} (h : NI w wr v vv V0 V ns L P) (hns : ns.length ≤ L.length) (k : NI wr w' vv v' V V' L M Q) : NI w w' v v' V0 V' ns M (fun y => P y ∨ Q y) := by
  have hs := h.only.size
  refine ⟨k.na, fun i hi => (k.old i (by omega)).trans (h.old i hi), fun i h1 h2 y hy => ?_, h.only.then k.only (fun i hi e => ?_), fun y hy => ?_⟩
  · by_cases e : i < L.length
    · rw [k.old i e] at hy
      exact (h.new i h1 e y hy).imp .inl id
    · rcases k.new i (by omega) h2 y hy with h3 | h3
      · exact .inl (.inr h3)
      · right; omega
  · rcases h.vb i e with h3 | h3
    · exact h3
    · omega
  · rcases k.vb y hy with h3 | h3
    · exact h.vb y h3
    · right; omega
theorem NI.addKey {w u w2 : World} {v : Value} {g n c : Nat} {V0 V : List V3} {ns l : List NB} {z : NB} {P : Nat → Prop} {kx' : Value} {s : ByteArray} (h : NI w u v (.slice (some ⟨g, 0, none⟩) n c) V0 V ns (ns ++ z :: l) P) (hO : w2.ownsRow 0 9 1 kx' (z.keys.length + 1) (z.keys.map Value.string ++ [.string s])) (hg : u.grownBy w2 (vAt V ns.length).2.1.ownBlock)
    (ha : kx'.ownBlock = (vAt V ns.length).2.1.ownBlock ∨ ∃ k, kx'.ownBlock = some k ∧ u.heap.size ≤ k) (hfr : ∀ y, (vAt V ns.length).2.1.ownBlock = some y → w.heap.size ≤ y) :
    NI w (w2.setCell ⟨g, ns.length * 3 + 1, none⟩ kx') v (.slice (some ⟨g, 0, none⟩) n c) V0 (V.set ns.length ((vAt V ns.length).1, kx', (vAt V ns.length).2.2)) ns (ns ++ ⟨z.ps, z.keys ++ [s], z.kids⟩ :: l) P := by
  have hs := h.only.size
  have hlt : ns.length < (ns ++ z :: l).length := by simp
  have hl := h.na.len
  refine ⟨h.na.addKey hO hg ha, fun i hi => (vAt_other _ _ _ _ (by omega)).trans (h.old i hi), fun i h1 h2 y hy => ?_, ?_, h.vb⟩
  · have h2' : i < (ns ++ z :: l).length := by simpa using h2
    by_cases e : i = ns.length
    · rw [e, vAt_set _ _ _ (by omega)] at hy
      rcases hy with hy | hy | hy
      · exact h.new _ (Nat.le_refl _) hlt y (.inl hy)
      · rcases ha with e | ⟨k, e, hk⟩
        · exact .inr (hfr y (e ▸ hy))
        · rw [e] at hy; cases hy; right; omega
      · exact h.new _ (Nat.le_refl _) hlt y (.inr (.inr hy))
    · rw [vAt_other _ _ _ _ e] at hy
      exact h.new i h1 h2' y hy
  · refine (h.only.then (only_of_grown hg (R := fun y => (vAt V ns.length).2.1.ownBlock = some y) (fun k e => e)) (fun i hi e => ?_)).then (only_set (R := fun y => y = g) rfl _) (fun i hi e => ?_)
    · have := hfr i e; omega
    · rcases h.vb i (by rw [e]; rfl) with h3 | h3
      · exact h3
      · omega
theorem NI.addKid {w u w2 : World} {v : Value} {g n c : Nat} {V0 V : List V3} {ns l : List NB} {z : NB} {P : Nat → Prop} {kx' : Value} {s : Int} (h : NI w u v (.slice (some ⟨g, 0, none⟩) n c) V0 V ns (ns ++ z :: l) P) (hO : w2.ownsRow 0 3 1 kx' (z.kids.length + 1) (z.kids.map (Value.int .i64) ++ [.int .i64 s])) (hg : u.grownBy w2 (vAt V ns.length).2.2.ownBlock)
    (ha : kx'.ownBlock = (vAt V ns.length).2.2.ownBlock ∨ ∃ k, kx'.ownBlock = some k ∧ u.heap.size ≤ k) (hfr : ∀ y, (vAt V ns.length).2.2.ownBlock = some y → w.heap.size ≤ y) :
    NI w (w2.setCell ⟨g, ns.length * 3 + 2, none⟩ kx') v (.slice (some ⟨g, 0, none⟩) n c) V0 (V.set ns.length ((vAt V ns.length).1, (vAt V ns.length).2.1, kx')) ns (ns ++ ⟨z.ps, z.keys, z.kids ++ [s]⟩ :: l) P := by
  have hs := h.only.size
  have hlt : ns.length < (ns ++ z :: l).length := by simp
  have hl := h.na.len
  refine ⟨h.na.addKid hO hg ha, fun i hi => (vAt_other _ _ _ _ (by omega)).trans (h.old i hi), fun i h1 h2 y hy => ?_, ?_, h.vb⟩
  · have h2' : i < (ns ++ z :: l).length := by simpa using h2
    by_cases e : i = ns.length
    · rw [e, vAt_set _ _ _ (by omega)] at hy
      rcases hy with hy | hy | hy
      · exact h.new _ (Nat.le_refl _) hlt y (.inl hy)
      · exact h.new _ (Nat.le_refl _) hlt y (.inr (.inl hy))
      · rcases ha with e | ⟨k, e, hk⟩
        · exact .inr (hfr y (e ▸ hy))
        · rw [e] at hy; cases hy; right; omega
    · rw [vAt_other _ _ _ _ e] at hy
      exact h.new i h1 h2' y hy
  · refine (h.only.then (only_of_grown hg (R := fun y => (vAt V ns.length).2.2.ownBlock = some y) (fun k e => e)) (fun i hi e => ?_)).then (only_set (R := fun y => y = g) rfl _) (fun i hi e => ?_)
    · have := hfr i e; omega
    · rcases h.vb i (by rw [e]; rfl) with h3 | h3
      · exact h3
      · omega
end Go.Proofs.YtcpdedpgjaimkaaDoor
/-
  nodes: a limb's nodes in the walk's order, behind others; all rows are apart.
-/
namespace Go.Proofs.YtcpdedpgjaimkaaDoor
open Go.RowKit
theorem NA.shape {w : World} {v : Value} {V : List V3} {ns : List NB} (h : NA w v V ns) : ∃ a n c, v = .slice a n c ∧ Hid (n = ns.length) := by
  obtain ⟨a, c, e⟩ := own_shape h.row
  exact ⟨a, _, c, e, rfl⟩
theorem wpList_append_node {w : World} {ops : Array Oper} {rest : List Oper} {o : Oper} {a : Act} {Q : Exit → Act → World → Prop} (hgd : o.guard = none) (s x : Operand)
    (ho : o.op = .call { callee := .builtin .append, args := #[s, x], argTypes := #[86, 86] }) (v : Value) (V : List V3) (ns : List NB) (hs : a.eval s = v) (hown : NA w v V ns) (pv : Value) (ps : List PB) (hP : w.ownsRow 0 91 2 pv ps.length (pcs ps)) (hd : ∀ y, pv.ownBlock = some y → v.ownBlock ≠ some y ∧ ∀ i, i < ns.length → ¬ bl (vAt V i) y)
    (g : Nat) (hx : a.eval x = .slice (some ⟨g, 0, none⟩) 1 1) (hB : Bk w g 112 [pv, .slice none 0 0, .slice none 0 0]) (hb : ns.length ≤ 1048576)
    (h : ∀ g' n' c' w', NA w' (.slice (some ⟨g', 0, none⟩) n' c') (V ++ [(pv, .slice none 0 0, .slice none 0 0)]) (ns ++ [⟨ps, [], []⟩]) → Hid (n' = ns.length + 1) → w.grownBy w' v.ownBlock → ((Value.slice (some ⟨g', 0, none⟩) n' c').ownBlock = v.ownBlock ∨ (Value.slice (some ⟨g', 0, none⟩) n' c').ownBlock = some w.heap.size) → wpList Tryd.prog ops Q rest (a.put o.dst (.slice (some ⟨g', 0, none⟩) n' c')) w') : wpList Tryd.prog ops Q (o :: rest) a w := by
  obtain ⟨i, hi, hz, hsz, hby⟩ := info_of infoNodeI
  obtain ⟨ap, cp, hpv⟩ := own_shape hP
  refine wpList_append_row_at hgd s x 86 ho 0 112 i _ 3 72 Tryd.underlying86 hi hz hsz hby rfl (by decide) v ns.length (ncs V) hs hown.row (fun _ => True) _ 1 [pv, .slice none 0 0, .slice none 0 0] hx (hB.rw (Nat.le_refl _) (by omega) (fun h => by omega) _ trivial) rfl
    (by intro u hu; simp at hu; rcases hu with rfl | rfl <;> first | (rw [hpv]; rfl) | rfl) (by unfold maxLen; omega) (by omega) (Nat.zero_le _) ?_
  intro v' w' k1 k2 k3
  rcases k1.2 with ⟨_, e⟩ | ⟨g', cap, cur, e, _⟩
  · omega
  · subst e
    refine h g' _ cap w' ?_ rfl k2 k3
    exact hown.push ⟨ps, [], []⟩ (pv, .slice none 0 0, .slice none 0 0) ⟨hP, World.ownsRow_nil _ _ _ _, World.ownsRow_nil _ _ _ _⟩ (fun y => ⟨fun _ => ⟨by simp [Value.ownBlock], by simp [Value.ownBlock]⟩, by simp [Value.ownBlock]⟩) (by rintro y (e | e | e) <;> first | exact hd y e | (simp [Value.ownBlock] at e)) k1 k2 k3
/-- The keys and kids of the node at n lie in new blocks. -/
def KF (w : World) (V : List V3) (n : Nat) : Prop := ∀ y, (vAt V n).2.1.ownBlock = some y ∨ (vAt V n).2.2.ownBlock = some y → w.heap.size ≤ y
def NodesPost (w : World) (v : Value) (V0 : List V3) (ns L : List NB) (S : Nat → Prop) (e : Ending) (w' : World) : Prop := ∃ v' V, e = .returned v' ∧ NI w w' v v' V0 V ns L S
theorem NA.rowAt {w : World} {a : Option Addr} {n c : Nat} {V : List V3} {ns : List NB} (h : NA w (.slice a n c) V ns) (hp : 0 < ns.length) : ∃ g, a = some ⟨g, 0, none⟩ ∧ Hid (n = ns.length) := by
  rcases h.row.2 with ⟨e, e2⟩ | ⟨g, cap, cur, e, _⟩
  · omega
  · cases e
    exact ⟨g, rfl, rfl⟩
theorem NA.cells {w : World} {g n c : Nat} {V : List V3} {ns : List NB} (h : NA w (.slice (some ⟨g, 0, none⟩) n c) V ns) (i : Nat) (hi : i < ns.length) : w.cell? ⟨g, i * 3, none⟩ = some (vAt V i).1 ∧ w.cell? ⟨g, i * 3 + 1, none⟩ = some (vAt V i).2.1 ∧ w.cell? ⟨g, i * 3 + 2, none⟩ = some (vAt V i).2.2 ∧ ∀ o, w.frozen? ⟨g, o, none⟩ = false := by
  have hc := World.ownsRow.cells h.row (g := g) rfl
  have hl := h.len
  obtain ⟨c0, c1, c2⟩ := ncs_at V i (by omega)
  have d0 := hc _ _ c0
  have d1 := hc _ _ c1
  have d2 := hc _ _ c2
  rw [Addr.add_lit, Nat.zero_add] at d0 d1 d2
  refine ⟨d0, d1, d2, fun o => ?_⟩
  rcases h.row.2 with ⟨e, _⟩ | ⟨g', cap, cur, e, _, k4, _⟩
  · cases e
  · cases e
    simp [World.frozen?, k4]
end Go.Proofs.YtcpdedpgjaimkaaDoor
/-
  rootPut: the root behind the put.
-/
namespace Go.Proofs.YtcpdedpgjaimkaaDoor
open Go.RowKit
end Go.Proofs.YtcpdedpgjaimkaaDoor
/-
  readBranch, given read.
-/
namespace Go.Proofs.YtcpdedpgjaimkaaDoor
open Go.RowKit
end Go.Proofs.YtcpdedpgjaimkaaDoor
/-
  read: it reads what the plain function reads. rootOf.
-/
namespace Go.Proofs.YtcpdedpgjaimkaaDoor
open Go.RowKit
theorem rdI_no {ns : List NB} {f : Nat} {pl : Int} {nx : Nat} (h : pl ≠ (nx : Int) ∨ (ns.length : Int) ≤ pl) : rdI ns f pl nx = none := by
  cases f with
  | zero => rfl
  | succ f => rw [rdI, if_pos h]
theorem rdI_leaf {ns : List NB} {f nx : Nat} (h : nx < ns.length) (hk : (nAt ns nx).kids.length = 0) : rdI ns (f + 1) nx nx = (leafT (nAt ns nx) (decide ((nx : Int) = 0))).map (fun t => (t, nx + 1)) := by
  rw [rdI, if_neg (by omega), if_pos hk, leafT]
  split <;> rfl
theorem rdI_br {ns : List NB} {f nx : Nat} (h : nx < ns.length) (hk : (nAt ns nx).kids.length ≠ 0) : rdI ns (f + 1) nx nx = brT ns f (nAt ns nx) (nx + 1) := by
  rw [rdI, if_neg (by omega), if_neg hk]
  rfl
end Go.Proofs.YtcpdedpgjaimkaaDoor
/-
  rootOf: the right tree, or nil.
-/
namespace Go.Proofs.YtcpdedpgjaimkaaDoor
open Go.RowKit
mutual
theorem full_all_le : ∀ (t : T) (r : Bool), t.full r = true → t.all.length ≤ 4 * t.size
  | .mk ps ks, r, h => by
    by_cases hk : ks = []
    · subst hk
      have := full_lf h
      simp [T.size, szL, T.all, allL]
      omega
    · obtain ⟨h1, h2, rfl, h3⟩ := full_br h hk
      have := fullL_all_le ks h3
      simp [T.size, T.all]
      omega
theorem fullL_all_le : ∀ (ks : List T), (∀ k ∈ ks, k.full false = true) → (allL ks).length ≤ 4 * szL ks
  | [], _ => by simp [szL, allL]
  | k :: ks, h => by
    have h1 := full_all_le k false (h k (by simp))
    have h2 := fullL_all_le ks (fun x hx => h x (by simp [hx]))
    simp [szL, allL]
    omega
end
end Go.Proofs.YtcpdedpgjaimkaaDoor
/-
  l03Read of the specification: it reads what the plain function reads.
-/
namespace Go.Proofs.YtcpdedpgjaimkaaDoor
open Go.RowKit
set_option maxHeartbeats 8000000 in
theorem specRead_any (ns : List NB) (hlen : ns.length ≤ 1048576) (hsm : smallN ns) : ∀ f : Nat, f ≤ 13 → ∀ (S : Nat → Prop) (an : Option Addr) (nn cn : Nat) (a d : Int) (w : World), Nr w S (.slice an nn cn) ns → d = 13 - (f : Int) →
    Calls Tryd.prog 68 #[.agg #[.slice an nn cn], .int .i64 a, .int .i64 d] w fun e w' => SubPost (rdS ns f a) w e w' ∧ Below w.heap.size w w' := by
  intro f
  induction f with
  | zero =>
    intro _ S an nn cn a d w hN hd
    have hd' : d = 13 := by omega
    have HR : Hid (rdS ns 0 a = none) := rfl
    clear hN hd
    subst hd'
    by_cases h1 : a < 0
    · go_enter Tryd.func68, Tryd.ntmps68
      go_wp2
      try simp only [Exit.inBlock, Exit.then]
      refine bodyPost_ret (v := .tuple #[.agg #[.bool false, .slice none 0 0, .slice none 0 0], .int .i64 0, .bool false]) ?_ rfl ?_
      · refine results_sub3 rfl _ _ _ rfl rfl rfl ?_ ?_ ?_
        · go_simp
        · go_simp
        · go_simp
      · exact ⟨by rw [HR.out]; rfl, below_new (below_new (Below.refl _ _))⟩
    · by_cases h2 : (nn : Int) ≤ a
      · go_enter Tryd.func68, Tryd.ntmps68
        go_wp2
        try simp only [Exit.inBlock, Exit.then]
        refine bodyPost_ret (v := .tuple #[.agg #[.bool false, .slice none 0 0, .slice none 0 0], .int .i64 0, .bool false]) ?_ rfl ?_
        · refine results_sub3 rfl _ _ _ rfl rfl rfl ?_ ?_ ?_
          · go_simp
          · go_simp
          · go_simp
        · exact ⟨by rw [HR.out]; rfl, below_new (below_new (Below.refl _ _))⟩
      · go_enter Tryd.func68, Tryd.ntmps68
        go_wp2
        try simp only [Exit.inBlock, Exit.then]
        refine bodyPost_ret (v := .tuple #[.agg #[.bool false, .slice none 0 0, .slice none 0 0], .int .i64 0, .bool false]) ?_ rfl ?_
        · refine results_sub3 rfl _ _ _ rfl rfl rfl ?_ ?_ ?_
          · go_simp
          · go_simp
          · go_simp
        · exact ⟨by rw [HR.out]; rfl, below_new (below_new (Below.refl _ _))⟩
  | succ f ih =>
    intro hf13 S an nn cn a d w hN hd
    have hnn := hid hN.len.1
    have hnn2 := hN.len.2.1
    have hnn3 := hN.len.2.2
    by_cases h1 : a < 0
    · have HR : Hid (rdS ns (f + 1) a = none) := by show _ = _; rw [rdS, if_pos (.inl h1)]
      clear hN hd
      go_enter Tryd.func68, Tryd.ntmps68
      go_wp2
      try simp only [Exit.inBlock, Exit.then]
      refine bodyPost_ret (v := .tuple #[.agg #[.bool false, .slice none 0 0, .slice none 0 0], .int .i64 0, .bool false]) ?_ rfl ?_
      · refine results_sub3 rfl _ _ _ rfl rfl rfl ?_ ?_ ?_
        · go_simp
        · go_simp
        · go_simp
      · exact ⟨by rw [HR.out]; rfl, below_new (below_new (Below.refl _ _))⟩
    · by_cases h2 : (nn : Int) ≤ a
      · have HR : Hid (rdS ns (f + 1) a = none) := by show _ = _; rw [rdS, if_pos (.inr (by rw [← hnn.out]; exact h2))]
        clear hN hd
        go_enter Tryd.func68, Tryd.ntmps68
        go_wp2
        try simp only [Exit.inBlock, Exit.then]
        refine bodyPost_ret (v := .tuple #[.agg #[.bool false, .slice none 0 0, .slice none 0 0], .int .i64 0, .bool false]) ?_ rfl ?_
        · refine results_sub3 rfl _ _ _ rfl rfl rfl ?_ ?_ ?_
          · go_simp
          · go_simp
          · go_simp
        · exact ⟨by rw [HR.out]; rfl, below_new (below_new (Below.refl _ _))⟩
      · obtain ⟨p, hp⟩ : ∃ p : Nat, a = p := ⟨a.toNat, by omega⟩
        subst hp
        have hd12 : d ≤ 12 := by omega
        have hd0 : 0 ≤ d := by omega
        have HD := hid hd
        have hpn : p < nn := by omega
        have hpn' : (p : Int) < (nn : Int) := by omega
        have HN := hid hN
        have HIH := hid ih
        have hlen2 : nn ≤ 1048576 := by rw [hnn.out]; exact hlen
        clear hN hd ih
        obtain ⟨b, off, han, hSb, hbw, hcell⟩ := HN.out.at (by omega)
        subst han
        obtain ⟨ap, np, cp, ax, nk, cx, ai, ni, ci, d0, d1, d2, hp, hx, hi⟩ := hcell p hpn
        have lp := hid (Rw.len hp).1
        have li := hid (Rw.len hi).1
        have HP := hid hp
        have HI := hid hi
        have b5 := (Rw.len hi).2.1
        have b6 := (Rw.len hi).2.2
        obtain ⟨s1, _, _⟩ := hsm p (by rw [← hnn.out]; exact hpn)
        have hnp : np ≤ 1048576 := by rw [lp.out]; exact s1
        have hni : ni ≤ 1048576 := by rw [li.out]; exact (hsm p (by rw [← hnn.out]; exact hpn)).2.2
        have HR0 : Hid (rdS ns (f + 1) (p : Int) = match rdSL (rdS ns f) (nAt ns p).kids (p + 1) with
            | none => none
            | some (ts, n) => some (.mk (nAt ns p).ps ts, n)) := by
          show _ = _
          rw [rdS, if_neg (by rw [← hnn.out]; omega)]
          rfl
        clear hcell hp hx hi s1
        generalize hX : nAt ns p = x at *
        clear hX
        have HBU : Hid (Below w.heap.size w (((w.alloc (.cells #[.slice (some ⟨b, off, none⟩) nn cn] 88)).alloc (.cells #[.bool false, .slice none 0 0, .slice none 0 0] 98)).alloc (.cells #[.slice ap np cp, .slice ax nk cx, .slice ai ni ci] 112))) := below_new (below_new (below_new (Below.refl _ _)))
        have KT : Hid (Bk (((w.alloc (.cells #[.slice (some ⟨b, off, none⟩) nn cn] 88)).alloc (.cells #[.bool false, .slice none 0 0, .slice none 0 0] 98)).alloc (.cells #[.slice ap np cp, .slice ax nk cx, .slice ai ni ci] 112)) w.heap.size 88 [.slice (some ⟨b, off, none⟩) nn cn]) := ((Bk.new w 88 [.slice (some ⟨b, off, none⟩) nn cn]).alloc _).alloc _
        have KR : Hid (Bk (((w.alloc (.cells #[.slice (some ⟨b, off, none⟩) nn cn] 88)).alloc (.cells #[.bool false, .slice none 0 0, .slice none 0 0] 98)).alloc (.cells #[.slice ap np cp, .slice ax nk cx, .slice ai ni ci] 112)) (w.heap.size + 1) 98 [.bool false, .slice none 0 0, .slice none 0 0]) := by
          have := (Bk.new (w.alloc (.cells #[.slice (some ⟨b, off, none⟩) nn cn] 88)) 98 [.bool false, .slice none 0 0, .slice none 0 0]).alloc (.cells #[.slice ap np cp, .slice ax nk cx, .slice ai ni ci] 112)
          show Bk _ _ _ _
          simpa using this
        have KN : Hid (Bk (((w.alloc (.cells #[.slice (some ⟨b, off, none⟩) nn cn] 88)).alloc (.cells #[.bool false, .slice none 0 0, .slice none 0 0] 98)).alloc (.cells #[.slice ap np cp, .slice ax nk cx, .slice ai ni ci] 112)) (w.heap.size + 1 + 1) 112 [.slice ap np cp, .slice ax nk cx, .slice ai ni ci]) := by
          have := Bk.new ((w.alloc (.cells #[.slice (some ⟨b, off, none⟩) nn cn] 88)).alloc (.cells #[.bool false, .slice none 0 0, .slice none 0 0] 98)) 112 [.slice ap np cp, .slice ax nk cx, .slice ai ni ci]
          show Bk _ _ _ _
          simpa using this
        have HZ : Hid ((((w.alloc (.cells #[.slice (some ⟨b, off, none⟩) nn cn] 88)).alloc (.cells #[.bool false, .slice none 0 0, .slice none 0 0] 98)).alloc (.cells #[.slice ap np cp, .slice ax nk cx, .slice ai ni ci] 112)).heap.size = w.heap.size + 3) := by show _ = _; simp
        go_enter Tryd.func68, Tryd.ntmps68
        have c0 := KN.out.cell (j := 0) rfl
        have c2 := KN.out.cell (j := 2) rfl
        have T0 := hid (kc0_2 c0 c2)
        have HXL : Hid (x.ps.length ≤ 1048576) := by show _ ≤ _; rw [← lp.out]; exact hnp
        have HSRC : Hid (∀ v, KC (((w.alloc (.cells #[.slice (some ⟨b, off, none⟩) nn cn] 88)).alloc (.cells #[.bool false, .slice none 0 0, .slice none 0 0] 98)).alloc (.cells #[.slice ap np cp, .slice ax nk cx, .slice ai ni ci] 112)) v [(⟨w.heap.size + 1 + 1, 0, none⟩, .slice ap np cp), (⟨w.heap.size + 1 + 1, 2, none⟩, .slice ai ni ci)] → Pr v S (.slice ap np cp) x.ps) := fun v hv => (HP.out.below HBU.out).below hv.bel
        have hlf : ((ni : Int) == 0) = decide (ni = 0) := by
          by_cases h : ni = 0
          · subst h; rfl
          · simp [h]
        generalize hLF : decide (ni = 0) = lf at *
        go_wp2_with fail
        generalize (((w.alloc (.cells #[.slice (some ⟨b, off, none⟩) nn cn] 88)).alloc (.cells #[.bool false, .slice none 0 0, .slice none 0 0] 98)).alloc (.cells #[.slice ap np cp, .slice ax nk cx, .slice ai ni ci] 112)) = U at *
        have k1 : (U.alloc (.cells #[] 91)).drew.heap[U.heap.size]? = some (.cells #[] 91 (0, 0)) := heap_alloc_new U _
        have k2 : ((U.alloc (.cells #[.bool false, .slice none 0 0, .slice none 0 0] 98)).alloc (.cells #[] 91)).drew.heap[U.heap.size + 1]? = some (.cells #[] 91 (0, 0)) := by
          have := heap_alloc_new (U.alloc (.cells #[.bool false, .slice none 0 0, .slice none 0 0] 98)) (.cells #[] 91)
          have e : (U.alloc (.cells #[.bool false, .slice none 0 0, .slice none 0 0] 98)).heap.size = U.heap.size + 1 := by simp
          rw [e] at this
          exact this
        have k3 : ((U.alloc (.cells #[] 91)).alloc (.cells #[.bool false, .slice none 0 0, .slice none 0 0] 98)).drew.heap[U.heap.size]? = some (.cells #[] 91 (0, 0)) := (Below.heap_alloc _ _ _ (by simp)).trans (heap_alloc_new U _)
        have k4 : Hid (((U.alloc (.cells #[] 91)).alloc (.cells #[.bool false, .slice none 0 0, .slice none 0 0] 98)).drew.heap[U.heap.size + 1]? = some (.cells #[.bool false, .slice none 0 0, .slice none 0 0] 98 (0, 0))) := by
          have := heap_alloc_new (U.alloc (.cells #[] 91)) (.cells #[.bool false, .slice none 0 0, .slice none 0 0] 98)
          have e : (U.alloc (.cells #[] 91)).heap.size = U.heap.size + 1 := by simp
          rw [e] at this
          exact this
        have k5 : Hid (((U.alloc (.cells #[.bool false, .slice none 0 0, .slice none 0 0] 98)).alloc (.cells #[] 91)).drew.heap[U.heap.size]? = some (.cells #[.bool false, .slice none 0 0, .slice none 0 0] 98 (0, 0))) := (Below.heap_alloc _ _ _ (by simp)).trans (heap_alloc_new U _)
        go_cut [10] (fun q v => ∃ (sb bs : Nat) (pv : Value), q = .pointer (some ⟨sb, 0, none⟩) ∧ Below U.heap.size U v ∧ U.heap.size ≤ sb ∧ sb < bs ∧ bs ≤ v.heap.size ∧ Bk v sb 98 [.bool lf, pv, .slice none 0 0] ∧ Pr v (fun y => U.heap.size ≤ y ∧ y < bs ∧ y ≠ sb) pv x.ps)
        case first =>
          go_region_held3 (fun v => v.cell? ⟨w.heap.size + 1 + 1, 0, none⟩ = some (.slice ap np cp) ∧ v.cell? ⟨w.heap.size + 1 + 1, 2, none⟩ = some (.slice ai ni ci) ∧ KC U v [(⟨w.heap.size + 1 + 1, 0, none⟩, .slice ap np cp), (⟨w.heap.size + 1 + 1, 2, none⟩, .slice ai ni ci)])
            (first | assumption | exact kc2 (T0.out.call (below_drew _)) | exact kc2c (below_new (Below.refl _ _)) (by assumption) | exact kc2g hg2 (by intro k e; cases e; simp) (by assumption) | exact kc2w (Nat.le_trans (by simp) hg2.size) (by assumption) | exact kc2s (by simp) (by assumption))
            (first
              | (refine step_clone rfl _ _ rfl U.heap.size _ rfl (by assumption) (by simp) S _ x.ps rfl (HSRC.out _ (And.right (And.right (by assumption)))) (Nat.le_trans HXL.out (by decide)) ?_; intro a2 n2 c2 w2 hO2 hg2 hat2 hc2 hf2))
          all_goals (go_wp2_with fail; go_meet; first
            | exact ⟨_, _, _, rfl, meet_new (W := (U.alloc (.cells #[] 91)).drew) ((below_new (Below.refl _ _)).drew) (by simp) hO2 hg2 (Nat.le_refl _)⟩
            | exact ⟨_, _, _, rfl, meet_set (W := ((U.alloc (.cells #[] 91)).alloc (.cells #[.bool false, .slice none 0 0, .slice none 0 0] 98)).drew) ((below_new (below_new (Below.refl _ _))).drew) (by simp; omega) hO2 hg2 (by simpa using hat2) k4.out (by omega) (by omega) (Nat.le_refl _)⟩
            | exact ⟨_, _, _, rfl, meet_set (W := ((U.alloc (.cells #[.bool false, .slice none 0 0, .slice none 0 0] 98)).alloc (.cells #[] 91)).drew) ((below_new (below_new (Below.refl _ _))).drew) (by simp; omega) hO2 hg2 (by simpa using hat2) k5.out (by omega) (Nat.le_refl _) (by omega)⟩)
        case rest =>
          rename_i q
          obtain ⟨sb, bs, pv, hq, hbel, hsb, hsb2, hbs, hBK, hPR⟩ := hcut
          subst hq
          obtain ⟨a3, c3, hpv, _⟩ := hPR.shape
          generalize hl3 : x.ps.length = n3 at hpv
          have HL3 := hid hl3
          clear hl3
          subst hpv
          have HZ' := HZ.out
          have HS0 : Hid (SpI w wc sb bs lf (.slice (some ⟨b, off, none⟩) nn cn) (.slice a3 n3 c3) x.ps [] (.slice none 0 0) (fun _ => false) (fun _ => .slice none 0 0) (fun _ => .slice none 0 0)) :=
            ⟨⟨by omega, hsb2⟩, hbs, KT.out.below hbel, KR.out.below hbel, hBK, Rw.mono hPR (fun y hy _ => ⟨by omega, hy.2⟩), World.ownsRow_nil _ _ _ _, fun i hi => by (simp at hi), HBU.out.trans (hbel.mono HBU.out.size)⟩
          have HNB := hid (KN.out.below hbel)
          have c2' := HNB.out.cell (j := 2) rfl
          clear hbel hsb hsb2 hbs hBK hPR c0 c2 T0 HSRC k1 k2 k3 k4 k5 KT KR KN HZ' hlf
          go_wp2_with fail
          go_loopw [11, 50] (fun y i wr => ∃ (ts : List T) (nx : Nat) (kv : Value) (L : Nat → Bool) (P K : Nat → Value), i = .int .i64 (ts.length : Int) ∧ y = .int .i64 (nx : Int) ∧ Hid (ts.length ≤ ni) ∧ Hid (SpI w wr sb bs lf (.slice (some ⟨b, off, none⟩) nn cn) (.slice a3 n3 c3) x.ps ts kv L P K) ∧ Hid (rdJ (rdS ns f) ts (x.kids.drop ts.length) nx = rdSL (rdS ns f) x.kids (p + 1))) (fun _ i _ => ni - (intOf i).toNat)
          case atStart => exact ⟨[], p + 1, _, _, _, _, rfl, by go_num, Nat.zero_le _, HS0.out, by show _ = _; rw [rdJ_nil]; rfl⟩
          case round =>
            obtain ⟨ts, nx, kv, L, P, K, rfl, rfl, HTL, HSP, HRD⟩ := hrel
            generalize hk : ts.length = k at *
            have HKL := hid hk
            clear hk
            have HBL := hid HSP.out.bel
            have r0 := HSP.out.res.cell (j := 0) rfl
            have r1 := HSP.out.res.cell (j := 1) rfl
            have r2 := HSP.out.res.cell (j := 2) rfl
            have q0 := HSP.out.res.free 0
            have q1 := HSP.out.res.free 1
            have q2 := HSP.out.res.free 2
            by_cases hlt : k < ni
            · have hlt' : (k : Int) < (ni : Int) := by omega
              obtain ⟨bi, offi, hai, _, _, hci⟩ := (HI.out.below HBL.out).at (by omega)
              subst hai
              have hck := hci k hlt
              have HKD : Hid (x.kids.drop k = iAt x.kids k :: x.kids.drop (k + 1)) := by
                show _ = _
                have hl : k < x.kids.length := by rw [← li.out]; exact hlt
                rw [List.drop_eq_getElem_cons hl]
                simp [iAt, hl]
              clear hci
              generalize hkd : iAt x.kids k = kd at hck HKD
              clear hkd
              by_cases hne : kd = (nx : Int)
              · have e1 : (kd != (nx : Int)) = false := by simp [hne]
                have HEQ := hid hne
                clear hne
                have t0 := HSP.out.tre.cell (j := 0) rfl
                have HNr := hid (HN.out.below HBL.out)
                have hw1 : IntKind.i64.wrap (d + 1) = d + 1 := by rw [IntKind.wrap_i64]; omega
                go_wp2_with fail
                refine (HIH.out (by omega) S (some ⟨b, off, none⟩) nn cn kd (d + 1) wr HNr.out (by have := HD.out; omega)).mono ?_
                rintro e w1 ⟨hpost, hb1⟩
                have HSP1 := hid (HSP.out.keep hb1)
                cases hr : rdS ns f kd with
                | none =>
                  rw [hr] at hpost
                  have he : e = .returned (.tuple #[.agg #[.bool false, .slice none 0 0, .slice none 0 0], .int .i64 0, .bool false]) := hpost
                  subst he
                  have HR : Hid (rdS ns (f + 1) (p : Int) = none) := by
                    show _ = _
                    have h1 := HRD.out
                    rw [HKD.out, rdJ_no _ _ _ _ _ (.inr hr)] at h1
                    rw [HR0.out, ← h1]
                  have HSP2 := hid (HSP1.out.keep (below_new (o := .cells #[.bool false, .slice none 0 0, .slice none 0 0] 98) (Below.refl _ _)))
                  clear hpost hb1 hr r0 r1 r2 q0 q1 q2 t0 HSP HSP1 HBL
                  have HBL := hid HSP2.out.bel
                  have r0 := HSP2.out.res.cell (j := 0) rfl
                  have r1 := HSP2.out.res.cell (j := 1) rfl
                  have r2 := HSP2.out.res.cell (j := 2) rfl
                  have q0 := HSP2.out.res.free 0
                  have q1 := HSP2.out.res.free 1
                  have q2 := HSP2.out.res.free 2
                  have HR' := HR
                  go_wp2
                  try simp only [Exit.inBlock, Exit.then]
                  refine bodyPost_ret (v := .tuple #[.agg #[.bool false, .slice none 0 0, .slice none 0 0], .int .i64 0, .bool false]) ?_ rfl ?_
                  · refine results_sub3 rfl _ _ _ rfl rfl rfl ?_ ?_ ?_
                    · go_simp
                    · go_simp
                    · go_simp
                  · exact ⟨by rw [HR.out]; rfl, ((HBL.out.setCell (by show w.heap.size ≤ w.heap.size + 1; omega) _).setCell (by show w.heap.size ≤ w.heap.size + 1; omega) _).setCell (by show w.heap.size ≤ w.heap.size + 1; omega) _⟩
                | some tn =>
                  obtain ⟨t, n1⟩ := tn
                  rw [hr] at hpost
                  obtain ⟨l1, ap1, np1, cp1, ak1, nk1, ck1, he, hsub⟩ := hpost
                  subst he
                  have HSP2 := hid (HSP1.out.keep (below_new (o := .cells #[.bool l1, .slice ap1 np1 cp1, .slice ak1 nk1 ck1] 98) (Below.refl _ _)))
                  have HSP3 := hid (HSP2.out.keep (below_new (o := .cells #[.bool l1, .slice ap1 np1 cp1, .slice ak1 nk1 ck1] 98) (Below.refl _ _)))
                  have HSB : Hid (Sub ((w1.alloc (.cells #[.bool l1, .slice ap1 np1 cp1, .slice ak1 nk1 ck1] 98)).alloc (.cells #[.bool l1, .slice ap1 np1 cp1, .slice ak1 nk1 ck1] 98)) (fun y => bs ≤ y ∧ y < ((w1.alloc (.cells #[.bool l1, .slice ap1 np1 cp1, .slice ak1 nk1 ck1] 98)).alloc (.cells #[.bool l1, .slice ap1 np1 cp1, .slice ak1 nk1 ck1] 98)).heap.size ∧ kv.ownBlock ≠ some y) l1 (.slice ap1 np1 cp1) (.slice ak1 nk1 ck1) t) := by
                    refine ((hsub.kept (below_new (Below.refl _ _))).kept (below_new (Below.refl _ _))).mono (fun y hy hlt => ⟨?_, hlt, fun e => ?_⟩)
                    · have := HSP.out.hi; have := hy.1; omega
                    · have := (World.ownsRow.lt HSP.out.row y e).2; have := hy.1; omega
                  have HBN : Hid (Bk ((w1.alloc (.cells #[.bool l1, .slice ap1 np1 cp1, .slice ak1 nk1 ck1] 98)).alloc (.cells #[.bool l1, .slice ap1 np1 cp1, .slice ak1 nk1 ck1] 98)) (w1.heap.size + 1) 98 [.bool l1, .slice ap1 np1 cp1, .slice ak1 nk1 ck1]) := by
                    have := Bk.new (w1.alloc (.cells #[.bool l1, .slice ap1 np1 cp1, .slice ak1 nk1 ck1] 98)) 98 [.bool l1, .slice ap1 np1 cp1, .slice ak1 nk1 ck1]
                    show Bk _ _ _ _
                    simpa using this
                  have HRD2 : Hid (rdJ (rdS ns f) (ts ++ [t]) (x.kids.drop (ts ++ [t]).length) n1 = rdSL (rdS ns f) x.kids (p + 1)) := by
                    show _ = _
                    rw [← HRD.out, HKD.out, rdJ_step _ _ _ _ _ _ _ HEQ.out hr, List.length_append, HKL.out]
                    rfl
                  have HTL2 : Hid ((ts ++ [t]).length = k + 1) := by show _ = _; rw [List.length_append, HKL.out]; rfl
                  obtain ⟨ak, ck, hkv⟩ := own_shape HSP3.out.row
                  rw [HKL.out] at hkv
                  subst hkv
                  have HOW : Hid (World.ownsRow ((w1.alloc (.cells #[.bool l1, .slice ap1 np1 cp1, .slice ak1 nk1 ck1] 98)).alloc (.cells #[.bool l1, .slice ap1 np1 cp1, .slice ak1 nk1 ck1] 98)) bs 98 3 (.slice ak k ck) k (ncs (mkV L P K k))) := by
                    have := HSP3.out.row
                    rw [HKL.out] at this
                    exact this
                  have hki : k ≤ 1048576 := by omega
                  have s2 := HSP2.out.sub.cell (j := 2) rfl
                  have HHI := hid HSP3.out.hi
                  clear hb1 hr r0 r1 r2 q0 q1 q2 t0 HSP HSP1 HSP2 HBL hsub HRD
                  go_wp2_with (at_builtin; refine wpList_append_sub rfl _ _ rfl bs _ k (mkV L P K k) rfl HOW.out (w1.heap.size + 1) l1 ap1 np1 cp1 ak1 nk1 ck1 rfl HBN.out hki HHI.out ?_)
                  intro v4 w4 hO4 hg4 ha4
                  obtain ⟨a4, c4, hv4⟩ := own_shape hO4
                  subst hv4
                  have HSP4 := hid (HSP3.out.push HSB.out (by rw [HKL.out]; exact hO4) hg4 (by simpa using ha4))
                  have K4 := HSP3.out.sub.to (only_of_grown (R := fun y => bs ≤ y) hg4 (fun y e => (World.ownsRow.lt HSP3.out.row y e).1)) (by have := HSP3.out.lo; omega)
                  have s4 := K4.cell (j := 2) rfl
                  have f4 := K4.free 2
                  clear hO4 hg4 ha4 K4 HOW HBN HSB HSP3 s2 HHI
                  go_wp2
                  go_roundw
                  case rel => exact ⟨ts ++ [t], n1, _, _, _, _, by rw [HTL2.out]; go_num, rfl, by show _ ≤ _; rw [HTL2.out]; omega, HSP4.out, HRD2.out⟩
                  case measure => simp [intOf]; omega
              · have e1 : (kd != (nx : Int)) = true := by simp [hne]
                have HR : Hid (rdS ns (f + 1) (p : Int) = none) := by
                  show _ = _
                  have h1 := HRD.out
                  rw [HKD.out, rdJ_no _ _ _ _ _ (.inl hne)] at h1
                  rw [HR0.out, ← h1]
                clear hne
                go_wp2
                try simp only [Exit.inBlock, Exit.then]
                refine bodyPost_ret (v := .tuple #[.agg #[.bool false, .slice none 0 0, .slice none 0 0], .int .i64 0, .bool false]) ?_ rfl ?_
                · refine results_sub3 rfl _ _ _ rfl rfl rfl ?_ ?_ ?_
                  · go_simp
                  · go_simp
                  · go_simp
                · exact ⟨by rw [HR.out]; rfl, ((HBL.out.setCell (by show w.heap.size ≤ w.heap.size + 1; omega) _).setCell (by show w.heap.size ≤ w.heap.size + 1; omega) _).setCell (by show w.heap.size ≤ w.heap.size + 1; omega) _⟩
            · have hk' : k = ni := by have := HTL.out; omega
              have HR : Hid (rdS ns (f + 1) (p : Int) = some (.mk x.ps ts, nx)) := by
                show _ = _
                have h1 := HRD.out
                rw [hk', li.out, List.drop_length, rdJ_end] at h1
                rw [HR0.out, ← h1]
              obtain ⟨ak, ck, hkv⟩ := own_shape HSP.out.row
              rw [HKL.out] at hkv
              subst hkv
              have HDN := hid (HSP.out.done (by rw [HKL.out, hk', hLF]))
              have s0 := HSP.out.sub.cell (j := 0) rfl
              have s1 := HSP.out.sub.cell (j := 1) rfl
              have s2 := HSP.out.sub.cell (j := 2) rfl
              have HWL : Hid (w.heap.size + 1 < wr.heap.size) := HSP.out.res.lt
              clear hk' HSP HRD hLF
              go_wp2
              try simp only [Exit.inBlock, Exit.then]
              refine bodyPost_ret (v := .tuple #[.agg #[.bool lf, .slice a3 n3 c3, .slice ak k ck], .int .i64 nx, .bool true]) ?_ rfl ?_
              · refine results_sub3 rfl _ _ _ rfl rfl rfl ?_ ?_ ?_
                · go_simp
                · go_simp
                · go_simp
              · refine ⟨?_, ((HBL.out.setCell (by show w.heap.size ≤ w.heap.size + 1; omega) _).setCell (by show w.heap.size ≤ w.heap.size + 1; omega) _).setCell (by show w.heap.size ≤ w.heap.size + 1; omega) _⟩
                rw [HR.out]
                refine ⟨lf, a3, n3, c3, ak, k, ck, rfl, ?_⟩
                have o : Only (fun y => y = w.heap.size + 1) wr (((wr.setCell ⟨w.heap.size + 1, 0, none⟩ (.bool lf)).setCell ⟨w.heap.size + 1, 1, none⟩ (.slice a3 n3 c3)).setCell ⟨w.heap.size + 1, 2, none⟩ (.slice ak k ck)) := ((only_set (R := fun y => y = w.heap.size + 1) rfl _).trans (only_set (R := fun y => y = w.heap.size + 1) rfl _)).trans (only_set (R := fun y => y = w.heap.size + 1) rfl _)
                exact (HDN.out.to o (fun y hy _ e => hy.2 e)).mono (fun y hy hlt => ⟨hy.1.1, hlt⟩)
end Go.Proofs.YtcpdedpgjaimkaaDoor
/-
  l03Root of the specification.
-/
namespace Go.Proofs.YtcpdedpgjaimkaaDoor
open Go.RowKit
theorem results_sub2 {fn : Func} {p u : Tmp} (h : fn.results = #[.cell p 98, .tmp u]) (tmps : Array Value) (w : World) (g : Nat) {x y z b : Value} (hp : tmps.getD p undef = .pointer (some ⟨g, 0, none⟩)) (hb : tmps.getD u undef = b)
    (c0 : w.cell? ⟨g, 0, none⟩ = some x) (c1 : w.cell? ⟨g, 1, none⟩ = some y) (c2 : w.cell? ⟨g, 2, none⟩ = some z) : (results fn tmps).run Tryd.prog w = .ok (.tuple #[.agg #[x, y, z], b]) w := by
  have hp' : tmps[p]?.getD undef = .pointer (some ⟨g, 0, none⟩) := by simpa using hp
  have hb' : tmps[u]?.getD undef = b := by simpa using hb
  simp [results, h, hp', hb', asAddr, load_sub c0 c1 c2]
theorem take_no {P : Program} {md : Region.Mode} {ops : Array Oper} {Q : Exit → Act → World → Prop} {S : World → Prop} {i : Nat} {oi : Oper} {fuel : Nat} {listed : Array Bool} {a : Act} {w : World} (hi : ops[i]? = some oi)
    (hs : Region.noSelect ops = true) (hf : Region.free md ops listed i = true) (hr : (Region.ready md ops listed).contains i = true)
    (hQ : ∀ c a w, Q (.panic c) (a.put oi.dst undef) w → Q (.panic c) a w) (hw : Region.wanted oi (yielded ops a.tmps) = false) (hS : S w)
    (h : wpAnyH P md ops Q S fuel (listed.setIfInBounds i true) (a.put oi.dst undef) w) : wpAnyH P md ops Q S (fuel + 1) listed a w :=
  wpAnyH_take hi hs hf hr hQ (Or.inr ⟨hw, rfl⟩) hS h
/-- What l03Root reads: the sub, where the nodes stand in the walk's order. -/
def rootS (ns : List NB) : Option T := if ns.length = 0 then some (.mk [] []) else match rdS ns 13 0 with
  | none => none
  | some (t, n) => if n = ns.length then some t else none
/-- What comes of l03Root. -/
def RootPost (o : Option T) (w : World) (e : Ending) (w' : World) : Prop := match o with
  | none => ∃ lf ap np cp ak nk ck, e = .returned (.tuple #[.agg #[.bool lf, .slice ap np cp, .slice ak nk ck], .bool false])
  | some t => ∃ lf ap np cp ak nk ck, e = .returned (.tuple #[.agg #[.bool lf, .slice ap np cp, .slice ak nk ck], .bool true]) ∧ Sub w' (fun y => w.heap.size ≤ y ∧ y < w'.heap.size) lf (.slice ap np cp) (.slice ak nk ck) t
set_option maxHeartbeats 4000000 in
theorem specRoot_any (ns : List NB) (hlen : ns.length ≤ 1048576) (hsm : smallN ns) (S : Nat → Prop) (an : Option Addr) (nn cn : Nat) (w : World) (hN : Nr w S (.slice an nn cn) ns) :
    Calls Tryd.prog 57 #[.agg #[.slice an nn cn]] w fun e w' => RootPost (rootS ns) w e w' ∧ Below w.heap.size w w' := by
  have hnn := hid hN.len.1
  have hnn2 := hN.len.2.1
  have hnn3 := hN.len.2.2
  have HN := hid hN
  clear hN
  by_cases h0 : nn = 0
  · have HR : Hid (rootS ns = some (.mk [] [])) := by show _ = _; rw [rootS, if_pos]; rw [← hnn.out]; exact h0
    clear HN hnn
    subst h0
    go_enter Tryd.func57, Tryd.ntmps57
    go_wp2
    try simp only [Exit.inBlock, Exit.then]
    refine bodyPost_ret (v := .tuple #[.agg #[.bool true, .slice none 0 0, .slice none 0 0], .bool true]) ?_ rfl ?_
    · refine results_sub2 rfl _ _ _ rfl rfl ?_ ?_ ?_
      · go_simp
      · go_simp
      · go_simp
    · refine ⟨?_, below_new (below_new (Below.refl _ _))⟩
      rw [HR.out]
      exact ⟨true, none, 0, 0, none, 0, 0, rfl, .mk true _ _ [] [] (fun _ => false) (fun _ => .slice none 0 0) (fun _ => .slice none 0 0) rfl (rw_nil _ _) (rw_nil _ _) (fun i hi => by simp at hi)⟩
  · have e1 : ((nn : Int) == 0) = false := by simp; omega
    have HRS : Hid (rootS ns = match rdS ns 13 0 with
        | none => none
        | some (t, n) => if n = ns.length then some t else none) := by show _ = _; rw [rootS, if_neg]; rw [← hnn.out]; exact h0
    have HB0 : Hid (Below w.heap.size w ((w.alloc (.cells #[.slice an nn cn] 88)).alloc (.cells #[.bool false, .slice none 0 0, .slice none 0 0] 98))) := below_new (below_new (Below.refl _ _))
    have KT : Hid (Bk ((w.alloc (.cells #[.slice an nn cn] 88)).alloc (.cells #[.bool false, .slice none 0 0, .slice none 0 0] 98)) w.heap.size 88 [.slice an nn cn]) := (Bk.new w 88 [.slice an nn cn]).alloc _
    have KR : Hid (Bk ((w.alloc (.cells #[.slice an nn cn] 88)).alloc (.cells #[.bool false, .slice none 0 0, .slice none 0 0] 98)) (w.heap.size + 1) 98 [.bool false, .slice none 0 0, .slice none 0 0]) := by
      have := Bk.new (w.alloc (.cells #[.slice an nn cn] 88)) 98 [.bool false, .slice none 0 0, .slice none 0 0]
      show Bk _ _ _ _
      simpa using this
    have HZ : Hid (((w.alloc (.cells #[.slice an nn cn] 88)).alloc (.cells #[.bool false, .slice none 0 0, .slice none 0 0] 98)).heap.size = w.heap.size + 2) := by show _ = _; simp
    clear h0
    go_enter Tryd.func57, Tryd.ntmps57
    go_wp2_with fail
    refine (specRead_any ns hlen hsm 13 (Nat.le_refl _) S an nn cn 0 0 _ (HN.out.below HB0.out) (by omega)).mono ?_
    generalize (w.alloc (.cells #[.slice an nn cn] 88)).alloc (.cells #[.bool false, .slice none 0 0, .slice none 0 0] 98) = U at *
    rintro e w1 ⟨hpost, hb1⟩
    have HB1 := hid (HB0.out.trans (hb1.mono HB0.out.size))
    have KT1 := hid (KT.out.below hb1)
    have KR1 := hid (KR.out.below hb1)
    have HU := hid hb1.size
    cases hr : rdS ns 13 0 with
    | none =>
      rw [hr] at hpost HRS
      have he : e = .returned (.tuple #[.agg #[.bool false, .slice none 0 0, .slice none 0 0], .int .i64 0, .bool false]) := hpost
      subst he
      have KT2 := hid (KT1.out.alloc (.cells #[.bool false, .slice none 0 0, .slice none 0 0] 98))
      have KR2 := hid (KR1.out.alloc (.cells #[.bool false, .slice none 0 0, .slice none 0 0] 98))
      have t0 := KT2.out.cell (j := 0) rfl
      have r0 := KR2.out.cell (j := 0) rfl
      have r1 := KR2.out.cell (j := 1) rfl
      have r2 := KR2.out.cell (j := 2) rfl
      have q0 := KR2.out.free 0
      have q1 := KR2.out.free 1
      have q2 := KR2.out.free 2
      clear hpost hb1 KT KR KT1 KR1 HB0
      have d0 := (Bk.new w1 98 [.bool false, .slice none 0 0, .slice none 0 0]).cell (j := 0) rfl
      have d1 := (Bk.new w1 98 [.bool false, .slice none 0 0, .slice none 0 0]).cell (j := 1) rfl
      have d2 := (Bk.new w1 98 [.bool false, .slice none 0 0, .slice none 0 0]).cell (j := 2) rfl
      have HB2 := hid ((HB1.out.alloc HB1.out.size (.cells #[.bool false, .slice none 0 0, .slice none 0 0] 98)).drew)
      have hne1 : ¬ w1.heap.size = w.heap.size + 1 := by have := HU.out; have := HZ.out; omega
      have hne2 : ¬ w.heap.size = w.heap.size + 1 := by omega
      clear hr
      go_wp2_with fail
      generalize w1.alloc (.cells #[.bool false, .slice none 0 0, .slice none 0 0] 98) = u at *
      have T0 : Hid (KO (fun y => y = w.heap.size + 1) u u [(⟨w1.heap.size, 0, none⟩, .bool false), (⟨w1.heap.size, 1, none⟩, .slice none 0 0), (⟨w1.heap.size, 2, none⟩, .slice none 0 0), (⟨w.heap.size, 0, none⟩, .slice an nn cn)]) := ⟨fun p hp => by simp at hp; rcases hp with rfl | rfl | rfl | rfl <;> exact ⟨by assumption, by assumption⟩, Only.refl _ _⟩
      refine wp_region_noPanic ?_
      refine wp_region_held_drew (S := (fun z => z.cell? ⟨w1.heap.size, 0, none⟩ = some (.bool false) ∧ z.cell? ⟨w1.heap.size, 1, none⟩ = some (.slice none 0 0) ∧ z.cell? ⟨w1.heap.size, 2, none⟩ = some (.slice none 0 0) ∧ z.cell? ⟨w.heap.size, 0, none⟩ = some (.slice an nn cn) ∧ KO (fun y => y = w.heap.size + 1) u z [(⟨w1.heap.size, 0, none⟩, .bool false), (⟨w1.heap.size, 1, none⟩, .slice none 0 0), (⟨w1.heap.size, 2, none⟩, .slice none 0 0), (⟨w.heap.size, 0, none⟩, .slice an nn cn)])) (by kernel_rfl) ?_ (fun hHeld => ?_)
      · exact ko4 ⟨T0.out.cells, only_drew _ _ 1⟩
      simp only [List.size_toArray, List.length_cons, List.length_nil, Array.replicate_succ, Array.replicate_zero, Nat.reduceAdd, List.push_toArray, List.nil_append, List.cons_append]
      refine wpAnyH_take (i := 0) (v := .agg #[.bool false, .slice none 0 0, .slice none 0 0]) rfl (by kernel_rfl) (by kernel_rfl) (by kernel_rfl) (fun _ _ _ h => h) (Or.inl ⟨by rfl, ?_⟩) (by assumption) ?_
      · intro w hSw
        obtain ⟨g1', g2', g3', g4', _⟩ := hSw
        go_simp
      try simp only [List.getElem_toArray]
      try simp only [List.getElem_cons_succ]
      try simp only [List.getElem_cons_zero]
      try simp only [Act.put]
      try simp only [List.setIfInBounds_toArray]
      try simp only [List.set_cons_succ]
      try simp only [List.set_cons_zero]
      refine wpAnyH_take (i := 1) (v := .bool false) rfl (by kernel_rfl) (by kernel_rfl) (by kernel_rfl) (fun _ _ _ h => h) (Or.inl ⟨by rfl, ?_⟩) (by assumption) ?_
      · intro w hSw
        obtain ⟨g1', g2', g3', g4', _⟩ := hSw
        go_simp
      try simp only [List.getElem_toArray]
      try simp only [List.getElem_cons_succ]
      try simp only [List.getElem_cons_zero]
      try simp only [Act.put]
      try simp only [List.setIfInBounds_toArray]
      try simp only [List.set_cons_succ]
      try simp only [List.set_cons_zero]
      refine wpAnyH_take (i := 2) (v := .bool false) rfl (by kernel_rfl) (by kernel_rfl) (by kernel_rfl) (fun _ _ _ h => h) (Or.inl ⟨by rfl, ?_⟩) (by assumption) ?_
      · intro w hSw
        obtain ⟨g1', g2', g3', g4', _⟩ := hSw
        go_simp
      try simp only [List.getElem_toArray]
      try simp only [List.getElem_cons_succ]
      try simp only [List.getElem_cons_zero]
      try simp only [Act.put]
      try simp only [List.setIfInBounds_toArray]
      try simp only [List.set_cons_succ]
      try simp only [List.set_cons_zero]
      refine take_no (i := 3) rfl (by kernel_rfl) (by kernel_rfl) (by kernel_rfl) (fun _ _ _ h => h) (by rfl) (by assumption) ?_
      try simp only [List.getElem_toArray]
      try simp only [List.getElem_cons_succ]
      try simp only [List.getElem_cons_zero]
      try simp only [Act.put]
      try simp only [List.setIfInBounds_toArray]
      try simp only [List.set_cons_succ]
      try simp only [List.set_cons_zero]
      refine take_no (i := 4) rfl (by kernel_rfl) (by kernel_rfl) (by kernel_rfl) (fun _ _ _ h => h) (by rfl) (by assumption) ?_
      try simp only [List.getElem_toArray]
      try simp only [List.getElem_cons_succ]
      try simp only [List.getElem_cons_zero]
      try simp only [Act.put]
      try simp only [List.setIfInBounds_toArray]
      try simp only [List.set_cons_succ]
      try simp only [List.set_cons_zero]
      refine take_no (i := 5) rfl (by kernel_rfl) (by kernel_rfl) (by kernel_rfl) (fun _ _ _ h => h) (by rfl) (by assumption) ?_
      try simp only [List.getElem_toArray]
      try simp only [List.getElem_cons_succ]
      try simp only [List.getElem_cons_zero]
      try simp only [Act.put]
      try simp only [List.setIfInBounds_toArray]
      try simp only [List.set_cons_succ]
      try simp only [List.set_cons_zero]
      refine take_no (i := 6) rfl (by kernel_rfl) (by kernel_rfl) (by kernel_rfl) (fun _ _ _ h => h) (by rfl) (by assumption) ?_
      try simp only [List.getElem_toArray]
      try simp only [List.getElem_cons_succ]
      try simp only [List.getElem_cons_zero]
      try simp only [Act.put]
      try simp only [List.setIfInBounds_toArray]
      try simp only [List.set_cons_succ]
      try simp only [List.set_cons_zero]
      refine take_no (i := 7) rfl (by kernel_rfl) (by kernel_rfl) (by kernel_rfl) (fun _ _ _ h => h) (by rfl) (by assumption) ?_
      try simp only [List.getElem_toArray]
      try simp only [List.getElem_cons_succ]
      try simp only [List.getElem_cons_zero]
      try simp only [Act.put]
      try simp only [List.setIfInBounds_toArray]
      try simp only [List.set_cons_succ]
      try simp only [List.set_cons_zero]
      refine wpAnyH_take (i := 8) (v := .bool false) rfl (by kernel_rfl) (by kernel_rfl) (by kernel_rfl) (fun _ _ _ h => h) (Or.inl ⟨by rfl, ?_⟩) (by assumption) ?_
      · intro w hSw
        obtain ⟨g1', g2', g3', g4', _⟩ := hSw
        go_simp
      try simp only [List.getElem_toArray]
      try simp only [List.getElem_cons_succ]
      try simp only [List.getElem_cons_zero]
      try simp only [Act.put]
      try simp only [List.setIfInBounds_toArray]
      try simp only [List.set_cons_succ]
      try simp only [List.set_cons_zero]
      refine wpAnyH_ready (rs := [9]) (by kernel_rfl) (by simp) ?_
      refine AllReadyH.cons rfl (fun K1 hK => ?_) AllReadyH.nil
      go_simp
      try go_wp2_with fail
      refine hK.out _ _ ?_ (fun hHeld => ?_)
      · first | assumption | exact ko4 ⟨T0.out.cells, only_drew _ _ 1⟩ | exact ko4o ((only_set (R := fun y => y = w.heap.size + 1) rfl _).trans ((only_set (R := fun y => y = w.heap.size + 1) rfl _).trans (only_set (R := fun y => y = w.heap.size + 1) rfl _))) (by assumption)
      clear hK K1
      try simp only [List.getElem_toArray]
      try simp only [List.getElem_cons_succ]
      try simp only [List.getElem_cons_zero]
      try simp only [Act.put]
      try simp only [List.setIfInBounds_toArray]
      try simp only [List.set_cons_succ]
      try simp only [List.set_cons_zero]
      refine wpAnyH_ready (rs := [10]) (by kernel_rfl) (by simp) ?_
      refine AllReadyH.cons rfl (fun K1 hK => ?_) AllReadyH.nil
      go_simp
      try go_wp2_with fail
      refine hK.out _ _ ?_ (fun hHeld => ?_)
      · first | assumption | exact ko4 ⟨T0.out.cells, only_drew _ _ 1⟩ | exact ko4o ((only_set (R := fun y => y = w.heap.size + 1) rfl _).trans ((only_set (R := fun y => y = w.heap.size + 1) rfl _).trans (only_set (R := fun y => y = w.heap.size + 1) rfl _))) (by assumption)
      clear hK K1
      try simp only [List.getElem_toArray]
      try simp only [List.getElem_cons_succ]
      try simp only [List.getElem_cons_zero]
      try simp only [Act.put]
      try simp only [List.setIfInBounds_toArray]
      try simp only [List.set_cons_succ]
      try simp only [List.set_cons_zero]
      refine wpAnyH_done (by kernel_rfl) ?_ _
      refine NoPanic.normal ?_
      go_wp2
      try simp only [Exit.inBlock, Exit.then]
      refine bodyPost_ret (v := .tuple #[.agg #[.bool false, .slice none 0 0, .slice none 0 0], .bool false]) ?_ rfl ?_
      · refine results_sub2 rfl _ _ _ rfl rfl ?_ ?_ ?_
        · go_simp
        · go_simp
        · go_simp
      · refine ⟨?_, (((HB2.out.setCell (by show w.heap.size ≤ w.heap.size + 1; omega) _).setCell (by show w.heap.size ≤ w.heap.size + 1; omega) _).setCell (by show w.heap.size ≤ w.heap.size + 1; omega) _)⟩
        rw [HRS.out]
        exact ⟨_, _, _, _, _, _, _, rfl⟩
    | some tn =>
      obtain ⟨t, n⟩ := tn
      rw [hr] at hpost HRS
      obtain ⟨lf, ap, np, cp, ak, nk, ck, he, hsub⟩ := hpost
      subst he
      have KT2 := hid (KT1.out.alloc (.cells #[.bool lf, .slice ap np cp, .slice ak nk ck] 98))
      have KR2 := hid (KR1.out.alloc (.cells #[.bool lf, .slice ap np cp, .slice ak nk ck] 98))
      have t0 := KT2.out.cell (j := 0) rfl
      have r0 := KR2.out.cell (j := 0) rfl
      have r1 := KR2.out.cell (j := 1) rfl
      have r2 := KR2.out.cell (j := 2) rfl
      have q0 := KR2.out.free 0
      have q1 := KR2.out.free 1
      have q2 := KR2.out.free 2
      have d0 := (Bk.new w1 98 [.bool lf, .slice ap np cp, .slice ak nk ck]).cell (j := 0) rfl
      have d1 := (Bk.new w1 98 [.bool lf, .slice ap np cp, .slice ak nk ck]).cell (j := 1) rfl
      have d2 := (Bk.new w1 98 [.bool lf, .slice ap np cp, .slice ak nk ck]).cell (j := 2) rfl
      have HB2 := hid ((HB1.out.alloc HB1.out.size (.cells #[.bool lf, .slice ap np cp, .slice ak nk ck] 98)).drew)
      have HSB : Hid (Sub (w1.alloc (.cells #[.bool lf, .slice ap np cp, .slice ak nk ck] 98)).drew (fun y => w.heap.size + 2 ≤ y) lf (.slice ap np cp) (.slice ak nk ck) t) := ((hsub.kept (below_new (Below.refl _ _))).kept (below_drew _)).mono (fun y hy _ => by have := HZ.out; have := hy.1; omega)
      have hne1 : ¬ w1.heap.size = w.heap.size + 1 := by have := HU.out; have := HZ.out; omega
      have hne2 : ¬ w.heap.size = w.heap.size + 1 := by omega
      have HFIN : Hid (∀ b : Bool, b = decide (n = ns.length) → ∀ e w', e = .returned (.tuple #[.agg #[.bool lf, .slice ap np cp, .slice ak nk ck], .bool b]) → Sub w' (fun y => w.heap.size ≤ y ∧ y < w'.heap.size) lf (.slice ap np cp) (.slice ak nk ck) t → RootPost (rootS ns) w e w') := by
        rintro b rfl e w' rfl hs
        rw [HRS.out]
        simp only
        by_cases hn : n = ns.length
        · rw [if_pos hn, decide_eq_true hn]; exact ⟨lf, ap, np, cp, ak, nk, ck, rfl, hs⟩
        · rw [if_neg hn, decide_eq_false hn]; exact ⟨lf, ap, np, cp, ak, nk, ck, rfl⟩
      clear hb1 hr KT KR KT1 KR1 HB0 hsub HRS
      go_wp2_with fail
      generalize w1.alloc (.cells #[.bool lf, .slice ap np cp, .slice ak nk ck] 98) = u at *
      have T0 : Hid (KO (fun y => y = w.heap.size + 1) u u [(⟨w1.heap.size, 0, none⟩, .bool lf), (⟨w1.heap.size, 1, none⟩, .slice ap np cp), (⟨w1.heap.size, 2, none⟩, .slice ak nk ck), (⟨w.heap.size, 0, none⟩, .slice an nn cn)]) := ⟨fun p hp => by simp at hp; rcases hp with rfl | rfl | rfl | rfl <;> exact ⟨by assumption, by assumption⟩, Only.refl _ _⟩
      go_region_held3 (fun z => z.cell? ⟨w1.heap.size, 0, none⟩ = some (.bool lf) ∧ z.cell? ⟨w1.heap.size, 1, none⟩ = some (.slice ap np cp) ∧ z.cell? ⟨w1.heap.size, 2, none⟩ = some (.slice ak nk ck) ∧ z.cell? ⟨w.heap.size, 0, none⟩ = some (.slice an nn cn) ∧ KO (fun y => y = w.heap.size + 1) u z [(⟨w1.heap.size, 0, none⟩, .bool lf), (⟨w1.heap.size, 1, none⟩, .slice ap np cp), (⟨w1.heap.size, 2, none⟩, .slice ak nk ck), (⟨w.heap.size, 0, none⟩, .slice an nn cn)]) (first | assumption | exact ko4 ⟨T0.out.cells, only_drew _ _ 1⟩ | exact ko4o ((only_set (R := fun y => y = w.heap.size + 1) rfl _).trans ((only_set (R := fun y => y = w.heap.size + 1) rfl _).trans (only_set (R := fun y => y = w.heap.size + 1) rfl _))) (by assumption)) (first | fail)
      all_goals
        have hbeq : ((n : Int) == (nn : Int)) = decide (n = ns.length) := by
          rw [← hnn.out]
          by_cases h : n = nn
          · rw [decide_eq_true h, h]; simp
          · rw [decide_eq_false h]; simp; omega
        go_wp2
        try simp only [Exit.inBlock, Exit.then]
        refine bodyPost_ret (v := .tuple #[.agg #[.bool lf, .slice ap np cp, .slice ak nk ck], .bool (decide (n = ns.length))]) ?_ rfl ?_
        · refine results_sub2 rfl _ _ _ rfl ?_ ?_ ?_ ?_
          · show Value.bool ((n : Int) == (nn : Int)) = _
            rw [hbeq]
          · go_simp
          · go_simp
          · go_simp
        · refine ⟨HFIN.out _ rfl _ _ rfl ?_, (((HB2.out.setCell (by show w.heap.size ≤ w.heap.size + 1; omega) _).setCell (by show w.heap.size ≤ w.heap.size + 1; omega) _).setCell (by show w.heap.size ≤ w.heap.size + 1; omega) _)⟩
          have o : Only (fun y => y = w.heap.size + 1) u.drew (((u.drew.setCell ⟨w.heap.size + 1, 0, none⟩ (.bool lf)).setCell ⟨w.heap.size + 1, 1, none⟩ (.slice ap np cp)).setCell ⟨w.heap.size + 1, 2, none⟩ (.slice ak nk ck)) := ((only_set (R := fun y => y = w.heap.size + 1) rfl _).trans (only_set (R := fun y => y = w.heap.size + 1) rfl _)).trans (only_set (R := fun y => y = w.heap.size + 1) rfl _)
          exact (HSB.out.to o (fun y hy _ e => by omega)).mono (fun y hy hlt => ⟨by omega, hlt⟩)
end Go.Proofs.YtcpdedpgjaimkaaDoor
/-
  l03Lay of the specification: the nodes of a sub in the walk's order, behind others.
-/
namespace Go.Proofs.YtcpdedpgjaimkaaDoor
open Go.RowKit
/-- What comes of laying. -/
def LayPost (w : World) (F : Nat → Prop) (v : Value) (ms : List NB) (e : Ending) (w' : World) : Prop :=
  ∃ v', e = .returned v' ∧ NO w' (fun y => F y ∨ (w.heap.size ≤ y ∧ y < w'.heap.size ∧ v'.ownBlock ≠ some y)) v' ms ∧ Only (fun y => v.ownBlock = some y) w w' ∧ ∀ y, v'.ownBlock = some y → v.ownBlock = some y ∨ w.heap.size ≤ y
set_option maxHeartbeats 8000000 in
set_option maxRecDepth 20000 in
theorem specLay_any (t : T) : ∀ (S : Nat → Prop) (lf : Bool) (ap ak : Option Addr) (np cp nk ck : Nat) (w : World) (F : Nat → Prop) (av : Option Addr) (nv cv : Nat) (ns : List NB) (r : Bool), Sub w S lf (.slice ap np cp) (.slice ak nk ck) t → (∀ y, S y → (Value.slice av nv cv).ownBlock ≠ some y) →
    NO w F (.slice av nv cv) ns → ns.length + t.size ≤ 1048576 → t.full r = true →
    Calls Tryd.prog 66 #[.slice av nv cv, .agg #[.bool lf, .slice ap np cp, .slice ak nk ck]] w fun e w' => LayPost w F (.slice av nv cv) (ns ++ lay ns.length t) e w' := by
  induction t using T.ind
  rename_i ps ks ih
  intro S lf ap ak np cp nk ck w F av nv cv ns r h hSv hN hsz hfu
  obtain ⟨ap', np', cp', ak', nk', ck', e1, e2, HNP, HNK, b1, b2, hlf, hP⟩ := h.shape
  cases e1
  cases e2
  obtain ⟨av', nv', cv', e3, HNV⟩ := hN.shape
  cases e3
  have H0 := hid h
  have HP := hid hP
  have HIH := hid ih
  have HSV := hid hSv
  have HN := hid hN
  have HSZ := hid hsz
  have HFU := hid hfu
  simp only [T.ks, T.ps] at HNK HNP HP
  have hnl : nv ≤ 1048576 := by have := HNV.out; have := HSZ.out; omega
  have HLF := hid hlf
  clear h ih hP hSv hN hsz hfu hlf
  have HB0 : Hid (Below w.heap.size w ((w.alloc (.cells #[.bool lf, .slice ap np cp, .slice ak nk ck] 98)).alloc (.cells #[.slice none 0 0, .slice none 0 0, .slice none 0 0] 112))) := below_new (below_new (Below.refl _ _))
  have KP : Hid (Bk ((w.alloc (.cells #[.bool lf, .slice ap np cp, .slice ak nk ck] 98)).alloc (.cells #[.slice none 0 0, .slice none 0 0, .slice none 0 0] 112)) w.heap.size 98 [.bool lf, .slice ap np cp, .slice ak nk ck]) := (Bk.new w 98 [.bool lf, .slice ap np cp, .slice ak nk ck]).alloc _
  have KZ : Hid (Bk ((w.alloc (.cells #[.bool lf, .slice ap np cp, .slice ak nk ck] 98)).alloc (.cells #[.slice none 0 0, .slice none 0 0, .slice none 0 0] 112)) (w.heap.size + 1) 112 [.slice none 0 0, .slice none 0 0, .slice none 0 0]) := by
    have := Bk.new (w.alloc (.cells #[.bool lf, .slice ap np cp, .slice ak nk ck] 98)) 112 [.slice none 0 0, .slice none 0 0, .slice none 0 0]
    show Bk _ _ _ _
    simpa using this
  have HN0 := hid (HN.out.kept HB0.out)
  have HVW := hid HN.out.lt
  go_enter Tryd.func66, Tryd.ntmps66
  go_wp2_with (at_builtin; refine wpList_append_zero rfl _ _ rfl F _ ns rfl HN0.out (w.heap.size + 1) rfl KZ.out ?q1 ?_)
  case q1 => have := HSZ.out; omega
  intro g1 n1 c1 w1 hN1 HN1L hg1 ha1
  have HO1 : Hid (Only (fun y => (Value.slice av nv cv).ownBlock = some y) w w1) := (only_of_below HB0.out _).trans (only_of_grown hg1 (fun k e => e))
  have HV1 : Hid (∀ y, (Value.slice (some ⟨g1, 0, none⟩) n1 c1).ownBlock = some y → (Value.slice av nv cv).ownBlock = some y ∨ w.heap.size + 2 ≤ y) := by
    intro y e
    rcases ha1 with ha | ha
    · exact .inl (ha ▸ e)
    · rw [ha] at e; cases e; right; simp
  have KP1 : Hid (Bk w1 w.heap.size 98 [.bool lf, .slice ap np cp, .slice ak nk ck]) := KP.out.to (only_of_grown (R := fun y => y < w.heap.size) hg1 (fun y e => HVW.out y e)) (by omega)
  have HN1 := hid hN1
  have HWS : Hid (w.heap.size + 2 ≤ w1.heap.size) := by have := hg1.size; simp at this; exact this
  have HSW : Hid (Sub w1 S lf (.slice ap np cp) (.slice ak nk ck) (.mk ps ks)) := H0.out.to HO1.out (fun y hy _ e => HSV.out y hy e)
  have HPW : Hid (Pr w1 S (.slice ap np cp) ps) := HP.out.to HO1.out (fun y hy _ e => HSV.out y hy e)
  have p0 := KP1.out.cell (j := 0) rfl
  have p1 := KP1.out.cell (j := 1) rfl
  have p2 := KP1.out.cell (j := 2) rfl
  have HSUB : Hid (Sub w (fun y => S y ∧ y < w.heap.size) lf (.slice ap np cp) (.slice ak nk ck) (.mk ps ks)) := H0.out.mono (fun y hy h => ⟨hy, h⟩)
  clear hN1 hg1 ha1 KP KZ HN0 HB0 H0 HP
  have hn1 : Hid (n1 = nv + 1) := by show _ = _; rw [HN1L.out, HNV.out]
  have hlt1 : (nv : Int) < (n1 : Int) := by have := hn1.out; omega
  by_cases hk : nk = 0
  · have hlf' : lf = true := by rw [HLF.out, hk]; rfl
    have hks : ks = [] := List.eq_nil_of_length_eq_zero (by have := HNK.out; omega)
    subst hlf' hks
    have hps : ps.length ≤ 4 := (full_lf HFU.out).1
    have HO := hid (ow_new w1 w1.heap.size (Nat.le_refl _))
    have HB1 := hid (below_new (o := .cells #[] 91) (w := w1) (Below.refl _ _))
    have p1' := (KP1.out.alloc (.cells #[] 91)).cell (j := 1) rfl
    clear hk HLF
    go_wp2_with (at_builtin; refine wpList_append_pairs rfl _ _ rfl w1.heap.size _ [] rfl HO.out S _ ps rfl (HPW.out.below HB1.out) ?q1 ?q2 ?_)
    case q1 => simp; omega
    case q2 => simp
    intro v2 w2 hO2 hg2
    obtain ⟨a2, n2, c2, hv2, HN2⟩ := hO2.shape'
    subst hv2
    have HO2 : Hid (Ow w2 w1.heap.size (.slice a2 n2 c2) ps) := hO2
    have HWB : Hid (Below w1.heap.size w1 w2) := HB1.out.trans (grown_belowB HO.out hg2 (by simp))
    have HN2' := hid (HN1.out.kept HWB.out)
    have HG1 : Hid (g1 < w1.heap.size) := HN1.out.lt g1 rfl
    have HF1 : Hid (∀ y, F y → y < w1.heap.size ∧ g1 ≠ y) := by
      intro y hy
      obtain ⟨V, _, _, _, n4, _⟩ := HN1.out
      exact ⟨(n4 y hy).1, fun e => (n4 y hy).2 (by rw [← e]; rfl)⟩
    obtain ⟨⟨x0, x1, x2, m0, _, _⟩, mf⟩ := HN2'.out.cells ns.length (by simp)
    have mf0 := mf (nv * 3)
    rw [← HNV.out] at m0
    have HFIN : Hid (NO (w2.setCell ⟨g1, nv * 3, none⟩ (.slice a2 n2 c2)) (fun y => F y ∨ (w.heap.size ≤ y ∧ y < (w2.setCell ⟨g1, nv * 3, none⟩ (.slice a2 n2 c2)).heap.size ∧ (Value.slice (some ⟨g1, 0, none⟩) n1 c1).ownBlock ≠ some y)) (.slice (some ⟨g1, 0, none⟩) n1 c1) (ns ++ lay ns.length (.mk ps []))) := by
      have hz : (w2.setCell ⟨g1, nv * 3, none⟩ (.slice a2 n2 c2)).heap.size = w2.heap.size := by simp [World.setCell]
      have hsz2 := HWB.out.size
      have e : lay ns.length (.mk ps []) = [⟨ps, [], []⟩] := by simp [lay]
      rw [hz, e]
      have hO0 : w2.ownsRow 0 91 2 (.slice a2 n2 c2) ps.length (pcs ps) := own_lower HO2.out
      have := NO.put0 (F := fun y => F y ∨ (w.heap.size ≤ y ∧ y < w2.heap.size ∧ (Value.slice (some ⟨g1, 0, none⟩) n1 c1).ownBlock ≠ some y)) (ms := ns) (l := []) (z := ⟨[], [], []⟩) HN2'.out (fun y hy => .inl hy) (by
        rintro y (hy | hy)
        · exact ⟨by have := HF1.out y hy; omega, fun e => (HF1.out y hy).2 (by cases e; rfl)⟩
        · exact hy.2) hO0 (fun y hy => by
          have h1 := own_ge HO2.out y hy
          have h2 := (World.ownsRow.lt HO2.out y hy).2
          exact ⟨.inr ⟨by have := HWS.out; omega, h2, fun e => by simp [Value.ownBlock] at e; have := HG1.out; omega⟩, fun hf => by have := HF1.out y hf; omega⟩)
      rw [← HNV.out] at this
      exact this
    have HOF : Hid (Only (fun y => (Value.slice av nv cv).ownBlock = some y) w (w2.setCell ⟨g1, nv * 3, none⟩ (.slice a2 n2 c2))) := by
      refine (HO1.out.trans (only_of_below HWB.out _)).then (only_set (R := fun y => y = g1) rfl _) (fun y hy e => ?_)
      subst e
      rcases HV1.out y rfl with h | h
      · exact h
      · omega
    clear hO2 hg2 mf HN2' HO2
    go_wp2
    go_ret
    exact ⟨_, rfl, HFIN.out, HOF.out, fun y hy => (HV1.out y hy).imp id (fun h => by omega)⟩
  · have hlf' : lf = false := by rw [HLF.out]; simp [hk]
    subst hlf'
    have hkne : ks ≠ [] := by rintro rfl; have := HNK.out; simp at this; omega
    have HBR := hid (full_br HFU.out hkne)
    have HLY : Hid (ns ++ lay ns.length (T.mk ps ks) = ns ++ ⟨[], ks.tail.map T.least, places (ns.length + 1) ks⟩ :: layL (ns.length + 1) ks) := by show _ = _; simp [lay, hkne]
    have HSZK : Hid (ns.length + 1 + szL ks ≤ 1048576) := by have := HSZ.out; simp only [T.size] at this; show _ ≤ _; omega
    have HI0 : Hid (LyI w (w1.alloc (.cells #[.slice none 0 0, .slice none 0 0, .slice none 0 0] 112)) F (.slice av nv cv) (.slice (some ⟨g1, 0, none⟩) n1 c1) (.bool false) (.slice ap np cp) (.slice ak nk ck) w1.heap.size (.slice none 0 0) (.slice none 0 0) F (ns ++ [⟨[], [], []⟩]) [] []) := by
      have hF := fun y hy => (show y < w.heap.size from by obtain ⟨V, _, _, _, n4, _⟩ := HN.out; exact (n4 y hy).1)
      have hws := HWS.out
      refine ⟨hF, HVW.out, by omega, HN1.out.kept (below_new (Below.refl _ _)), KP1.out.alloc _, Bk.new w1 112 [.slice none 0 0, .slice none 0 0, .slice none 0 0], World.ownsRow_nil _ _ _ _, World.ownsRow_nil _ _ _ _, fun y hy => ⟨.inl hy, by have := hF y hy; omega, by simp [Value.ownBlock], by simp [Value.ownBlock]⟩, fun y hy => hy, fun y hy => ⟨(HV1.out y hy).imp id (fun h => by omega), ?_, by simp [Value.ownBlock], by simp [Value.ownBlock]⟩, fun y hy => (by cases hy), fun y hy => (by cases hy), HO1.out.trans (only_alloc _ _ _)⟩
      have := HN1.out.lt y hy
      omega
    have p2' := HI0.out.par.cell (j := 2) rfl
    clear hk HLF HN1 KP1 HN
    go_wp2_with fail
    go_loopw [0, 29] (fun x i wr => ∃ (k : Nat) (a' : Option Addr) (n' c' : Nat) (kx ki : Value) (Fk : Nat → Prop), k ≤ nk ∧ i = .int .i64 k ∧ x = .slice a' n' c' ∧ Hid (LyI w wr F (.slice av nv cv) (.slice a' n' c') (.bool false) (.slice ap np cp) (.slice ak nk ck) w1.heap.size kx ki Fk (ns ++ ⟨[], [], []⟩ :: layL (ns.length + 1) (ks.take k)) ((ks.take k).tail.map T.least) (places (ns.length + 1) (ks.take k)))) (fun _ i _ => nk - (intOf i).toNat)
    case atStart => exact ⟨0, _, _, _, _, _, F, Nat.zero_le _, rfl, rfl, by show LyI _ _ _ _ _ _ _ _ _ _ _ _ _ _ _; simpa [layL, places] using HI0.out⟩
    case round =>
      obtain ⟨k, a', n', c', kx, ki, Fk, hkn, rfl, rfl, HL⟩ := hrel
      by_cases hlt : k < nk
      · have hlt' : (k : Int) < (nk : Int) := by omega
        have hks : k < ks.length := by rw [← HNK.out]; exact hlt
        obtain ⟨aki, cki, hki⟩ := own_shape HL.out.ri
        generalize hnki : (places (ns.length + 1) (ks.take k)).length = nki at hki
        have HNKI := hid hnki
        clear hnki
        subst hki
        have HLu := hid (HL.out.keep (below_new (o := .cells #[.int .i64 (n' : Int)] 3) (Below.refl _ _)))
        have y2 := HL.out.nod.cell (j := 2) rfl
        obtain ⟨aq, nq', cq, eq, HNQ⟩ := HL.out.nodes.shape
        cases eq
        have HLN : Hid (n' = ns.length + 1 + szL (ks.take k)) := by show _ = _; rw [HNQ.out]; simp [layL_length]; omega
        have hkk : nki ≤ 1048576 := by
          have h1 := HNKI.out
          rw [places_length, List.length_take] at h1
          have h2 := HBR.out.2.1
          omega
        have HRI : Hid (World.ownsRow (wr.alloc (.cells #[.int .i64 (n' : Int)] 3)) 0 3 1 (.slice aki nki cki) (places (ns.length + 1) (ks.take k)).length ((places (ns.length + 1) (ks.take k)).map (Value.int .i64))) := HLu.out.ri
        rw [HNKI.out] at HRI
        go_wp2_with (at_builtin; refine wpList_append_int1 rfl _ _ rfl _ nki _ rfl HRI.out wr.heap.size (n' : Int) rfl (Bk.new wr 3 [.int .i64 (n' : Int)]) hkk ?_)
        intro ai2 ni2 ci2 w2 hO2 hg2 ha2
        have HL2 : Hid (LyI w (w2.setCell ⟨w1.heap.size, 2, none⟩ (.slice ai2 ni2 ci2)) F (.slice av nv cv) (.slice a' n' c') (.bool false) (.slice ap np cp) (.slice ak nk ck) w1.heap.size kx (.slice ai2 ni2 ci2) Fk (ns ++ ⟨[], [], []⟩ :: layL (ns.length + 1) (ks.take k)) ((ks.take k).tail.map T.least) (places (ns.length + 1) (ks.take (k + 1)))) := by
          have h1 := HLu.out.addKid (n' : Int) (by rw [HNKI.out]; exact hO2) hg2 (by simpa using ha2)
          have h2 : places (ns.length + 1) (ks.take (k + 1)) = places (ns.length + 1) (ks.take k) ++ [(n' : Int)] := by rw [places_take ks k _ hks, HLN.out]
          show LyI _ _ _ _ _ _ _ _ _ _ _ _ _ _ _
          rw [h2]
          exact h1
        have K2 := HLu.out.nod.to (only_of_grown (R := fun y => (Value.slice aki nki cki).ownBlock = some y) hg2 (fun y e => e)) (fun e => (HLu.out.ib _ e).2 rfl)
        have z2 := K2.cell (j := 2) rfl
        have zf := K2.free 2
        clear hO2 hg2 ha2 K2 HRI HLu HL y2
        cases k with
        | zero =>
          have HLX := HL2
          -- the kid's nodes
          have HSUBX := hid (HSUB.out.to HLX.out.only (fun y hy _ e => HSV.out y hy.1 e))
          obtain ⟨gk, ofk, hak, _, _, hkid⟩ := HSUBX.out.kids (by omega)
          try subst hak
          obtain ⟨l1, ap1, np1, cp1, ak1, nk1, ck1, x0, x1, x2, hs1⟩ := hkid 0 hlt
          simp only [Nat.zero_mul, Nat.add_zero] at x0 x1 x2
          have HS1 := hid hs1
          have pp2 := HLX.out.par.cell (j := 2) rfl
          have HLEN : Hid ((ns ++ ⟨[], [], []⟩ :: layL (ns.length + 1) (ks.take (0))).length = ns.length + 1 + szL (ks.take (0))) := by show _ = _; simp [layL_length]; omega
          have HEQ : Hid ((ns ++ ⟨[], [], []⟩ :: layL (ns.length + 1) (ks.take (0))) ++ lay (ns ++ ⟨[], [], []⟩ :: layL (ns.length + 1) (ks.take (0))).length (tAt ks (0)) = ns ++ ⟨[], [], []⟩ :: layL (ns.length + 1) (ks.take (0 + 1))) := by
            show _ = _
            rw [HLEN.out, layL_take ks (0) (ns.length + 1) hks]
            simp
          have HBND : Hid ((ns ++ ⟨[], [], []⟩ :: layL (ns.length + 1) (ks.take (0))).length + (tAt ks (0)).size ≤ 1048576) := by
            show _ ≤ _
            have h1 := szL_take_le ks (0 + 1)
            rw [szL_take ks (0) hks] at h1
            have h2 := HSZK.out
            rw [HLEN.out]
            omega
          have HVS : Hid (∀ y, (S y ∧ y < w.heap.size) → (Value.slice a' n' c').ownBlock ≠ some y) := by
            intro y hy e
            rcases (HLX.out.vb y e).1 with h | h
            · exact HSV.out y hy.1 h
            · omega
          simp only [T.ks] at HS1
          clear hkid hs1 HSUBX
          go_wp2_with fail
          refine (HIH.out (tAt ks (0)) (tAt_mem hks) (fun y => S y ∧ y < w.heap.size) l1 ap1 ak1 np1 cp1 nk1 ck1 _ Fk a' n' c' (ns ++ ⟨[], [], []⟩ :: layL (ns.length + 1) (ks.take (0))) false HS1.out HVS.out HLX.out.nodes HBND.out (HBR.out.2.2.2 _ (tAt_mem hks))).mono ?_
          rintro e w9 ⟨v9, rfl, hN9, ho9, hv9⟩
          rw [HEQ.out] at hN9
          obtain ⟨a9, n9, c9, e9, _⟩ := hN9.shape
          subst e9
          have HL9 := hid (HLX.out.sub hN9 ho9 hv9)
          clear hN9 ho9 hv9 x0 x1 x2 pp2 HLX HS1
          go_wp2
          go_roundw
          case rel => exact ⟨0 + 1, a9, n9, c9, _, _, _, by omega, by go_num, rfl, by show LyI _ _ _ _ _ _ _ _ _ _ _ _ _ _ _; have e : (ks.take (0 + 1)).tail.map T.least = (ks.take 0).tail.map T.least := (by cases ks <;> simp); rw [e]; exact HL9.out⟩
          case measure => simp [intOf]; omega
        | succ k' =>
          have hk1 : (0 : Int) < (k' : Int) + 1 := by omega
          have hk2 : (k' : Int) + 1 < (nk : Int) := by omega
          have hk3 : 0 ≤ (k' : Int) + 1 := by omega
          have hk4 : ((k' : Int) + 1).toNat = k' + 1 := by omega
          generalize hU2 : w2.setCell ⟨w1.heap.size, 2, none⟩ (.slice ai2 ni2 ci2) = u2 at HL2
          obtain ⟨akx, ckx, hkx⟩ := own_shape HL2.out.rx
          generalize hnkx : ((ks.take (k' + 1)).tail.map T.least).length = nkx at hkx
          have HNKX := hid hnkx
          clear hnkx
          subst hkx
          have HSUB2 := hid (HSUB.out.to HL2.out.only (fun y hy _ e => HSV.out y hy.1 e))
          obtain ⟨gk, ofk, hak, hgs, _, hkid⟩ := HSUB2.out.kids (by omega)
          subst hak
          obtain ⟨l1, ap1, np1, cp1, ak1, nk1, ck1, x0, x1, x2, hs1⟩ := hkid (k' + 1) hlt
          have n1c := HL2.out.nod.cell (j := 1) rfl
          have n1f := HL2.out.nod.free 1
          have pp2 := HL2.out.par.cell (j := 2) rfl
          have hnbx : (Value.slice akx nkx ckx).ownBlock ≠ some w1.heap.size := fun e => (HL2.out.xb _ e).2.1 rfl
          have hgk : ¬ ((Value.slice akx nkx ckx).ownBlock = some gk ∨ gk = w1.heap.size) := by
            have h1 : gk < w.heap.size := hgs.2
            have h2 := HL2.out.lo
            rintro (e | e)
            · have := (HL2.out.xb _ e).1; omega
            · omega
          have hpb : ¬ ((Value.slice akx nkx ckx).ownBlock = some w.heap.size ∨ w.heap.size = w1.heap.size) := by
            have h2 := HL2.out.lo
            rintro (e | e)
            · have := (HL2.out.xb _ e).1; omega
            · omega
          have T0 : Hid (KO (fun y => (Value.slice akx nkx ckx).ownBlock = some y ∨ y = w1.heap.size) u2 u2 [(⟨w.heap.size, 2, none⟩, .slice (some ⟨gk, ofk, none⟩) nk ck), (⟨gk, ofk + (k' + 1) * 3, none⟩, .bool l1), (⟨gk, ofk + (k' + 1) * 3 + 1, none⟩, .slice ap1 np1 cp1), (⟨gk, ofk + (k' + 1) * 3 + 2, none⟩, .slice ak1 nk1 ck1)]) := ⟨fun p hp => by simp at hp; rcases hp with rfl | rfl | rfl | rfl <;> exact ⟨by assumption, by assumption⟩, Only.refl _ _⟩
          have HLE : Hid (∀ z, Below u2.heap.size u2 z → Calls Tryd.prog 73 #[.agg #[.bool l1, .slice ap1 np1 cp1, .slice ak1 nk1 ck1]] z fun e w' => e = .returned (.string (tAt ks (k' + 1)).least) ∧ Below z.heap.size z w') := fun z hz => specLeast_any (tAt ks (k' + 1)) _ l1 ap1 ak1 np1 cp1 nk1 ck1 z (by simp only [T.ks] at hs1; exact hs1.kept hz)
          have HOW : Hid (∀ z o, Below u2.drew.heap.size u2.drew z → World.ownsRow (z.alloc o) 0 9 1 (.slice akx nkx ckx) nkx (((ks.take (k' + 1)).tail.map T.least).map Value.string)) := fun z o hz => by
            have h1 := ((HL2.out.keep (below_drew _)).keep hz).keep (below_new (o := o) (Below.refl _ _))
            have h2 := h1.rx
            rw [HNKX.out] at h2
            exact h2
          have HCK : Hid (∀ z, Below u2.drew.heap.size u2.drew z → z.cell? ⟨w1.heap.size, 1, none⟩ = some (.slice akx nkx ckx) ∧ ∀ o, (z.alloc o).cell? ⟨w1.heap.size, 1, none⟩ = some (.slice akx nkx ckx)) := fun z hz =>
            ⟨((HL2.out.keep (below_drew _)).keep hz).nod.cell (j := 1) rfl, fun o => (((HL2.out.keep (below_drew _)).keep hz).keep (below_new (o := o) (Below.refl _ _))).nod.cell (j := 1) rfl⟩
          have HFK : Hid (∀ z o, Below u2.drew.heap.size u2.drew z → (z.alloc o).frozen? ⟨w1.heap.size, 1, none⟩ = false) := fun z o hz => (((HL2.out.keep (below_drew _)).keep hz).keep (below_new (o := o) (Below.refl _ _))).nod.free 1
          have hkx2 : nkx ≤ 1048576 := by
            have h1 := HNKX.out
            simp at h1
            have h2 := HBR.out.2.1
            omega
          have HFIN : Hid (∀ z o, Below u2.drew.heap.size u2.drew z → ∀ a5 n5 c5 w5, w5.ownsRow 0 9 1 (.slice a5 n5 c5) (nkx + 1) (((ks.take (k' + 1)).tail.map T.least).map Value.string ++ [.string (tAt ks (k' + 1)).least]) → (z.alloc o).grownBy w5 (Value.slice akx nkx ckx).ownBlock → ((Value.slice a5 n5 c5).ownBlock = (Value.slice akx nkx ckx).ownBlock ∨ (Value.slice a5 n5 c5).ownBlock = some (z.alloc o).heap.size) →
              LyI w (w5.setCell ⟨w1.heap.size, 1, none⟩ (.slice a5 n5 c5)) F (.slice av nv cv) (.slice a' n' c') (.bool false) (.slice ap np cp) (.slice (some ⟨gk, ofk, none⟩) nk ck) w1.heap.size (.slice a5 n5 c5) (.slice ai2 ni2 ci2) Fk (ns ++ ⟨[], [], []⟩ :: layL (ns.length + 1) (ks.take (k' + 1))) ((ks.take (k' + 1 + 1)).tail.map T.least) (places (ns.length + 1) (ks.take (k' + 1 + 1)))) := fun z o hz a5 n5 c5 w5 hO hg ha => by
            have h1 := (((HL2.out.keep (below_drew _)).keep hz).keep (below_new (o := o) (Below.refl _ _))).addKey (tAt ks (k' + 1)).least (by rw [HNKX.out]; exact hO) hg ha
            rw [keys_take ks k' hks]
            exact h1
          clear hkid hs1 HSUB2
          go_wp2_with fail
          clear hU2
          refine wp_region_noPanic ?_
          refine wp_region_held_drew (S := (fun z => z.cell? ⟨w.heap.size, 2, none⟩ = some (.slice (some ⟨gk, ofk, none⟩) nk ck) ∧ z.cell? ⟨gk, ofk + (k' + 1) * 3, none⟩ = some (.bool l1) ∧ z.cell? ⟨gk, ofk + (k' + 1) * 3 + 1, none⟩ = some (.slice ap1 np1 cp1) ∧ z.cell? ⟨gk, ofk + (k' + 1) * 3 + 2, none⟩ = some (.slice ak1 nk1 ck1) ∧ KO (fun y => (Value.slice akx nkx ckx).ownBlock = some y ∨ y = w1.heap.size) u2 z [(⟨w.heap.size, 2, none⟩, .slice (some ⟨gk, ofk, none⟩) nk ck), (⟨gk, ofk + (k' + 1) * 3, none⟩, .bool l1), (⟨gk, ofk + (k' + 1) * 3 + 1, none⟩, .slice ap1 np1 cp1), (⟨gk, ofk + (k' + 1) * 3 + 2, none⟩, .slice ak1 nk1 ck1)])) (by kernel_rfl) ?_ (fun hHeld => ?_)
          · exact ko4 ⟨T0.out.cells, only_drew _ _ 1⟩
          simp only [List.size_toArray, List.length_cons, List.length_nil, Array.replicate_succ, Array.replicate_zero, Nat.reduceAdd, List.push_toArray, List.nil_append, List.cons_append]
          refine wpAnyH_take (i := 0) (v := .pointer (some ⟨w1.heap.size, 1, none⟩)) rfl (by kernel_rfl) (by kernel_rfl) (by kernel_rfl) (fun _ _ _ h => h) (Or.inl ⟨by rfl, ?_⟩) (by assumption) ?_
          · intro w hSw
            obtain ⟨g1', g2', g3', g4', _⟩ := hSw
            go_simp
          try simp only [List.getElem_toArray]
          try simp only [List.getElem_cons_succ]
          try simp only [List.getElem_cons_zero]
          try simp only [Act.put]
          try simp only [List.setIfInBounds_toArray]
          try simp only [List.set_cons_succ]
          try simp only [List.set_cons_zero]
          refine wpAnyH_take (i := 2) (v := .pointer (some ⟨w.heap.size, 2, none⟩)) rfl (by kernel_rfl) (by kernel_rfl) (by kernel_rfl) (fun _ _ _ h => h) (Or.inl ⟨by rfl, ?_⟩) (by assumption) ?_
          · intro w hSw
            obtain ⟨g1', g2', g3', g4', _⟩ := hSw
            go_simp
          try simp only [List.getElem_toArray]
          try simp only [List.getElem_cons_succ]
          try simp only [List.getElem_cons_zero]
          try simp only [Act.put]
          try simp only [List.setIfInBounds_toArray]
          try simp only [List.set_cons_succ]
          try simp only [List.set_cons_zero]
          refine wpAnyH_take (i := 3) (v := .slice (some ⟨gk, ofk, none⟩) nk ck) rfl (by kernel_rfl) (by kernel_rfl) (by kernel_rfl) (fun _ _ _ h => h) (Or.inl ⟨by rfl, ?_⟩) (by assumption) ?_
          · intro w hSw
            obtain ⟨g1', g2', g3', g4', _⟩ := hSw
            go_simp
          try simp only [List.getElem_toArray]
          try simp only [List.getElem_cons_succ]
          try simp only [List.getElem_cons_zero]
          try simp only [Act.put]
          try simp only [List.setIfInBounds_toArray]
          try simp only [List.set_cons_succ]
          try simp only [List.set_cons_zero]
          refine wpAnyH_take (i := 4) (v := .int .i64 ((k' + 1 : Nat) : Int)) rfl (by kernel_rfl) (by kernel_rfl) (by kernel_rfl) (fun _ _ _ h => h) (Or.inl ⟨by rfl, ?_⟩) (by assumption) ?_
          · intro w hSw
            obtain ⟨g1', g2', g3', g4', _⟩ := hSw
            go_simp
          try simp only [List.getElem_toArray]
          try simp only [List.getElem_cons_succ]
          try simp only [List.getElem_cons_zero]
          try simp only [Act.put]
          try simp only [List.setIfInBounds_toArray]
          try simp only [List.set_cons_succ]
          try simp only [List.set_cons_zero]
          refine wpAnyH_take (i := 5) (v := .pointer (some ⟨gk, ofk + (k' + 1) * 3, none⟩)) rfl (by kernel_rfl) (by kernel_rfl) (by kernel_rfl) (fun _ _ _ h => h) (Or.inl ⟨by rfl, ?_⟩) (by assumption) ?_
          · intro w hSw
            obtain ⟨g1', g2', g3', g4', _⟩ := hSw
            go_simp
          try simp only [List.getElem_toArray]
          try simp only [List.getElem_cons_succ]
          try simp only [List.getElem_cons_zero]
          try simp only [Act.put]
          try simp only [List.setIfInBounds_toArray]
          try simp only [List.set_cons_succ]
          try simp only [List.set_cons_zero]
          refine wpAnyH_take (i := 6) (v := .agg #[.bool l1, .slice ap1 np1 cp1, .slice ak1 nk1 ck1]) rfl (by kernel_rfl) (by kernel_rfl) (by kernel_rfl) (fun _ _ _ h => h) (Or.inl ⟨by rfl, ?_⟩) (by assumption) ?_
          · intro w hSw
            obtain ⟨g1', g2', g3', g4', _⟩ := hSw
            go_simp
          try simp only [List.getElem_toArray]
          try simp only [List.getElem_cons_succ]
          try simp only [List.getElem_cons_zero]
          try simp only [Act.put]
          try simp only [List.setIfInBounds_toArray]
          try simp only [List.set_cons_succ]
          try simp only [List.set_cons_zero]
          refine wpAnyH_ready (rs := [1, 7]) (by kernel_rfl) (by simp) ?_
          refine AllReadyH.cons rfl (fun K1 hK => ?_) (AllReadyH.cons rfl (fun K1 hK => ?_) AllReadyH.nil)
          · skip
            go_simp
            try go_wp2_with fail
            refine hK.out _ _ ?_ (fun hHeld => ?_)
            · first | assumption | exact ko4 ⟨T0.out.cells, only_drew _ _ 1⟩ | exact ko4o (only_of_below hbC _) (by assumption) | exact ko4o (only_alloc _ _ _) (by assumption) | exact ko4o (only_of_grown hg5 (fun y e => .inl e)) (by assumption) | exact ko4o (only_set (.inr rfl) _) (by assumption)
            clear hK K1
            try simp only [List.getElem_toArray]
            try simp only [List.getElem_cons_succ]
            try simp only [List.getElem_cons_zero]
            try simp only [Act.put]
            try simp only [List.setIfInBounds_toArray]
            try simp only [List.set_cons_succ]
            try simp only [List.set_cons_zero]
            refine wpAnyH_ready (rs := [7]) (by kernel_rfl) (by simp) ?_
            refine AllReadyH.cons rfl (fun K1 hK => ?_) AllReadyH.nil
            go_simp
            refine (HLE.out _ (below_drew _)).mono ?_
            rintro e w' ⟨rfl, hbC⟩
            have hq1 := (HCK.out _ hbC).1
            have hq2 := (HCK.out _ hbC).2
            go_wp2_with fail
            refine hK.out _ _ ?_ (fun hHeld => ?_)
            · first | assumption | exact ko4 ⟨T0.out.cells, only_drew _ _ 1⟩ | exact ko4o (only_of_below hbC _) (by assumption) | exact ko4o (only_alloc _ _ _) (by assumption) | exact ko4o (only_of_grown hg5 (fun y e => .inl e)) (by assumption) | exact ko4o (only_set (.inr rfl) _) (by assumption)
            clear hK K1
            try simp only [List.getElem_toArray]
            try simp only [List.getElem_cons_succ]
            try simp only [List.getElem_cons_zero]
            try simp only [Act.put]
            try simp only [List.setIfInBounds_toArray]
            try simp only [List.set_cons_succ]
            try simp only [List.set_cons_zero]
            refine wpAnyH_ready (rs := [8]) (by kernel_rfl) (by simp) ?_
            refine AllReadyH.cons rfl (fun K1 hK => ?_) AllReadyH.nil
            go_simp
            try go_wp2_with fail
            refine hK.out _ _ ?_ (fun hHeld => ?_)
            · first | assumption | exact ko4 ⟨T0.out.cells, only_drew _ _ 1⟩ | exact ko4o (only_of_below hbC _) (by assumption) | exact ko4o (only_alloc _ _ _) (by assumption) | exact ko4o (only_of_grown hg5 (fun y e => .inl e)) (by assumption) | exact ko4o (only_set (.inr rfl) _) (by assumption)
            clear hK K1
            try simp only [List.getElem_toArray]
            try simp only [List.getElem_cons_succ]
            try simp only [List.getElem_cons_zero]
            try simp only [Act.put]
            try simp only [List.setIfInBounds_toArray]
            try simp only [List.set_cons_succ]
            try simp only [List.set_cons_zero]
            refine wpAnyH_ready (rs := [9]) (by kernel_rfl) (by simp) ?_
            refine AllReadyH.cons rfl (fun K1 hK => ?_) AllReadyH.nil
            refine step_append_str1 rfl _ _ rfl _ nkx _ rfl (HOW.out _ _ hbC) _ (tAt ks (k' + 1)).least rfl (by simp) hkx2 w1.heap.size 1 _ (hq2 _) (HFK.out _ _ hbC) hnbx ?_
            intro a5 n5 c5 w5 hO5 hg5 ha5 hc5 hf5
            refine hK.out _ _ ?_ (fun hHeld => ?_)
            · first | assumption | exact ko4 ⟨T0.out.cells, only_drew _ _ 1⟩ | exact ko4o (only_of_below hbC _) (by assumption) | exact ko4o (only_alloc _ _ _) (by assumption) | exact ko4o (only_of_grown hg5 (fun y e => .inl e)) (by assumption) | exact ko4o (only_set (.inr rfl) _) (by assumption)
            clear hK K1
            try simp only [List.getElem_toArray]
            try simp only [List.getElem_cons_succ]
            try simp only [List.getElem_cons_zero]
            try simp only [Act.put]
            try simp only [List.setIfInBounds_toArray]
            try simp only [List.set_cons_succ]
            try simp only [List.set_cons_zero]
            refine wpAnyH_ready (rs := [10]) (by kernel_rfl) (by simp) ?_
            refine AllReadyH.cons rfl (fun K1 hK => ?_) AllReadyH.nil
            go_simp
            try go_wp2_with fail
            refine hK.out _ _ ?_ (fun hHeld => ?_)
            · first | assumption | exact ko4 ⟨T0.out.cells, only_drew _ _ 1⟩ | exact ko4o (only_of_below hbC _) (by assumption) | exact ko4o (only_alloc _ _ _) (by assumption) | exact ko4o (only_of_grown hg5 (fun y e => .inl e)) (by assumption) | exact ko4o (only_set (.inr rfl) _) (by assumption)
            clear hK K1
            try simp only [List.getElem_toArray]
            try simp only [List.getElem_cons_succ]
            try simp only [List.getElem_cons_zero]
            try simp only [Act.put]
            try simp only [List.setIfInBounds_toArray]
            try simp only [List.set_cons_succ]
            try simp only [List.set_cons_zero]
            refine wpAnyH_ready (rs := [11]) (by kernel_rfl) (by simp) ?_
            refine AllReadyH.cons rfl (fun K1 hK => ?_) AllReadyH.nil
            go_simp
            try go_wp2_with fail
            refine hK.out _ _ ?_ (fun hHeld => ?_)
            · first | assumption | exact ko4 ⟨T0.out.cells, only_drew _ _ 1⟩ | exact ko4o (only_of_below hbC _) (by assumption) | exact ko4o (only_alloc _ _ _) (by assumption) | exact ko4o (only_of_grown hg5 (fun y e => .inl e)) (by assumption) | exact ko4o (only_set (.inr rfl) _) (by assumption)
            clear hK K1
            try simp only [List.getElem_toArray]
            try simp only [List.getElem_cons_succ]
            try simp only [List.getElem_cons_zero]
            try simp only [Act.put]
            try simp only [List.setIfInBounds_toArray]
            try simp only [List.set_cons_succ]
            try simp only [List.set_cons_zero]
            refine wpAnyH_done (by kernel_rfl) ?_ _
            refine NoPanic.normal ?_
            have HLX := hid (HFIN.out _ _ hbC _ _ _ _ hO5 hg5 ha5)
            clear hO5 hg5 ha5 hc5 hf5 hbC hq1 hq2 HFIN HFK HCK HOW HLE T0 hgk hpb hnbx HL2 z2 zf n1c n1f pp2 x0 x1 x2 hHeld
            -- the kid's nodes
            have HSUBX := hid (HSUB.out.to HLX.out.only (fun y hy _ e => HSV.out y hy.1 e))
            obtain ⟨gk9, ofk9, hak, _, _, hkid⟩ := HSUBX.out.kids (by omega)
            cases hak
            obtain ⟨l9, ap9, np9, cp9, ak9, nk9, ck9, x0, x1, x2, hs1⟩ := hkid (k' + 1) hlt
            have HS1 := hid hs1
            have pp2 := HLX.out.par.cell (j := 2) rfl
            have HLEN : Hid ((ns ++ ⟨[], [], []⟩ :: layL (ns.length + 1) (ks.take (k' + 1))).length = ns.length + 1 + szL (ks.take (k' + 1))) := by show _ = _; simp [layL_length]; omega
            have HEQ : Hid ((ns ++ ⟨[], [], []⟩ :: layL (ns.length + 1) (ks.take (k' + 1))) ++ lay (ns ++ ⟨[], [], []⟩ :: layL (ns.length + 1) (ks.take (k' + 1))).length (tAt ks (k' + 1)) = ns ++ ⟨[], [], []⟩ :: layL (ns.length + 1) (ks.take (k' + 1 + 1))) := by
              show _ = _
              rw [HLEN.out, layL_take ks (k' + 1) (ns.length + 1) hks]
              simp
            have HBND : Hid ((ns ++ ⟨[], [], []⟩ :: layL (ns.length + 1) (ks.take (k' + 1))).length + (tAt ks (k' + 1)).size ≤ 1048576) := by
              show _ ≤ _
              have h1 := szL_take_le ks (k' + 1 + 1)
              rw [szL_take ks (k' + 1) hks] at h1
              have h2 := HSZK.out
              rw [HLEN.out]
              omega
            have HVS : Hid (∀ y, (S y ∧ y < w.heap.size) → (Value.slice a' n' c').ownBlock ≠ some y) := by
              intro y hy e
              rcases (HLX.out.vb y e).1 with h | h
              · exact HSV.out y hy.1 h
              · omega
            simp only [T.ks] at HS1
            clear hkid hs1 HSUBX
            go_wp2_with fail
            refine (HIH.out (tAt ks (k' + 1)) (tAt_mem hks) (fun y => S y ∧ y < w.heap.size) l9 ap9 ak9 np9 cp9 nk9 ck9 _ Fk a' n' c' (ns ++ ⟨[], [], []⟩ :: layL (ns.length + 1) (ks.take (k' + 1))) false HS1.out HVS.out HLX.out.nodes HBND.out (HBR.out.2.2.2 _ (tAt_mem hks))).mono ?_
            rintro e w9 ⟨v9, rfl, hN9, ho9, hv9⟩
            rw [HEQ.out] at hN9
            obtain ⟨aZ, nZ, cZ, e9, _⟩ := hN9.shape
            subst e9
            have HL9 := hid (HLX.out.sub hN9 ho9 hv9)
            clear hN9 ho9 hv9 x0 x1 x2 pp2 HLX HS1
            go_wp2
            go_roundw
            case rel => exact ⟨k' + 1 + 1, aZ, nZ, cZ, _, _, _, by omega, by go_num, rfl, HL9.out⟩
            case measure => simp [intOf]; omega
          · skip
            go_simp
            refine (HLE.out _ (below_drew _)).mono ?_
            rintro e w' ⟨rfl, hbC⟩
            have hq1 := (HCK.out _ hbC).1
            have hq2 := (HCK.out _ hbC).2
            go_wp2_with fail
            refine hK.out _ _ ?_ (fun hHeld => ?_)
            · first | assumption | exact ko4 ⟨T0.out.cells, only_drew _ _ 1⟩ | exact ko4o (only_of_below hbC _) (by assumption) | exact ko4o (only_alloc _ _ _) (by assumption) | exact ko4o (only_of_grown hg5 (fun y e => .inl e)) (by assumption) | exact ko4o (only_set (.inr rfl) _) (by assumption)
            clear hK K1
            try simp only [List.getElem_toArray]
            try simp only [List.getElem_cons_succ]
            try simp only [List.getElem_cons_zero]
            try simp only [Act.put]
            try simp only [List.setIfInBounds_toArray]
            try simp only [List.set_cons_succ]
            try simp only [List.set_cons_zero]
            refine wpAnyH_ready (rs := [1, 8]) (by kernel_rfl) (by simp) ?_
            refine AllReadyH.cons rfl (fun K1 hK => ?_) (AllReadyH.cons rfl (fun K1 hK => ?_) AllReadyH.nil)
            · skip
              go_simp
              try go_wp2_with fail
              refine hK.out _ _ ?_ (fun hHeld => ?_)
              · first | assumption | exact ko4 ⟨T0.out.cells, only_drew _ _ 1⟩ | exact ko4o (only_of_below hbC _) (by assumption) | exact ko4o (only_alloc _ _ _) (by assumption) | exact ko4o (only_of_grown hg5 (fun y e => .inl e)) (by assumption) | exact ko4o (only_set (.inr rfl) _) (by assumption)
              clear hK K1
              try simp only [List.getElem_toArray]
              try simp only [List.getElem_cons_succ]
              try simp only [List.getElem_cons_zero]
              try simp only [Act.put]
              try simp only [List.setIfInBounds_toArray]
              try simp only [List.set_cons_succ]
              try simp only [List.set_cons_zero]
              refine wpAnyH_ready (rs := [8]) (by kernel_rfl) (by simp) ?_
              refine AllReadyH.cons rfl (fun K1 hK => ?_) AllReadyH.nil
              go_simp
              try go_wp2_with fail
              refine hK.out _ _ ?_ (fun hHeld => ?_)
              · first | assumption | exact ko4 ⟨T0.out.cells, only_drew _ _ 1⟩ | exact ko4o (only_of_below hbC _) (by assumption) | exact ko4o (only_alloc _ _ _) (by assumption) | exact ko4o (only_of_grown hg5 (fun y e => .inl e)) (by assumption) | exact ko4o (only_set (.inr rfl) _) (by assumption)
              clear hK K1
              try simp only [List.getElem_toArray]
              try simp only [List.getElem_cons_succ]
              try simp only [List.getElem_cons_zero]
              try simp only [Act.put]
              try simp only [List.setIfInBounds_toArray]
              try simp only [List.set_cons_succ]
              try simp only [List.set_cons_zero]
              refine wpAnyH_ready (rs := [9]) (by kernel_rfl) (by simp) ?_
              refine AllReadyH.cons rfl (fun K1 hK => ?_) AllReadyH.nil
              refine step_append_str1 rfl _ _ rfl _ nkx _ rfl (HOW.out _ _ hbC) _ (tAt ks (k' + 1)).least rfl (by simp) hkx2 w1.heap.size 1 _ (hq2 _) (HFK.out _ _ hbC) hnbx ?_
              intro a5 n5 c5 w5 hO5 hg5 ha5 hc5 hf5
              refine hK.out _ _ ?_ (fun hHeld => ?_)
              · first | assumption | exact ko4 ⟨T0.out.cells, only_drew _ _ 1⟩ | exact ko4o (only_of_below hbC _) (by assumption) | exact ko4o (only_alloc _ _ _) (by assumption) | exact ko4o (only_of_grown hg5 (fun y e => .inl e)) (by assumption) | exact ko4o (only_set (.inr rfl) _) (by assumption)
              clear hK K1
              try simp only [List.getElem_toArray]
              try simp only [List.getElem_cons_succ]
              try simp only [List.getElem_cons_zero]
              try simp only [Act.put]
              try simp only [List.setIfInBounds_toArray]
              try simp only [List.set_cons_succ]
              try simp only [List.set_cons_zero]
              refine wpAnyH_ready (rs := [10]) (by kernel_rfl) (by simp) ?_
              refine AllReadyH.cons rfl (fun K1 hK => ?_) AllReadyH.nil
              go_simp
              try go_wp2_with fail
              refine hK.out _ _ ?_ (fun hHeld => ?_)
              · first | assumption | exact ko4 ⟨T0.out.cells, only_drew _ _ 1⟩ | exact ko4o (only_of_below hbC _) (by assumption) | exact ko4o (only_alloc _ _ _) (by assumption) | exact ko4o (only_of_grown hg5 (fun y e => .inl e)) (by assumption) | exact ko4o (only_set (.inr rfl) _) (by assumption)
              clear hK K1
              try simp only [List.getElem_toArray]
              try simp only [List.getElem_cons_succ]
              try simp only [List.getElem_cons_zero]
              try simp only [Act.put]
              try simp only [List.setIfInBounds_toArray]
              try simp only [List.set_cons_succ]
              try simp only [List.set_cons_zero]
              refine wpAnyH_ready (rs := [11]) (by kernel_rfl) (by simp) ?_
              refine AllReadyH.cons rfl (fun K1 hK => ?_) AllReadyH.nil
              go_simp
              try go_wp2_with fail
              refine hK.out _ _ ?_ (fun hHeld => ?_)
              · first | assumption | exact ko4 ⟨T0.out.cells, only_drew _ _ 1⟩ | exact ko4o (only_of_below hbC _) (by assumption) | exact ko4o (only_alloc _ _ _) (by assumption) | exact ko4o (only_of_grown hg5 (fun y e => .inl e)) (by assumption) | exact ko4o (only_set (.inr rfl) _) (by assumption)
              clear hK K1
              try simp only [List.getElem_toArray]
              try simp only [List.getElem_cons_succ]
              try simp only [List.getElem_cons_zero]
              try simp only [Act.put]
              try simp only [List.setIfInBounds_toArray]
              try simp only [List.set_cons_succ]
              try simp only [List.set_cons_zero]
              refine wpAnyH_done (by kernel_rfl) ?_ _
              refine NoPanic.normal ?_
              have HLX := hid (HFIN.out _ _ hbC _ _ _ _ hO5 hg5 ha5)
              clear hO5 hg5 ha5 hc5 hf5 hbC hq1 hq2 HFIN HFK HCK HOW HLE T0 hgk hpb hnbx HL2 z2 zf n1c n1f pp2 x0 x1 x2 hHeld
              -- the kid's nodes
              have HSUBX := hid (HSUB.out.to HLX.out.only (fun y hy _ e => HSV.out y hy.1 e))
              obtain ⟨gk9, ofk9, hak, _, _, hkid⟩ := HSUBX.out.kids (by omega)
              cases hak
              obtain ⟨l9, ap9, np9, cp9, ak9, nk9, ck9, x0, x1, x2, hs1⟩ := hkid (k' + 1) hlt
              have HS1 := hid hs1
              have pp2 := HLX.out.par.cell (j := 2) rfl
              have HLEN : Hid ((ns ++ ⟨[], [], []⟩ :: layL (ns.length + 1) (ks.take (k' + 1))).length = ns.length + 1 + szL (ks.take (k' + 1))) := by show _ = _; simp [layL_length]; omega
              have HEQ : Hid ((ns ++ ⟨[], [], []⟩ :: layL (ns.length + 1) (ks.take (k' + 1))) ++ lay (ns ++ ⟨[], [], []⟩ :: layL (ns.length + 1) (ks.take (k' + 1))).length (tAt ks (k' + 1)) = ns ++ ⟨[], [], []⟩ :: layL (ns.length + 1) (ks.take (k' + 1 + 1))) := by
                show _ = _
                rw [HLEN.out, layL_take ks (k' + 1) (ns.length + 1) hks]
                simp
              have HBND : Hid ((ns ++ ⟨[], [], []⟩ :: layL (ns.length + 1) (ks.take (k' + 1))).length + (tAt ks (k' + 1)).size ≤ 1048576) := by
                show _ ≤ _
                have h1 := szL_take_le ks (k' + 1 + 1)
                rw [szL_take ks (k' + 1) hks] at h1
                have h2 := HSZK.out
                rw [HLEN.out]
                omega
              have HVS : Hid (∀ y, (S y ∧ y < w.heap.size) → (Value.slice a' n' c').ownBlock ≠ some y) := by
                intro y hy e
                rcases (HLX.out.vb y e).1 with h | h
                · exact HSV.out y hy.1 h
                · omega
              simp only [T.ks] at HS1
              clear hkid hs1 HSUBX
              go_wp2_with fail
              refine (HIH.out (tAt ks (k' + 1)) (tAt_mem hks) (fun y => S y ∧ y < w.heap.size) l9 ap9 ak9 np9 cp9 nk9 ck9 _ Fk a' n' c' (ns ++ ⟨[], [], []⟩ :: layL (ns.length + 1) (ks.take (k' + 1))) false HS1.out HVS.out HLX.out.nodes HBND.out (HBR.out.2.2.2 _ (tAt_mem hks))).mono ?_
              rintro e w9 ⟨v9, rfl, hN9, ho9, hv9⟩
              rw [HEQ.out] at hN9
              obtain ⟨aZ, nZ, cZ, e9, _⟩ := hN9.shape
              subst e9
              have HL9 := hid (HLX.out.sub hN9 ho9 hv9)
              clear hN9 ho9 hv9 x0 x1 x2 pp2 HLX HS1
              go_wp2
              go_roundw
              case rel => exact ⟨k' + 1 + 1, aZ, nZ, cZ, _, _, _, by omega, by go_num, rfl, HL9.out⟩
              case measure => simp [intOf]; omega
            · skip
              go_simp
              try go_wp2_with fail
              refine hK.out _ _ ?_ (fun hHeld => ?_)
              · first | assumption | exact ko4 ⟨T0.out.cells, only_drew _ _ 1⟩ | exact ko4o (only_of_below hbC _) (by assumption) | exact ko4o (only_alloc _ _ _) (by assumption) | exact ko4o (only_of_grown hg5 (fun y e => .inl e)) (by assumption) | exact ko4o (only_set (.inr rfl) _) (by assumption)
              clear hK K1
              try simp only [List.getElem_toArray]
              try simp only [List.getElem_cons_succ]
              try simp only [List.getElem_cons_zero]
              try simp only [Act.put]
              try simp only [List.setIfInBounds_toArray]
              try simp only [List.set_cons_succ]
              try simp only [List.set_cons_zero]
              refine wpAnyH_ready (rs := [1]) (by kernel_rfl) (by simp) ?_
              refine AllReadyH.cons rfl (fun K1 hK => ?_) AllReadyH.nil
              go_simp
              try go_wp2_with fail
              refine hK.out _ _ ?_ (fun hHeld => ?_)
              · first | assumption | exact ko4 ⟨T0.out.cells, only_drew _ _ 1⟩ | exact ko4o (only_of_below hbC _) (by assumption) | exact ko4o (only_alloc _ _ _) (by assumption) | exact ko4o (only_of_grown hg5 (fun y e => .inl e)) (by assumption) | exact ko4o (only_set (.inr rfl) _) (by assumption)
              clear hK K1
              try simp only [List.getElem_toArray]
              try simp only [List.getElem_cons_succ]
              try simp only [List.getElem_cons_zero]
              try simp only [Act.put]
              try simp only [List.setIfInBounds_toArray]
              try simp only [List.set_cons_succ]
              try simp only [List.set_cons_zero]
              refine wpAnyH_ready (rs := [9]) (by kernel_rfl) (by simp) ?_
              refine AllReadyH.cons rfl (fun K1 hK => ?_) AllReadyH.nil
              refine step_append_str1 rfl _ _ rfl _ nkx _ rfl (HOW.out _ _ hbC) _ (tAt ks (k' + 1)).least rfl (by simp) hkx2 w1.heap.size 1 _ (hq2 _) (HFK.out _ _ hbC) hnbx ?_
              intro a5 n5 c5 w5 hO5 hg5 ha5 hc5 hf5
              refine hK.out _ _ ?_ (fun hHeld => ?_)
              · first | assumption | exact ko4 ⟨T0.out.cells, only_drew _ _ 1⟩ | exact ko4o (only_of_below hbC _) (by assumption) | exact ko4o (only_alloc _ _ _) (by assumption) | exact ko4o (only_of_grown hg5 (fun y e => .inl e)) (by assumption) | exact ko4o (only_set (.inr rfl) _) (by assumption)
              clear hK K1
              try simp only [List.getElem_toArray]
              try simp only [List.getElem_cons_succ]
              try simp only [List.getElem_cons_zero]
              try simp only [Act.put]
              try simp only [List.setIfInBounds_toArray]
              try simp only [List.set_cons_succ]
              try simp only [List.set_cons_zero]
              refine wpAnyH_ready (rs := [10]) (by kernel_rfl) (by simp) ?_
              refine AllReadyH.cons rfl (fun K1 hK => ?_) AllReadyH.nil
              go_simp
              try go_wp2_with fail
              refine hK.out _ _ ?_ (fun hHeld => ?_)
              · first | assumption | exact ko4 ⟨T0.out.cells, only_drew _ _ 1⟩ | exact ko4o (only_of_below hbC _) (by assumption) | exact ko4o (only_alloc _ _ _) (by assumption) | exact ko4o (only_of_grown hg5 (fun y e => .inl e)) (by assumption) | exact ko4o (only_set (.inr rfl) _) (by assumption)
              clear hK K1
              try simp only [List.getElem_toArray]
              try simp only [List.getElem_cons_succ]
              try simp only [List.getElem_cons_zero]
              try simp only [Act.put]
              try simp only [List.setIfInBounds_toArray]
              try simp only [List.set_cons_succ]
              try simp only [List.set_cons_zero]
              refine wpAnyH_ready (rs := [11]) (by kernel_rfl) (by simp) ?_
              refine AllReadyH.cons rfl (fun K1 hK => ?_) AllReadyH.nil
              go_simp
              try go_wp2_with fail
              refine hK.out _ _ ?_ (fun hHeld => ?_)
              · first | assumption | exact ko4 ⟨T0.out.cells, only_drew _ _ 1⟩ | exact ko4o (only_of_below hbC _) (by assumption) | exact ko4o (only_alloc _ _ _) (by assumption) | exact ko4o (only_of_grown hg5 (fun y e => .inl e)) (by assumption) | exact ko4o (only_set (.inr rfl) _) (by assumption)
              clear hK K1
              try simp only [List.getElem_toArray]
              try simp only [List.getElem_cons_succ]
              try simp only [List.getElem_cons_zero]
              try simp only [Act.put]
              try simp only [List.setIfInBounds_toArray]
              try simp only [List.set_cons_succ]
              try simp only [List.set_cons_zero]
              refine wpAnyH_done (by kernel_rfl) ?_ _
              refine NoPanic.normal ?_
              have HLX := hid (HFIN.out _ _ hbC _ _ _ _ hO5 hg5 ha5)
              clear hO5 hg5 ha5 hc5 hf5 hbC hq1 hq2 HFIN HFK HCK HOW HLE T0 hgk hpb hnbx HL2 z2 zf n1c n1f pp2 x0 x1 x2 hHeld
              -- the kid's nodes
              have HSUBX := hid (HSUB.out.to HLX.out.only (fun y hy _ e => HSV.out y hy.1 e))
              obtain ⟨gk9, ofk9, hak, _, _, hkid⟩ := HSUBX.out.kids (by omega)
              cases hak
              obtain ⟨l9, ap9, np9, cp9, ak9, nk9, ck9, x0, x1, x2, hs1⟩ := hkid (k' + 1) hlt
              have HS1 := hid hs1
              have pp2 := HLX.out.par.cell (j := 2) rfl
              have HLEN : Hid ((ns ++ ⟨[], [], []⟩ :: layL (ns.length + 1) (ks.take (k' + 1))).length = ns.length + 1 + szL (ks.take (k' + 1))) := by show _ = _; simp [layL_length]; omega
              have HEQ : Hid ((ns ++ ⟨[], [], []⟩ :: layL (ns.length + 1) (ks.take (k' + 1))) ++ lay (ns ++ ⟨[], [], []⟩ :: layL (ns.length + 1) (ks.take (k' + 1))).length (tAt ks (k' + 1)) = ns ++ ⟨[], [], []⟩ :: layL (ns.length + 1) (ks.take (k' + 1 + 1))) := by
                show _ = _
                rw [HLEN.out, layL_take ks (k' + 1) (ns.length + 1) hks]
                simp
              have HBND : Hid ((ns ++ ⟨[], [], []⟩ :: layL (ns.length + 1) (ks.take (k' + 1))).length + (tAt ks (k' + 1)).size ≤ 1048576) := by
                show _ ≤ _
                have h1 := szL_take_le ks (k' + 1 + 1)
                rw [szL_take ks (k' + 1) hks] at h1
                have h2 := HSZK.out
                rw [HLEN.out]
                omega
              have HVS : Hid (∀ y, (S y ∧ y < w.heap.size) → (Value.slice a' n' c').ownBlock ≠ some y) := by
                intro y hy e
                rcases (HLX.out.vb y e).1 with h | h
                · exact HSV.out y hy.1 h
                · omega
              simp only [T.ks] at HS1
              clear hkid hs1 HSUBX
              go_wp2_with fail
              refine (HIH.out (tAt ks (k' + 1)) (tAt_mem hks) (fun y => S y ∧ y < w.heap.size) l9 ap9 ak9 np9 cp9 nk9 ck9 _ Fk a' n' c' (ns ++ ⟨[], [], []⟩ :: layL (ns.length + 1) (ks.take (k' + 1))) false HS1.out HVS.out HLX.out.nodes HBND.out (HBR.out.2.2.2 _ (tAt_mem hks))).mono ?_
              rintro e w9 ⟨v9, rfl, hN9, ho9, hv9⟩
              rw [HEQ.out] at hN9
              obtain ⟨aZ, nZ, cZ, e9, _⟩ := hN9.shape
              subst e9
              have HL9 := hid (HLX.out.sub hN9 ho9 hv9)
              clear hN9 ho9 hv9 x0 x1 x2 pp2 HLX HS1
              go_wp2
              go_roundw
              case rel => exact ⟨k' + 1 + 1, aZ, nZ, cZ, _, _, _, by omega, by go_num, rfl, HL9.out⟩
              case measure => simp [intOf]; omega
      · have hk' : k = nk := by omega
        have HTK : Hid (ks.take k = ks) := by show _ = _; rw [hk', HNK.out, List.take_length]
        rw [HTK.out] at HL
        obtain ⟨g', ha', HNn⟩ := HL.out.nodes.rowAt (by simp; omega)
        subst ha'
        obtain ⟨akx, ckx, hkx⟩ := own_shape HL.out.rx
        generalize (ks.tail.map T.least).length = nkx at hkx
        subst hkx
        obtain ⟨aki, cki, hki⟩ := own_shape HL.out.ri
        generalize (places (ns.length + 1) ks).length = nki at hki
        subst hki
        have n0 := HL.out.nod.cell (j := 0) rfl
        have n1c := HL.out.nod.cell (j := 1) rfl
        have n2c := HL.out.nod.cell (j := 2) rfl
        obtain ⟨⟨x0, x1, x2, m0, m1, m2⟩, mf⟩ := HL.out.nodes.cells ns.length (by simp)
        rw [← HNV.out] at m0 m1 m2
        have mf0 := mf (nv * 3)
        have mf1 := mf (nv * 3 + 1)
        have mf2 := mf (nv * 3 + 2)
        have hltn : (nv : Int) < (n' : Int) := by
          have h1 := HNn.out
          simp at h1
          have h2 := HNV.out
          omega
        have HFIN : Hid (NO (((wr.setCell ⟨g', nv * 3, none⟩ (.slice none 0 0)).setCell ⟨g', nv * 3 + 1, none⟩ (.slice akx nkx ckx)).setCell ⟨g', nv * 3 + 2, none⟩ (.slice aki nki cki)) (fun y => F y ∨ (w.heap.size ≤ y ∧ y < (((wr.setCell ⟨g', nv * 3, none⟩ (.slice none 0 0)).setCell ⟨g', nv * 3 + 1, none⟩ (.slice akx nkx ckx)).setCell ⟨g', nv * 3 + 2, none⟩ (.slice aki nki cki)).heap.size ∧ (Value.slice (some ⟨g', 0, none⟩) n' c').ownBlock ≠ some y)) (.slice (some ⟨g', 0, none⟩) n' c') (ns ++ ⟨[], ks.tail.map T.least, places (ns.length + 1) ks⟩ :: layL (ns.length + 1) ks)) := by
          have hz : (((wr.setCell ⟨g', nv * 3, none⟩ (.slice none 0 0)).setCell ⟨g', nv * 3 + 1, none⟩ (.slice akx nkx ckx)).setCell ⟨g', nv * 3 + 2, none⟩ (.slice aki nki cki)).heap.size = wr.heap.size := by simp [World.setCell]
          rw [hz]
          have hG : ∀ y, (fun y => F y ∨ (w.heap.size ≤ y ∧ y < wr.heap.size ∧ (Value.slice (some ⟨g', 0, none⟩) n' c').ownBlock ≠ some y)) y → y < wr.heap.size ∧ (Value.slice (some ⟨g', 0, none⟩) n' c').ownBlock ≠ some y := by
            rintro y (hy | hy)
            · obtain ⟨V, _, _, _, n4, _⟩ := HL.out.nodes
              exact n4 y (HL.out.ff y hy)
            · exact hy.2
          have hbl : ∀ y, bl (.slice none 0 0, .slice akx nkx ckx, .slice aki nki cki) y → (w.heap.size ≤ y ∧ y < wr.heap.size ∧ (Value.slice (some ⟨g', 0, none⟩) n' c').ownBlock ≠ some y) := by
            rintro y (e | e | e)
            · cases e
            · exact ⟨by have := (HL.out.xb y e).1; omega, (World.ownsRow.lt HL.out.rx y e).2, fun d => (HL.out.vb y d).2.2.1 e⟩
            · exact ⟨by have := (HL.out.ib y e).1; omega, (World.ownsRow.lt HL.out.ri y e).2, fun d => (HL.out.vb y d).2.2.2 e⟩
          have hown : OwN wr (.slice none 0 0, .slice akx nkx ckx, .slice aki nki cki) ⟨[], ks.tail.map T.least, places (ns.length + 1) ks⟩ := ⟨World.ownsRow_nil _ _ _ _, HL.out.rx, HL.out.ri⟩
          have hp : N1K wr (fun y => F y ∨ (w.heap.size ≤ y ∧ y < wr.heap.size ∧ (Value.slice (some ⟨g', 0, none⟩) n' c').ownBlock ≠ some y)) (.slice none 0 0, .slice akx nkx ckx, .slice aki nki cki) ⟨[], ks.tail.map T.least, places (ns.length + 1) ks⟩ :=
            ⟨hown.n1 (fun y hy => .inr (hbl y hy)), hown, fun y => ⟨fun e => by (cases e), fun e => (HL.out.xb y e).2.2⟩, fun y hy => .inr (hbl y hy)⟩
          have := NO.put (ms := ns) (l := layL (ns.length + 1) ks) (z := ⟨[], [], []⟩) rfl HL.out.nodes (fun y hy => ?_) hG _ hp (fun y hy hf => ?_)
          · rw [← HNV.out] at this
            rw [← HNV.out]
            exact this
          · obtain ⟨V, _, _, _, n4, _⟩ := HL.out.nodes
            rcases (HL.out.fk y hy).1 with h | h
            · exact .inl h
            · exact .inr ⟨by omega, n4 y hy⟩
          · rcases hy with e | e | e
            · cases e
            · exact (HL.out.fk y hf).2.2.1 e
            · exact (HL.out.fk y hf).2.2.2 e
        have HOF : Hid (Only (fun y => (Value.slice av nv cv).ownBlock = some y) w (((wr.setCell ⟨g', nv * 3, none⟩ (.slice none 0 0)).setCell ⟨g', nv * 3 + 1, none⟩ (.slice akx nkx ckx)).setCell ⟨g', nv * 3 + 2, none⟩ (.slice aki nki cki))) := by
          refine HL.out.only.then (((only_set (R := fun y => y = g') rfl _).trans (only_set (R := fun y => y = g') rfl _)).trans (only_set (R := fun y => y = g') rfl _)) (fun y hy e => ?_)
          subst e
          rcases (HL.out.vb y rfl).1 with h | h
          · exact h
          · omega
        have HVB : Hid (∀ y, (Value.slice (some ⟨g', 0, none⟩) n' c').ownBlock = some y → (Value.slice av nv cv).ownBlock = some y ∨ w.heap.size ≤ y) := fun y hy => (HL.out.vb y hy).1.imp id (fun h => by omega)
        clear hk' HL mf HNn
        go_wp2
        go_ret
        refine ⟨_, rfl, ?_, HOF.out, HVB.out⟩
        rw [HLY.out]
        exact HFIN.out
end Go.Proofs.YtcpdedpgjaimkaaDoor
/-
  l03SameNode of the specification: it tells whether two nodes hold the same.
-/
namespace Go.Proofs.YtcpdedpgjaimkaaDoor
open Go.RowKit
theorem neq_pair (a b c d : ByteArray) (w : World) : (binOp .neq 91 (.agg #[.string a, .string b]) (.agg #[.string c, .string d])).run Tryd.prog w = .ok (.bool (!decide ((a, b) = (c, d)))) w := by
  have u9 := Tryd.underlying9
  have hS : Tryd.prog.underlying 91 = some (.struct (Tryd.prog.fieldsOf 91)) := by kernel_rfl
  have hp : Tryd.prog.stoodInHeld 91 = false := by kernel_rfl
  rw [run_neq_struct, show (10000 : Nat) = 9999 + 1 from rfl, run_equalIn_agg w 9999 91 _ _ hS hp]
  simp only [Program.fieldsOf, Tryd.underlying91]
  by_cases h1 : a = c
  · subst h1
    by_cases h2 : b = d
    · subst h2
      rw [decide_eq_true rfl]
      go_simp
    · have t2 := str_beq h2
      rw [decide_eq_false (by simp [h2])]
      clear h2
      go_simp
  · have t1 := str_beq h1
    rw [decide_eq_false (by simp [h1])]
    clear h1
    go_simp
set_option maxHeartbeats 8000000 in
theorem sameNode_any (S S' : Nat → Prop) (ap ax ai ap' ax' ai' : Option Addr) (np cp nx cx ni ci np' cp' nx' cx' ni' ci' : Nat) (x y : NB) (w : World)
    (hP : Pr w S (.slice ap np cp) x.ps) (hS : Sr w S (.slice ax nx cx) x.keys) (hI : Ir w S (.slice ai ni ci) x.kids) (hP' : Pr w S' (.slice ap' np' cp') y.ps) (hS' : Sr w S' (.slice ax' nx' cx') y.keys) (hI' : Ir w S' (.slice ai' ni' ci') y.kids) :
    Calls Tryd.prog 67 #[.agg #[.slice ap np cp, .slice ax nx cx, .slice ai ni ci], .agg #[.slice ap' np' cp', .slice ax' nx' cx', .slice ai' ni' ci']] w fun e w' => e = .returned (.bool (decide (x = y))) ∧ Below w.heap.size w w' := by
  have HP := hid hP
  have HS := hid hS
  have HI := hid hI
  have HP' := hid hP'
  have HS' := hid hS'
  have HI' := hid hI'
  have lp := hid (Rw.len hP).1
  have ls := hid (Rw.len hS).1
  have li := hid (Rw.len hI).1
  have lp' := hid (Rw.len hP').1
  have ls' := hid (Rw.len hS').1
  have li' := hid (Rw.len hI').1
  have b1 := (Rw.len hP).2
  have b2 := (Rw.len hS).2
  have b3 := (Rw.len hI).2
  have b1' := (Rw.len hP').2
  have b2' := (Rw.len hS').2
  have b3' := (Rw.len hI').2
  clear hP hS hI hP' hS' hI'
  have HB0 : Hid (Below w.heap.size w ((w.alloc (.cells #[.slice ap np cp, .slice ax nx cx, .slice ai ni ci] 112)).alloc (.cells #[.slice ap' np' cp', .slice ax' nx' cx', .slice ai' ni' ci'] 112))) := below_new (below_new (Below.refl _ _))
  have KA : Hid (Bk ((w.alloc (.cells #[.slice ap np cp, .slice ax nx cx, .slice ai ni ci] 112)).alloc (.cells #[.slice ap' np' cp', .slice ax' nx' cx', .slice ai' ni' ci'] 112)) w.heap.size 112 [.slice ap np cp, .slice ax nx cx, .slice ai ni ci]) := (Bk.new w 112 [.slice ap np cp, .slice ax nx cx, .slice ai ni ci]).alloc _
  have KB : Hid (Bk ((w.alloc (.cells #[.slice ap np cp, .slice ax nx cx, .slice ai ni ci] 112)).alloc (.cells #[.slice ap' np' cp', .slice ax' nx' cx', .slice ai' ni' ci'] 112)) (w.heap.size + 1) 112 [.slice ap' np' cp', .slice ax' nx' cx', .slice ai' ni' ci']) := by
    have := Bk.new (w.alloc (.cells #[.slice ap np cp, .slice ax nx cx, .slice ai ni ci] 112)) 112 [.slice ap' np' cp', .slice ax' nx' cx', .slice ai' ni' ci']
    show Bk _ _ _ _
    simpa using this
  by_cases h1 : np = np'
  · have e1 : ((np : Int) != (np' : Int)) = false := by simp [h1]
    by_cases h2 : nx = nx'
    · have e2 : ((nx : Int) != (nx' : Int)) = false := by simp [h2]
      by_cases h3 : ni = ni'
      · have e3 : ((ni : Int) != (ni' : Int)) = false := by simp [h3]
        subst h1 h2 h3
        have HXY : Hid (x.ps = y.ps → x.keys = y.keys → x.kids = y.kids → decide (x = y) = true) := by
          intro q1 q2 q3
          rw [decide_eq_true_eq]
          cases x; cases y; simp_all
        have HNE : Hid (∀ (P : Prop), (x = y → P) → ¬ P → decide (x = y) = false) := fun P q1 q2 => decide_eq_false (fun e => q2 (q1 e))
        go_enter Tryd.func67, Tryd.ntmps67
        go_wp2_with fail
        generalize (w.alloc (.cells #[.slice ap np cp, .slice ax nx cx, .slice ai ni ci] 112)).alloc (.cells #[.slice ap' np cp', .slice ax' nx cx', .slice ai' ni ci'] 112) = u at *
        have a0 := KA.out.cell (j := 0) rfl
        have a1 := KA.out.cell (j := 1) rfl
        have a2 := KA.out.cell (j := 2) rfl
        have d0 := KB.out.cell (j := 0) rfl
        have d1 := KB.out.cell (j := 1) rfl
        have d2 := KB.out.cell (j := 2) rfl
        have HPu := hid (HP.out.below HB0.out)
        have HPu' := hid (HP'.out.below HB0.out)
        have HSu := hid (HS.out.below HB0.out)
        have HSu' := hid (HS'.out.below HB0.out)
        have HIu := hid (HI.out.below HB0.out)
        have HIu' := hid (HI'.out.below HB0.out)
        clear KA KB HP HP' HS HS' HI HI'
        go_loopw [36] (fun i wr => ∃ k q : Nat, k ≤ np ∧ i = .int .i64 k ∧ wr = u.drewN q ∧ Hid (x.ps.take k = y.ps.take k)) (fun i _ => np - (intOf i).toNat)
        case atStart => exact ⟨0, 0, Nat.zero_le _, rfl, rfl, rfl⟩
        case round =>
          obtain ⟨k, q, hk, rfl, rfl, HT⟩ := hrel
          by_cases hlt : k < np
          · have hlt' : (k : Int) < (np : Int) := by omega
            obtain ⟨g, off, hap, _, _, hc⟩ := HPu.out.at (by omega)
            obtain ⟨g', off', hap', _, _, hc'⟩ := HPu'.out.at (by omega)
            subst hap hap'
            have m0 := (hc k hlt).1
            have m1 := (hc k hlt).2
            have m0' := (hc' k hlt).1
            have m1' := (hc' k hlt).2
            have HSS : Hid (pAtB x.ps k = pAtB y.ps k → x.ps.take (k + 1) = y.ps.take (k + 1)) := by
              intro e
              have hl : k < x.ps.length := by rw [← lp.out]; exact hlt
              have hl' : k < y.ps.length := by rw [← lp'.out]; exact hlt
              rw [List.take_succ_eq_append_getElem hl, List.take_succ_eq_append_getElem hl', HT.out]
              simp [pAtB, hl, hl'] at e
              rw [e]
            have HFF : Hid (pAtB x.ps k ≠ pAtB y.ps k → decide (x = y) = false) := fun e => HNE.out _ (fun q => by rw [q]) e
            clear hc hc'
            generalize pAtB x.ps k = cx1 at *
            generalize pAtB y.ps k = cx2 at *
            obtain ⟨k1, v1⟩ := cx1
            obtain ⟨k2, v2⟩ := cx2
            have hnq := neq_pair k1 v1 k2 v2
            by_cases he : (k1, v1) = (k2, v2)
            · have HS1 := hid (HSS.out he)
              rw [decide_eq_true he] at hnq
              clear he HSS HFF
              go_wp2_with fail
              go_quiet (fail)
              go_wp2
              go_roundw
              case rel => exact ⟨k + 1, q + nq, by omega, by go_num, rfl, HS1.out⟩
              case measure => simp [intOf]; omega
            · have HF1 := hid (HFF.out he)
              rw [decide_eq_false he] at hnq
              clear he HSS HFF
              go_wp2_with fail
              go_quiet (fail)
              go_wp2
              go_ret
              exact ⟨by rw [HF1.out]; rfl, Below.drewN' (Below.drewN' HB0.out _) _⟩
          · have HQ1 : Hid (x.ps = y.ps) := by
              show _ = _
              have e := HT.out
              rwa [List.take_of_length_le (by rw [← lp.out]; omega), List.take_of_length_le (by rw [← lp'.out]; omega)] at e
            clear HT
            go_wp2_with fail
            go_loopw [54] (fun i wr => ∃ k q : Nat, k ≤ nx ∧ i = .int .i64 k ∧ wr = u.drewN q ∧ Hid (x.keys.take k = y.keys.take k)) (fun i _ => nx - (intOf i).toNat)
            case atStart => exact ⟨0, q, Nat.zero_le _, rfl, rfl, rfl⟩
            case round =>
              clear hk hlt
              obtain ⟨k, q, hk, rfl, rfl, HT⟩ := hrel
              by_cases hlt : k < nx
              · have hlt' : (k : Int) < (nx : Int) := by omega
                obtain ⟨g, off, hap, _, _, hc⟩ := HSu.out.at (by omega)
                obtain ⟨g', off', hap', _, _, hc'⟩ := HSu'.out.at (by omega)
                subst hap hap'
                have m0 := hc k hlt
                have m0' := hc' k hlt
                have HSS : Hid (sAt x.keys k = sAt y.keys k → x.keys.take (k + 1) = y.keys.take (k + 1)) := by
                  intro e
                  have hl : k < x.keys.length := by rw [← ls.out]; exact hlt
                  have hl' : k < y.keys.length := by rw [← ls'.out]; exact hlt
                  rw [List.take_succ_eq_append_getElem hl, List.take_succ_eq_append_getElem hl', HT.out]
                  simp [sAt, hl, hl'] at e
                  rw [e]
                have HFF : Hid (sAt x.keys k ≠ sAt y.keys k → decide (x = y) = false) := fun e => HNE.out _ (fun q => by rw [q]) e
                clear hc hc'
                generalize sAt x.keys k = k1 at *
                generalize sAt y.keys k = k2 at *
                by_cases he : k1 = k2
                · have HS1 := hid (HSS.out he)
                  subst he
                  skip
                  clear HSS HFF
                  go_wp2_with fail
                  go_quiet (fail)
                  go_wp2
                  go_roundw
                  case rel => exact ⟨k + 1, q + nq, by omega, by go_num, rfl, HS1.out⟩
                  case measure => simp [intOf]; omega
                · have HF1 := hid (HFF.out he)
                  have t := str_beq he
                  clear he HSS HFF
                  go_wp2_with fail
                  go_quiet (fail)
                  go_wp2
                  go_ret
                  exact ⟨by rw [HF1.out]; rfl, Below.drewN' (Below.drewN' HB0.out _) _⟩
              · have HQ2 : Hid (x.keys = y.keys) := by
                  show _ = _
                  have e := HT.out
                  rwa [List.take_of_length_le (by rw [← ls.out]; omega), List.take_of_length_le (by rw [← ls'.out]; omega)] at e
                clear HT
                go_wp2_with fail
                go_loopw [72] (fun i wr => ∃ k q : Nat, k ≤ ni ∧ i = .int .i64 k ∧ wr = u.drewN q ∧ Hid (x.kids.take k = y.kids.take k)) (fun i _ => ni - (intOf i).toNat)
                case atStart => exact ⟨0, q, Nat.zero_le _, rfl, rfl, rfl⟩
                case round =>
                  clear hk hlt
                  obtain ⟨k, q, hk, rfl, rfl, HT⟩ := hrel
                  by_cases hlt : k < ni
                  · have hlt' : (k : Int) < (ni : Int) := by omega
                    obtain ⟨g, off, hap, _, _, hc⟩ := HIu.out.at (by omega)
                    obtain ⟨g', off', hap', _, _, hc'⟩ := HIu'.out.at (by omega)
                    subst hap hap'
                    have m0 := hc k hlt
                    have m0' := hc' k hlt
                    have HSS : Hid (iAt x.kids k = iAt y.kids k → x.kids.take (k + 1) = y.kids.take (k + 1)) := by
                      intro e
                      have hl : k < x.kids.length := by rw [← li.out]; exact hlt
                      have hl' : k < y.kids.length := by rw [← li'.out]; exact hlt
                      rw [List.take_succ_eq_append_getElem hl, List.take_succ_eq_append_getElem hl', HT.out]
                      simp [iAt, hl, hl'] at e
                      rw [e]
                    have HFF : Hid (iAt x.kids k ≠ iAt y.kids k → decide (x = y) = false) := fun e => HNE.out _ (fun q => by rw [q]) e
                    clear hc hc'
                    generalize iAt x.kids k = k1 at *
                    generalize iAt y.kids k = k2 at *
                    by_cases he : k1 = k2
                    · have HS1 := hid (HSS.out he)
                      subst he
                      have t : (k1 != k1) = false := by simp
                      clear HSS HFF
                      go_wp2_with fail
                      go_quiet (fail)
                      go_wp2
                      go_roundw
                      case rel => exact ⟨k + 1, q + nq, by omega, by go_num, rfl, HS1.out⟩
                      case measure => simp [intOf]; omega
                    · have HF1 := hid (HFF.out he)
                      have t : (k1 != k2) = true := by simp [he]
                      clear he HSS HFF
                      go_wp2_with fail
                      go_quiet (fail)
                      go_wp2
                      go_ret
                      exact ⟨by rw [HF1.out]; rfl, Below.drewN' (Below.drewN' HB0.out _) _⟩
                  · have HQ3 : Hid (x.kids = y.kids) := by
                      show _ = _
                      have e := HT.out
                      rwa [List.take_of_length_le (by rw [← li.out]; omega), List.take_of_length_le (by rw [← li'.out]; omega)] at e
                    clear HT
                    have HF := hid (HXY.out HQ1.out HQ2.out HQ3.out)
                    go_wp2
                    go_ret
                    exact ⟨by rw [HF.out]; rfl, Below.drewN' HB0.out _⟩
      · have HF : Hid (decide (x = y) = false) := by
          show _ = _
          rw [decide_eq_false_iff_not]
          rintro rfl
          exact h3 (by rw [li.out, li'.out])
        have e3 : ((ni : Int) != (ni' : Int)) = true := by simp; omega
        clear h3
        go_enter Tryd.func67, Tryd.ntmps67
        go_wp2
        go_ret
        exact ⟨by rw [HF.out]; rfl, below_new (below_new (Below.refl _ _))⟩
    · have HF : Hid (decide (x = y) = false) := by
        show _ = _
        rw [decide_eq_false_iff_not]
        rintro rfl
        exact h2 (by rw [ls.out, ls'.out])
      have e2 : ((nx : Int) != (nx' : Int)) = true := by simp; omega
      clear h2
      go_enter Tryd.func67, Tryd.ntmps67
      go_wp2
      go_ret
      exact ⟨by rw [HF.out]; rfl, below_new (below_new (Below.refl _ _))⟩
  · have HF : Hid (decide (x = y) = false) := by
      show _ = _
      rw [decide_eq_false_iff_not]
      rintro rfl
      exact h1 (by rw [lp.out, lp'.out])
    have e1 : ((np : Int) != (np' : Int)) = true := by simp; omega
    clear h1
    go_enter Tryd.func67, Tryd.ntmps67
    go_wp2
    go_ret
    exact ⟨by rw [HF.out]; rfl, below_new (below_new (Below.refl _ _))⟩
end Go.Proofs.YtcpdedpgjaimkaaDoor
/-
  TreeOk of the specification.
-/
namespace Go.Proofs.YtcpdedpgjaimkaaDoor
open Go.RowKit
theorem rdSL_info (f : Nat) (rd : Int → Option (T × Nat)) (hrd : ∀ a t n, rd a = some (t, n) → 0 ≤ a ∧ (n : Int) = a + t.size ∧ t.ht ≤ f) : ∀ (kids : List Int) (nx : Nat) (ts : List T) (n : Nat), rdSL rd kids nx = some (ts, n) → n = nx + szL ts ∧ htL ts ≤ f
  | [], nx, ts, n, h => by
    simp only [rdSL, Option.some.injEq, Prod.mk.injEq] at h
    obtain ⟨rfl, rfl⟩ := h
    simp [szL, htL]
  | k :: kids, nx, ts, n, h => by
    simp only [rdSL] at h
    split at h
    · cases h
    · rename_i he
      cases hr : rd k with
      | none => simp [hr] at h
      | some x =>
        obtain ⟨t, n1⟩ := x
        simp only [hr] at h
        cases hs : rdSL rd kids n1 with
        | none => simp [hs] at h
        | some y =>
          obtain ⟨ts', n2⟩ := y
          simp only [hs, Option.some.injEq, Prod.mk.injEq] at h
          obtain ⟨rfl, rfl⟩ := h
          have h1 := hrd k t n1 hr
          have h2 := rdSL_info f rd hrd kids n1 ts' n2 hs
          have he' : k = (nx : Int) := by
            by_cases q : k = (nx : Int)
            · exact q
            · exact absurd q he
          simp only [szL, htL]
          omega
theorem rdS_info (ns : List NB) : ∀ (f : Nat) (a : Int) (t : T) (n : Nat), rdS ns f a = some (t, n) → 0 ≤ a ∧ (n : Int) = a + t.size ∧ t.ht ≤ f
  | 0, a, t, n, h => by simp [rdS] at h
  | f + 1, a, t, n, h => by
    rw [rdS] at h
    split at h
    · cases h
    · rename_i hc
      cases hs : rdSL (rdS ns f) (nAt ns a.toNat).kids (a.toNat + 1) with
      | none => simp [hs] at h
      | some x =>
        obtain ⟨ts, n1⟩ := x
        simp only [hs, Option.some.injEq, Prod.mk.injEq] at h
        obtain ⟨rfl, rfl⟩ := h
        have := rdSL_info f (rdS ns f) (rdS_info ns f) _ _ _ _ hs
        simp only [T.size, T.ht]
        omega
theorem kc7 {u v : World} {a0 a1 a2 a3 a4 a5 a6 : Addr} {x0 x1 x2 x3 x4 x5 x6 : Value} (h : KC u v [(a0, x0), (a1, x1), (a2, x2), (a3, x3), (a4, x4), (a5, x5), (a6, x6)]) : v.cell? a0 = some x0 ∧ v.cell? a1 = some x1 ∧ v.cell? a2 = some x2 ∧ v.cell? a3 = some x3 ∧ v.cell? a4 = some x4 ∧ v.cell? a5 = some x5 ∧ v.cell? a6 = some x6 ∧ KC u v [(a0, x0), (a1, x1), (a2, x2), (a3, x3), (a4, x4), (a5, x5), (a6, x6)] := ⟨h.at (by simp), h.at (by simp), h.at (by simp), h.at (by simp), h.at (by simp), h.at (by simp), h.at (by simp), h⟩
theorem kc7c {u v v' : World} {a0 a1 a2 a3 a4 a5 a6 : Addr} {x0 x1 x2 x3 x4 x5 x6 : Value} (k : Below v.heap.size v v') (h : v.cell? a0 = some x0 ∧ v.cell? a1 = some x1 ∧ v.cell? a2 = some x2 ∧ v.cell? a3 = some x3 ∧ v.cell? a4 = some x4 ∧ v.cell? a5 = some x5 ∧ v.cell? a6 = some x6 ∧ KC u v [(a0, x0), (a1, x1), (a2, x2), (a3, x3), (a4, x4), (a5, x5), (a6, x6)]) : v'.cell? a0 = some x0 ∧ v'.cell? a1 = some x1 ∧ v'.cell? a2 = some x2 ∧ v'.cell? a3 = some x3 ∧ v'.cell? a4 = some x4 ∧ v'.cell? a5 = some x5 ∧ v'.cell? a6 = some x6 ∧ KC u v' [(a0, x0), (a1, x1), (a2, x2), (a3, x3), (a4, x4), (a5, x5), (a6, x6)] := kc7 (KC.call h.2.2.2.2.2.2.2 k)
set_option maxHeartbeats 8000000 in
theorem specTreeOk_any (ns : List NB) (hlen : ns.length ≤ 1048576) (hsm : smallN ns) (S : Nat → Prop) (an : Option Addr) (nn cn : Nat) (w : World) (hN : Nr w S (.slice an nn cn) ns) :
    Calls Tryd.prog 56 #[.agg #[.slice an nn cn]] w fun e w' => e = .returned (.bool (spOk ns)) ∧ Below w.heap.size w w' := by
  have hnn := hid hN.len.1
  have hnn2 := hN.len.2.1
  have hnn3 := hN.len.2.2
  have HN := hid hN
  clear hN
  have HB0 := hid (below_new (o := .cells #[.slice an nn cn] 88) (w := w) (Below.refl _ _))
  have KT := hid (Bk.new w 88 [.slice an nn cn])
  by_cases h0 : nn = 0
  · have HR : Hid (spOk ns = true) := by show _ = _; rw [spOk, if_pos]; rw [← hnn.out]; exact h0
    clear HN hnn
    subst h0
    go_enter Tryd.func56, Tryd.ntmps56
    go_wp2
    go_ret
    exact ⟨by rw [HR.out]; rfl, HB0.out⟩
  · have e1 : ((nn : Int) == 0) = false := by simp; omega
    by_cases h4 : 400 < nn
    · have e2 : (400 : Int) < (nn : Int) := by omega
      have HR : Hid (spOk ns = false) := by show _ = _; rw [spOk, if_neg, if_pos] <;> rw [← hnn.out] <;> assumption
      clear h0 h4
      go_enter Tryd.func56, Tryd.ntmps56
      go_wp2
      go_ret
      exact ⟨by rw [HR.out]; rfl, HB0.out⟩
    · have e2 : ¬ (400 : Int) < (nn : Int) := by omega
      have HRS : Hid (spOk ns = match rdS ns 13 0 with
          | none => false
          | some (t, n) => decide (n = ns.length) && t.full true && decide (0 ≤ t.dp) && pOk t.all && decide (lay 0 t = ns)) := by
        show _ = _
        rw [spOk, if_neg (by rw [← hnn.out]; exact h0), if_neg (by rw [← hnn.out]; exact h4)]
        try (cases rdS ns 13 0 <;> rfl)
      have HRT : Hid (rootS ns = match rdS ns 13 0 with
          | none => none
          | some (t, n) => if n = ns.length then some t else none) := by
        show _ = _
        rw [rootS, if_neg (by rw [← hnn.out]; exact h0)]
        try (cases rdS ns 13 0 <;> rfl)
      have hnl : nn ≤ 400 := by omega
      clear h0 h4
      go_enter Tryd.func56, Tryd.ntmps56
      go_wp2_with fail
      refine (specRoot_any ns hlen hsm S an nn cn _ (HN.out.below HB0.out)).mono ?_
      generalize w.alloc (.cells #[.slice an nn cn] 88) = U at *
      rintro e w1 ⟨hpost, hb1⟩
      have HB1 := hid (HB0.out.trans (hb1.mono HB0.out.size))
      have KT1 := hid (KT.out.below hb1)
      cases hr : rootS ns with
      | none =>
        rw [hr] at hpost
        obtain ⟨lf, ap, np, cp, ak, nk, ck, he⟩ := hpost
        subst he
        have HR : Hid (spOk ns = false) := by
          show _ = _
          rw [HRS.out]
          have h1 := HRT.out
          rw [hr] at h1
          cases hx : rdS ns 13 0 with
          | none => rfl
          | some x =>
            obtain ⟨t, n⟩ := x
            rw [hx] at h1
            simp only at h1 ⊢
            split at h1
            · cases h1
            · rename_i hn
              simp [hn]
        clear hb1 hr
        go_wp2
        go_ret
        exact ⟨by rw [HR.out]; rfl, HB1.out.alloc HB1.out.size _⟩
      | some t =>
        rw [hr] at hpost
        obtain ⟨lf, ap, np, cp, ak, nk, ck, he, hsub⟩ := hpost
        subst he
        have HRD : Hid (rdS ns 13 0 = some (t, ns.length)) := by
          show _ = _
          have h1 := HRT.out
          rw [hr] at h1
          cases hx : rdS ns 13 0 with
          | none => rw [hx] at h1; cases h1
          | some x =>
            obtain ⟨t', n⟩ := x
            rw [hx] at h1
            simp only at h1
            split at h1
            · rename_i hn; cases h1; rw [hn]
            · cases h1
        have HSP : Hid (spOk ns = (t.full true && decide (0 ≤ t.dp) && pOk t.all && decide (lay 0 t = ns))) := by
          show _ = _
          rw [HRS.out, HRD.out]
          simp
        have HTI := hid (rdS_info ns 13 0 t ns.length HRD.out)
        have HB2 := hid (HB1.out.alloc HB1.out.size (.cells #[.bool lf, .slice ap np cp, .slice ak nk ck] 98))
        have KT2 := hid (KT1.out.alloc (.cells #[.bool lf, .slice ap np cp, .slice ak nk ck] 98))
        have KS2 := hid (Bk.new w1 98 [.bool lf, .slice ap np cp, .slice ak nk ck])
        have HS2 : Hid (Sub (w1.alloc (.cells #[.bool lf, .slice ap np cp, .slice ak nk ck] 98)) (fun y => U.heap.size ≤ y ∧ y < w1.heap.size) lf (.slice ap np cp) (.slice ak nk ck) t) := hsub.kept (below_new (Below.refl _ _))
        clear hb1 hr hsub KT KT1 HB0 HB1 HRS HRT
        go_wp2_with fail
        refine (specFull_any t _ true lf ap ak np cp nk ck _ HS2.out).mono ?_
        generalize hgw : w1.heap.size = sb at *
        clear hgw
        generalize w1.alloc (.cells #[.bool lf, .slice ap np cp, .slice ak nk ck] 98) = w2 at *
        rintro e w3 ⟨rfl, hb3⟩
        have HB3 := hid (HB2.out.trans (hb3.mono HB2.out.size))
        have KT3 := hid (KT2.out.below hb3)
        have KS3 := hid (KS2.out.below hb3)
        have HS3 := hid (HS2.out.kept hb3)
        clear hb3 HB2 KT2 KS2 HS2
        cases hfu : t.full true
        · have HR : Hid (spOk ns = false) := by show _ = _; rw [HSP.out, hfu]; rfl
          clear hfu
          go_wp2
          go_ret
          exact ⟨by rw [HR.out]; rfl, HB3.out⟩
        · have HFU := hid hfu
          clear hfu
          have s0 := KS3.out.cell (j := 0) rfl
          have s1 := KS3.out.cell (j := 1) rfl
          have s2 := KS3.out.cell (j := 2) rfl
          go_wp2_with fail
          refine (specDeep_any t _ lf ap ak np cp nk ck w3 HS3.out (by have := HTI.out.2.2; omega)).mono ?_
          rintro e w4 ⟨rfl, hb4⟩
          have HB4 := hid (HB3.out.trans (hb4.mono HB3.out.size))
          have KT4 := hid (KT3.out.below hb4)
          have KS4 := hid (KS3.out.below hb4)
          have HS4 := hid (HS3.out.kept hb4)
          clear hb4 HB3 KT3 KS3 HS3 s0 s1 s2
          by_cases hdp : t.dp < 0
          · have HR : Hid (spOk ns = false) := by show _ = _; rw [HSP.out, decide_eq_false (by omega : ¬ 0 ≤ t.dp)]; simp
            generalize t.dp = dd at *
            go_wp2
            go_ret
            exact ⟨by rw [HR.out]; rfl, HB4.out⟩
          · have HDP := hid hdp
            have hal : t.all.length ≤ 1048576 := by
              have h1 := full_all_le t true HFU.out
              have h2 := HTI.out.2.1
              have h3 := hnn.out
              omega
            have s0 := KS4.out.cell (j := 0) rfl
            have s1 := KS4.out.cell (j := 1) rfl
            have s2 := KS4.out.cell (j := 2) rfl
            have HAL := hid hal
            clear hal
            generalize hdd : t.dp = dd at hdp
            clear hdd
            go_wp2_with fail
            refine (specPairs_any t _ lf ap ak np cp nk ck w4 HS4.out HAL.out).mono ?_
            rintro e w5 ⟨v5, rfl, hO5, hb5⟩
            obtain ⟨a5, n5, c5, hv5, HN5⟩ := hO5.shape'
            subst hv5
            have HO5 := hid hO5
            have HB5 := hid (HB4.out.trans (hb5.mono HB4.out.size))
            have KT5 := hid (KT4.out.below hb5)
            have KS5 := hid (KS4.out.below hb5)
            have HS5 := hid (HS4.out.kept hb5)
            clear hb5 hO5 HB4 KT4 KS4 HS4 s0 s1 s2
            go_wp2_with fail
            refine (specPairsOk_any (fun _ => True) _ t.all w5 (HO5.out.pr (fun _ _ _ _ => trivial))).mono ?_
            rintro e w6 ⟨rfl, hb6⟩
            have HB6 := hid (HB5.out.trans (hb6.mono HB5.out.size))
            have KT6 := hid (KT5.out.below hb6)
            have KS6 := hid (KS5.out.below hb6)
            have HS6 := hid (HS5.out.kept hb6)
            clear hb6 HB5 KT5 KS5 HS5 HO5 HN5
            cases hpk : pOk t.all
            · have HR : Hid (spOk ns = false) := by show _ = _; rw [HSP.out, hpk]; simp
              clear hpk
              go_wp2
              go_ret
              exact ⟨by rw [HR.out]; rfl, HB6.out⟩
            · have HRV : Hid (spOk ns = decide (lay 0 t = ns)) := by show _ = _; rw [HSP.out, hpk, HFU.out, decide_eq_true (by have := HDP.out; omega : 0 ≤ t.dp)]; simp
              have s0 := KS6.out.cell (j := 0) rfl
              have s1 := KS6.out.cell (j := 1) rfl
              have s2 := KS6.out.cell (j := 2) rfl
              clear hpk HSP
              go_wp2_with fail
              refine (specLay_any t _ lf ap ak np cp nk ck w6 (fun _ => False) none 0 0 [] true HS6.out (fun y _ => by simp [Value.ownBlock]) (no_nil w6) (by have h2 := HTI.out.2.1; have h3 := hnn.out; simp; omega) HFU.out).mono ?_
              rintro e w7 ⟨v7, rfl, hN7, ho7, _⟩
              have hb7 : Below w6.heap.size w6 w7 := ho7.below (Nat.le_refl _) (fun b _ => by simp [Value.ownBlock])
              obtain ⟨a7, n7, c7, hv7, HN7L⟩ := hN7.shape
              subst hv7
              have HNR : Hid (Nr w7 (fun _ => True) (.slice a7 n7 c7) (lay 0 t)) := hN7.nr (fun _ _ => trivial)
              have HB7 := hid (HB6.out.trans (hb7.mono HB6.out.size))
              have KT7 := hid (KT6.out.below hb7)
              have HLL : Hid (n7 = nn) := by
                have h1 := HN7L.out
                have h2 := HTI.out.2.1
                have h3 := hnn.out
                simp [lay_length] at h1
                show _ = _
                omega
              have hn7 : n7 = nn := HLL.out
              clear hN7 ho7 hb7 HB6 KT6 KS6 HS6 HN7L s0 s1 s2
              subst hn7
              have t0 := KT7.out.cell (j := 0) rfl
              have hz : ((n7 : Int) != (n7 : Int)) = false := by simp
              have HTN : Hid (n7 = (lay 0 t).length) := HNR.out.len.1
              go_wp2_with fail
              go_loopw [48] (fun i wr => ∃ k : Nat, k ≤ n7 ∧ i = .int .i64 k ∧ Hid (Below w7.heap.size w7 wr) ∧ Hid ((lay 0 t).take k = ns.take k)) (fun i _ => n7 - (intOf i).toNat)
              case atStart => exact ⟨0, Nat.zero_le _, rfl, Below.refl _ _, rfl⟩
              case round =>
                obtain ⟨k, hk, rfl, HB, HT⟩ := hrel
                have HBB := hid (HB7.out.trans (HB.out.mono HB7.out.size))
                by_cases hlt : k < n7
                · have hlt' : (k : Int) < (n7 : Int) := by omega
                  have HP := hid (HNR.out.below HB.out)
                  have HP' := hid (HN.out.below HBB.out)
                  obtain ⟨bA, oA, hA, _, _, hcell⟩ := HP.out.at (by omega)
                  obtain ⟨bT, oT, hT, _, _, hcell'⟩ := HP'.out.at (by omega)
                  subst hA hT
                  obtain ⟨ap1, np1, cp1, ax1, nx1, cx1, ai1, ni1, ci1, x0, x1, x2, hp, hx, hi⟩ := hcell k hlt
                  obtain ⟨ap2, np2, cp2, ax2, nx2, cx2, ai2, ni2, ci2, y0, y1, y2, hp', hx', hi'⟩ := hcell' k hlt
                  have tt := (KT7.out.below HB.out).cell (j := 0) rfl
                  have HC : Hid (∀ v, Below wr.heap.size wr v → Calls Tryd.prog 67 #[.agg #[.slice ap1 np1 cp1, .slice ax1 nx1 cx1, .slice ai1 ni1 ci1], .agg #[.slice ap2 np2 cp2, .slice ax2 nx2 cx2, .slice ai2 ni2 ci2]] v fun e w' => e = .returned (.bool (decide (nAt (lay 0 t) k = nAt ns k))) ∧ Below v.heap.size v w') := fun v hv =>
                    sameNode_any _ _ ap1 ax1 ai1 ap2 ax2 ai2 np1 cp1 nx1 cx1 ni1 ci1 np2 cp2 nx2 cx2 ni2 ci2 (nAt (lay 0 t) k) (nAt ns k) v (hp.below hv) (hx.below hv) (hi.below hv) (hp'.below hv) (hx'.below hv) (hi'.below hv)
                  have HSS : Hid (nAt (lay 0 t) k = nAt ns k → (lay 0 t).take (k + 1) = ns.take (k + 1)) := by
                    intro e
                    have hl : k < (lay 0 t).length := by rw [← HTN.out]; exact hlt
                    have hl' : k < ns.length := by rw [← hnn.out]; exact hlt
                    rw [List.take_succ_eq_append_getElem hl, List.take_succ_eq_append_getElem hl', HT.out]
                    simp [nAt, hl, hl'] at e
                    rw [e]
                  have HFF : Hid (nAt (lay 0 t) k ≠ nAt ns k → spOk ns = false) := by
                    intro e
                    rw [HRV.out, decide_eq_false_iff_not]
                    intro e'
                    exact e (by rw [e'])
                  have T0 : Hid (KC wr wr [(⟨bA, oA + k * 3, none⟩, .slice ap1 np1 cp1), (⟨bA, oA + k * 3 + 1, none⟩, .slice ax1 nx1 cx1), (⟨bA, oA + k * 3 + 2, none⟩, .slice ai1 ni1 ci1), (⟨bT, oT + k * 3, none⟩, .slice ap2 np2 cp2), (⟨bT, oT + k * 3 + 1, none⟩, .slice ax2 nx2 cx2), (⟨bT, oT + k * 3 + 2, none⟩, .slice ai2 ni2 ci2), (⟨w.heap.size, 0, none⟩, .slice (some ⟨bT, oT, none⟩) n7 cn)]) := ⟨fun p hp => by simp at hp; rcases hp with rfl | rfl | rfl | rfl | rfl | rfl | rfl <;> assumption, Below.refl _ _⟩
                  clear hcell hcell' HP HP' HT hp hx hi hp' hx' hi' x0 x1 x2 y0 y1 y2 tt t0
                  generalize nAt (lay 0 t) k = cx1' at *
                  generalize nAt ns k = cx2' at *
                  by_cases he : cx1' = cx2'
                  · have HS1 := hid (HSS.out he)
                    rw [decide_eq_true he] at HC
                    clear he HSS HFF
                    go_wp2_with fail
                    go_region_held3 (fun v => v.cell? ⟨bA, oA + k * 3, none⟩ = some (.slice ap1 np1 cp1) ∧ v.cell? ⟨bA, oA + k * 3 + 1, none⟩ = some (.slice ax1 nx1 cx1) ∧ v.cell? ⟨bA, oA + k * 3 + 2, none⟩ = some (.slice ai1 ni1 ci1) ∧ v.cell? ⟨bT, oT + k * 3, none⟩ = some (.slice ap2 np2 cp2) ∧ v.cell? ⟨bT, oT + k * 3 + 1, none⟩ = some (.slice ax2 nx2 cx2) ∧ v.cell? ⟨bT, oT + k * 3 + 2, none⟩ = some (.slice ai2 ni2 ci2) ∧ v.cell? ⟨w.heap.size, 0, none⟩ = some (.slice (some ⟨bT, oT, none⟩) n7 cn) ∧ KC wr v [(⟨bA, oA + k * 3, none⟩, .slice ap1 np1 cp1), (⟨bA, oA + k * 3 + 1, none⟩, .slice ax1 nx1 cx1), (⟨bA, oA + k * 3 + 2, none⟩, .slice ai1 ni1 ci1), (⟨bT, oT + k * 3, none⟩, .slice ap2 np2 cp2), (⟨bT, oT + k * 3 + 1, none⟩, .slice ax2 nx2 cx2), (⟨bT, oT + k * 3 + 2, none⟩, .slice ai2 ni2 ci2), (⟨w.heap.size, 0, none⟩, .slice (some ⟨bT, oT, none⟩) n7 cn)])
                      (first | assumption | exact kc7 (T0.out.call (below_drew _)) | exact kc7c hbC (by assumption))
                      (first | (go_at_call 67; refine (HC.out _ (KC.bel (by first | exact (by assumption : _ ∧ _ ∧ _ ∧ _ ∧ _ ∧ _ ∧ _ ∧ _).2.2.2.2.2.2.2))).mono ?_; rintro e w' ⟨rfl, hbC⟩))
                    all_goals (rename_i hS; have HB8 := hid (Below.then' HB.out hS.2.2.2.2.2.2.2.bel (Nat.le_refl _)); clear hS; go_wp2)
                    go_roundw
                    case rel => exact ⟨k + 1, by omega, by go_num, HB8.out, HS1.out⟩
                    case measure => simp [intOf]; omega
                  · have HF1 := hid (HFF.out he)
                    rw [decide_eq_false he] at HC
                    clear he HSS HFF
                    go_wp2_with fail
                    go_region_held3 (fun v => v.cell? ⟨bA, oA + k * 3, none⟩ = some (.slice ap1 np1 cp1) ∧ v.cell? ⟨bA, oA + k * 3 + 1, none⟩ = some (.slice ax1 nx1 cx1) ∧ v.cell? ⟨bA, oA + k * 3 + 2, none⟩ = some (.slice ai1 ni1 ci1) ∧ v.cell? ⟨bT, oT + k * 3, none⟩ = some (.slice ap2 np2 cp2) ∧ v.cell? ⟨bT, oT + k * 3 + 1, none⟩ = some (.slice ax2 nx2 cx2) ∧ v.cell? ⟨bT, oT + k * 3 + 2, none⟩ = some (.slice ai2 ni2 ci2) ∧ v.cell? ⟨w.heap.size, 0, none⟩ = some (.slice (some ⟨bT, oT, none⟩) n7 cn) ∧ KC wr v [(⟨bA, oA + k * 3, none⟩, .slice ap1 np1 cp1), (⟨bA, oA + k * 3 + 1, none⟩, .slice ax1 nx1 cx1), (⟨bA, oA + k * 3 + 2, none⟩, .slice ai1 ni1 ci1), (⟨bT, oT + k * 3, none⟩, .slice ap2 np2 cp2), (⟨bT, oT + k * 3 + 1, none⟩, .slice ax2 nx2 cx2), (⟨bT, oT + k * 3 + 2, none⟩, .slice ai2 ni2 ci2), (⟨w.heap.size, 0, none⟩, .slice (some ⟨bT, oT, none⟩) n7 cn)])
                      (first | assumption | exact kc7 (T0.out.call (below_drew _)) | exact kc7c hbC (by assumption))
                      (first | (go_at_call 67; refine (HC.out _ (KC.bel (by first | exact (by assumption : _ ∧ _ ∧ _ ∧ _ ∧ _ ∧ _ ∧ _ ∧ _).2.2.2.2.2.2.2))).mono ?_; rintro e w' ⟨rfl, hbC⟩))
                    all_goals (rename_i hS; have HB8 := hid (Below.then' HBB.out hS.2.2.2.2.2.2.2.bel (Nat.le_refl _)); clear hS; go_wp2)
                    go_ret
                    exact ⟨by rw [HF1.out]; rfl, HB8.out⟩
                · have HF : Hid (spOk ns = true) := by
                    show _ = _
                    rw [HRV.out, decide_eq_true_eq]
                    have e := HT.out
                    rwa [List.take_of_length_le (by rw [← HTN.out]; omega), List.take_of_length_le (by rw [← hnn.out]; omega)] at e
                  clear HT
                  go_wp2
                  go_ret
                  exact ⟨by rw [HF.out]; rfl, HBB.out⟩
end Go.Proofs.YtcpdedpgjaimkaaDoor
/-
  What is known of a tree that is read.
-/
namespace Go.Proofs.YtcpdedpgjaimkaaDoor
open Go.RowKit
structure OkF (ns : List NB) (t : T) : Prop where
  root : rootS ns = some t
  few : t.ps.length + t.ks.length ≤ 8
  lv : t.lv ≤ 13
  ht : t.ht ≤ 13
  all : t.all.length ≤ 200
  ok : pOk t.all = true
  dp : ns.length ≠ 0 → t.dp = t.dpt
  nil : ns.length = 0 → t = .mk [] []
theorem okT_facts {ns : List NB} {t : T} (h : okT ns = some t) : OkF ns t := by
  by_cases hne : ns.length = 0
  · rw [okT, if_pos hne] at h
    cases h
    exact ⟨by rw [rootS, if_pos hne], by decide, by decide, by decide, by decide, by decide, fun h => absurd hne h, fun _ => rfl⟩
  · have g := (okT_good hne).1 h
    have hr := g.read
    have hi := rdS_info ns 13 0 t ns.length hr
    have hf := g.full
    obtain ⟨e, he⟩ := g.even
    obtain ⟨ps, ks⟩ := t
    have hfew : (T.mk ps ks).ps.length + (T.mk ps ks).ks.length ≤ 8 ∧ (T.mk ps ks).bare = false := by
      show ps.length + ks.length ≤ 8 ∧ (decide (ps.length + ks.length = 0) = false)
      rw [T.full] at hf
      split at hf
      · rename_i hk
        subst hk
        simp at hf
        constructor
        · simp; omega
        · simp; intro h0; subst h0; simp at hf
      · simp at hf
        constructor
        · have hp0 : ps.length = 0 := by rw [hf.1.2]; rfl
          omega
        · simp; intro h0 h1; subst h1; simp at hf
    refine ⟨?_, hfew.1, ?_, hi.2.2, ?_, g.ok, fun _ => ?_, fun h => absurd h hne⟩
    · rw [rootS, if_neg hne, hr]; simp
    · rw [ev_lv e _ he]; exact Nat.le_trans (ev_ht e _ he) hi.2.2
    · exact pOk_len g.ok
    · rw [g.dp, T.dpt, hfew.2]; rfl
end Go.Proofs.YtcpdedpgjaimkaaDoor
/-
  spec.TreeAll, impl.TreeAll: the same pairs, in new memory.
-/
namespace Go.Proofs.YtcpdedpgjaimkaaDoor
open Go.RowKit
def alV (ns : List NB) : List PB := match okT ns with | none => [] | some t => t.all
theorem alV_len (ns : List NB) : (alV ns).length ≤ 200 := by
  unfold alV
  cases h : okT ns with
  | none => exact Nat.zero_le _
  | some t => exact (okT_facts h).all
def OwPost (l : List PB) (w : World) (e : Ending) (w' : World) : Prop := ∃ v, e = .returned v ∧ Ow w' w.heap.size v l ∧ Below w.heap.size w w'
set_option maxHeartbeats 2000000 in
theorem specTreeAll_any (ns : List NB) (hlen : ns.length ≤ 1048576) (hsm : smallN ns) (S : Nat → Prop) (an : Option Addr) (nn cn : Nat) (w : World) (hN : Nr w S (.slice an nn cn) ns) :
    Calls Tryd.prog 49 #[.agg #[.slice an nn cn]] w fun e w' => OwPost (alV ns) w e w' := by
  have h1 := hN.len.2.1
  have h2 := hN.len.2.2
  have HB0 := hid (below_new (o := .cells #[.slice an nn cn] 88) (w := w) (Below.refl _ _))
  have K0 := hid (Bk.new w 88 [.slice an nn cn])
  have H0 := hid (hN.below HB0.out)
  have HLS := hid (And.intro hlen hsm)
  clear hN hlen hsm
  go_enter Tryd.func49, Tryd.ntmps49
  go_wp2_with fail
  refine (specTreeOk_any ns HLS.out.1 HLS.out.2 S an nn cn _ H0.out).mono ?_
  generalize w.alloc (.cells #[.slice an nn cn] 88) = U at *
  rintro e w1 ⟨rfl, hb⟩
  have HB1 := hid (HB0.out.trans (hb.mono HB0.out.size))
  have K1 := hid (K0.out.below hb)
  have H1 := hid (H0.out.below hb)
  clear hb HB0 K0 H0
  rw [spOk_eq]
  cases hr : okT ns with
  | none =>
    have HR : Hid (alV ns = []) := by show _ = _; rw [alV, hr]
    clear hr
    go_wp2
    go_ret
    exact ⟨_, rfl, by rw [HR.out]; exact ow_nil _ _, HB1.out⟩
  | some t =>
    have HR : Hid (alV ns = t.all) := by show _ = _; rw [alV, hr]
    have HF := hid (okT_facts hr)
    clear hr
    have c1 := K1.out.cell (j := 0) rfl
    go_wp2_with fail
    refine (specRoot_any ns HLS.out.1 HLS.out.2 S an nn cn _ H1.out).mono ?_
    rintro e w2 ⟨hpost, hb⟩
    rw [HF.out.root] at hpost
    obtain ⟨lf, ap, np, cp, ak, nk, ck, he, hsub⟩ := hpost
    subst he
    have HB2 := hid (Below.then' HB1.out hb (Nat.le_refl _))
    have HB3 := hid (HB2.out.alloc HB2.out.size (.cells #[.bool lf, .slice ap np cp, .slice ak nk ck] 98))
    have HS2 := hid (hsub.kept (below_new (o := .cells #[.bool lf, .slice ap np cp, .slice ak nk ck] 98) (w := w2) (Below.refl _ _)))
    clear hb hsub K1 H1 HB1 HB2 c1
    go_wp2_with fail
    refine (specPairs_any t _ lf ap ak np cp nk ck _ HS2.out (by have := HF.out.all; omega)).mono ?_
    generalize w2.alloc (.cells #[.bool lf, .slice ap np cp, .slice ak nk ck] 98) = w3 at *
    rintro e w4 ⟨v, rfl, hO, hb⟩
    have HB4 := hid (Below.then' HB3.out hb (Nat.le_refl _))
    have HO : Hid (Ow w4 w.heap.size v t.all) := own_mono hO HB3.out.size
    clear hb hO
    go_wp2
    go_ret
    exact ⟨_, rfl, by rw [HR.out]; exact HO.out, HB4.out⟩
end Go.Proofs.YtcpdedpgjaimkaaDoor
/-
  impl.treeFrom and impl.TreePut.
-/
namespace Go.Proofs.YtcpdedpgjaimkaaDoor
open Go.RowKit
/-- A tree's nodes: none where there is nothing. -/
def layT (t : T) : List NB := if t.bare = true then [] else lay 0 t
/-- A list of nodes in rows of its own, apart from each other, all new. -/
def TRow (w w' : World) (v : Value) (ms : List NB) : Prop := ∃ V, NA w' v V ms ∧ (∀ y, v.ownBlock = some y → w.heap.size ≤ y) ∧ (∀ i, i < ms.length → ∀ y, bl (vAt V i) y → w.heap.size ≤ y)
theorem TRow.nil (w w' : World) : TRow w w' (.slice none 0 0) [] := ⟨[], na_nil _, fun y hy => (by cases hy), fun i hi => (by simp at hi)⟩
theorem TRow.kept {w w' w2 : World} {v : Value} {ms : List NB} (h : TRow w w' v ms) (hb : Below w'.heap.size w' w2) : TRow w w2 v ms := by
  obtain ⟨V, h1, h2, h3⟩ := h
  exact ⟨V, h1.kept hb, h2, h3⟩
theorem TRow.shape {w w' : World} {v : Value} {ms : List NB} (h : TRow w w' v ms) : ∃ a n c, v = .slice a n c ∧ Hid (n = ms.length) := by
  obtain ⟨V, h1, _⟩ := h
  exact h1.shape
def TreePost (o : Option (List NB)) (w : World) (e : Ending) (w' : World) : Prop := ∃ v, e = .returned (.tuple #[.agg #[v], .bool o.isSome]) ∧ TRow w w' v (o.getD []) ∧ Below w.heap.size w w'
theorem results_tree2 {fn : Func} {p u : Tmp} (h : fn.results = #[.cell p 88, .tmp u]) (tmps : Array Value) (w : World) (g : Nat) {x b : Value} (hp : tmps.getD p undef = .pointer (some ⟨g, 0, none⟩)) (hb : tmps.getD u undef = b)
    (c0 : w.cell? ⟨g, 0, none⟩ = some x) : (results fn tmps).run Tryd.prog w = .ok (.tuple #[.agg #[x], b]) w := by
  have hp' : tmps[p]?.getD undef = .pointer (some ⟨g, 0, none⟩) := by simpa using hp
  have hb' : tmps[u]?.getD undef = b := by simpa using hb
  have hl : (loadVar 88 ⟨g, 0, none⟩).run Tryd.prog w = .ok (.agg #[x]) w := by go_simp
  simp [results, h, hp', hb', asAddr, hl, Result.andThen]
theorem results_tree1 {fn : Func} {p : Tmp} (h : fn.results = #[.cell p 88]) (tmps : Array Value) (w : World) (g : Nat) {x : Value} (hp : tmps.getD p undef = .pointer (some ⟨g, 0, none⟩))
    (c0 : w.cell? ⟨g, 0, none⟩ = some x) : (results fn tmps).run Tryd.prog w = .ok (.agg #[x]) w := by
  have hp' : tmps[p]?.getD undef = .pointer (some ⟨g, 0, none⟩) := by simpa using hp
  have hl : (loadVar 88 ⟨g, 0, none⟩).run Tryd.prog w = .ok (.agg #[x]) w := by go_simp
  simp [results, h, hp', asAddr, hl]
theorem okT_putIn {ns : List NB} {t : T} (h : okT ns = some t) : PutIn t.lv true t := by
  have hf := okT_facts h
  by_cases hne : ns.length = 0
  · rw [hf.nil hne]
    exact ⟨.inl ⟨rfl, rfl⟩, .inr ⟨rfl, rfl⟩, List.Pairwise.nil⟩
  · have g := (okT_good hne).1 h
    obtain ⟨e, he⟩ := g.even
    rw [ev_lv e t he]
    exact ⟨he, .inl g.full, pOk_asc hf.ok⟩
/-- The tree behind a put. -/
def putV (ns : List NB) (k v : ByteArray) : Option (List NB) := match okT ns with
  | none => none
  | some t => if kOk k = true ∧ vOk v = true then (if 200 < (rootT (putF t.lv t (k, v))).all.length then none else some (layT (rootT (putF t.lv t (k, v))))) else none
theorem rootT_ok {ns : List NB} {t : T} (h : okT ns = some t) (p : PB) : (rootT (putF t.lv t p)).full true = true ∧ (∃ h, Ev h (rootT (putF t.lv t p))) ∧ (rootT (putF t.lv t p)).all = insP t.all p := rootT_full (putF_out t.lv true t p (okT_putIn h))
theorem putV_size {ns : List NB} {t : T} (h : okT ns = some t) (p : PB) : (rootT (putF t.lv t p)).all.length ≤ 201 ∧ (rootT (putF t.lv t p)).size ≤ 201 ∧ (rootT (putF t.lv t p)).ps.length + (rootT (putF t.lv t p)).ks.length ≤ 8 := by
  obtain ⟨h1, h2, h3⟩ := rootT_ok h p
  have h4 := insP_len t.all p
  have h5 := (okT_facts h).all
  have h6 := full_root h1
  rw [h3] at h6
  refine ⟨by rw [h3]; omega, by omega, ?_⟩
  generalize rootT (putF t.lv t p) = y at *
  obtain ⟨ps, ks⟩ := y
  simp only [T.ps, T.ks]
  by_cases hk : ks = []
  · subst hk; have := full_lf h1; simp; omega
  · obtain ⟨_, h2, rfl, _⟩ := full_br h1 hk; simp; omega
end Go.Proofs.YtcpdedpgjaimkaaDoor
/-
  impl.rootDrop and impl.TreeDrop.
-/
namespace Go.Proofs.YtcpdedpgjaimkaaDoor
open Go.RowKit
/-- The tree behind a drop. -/
def dropV (ns : List NB) (k : ByteArray) : Option (List NB) := match okT ns with
  | none => none
  | some t => if kOk k = true then some (layT (rootD (dropF t.lv t k))) else none
theorem dropV_size {ns : List NB} {t : T} (h : okT ns = some t) (k : ByteArray) : (rootD (dropF t.lv t k)).all.length ≤ 201 ∧ (rootD (dropF t.lv t k)).size ≤ 201 ∧ (rootD (dropF t.lv t k)).ps.length + (rootD (dropF t.lv t k)).ks.length ≤ 8 := by
  obtain ⟨h1, h2, h3⟩ := rootD_out (k := k) (okT_putIn h)
  have h4 := delP_len t.all k
  have h5 := (okT_facts h).all
  refine ⟨by rw [h3]; omega, ?_⟩
  rcases h1 with h1 | h1
  · have h6 := full_root h1
    rw [h3] at h6
    have := full_small h1
    exact ⟨by omega, by omega⟩
  · rw [h1]; exact ⟨by decide, by decide⟩
end Go.Proofs.YtcpdedpgjaimkaaDoor
/-
  The law's helpers that write marks into slices: of pairs, of texts, of numbers.
-/
namespace Go.Proofs.YtcpdedpgjaimkaaDoor
open Go.RowKit
def mV (k : Nat) (j : Nat) : Value := .string (mt (k + j))
def mI (k : Nat) (j : Nat) : Value := .int .i64 ((k + j : Nat) : Int)
theorem mi_mk {S : Nat → Prop} {w : World} {b off m i : Nat} {V : Nat → Value} {K : Value → Prop} (h : Mi w b off m i V K) (hS : S b) {o : Nat} (ho : o = off + i) (hi : i < m) (hs : ∀ u, K u → simV u (V i)) : Mk S w (w.setCell ⟨b, o, none⟩ (V i)) := by
  subst ho
  obtain ⟨T, xs, h1, h2, h3⟩ := h
  obtain ⟨u, h4, h5⟩ := h2 i hi
  exact mk_set h1 hS h4 (hs u h5)
theorem sim_mV (k i : Nat) : ∀ u, isStr u → simV u (mV k i) := fun _ hu => .inr (.inl ⟨hu, _, rfl⟩)
theorem sim_mI (k i : Nat) : ∀ u, isInt u → simV u (mI k i) := fun _ hu => .inr (.inr ⟨hu, _, rfl⟩)
/-- What comes of writing marks into the m cells of a slice. -/
def Marked (S : Nat → Prop) (w : World) (a : Option Addr) (n m : Nat) (V : Nat → Value) (K : Value → Prop) (w' : World) : Prop := Mk S w w' ∧ (0 < n → ∃ b off, a = some ⟨b, off, none⟩ ∧ S b ∧ Mi w' b off m m V K)
end Go.Proofs.YtcpdedpgjaimkaaDoor
/-
  The law's helpers that write marks into a tree: nothing but its own rows turns.
-/
namespace Go.Proofs.YtcpdedpgjaimkaaDoor
open Go.RowKit
set_option linter.unusedVariables false
/-- The slice value v leads to n nodes whose cells are V's and stay; the rows behind them may be written. -/
def Nk (w : World) (S : Nat → Prop) (v : Value) (n : Nat) (V : Nat → V3) : Prop :=
  (∀ i, i < n → ∃ np nx ni, np ≤ 1048576 ∧ nx ≤ 1048576 ∧ ni ≤ 1048576 ∧ Kw w S (V i).1 np (np * 2) isStr ∧ Kw w S (V i).2.1 nx nx isStr ∧ Kw w S (V i).2.2 ni ni isInt) ∧
    ∃ a c, v = .slice a n c ∧ n ≤ c ∧ c ≤ 9223372036854775807 ∧ (0 < n → ∃ b off, a = some ⟨b, off, none⟩ ∧ Uf w b ∧ ∀ i, i < n → w.cell? ⟨b, off + i * 3, none⟩ = some (V i).1 ∧ w.cell? ⟨b, off + i * 3 + 1, none⟩ = some (V i).2.1 ∧ w.cell? ⟨b, off + i * 3 + 2, none⟩ = some (V i).2.2)
theorem Kw.slice {w : World} {S : Nat → Prop} {v : Value} {n m : Nat} {K : Value → Prop} (h : Kw w S v n m K) : ∃ a n c, v = .slice a n c := by
  obtain ⟨a, c, h, _⟩ := h
  exact ⟨a, n, c, h⟩
theorem Mk.slice {S : Nat → Prop} {w w' : World} (hm : Mk S w w') {b o n c : Nat} {a : Option Addr} (hu : Uf w b) (hc : w.cell? ⟨b, o, none⟩ = some (.slice a n c)) : w'.cell? ⟨b, o, none⟩ = some (.slice a n c) := by
  obtain ⟨u, d, e⟩ := hm.cell hu hc
  rw [d, kind_slice _ ⟨a, n, c, rfl⟩ _ _ rfl e]
theorem pcs_str (ps : List PB) : ∀ u ∈ pcs ps, isStr u := by
  induction ps with
  | nil => intro u hu; cases hu
  | cons p ps ih =>
    intro u hu
    simp only [pcs, List.mem_cons] at hu
    rcases hu with rfl | rfl | hu
    · exact ⟨_, rfl⟩
    · exact ⟨_, rfl⟩
    · exact ih u hu
theorem Nk.mk {S S' : Nat → Prop} {w w' : World} {v : Value} {n : Nat} {V : Nat → V3} (h : Nk w S v n V) (hm : Mk S' w w') : Nk w' S v n V := by
  obtain ⟨h0, a, c, h1, h2, h3, h4⟩ := h
  refine ⟨fun i hi => ?_, a, c, h1, h2, h3, fun hn => ?_⟩
  · obtain ⟨np, nx, ni, b1, b2, b3, k1, k2, k3⟩ := h0 i hi
    exact ⟨np, nx, ni, b1, b2, b3, k1.mk hm kind_str, k2.mk hm kind_str, k3.mk hm kind_int⟩
  · obtain ⟨b, off, h5, h7, h8⟩ := h4 hn
    refine ⟨b, off, h5, hm.uf h7, fun i hi => ?_⟩
    obtain ⟨np, nx, ni, b1, b2, b3, k1, k2, k3⟩ := h0 i hi
    obtain ⟨c0, c1, c2⟩ := h8 i hi
    obtain ⟨u0, d0, e0⟩ := hm.cell h7 c0
    obtain ⟨u1, d1, e1⟩ := hm.cell h7 c1
    obtain ⟨u2, d2, e2⟩ := hm.cell h7 c2
    rw [d0, d1, d2, kind_slice _ k1.slice _ _ rfl e0, kind_slice _ k2.slice _ _ rfl e1, kind_slice _ k3.slice _ _ rfl e2]
    exact ⟨rfl, rfl, rfl⟩
theorem Nk.below {S : Nat → Prop} {w w' : World} {v : Value} {n : Nat} {V : Nat → V3} (h : Nk w S v n V) (hb : Below w.heap.size w w') : Nk w' S v n V := h.mk (mk_below (S := fun _ => False) hb)
theorem nk_of {w : World} {S S' : Nat → Prop} {v : Value} {ns : List NB} (h : Nr w S v ns) (hs : smallN ns) (hS : ∀ b, S b → b < w.heap.size → S' b ∧ Uf w b) : ∃ V, Nk w S' v ns.length V := by
  obtain ⟨V, h1, h2, h3⟩ := h
  refine ⟨vAt V, fun i hi => ?_, ?_⟩
  · obtain ⟨k1, k2, k3⟩ := h3 i hi
    have hb := hs i hi
    refine ⟨_, _, _, hb.1, hb.2.1, hb.2.2, ?_, ?_, ?_⟩
    · have := kw_of (K := isStr) k1 (fun u hu => pcs_str _ u hu) hS
      rwa [pcs_length] at this
    · have := kw_of (K := isStr) k2 (fun u hu => by simp at hu; obtain ⟨s, _, rfl⟩ := hu; exact ⟨s, rfl⟩) hS
      rwa [List.length_map] at this
    · have := kw_of (K := isInt) k3 (fun u hu => by simp at hu; obtain ⟨s, _, rfl⟩ := hu; exact ⟨s, rfl⟩) hS
      rwa [List.length_map] at this
  · obtain ⟨a, c, e1, e2, e3, e4, en, e5⟩ := h2
    refine ⟨a, c, e1, e2, e3, fun hp => ?_⟩
    obtain ⟨b, off, e6, e7, e8, e9⟩ := e5 hp
    refine ⟨b, off, e6, (hS b e8 e7).2, fun i hi => ?_⟩
    obtain ⟨c0, c1, c2⟩ := ncs_at V i (by omega)
    exact ⟨e9 _ _ c0, e9 _ _ c1, e9 _ _ c2⟩
def NkPost (S : Nat → Prop) (w : World) (k n : Nat) (e : Ending) (w' : World) : Prop := ∃ k' : Nat, e = .returned (.int .i64 (k' : Int)) ∧ k ≤ k' ∧ k' ≤ k + n * 4194304 ∧ Mk S w w'
end Go.Proofs.YtcpdedpgjaimkaaDoor
/-
  The law's helper that looks for marks in a slice of pairs: it finds them all.
-/
namespace Go.Proofs.YtcpdedpgjaimkaaDoor
open Go.RowKit
theorem kc1 {u v : World} {a0 : Addr} {x0 : Value} (h : KC u v [(a0, x0)]) : v.cell? a0 = some x0 ∧ KC u v [(a0, x0)] := ⟨h.at (by simp), h⟩
theorem kc0_1 {u : World} {a0 : Addr} {x0 : Value} (h0 : u.cell? a0 = some x0) : KC u u [(a0, x0)] := ⟨fun p hp => by simp at hp; rcases hp with rfl; assumption, Below.refl _ _⟩
theorem kc1c {u v v' : World} {a0 : Addr} {x0 : Value} (k : Below v.heap.size v v') (h : v.cell? a0 = some x0 ∧ KC u v [(a0, x0)]) : v'.cell? a0 = some x0 ∧ KC u v' [(a0, x0)] := kc1 (KC.call h.2 k)
/-- The marks lie there. -/
def Lies (w : World) (a : Option Addr) (n m : Nat) (V : Nat → Value) : Prop := 0 < n → ∃ b off, a = some ⟨b, off, none⟩ ∧ b < w.heap.size ∧ ∀ j, j < m → w.cell? ⟨b, off + j, none⟩ = some (V j)
theorem Lies.below {w w' : World} {a : Option Addr} {n m : Nat} {V : Nat → Value} (h : Lies w a n m V) (hb : Below w.heap.size w w') : Lies w' a n m V := by
  intro hn
  obtain ⟨b, off, h1, h2, h3⟩ := h hn
  exact ⟨b, off, h1, Nat.lt_of_lt_of_le h2 hb.size, fun j hj => by rw [hb.cell (p := ⟨b, off + j, none⟩) h2]; exact h3 j hj⟩
theorem Marked.lies {S : Nat → Prop} {w w' : World} {a : Option Addr} {n m : Nat} {V : Nat → Value} {K : Value → Prop} (h : Marked S w a n m V K w') : Lies w' a n m V := by
  intro hn
  obtain ⟨b, off, h1, _, T, xs, h2, _, h3⟩ := h.2 hn
  exact ⟨b, off, h1, h2.lt, fun j hj => h2.cell (h3 j hj)⟩
end Go.Proofs.YtcpdedpgjaimkaaDoor
/-
  The law's helpers that look whether marks are still there, in rows of strings and of numbers.
-/
namespace Go.Proofs.YtcpdedpgjaimkaaDoor
open Go.RowKit
set_option linter.unusedVariables false
end Go.Proofs.YtcpdedpgjaimkaaDoor
/-
  The law's helpers that write marks into an answer's tree and look whether they are still there: where all rows are apart, they are.
-/
namespace Go.Proofs.YtcpdedpgjaimkaaDoor
open Go.RowKit
set_option linter.unusedVariables false
def cntN (x : NB) : Nat := x.ps.length * 2 + x.keys.length + x.kids.length
def offN (ns : List NB) : Nat → Nat
  | 0 => 0
  | i + 1 => offN ns i + cntN (nAt ns i)
def LiesV (w : World) (v : Value) (n m : Nat) (V : Nat → Value) : Prop := ∃ a c, v = .slice a n c ∧ n ≤ c ∧ Lies w a n m V
theorem LiesV.to {w w' : World} {R : Nat → Prop} {v : Value} {n m : Nat} {V : Nat → Value} (h : LiesV w v n m V) (ho : Only R w w') (hR : ∀ y, v.ownBlock = some y → ¬ R y) : LiesV w' v n m V := by
  obtain ⟨a, c, rfl, h1, h2⟩ := h
  refine ⟨a, c, rfl, h1, fun hn => ?_⟩
  obtain ⟨b, off, rfl, h4, h5⟩ := h2 hn
  exact ⟨b, off, rfl, Nat.lt_of_lt_of_le h4 ho.size, fun j hj => (World.cell?_of_block (w := w) (a := ⟨b, off + j, none⟩) (ho.block b h4 (hR b rfl))).trans (h5 j hj)⟩
def LiesN (w : World) (p : V3) (x : NB) (q : Nat) : Prop := LiesV w p.1 x.ps.length (x.ps.length * 2) (mV q) ∧ LiesV w p.2.1 x.keys.length x.keys.length (mV (q + x.ps.length * 2)) ∧ LiesV w p.2.2 x.kids.length x.kids.length (mI (q + x.ps.length * 2 + x.keys.length))
theorem LiesN.to {w w' : World} {R : Nat → Prop} {p : V3} {x : NB} {q : Nat} (h : LiesN w p x q) (ho : Only R w w') (hR : ∀ y, bl p y → ¬ R y) : LiesN w' p x q := ⟨h.1.to ho (fun y e => hR y (.inl e)), h.2.1.to ho (fun y e => hR y (.inr (.inl e))), h.2.2.to ho (fun y e => hR y (.inr (.inr e)))⟩
/-- The marks stand in all rows. -/
structure MkT (w : World) (v : Value) (V : List V3) (ns : List NB) (k : Nat) : Prop where
  len : V.length = ns.length
  row : w.ownsRow 0 112 3 v ns.length (ncs V)
  lie : ∀ i, i < ns.length → LiesN w (vAt V i) (nAt ns i) (k + offN ns i)
theorem MkT.below {w w' : World} {v : Value} {V : List V3} {ns : List NB} {k : Nat} (h : MkT w v V ns k) (hb : Below w.heap.size w w') : MkT w' v V ns k := ⟨h.len, own_kept h.row (only_of_below hb (fun _ => False)) (fun _ _ h => h), fun i hi => (h.lie i hi).to (only_of_below hb (fun _ => False)) (fun _ _ h => h)⟩
def smallK (ns : List NB) : Prop := ∀ i, i < ns.length → (nAt ns i).ps.length ≤ 1000 ∧ (nAt ns i).keys.length ≤ 1000 ∧ (nAt ns i).kids.length ≤ 1000
theorem offN_le {ns : List NB} (h : smallK ns) : ∀ i, i ≤ ns.length → offN ns i ≤ i * 4000
  | 0, _ => by simp [offN]
  | i + 1, hi => by
    have := offN_le h i (by omega)
    have h2 := h i (by omega)
    simp only [offN, cntN]
    omega
theorem kw_own {w : World} {base : Nat} {e : TypeId} {size : Nat} {v : Value} {n : Nat} {xs : List Value} {K : Value → Prop} (h : w.ownsRow base e size v n xs) (hx : ∀ u ∈ xs, K u) : Kw w (fun y => v.ownBlock = some y) v n xs.length K :=
  kw_of (rw_own h (S := fun y => v.ownBlock = some y) (fun k hk _ _ => hk)) hx (fun b hb _ => ⟨hb, by
    rcases h.2 with ⟨rfl, _⟩ | ⟨g, cap, cur, rfl, _, h4, _⟩
    · cases hb
    · have e : g = b := by simpa [Value.ownBlock] using hb
      subst e
      exact ⟨_, _, h4⟩⟩)
theorem row_cells {w : World} {g n c m : Nat} {V : List V3} (h : w.ownsRow 0 112 3 (.slice (some ⟨g, 0, none⟩) n c) m (ncs V)) {i : Nat} (hi : i < V.length) : w.cell? ⟨g, i * 3, none⟩ = some (vAt V i).1 ∧ w.cell? ⟨g, i * 3 + 1, none⟩ = some (vAt V i).2.1 ∧ w.cell? ⟨g, i * 3 + 2, none⟩ = some (vAt V i).2.2 := by
  have hc := World.ownsRow.cells h (g := g) rfl
  obtain ⟨c0, c1, c2⟩ := ncs_at V i hi
  have d0 := hc _ _ c0
  have d1 := hc _ _ c1
  have d2 := hc _ _ c2
  rw [Addr.add_lit, Nat.zero_add] at d0 d1 d2
  exact ⟨d0, d1, d2⟩
theorem row_cap {w : World} {base : Nat} {e : TypeId} {size : Nat} {a : Option Addr} {n c m : Nat} {xs : List Value} (h : w.ownsRow base e size (.slice a n c) m xs) : n = m ∧ n ≤ c ∧ c ≤ 9223372036854775807 := by
  rcases h.2 with ⟨h1, h2⟩ | ⟨g, cap, cur, h1, _, _, h3, h4, _⟩
  · cases h1; exact ⟨h2.symm, Nat.le_refl _, by omega⟩
  · cases h1; unfold maxLen at h4; exact ⟨rfl, h3, by omega⟩
end Go.Proofs.YtcpdedpgjaimkaaDoor
/-
  Marks in an answer's tree, and whether they are still there: the lists of nodes.
-/
namespace Go.Proofs.YtcpdedpgjaimkaaDoor
open Go.RowKit
set_option linter.unusedVariables false
def MarkPost (w : World) (v : Value) (V : List V3) (ns : List NB) (k : Nat) (e : Ending) (w' : World) : Prop := e = .returned (.int .i64 ((k + offN ns ns.length : Nat) : Int)) ∧ MkT w' v V ns k ∧ Only (fun y => ∃ i, i < ns.length ∧ bl (vAt V i) y) w w'
mutual
theorem lay_small : ∀ (t : T) (r : Bool) (a : Nat), t.full r = true → ∀ x ∈ lay a t, x.ps.length ≤ 1000 ∧ x.keys.length ≤ 1000 ∧ x.kids.length ≤ 1000
  | .mk ps ks, r, a, h, x, hx => by
    by_cases hk : ks = []
    · subst hk
      have := (full_lf h).1
      simp [lay] at hx
      subst hx
      simp; omega
    · obtain ⟨_, h2, rfl, h3⟩ := full_br h hk
      simp only [lay, hk, if_false, List.mem_cons] at hx
      rcases hx with rfl | hx
      · simp only [List.length_nil, List.length_map, List.length_tail, places_length]; omega
      · exact layL_small ks (a + 1) h3 x hx
theorem layL_small : ∀ (ks : List T) (a : Nat), (∀ k ∈ ks, k.full false = true) → ∀ x ∈ layL a ks, x.ps.length ≤ 1000 ∧ x.keys.length ≤ 1000 ∧ x.kids.length ≤ 1000
  | [], a, _, x, hx => by simp [layL] at hx
  | k :: ks, a, h, x, hx => by
    rw [layL] at hx
    rcases List.mem_append.1 hx with hx | hx
    · exact lay_small k false a (h k (by simp)) x hx
    · exact layL_small ks (a + k.size) (fun y hy => h y (by simp [hy])) x hx
end
theorem smallK_of {ns : List NB} (h : ∀ x ∈ ns, x.ps.length ≤ 1000 ∧ x.keys.length ≤ 1000 ∧ x.kids.length ≤ 1000) : smallK ns := by
  intro i hi
  have : nAt ns i ∈ ns := by simp [nAt, hi]
  exact h _ this
end Go.Proofs.YtcpdedpgjaimkaaDoor
