/-
  A list of nodes that is being laid: a row of one's own, each node's slices apart from it.
-/
import Derived.Test.YtbaggkfgnjenoaaSb3
namespace Go.Proofs.Ytbaggkfgnjenoaa
open Go.RowKit
/-- A node's rows are its own. -/
def OwN (w : World) (p : V3) (x : NB) : Prop := w.ownsRow 0 69 2 p.1 x.ps.length (pcs x.ps) ∧ w.ownsRow 0 9 1 p.2.1 x.keys.length (x.keys.map Value.string) ∧ w.ownsRow 0 3 1 p.2.2 x.kids.length (x.kids.map (Value.int .i64))
def bl (p : V3) (y : Nat) : Prop := p.1.ownBlock = some y ∨ p.2.1.ownBlock = some y ∨ p.2.2.ownBlock = some y
def ap3 (p : V3) : Prop := ∀ y, (p.1.ownBlock = some y → p.2.1.ownBlock ≠ some y ∧ p.2.2.ownBlock ≠ some y) ∧ (p.2.1.ownBlock = some y → p.2.2.ownBlock ≠ some y)
theorem OwN.to {w w' : World} {R : Nat → Prop} {p : V3} {x : NB} (h : OwN w p x) (ho : Only R w w') (hR : ∀ y, bl p y → ¬ R y) : OwN w' p x :=
  ⟨own_kept h.1 ho (fun y e => hR y (.inl e)), own_kept h.2.1 ho (fun y e => hR y (.inr (.inl e))), own_kept h.2.2 ho (fun y e => hR y (.inr (.inr e)))⟩
theorem OwN.lt {w : World} {p : V3} {x : NB} (h : OwN w p x) {y : Nat} (hy : bl p y) : y < w.heap.size := by
  rcases hy with e | e | e
  · exact (World.ownsRow.lt h.1 y e).2
  · exact (World.ownsRow.lt h.2.1 y e).2
  · exact (World.ownsRow.lt h.2.2 y e).2
theorem own_lower {w : World} {base : Nat} {e : TypeId} {size n : Nat} {v : Value} {xs : List Value} (h : w.ownsRow base e size v n xs) : w.ownsRow 0 e size v n xs := by
  refine ⟨h.1, h.2.imp id ?_⟩
  rintro ⟨g, cap, cur, h1, h2, h3⟩
  exact ⟨g, cap, cur, h1, Nat.zero_le _, h3⟩
theorem own_ge {w : World} {base : Nat} {e : TypeId} {size n : Nat} {v : Value} {xs : List Value} (h : w.ownsRow base e size v n xs) (k : Nat) (hk : v.ownBlock = some k) : base ≤ k := by
  rcases h.2 with ⟨rfl, _⟩ | ⟨g, cap, cur, rfl, hb, _⟩
  · cases hk
  · cases hk; exact hb
/-- A node whose rows are its own, in blocks of F, apart from each other. -/
def N1K (w : World) (F : Nat → Prop) (p : V3) (x : NB) : Prop := N1 w F p x ∧ OwN w p x ∧ ap3 p ∧ ∀ y, bl p y → F y
theorem N1K.to {w w' : World} {S R : Nat → Prop} {p : V3} {x : NB} (h : N1K w S p x) (ho : Only R w w') (hd : ∀ b, S b → b < w.heap.size → ¬ R b) : N1K w' S p x :=
  ⟨h.1.to ho hd, h.2.1.to ho (fun y hy => hd y (h.2.2.2 y hy) (h.2.1.lt hy)), h.2.2⟩
theorem N1K.mono {w : World} {S R : Nat → Prop} {p : V3} {x : NB} (h : N1K w S p x) (hd : ∀ b, S b → b < w.heap.size → R b) : N1K w R p x :=
  ⟨h.1.mono hd, h.2.1, h.2.2.1, fun y hy => hd y (h.2.2.2 y hy) (h.2.1.lt hy)⟩
theorem OwN.n1 {w : World} {S : Nat → Prop} {p : V3} {x : NB} (h : OwN w p x) (hS : ∀ y, bl p y → S y) : N1 w S p x :=
  ⟨rw_own h.1 (fun k e _ _ => hS k (.inl e)), rw_own h.2.1 (fun k e _ _ => hS k (.inr (.inl e))), rw_own h.2.2 (fun k e _ _ => hS k (.inr (.inr e)))⟩
theorem n1K_nil (w : World) (F : Nat → Prop) : N1K w F (.slice none 0 0, .slice none 0 0, .slice none 0 0) ⟨[], [], []⟩ :=
  ⟨⟨rw_nil _ _, rw_nil _ _, rw_nil _ _⟩, ⟨World.ownsRow_nil _ _ _ _, World.ownsRow_nil _ _ _ _, World.ownsRow_nil _ _ _ _⟩, fun y => ⟨fun e => by (cases e), fun e => by (cases e)⟩, fun y hy => by rcases hy with e | e | e <;> cases e⟩
def apartV (V : List V3) (n : Nat) : Prop := ∀ i j, i < n → j < n → i ≠ j → ∀ y, bl (vAt V i) y → ¬ bl (vAt V j) y
/-- The nodes ns lie in a row of their own, their rows too, all apart. -/
def NrK (w : World) (S : Nat → Prop) (v : Value) (ns : List NB) : Prop := ∃ V : List V3, V.length = ns.length ∧ (w.ownsRow 0 135 3 v ns.length (ncs V) ∧ ∀ y, v.ownBlock = some y → S y) ∧ (∀ i, i < ns.length → N1K w S (vAt V i) (nAt ns i)) ∧ apartV V ns.length ∧ ∀ i, i < ns.length → ∀ y, bl (vAt V i) y → v.ownBlock ≠ some y
theorem NrK.to {w w' : World} {S R : Nat → Prop} {v : Value} {ns : List NB} (h : NrK w S v ns) (ho : Only R w w') (hd : ∀ b, S b → b < w.heap.size → ¬ R b) : NrK w' S v ns := by
  obtain ⟨V, h1, h2, h3, h4⟩ := h
  exact ⟨V, h1, ⟨own_kept h2.1 ho (fun k hk => hd k (h2.2 k hk) (World.ownsRow.lt h2.1 k hk).2), h2.2⟩, fun i hi => (h3 i hi).to ho hd, h4⟩
theorem NrK.mono {w : World} {S R : Nat → Prop} {v : Value} {ns : List NB} (h : NrK w S v ns) (hd : ∀ b, S b → b < w.heap.size → R b) : NrK w R v ns := by
  obtain ⟨V, h1, h2, h3, h4⟩ := h
  exact ⟨V, h1, ⟨h2.1, fun y hy => hd y (h2.2 y hy) (World.ownsRow.lt h2.1 y hy).2⟩, fun i hi => (h3 i hi).mono hd, h4⟩
theorem NrK.below {w w' : World} {S : Nat → Prop} {v : Value} {ns : List NB} (h : NrK w S v ns) (hb : Below w.heap.size w w') : NrK w' S v ns := h.to (only_of_below hb (fun _ => False)) (fun _ _ _ h => h)
theorem NrK.nr {w : World} {S : Nat → Prop} {v : Value} {ns : List NB} (h : NrK w S v ns) : Nr w S v ns := by
  obtain ⟨V, h1, h2, h3, h4⟩ := h
  exact ⟨V, h1, rw_own h2.1 (fun y hy _ _ => h2.2 y hy), fun i hi => (h3 i hi).1⟩
theorem nrK_nil (w : World) (S : Nat → Prop) : NrK w S (.slice none 0 0) [] := ⟨[], rfl, ⟨World.ownsRow_nil _ _ _ _, fun y hy => by cases hy⟩, fun i hi => by simp at hi, fun i j hi => absurd hi (Nat.not_lt_zero _), fun i hi => by simp at hi⟩
/-- The slice value v owns a row of the nodes ns; what the nodes lead to lies in blocks of F. -/
def NO (w : World) (F : Nat → Prop) (v : Value) (ns : List NB) : Prop :=
  ∃ V : List V3, V.length = ns.length ∧ w.ownsRow 0 135 3 v ns.length (ncs V) ∧ (∀ i, i < ns.length → N1K w F (vAt V i) (nAt ns i)) ∧ (∀ y, F y → y < w.heap.size ∧ v.ownBlock ≠ some y) ∧ apartV V ns.length
theorem NO.to {w w' : World} {R F : Nat → Prop} {v : Value} {ns : List NB} (h : NO w F v ns) (ho : Only R w w') (hv : ∀ y, v.ownBlock = some y → ¬ R y) (hF : ∀ y, F y → ¬ R y) : NO w' F v ns := by
  obtain ⟨V, h1, h2, h3, h4, h5⟩ := h
  exact ⟨V, h1, own_kept h2 ho hv, fun i hi => (h3 i hi).to ho (fun y hy _ => hF y hy), fun y hy => ⟨Nat.lt_of_lt_of_le (h4 y hy).1 ho.size, (h4 y hy).2⟩, h5⟩
theorem NO.kept {w w' : World} {F : Nat → Prop} {v : Value} {ns : List NB} (h : NO w F v ns) (hb : Below w.heap.size w w') : NO w' F v ns := h.to (only_of_below hb (fun _ => False)) (fun _ _ h => h) (fun _ _ h => h)
theorem NO.mono {w : World} {F G : Nat → Prop} {v : Value} {ns : List NB} (h : NO w F v ns) (hF : ∀ y, F y → G y) (hG : ∀ y, G y → y < w.heap.size ∧ v.ownBlock ≠ some y) : NO w G v ns := by
  obtain ⟨V, h1, h2, h3, h4, h5⟩ := h
  exact ⟨V, h1, h2, fun i hi => (h3 i hi).mono (fun y hy _ => hF y hy), hG, h5⟩
theorem NO.shape {w : World} {F : Nat → Prop} {v : Value} {ns : List NB} (h : NO w F v ns) : ∃ a n c, v = .slice a n c ∧ Hid (n = ns.length) := by
  obtain ⟨V, h1, h2, h3, h4⟩ := h
  obtain ⟨a, c, rfl⟩ := own_shape h2
  exact ⟨a, _, c, rfl, rfl⟩
theorem NO.nr {w : World} {F S : Nat → Prop} {v : Value} {ns : List NB} (h : NO w F v ns) (hS : ∀ y, y < w.heap.size → S y) : Nr w S v ns := by
  obtain ⟨V, h1, h2, h3, h4⟩ := h
  exact ⟨V, h1, rw_own h2 (fun y _ _ hy => hS y hy), fun i hi => (h3 i hi).1.mono (fun y _ hy => hS y hy)⟩
theorem no_nil (w : World) : NO w (fun _ => False) (.slice none 0 0) [] := ⟨[], rfl, World.ownsRow_nil _ _ _ _, fun i hi => by simp at hi, fun _ h => h.elim, fun i j hi => absurd hi (Nat.not_lt_zero _)⟩
theorem NO.lt {w : World} {F : Nat → Prop} {v : Value} {ns : List NB} (h : NO w F v ns) : ∀ y, v.ownBlock = some y → y < w.heap.size := by
  obtain ⟨V, h1, h2, h3, h4⟩ := h
  exact fun y hy => (World.ownsRow.lt h2 y hy).2
theorem nAt_append_left {ns ms : List NB} {i : Nat} (h : i < ns.length) : nAt (ns ++ ms) i = nAt ns i := by simp [nAt, List.getElem?_append_left h]
theorem nAt_append_at (ns : List NB) (x : NB) (ms : List NB) : nAt (ns ++ x :: ms) ns.length = x := by simp [nAt]
theorem vAt_append_left {V W : List V3} {i : Nat} (h : i < V.length) : vAt (V ++ W) i = vAt V i := by simp [vAt, List.getElem?_append_left h]
theorem vAt_append_at (V : List V3) (x : V3) : vAt (V ++ [x]) V.length = x := by simp [vAt]
/-- append(nodes, Node{}). -/
theorem NO.push {u w2 : World} {F : Nat → Prop} {v v' : Value} {ns : List NB} (h : NO u F v ns) (x : NB) (p : V3) (hx : N1K u (fun _ => False) p x) (ho : ∀ V : List V3, V.length = ns.length → u.ownsRow 0 135 3 v ns.length (ncs V) → w2.ownsRow 0 135 3 v' (ns.length + 1) (ncs V ++ [p.1, p.2.1, p.2.2])) (hg : u.grownBy w2 v.ownBlock) (ha : v'.ownBlock = v.ownBlock ∨ v'.ownBlock = some u.heap.size) :
    NO w2 F v' (ns ++ [x]) := by
  obtain ⟨V, h1, h2, h3, h4, h5⟩ := h
  have o : Only (fun y => v.ownBlock = some y) u w2 := only_of_grown hg (fun k e => e)
  refine ⟨V ++ [p], by simp [h1], ?_, fun i hi => ?_, fun y hy => ⟨Nat.lt_of_lt_of_le (h4 y hy).1 hg.size, ?_⟩, fun i j hi hj hij y hy hz => ?_⟩
  · rw [ncs_append, List.length_append]
    exact ho V h1 h2
  · simp at hi
    by_cases e : i < ns.length
    · rw [vAt_append_left (by omega), nAt_append_left e]
      exact (h3 i e).to o (fun y hy _ hv => (h4 y hy).2 hv)
    · obtain rfl : i = ns.length := by omega
      rw [nAt_append_at, ← h1, vAt_append_at]
      exact (hx.to o (fun y hy => hy.elim)).mono (fun y hy => hy.elim)
  · rcases ha with ha | ha
    · rw [ha]; exact (h4 y hy).2
    · rw [ha]; intro e; have := (h4 y hy).1; cases e; omega
  · have hat : ∀ i, i < (ns ++ [x]).length → (i < ns.length ∧ vAt (V ++ [p]) i = vAt V i) ∨ vAt (V ++ [p]) i = p := by
      intro i hi
      simp at hi
      by_cases e : i < ns.length
      · exact .inl ⟨e, vAt_append_left (by omega)⟩
      · obtain rfl : i = ns.length := by omega
        exact .inr (by rw [← h1, vAt_append_at])
    rcases hat i hi with ⟨e, e1⟩ | e1
    · rcases hat j hj with ⟨d, d1⟩ | d1
      · rw [e1] at hy; rw [d1] at hz; exact h5 i j e d hij y hy hz
      · rw [d1] at hz; exact hx.2.2.2 y hz
    · rw [e1] at hy; exact hx.2.2.2 y hy
/-- One node's values are stored anew. -/
theorem NO.put {w : World} {F G : Nat → Prop} {v : Value} {ms l : List NB} {x z : NB} {g n c : Nat} (hv : v = .slice (some ⟨g, 0, none⟩) n c) (h' : NO w G v (ms ++ z :: l)) (hGF : ∀ y, G y → F y) (hFF : ∀ y, F y → y < w.heap.size ∧ v.ownBlock ≠ some y) (p : V3) (hx : N1K w F p x) (hn : ∀ y, bl p y → ¬ G y) :
    NO (((w.setCell ⟨g, ms.length * 3, none⟩ p.1).setCell ⟨g, ms.length * 3 + 1, none⟩ p.2.1).setCell ⟨g, ms.length * 3 + 2, none⟩ p.2.2) F v (ms ++ x :: l) := by
  subst hv
  obtain ⟨V, h1, h2, h3', _, h5⟩ := h'
  have h3 := fun i hi => (h3' i hi).mono (R := F) (fun y hy _ => hGF y hy)
  have h4 := hFF
  have hgb : (Value.slice (some ⟨g, 0, none⟩) n c).ownBlock = some g := rfl
  have o : Only (fun y => y = g) w (((w.setCell ⟨g, ms.length * 3, none⟩ p.1).setCell ⟨g, ms.length * 3 + 1, none⟩ p.2.1).setCell ⟨g, ms.length * 3 + 2, none⟩ p.2.2) := ((only_set (R := fun y => y = g) rfl _).trans (only_set (R := fun y => y = g) rfl _)).trans (only_set (R := fun y => y = g) rfl _)
  have hF : ∀ y, F y → ¬ y = g := fun y hy e => (h4 y hy).2 (by rw [hgb, e])
  have hl : ms.length < (ms ++ z :: l).length := by simp
  have hl2 : (ms ++ x :: l).length = (ms ++ z :: l).length := by simp
  refine ⟨V.set ms.length p, by rw [List.length_set, h1, hl2], ?_, fun i hi => ?_, fun y hy => ⟨Nat.lt_of_lt_of_le (h4 y hy).1 o.size, (h4 y hy).2⟩, fun i j hi hj hij y hy hz => ?_⟩
  · rw [ncs_set _ _ _ (by omega), hl2]
    obtain ⟨k1, k2⟩ := h2
    rcases k2 with ⟨k2, _⟩ | ⟨g', cap, cur, e, k3, k4, k5, k6, k7, k8⟩
    · cases k2
    · cases e
      refine ⟨by simpa using k1, .inr ⟨g, c, ((cur.setIfInBounds (ms.length * 3) p.1).setIfInBounds (ms.length * 3 + 1) p.2.1).setIfInBounds (ms.length * 3 + 2) p.2.2, rfl, k3, ?_, k5, k6, by simpa using k7, ?_⟩⟩
      · simp [World.setCell, Array.getElem?_modify, k4]
      · rw [← k8]
        simp only [Array.toList_setIfInBounds, List.take_set]
  · by_cases e : i = ms.length
    · subst e
      rw [vAt_set _ _ _ (by omega), nAt_append_at]
      exact hx.to o (fun y hy _ => hF y hy)
    · rw [vAt_other _ _ _ _ e]
      have : nAt (ms ++ x :: l) i = nAt (ms ++ z :: l) i := by
        by_cases hi2 : i < ms.length
        · rw [nAt_append_left hi2, nAt_append_left hi2]
        · obtain ⟨j, rfl⟩ : ∃ j, i = ms.length + 1 + j := ⟨i - ms.length - 1, by omega⟩
          simp only [nAt]
          rw [List.getElem?_append_right (by omega), List.getElem?_append_right (by omega), show ms.length + 1 + j - ms.length = j + 1 by omega]
          rfl
      rw [this]
      exact (h3 i (by omega)).to o (fun y hy _ => hF y hy)
  · rw [hl2] at hi hj
    by_cases e : i = ms.length
    · subst e
      rw [vAt_set _ _ _ (by omega)] at hy
      rw [vAt_other _ _ _ _ (Ne.symm hij)] at hz
      exact hn y hy ((h3' j hj).2.2.2 y hz)
    · rw [vAt_other _ _ _ _ e] at hy
      by_cases d : j = ms.length
      · subst d
        rw [vAt_set _ _ _ (by omega)] at hz
        exact hn y hz ((h3' i hi).2.2.2 y hy)
      · rw [vAt_other _ _ _ _ d] at hz
        exact h5 i j hi hj hij y hy hz
/-- How far l03Lay has come with a branch. -/
structure LyI (w wr : World) (F : Nat → Prop) (v vv q0 q1 q2 : Value) (nb : Nat) (kx ki : Value) (Fk : Nat → Prop) (L : List NB) (keys : List ByteArray) (kids : List Int) : Prop where
  fw : ∀ y, F y → y < w.heap.size
  vw : ∀ y, v.ownBlock = some y → y < w.heap.size
  lo : w.heap.size < nb
  nodes : NO wr Fk vv L
  par : Bk wr w.heap.size 146 [q0, q1, q2]
  nod : Bk wr nb 135 [.slice none 0 0, kx, ki]
  rx : wr.ownsRow 0 9 1 kx keys.length (keys.map Value.string)
  ri : wr.ownsRow 0 3 1 ki kids.length (kids.map (Value.int .i64))
  fk : ∀ y, Fk y → (F y ∨ w.heap.size < y) ∧ y ≠ nb ∧ kx.ownBlock ≠ some y ∧ ki.ownBlock ≠ some y
  ff : ∀ y, F y → Fk y
  vb : ∀ y, vv.ownBlock = some y → (v.ownBlock = some y ∨ w.heap.size < y) ∧ y ≠ nb ∧ kx.ownBlock ≠ some y ∧ ki.ownBlock ≠ some y
  xb : ∀ y, kx.ownBlock = some y → w.heap.size < y ∧ y ≠ nb ∧ ki.ownBlock ≠ some y
  ib : ∀ y, ki.ownBlock = some y → w.heap.size < y ∧ y ≠ nb
  only : Only (fun y => v.ownBlock = some y) w wr
theorem LyI.keep {w wr w1 : World} {F : Nat → Prop} {v vv q0 q1 q2 : Value} {nb : Nat} {kx ki : Value} {Fk : Nat → Prop} {L : List NB} {keys : List ByteArray} {kids : List Int} (h : LyI w wr F v vv q0 q1 q2 nb kx ki Fk L keys kids) (hb : Below wr.heap.size wr w1) :
    LyI w w1 F v vv q0 q1 q2 nb kx ki Fk L keys kids :=
  { h with nodes := h.nodes.kept hb, par := h.par.below hb, nod := h.nod.below hb, rx := own_kept h.rx (only_of_below hb (fun _ => False)) (fun _ _ h => h), ri := own_kept h.ri (only_of_below hb (fun _ => False)) (fun _ _ h => h), only := h.only.trans (only_of_below hb _) }
/-- One more kid's number. -/
theorem LyI.addKid {w u w2 : World} {F : Nat → Prop} {v vv q0 q1 q2 : Value} {nb : Nat} {kx ki ki' : Value} {Fk : Nat → Prop} {L : List NB} {keys : List ByteArray} {kids : List Int} (h : LyI w u F v vv q0 q1 q2 nb kx ki Fk L keys kids) (z : Int)
    (ho : w2.ownsRow 0 3 1 ki' (kids.length + 1) (kids.map (Value.int .i64) ++ [.int .i64 z])) (hg : u.grownBy w2 ki.ownBlock) (ha : ki'.ownBlock = ki.ownBlock ∨ ki'.ownBlock = some u.heap.size) :
    LyI w (w2.setCell ⟨nb, 2, none⟩ ki') F v vv q0 q1 q2 nb kx ki' Fk L keys (kids ++ [z]) := by
  have hlo := h.lo
  have hnb := h.nod.lt
  have hu := h.only.size
  have o1 : Only (fun y => ki.ownBlock = some y) u w2 := only_of_grown hg (fun k e => e)
  have o2 : Only (fun y => y = nb) w2 (w2.setCell ⟨nb, 2, none⟩ ki') := only_set (R := fun y => y = nb) rfl _
  have o3 : Only (fun y => ki.ownBlock = some y ∨ y = nb) u (w2.setCell ⟨nb, 2, none⟩ ki') := (o1.mono (fun _ _ e => .inl e)).then o2 (fun _ _ e => .inr e)
  have new : ∀ y, y < u.heap.size → ki.ownBlock ≠ some y → ki'.ownBlock ≠ some y := by
    intro y hy hne e
    rcases ha with ha | ha
    · exact hne (ha ▸ e)
    · rw [ha] at e; cases e; omega
  have hki : ∀ y, ki'.ownBlock = some y → w.heap.size < y ∧ y ≠ nb := by
    intro y e
    rcases ha with ha | ha
    · exact h.ib y (ha ▸ e)
    · rw [ha] at e; cases e; omega
  refine ⟨h.fw, h.vw, h.lo, h.nodes.to o3 ?_ ?_, h.par.to o3 ?_, ?_, ?_, ?_, ?_, h.ff, ?_, ?_, hki, ?_⟩
  · rintro y hy (e | e)
    · exact (h.vb y hy).2.2.2 e
    · exact (h.vb y hy).2.1 e
  · rintro y hy (e | e)
    · exact (h.fk y hy).2.2.2 e
    · exact (h.fk y hy).2.1 e
  · rintro (e | e)
    · have := h.ib _ e; omega
    · omega
  · have k1 := h.nod.to o1 (fun e => (h.ib nb e).2 rfl)
    exact k1.set 2 ki'
  · exact own_kept h.rx o3 (by
      rintro y hy (e | e)
      · exact (h.xb y hy).2.2 e
      · exact (h.xb y hy).2.1 e)
  · have := own_kept ho o2 (fun y hy e => (hki y hy).2 e)
    simpa using this
  · intro y hy
    obtain ⟨a1, a2, a3, a4⟩ := h.fk y hy
    obtain ⟨V, _, _, _, n4, _⟩ := h.nodes
    exact ⟨a1, a2, a3, new y (n4 y hy).1 a4⟩
  · intro y hy
    obtain ⟨a1, a2, a3, a4⟩ := h.vb y hy
    exact ⟨a1, a2, a3, new y (h.nodes.lt y hy) a4⟩
  · intro y hy
    obtain ⟨a1, a2, a3⟩ := h.xb y hy
    exact ⟨a1, a2, new y (World.ownsRow.lt h.rx y hy).2 a3⟩
  · refine h.only.then o3 (fun y hy e => ?_)
    rcases e with e | e
    · have := h.ib y e; omega
    · omega
/-- One more kid's least key. -/
theorem LyI.addKey {w u w2 : World} {F : Nat → Prop} {v vv q0 q1 q2 : Value} {nb : Nat} {kx ki kx' : Value} {Fk : Nat → Prop} {L : List NB} {keys : List ByteArray} {kids : List Int} (h : LyI w u F v vv q0 q1 q2 nb kx ki Fk L keys kids) (z : ByteArray)
    (ho : w2.ownsRow 0 9 1 kx' (keys.length + 1) (keys.map Value.string ++ [.string z])) (hg : u.grownBy w2 kx.ownBlock) (ha : kx'.ownBlock = kx.ownBlock ∨ kx'.ownBlock = some u.heap.size) :
    LyI w (w2.setCell ⟨nb, 1, none⟩ kx') F v vv q0 q1 q2 nb kx' ki Fk L (keys ++ [z]) kids := by
  have hlo := h.lo
  have hnb := h.nod.lt
  have hu := h.only.size
  have o1 : Only (fun y => kx.ownBlock = some y) u w2 := only_of_grown hg (fun k e => e)
  have o2 : Only (fun y => y = nb) w2 (w2.setCell ⟨nb, 1, none⟩ kx') := only_set (R := fun y => y = nb) rfl _
  have o3 : Only (fun y => kx.ownBlock = some y ∨ y = nb) u (w2.setCell ⟨nb, 1, none⟩ kx') := (o1.mono (fun _ _ e => .inl e)).then o2 (fun _ _ e => .inr e)
  have new : ∀ y, y < u.heap.size → kx.ownBlock ≠ some y → kx'.ownBlock ≠ some y := by
    intro y hy hne e
    rcases ha with ha | ha
    · exact hne (ha ▸ e)
    · rw [ha] at e; cases e; omega
  have hkx : ∀ y, kx'.ownBlock = some y → w.heap.size < y ∧ y ≠ nb ∧ ki.ownBlock ≠ some y := by
    intro y e
    rcases ha with ha | ha
    · exact h.xb y (ha ▸ e)
    · rw [ha] at e; cases e
      exact ⟨by omega, by omega, fun e => by have := (World.ownsRow.lt h.ri _ e).2; omega⟩
  refine ⟨h.fw, h.vw, h.lo, h.nodes.to o3 ?_ ?_, h.par.to o3 ?_, ?_, ?_, ?_, ?_, h.ff, ?_, hkx, h.ib, ?_⟩
  · rintro y hy (e | e)
    · exact (h.vb y hy).2.2.1 e
    · exact (h.vb y hy).2.1 e
  · rintro y hy (e | e)
    · exact (h.fk y hy).2.2.1 e
    · exact (h.fk y hy).2.1 e
  · rintro (e | e)
    · have := h.xb _ e; omega
    · omega
  · have k1 := h.nod.to o1 (fun e => (h.xb nb e).2.1 rfl)
    exact k1.set 1 kx'
  · have := own_kept ho o2 (fun y hy e => (hkx y hy).2.1 e)
    simpa using this
  · exact own_kept h.ri o3 (by
      rintro y hy (e | e)
      · exact (h.xb y e).2.2 hy
      · exact (h.ib y hy).2 e)
  · intro y hy
    obtain ⟨a1, a2, a3, a4⟩ := h.fk y hy
    obtain ⟨V, _, _, _, n4, _⟩ := h.nodes
    exact ⟨a1, a2, new y (n4 y hy).1 a3, a4⟩
  · intro y hy
    obtain ⟨a1, a2, a3, a4⟩ := h.vb y hy
    exact ⟨a1, a2, new y (h.nodes.lt y hy) a3, a4⟩
  · refine h.only.then o3 (fun y hy e => ?_)
    rcases e with e | e
    · have := h.xb y e; omega
    · omega
/-- A kid's nodes have been laid. -/
theorem LyI.sub {w wr w1 : World} {F : Nat → Prop} {v vv v1 q0 q1 q2 : Value} {nb : Nat} {kx ki : Value} {Fk : Nat → Prop} {L M : List NB} {keys : List ByteArray} {kids : List Int} (h : LyI w wr F v vv q0 q1 q2 nb kx ki Fk L keys kids)
    (hn : NO w1 (fun y => Fk y ∨ (wr.heap.size ≤ y ∧ y < w1.heap.size ∧ v1.ownBlock ≠ some y)) v1 M) (ho : Only (fun y => vv.ownBlock = some y) wr w1) (hv : ∀ y, v1.ownBlock = some y → vv.ownBlock = some y ∨ wr.heap.size ≤ y) :
    LyI w w1 F v v1 q0 q1 q2 nb kx ki (fun y => Fk y ∨ (wr.heap.size ≤ y ∧ y < w1.heap.size ∧ v1.ownBlock ≠ some y)) M keys kids := by
  have hlo := h.lo
  have hnb := h.nod.lt
  have hp := h.par.lt
  have lx := fun y e => (World.ownsRow.lt h.rx y e).2
  have li := fun y e => (World.ownsRow.lt h.ri y e).2
  have nx : ∀ y, wr.heap.size ≤ y → y ≠ nb ∧ kx.ownBlock ≠ some y ∧ ki.ownBlock ≠ some y := by
    intro y hy
    refine ⟨by omega, fun e => ?_, fun e => ?_⟩
    · have := lx y e; omega
    · have := li y e; omega
  refine ⟨h.fw, h.vw, h.lo, hn, h.par.to ho (fun e => ?_), h.nod.to ho (fun e => (h.vb nb e).2.1 rfl), own_kept h.rx ho (fun y hy e => (h.vb y e).2.2.1 hy), own_kept h.ri ho (fun y hy e => (h.vb y e).2.2.2 hy), ?_, fun y hy => .inl (h.ff y hy), ?_, h.xb, h.ib, ?_⟩
  · rcases (h.vb _ e).1 with e | e
    · have := h.vw _ e; omega
    · omega
  · rintro y (hy | ⟨hy, _, _⟩)
    · exact h.fk y hy
    · exact ⟨.inr (by omega), nx y hy⟩
  · intro y hy
    rcases hv y hy with e | e
    · exact h.vb y e
    · exact ⟨.inr (by omega), nx y e⟩
  · refine h.only.then ho (fun y hy e => ?_)
    rcases (h.vb y e).1 with e | e
    · exact e
    · omega
end Go.Proofs.Ytbaggkfgnjenoaa

