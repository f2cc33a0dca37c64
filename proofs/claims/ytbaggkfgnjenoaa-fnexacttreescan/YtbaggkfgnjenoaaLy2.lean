/-
  l03Lay of the specification: laws of append for it, and plain facts of lists.
-/
import Derived.Test.YtbaggkfgnjenoaaLy
namespace Go.Proofs.Ytbaggkfgnjenoaa
open Go.RowKit
theorem wpList_append_zero {w : World} {ops : Array Oper} {rest : List Oper} {o : Oper} {a : Act} {Q : Exit → Act → World → Prop} (hgd : o.guard = none) (s x : Operand)
    (ho : o.op = .call { callee := .builtin .append, args := #[s, x], argTypes := #[61, 61] }) (F : Nat → Prop) (v : Value) (ns : List NB) (hs : a.eval s = v) (hown : NO w F v ns)
    (g : Nat) (hx : a.eval x = .slice (some ⟨g, 0, none⟩) 1 1) (hB : Bk w g 135 [.slice none 0 0, .slice none 0 0, .slice none 0 0]) (hb : ns.length ≤ 1048576)
    (h : ∀ g' n' c' w', NO w' F (.slice (some ⟨g', 0, none⟩) n' c') (ns ++ [⟨[], [], []⟩]) → Hid (n' = ns.length + 1) → w.grownBy w' v.ownBlock → ((Value.slice (some ⟨g', 0, none⟩) n' c').ownBlock = v.ownBlock ∨ (Value.slice (some ⟨g', 0, none⟩) n' c').ownBlock = some w.heap.size) → wpList Try.prog ops Q rest (a.put o.dst (.slice (some ⟨g', 0, none⟩) n' c')) w') : wpList Try.prog ops Q (o :: rest) a w := by
  obtain ⟨i, hi, hz, hsz, hby⟩ := info_of infoNodeI
  have hown' := hown
  obtain ⟨V, h1, h2, h3, h4⟩ := hown'
  refine wpList_append_row_at hgd s x 61 ho 0 135 i _ 3 72 Try.underlying61 hi hz hsz hby rfl (by decide) v ns.length (ncs V) hs h2 (fun _ => True) _ 1 [.slice none 0 0, .slice none 0 0, .slice none 0 0] hx (hB.rw (Nat.le_refl _) (by omega) (fun h => by omega) _ trivial) rfl
    (by intro u hu; simp at hu; subst hu; rfl) (by unfold maxLen; omega) (by omega) (Nat.zero_le _) ?_
  intro v' w' k1 k2 k3
  rcases k1.2 with ⟨_, e⟩ | ⟨g', cap, cur, e, _⟩
  · omega
  · subst e
    refine h g' _ cap w' ?_ rfl k2 k3
    have hN0 : NO w F v ns := hown
    refine hN0.push ⟨[], [], []⟩ (.slice none 0 0, .slice none 0 0, .slice none 0 0) (n1K_nil _ _) (fun V' e1 e2 => ?_) k2 k3
    have hV : ncs V' = ncs V := by
      rcases e2.2 with ⟨rfl, e3⟩ | ⟨g1, c1, cur1, rfl, _, e5, _, _, _, e6⟩
      · rw [List.eq_nil_of_length_eq_zero (by omega : V'.length = 0), List.eq_nil_of_length_eq_zero (by omega : V.length = 0)]
      · rcases h2.2 with ⟨e7, _⟩ | ⟨g2, c2, cur2, e7, _, e8, _, _, _, e9⟩
        · cases e7
        · cases e7
          rw [e5] at e8
          cases e8
          rw [← e6, ← e9]
    rw [hV]
    exact k1
theorem kc0_5 {u : World} {a0 a1 a2 a3 a4 : Addr} {x0 x1 x2 x3 x4 : Value} (h0 : u.cell? a0 = some x0) (h1 : u.cell? a1 = some x1) (h2 : u.cell? a2 = some x2) (h3 : u.cell? a3 = some x3) (h4 : u.cell? a4 = some x4) : KC u u [(a0, x0), (a1, x1), (a2, x2), (a3, x3), (a4, x4)] :=
  ⟨fun p hp => by simp at hp; rcases hp with rfl | rfl | rfl | rfl | rfl <;> assumption, Below.refl _ _⟩
theorem NO.rowAt {w : World} {F : Nat → Prop} {a : Option Addr} {n c : Nat} {ns : List NB} (h : NO w F (.slice a n c) ns) (hp : 0 < ns.length) : ∃ g, a = some ⟨g, 0, none⟩ ∧ Hid (n = ns.length) := by
  obtain ⟨V, h1, h2, h3, h4⟩ := h
  rcases h2.2 with ⟨e, e2⟩ | ⟨g, cap, cur, e, _⟩
  · omega
  · cases e
    exact ⟨g, rfl, rfl⟩
theorem places_length (ks : List T) : ∀ a, (places a ks).length = ks.length := by
  induction ks with
  | nil => intro a; rfl
  | cons k ks ih => intro a; simp [places, ih]
theorem infoStr' : (Try.prog.info? 9).map (fun i => (i.zero, i.size, i.bytes)) = some (some (.string ⟨#[]⟩), 1, 16) := by kernel_rfl
theorem infoInt' : (Try.prog.info? 3).map (fun i => (i.zero, i.size, i.bytes)) = some (some (.int .i64 0), 1, 8) := by kernel_rfl
theorem wpList_append_int1 {w : World} {ops : Array Oper} {rest : List Oper} {o : Oper} {a : Act} {Q : Exit → Act → World → Prop} (hgd : o.guard = none) (s x : Operand)
    (ho : o.op = .call { callee := .builtin .append, args := #[s, x], argTypes := #[126, 126] }) (v : Value) (n : Nat) (xs : List Value) (hs : a.eval s = v) (hown : w.ownsRow 0 3 1 v n xs)
    (g : Nat) (z : Int) (hx : a.eval x = .slice (some ⟨g, 0, none⟩) 1 1) (hB : Bk w g 3 [.int .i64 z]) (hb : n ≤ 1048576)
    (h : ∀ a' n' c' w', w'.ownsRow 0 3 1 (.slice a' n' c') (n + 1) (xs ++ [.int .i64 z]) → w.grownBy w' v.ownBlock → ((Value.slice a' n' c').ownBlock = v.ownBlock ∨ (Value.slice a' n' c').ownBlock = some w.heap.size) → wpList Try.prog ops Q rest (a.put o.dst (.slice a' n' c')) w') : wpList Try.prog ops Q (o :: rest) a w := by
  obtain ⟨i, hi, hz, hsz, hby⟩ := info_of infoInt'
  refine wpList_append_row_at hgd s x 126 ho 0 3 i _ 1 8 Try.underlying126 hi hz hsz hby rfl (by decide) v n xs hs hown (fun _ => True) _ 1 [.int .i64 z] hx (hB.rw (Nat.le_refl _) (by omega) (fun h => by omega) _ trivial) rfl
    (by intro u hu; simp at hu; subst hu; rfl) (by unfold maxLen; omega) (by omega) (Nat.zero_le _) ?_
  intro v' w' k1 k2 k3
  obtain ⟨a', c', rfl⟩ := own_shape k1
  exact h a' _ c' w' k1 k2 k3
/-- append of one string as a step of a region that draws. -/
theorem step_append_str1 {w : World} {ops : Array Oper} {o : Oper} {a : Act} {K : Act → World → Prop} {Q : Exit → Act → World → Prop} {E : Prop} (hgd : o.guard = none) (s x : Operand)
    (ho : o.op = .call { callee := .builtin .append, args := #[s, x], argTypes := #[127, 127] }) (v : Value) (n : Nat) (xs : List Value) (hs : a.eval s = v) (hown : w.ownsRow 0 9 1 v n xs)
    (g : Nat) (z : ByteArray) (hx : a.eval x = .slice (some ⟨g, 0, none⟩) 1 1) (hB : w.cell? ⟨g, 0, none⟩ = some (.string z)) (hb : n ≤ 1048576) (b0 o0 : Nat) (x0 : Value) (hc0 : w.cell? ⟨b0, o0, none⟩ = some x0) (hf0 : w.frozen? ⟨b0, o0, none⟩ = false) (hne : v.ownBlock ≠ some b0)
    (h : ∀ a' n' c' w', w'.ownsRow 0 9 1 (.slice a' n' c') (n + 1) (xs ++ [.string z]) → w.grownBy w' v.ownBlock → ((Value.slice a' n' c').ownBlock = v.ownBlock ∨ (Value.slice a' n' c').ownBlock = some w.heap.size) → w'.cell? ⟨b0, o0, none⟩ = some x0 → w'.frozen? ⟨b0, o0, none⟩ = false → K (a.put o.dst (.slice a' n' c')) w') :
    if Region.wanted o (yielded ops a.tmps) = true then Oper.wp Try.prog o a w K Q else E := by
  have hw : Region.wanted o (yielded ops a.tmps) = true := by simp [Region.wanted, hgd]
  rw [if_pos hw]
  obtain ⟨i, hi, hz, hsz, hby⟩ := info_of infoStr'
  have hsrc : Rw w (fun _ => True) (.slice (some ⟨g, 0, none⟩) 1 1) 1 [.string z] := by
    refine ⟨_, 1, rfl, Nat.le_refl _, by omega, fun h => by omega, fun h => (by cases h), fun _ => ⟨g, 0, rfl, block_lt hB, trivial, fun j u hu => ?_⟩⟩
    cases j with
    | zero => simp at hu; subst hu; simpa using hB
    | succ j => simp at hu
  obtain ⟨v', w', hr, h2, h3, h5⟩ := run_append_row_at (P := Try.prog) (w := w) 0 127 o.type 9 i _ 1 16 Try.underlying127 hi hz hsz hby rfl (by decide) v n xs hown (fun _ => True) _ 1 [.string z] hsrc rfl (by intro u hu; simp at hu; subst hu; rfl) (by unfold maxLen; omega) (by omega) (Nat.zero_le _)
  obtain ⟨a', c', rfl⟩ := own_shape h2
  have hbl := h3.block b0 (block_lt hc0) (fun e => hne e.symm)
  unfold Oper.wp execOp
  simp only [ho, resolve, invoke, builtin, Sem.run_bind, Sem.run_pure, Result.andThen_ok, List.map_toArray, List.map_cons, List.map_nil, hs, hx, hr]
  exact h a' _ c' w' h2 h3 h5 ((World.cell?_of_block (w := w) (a := ⟨b0, o0, none⟩) hbl).trans hc0) ((World.frozen?_of_block (w := w) (a := ⟨b0, o0, none⟩) hbl).trans hf0)
/-- Cells that are kept, R alone of the blocks having turned. -/
structure KO (R : Nat → Prop) (u v : World) (cs : List (Addr × Value)) : Prop where
  cells : ∀ p ∈ cs, u.cell? p.1 = some p.2 ∧ ¬ R p.1.block
  only : Only R u v
theorem KO.at {R : Nat → Prop} {u v : World} {cs : List (Addr × Value)} (h : KO R u v cs) {a : Addr} {x : Value} (hp : (a, x) ∈ cs) : v.cell? a = some x := by
  obtain ⟨hc, hr⟩ := h.cells (a, x) hp
  exact (World.cell?_of_block (w := u) (h.only.block a.block (block_lt hc) hr)).trans hc
theorem ko4 {R : Nat → Prop} {u v : World} {a0 a1 a2 a3 : Addr} {x0 x1 x2 x3 : Value} (h : KO R u v [(a0, x0), (a1, x1), (a2, x2), (a3, x3)]) : v.cell? a0 = some x0 ∧ v.cell? a1 = some x1 ∧ v.cell? a2 = some x2 ∧ v.cell? a3 = some x3 ∧ KO R u v [(a0, x0), (a1, x1), (a2, x2), (a3, x3)] := ⟨h.at (by simp), h.at (by simp), h.at (by simp), h.at (by simp), h⟩
theorem ko4o {R : Nat → Prop} {u v v' : World} {a0 a1 a2 a3 : Addr} {x0 x1 x2 x3 : Value} (k : Only R v v') (h : v.cell? a0 = some x0 ∧ v.cell? a1 = some x1 ∧ v.cell? a2 = some x2 ∧ v.cell? a3 = some x3 ∧ KO R u v [(a0, x0), (a1, x1), (a2, x2), (a3, x3)]) : v'.cell? a0 = some x0 ∧ v'.cell? a1 = some x1 ∧ v'.cell? a2 = some x2 ∧ v'.cell? a3 = some x3 ∧ KO R u v' [(a0, x0), (a1, x1), (a2, x2), (a3, x3)] :=
  ko4 ⟨h.2.2.2.2.cells, h.2.2.2.2.only.trans k⟩
theorem szL_take (ks : List T) (k : Nat) (h : k < ks.length) : szL (ks.take (k + 1)) = szL (ks.take k) + (tAt ks k).size := by
  induction ks generalizing k with
  | nil => simp at h
  | cons x ks ih =>
    cases k with
    | zero => simp [szL, tAt]
    | succ k =>
      have := ih k (by simpa using h)
      simp only [List.take_succ_cons, szL, this, Nat.add_assoc]
      rfl
theorem layL_take (ks : List T) (k a : Nat) (h : k < ks.length) : layL a (ks.take (k + 1)) = layL a (ks.take k) ++ lay (a + szL (ks.take k)) (tAt ks k) := by
  induction ks generalizing k a with
  | nil => simp at h
  | cons x ks ih =>
    cases k with
    | zero => simp [layL, tAt, szL]
    | succ k =>
      have := ih k (a + x.size) (by simpa using h)
      simp only [List.take_succ_cons, layL, this, List.append_assoc, szL, Nat.add_assoc]
      rfl
theorem places_take (ks : List T) (k a : Nat) (h : k < ks.length) : places a (ks.take (k + 1)) = places a (ks.take k) ++ [((a + szL (ks.take k) : Nat) : Int)] := by
  induction ks generalizing k a with
  | nil => simp at h
  | cons x ks ih =>
    cases k with
    | zero => simp [places, szL]
    | succ k =>
      have := ih k (a + x.size) (by simpa using h)
      simp only [List.take_succ_cons, places, this, List.cons_append, szL, Nat.add_assoc]
theorem keys_take (ks : List T) (k : Nat) (h : k + 1 < ks.length) : (ks.take (k + 1 + 1)).tail.map T.least = (ks.take (k + 1)).tail.map T.least ++ [(tAt ks (k + 1)).least] := by
  cases ks with
  | nil => simp at h
  | cons x ks =>
    simp only [List.take_succ_cons, List.tail_cons]
    have hk : k < ks.length := by simpa using h
    have e : ks.take (k + 1) = ks.take k ++ [tAt (x :: ks) (k + 1)] := by
      rw [List.take_succ_eq_append_getElem hk]
      simp [tAt, hk]
    rw [e, List.map_append]
    rfl
theorem szL_take_le (ks : List T) (k : Nat) : szL (ks.take k) ≤ szL ks := by
  induction ks generalizing k with
  | nil => simp [szL]
  | cons x ks ih =>
    cases k with
    | zero => simp [szL]
    | succ k =>
      have := ih k
      simp only [List.take_succ_cons, szL]
      omega
theorem ncs_set0 (V : List V3) (x : Value) : ∀ j, j < V.length → ncs (V.set j (x, (vAt V j).2)) = (ncs V).set (j * 3) x := by
  induction V with
  | nil => intro j h; exact absurd h (Nat.not_lt_zero _)
  | cons q V ih =>
    intro j h
    cases j with
    | zero => rfl
    | succ j =>
      have := ih j (by simpa using h)
      rw [show (j + 1) * 3 = j * 3 + 3 by omega]
      show q.1 :: q.2.1 :: q.2.2 :: ncs (V.set j (x, (vAt V j).2)) = _
      rw [this]
      rfl
/-- What a store of one cell of a node does. -/
theorem NO.put0 {w : World} {F G : Nat → Prop} {ms l : List NB} {z : NB} {g n c : Nat} {pv : Value} {ps : List PB} (h' : NO w G (.slice (some ⟨g, 0, none⟩) n c) (ms ++ z :: l)) (hGF : ∀ y, G y → F y) (h4 : ∀ y, F y → y < w.heap.size ∧ (Value.slice (some ⟨g, 0, none⟩) n c).ownBlock ≠ some y) (hp : w.ownsRow 0 69 2 pv ps.length (pcs ps)) (hpf : ∀ y, pv.ownBlock = some y → F y ∧ ¬ G y) :
    NO (w.setCell ⟨g, ms.length * 3, none⟩ pv) F (.slice (some ⟨g, 0, none⟩) n c) (ms ++ ⟨ps, z.keys, z.kids⟩ :: l) := by
  obtain ⟨V, h1, h2, h3', _, h5⟩ := h'
  have h3 := fun i hi => (h3' i hi).mono (R := F) (fun y hy _ => hGF y hy)
  have hgb : (Value.slice (some ⟨g, 0, none⟩) n c).ownBlock = some g := rfl
  have o : Only (fun y => y = g) w (w.setCell ⟨g, ms.length * 3, none⟩ pv) := only_set (R := fun y => y = g) rfl _
  have hF : ∀ y, F y → ¬ y = g := fun y hy e => (h4 y hy).2 (by rw [hgb, e])
  have hl : ms.length < (ms ++ z :: l).length := by simp
  have hl2 : (ms ++ (⟨ps, z.keys, z.kids⟩ : NB) :: l).length = (ms ++ z :: l).length := by simp
  have hn := h3 ms.length hl
  rw [nAt_append_at] at hn
  refine ⟨V.set ms.length (pv, (vAt V ms.length).2), by rw [List.length_set, h1, hl2], ?_, fun i hi => ?_, fun y hy => ⟨Nat.lt_of_lt_of_le (h4 y hy).1 o.size, (h4 y hy).2⟩, fun i j hi hj hij y hy hz => ?_⟩
  · rw [ncs_set0 _ _ _ (by omega), hl2]
    obtain ⟨k1, k2⟩ := h2
    rcases k2 with ⟨k2, _⟩ | ⟨g', cap, cur, e, k3, k4, k5, k6, k7, k8⟩
    · cases k2
    · cases e
      refine ⟨by simpa using k1, .inr ⟨g, c, cur.setIfInBounds (ms.length * 3) pv, rfl, k3, ?_, k5, k6, by simpa using k7, ?_⟩⟩
      · simp [World.setCell, Array.getElem?_modify, k4]
      · rw [← k8]
        simp only [Array.toList_setIfInBounds, List.take_set]
  · by_cases e : i = ms.length
    · subst e
      rw [vAt_set _ _ _ (by omega), nAt_append_at]
      have hN' := hn.to o (fun y hy _ => hF y hy)
      have hG' : ∀ y, bl (vAt V ms.length) y → G y := (h3' ms.length hl).2.2.2
      have hown : OwN (w.setCell ⟨g, ms.length * 3, none⟩ pv) (pv, (vAt V ms.length).2) ⟨ps, z.keys, z.kids⟩ := ⟨own_kept hp o (fun y hy e => hF y (hpf y hy).1 e), hN'.2.1.2⟩
      have hbl : ∀ y, bl (pv, (vAt V ms.length).2) y → F y := by
        rintro y (e | e)
        · exact (hpf y e).1
        · exact hGF y (hG' y (.inr e))
      refine ⟨hown.n1 hbl, hown, fun y => ⟨fun e => ⟨fun d => (hpf y e).2 (hG' y (.inr (.inl d))), fun d => (hpf y e).2 (hG' y (.inr (.inr d)))⟩, (hN'.2.2.1 y).2⟩, hbl⟩
    · rw [vAt_other _ _ _ _ e]
      have : nAt (ms ++ (⟨ps, z.keys, z.kids⟩ : NB) :: l) i = nAt (ms ++ z :: l) i := by
        by_cases hi2 : i < ms.length
        · rw [nAt_append_left hi2, nAt_append_left hi2]
        · obtain ⟨j, rfl⟩ : ∃ j, i = ms.length + 1 + j := ⟨i - ms.length - 1, by omega⟩
          simp only [nAt]
          rw [List.getElem?_append_right (by omega), List.getElem?_append_right (by omega), show ms.length + 1 + j - ms.length = j + 1 by omega]
          rfl
      rw [this]
      exact (h3 i (by omega)).to o (fun y hy _ => hF y hy)
  · rw [hl2] at hi hj
    have hot : ∀ k, k < (ms ++ z :: l).length → k ≠ ms.length → ∀ y, bl (pv, (vAt V ms.length).2) y → ¬ bl (vAt V k) y := by
      rintro k hk hne y (e | e) d
      · exact (hpf y e).2 ((h3' k hk).2.2.2 y d)
      · exact h5 ms.length k hl hk (Ne.symm hne) y (.inr e) d
    by_cases e : i = ms.length
    · subst e
      rw [vAt_set _ _ _ (by omega)] at hy
      rw [vAt_other _ _ _ _ (Ne.symm hij)] at hz
      exact hot j hj (Ne.symm hij) y hy hz
    · rw [vAt_other _ _ _ _ e] at hy
      by_cases d : j = ms.length
      · subst d
        rw [vAt_set _ _ _ (by omega)] at hz
        exact hot i hi e y hz hy
      · rw [vAt_other _ _ _ _ d] at hz
        exact h5 i j hi hj hij y hy hz
theorem NO.cells {w : World} {F : Nat → Prop} {g n c : Nat} {ns : List NB} (h : NO w F (.slice (some ⟨g, 0, none⟩) n c) ns) (i : Nat) (hi : i < ns.length) : (∃ x0 x1 x2, w.cell? ⟨g, i * 3, none⟩ = some x0 ∧ w.cell? ⟨g, i * 3 + 1, none⟩ = some x1 ∧ w.cell? ⟨g, i * 3 + 2, none⟩ = some x2) ∧ ∀ o, w.frozen? ⟨g, o, none⟩ = false := by
  obtain ⟨V, h1, h2, h3, h4, _⟩ := h
  have hc := World.ownsRow.cells h2 (g := g) rfl
  obtain ⟨c0, c1, c2⟩ := ncs_at V i (by omega)
  have d0 := hc _ _ c0
  have d1 := hc _ _ c1
  have d2 := hc _ _ c2
  rw [Addr.add_lit, Nat.zero_add] at d0 d1 d2
  refine ⟨⟨_, _, _, d0, d1, d2⟩, fun o => ?_⟩
  rcases h2.2 with ⟨e, _⟩ | ⟨g', cap, cur, e, _, k4, _⟩
  · cases e
  · cases e
    simp [World.frozen?, k4]
end Go.Proofs.Ytbaggkfgnjenoaa

