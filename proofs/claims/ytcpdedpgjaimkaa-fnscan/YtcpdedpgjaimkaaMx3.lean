/-
  l03Put of the specification.
-/
import Derived.Test.YtcpdedpgjaimkaaMx2
import Derived.Deep.RegionLaw
import Derived.Deep.DeepCutAuto
namespace Go.Proofs.Ytcpdedpgjaimkaa
open Go.RowKit
/-- What is kept while a leaf's pairs are gone through: the pair, and the list that is made. -/
structure LeafI (w wr : World) (k v : ByteArray) (o : Value) (l : List PB) : Prop where
  p : Bk wr (w.heap.size + 1) 33 [.string k, .string v]
  o : Ow wr (w.heap.size + 2) o l
  b : Below w.heap.size w wr
  s : w.heap.size + 2 ≤ wr.heap.size
theorem LeafI.keep {w wr w1 : World} {k v : ByteArray} {o : Value} {l : List PB} (h : LeafI w wr k v o l) (hb : Below wr.heap.size wr w1) : LeafI w w1 k v o l := ⟨h.p.below hb, h.o.kept hb, Below.then' h.b hb (Nat.le_refl _), Nat.le_trans h.s hb.size⟩
theorem LeafI.push {w u w2 : World} {k v : ByteArray} {o o' : Value} {l l' : List PB} (h : LeafI w u k v o l) (hO : Ow w2 (w.heap.size + 2) o' l') (hg : u.grownBy w2 o.ownBlock) : LeafI w w2 k v o' l' := by
  have hlt := fun x e => (World.ownsRow.lt h.o x e).1
  have hon : Only (fun y => o.ownBlock = some y) u w2 := only_of_grown hg (fun _ e => e)
  exact ⟨h.p.to hon (fun e => by have := hlt _ e; omega), hO, h.b.trans (hon.below h.b.size (fun b hb e => by have := hlt _ e; omega)), Nat.le_trans h.s hg.size⟩
theorem insS_cons (x : PB) (l : List PB) (p : PB) (d : Bool) : insS (x :: l) p d = (if d = false ∧ klt x.1 p.1 = false then [p] else []) ++ ((if x.1 = p.1 then [] else [x]) ++ insS l p (d || !klt x.1 p.1)) := rfl
theorem drop_pAtB {ps : List PB} {i : Nat} (h : i < ps.length) : ps.drop i = pAtB ps i :: ps.drop (i + 1) := by rw [pAtB_lt h, List.getElem_cons_drop h]
theorem insS_len (l : List PB) (p : PB) : ∀ d, (insS l p d).length ≤ l.length + 1 + l.length := by
  induction l with
  | nil => intro d; simp only [insS]; split <;> simp
  | cons x l ih =>
    intro d
    rw [insS_cons]
    have := ih (d || !klt x.1 p.1)
    simp only [List.length_append, List.length_cons]
    split <;> split <;> simp <;> omega
/-- An owned row of subs, its subs lying in other blocks. -/
def SO (w : World) (base : Nat) (S : Nat → Prop) (v : Value) (ts : List T) : Prop := ∃ L P K, w.ownsRow base 169 3 v ts.length (ncs (mkV L P K ts.length)) ∧ (∀ i, i < ts.length → Sub w S (L i) (P i) (K i) (tAt ts i)) ∧ ∀ y, S y → v.ownBlock ≠ some y
theorem SO.to {w w' : World} {base : Nat} {S R : Nat → Prop} {v : Value} {ts : List T} (h : SO w base S v ts) (ho : Only R w w') (hv : ∀ y, v.ownBlock = some y → ¬ R y) (hR : ∀ y, S y → y < w.heap.size → ¬ R y) : SO w' base S v ts := by
  obtain ⟨L, P, K, h1, h2, h3⟩ := h
  exact ⟨L, P, K, own_kept h1 ho hv, fun i hi => (h2 i hi).to ho hR, h3⟩
theorem SO.kept {w w' : World} {base : Nat} {S : Nat → Prop} {v : Value} {ts : List T} (h : SO w base S v ts) (hb : Below w.heap.size w w') : SO w' base S v ts := h.to (only_of_below hb (fun _ => False)) (fun _ _ h => h) (fun _ _ _ h => h)
theorem SO.shape {w : World} {base : Nat} {S : Nat → Prop} {v : Value} {ts : List T} (h : SO w base S v ts) : ∃ a n c, v = .slice a n c ∧ Hid (n = ts.length) := by
  obtain ⟨L, P, K, h1, _⟩ := h
  obtain ⟨a, c, e⟩ := own_shape h1
  exact ⟨a, _, c, e, rfl⟩
theorem SO.subR {w : World} {base : Nat} {S R : Nat → Prop} {v : Value} {ts : List T} (h : SO w base S v ts) (hv : ∀ y, v.ownBlock = some y → base ≤ y → y < w.heap.size → R y) (hS : ∀ y, S y → y < w.heap.size → R y) : SubR w R v ts := by
  obtain ⟨L, P, K, h1, h2, h3⟩ := h
  exact ⟨L, P, K, rw_own h1 hv, fun i hi => (h2 i hi).mono hS⟩
theorem so_new (w : World) (base : Nat) (hb : base ≤ w.heap.size) : SO (w.alloc (.cells #[] 169)) base (fun _ => False) (.slice (some ⟨w.heap.size, 0, none⟩) 0 0) [] :=
  ⟨fun _ => false, fun _ => .slice none 0 0, fun _ => .slice none 0 0, ⟨rfl, .inr ⟨w.heap.size, 0, #[], rfl, hb, heap_alloc_new w _, Nat.le_refl _, by decide, rfl, rfl⟩⟩, fun i hi => by simp at hi, fun _ h => h.elim⟩
theorem mkV_one {w : World} {S : Nat → Prop} {L : Nat → Bool} {P K : Nat → Value} {ts : List T} (h : ∀ i, i < ts.length → Sub w S (L i) (P i) (K i) (tAt ts i)) : ∀ u ∈ ncs (mkV L P K ts.length), u.oneCell' = true := by
  intro u hu
  obtain ⟨j, hj⟩ := List.mem_iff_getElem?.1 hu
  have hl : (ncs (mkV L P K ts.length)).length = ts.length * 3 := by rw [ncs_length, mkV_length]
  have hjl := (List.getElem?_eq_some_iff.1 hj).1
  have hi : j / 3 < ts.length := by omega
  obtain ⟨c0, c1, c2⟩ := ncs_at (mkV L P K ts.length) (j / 3) (by rw [mkV_length]; exact hi)
  rw [mkV_at _ _ _ _ _ hi] at c0 c1 c2
  obtain ⟨ap, np, cp, ak, nk, ck, e1, e2, _⟩ := (h _ hi).shape
  simp only at c0 c1 c2
  rw [e1] at c1
  rw [e2] at c2
  rcases (show j = j / 3 * 3 ∨ j = j / 3 * 3 + 1 ∨ j = j / 3 * 3 + 2 by omega) with e | e | e
  · rw [e, c0] at hj; cases hj; rfl
  · rw [e, c1] at hj; cases hj; rfl
  · rw [e, c2] at hj; cases hj; rfl
/-- append(row, others...) -/
theorem run_append_subs {w : World} {ty : TypeId} (base : Nat) (S S2 : Nat → Prop) (v src : Value) (ts us : List T) (hown : SO w base S v ts) (hsrc : SubR w S2 src us) (hap : ∀ y, S2 y → v.ownBlock ≠ some y) (hb : ts.length + us.length ≤ 1048576) (hbase : base ≤ w.heap.size) :
    ∃ v' w', (Builtin.append_ #[167, 167] ty #[v, src]).run Try.prog w = .ok v' w' ∧ SO w' base (fun y => (S y ∨ S2 y) ∧ y < w.heap.size) v' (ts ++ us) ∧ w.grownBy w' v.ownBlock ∧ (v'.ownBlock = v.ownBlock ∨ v'.ownBlock = some w.heap.size) := by
  obtain ⟨i, hi, hz, hsz, hby⟩ := info_of infoSub
  obtain ⟨L, P, K, h1, h2, h3⟩ := hown
  obtain ⟨L2, P2, K2, k1, k2⟩ := hsrc
  obtain ⟨v', w', hr, ho, hg, ha⟩ := run_append_row_at (P := Try.prog) (w := w) base 167 ty 169 i _ 3 56 Try.underlying167 hi hz hsz hby rfl (by decide) v ts.length _ h1 S2 src us.length _ k1 (by rw [ncs_length, mkV_length]) (mkV_one k2) (by unfold maxLen; omega) (by omega) hbase
  have hon : Only (fun y => v.ownBlock = some y) w w' := only_of_grown hg (fun _ e => e)
  rw [← ncs_append, mkV_app] at ho
  refine ⟨v', w', hr, ⟨_, _, _, by rw [List.length_append]; exact ho, fun j hj => ?_, fun y hy => ?_⟩, hg, ha⟩
  · rw [List.length_append] at hj
    by_cases e : j < ts.length
    · simp only [e, if_true]
      rw [tAt_app1 e]
      exact ((h2 j e).mono (R := fun y => (S y ∨ S2 y) ∧ y < w.heap.size) (fun y hy hl => ⟨.inl hy, hl⟩)).to hon (fun y hy _ => hy.1.elim (h3 y) (hap y))
    · simp only [e, if_false]
      rw [tAt_app2 (by omega)]
      exact ((k2 (j - ts.length) (by omega)).mono (R := fun y => (S y ∨ S2 y) ∧ y < w.heap.size) (fun y hy hl => ⟨.inr hy, hl⟩)).to hon (fun y hy _ => hy.1.elim (h3 y) (hap y))
  · rcases ha with e | e
    · rw [e]; exact hy.1.elim (h3 y) (hap y)
    · rw [e]; intro h; cases h; exact absurd hy.2 (Nat.lt_irrefl _)
theorem wpList_append_subs {w : World} {ops : Array Oper} {rest : List Oper} {o : Oper} {a : Act} {Q : Exit → Act → World → Prop} (hgd : o.guard = none) (s x : Operand)
    (ho : o.op = .call { callee := .builtin .append, args := #[s, x], argTypes := #[167, 167] }) (base : Nat) (S S2 : Nat → Prop) (v src : Value) (ts us : List T) (hs : a.eval s = v) (hown : SO w base S v ts) (hx : a.eval x = src) (hsrc : SubR w S2 src us) (hap : ∀ y, S2 y → v.ownBlock ≠ some y) (hb : ts.length + us.length ≤ 1048576) (hbase : base ≤ w.heap.size)
    (h : ∀ v' w', SO w' base (fun y => (S y ∨ S2 y) ∧ y < w.heap.size) v' (ts ++ us) → w.grownBy w' v.ownBlock → (v'.ownBlock = v.ownBlock ∨ v'.ownBlock = some w.heap.size) → wpList Try.prog ops Q rest (a.put o.dst v') w') : wpList Try.prog ops Q (o :: rest) a w := by
  refine wpList_plain hgd fun K hK => ?_
  obtain ⟨v', w', hr, h2, h3, h4⟩ := run_append_subs (w := w) (ty := o.type) base S S2 v src ts us hown hsrc hap hb hbase
  unfold Oper.wp execOp
  simp only [ho, resolve, invoke, builtin, Sem.run_bind, Sem.run_pure, Result.andThen_ok, List.map_toArray, List.map_cons, List.map_nil, hs, hx, hr]
  exact hK _ _ (h v' w' h2 h3 h4)
theorem step_append_subs {w : World} {ops : Array Oper} {o : Oper} {a : Act} {K : Act → World → Prop} {Q : Exit → Act → World → Prop} {E : Prop} (hgd : o.guard = none) (s x : Operand)
    (ho : o.op = .call { callee := .builtin .append, args := #[s, x], argTypes := #[167, 167] }) (base : Nat) (S S2 : Nat → Prop) (v src : Value) (ts us : List T) (hs : a.eval s = v) (hown : SO w base S v ts) (hx : a.eval x = src) (hsrc : SubR w S2 src us) (hap : ∀ y, S2 y → v.ownBlock ≠ some y) (hb : ts.length + us.length ≤ 1048576) (hbase : base ≤ w.heap.size)
    (h : ∀ v' w', SO w' base (fun y => (S y ∨ S2 y) ∧ y < w.heap.size) v' (ts ++ us) → w.grownBy w' v.ownBlock → (v'.ownBlock = v.ownBlock ∨ v'.ownBlock = some w.heap.size) → K (a.put o.dst v') w') :
    if Region.wanted o (yielded ops a.tmps) = true then Oper.wp Try.prog o a w K Q else E := by
  have hw : Region.wanted o (yielded ops a.tmps) = true := by simp [Region.wanted, hgd]
  rw [if_pos hw]
  obtain ⟨v', w', hr, h2, h3, h4⟩ := run_append_subs (w := w) (ty := o.type) base S S2 v src ts us hown hsrc hap hb hbase
  unfold Oper.wp execOp
  simp only [ho, resolve, invoke, builtin, Sem.run_bind, Sem.run_pure, Result.andThen_ok, List.map_toArray, List.map_cons, List.map_nil, hs, hx, hr]
  exact h v' w' h2 h3 h4
def LeafPut (w : World) (S : Nat → Prop) (t : T) (k v : ByteArray) (lf : Bool) (ap ak : Option Addr) (np cp nk ck : Nat) : Prop := Calls Try.prog 173 #[.agg #[.bool lf, .slice ap np cp, .slice ak nk ck], .agg #[.string k, .string v]] w fun e w' => SubsPost w S (splT (.mk (insS t.ps (k, v) false) [])) e w'
set_option maxHeartbeats 2000000 in
set_option maxRecDepth 20000 in
theorem specPut_leaf (S : Nat → Prop) (ap ak : Option Addr) (np cp ck : Nat) (t : T) (k v : ByteArray) (w : World) (h : Sub w S true (.slice ap np cp) (.slice ak 0 ck) t) (hs : t.ps.length ≤ 4) :
    LeafPut w S t k v true ap ak np cp 0 ck := by
  unfold LeafPut
  obtain ⟨_, _, _, _, _, _, e1, e2, HNP, HNK, b1, b2, -, hP⟩ := h.shape
  cases e1
  cases e2
  have hnp : np ≤ 4 := by rw [HNP.out]; exact hs
  have HP := hid hP
  have HB0 : Hid (Below w.heap.size w ((w.alloc (.cells #[.bool true, .slice ap np cp, .slice ak 0 ck] 169)).alloc (.cells #[.string k, .string v] 33))) := below_new (below_new (Below.refl _ _))
  have KS : Hid (Bk ((w.alloc (.cells #[.bool true, .slice ap np cp, .slice ak 0 ck] 169)).alloc (.cells #[.string k, .string v] 33)) w.heap.size 169 [.bool true, .slice ap np cp, .slice ak 0 ck]) := (Bk.new w 169 [.bool true, .slice ap np cp, .slice ak 0 ck]).alloc _
  have KP : Hid (Bk ((w.alloc (.cells #[.bool true, .slice ap np cp, .slice ak 0 ck] 169)).alloc (.cells #[.string k, .string v] 33)) (w.heap.size + 1) 33 [.string k, .string v]) := by
    have := Bk.new (w.alloc (.cells #[.bool true, .slice ap np cp, .slice ak 0 ck] 169)) 33 [.string k, .string v]
    show Bk _ _ _ _
    simpa using this
  have HSZ : Hid (((w.alloc (.cells #[.bool true, .slice ap np cp, .slice ak 0 ck] 169)).alloc (.cells #[.string k, .string v] 33)).heap.size = w.heap.size + 2) := by show _ = _; simp
  have c0 := KS.out.cell (j := 0) rfl
  have c1 := (KS.out.alloc (.cells #[] 33)).cell (j := 1) rfl
  have HI0 : Hid (LeafI w (((w.alloc (.cells #[.bool true, .slice ap np cp, .slice ak 0 ck] 169)).alloc (.cells #[.string k, .string v] 33)).alloc (.cells #[] 33)) k v (.slice (some ⟨w.heap.size + 2, 0, none⟩) 0 0) []) := by
    refine ⟨KP.out.alloc _, ?_, Below.then' HB0.out (below_new (Below.refl _ _)) (Nat.le_refl _), by simp⟩
    have := ow_new ((w.alloc (.cells #[.bool true, .slice ap np cp, .slice ak 0 ck] 169)).alloc (.cells #[.string k, .string v] 33)) (w.heap.size + 2) (by simp)
    simpa using this
  clear h hs b1 b2 hP
  go_enter Try.func173, Try.ntmps173
  go_wp2_with fail
  go_loopw [5, 6, 17] (fun x y z wr => ∃ (i : Nat) (a : Option Addr) (n c : Nat) (d : Bool) (l : List PB), i ≤ np ∧ x = .slice a n c ∧ y = .bool d ∧ z = .int .i64 (i : Int) ∧ Hid (LeafI w wr k v (.slice a n c) l) ∧ Hid (l ++ insS (t.ps.drop i) (k, v) d = insS t.ps (k, v) false) ∧ Hid (l.length ≤ i * 2)) (fun _ _ z _ => np - (intOf z).toNat)
  case atStart => exact ⟨0, _, _, _, false, [], Nat.zero_le _, rfl, rfl, rfl, by have := HI0.out; show LeafI _ _ _ _ _ _; simpa using this, rfl, Nat.zero_le _⟩
  case round =>
    obtain ⟨i, a, n, c, d, l, hi, rfl, rfl, rfl, HI, HE, HLL⟩ := hrel
    by_cases hlt : i < np
    · have hlt' : (i : Int) < (np : Int) := by omega
      have hi0 : (0 : Int) ≤ (i : Int) := by omega
      obtain ⟨g, off, hap, _, _, hc⟩ := (HP.out.below HI.out.b).at (by omega)
      subst hap
      obtain ⟨x0, x1⟩ := hc i hlt
      have HD : Hid (t.ps.drop i = pAtB t.ps i :: t.ps.drop (i + 1)) := drop_pAtB (by rw [← HNP.out]; exact hlt)
      rw [HD.out, insS_cons] at HE
      clear hc
      generalize pAtB t.ps i = xx at *
      obtain ⟨y0, y1⟩ := xx
      simp only at x0 x1 HE
      have HIX := hid (HI.out.keep (below_new (o := .cells #[.string y0, .string y1] 33) (w := wr) (Below.refl _ _)))
      have KX := hid (Bk.new wr 33 [.string y0, .string y1])
      have HNX : Hid ((Value.slice a n c).ownBlock ≠ some wr.heap.size) := fun e => by have := (World.ownsRow.lt HI.out.o _ e).2; omega
      have q0 := HIX.out.p.cell (j := 0) rfl
      have q1 := HIX.out.p.cell (j := 1) rfl
      have k0 := KX.out.cell (j := 0) rfl
      have k1 := KX.out.cell (j := 1) rfl
      cases d with
      | false =>
        rcases tri y0 k with ⟨h1, h2, h3, h4⟩ | rfl | ⟨h1, h2, h3, h4⟩
        · -- less
          have HEQ : Hid ((l ++ [(y0, y1)]) ++ insS (t.ps.drop (i + 1)) (k, v) false = insS t.ps (k, v) false) := by
            have hk : klt y0 k = true := h1
            have := HE.out
            show _ = _
            simpa [hk, klt_ne hk] using this
          clear HE
          have HIXa := hid (HIX.out.keep (below_new (o := .cells #[.string y0, .string y1] 33) (w := (wr.alloc (.cells #[.string y0, .string y1] 33))) (Below.refl _ _)))
          have HPa2 : Hid (Pr ((wr.alloc (.cells #[.string y0, .string y1] 33)).alloc (.cells #[.string y0, .string y1] 33)) (fun _ => True) (.slice (some ⟨wr.heap.size + 1, 0, none⟩) 1 1) [(y0, y1)]) := by
            have := (Bk.new (wr.alloc (.cells #[.string y0, .string y1] 33)) 33 [.string y0, .string y1]).pr (n := 1) (ps := [(y0, y1)]) rfl (by omega) (fun _ => True) trivial
            have hz : (wr.alloc (.cells #[.string y0, .string y1] 33)).heap.size = wr.heap.size + 1 := by first | rfl | simp
            rw [hz] at this
            exact this
          go_wp2_with (at_builtin; refine wpList_append_pairs rfl _ _ rfl (w.heap.size + 2) _ _ rfl HIXa.out.o (fun _ => True) _ [(y0, y1)] rfl HPa2.out ?q1 ?q2 ?_)
          case q1 => have := HLL.out; simp; omega
          case q2 => have h9 := HI.out.s; have h8 := HIX.out.s; first | omega | (simp; omega)
          intro v2 w2 hO2 hg2
          obtain ⟨a2, n2, c2, e2, -⟩ := hO2.shape'
          subst e2
          have HI2 := hid (HIXa.out.push hO2 hg2)
          clear hO2 hg2
          go_wp2
          go_roundw
          case rel => exact ⟨i + 1, a2, n2, c2, false, _, by omega, rfl, rfl, by go_num, HI2.out, HEQ.out, by have := HLL.out; show _ ≤ _; simp; omega⟩
          case measure => simp [intOf]; omega
        · -- equal
          have HEQ : Hid ((l ++ [(y0, v)]) ++ insS (t.ps.drop (i + 1)) (y0, v) true = insS t.ps (y0, v) false) := by
            have := HE.out
            show _ = _
            simpa [klt_irrefl y0] using this
          clear HE
          have HIXa := hid (HIX.out.keep (below_new (o := .cells #[.string y0, .string v] 33) (w := (wr.alloc (.cells #[.string y0, .string y1] 33))) (Below.refl _ _)))
          have HPa2 : Hid (Pr ((wr.alloc (.cells #[.string y0, .string y1] 33)).alloc (.cells #[.string y0, .string v] 33)) (fun _ => True) (.slice (some ⟨wr.heap.size + 1, 0, none⟩) 1 1) [(y0, v)]) := by
            have := (Bk.new (wr.alloc (.cells #[.string y0, .string y1] 33)) 33 [.string y0, .string v]).pr (n := 1) (ps := [(y0, v)]) rfl (by omega) (fun _ => True) trivial
            have hz : (wr.alloc (.cells #[.string y0, .string y1] 33)).heap.size = wr.heap.size + 1 := by first | rfl | simp
            rw [hz] at this
            exact this
          go_wp2_with (at_builtin; refine wpList_append_pairs rfl _ _ rfl (w.heap.size + 2) _ _ rfl HIXa.out.o (fun _ => True) _ [(y0, v)] rfl HPa2.out ?q1 ?q2 ?_)
          case q1 => have := HLL.out; simp; omega
          case q2 => have h9 := HI.out.s; have h8 := HIX.out.s; first | omega | (simp; omega)
          intro v2 w2 hO2 hg2
          obtain ⟨a2, n2, c2, e2, -⟩ := hO2.shape'
          subst e2
          have HI2 := hid (HIXa.out.push hO2 hg2)
          have z0 := (bk_grown (KX.out.alloc (.cells #[.string y0, .string v] 33)) hg2 HNX.out).cell (j := 0) rfl
          have z1 := HI2.out.p.cell (j := 0) rfl
          clear hO2 hg2
          go_wp2
          go_roundw
          case rel => exact ⟨i + 1, a2, n2, c2, true, _, by omega, rfl, rfl, by go_num, HI2.out, HEQ.out, by have := HLL.out; show _ ≤ _; simp; omega⟩
          case measure => simp [intOf]; omega
        · -- greater
          have HEQ : Hid (l ++ [(k, v), (y0, y1)] ++ insS (t.ps.drop (i + 1)) (k, v) true = insS t.ps (k, v) false) := by
            have hk : klt y0 k = false := h1
            have hne : y0 ≠ k := fun e => by rw [e] at h2; exact absurd h2 (by rw [less_irrefl]; simp)
            have := HE.out
            show _ = _
            simpa [hk, hne] using this
          clear HE
          have HIXa := hid (HIX.out.keep (below_new (o := .cells #[.string k, .string v] 33) (w := (wr.alloc (.cells #[.string y0, .string y1] 33))) (Below.refl _ _)))
          have HPa2 : Hid (Pr ((wr.alloc (.cells #[.string y0, .string y1] 33)).alloc (.cells #[.string k, .string v] 33)) (fun _ => True) (.slice (some ⟨wr.heap.size + 1, 0, none⟩) 1 1) [(k, v)]) := by
            have := (Bk.new (wr.alloc (.cells #[.string y0, .string y1] 33)) 33 [.string k, .string v]).pr (n := 1) (ps := [(k, v)]) rfl (by omega) (fun _ => True) trivial
            have hz : (wr.alloc (.cells #[.string y0, .string y1] 33)).heap.size = wr.heap.size + 1 := by first | rfl | simp
            rw [hz] at this
            exact this
          go_wp2_with (at_builtin; refine wpList_append_pairs rfl _ _ rfl (w.heap.size + 2) _ _ rfl HIXa.out.o (fun _ => True) _ [(k, v)] rfl HPa2.out ?q1 ?q2 ?_)
          case q1 => have := HLL.out; simp; omega
          case q2 => have h9 := HI.out.s; have h8 := HIX.out.s; first | omega | (simp; omega)
          intro v2 w2 hO2 hg2
          obtain ⟨a2, n2, c2, e2, -⟩ := hO2.shape'
          subst e2
          have HI2 := hid (HIXa.out.push hO2 hg2)
          have KX2 := hid (bk_grown (KX.out.alloc (.cells #[.string k, .string v] 33)) hg2 HNX.out)
          have z0 := KX2.out.cell (j := 0) rfl
          have z2 := KX2.out.cell (j := 1) rfl
          have z1 := HI2.out.p.cell (j := 0) rfl
          clear hO2 hg2
          have HI2a := hid (HI2.out.keep (below_new (o := .cells #[.string y0, .string y1] 33) (w := w2) (Below.refl _ _)))
          have HPa3 : Hid (Pr (w2.alloc (.cells #[.string y0, .string y1] 33)) (fun _ => True) (.slice (some ⟨w2.heap.size, 0, none⟩) 1 1) [(y0, y1)]) := by
            have := (Bk.new w2 33 [.string y0, .string y1]).pr (n := 1) (ps := [(y0, y1)]) rfl (by omega) (fun _ => True) trivial
            have hz : w2.heap.size = w2.heap.size := by first | rfl | simp
            rw [hz] at this
            exact this
          go_wp2_with (at_builtin; refine wpList_append_pairs rfl _ _ rfl (w.heap.size + 2) _ _ rfl HI2a.out.o (fun _ => True) _ [(y0, y1)] rfl HPa3.out ?q1 ?q2 ?_)
          case q1 => have := HLL.out; simp; omega
          case q2 => have h9 := HI.out.s; have h8 := HI2.out.s; first | omega | (simp; omega)
          intro v3 w3 hO3 hg3
          obtain ⟨a3, n3, c3, e3, -⟩ := hO3.shape'
          subst e3
          have HI3 := hid (HI2a.out.push hO3 hg3)
          clear hO3 hg3
          go_wp2
          go_roundw
          case rel => exact ⟨i + 1, a3, n3, c3, true, _, by omega, rfl, rfl, by go_num, HI3.out, HEQ.out, by have := HLL.out; show _ ≤ _; simp; omega⟩
          case measure => simp [intOf]; omega
      | true =>
        rcases tri y0 k with ⟨h1, h2, h3, h4⟩ | rfl | ⟨h1, h2, h3, h4⟩
        · have HEQ : Hid ((l ++ [(y0, y1)]) ++ insS (t.ps.drop (i + 1)) (k, v) true = insS t.ps (k, v) false) := by
            have hk : klt y0 k = true := h1
            have := HE.out
            show _ = _
            simpa [klt_ne hk] using this
          clear HE
          have HIXa := hid (HIX.out.keep (below_new (o := .cells #[.string y0, .string y1] 33) (w := (wr.alloc (.cells #[.string y0, .string y1] 33))) (Below.refl _ _)))
          have HPa2 : Hid (Pr ((wr.alloc (.cells #[.string y0, .string y1] 33)).alloc (.cells #[.string y0, .string y1] 33)) (fun _ => True) (.slice (some ⟨wr.heap.size + 1, 0, none⟩) 1 1) [(y0, y1)]) := by
            have := (Bk.new (wr.alloc (.cells #[.string y0, .string y1] 33)) 33 [.string y0, .string y1]).pr (n := 1) (ps := [(y0, y1)]) rfl (by omega) (fun _ => True) trivial
            have hz : (wr.alloc (.cells #[.string y0, .string y1] 33)).heap.size = wr.heap.size + 1 := by first | rfl | simp
            rw [hz] at this
            exact this
          go_wp2_with (at_builtin; refine wpList_append_pairs rfl _ _ rfl (w.heap.size + 2) _ _ rfl HIXa.out.o (fun _ => True) _ [(y0, y1)] rfl HPa2.out ?q1 ?q2 ?_)
          case q1 => have := HLL.out; simp; omega
          case q2 => have h9 := HI.out.s; have h8 := HIX.out.s; first | omega | (simp; omega)
          intro v2 w2 hO2 hg2
          obtain ⟨a2, n2, c2, e2, -⟩ := hO2.shape'
          subst e2
          have HI2 := hid (HIXa.out.push hO2 hg2)
          clear hO2 hg2
          go_wp2
          go_roundw
          case rel => exact ⟨i + 1, a2, n2, c2, true, _, by omega, rfl, rfl, by go_num, HI2.out, HEQ.out, by have := HLL.out; show _ ≤ _; simp; omega⟩
          case measure => simp [intOf]; omega
        · have HEQ : Hid (l ++ insS (t.ps.drop (i + 1)) (y0, v) true = insS t.ps (y0, v) false) := by
            have := HE.out
            show _ = _
            simpa using this
          clear HE
          go_wp2
          go_roundw
          case rel => exact ⟨i + 1, a, n, c, true, l, by omega, rfl, rfl, by go_num, HIX.out, HEQ.out, by have := HLL.out; show _ ≤ _; omega⟩
          case measure => simp [intOf]; omega
        · have HEQ : Hid ((l ++ [(y0, y1)]) ++ insS (t.ps.drop (i + 1)) (k, v) true = insS t.ps (k, v) false) := by
            have hne : y0 ≠ k := fun e => by rw [e] at h2; exact absurd h2 (by rw [less_irrefl]; simp)
            have := HE.out
            show _ = _
            simpa [hne] using this
          clear HE
          have HIXa := hid (HIX.out.keep (below_new (o := .cells #[.string y0, .string y1] 33) (w := (wr.alloc (.cells #[.string y0, .string y1] 33))) (Below.refl _ _)))
          have HPa2 : Hid (Pr ((wr.alloc (.cells #[.string y0, .string y1] 33)).alloc (.cells #[.string y0, .string y1] 33)) (fun _ => True) (.slice (some ⟨wr.heap.size + 1, 0, none⟩) 1 1) [(y0, y1)]) := by
            have := (Bk.new (wr.alloc (.cells #[.string y0, .string y1] 33)) 33 [.string y0, .string y1]).pr (n := 1) (ps := [(y0, y1)]) rfl (by omega) (fun _ => True) trivial
            have hz : (wr.alloc (.cells #[.string y0, .string y1] 33)).heap.size = wr.heap.size + 1 := by first | rfl | simp
            rw [hz] at this
            exact this
          go_wp2_with (at_builtin; refine wpList_append_pairs rfl _ _ rfl (w.heap.size + 2) _ _ rfl HIXa.out.o (fun _ => True) _ [(y0, y1)] rfl HPa2.out ?q1 ?q2 ?_)
          case q1 => have := HLL.out; simp; omega
          case q2 => have h9 := HI.out.s; have h8 := HIX.out.s; first | omega | (simp; omega)
          intro v2 w2 hO2 hg2
          obtain ⟨a2, n2, c2, e2, -⟩ := hO2.shape'
          subst e2
          have HI2 := hid (HIXa.out.push hO2 hg2)
          clear hO2 hg2
          go_wp2
          go_roundw
          case rel => exact ⟨i + 1, a2, n2, c2, true, _, by omega, rfl, rfl, by go_num, HI2.out, HEQ.out, by have := HLL.out; show _ ≤ _; simp; omega⟩
          case measure => simp [intOf]; omega
    · have hlt' : ¬ (i : Int) < (np : Int) := by omega
      have HD : Hid (t.ps.drop i = []) := List.drop_eq_nil_of_le (by rw [← HNP.out]; omega)
      rw [HD.out] at HE
      have HSP := hid (fun (w3 : World) (a3 : Option Addr) (n3 c3 : Nat) (l3 : List PB) (hI3 : LeafI w w3 k v (.slice a3 n3 c3) l3) => specSplit_any (fun y => w.heap.size ≤ y) true a3 none n3 c3 0 0 (.mk l3 []) w3 (Sub.leafOf (hI3.o.pr (S := fun y => w.heap.size ≤ y) (fun y _ h1 _ => by omega))))
      have HFN : Hid (∀ (w3 w4 : World) (e : Ending) (a3 : Option Addr) (n3 c3 : Nat) (l3 : List PB), LeafI w w3 k v (.slice a3 n3 c3) l3 → SubsPost w3 (fun y => w.heap.size ≤ y) (splT (.mk l3 [])) e w4 → SubsPost w S (splT (.mk l3 [])) e w4) := by
        rintro w3 w4 e a3 n3 c3 l3 hI ⟨v4, rfl, h1, h2⟩
        have hsz := hI.b.size
        exact ⟨v4, rfl, h1.mono (fun y hy _ => hy.elim .inr (fun h => .inr (by omega))), Below.then' hI.b h2 (Nat.le_refl _)⟩
      cases d with
      | true =>
        have HEQ : Hid (insS t.ps (k, v) false = l) := by have := HE.out; show _ = _; simpa [insS] using this.symm
        clear HE HP
        go_wp2_with fail
        refine (HSP.out wr a n c l HI.out).mono ?_
        rintro e w4 hp
        have hp' := HFN.out _ _ _ _ _ _ _ HI.out hp
        obtain ⟨v4, rfl, h1, h2⟩ := hp'
        have HF := hid h1
        have HF2 := hid h2
        clear hp h1 h2
        go_wp2
        go_ret
        refine ⟨_, rfl, ?_, HF2.out⟩
        rw [HEQ.out]; exact HF.out
      | false =>
        have HEQ : Hid (insS t.ps (k, v) false = l ++ [(k, v)]) := by have := HE.out; show _ = _; simpa [insS] using this.symm
        have q0 := HI.out.p.cell (j := 0) rfl
        have q1 := HI.out.p.cell (j := 1) rfl
        clear HE HP
        have HIa := hid (HI.out.keep (below_new (o := .cells #[.string k, .string v] 33) (w := wr) (Below.refl _ _)))
        have HPa2 : Hid (Pr (wr.alloc (.cells #[.string k, .string v] 33)) (fun _ => True) (.slice (some ⟨wr.heap.size, 0, none⟩) 1 1) [(k, v)]) := by
          have := (Bk.new wr 33 [.string k, .string v]).pr (n := 1) (ps := [(k, v)]) rfl (by omega) (fun _ => True) trivial
          have hz : wr.heap.size = wr.heap.size := by first | rfl | simp
          rw [hz] at this
          exact this
        go_wp2_with (at_builtin; refine wpList_append_pairs rfl _ _ rfl (w.heap.size + 2) _ _ rfl HIa.out.o (fun _ => True) _ [(k, v)] rfl HPa2.out ?q1 ?q2 ?_)
        case q1 => have := HLL.out; simp; omega
        case q2 => have h9 := HI.out.s; have h8 := HI.out.s; first | omega | (simp; omega)
        intro v2 w2 hO2 hg2
        obtain ⟨a2, n2, c2, e2, -⟩ := hO2.shape'
        subst e2
        have HI2 := hid (HIa.out.push hO2 hg2)
        clear hO2 hg2
        go_wp2_with fail
        refine (HSP.out _ _ _ _ _ HI2.out).mono ?_
        rintro e w4 hp
        have hp' := HFN.out _ _ _ _ _ _ _ HI2.out hp
        obtain ⟨v4, rfl, h1, h2⟩ := hp'
        have HF := hid h1
        have HF2 := hid h2
        clear hp h1 h2
        go_wp2
        go_ret
        refine ⟨_, rfl, ?_, HF2.out⟩
        rw [HEQ.out]; exact HF.out
end Go.Proofs.Ytcpdedpgjaimkaa
/-
  l03Put of the specification: it puts as the plain function puts.
-/
namespace Go.Proofs.Ytcpdedpgjaimkaa
open Go.RowKit
theorem below_dq (w : World) (q : Nat) : Below w.heap.size w (w.drewN q) := ⟨rfl, rfl, rfl, Nat.le_refl _, fun _ _ => rfl⟩
structure SpB (w wr : World) (pv kv : Value) (k v : ByteArray) : Prop where
  s : Bk wr w.heap.size 169 [.bool false, pv, kv]
  p : Bk wr (w.heap.size + 1) 33 [.string k, .string v]
  b : Below w.heap.size w wr
  z : w.heap.size + 2 ≤ wr.heap.size
theorem SpB.keep {w wr w1 : World} {pv kv : Value} {k v : ByteArray} (h : SpB w wr pv kv k v) (hb : Below wr.heap.size wr w1) : SpB w w1 pv kv k v := ⟨h.s.below hb, h.p.below hb, Below.then' h.b hb (Nat.le_refl _), Nat.le_trans h.z hb.size⟩
theorem SpB.grow {w u w2 : World} {pv kv : Value} {k v : ByteArray} {o : Option Nat} (h : SpB w u pv kv k v) (hg : u.grownBy w2 o) (ho : ∀ x, o = some x → w.heap.size + 2 ≤ x) : SpB w w2 pv kv k v := by
  have hon : Only (fun y => o = some y) u w2 := only_of_grown hg (fun _ e => e)
  exact ⟨h.s.to hon (fun e => by have := ho _ e; omega), h.p.to hon (fun e => by have := ho _ e; omega), h.b.trans (hon.below h.b.size (fun b hb e => by have := ho _ e; omega)), Nat.le_trans h.z hg.size⟩
theorem SO.lo {w : World} {base : Nat} {S : Nat → Prop} {v : Value} {ts : List T} (h : SO w base S v ts) : ∀ x, v.ownBlock = some x → base ≤ x ∧ x < w.heap.size := by
  obtain ⟨L, P, K, h1, _⟩ := h
  exact fun x e => World.ownsRow.lt h1 x e
theorem SO.mono {w : World} {base : Nat} {S R : Nat → Prop} {v : Value} {ts : List T} (h : SO w base S v ts) (hS : ∀ y, S y → y < w.heap.size → R y) (hR : ∀ y, R y → v.ownBlock ≠ some y) : SO w base R v ts := by
  obtain ⟨L, P, K, h1, h2, h3⟩ := h
  exact ⟨L, P, K, h1, fun i hi => (h2 i hi).mono hS, hR⟩
theorem putS_len : ∀ (f : Nat) (t : T) (p : PB), (putS f t p).length ≤ 2
  | 0, t, p => by simp [putS]
  | f + 1, t, p => by
    have hs : ∀ t, (splT t).length ≤ 2 := by
      intro t
      unfold splT
      split
      · simp
      · split <;> simp
    rw [putS]
    split <;> exact hs _
theorem putS_ne : ∀ (f : Nat) (t : T) (p : PB), putS f t p ≠ []
  | 0, t, p => by simp [putS]
  | f + 1, t, p => by
    have hs : ∀ t, splT t ≠ [] := by
      intro t
      unfold splT
      split
      · simp
      · split <;> simp
    rw [putS]
    split <;> exact hs _
set_option maxHeartbeats 2000000 in
set_option maxRecDepth 20000 in
theorem specPut_any : ∀ (f : Nat) (r : Bool) (S : Nat → Prop) (lf : Bool) (ap ak : Option Addr) (np cp nk ck : Nat) (t : T) (k v : ByteArray) (w : World), Sub w S lf (.slice ap np cp) (.slice ak nk ck) t → PutIn f r t →
    Calls Try.prog 173 #[.agg #[.bool lf, .slice ap np cp, .slice ak nk ck], .agg #[.string k, .string v]] w fun e w' => SubsPost w S (putS f t (k, v)) e w' := by
  intro f
  induction f with
  | zero => intro r S lf ap ak np cp nk ck t k v w _ g; exact g.ev.elim
  | succ f ih =>
  intro r S lf ap ak np cp nk ck t k v w h g
  obtain ⟨_, _, _, _, _, _, e1, e2, HNP, HNK, b1, b2, hlf, -⟩ := h.shape
  cases e1
  cases e2
  by_cases hk : t.ks = []
  · have hn : nk = 0 := by rw [HNK.out, hk]; rfl
    have hl : lf = true := by rw [hlf, hn]; rfl
    have HF : putS (f + 1) t (k, v) = splT (.mk (insS t.ps (k, v) false) []) := by rw [putS, if_pos hk]
    subst hn hl
    rw [HF]
    exact specPut_leaf S ap ak np cp ck t k v w h (by obtain ⟨ps, ks⟩ := t; cases (show ks = [] from hk); exact g.leaf.2.1)
  · obtain ⟨ps, ks⟩ := t
    simp only [T.ks, T.ps] at hk HNK HNP
    obtain ⟨hp0, hl1, hl2, hf3, he4, ha5⟩ := g.kids hk
    have hn0 : nk ≠ 0 := by rw [HNK.out]; have := List.length_pos_iff.2 hk; omega
    have hl : lf = false := by rw [hlf]; exact decide_eq_false hn0
    subst hl
    obtain ⟨hq, _, _⟩ := kidOf_spec k hk
    have hw := wayOf_eq (k := k) hk hf3 ha5
    have HF : Hid (putS (f + 1) (.mk ps ks) (k, v) = splT (.mk [] (ks.take (wayOf ks k) ++ putS f (tAt ks (wayOf ks k)) (k, v) ++ ks.drop (wayOf ks k + 1)))) := by show _ = _; rw [putS]; simp only [T.ks, hk, if_false]
    have HKG := hid (g.kid hk k)
    rw [← hw] at hq HKG
    have H0 : Hid (Sub w (fun y => S y ∧ y < w.heap.size) false (.slice ap np cp) (.slice ak nk ck) (.mk ps ks)) := h.mono (fun y hy hl => ⟨hy, hl⟩)
    have hcap : nk ≤ ck ∧ ck ≤ 9223372036854775807 := by
      obtain ⟨L, P, K, h1, _⟩ := h.row
      exact h1.len.2
    obtain ⟨hc1, hc2⟩ := hcap
    have hnk : nk ≤ 4 := by rw [HNK.out]; exact hl2
    have HWY := hid (fun (w' : World) (h' : Sub w' (fun y => S y ∧ y < w.heap.size) false (.slice ap np cp) (.slice ak nk ck) (.mk ps ks)) => specWay_any _ false ap ak np cp nk ck (.mk ps ks) k w' h' (by simp only [T.ks]; omega))
    simp only [T.ks] at HWY
    have IH := hid ih
    have hqn : wayOf ks k < nk := by rw [HNK.out]; exact hq
    have HQ := hid hq
    generalize hqq : wayOf ks k = q at *
    clear hqq hw h g ih hlf b1 b2 hp0 hl1 hl2 hf3 he4 ha5 hq
    have HI0 : Hid (SpB w ((w.alloc (.cells #[.bool false, .slice ap np cp, .slice ak nk ck] 169)).alloc (.cells #[.string k, .string v] 33)) (.slice ap np cp) (.slice ak nk ck) k v) := by
      refine ⟨(Bk.new w 169 [.bool false, .slice ap np cp, .slice ak nk ck]).alloc _, ?_, below_new (below_new (Below.refl _ _)), by simp⟩
      have := Bk.new (w.alloc (.cells #[.bool false, .slice ap np cp, .slice ak nk ck] 169)) 33 [.string k, .string v]
      simpa using this
    have s0 := HI0.out.s.cell (j := 0) rfl
    have s1 := HI0.out.s.cell (j := 1) rfl
    have s2 := HI0.out.s.cell (j := 2) rfl
    have p0 := HI0.out.p.cell (j := 0) rfl
    go_enter Try.func173, Try.ntmps173
    go_wp2_with fail
    refine (HWY.out _ (H0.out.kept HI0.out.b)).mono ?_
    generalize (w.alloc (.cells #[.bool false, .slice ap np cp, .slice ak nk ck] 169)).alloc (.cells #[.string k, .string v] 33) = U at *
    rintro e w1 ⟨rfl, hb⟩
    have HI1 := hid (HI0.out.keep hb)
    have HI2 := hid (HI1.out.keep (below_new (o := .cells #[] 169) (w := w1) (Below.refl _ _)))
    have HSN := hid (so_new w1 (w.heap.size + 2) HI1.out.z)
    clear hb s0 s1 s2 p0 HWY HI0
    have hq1 : (q : Int) ≤ (ck : Int) := by omega
    have hq2 : (0 : Int) ≤ (q : Int) := by omega
    have hq3 : (q : Int) + 1 ≤ (nk : Int) := by omega
    have hq4 : (q : Int) < (nk : Int) := by omega
    have hq5 : (q : Int) ≤ 1000 := by omega
    have HS2 := hid ((H0.out.kept HI2.out.b).row)
    simp only [T.ks] at HS2
    have u2 := HI2.out.s.cell (j := 2) rfl
    go_wp2_with (at_builtin; refine wpList_append_subs rfl _ _ rfl (w.heap.size + 2) _ (fun y => S y ∧ y < w.heap.size) (.slice (some ⟨w1.heap.size, 0, none⟩) 0 0) _ [] (ks.take q) rfl HSN.out rfl (HS2.out.take (by omega)) ?q0 ?q1 ?q2 ?_)
    case q0 => intro y hy e; have e' : w1.heap.size = y := by simpa [Value.ownBlock] using e
               have := HI1.out.z; have := hy.2; omega
    case q1 => rw [List.length_take]; simp; omega
    case q2 => have := HI1.out.z; first | omega | (simp; omega)
    intro v3 w3 hO3 hg3 ha3
    obtain ⟨a3, n3, c3, e3, -⟩ := hO3.shape
    subst e3
    have hlo3 := hO3.lo
    have HI3 := hid (HI2.out.grow hg3 (fun x e => by cases e; exact HI1.out.z))
    have HS3 : Hid (SO w3 (w.heap.size + 2) (fun y => S y ∧ y < w.heap.size) (.slice a3 n3 c3) (ks.take q)) := hO3.mono (fun y hy _ => hy.1) (fun y hy e => by have := (hlo3 y e).1; have := hy.2; omega)
    have hsz3 : w1.heap.size + 1 ≤ w3.heap.size := by have := hg3.size; simpa using this
    have HZ3 := hid hsz3
    clear hO3 hg3 ha3 HSN HS2 HI2 u2 hlo3 hsz3
    have HKD := hid (H0.out.kept HI3.out.b)
    obtain ⟨g, off, hak, _, _, hkid⟩ := HKD.out.kids (by omega)
    subst hak
    obtain ⟨l9, ap9, np9, cp9, ak9, nk9, ck9, x0, x1, x2, hs9⟩ := hkid q hqn
    simp only [T.ks] at hs9
    have HS9 := hid hs9
    clear hkid hs9 HKD
    have t2 := HI3.out.s.cell (j := 2) rfl
    have p0 := HI3.out.p.cell (j := 0) rfl
    have p1 := HI3.out.p.cell (j := 1) rfl
    have HPL := hid (putS_len f (tAt ks q) (k, v))
    have HAP : Hid (∀ y, (S y ∧ y < w.heap.size) ∨ w3.drew.heap.size ≤ y → (Value.slice a3 n3 c3).ownBlock ≠ some y) := by
      rintro y (h | h) e
      · have := HS3.out.lo y e; have := h.2; omega
      · have := (HS3.out.lo y e).2
        have h2 : w3.heap.size ≤ y := h
        omega
    have HTL : Hid ((ks.take q).length + (putS f (tAt ks q) (k, v)).length ≤ 1048576) := by have := HPL.out; rw [List.length_take]; show _ ≤ _; omega
    have HST : Hid (∀ (w4 : World), Below w3.drew.heap.size w3.drew w4 → SO w4 (w.heap.size + 2) (fun y => S y ∧ y < w.heap.size) (.slice a3 n3 c3) (ks.take q)) := fun w4 hb => HS3.out.kept (Below.then' (below_drew w3) hb (Nat.le_refl _))
    have HZZ : Hid (∀ (w4 : World), Below w3.drew.heap.size w3.drew w4 → w.heap.size + 2 ≤ w4.heap.size) := fun w4 hb => Nat.le_trans HI3.out.z hb.size
    have HFIN : Hid (∀ (w4 w5 : World) (a5 : Option Addr) (n5 c5 : Nat) (R : Nat → Prop), Below w3.drew.heap.size w3.drew w4 → SO w5 (w.heap.size + 2) R (.slice a5 n5 c5) (ks.take q ++ putS f (tAt ks q) (k, v)) → (∀ y, R y → (S y ∧ y < w.heap.size) ∨ w3.heap.size ≤ y) → w4.grownBy w5 (Value.slice a3 n3 c3).ownBlock →
        SO w5 (w.heap.size + 2) (fun y => (S y ∧ y < w.heap.size) ∨ (w3.heap.size ≤ y ∧ y < w5.heap.size ∧ (Value.slice a5 n5 c5).ownBlock ≠ some y)) (.slice a5 n5 c5) (ks.take q ++ putS f (tAt ks q) (k, v)) ∧ SpB w w5 (.slice ap np cp) (.slice (some ⟨g, off, none⟩) nk ck) k v) := by
      intro w4 w5 a5 n5 c5 R hb hO hR hg
      have hlo := hO.lo
      refine ⟨?_, (HI3.out.keep (Below.then' (below_drew w3) hb (Nat.le_refl _))).grow hg (fun x e => (HS3.out.lo x e).1)⟩
      obtain ⟨L, P, K, h1, h2, h3⟩ := hO
      refine ⟨L, P, K, h1, fun i hi => (h2 i hi).mono (fun y hy hl => ?_), ?_⟩
      · rcases hR y hy with h | h
        · exact .inl h
        · exact .inr ⟨h, hl, h3 y hy⟩
      · rintro y (h | h)
        · intro e; have := (hlo y e).1; have := h.2; omega
        · exact h.2.2
    have HPT := hid (fun (w' : World) (h' : Sub w' (fun y => S y ∧ y < w.heap.size) l9 (.slice ap9 np9 cp9) (.slice ak9 nk9 ck9) (tAt ks q)) => IH.out false _ l9 ap9 ak9 np9 cp9 nk9 ck9 (tAt ks q) k v w' h' HKG.out)
    go_wp2_with fail
    go_cut [10] (fun x v2 => ∃ (a5 : Option Addr) (n5 c5 : Nat), x = .slice a5 n5 c5 ∧ Hid (SO v2 (w.heap.size + 2) (fun y => (S y ∧ y < w.heap.size) ∨ (w3.heap.size ≤ y ∧ y < v2.heap.size ∧ (Value.slice a5 n5 c5).ownBlock ≠ some y)) (.slice a5 n5 c5) (ks.take q ++ putS f (tAt ks q) (k, v))) ∧ Hid (SpB w v2 (.slice ap np cp) (.slice (some ⟨g, off, none⟩) nk ck) k v))
    case first =>
      go_region_law (first
        | (go_simp; go_at_call 173; refine (HPT.out _ (HS9.out.kept (below_drew _))).mono ?_; rintro e w4 ⟨v4, rfl, hR4, hb4⟩)
        | (refine step_append_subs rfl _ _ rfl (w.heap.size + 2) _ _ (.slice a3 n3 c3) _ (ks.take q) (putS f (tAt ks q) (k, v)) rfl (HST.out _ hb4) rfl hR4 HAP.out HTL.out (HZZ.out _ hb4) ?_; intro v5 w5 hO5 hg5 ha5; obtain ⟨a5, n5, c5, e5, -⟩ := hO5.shape; subst e5))
      all_goals (go_wp2_with fail; go_meet)
      all_goals exact ⟨a5, n5, c5, rfl, (HFIN.out _ _ _ _ _ _ hb4 hO5 (fun y hy => by rcases hy.1 with h | h | h; exact .inl h; exact .inl h; exact .inr h) hg5).1, (HFIN.out _ _ _ _ _ _ hb4 hO5 (fun y hy => by rcases hy.1 with h | h | h; exact .inl h; exact .inl h; exact .inr h) hg5).2⟩
    case rest =>
      obtain ⟨a5, n5, c5, rfl, HS5, HI5⟩ := hcut
      clear HFIN HPT HST HZZ HAP x0 x1 x2 t2 p0 p1 HS9 HTL
      have t2 := HI5.out.s.cell (j := 2) rfl
      have HS6 := hid ((H0.out.kept HI5.out.b).row)
      simp only [T.ks] at HS6
      have HDL : Hid ((ks.take q ++ putS f (tAt ks q) (k, v)).length + (ks.drop (q + 1)).length ≤ 1048576) := by
        have := HPL.out
        have := HNK.out
        rw [List.length_append, List.length_take, List.length_drop]; show _ ≤ _; omega
      have HAP : Hid (∀ y, S y ∧ y < w.heap.size → (Value.slice a5 n5 c5).ownBlock ≠ some y) := fun y hy e => by have := (HS5.out.lo y e).1; have := hy.2; omega
      have HSP := hid (fun (w6 : World) (R : Nat → Prop) (a6 : Option Addr) (n6 c6 : Nat) (L : List T) (hL : L ≠ []) (h6 : SubR w6 R (.slice a6 n6 c6) L) => specSplit_any R false none a6 0 0 n6 c6 (.mk [] L) w6 (h6.sub hL))
      have HNE : Hid (ks.take q ++ putS f (tAt ks q) (k, v) ++ ks.drop (q + 1) ≠ []) := by
        intro e
        have h1 := List.append_eq_nil_iff.1 e
        have h2 := List.append_eq_nil_iff.1 h1.1
        exact putS_ne f _ _ h2.2
      have HFN : Hid (∀ (w6 w7 : World) (R : Nat → Prop) (v6 : Value) (e : Ending), SO w6 (w.heap.size + 2) R v6 (ks.take q ++ putS f (tAt ks q) (k, v) ++ ks.drop (q + 1)) → (∀ y, R y → S y ∨ w.heap.size ≤ y) → SpB w w6 (.slice ap np cp) (.slice (some ⟨g, off, none⟩) nk ck) k v → SubsPost w6 (fun y => S y ∨ w.heap.size ≤ y) (splT (.mk [] (ks.take q ++ putS f (tAt ks q) (k, v) ++ ks.drop (q + 1)))) e w7 → SubsPost w S (putS (f + 1) (.mk ps ks) (k, v)) e w7) := by
        rintro w6 w7 R v6 e hO hR hI ⟨v7, rfl, h1, h2⟩
        have hsz := hI.b.size
        refine ⟨v7, rfl, ?_, Below.then' hI.b h2 (Nat.le_refl _)⟩
        rw [HF.out]
        exact h1.mono (fun y hy _ => hy.elim id (fun h => .inr (by omega)))
      have hz3 : w.heap.size ≤ w3.heap.size := by have := HI3.out.z; omega
      have HR5 : Hid (∀ (y z : Nat), ((S y ∧ y < w.heap.size ∨ w3.heap.size ≤ y ∧ y < wc.heap.size ∧ (Value.slice a5 n5 c5).ownBlock ≠ some y) ∨ S y ∧ y < w.heap.size) ∧ y < z → S y ∨ w.heap.size ≤ y) := by
        rintro y z ⟨(h | h) | h, -⟩
        · exact .inl h.1
        · right; omega
        · exact .inl h.1
      have HG6 : Hid (∀ (w6 : World), wc.grownBy w6 (Value.slice a5 n5 c5).ownBlock → SpB w w6 (.slice ap np cp) (.slice (some ⟨g, off, none⟩) nk ck) k v) := fun w6 hg => HI5.out.grow hg (fun x e => (HS5.out.lo x e).1)
      have HLO6 : Hid (∀ (w6 : World) (R : Nat → Prop) (v6 : Value) (L : List T), SO w6 (w.heap.size + 2) R v6 L → (∀ y, R y → S y ∨ w.heap.size ≤ y) → SubR w6 (fun y => S y ∨ w.heap.size ≤ y) v6 L) := fun w6 R v6 L h hR => h.subR (fun y _ h1 _ => .inr (by omega)) (fun y hy _ => hR y hy)
      have hstep : ∀ (src : Value), SubR wc (fun y => S y ∧ y < w.heap.size) src (ks.drop (q + 1)) → True := fun _ _ => trivial
      clear hstep
      by_cases hcap : 0 < ck - (q + 1)
      · have HDR := hid (HS6.out.drop (m := q + 1) (by omega))
        go_wp2_with (at_builtin; refine wpList_append_subs rfl _ _ rfl (w.heap.size + 2) _ (fun y => S y ∧ y < w.heap.size) (.slice a5 n5 c5) _ _ (ks.drop (q + 1)) rfl HS5.out rfl HDR.out HAP.out HDL.out HI5.out.z ?_)
        intro v6 w6 hO6 hg6 ha6
        obtain ⟨a6, n6, c6, e6, -⟩ := hO6.shape
        subst e6
        have HO6 := hid hO6
        rw [← List.append_assoc] at HO6
        have HI6 := hid (HG6.out _ hg6)
        clear hO6 hg6 ha6 HDR
        go_wp2_with fail
        refine (HSP.out _ _ _ _ _ _ HNE.out (HLO6.out _ _ _ _ HO6.out (fun y hy => HR5.out y _ hy))).mono ?_
        rintro e w7 h7
        obtain ⟨v7, rfl, h8, h9⟩ := HFN.out _ _ _ _ _ HO6.out (fun y hy => HR5.out y _ hy) HI6.out h7
        have H8 := hid h8
        have H9 := hid h9
        clear h7 h8 h9
        go_wp2
        go_ret
        exact ⟨_, rfl, H8.out, H9.out⟩
      · have hck : ck = q + 1 := by omega
        have hnk1 : nk = q + 1 := by omega
        have HDR : Hid (SubR wc (fun y => S y ∧ y < w.heap.size) (.slice (some ⟨g, off, none⟩) 0 0) (ks.drop (q + 1))) := by
          rw [List.drop_eq_nil_of_le (by rw [← HNK.out]; omega)]
          exact ⟨fun _ => false, fun _ => .slice none 0 0, fun _ => .slice none 0 0, ⟨_, 0, rfl, Nat.le_refl _, by omega, fun _ => rfl, fun h => (by cases h), fun h => (by simp at h)⟩, fun i hi => (by simp at hi)⟩
        subst hck hnk1
        go_wp2_with (at_builtin; refine wpList_append_subs rfl _ _ rfl (w.heap.size + 2) _ (fun y => S y ∧ y < w.heap.size) (.slice a5 n5 c5) _ _ (ks.drop (q + 1)) rfl HS5.out rfl HDR.out HAP.out HDL.out HI5.out.z ?_)
        intro v6 w6 hO6 hg6 ha6
        obtain ⟨a6, n6, c6, e6, -⟩ := hO6.shape
        subst e6
        have HO6 := hid hO6
        rw [← List.append_assoc] at HO6
        have HI6 := hid (HG6.out _ hg6)
        clear hO6 hg6 ha6 HDR
        go_wp2_with fail
        refine (HSP.out _ _ _ _ _ _ HNE.out (HLO6.out _ _ _ _ HO6.out (fun y hy => HR5.out y _ hy))).mono ?_
        rintro e w7 h7
        obtain ⟨v7, rfl, h8, h9⟩ := HFN.out _ _ _ _ _ HO6.out (fun y hy => HR5.out y _ hy) HI6.out h7
        have H8 := hid h8
        have H9 := hid h9
        clear h7 h8 h9
        go_wp2
        go_ret
        exact ⟨_, rfl, H8.out, H9.out⟩
end Go.Proofs.Ytcpdedpgjaimkaa
/-
  Cells that are stored in a row one behind the other.
-/
namespace Go.Proofs.Ytcpdedpgjaimkaa
open Go.RowKit
def setL : List Value → Nat → List Value → List Value
  | cl, _, [] => cl
  | cl, o, v :: vs => setL (cl.set o v) (o + 1) vs
theorem setL_length (vs : List Value) : ∀ (cl : List Value) (o : Nat), (setL cl o vs).length = cl.length := by
  induction vs with
  | nil => intro cl o; rfl
  | cons v vs ih => intro cl o; rw [setL, ih, List.length_set]
theorem setL_at (vs : List Value) : ∀ (cl : List Value) (o x : Nat), (setL cl o vs)[x]? = if o ≤ x ∧ x < o + vs.length ∧ x < cl.length then vs[x - o]? else cl[x]? := by
  induction vs with
  | nil => intro cl o x; rw [setL, if_neg]; simp; omega
  | cons v vs ih =>
    intro cl o x
    rw [setL, ih, List.length_set, List.length_cons]
    by_cases h1 : o + 1 ≤ x ∧ x < o + 1 + vs.length ∧ x < cl.length
    · rw [if_pos h1, if_pos (by omega)]
      obtain ⟨y, rfl⟩ : ∃ y, x = o + 1 + y := ⟨x - (o + 1), by omega⟩
      rw [show o + 1 + y - (o + 1) = y by omega, show o + 1 + y - o = y + 1 by omega]
      rfl
    · rw [if_neg h1, List.getElem?_set]
      by_cases h2 : o = x
      · subst h2
        rw [if_pos rfl]
        by_cases h3 : o < cl.length
        · rw [if_pos h3, if_pos (by omega), Nat.sub_self]; rfl
        · rw [if_neg h3, if_neg (by omega), List.getElem?_eq_none (by omega)]
      · rw [if_neg h2, if_neg (by omega)]
theorem bk_setL {g : Nat} {T : TypeId} (vs : List Value) : ∀ (o : Nat) (w : World) (cl : List Value), Bk w g T cl → Bk (w.setCells g o vs) g T (setL cl o vs) := by
  induction vs with
  | nil => intro o w cl h; exact h
  | cons v vs ih => intro o w cl h; rw [World.setCells, setL]; exact ih (o + 1) _ _ (h.set o v)
theorem only_setL {R : Nat → Prop} {b : Nat} (h : R b) : ∀ (vs : List Value) (o : Nat) (w : World), Only R w (w.setCells b o vs)
  | [], _, w => Only.refl _ _
  | v :: vs, o, w => by
    rw [World.setCells]
    exact (only_set h v).trans (only_setL h vs (o + 1) _)
/-- What taking the element i out of a row leaves. -/
theorem del_list (cl xs zs : List Value) (i n s : Nat) (hi : i < n) (hl : n * s ≤ cl.length) (hx : cl.take (n * s) = xs) :
    (setL (setL cl (i * s) (xs.drop ((i + 1) * s))) ((n - 1) * s) zs).take ((n - 1) * s) = xs.take (i * s) ++ xs.drop ((i + 1) * s) := by
  have hxl : xs.length = n * s := by rw [← hx, List.length_take]; omega
  have e1 : (n - 1) * s + s = n * s := by rw [← Nat.succ_mul]; congr 1; omega
  have e2 : (i + 1) * s = i * s + s := Nat.succ_mul i s
  have e3 : (i + 1) * s ≤ n * s := Nat.mul_le_mul_right s hi
  have hd : (xs.drop ((i + 1) * s)).length = n * s - (i + 1) * s := by rw [List.length_drop, hxl]
  apply List.ext_getElem?
  intro x
  rw [List.getElem?_take]
  have hin : ∀ y, y < n * s → cl[y]? = xs[y]? := by
    intro y hy
    rw [← hx, List.getElem?_take, if_pos hy]
  by_cases h1 : x < (n - 1) * s
  · rw [if_pos h1, setL_at, if_neg (by omega), setL_at, hd]
    by_cases h2 : x < i * s
    · rw [if_neg (by omega), List.getElem?_append_left (by rw [List.length_take, hxl]; omega), List.getElem?_take, if_pos h2]
      exact hin x (by omega)
    · rw [if_pos (by omega), List.getElem?_append_right (by rw [List.length_take, hxl]; omega), List.length_take, hxl, Nat.min_eq_left (by omega)]
  · rw [if_neg h1, List.getElem?_eq_none (by rw [List.length_append, List.length_take, hxl, hd]; omega)]
def DelPost (E : TypeId) (size base : Nat) (xs : List Value) (n : Nat) (v : Value) (w : World) (e : Ending) (w' : World) : Prop :=
  ∃ g c, v = .slice (some ⟨g, 0, none⟩) (n + 1) c ∧ e = .returned (.slice (some ⟨g, 0, none⟩) n c) ∧ w'.ownsRow base E size (.slice (some ⟨g, 0, none⟩) n c) n xs ∧ Only (fun y => y = g) w w'
end Go.Proofs.Ytcpdedpgjaimkaa
/-
  put: a pair comes in below a limb; what is too much for it comes newly behind it.
-/
namespace Go.Proofs.Ytcpdedpgjaimkaa
open Go.RowKit
theorem below_dn (w : World) (q : Nat) : Below w.heap.size w (w.drewN q) := ⟨rfl, rfl, rfl, Nat.le_refl _, fun _ _ => rfl⟩
def PutPost (w : World) (S : Nat → Prop) (b : Nat) (x : T × T) (e : Ending) (w' : World) : Prop := ∃ b2, e = .returned (.pointer (some ⟨b2, 0, none⟩)) ∧ TwoL w w' b b2 x.1 x.2 S
theorem limb_bare (w : World) : Limb (w.alloc (.cells #[.slice none 0 0, .slice none 0 0] 204)) (fun x => x = w.heap.size) w.heap.size bareT :=
  .mk _ _ (.slice none 0 0) (.slice none 0 0) [] [] (fun _ => 0) (fun _ _ => False) rfl (Bk.new w 204 [.slice none 0 0, .slice none 0 0]) (World.ownsRow_nil _ _ _ _) (World.ownsRow_nil _ _ _ _) (fun x hx => by cases hx) (fun x hx => by cases hx) (fun i hi => by simp at hi) (fun i j hi => by simp at hi) (fun i hi => by simp at hi)
theorem put_end {w w1 w2 : World} {b : Nat} {t1 : T} {x : T × T} {S S' : Nat → Prop} (h1 : ∀ y, S' y → (S y ∨ w.heap.size ≤ y) ∧ y < w1.heap.size) (hon : Only S w w1)
    (h : TwoL (w1.alloc (.cells #[.slice none 0 0, .slice none 0 0] 204)) w2 b w1.heap.size (shT t1 bareT).1 (shT t1 bareT).2 (fun y => S' y ∨ y = w1.heap.size)) (hx : x = shT t1 bareT) :
    PutPost w S b x (.returned (.pointer (some ⟨w1.heap.size, 0, none⟩))) w2 := by
  subst hx
  obtain ⟨S1, S2, k1, k2, k3, k4, k5⟩ := h
  have hs := hon.size
  refine ⟨_, rfl, S1, S2, k1, k2, k3, fun y hy => ⟨?_, (k4 y hy).2⟩, (hon.trans (only_alloc _ _ _)).then k5 ?_⟩
  · rcases (k4 y hy).1 with (h | h) | h
    · exact (h1 y h).1
    · right; omega
    · right; simp at h; omega
  · rintro i hi (h | h)
    · rcases (h1 i h).1 with h | h
      · exact h
      · omega
    · omega
theorem small_out {h : Nat} {r : Bool} {l : List PB} {x : T × T} (g : PutOut h r l x) : x.2.ps.length + x.2.ks.length ≤ 8 := by
  cases e : x.2.bare with
  | true => rw [bare_iff.1 e]; decide
  | false =>
    have := (g.both e).2
    clear g e
    generalize x.2 = y at *
    obtain ⟨ps, ks⟩ := y
    simp only [T.ps, T.ks]
    by_cases hk : ks = []
    · subst hk; have := full_lf this; simp; omega
    · obtain ⟨_, h2, rfl, _⟩ := full_br this hk; simp; omega
theorem PutIn.small {h : Nat} {r : Bool} {t : T} (g : PutIn h r t) : t.ps.length ≤ 4 ∧ t.ks.length ≤ 4 := by
  obtain ⟨ps, ks⟩ := t
  simp only [T.ps, T.ks]
  rcases g.full with hf | ⟨_, e⟩
  · by_cases hk : ks = []
    · subst hk; exact ⟨(full_lf hf).1, by simp⟩
    · obtain ⟨_, h2, rfl, _⟩ := full_br hf hk; exact ⟨by simp, h2⟩
  · cases e; simp
end Go.Proofs.Ytcpdedpgjaimkaa
/-
  mend: two neighbouring kids are put together.
-/
namespace Go.Proofs.Ytcpdedpgjaimkaa
open Go.RowKit
/-- Two kids have turned; all else is as it was. -/
theorem LB.kid2 {w w' : World} {S : Nat → Prop} {b : Nat} {pv kv : Value} {ps : List PB} {ks : List T} {A : Nat → Nat} {SS : Nat → Nat → Prop} (h : LB w S b pv kv ps ks A SS) (hS : ∀ x, S x → x < w.heap.size) {p q : Nat} (hp : p < ks.length) (hq : q < ks.length) (hpq : p ≠ q) {S1 S2 : Nat → Prop} {t1 t2 : T} (hL1 : Limb w' S1 (A p) t1) (hL2 : Limb w' S2 (A q) t2) (h12 : ∀ x, S1 x → ¬ S2 x)
    (h1 : ∀ x, S1 x ∨ S2 x → ((SS p x ∨ SS q x) ∨ w.heap.size ≤ x) ∧ x < w'.heap.size) (hon : Only (fun x => SS p x ∨ SS q x) w w') :
    LB w' (fun x => S x ∨ S1 x ∨ S2 x) b pv kv ps ((ks.set p t1).set q t2) A (fun i => if i = q then S2 else if i = p then S1 else SS i) := by
  obtain ⟨hb, hB, hP, hK, hPS, hKS, hSS, hD, hk⟩ := h
  have hPl := World.ownsRow.lt hP
  have hKl := World.ownsRow.lt hK
  have hin : ∀ x, SS p x ∨ SS q x → S x ∧ x ≠ b ∧ pv.ownBlock ≠ some x ∧ kv.ownBlock ≠ some x := fun x h => h.elim (hSS p hp x) (hSS q hq x)
  have hnew : ∀ x, S1 x ∨ S2 x → x ≠ b ∧ pv.ownBlock ≠ some x ∧ kv.ownBlock ≠ some x := by
    intro x hx
    rcases (h1 x hx).1 with h | h
    · exact (hin x h).2
    · refine ⟨fun h' => ?_, fun h' => ?_, fun h' => ?_⟩
      · have := hS b hb; omega
      · have := (hPl x h').2; omega
      · have := (hKl x h').2; omega
  have hfar : ∀ i, i < ks.length → i ≠ p → i ≠ q → ∀ x, SS i x → ¬ (S1 x ∨ S2 x) := by
    intro i hi e1 e2 x hx hy
    rcases (h1 x hy).1 with (h | h) | h
    · exact hD i p hi hp e1 x hx h
    · exact hD i q hi hq e2 x hx h
    · have := hS x (hSS i hi x hx).1; omega
  have hl : ((ks.set p t1).set q t2).length = ks.length := by rw [List.length_set, List.length_set]
  refine ⟨.inl hb, hB.to hon (fun h => (hin b h).2.1 rfl), own_kept hP hon (fun k e h => (hin k h).2.2.1 e), by rw [hl]; exact own_kept hK hon (fun k e h => (hin k h).2.2.2 e), fun x hx => ⟨.inl (hPS x hx).1, (hPS x hx).2⟩, fun x hx => ⟨.inl (hKS x hx).1, (hKS x hx).2⟩, ?_, ?_, ?_⟩
  · intro i hi x hx
    rw [hl] at hi
    by_cases e : i = q
    · rw [if_pos e] at hx; exact ⟨.inr (.inr hx), hnew x (.inr hx)⟩
    · rw [if_neg e] at hx
      by_cases e2 : i = p
      · rw [if_pos e2] at hx; exact ⟨.inr (.inl hx), hnew x (.inl hx)⟩
      · rw [if_neg e2] at hx; exact ⟨.inl (hSS i hi x hx).1, (hSS i hi x hx).2⟩
  · intro i j hi hj hij x hx hy
    rw [hl] at hi hj
    by_cases e : i = q
    · rw [if_pos e] at hx
      rw [if_neg (by omega)] at hy
      by_cases e2 : j = p
      · rw [if_pos e2] at hy; exact h12 x hy hx
      · rw [if_neg e2] at hy; exact hfar j hj e2 (by omega) x hy (.inr hx)
    · rw [if_neg e] at hx
      by_cases e2 : i = p
      · rw [if_pos e2] at hx
        by_cases e3 : j = q
        · rw [if_pos e3] at hy; exact h12 x hx hy
        · rw [if_neg e3, if_neg (by omega)] at hy; exact hfar j hj (by omega) e3 x hy (.inl hx)
      · rw [if_neg e2] at hx
        by_cases e3 : j = q
        · rw [if_pos e3] at hy; exact hfar i hi e2 e x hx (.inr hy)
        · rw [if_neg e3] at hy
          by_cases e4 : j = p
          · rw [if_pos e4] at hy; exact hfar i hi e2 e x hx (.inl hy)
          · rw [if_neg e4] at hy; exact hD i j hi hj hij x hx hy
  · intro i hi
    rw [hl] at hi
    by_cases e : i = q
    · subst e
      rw [if_pos rfl, show tAt ((ks.set p t1).set i t2) i = t2 by simp [tAt, hi]]
      exact hL2
    · rw [if_neg e, show tAt ((ks.set p t1).set q t2) i = tAt (ks.set p t1) i by simp [tAt, Ne.symm e]]
      by_cases e2 : i = p
      · subst e2
        rw [if_pos rfl, show tAt (ks.set i t1) i = t1 by simp [tAt, hi]]
        exact hL1
      · rw [if_neg e2, show tAt (ks.set p t1) i = tAt ks i by simp [tAt, Ne.symm e2]]
        exact (hk i hi).to hon (fun x hx h => h.elim (hD i p hi hp e2 x hx) (hD i q hi hq e x hx))
theorem ptrs_del (A : Nat → Nat) (n p : Nat) (h : p ≤ n) : (ptrs A (n + 1)).take p ++ (ptrs A (n + 1)).drop (p + 1) = ptrs (fun i => if i < p then A i else A (i + 1)) n := by
  apply List.ext_getElem?
  intro i
  by_cases hi : i < p
  · rw [List.getElem?_append_left (by simp [ptrs]; omega), List.getElem?_take, if_pos hi, ptrs_at _ _ _ (by omega), ptrs_at _ _ _ (by omega), if_pos hi]
  · rw [List.getElem?_append_right (by simp [ptrs]; omega), List.getElem?_drop]
    have : p + 1 + (i - (List.take p (ptrs A (n + 1))).length) = i + 1 := by simp [ptrs]; omega
    rw [this]
    by_cases hn : i < n
    · rw [ptrs_at _ _ _ (by omega), ptrs_at _ _ _ hn, if_neg hi]
    · rw [List.getElem?_eq_none (by simp [ptrs]; omega), List.getElem?_eq_none (by simp [ptrs]; omega)]
theorem tAt_del (ks : List T) (p : Nat) (h : p < ks.length) (i : Nat) : tAt (ks.take p ++ ks.drop (p + 1)) i = if i < p then tAt ks i else tAt ks (i + 1) := by
  have hl : (ks.take p).length = p := by rw [List.length_take]; omega
  by_cases hi : i < p
  · rw [tAt_app1 (by omega), tAt_take hi, if_pos hi]
  · rw [tAt_app2 (by omega), tAt_drop, hl, if_neg hi]
    congr 1; omega
/-- A kid is taken out. -/
theorem LB.del {w w' : World} {S : Nat → Prop} {b g c n : Nat} {pv : Value} {ps : List PB} {ks : List T} {A : Nat → Nat} {SS : Nat → Nat → Prop} (h : LB w S b pv (.slice (some ⟨g, 0, none⟩) (n + 1) c) ps ks A SS) (hS : ∀ x, S x → x < w.heap.size) {p : Nat} (hp : p < ks.length) (hn : ks.length = n + 1) (hB' : Bk w' b 204 [pv, .slice (some ⟨g, 0, none⟩) n c])
    (hK' : w'.ownsRow 0 163 1 (.slice (some ⟨g, 0, none⟩) n c) n ((ptrs A (n + 1)).take p ++ (ptrs A (n + 1)).drop (p + 1))) (hon : Only (fun y => y = b ∨ y = g) w w') :
    OneL w w' b (.mk ps (ks.take p ++ ks.drop (p + 1))) S := by
  obtain ⟨hb, hB, hP, hK, hPS, hKS, hSS, hD, hk⟩ := h
  have hl : (ks.take p ++ ks.drop (p + 1)).length = n := by rw [List.length_append, List.length_take, List.length_drop]; omega
  have hg := hKS g rfl
  rw [ptrs_del _ _ _ (by omega)] at hK'
  have hsz := hon.size
  have hin : ∀ i, i < n → (if i < p then i else i + 1) < ks.length := by intro i hi; split <;> omega
  refine ⟨S, .mk S b pv (.slice (some ⟨g, 0, none⟩) n c) ps _ (fun i => if i < p then A i else A (i + 1)) (fun i => SS (if i < p then i else i + 1)) hb hB' (own_kept hP hon ?_) (by rw [hl]; exact hK') hPS (fun x hx => hKS x hx) ?_ ?_ ?_, fun x hx => ⟨.inl hx, by have := hS x hx; omega⟩, hon.mono ?_⟩
  · rintro k e (h | h)
    · exact (hPS k e).2 h
    · exact hg.2.2 (h ▸ e)
  · intro i hi x hx
    rw [hl] at hi
    exact hSS _ (hin i hi) x hx
  · intro i j hi hj hij x hx hy
    rw [hl] at hi hj
    exact hD _ _ (hin i hi) (hin j hj) (by split <;> split <;> omega) x hx hy
  · intro i hi
    rw [hl] at hi
    rw [tAt_del _ _ hp]
    have key := hk _ (hin i hi)
    have h2 := hSS _ (hin i hi)
    by_cases c1 : i < p
    · simp only [c1, if_true] at key h2 ⊢
      exact key.to hon (fun x hx h => h.elim (h2 x hx).2.1 (fun e => (h2 x hx).2.2.2 (by rw [e]; rfl)))
    · simp only [c1, if_false] at key h2 ⊢
      exact key.to hon (fun x hx h => h.elim (h2 x hx).2.1 (fun e => (h2 x hx).2.2.2 (by rw [e]; rfl)))
  · rintro x - (h | h)
    · exact h ▸ hb
    · exact h ▸ hg.1
/-- The kid at i is put together with the one ahead of it; the first with the second. -/
def mendK (ks : List T) (i : Nat) : List T :=
  if (shT (tAt ks (max i 1 - 1)) (tAt ks (max i 1))).2.bare = true then ((ks.set (max i 1 - 1) (shT (tAt ks (max i 1 - 1)) (tAt ks (max i 1))).1).set (max i 1) (shT (tAt ks (max i 1 - 1)) (tAt ks (max i 1))).2).take (max i 1) ++ ((ks.set (max i 1 - 1) (shT (tAt ks (max i 1 - 1)) (tAt ks (max i 1))).1).set (max i 1) (shT (tAt ks (max i 1 - 1)) (tAt ks (max i 1))).2).drop (max i 1 + 1)
  else (ks.set (max i 1 - 1) (shT (tAt ks (max i 1 - 1)) (tAt ks (max i 1))).1).set (max i 1) (shT (tAt ks (max i 1 - 1)) (tAt ks (max i 1))).2
end Go.Proofs.Ytcpdedpgjaimkaa
/-
  drop: a key is taken out below a limb.
-/
namespace Go.Proofs.Ytcpdedpgjaimkaa
open Go.RowKit
def delP (l : List PB) (k : ByteArray) : List PB := if there l k = true then l.take (pos l k) ++ l.drop (pos l k + 1) else l
def T.poor (t : T) : Bool := decide (t.ps.length + t.ks.length < 2)
def dropF : Nat → T → ByteArray → T
  | 0, t, _ => t
  | f + 1, t, k => if t.ks = [] then .mk (delP t.ps k) t.ks else
    if (dropF f (tAt t.ks (kidOf t.ks k)) k).poor = true then .mk t.ps (mendK (t.ks.set (kidOf t.ks k) (dropF f (tAt t.ks (kidOf t.ks k)) k)) (kidOf t.ks k)) else .mk t.ps (t.ks.set (kidOf t.ks k) (dropF f (tAt t.ks (kidOf t.ks k)) k))
theorem delP_len (l : List PB) (k : ByteArray) : (delP l k).length ≤ l.length := by
  unfold delP
  split
  · rw [List.length_append, List.length_take, List.length_drop]; omega
  · exact Nat.le_refl _
theorem mendK_len (ks : List T) (i : Nat) : (mendK ks i).length ≤ ks.length := by
  unfold mendK
  split
  · rw [List.length_append, List.length_take, List.length_drop, List.length_set, List.length_set]; omega
  · rw [List.length_set, List.length_set]; exact Nat.le_refl _
theorem dropF_len : ∀ (f : Nat) (t : T) (k : ByteArray), (dropF f t k).ps.length ≤ t.ps.length ∧ (dropF f t k).ks.length ≤ t.ks.length
  | 0, t, k => ⟨Nat.le_refl _, Nat.le_refl _⟩
  | f + 1, t, k => by
    rw [dropF]
    split
    · exact ⟨delP_len _ _, Nat.le_refl _⟩
    · split
      · refine ⟨Nat.le_refl _, ?_⟩
        show (mendK _ _).length ≤ _
        have := mendK_len (t.ks.set (kidOf t.ks k) (dropF f (tAt t.ks (kidOf t.ks k)) k)) (kidOf t.ks k)
        rw [List.length_set] at this
        exact this
      · refine ⟨Nat.le_refl _, ?_⟩
        show (t.ks.set _ _).length ≤ _
        rw [List.length_set]; exact Nat.le_refl _
theorem full_small {x : T} {r : Bool} (h : x.full r = true) : x.ps.length ≤ 4 ∧ x.ks.length ≤ 4 := by
  obtain ⟨ps, ks⟩ := x
  simp only [T.ps, T.ks]
  by_cases hk : ks = []
  · subst hk; exact ⟨(full_lf h).1, by simp⟩
  · obtain ⟨_, h2, rfl, _⟩ := full_br h hk; exact ⟨by simp, h2⟩
theorem pcs_del (ps : List PB) (p : Nat) : (pcs ps).take (p * 2) ++ (pcs ps).drop ((p + 1) * 2) = pcs (ps.take p ++ ps.drop (p + 1)) := by
  rw [pcs_take, pcs_drop, pcs_append]
end Go.Proofs.Ytcpdedpgjaimkaa
/-
  Taking a key out, as plain data: the program's way and the specification's come to the same; what comes of it is full, even and in order.
-/
namespace Go.Proofs.Ytcpdedpgjaimkaa
open Go.RowKit
theorem delP_nil (k : ByteArray) : delP [] k = [] := by simp [delP, there, pos]
theorem delP_lt {x : PB} {l : List PB} {k : ByteArray} (h : klt x.1 k = true) : delP (x :: l) k = x :: delP l k := by
  obtain ⟨h1, h2⟩ := there_cons_lt (x := x) (p := (k, k)) (l := l) h
  simp only at h1 h2
  unfold delP
  rw [h1, h2]
  split <;> simp
theorem delP_eq {x : PB} {l : List PB} {k : ByteArray} (h : x.1 = k) : delP (x :: l) k = l := by
  have h0 : klt x.1 k = false := by rw [h]; exact klt_irrefl _
  have h1 := pos_cons_ge (x := x) (p := (k, k)) (l := l) h0
  simp only at h1
  have h2 : there (x :: l) k = true := by unfold there; rw [h1]; simp [pAtB, h]
  unfold delP
  rw [h2, h1]; simp
theorem delP_gt {x : PB} {l : List PB} {k : ByteArray} (h : klt x.1 k = false) (hne : x.1 ≠ k) : delP (x :: l) k = x :: l := by
  have h1 := pos_cons_ge (x := x) (p := (k, k)) (l := l) h
  simp only at h1
  have h2 : there (x :: l) k = false := by unfold there; rw [h1]; simp [pAtB, hne]
  unfold delP
  rw [h2]; simp
theorem delP_left (A : List PB) {B : List PB} {k : ByteArray} (h : ∀ x ∈ A, klt x.1 k = true) : delP (A ++ B) k = A ++ delP B k := by
  induction A with
  | nil => rfl
  | cons a A ih => rw [List.cons_append, delP_lt (h a (by simp)), ih (fun x hx => h x (by simp [hx])), List.cons_append]
theorem delP_right (A : List PB) {B : List PB} {k : ByteArray} (h : ∀ x ∈ B, klt k x.1 = true) : delP (A ++ B) k = delP A k ++ B := by
  induction A with
  | nil =>
    rw [List.nil_append, delP_nil]
    cases B with
    | nil => rw [delP_nil]; rfl
    | cons b B =>
      have := h b (by simp)
      rw [delP_gt (klt_asymm this) (klt_ne this).symm]; rfl
  | cons a A ih =>
    rw [List.cons_append]
    cases hk : klt a.1 k with
    | true => rw [delP_lt hk, delP_lt hk, ih]; rfl
    | false =>
      by_cases e : a.1 = k
      · rw [delP_eq e, delP_eq e]
      · rw [delP_gt hk e, delP_gt hk e]; rfl
theorem delP_mem {l : List PB} {k : ByteArray} {x : PB} (h : x ∈ delP l k) : x ∈ l := by
  unfold delP at h
  split at h
  · rcases List.mem_append.1 h with h | h
    · exact List.mem_of_mem_take h
    · exact List.mem_of_mem_drop h
  · exact h
theorem delP_asc {l : List PB} {k : ByteArray} (h : Asc l) : Asc (delP l k) := by
  unfold delP
  split
  · refine List.Pairwise.sublist ?_ h
    rw [← List.eraseIdx_eq_take_drop_succ]
    exact List.eraseIdx_sublist _ _
  · exact h
theorem delP_ge (l : List PB) (k : ByteArray) : l.length ≤ (delP l k).length + 1 := by
  unfold delP
  split
  · rw [List.length_append, List.length_take, List.length_drop]; omega
  · omega
/-- The specification's way. -/
def delS (l : List PB) (k : ByteArray) : List PB := l.filter fun x => decide (x.1 ≠ k)
theorem delS_eq {l : List PB} {k : ByteArray} (h : Asc l) : delS l k = delP l k := by
  induction l with
  | nil => rw [delP_nil]; rfl
  | cons a l ih =>
    obtain ⟨h1, h2⟩ := List.pairwise_cons.1 h
    unfold delS at ih ⊢
    cases hk : klt a.1 k with
    | true => rw [delP_lt hk, List.filter_cons, if_pos (by simpa using klt_ne hk), ih h2]
    | false =>
      by_cases e : a.1 = k
      · rw [delP_eq e, List.filter_cons, if_neg (by simp [e]), List.filter_eq_self]
        intro x hx
        simpa using fun he => (klt_ne (h1 x hx)) (by rw [e, he])
      · rw [delP_gt hk e, List.filter_cons, if_pos (by simpa using e)]
        congr 1
        rw [List.filter_eq_self]
        intro x hx
        have hlt : klt k a.1 = true := by
          cases hq : klt k a.1 with
          | true => rfl
          | false => exact absurd (key_eq hk hq) e
        simpa using fun he => (klt_ne (klt_trans hlt (h1 x hx))) he.symm
theorem shT_bareT (a b : T) : shT a b = shT (.mk (a.ps ++ b.ps) (a.ks ++ b.ks)) bareT := by simp [shT, bareT, T.ps, T.ks]
theorem mendK_two (ks : List T) (s : Nat) (i : Nat) (hs : max i 1 = s + 1) (h : s + 1 < ks.length) : mendK ks i = ks.take s ++ two (shT (tAt ks s) (tAt ks (s + 1))) ++ ks.drop (s + 2) := by
  unfold mendK
  rw [hs, Nat.add_sub_cancel]
  generalize shT (tAt ks s) (tAt ks (s + 1)) = r
  have e : (ks.set s r.1).set (s + 1) r.2 = ks.take s ++ r.1 :: r.2 :: ks.drop (s + 2) := by
    apply List.ext_getElem?
    intro x
    rw [List.getElem?_set, List.getElem?_set, List.length_set]
    by_cases h1 : s + 1 = x
    · subst h1
      rw [if_pos rfl, if_pos h, List.getElem?_append_right (by rw [List.length_take]; omega), List.length_take, Nat.min_eq_left (by omega), show s + 1 - s = 1 by omega]; rfl
    · rw [if_neg h1]
      by_cases h2 : s = x
      · subst h2
        rw [if_pos rfl, if_pos (by omega), List.getElem?_append_right (by rw [List.length_take]; omega), List.length_take, Nat.min_eq_left (by omega), Nat.sub_self]; rfl
      · rw [if_neg h2]
        by_cases h3 : x < s
        · rw [List.getElem?_append_left (by rw [List.length_take]; omega), List.getElem?_take, if_pos h3]
        · rw [List.getElem?_append_right (by rw [List.length_take]; omega), List.length_take, Nat.min_eq_left (by omega)]
          obtain ⟨y, rfl⟩ : ∃ y, x = s + 2 + y := ⟨x - (s + 2), by omega⟩
          rw [show s + 2 + y - s = y + 1 + 1 by omega, List.getElem?_cons_succ, List.getElem?_cons_succ, List.getElem?_drop]
  rw [e]
  have hl : (ks.take s).length = s := by rw [List.length_take]; omega
  unfold two
  split
  · rw [List.take_append, hl, List.take_of_length_le (show (ks.take s).length ≤ s + 1 by omega), show s + 1 - s = 1 by omega, List.drop_append, hl, List.drop_of_length_le (show (ks.take s).length ≤ s + 1 + 1 by omega), show s + 1 + 1 - s = 2 by omega]; simp
  · simp
/-- What dropping leaves, but for its own fullness. -/
structure Near (h : Nat) (t : T) (l : List PB) : Prop where
  ev : Ev h t
  all : t.all = l
  leaf : t.ks = [] → t.ps.length ≤ 4
  br : t.ks ≠ [] → t.ps = [] ∧ t.ks.length ≤ 4 ∧ ∀ x ∈ t.ks, x.full false = true
theorem Near.full {h : Nat} {t : T} {l : List PB} (g : Near h t l) (hp : t.poor = false) : t.full false = true := by
  have hp : ¬ (t.ps.length + t.ks.length < 2) := of_decide_eq_false hp
  obtain ⟨ps, ks⟩ := t
  by_cases hk : ks = []
  · subst hk; exact full_mk_leaf (g.leaf rfl) (.inl (by simp [T.ps, T.ks] at hp; omega))
  · obtain ⟨h1, h2, h3⟩ := g.br hk
    have h1 : ps = [] := h1
    subst h1
    exact full_mk_br (by simp [T.ps, T.ks] at hp; omega) h2 h3
theorem near_of_full {h : Nat} {t : T} {r : Bool} (he : Ev h t) (hf : t.full r = true) : Near h t t.all := by
  obtain ⟨ps, ks⟩ := t
  refine ⟨he, rfl, fun hk => ?_, fun hk => ?_⟩
  · cases (show ks = [] from hk); exact (full_lf hf).1
  · obtain ⟨_, h2, h3, h4⟩ := full_br hf hk; exact ⟨h3, h2, h4⟩
/-- Two neighbours of one depth, one of them full, one with something: together they are one full node or two. -/
theorem shT_out2 {h : Nat} {a b : T} {la lb : List PB} (ga : Near h a la) (gb : Near h b lb) (hs : 3 ≤ a.ps.length + a.ks.length + (b.ps.length + b.ks.length)) (hs5 : a.ps.length + a.ks.length + (b.ps.length + b.ks.length) ≤ 5) : PutOut h false (la ++ lb) (shT a b) := by
  rw [shT_bareT]
  obtain ⟨pa, ka⟩ := a
  obtain ⟨pb, kb⟩ := b
  simp only [T.ps, T.ks] at hs hs5 ⊢
  cases h with
  | zero => exact ga.ev.elim
  | succ h =>
    rcases ga.ev with ⟨rfl, rfl⟩ | ⟨hka, hea⟩
    · rcases gb.ev with ⟨rfl, _⟩ | ⟨hkb, heb⟩
      · have e : la ++ lb = pa ++ pb := by rw [← ga.all, ← gb.all]; simp [T.all, allL]
        rw [e, List.append_nil]
        refine shT_out_leaf (by simp at hs5 ⊢; omega) (by simp at hs ⊢; omega) (fun _ => by simp at hs ⊢; omega)
      · obtain ⟨x, hx⟩ := List.exists_mem_of_ne_nil kb hkb
        exact (heb x hx).elim
    · rcases gb.ev with ⟨rfl, rfl⟩ | ⟨hkb, heb⟩
      · obtain ⟨x, hx⟩ := List.exists_mem_of_ne_nil ka hka
        exact (hea x hx).elim
      · obtain ⟨a1, _, a3⟩ := ga.br hka
        obtain ⟨b1, _, b3⟩ := gb.br hkb
        have a1 : pa = [] := a1
        have b1 : pb = [] := b1
        subst a1 b1
        have e : la ++ lb = allL (ka ++ kb) := by rw [← ga.all, ← gb.all, allL_append]; simp [T.all]
        rw [e]
        simp only [List.append_nil]
        refine shT_out_br (by simp at hs5 ⊢; omega) (by simp at hs ⊢; omega) (fun x hx => ?_) (fun x hx => ?_)
        · rcases List.mem_append.1 hx with hx | hx
          · exact a3 x hx
          · exact b3 x hx
        · rcases List.mem_append.1 hx with hx | hx
          · exact hea x hx
          · exact heb x hx
theorem full_count {x : T} (h : x.full false = true) : 2 ≤ x.ps.length + x.ks.length ∧ x.ps.length + x.ks.length ≤ 4 := by
  obtain ⟨ps, ks⟩ := x
  simp only [T.ps, T.ks]
  by_cases hk : ks = []
  · subst hk; have := full_lf h; simp at this ⊢; omega
  · obtain ⟨h1, h2, rfl, _⟩ := full_br h hk; simp; omega
theorem dropF_out : ∀ (h : Nat) (r : Bool) (t : T) (k : ByteArray), PutIn h r t → Near h (dropF h t k) (delP t.all k) ∧ t.ps.length + t.ks.length ≤ (dropF h t k).ps.length + (dropF h t k).ks.length + 1
  | 0, r, t, k, g => g.ev.elim
  | h + 1, r, .mk ps ks, k, g => by
    by_cases hk : ks = []
    · subst hk
      obtain ⟨hh, hl, hr, ha⟩ := g.leaf
      obtain rfl : h = 0 := by omega
      rw [dropF]
      simp only [T.ks, T.ps, if_true]
      refine ⟨⟨.inl ⟨rfl, rfl⟩, by simp [T.all, allL], fun _ => ?_, fun h => absurd rfl h⟩, ?_⟩
      · show (delP ps k).length ≤ 4
        have := delP_len ps k; omega
      · show ps.length + 0 ≤ (delP ps k).length + 0 + 1
        have := delP_ge ps k; omega
    · obtain ⟨rfl, h1, h2, h3, h4, h5⟩ := g.kids hk
      obtain ⟨q1, q2, q3⟩ := kidOf_spec k hk
      obtain ⟨a1, a2, a3⟩ := kid_apart h3 h5 q1 q2 q3
      obtain ⟨ih, ihn⟩ := dropF_out h false _ k (g.kid hk k)
      have hkf := full_count (h3 _ (tAt_mem q1))
      have HF : dropF (h + 1) (.mk [] ks) k = if (dropF h (tAt ks (kidOf ks k)) k).poor = true then .mk [] (mendK (ks.set (kidOf ks k) (dropF h (tAt ks (kidOf ks k)) k)) (kidOf ks k)) else .mk [] (ks.set (kidOf ks k) (dropF h (tAt ks (kidOf ks k)) k)) := by rw [dropF]; simp only [T.ks, T.ps, hk, if_false]; rfl
      rw [HF]
      clear HF
      generalize hq : kidOf ks k = q at *
      generalize hrr : dropF h (tAt ks q) k = rr at *
      have hset : ks.set q rr = ks.take q ++ rr :: ks.drop (q + 1) := List.set_eq_take_append_cons_drop.trans (by rw [if_pos q1])
      have hall : allL (ks.set q rr) = delP (T.mk [] ks).all k := by
        rw [hset, allL_append, allL, ih.all, show (T.mk [] ks).all = allL ks by simp [T.all], all_split q1, delP_left _ a1, delP_right _ a2]
      have hmem : ∀ x ∈ ks.set q rr, x = rr ∨ x ∈ ks := fun x hx => (List.mem_or_eq_of_mem_set hx).symm
      have hev : ∀ x ∈ ks.set q rr, Ev h x := fun x hx => (hmem x hx).elim (fun e => e ▸ ih.ev) (h4 x)
      have hln : (ks.set q rr).length = ks.length := List.length_set
      cases hpo : rr.poor with
      | false =>
        rw [if_neg (by simp)]
        refine ⟨⟨.inr ⟨fun e => by rw [e] at hln; simp at hln; omega, hev⟩, by simpa [T.all] using hall, fun e => ?_, fun _ => ⟨rfl, by show (ks.set q rr).length ≤ 4; omega, fun x hx => (hmem x hx).elim (fun e => e ▸ ih.full hpo) (h3 x)⟩⟩, by show 0 + ks.length ≤ 0 + (ks.set q rr).length + 1; omega⟩
        have e : ks.set q rr = [] := e
        rw [e] at hln; simp at hln; omega
      | true =>
        rw [if_pos rfl]
        obtain ⟨s, hs⟩ : ∃ s, max q 1 = s + 1 := ⟨max q 1 - 1, by omega⟩
        have hsl : s + 1 < ks.length := by omega
        have hpoor : rr.ps.length + rr.ks.length < 2 := of_decide_eq_true hpo
        have hrr1 : rr.ps.length + rr.ks.length = 1 := by omega
        rw [mendK_two _ s q hs (by omega)]
        have hat : ∀ i, i < ks.length → tAt (ks.set q rr) i = if i = q then rr else tAt ks i := by
          intro i hi
          by_cases e : i = q
          · subst e; simp [tAt, hi]
          · rw [if_neg e]; simp [tAt, Ne.symm e]
        have hn : ∀ i, i < ks.length → Near h (tAt (ks.set q rr) i) (tAt (ks.set q rr) i).all := by
          intro i hi
          rw [hat i hi]
          by_cases e : i = q
          · rw [if_pos e]; exact ⟨ih.ev, rfl, ih.leaf, ih.br⟩
          · rw [if_neg e]; exact near_of_full (h4 _ (tAt_mem hi)) (h3 _ (tAt_mem hi))
        have hcnt : (tAt (ks.set q rr) s).ps.length + (tAt (ks.set q rr) s).ks.length + ((tAt (ks.set q rr) (s + 1)).ps.length + (tAt (ks.set q rr) (s + 1)).ks.length) ≤ 5 ∧ 3 ≤ (tAt (ks.set q rr) s).ps.length + (tAt (ks.set q rr) s).ks.length + ((tAt (ks.set q rr) (s + 1)).ps.length + (tAt (ks.set q rr) (s + 1)).ks.length) := by
          rw [hat s (by omega), hat (s + 1) hsl]
          rcases (show (s = q ∧ s + 1 ≠ q) ∨ (s ≠ q ∧ s + 1 = q) by omega) with ⟨e1, e2⟩ | ⟨e1, e2⟩
          · rw [if_pos e1, if_neg e2]; have := full_count (h3 _ (tAt_mem hsl)); omega
          · rw [if_neg e1, if_pos e2]; have := full_count (h3 _ (tAt_mem (show s < ks.length by omega))); omega
        have out := shT_out2 (hn s (by omega)) (hn (s + 1) hsl) hcnt.2 hcnt.1
        have hsp : ks.set q rr = (ks.set q rr).take s ++ tAt (ks.set q rr) s :: tAt (ks.set q rr) (s + 1) :: (ks.set q rr).drop (s + 2) := by
          have e1 := ks_split (ks := ks.set q rr) (q := s) (by omega)
          have e2 := drop_tAt (ks := ks.set q rr) (k := s + 1) (by omega)
          rw [e2] at e1
          exact e1
        generalize ks.set q rr = kz at *
        generalize shT (tAt kz s) (tAt kz (s + 1)) = rx at *
        have hsm : ∀ x ∈ kz.take s ++ two rx ++ kz.drop (s + 2), (x ∈ two rx) ∨ (x ∈ kz ∧ (x ∈ kz.take s ∨ x ∈ kz.drop (s + 2))) := by
          intro x hx
          rcases List.mem_append.1 hx with hx | hx
          · rcases List.mem_append.1 hx with hx | hx
            · exact .inr ⟨List.mem_of_mem_take hx, .inl hx⟩
            · exact .inl hx
          · exact .inr ⟨List.mem_of_mem_drop hx, .inr hx⟩
        have hfar : ∀ x, x ∈ kz.take s ∨ x ∈ kz.drop (s + 2) → x.full false = true := by
          intro x hx
          have key : ∃ i, i < ks.length ∧ i ≠ q ∧ x = tAt kz i := by
            rcases hx with hx | hx
            · obtain ⟨i, hi⟩ := List.mem_iff_getElem?.1 hx
              rw [List.getElem?_take] at hi
              split at hi
              · rename_i h9; exact ⟨i, by omega, by omega, by simp [tAt, hi]⟩
              · cases hi
            · obtain ⟨i, hi⟩ := List.mem_iff_getElem?.1 hx
              rw [List.getElem?_drop] at hi
              have := (List.getElem?_eq_some_iff.1 hi).1
              exact ⟨s + 2 + i, by omega, by omega, by simp [tAt, hi]⟩
          obtain ⟨i, hi, hne, rfl⟩ := key
          rw [hat i hi, if_neg hne]
          exact h3 _ (tAt_mem hi)
        have htl := two_len rx
        have hlen : (kz.take s ++ two rx ++ kz.drop (s + 2)).length = s + (two rx).length + (ks.length - (s + 2)) := by simp only [List.length_append, List.length_take, List.length_drop]; omega
        refine ⟨⟨.inr ⟨fun e => by have := congrArg List.length e; rw [hlen, List.length_nil] at this; omega, fun x hx => ?_⟩, ?_, fun e => ?_, fun _ => ⟨rfl, by show (kz.take s ++ two rx ++ kz.drop (s + 2)).length ≤ 4; omega, fun x hx => ?_⟩⟩, by show 0 + ks.length ≤ 0 + (kz.take s ++ two rx ++ kz.drop (s + 2)).length + 1; omega⟩
        · rcases hsm x hx with h | h
          · exact out.ev x h
          · exact hev x h.1
        · rw [← hall]
          show [] ++ allL _ = _
          rw [List.nil_append, allL_append, allL_append, out.all]
          conv => rhs; rw [hsp]
          rw [allL_append, allL, allL]
          simp
        · have e : kz.take s ++ two rx ++ kz.drop (s + 2) = [] := e
          have := congrArg List.length e; rw [hlen, List.length_nil] at this; omega
        · rcases hsm x hx with h | h
          · exact out.fulls x h
          · exact hfar x h.2
theorem full_up {x : T} (h : x.full false = true) : x.full true = true := by
  obtain ⟨ps, ks⟩ := x
  by_cases hk : ks = []
  · subst hk; have := full_lf h; exact full_mk_leaf this.1 (.inl (by simpa using this.2))
  · obtain ⟨h1, h2, rfl, h3⟩ := full_br h hk; exact full_mk_br h1 h2 h3
/-- The root behind the drop. -/
def rootD (t : T) : T := if t.ks.length = 1 then tAt t.ks 0 else t
theorem rootD_out {h : Nat} {t : T} {k : ByteArray} (g : PutIn h true t) : ((rootD (dropF h t k)).full true = true ∨ rootD (dropF h t k) = bareT) ∧ (∃ h', Ev h' (rootD (dropF h t k))) ∧ (rootD (dropF h t k)).all = delP t.all k := by
  obtain ⟨h1, h2⟩ := dropF_out h true t k g
  generalize dropF h t k = y at *
  obtain ⟨ps, ks⟩ := y
  have er : rootD (.mk ps ks) = if ks.length = 1 then tAt ks 0 else .mk ps ks := rfl
  rw [er]
  clear er
  by_cases hk : ks = []
  · subst hk
    rw [if_neg (by simp)]
    refine ⟨?_, ⟨h, h1.ev⟩, h1.all⟩
    by_cases hp : ps = []
    · subst hp; exact .inr rfl
    · have := h1.leaf rfl
      have hl := List.length_pos_iff.2 hp
      refine .inl (full_mk_leaf this ?_)
      by_cases e : ps.length = 1
      · exact .inr ⟨rfl, e⟩
      · exact .inl (by omega)
  · obtain ⟨b1, b2, b3⟩ := h1.br hk
    have b1 : ps = [] := b1
    subst b1
    have b2 : ks.length ≤ 4 := b2
    cases h with
    | zero => exact h1.ev.elim
    | succ h =>
      rcases h1.ev with ⟨e, _⟩ | ⟨_, he⟩
      · exact absurd e hk
      · by_cases e : ks.length = 1
        · rw [if_pos e]
          have hm := tAt_mem (ks := ks) (show 0 < ks.length by omega)
          refine ⟨.inl (full_up (b3 _ hm)), ⟨h, he _ hm⟩, ?_⟩
          rw [← h1.all]
          obtain ⟨x, rfl⟩ := List.length_eq_one_iff.1 e
          simp [tAt, T.all, allL]
        · rw [if_neg e]
          have := List.length_pos_iff.2 hk
          exact ⟨.inl (full_mk_br (by omega) b2 b3), ⟨h + 1, h1.ev⟩, h1.all⟩
theorem pOk_del {l : List PB} {k : ByteArray} (h : pOk l = true) : pOk (delP l k) = true :=
  pOk_of (Nat.le_trans (delP_len l k) (pOk_len h)) (fun _ hx => pOk_mem h (delP_mem hx)) (delP_asc (pOk_asc h))
/-- The specification's way down. -/
def togS (a b : T) : List T := splT (.mk (a.ps ++ b.ps) (a.ks ++ b.ks))
def dropS : Nat → T → ByteArray → T
  | 0, t, _ => t
  | f + 1, t, k => if t.ks = [] then .mk (delS t.ps k) [] else
    if (dropS f (tAt t.ks (wayOf t.ks k)) k).poor = true then .mk [] ((t.ks.set (wayOf t.ks k) (dropS f (tAt t.ks (wayOf t.ks k)) k)).take (max (wayOf t.ks k) 1 - 1) ++ togS (tAt (t.ks.set (wayOf t.ks k) (dropS f (tAt t.ks (wayOf t.ks k)) k)) (max (wayOf t.ks k) 1 - 1)) (tAt (t.ks.set (wayOf t.ks k) (dropS f (tAt t.ks (wayOf t.ks k)) k)) (max (wayOf t.ks k) 1)) ++ (t.ks.set (wayOf t.ks k) (dropS f (tAt t.ks (wayOf t.ks k)) k)).drop (max (wayOf t.ks k) 1 + 1))
    else .mk [] (t.ks.set (wayOf t.ks k) (dropS f (tAt t.ks (wayOf t.ks k)) k))
theorem togS_two {h : Nat} {a b : T} {la lb : List PB} (ga : Near h a la) (gb : Near h b lb) : togS a b = two (shT a b) := by
  rw [shT_bareT]
  unfold togS
  obtain ⟨pa, ka⟩ := a
  obtain ⟨pb, kb⟩ := b
  simp only [T.ps, T.ks]
  cases h with
  | zero => exact ga.ev.elim
  | succ h =>
    rcases ga.ev with ⟨rfl, rfl⟩ | ⟨hka, hea⟩
    · rcases gb.ev with ⟨rfl, _⟩ | ⟨hkb, heb⟩
      · rw [List.append_nil, two_leaf]
      · obtain ⟨x, hx⟩ := List.exists_mem_of_ne_nil kb hkb
        exact (heb x hx).elim
    · obtain ⟨a1, _, _⟩ := ga.br hka
      have a1 : pa = [] := a1
      rcases gb.ev with ⟨rfl, rfl⟩ | ⟨hkb, heb⟩
      · obtain ⟨x, hx⟩ := List.exists_mem_of_ne_nil ka hka
        exact (hea x hx).elim
      · obtain ⟨b1, _, _⟩ := gb.br hkb
        have b1 : pb = [] := b1
        subst a1 b1
        rw [List.append_nil, two_branch (by simp [hka])]
theorem dropS_eq : ∀ (h : Nat) (r : Bool) (t : T) (k : ByteArray), PutIn h r t → dropS h t k = dropF h t k
  | 0, r, t, k, g => rfl
  | h + 1, r, .mk ps ks, k, g => by
    by_cases hk : ks = []
    · subst hk
      obtain ⟨_, _, _, ha⟩ := g.leaf
      rw [dropS, dropF]
      simp only [T.ks, T.ps, if_true]
      rw [delS_eq ha]
    · obtain ⟨rfl, h1, h2, h3, h4, h5⟩ := g.kids hk
      obtain ⟨q1, _, _⟩ := kidOf_spec k hk
      obtain ⟨ih, _⟩ := dropF_out h false _ k (g.kid hk k)
      have e1 : dropS (h + 1) (.mk [] ks) k = if (dropS h (tAt ks (wayOf ks k)) k).poor = true then .mk [] ((ks.set (wayOf ks k) (dropS h (tAt ks (wayOf ks k)) k)).take (max (wayOf ks k) 1 - 1) ++ togS (tAt (ks.set (wayOf ks k) (dropS h (tAt ks (wayOf ks k)) k)) (max (wayOf ks k) 1 - 1)) (tAt (ks.set (wayOf ks k) (dropS h (tAt ks (wayOf ks k)) k)) (max (wayOf ks k) 1)) ++ (ks.set (wayOf ks k) (dropS h (tAt ks (wayOf ks k)) k)).drop (max (wayOf ks k) 1 + 1)) else .mk [] (ks.set (wayOf ks k) (dropS h (tAt ks (wayOf ks k)) k)) := by
        rw [dropS, if_neg (show ¬ (T.mk [] ks).ks = [] from hk)]; rfl
      have e2 : dropF (h + 1) (.mk [] ks) k = if (dropF h (tAt ks (kidOf ks k)) k).poor = true then .mk [] (mendK (ks.set (kidOf ks k) (dropF h (tAt ks (kidOf ks k)) k)) (kidOf ks k)) else .mk [] (ks.set (kidOf ks k) (dropF h (tAt ks (kidOf ks k)) k)) := by
        rw [dropF, if_neg (show ¬ (T.mk [] ks).ks = [] from hk)]; rfl
      rw [e1, e2, wayOf_eq hk h3 h5, dropS_eq h false _ k (g.kid hk k)]
      clear e1 e2
      generalize hq : kidOf ks k = q at *
      generalize hrr : dropF h (tAt ks q) k = rr at *
      cases hpo : rr.poor with
      | false => rfl
      | true =>
        simp only [if_true]
        obtain ⟨s, hs⟩ : ∃ s, max q 1 = s + 1 := ⟨max q 1 - 1, by omega⟩
        have hsl : s + 1 < ks.length := by omega
        have hat : ∀ i, i < ks.length → tAt (ks.set q rr) i = if i = q then rr else tAt ks i := by
          intro i hi
          by_cases e : i = q
          · subst e; simp [tAt, hi]
          · rw [if_neg e]; simp [tAt, Ne.symm e]
        have hn : ∀ i, i < ks.length → Near h (tAt (ks.set q rr) i) (tAt (ks.set q rr) i).all := by
          intro i hi
          rw [hat i hi]
          by_cases e : i = q
          · rw [if_pos e]; exact ⟨ih.ev, rfl, ih.leaf, ih.br⟩
          · rw [if_neg e]; exact near_of_full (h4 _ (tAt_mem hi)) (h3 _ (tAt_mem hi))
        rw [mendK_two _ s q hs (by rw [List.length_set]; omega), hs, Nat.add_sub_cancel, togS_two (hn s (by omega)) (hn (s + 1) hsl)]
end Go.Proofs.Ytcpdedpgjaimkaa
/-
  l03Few and l03Together of the specification.
-/
namespace Go.Proofs.Ytcpdedpgjaimkaa
open Go.RowKit
set_option maxHeartbeats 1000000 in
theorem specFew_any (S : Nat → Prop) (lf : Bool) (ap ak : Option Addr) (np cp nk ck : Nat) (t : T) (w : World) (h : Sub w S lf (.slice ap np cp) (.slice ak nk ck) t) (hb : t.ks ≠ [] → t.ps = []) :
    Calls Try.prog 182 #[.agg #[.bool lf, .slice ap np cp, .slice ak nk ck]] w fun e w' => e = .returned (.bool t.poor) ∧ Below w.heap.size w w' := by
  obtain ⟨_, _, _, _, _, _, e1, e2, HNP, HNK, b1, b2, hlf, -⟩ := h.shape
  cases e1
  cases e2
  have HB0 := hid (below_new (o := .cells #[.bool lf, .slice ap np cp, .slice ak nk ck] 169) (w := w) (Below.refl _ _))
  have K0 := hid (Bk.new w 169 [.bool lf, .slice ap np cp, .slice ak nk ck])
  have c0 := K0.out.cell (j := 0) rfl
  have c1 := K0.out.cell (j := 1) rfl
  have c2 := K0.out.cell (j := 2) rfl
  clear h
  by_cases hk : nk = 0
  · have hlf' : lf = true := by rw [hlf, hk]; rfl
    have HE : Hid (t.poor = decide ((np : Int) < 2)) := by
      show decide (t.ps.length + t.ks.length < 2) = decide ((np : Int) < 2)
      rw [← HNK.out, ← HNP.out, hk, decide_eq_decide]; omega
    subst hlf' hk
    clear hlf hb
    by_cases h2 : np < 2
    · have h2' : (np : Int) < 2 := by omega
      have HE2 : Hid (t.poor = true) := by show _ = _; rw [HE.out]; exact decide_eq_true h2'
      go_enter Try.func182, Try.ntmps182
      go_wp2
      go_ret
      exact ⟨by rw [HE2.out]; rfl, HB0.out⟩
    · have h2' : ¬ (np : Int) < 2 := by omega
      have HE2 : Hid (t.poor = false) := by show _ = _; rw [HE.out]; exact decide_eq_false h2'
      go_enter Try.func182, Try.ntmps182
      go_wp2
      go_ret
      exact ⟨by rw [HE2.out]; rfl, HB0.out⟩
  · have hlf' : lf = false := by rw [hlf]; exact decide_eq_false hk
    have hps : t.ps = [] := hb (fun e => hk (by rw [HNK.out, e]; rfl))
    have HE : Hid (t.poor = decide ((nk : Int) < 2)) := by
      show decide (t.ps.length + t.ks.length < 2) = decide ((nk : Int) < 2)
      rw [← HNK.out, hps, decide_eq_decide]; simp; omega
    subst hlf'
    clear hlf hb hps
    by_cases h2 : nk < 2
    · have h2' : (nk : Int) < 2 := by omega
      have HE2 : Hid (t.poor = true) := by show _ = _; rw [HE.out]; exact decide_eq_true h2'
      go_enter Try.func182, Try.ntmps182
      go_wp2
      go_ret
      exact ⟨by rw [HE2.out]; rfl, HB0.out⟩
    · have h2' : ¬ (nk : Int) < 2 := by omega
      have HE2 : Hid (t.poor = false) := by show _ = _; rw [HE.out]; exact decide_eq_false h2'
      go_enter Try.func182, Try.ntmps182
      go_wp2
      go_ret
      exact ⟨by rw [HE2.out]; rfl, HB0.out⟩
structure TgI (w wr : World) (xa xb xs : List Value) : Prop where
  a : Bk wr w.heap.size 169 xa
  b : Bk wr (w.heap.size + 1) 169 xb
  s : Bk wr (w.heap.size + 1 + 1) 169 xs
  bel : Below w.heap.size w wr
  z : w.heap.size + 3 ≤ wr.heap.size
theorem TgI.keep {w wr w1 : World} {xa xb xs : List Value} (h : TgI w wr xa xb xs) (hb : Below wr.heap.size wr w1) : TgI w w1 xa xb xs := ⟨h.a.below hb, h.b.below hb, h.s.below hb, Below.then' h.bel hb (Nat.le_refl _), Nat.le_trans h.z hb.size⟩
theorem TgI.grow {w u w2 : World} {xa xb xs : List Value} {o : Option Nat} (h : TgI w u xa xb xs) (hg : u.grownBy w2 o) (ho : ∀ x, o = some x → w.heap.size + 3 ≤ x) : TgI w w2 xa xb xs := by
  have hon : Only (fun y => o = some y) u w2 := only_of_grown hg (fun _ e => e)
  exact ⟨h.a.to hon (fun e => by have := ho _ e; omega), h.b.to hon (fun e => by have := ho _ e; omega), h.s.to hon (fun e => by have := ho _ e; omega), h.bel.trans (hon.below h.bel.size (fun b hb e => by have := ho _ e; omega)), Nat.le_trans h.z hg.size⟩
theorem TgI.put {w u : World} {xa xb xs : List Value} (h : TgI w u xa xb xs) (j : Nat) (v : Value) : TgI w (u.setCell ⟨w.heap.size + 1 + 1, j, none⟩ v) xa xb (xs.set j v) := by
  have hon : Only (fun y => y = w.heap.size + 1 + 1) u (u.setCell ⟨w.heap.size + 1 + 1, j, none⟩ v) := only_set (R := fun y => y = w.heap.size + 1 + 1) rfl _
  exact ⟨h.a.to hon (by omega), h.b.to hon (by omega), h.s.set j v, h.bel.trans (hon.below h.bel.size (fun b hb e => by omega)), Nat.le_trans h.z hon.size⟩
theorem SubR.subP {w : World} {S : Nat → Prop} {lf : Bool} {pv kv : Value} {ps : List PB} {ts : List T} (h : SubR w S kv ts) (hP : Pr w S pv ps) (hlf : lf = decide (ts.length = 0)) : Sub w S lf pv kv (.mk ps ts) := by
  obtain ⟨L, P, K, h1, h2⟩ := h
  exact .mk lf pv kv ps ts L P K hlf hP h1 h2
set_option maxHeartbeats 2000000 in
set_option maxRecDepth 20000 in
theorem specTogether_any (S : Nat → Prop) (l1 l2 : Bool) (ap1 ak1 ap2 ak2 : Option Addr) (np1 cp1 nk1 ck1 np2 cp2 nk2 ck2 : Nat) (t1 t2 : T) (w : World) (h1 : Sub w S l1 (.slice ap1 np1 cp1) (.slice ak1 nk1 ck1) t1) (h2 : Sub w S l2 (.slice ap2 np2 cp2) (.slice ak2 nk2 ck2) t2)
    (hab : t1.ks = [] ↔ t2.ks = []) (hs : t1.ps.length + t2.ps.length ≤ 1000) (hs2 : t1.ks.length + t2.ks.length ≤ 1000) :
    Calls Try.prog 183 #[.agg #[.bool l1, .slice ap1 np1 cp1, .slice ak1 nk1 ck1], .agg #[.bool l2, .slice ap2 np2 cp2, .slice ak2 nk2 ck2]] w fun e w' => SubsPost w S (togS t1 t2) e w' := by
  obtain ⟨_, _, _, _, _, _, e1, e2, HNP1, HNK1, -, -, hl1, hP1⟩ := h1.shape
  cases e1
  cases e2
  obtain ⟨_, _, _, _, _, _, e1, e2, HNP2, HNK2, -, -, -, hP2⟩ := h2.shape
  cases e1
  cases e2
  have HLF : Hid (l1 = decide ((t1.ks ++ t2.ks).length = 0)) := by
    show _ = _
    rw [hl1, HNK1.out, decide_eq_decide, List.length_append]
    constructor
    · intro h
      have := hab.1 (List.eq_nil_of_length_eq_zero h)
      rw [this]; simp; exact List.eq_nil_of_length_eq_zero h
    · intro h; omega
  have H1 : Hid (Sub w (fun y => S y ∧ y < w.heap.size) l1 (.slice ap1 np1 cp1) (.slice ak1 nk1 ck1) t1) := h1.mono (fun y hy hl => ⟨hy, hl⟩)
  have H2 : Hid (Sub w (fun y => S y ∧ y < w.heap.size) l2 (.slice ap2 np2 cp2) (.slice ak2 nk2 ck2) t2) := h2.mono (fun y hy hl => ⟨hy, hl⟩)
  have HP1 : Hid (Pr w (fun y => S y ∧ y < w.heap.size) (.slice ap1 np1 cp1) t1.ps) := Rw.mono hP1 (fun y hy hl => ⟨hy, hl⟩)
  have HP2 : Hid (Pr w (fun y => S y ∧ y < w.heap.size) (.slice ap2 np2 cp2) t2.ps) := Rw.mono hP2 (fun y hy hl => ⟨hy, hl⟩)
  have HSP : Hid (t1.ps.length + t2.ps.length ≤ 1000 ∧ t1.ks.length + t2.ks.length ≤ 1000) := ⟨hs, hs2⟩
  clear h1 h2 hP1 hP2 hab hl1 hs hs2
  have HI0 : Hid (TgI w (((w.alloc (.cells #[.bool l1, .slice ap1 np1 cp1, .slice ak1 nk1 ck1] 169)).alloc (.cells #[.bool l2, .slice ap2 np2 cp2, .slice ak2 nk2 ck2] 169)).alloc (.cells #[.bool l1, .slice none 0 0, .slice none 0 0] 169)) [.bool l1, .slice ap1 np1 cp1, .slice ak1 nk1 ck1] [.bool l2, .slice ap2 np2 cp2, .slice ak2 nk2 ck2] [.bool l1, .slice none 0 0, .slice none 0 0]) := by
    refine ⟨((Bk.new w 169 [.bool l1, .slice ap1 np1 cp1, .slice ak1 nk1 ck1]).alloc _).alloc _, ?_, ?_, below_new (below_new (below_new (Below.refl _ _))), by simp⟩
    · have := (Bk.new (w.alloc (.cells #[.bool l1, .slice ap1 np1 cp1, .slice ak1 nk1 ck1] 169)) 169 [.bool l2, .slice ap2 np2 cp2, .slice ak2 nk2 ck2]).alloc (.cells #[.bool l1, .slice none 0 0, .slice none 0 0] 169)
      simpa using this
    · have := Bk.new ((w.alloc (.cells #[.bool l1, .slice ap1 np1 cp1, .slice ak1 nk1 ck1] 169)).alloc (.cells #[.bool l2, .slice ap2 np2 cp2, .slice ak2 nk2 ck2] 169)) 169 [.bool l1, .slice none 0 0, .slice none 0 0]
      simpa using this
  have q0 := ((Bk.new w 169 [.bool l1, .slice ap1 np1 cp1, .slice ak1 nk1 ck1]).alloc (.cells #[.bool l2, .slice ap2 np2 cp2, .slice ak2 nk2 ck2] 169)).cell (j := 0) rfl
  go_enter Try.func183, Try.ntmps183
  go_wp2_with fail
  generalize ((w.alloc (.cells #[.bool l1, .slice ap1 np1 cp1, .slice ak1 nk1 ck1] 169)).alloc (.cells #[.bool l2, .slice ap2 np2 cp2, .slice ak2 nk2 ck2] 169)).alloc (.cells #[.bool l1, .slice none 0 0, .slice none 0 0] 169) = U at *
  clear q0
  have a1 := HI0.out.a.cell (j := 1) rfl
  have b1 := HI0.out.b.cell (j := 1) rfl
  have s1 := HI0.out.s.cell (j := 1) rfl
  have sf := HI0.out.s.free 1
  have HIb := hid (HI0.out.keep (below_new (o := .cells #[] 33) (w := U) (Below.refl _ _)))
  have HIa := hid (HIb.out.keep (below_drew _))
  have a1' := HIb.out.a.cell (j := 1) rfl
  have b1' := HIb.out.b.cell (j := 1) rfl
  have HO0 := hid ((ow_new U (w.heap.size + 3) HI0.out.z).kept (below_drew _))
  have HW1 : Hid (∀ (v2 : Value) (w2 : World), Ow w2 (w.heap.size + 3) v2 ([] ++ t1.ps) → (U.alloc (.cells #[] 33)).drew.grownBy w2 (Value.slice (some ⟨U.heap.size, 0, none⟩) 0 0).ownBlock → TgI w w2 [.bool l1, .slice ap1 np1 cp1, .slice ak1 nk1 ck1] [.bool l2, .slice ap2 np2 cp2, .slice ak2 nk2 ck2] [.bool l1, .slice none 0 0, .slice none 0 0]) := fun v2 w2 _ hg => HIa.out.grow hg (fun x e => by have := HI0.out.z; have e' : U.heap.size = x := (by simpa [Value.ownBlock] using e); omega)
  have HFIN : Hid (∀ (w2 w3 : World) (a2 a3 : Option Addr) (n2 c2 n3 c3 : Nat), TgI w w2 [.bool l1, .slice ap1 np1 cp1, .slice ak1 nk1 ck1] [.bool l2, .slice ap2 np2 cp2, .slice ak2 nk2 ck2] [.bool l1, .slice none 0 0, .slice none 0 0] → Ow w2 (w.heap.size + 3) (.slice a2 n2 c2) ([] ++ t1.ps) → w2.grownBy w3 (Value.slice a2 n2 c2).ownBlock → Ow w3 (w.heap.size + 3) (.slice a3 n3 c3) (([] ++ t1.ps) ++ t2.ps) →
      TgI w (w3.setCell ⟨w.heap.size + 1 + 1, 1, none⟩ (.slice a3 n3 c3)) [.bool l1, .slice ap1 np1 cp1, .slice ak1 nk1 ck1] [.bool l2, .slice ap2 np2 cp2, .slice ak2 nk2 ck2] [.bool l1, .slice a3 n3 c3, .slice none 0 0] ∧ Ow (w3.setCell ⟨w.heap.size + 1 + 1, 1, none⟩ (.slice a3 n3 c3)) (w.heap.size + 3) (.slice a3 n3 c3) (t1.ps ++ t2.ps)) := by
    intro w2 w3 a2 a3 n2 c2 n3 c3 hI hO2 hg hO3
    refine ⟨(hI.grow hg (fun x e => (World.ownsRow.lt hO2 x e).1)).put 1 _, ?_⟩
    exact Ow.to hO3 (only_set (R := fun y => y = w.heap.size + 1 + 1) rfl _) (fun x e h => by have := (World.ownsRow.lt hO3 x e).1; omega)
  have hl1 : ([] : List PB).length + t1.ps.length ≤ 2097154 := by have := HSP.out.1; simp; omega
  have hl2 : (([] : List PB) ++ t1.ps).length + t2.ps.length ≤ 2097154 := by have := HSP.out.1; simp; omega
  go_cut [15] (fun x v => ∃ (a3 : Option Addr) (n3 c3 : Nat), x = x ∧ Hid (TgI w v [.bool l1, .slice ap1 np1 cp1, .slice ak1 nk1 ck1] [.bool l2, .slice ap2 np2 cp2, .slice ak2 nk2 ck2] [.bool l1, .slice a3 n3 c3, .slice none 0 0]) ∧ Hid (Ow v (w.heap.size + 3) (.slice a3 n3 c3) (t1.ps ++ t2.ps)))
  case first =>
    go_region_law (first
      | (refine step_append_pairs rfl _ _ rfl (w.heap.size + 3) (.slice (some ⟨U.heap.size, 0, none⟩) 0 0) [] rfl HO0.out _ _ t1.ps rfl (HP1.out.below HIa.out.bel) hl1 HIa.out.z ?_; intro v2 w2 hO2 hg2; obtain ⟨a2, n2, c2, e2, -⟩ := hO2.shape'; subst e2; have hI2 := HW1.out _ _ hO2 hg2; have b2' := hI2.b.cell (j := 1) rfl)
      | (refine step_append_pairs rfl _ _ rfl (w.heap.size + 3) (.slice a2 n2 c2) ([] ++ t1.ps) rfl hO2 _ _ t2.ps rfl (HP2.out.below hI2.bel) hl2 hI2.z ?_; intro v3 w3 hO3 hg3; obtain ⟨a3, n3, c3, e3, -⟩ := hO3.shape'; subst e3; have hI3 := hI2.grow hg3 (fun x e => (World.ownsRow.lt hO2 x e).1); have s3 := hI3.s.cell (j := 1) rfl; have s3f := hI3.s.free 1))
    all_goals (go_wp2_with fail; go_meet)
    all_goals exact ⟨_, _, _, trivial, (HFIN.out _ _ _ _ _ _ _ _ hI2 hO2 hg3 hO3).1, (HFIN.out _ _ _ _ _ _ _ _ hI2 hO2 hg3 hO3).2⟩
  case rest =>
    obtain ⟨a3, n3, c3, -, HI3, HO3⟩ := hcut
    clear HFIN HW1 HO0 HIa HIb a1 b1 s1 sf a1' b1' HI0 hl1 hl2
    have a1 := HI3.out.a.cell (j := 2) rfl
    have b1 := HI3.out.b.cell (j := 2) rfl
    have s1 := HI3.out.s.cell (j := 2) rfl
    have sf := HI3.out.s.free 2
    have HIb := hid (HI3.out.keep (below_new (o := .cells #[] 169) (w := wc) (Below.refl _ _)))
    have HIa := hid (HIb.out.keep (below_drew _))
    have a1' := HIb.out.a.cell (j := 2) rfl
    have b1' := HIb.out.b.cell (j := 2) rfl
    have HS0 := hid ((so_new wc wc.heap.size (Nat.le_refl _)).kept (below_drew _))
    have HZ := hid HI3.out.z
    have HAP : Hid (∀ y, S y ∧ y < w.heap.size → (Value.slice (some ⟨wc.heap.size, 0, none⟩) 0 0).ownBlock ≠ some y) := fun y hy e => by have := HZ.out; have e' : wc.heap.size = y := (by simpa [Value.ownBlock] using e); have := hy.2; omega
    have HAQ : Hid (∀ (w4 : World) (R : Nat → Prop) (v4 : Value) (L : List T), SO w4 wc.heap.size R v4 L → ∀ y, S y ∧ y < w.heap.size → v4.ownBlock ≠ some y) := fun w4 R v4 L h y hy e => by have := HZ.out; have := (h.lo y e).1; have := hy.2; omega
    have hl1 : ([] : List T).length + t1.ks.length ≤ 1048576 := by have := HSP.out.2; simp; omega
    have hl2 : (([] : List T) ++ t1.ks).length + t2.ks.length ≤ 1048576 := by have := HSP.out.2; simp; omega
    have HZA : Hid (wc.heap.size ≤ (wc.alloc (.cells #[] 169)).drew.heap.size) := by show wc.heap.size ≤ (wc.alloc (.cells #[] 169)).heap.size; simp
    have HGR : Hid (∀ (w4 : World) (R : Nat → Prop) (v4 : Value) (L : List T), (wc.alloc (.cells #[] 169)).drew.grownBy w4 (Value.slice (some ⟨wc.heap.size, 0, none⟩) 0 0).ownBlock → TgI w w4 [.bool l1, .slice ap1 np1 cp1, .slice ak1 nk1 ck1] [.bool l2, .slice ap2 np2 cp2, .slice ak2 nk2 ck2] [.bool l1, .slice a3 n3 c3, .slice none 0 0] ∧ wc.heap.size ≤ w4.heap.size ∧ Ow w4 (w.heap.size + 3) (.slice a3 n3 c3) (t1.ps ++ t2.ps)) := by
      intro w4 R v4 L hg
      have hon : Only (fun y => wc.heap.size ≤ y) (wc.alloc (.cells #[] 169)).drew w4 := only_of_grown hg (fun k e => by have e' : wc.heap.size = k := (by simpa [Value.ownBlock] using e); omega)
      refine ⟨HIa.out.grow hg (fun x e => by have := HZ.out; have e' : wc.heap.size = x := (by simpa [Value.ownBlock] using e); omega), Nat.le_trans HZA.out hg.size, ?_⟩
      exact ((HO3.out.kept (below_new (Below.refl _ _))).kept (below_drew _)).to hon (fun x e h => by have := (World.ownsRow.lt HO3.out x e).2; omega)
    have HFIN : Hid (∀ (w4 w5 : World) (a4 a5 : Option Addr) (n4 c4 n5 c5 : Nat) (R4 R5 : Nat → Prop), TgI w w4 [.bool l1, .slice ap1 np1 cp1, .slice ak1 nk1 ck1] [.bool l2, .slice ap2 np2 cp2, .slice ak2 nk2 ck2] [.bool l1, .slice a3 n3 c3, .slice none 0 0] → SO w4 wc.heap.size R4 (.slice a4 n4 c4) ([] ++ t1.ks) → w4.grownBy w5 (Value.slice a4 n4 c4).ownBlock → SO w5 wc.heap.size R5 (.slice a5 n5 c5) (([] ++ t1.ks) ++ t2.ks) → (∀ y, R5 y → S y ∧ y < w.heap.size) → Ow w4 (w.heap.size + 3) (.slice a3 n3 c3) (t1.ps ++ t2.ps) →
        TgI w (w5.setCell ⟨w.heap.size + 1 + 1, 2, none⟩ (.slice a5 n5 c5)) [.bool l1, .slice ap1 np1 cp1, .slice ak1 nk1 ck1] [.bool l2, .slice ap2 np2 cp2, .slice ak2 nk2 ck2] [.bool l1, .slice a3 n3 c3, .slice a5 n5 c5] ∧ Sub (w5.setCell ⟨w.heap.size + 1 + 1, 2, none⟩ (.slice a5 n5 c5)) (fun y => S y ∨ w.heap.size ≤ y) l1 (.slice a3 n3 c3) (.slice a5 n5 c5) (.mk (t1.ps ++ t2.ps) (t1.ks ++ t2.ks))) := by
      intro w4 w5 a4 a5 n4 c4 n5 c5 R4 R5 hI hO4 hg hO5 hR hOw
      have hz := HZ.out
      have hon : Only (fun y => y = w.heap.size + 1 + 1) w5 (w5.setCell ⟨w.heap.size + 1 + 1, 2, none⟩ (.slice a5 n5 c5)) := only_set (R := fun y => y = w.heap.size + 1 + 1) rfl _
      have hon4 : Only (fun y => wc.heap.size ≤ y) w4 w5 := only_of_grown hg (fun k e => (hO4.lo k e).1)
      have hlt3 := World.ownsRow.lt HO3.out
      have hw5 := hOw.to hon4 (fun x e h => by have := (hlt3 x e).2; omega)
      have hwf := hw5.to hon (fun x e h => by have := (hlt3 x e).1; omega)
      refine ⟨(hI.grow hg (fun x e => by have := (hO4.lo x e).1; omega)).put 2 _, ?_⟩
      have hSO := hO5.to hon (fun y e h => by have := (hO5.lo y e).1; omega) (fun y hy _ h => by have := (hR y hy).2; omega)
      refine (hSO.subR (R := fun y => S y ∨ w.heap.size ≤ y) (fun y _ h1 _ => .inr (by omega)) (fun y hy _ => .inl (hR y hy).1)).subP (hwf.pr (fun k _ h1 _ => .inr (by omega))) ?_
      have := HLF.out
      simpa using this
    go_wp2_with fail
    go_cut [23] (fun x v => ∃ (a5 : Option Addr) (n5 c5 : Nat), x = x ∧ Hid (TgI w v [.bool l1, .slice ap1 np1 cp1, .slice ak1 nk1 ck1] [.bool l2, .slice ap2 np2 cp2, .slice ak2 nk2 ck2] [.bool l1, .slice a3 n3 c3, .slice a5 n5 c5]) ∧ Hid (Sub v (fun y => S y ∨ w.heap.size ≤ y) l1 (.slice a3 n3 c3) (.slice a5 n5 c5) (.mk (t1.ps ++ t2.ps) (t1.ks ++ t2.ks))))
    case first =>
      go_region_law (first
        | (refine step_append_subs rfl _ _ rfl wc.heap.size _ (fun y => S y ∧ y < w.heap.size) (.slice (some ⟨wc.heap.size, 0, none⟩) 0 0) _ [] t1.ks rfl HS0.out rfl ((H1.out.kept HIa.out.bel).row) HAP.out hl1 HZA.out ?_; intro v4 w4 hO4 hg4 ha4; obtain ⟨a4, n4, c4, e4, -⟩ := hO4.shape; subst e4; obtain ⟨hI4, hz4, hw4⟩ := HGR.out w4 (fun _ => True) (.slice none 0 0) [] hg4; have b2' := hI4.b.cell (j := 2) rfl)
        | (refine step_append_subs rfl _ _ rfl wc.heap.size _ (fun y => S y ∧ y < w.heap.size) (.slice a4 n4 c4) _ ([] ++ t1.ks) t2.ks rfl hO4 rfl ((H2.out.kept hI4.bel).row) (HAQ.out _ _ _ _ hO4) hl2 hz4 ?_; intro v5 w5 hO5 hg5 ha5; obtain ⟨a5, n5, c5, e5, -⟩ := hO5.shape; subst e5; have hI5 := hI4.grow hg5 (fun x e => Nat.le_trans HZ.out (hO4.lo x e).1); have s3 := hI5.s.cell (j := 2) rfl; have s3f := hI5.s.free 2))
      all_goals (go_wp2_with fail; go_meet)
      all_goals exact ⟨_, _, _, trivial, (HFIN.out _ _ _ _ _ _ _ _ _ _ hI4 hO4 hg5 hO5 (fun y hy => by rcases hy.1 with ⟨h | h, _⟩ | h; exact h.elim; exact h; exact h) hw4).1, (HFIN.out _ _ _ _ _ _ _ _ _ _ hI4 hO4 hg5 hO5 (fun y hy => by rcases hy.1 with ⟨h | h, _⟩ | h; exact h.elim; exact h; exact h) hw4).2⟩
    case rest =>
      obtain ⟨a5, n5, c5, -, HI5, HS5⟩ := hcut
      clear HFIN HGR HAQ HAP HS0 HIa HIb a1 b1 s1 sf a1' b1' HI3 HO3
      have q0 := HI5.out.s.cell (j := 0) rfl
      have q1 := HI5.out.s.cell (j := 1) rfl
      have q2 := HI5.out.s.cell (j := 2) rfl
      rename_i wc2
      have HSP2 := hid (specSplit_any _ l1 a3 a5 n3 c3 n5 c5 _ _ HS5.out)
      go_wp2_with fail
      refine HSP2.out.mono ?_
      rintro e w7 ⟨v7, rfl, h8, h9⟩
      have H8 : Hid (SubR w7 (fun y => S y ∨ w.heap.size ≤ y) v7 (togS t1 t2)) := h8.mono (fun y hy _ => hy.elim id (fun h => .inr (by have := HI5.out.z; omega)))
      have H9 := hid (Below.then' HI5.out.bel h9 (Nat.le_refl _))
      clear h8 h9 HSP2
      go_wp2
      go_ret
      exact ⟨_, rfl, H8.out, H9.out⟩
end Go.Proofs.Ytcpdedpgjaimkaa
/-
  A list of nodes whose rows are all apart from each other.
-/
namespace Go.Proofs.Ytcpdedpgjaimkaa
open Go.RowKit
structure NA (w : World) (v : Value) (V : List V3) (ns : List NB) : Prop where
  len : V.length = ns.length
  row : w.ownsRow 0 158 3 v ns.length (ncs V)
  own : ∀ i, i < ns.length → OwN w (vAt V i) (nAt ns i) ∧ ap3 (vAt V i)
  apart : ∀ i j, i < ns.length → j < ns.length → i ≠ j → ∀ y, bl (vAt V i) y → ¬ bl (vAt V j) y
  off : ∀ i, i < ns.length → ∀ y, bl (vAt V i) y → v.ownBlock ≠ some y
theorem NA.to {w w' : World} {R : Nat → Prop} {v : Value} {V : List V3} {ns : List NB} (h : NA w v V ns) (ho : Only R w w') (hv : ∀ y, v.ownBlock = some y → ¬ R y) (hR : ∀ i, i < ns.length → ∀ y, bl (vAt V i) y → ¬ R y) : NA w' v V ns :=
  ⟨h.len, own_kept h.row ho hv, fun i hi => ⟨(h.own i hi).1.to ho (hR i hi), (h.own i hi).2⟩, h.apart, h.off⟩
theorem NA.kept {w w' : World} {v : Value} {V : List V3} {ns : List NB} (h : NA w v V ns) (hb : Below w.heap.size w w') : NA w' v V ns := h.to (only_of_below hb (fun _ => False)) (fun _ _ h => h) (fun _ _ _ _ h => h)
theorem na_nil (w : World) : NA w (.slice none 0 0) [] [] := ⟨rfl, World.ownsRow_nil _ _ _ _, fun i hi => by simp at hi, fun i j hi => by simp at hi, fun i hi => by simp at hi⟩
theorem NA.nr {w : World} {v : Value} {V : List V3} {ns : List NB} (h : NA w v V ns) {S : Nat → Prop} (hS : ∀ y, y < w.heap.size → S y) : Nr w S v ns :=
  ⟨V, h.len, rw_own h.row (fun k _ _ h => hS k h), fun i hi => ⟨rw_own (h.own i hi).1.1 (fun k _ _ h => hS k h), rw_own (h.own i hi).1.2.1 (fun k _ _ h => hS k h), rw_own (h.own i hi).1.2.2 (fun k _ _ h => hS k h)⟩⟩
/-- append(nodes, a node). -/
theorem NA.push {u w2 : World} {v v' : Value} {V : List V3} {ns : List NB} (h : NA u v V ns) (x : NB) (p : V3) (hx : OwN u p x) (hap : ap3 p) (hd : ∀ y, bl p y → v.ownBlock ≠ some y ∧ ∀ i, i < ns.length → ¬ bl (vAt V i) y)
    (ho : w2.ownsRow 0 158 3 v' (ns.length + 1) (ncs V ++ [p.1, p.2.1, p.2.2])) (hg : u.grownBy w2 v.ownBlock) (ha : v'.ownBlock = v.ownBlock ∨ v'.ownBlock = some u.heap.size) :
    NA w2 v' (V ++ [p]) (ns ++ [x]) := by
  have o : Only (fun y => v.ownBlock = some y) u w2 := only_of_grown hg (fun k e => e)
  have hl := h.len
  have hat : ∀ i, i < (ns ++ [x]).length → (i < ns.length ∧ vAt (V ++ [p]) i = vAt V i ∧ nAt (ns ++ [x]) i = nAt ns i) ∨ (i = ns.length ∧ vAt (V ++ [p]) i = p ∧ nAt (ns ++ [x]) i = x) := by
    intro i hi
    simp at hi
    by_cases e : i < ns.length
    · exact .inl ⟨e, vAt_append_left (by omega), nAt_append_left e⟩
    · obtain rfl : i = ns.length := by omega
      exact .inr ⟨rfl, by rw [← hl, vAt_append_at], nAt_append_at _ _ _⟩
  refine ⟨by simp [hl], by rw [ncs_append, List.length_append]; exact ho, fun i hi => ?_, fun i j hi hj hij y hy hz => ?_, fun i hi y hy hv => ?_⟩
  · rcases hat i hi with ⟨e, e1, e2⟩ | ⟨e, e1, e2⟩
    · rw [e1, e2]; exact ⟨(h.own i e).1.to o (h.off i e), (h.own i e).2⟩
    · rw [e1, e2]; exact ⟨hx.to o (fun y hy => (hd y hy).1), hap⟩
  · rcases hat i hi with ⟨e, e1, _⟩ | ⟨e, e1, _⟩
    · rw [e1] at hy
      rcases hat j hj with ⟨d, d1, _⟩ | ⟨d, d1, _⟩
      · rw [d1] at hz; exact h.apart i j e d hij y hy hz
      · rw [d1] at hz; exact (hd y hz).2 i e hy
    · rw [e1] at hy
      rcases hat j hj with ⟨d, d1, _⟩ | ⟨d, d1, _⟩
      · rw [d1] at hz; exact (hd y hy).2 j d hz
      · omega
  · have : y < u.heap.size ∧ v.ownBlock ≠ some y := by
      rcases hat i hi with ⟨e, e1, _⟩ | ⟨e, e1, _⟩
      · rw [e1] at hy; exact ⟨(h.own i e).1.lt hy, h.off i e y hy⟩
      · rw [e1] at hy; exact ⟨hx.lt hy, (hd y hy).1⟩
    rcases ha with ha | ha
    · rw [ha] at hv; exact this.2 hv
    · rw [ha] at hv; cases hv; omega
theorem nAt_other (ms : List NB) (z x : NB) (l : List NB) {i : Nat} (h : i ≠ ms.length) : nAt (ms ++ x :: l) i = nAt (ms ++ z :: l) i := by
  by_cases hi2 : i < ms.length
  · rw [nAt_append_left hi2, nAt_append_left hi2]
  · obtain ⟨j, rfl⟩ : ∃ j, i = ms.length + 1 + j := ⟨i - ms.length - 1, by omega⟩
    simp only [nAt]
    rw [List.getElem?_append_right (by omega), List.getElem?_append_right (by omega), show ms.length + 1 + j - ms.length = j + 1 by omega]
    rfl
/-- One node has turned. -/
theorem NA.upd {u w2 w3 : World} {v : Value} {V : List V3} {ms l : List NB} {z z' : NB} {p' : V3} {g : Nat} (h : NA u v V (ms ++ z :: l)) (hv : v.ownBlock = some g) (ho : Only (bl (vAt V ms.length)) u w2) (hown : OwN w2 p' z') (hap : ap3 p')
    (hbl : ∀ y, bl p' y → bl (vAt V ms.length) y ∨ u.heap.size ≤ y) (o3 : Only (fun y => y = g) w2 w3) (hrow : w3.ownsRow 0 158 3 v (ms ++ z :: l).length (ncs (V.set ms.length p'))) : NA w3 v (V.set ms.length p') (ms ++ z' :: l) := by
  have hl2 : (ms ++ z' :: l).length = (ms ++ z :: l).length := by simp
  have hlt : ms.length < (ms ++ z :: l).length := by simp
  have hl := h.len
  have hg : g < u.heap.size := (World.ownsRow.lt h.row g hv).2
  have hoff : ∀ y, bl p' y → y ≠ g := by
    intro y hy e
    rcases hbl y hy with h1 | h1
    · exact h.off _ hlt y h1 (by rw [hv, e])
    · omega
  have hat : ∀ i, i ≠ ms.length → vAt (V.set ms.length p') i = vAt V i := fun i hi => vAt_other _ _ _ _ hi
  have hat0 : vAt (V.set ms.length p') ms.length = p' := vAt_set _ _ _ (by omega)
  refine ⟨by rw [List.length_set, hl, hl2], by rw [hl2]; exact hrow, fun i hi => ?_, fun i j hi hj hij y hy hz => ?_, fun i hi y hy hv' => ?_⟩
  · rw [hl2] at hi
    by_cases e : i = ms.length
    · subst e
      rw [hat0, nAt_append_at]
      exact ⟨hown.to o3 (fun y hy => hoff y hy), hap⟩
    · rw [hat i e, nAt_other ms z z' l e]
      exact ⟨((h.own i hi).1.to ho (fun y hy hz => h.apart i ms.length hi hlt e y hy hz)).to o3 (fun y hy e2 => h.off i hi y hy (by rw [hv, e2])), (h.own i hi).2⟩
  · rw [hl2] at hi hj
    have key : ∀ i, i < (ms ++ z :: l).length → i ≠ ms.length → ∀ y, bl (vAt V i) y → ¬ bl p' y := by
      intro i hi e y hy hz
      rcases hbl y hz with h1 | h1
      · exact h.apart i ms.length hi hlt e y hy h1
      · have := (h.own i hi).1.lt hy; omega
    by_cases e : i = ms.length
    · rw [e, hat0] at hy
      have hj' : j ≠ ms.length := by omega
      rw [hat j hj'] at hz
      exact key j hj hj' y hz hy
    · rw [hat i e] at hy
      by_cases e2 : j = ms.length
      · rw [e2, hat0] at hz; exact key i hi e y hy hz
      · rw [hat j e2] at hz; exact h.apart i j hi hj hij y hy hz
  · rw [hl2] at hi
    rw [hv] at hv'
    cases hv'
    by_cases e : i = ms.length
    · rw [e, hat0] at hy; exact hoff _ hy rfl
    · rw [hat i e] at hy; exact h.off i hi _ hy hv
theorem row_set {w : World} {E : TypeId} {s g n c m : Nat} {xs : List Value} (h : w.ownsRow 0 E s (.slice (some ⟨g, 0, none⟩) n c) m xs) (j : Nat) (u : Value) : (w.setCell ⟨g, j, none⟩ u).ownsRow 0 E s (.slice (some ⟨g, 0, none⟩) n c) m (xs.set j u) := by
  obtain ⟨k1, k2⟩ := h
  rcases k2 with ⟨k2, _⟩ | ⟨g', cap, cur, e, k3, k4, k5, k6, k7, k8⟩
  · cases k2
  · cases e
    refine ⟨by simpa using k1, .inr ⟨g, c, cur.setIfInBounds j u, rfl, k3, ?_, k5, k6, by simpa using k7, ?_⟩⟩
    · simp [World.setCell, Array.getElem?_modify, k4]
    · rw [← k8]
      simp only [Array.toList_setIfInBounds, List.take_set]
theorem set_same {xs : List Value} {j : Nat} {u : Value} (h : xs[j]? = some u) : xs.set j u = xs := by
  apply List.ext_getElem?
  intro i
  rw [List.getElem?_set]
  split
  · rename_i e; subst e
    split
    · exact h.symm
    · rename_i hl; rw [List.getElem?_eq_none (by omega)]
  · rfl
theorem ncs_set1 (V : List V3) (j : Nat) (x : Value) (h : j < V.length) : ncs (V.set j ((vAt V j).1, x, (vAt V j).2.2)) = (ncs V).set (j * 3 + 1) x := by
  obtain ⟨c0, c1, c2⟩ := ncs_at V j h
  rw [ncs_set _ _ _ h]
  simp only
  rw [set_same c0]
  apply set_same
  rw [List.getElem?_set, if_neg (by omega)]
  exact c2
theorem ncs_set2 (V : List V3) (j : Nat) (x : Value) (h : j < V.length) : ncs (V.set j ((vAt V j).1, (vAt V j).2.1, x)) = (ncs V).set (j * 3 + 2) x := by
  obtain ⟨c0, c1, c2⟩ := ncs_at V j h
  rw [ncs_set _ _ _ h]
  simp only
  rw [set_same c0, set_same c1]
/-- l[at].Keys = append(l[at].Keys, s) -/
theorem NA.addKey {u w2 : World} {g n c : Nat} {V : List V3} {ms l : List NB} {z : NB} {kx' : Value} {s : ByteArray} (h : NA u (.slice (some ⟨g, 0, none⟩) n c) V (ms ++ z :: l)) (hO : w2.ownsRow 0 9 1 kx' (z.keys.length + 1) (z.keys.map Value.string ++ [.string s])) (hg : u.grownBy w2 (vAt V ms.length).2.1.ownBlock)
    (ha : kx'.ownBlock = (vAt V ms.length).2.1.ownBlock ∨ ∃ k, kx'.ownBlock = some k ∧ u.heap.size ≤ k) :
    NA (w2.setCell ⟨g, ms.length * 3 + 1, none⟩ kx') (.slice (some ⟨g, 0, none⟩) n c) (V.set ms.length ((vAt V ms.length).1, kx', (vAt V ms.length).2.2)) (ms ++ ⟨z.ps, z.keys ++ [s], z.kids⟩ :: l) := by
  have hlt : ms.length < (ms ++ z :: l).length := by simp
  obtain ⟨h1, h2⟩ := h.own _ hlt
  rw [nAt_append_at] at h1
  have o : Only (fun y => (vAt V ms.length).2.1.ownBlock = some y) u w2 := only_of_grown hg (fun k e => e)
  have hl := h.len
  have hnew : ∀ y, kx'.ownBlock = some y → (vAt V ms.length).2.1.ownBlock = some y ∨ u.heap.size ≤ y := by
    intro y hy
    rcases ha with e | ⟨k, e, hk⟩
    · exact .inl (e ▸ hy)
    · rw [e] at hy; cases hy; exact .inr hk
  refine h.upd rfl (o.mono (fun y _ e => .inr (.inl e))) ⟨?_, ?_, ?_⟩ ?_ ?_ (only_set (R := fun y => y = g) rfl _) ?_
  · exact own_kept h1.1 o (fun y e e2 => ((h2 y).1 e).1 e2)
  · simpa using hO
  · exact own_kept h1.2.2 o (fun y e e2 => (h2 y).2 e2 e)
  · intro y
    refine ⟨fun e => ⟨fun e2 => ?_, ((h2 y).1 e).2⟩, fun e e2 => ?_⟩
    · rcases hnew y e2 with h3 | h3
      · exact ((h2 y).1 e).1 h3
      · have := h1.lt (.inl e); omega
    · rcases hnew y e with h3 | h3
      · exact (h2 y).2 h3 e2
      · have := h1.lt (.inr (.inr e2)); omega
  · rintro y (e | e | e)
    · exact .inl (.inl e)
    · exact (hnew y e).imp (fun h => .inr (.inl h)) id
    · exact .inl (.inr (.inr e))
  · rw [ncs_set1 _ _ _ (by omega)]
    exact row_set (own_kept h.row o (fun y e e2 => h.off _ hlt y (.inr (.inl e2)) e)) _ _
/-- l[at].Kids = append(l[at].Kids, s) -/
theorem NA.addKid {u w2 : World} {g n c : Nat} {V : List V3} {ms l : List NB} {z : NB} {ki' : Value} {s : Int} (h : NA u (.slice (some ⟨g, 0, none⟩) n c) V (ms ++ z :: l)) (hO : w2.ownsRow 0 3 1 ki' (z.kids.length + 1) (z.kids.map (Value.int .i64) ++ [.int .i64 s])) (hg : u.grownBy w2 (vAt V ms.length).2.2.ownBlock)
    (ha : ki'.ownBlock = (vAt V ms.length).2.2.ownBlock ∨ ∃ k, ki'.ownBlock = some k ∧ u.heap.size ≤ k) :
    NA (w2.setCell ⟨g, ms.length * 3 + 2, none⟩ ki') (.slice (some ⟨g, 0, none⟩) n c) (V.set ms.length ((vAt V ms.length).1, (vAt V ms.length).2.1, ki')) (ms ++ ⟨z.ps, z.keys, z.kids ++ [s]⟩ :: l) := by
  have hlt : ms.length < (ms ++ z :: l).length := by simp
  obtain ⟨h1, h2⟩ := h.own _ hlt
  rw [nAt_append_at] at h1
  have o : Only (fun y => (vAt V ms.length).2.2.ownBlock = some y) u w2 := only_of_grown hg (fun k e => e)
  have hl := h.len
  have hnew : ∀ y, ki'.ownBlock = some y → (vAt V ms.length).2.2.ownBlock = some y ∨ u.heap.size ≤ y := by
    intro y hy
    rcases ha with e | ⟨k, e, hk⟩
    · exact .inl (e ▸ hy)
    · rw [e] at hy; cases hy; exact .inr hk
  refine h.upd rfl (o.mono (fun y _ e => .inr (.inr e))) ⟨?_, ?_, ?_⟩ ?_ ?_ (only_set (R := fun y => y = g) rfl _) ?_
  · exact own_kept h1.1 o (fun y e e2 => ((h2 y).1 e).2 e2)
  · exact own_kept h1.2.1 o (fun y e e2 => (h2 y).2 e e2)
  · simpa using hO
  · intro y
    refine ⟨fun e => ⟨((h2 y).1 e).1, fun e2 => ?_⟩, fun e e2 => ?_⟩
    · rcases hnew y e2 with h3 | h3
      · exact ((h2 y).1 e).2 h3
      · have := h1.lt (.inl e); omega
    · rcases hnew y e2 with h3 | h3
      · exact (h2 y).2 e h3
      · have := h1.lt (.inr (.inl e)); omega
  · rintro y (e | e | e)
    · exact .inl (.inl e)
    · exact .inl (.inr (.inl e))
    · exact (hnew y e).imp (fun h => .inr (.inr h)) id
  · rw [ncs_set2 _ _ _ (by omega)]
    exact row_set (own_kept h.row o (fun y e e2 => h.off _ hlt y (.inr (.inr e2)) e)) _ _
/-- How far nodes has come: L stands there, ns stood there at the start; new rows lie in blocks of P or in new ones. -/
structure NI (w wr : World) (v vv : Value) (V0 V : List V3) (ns L : List NB) (P : Nat → Prop) : Prop where
  na : NA wr vv V L
  old : ∀ i, i < ns.length → vAt V i = vAt V0 i
  new : ∀ i, ns.length ≤ i → i < L.length → ∀ y, bl (vAt V i) y → P y ∨ w.heap.size ≤ y
  only : Only (fun y => v.ownBlock = some y) w wr
  vb : ∀ y, vv.ownBlock = some y → v.ownBlock = some y ∨ w.heap.size ≤ y
theorem NI.keep {w wr w1 : World} {v vv : Value} {V0 V : List V3} {ns L : List NB} {P : Nat → Prop} (h : NI w wr v vv V0 V ns L P) (hb : Below wr.heap.size wr w1) : NI w w1 v vv V0 V ns L P :=
  ⟨h.na.kept hb, h.old, h.new, h.only.trans (only_of_below hb _), h.vb⟩
theorem NI.mono {w wr : World} {v vv : Value} {V0 V : List V3} {ns L : List NB} {P Q : Nat → Prop} (h : NI w wr v vv V0 V ns L P) (hq : ∀ y, P y → Q y) : NI w wr v vv V0 V ns L Q :=
  ⟨h.na, h.old, fun i h1 h2 y hy => (h.new i h1 h2 y hy).imp (hq y) id, h.only, h.vb⟩
/-- Behind a kid's nodes. -/
theorem NI.then {w wr w' : World} {v vv v' : Value} {V0 V V' : List V3} {ns L M : List NB} {P Q : Nat → Prop} (h : NI w wr v vv V0 V ns L P) (hns : ns.length ≤ L.length) (k : NI wr w' vv v' V V' L M Q) : NI w w' v v' V0 V' ns M (fun y => P y ∨ Q y) := by
  have hs := h.only.size
  refine ⟨k.na, fun i hi => (k.old i (by omega)).trans (h.old i hi), fun i h1 h2 y hy => ?_, h.only.then k.only (fun i hi e => ?_), fun y hy => ?_⟩
  · by_cases e : i < L.length
    · rw [k.old i e] at hy
      exact (h.new i h1 e y hy).imp .inl id
    · rcases k.new i (by omega) h2 y hy with h3 | h3
      · exact .inl (.inr h3)
      · right; omega
  · rcases h.vb i e with h3 | h3
    · exact h3
    · omega
  · rcases k.vb y hy with h3 | h3
    · exact h.vb y h3
    · right; omega
theorem NI.addKey {w u w2 : World} {v : Value} {g n c : Nat} {V0 V : List V3} {ns l : List NB} {z : NB} {P : Nat → Prop} {kx' : Value} {s : ByteArray} (h : NI w u v (.slice (some ⟨g, 0, none⟩) n c) V0 V ns (ns ++ z :: l) P) (hO : w2.ownsRow 0 9 1 kx' (z.keys.length + 1) (z.keys.map Value.string ++ [.string s])) (hg : u.grownBy w2 (vAt V ns.length).2.1.ownBlock)
    (ha : kx'.ownBlock = (vAt V ns.length).2.1.ownBlock ∨ ∃ k, kx'.ownBlock = some k ∧ u.heap.size ≤ k) (hfr : ∀ y, (vAt V ns.length).2.1.ownBlock = some y → w.heap.size ≤ y) :
    NI w (w2.setCell ⟨g, ns.length * 3 + 1, none⟩ kx') v (.slice (some ⟨g, 0, none⟩) n c) V0 (V.set ns.length ((vAt V ns.length).1, kx', (vAt V ns.length).2.2)) ns (ns ++ ⟨z.ps, z.keys ++ [s], z.kids⟩ :: l) P := by
  have hs := h.only.size
  have hlt : ns.length < (ns ++ z :: l).length := by simp
  have hl := h.na.len
  refine ⟨h.na.addKey hO hg ha, fun i hi => (vAt_other _ _ _ _ (by omega)).trans (h.old i hi), fun i h1 h2 y hy => ?_, ?_, h.vb⟩
  · have h2' : i < (ns ++ z :: l).length := by simpa using h2
    by_cases e : i = ns.length
    · rw [e, vAt_set _ _ _ (by omega)] at hy
      rcases hy with hy | hy | hy
      · exact h.new _ (Nat.le_refl _) hlt y (.inl hy)
      · rcases ha with e | ⟨k, e, hk⟩
        · exact .inr (hfr y (e ▸ hy))
        · rw [e] at hy; cases hy; right; omega
      · exact h.new _ (Nat.le_refl _) hlt y (.inr (.inr hy))
    · rw [vAt_other _ _ _ _ e] at hy
      exact h.new i h1 h2' y hy
  · refine (h.only.then (only_of_grown hg (R := fun y => (vAt V ns.length).2.1.ownBlock = some y) (fun k e => e)) (fun i hi e => ?_)).then (only_set (R := fun y => y = g) rfl _) (fun i hi e => ?_)
    · have := hfr i e; omega
    · rcases h.vb i (by rw [e]; rfl) with h3 | h3
      · exact h3
      · omega
theorem NI.addKid {w u w2 : World} {v : Value} {g n c : Nat} {V0 V : List V3} {ns l : List NB} {z : NB} {P : Nat → Prop} {kx' : Value} {s : Int} (h : NI w u v (.slice (some ⟨g, 0, none⟩) n c) V0 V ns (ns ++ z :: l) P) (hO : w2.ownsRow 0 3 1 kx' (z.kids.length + 1) (z.kids.map (Value.int .i64) ++ [.int .i64 s])) (hg : u.grownBy w2 (vAt V ns.length).2.2.ownBlock)
    (ha : kx'.ownBlock = (vAt V ns.length).2.2.ownBlock ∨ ∃ k, kx'.ownBlock = some k ∧ u.heap.size ≤ k) (hfr : ∀ y, (vAt V ns.length).2.2.ownBlock = some y → w.heap.size ≤ y) :
    NI w (w2.setCell ⟨g, ns.length * 3 + 2, none⟩ kx') v (.slice (some ⟨g, 0, none⟩) n c) V0 (V.set ns.length ((vAt V ns.length).1, (vAt V ns.length).2.1, kx')) ns (ns ++ ⟨z.ps, z.keys, z.kids ++ [s]⟩ :: l) P := by
  have hs := h.only.size
  have hlt : ns.length < (ns ++ z :: l).length := by simp
  have hl := h.na.len
  refine ⟨h.na.addKid hO hg ha, fun i hi => (vAt_other _ _ _ _ (by omega)).trans (h.old i hi), fun i h1 h2 y hy => ?_, ?_, h.vb⟩
  · have h2' : i < (ns ++ z :: l).length := by simpa using h2
    by_cases e : i = ns.length
    · rw [e, vAt_set _ _ _ (by omega)] at hy
      rcases hy with hy | hy | hy
      · exact h.new _ (Nat.le_refl _) hlt y (.inl hy)
      · exact h.new _ (Nat.le_refl _) hlt y (.inr (.inl hy))
      · rcases ha with e | ⟨k, e, hk⟩
        · exact .inr (hfr y (e ▸ hy))
        · rw [e] at hy; cases hy; right; omega
    · rw [vAt_other _ _ _ _ e] at hy
      exact h.new i h1 h2' y hy
  · refine (h.only.then (only_of_grown hg (R := fun y => (vAt V ns.length).2.2.ownBlock = some y) (fun k e => e)) (fun i hi e => ?_)).then (only_set (R := fun y => y = g) rfl _) (fun i hi e => ?_)
    · have := hfr i e; omega
    · rcases h.vb i (by rw [e]; rfl) with h3 | h3
      · exact h3
      · omega
end Go.Proofs.Ytcpdedpgjaimkaa
/-
  nodes: a limb's nodes in the walk's order, behind others; all rows are apart.
-/
namespace Go.Proofs.Ytcpdedpgjaimkaa
open Go.RowKit
theorem NA.shape {w : World} {v : Value} {V : List V3} {ns : List NB} (h : NA w v V ns) : ∃ a n c, v = .slice a n c ∧ Hid (n = ns.length) := by
  obtain ⟨a, c, e⟩ := own_shape h.row
  exact ⟨a, _, c, e, rfl⟩
theorem wpList_append_node {w : World} {ops : Array Oper} {rest : List Oper} {o : Oper} {a : Act} {Q : Exit → Act → World → Prop} (hgd : o.guard = none) (s x : Operand)
    (ho : o.op = .call { callee := .builtin .append, args := #[s, x], argTypes := #[23, 23] }) (v : Value) (V : List V3) (ns : List NB) (hs : a.eval s = v) (hown : NA w v V ns) (pv : Value) (ps : List PB) (hP : w.ownsRow 0 33 2 pv ps.length (pcs ps)) (hd : ∀ y, pv.ownBlock = some y → v.ownBlock ≠ some y ∧ ∀ i, i < ns.length → ¬ bl (vAt V i) y)
    (g : Nat) (hx : a.eval x = .slice (some ⟨g, 0, none⟩) 1 1) (hB : Bk w g 158 [pv, .slice none 0 0, .slice none 0 0]) (hb : ns.length ≤ 1048576)
    (h : ∀ g' n' c' w', NA w' (.slice (some ⟨g', 0, none⟩) n' c') (V ++ [(pv, .slice none 0 0, .slice none 0 0)]) (ns ++ [⟨ps, [], []⟩]) → Hid (n' = ns.length + 1) → w.grownBy w' v.ownBlock → ((Value.slice (some ⟨g', 0, none⟩) n' c').ownBlock = v.ownBlock ∨ (Value.slice (some ⟨g', 0, none⟩) n' c').ownBlock = some w.heap.size) → wpList Try.prog ops Q rest (a.put o.dst (.slice (some ⟨g', 0, none⟩) n' c')) w') : wpList Try.prog ops Q (o :: rest) a w := by
  obtain ⟨i, hi, hz, hsz, hby⟩ := info_of infoNodeI
  obtain ⟨ap, cp, hpv⟩ := own_shape hP
  refine wpList_append_row_at hgd s x 23 ho 0 158 i _ 3 72 Try.underlying23 hi hz hsz hby rfl (by decide) v ns.length (ncs V) hs hown.row (fun _ => True) _ 1 [pv, .slice none 0 0, .slice none 0 0] hx (hB.rw (Nat.le_refl _) (by omega) (fun h => by omega) _ trivial) rfl
    (by intro u hu; simp at hu; rcases hu with rfl | rfl <;> first | (rw [hpv]; rfl) | rfl) (by unfold maxLen; omega) (by omega) (Nat.zero_le _) ?_
  intro v' w' k1 k2 k3
  rcases k1.2 with ⟨_, e⟩ | ⟨g', cap, cur, e, _⟩
  · omega
  · subst e
    refine h g' _ cap w' ?_ rfl k2 k3
    exact hown.push ⟨ps, [], []⟩ (pv, .slice none 0 0, .slice none 0 0) ⟨hP, World.ownsRow_nil _ _ _ _, World.ownsRow_nil _ _ _ _⟩ (fun y => ⟨fun _ => ⟨by simp [Value.ownBlock], by simp [Value.ownBlock]⟩, by simp [Value.ownBlock]⟩) (by rintro y (e | e | e) <;> first | exact hd y e | (simp [Value.ownBlock] at e)) k1 k2 k3
/-- The keys and kids of the node at n lie in new blocks. -/
def KF (w : World) (V : List V3) (n : Nat) : Prop := ∀ y, (vAt V n).2.1.ownBlock = some y ∨ (vAt V n).2.2.ownBlock = some y → w.heap.size ≤ y
def NodesPost (w : World) (v : Value) (V0 : List V3) (ns L : List NB) (S : Nat → Prop) (e : Ending) (w' : World) : Prop := ∃ v' V, e = .returned v' ∧ NI w w' v v' V0 V ns L S
theorem NA.rowAt {w : World} {a : Option Addr} {n c : Nat} {V : List V3} {ns : List NB} (h : NA w (.slice a n c) V ns) (hp : 0 < ns.length) : ∃ g, a = some ⟨g, 0, none⟩ ∧ Hid (n = ns.length) := by
  rcases h.row.2 with ⟨e, e2⟩ | ⟨g, cap, cur, e, _⟩
  · omega
  · cases e
    exact ⟨g, rfl, rfl⟩
theorem NA.cells {w : World} {g n c : Nat} {V : List V3} {ns : List NB} (h : NA w (.slice (some ⟨g, 0, none⟩) n c) V ns) (i : Nat) (hi : i < ns.length) : w.cell? ⟨g, i * 3, none⟩ = some (vAt V i).1 ∧ w.cell? ⟨g, i * 3 + 1, none⟩ = some (vAt V i).2.1 ∧ w.cell? ⟨g, i * 3 + 2, none⟩ = some (vAt V i).2.2 ∧ ∀ o, w.frozen? ⟨g, o, none⟩ = false := by
  have hc := World.ownsRow.cells h.row (g := g) rfl
  have hl := h.len
  obtain ⟨c0, c1, c2⟩ := ncs_at V i (by omega)
  have d0 := hc _ _ c0
  have d1 := hc _ _ c1
  have d2 := hc _ _ c2
  rw [Addr.add_lit, Nat.zero_add] at d0 d1 d2
  refine ⟨d0, d1, d2, fun o => ?_⟩
  rcases h.row.2 with ⟨e, _⟩ | ⟨g', cap, cur, e, _, k4, _⟩
  · cases e
  · cases e
    simp [World.frozen?, k4]
end Go.Proofs.Ytcpdedpgjaimkaa
/-
  rootPut: the root behind the put.
-/
namespace Go.Proofs.Ytcpdedpgjaimkaa
open Go.RowKit
def OnePost (w : World) (S : Nat → Prop) (t : T) (e : Ending) (w' : World) : Prop := ∃ b, e = .returned (.pointer (some ⟨b, 0, none⟩)) ∧ OneL w w' b t S
theorem root_new {w X : World} {S S1 S2 : Nat → Prop} {b b2 : Nat} {t1 t2 : T} (h1 : Limb X S1 b t1) (h2 : Limb X S2 b2 t2) (hd : ∀ x, S1 x → ¬ S2 x) (hS : ∀ x, S1 x ∨ S2 x → (S x ∨ w.heap.size ≤ x) ∧ x < X.heap.size) (hon : Only S w X) :
    OneL w ((X.alloc (.cells #[.pointer (some ⟨b, 0, none⟩), .pointer (some ⟨b2, 0, none⟩)] 163)).alloc (.cells #[.slice none 0 0, .slice (some ⟨X.heap.size, 0, none⟩) 2 2] 204)) (X.heap.size + 1) (.mk [] [t1, t2]) S := by
  have hbn : Below X.heap.size X ((X.alloc (.cells #[.pointer (some ⟨b, 0, none⟩), .pointer (some ⟨b2, 0, none⟩)] 163)).alloc (.cells #[.slice none 0 0, .slice (some ⟨X.heap.size, 0, none⟩) 2 2] 204)) := below_new (below_new (Below.refl _ _))
  have k1 : Bk ((X.alloc (.cells #[.pointer (some ⟨b, 0, none⟩), .pointer (some ⟨b2, 0, none⟩)] 163)).alloc (.cells #[.slice none 0 0, .slice (some ⟨X.heap.size, 0, none⟩) 2 2] 204)) X.heap.size 163 [.pointer (some ⟨b, 0, none⟩), .pointer (some ⟨b2, 0, none⟩)] := (Bk.new X 163 [.pointer (some ⟨b, 0, none⟩), .pointer (some ⟨b2, 0, none⟩)]).alloc _
  have k2 : Bk ((X.alloc (.cells #[.pointer (some ⟨b, 0, none⟩), .pointer (some ⟨b2, 0, none⟩)] 163)).alloc (.cells #[.slice none 0 0, .slice (some ⟨X.heap.size, 0, none⟩) 2 2] 204)) (X.heap.size + 1) 204 [.slice none 0 0, .slice (some ⟨X.heap.size, 0, none⟩) 2 2] := by
    have := Bk.new (X.alloc (.cells #[.pointer (some ⟨b, 0, none⟩), .pointer (some ⟨b2, 0, none⟩)] 163)) 204 [.slice none 0 0, .slice (some ⟨X.heap.size, 0, none⟩) 2 2]
    simpa using this
  have hsz : ((X.alloc (.cells #[.pointer (some ⟨b, 0, none⟩), .pointer (some ⟨b2, 0, none⟩)] 163)).alloc (.cells #[.slice none 0 0, .slice (some ⟨X.heap.size, 0, none⟩) 2 2] 204)).heap.size = X.heap.size + 2 := by simp
  have hs := hon.size
  refine ⟨fun x => (S1 x ∨ S2 x) ∨ x = X.heap.size ∨ x = X.heap.size + 1, .mk _ _ (.slice none 0 0) (.slice (some ⟨X.heap.size, 0, none⟩) 2 2) [] [t1, t2] (fun i => if i = 0 then b else b2) (fun i => if i = 0 then S1 else S2) (.inr (.inr rfl)) k2 (World.ownsRow_nil _ _ _ _) ⟨by simp [ptrs], .inr ⟨X.heap.size, 2, #[.pointer (some ⟨b, 0, none⟩), .pointer (some ⟨b2, 0, none⟩)], rfl, Nat.zero_le _, k1, Nat.le_refl _, by unfold maxLen; omega, rfl, rfl⟩⟩ (fun x hx => by cases hx) (fun x hx => ?_) (fun i hi x hx => ?_) (fun i j hi hj hij x hx hy => ?_) (fun i hi => ?_), fun x hx => ?_, hon.trans (only_of_below hbn _)⟩
  · cases hx
    exact ⟨.inr (.inl rfl), (show X.heap.size ≠ X.heap.size + 1 by omega), by simp [Value.ownBlock]⟩
  · have hx' : S1 x ∨ S2 x := by
      by_cases e : i = 0
      · simp only [e, if_true] at hx; exact .inl hx
      · simp only [e, if_false] at hx; exact .inr hx
    have := (hS x hx').2
    exact ⟨.inl hx', by omega, by simp [Value.ownBlock], by simp [Value.ownBlock]; omega⟩
  · simp at hi hj
    by_cases e : i = 0
    · have e' : j ≠ 0 := by omega
      simp only [e, if_true] at hx
      simp only [e', if_false] at hy
      exact hd x hx hy
    · have e' : j = 0 := by omega
      simp only [e, if_false] at hx
      simp only [e', if_true] at hy
      exact hd x hy hx
  · simp at hi
    by_cases e : i = 0
    · subst e; exact h1.kept hbn
    · obtain rfl : i = 1 := by omega
      exact h2.kept hbn
  · rw [hsz]
    rcases hx with h | h | h
    · exact ⟨(hS x h).1, by have := (hS x h).2; omega⟩
    · exact ⟨.inr (by omega), by omega⟩
    · exact ⟨.inr (by omega), by omega⟩
end Go.Proofs.Ytcpdedpgjaimkaa
/-
  readBranch, given read.
-/
namespace Go.Proofs.Ytcpdedpgjaimkaa
open Go.RowKit
/-- How far readBranch has come: the kids ts have been read. -/
structure BrI (w wr : World) (wb : Nat) (nv q0 q1 q2 : Value) (ts : List T) (nx : Nat) (kv : Value) (A : Nat → Nat) (SS : Nat → Nat → Prop) : Prop where
  wlt : wb < w.heap.size
  walk : Bk wr wb 206 [nv, .int .i64 nx]
  par : Bk wr w.heap.size 158 [q0, q1, q2]
  only : Only (fun b => b = wb) w wr
  br : Bk wr (w.heap.size + 1) 204 [.slice none 0 0, kv]
  row : Ok wr (w.heap.size + 2) kv ts.length A
  sub : ∀ i, i < ts.length → ∀ x, SS i x → w.heap.size + 2 ≤ x ∧ x < wr.heap.size ∧ kv.ownBlock ≠ some x
  dis : ∀ i j, i < ts.length → j < ts.length → i ≠ j → ∀ x, SS i x → ¬ SS j x
  kid : ∀ i, i < ts.length → Limb wr (SS i) (A i) (tAt ts i)
  rdy : ∀ i, i < ts.length → Rdy (tAt ts i)
theorem BrI.read {w wr w1 : World} {wb : Nat} {nv q0 q1 q2 : Value} {ts : List T} {nx n1 : Nat} {kv : Value} {A : Nat → Nat} {SS : Nat → Nat → Prop} (h : BrI w wr wb nv q0 q1 q2 ts nx kv A SS)
    (ho : Only (fun b => b = wb) wr w1) (hb : Bk w1 wb 206 [nv, .int .i64 n1]) : BrI w w1 wb nv q0 q1 q2 ts n1 kv A SS := by
  have hw := h.wlt
  refine ⟨h.wlt, hb, h.par.to ho (by omega), h.only.trans ho, h.br.to ho (by omega), h.row.to ho (fun k e => ?_), fun i hi x hx => ?_, h.dis, fun i hi => (h.kid i hi).to ho (fun x hx => ?_), h.rdy⟩
  · have := (World.ownsRow.lt h.row k e).1; omega
  · have := h.sub i hi x hx; have := ho.size; exact ⟨by omega, by omega, (h.sub i hi x hx).2.2⟩
  · have := h.sub i hi x hx; omega
theorem BrI.keep {w wr w1 : World} {wb : Nat} {nv q0 q1 q2 : Value} {ts : List T} {nx : Nat} {kv : Value} {A : Nat → Nat} {SS : Nat → Nat → Prop} (h : BrI w wr wb nv q0 q1 q2 ts nx kv A SS)
    (hb : Below wr.heap.size wr w1) : BrI w w1 wb nv q0 q1 q2 ts nx kv A SS := h.read (only_of_below hb _) (h.walk.below hb)
theorem BrI.push {w u w2 : World} {wb : Nat} {nv q0 q1 q2 : Value} {ts : List T} {nx : Nat} {kv v' : Value} {A : Nat → Nat} {SS : Nat → Nat → Prop} (h : BrI w u wb nv q0 q1 q2 ts nx kv A SS)
    {P : Nat → Prop} {b : Nat} {t : T} (hl : Limb u P b t) (hP : ∀ x, P x → w.heap.size + 2 ≤ x ∧ x < u.heap.size ∧ kv.ownBlock ≠ some x ∧ ∀ i, i < ts.length → ¬ SS i x) (ht : Rdy t)
    (ho : Ok w2 (w.heap.size + 2) v' (ts.length + 1) (fun i => if i = ts.length then b else A i)) (hg : u.grownBy w2 kv.ownBlock) (ha : v'.ownBlock = kv.ownBlock ∨ v'.ownBlock = some u.heap.size) :
    BrI w (w2.setCell ⟨w.heap.size + 1, 1, none⟩ v') wb nv q0 q1 q2 (ts ++ [t]) nx v' (fun i => if i = ts.length then b else A i) (fun i => if i = ts.length then P else SS i) := by
  have hw := h.wlt
  have hkv := fun k e => (World.ownsRow.lt h.row k e).1
  have hsz : u.heap.size ≤ w2.heap.size := hg.size
  have hbr := h.br.lt
  have hav : ∀ x, v'.ownBlock = some x → w.heap.size + 2 ≤ x := fun x e => (World.ownsRow.lt ho x e).1
  have o1 : Only (fun b => some b = kv.ownBlock) u w2 := only_of_grown hg (fun k e => e.symm)
  have o2 : Only (fun b => b = w.heap.size + 1) w2 (w2.setCell ⟨w.heap.size + 1, 1, none⟩ v') := only_set (R := fun b => b = w.heap.size + 1) rfl _
  have o3 : Only (fun b => some b = kv.ownBlock ∨ b = w.heap.size + 1) u (w2.setCell ⟨w.heap.size + 1, 1, none⟩ v') := (o1.mono (fun _ _ e => .inl e)).then o2 (fun _ _ e => .inr e)
  refine ⟨h.wlt, h.walk.to o3 ?_, h.par.to o3 ?_, ?_, ?_, ?_, ?_, ?_, ?_, ?_⟩
  · rintro (e | e)
    · have := hkv wb e.symm; omega
    · omega
  · rintro (e | e)
    · have := hkv w.heap.size e.symm; omega
    · omega
  · refine h.only.then o3 (fun i hi e => ?_)
    rcases e with e | e
    · have := hkv i e.symm; omega
    · omega
  · have k1 := h.br.to o1 (fun e => by have := hkv _ e.symm; omega)
    exact k1.set 1 v'
  · rw [List.length_append]
    exact ho.to o2 (fun k e => by have := hav k e; omega)
  · intro i hi x hx
    have hz : (w2.setCell ⟨w.heap.size + 1, 1, none⟩ v').heap.size = w2.heap.size := by simp [World.setCell]
    rw [hz]
    by_cases e : i = ts.length
    · subst e
      simp only [if_true] at hx
      obtain ⟨p1, p2, p3, p4⟩ := hP x hx
      refine ⟨p1, by omega, ?_⟩
      rcases ha with ha | ha
      · rw [ha]; exact p3
      · rw [ha]; intro e; cases e; omega
    · simp only [e, if_false] at hx
      simp at hi
      obtain ⟨p1, p2, p3⟩ := h.sub i (by omega) x hx
      refine ⟨p1, by omega, ?_⟩
      rcases ha with ha | ha
      · rw [ha]; exact p3
      · rw [ha]; intro e; cases e; omega
  · intro i j hi hj hij x hx hy
    simp at hi hj
    by_cases e : i = ts.length
    · subst e
      simp only [if_true] at hx
      rw [if_neg (by omega)] at hy
      exact (hP x hx).2.2.2 j (by omega) hy
    · rw [if_neg e] at hx
      by_cases e' : j = ts.length
      · subst e'
        simp only [if_true] at hy
        exact (hP x hy).2.2.2 i (by omega) hx
      · rw [if_neg e'] at hy
        exact h.dis i j (by omega) (by omega) hij x hx hy
  · intro i hi
    rw [tAt_snoc _ _ _ hi]
    by_cases e : i = ts.length
    · subst e
      simp only [if_true]
      exact hl.to o3 (fun x hx => by
        rintro (e | e)
        · exact (hP x hx).2.2.1 e.symm
        · have := (hP x hx).1; omega)
    · simp only [e, if_false]
      simp at hi
      exact (h.kid i (by omega)).to o3 (fun x hx => by
        have := h.sub i (by omega) x hx
        rintro (e | e)
        · exact this.2.2 e.symm
        · omega)
  · intro i hi
    rw [tAt_snoc _ _ _ hi]
    by_cases e : i = ts.length
    · rw [if_pos e]; exact ht
    · rw [if_neg e]; simp at hi; exact h.rdy i (by omega)
theorem BrI.limb {w wr : World} {wb : Nat} {nv q0 q1 q2 : Value} {ts : List T} {nx : Nat} {kv : Value} {A : Nat → Nat} {SS : Nat → Nat → Prop} (h : BrI w wr wb nv q0 q1 q2 ts nx kv A SS) :
    Limb wr (fun y => w.heap.size ≤ y ∧ y < wr.heap.size) (w.heap.size + 1) (.mk [] ts) := by
  have hbr := h.br.lt
  refine .mk _ _ (.slice none 0 0) kv [] ts A SS ⟨by omega, hbr⟩ h.br (World.ownsRow_nil _ _ _ _) (own_mono h.row (Nat.zero_le _)) (fun x hx => by cases hx) (fun x hx => ?_) (fun i hi x hx => ?_) h.dis h.kid
  · have := World.ownsRow.lt h.row x hx
    exact ⟨⟨by omega, this.2⟩, by omega, by simp [Value.ownBlock]⟩
  · have := h.sub i hi x hx
    exact ⟨⟨by omega, this.2.1⟩, by omega, by simp [Value.ownBlock], this.2.2⟩
theorem BrI.first {w : World} {wb : Nat} {nv q0 q1 q2 : Value} {nx : Nat} (hw : Bk w wb 206 [nv, .int .i64 nx]) :
    BrI w ((w.alloc (.cells #[q0, q1, q2] 158)).alloc (.cells #[.slice none 0 0, .slice none 0 0] 204)) wb nv q0 q1 q2 [] nx (.slice none 0 0) (fun _ => 0) (fun _ _ => False) := by
  refine ⟨hw.lt, (hw.alloc _).alloc _, (Bk.new w 158 [q0, q1, q2]).alloc _, only_of_below (below_new (below_new (Below.refl _ _))) _, ?_, World.ownsRow_nil _ _ _ _, fun i hi => by simp at hi, fun i j hi => by simp at hi, fun i hi => by simp at hi, fun i hi => by simp at hi⟩
  have := Bk.new (w.alloc (.cells #[q0, q1, q2] 158)) 204 [.slice none 0 0, .slice none 0 0]
  simpa using this
set_option maxHeartbeats 8000000 in
theorem readBranch_any (ns : List NB) (f : Nat) (ih : ReadC ns f) (S : Nat → Prop) (wb : Nat) (an : Option Addr) (nn cn : Nat) (ap ax ai : Option Addr) (np cp nk cx ni ci : Nat) (x : NB) (nx : Nat) (w : World)
    (hW : Bk w wb 206 [.slice an nn cn, .int .i64 nx]) (hN : Nr w S (.slice an nn cn) ns) (hwb : ¬ S wb) (hlen : ns.length < 400) (hnx : nx ≤ ns.length) (hf : ns.length ≤ nx + f)
    (hP : Pr w S (.slice ap np cp) x.ps) (hS : Sr w S (.slice ax nk cx) x.keys) (hI : Ir w S (.slice ai ni ci) x.kids) :
    Calls Try.prog 176 #[.pointer (some ⟨wb, 0, none⟩), .agg #[.slice ap np cp, .slice ax nk cx, .slice ai ni ci]] w fun e w' => ReadPost (brT ns f x nx) w wb (.slice an nn cn) e w' ∧ Only (fun b => b = wb) w w' := by
  have HIH := hid ih
  have HW := hid hW
  have HN := hid hN
  have HWB := hid hwb
  have HLEN := hid hlen
  have HNX := hid hnx
  have HF := hid hf
  have HS := hid hS
  have HI := hid hI
  have lp := hid (Rw.len hP).1
  have lk := hid (Rw.len hS).1
  have li := hid (Rw.len hI).1
  have b1 := (Rw.len hP).2.1
  have b2 := (Rw.len hP).2.2
  have b3 := (Rw.len hS).2.1
  have b4 := (Rw.len hS).2.2
  have b5 := (Rw.len hI).2.1
  have b6 := (Rw.len hI).2.2
  clear ih hW hN hwb hlen hnx hf hP hS hI
  have HB0 := hid (below_new (o := .cells #[.slice ap np cp, .slice ax nk cx, .slice ai ni ci] 158) (w := w) (Below.refl _ _))
  have KP := hid (Bk.new w 158 [.slice ap np cp, .slice ax nk cx, .slice ai ni ci])
  have LB : Hid (brOk x = !(decide (ni < 2) || decide (4 < ni) || !decide ((nk : Int) = (ni : Int) - 1) || !decide (np = 0))) := by
    show _ = _
    rw [lp.out, lk.out, li.out]; rfl
  by_cases a1 : ni < 2
  · have HR : Hid (brT ns f x nx = none) := by show _ = _; rw [brT, if_neg]; rw [LB.out]; simp [a1]
    have e1 : (ni : Int) < 2 := by omega
    clear LB a1
    go_enter Try.func176, Try.ntmps176
    go_wp2
    go_ret
    exact ⟨by rw [HR.out]; rfl, only_of_below HB0.out _⟩
  · have e1 : ¬ (ni : Int) < 2 := by omega
    by_cases a2 : 4 < ni
    · have HR : Hid (brT ns f x nx = none) := by show _ = _; rw [brT, if_neg]; rw [LB.out]; simp [a2]
      have e2 : (4 : Int) < (ni : Int) := by omega
      clear LB a1 a2
      go_enter Try.func176, Try.ntmps176
      go_wp2
      go_ret
      exact ⟨by rw [HR.out]; rfl, only_of_below HB0.out _⟩
    · have e2 : ¬ (4 : Int) < (ni : Int) := by omega
      by_cases a3 : (nk : Int) = (ni : Int) - 1
      · have e3 : ((nk : Int) != (ni : Int) - 1) = false := by simp [a3]
        by_cases a4 : np = 0
        · have e4 : ((np : Int) != 0) = false := by simp [a4]
          have HOK : Hid (brOk x = true) := by show _ = _; rw [LB.out]; simp [a1, a2, a3, a4]
          have HNK := hid a3
          have HIN : Hid (ni ≤ 4) := by show _ ≤ _; omega
          clear LB a3 a4
          go_enter Try.func176, Try.ntmps176
          have HI0 := hid (BrI.first (q0 := .slice ap np cp) (q1 := .slice ax nk cx) (q2 := .slice ai ni ci) HW.out)
          go_wp2_with fail
          go_loopw [38] (fun i wr => ∃ (ts : List T) (nx' : Nat) (kv : Value) (A : Nat → Nat) (SS : Nat → Nat → Prop), i = .int .i64 (ts.length : Int) ∧ Hid (ts.length ≤ ni) ∧ Hid (BrI w wr wb (.slice an nn cn) (.slice ap np cp) (.slice ax nk cx) (.slice ai ni ci) ts nx' kv A SS) ∧ Hid (nx ≤ nx' ∧ nx' ≤ ns.length) ∧ Hid (rdIL (rdI ns f) x.keys ts (x.kids.drop ts.length) nx' = rdIL (rdI ns f) x.keys [] x.kids nx)) (fun i _ => ni - (intOf i).toNat)
          case atStart => exact ⟨[], nx, _, _, _, rfl, Nat.zero_le _, HI0.out, ⟨Nat.le_refl _, HNX.out⟩, rfl⟩
          case round =>
            obtain ⟨ts, nx', kv, A, SS, rfl, HTL, HBI, HNB, HRD⟩ := hrel
            generalize hk : ts.length = k at *
            have HKL := hid hk
            clear hk
            have HNr := hid (HN.out.to HBI.out.only (fun b hb _ e => HWB.out (e ▸ hb)))
            have HIr := hid (HI.out.to HBI.out.only (fun b hb _ e => HWB.out (e ▸ hb)))
            have HSr := hid (HS.out.to HBI.out.only (fun b hb _ e => HWB.out (e ▸ hb)))
            have p1 := HBI.out.par.cell (j := 1) rfl
            by_cases hlt : k < ni
            · have hlt' : (k : Int) < (ni : Int) := by omega
              obtain ⟨bi, offi, rfl, _, _, hci⟩ := HIr.out.at (by omega)
              have hck := hci k hlt
              have HKD : Hid (x.kids.drop k = iAt x.kids k :: x.kids.drop (k + 1)) := by
                show _ = _
                have hl : k < x.kids.length := by rw [← li.out]; exact hlt
                rw [List.drop_eq_getElem_cons hl]
                simp [iAt, hl]
              clear hci
              generalize hpl : iAt x.kids k = pl at hck HKD
              clear hpl
              go_wp2_with fail
              refine (HIH.out S wb an nn cn pl nx' wr HBI.out.walk HNr.out HWB.out HLEN.out HNB.out.2 (by have := HF.out; have := HNB.out.1; omega)).mono ?_
              rintro e w1 ⟨hpost, ho1⟩
              cases hr : rdI ns f pl nx' with
              | none =>
                rw [hr] at hpost
                have he : e = .returned (.pointer none) := hpost
                subst he
                have HR : Hid (brT ns f x nx = none) := by
                  show _ = _
                  have h1 := HRD.out
                  rw [HKD.out, rdIL, hr] at h1
                  rw [brT, if_pos HOK.out, ← h1]
                have HO1 := hid (HBI.out.only.trans ho1)
                clear hpost ho1 hr
                go_wp2
                go_ret
                exact ⟨by rw [HR.out]; rfl, HO1.out⟩
              | some tn =>
                obtain ⟨t, n1⟩ := tn
                rw [hr] at hpost
                obtain ⟨b, he, hL, hB⟩ := hpost
                subst he
                have HRI := hid (rdI_rdy hr (by have := HLEN.out; omega))
                have HB1 := hid (HBI.out.read ho1 hB)
                have HL := hid hL
                have HPP : Hid (∀ y, (wr.heap.size ≤ y ∧ y < w1.heap.size) → w.heap.size + 2 ≤ y ∧ y < w1.heap.size ∧ kv.ownBlock ≠ some y ∧ ∀ i, i < ts.length → ¬ SS i y) := by
                  rintro y ⟨h1, h2⟩
                  have h3 := HBI.out.br.lt
                  refine ⟨by omega, h2, fun e => ?_, fun i hi hs => ?_⟩
                  · have := (World.ownsRow.lt HBI.out.row y e).2; omega
                  · have := (HBI.out.sub i hi y hs).2.1; omega
                have HRD1 : Hid (rdIL (rdI ns f) x.keys [] x.kids nx = if 0 < ts.length ∧ (t.least ≠ sAt x.keys (ts.length - 1) ∨ t.lv ≠ (tAt ts 0).lv) then none else rdIL (rdI ns f) x.keys (ts ++ [t]) (x.kids.drop (k + 1)) n1) := by
                  show _ = _
                  have h1 := HRD.out
                  rw [HKD.out, rdIL, hr] at h1
                  rw [← h1]
                  rfl
                have p1' := HB1.out.par.cell (j := 1) rfl
                have HSr1 := hid (HS.out.to HB1.out.only (fun b hb _ e => HWB.out (e ▸ hb)))
                clear hL hB hr ho1 HBI HRD HKD p1
                obtain ⟨ak, ck, hkv⟩ := HB1.out.row.shape
                rw [HKL.out] at hkv
                subst hkv
                cases k with
                | zero =>
                  have HTS : Hid (ts = []) := List.eq_nil_of_length_eq_zero HKL.out
                  have HRD2 : Hid (rdIL (rdI ns f) x.keys (ts ++ [t]) (x.kids.drop (0 + 1)) n1 = rdIL (rdI ns f) x.keys [] x.kids nx) := by
                    show _ = _
                    rw [HRD1.out, if_neg]
                    rw [HKL.out]; omega
                  clear HRD1
                  have c1 := HB1.out.br.cell (j := 1) rfl
                  have f1 := HB1.out.br.free 1
                  go_wp2_with fail
                  go_quiet (fail)
                  have HB2 := hid (HB1.out.keep (Below.drewN' (Below.refl _ _) nq))
                  have HL2 := hid (HL.out.kept (Below.drewN' (Below.refl _ _) nq))
                  have HOK2 : Hid (Ok (w1.drewN nq) (w.heap.size + 2) (.slice ak (0) ck) (0) A) := by have := HB2.out.row; rw [HKL.out] at this; exact this
                  have HB3 := hid (HB2.out.keep (below_new (o := .cells #[.pointer (some ⟨b, 0, none⟩)] 163) (Below.refl _ _)))
                  have HL3 := hid (HL2.out.kept (below_new (o := .cells #[.pointer (some ⟨b, 0, none⟩)] 163) (Below.refl _ _)))
                  have HSZ : Hid (w.heap.size + 2 ≤ w1.heap.size) := by have := HB1.out.br.lt; show _ ≤ _; omega
                  go_wp2_with (at_builtin; refine wpList_append_ptr rfl _ _ rfl (w.heap.size + 2) _ (0) A rfl (HOK2.out.kept (below_new (o := .cells #[.pointer (some ⟨b, 0, none⟩)] 163) (Below.refl _ _))) w1.heap.size b rfl ?qc ?qb ?qd ?_)
                  case qc => exact (Bk.new (w1.drewN nq) 163 [.pointer (some ⟨b, 0, none⟩)]).cell (j := 0) rfl
                  case qb => have := HIN.out; omega
                  case qd => have := HSZ.out; simp; omega
                  intro v2 w2 hO2 hg2 ha2
                  obtain ⟨a2, cc2, hv2⟩ := hO2.shape
                  subst hv2
                  have HB4 := hid (HB3.out.push (P := fun y => wr.heap.size ≤ y ∧ y < w1.heap.size) HL3.out (fun y hy => ⟨(HPP.out y hy).1, by have := (HPP.out y hy).2.1; simp; omega, (HPP.out y hy).2.2⟩) HRI.out.1 (by rw [HKL.out]; exact hO2) hg2 (by simpa using ha2))
                  have K2 := HB3.out.br.to (only_of_grown (R := fun y => w.heap.size + 2 ≤ y) hg2 (fun y e => (World.ownsRow.lt HB3.out.row y e).1)) (by omega)
                  have c2 := K2.cell (j := 1) rfl
                  have f2 := K2.free 1
                  have HRD3 : Hid (rdIL (rdI ns f) x.keys (ts ++ [t]) (x.kids.drop (ts ++ [t]).length) n1 = rdIL (rdI ns f) x.keys [] x.kids nx) := by
                    show _ = _
                    rw [List.length_append, HKL.out]
                    exact HRD2.out
                  have HTL2 : Hid ((ts ++ [t]).length = 0 + 1) := by show _ = _; rw [List.length_append, HKL.out]; rfl
                  clear K2 hO2 hg2 ha2 HB3 HL3 HOK2 HRD2
                  go_wp2
                  go_roundw
                  case rel => exact ⟨ts ++ [t], n1, _, _, _, by rw [HTL2.out]; go_num, by show _ ≤ _; rw [HTL2.out]; omega, HB4.out, ⟨by have := HNB.out.1; have := HRI.out.2.2; omega, HRI.out.2.1⟩, HRD3.out⟩
                  case measure => simp [intOf]; omega
                | succ k' =>
                  have hk1 : (0 : Int) < (k' : Int) + 1 := by omega
                  obtain ⟨bs, offs, hax, _, _, hcs⟩ := HSr1.out.at (by have := HNK.out; omega)
                  subst hax
                  have hks := hcs k' (by have := HNK.out; omega)
                  have hkk : (k' : Int) < (nk : Int) := by have := HNK.out; omega
                  clear hcs
                  obtain ⟨g0, og, hag, _, _, hcg⟩ := Rw.at (rw_own (S := fun _ => True) (by have := HB1.out.row; rw [HKL.out] at this; exact this) (fun _ _ _ _ => trivial)) (by omega)
                  subst hag
                  have hg0 := hcg 0 _ (ptrs_at A _ 0 (by omega))
                  simp only [ptr, Nat.add_zero] at hg0
                  clear hcg
                  have HT0 := hid (HB1.out.rdy 0 (by rw [HKL.out]; omega))
                  have HL0 := hid (HB1.out.kid 0 (by rw [HKL.out]; omega))
                  have CL : ∀ n, Calls Try.prog 186 #[.pointer (some ⟨b, 0, none⟩)] (w1.drewN n) fun e w' => e = .returned (.string t.least) ∧ ∃ m, w' = (w1.drewN n).drewN m := fun n => least_any _ b t _ (HL.out.kept (Below.drewN' (Below.refl _ _) n)) HRI.out.1.ne
                  have CD : ∀ n, Calls Try.prog 187 #[.pointer (some ⟨b, 0, none⟩)] (w1.drewN n) fun e w' => e = .returned (.int .i64 (t.dpt : Int)) ∧ ∃ m, w' = (w1.drewN n).drewN m := fun n => depth_any _ b t _ (HL.out.kept (Below.drewN' (Below.refl _ _) n)) HRI.out.1.few HRI.out.1.lv
                  have CD0 : ∀ n, Calls Try.prog 187 #[.pointer (some ⟨A 0, 0, none⟩)] (w1.drewN n) fun e w' => e = .returned (.int .i64 ((tAt ts 0).dpt : Int)) ∧ ∃ m, w' = (w1.drewN n).drewN m := fun n => depth_any _ (A 0) (tAt ts 0) _ (HL0.out.kept (Below.drewN' (Below.refl _ _) n)) HT0.out.few HT0.out.lv
                  have HDD : Hid (t.dpt = t.lv ∧ (tAt ts 0).dpt = (tAt ts 0).lv) := ⟨by rw [T.dpt, HRI.out.1.bare]; rfl, by rw [T.dpt, HT0.out.bare]; rfl⟩
                  by_cases hle : t.least = sAt x.keys k'
                  · by_cases hd : t.dpt = (tAt ts 0).dpt
                    · have HRD2 : Hid (rdIL (rdI ns f) x.keys (ts ++ [t]) (x.kids.drop (k' + 1 + 1)) n1 = rdIL (rdI ns f) x.keys [] x.kids nx) := by
                        show _ = _
                        rw [HRD1.out, if_neg]
                        rw [HKL.out]
                        rintro ⟨_, h | h⟩
                        · exact h hle
                        · have := HDD.out; omega
                      rw [hle] at CL
                      rw [hd] at CD
                      have hdd : (((tAt ts 0).dpt : Int) != ((tAt ts 0).dpt : Int)) = false := by simp
                      clear HRD1 hle hd
                      generalize sAt x.keys k' = ky at *
                      generalize (tAt ts 0).dpt = dd at *
                      have c1 := HB1.out.br.cell (j := 1) rfl
                      have f1 := HB1.out.br.free 1
                      go_wp2_with fail
                      go_quiet (first | (go_at_call 186; exact Calls.quiet_of (CL _)) | (go_at_call_of 187 (Value.pointer (some ⟨A 0, 0, none⟩)); exact Calls.quiet_of (CD0 _)) | (go_at_call_of 187 (Value.pointer (some ⟨b, 0, none⟩)); exact Calls.quiet_of (CD _)) | fail)
                      have HB2 := hid (HB1.out.keep (Below.drewN' (Below.refl _ _) nq))
                      have HL2 := hid (HL.out.kept (Below.drewN' (Below.refl _ _) nq))
                      have HOK2 : Hid (Ok (w1.drewN nq) (w.heap.size + 2) (.slice (some ⟨g0, og, none⟩) (k' + 1) ck) (k' + 1) A) := by have := HB2.out.row; rw [HKL.out] at this; exact this
                      have HB3 := hid (HB2.out.keep (below_new (o := .cells #[.pointer (some ⟨b, 0, none⟩)] 163) (Below.refl _ _)))
                      have HL3 := hid (HL2.out.kept (below_new (o := .cells #[.pointer (some ⟨b, 0, none⟩)] 163) (Below.refl _ _)))
                      have HSZ : Hid (w.heap.size + 2 ≤ w1.heap.size) := by have := HB1.out.br.lt; show _ ≤ _; omega
                      go_wp2_with (at_builtin; refine wpList_append_ptr rfl _ _ rfl (w.heap.size + 2) _ (k' + 1) A rfl (HOK2.out.kept (below_new (o := .cells #[.pointer (some ⟨b, 0, none⟩)] 163) (Below.refl _ _))) w1.heap.size b rfl ?qc ?qb ?qd ?_)
                      case qc => exact (Bk.new (w1.drewN nq) 163 [.pointer (some ⟨b, 0, none⟩)]).cell (j := 0) rfl
                      case qb => have := HIN.out; omega
                      case qd => have := HSZ.out; simp; omega
                      intro v2 w2 hO2 hg2 ha2
                      obtain ⟨a2, cc2, hv2⟩ := hO2.shape
                      subst hv2
                      have HB4 := hid (HB3.out.push (P := fun y => wr.heap.size ≤ y ∧ y < w1.heap.size) HL3.out (fun y hy => ⟨(HPP.out y hy).1, by have := (HPP.out y hy).2.1; simp; omega, (HPP.out y hy).2.2⟩) HRI.out.1 (by rw [HKL.out]; exact hO2) hg2 (by simpa using ha2))
                      have K2 := HB3.out.br.to (only_of_grown (R := fun y => w.heap.size + 2 ≤ y) hg2 (fun y e => (World.ownsRow.lt HB3.out.row y e).1)) (by omega)
                      have c2 := K2.cell (j := 1) rfl
                      have f2 := K2.free 1
                      have HRD3 : Hid (rdIL (rdI ns f) x.keys (ts ++ [t]) (x.kids.drop (ts ++ [t]).length) n1 = rdIL (rdI ns f) x.keys [] x.kids nx) := by
                        show _ = _
                        rw [List.length_append, HKL.out]
                        exact HRD2.out
                      have HTL2 : Hid ((ts ++ [t]).length = k' + 1 + 1) := by show _ = _; rw [List.length_append, HKL.out]; rfl
                      clear K2 hO2 hg2 ha2 HB3 HL3 HOK2 HRD2
                      go_wp2
                      go_roundw
                      case rel => exact ⟨ts ++ [t], n1, _, _, _, by rw [HTL2.out]; go_num, by show _ ≤ _; rw [HTL2.out]; omega, HB4.out, ⟨by have := HNB.out.1; have := HRI.out.2.2; omega, HRI.out.2.1⟩, HRD3.out⟩
                      case measure => simp [intOf]; omega
                    · have HR : Hid (brT ns f x nx = none) := by
                        show _ = _
                        rw [brT, if_pos HOK.out, HRD1.out, if_pos]
                        exact ⟨by rw [HKL.out]; omega, .inr (by have := HDD.out; omega)⟩
                      rw [hle] at CL
                      have hdd : ((t.dpt : Int) != ((tAt ts 0).dpt : Int)) = true := by simp; omega
                      clear HRD1 hle hd HDD
                      generalize sAt x.keys k' = ky at *
                      generalize (tAt ts 0).dpt = dd at *
                      generalize t.dpt = dt at *
                      have c1 := HB1.out.br.cell (j := 1) rfl
                      have HO1 := hid HB1.out.only
                      go_wp2_with fail
                      go_quiet (first | (go_at_call 186; exact Calls.quiet_of (CL _)) | (go_at_call_of 187 (Value.pointer (some ⟨A 0, 0, none⟩)); exact Calls.quiet_of (CD0 _)) | (go_at_call_of 187 (Value.pointer (some ⟨b, 0, none⟩)); exact Calls.quiet_of (CD _)) | fail)
                      go_wp2
                      go_ret
                      exact ⟨by rw [HR.out]; rfl, HO1.out.trans (only_drew _ _ _)⟩
                  · have HR : Hid (brT ns f x nx = none) := by
                      show _ = _
                      rw [brT, if_pos HOK.out, HRD1.out, if_pos]
                      exact ⟨by rw [HKL.out]; omega, .inl (by rw [HKL.out]; exact hle)⟩
                    have hbe := str_beq hle
                    clear HRD1 hle HDD CD CD0
                    generalize sAt x.keys k' = ky at *
                    generalize t.least = tl at *
                    have c1 := HB1.out.br.cell (j := 1) rfl
                    have HO1 := hid HB1.out.only
                    go_wp2_with fail
                    go_quiet (first | (go_at_call 186; exact Calls.quiet_of (CL _)) | fail)
                    go_wp2
                    go_ret
                    exact ⟨by rw [HR.out]; rfl, HO1.out.trans (only_drew _ _ _)⟩
            · have hk' : k = ni := by have := HTL.out; omega
              have HR : Hid (brT ns f x nx = some (.mk [] ts, nx')) := by
                show _ = _
                have h1 := HRD.out
                rw [hk', li.out, List.drop_length, rdIL] at h1
                rw [brT, if_pos HOK.out, ← h1]
              have HFIN := hid HBI.out.limb
              have HO1 := hid HBI.out.only
              have HWK := hid HBI.out.walk
              clear hk' HBI
              go_wp2
              go_ret
              exact ⟨by rw [HR.out]; exact ⟨_, rfl, HFIN.out, HWK.out⟩, HO1.out⟩
        · have HR : Hid (brT ns f x nx = none) := by show _ = _; rw [brT, if_neg]; rw [LB.out]; simp [a4]
          have e4 : ((np : Int) != 0) = true := by simp; omega
          clear LB a3 a4
          go_enter Try.func176, Try.ntmps176
          go_wp2
          go_ret
          exact ⟨by rw [HR.out]; rfl, only_of_below HB0.out _⟩
      · have HR : Hid (brT ns f x nx = none) := by show _ = _; rw [brT, if_neg]; rw [LB.out]; simp [a3]
        have e3 : ((nk : Int) != (ni : Int) - 1) = true := by simp [a3]
        clear LB a3
        go_enter Try.func176, Try.ntmps176
        go_wp2
        go_ret
        exact ⟨by rw [HR.out]; rfl, only_of_below HB0.out _⟩
end Go.Proofs.Ytcpdedpgjaimkaa
/-
  read: it reads what the plain function reads. rootOf.
-/
namespace Go.Proofs.Ytcpdedpgjaimkaa
open Go.RowKit
theorem ReadPost.mono {o : Option (T × Nat)} {w u : World} {wb : Nat} {nv : Value} {e : Ending} {w' : World} (h : ReadPost o u wb nv e w') (hs : w.heap.size ≤ u.heap.size) : ReadPost o w wb nv e w' := by
  cases o with
  | none => exact h
  | some tn =>
    obtain ⟨t, n⟩ := tn
    obtain ⟨b, h1, h2, h3⟩ := h
    exact ⟨b, h1, h2.mono (fun y hy => ⟨Nat.le_trans hs hy.1, hy.2⟩), h3⟩
theorem LimbOr.ret {o : Option T} {w : World} {e : Ending} {w' : World} (h : LimbOr o w e w') : ∃ p, e = .returned (.pointer p) := by
  cases o with
  | none => exact ⟨none, h⟩
  | some t => obtain ⟨b, h1, _⟩ := h; exact ⟨_, h1⟩
theorem ReadPost.ret {o : Option (T × Nat)} {w : World} {wb : Nat} {nv : Value} {e : Ending} {w' : World} (h : ReadPost o w wb nv e w') : ∃ p, e = .returned (.pointer p) := by
  cases o with
  | none => exact ⟨none, h⟩
  | some tn => obtain ⟨t, n⟩ := tn; obtain ⟨b, h1, _⟩ := h; exact ⟨_, h1⟩
theorem rdI_no {ns : List NB} {f : Nat} {pl : Int} {nx : Nat} (h : pl ≠ (nx : Int) ∨ (ns.length : Int) ≤ pl) : rdI ns f pl nx = none := by
  cases f with
  | zero => rfl
  | succ f => rw [rdI, if_pos h]
theorem rdI_leaf {ns : List NB} {f nx : Nat} (h : nx < ns.length) (hk : (nAt ns nx).kids.length = 0) : rdI ns (f + 1) nx nx = (leafT (nAt ns nx) (decide ((nx : Int) = 0))).map (fun t => (t, nx + 1)) := by
  rw [rdI, if_neg (by omega), if_pos hk, leafT]
  split <;> rfl
theorem rdI_br {ns : List NB} {f nx : Nat} (h : nx < ns.length) (hk : (nAt ns nx).kids.length ≠ 0) : rdI ns (f + 1) nx nx = brT ns f (nAt ns nx) (nx + 1) := by
  rw [rdI, if_neg (by omega), if_neg hk]
  rfl
theorem read_post_leaf {w u w' : World} {x : NB} {r : Bool} {wb nx : Nat} {nv : Value} {e : Ending} (h : LimbOr (leafT x r) u e w') (hs : w.heap.size ≤ u.heap.size) (hb : Bk w' wb 206 [nv, .int .i64 (nx + 1 : Nat)]) :
    ReadPost ((leafT x r).map (fun t => (t, nx + 1))) w wb nv e w' := by
  cases ho : leafT x r with
  | none => rw [ho] at h; exact h
  | some t =>
    rw [ho] at h
    obtain ⟨b, h1, h2⟩ := h
    exact ⟨b, h1, h2.mono (fun y hy => ⟨Nat.le_trans hs hy.1, hy.2⟩), hb⟩
set_option maxHeartbeats 8000000 in
theorem read_any (ns : List NB) : ∀ f, ReadC ns f := by
  intro f
  induction f with
  | zero =>
    intro S wb an nn cn pl nx w hW hN hwb hlen hnx hf
    have HR : Hid (rdI ns 0 pl nx = none) := rfl
    have hnn := hN.len.1
    have c0 := hW.cell (j := 0) rfl
    have c1 := hW.cell (j := 1) rfl
    by_cases hp : pl = (nx : Int)
    · have e1 : (pl != (nx : Int)) = false := by simp [hp]
      have e2 : (nn : Int) ≤ pl := by omega
      clear hW hN hnn hp
      go_enter Try.func151, Try.ntmps151
      go_wp2
      go_ret
      exact ⟨by rw [HR.out]; rfl, Only.refl _ _⟩
    · have e1 : (pl != (nx : Int)) = true := by simp [hp]
      clear hW hN hnn hp
      go_enter Try.func151, Try.ntmps151
      go_wp2
      go_ret
      exact ⟨by rw [HR.out]; rfl, Only.refl _ _⟩
  | succ f ih =>
    intro S wb an nn cn pl nx w hW hN hwb hlen hnx hf
    have hnn := hid hN.len.1
    have c0 := hW.cell (j := 0) rfl
    have c1 := hW.cell (j := 1) rfl
    by_cases hp : pl = (nx : Int)
    · subst hp
      have e1 : ((nx : Int) != (nx : Int)) = false := by simp
      by_cases hl : nn ≤ nx
      · have HR : Hid (rdI ns (f + 1) nx nx = none) := rdI_no (.inr (by rw [← hnn.out]; omega))
        have e2 : (nn : Int) ≤ (nx : Int) := by omega
        clear hW hN hl
        go_enter Try.func151, Try.ntmps151
        go_wp2
        go_ret
        exact ⟨by rw [HR.out]; rfl, Only.refl _ _⟩
      · have e2 : ¬ (nn : Int) ≤ (nx : Int) := by omega
        have HL : Hid (nx < ns.length) := by show _ < _; rw [← hnn.out]; omega
        have HIH := hid ih
        have HW := hid hW
        have HN := hid hN
        have HWB := hid hwb
        have HLEN := hid hlen
        have HF := hid hf
        have hlt' : (nx : Int) < (nn : Int) := by omega
        have hnx3 : nx < 400 := by have := HL.out; omega
        clear ih hN hwb hf hlen hnx
        obtain ⟨b, off, han, hSb, hbw, hcell⟩ := HN.out.at (by omega)
        subst han
        obtain ⟨ap, np, cp, ax, nk, cx, ai, ni, ci, d0, d1, d2, hp, hx, hi⟩ := hcell nx (by omega)
        have li := hid (Rw.len hi).1
        have HP := hid hp
        have HX := hid hx
        have HI := hid hi
        have hbne : b ≠ wb := by rintro rfl; exact HWB.out hSb
        have f1 := hW.free 1
        have b5 := (Rw.len hi).2.1
        have b6 := (Rw.len hi).2.2
        clear hcell hp hx hi hSb
        have HO1 : Hid (Only (fun b => b = wb) w ((w.setCell ⟨wb, 1, none⟩ (.int .i64 ((nx : Int) + 1))).alloc (.cells #[.slice ap np cp, .slice ax nk cx, .slice ai ni ci] 158))) := (only_set (R := fun b => b = wb) rfl _).trans (only_alloc _ _ _)
        have HWK : Hid (Bk ((w.setCell ⟨wb, 1, none⟩ (.int .i64 ((nx : Int) + 1))).alloc (.cells #[.slice ap np cp, .slice ax nk cx, .slice ai ni ci] 158)) wb 206 [.slice (some ⟨b, off, none⟩) nn cn, .int .i64 ((nx + 1 : Nat) : Int)]) := by
          show Bk _ _ _ _
          exact (HW.out.set 1 (.int .i64 ((nx : Int) + 1))).alloc _
        have HN1 := hid (HN.out.to HO1.out (fun y hy _ e => HWB.out (e ▸ hy)))
        have HP1 := hid (HP.out.to HO1.out (fun y hy _ e => HWB.out (e ▸ hy)))
        have HX1 := hid (HX.out.to HO1.out (fun y hy _ e => HWB.out (e ▸ hy)))
        have HI1 := hid (HI.out.to HO1.out (fun y hy _ e => HWB.out (e ▸ hy)))
        go_enter Try.func151, Try.ntmps151
        by_cases hk : ni = 0
        · have HR : Hid (rdI ns (f + 1) nx nx = (leafT (nAt ns nx) (decide ((nx : Int) = 0))).map (fun t => (t, nx + 1))) := rdI_leaf HL.out (by rw [← li.out]; exact hk)
          have HD : Hid (∀ r : Bool, r = decide ((nx : Int) = 0) → leafT (nAt ns nx) r = leafT (nAt ns nx) (decide ((nx : Int) = 0))) := by rintro _ rfl; rfl
          clear li
          subst hk
          go_wp2_with fail
          refine (readLeaf_any S ap ax ai np cp nk cx 0 ci (nAt ns nx) _ _ HP1.out HX1.out).mono ?_
          rintro e w2 ⟨hpost, hb2⟩
          obtain ⟨p, he⟩ := hpost.ret
          subst he
          have HPOST : Hid (ReadPost ((leafT (nAt ns nx) (decide ((nx : Int) = 0))).map (fun t => (t, nx + 1))) w wb (.slice (some ⟨b, off, none⟩) nn cn) (.returned (.pointer p)) w2) := by
            refine read_post_leaf (w := w) ?_ HO1.out.size (HWK.out.below hb2)
            rw [HD.out _ ?_] at hpost
            · exact hpost
            · by_cases h0 : nx = 0
              · subst h0; rfl
              · simp [h0]
          have HO2 := hid (HO1.out.trans (only_of_below hb2 _))
          clear hpost hb2 HD
          go_wp2
          go_ret
          exact ⟨by rw [HR.out]; exact HPOST.out, HO2.out⟩
        · have HR : Hid (rdI ns (f + 1) nx nx = brT ns f (nAt ns nx) (nx + 1)) := rdI_br HL.out (by rw [← li.out]; exact hk)
          have hk' : ((ni : Int) == 0) = false := by simp; omega
          clear hk
          go_wp2_with fail
          refine (readBranch_any ns f HIH.out S wb (some ⟨b, off, none⟩) nn cn ap ax ai np cp nk cx ni ci (nAt ns nx) (nx + 1) _ HWK.out HN1.out HWB.out HLEN.out HL.out (by have := HF.out; omega) HP1.out HX1.out HI1.out).mono ?_
          rintro e w2 ⟨hpost, ho2⟩
          obtain ⟨p, he⟩ := hpost.ret
          subst he
          have HPOST := hid (hpost.mono (w := w) HO1.out.size)
          have HO2 := hid (HO1.out.trans ho2)
          clear hpost ho2
          go_wp2
          go_ret
          exact ⟨by rw [HR.out]; exact HPOST.out, HO2.out⟩
    · have e1 : (pl != (nx : Int)) = true := by simp [hp]
      have HR : Hid (rdI ns (f + 1) pl nx = none) := rdI_no (.inl hp)
      clear hW hN hp
      go_enter Try.func151, Try.ntmps151
      go_wp2
      go_ret
      exact ⟨by rw [HR.out]; rfl, Only.refl _ _⟩
end Go.Proofs.Ytcpdedpgjaimkaa
/-
  rootOf: the right tree, or nil.
-/
namespace Go.Proofs.Ytcpdedpgjaimkaa
open Go.RowKit
mutual
theorem full_all_le : ∀ (t : T) (r : Bool), t.full r = true → t.all.length ≤ 4 * t.size
  | .mk ps ks, r, h => by
    by_cases hk : ks = []
    · subst hk
      have := full_lf h
      simp [T.size, szL, T.all, allL]
      omega
    · obtain ⟨h1, h2, rfl, h3⟩ := full_br h hk
      have := fullL_all_le ks h3
      simp [T.size, T.all]
      omega
theorem fullL_all_le : ∀ (ks : List T), (∀ k ∈ ks, k.full false = true) → (allL ks).length ≤ 4 * szL ks
  | [], _ => by simp [szL, allL]
  | k :: ks, h => by
    have h1 := full_all_le k false (h k (by simp))
    have h2 := fullL_all_le ks (fun x hx => h x (by simp [hx]))
    simp [szL, allL]
    omega
end
set_option maxHeartbeats 8000000 in
theorem rootOf_any (S : Nat → Prop) (an : Option Addr) (nn cn : Nat) (ns : List NB) (w : World) (hN : Nr w S (.slice an nn cn) ns) :
    Calls Try.prog 106 #[.agg #[.slice an nn cn]] w fun e w' => LimbOr (okT ns) w e w' ∧ Below w.heap.size w w' := by
  have hnn := hid hN.len.1
  have h1 := hN.len.2.1
  have h2 := hN.len.2.2
  have HN : Hid (Nr w (fun y => y < w.heap.size) (.slice an nn cn) ns) := hN.mono (fun b _ h => h)
  clear hN
  have HB0 := hid (below_new (o := .cells #[.slice an nn cn] 25) (w := w) (Below.refl _ _))
  by_cases a1 : nn = 0
  · have HR : Hid (okT ns = some (.mk [] [])) := by show _ = _; rw [okT, if_pos]; rw [← hnn.out]; exact a1
    have HL : Hid (Limb ((w.alloc (.cells #[.slice an nn cn] 25)).alloc (.cells #[.slice none 0 0, .slice none 0 0] 204)) (fun y => w.heap.size ≤ y ∧ y < ((w.alloc (.cells #[.slice an nn cn] 25)).alloc (.cells #[.slice none 0 0, .slice none 0 0] 204)).heap.size) (w.heap.size + 1) (.mk [] [])) := by
      have hk := Bk.new (w.alloc (.cells #[.slice an nn cn] 25)) 204 [.slice none 0 0, .slice none 0 0]
      refine limb_leaf (lo := w.heap.size) (by simpa using hk) (by omega) (ow_nil _ _) (by simp [Value.ownBlock]) _ (fun y h1 h2 => ⟨h1, h2⟩)
    clear hnn HN
    subst a1
    go_enter Try.func106, Try.ntmps106
    go_wp2
    go_ret
    refine ⟨?_, below_new (below_new (Below.refl _ _))⟩
    rw [HR.out]
    exact ⟨_, rfl, HL.out⟩
  · have e1 : ((nn : Int) == 0) = false := by simp; omega
    by_cases a2 : 400 ≤ nn
    · have e2 : (400 : Int) ≤ (nn : Int) := by omega
      have HR : Hid (okT ns = none) := by show _ = _; rw [okT, if_neg, if_pos] <;> rw [← hnn.out] <;> omega
      clear a1 a2
      go_enter Try.func106, Try.ntmps106
      go_wp2
      go_ret
      refine ⟨?_, HB0.out⟩
      rw [HR.out]
      rfl
    · have e2 : ¬ (400 : Int) ≤ (nn : Int) := by omega
      have HLEN : Hid (ns.length < 400) := by show _ < _; rw [← hnn.out]; omega
      have HB1 : Hid (Below w.heap.size w ((w.alloc (.cells #[.slice an nn cn] 25)).alloc (.cells #[.slice an nn cn, .int .i64 0] 206))) := below_new (below_new (Below.refl _ _))
      have KW : Hid (Bk ((w.alloc (.cells #[.slice an nn cn] 25)).alloc (.cells #[.slice an nn cn, .int .i64 0] 206)) (w.heap.size + 1) 206 [.slice an nn cn, .int .i64 (0 : Nat)]) := by
        have hk := Bk.new (w.alloc (.cells #[.slice an nn cn] 25)) 206 [.slice an nn cn, .int .i64 0]
        show Bk _ _ _ _
        simpa using hk
      have KT : Hid (Bk ((w.alloc (.cells #[.slice an nn cn] 25)).alloc (.cells #[.slice an nn cn, .int .i64 0] 206)) w.heap.size 25 [.slice an nn cn]) := (Bk.new w 25 [.slice an nn cn]).alloc _
      have HZ : Hid (((w.alloc (.cells #[.slice an nn cn] 25)).alloc (.cells #[.slice an nn cn, .int .i64 0] 206)).heap.size = w.heap.size + 2) := by show _ = _; simp
      clear a2
      go_enter Try.func106, Try.ntmps106
      go_wp2_with fail
      refine (read_any ns ns.length (fun y => y < w.heap.size) (w.heap.size + 1) an nn cn 0 0 _ KW.out (HN.out.below HB1.out) (by omega) HLEN.out (Nat.zero_le _) (by omega)).mono ?_
      generalize (w.alloc (.cells #[.slice an nn cn] 25)).alloc (.cells #[.slice an nn cn, .int .i64 0] 206) = W at *
      rintro e w1 ⟨hpost, ho1⟩
      cases hr : rdI ns ns.length 0 0 with
      | none =>
        rw [hr] at hpost
        have he : e = .returned (.pointer none) := hpost
        subst he
        have HR : Hid (okT ns = none) := by
          show _ = _
          rw [okT, if_neg (by rw [← hnn.out]; exact a1), if_neg (by have := HLEN.out; omega), hr]
        have KT1 := hid (KT.out.to ho1 (by omega))
        have HB2 : Hid (Below w.heap.size w w1) := HB1.out.trans (ho1.below (by have := HZ.out; omega) (fun b hb e => by omega))
        clear hpost ho1
        go_wp2
        go_ret
        exact ⟨by rw [HR.out]; rfl, HB2.out⟩
      | some tn =>
        obtain ⟨t, n1⟩ := tn
        rw [hr] at hpost
        obtain ⟨b, he, hL, hW⟩ := hpost
        subst he
        have KT1 := hid (KT.out.to ho1 (by omega))
        have HB2 : Hid (Below w.heap.size w w1) := HB1.out.trans (ho1.below (by have := HZ.out; omega) (fun b hb e => by omega))
        have HL := hid hL
        have KW1 := hid hW
        have HRI := hid (rdI_rdy hr (by have := HLEN.out; omega))
        have HAL : Hid (t.all.length ≤ 1048576) := by
          show _ ≤ _
          obtain ⟨_, _, g3, _, g5, rfl⟩ := rdI_sound ns _ _ _ _ _ hr
          have g6 := full_all_le t _ g3
          have g7 := HRI.out.2.1
          have := HLEN.out
          omega
        have HOT : Hid (okT ns = if n1 = ns.length ∧ pOk t.all = true then some t else none) := by
          show _ = _
          rw [okT, if_neg (by rw [← hnn.out]; exact a1), if_neg (by have := HLEN.out; omega), hr]
        have c0 := KT1.out.cell (j := 0) rfl
        have c1 := KW1.out.cell (j := 1) rfl
        clear hL hW ho1 hr
        by_cases hn1 : n1 = nn
        · have e3 : ((n1 : Int) != (nn : Int)) = false := by simp [hn1]
          have HN1 := hid hn1
          clear hn1
          go_wp2_with fail
          refine (all_any t (fun y => W.heap.size ≤ y ∧ y < w1.heap.size) b w1 w1.heap.size (.slice none 0 0) [] HL.out (fun y hy => hy.2) (Nat.le_refl _) (ow_nil _ _) (by have := HAL.out; simp; omega)).mono ?_
          rintro e w2 ⟨v2, rfl, hO2, hb2⟩
          rw [List.nil_append] at hO2
          have HO2 := hid hO2
          have HB3 : Hid (Below w.heap.size w w2) := HB2.out.trans (hb2.mono HB2.out.size)
          have HL2 := hid (HL.out.kept hb2)
          have HSZ2 := hid hb2.size
          obtain ⟨a2, n2, cc2, hv2, HN2⟩ := hO2.shape'
          subst hv2
          clear hO2 hb2
          go_wp2_with fail
          refine (implPairsOk_any (fun _ => True) _ t.all w2 (HO2.out.pr (fun _ _ _ _ => trivial))).mono ?_
          rintro e w3 ⟨rfl, hb3⟩
          have HB4 : Hid (Below w.heap.size w w3) := HB3.out.trans (hb3.mono HB3.out.size)
          have HL3 : Hid (Limb w3 (fun y => w.heap.size ≤ y ∧ y < w3.heap.size) b t) := by
            refine (HL2.out.kept hb3).mono (fun y hy => ⟨?_, ?_⟩)
            · have := HZ.out; have := hy.1; omega
            · have := HSZ2.out; have := hb3.size; have := hy.2; omega
          clear hb3
          cases hpk : pOk t.all
          · have HR : Hid (okT ns = none) := by show _ = _; rw [HOT.out, if_neg]; rw [hpk]; simp
            clear HOT hpk
            go_wp2
            go_ret
            exact ⟨by rw [HR.out]; rfl, HB4.out⟩
          · have HR : Hid (okT ns = some t) := by show _ = _; rw [HOT.out, if_pos]; exact ⟨by rw [HN1.out, hnn.out], hpk⟩
            clear HOT hpk
            go_wp2
            go_ret
            exact ⟨by rw [HR.out]; exact ⟨_, rfl, HL3.out⟩, HB4.out⟩
        · have e3 : ((n1 : Int) != (nn : Int)) = true := by simp; omega
          have HR : Hid (okT ns = none) := by show _ = _; rw [HOT.out, if_neg]; rintro ⟨h, _⟩; exact hn1 (by rw [h, hnn.out])
          clear hn1 HOT
          go_wp2
          go_ret
          exact ⟨by rw [HR.out]; rfl, HB2.out⟩
end Go.Proofs.Ytcpdedpgjaimkaa
/-
  l03Read of the specification: it reads what the plain function reads.
-/
namespace Go.Proofs.Ytcpdedpgjaimkaa
open Go.RowKit
set_option maxHeartbeats 8000000 in
theorem specRead_any (ns : List NB) (hlen : ns.length ≤ 1048576) (hsm : smallN ns) : ∀ f : Nat, f ≤ 13 → ∀ (S : Nat → Prop) (an : Option Addr) (nn cn : Nat) (a d : Int) (w : World), Nr w S (.slice an nn cn) ns → d = 13 - (f : Int) →
    Calls Try.prog 158 #[.agg #[.slice an nn cn], .int .i64 a, .int .i64 d] w fun e w' => SubPost (rdS ns f a) w e w' ∧ Below w.heap.size w w' := by
  intro f
  induction f with
  | zero =>
    intro _ S an nn cn a d w hN hd
    have hd' : d = 13 := by omega
    have HR : Hid (rdS ns 0 a = none) := rfl
    clear hN hd
    subst hd'
    by_cases h1 : a < 0
    · go_enter Try.func158, Try.ntmps158
      go_wp2
      try simp only [Exit.inBlock, Exit.then]
      refine bodyPost_ret (v := .tuple #[.agg #[.bool false, .slice none 0 0, .slice none 0 0], .int .i64 0, .bool false]) ?_ rfl ?_
      · refine results_sub3 rfl _ _ _ rfl rfl rfl ?_ ?_ ?_
        · go_simp
        · go_simp
        · go_simp
      · exact ⟨by rw [HR.out]; rfl, below_new (below_new (Below.refl _ _))⟩
    · by_cases h2 : (nn : Int) ≤ a
      · go_enter Try.func158, Try.ntmps158
        go_wp2
        try simp only [Exit.inBlock, Exit.then]
        refine bodyPost_ret (v := .tuple #[.agg #[.bool false, .slice none 0 0, .slice none 0 0], .int .i64 0, .bool false]) ?_ rfl ?_
        · refine results_sub3 rfl _ _ _ rfl rfl rfl ?_ ?_ ?_
          · go_simp
          · go_simp
          · go_simp
        · exact ⟨by rw [HR.out]; rfl, below_new (below_new (Below.refl _ _))⟩
      · go_enter Try.func158, Try.ntmps158
        go_wp2
        try simp only [Exit.inBlock, Exit.then]
        refine bodyPost_ret (v := .tuple #[.agg #[.bool false, .slice none 0 0, .slice none 0 0], .int .i64 0, .bool false]) ?_ rfl ?_
        · refine results_sub3 rfl _ _ _ rfl rfl rfl ?_ ?_ ?_
          · go_simp
          · go_simp
          · go_simp
        · exact ⟨by rw [HR.out]; rfl, below_new (below_new (Below.refl _ _))⟩
  | succ f ih =>
    intro hf13 S an nn cn a d w hN hd
    have hnn := hid hN.len.1
    have hnn2 := hN.len.2.1
    have hnn3 := hN.len.2.2
    by_cases h1 : a < 0
    · have HR : Hid (rdS ns (f + 1) a = none) := by show _ = _; rw [rdS, if_pos (.inl h1)]
      clear hN hd
      go_enter Try.func158, Try.ntmps158
      go_wp2
      try simp only [Exit.inBlock, Exit.then]
      refine bodyPost_ret (v := .tuple #[.agg #[.bool false, .slice none 0 0, .slice none 0 0], .int .i64 0, .bool false]) ?_ rfl ?_
      · refine results_sub3 rfl _ _ _ rfl rfl rfl ?_ ?_ ?_
        · go_simp
        · go_simp
        · go_simp
      · exact ⟨by rw [HR.out]; rfl, below_new (below_new (Below.refl _ _))⟩
    · by_cases h2 : (nn : Int) ≤ a
      · have HR : Hid (rdS ns (f + 1) a = none) := by show _ = _; rw [rdS, if_pos (.inr (by rw [← hnn.out]; exact h2))]
        clear hN hd
        go_enter Try.func158, Try.ntmps158
        go_wp2
        try simp only [Exit.inBlock, Exit.then]
        refine bodyPost_ret (v := .tuple #[.agg #[.bool false, .slice none 0 0, .slice none 0 0], .int .i64 0, .bool false]) ?_ rfl ?_
        · refine results_sub3 rfl _ _ _ rfl rfl rfl ?_ ?_ ?_
          · go_simp
          · go_simp
          · go_simp
        · exact ⟨by rw [HR.out]; rfl, below_new (below_new (Below.refl _ _))⟩
      · obtain ⟨p, hp⟩ : ∃ p : Nat, a = p := ⟨a.toNat, by omega⟩
        subst hp
        have hd12 : d ≤ 12 := by omega
        have hd0 : 0 ≤ d := by omega
        have HD := hid hd
        have hpn : p < nn := by omega
        have hpn' : (p : Int) < (nn : Int) := by omega
        have HN := hid hN
        have HIH := hid ih
        have hlen2 : nn ≤ 1048576 := by rw [hnn.out]; exact hlen
        clear hN hd ih
        obtain ⟨b, off, han, hSb, hbw, hcell⟩ := HN.out.at (by omega)
        subst han
        obtain ⟨ap, np, cp, ax, nk, cx, ai, ni, ci, d0, d1, d2, hp, hx, hi⟩ := hcell p hpn
        have lp := hid (Rw.len hp).1
        have li := hid (Rw.len hi).1
        have HP := hid hp
        have HI := hid hi
        have b5 := (Rw.len hi).2.1
        have b6 := (Rw.len hi).2.2
        obtain ⟨s1, _, _⟩ := hsm p (by rw [← hnn.out]; exact hpn)
        have hnp : np ≤ 1048576 := by rw [lp.out]; exact s1
        have hni : ni ≤ 1048576 := by rw [li.out]; exact (hsm p (by rw [← hnn.out]; exact hpn)).2.2
        have HR0 : Hid (rdS ns (f + 1) (p : Int) = match rdSL (rdS ns f) (nAt ns p).kids (p + 1) with
            | none => none
            | some (ts, n) => some (.mk (nAt ns p).ps ts, n)) := by
          show _ = _
          rw [rdS, if_neg (by rw [← hnn.out]; omega)]
          rfl
        clear hcell hp hx hi s1
        generalize hX : nAt ns p = x at *
        clear hX
        have HBU : Hid (Below w.heap.size w (((w.alloc (.cells #[.slice (some ⟨b, off, none⟩) nn cn] 25)).alloc (.cells #[.bool false, .slice none 0 0, .slice none 0 0] 169)).alloc (.cells #[.slice ap np cp, .slice ax nk cx, .slice ai ni ci] 158))) := below_new (below_new (below_new (Below.refl _ _)))
        have KT : Hid (Bk (((w.alloc (.cells #[.slice (some ⟨b, off, none⟩) nn cn] 25)).alloc (.cells #[.bool false, .slice none 0 0, .slice none 0 0] 169)).alloc (.cells #[.slice ap np cp, .slice ax nk cx, .slice ai ni ci] 158)) w.heap.size 25 [.slice (some ⟨b, off, none⟩) nn cn]) := ((Bk.new w 25 [.slice (some ⟨b, off, none⟩) nn cn]).alloc _).alloc _
        have KR : Hid (Bk (((w.alloc (.cells #[.slice (some ⟨b, off, none⟩) nn cn] 25)).alloc (.cells #[.bool false, .slice none 0 0, .slice none 0 0] 169)).alloc (.cells #[.slice ap np cp, .slice ax nk cx, .slice ai ni ci] 158)) (w.heap.size + 1) 169 [.bool false, .slice none 0 0, .slice none 0 0]) := by
          have := (Bk.new (w.alloc (.cells #[.slice (some ⟨b, off, none⟩) nn cn] 25)) 169 [.bool false, .slice none 0 0, .slice none 0 0]).alloc (.cells #[.slice ap np cp, .slice ax nk cx, .slice ai ni ci] 158)
          show Bk _ _ _ _
          simpa using this
        have KN : Hid (Bk (((w.alloc (.cells #[.slice (some ⟨b, off, none⟩) nn cn] 25)).alloc (.cells #[.bool false, .slice none 0 0, .slice none 0 0] 169)).alloc (.cells #[.slice ap np cp, .slice ax nk cx, .slice ai ni ci] 158)) (w.heap.size + 1 + 1) 158 [.slice ap np cp, .slice ax nk cx, .slice ai ni ci]) := by
          have := Bk.new ((w.alloc (.cells #[.slice (some ⟨b, off, none⟩) nn cn] 25)).alloc (.cells #[.bool false, .slice none 0 0, .slice none 0 0] 169)) 158 [.slice ap np cp, .slice ax nk cx, .slice ai ni ci]
          show Bk _ _ _ _
          simpa using this
        have HZ : Hid ((((w.alloc (.cells #[.slice (some ⟨b, off, none⟩) nn cn] 25)).alloc (.cells #[.bool false, .slice none 0 0, .slice none 0 0] 169)).alloc (.cells #[.slice ap np cp, .slice ax nk cx, .slice ai ni ci] 158)).heap.size = w.heap.size + 3) := by show _ = _; simp
        go_enter Try.func158, Try.ntmps158
        have c0 := KN.out.cell (j := 0) rfl
        have c2 := KN.out.cell (j := 2) rfl
        have T0 := hid (kc0_2 c0 c2)
        have HXL : Hid (x.ps.length ≤ 1048576) := by show _ ≤ _; rw [← lp.out]; exact hnp
        have HSRC : Hid (∀ v, KC (((w.alloc (.cells #[.slice (some ⟨b, off, none⟩) nn cn] 25)).alloc (.cells #[.bool false, .slice none 0 0, .slice none 0 0] 169)).alloc (.cells #[.slice ap np cp, .slice ax nk cx, .slice ai ni ci] 158)) v [(⟨w.heap.size + 1 + 1, 0, none⟩, .slice ap np cp), (⟨w.heap.size + 1 + 1, 2, none⟩, .slice ai ni ci)] → Pr v S (.slice ap np cp) x.ps) := fun v hv => (HP.out.below HBU.out).below hv.bel
        have hlf : ((ni : Int) == 0) = decide (ni = 0) := by
          by_cases h : ni = 0
          · subst h; rfl
          · simp [h]
        generalize hLF : decide (ni = 0) = lf at *
        go_wp2_with fail
        generalize (((w.alloc (.cells #[.slice (some ⟨b, off, none⟩) nn cn] 25)).alloc (.cells #[.bool false, .slice none 0 0, .slice none 0 0] 169)).alloc (.cells #[.slice ap np cp, .slice ax nk cx, .slice ai ni ci] 158)) = U at *
        have k1 : (U.alloc (.cells #[] 33)).drew.heap[U.heap.size]? = some (.cells #[] 33 (0, 0)) := heap_alloc_new U _
        have k2 : ((U.alloc (.cells #[.bool false, .slice none 0 0, .slice none 0 0] 169)).alloc (.cells #[] 33)).drew.heap[U.heap.size + 1]? = some (.cells #[] 33 (0, 0)) := by
          have := heap_alloc_new (U.alloc (.cells #[.bool false, .slice none 0 0, .slice none 0 0] 169)) (.cells #[] 33)
          have e : (U.alloc (.cells #[.bool false, .slice none 0 0, .slice none 0 0] 169)).heap.size = U.heap.size + 1 := by simp
          rw [e] at this
          exact this
        have k3 : ((U.alloc (.cells #[] 33)).alloc (.cells #[.bool false, .slice none 0 0, .slice none 0 0] 169)).drew.heap[U.heap.size]? = some (.cells #[] 33 (0, 0)) := (Below.heap_alloc _ _ _ (by simp)).trans (heap_alloc_new U _)
        have k4 : Hid (((U.alloc (.cells #[] 33)).alloc (.cells #[.bool false, .slice none 0 0, .slice none 0 0] 169)).drew.heap[U.heap.size + 1]? = some (.cells #[.bool false, .slice none 0 0, .slice none 0 0] 169 (0, 0))) := by
          have := heap_alloc_new (U.alloc (.cells #[] 33)) (.cells #[.bool false, .slice none 0 0, .slice none 0 0] 169)
          have e : (U.alloc (.cells #[] 33)).heap.size = U.heap.size + 1 := by simp
          rw [e] at this
          exact this
        have k5 : Hid (((U.alloc (.cells #[.bool false, .slice none 0 0, .slice none 0 0] 169)).alloc (.cells #[] 33)).drew.heap[U.heap.size]? = some (.cells #[.bool false, .slice none 0 0, .slice none 0 0] 169 (0, 0))) := (Below.heap_alloc _ _ _ (by simp)).trans (heap_alloc_new U _)
        go_cut [10] (fun q v => ∃ (sb bs : Nat) (pv : Value), q = .pointer (some ⟨sb, 0, none⟩) ∧ Below U.heap.size U v ∧ U.heap.size ≤ sb ∧ sb < bs ∧ bs ≤ v.heap.size ∧ Bk v sb 169 [.bool lf, pv, .slice none 0 0] ∧ Pr v (fun y => U.heap.size ≤ y ∧ y < bs ∧ y ≠ sb) pv x.ps)
        case first =>
          go_region_held3 (fun v => v.cell? ⟨w.heap.size + 1 + 1, 0, none⟩ = some (.slice ap np cp) ∧ v.cell? ⟨w.heap.size + 1 + 1, 2, none⟩ = some (.slice ai ni ci) ∧ KC U v [(⟨w.heap.size + 1 + 1, 0, none⟩, .slice ap np cp), (⟨w.heap.size + 1 + 1, 2, none⟩, .slice ai ni ci)])
            (first | assumption | exact kc2 (T0.out.call (below_drew _)) | exact kc2c (below_new (Below.refl _ _)) (by assumption) | exact kc2g hg2 (by intro k e; cases e; simp) (by assumption) | exact kc2w (Nat.le_trans (by simp) hg2.size) (by assumption) | exact kc2s (by simp) (by assumption))
            (first
              | (refine step_clone rfl _ _ rfl U.heap.size _ rfl (by assumption) (by simp) S _ x.ps rfl (HSRC.out _ (And.right (And.right (by assumption)))) (Nat.le_trans HXL.out (by decide)) ?_; intro a2 n2 c2 w2 hO2 hg2 hat2 hc2 hf2))
          all_goals (go_wp2_with fail; go_meet; first
            | exact ⟨_, _, _, rfl, meet_new (W := (U.alloc (.cells #[] 33)).drew) ((below_new (Below.refl _ _)).drew) (by simp) hO2 hg2 (Nat.le_refl _)⟩
            | exact ⟨_, _, _, rfl, meet_set (W := ((U.alloc (.cells #[] 33)).alloc (.cells #[.bool false, .slice none 0 0, .slice none 0 0] 169)).drew) ((below_new (below_new (Below.refl _ _))).drew) (by simp; omega) hO2 hg2 (by simpa using hat2) k4.out (by omega) (by omega) (Nat.le_refl _)⟩
            | exact ⟨_, _, _, rfl, meet_set (W := ((U.alloc (.cells #[.bool false, .slice none 0 0, .slice none 0 0] 169)).alloc (.cells #[] 33)).drew) ((below_new (below_new (Below.refl _ _))).drew) (by simp; omega) hO2 hg2 (by simpa using hat2) k5.out (by omega) (Nat.le_refl _) (by omega)⟩)
        case rest =>
          rename_i q
          obtain ⟨sb, bs, pv, hq, hbel, hsb, hsb2, hbs, hBK, hPR⟩ := hcut
          subst hq
          obtain ⟨a3, c3, hpv, _⟩ := hPR.shape
          generalize hl3 : x.ps.length = n3 at hpv
          have HL3 := hid hl3
          clear hl3
          subst hpv
          have HZ' := HZ.out
          have HS0 : Hid (SpI w wc sb bs lf (.slice (some ⟨b, off, none⟩) nn cn) (.slice a3 n3 c3) x.ps [] (.slice none 0 0) (fun _ => false) (fun _ => .slice none 0 0) (fun _ => .slice none 0 0)) :=
            ⟨⟨by omega, hsb2⟩, hbs, KT.out.below hbel, KR.out.below hbel, hBK, Rw.mono hPR (fun y hy _ => ⟨by omega, hy.2⟩), World.ownsRow_nil _ _ _ _, fun i hi => by (simp at hi), HBU.out.trans (hbel.mono HBU.out.size)⟩
          have HNB := hid (KN.out.below hbel)
          have c2' := HNB.out.cell (j := 2) rfl
          clear hbel hsb hsb2 hbs hBK hPR c0 c2 T0 HSRC k1 k2 k3 k4 k5 KT KR KN HZ' hlf
          go_wp2_with fail
          go_loopw [11, 50] (fun y i wr => ∃ (ts : List T) (nx : Nat) (kv : Value) (L : Nat → Bool) (P K : Nat → Value), i = .int .i64 (ts.length : Int) ∧ y = .int .i64 (nx : Int) ∧ Hid (ts.length ≤ ni) ∧ Hid (SpI w wr sb bs lf (.slice (some ⟨b, off, none⟩) nn cn) (.slice a3 n3 c3) x.ps ts kv L P K) ∧ Hid (rdJ (rdS ns f) ts (x.kids.drop ts.length) nx = rdSL (rdS ns f) x.kids (p + 1))) (fun _ i _ => ni - (intOf i).toNat)
          case atStart => exact ⟨[], p + 1, _, _, _, _, rfl, by go_num, Nat.zero_le _, HS0.out, by show _ = _; rw [rdJ_nil]; rfl⟩
          case round =>
            obtain ⟨ts, nx, kv, L, P, K, rfl, rfl, HTL, HSP, HRD⟩ := hrel
            generalize hk : ts.length = k at *
            have HKL := hid hk
            clear hk
            have HBL := hid HSP.out.bel
            have r0 := HSP.out.res.cell (j := 0) rfl
            have r1 := HSP.out.res.cell (j := 1) rfl
            have r2 := HSP.out.res.cell (j := 2) rfl
            have q0 := HSP.out.res.free 0
            have q1 := HSP.out.res.free 1
            have q2 := HSP.out.res.free 2
            by_cases hlt : k < ni
            · have hlt' : (k : Int) < (ni : Int) := by omega
              obtain ⟨bi, offi, hai, _, _, hci⟩ := (HI.out.below HBL.out).at (by omega)
              subst hai
              have hck := hci k hlt
              have HKD : Hid (x.kids.drop k = iAt x.kids k :: x.kids.drop (k + 1)) := by
                show _ = _
                have hl : k < x.kids.length := by rw [← li.out]; exact hlt
                rw [List.drop_eq_getElem_cons hl]
                simp [iAt, hl]
              clear hci
              generalize hkd : iAt x.kids k = kd at hck HKD
              clear hkd
              by_cases hne : kd = (nx : Int)
              · have e1 : (kd != (nx : Int)) = false := by simp [hne]
                have HEQ := hid hne
                clear hne
                have t0 := HSP.out.tre.cell (j := 0) rfl
                have HNr := hid (HN.out.below HBL.out)
                have hw1 : IntKind.i64.wrap (d + 1) = d + 1 := by rw [IntKind.wrap_i64]; omega
                go_wp2_with fail
                refine (HIH.out (by omega) S (some ⟨b, off, none⟩) nn cn kd (d + 1) wr HNr.out (by have := HD.out; omega)).mono ?_
                rintro e w1 ⟨hpost, hb1⟩
                have HSP1 := hid (HSP.out.keep hb1)
                cases hr : rdS ns f kd with
                | none =>
                  rw [hr] at hpost
                  have he : e = .returned (.tuple #[.agg #[.bool false, .slice none 0 0, .slice none 0 0], .int .i64 0, .bool false]) := hpost
                  subst he
                  have HR : Hid (rdS ns (f + 1) (p : Int) = none) := by
                    show _ = _
                    have h1 := HRD.out
                    rw [HKD.out, rdJ_no _ _ _ _ _ (.inr hr)] at h1
                    rw [HR0.out, ← h1]
                  have HSP2 := hid (HSP1.out.keep (below_new (o := .cells #[.bool false, .slice none 0 0, .slice none 0 0] 169) (Below.refl _ _)))
                  clear hpost hb1 hr r0 r1 r2 q0 q1 q2 t0 HSP HSP1 HBL
                  have HBL := hid HSP2.out.bel
                  have r0 := HSP2.out.res.cell (j := 0) rfl
                  have r1 := HSP2.out.res.cell (j := 1) rfl
                  have r2 := HSP2.out.res.cell (j := 2) rfl
                  have q0 := HSP2.out.res.free 0
                  have q1 := HSP2.out.res.free 1
                  have q2 := HSP2.out.res.free 2
                  have HR' := HR
                  go_wp2
                  try simp only [Exit.inBlock, Exit.then]
                  refine bodyPost_ret (v := .tuple #[.agg #[.bool false, .slice none 0 0, .slice none 0 0], .int .i64 0, .bool false]) ?_ rfl ?_
                  · refine results_sub3 rfl _ _ _ rfl rfl rfl ?_ ?_ ?_
                    · go_simp
                    · go_simp
                    · go_simp
                  · exact ⟨by rw [HR.out]; rfl, ((HBL.out.setCell (by show w.heap.size ≤ w.heap.size + 1; omega) _).setCell (by show w.heap.size ≤ w.heap.size + 1; omega) _).setCell (by show w.heap.size ≤ w.heap.size + 1; omega) _⟩
                | some tn =>
                  obtain ⟨t, n1⟩ := tn
                  rw [hr] at hpost
                  obtain ⟨l1, ap1, np1, cp1, ak1, nk1, ck1, he, hsub⟩ := hpost
                  subst he
                  have HSP2 := hid (HSP1.out.keep (below_new (o := .cells #[.bool l1, .slice ap1 np1 cp1, .slice ak1 nk1 ck1] 169) (Below.refl _ _)))
                  have HSP3 := hid (HSP2.out.keep (below_new (o := .cells #[.bool l1, .slice ap1 np1 cp1, .slice ak1 nk1 ck1] 169) (Below.refl _ _)))
                  have HSB : Hid (Sub ((w1.alloc (.cells #[.bool l1, .slice ap1 np1 cp1, .slice ak1 nk1 ck1] 169)).alloc (.cells #[.bool l1, .slice ap1 np1 cp1, .slice ak1 nk1 ck1] 169)) (fun y => bs ≤ y ∧ y < ((w1.alloc (.cells #[.bool l1, .slice ap1 np1 cp1, .slice ak1 nk1 ck1] 169)).alloc (.cells #[.bool l1, .slice ap1 np1 cp1, .slice ak1 nk1 ck1] 169)).heap.size ∧ kv.ownBlock ≠ some y) l1 (.slice ap1 np1 cp1) (.slice ak1 nk1 ck1) t) := by
                    refine ((hsub.kept (below_new (Below.refl _ _))).kept (below_new (Below.refl _ _))).mono (fun y hy hlt => ⟨?_, hlt, fun e => ?_⟩)
                    · have := HSP.out.hi; have := hy.1; omega
                    · have := (World.ownsRow.lt HSP.out.row y e).2; have := hy.1; omega
                  have HBN : Hid (Bk ((w1.alloc (.cells #[.bool l1, .slice ap1 np1 cp1, .slice ak1 nk1 ck1] 169)).alloc (.cells #[.bool l1, .slice ap1 np1 cp1, .slice ak1 nk1 ck1] 169)) (w1.heap.size + 1) 169 [.bool l1, .slice ap1 np1 cp1, .slice ak1 nk1 ck1]) := by
                    have := Bk.new (w1.alloc (.cells #[.bool l1, .slice ap1 np1 cp1, .slice ak1 nk1 ck1] 169)) 169 [.bool l1, .slice ap1 np1 cp1, .slice ak1 nk1 ck1]
                    show Bk _ _ _ _
                    simpa using this
                  have HRD2 : Hid (rdJ (rdS ns f) (ts ++ [t]) (x.kids.drop (ts ++ [t]).length) n1 = rdSL (rdS ns f) x.kids (p + 1)) := by
                    show _ = _
                    rw [← HRD.out, HKD.out, rdJ_step _ _ _ _ _ _ _ HEQ.out hr, List.length_append, HKL.out]
                    rfl
                  have HTL2 : Hid ((ts ++ [t]).length = k + 1) := by show _ = _; rw [List.length_append, HKL.out]; rfl
                  obtain ⟨ak, ck, hkv⟩ := own_shape HSP3.out.row
                  rw [HKL.out] at hkv
                  subst hkv
                  have HOW : Hid (World.ownsRow ((w1.alloc (.cells #[.bool l1, .slice ap1 np1 cp1, .slice ak1 nk1 ck1] 169)).alloc (.cells #[.bool l1, .slice ap1 np1 cp1, .slice ak1 nk1 ck1] 169)) bs 169 3 (.slice ak k ck) k (ncs (mkV L P K k))) := by
                    have := HSP3.out.row
                    rw [HKL.out] at this
                    exact this
                  have hki : k ≤ 1048576 := by omega
                  have s2 := HSP2.out.sub.cell (j := 2) rfl
                  have HHI := hid HSP3.out.hi
                  clear hb1 hr r0 r1 r2 q0 q1 q2 t0 HSP HSP1 HSP2 HBL hsub HRD
                  go_wp2_with (at_builtin; refine wpList_append_sub rfl _ _ rfl bs _ k (mkV L P K k) rfl HOW.out (w1.heap.size + 1) l1 ap1 np1 cp1 ak1 nk1 ck1 rfl HBN.out hki HHI.out ?_)
                  intro v4 w4 hO4 hg4 ha4
                  obtain ⟨a4, c4, hv4⟩ := own_shape hO4
                  subst hv4
                  have HSP4 := hid (HSP3.out.push HSB.out (by rw [HKL.out]; exact hO4) hg4 (by simpa using ha4))
                  have K4 := HSP3.out.sub.to (only_of_grown (R := fun y => bs ≤ y) hg4 (fun y e => (World.ownsRow.lt HSP3.out.row y e).1)) (by have := HSP3.out.lo; omega)
                  have s4 := K4.cell (j := 2) rfl
                  have f4 := K4.free 2
                  clear hO4 hg4 ha4 K4 HOW HBN HSB HSP3 s2 HHI
                  go_wp2
                  go_roundw
                  case rel => exact ⟨ts ++ [t], n1, _, _, _, _, by rw [HTL2.out]; go_num, rfl, by show _ ≤ _; rw [HTL2.out]; omega, HSP4.out, HRD2.out⟩
                  case measure => simp [intOf]; omega
              · have e1 : (kd != (nx : Int)) = true := by simp [hne]
                have HR : Hid (rdS ns (f + 1) (p : Int) = none) := by
                  show _ = _
                  have h1 := HRD.out
                  rw [HKD.out, rdJ_no _ _ _ _ _ (.inl hne)] at h1
                  rw [HR0.out, ← h1]
                clear hne
                go_wp2
                try simp only [Exit.inBlock, Exit.then]
                refine bodyPost_ret (v := .tuple #[.agg #[.bool false, .slice none 0 0, .slice none 0 0], .int .i64 0, .bool false]) ?_ rfl ?_
                · refine results_sub3 rfl _ _ _ rfl rfl rfl ?_ ?_ ?_
                  · go_simp
                  · go_simp
                  · go_simp
                · exact ⟨by rw [HR.out]; rfl, ((HBL.out.setCell (by show w.heap.size ≤ w.heap.size + 1; omega) _).setCell (by show w.heap.size ≤ w.heap.size + 1; omega) _).setCell (by show w.heap.size ≤ w.heap.size + 1; omega) _⟩
            · have hk' : k = ni := by have := HTL.out; omega
              have HR : Hid (rdS ns (f + 1) (p : Int) = some (.mk x.ps ts, nx)) := by
                show _ = _
                have h1 := HRD.out
                rw [hk', li.out, List.drop_length, rdJ_end] at h1
                rw [HR0.out, ← h1]
              obtain ⟨ak, ck, hkv⟩ := own_shape HSP.out.row
              rw [HKL.out] at hkv
              subst hkv
              have HDN := hid (HSP.out.done (by rw [HKL.out, hk', hLF]))
              have s0 := HSP.out.sub.cell (j := 0) rfl
              have s1 := HSP.out.sub.cell (j := 1) rfl
              have s2 := HSP.out.sub.cell (j := 2) rfl
              have HWL : Hid (w.heap.size + 1 < wr.heap.size) := HSP.out.res.lt
              clear hk' HSP HRD hLF
              go_wp2
              try simp only [Exit.inBlock, Exit.then]
              refine bodyPost_ret (v := .tuple #[.agg #[.bool lf, .slice a3 n3 c3, .slice ak k ck], .int .i64 nx, .bool true]) ?_ rfl ?_
              · refine results_sub3 rfl _ _ _ rfl rfl rfl ?_ ?_ ?_
                · go_simp
                · go_simp
                · go_simp
              · refine ⟨?_, ((HBL.out.setCell (by show w.heap.size ≤ w.heap.size + 1; omega) _).setCell (by show w.heap.size ≤ w.heap.size + 1; omega) _).setCell (by show w.heap.size ≤ w.heap.size + 1; omega) _⟩
                rw [HR.out]
                refine ⟨lf, a3, n3, c3, ak, k, ck, rfl, ?_⟩
                have o : Only (fun y => y = w.heap.size + 1) wr (((wr.setCell ⟨w.heap.size + 1, 0, none⟩ (.bool lf)).setCell ⟨w.heap.size + 1, 1, none⟩ (.slice a3 n3 c3)).setCell ⟨w.heap.size + 1, 2, none⟩ (.slice ak k ck)) := ((only_set (R := fun y => y = w.heap.size + 1) rfl _).trans (only_set (R := fun y => y = w.heap.size + 1) rfl _)).trans (only_set (R := fun y => y = w.heap.size + 1) rfl _)
                exact (HDN.out.to o (fun y hy _ e => hy.2 e)).mono (fun y hy hlt => ⟨hy.1.1, hlt⟩)
end Go.Proofs.Ytcpdedpgjaimkaa
/-
  l03Root of the specification.
-/
namespace Go.Proofs.Ytcpdedpgjaimkaa
open Go.RowKit
theorem results_sub2 {fn : Func} {p u : Tmp} (h : fn.results = #[.cell p 169, .tmp u]) (tmps : Array Value) (w : World) (g : Nat) {x y z b : Value} (hp : tmps.getD p undef = .pointer (some ⟨g, 0, none⟩)) (hb : tmps.getD u undef = b)
    (c0 : w.cell? ⟨g, 0, none⟩ = some x) (c1 : w.cell? ⟨g, 1, none⟩ = some y) (c2 : w.cell? ⟨g, 2, none⟩ = some z) : (results fn tmps).run Try.prog w = .ok (.tuple #[.agg #[x, y, z], b]) w := by
  have hp' : tmps[p]?.getD undef = .pointer (some ⟨g, 0, none⟩) := by simpa using hp
  have hb' : tmps[u]?.getD undef = b := by simpa using hb
  simp [results, h, hp', hb', asAddr, load_sub c0 c1 c2]
theorem take_no {P : Program} {md : Region.Mode} {ops : Array Oper} {Q : Exit → Act → World → Prop} {S : World → Prop} {i : Nat} {oi : Oper} {fuel : Nat} {listed : Array Bool} {a : Act} {w : World} (hi : ops[i]? = some oi)
    (hs : Region.noSelect ops = true) (hf : Region.free md ops listed i = true) (hr : (Region.ready md ops listed).contains i = true)
    (hQ : ∀ c a w, Q (.panic c) (a.put oi.dst undef) w → Q (.panic c) a w) (hw : Region.wanted oi (yielded ops a.tmps) = false) (hS : S w)
    (h : wpAnyH P md ops Q S fuel (listed.setIfInBounds i true) (a.put oi.dst undef) w) : wpAnyH P md ops Q S (fuel + 1) listed a w :=
  wpAnyH_take hi hs hf hr hQ (Or.inr ⟨hw, rfl⟩) hS h
/-- What l03Root reads: the sub, where the nodes stand in the walk's order. -/
def rootS (ns : List NB) : Option T := if ns.length = 0 then some (.mk [] []) else match rdS ns 13 0 with
  | none => none
  | some (t, n) => if n = ns.length then some t else none
/-- What comes of l03Root. -/
def RootPost (o : Option T) (w : World) (e : Ending) (w' : World) : Prop := match o with
  | none => ∃ lf ap np cp ak nk ck, e = .returned (.tuple #[.agg #[.bool lf, .slice ap np cp, .slice ak nk ck], .bool false])
  | some t => ∃ lf ap np cp ak nk ck, e = .returned (.tuple #[.agg #[.bool lf, .slice ap np cp, .slice ak nk ck], .bool true]) ∧ Sub w' (fun y => w.heap.size ≤ y ∧ y < w'.heap.size) lf (.slice ap np cp) (.slice ak nk ck) t
set_option maxHeartbeats 4000000 in
theorem specRoot_any (ns : List NB) (hlen : ns.length ≤ 1048576) (hsm : smallN ns) (S : Nat → Prop) (an : Option Addr) (nn cn : Nat) (w : World) (hN : Nr w S (.slice an nn cn) ns) :
    Calls Try.prog 109 #[.agg #[.slice an nn cn]] w fun e w' => RootPost (rootS ns) w e w' ∧ Below w.heap.size w w' := by
  have hnn := hid hN.len.1
  have hnn2 := hN.len.2.1
  have hnn3 := hN.len.2.2
  have HN := hid hN
  clear hN
  by_cases h0 : nn = 0
  · have HR : Hid (rootS ns = some (.mk [] [])) := by show _ = _; rw [rootS, if_pos]; rw [← hnn.out]; exact h0
    clear HN hnn
    subst h0
    go_enter Try.func109, Try.ntmps109
    go_wp2
    try simp only [Exit.inBlock, Exit.then]
    refine bodyPost_ret (v := .tuple #[.agg #[.bool true, .slice none 0 0, .slice none 0 0], .bool true]) ?_ rfl ?_
    · refine results_sub2 rfl _ _ _ rfl rfl ?_ ?_ ?_
      · go_simp
      · go_simp
      · go_simp
    · refine ⟨?_, below_new (below_new (Below.refl _ _))⟩
      rw [HR.out]
      exact ⟨true, none, 0, 0, none, 0, 0, rfl, .mk true _ _ [] [] (fun _ => false) (fun _ => .slice none 0 0) (fun _ => .slice none 0 0) rfl (rw_nil _ _) (rw_nil _ _) (fun i hi => by simp at hi)⟩
  · have e1 : ((nn : Int) == 0) = false := by simp; omega
    have HRS : Hid (rootS ns = match rdS ns 13 0 with
        | none => none
        | some (t, n) => if n = ns.length then some t else none) := by show _ = _; rw [rootS, if_neg]; rw [← hnn.out]; exact h0
    have HB0 : Hid (Below w.heap.size w ((w.alloc (.cells #[.slice an nn cn] 25)).alloc (.cells #[.bool false, .slice none 0 0, .slice none 0 0] 169))) := below_new (below_new (Below.refl _ _))
    have KT : Hid (Bk ((w.alloc (.cells #[.slice an nn cn] 25)).alloc (.cells #[.bool false, .slice none 0 0, .slice none 0 0] 169)) w.heap.size 25 [.slice an nn cn]) := (Bk.new w 25 [.slice an nn cn]).alloc _
    have KR : Hid (Bk ((w.alloc (.cells #[.slice an nn cn] 25)).alloc (.cells #[.bool false, .slice none 0 0, .slice none 0 0] 169)) (w.heap.size + 1) 169 [.bool false, .slice none 0 0, .slice none 0 0]) := by
      have := Bk.new (w.alloc (.cells #[.slice an nn cn] 25)) 169 [.bool false, .slice none 0 0, .slice none 0 0]
      show Bk _ _ _ _
      simpa using this
    have HZ : Hid (((w.alloc (.cells #[.slice an nn cn] 25)).alloc (.cells #[.bool false, .slice none 0 0, .slice none 0 0] 169)).heap.size = w.heap.size + 2) := by show _ = _; simp
    clear h0
    go_enter Try.func109, Try.ntmps109
    go_wp2_with fail
    refine (specRead_any ns hlen hsm 13 (Nat.le_refl _) S an nn cn 0 0 _ (HN.out.below HB0.out) (by omega)).mono ?_
    generalize (w.alloc (.cells #[.slice an nn cn] 25)).alloc (.cells #[.bool false, .slice none 0 0, .slice none 0 0] 169) = U at *
    rintro e w1 ⟨hpost, hb1⟩
    have HB1 := hid (HB0.out.trans (hb1.mono HB0.out.size))
    have KT1 := hid (KT.out.below hb1)
    have KR1 := hid (KR.out.below hb1)
    have HU := hid hb1.size
    cases hr : rdS ns 13 0 with
    | none =>
      rw [hr] at hpost HRS
      have he : e = .returned (.tuple #[.agg #[.bool false, .slice none 0 0, .slice none 0 0], .int .i64 0, .bool false]) := hpost
      subst he
      have KT2 := hid (KT1.out.alloc (.cells #[.bool false, .slice none 0 0, .slice none 0 0] 169))
      have KR2 := hid (KR1.out.alloc (.cells #[.bool false, .slice none 0 0, .slice none 0 0] 169))
      have t0 := KT2.out.cell (j := 0) rfl
      have r0 := KR2.out.cell (j := 0) rfl
      have r1 := KR2.out.cell (j := 1) rfl
      have r2 := KR2.out.cell (j := 2) rfl
      have q0 := KR2.out.free 0
      have q1 := KR2.out.free 1
      have q2 := KR2.out.free 2
      clear hpost hb1 KT KR KT1 KR1 HB0
      have d0 := (Bk.new w1 169 [.bool false, .slice none 0 0, .slice none 0 0]).cell (j := 0) rfl
      have d1 := (Bk.new w1 169 [.bool false, .slice none 0 0, .slice none 0 0]).cell (j := 1) rfl
      have d2 := (Bk.new w1 169 [.bool false, .slice none 0 0, .slice none 0 0]).cell (j := 2) rfl
      have HB2 := hid ((HB1.out.alloc HB1.out.size (.cells #[.bool false, .slice none 0 0, .slice none 0 0] 169)).drew)
      have hne1 : ¬ w1.heap.size = w.heap.size + 1 := by have := HU.out; have := HZ.out; omega
      have hne2 : ¬ w.heap.size = w.heap.size + 1 := by omega
      clear hr
      go_wp2_with fail
      generalize w1.alloc (.cells #[.bool false, .slice none 0 0, .slice none 0 0] 169) = u at *
      have T0 : Hid (KO (fun y => y = w.heap.size + 1) u u [(⟨w1.heap.size, 0, none⟩, .bool false), (⟨w1.heap.size, 1, none⟩, .slice none 0 0), (⟨w1.heap.size, 2, none⟩, .slice none 0 0), (⟨w.heap.size, 0, none⟩, .slice an nn cn)]) := ⟨fun p hp => by simp at hp; rcases hp with rfl | rfl | rfl | rfl <;> exact ⟨by assumption, by assumption⟩, Only.refl _ _⟩
      refine wp_region_noPanic ?_
      refine wp_region_held_drew (S := (fun z => z.cell? ⟨w1.heap.size, 0, none⟩ = some (.bool false) ∧ z.cell? ⟨w1.heap.size, 1, none⟩ = some (.slice none 0 0) ∧ z.cell? ⟨w1.heap.size, 2, none⟩ = some (.slice none 0 0) ∧ z.cell? ⟨w.heap.size, 0, none⟩ = some (.slice an nn cn) ∧ KO (fun y => y = w.heap.size + 1) u z [(⟨w1.heap.size, 0, none⟩, .bool false), (⟨w1.heap.size, 1, none⟩, .slice none 0 0), (⟨w1.heap.size, 2, none⟩, .slice none 0 0), (⟨w.heap.size, 0, none⟩, .slice an nn cn)])) (by kernel_rfl) ?_ (fun hHeld => ?_)
      · exact ko4 ⟨T0.out.cells, only_drew _ _ 1⟩
      simp only [List.size_toArray, List.length_cons, List.length_nil, Array.replicate_succ, Array.replicate_zero, Nat.reduceAdd, List.push_toArray, List.nil_append, List.cons_append]
      refine wpAnyH_take (i := 0) (v := .agg #[.bool false, .slice none 0 0, .slice none 0 0]) rfl (by kernel_rfl) (by kernel_rfl) (by kernel_rfl) (fun _ _ _ h => h) (Or.inl ⟨by rfl, ?_⟩) (by assumption) ?_
      · intro w hSw
        obtain ⟨g1', g2', g3', g4', _⟩ := hSw
        go_simp
      try simp only [List.getElem_toArray]
      try simp only [List.getElem_cons_succ]
      try simp only [List.getElem_cons_zero]
      try simp only [Act.put]
      try simp only [List.setIfInBounds_toArray]
      try simp only [List.set_cons_succ]
      try simp only [List.set_cons_zero]
      refine wpAnyH_take (i := 1) (v := .bool false) rfl (by kernel_rfl) (by kernel_rfl) (by kernel_rfl) (fun _ _ _ h => h) (Or.inl ⟨by rfl, ?_⟩) (by assumption) ?_
      · intro w hSw
        obtain ⟨g1', g2', g3', g4', _⟩ := hSw
        go_simp
      try simp only [List.getElem_toArray]
      try simp only [List.getElem_cons_succ]
      try simp only [List.getElem_cons_zero]
      try simp only [Act.put]
      try simp only [List.setIfInBounds_toArray]
      try simp only [List.set_cons_succ]
      try simp only [List.set_cons_zero]
      refine wpAnyH_take (i := 2) (v := .bool false) rfl (by kernel_rfl) (by kernel_rfl) (by kernel_rfl) (fun _ _ _ h => h) (Or.inl ⟨by rfl, ?_⟩) (by assumption) ?_
      · intro w hSw
        obtain ⟨g1', g2', g3', g4', _⟩ := hSw
        go_simp
      try simp only [List.getElem_toArray]
      try simp only [List.getElem_cons_succ]
      try simp only [List.getElem_cons_zero]
      try simp only [Act.put]
      try simp only [List.setIfInBounds_toArray]
      try simp only [List.set_cons_succ]
      try simp only [List.set_cons_zero]
      refine take_no (i := 3) rfl (by kernel_rfl) (by kernel_rfl) (by kernel_rfl) (fun _ _ _ h => h) (by rfl) (by assumption) ?_
      try simp only [List.getElem_toArray]
      try simp only [List.getElem_cons_succ]
      try simp only [List.getElem_cons_zero]
      try simp only [Act.put]
      try simp only [List.setIfInBounds_toArray]
      try simp only [List.set_cons_succ]
      try simp only [List.set_cons_zero]
      refine take_no (i := 4) rfl (by kernel_rfl) (by kernel_rfl) (by kernel_rfl) (fun _ _ _ h => h) (by rfl) (by assumption) ?_
      try simp only [List.getElem_toArray]
      try simp only [List.getElem_cons_succ]
      try simp only [List.getElem_cons_zero]
      try simp only [Act.put]
      try simp only [List.setIfInBounds_toArray]
      try simp only [List.set_cons_succ]
      try simp only [List.set_cons_zero]
      refine take_no (i := 5) rfl (by kernel_rfl) (by kernel_rfl) (by kernel_rfl) (fun _ _ _ h => h) (by rfl) (by assumption) ?_
      try simp only [List.getElem_toArray]
      try simp only [List.getElem_cons_succ]
      try simp only [List.getElem_cons_zero]
      try simp only [Act.put]
      try simp only [List.setIfInBounds_toArray]
      try simp only [List.set_cons_succ]
      try simp only [List.set_cons_zero]
      refine take_no (i := 6) rfl (by kernel_rfl) (by kernel_rfl) (by kernel_rfl) (fun _ _ _ h => h) (by rfl) (by assumption) ?_
      try simp only [List.getElem_toArray]
      try simp only [List.getElem_cons_succ]
      try simp only [List.getElem_cons_zero]
      try simp only [Act.put]
      try simp only [List.setIfInBounds_toArray]
      try simp only [List.set_cons_succ]
      try simp only [List.set_cons_zero]
      refine take_no (i := 7) rfl (by kernel_rfl) (by kernel_rfl) (by kernel_rfl) (fun _ _ _ h => h) (by rfl) (by assumption) ?_
      try simp only [List.getElem_toArray]
      try simp only [List.getElem_cons_succ]
      try simp only [List.getElem_cons_zero]
      try simp only [Act.put]
      try simp only [List.setIfInBounds_toArray]
      try simp only [List.set_cons_succ]
      try simp only [List.set_cons_zero]
      refine wpAnyH_take (i := 8) (v := .bool false) rfl (by kernel_rfl) (by kernel_rfl) (by kernel_rfl) (fun _ _ _ h => h) (Or.inl ⟨by rfl, ?_⟩) (by assumption) ?_
      · intro w hSw
        obtain ⟨g1', g2', g3', g4', _⟩ := hSw
        go_simp
      try simp only [List.getElem_toArray]
      try simp only [List.getElem_cons_succ]
      try simp only [List.getElem_cons_zero]
      try simp only [Act.put]
      try simp only [List.setIfInBounds_toArray]
      try simp only [List.set_cons_succ]
      try simp only [List.set_cons_zero]
      refine wpAnyH_ready (rs := [9]) (by kernel_rfl) (by simp) ?_
      refine AllReadyH.cons rfl (fun K1 hK => ?_) AllReadyH.nil
      go_simp
      try go_wp2_with fail
      refine hK.out _ _ ?_ (fun hHeld => ?_)
      · first | assumption | exact ko4 ⟨T0.out.cells, only_drew _ _ 1⟩ | exact ko4o ((only_set (R := fun y => y = w.heap.size + 1) rfl _).trans ((only_set (R := fun y => y = w.heap.size + 1) rfl _).trans (only_set (R := fun y => y = w.heap.size + 1) rfl _))) (by assumption)
      clear hK K1
      try simp only [List.getElem_toArray]
      try simp only [List.getElem_cons_succ]
      try simp only [List.getElem_cons_zero]
      try simp only [Act.put]
      try simp only [List.setIfInBounds_toArray]
      try simp only [List.set_cons_succ]
      try simp only [List.set_cons_zero]
      refine wpAnyH_ready (rs := [10]) (by kernel_rfl) (by simp) ?_
      refine AllReadyH.cons rfl (fun K1 hK => ?_) AllReadyH.nil
      go_simp
      try go_wp2_with fail
      refine hK.out _ _ ?_ (fun hHeld => ?_)
      · first | assumption | exact ko4 ⟨T0.out.cells, only_drew _ _ 1⟩ | exact ko4o ((only_set (R := fun y => y = w.heap.size + 1) rfl _).trans ((only_set (R := fun y => y = w.heap.size + 1) rfl _).trans (only_set (R := fun y => y = w.heap.size + 1) rfl _))) (by assumption)
      clear hK K1
      try simp only [List.getElem_toArray]
      try simp only [List.getElem_cons_succ]
      try simp only [List.getElem_cons_zero]
      try simp only [Act.put]
      try simp only [List.setIfInBounds_toArray]
      try simp only [List.set_cons_succ]
      try simp only [List.set_cons_zero]
      refine wpAnyH_done (by kernel_rfl) ?_ _
      refine NoPanic.normal ?_
      go_wp2
      try simp only [Exit.inBlock, Exit.then]
      refine bodyPost_ret (v := .tuple #[.agg #[.bool false, .slice none 0 0, .slice none 0 0], .bool false]) ?_ rfl ?_
      · refine results_sub2 rfl _ _ _ rfl rfl ?_ ?_ ?_
        · go_simp
        · go_simp
        · go_simp
      · refine ⟨?_, (((HB2.out.setCell (by show w.heap.size ≤ w.heap.size + 1; omega) _).setCell (by show w.heap.size ≤ w.heap.size + 1; omega) _).setCell (by show w.heap.size ≤ w.heap.size + 1; omega) _)⟩
        rw [HRS.out]
        exact ⟨_, _, _, _, _, _, _, rfl⟩
    | some tn =>
      obtain ⟨t, n⟩ := tn
      rw [hr] at hpost HRS
      obtain ⟨lf, ap, np, cp, ak, nk, ck, he, hsub⟩ := hpost
      subst he
      have KT2 := hid (KT1.out.alloc (.cells #[.bool lf, .slice ap np cp, .slice ak nk ck] 169))
      have KR2 := hid (KR1.out.alloc (.cells #[.bool lf, .slice ap np cp, .slice ak nk ck] 169))
      have t0 := KT2.out.cell (j := 0) rfl
      have r0 := KR2.out.cell (j := 0) rfl
      have r1 := KR2.out.cell (j := 1) rfl
      have r2 := KR2.out.cell (j := 2) rfl
      have q0 := KR2.out.free 0
      have q1 := KR2.out.free 1
      have q2 := KR2.out.free 2
      have d0 := (Bk.new w1 169 [.bool lf, .slice ap np cp, .slice ak nk ck]).cell (j := 0) rfl
      have d1 := (Bk.new w1 169 [.bool lf, .slice ap np cp, .slice ak nk ck]).cell (j := 1) rfl
      have d2 := (Bk.new w1 169 [.bool lf, .slice ap np cp, .slice ak nk ck]).cell (j := 2) rfl
      have HB2 := hid ((HB1.out.alloc HB1.out.size (.cells #[.bool lf, .slice ap np cp, .slice ak nk ck] 169)).drew)
      have HSB : Hid (Sub (w1.alloc (.cells #[.bool lf, .slice ap np cp, .slice ak nk ck] 169)).drew (fun y => w.heap.size + 2 ≤ y) lf (.slice ap np cp) (.slice ak nk ck) t) := ((hsub.kept (below_new (Below.refl _ _))).kept (below_drew _)).mono (fun y hy _ => by have := HZ.out; have := hy.1; omega)
      have hne1 : ¬ w1.heap.size = w.heap.size + 1 := by have := HU.out; have := HZ.out; omega
      have hne2 : ¬ w.heap.size = w.heap.size + 1 := by omega
      have HFIN : Hid (∀ b : Bool, b = decide (n = ns.length) → ∀ e w', e = .returned (.tuple #[.agg #[.bool lf, .slice ap np cp, .slice ak nk ck], .bool b]) → Sub w' (fun y => w.heap.size ≤ y ∧ y < w'.heap.size) lf (.slice ap np cp) (.slice ak nk ck) t → RootPost (rootS ns) w e w') := by
        rintro b rfl e w' rfl hs
        rw [HRS.out]
        simp only
        by_cases hn : n = ns.length
        · rw [if_pos hn, decide_eq_true hn]; exact ⟨lf, ap, np, cp, ak, nk, ck, rfl, hs⟩
        · rw [if_neg hn, decide_eq_false hn]; exact ⟨lf, ap, np, cp, ak, nk, ck, rfl⟩
      clear hb1 hr KT KR KT1 KR1 HB0 hsub HRS
      go_wp2_with fail
      generalize w1.alloc (.cells #[.bool lf, .slice ap np cp, .slice ak nk ck] 169) = u at *
      have T0 : Hid (KO (fun y => y = w.heap.size + 1) u u [(⟨w1.heap.size, 0, none⟩, .bool lf), (⟨w1.heap.size, 1, none⟩, .slice ap np cp), (⟨w1.heap.size, 2, none⟩, .slice ak nk ck), (⟨w.heap.size, 0, none⟩, .slice an nn cn)]) := ⟨fun p hp => by simp at hp; rcases hp with rfl | rfl | rfl | rfl <;> exact ⟨by assumption, by assumption⟩, Only.refl _ _⟩
      go_region_held3 (fun z => z.cell? ⟨w1.heap.size, 0, none⟩ = some (.bool lf) ∧ z.cell? ⟨w1.heap.size, 1, none⟩ = some (.slice ap np cp) ∧ z.cell? ⟨w1.heap.size, 2, none⟩ = some (.slice ak nk ck) ∧ z.cell? ⟨w.heap.size, 0, none⟩ = some (.slice an nn cn) ∧ KO (fun y => y = w.heap.size + 1) u z [(⟨w1.heap.size, 0, none⟩, .bool lf), (⟨w1.heap.size, 1, none⟩, .slice ap np cp), (⟨w1.heap.size, 2, none⟩, .slice ak nk ck), (⟨w.heap.size, 0, none⟩, .slice an nn cn)]) (first | assumption | exact ko4 ⟨T0.out.cells, only_drew _ _ 1⟩ | exact ko4o ((only_set (R := fun y => y = w.heap.size + 1) rfl _).trans ((only_set (R := fun y => y = w.heap.size + 1) rfl _).trans (only_set (R := fun y => y = w.heap.size + 1) rfl _))) (by assumption)) (first | fail)
      all_goals
        have hbeq : ((n : Int) == (nn : Int)) = decide (n = ns.length) := by
          rw [← hnn.out]
          by_cases h : n = nn
          · rw [decide_eq_true h, h]; simp
          · rw [decide_eq_false h]; simp; omega
        go_wp2
        try simp only [Exit.inBlock, Exit.then]
        refine bodyPost_ret (v := .tuple #[.agg #[.bool lf, .slice ap np cp, .slice ak nk ck], .bool (decide (n = ns.length))]) ?_ rfl ?_
        · refine results_sub2 rfl _ _ _ rfl ?_ ?_ ?_ ?_
          · show Value.bool ((n : Int) == (nn : Int)) = _
            rw [hbeq]
          · go_simp
          · go_simp
          · go_simp
        · refine ⟨HFIN.out _ rfl _ _ rfl ?_, (((HB2.out.setCell (by show w.heap.size ≤ w.heap.size + 1; omega) _).setCell (by show w.heap.size ≤ w.heap.size + 1; omega) _).setCell (by show w.heap.size ≤ w.heap.size + 1; omega) _)⟩
          have o : Only (fun y => y = w.heap.size + 1) u.drew (((u.drew.setCell ⟨w.heap.size + 1, 0, none⟩ (.bool lf)).setCell ⟨w.heap.size + 1, 1, none⟩ (.slice ap np cp)).setCell ⟨w.heap.size + 1, 2, none⟩ (.slice ak nk ck)) := ((only_set (R := fun y => y = w.heap.size + 1) rfl _).trans (only_set (R := fun y => y = w.heap.size + 1) rfl _)).trans (only_set (R := fun y => y = w.heap.size + 1) rfl _)
          exact (HSB.out.to o (fun y hy _ e => by omega)).mono (fun y hy hlt => ⟨by omega, hlt⟩)
end Go.Proofs.Ytcpdedpgjaimkaa
