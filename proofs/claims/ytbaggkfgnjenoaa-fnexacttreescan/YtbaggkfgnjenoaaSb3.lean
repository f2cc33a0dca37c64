/-
  l03Read of the specification: what is kept while it reads.
-/
import Derived.Test.YtbaggkfgnjenoaaSb2
import Derived.Test.YtbaggkfgnjenoaaRd2
import Derived.Deep.RegionLaw
namespace Go.Proofs.Ytbaggkfgnjenoaa
open Go.RowKit
theorem load_sub {w : World} {g : Nat} {x y z : Value} (c0 : w.cell? ⟨g, 0, none⟩ = some x) (c1 : w.cell? ⟨g, 1, none⟩ = some y) (c2 : w.cell? ⟨g, 2, none⟩ = some z) :
    (loadVar 146 ⟨g, 0, none⟩).run Try.prog w = .ok (.agg #[x, y, z]) w := by go_simp
theorem results_sub3 {fn : Func} {p u v : Tmp} (h : fn.results = #[.cell p 146, .tmp u, .tmp v]) (tmps : Array Value) (w : World) (g : Nat) {x y z b d : Value} (hp : tmps.getD p undef = .pointer (some ⟨g, 0, none⟩)) (hb : tmps.getD u undef = b) (hd : tmps.getD v undef = d)
    (c0 : w.cell? ⟨g, 0, none⟩ = some x) (c1 : w.cell? ⟨g, 1, none⟩ = some y) (c2 : w.cell? ⟨g, 2, none⟩ = some z) : (results fn tmps).run Try.prog w = .ok (.tuple #[.agg #[x, y, z], b, d]) w := by
  have hp' : tmps[p]?.getD undef = .pointer (some ⟨g, 0, none⟩) := by simpa using hp
  have hb' : tmps[u]?.getD undef = b := by simpa using hb
  have hd' : tmps[v]?.getD undef = d := by simpa using hd
  simp [results, h, hp', hb', hd', asAddr, load_sub c0 c1 c2]
/-- What comes of the specification's reading. -/
def SubPost (o : Option (T × Nat)) (w : World) (e : Ending) (w' : World) : Prop := match o with
  | none => e = .returned (.tuple #[.agg #[.bool false, .slice none 0 0, .slice none 0 0], .int .i64 0, .bool false])
  | some (t, n) => ∃ lf ap np cp ak nk ck, e = .returned (.tuple #[.agg #[.bool lf, .slice ap np cp, .slice ak nk ck], .int .i64 (n : Nat), .bool true]) ∧ Sub w' (fun y => w.heap.size ≤ y ∧ y < w'.heap.size) lf (.slice ap np cp) (.slice ak nk ck) t
theorem mkV_snoc (L : Nat → Bool) (P K : Nat → Value) (n : Nat) (l : Bool) (p k : Value) : mkV L P K n ++ [(.bool l, p, k)] = mkV (fun i => if i = n then l else L i) (fun i => if i = n then p else P i) (fun i => if i = n then k else K i) (n + 1) := by
  simp only [mkV, List.range_succ, List.map_append, List.map_cons, List.map_nil, if_true]
  congr 1
  apply List.map_congr_left
  intro i hi
  have : i ≠ n := by have := List.mem_range.1 hi; omega
  simp [this]
structure SpI (w wr : World) (sb bs : Nat) (lf : Bool) (nv pv : Value) (ps : List PB) (ts : List T) (kv : Value) (L : Nat → Bool) (P K : Nat → Value) : Prop where
  lo : w.heap.size + 3 ≤ sb ∧ sb < bs
  hi : bs ≤ wr.heap.size
  tre : Bk wr w.heap.size 63 [nv]
  res : Bk wr (w.heap.size + 1) 146 [.bool false, .slice none 0 0, .slice none 0 0]
  sub : Bk wr sb 146 [.bool lf, pv, kv]
  par : Pr wr (fun y => w.heap.size + 3 ≤ y ∧ y < bs ∧ y ≠ sb) pv ps
  row : wr.ownsRow bs 146 3 kv ts.length (ncs (mkV L P K ts.length))
  kid : ∀ i, i < ts.length → Sub wr (fun y => bs ≤ y ∧ y < wr.heap.size ∧ kv.ownBlock ≠ some y) (L i) (P i) (K i) (tAt ts i)
  bel : Below w.heap.size w wr
theorem SpI.keep {w wr w1 : World} {sb bs : Nat} {lf : Bool} {nv pv : Value} {ps : List PB} {ts : List T} {kv : Value} {L : Nat → Bool} {P K : Nat → Value} (h : SpI w wr sb bs lf nv pv ps ts kv L P K) (hb : Below wr.heap.size wr w1) : SpI w w1 sb bs lf nv pv ps ts kv L P K :=
  ⟨h.lo, Nat.le_trans h.hi hb.size, h.tre.below hb, h.res.below hb, h.sub.below hb, h.par.below hb, own_kept h.row (only_of_below hb (fun _ => False)) (fun _ _ h => h), fun i hi => ((h.kid i hi).kept hb).mono (fun _ hx _ => ⟨hx.1, Nat.lt_of_lt_of_le hx.2.1 hb.size, hx.2.2⟩), h.bel.trans (hb.mono h.bel.size)⟩
theorem SpI.push {w u w2 : World} {sb bs : Nat} {lf : Bool} {nv pv : Value} {ps : List PB} {ts : List T} {kv v' : Value} {L : Nat → Bool} {P K : Nat → Value} (h : SpI w u sb bs lf nv pv ps ts kv L P K)
    {l : Bool} {p k : Value} {t : T} (hl : Sub u (fun y => bs ≤ y ∧ y < u.heap.size ∧ kv.ownBlock ≠ some y) l p k t)
    (ho : w2.ownsRow bs 146 3 v' (ts.length + 1) (ncs (mkV L P K ts.length) ++ [.bool l, p, k])) (hg : u.grownBy w2 kv.ownBlock) (ha : v'.ownBlock = kv.ownBlock ∨ v'.ownBlock = some u.heap.size) :
    SpI w (w2.setCell ⟨sb, 2, none⟩ v') sb bs lf nv pv ps (ts ++ [t]) v' (fun i => if i = ts.length then l else L i) (fun i => if i = ts.length then p else P i) (fun i => if i = ts.length then k else K i) := by
  have hlo := h.lo
  have hkv := fun x e => (World.ownsRow.lt h.row x e).1
  have hsz : u.heap.size ≤ w2.heap.size := hg.size
  have hsb := h.sub.lt
  have hav : ∀ x, v'.ownBlock = some x → bs ≤ x := fun x e => (World.ownsRow.lt ho x e).1
  have o1 : Only (fun b => some b = kv.ownBlock) u w2 := only_of_grown hg (fun k e => e.symm)
  have o2 : Only (fun b => b = sb) w2 (w2.setCell ⟨sb, 2, none⟩ v') := only_set (R := fun b => b = sb) rfl _
  have o3 : Only (fun b => some b = kv.ownBlock ∨ b = sb) u (w2.setCell ⟨sb, 2, none⟩ v') := (o1.mono (fun _ _ e => .inl e)).then o2 (fun _ _ e => .inr e)
  have hz : (w2.setCell ⟨sb, 2, none⟩ v').heap.size = w2.heap.size := by simp [World.setCell]
  have hR : ∀ y, y < bs → y ≠ sb → ¬ (some y = kv.ownBlock ∨ y = sb) := by
    rintro y hy hne (e | e)
    · have := hkv y e.symm; omega
    · exact hne e
  have fin : ∀ {l : Bool} {p k : Value} {t : T}, Sub u (fun y => bs ≤ y ∧ y < u.heap.size ∧ kv.ownBlock ≠ some y) l p k t → Sub (w2.setCell ⟨sb, 2, none⟩ v') (fun y => bs ≤ y ∧ y < (w2.setCell ⟨sb, 2, none⟩ v').heap.size ∧ v'.ownBlock ≠ some y) l p k t := by
    intro l p k t hs
    refine (hs.to o3 (fun x hx _ => ?_)).mono (fun x hx _ => ⟨hx.1, by rw [hz]; omega, ?_⟩)
    · rintro (e | e)
      · exact hx.2.2 e.symm
      · have := hx.1; omega
    · rcases ha with ha | ha
      · rw [ha]; exact hx.2.2
      · rw [ha]; intro e; cases e; omega
  have hhi := h.hi
  refine ⟨h.lo, by rw [hz]; omega, h.tre.to o3 (hR _ (by omega) (by omega)), h.res.to o3 (hR _ (by omega) (by omega)), ?_, h.par.to o3 (fun y hy _ => hR y hy.2.1 hy.2.2), ?_, ?_, ?_⟩
  · have k1 := h.sub.to o1 (fun e => by have := hkv sb e.symm; omega)
    exact k1.set 2 v'
  · rw [List.length_append]
    have := own_kept ho o2 (fun x e => by have := hav x e; omega)
    rw [show [Value.bool l, p, k] = ncs [(.bool l, p, k)] from rfl, ← ncs_append, mkV_snoc] at this
    exact this
  · intro i hi
    rw [tAt_snoc _ _ _ hi]
    by_cases e : i = ts.length
    · subst e
      simp only [if_true]
      exact fin hl
    · simp only [e, if_false]
      simp at hi
      exact fin (h.kid i (by omega))
  · exact (h.bel.trans (o3.below (by have := h.bel.size; omega) (fun y hy => hR y (by omega) (by omega))))
theorem SpI.done {w wr : World} {sb bs : Nat} {lf : Bool} {nv pv : Value} {ps : List PB} {ts : List T} {kv : Value} {L : Nat → Bool} {P K : Nat → Value} (h : SpI w wr sb bs lf nv pv ps ts kv L P K) (hlf : lf = decide (ts.length = 0)) :
    Sub wr (fun y => (w.heap.size ≤ y ∧ y < wr.heap.size) ∧ y ≠ w.heap.size + 1) lf pv kv (.mk ps ts) := by
  have hlo := h.lo
  have hsb := h.sub.lt
  refine .mk lf pv kv ps ts L P K hlf (Rw.mono h.par (fun y hy hy2 => ⟨⟨by omega, hy2⟩, by omega⟩)) (rw_own h.row (fun y _ h1 h2 => ⟨⟨by omega, h2⟩, by omega⟩)) (fun i hi => (h.kid i hi).mono (fun y hy _ => ⟨⟨by omega, hy.2.1⟩, by omega⟩))
theorem ow_at {W : World} {g base : Nat} (hg : W.heap[g]? = some (.cells #[] 69 (0, 0))) (hb : base ≤ g) : Ow W base (.slice (some ⟨g, 0, none⟩) 0 0) [] :=
  ⟨rfl, .inr ⟨g, 0, #[], rfl, hb, hg, Nat.le_refl _, by decide, rfl, rfl⟩⟩
theorem kc2g {u v v' : World} {a0 a1 : Addr} {x0 x1 : Value} {row : Option Nat} (hg : v.grownBy v' row) (hr : ∀ k, row = some k → u.heap.size ≤ k) (h : v.cell? a0 = some x0 ∧ v.cell? a1 = some x1 ∧ KC u v [(a0, x0), (a1, x1)]) : v'.cell? a0 = some x0 ∧ v'.cell? a1 = some x1 ∧ KC u v' [(a0, x0), (a1, x1)] :=
  kc2 ⟨h.2.2.cells, h.2.2.bel.grown hg h.2.2.bel.size hr⟩
theorem kc2w {u v : World} {o o' : Obj} {a0 a1 : Addr} {x0 x1 : Value} (hs : u.heap.size ≤ v.heap.size) (h : (v.alloc o).cell? a0 = some x0 ∧ (v.alloc o).cell? a1 = some x1 ∧ KC u (v.alloc o) [(a0, x0), (a1, x1)]) : (v.alloc o').cell? a0 = some x0 ∧ (v.alloc o').cell? a1 = some x1 ∧ KC u (v.alloc o') [(a0, x0), (a1, x1)] := by
  obtain ⟨_, _, h1, h2⟩ := h
  refine kc2 ⟨h1, h2.os, h2.tape, h2.output, by simp; omega, fun k hk => ?_⟩
  rw [Below.heap_alloc _ _ _ (by omega), ← h2.block k hk, Below.heap_alloc _ _ _ (by omega)]
theorem kc2s {u v : World} {g i j k : Nat} {x y z : Value} {a0 a1 : Addr} {x0 x1 : Value} (hs : u.heap.size ≤ g) (h : v.cell? a0 = some x0 ∧ v.cell? a1 = some x1 ∧ KC u v [(a0, x0), (a1, x1)]) :
    (((v.setCell ⟨g, i, none⟩ x).setCell ⟨g, j, none⟩ y).setCell ⟨g, k, none⟩ z).cell? a0 = some x0 ∧ (((v.setCell ⟨g, i, none⟩ x).setCell ⟨g, j, none⟩ y).setCell ⟨g, k, none⟩ z).cell? a1 = some x1 ∧ KC u (((v.setCell ⟨g, i, none⟩ x).setCell ⟨g, j, none⟩ y).setCell ⟨g, k, none⟩ z) [(a0, x0), (a1, x1)] :=
  kc2 ⟨h.2.2.cells, ((h.2.2.bel.setCell hs _).setCell hs _).setCell hs _⟩
/-- append onto a new row without elements, as one step of a region that draws. -/
theorem step_clone {w : World} {ops : Array Oper} {o : Oper} {a : Act} {K : Act → World → Prop} {Q : Exit → Act → World → Prop} {E : Prop} (hgd : o.guard = none) (s x : Operand)
    (ho : o.op = .call { callee := .builtin .append, args := #[s, x], argTypes := #[66, 66] }) (base g : Nat) (hs : a.eval s = .slice (some ⟨g, 0, none⟩) 0 0) (hown : w.heap[g]? = some (.cells #[] 69 (0, 0))) (hbg : base ≤ g)
    (S : Nat → Prop) (src : Value) (m : List PB) (hx : a.eval x = src) (hsrc : Pr w S src m) (hb : m.length ≤ 2097154)
    (h : ∀ a' n' c' w', Ow w' base (.slice a' n' c') m → w.grownBy w' (some g) → ((Value.slice a' n' c').ownBlock = some g ∨ (Value.slice a' n' c').ownBlock = some w.heap.size) → (∀ b o, b < w.heap.size → b ≠ g → w'.cell? ⟨b, o, none⟩ = w.cell? ⟨b, o, none⟩) → (∀ b o, b < w.heap.size → b ≠ g → w'.frozen? ⟨b, o, none⟩ = w.frozen? ⟨b, o, none⟩) → K (a.put o.dst (.slice a' n' c')) w') :
    if Region.wanted o (yielded ops a.tmps) = true then Oper.wp Try.prog o a w K Q else E := by
  have hw : Region.wanted o (yielded ops a.tmps) = true := by simp [Region.wanted, hgd]
  rw [if_pos hw]
  have hO := ow_at hown hbg
  have hlt : g < w.heap.size := (Array.getElem?_eq_some_iff.1 hown).1
  obtain ⟨i, hi, hz, hsz, hby⟩ := info_of infoPairI
  obtain ⟨v', w', hr, h2, h3, h5⟩ := run_append_row_at (P := Try.prog) (w := w) base 66 o.type 69 i _ 2 32 Try.underlying66 hi hz hsz hby rfl (by decide) _ 0 [] hO S src m.length (pcs m) hsrc (pcs_length m) (pcs_one m) (by unfold maxLen; omega) (by omega) (by omega)
  have h4 : Ow w' base v' m := by
    unfold Ow
    simpa using h2
  obtain ⟨a', n', c', rfl, _⟩ := h4.shape'
  unfold Oper.wp execOp
  simp only [ho, resolve, invoke, builtin, Sem.run_bind, Sem.run_pure, Result.andThen_ok, List.map_toArray, List.map_cons, List.map_nil, hs, hx, hr]
  exact h a' n' c' w' h4 h3 h5 (fun b o hb hne => World.cell?_of_block (w := w) (h3.block b hb (fun e => hne (by cases e; rfl)))) (fun b o hb hne => World.frozen?_of_block (w := w) (h3.block b hb (fun e => hne (by cases e; rfl))))
/-- The new sub, laid ahead of its pairs' row. -/
theorem meet_set {U W w2 : World} {g sb : Nat} {lf : Bool} {a2 : Option Addr} {n2 c2 : Nat} {ps : List PB} (hb : Below U.heap.size U W) (hW : U.heap.size ≤ W.heap.size) (hO : Ow w2 U.heap.size (.slice a2 n2 c2) ps) (hg : W.grownBy w2 (some g)) (hat : (Value.slice a2 n2 c2).ownBlock = some g ∨ (Value.slice a2 n2 c2).ownBlock = some W.heap.size)
    (hs : W.heap[sb]? = some (.cells #[.bool false, .slice none 0 0, .slice none 0 0] 146 (0, 0))) (hne : sb ≠ g) (h1 : U.heap.size ≤ sb) (h2 : U.heap.size ≤ g) :
    Below U.heap.size U (((w2.setCell ⟨sb, 0, none⟩ (.bool lf)).setCell ⟨sb, 1, none⟩ (.slice a2 n2 c2)).setCell ⟨sb, 2, none⟩ (.slice none 0 0)) ∧ U.heap.size ≤ sb ∧ sb < w2.heap.size ∧ w2.heap.size ≤ (((w2.setCell ⟨sb, 0, none⟩ (.bool lf)).setCell ⟨sb, 1, none⟩ (.slice a2 n2 c2)).setCell ⟨sb, 2, none⟩ (.slice none 0 0)).heap.size ∧
      Bk (((w2.setCell ⟨sb, 0, none⟩ (.bool lf)).setCell ⟨sb, 1, none⟩ (.slice a2 n2 c2)).setCell ⟨sb, 2, none⟩ (.slice none 0 0)) sb 146 [.bool lf, .slice a2 n2 c2, .slice none 0 0] ∧
      Pr (((w2.setCell ⟨sb, 0, none⟩ (.bool lf)).setCell ⟨sb, 1, none⟩ (.slice a2 n2 c2)).setCell ⟨sb, 2, none⟩ (.slice none 0 0)) (fun y => U.heap.size ≤ y ∧ y < w2.heap.size ∧ y ≠ sb) (.slice a2 n2 c2) ps := by
  have hlt : sb < W.heap.size := (Array.getElem?_eq_some_iff.1 hs).1
  have hB : Bk w2 sb 146 [.bool false, .slice none 0 0, .slice none 0 0] := (hg.block sb hlt (fun e => hne (by cases e; rfl))).trans hs
  have hbel : Below U.heap.size U w2 := hb.grown hg hW (fun k e => by cases e; exact h2)
  have hpn : ∀ k, (Value.slice a2 n2 c2).ownBlock = some k → k ≠ sb := by
    rintro k hk rfl
    rcases hat with h | h
    · rw [hk] at h; cases h; exact hne rfl
    · rw [hk] at h; cases h; omega
  have o : Only (fun y => y = sb) w2 (((w2.setCell ⟨sb, 0, none⟩ (.bool lf)).setCell ⟨sb, 1, none⟩ (.slice a2 n2 c2)).setCell ⟨sb, 2, none⟩ (.slice none 0 0)) := ((only_set (R := fun y => y = sb) rfl _).trans (only_set (R := fun y => y = sb) rfl _)).trans (only_set (R := fun y => y = sb) rfl _)
  refine ⟨((hbel.setCell h1 _).setCell h1 _).setCell h1 _, h1, hB.lt, by simp [World.setCell], ((hB.set _ _).set _ _).set _ _, ?_⟩
  exact Rw.to (hO.pr (fun k hk h3 h4 => ⟨h3, h4, hpn k hk⟩)) o (fun y hy _ e => hy.2.2 e)
/-- The new sub, laid behind its pairs' row. -/
theorem meet_new {U W w2 : World} {g : Nat} {lf : Bool} {a2 : Option Addr} {n2 c2 : Nat} {ps : List PB} (hb : Below U.heap.size U W) (hW : U.heap.size ≤ W.heap.size) (hO : Ow w2 U.heap.size (.slice a2 n2 c2) ps) (hg : W.grownBy w2 (some g)) (h2 : U.heap.size ≤ g) :
    Below U.heap.size U (w2.alloc (.cells #[.bool lf, .slice a2 n2 c2, .slice none 0 0] 146)) ∧ U.heap.size ≤ w2.heap.size ∧ w2.heap.size < w2.heap.size + 1 ∧ w2.heap.size + 1 ≤ (w2.alloc (.cells #[.bool lf, .slice a2 n2 c2, .slice none 0 0] 146)).heap.size ∧
      Bk (w2.alloc (.cells #[.bool lf, .slice a2 n2 c2, .slice none 0 0] 146)) w2.heap.size 146 [.bool lf, .slice a2 n2 c2, .slice none 0 0] ∧
      Pr (w2.alloc (.cells #[.bool lf, .slice a2 n2 c2, .slice none 0 0] 146)) (fun y => U.heap.size ≤ y ∧ y < w2.heap.size + 1 ∧ y ≠ w2.heap.size) (.slice a2 n2 c2) ps := by
  have hbel : Below U.heap.size U w2 := hb.grown hg hW (fun k e => by cases e; exact h2)
  refine ⟨hbel.alloc hbel.size _, hbel.size, by omega, by simp, Bk.new w2 146 [.bool lf, .slice a2 n2 c2, .slice none 0 0], ?_⟩
  exact Rw.below (hO.pr (fun k _ h3 h4 => ⟨h3, by omega, by omega⟩)) (below_new (Below.refl _ _))
/-- append as one step of a region that draws. -/
theorem step_append_pairs {w : World} {ops : Array Oper} {o : Oper} {a : Act} {K : Act → World → Prop} {Q : Exit → Act → World → Prop} {E : Prop} (hgd : o.guard = none) (s x : Operand)
    (ho : o.op = .call { callee := .builtin .append, args := #[s, x], argTypes := #[66, 66] }) (base : Nat) (v : Value) (l : List PB) (hs : a.eval s = v) (hown : Ow w base v l)
    (S : Nat → Prop) (src : Value) (m : List PB) (hx : a.eval x = src) (hsrc : Pr w S src m) (hb : l.length + m.length ≤ 2097154) (hbase : base ≤ w.heap.size)
    (h : ∀ v' w', Ow w' base v' (l ++ m) → w.grownBy w' v.ownBlock → K (a.put o.dst v') w') :
    if Region.wanted o (yielded ops a.tmps) = true then Oper.wp Try.prog o a w K Q else E := by
  have hw : Region.wanted o (yielded ops a.tmps) = true := by simp [Region.wanted, hgd]
  rw [if_pos hw]
  obtain ⟨i, hi, hz, hsz, hby⟩ := info_of infoPairI
  obtain ⟨v', w', hr, h2, h3⟩ := run_append_row (P := Try.prog) (w := w) base 66 o.type 69 i _ 2 32 Try.underlying66 hi hz hsz hby rfl (by decide) v l.length (pcs l) hown S src m.length (pcs m) hsrc (pcs_length m) (pcs_one m) (by unfold maxLen; omega) (by omega) hbase
  unfold Oper.wp execOp
  simp only [ho, resolve, invoke, builtin, Sem.run_bind, Sem.run_pure, Result.andThen_ok, List.map_toArray, List.map_cons, List.map_nil, hs, hx, hr]
  refine h v' w' ?_ h3
  unfold Ow
  rw [List.length_append, pcs_append]
  exact h2
theorem wpList_append_sub {w : World} {ops : Array Oper} {rest : List Oper} {o : Oper} {a : Act} {Q : Exit → Act → World → Prop} (hgd : o.guard = none) (s x : Operand)
    (ho : o.op = .call { callee := .builtin .append, args := #[s, x], argTypes := #[144, 144] }) (base : Nat) (v : Value) (n : Nat) (V : List V3) (hs : a.eval s = v) (hown : w.ownsRow base 146 3 v n (ncs V))
    (g : Nat) (l : Bool) (ap : Option Addr) (np cp : Nat) (ak : Option Addr) (nk ck : Nat) (hx : a.eval x = .slice (some ⟨g, 0, none⟩) 1 1) (hB : Bk w g 146 [.bool l, .slice ap np cp, .slice ak nk ck]) (hb : n ≤ 1048576) (hbase : base ≤ w.heap.size)
    (h : ∀ v' w', w'.ownsRow base 146 3 v' (n + 1) (ncs V ++ [.bool l, .slice ap np cp, .slice ak nk ck]) → w.grownBy w' v.ownBlock → (v'.ownBlock = v.ownBlock ∨ v'.ownBlock = some w.heap.size) → wpList Try.prog ops Q rest (a.put o.dst v') w') : wpList Try.prog ops Q (o :: rest) a w := by
  obtain ⟨i, hi, hz, hsz, hby⟩ := info_of infoSub
  refine wpList_append_row_at hgd s x 144 ho base 146 i _ 3 56 Try.underlying144 hi hz hsz hby rfl (by decide) v n (ncs V) hs hown (fun _ => True) _ 1 [.bool l, .slice ap np cp, .slice ak nk ck] hx (hB.rw (Nat.le_refl _) (by omega) (fun h => by omega) _ trivial) rfl
    (by intro u hu; simp at hu; rcases hu with rfl | rfl | rfl <;> rfl) (by unfold maxLen; omega) (by omega) hbase h
theorem rdSL_cons (rd : Int → Option (T × Nat)) (k : Int) (kids : List Int) (nx : Nat) : rdSL rd (k :: kids) nx = if k ≠ (nx : Int) then none else match rd k with
    | none => none
    | some (t, n1) => match rdSL rd kids n1 with
      | none => none
      | some (ts, n2) => some (t :: ts, n2) := rfl
/-- What is told at the end, ts having been read. -/
def rdJ (rd : Int → Option (T × Nat)) (ts : List T) (kids : List Int) (nx : Nat) : Option (List T × Nat) := match rdSL rd kids nx with
  | none => none
  | some (ts', n) => some (ts ++ ts', n)
theorem rdJ_nil (rd : Int → Option (T × Nat)) (kids : List Int) (nx : Nat) : rdJ rd [] kids nx = rdSL rd kids nx := by
  rw [rdJ]
  cases rdSL rd kids nx with
  | none => rfl
  | some x => obtain ⟨ts, n⟩ := x; rfl
theorem rdJ_no (rd : Int → Option (T × Nat)) (ts : List T) (k : Int) (kids : List Int) (nx : Nat) (h : k ≠ (nx : Int) ∨ rd k = none) : rdJ rd ts (k :: kids) nx = none := by
  rw [rdJ, rdSL_cons]
  by_cases e : k = (nx : Int)
  · rw [if_neg (fun h => h e)]
    rcases h with h | h
    · exact absurd e h
    · rw [h]
  · rw [if_pos e]
theorem rdJ_step (rd : Int → Option (T × Nat)) (ts : List T) (k : Int) (kids : List Int) (nx n1 : Nat) (t : T) (e : k = (nx : Int)) (h : rd k = some (t, n1)) : rdJ rd ts (k :: kids) nx = rdJ rd (ts ++ [t]) kids n1 := by
  rw [rdJ, rdSL_cons, if_neg (fun h => h e), h, rdJ]
  simp only
  cases rdSL rd kids n1 with
  | none => rfl
  | some x => obtain ⟨ts', n⟩ := x; simp
theorem rdJ_end (rd : Int → Option (T × Nat)) (ts : List T) (nx : Nat) : rdJ rd ts [] nx = some (ts, nx) := by simp [rdJ, rdSL]
end Go.Proofs.Ytbaggkfgnjenoaa

