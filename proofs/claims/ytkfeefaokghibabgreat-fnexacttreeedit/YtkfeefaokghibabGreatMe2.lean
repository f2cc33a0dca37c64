/-
  l03Read of the specification: what is kept while it reads.
-/
import Derived.Test.YtkfeefaokghibabGreatMe1
import Derived.Deep.RegionLaw
import Derived.Deep.DeepCutAuto
import Derived.Lib.Bytealg
namespace Go.Proofs.YtkfeefaokghibabGreat
open Go.RowKit
theorem load_sub {w : World} {g : Nat} {x y z : Value} (c0 : w.cell? ⟨g, 0, none⟩ = some x) (c1 : w.cell? ⟨g, 1, none⟩ = some y) (c2 : w.cell? ⟨g, 2, none⟩ = some z) :
    (loadVar 50 ⟨g, 0, none⟩).run Tryz.prog w = .ok (.agg #[x, y, z]) w := by go_simp
theorem results_sub3 {fn : Func} {p u v : Tmp} (h : fn.results = #[.cell p 50, .tmp u, .tmp v]) (tmps : Array Value) (w : World) (g : Nat) {x y z b d : Value} (hp : tmps.getD p undef = .pointer (some ⟨g, 0, none⟩)) (hb : tmps.getD u undef = b) (hd : tmps.getD v undef = d)
    (c0 : w.cell? ⟨g, 0, none⟩ = some x) (c1 : w.cell? ⟨g, 1, none⟩ = some y) (c2 : w.cell? ⟨g, 2, none⟩ = some z) : (results fn tmps).run Tryz.prog w = .ok (.tuple #[.agg #[x, y, z], b, d]) w := by
  have hp' : tmps[p]?.getD undef = .pointer (some ⟨g, 0, none⟩) := by simpa using hp
  have hb' : tmps[u]?.getD undef = b := by simpa using hb
  have hd' : tmps[v]?.getD undef = d := by simpa using hd
  simp [results, h, hp', hb', hd', asAddr, load_sub c0 c1 c2]
/-- What comes of the specification's reading. -/
def SubPost (o : Option (T × Nat)) (w : World) (e : Ending) (w' : World) : Prop := match o with
  | none => e = .returned (.tuple #[.agg #[.bool false, .slice none 0 0, .slice none 0 0], .int .i64 0, .bool false])
  | some (t, n) => ∃ lf ap np cp ak nk ck, e = .returned (.tuple #[.agg #[.bool lf, .slice ap np cp, .slice ak nk ck], .int .i64 (n : Nat), .bool true]) ∧ Sub w' (fun y => w.heap.size ≤ y ∧ y < w'.heap.size) lf (.slice ap np cp) (.slice ak nk ck) t
theorem mkV_snoc (L : Nat → Bool) (P K : Nat → Value) (n : Nat) (l : Bool) (p k : Value) : mkV L P K n ++ [(.bool l, p, k)] = mkV (fun i => if i = n then l else L i) (fun i => if i = n then p else P i) (fun i => if i = n then k else K i) (n + 1) := by
  simp only [mkV, List.range_succ, List.map_append, List.map_cons, List.map_nil, if_true]
  congr 1
  apply List.map_congr_left
  intro i hi
  have : i ≠ n := by have := List.mem_range.1 hi; omega
  simp [this]
structure SpI (w wr : World) (sb bs : Nat) (lf : Bool) (nv pv : Value) (ps : List PB) (ts : List T) (kv : Value) (L : Nat → Bool) (P K : Nat → Value) : Prop where
  lo : w.heap.size + 3 ≤ sb ∧ sb < bs
  hi : bs ≤ wr.heap.size
  tre : Bk wr w.heap.size 30 [nv]
  res : Bk wr (w.heap.size + 1) 50 [.bool false, .slice none 0 0, .slice none 0 0]
  sub : Bk wr sb 50 [.bool lf, pv, kv]
  par : Pr wr (fun y => w.heap.size + 3 ≤ y ∧ y < bs ∧ y ≠ sb) pv ps
  row : wr.ownsRow bs 50 3 kv ts.length (ncs (mkV L P K ts.length))
  kid : ∀ i, i < ts.length → Sub wr (fun y => bs ≤ y ∧ y < wr.heap.size ∧ kv.ownBlock ≠ some y) (L i) (P i) (K i) (tAt ts i)
  bel : Below w.heap.size w wr
theorem SpI.keep {w wr w1 : World} {sb bs : Nat} {lf : Bool} {nv pv : Value} {ps : List PB} {ts : List T} {kv : Value} {L : Nat → Bool} {P K : Nat → Value} (h : SpI w wr sb bs lf nv pv ps ts kv L P K) (hb : Below wr.heap.size wr w1) : SpI w w1 sb bs lf nv pv ps ts kv L P K :=
  ⟨h.lo, Nat.le_trans h.hi hb.size, h.tre.below hb, h.res.below hb, h.sub.below hb, h.par.below hb, own_kept h.row (only_of_below hb (fun _ => False)) (fun _ _ h => h), fun i hi => ((h.kid i hi).kept hb).mono (fun _ hx _ => ⟨hx.1, Nat.lt_of_lt_of_le hx.2.1 hb.size, hx.2.2⟩), h.bel.trans (hb.mono h.bel.size)⟩
theorem SpI.push {w u w2 : World} {sb bs : Nat} {lf : Bool} {nv pv : Value} {ps : List PB} {ts : List T} {kv v' : Value} {L : Nat → Bool} {P K : Nat → Value} (h : SpI w u sb bs lf nv pv ps ts kv L P K)
    {l : Bool} {p k : Value} {t : T} (hl : Sub u (fun y => bs ≤ y ∧ y < u.heap.size ∧ kv.ownBlock ≠ some y) l p k t)
    (ho : w2.ownsRow bs 50 3 v' (ts.length + 1) (ncs (mkV L P K ts.length) ++ [.bool l, p, k])) (hg : u.grownBy w2 kv.ownBlock) (ha : v'.ownBlock = kv.ownBlock ∨ v'.ownBlock = some u.heap.size) :
    SpI w (w2.setCell ⟨sb, 2, none⟩ v') sb bs lf nv pv ps (ts ++ [t]) v' (fun i => if i = ts.length then l else L i) (fun i => if i = ts.length then p else P i) (fun i => if i = ts.length then k else K i) := by
  have hlo := h.lo
  have hkv := fun x e => (World.ownsRow.lt h.row x e).1
  have hsz : u.heap.size ≤ w2.heap.size := hg.size
  have hsb := h.sub.lt
  have hav : ∀ x, v'.ownBlock = some x → bs ≤ x := fun x e => (World.ownsRow.lt ho x e).1
  have o1 : Only (fun b => some b = kv.ownBlock) u w2 := only_of_grown hg (fun k e => e.symm)
  have o2 : Only (fun b => b = sb) w2 (w2.setCell ⟨sb, 2, none⟩ v') := only_set (R := fun b => b = sb) rfl _
  have o3 : Only (fun b => some b = kv.ownBlock ∨ b = sb) u (w2.setCell ⟨sb, 2, none⟩ v') := (o1.mono (fun _ _ e => .inl e)).then o2 (fun _ _ e => .inr e)
  have hz : (w2.setCell ⟨sb, 2, none⟩ v').heap.size = w2.heap.size := by simp [World.setCell]
  have hR : ∀ y, y < bs → y ≠ sb → ¬ (some y = kv.ownBlock ∨ y = sb) := by
    rintro y hy hne (e | e)
    · have := hkv y e.symm; omega
    · exact hne e
  have fin : ∀ {l : Bool} {p k : Value} {t : T}, Sub u (fun y => bs ≤ y ∧ y < u.heap.size ∧ kv.ownBlock ≠ some y) l p k t → Sub (w2.setCell ⟨sb, 2, none⟩ v') (fun y => bs ≤ y ∧ y < (w2.setCell ⟨sb, 2, none⟩ v').heap.size ∧ v'.ownBlock ≠ some y) l p k t := by
    intro l p k t hs
    refine (hs.to o3 (fun x hx _ => ?_)).mono (fun x hx _ => ⟨hx.1, by rw [hz]; omega, ?_⟩)
    · rintro (e | e)
      · exact hx.2.2 e.symm
      · have := hx.1; omega
    · rcases ha with ha | ha
      · rw [ha]; exact hx.2.2
      · rw [ha]; intro e; cases e; omega
  have hhi := h.hi
  refine ⟨h.lo, by rw [hz]; omega, h.tre.to o3 (hR _ (by omega) (by omega)), h.res.to o3 (hR _ (by omega) (by omega)), ?_, h.par.to o3 (fun y hy _ => hR y hy.2.1 hy.2.2), ?_, ?_, ?_⟩
  · have k1 := h.sub.to o1 (fun e => by have := hkv sb e.symm; omega)
    exact k1.set 2 v'
  · rw [List.length_append]
    have := own_kept ho o2 (fun x e => by have := hav x e; omega)
    rw [show [Value.bool l, p, k] = ncs [(.bool l, p, k)] from rfl, ← ncs_append, mkV_snoc] at this
    exact this
  · intro i hi
    rw [tAt_snoc _ _ _ hi]
    by_cases e : i = ts.length
    · subst e
      simp only [if_true]
      exact fin hl
    · simp only [e, if_false]
      simp at hi
      exact fin (h.kid i (by omega))
  · exact (h.bel.trans (o3.below (by have := h.bel.size; omega) (fun y hy => hR y (by omega) (by omega))))
theorem SpI.done {w wr : World} {sb bs : Nat} {lf : Bool} {nv pv : Value} {ps : List PB} {ts : List T} {kv : Value} {L : Nat → Bool} {P K : Nat → Value} (h : SpI w wr sb bs lf nv pv ps ts kv L P K) (hlf : lf = decide (ts.length = 0)) :
    Sub wr (fun y => (w.heap.size ≤ y ∧ y < wr.heap.size) ∧ y ≠ w.heap.size + 1) lf pv kv (.mk ps ts) := by
  have hlo := h.lo
  have hsb := h.sub.lt
  refine .mk lf pv kv ps ts L P K hlf (Rw.mono h.par (fun y hy hy2 => ⟨⟨by omega, hy2⟩, by omega⟩)) (rw_own h.row (fun y _ h1 h2 => ⟨⟨by omega, h2⟩, by omega⟩)) (fun i hi => (h.kid i hi).mono (fun y hy _ => ⟨⟨by omega, hy.2.1⟩, by omega⟩))
theorem ow_at {W : World} {g base : Nat} (hg : W.heap[g]? = some (.cells #[] 64 (0, 0))) (hb : base ≤ g) : Ow W base (.slice (some ⟨g, 0, none⟩) 0 0) [] :=
  ⟨rfl, .inr ⟨g, 0, #[], rfl, hb, hg, Nat.le_refl _, by decide, rfl, rfl⟩⟩
theorem kc2g {u v v' : World} {a0 a1 : Addr} {x0 x1 : Value} {row : Option Nat} (hg : v.grownBy v' row) (hr : ∀ k, row = some k → u.heap.size ≤ k) (h : v.cell? a0 = some x0 ∧ v.cell? a1 = some x1 ∧ KC u v [(a0, x0), (a1, x1)]) : v'.cell? a0 = some x0 ∧ v'.cell? a1 = some x1 ∧ KC u v' [(a0, x0), (a1, x1)] :=
  kc2 ⟨h.2.2.cells, h.2.2.bel.grown hg h.2.2.bel.size hr⟩
theorem kc2w {u v : World} {o o' : Obj} {a0 a1 : Addr} {x0 x1 : Value} (hs : u.heap.size ≤ v.heap.size) (h : (v.alloc o).cell? a0 = some x0 ∧ (v.alloc o).cell? a1 = some x1 ∧ KC u (v.alloc o) [(a0, x0), (a1, x1)]) : (v.alloc o').cell? a0 = some x0 ∧ (v.alloc o').cell? a1 = some x1 ∧ KC u (v.alloc o') [(a0, x0), (a1, x1)] := by
  obtain ⟨_, _, h1, h2⟩ := h
  refine kc2 ⟨h1, h2.os, h2.tape, h2.output, by simp; omega, fun k hk => ?_⟩
  rw [Below.heap_alloc _ _ _ (by omega), ← h2.block k hk, Below.heap_alloc _ _ _ (by omega)]
theorem kc2s {u v : World} {g i j k : Nat} {x y z : Value} {a0 a1 : Addr} {x0 x1 : Value} (hs : u.heap.size ≤ g) (h : v.cell? a0 = some x0 ∧ v.cell? a1 = some x1 ∧ KC u v [(a0, x0), (a1, x1)]) :
    (((v.setCell ⟨g, i, none⟩ x).setCell ⟨g, j, none⟩ y).setCell ⟨g, k, none⟩ z).cell? a0 = some x0 ∧ (((v.setCell ⟨g, i, none⟩ x).setCell ⟨g, j, none⟩ y).setCell ⟨g, k, none⟩ z).cell? a1 = some x1 ∧ KC u (((v.setCell ⟨g, i, none⟩ x).setCell ⟨g, j, none⟩ y).setCell ⟨g, k, none⟩ z) [(a0, x0), (a1, x1)] :=
  kc2 ⟨h.2.2.cells, ((h.2.2.bel.setCell hs _).setCell hs _).setCell hs _⟩
/-- append onto a new row without elements, as one step of a region that draws. -/
theorem step_clone {w : World} {ops : Array Oper} {o : Oper} {a : Act} {K : Act → World → Prop} {Q : Exit → Act → World → Prop} {E : Prop} (hgd : o.guard = none) (s x : Operand)
    (ho : o.op = .call { callee := .builtin .append, args := #[s, x], argTypes := #[47, 47] }) (base g : Nat) (hs : a.eval s = .slice (some ⟨g, 0, none⟩) 0 0) (hown : w.heap[g]? = some (.cells #[] 64 (0, 0))) (hbg : base ≤ g)
    (S : Nat → Prop) (src : Value) (m : List PB) (hx : a.eval x = src) (hsrc : Pr w S src m) (hb : m.length ≤ 2097154)
    (h : ∀ a' n' c' w', Ow w' base (.slice a' n' c') m → w.grownBy w' (some g) → ((Value.slice a' n' c').ownBlock = some g ∨ (Value.slice a' n' c').ownBlock = some w.heap.size) → (∀ b o, b < w.heap.size → b ≠ g → w'.cell? ⟨b, o, none⟩ = w.cell? ⟨b, o, none⟩) → (∀ b o, b < w.heap.size → b ≠ g → w'.frozen? ⟨b, o, none⟩ = w.frozen? ⟨b, o, none⟩) → K (a.put o.dst (.slice a' n' c')) w') :
    if Region.wanted o (yielded ops a.tmps) = true then Oper.wp Tryz.prog o a w K Q else E := by
  have hw : Region.wanted o (yielded ops a.tmps) = true := by simp [Region.wanted, hgd]
  rw [if_pos hw]
  have hO := ow_at hown hbg
  have hlt : g < w.heap.size := (Array.getElem?_eq_some_iff.1 hown).1
  obtain ⟨i, hi, hz, hsz, hby⟩ := info_of infoPairI
  obtain ⟨v', w', hr, h2, h3, h5⟩ := run_append_row_at (P := Tryz.prog) (w := w) base 47 o.type 64 i _ 2 32 Tryz.underlying47 hi hz hsz hby rfl (by decide) _ 0 [] hO S src m.length (pcs m) hsrc (pcs_length m) (pcs_one m) (by unfold maxLen; omega) (by omega) (by omega)
  have h4 : Ow w' base v' m := by
    unfold Ow
    simpa using h2
  obtain ⟨a', n', c', rfl, _⟩ := h4.shape'
  unfold Oper.wp execOp
  simp only [ho, resolve, invoke, builtin, Sem.run_bind, Sem.run_pure, Result.andThen_ok, List.map_toArray, List.map_cons, List.map_nil, hs, hx, hr]
  exact h a' n' c' w' h4 h3 h5 (fun b o hb hne => World.cell?_of_block (w := w) (h3.block b hb (fun e => hne (by cases e; rfl)))) (fun b o hb hne => World.frozen?_of_block (w := w) (h3.block b hb (fun e => hne (by cases e; rfl))))
/-- The new sub, laid ahead of its pairs' row. -/
theorem meet_set {U W w2 : World} {g sb : Nat} {lf : Bool} {a2 : Option Addr} {n2 c2 : Nat} {ps : List PB} (hb : Below U.heap.size U W) (hW : U.heap.size ≤ W.heap.size) (hO : Ow w2 U.heap.size (.slice a2 n2 c2) ps) (hg : W.grownBy w2 (some g)) (hat : (Value.slice a2 n2 c2).ownBlock = some g ∨ (Value.slice a2 n2 c2).ownBlock = some W.heap.size)
    (hs : W.heap[sb]? = some (.cells #[.bool false, .slice none 0 0, .slice none 0 0] 50 (0, 0))) (hne : sb ≠ g) (h1 : U.heap.size ≤ sb) (h2 : U.heap.size ≤ g) :
    Below U.heap.size U (((w2.setCell ⟨sb, 0, none⟩ (.bool lf)).setCell ⟨sb, 1, none⟩ (.slice a2 n2 c2)).setCell ⟨sb, 2, none⟩ (.slice none 0 0)) ∧ U.heap.size ≤ sb ∧ sb < w2.heap.size ∧ w2.heap.size ≤ (((w2.setCell ⟨sb, 0, none⟩ (.bool lf)).setCell ⟨sb, 1, none⟩ (.slice a2 n2 c2)).setCell ⟨sb, 2, none⟩ (.slice none 0 0)).heap.size ∧
      Bk (((w2.setCell ⟨sb, 0, none⟩ (.bool lf)).setCell ⟨sb, 1, none⟩ (.slice a2 n2 c2)).setCell ⟨sb, 2, none⟩ (.slice none 0 0)) sb 50 [.bool lf, .slice a2 n2 c2, .slice none 0 0] ∧
      Pr (((w2.setCell ⟨sb, 0, none⟩ (.bool lf)).setCell ⟨sb, 1, none⟩ (.slice a2 n2 c2)).setCell ⟨sb, 2, none⟩ (.slice none 0 0)) (fun y => U.heap.size ≤ y ∧ y < w2.heap.size ∧ y ≠ sb) (.slice a2 n2 c2) ps := by
  have hlt : sb < W.heap.size := (Array.getElem?_eq_some_iff.1 hs).1
  have hB : Bk w2 sb 50 [.bool false, .slice none 0 0, .slice none 0 0] := (hg.block sb hlt (fun e => hne (by cases e; rfl))).trans hs
  have hbel : Below U.heap.size U w2 := hb.grown hg hW (fun k e => by cases e; exact h2)
  have hpn : ∀ k, (Value.slice a2 n2 c2).ownBlock = some k → k ≠ sb := by
    rintro k hk rfl
    rcases hat with h | h
    · rw [hk] at h; cases h; exact hne rfl
    · rw [hk] at h; cases h; omega
  have o : Only (fun y => y = sb) w2 (((w2.setCell ⟨sb, 0, none⟩ (.bool lf)).setCell ⟨sb, 1, none⟩ (.slice a2 n2 c2)).setCell ⟨sb, 2, none⟩ (.slice none 0 0)) := ((only_set (R := fun y => y = sb) rfl _).trans (only_set (R := fun y => y = sb) rfl _)).trans (only_set (R := fun y => y = sb) rfl _)
  refine ⟨((hbel.setCell h1 _).setCell h1 _).setCell h1 _, h1, hB.lt, by simp [World.setCell], ((hB.set _ _).set _ _).set _ _, ?_⟩
  exact Rw.to (hO.pr (fun k hk h3 h4 => ⟨h3, h4, hpn k hk⟩)) o (fun y hy _ e => hy.2.2 e)
/-- The new sub, laid behind its pairs' row. -/
theorem meet_new {U W w2 : World} {g : Nat} {lf : Bool} {a2 : Option Addr} {n2 c2 : Nat} {ps : List PB} (hb : Below U.heap.size U W) (hW : U.heap.size ≤ W.heap.size) (hO : Ow w2 U.heap.size (.slice a2 n2 c2) ps) (hg : W.grownBy w2 (some g)) (h2 : U.heap.size ≤ g) :
    Below U.heap.size U (w2.alloc (.cells #[.bool lf, .slice a2 n2 c2, .slice none 0 0] 50)) ∧ U.heap.size ≤ w2.heap.size ∧ w2.heap.size < w2.heap.size + 1 ∧ w2.heap.size + 1 ≤ (w2.alloc (.cells #[.bool lf, .slice a2 n2 c2, .slice none 0 0] 50)).heap.size ∧
      Bk (w2.alloc (.cells #[.bool lf, .slice a2 n2 c2, .slice none 0 0] 50)) w2.heap.size 50 [.bool lf, .slice a2 n2 c2, .slice none 0 0] ∧
      Pr (w2.alloc (.cells #[.bool lf, .slice a2 n2 c2, .slice none 0 0] 50)) (fun y => U.heap.size ≤ y ∧ y < w2.heap.size + 1 ∧ y ≠ w2.heap.size) (.slice a2 n2 c2) ps := by
  have hbel : Below U.heap.size U w2 := hb.grown hg hW (fun k e => by cases e; exact h2)
  refine ⟨hbel.alloc hbel.size _, hbel.size, by omega, by simp, Bk.new w2 50 [.bool lf, .slice a2 n2 c2, .slice none 0 0], ?_⟩
  exact Rw.below (hO.pr (fun k _ h3 h4 => ⟨h3, by omega, by omega⟩)) (below_new (Below.refl _ _))
/-- append as one step of a region that draws. -/
theorem step_append_pairs {w : World} {ops : Array Oper} {o : Oper} {a : Act} {K : Act → World → Prop} {Q : Exit → Act → World → Prop} {E : Prop} (hgd : o.guard = none) (s x : Operand)
    (ho : o.op = .call { callee := .builtin .append, args := #[s, x], argTypes := #[47, 47] }) (base : Nat) (v : Value) (l : List PB) (hs : a.eval s = v) (hown : Ow w base v l)
    (S : Nat → Prop) (src : Value) (m : List PB) (hx : a.eval x = src) (hsrc : Pr w S src m) (hb : l.length + m.length ≤ 2097154) (hbase : base ≤ w.heap.size)
    (h : ∀ v' w', Ow w' base v' (l ++ m) → w.grownBy w' v.ownBlock → K (a.put o.dst v') w') :
    if Region.wanted o (yielded ops a.tmps) = true then Oper.wp Tryz.prog o a w K Q else E := by
  have hw : Region.wanted o (yielded ops a.tmps) = true := by simp [Region.wanted, hgd]
  rw [if_pos hw]
  obtain ⟨i, hi, hz, hsz, hby⟩ := info_of infoPairI
  obtain ⟨v', w', hr, h2, h3⟩ := run_append_row (P := Tryz.prog) (w := w) base 47 o.type 64 i _ 2 32 Tryz.underlying47 hi hz hsz hby rfl (by decide) v l.length (pcs l) hown S src m.length (pcs m) hsrc (pcs_length m) (pcs_one m) (by unfold maxLen; omega) (by omega) hbase
  unfold Oper.wp execOp
  simp only [ho, resolve, invoke, builtin, Sem.run_bind, Sem.run_pure, Result.andThen_ok, List.map_toArray, List.map_cons, List.map_nil, hs, hx, hr]
  refine h v' w' ?_ h3
  unfold Ow
  rw [List.length_append, pcs_append]
  exact h2
theorem wpList_append_sub {w : World} {ops : Array Oper} {rest : List Oper} {o : Oper} {a : Act} {Q : Exit → Act → World → Prop} (hgd : o.guard = none) (s x : Operand)
    (ho : o.op = .call { callee := .builtin .append, args := #[s, x], argTypes := #[48, 48] }) (base : Nat) (v : Value) (n : Nat) (V : List V3) (hs : a.eval s = v) (hown : w.ownsRow base 50 3 v n (ncs V))
    (g : Nat) (l : Bool) (ap : Option Addr) (np cp : Nat) (ak : Option Addr) (nk ck : Nat) (hx : a.eval x = .slice (some ⟨g, 0, none⟩) 1 1) (hB : Bk w g 50 [.bool l, .slice ap np cp, .slice ak nk ck]) (hb : n ≤ 1048576) (hbase : base ≤ w.heap.size)
    (h : ∀ v' w', w'.ownsRow base 50 3 v' (n + 1) (ncs V ++ [.bool l, .slice ap np cp, .slice ak nk ck]) → w.grownBy w' v.ownBlock → (v'.ownBlock = v.ownBlock ∨ v'.ownBlock = some w.heap.size) → wpList Tryz.prog ops Q rest (a.put o.dst v') w') : wpList Tryz.prog ops Q (o :: rest) a w := by
  obtain ⟨i, hi, hz, hsz, hby⟩ := info_of infoSub
  refine wpList_append_row_at hgd s x 48 ho base 50 i _ 3 56 Tryz.underlying48 hi hz hsz hby rfl (by decide) v n (ncs V) hs hown (fun _ => True) _ 1 [.bool l, .slice ap np cp, .slice ak nk ck] hx (hB.rw (Nat.le_refl _) (by omega) (fun h => by omega) _ trivial) rfl
    (by intro u hu; simp at hu; rcases hu with rfl | rfl | rfl <;> rfl) (by unfold maxLen; omega) (by omega) hbase h
theorem rdSL_cons (rd : Int → Option (T × Nat)) (k : Int) (kids : List Int) (nx : Nat) : rdSL rd (k :: kids) nx = if k ≠ (nx : Int) then none else match rd k with
    | none => none
    | some (t, n1) => match rdSL rd kids n1 with
      | none => none
      | some (ts, n2) => some (t :: ts, n2) := rfl
/-- What is told at the end, ts having been read. -/
def rdJ (rd : Int → Option (T × Nat)) (ts : List T) (kids : List Int) (nx : Nat) : Option (List T × Nat) := match rdSL rd kids nx with
  | none => none
  | some (ts', n) => some (ts ++ ts', n)
theorem rdJ_nil (rd : Int → Option (T × Nat)) (kids : List Int) (nx : Nat) : rdJ rd [] kids nx = rdSL rd kids nx := by
  rw [rdJ]
  cases rdSL rd kids nx with
  | none => rfl
  | some x => obtain ⟨ts, n⟩ := x; rfl
theorem rdJ_no (rd : Int → Option (T × Nat)) (ts : List T) (k : Int) (kids : List Int) (nx : Nat) (h : k ≠ (nx : Int) ∨ rd k = none) : rdJ rd ts (k :: kids) nx = none := by
  rw [rdJ, rdSL_cons]
  by_cases e : k = (nx : Int)
  · rw [if_neg (fun h => h e)]
    rcases h with h | h
    · exact absurd e h
    · rw [h]
  · rw [if_pos e]
theorem rdJ_step (rd : Int → Option (T × Nat)) (ts : List T) (k : Int) (kids : List Int) (nx n1 : Nat) (t : T) (e : k = (nx : Int)) (h : rd k = some (t, n1)) : rdJ rd ts (k :: kids) nx = rdJ rd (ts ++ [t]) kids n1 := by
  rw [rdJ, rdSL_cons, if_neg (fun h => h e), h, rdJ]
  simp only
  cases rdSL rd kids n1 with
  | none => rfl
  | some x => obtain ⟨ts', n⟩ := x; simp
theorem rdJ_end (rd : Int → Option (T × Nat)) (ts : List T) (nx : Nat) : rdJ rd ts [] nx = some (ts, nx) := by simp [rdJ, rdSL]
end Go.Proofs.YtkfeefaokghibabGreat
/-
  A list of nodes that is being laid: a row of one's own, each node's slices apart from it.
-/
namespace Go.Proofs.YtkfeefaokghibabGreat
open Go.RowKit
/-- A node's rows are its own. -/
def OwN (w : World) (p : V3) (x : NB) : Prop := w.ownsRow 0 64 2 p.1 x.ps.length (pcs x.ps) ∧ w.ownsRow 0 9 1 p.2.1 x.keys.length (x.keys.map Value.string) ∧ w.ownsRow 0 3 1 p.2.2 x.kids.length (x.kids.map (Value.int .i64))
def bl (p : V3) (y : Nat) : Prop := p.1.ownBlock = some y ∨ p.2.1.ownBlock = some y ∨ p.2.2.ownBlock = some y
def ap3 (p : V3) : Prop := ∀ y, (p.1.ownBlock = some y → p.2.1.ownBlock ≠ some y ∧ p.2.2.ownBlock ≠ some y) ∧ (p.2.1.ownBlock = some y → p.2.2.ownBlock ≠ some y)
theorem OwN.to {w w' : World} {R : Nat → Prop} {p : V3} {x : NB} (h : OwN w p x) (ho : Only R w w') (hR : ∀ y, bl p y → ¬ R y) : OwN w' p x :=
  ⟨own_kept h.1 ho (fun y e => hR y (.inl e)), own_kept h.2.1 ho (fun y e => hR y (.inr (.inl e))), own_kept h.2.2 ho (fun y e => hR y (.inr (.inr e)))⟩
theorem OwN.lt {w : World} {p : V3} {x : NB} (h : OwN w p x) {y : Nat} (hy : bl p y) : y < w.heap.size := by
  rcases hy with e | e | e
  · exact (World.ownsRow.lt h.1 y e).2
  · exact (World.ownsRow.lt h.2.1 y e).2
  · exact (World.ownsRow.lt h.2.2 y e).2
theorem own_lower {w : World} {base : Nat} {e : TypeId} {size n : Nat} {v : Value} {xs : List Value} (h : w.ownsRow base e size v n xs) : w.ownsRow 0 e size v n xs := by
  refine ⟨h.1, h.2.imp id ?_⟩
  rintro ⟨g, cap, cur, h1, h2, h3⟩
  exact ⟨g, cap, cur, h1, Nat.zero_le _, h3⟩
theorem own_ge {w : World} {base : Nat} {e : TypeId} {size n : Nat} {v : Value} {xs : List Value} (h : w.ownsRow base e size v n xs) (k : Nat) (hk : v.ownBlock = some k) : base ≤ k := by
  rcases h.2 with ⟨rfl, _⟩ | ⟨g, cap, cur, rfl, hb, _⟩
  · cases hk
  · cases hk; exact hb
/-- A node whose rows are its own, in blocks of F, apart from each other. -/
def N1K (w : World) (F : Nat → Prop) (p : V3) (x : NB) : Prop := N1 w F p x ∧ OwN w p x ∧ ap3 p ∧ ∀ y, bl p y → F y
theorem N1K.to {w w' : World} {S R : Nat → Prop} {p : V3} {x : NB} (h : N1K w S p x) (ho : Only R w w') (hd : ∀ b, S b → b < w.heap.size → ¬ R b) : N1K w' S p x :=
  ⟨h.1.to ho hd, h.2.1.to ho (fun y hy => hd y (h.2.2.2 y hy) (h.2.1.lt hy)), h.2.2⟩
theorem N1K.mono {w : World} {S R : Nat → Prop} {p : V3} {x : NB} (h : N1K w S p x) (hd : ∀ b, S b → b < w.heap.size → R b) : N1K w R p x :=
  ⟨h.1.mono hd, h.2.1, h.2.2.1, fun y hy => hd y (h.2.2.2 y hy) (h.2.1.lt hy)⟩
theorem OwN.n1 {w : World} {S : Nat → Prop} {p : V3} {x : NB} (h : OwN w p x) (hS : ∀ y, bl p y → S y) : N1 w S p x :=
  ⟨rw_own h.1 (fun k e _ _ => hS k (.inl e)), rw_own h.2.1 (fun k e _ _ => hS k (.inr (.inl e))), rw_own h.2.2 (fun k e _ _ => hS k (.inr (.inr e)))⟩
theorem n1K_nil (w : World) (F : Nat → Prop) : N1K w F (.slice none 0 0, .slice none 0 0, .slice none 0 0) ⟨[], [], []⟩ :=
  ⟨⟨rw_nil _ _, rw_nil _ _, rw_nil _ _⟩, ⟨World.ownsRow_nil _ _ _ _, World.ownsRow_nil _ _ _ _, World.ownsRow_nil _ _ _ _⟩, fun y => ⟨fun e => by (cases e), fun e => by (cases e)⟩, fun y hy => by rcases hy with e | e | e <;> cases e⟩
def apartV (V : List V3) (n : Nat) : Prop := ∀ i j, i < n → j < n → i ≠ j → ∀ y, bl (vAt V i) y → ¬ bl (vAt V j) y
/-- The nodes ns lie in a row of their own, their rows too, all apart. -/
def NrK (w : World) (S : Nat → Prop) (v : Value) (ns : List NB) : Prop := ∃ V : List V3, V.length = ns.length ∧ (w.ownsRow 0 84 3 v ns.length (ncs V) ∧ ∀ y, v.ownBlock = some y → S y) ∧ (∀ i, i < ns.length → N1K w S (vAt V i) (nAt ns i)) ∧ apartV V ns.length ∧ ∀ i, i < ns.length → ∀ y, bl (vAt V i) y → v.ownBlock ≠ some y
theorem NrK.to {w w' : World} {S R : Nat → Prop} {v : Value} {ns : List NB} (h : NrK w S v ns) (ho : Only R w w') (hd : ∀ b, S b → b < w.heap.size → ¬ R b) : NrK w' S v ns := by
  obtain ⟨V, h1, h2, h3, h4⟩ := h
  exact ⟨V, h1, ⟨own_kept h2.1 ho (fun k hk => hd k (h2.2 k hk) (World.ownsRow.lt h2.1 k hk).2), h2.2⟩, fun i hi => (h3 i hi).to ho hd, h4⟩
theorem NrK.mono {w : World} {S R : Nat → Prop} {v : Value} {ns : List NB} (h : NrK w S v ns) (hd : ∀ b, S b → b < w.heap.size → R b) : NrK w R v ns := by
  obtain ⟨V, h1, h2, h3, h4⟩ := h
  exact ⟨V, h1, ⟨h2.1, fun y hy => hd y (h2.2 y hy) (World.ownsRow.lt h2.1 y hy).2⟩, fun i hi => (h3 i hi).mono hd, h4⟩
theorem NrK.below {w w' : World} {S : Nat → Prop} {v : Value} {ns : List NB} (h : NrK w S v ns) (hb : Below w.heap.size w w') : NrK w' S v ns := h.to (only_of_below hb (fun _ => False)) (fun _ _ _ h => h)
theorem NrK.nr {w : World} {S : Nat → Prop} {v : Value} {ns : List NB} (h : NrK w S v ns) : Nr w S v ns := by
  obtain ⟨V, h1, h2, h3, h4⟩ := h
  exact ⟨V, h1, rw_own h2.1 (fun y hy _ _ => h2.2 y hy), fun i hi => (h3 i hi).1⟩
theorem nrK_nil (w : World) (S : Nat → Prop) : NrK w S (.slice none 0 0) [] := ⟨[], rfl, ⟨World.ownsRow_nil _ _ _ _, fun y hy => by cases hy⟩, fun i hi => by simp at hi, fun i j hi => absurd hi (Nat.not_lt_zero _), fun i hi => by simp at hi⟩
/-- The slice value v owns a row of the nodes ns; what the nodes lead to lies in blocks of F. -/
def NO (w : World) (F : Nat → Prop) (v : Value) (ns : List NB) : Prop :=
  ∃ V : List V3, V.length = ns.length ∧ w.ownsRow 0 84 3 v ns.length (ncs V) ∧ (∀ i, i < ns.length → N1K w F (vAt V i) (nAt ns i)) ∧ (∀ y, F y → y < w.heap.size ∧ v.ownBlock ≠ some y) ∧ apartV V ns.length
theorem NO.to {w w' : World} {R F : Nat → Prop} {v : Value} {ns : List NB} (h : NO w F v ns) (ho : Only R w w') (hv : ∀ y, v.ownBlock = some y → ¬ R y) (hF : ∀ y, F y → ¬ R y) : NO w' F v ns := by
  obtain ⟨V, h1, h2, h3, h4, h5⟩ := h
  exact ⟨V, h1, own_kept h2 ho hv, fun i hi => (h3 i hi).to ho (fun y hy _ => hF y hy), fun y hy => ⟨Nat.lt_of_lt_of_le (h4 y hy).1 ho.size, (h4 y hy).2⟩, h5⟩
theorem NO.kept {w w' : World} {F : Nat → Prop} {v : Value} {ns : List NB} (h : NO w F v ns) (hb : Below w.heap.size w w') : NO w' F v ns := h.to (only_of_below hb (fun _ => False)) (fun _ _ h => h) (fun _ _ h => h)
theorem NO.mono {w : World} {F G : Nat → Prop} {v : Value} {ns : List NB} (h : NO w F v ns) (hF : ∀ y, F y → G y) (hG : ∀ y, G y → y < w.heap.size ∧ v.ownBlock ≠ some y) : NO w G v ns := by
  obtain ⟨V, h1, h2, h3, h4, h5⟩ := h
  exact ⟨V, h1, h2, fun i hi => (h3 i hi).mono (fun y hy _ => hF y hy), hG, h5⟩
theorem NO.shape {w : World} {F : Nat → Prop} {v : Value} {ns : List NB} (h : NO w F v ns) : ∃ a n c, v = .slice a n c ∧ Hid (n = ns.length) := by
  obtain ⟨V, h1, h2, h3, h4⟩ := h
  obtain ⟨a, c, rfl⟩ := own_shape h2
  exact ⟨a, _, c, rfl, rfl⟩
theorem NO.nr {w : World} {F S : Nat → Prop} {v : Value} {ns : List NB} (h : NO w F v ns) (hS : ∀ y, y < w.heap.size → S y) : Nr w S v ns := by
  obtain ⟨V, h1, h2, h3, h4⟩ := h
  exact ⟨V, h1, rw_own h2 (fun y _ _ hy => hS y hy), fun i hi => (h3 i hi).1.mono (fun y _ hy => hS y hy)⟩
theorem no_nil (w : World) : NO w (fun _ => False) (.slice none 0 0) [] := ⟨[], rfl, World.ownsRow_nil _ _ _ _, fun i hi => by simp at hi, fun _ h => h.elim, fun i j hi => absurd hi (Nat.not_lt_zero _)⟩
theorem NO.lt {w : World} {F : Nat → Prop} {v : Value} {ns : List NB} (h : NO w F v ns) : ∀ y, v.ownBlock = some y → y < w.heap.size := by
  obtain ⟨V, h1, h2, h3, h4⟩ := h
  exact fun y hy => (World.ownsRow.lt h2 y hy).2
theorem nAt_append_left {ns ms : List NB} {i : Nat} (h : i < ns.length) : nAt (ns ++ ms) i = nAt ns i := by simp [nAt, List.getElem?_append_left h]
theorem nAt_append_at (ns : List NB) (x : NB) (ms : List NB) : nAt (ns ++ x :: ms) ns.length = x := by simp [nAt]
theorem vAt_append_left {V W : List V3} {i : Nat} (h : i < V.length) : vAt (V ++ W) i = vAt V i := by simp [vAt, List.getElem?_append_left h]
theorem vAt_append_at (V : List V3) (x : V3) : vAt (V ++ [x]) V.length = x := by simp [vAt]
/-- append(nodes, Node{}). -/
theorem NO.push {u w2 : World} {F : Nat → Prop} {v v' : Value} {ns : List NB} (h : NO u F v ns) (x : NB) (p : V3) (hx : N1K u (fun _ => False) p x) (ho : ∀ V : List V3, V.length = ns.length → u.ownsRow 0 84 3 v ns.length (ncs V) → w2.ownsRow 0 84 3 v' (ns.length + 1) (ncs V ++ [p.1, p.2.1, p.2.2])) (hg : u.grownBy w2 v.ownBlock) (ha : v'.ownBlock = v.ownBlock ∨ v'.ownBlock = some u.heap.size) :
    NO w2 F v' (ns ++ [x]) := by
  obtain ⟨V, h1, h2, h3, h4, h5⟩ := h
  have o : Only (fun y => v.ownBlock = some y) u w2 := only_of_grown hg (fun k e => e)
  refine ⟨V ++ [p], by simp [h1], ?_, fun i hi => ?_, fun y hy => ⟨Nat.lt_of_lt_of_le (h4 y hy).1 hg.size, ?_⟩, fun i j hi hj hij y hy hz => ?_⟩
  · rw [ncs_append, List.length_append]
    exact ho V h1 h2
  · simp at hi
    by_cases e : i < ns.length
    · rw [vAt_append_left (by omega), nAt_append_left e]
      exact (h3 i e).to o (fun y hy _ hv => (h4 y hy).2 hv)
    · obtain rfl : i = ns.length := by omega
      rw [nAt_append_at, ← h1, vAt_append_at]
      exact (hx.to o (fun y hy => hy.elim)).mono (fun y hy => hy.elim)
  · rcases ha with ha | ha
    · rw [ha]; exact (h4 y hy).2
    · rw [ha]; intro e; have := (h4 y hy).1; cases e; omega
  · have hat : ∀ i, i < (ns ++ [x]).length → (i < ns.length ∧ vAt (V ++ [p]) i = vAt V i) ∨ vAt (V ++ [p]) i = p := by
      intro i hi
      simp at hi
      by_cases e : i < ns.length
      · exact .inl ⟨e, vAt_append_left (by omega)⟩
      · obtain rfl : i = ns.length := by omega
        exact .inr (by rw [← h1, vAt_append_at])
    rcases hat i hi with ⟨e, e1⟩ | e1
    · rcases hat j hj with ⟨d, d1⟩ | d1
      · rw [e1] at hy; rw [d1] at hz; exact h5 i j e d hij y hy hz
      · rw [d1] at hz; exact hx.2.2.2 y hz
    · rw [e1] at hy; exact hx.2.2.2 y hy
/-- One node's values are stored anew. -/
theorem NO.put {w : World} {F G : Nat → Prop} {v : Value} {ms l : List NB} {x z : NB} {g n c : Nat} (hv : v = .slice (some ⟨g, 0, none⟩) n c) (h' : NO w G v (ms ++ z :: l)) (hGF : ∀ y, G y → F y) (hFF : ∀ y, F y → y < w.heap.size ∧ v.ownBlock ≠ some y) (p : V3) (hx : N1K w F p x) (hn : ∀ y, bl p y → ¬ G y) :
    NO (((w.setCell ⟨g, ms.length * 3, none⟩ p.1).setCell ⟨g, ms.length * 3 + 1, none⟩ p.2.1).setCell ⟨g, ms.length * 3 + 2, none⟩ p.2.2) F v (ms ++ x :: l) := by
  subst hv
  obtain ⟨V, h1, h2, h3', _, h5⟩ := h'
  have h3 := fun i hi => (h3' i hi).mono (R := F) (fun y hy _ => hGF y hy)
  have h4 := hFF
  have hgb : (Value.slice (some ⟨g, 0, none⟩) n c).ownBlock = some g := rfl
  have o : Only (fun y => y = g) w (((w.setCell ⟨g, ms.length * 3, none⟩ p.1).setCell ⟨g, ms.length * 3 + 1, none⟩ p.2.1).setCell ⟨g, ms.length * 3 + 2, none⟩ p.2.2) := ((only_set (R := fun y => y = g) rfl _).trans (only_set (R := fun y => y = g) rfl _)).trans (only_set (R := fun y => y = g) rfl _)
  have hF : ∀ y, F y → ¬ y = g := fun y hy e => (h4 y hy).2 (by rw [hgb, e])
  have hl : ms.length < (ms ++ z :: l).length := by simp
  have hl2 : (ms ++ x :: l).length = (ms ++ z :: l).length := by simp
  refine ⟨V.set ms.length p, by rw [List.length_set, h1, hl2], ?_, fun i hi => ?_, fun y hy => ⟨Nat.lt_of_lt_of_le (h4 y hy).1 o.size, (h4 y hy).2⟩, fun i j hi hj hij y hy hz => ?_⟩
  · rw [ncs_set _ _ _ (by omega), hl2]
    obtain ⟨k1, k2⟩ := h2
    rcases k2 with ⟨k2, _⟩ | ⟨g', cap, cur, e, k3, k4, k5, k6, k7, k8⟩
    · cases k2
    · cases e
      refine ⟨by simpa using k1, .inr ⟨g, c, ((cur.setIfInBounds (ms.length * 3) p.1).setIfInBounds (ms.length * 3 + 1) p.2.1).setIfInBounds (ms.length * 3 + 2) p.2.2, rfl, k3, ?_, k5, k6, by simpa using k7, ?_⟩⟩
      · simp [World.setCell, Array.getElem?_modify, k4]
      · rw [← k8]
        simp only [Array.toList_setIfInBounds, List.take_set]
  · by_cases e : i = ms.length
    · subst e
      rw [vAt_set _ _ _ (by omega), nAt_append_at]
      exact hx.to o (fun y hy _ => hF y hy)
    · rw [vAt_other _ _ _ _ e]
      have : nAt (ms ++ x :: l) i = nAt (ms ++ z :: l) i := by
        by_cases hi2 : i < ms.length
        · rw [nAt_append_left hi2, nAt_append_left hi2]
        · obtain ⟨j, rfl⟩ : ∃ j, i = ms.length + 1 + j := ⟨i - ms.length - 1, by omega⟩
          simp only [nAt]
          rw [List.getElem?_append_right (by omega), List.getElem?_append_right (by omega), show ms.length + 1 + j - ms.length = j + 1 by omega]
          rfl
      rw [this]
      exact (h3 i (by omega)).to o (fun y hy _ => hF y hy)
  · rw [hl2] at hi hj
    by_cases e : i = ms.length
    · subst e
      rw [vAt_set _ _ _ (by omega)] at hy
      rw [vAt_other _ _ _ _ (Ne.symm hij)] at hz
      exact hn y hy ((h3' j hj).2.2.2 y hz)
    · rw [vAt_other _ _ _ _ e] at hy
      by_cases d : j = ms.length
      · subst d
        rw [vAt_set _ _ _ (by omega)] at hz
        exact hn y hz ((h3' i hi).2.2.2 y hy)
      · rw [vAt_other _ _ _ _ d] at hz
        exact h5 i j hi hj hij y hy hz
/-- How far l03Lay has come with a branch. -/
structure LyI (w wr : World) (F : Nat → Prop) (v vv q0 q1 q2 : Value) (nb : Nat) (kx ki : Value) (Fk : Nat → Prop) (L : List NB) (keys : List ByteArray) (kids : List Int) : Prop where
  fw : ∀ y, F y → y < w.heap.size
  vw : ∀ y, v.ownBlock = some y → y < w.heap.size
  lo : w.heap.size < nb
  nodes : NO wr Fk vv L
  par : Bk wr w.heap.size 50 [q0, q1, q2]
  nod : Bk wr nb 84 [.slice none 0 0, kx, ki]
  rx : wr.ownsRow 0 9 1 kx keys.length (keys.map Value.string)
  ri : wr.ownsRow 0 3 1 ki kids.length (kids.map (Value.int .i64))
  fk : ∀ y, Fk y → (F y ∨ w.heap.size < y) ∧ y ≠ nb ∧ kx.ownBlock ≠ some y ∧ ki.ownBlock ≠ some y
  ff : ∀ y, F y → Fk y
  vb : ∀ y, vv.ownBlock = some y → (v.ownBlock = some y ∨ w.heap.size < y) ∧ y ≠ nb ∧ kx.ownBlock ≠ some y ∧ ki.ownBlock ≠ some y
  xb : ∀ y, kx.ownBlock = some y → w.heap.size < y ∧ y ≠ nb ∧ ki.ownBlock ≠ some y
  ib : ∀ y, ki.ownBlock = some y → w.heap.size < y ∧ y ≠ nb
  only : Only (fun y => v.ownBlock = some y) w wr
theorem LyI.keep {w wr w1 : World} {F : Nat → Prop} {v vv q0 q1 q2 : Value} {nb : Nat} {kx ki : Value} {Fk : Nat → Prop} {L : List NB} {keys : List ByteArray} {kids : List Int} (h : LyI w wr F v vv q0 q1 q2 nb kx ki Fk L keys kids) (hb : Below wr.heap.size wr w1) :
    LyI w w1 F v vv q0 q1 q2 nb kx ki Fk L keys kids :=
  { h with nodes := h.nodes.kept hb, par := h.par.below hb, nod := h.nod.below hb, rx := own_kept h.rx (only_of_below hb (fun _ => False)) (fun _ _ h => h), ri := own_kept h.ri (only_of_below hb (fun _ => False)) (fun _ _ h => h), only := h.only.trans (only_of_below hb _) }
/-- One more kid's number. -/
theorem LyI.addKid {w u w2 : World} {F : Nat → Prop} {v vv q0 q1 q2 : Value} {nb : Nat} {kx ki ki' : Value} {Fk : Nat → Prop} {L : List NB} {keys : List ByteArray} {kids : List Int} (h : LyI w u F v vv q0 q1 q2 nb kx ki Fk L keys kids) (z : Int)
    (ho : w2.ownsRow 0 3 1 ki' (kids.length + 1) (kids.map (Value.int .i64) ++ [.int .i64 z])) (hg : u.grownBy w2 ki.ownBlock) (ha : ki'.ownBlock = ki.ownBlock ∨ ki'.ownBlock = some u.heap.size) :
    LyI w (w2.setCell ⟨nb, 2, none⟩ ki') F v vv q0 q1 q2 nb kx ki' Fk L keys (kids ++ [z]) := by
  have hlo := h.lo
  have hnb := h.nod.lt
  have hu := h.only.size
  have o1 : Only (fun y => ki.ownBlock = some y) u w2 := only_of_grown hg (fun k e => e)
  have o2 : Only (fun y => y = nb) w2 (w2.setCell ⟨nb, 2, none⟩ ki') := only_set (R := fun y => y = nb) rfl _
  have o3 : Only (fun y => ki.ownBlock = some y ∨ y = nb) u (w2.setCell ⟨nb, 2, none⟩ ki') := (o1.mono (fun _ _ e => .inl e)).then o2 (fun _ _ e => .inr e)
  have new : ∀ y, y < u.heap.size → ki.ownBlock ≠ some y → ki'.ownBlock ≠ some y := by
    intro y hy hne e
    rcases ha with ha | ha
    · exact hne (ha ▸ e)
    · rw [ha] at e; cases e; omega
  have hki : ∀ y, ki'.ownBlock = some y → w.heap.size < y ∧ y ≠ nb := by
    intro y e
    rcases ha with ha | ha
    · exact h.ib y (ha ▸ e)
    · rw [ha] at e; cases e; omega
  refine ⟨h.fw, h.vw, h.lo, h.nodes.to o3 ?_ ?_, h.par.to o3 ?_, ?_, ?_, ?_, ?_, h.ff, ?_, ?_, hki, ?_⟩
  · rintro y hy (e | e)
    · exact (h.vb y hy).2.2.2 e
    · exact (h.vb y hy).2.1 e
  · rintro y hy (e | e)
    · exact (h.fk y hy).2.2.2 e
    · exact (h.fk y hy).2.1 e
  · rintro (e | e)
    · have := h.ib _ e; omega
    · omega
  · have k1 := h.nod.to o1 (fun e => (h.ib nb e).2 rfl)
    exact k1.set 2 ki'
  · exact own_kept h.rx o3 (by
      rintro y hy (e | e)
      · exact (h.xb y hy).2.2 e
      · exact (h.xb y hy).2.1 e)
  · have := own_kept ho o2 (fun y hy e => (hki y hy).2 e)
    simpa using this
  · intro y hy
    obtain ⟨a1, a2, a3, a4⟩ := h.fk y hy
    obtain ⟨V, _, _, _, n4, _⟩ := h.nodes
    exact ⟨a1, a2, a3, new y (n4 y hy).1 a4⟩
  · intro y hy
    obtain ⟨a1, a2, a3, a4⟩ := h.vb y hy
    exact ⟨a1, a2, a3, new y (h.nodes.lt y hy) a4⟩
  · intro y hy
    obtain ⟨a1, a2, a3⟩ := h.xb y hy
    exact ⟨a1, a2, new y (World.ownsRow.lt h.rx y hy).2 a3⟩
  · refine h.only.then o3 (fun y hy e => ?_)
    rcases e with e | e
    · have := h.ib y e; omega
    · omega
/-- One more kid's least key. -/
theorem LyI.addKey {w u w2 : World} {F : Nat → Prop} {v vv q0 q1 q2 : Value} {nb : Nat} {kx ki kx' : Value} {Fk : Nat → Prop} {L : List NB} {keys : List ByteArray} {kids : List Int} (h : LyI w u F v vv q0 q1 q2 nb kx ki Fk L keys kids) (z : ByteArray)
    (ho : w2.ownsRow 0 9 1 kx' (keys.length + 1) (keys.map Value.string ++ [.string z])) (hg : u.grownBy w2 kx.ownBlock) (ha : kx'.ownBlock = kx.ownBlock ∨ kx'.ownBlock = some u.heap.size) :
    LyI w (w2.setCell ⟨nb, 1, none⟩ kx') F v vv q0 q1 q2 nb kx' ki Fk L (keys ++ [z]) kids := by
  have hlo := h.lo
  have hnb := h.nod.lt
  have hu := h.only.size
  have o1 : Only (fun y => kx.ownBlock = some y) u w2 := only_of_grown hg (fun k e => e)
  have o2 : Only (fun y => y = nb) w2 (w2.setCell ⟨nb, 1, none⟩ kx') := only_set (R := fun y => y = nb) rfl _
  have o3 : Only (fun y => kx.ownBlock = some y ∨ y = nb) u (w2.setCell ⟨nb, 1, none⟩ kx') := (o1.mono (fun _ _ e => .inl e)).then o2 (fun _ _ e => .inr e)
  have new : ∀ y, y < u.heap.size → kx.ownBlock ≠ some y → kx'.ownBlock ≠ some y := by
    intro y hy hne e
    rcases ha with ha | ha
    · exact hne (ha ▸ e)
    · rw [ha] at e; cases e; omega
  have hkx : ∀ y, kx'.ownBlock = some y → w.heap.size < y ∧ y ≠ nb ∧ ki.ownBlock ≠ some y := by
    intro y e
    rcases ha with ha | ha
    · exact h.xb y (ha ▸ e)
    · rw [ha] at e; cases e
      exact ⟨by omega, by omega, fun e => by have := (World.ownsRow.lt h.ri _ e).2; omega⟩
  refine ⟨h.fw, h.vw, h.lo, h.nodes.to o3 ?_ ?_, h.par.to o3 ?_, ?_, ?_, ?_, ?_, h.ff, ?_, hkx, h.ib, ?_⟩
  · rintro y hy (e | e)
    · exact (h.vb y hy).2.2.1 e
    · exact (h.vb y hy).2.1 e
  · rintro y hy (e | e)
    · exact (h.fk y hy).2.2.1 e
    · exact (h.fk y hy).2.1 e
  · rintro (e | e)
    · have := h.xb _ e; omega
    · omega
  · have k1 := h.nod.to o1 (fun e => (h.xb nb e).2.1 rfl)
    exact k1.set 1 kx'
  · have := own_kept ho o2 (fun y hy e => (hkx y hy).2.1 e)
    simpa using this
  · exact own_kept h.ri o3 (by
      rintro y hy (e | e)
      · exact (h.xb y e).2.2 hy
      · exact (h.ib y hy).2 e)
  · intro y hy
    obtain ⟨a1, a2, a3, a4⟩ := h.fk y hy
    obtain ⟨V, _, _, _, n4, _⟩ := h.nodes
    exact ⟨a1, a2, new y (n4 y hy).1 a3, a4⟩
  · intro y hy
    obtain ⟨a1, a2, a3, a4⟩ := h.vb y hy
    exact ⟨a1, a2, new y (h.nodes.lt y hy) a3, a4⟩
  · refine h.only.then o3 (fun y hy e => ?_)
    rcases e with e | e
    · have := h.xb y e; omega
    · omega
/-- A kid's nodes have been laid. -/
theorem LyI.sub {w wr w1 : World} {F : Nat → Prop} {v vv v1 q0 q1 q2 : Value} {nb : Nat} {kx ki : Value} {Fk : Nat → Prop} {L M : List NB} {keys : List ByteArray} {kids : List Int} (h : LyI w wr F v vv q0 q1 q2 nb kx ki Fk L keys kids)
    (hn : NO w1 (fun y => Fk y ∨ (wr.heap.size ≤ y ∧ y < w1.heap.size ∧ v1.ownBlock ≠ some y)) v1 M) (ho : Only (fun y => vv.ownBlock = some y) wr w1) (hv : ∀ y, v1.ownBlock = some y → vv.ownBlock = some y ∨ wr.heap.size ≤ y) :
    LyI w w1 F v v1 q0 q1 q2 nb kx ki (fun y => Fk y ∨ (wr.heap.size ≤ y ∧ y < w1.heap.size ∧ v1.ownBlock ≠ some y)) M keys kids := by
  have hlo := h.lo
  have hnb := h.nod.lt
  have hp := h.par.lt
  have lx := fun y e => (World.ownsRow.lt h.rx y e).2
  have li := fun y e => (World.ownsRow.lt h.ri y e).2
  have nx : ∀ y, wr.heap.size ≤ y → y ≠ nb ∧ kx.ownBlock ≠ some y ∧ ki.ownBlock ≠ some y := by
    intro y hy
    refine ⟨by omega, fun e => ?_, fun e => ?_⟩
    · have := lx y e; omega
    · have := li y e; omega
  refine ⟨h.fw, h.vw, h.lo, hn, h.par.to ho (fun e => ?_), h.nod.to ho (fun e => (h.vb nb e).2.1 rfl), own_kept h.rx ho (fun y hy e => (h.vb y e).2.2.1 hy), own_kept h.ri ho (fun y hy e => (h.vb y e).2.2.2 hy), ?_, fun y hy => .inl (h.ff y hy), ?_, h.xb, h.ib, ?_⟩
  · rcases (h.vb _ e).1 with e | e
    · have := h.vw _ e; omega
    · omega
  · rintro y (hy | ⟨hy, _, _⟩)
    · exact h.fk y hy
    · exact ⟨.inr (by omega), nx y hy⟩
  · intro y hy
    rcases hv y hy with e | e
    · exact h.vb y e
    · exact ⟨.inr (by omega), nx y e⟩
  · refine h.only.then ho (fun y hy e => ?_)
    rcases (h.vb y e).1 with e | e
    · exact e
    · omega
end Go.Proofs.YtkfeefaokghibabGreat
/-
  l03Lay of the specification: laws of append for it, and plain facts of lists.
-/
namespace Go.Proofs.YtkfeefaokghibabGreat
open Go.RowKit
theorem wpList_append_zero {w : World} {ops : Array Oper} {rest : List Oper} {o : Oper} {a : Act} {Q : Exit → Act → World → Prop} (hgd : o.guard = none) (s x : Operand)
    (ho : o.op = .call { callee := .builtin .append, args := #[s, x], argTypes := #[28, 28] }) (F : Nat → Prop) (v : Value) (ns : List NB) (hs : a.eval s = v) (hown : NO w F v ns)
    (g : Nat) (hx : a.eval x = .slice (some ⟨g, 0, none⟩) 1 1) (hB : Bk w g 84 [.slice none 0 0, .slice none 0 0, .slice none 0 0]) (hb : ns.length ≤ 1048576)
    (h : ∀ g' n' c' w', NO w' F (.slice (some ⟨g', 0, none⟩) n' c') (ns ++ [⟨[], [], []⟩]) → Hid (n' = ns.length + 1) → w.grownBy w' v.ownBlock → ((Value.slice (some ⟨g', 0, none⟩) n' c').ownBlock = v.ownBlock ∨ (Value.slice (some ⟨g', 0, none⟩) n' c').ownBlock = some w.heap.size) → wpList Tryz.prog ops Q rest (a.put o.dst (.slice (some ⟨g', 0, none⟩) n' c')) w') : wpList Tryz.prog ops Q (o :: rest) a w := by
  obtain ⟨i, hi, hz, hsz, hby⟩ := info_of infoNodeI
  have hown' := hown
  obtain ⟨V, h1, h2, h3, h4⟩ := hown'
  refine wpList_append_row_at hgd s x 28 ho 0 84 i _ 3 72 Tryz.underlying28 hi hz hsz hby rfl (by decide) v ns.length (ncs V) hs h2 (fun _ => True) _ 1 [.slice none 0 0, .slice none 0 0, .slice none 0 0] hx (hB.rw (Nat.le_refl _) (by omega) (fun h => by omega) _ trivial) rfl
    (by intro u hu; simp at hu; subst hu; rfl) (by unfold maxLen; omega) (by omega) (Nat.zero_le _) ?_
  intro v' w' k1 k2 k3
  rcases k1.2 with ⟨_, e⟩ | ⟨g', cap, cur, e, _⟩
  · omega
  · subst e
    refine h g' _ cap w' ?_ rfl k2 k3
    have hN0 : NO w F v ns := hown
    refine hN0.push ⟨[], [], []⟩ (.slice none 0 0, .slice none 0 0, .slice none 0 0) (n1K_nil _ _) (fun V' e1 e2 => ?_) k2 k3
    have hV : ncs V' = ncs V := by
      rcases e2.2 with ⟨rfl, e3⟩ | ⟨g1, c1, cur1, rfl, _, e5, _, _, _, e6⟩
      · rw [List.eq_nil_of_length_eq_zero (by omega : V'.length = 0), List.eq_nil_of_length_eq_zero (by omega : V.length = 0)]
      · rcases h2.2 with ⟨e7, _⟩ | ⟨g2, c2, cur2, e7, _, e8, _, _, _, e9⟩
        · cases e7
        · cases e7
          rw [e5] at e8
          cases e8
          rw [← e6, ← e9]
    rw [hV]
    exact k1
theorem kc0_5 {u : World} {a0 a1 a2 a3 a4 : Addr} {x0 x1 x2 x3 x4 : Value} (h0 : u.cell? a0 = some x0) (h1 : u.cell? a1 = some x1) (h2 : u.cell? a2 = some x2) (h3 : u.cell? a3 = some x3) (h4 : u.cell? a4 = some x4) : KC u u [(a0, x0), (a1, x1), (a2, x2), (a3, x3), (a4, x4)] :=
  ⟨fun p hp => by simp at hp; rcases hp with rfl | rfl | rfl | rfl | rfl <;> assumption, Below.refl _ _⟩
theorem NO.rowAt {w : World} {F : Nat → Prop} {a : Option Addr} {n c : Nat} {ns : List NB} (h : NO w F (.slice a n c) ns) (hp : 0 < ns.length) : ∃ g, a = some ⟨g, 0, none⟩ ∧ Hid (n = ns.length) := by
  obtain ⟨V, h1, h2, h3, h4⟩ := h
  rcases h2.2 with ⟨e, e2⟩ | ⟨g, cap, cur, e, _⟩
  · omega
  · cases e
    exact ⟨g, rfl, rfl⟩
theorem places_length (ks : List T) : ∀ a, (places a ks).length = ks.length := by
  induction ks with
  | nil => intro a; rfl
  | cons k ks ih => intro a; simp [places, ih]
theorem infoStr' : (Tryz.prog.info? 9).map (fun i => (i.zero, i.size, i.bytes)) = some (some (.string ⟨#[]⟩), 1, 16) := by kernel_rfl
theorem infoInt' : (Tryz.prog.info? 3).map (fun i => (i.zero, i.size, i.bytes)) = some (some (.int .i64 0), 1, 8) := by kernel_rfl
theorem wpList_append_int1 {w : World} {ops : Array Oper} {rest : List Oper} {o : Oper} {a : Act} {Q : Exit → Act → World → Prop} (hgd : o.guard = none) (s x : Operand)
    (ho : o.op = .call { callee := .builtin .append, args := #[s, x], argTypes := #[74, 74] }) (v : Value) (n : Nat) (xs : List Value) (hs : a.eval s = v) (hown : w.ownsRow 0 3 1 v n xs)
    (g : Nat) (z : Int) (hx : a.eval x = .slice (some ⟨g, 0, none⟩) 1 1) (hB : Bk w g 3 [.int .i64 z]) (hb : n ≤ 1048576)
    (h : ∀ a' n' c' w', w'.ownsRow 0 3 1 (.slice a' n' c') (n + 1) (xs ++ [.int .i64 z]) → w.grownBy w' v.ownBlock → ((Value.slice a' n' c').ownBlock = v.ownBlock ∨ (Value.slice a' n' c').ownBlock = some w.heap.size) → wpList Tryz.prog ops Q rest (a.put o.dst (.slice a' n' c')) w') : wpList Tryz.prog ops Q (o :: rest) a w := by
  obtain ⟨i, hi, hz, hsz, hby⟩ := info_of infoInt'
  refine wpList_append_row_at hgd s x 74 ho 0 3 i _ 1 8 Tryz.underlying74 hi hz hsz hby rfl (by decide) v n xs hs hown (fun _ => True) _ 1 [.int .i64 z] hx (hB.rw (Nat.le_refl _) (by omega) (fun h => by omega) _ trivial) rfl
    (by intro u hu; simp at hu; subst hu; rfl) (by unfold maxLen; omega) (by omega) (Nat.zero_le _) ?_
  intro v' w' k1 k2 k3
  obtain ⟨a', c', rfl⟩ := own_shape k1
  exact h a' _ c' w' k1 k2 k3
/-- append of one string as a step of a region that draws. -/
theorem step_append_str1 {w : World} {ops : Array Oper} {o : Oper} {a : Act} {K : Act → World → Prop} {Q : Exit → Act → World → Prop} {E : Prop} (hgd : o.guard = none) (s x : Operand)
    (ho : o.op = .call { callee := .builtin .append, args := #[s, x], argTypes := #[73, 73] }) (v : Value) (n : Nat) (xs : List Value) (hs : a.eval s = v) (hown : w.ownsRow 0 9 1 v n xs)
    (g : Nat) (z : ByteArray) (hx : a.eval x = .slice (some ⟨g, 0, none⟩) 1 1) (hB : w.cell? ⟨g, 0, none⟩ = some (.string z)) (hb : n ≤ 1048576) (b0 o0 : Nat) (x0 : Value) (hc0 : w.cell? ⟨b0, o0, none⟩ = some x0) (hf0 : w.frozen? ⟨b0, o0, none⟩ = false) (hne : v.ownBlock ≠ some b0)
    (h : ∀ a' n' c' w', w'.ownsRow 0 9 1 (.slice a' n' c') (n + 1) (xs ++ [.string z]) → w.grownBy w' v.ownBlock → ((Value.slice a' n' c').ownBlock = v.ownBlock ∨ (Value.slice a' n' c').ownBlock = some w.heap.size) → w'.cell? ⟨b0, o0, none⟩ = some x0 → w'.frozen? ⟨b0, o0, none⟩ = false → K (a.put o.dst (.slice a' n' c')) w') :
    if Region.wanted o (yielded ops a.tmps) = true then Oper.wp Tryz.prog o a w K Q else E := by
  have hw : Region.wanted o (yielded ops a.tmps) = true := by simp [Region.wanted, hgd]
  rw [if_pos hw]
  obtain ⟨i, hi, hz, hsz, hby⟩ := info_of infoStr'
  have hsrc : Rw w (fun _ => True) (.slice (some ⟨g, 0, none⟩) 1 1) 1 [.string z] := by
    refine ⟨_, 1, rfl, Nat.le_refl _, by omega, fun h => by omega, fun h => (by cases h), fun _ => ⟨g, 0, rfl, block_lt hB, trivial, fun j u hu => ?_⟩⟩
    cases j with
    | zero => simp at hu; subst hu; simpa using hB
    | succ j => simp at hu
  obtain ⟨v', w', hr, h2, h3, h5⟩ := run_append_row_at (P := Tryz.prog) (w := w) 0 73 o.type 9 i _ 1 16 Tryz.underlying73 hi hz hsz hby rfl (by decide) v n xs hown (fun _ => True) _ 1 [.string z] hsrc rfl (by intro u hu; simp at hu; subst hu; rfl) (by unfold maxLen; omega) (by omega) (Nat.zero_le _)
  obtain ⟨a', c', rfl⟩ := own_shape h2
  have hbl := h3.block b0 (block_lt hc0) (fun e => hne e.symm)
  unfold Oper.wp execOp
  simp only [ho, resolve, invoke, builtin, Sem.run_bind, Sem.run_pure, Result.andThen_ok, List.map_toArray, List.map_cons, List.map_nil, hs, hx, hr]
  exact h a' _ c' w' h2 h3 h5 ((World.cell?_of_block (w := w) (a := ⟨b0, o0, none⟩) hbl).trans hc0) ((World.frozen?_of_block (w := w) (a := ⟨b0, o0, none⟩) hbl).trans hf0)
/-- Cells that are kept, R alone of the blocks having turned. -/
structure KO (R : Nat → Prop) (u v : World) (cs : List (Addr × Value)) : Prop where
  cells : ∀ p ∈ cs, u.cell? p.1 = some p.2 ∧ ¬ R p.1.block
  only : Only R u v
theorem KO.at {R : Nat → Prop} {u v : World} {cs : List (Addr × Value)} (h : KO R u v cs) {a : Addr} {x : Value} (hp : (a, x) ∈ cs) : v.cell? a = some x := by
  obtain ⟨hc, hr⟩ := h.cells (a, x) hp
  exact (World.cell?_of_block (w := u) (h.only.block a.block (block_lt hc) hr)).trans hc
theorem ko4 {R : Nat → Prop} {u v : World} {a0 a1 a2 a3 : Addr} {x0 x1 x2 x3 : Value} (h : KO R u v [(a0, x0), (a1, x1), (a2, x2), (a3, x3)]) : v.cell? a0 = some x0 ∧ v.cell? a1 = some x1 ∧ v.cell? a2 = some x2 ∧ v.cell? a3 = some x3 ∧ KO R u v [(a0, x0), (a1, x1), (a2, x2), (a3, x3)] := ⟨h.at (by simp), h.at (by simp), h.at (by simp), h.at (by simp), h⟩
theorem ko4o {R : Nat → Prop} {u v v' : World} {a0 a1 a2 a3 : Addr} {x0 x1 x2 x3 : Value} (k : Only R v v') (h : v.cell? a0 = some x0 ∧ v.cell? a1 = some x1 ∧ v.cell? a2 = some x2 ∧ v.cell? a3 = some x3 ∧ KO R u v [(a0, x0), (a1, x1), (a2, x2), (a3, x3)]) : v'.cell? a0 = some x0 ∧ v'.cell? a1 = some x1 ∧ v'.cell? a2 = some x2 ∧ v'.cell? a3 = some x3 ∧ KO R u v' [(a0, x0), (a1, x1), (a2, x2), (a3, x3)] :=
  ko4 ⟨h.2.2.2.2.cells, h.2.2.2.2.only.trans k⟩
theorem szL_take (ks : List T) (k : Nat) (h : k < ks.length) : szL (ks.take (k + 1)) = szL (ks.take k) + (tAt ks k).size := by
  induction ks generalizing k with
  | nil => simp at h
  | cons x ks ih =>
    cases k with
    | zero => simp [szL, tAt]
    | succ k =>
      have := ih k (by simpa using h)
      simp only [List.take_succ_cons, szL, this, Nat.add_assoc]
      rfl
theorem layL_take (ks : List T) (k a : Nat) (h : k < ks.length) : layL a (ks.take (k + 1)) = layL a (ks.take k) ++ lay (a + szL (ks.take k)) (tAt ks k) := by
  induction ks generalizing k a with
  | nil => simp at h
  | cons x ks ih =>
    cases k with
    | zero => simp [layL, tAt, szL]
    | succ k =>
      have := ih k (a + x.size) (by simpa using h)
      simp only [List.take_succ_cons, layL, this, List.append_assoc, szL, Nat.add_assoc]
      rfl
theorem places_take (ks : List T) (k a : Nat) (h : k < ks.length) : places a (ks.take (k + 1)) = places a (ks.take k) ++ [((a + szL (ks.take k) : Nat) : Int)] := by
  induction ks generalizing k a with
  | nil => simp at h
  | cons x ks ih =>
    cases k with
    | zero => simp [places, szL]
    | succ k =>
      have := ih k (a + x.size) (by simpa using h)
      simp only [List.take_succ_cons, places, this, List.cons_append, szL, Nat.add_assoc]
theorem keys_take (ks : List T) (k : Nat) (h : k + 1 < ks.length) : (ks.take (k + 1 + 1)).tail.map T.least = (ks.take (k + 1)).tail.map T.least ++ [(tAt ks (k + 1)).least] := by
  cases ks with
  | nil => simp at h
  | cons x ks =>
    simp only [List.take_succ_cons, List.tail_cons]
    have hk : k < ks.length := by simpa using h
    have e : ks.take (k + 1) = ks.take k ++ [tAt (x :: ks) (k + 1)] := by
      rw [List.take_succ_eq_append_getElem hk]
      simp [tAt, hk]
    rw [e, List.map_append]
    rfl
theorem szL_take_le (ks : List T) (k : Nat) : szL (ks.take k) ≤ szL ks := by
  induction ks generalizing k with
  | nil => simp [szL]
  | cons x ks ih =>
    cases k with
    | zero => simp [szL]
    | succ k =>
      have := ih k
      simp only [List.take_succ_cons, szL]
      omega
theorem ncs_set0 (V : List V3) (x : Value) : ∀ j, j < V.length → ncs (V.set j (x, (vAt V j).2)) = (ncs V).set (j * 3) x := by
  induction V with
  | nil => intro j h; exact absurd h (Nat.not_lt_zero _)
  | cons q V ih =>
    intro j h
    cases j with
    | zero => rfl
    | succ j =>
      have := ih j (by simpa using h)
      rw [show (j + 1) * 3 = j * 3 + 3 by omega]
      show q.1 :: q.2.1 :: q.2.2 :: ncs (V.set j (x, (vAt V j).2)) = _
      rw [this]
      rfl
/-- What a store of one cell of a node does. -/
theorem NO.put0 {w : World} {F G : Nat → Prop} {ms l : List NB} {z : NB} {g n c : Nat} {pv : Value} {ps : List PB} (h' : NO w G (.slice (some ⟨g, 0, none⟩) n c) (ms ++ z :: l)) (hGF : ∀ y, G y → F y) (h4 : ∀ y, F y → y < w.heap.size ∧ (Value.slice (some ⟨g, 0, none⟩) n c).ownBlock ≠ some y) (hp : w.ownsRow 0 64 2 pv ps.length (pcs ps)) (hpf : ∀ y, pv.ownBlock = some y → F y ∧ ¬ G y) :
    NO (w.setCell ⟨g, ms.length * 3, none⟩ pv) F (.slice (some ⟨g, 0, none⟩) n c) (ms ++ ⟨ps, z.keys, z.kids⟩ :: l) := by
  obtain ⟨V, h1, h2, h3', _, h5⟩ := h'
  have h3 := fun i hi => (h3' i hi).mono (R := F) (fun y hy _ => hGF y hy)
  have hgb : (Value.slice (some ⟨g, 0, none⟩) n c).ownBlock = some g := rfl
  have o : Only (fun y => y = g) w (w.setCell ⟨g, ms.length * 3, none⟩ pv) := only_set (R := fun y => y = g) rfl _
  have hF : ∀ y, F y → ¬ y = g := fun y hy e => (h4 y hy).2 (by rw [hgb, e])
  have hl : ms.length < (ms ++ z :: l).length := by simp
  have hl2 : (ms ++ (⟨ps, z.keys, z.kids⟩ : NB) :: l).length = (ms ++ z :: l).length := by simp
  have hn := h3 ms.length hl
  rw [nAt_append_at] at hn
  refine ⟨V.set ms.length (pv, (vAt V ms.length).2), by rw [List.length_set, h1, hl2], ?_, fun i hi => ?_, fun y hy => ⟨Nat.lt_of_lt_of_le (h4 y hy).1 o.size, (h4 y hy).2⟩, fun i j hi hj hij y hy hz => ?_⟩
  · rw [ncs_set0 _ _ _ (by omega), hl2]
    obtain ⟨k1, k2⟩ := h2
    rcases k2 with ⟨k2, _⟩ | ⟨g', cap, cur, e, k3, k4, k5, k6, k7, k8⟩
    · cases k2
    · cases e
      refine ⟨by simpa using k1, .inr ⟨g, c, cur.setIfInBounds (ms.length * 3) pv, rfl, k3, ?_, k5, k6, by simpa using k7, ?_⟩⟩
      · simp [World.setCell, Array.getElem?_modify, k4]
      · rw [← k8]
        simp only [Array.toList_setIfInBounds, List.take_set]
  · by_cases e : i = ms.length
    · subst e
      rw [vAt_set _ _ _ (by omega), nAt_append_at]
      have hN' := hn.to o (fun y hy _ => hF y hy)
      have hG' : ∀ y, bl (vAt V ms.length) y → G y := (h3' ms.length hl).2.2.2
      have hown : OwN (w.setCell ⟨g, ms.length * 3, none⟩ pv) (pv, (vAt V ms.length).2) ⟨ps, z.keys, z.kids⟩ := ⟨own_kept hp o (fun y hy e => hF y (hpf y hy).1 e), hN'.2.1.2⟩
      have hbl : ∀ y, bl (pv, (vAt V ms.length).2) y → F y := by
        rintro y (e | e)
        · exact (hpf y e).1
        · exact hGF y (hG' y (.inr e))
      refine ⟨hown.n1 hbl, hown, fun y => ⟨fun e => ⟨fun d => (hpf y e).2 (hG' y (.inr (.inl d))), fun d => (hpf y e).2 (hG' y (.inr (.inr d)))⟩, (hN'.2.2.1 y).2⟩, hbl⟩
    · rw [vAt_other _ _ _ _ e]
      have : nAt (ms ++ (⟨ps, z.keys, z.kids⟩ : NB) :: l) i = nAt (ms ++ z :: l) i := by
        by_cases hi2 : i < ms.length
        · rw [nAt_append_left hi2, nAt_append_left hi2]
        · obtain ⟨j, rfl⟩ : ∃ j, i = ms.length + 1 + j := ⟨i - ms.length - 1, by omega⟩
          simp only [nAt]
          rw [List.getElem?_append_right (by omega), List.getElem?_append_right (by omega), show ms.length + 1 + j - ms.length = j + 1 by omega]
          rfl
      rw [this]
      exact (h3 i (by omega)).to o (fun y hy _ => hF y hy)
  · rw [hl2] at hi hj
    have hot : ∀ k, k < (ms ++ z :: l).length → k ≠ ms.length → ∀ y, bl (pv, (vAt V ms.length).2) y → ¬ bl (vAt V k) y := by
      rintro k hk hne y (e | e) d
      · exact (hpf y e).2 ((h3' k hk).2.2.2 y d)
      · exact h5 ms.length k hl hk (Ne.symm hne) y (.inr e) d
    by_cases e : i = ms.length
    · subst e
      rw [vAt_set _ _ _ (by omega)] at hy
      rw [vAt_other _ _ _ _ (Ne.symm hij)] at hz
      exact hot j hj (Ne.symm hij) y hy hz
    · rw [vAt_other _ _ _ _ e] at hy
      by_cases d : j = ms.length
      · subst d
        rw [vAt_set _ _ _ (by omega)] at hz
        exact hot i hi e y hz hy
      · rw [vAt_other _ _ _ _ d] at hz
        exact h5 i j hi hj hij y hy hz
theorem NO.cells {w : World} {F : Nat → Prop} {g n c : Nat} {ns : List NB} (h : NO w F (.slice (some ⟨g, 0, none⟩) n c) ns) (i : Nat) (hi : i < ns.length) : (∃ x0 x1 x2, w.cell? ⟨g, i * 3, none⟩ = some x0 ∧ w.cell? ⟨g, i * 3 + 1, none⟩ = some x1 ∧ w.cell? ⟨g, i * 3 + 2, none⟩ = some x2) ∧ ∀ o, w.frozen? ⟨g, o, none⟩ = false := by
  obtain ⟨V, h1, h2, h3, h4, _⟩ := h
  have hc := World.ownsRow.cells h2 (g := g) rfl
  obtain ⟨c0, c1, c2⟩ := ncs_at V i (by omega)
  have d0 := hc _ _ c0
  have d1 := hc _ _ c1
  have d2 := hc _ _ c2
  rw [Addr.add_lit, Nat.zero_add] at d0 d1 d2
  refine ⟨⟨_, _, _, d0, d1, d2⟩, fun o => ?_⟩
  rcases h2.2 with ⟨e, _⟩ | ⟨g', cap, cur, e, _, k4, _⟩
  · cases e
  · cases e
    simp [World.frozen?, k4]
end Go.Proofs.YtkfeefaokghibabGreat
/-
  slices.Insert of one element into a row of its own (pairs).
-/
namespace Go.Proofs.YtkfeefaokghibabGreat
open Go.RowKit
/-- What comes of an insertion: a row of its own with the element; of what was there only the old row may have turned. -/
def InsPost (E : TypeId) (size base : Nat) (xs : List Value) (n : Nat) (v : Value) (w : World) (e : Ending) (w' : World) : Prop :=
  ∃ a c, e = .returned (.slice a n c) ∧ w'.ownsRow base E size (.slice a n c) n xs ∧ w.grownBy w' v.ownBlock ∧ ((Value.slice a n c).ownBlock = v.ownBlock ∨ ∃ k, (Value.slice a n c).ownBlock = some k ∧ w.heap.size ≤ k)
theorem grown_only {w w' : World} {o : Option Nat} (h : Only (fun y => o = some y) w w') : w.grownBy w' o := ⟨h.os, h.tape, h.output, h.size, fun k hk hne => h.block k hk (fun e => hne e.symm)⟩
set_option maxHeartbeats 4000000 in
set_option maxRecDepth 100000 in
theorem insertP_any (v : Value) (n i vb base : Nat) (xs ys : List Value) (w : World) (hO : w.ownsRow base 64 2 v n xs) (hbase : base ≤ w.heap.size) (hi : i ≤ n) (hn : n ≤ 1048576) (hB : Bk w vb 64 ys) (hy : ys.length = 2)
    (h1x : ∀ u ∈ xs, u.oneCell' = true) (h1y : ∀ u ∈ ys, u.oneCell' = true) (hne : v.ownBlock ≠ some vb) :
    Calls Tryz.prog 103 #[v, .int .i64 i, .slice (some ⟨vb, 0, none⟩) 1 1] w fun e w' => InsPost 64 2 base (xs.take (i * 2) ++ ys ++ xs.drop (i * 2)) (n + 1) v w e w' := by
  obtain ⟨ti, hti, htz, hts, htb⟩ := info_of infoPairI
  have hsz : (Tryz.prog.info? 64).map (·.size) = some 2 := by rw [hti]; simp [hts]
  have HO := hid hO
  have HB := hid hB
  have HX := hid h1x
  have HY := hid (And.intro hy h1y)
  have HL := hid hO.1
  obtain ⟨a, c, hv⟩ := own_shape hO
  subst hv
  have hnc : n ≤ c ∧ c ≤ 9223372036854775807 := by
    rcases hO.2 with ⟨e, h0⟩ | ⟨g, cap, cur, e, _, _, h5, h6, _⟩
    · cases e; omega
    · cases e; unfold maxLen at h6; omega
  clear h1x hy h1y hB
  by_cases hin : i = n
  · subst hin
    have HE : Hid (xs.take (i * 2) ++ ys ++ xs.drop (i * 2) = xs ++ ys) := by
      show _ = _
      rw [List.take_of_length_le (by have := HL.out; omega), List.drop_eq_nil_of_le (by have := HL.out; omega), List.append_nil]
    clear hO hne
    by_cases hci : c = i
    · subst hci
      go_enter Tryz.func103, Tryz.ntmps103
      go_wp2_with (at_builtin; refine wpList_append_row_at rfl _ _ 47 rfl base 64 ti _ 2 32 Tryz.underlying47 hti htz hts htb rfl (by decide) _ c xs rfl HO.out (fun _ => True) _ 1 ys rfl (HB.out.rw (Nat.le_refl _) (by omega) (fun h => by omega) _ trivial) (by rw [HY.out.1]) HY.out.2 (by unfold maxLen; omega) (by omega) hbase ?_)
      intro v' w' k1 k2 k3
      obtain ⟨a', c', rfl⟩ := own_shape k1
      have HK : Hid (InsPost 64 2 base (xs ++ ys) (c + 1) (.slice a c c) w (.returned (.slice a' (c + 1) c')) w') := ⟨a', c', rfl, k1, k2, by
        rcases k3 with e | e
        · exact .inl e
        · exact .inr ⟨_, e, Nat.le_refl _⟩⟩
      clear k1 k2 k3
      go_wp2
      go_ret
      rw [HE.out]
      exact HK.out
    · have hci' : ¬ c = i := hci
      go_enter Tryz.func103, Tryz.ntmps103
      go_wp2_with (at_builtin; refine wpList_append_row_at rfl _ _ 47 rfl base 64 ti _ 2 32 Tryz.underlying47 hti htz hts htb rfl (by decide) _ i xs rfl HO.out (fun _ => True) _ 1 ys rfl (HB.out.rw (Nat.le_refl _) (by omega) (fun h => by omega) _ trivial) (by rw [HY.out.1]) HY.out.2 (by unfold maxLen; omega) (by omega) hbase ?_)
      intro v' w' k1 k2 k3
      obtain ⟨a', c', rfl⟩ := own_shape k1
      have HK : Hid (InsPost 64 2 base (xs ++ ys) (i + 1) (.slice a i c) w (.returned (.slice a' (i + 1) c')) w') := ⟨a', c', rfl, k1, k2, by
        rcases k3 with e | e
        · exact .inl e
        · exact .inr ⟨_, e, Nat.le_refl _⟩⟩
      clear k1 k2 k3
      go_wp2
      go_ret
      rw [HE.out]
      exact HK.out
  have hlt : i < n := by omega
  obtain ⟨g, cap, cur, e, hbg, hg, hnc', hcap, hcs, htk⟩ : ∃ g cap cur, Value.slice a n c = .slice (some ⟨g, 0, none⟩) n cap ∧ base ≤ g ∧ w.heap[g]? = some (.cells cur 64 (0, 0)) ∧ n ≤ cap ∧ cap ≤ maxLen ∧ cur.size = cap * 2 ∧ cur.toList.take (n * 2) = xs := by
    rcases hO.2 with ⟨_, h0⟩ | h
    · omega
    · first | exact h | simpa only [Nat.mul_one] using h
  cases e
  have hgb : Bk w g 64 cur.toList := by show _ = _; simpa using hg
  have hgv : vb ≠ g := fun e => hne (by rw [e]; rfl)
  have hcl : cur.toList.length = c * 2 := by simpa using hcs
  clear hO hg hcs hne hcap hnc'
  generalize cur.toList = cl at *
  subst htk
  clear cur
  have hci : ¬ c = i := by omega
  have hci1 : ¬ c = i + 1 ∨ c = i + 1 := by omega
  have hi' : ¬ ((i : Int) = (n : Int)) := by omega
  have hii : (i : Int) ≤ (n : Int) := by omega
  have hxl : (cl.take (n * 2)).length = n * 2 := by rw [List.length_take]; omega
  have hdl : ((cl.take (n * 2)).drop (i * 2)).length = (n - i) * 2 := by rw [List.length_drop, hxl] <;> omega
  have hsrc : ∀ j u, (cl.take (n * 2))[j]? = some u → w.cell? ⟨g, j, none⟩ = some u := fun j u hu => by
    refine hgb.cell ?_
    rw [List.getElem?_take] at hu
    split at hu
    · exact hu
    · cases hu
  have hsa : w.shape? vb = some (64, 2) := by
    have h := HB.out
    have h' : w.heap[vb]? = some (.cells ys.toArray 64 (0, 0)) := h
    simp [World.shape?, h', HY.out.1]
  have hsb : w.shape? g = some (64, c * 2) := by
    have h' : w.heap[g]? = some (.cells cl.toArray 64 (0, 0)) := hgb
    simp [World.shape?, h', hcl]
  by_cases hroom : n + 1 ≤ c
  · have hr' : ¬ (c : Int) < (n : Int) + 1 := by omega
    have hmn1 : Nat.min (n + 1 - i) (n - i) = n - i := by simp only [Nat.min_def]; split <;> omega
    have hcp1 : ∀ ty dc sc, (Builtin.copy_ #[47, 47] ty #[.slice (some ⟨g, (i + 1) * 2, none⟩) (n - i) dc, .slice (some ⟨g, i * 2, none⟩) (n + 1 - i) sc]).run Tryz.prog w.drew = .ok (goInt (Nat.min (n + 1 - i) (n - i))) (w.drew.setRow g (cl.take ((i + 1) * 2) ++ (cl.take (n * 2)).drop (i * 2) ++ cl.drop ((i + 1) * 2 + ((cl.take (n * 2)).drop (i * 2)).length)).toArray) := fun ty dc sc =>
      run_copy_rowK w.drew _ _ ty 64 g ((i + 1) * 2) (n - i) dc ⟨g, i * 2, none⟩ (n + 1 - i) sc 2 cl 64 _ Tryz.underlying47 hsz hgb (by rw [hdl, hmn1] <;> omega)
        (fun j u hu => by rw [Addr.add_lit]; exact hsrc _ u (by rwa [List.getElem?_drop] at hu)) (by rw [hdl]; omega) (fun u hu => HX.out u (List.mem_of_mem_drop hu))
    have hg1 := (hgb.below (below_drew w)).setRow (cl.take ((i + 1) * 2) ++ (cl.take (n * 2)).drop (i * 2) ++ cl.drop ((i + 1) * 2 + ((cl.take (n * 2)).drop (i * 2)).length))
    have ho1 : Only (fun y => some g = some y) w (w.drew.setRow g (cl.take ((i + 1) * 2) ++ (cl.take (n * 2)).drop (i * 2) ++ cl.drop ((i + 1) * 2 + ((cl.take (n * 2)).drop (i * 2)).length)).toArray) := (only_of_below (below_drew w) _).trans (only_setRow (R := fun y => some g = some y) rfl _)
    have hil := ins_list cl ys i n 2 (by rw [hcl]; omega) hi HY.out.1
    have hcl1 : (cl.take ((i + 1) * 2) ++ (cl.take (n * 2)).drop (i * 2) ++ cl.drop ((i + 1) * 2 + ((cl.take (n * 2)).drop (i * 2)).length)).length = c * 2 := by
      simp only [List.length_append, List.length_take, List.length_drop, hcl]; omega
    simp only at hil
    generalize cl.take ((i + 1) * 2) ++ (cl.take (n * 2)).drop (i * 2) ++ cl.drop ((i + 1) * 2 + ((cl.take (n * 2)).drop (i * 2)).length) = c1 at *
    generalize w.drew.setRow g c1.toArray = W1 at *
    go_enter Tryz.func103, Tryz.ntmps103
    have hov : ∀ lb cb, (callFunc 110 #[.slice (some ⟨vb, 0, none⟩) 1 1, .slice (some ⟨g, (i + 1) * 2, none⟩) lb cb]).run Tryz.prog w = .ok (.value (.bool false)) w := fun lb cb => by
      rw [run_callFunc_extern Tryz.func110 (by kernel_rfl) (by kernel_rfl) (by kernel_rfl) (e := Extern.SlicesOverlaps.overlaps #[47, 47] #[4]) (by kernel_rfl),
        Lib.run_overlaps_apart w 47 4 64 Tryz.underlying47 2 (fun w => by simp [Go.sizeOf, typeInfo, hti, hts]) ⟨vb, 0, none⟩ ⟨g, (i + 1) * 2, none⟩ 1 1 lb cb hgv 64 64 2 (c * 2) hsa hsb (by omega) (HB.out.free _) (HB.out.free _)]
      rfl
    have hcc : ¬ c = i + 1 := by omega
    have hw1 : IntKind.i64.wrap ((i : Int) + 1) = (i : Int) + 1 := by rw [IntKind.wrap_i64]; omega
    have hb1 : (0 : Int) ≤ (i : Int) + 1 := by omega
    have hb2 : (i : Int) + 1 ≤ (n : Int) + 1 := by omega
    have hb3 : (i : Int) ≤ (n : Int) + 1 := by omega
    have htn : ((i : Int) + 1).toNat = i + 1 := by omega
    have hnn : n + 1 - (i + 1) = n - i := by omega
    go_wp2_with (simp only [hov])
    go_region_law (refine step_copy_run rfl _ _ 47 47 rfl _ _ (by simp [Act.eval, Act.put]) (by simp [Act.eval, Act.put]) (hcp1 _ _ _) ?_)
    have hcp2 : ∀ ty, (Builtin.copy_ #[47, 47] ty #[.slice (some ⟨g, i * 2, none⟩) (n + 1 - i) (c - i), .slice (some ⟨vb, 0, none⟩) 1 1]).run Tryz.prog W1 = .ok (goInt (Nat.min 1 (n + 1 - i))) (W1.setRow g (c1.take (i * 2) ++ ys ++ c1.drop (i * 2 + ys.length)).toArray) := fun ty =>
      run_copy_rowK W1 _ _ ty 64 g (i * 2) (n + 1 - i) (c - i) ⟨vb, 0, none⟩ 1 1 2 c1 64 ys Tryz.underlying47 hsz hg1 (by rw [HY.out.1]; have : Nat.min 1 (n + 1 - i) = 1 := (by simp only [Nat.min_def]; split <;> omega); rw [this])
        (fun j u hu => by rw [Addr.add_lit, Nat.zero_add]; exact ((HB.out.to ho1 (by simpa using hgv.symm)).cell hu)) (by rw [HY.out.1, hcl1]; omega) HY.out.2
    have HF : Hid (InsPost 64 2 base ((cl.take (n * 2)).take (i * 2) ++ ys ++ (cl.take (n * 2)).drop (i * 2)) (n + 1) (.slice (some ⟨g, 0, none⟩) n c) w (.returned (.slice (some ⟨g, 0, none⟩) (n + 1) c)) (W1.setRow g (c1.take (i * 2) ++ ys ++ c1.drop (i * 2 + ys.length)).toArray)) := by
      refine ⟨_, _, rfl, ⟨?_, .inr ⟨g, c, (c1.take (i * 2) ++ ys ++ c1.drop (i * 2 + ys.length)).toArray, rfl, hbg, hg1.setRow _, hroom, by unfold maxLen; omega, ?_, by first | exact hil | simpa only [Nat.mul_one] using hil⟩⟩, grown_only (ho1.trans (only_setRow (R := fun y => some g = some y) rfl _)), .inl rfl⟩
      · simp only [List.length_append, List.length_take, List.length_drop, HY.out.1, hcl]; omega
      · simp only [List.size_toArray, List.length_append, List.length_take, List.length_drop, HY.out.1, hcl1]; omega
    generalize W1.setRow g (c1.take (i * 2) ++ ys ++ c1.drop (i * 2 + ys.length)).toArray = W2 at *
    clear hil hcl1 hg1 ho1 hcp1 hov
    go_wp2_with (at_builtin; refine wpList_copy_run _ rfl _ _ 47 47 rfl _ _ rfl rfl (hcp2 _) ?_)
    go_ret
    exact HF.out
  · have hr' : (c : Int) < (n : Int) + 1 := by omega
    have hkk : (n : Int) + 1 - (i : Int) = ((n + 1 - i : Nat) : Int) := by omega
    have hik : i + (n + 1 - i) = n + 1 := by omega
    have hold : (Builtin.firstCells ti.size i (.slice (some ⟨g, 0, none⟩) i c)).run Tryz.prog w.drew = .ok ((cl.take (n * 2)).take (i * 2)).toArray w.drew := by
      rw [hts]
      refine run_firstCells_some w.drew 2 i ⟨g, 0, none⟩ i c _ (by rw [List.length_take, hxl]; omega) (fun j u hu => ?_)
      rw [Addr.add_lit, Nat.zero_add]
      rw [List.getElem?_take] at hu
      split at hu
      · exact hsrc j u hu
      · cases hu
    have hrz : ∀ ty, (Builtin.append_ #[47, 3] ty #[.slice (some ⟨g, 0, none⟩) i c, .int .i64 ((n : Int) + 1 - (i : Int))]).run Tryz.prog w =
        .ok (.slice (some ⟨w.heap.size, 0, none⟩) (n + 1) (grownCap w (n + 1) c 64)) (w.drew.alloc (.cells (((cl.take (n * 2)).take (i * 2)).toArray ++ Builtin.zeroCells (Value.agg #[.string ⟨#[]⟩, .string ⟨#[]⟩]).cells (n + 1 - i) ++ Builtin.zeroCells (Value.agg #[.string ⟨#[]⟩, .string ⟨#[]⟩]).cells (grownCap w (n + 1) c 64 - (n + 1))) 64)) := fun ty => by
      have h := Lib.run_append_grow_zeros w 47 3 ty 64 ti _ .i64 .i64 Tryz.underlying47 Tryz.underlying3 hti htz (some ⟨g, 0, none⟩) i c ((cl.take (n * 2)).take (i * 2)) hold (n + 1 - i) (by omega) (by omega) (by omega) (by omega) (by rw [htb]; omega) (by rw [htb, hik]; exact growslice_fits (by omega) (by omega))
      rw [hik] at h
      rw [hkk]
      exact h
    have hGn : n + 1 ≤ grownCap w (n + 1) c 64 := grownCap_ge w _ _ _
    have hG63 : grownCap w (n + 1) c 64 ≤ 9223372036854775807 := by
      have := grownCap_le_maxLen w (n + 1) c 64 (by unfold maxLen; omega)
      unfold maxLen at this
      omega
    generalize grownCap w (n + 1) c 64 = G at *
    obtain ⟨Z, hZ⟩ : ∃ Z : List Value, Z = (Builtin.zeroCells (Value.agg #[.string ⟨#[]⟩, .string ⟨#[]⟩]).cells (n + 1 - i)).toList ++ (Builtin.zeroCells (Value.agg #[.string ⟨#[]⟩, .string ⟨#[]⟩]).cells (G - (n + 1))).toList := ⟨_, rfl⟩
    have hZl : Z.length = (n + 1 - i) * 2 + (G - (n + 1)) * 2 := by rw [hZ]; simp [Builtin.zeroCells, Value.cells]
    have hK0 : Bk (w.drew.alloc (.cells (((cl.take (n * 2)).take (i * 2)).toArray ++ Builtin.zeroCells (Value.agg #[.string ⟨#[]⟩, .string ⟨#[]⟩]).cells (n + 1 - i) ++ Builtin.zeroCells (Value.agg #[.string ⟨#[]⟩, .string ⟨#[]⟩]).cells (G - (n + 1))) 64)) w.heap.size 64 ((cl.take (n * 2)).take (i * 2) ++ Z) := by
      have := Bk.new w.drew 64 ((cl.take (n * 2)).take (i * 2) ++ Z)
      have e : ((cl.take (n * 2)).take (i * 2) ++ Z).toArray = ((cl.take (n * 2)).take (i * 2)).toArray ++ Builtin.zeroCells (Value.agg #[.string ⟨#[]⟩, .string ⟨#[]⟩]).cells (n + 1 - i) ++ Builtin.zeroCells (Value.agg #[.string ⟨#[]⟩, .string ⟨#[]⟩]).cells (G - (n + 1)) := by
        rw [hZ]
        apply Array.ext'
        simp
      rw [e] at this
      exact this
    have hb0 : Below w.heap.size w (w.drew.alloc (.cells (((cl.take (n * 2)).take (i * 2)).toArray ++ Builtin.zeroCells (Value.agg #[.string ⟨#[]⟩, .string ⟨#[]⟩]).cells (n + 1 - i) ++ Builtin.zeroCells (Value.agg #[.string ⟨#[]⟩, .string ⟨#[]⟩]).cells (G - (n + 1))) 64)) := Below.then' (below_drew w) (below_new (Below.refl _ _)) (Nat.le_refl _)
    generalize w.drew.alloc (.cells (((cl.take (n * 2)).take (i * 2)).toArray ++ Builtin.zeroCells (Value.agg #[.string ⟨#[]⟩, .string ⟨#[]⟩]).cells (n + 1 - i) ++ Builtin.zeroCells (Value.agg #[.string ⟨#[]⟩, .string ⟨#[]⟩]).cells (G - (n + 1))) 64) = W0 at *
    clear hZ hold
    have hAl : ((cl.take (n * 2)).take (i * 2)).length = i * 2 := by rw [List.length_take, hxl]; omega
    have hEA : ((cl.take (n * 2)).take (i * 2) ++ Z).take (i * 2) ++ ys ++ ((cl.take (n * 2)).take (i * 2) ++ Z).drop (i * 2 + ys.length) = (cl.take (n * 2)).take (i * 2) ++ ys ++ Z.drop 2 := by
      rw [take_at hAl, drop_at hAl, HY.out.1]
    have hcpA : ∀ ty, (Builtin.copy_ #[47, 47] ty #[.slice (some ⟨w.heap.size, i * 2, none⟩) (n + 1 - i) (G - i), .slice (some ⟨vb, 0, none⟩) 1 1]).run Tryz.prog W0 = .ok (goInt (Nat.min 1 (n + 1 - i))) (W0.setRow w.heap.size ((cl.take (n * 2)).take (i * 2) ++ ys ++ Z.drop 2).toArray) := fun ty => by
      rw [← hEA]
      exact run_copy_rowK W0 _ _ ty 64 w.heap.size (i * 2) (n + 1 - i) (G - i) ⟨vb, 0, none⟩ 1 1 2 _ 64 ys Tryz.underlying47 hsz hK0 (by rw [HY.out.1]; have : Nat.min 1 (n + 1 - i) = 1 := (by simp only [Nat.min_def]; split <;> omega); rw [this])
        (fun j u hu => by rw [Addr.add_lit, Nat.zero_add]; exact ((HB.out.below hb0).cell hu)) (by rw [HY.out.1, List.length_append, hAl, hZl]; omega) HY.out.2
    have hK1 := hK0.setRow ((cl.take (n * 2)).take (i * 2) ++ ys ++ Z.drop 2)
    have hb1 : Below w.heap.size w (W0.setRow w.heap.size ((cl.take (n * 2)).take (i * 2) ++ ys ++ Z.drop 2).toArray) := hb0.trans ((only_setRow (R := fun y => y = w.heap.size) rfl _).below hb0.size (fun b h1 h2 => by omega))
    generalize W0.setRow w.heap.size ((cl.take (n * 2)).take (i * 2) ++ ys ++ Z.drop 2).toArray = W1 at *
    have hEB : ((cl.take (n * 2)).take (i * 2) ++ ys ++ Z.drop 2).take ((i + 1) * 2) ++ (cl.take (n * 2)).drop (i * 2) ++ ((cl.take (n * 2)).take (i * 2) ++ ys ++ Z.drop 2).drop ((i + 1) * 2 + ((cl.take (n * 2)).drop (i * 2)).length) = (cl.take (n * 2)).take (i * 2) ++ ys ++ (cl.take (n * 2)).drop (i * 2) ++ Z.drop (2 + (n - i) * 2) := by
      have hl2 : ((cl.take (n * 2)).take (i * 2) ++ ys).length = (i + 1) * 2 := by rw [List.length_append, hAl, HY.out.1] <;> omega
      rw [take_at hl2, drop_at hl2, List.drop_drop, hdl]
    have hcpB : ∀ ty, (Builtin.copy_ #[47, 47] ty #[.slice (some ⟨w.heap.size, (i + 1) * 2, none⟩) (n - i) (G - (i + 1)), .slice (some ⟨g, i * 2, none⟩) (n - i) (c - i)]).run Tryz.prog W1.drew = .ok (goInt (Nat.min (n - i) (n - i))) (W1.drew.setRow w.heap.size ((cl.take (n * 2)).take (i * 2) ++ ys ++ (cl.take (n * 2)).drop (i * 2) ++ Z.drop (2 + (n - i) * 2)).toArray) := fun ty => by
      rw [← hEB]
      exact run_copy_rowK W1.drew _ _ ty 64 w.heap.size ((i + 1) * 2) (n - i) (G - (i + 1)) ⟨g, i * 2, none⟩ (n - i) (c - i) 2 _ 64 _ Tryz.underlying47 hsz (hK1.below (below_drew _)) (by rw [hdl] <;> simp)
        (fun j u hu => by rw [Addr.add_lit]; exact bk_take ((hgb.below hb1).below (below_drew _)) (by rwa [List.getElem?_drop] at hu))
        (by simp only [List.length_append, List.length_drop, hAl, HY.out.1, hZl, hxl]; omega) (fun u hu => HX.out u (List.mem_of_mem_drop hu))
    have HF : Hid (InsPost 64 2 base ((cl.take (n * 2)).take (i * 2) ++ ys ++ (cl.take (n * 2)).drop (i * 2)) (n + 1) (.slice (some ⟨g, 0, none⟩) n c) w (.returned (.slice (some ⟨w.heap.size, 0, none⟩) (n + 1) G)) (W1.drew.setRow w.heap.size ((cl.take (n * 2)).take (i * 2) ++ ys ++ (cl.take (n * 2)).drop (i * 2) ++ Z.drop (2 + (n - i) * 2)).toArray)) := by
      refine ⟨_, _, rfl, ⟨?_, .inr ⟨w.heap.size, G, _, rfl, hbase, (hK1.below (below_drew _)).setRow _, hGn, by unfold maxLen; omega, ?_, ?_⟩⟩, ?_, .inr ⟨_, rfl, Nat.le_refl _⟩⟩
      · simp only [List.length_append, hAl, HY.out.1, hdl]; omega
      · simp only [List.size_toArray, List.length_append, List.length_drop, hAl, HY.out.1, hZl, hxl]; omega
      · try rw [Nat.mul_one (n + 1)]
        show ((cl.take (n * 2)).take (i * 2) ++ ys ++ (cl.take (n * 2)).drop (i * 2) ++ Z.drop (2 + (n - i) * 2)).take ((n + 1) * 2) = _
        have hl3 : ((cl.take (n * 2)).take (i * 2) ++ ys ++ (cl.take (n * 2)).drop (i * 2)).length = (n + 1) * 2 := by simp only [List.length_append, hAl, HY.out.1, hdl]; omega
        rw [List.take_append_of_le_length (by omega), List.take_of_length_le (by omega)]
      · have hb2 := hb1.trans (((only_of_below (below_drew W1) _).trans (only_setRow (R := fun y => y = w.heap.size) rfl ((cl.take (n * 2)).take (i * 2) ++ ys ++ (cl.take (n * 2)).drop (i * 2) ++ Z.drop (2 + (n - i) * 2)).toArray)).below hb1.size (fun b h1 h2 => by omega))
        exact ⟨hb2.os, hb2.tape, hb2.output, hb2.size, fun k hk _ => hb2.block k hk⟩
    generalize W1.drew.setRow w.heap.size ((cl.take (n * 2)).take (i * 2) ++ ys ++ (cl.take (n * 2)).drop (i * 2) ++ Z.drop (2 + (n - i) * 2)).toArray = W2 at *
    have hGi : ¬ G = i := by omega
    have hGi1 : ¬ G = i + 1 := by omega
    have hw1 : IntKind.i64.wrap ((i : Int) + 1) = (i : Int) + 1 := by rw [IntKind.wrap_i64]; omega
    have hbb1 : (0 : Int) ≤ (i : Int) + 1 := by omega
    have hbb2 : (i : Int) + 1 ≤ (n : Int) + 1 := by omega
    have hbb3 : (i : Int) ≤ (n : Int) + 1 := by omega
    have htn : ((i : Int) + 1).toNat = i + 1 := by omega
    have hnn : n + 1 - (i + 1) = n - i := by omega
    clear hEA hEB hK0 hK1 hb0 hb1 hkk hik hsrc
    go_enter Tryz.func103, Tryz.ntmps103
    go_wp2_with (first
      | (at_builtin; refine Lib.wpList_append_run _ rfl _ _ _ _ rfl _ _ rfl rfl _ _ (hrz _) ?_)
      | (at_builtin; refine wpList_copy_run _ rfl _ _ 47 47 rfl _ _ rfl rfl (hcpA _) ?_))
    go_region_law (refine step_copy_run rfl _ _ 47 47 rfl _ _ (by simp [Act.eval, Act.put]) (by simp [Act.eval, Act.put]) (hcpB _) ?_)
    go_wp2
    go_ret
    exact HF.out
end Go.Proofs.YtkfeefaokghibabGreat
/-
  slices.Insert of one element into a row of its own (limbs).
-/
namespace Go.Proofs.YtkfeefaokghibabGreat
open Go.RowKit
theorem infoLimbP : (Tryz.prog.info? 59).map (fun i => (i.zero, i.size, i.bytes)) = some (some (.pointer none), 1, 8) := by kernel_rfl
set_option maxHeartbeats 4000000 in
set_option maxRecDepth 100000 in
theorem insertL_any (v : Value) (n i vb base : Nat) (xs ys : List Value) (w : World) (hO : w.ownsRow base 59 1 v n xs) (hbase : base ≤ w.heap.size) (hi : i ≤ n) (hn : n ≤ 1048576) (hB : Bk w vb 59 ys) (hy : ys.length = 1)
    (h1x : ∀ u ∈ xs, u.oneCell' = true) (h1y : ∀ u ∈ ys, u.oneCell' = true) (hne : v.ownBlock ≠ some vb) :
    Calls Tryz.prog 89 #[v, .int .i64 i, .slice (some ⟨vb, 0, none⟩) 1 1] w fun e w' => InsPost 59 1 base (xs.take (i) ++ ys ++ xs.drop (i)) (n + 1) v w e w' := by
  obtain ⟨ti, hti, htz, hts, htb⟩ := info_of infoLimbP
  have hsz : (Tryz.prog.info? 59).map (·.size) = some 1 := by rw [hti]; simp [hts]
  have HO := hid hO
  have HB := hid hB
  have HX := hid h1x
  have HY := hid (And.intro hy h1y)
  have HL := hid hO.1
  obtain ⟨a, c, hv⟩ := own_shape hO
  subst hv
  have hnc : n ≤ c ∧ c ≤ 9223372036854775807 := by
    rcases hO.2 with ⟨e, h0⟩ | ⟨g, cap, cur, e, _, _, h5, h6, _⟩
    · cases e; omega
    · cases e; unfold maxLen at h6; omega
  clear h1x hy h1y hB
  by_cases hin : i = n
  · subst hin
    have HE : Hid (xs.take (i) ++ ys ++ xs.drop (i) = xs ++ ys) := by
      show _ = _
      rw [List.take_of_length_le (by have := HL.out; omega), List.drop_eq_nil_of_le (by have := HL.out; omega), List.append_nil]
    clear hO hne
    by_cases hci : c = i
    · subst hci
      go_enter Tryz.func89, Tryz.ntmps89
      go_wp2_with (at_builtin; refine wpList_append_row_at rfl _ _ 91 rfl base 59 ti _ 1 8 Tryz.underlying91 hti htz hts htb rfl (by decide) _ c xs rfl HO.out (fun _ => True) _ 1 ys rfl (HB.out.rw (Nat.le_refl _) (by omega) (fun h => by omega) _ trivial) (by rw [HY.out.1]) HY.out.2 (by unfold maxLen; omega) (by omega) hbase ?_)
      intro v' w' k1 k2 k3
      obtain ⟨a', c', rfl⟩ := own_shape k1
      have HK : Hid (InsPost 59 1 base (xs ++ ys) (c + 1) (.slice a c c) w (.returned (.slice a' (c + 1) c')) w') := ⟨a', c', rfl, k1, k2, by
        rcases k3 with e | e
        · exact .inl e
        · exact .inr ⟨_, e, Nat.le_refl _⟩⟩
      clear k1 k2 k3
      go_wp2
      go_ret
      rw [HE.out]
      exact HK.out
    · have hci' : ¬ c = i := hci
      go_enter Tryz.func89, Tryz.ntmps89
      go_wp2_with (at_builtin; refine wpList_append_row_at rfl _ _ 91 rfl base 59 ti _ 1 8 Tryz.underlying91 hti htz hts htb rfl (by decide) _ i xs rfl HO.out (fun _ => True) _ 1 ys rfl (HB.out.rw (Nat.le_refl _) (by omega) (fun h => by omega) _ trivial) (by rw [HY.out.1]) HY.out.2 (by unfold maxLen; omega) (by omega) hbase ?_)
      intro v' w' k1 k2 k3
      obtain ⟨a', c', rfl⟩ := own_shape k1
      have HK : Hid (InsPost 59 1 base (xs ++ ys) (i + 1) (.slice a i c) w (.returned (.slice a' (i + 1) c')) w') := ⟨a', c', rfl, k1, k2, by
        rcases k3 with e | e
        · exact .inl e
        · exact .inr ⟨_, e, Nat.le_refl _⟩⟩
      clear k1 k2 k3
      go_wp2
      go_ret
      rw [HE.out]
      exact HK.out
  have hlt : i < n := by omega
  obtain ⟨g, cap, cur, e, hbg, hg, hnc', hcap, hcs, htk⟩ : ∃ g cap cur, Value.slice a n c = .slice (some ⟨g, 0, none⟩) n cap ∧ base ≤ g ∧ w.heap[g]? = some (.cells cur 59 (0, 0)) ∧ n ≤ cap ∧ cap ≤ maxLen ∧ cur.size = cap ∧ cur.toList.take (n) = xs := by
    rcases hO.2 with ⟨_, h0⟩ | h
    · omega
    · first | exact h | simpa only [Nat.mul_one] using h
  cases e
  have hgb : Bk w g 59 cur.toList := by show _ = _; simpa using hg
  have hgv : vb ≠ g := fun e => hne (by rw [e]; rfl)
  have hcl : cur.toList.length = c := by simpa using hcs
  clear hO hg hcs hne hcap hnc'
  generalize cur.toList = cl at *
  subst htk
  clear cur
  have hci : ¬ c = i := by omega
  have hci1 : ¬ c = i + 1 ∨ c = i + 1 := by omega
  have hi' : ¬ ((i : Int) = (n : Int)) := by omega
  have hii : (i : Int) ≤ (n : Int) := by omega
  have hxl : (cl.take (n)).length = n := by rw [List.length_take]; omega
  have hdl : ((cl.take (n)).drop (i)).length = (n - i) := by rw [List.length_drop, hxl] <;> omega
  have hsrc : ∀ j u, (cl.take (n))[j]? = some u → w.cell? ⟨g, j, none⟩ = some u := fun j u hu => by
    refine hgb.cell ?_
    rw [List.getElem?_take] at hu
    split at hu
    · exact hu
    · cases hu
  have hsa : w.shape? vb = some (59, 1) := by
    have h := HB.out
    have h' : w.heap[vb]? = some (.cells ys.toArray 59 (0, 0)) := h
    simp [World.shape?, h', HY.out.1]
  have hsb : w.shape? g = some (59, c) := by
    have h' : w.heap[g]? = some (.cells cl.toArray 59 (0, 0)) := hgb
    simp [World.shape?, h', hcl]
  by_cases hroom : n + 1 ≤ c
  · have hr' : ¬ (c : Int) < (n : Int) + 1 := by omega
    have hmn1 : Nat.min (n + 1 - i) (n - i) = n - i := by simp only [Nat.min_def]; split <;> omega
    have hcp1 : ∀ ty dc sc, (Builtin.copy_ #[91, 91] ty #[.slice (some ⟨g, (i + 1), none⟩) (n - i) dc, .slice (some ⟨g, i, none⟩) (n + 1 - i) sc]).run Tryz.prog w.drew = .ok (goInt (Nat.min (n + 1 - i) (n - i))) (w.drew.setRow g (cl.take ((i + 1)) ++ (cl.take (n)).drop (i) ++ cl.drop ((i + 1) + ((cl.take (n)).drop (i)).length)).toArray) := fun ty dc sc =>
      run_copy_rowK w.drew _ _ ty 59 g ((i + 1)) (n - i) dc ⟨g, i, none⟩ (n + 1 - i) sc 1 cl 59 _ Tryz.underlying91 hsz hgb (by rw [hdl, hmn1] <;> omega)
        (fun j u hu => by rw [Addr.add_lit]; exact hsrc _ u (by rwa [List.getElem?_drop] at hu)) (by rw [hdl]; omega) (fun u hu => HX.out u (List.mem_of_mem_drop hu))
    have hg1 := (hgb.below (below_drew w)).setRow (cl.take ((i + 1)) ++ (cl.take (n)).drop (i) ++ cl.drop ((i + 1) + ((cl.take (n)).drop (i)).length))
    have ho1 : Only (fun y => some g = some y) w (w.drew.setRow g (cl.take ((i + 1)) ++ (cl.take (n)).drop (i) ++ cl.drop ((i + 1) + ((cl.take (n)).drop (i)).length)).toArray) := (only_of_below (below_drew w) _).trans (only_setRow (R := fun y => some g = some y) rfl _)
    have hil := ins_list cl ys i n 1 (by rw [hcl]; omega) hi HY.out.1
    have hcl1 : (cl.take ((i + 1)) ++ (cl.take (n)).drop (i) ++ cl.drop ((i + 1) + ((cl.take (n)).drop (i)).length)).length = c := by
      simp only [List.length_append, List.length_take, List.length_drop, hcl]; omega
    simp only [Nat.mul_one] at hil
    generalize cl.take ((i + 1)) ++ (cl.take (n)).drop (i) ++ cl.drop ((i + 1) + ((cl.take (n)).drop (i)).length) = c1 at *
    generalize w.drew.setRow g c1.toArray = W1 at *
    go_enter Tryz.func89, Tryz.ntmps89
    have hov : ∀ lb cb, (callFunc 104 #[.slice (some ⟨vb, 0, none⟩) 1 1, .slice (some ⟨g, (i + 1), none⟩) lb cb]).run Tryz.prog w = .ok (.value (.bool false)) w := fun lb cb => by
      rw [run_callFunc_extern Tryz.func104 (by kernel_rfl) (by kernel_rfl) (by kernel_rfl) (e := Extern.SlicesOverlaps.overlaps #[91, 91] #[4]) (by kernel_rfl),
        Lib.run_overlaps_apart w 91 4 59 Tryz.underlying91 1 (fun w => by simp [Go.sizeOf, typeInfo, hti, hts]) ⟨vb, 0, none⟩ ⟨g, (i + 1), none⟩ 1 1 lb cb hgv 59 59 1 (c) hsa hsb (by omega) (HB.out.free _) (HB.out.free _)]
      rfl
    have hcc : ¬ c = i + 1 := by omega
    have hw1 : IntKind.i64.wrap ((i : Int) + 1) = (i : Int) + 1 := by rw [IntKind.wrap_i64]; omega
    have hb1 : (0 : Int) ≤ (i : Int) + 1 := by omega
    have hb2 : (i : Int) + 1 ≤ (n : Int) + 1 := by omega
    have hb3 : (i : Int) ≤ (n : Int) + 1 := by omega
    have htn : ((i : Int) + 1).toNat = i + 1 := by omega
    have hnn : n + 1 - (i + 1) = n - i := by omega
    go_wp2_with (simp only [hov])
    go_region_law (refine step_copy_run rfl _ _ 91 91 rfl _ _ (by simp [Act.eval, Act.put]) (by simp [Act.eval, Act.put]) (hcp1 _ _ _) ?_)
    have hcp2 : ∀ ty, (Builtin.copy_ #[91, 91] ty #[.slice (some ⟨g, i, none⟩) (n + 1 - i) (c - i), .slice (some ⟨vb, 0, none⟩) 1 1]).run Tryz.prog W1 = .ok (goInt (Nat.min 1 (n + 1 - i))) (W1.setRow g (c1.take (i) ++ ys ++ c1.drop (i + ys.length)).toArray) := fun ty =>
      run_copy_rowK W1 _ _ ty 59 g (i) (n + 1 - i) (c - i) ⟨vb, 0, none⟩ 1 1 1 c1 59 ys Tryz.underlying91 hsz hg1 (by rw [HY.out.1]; have : Nat.min 1 (n + 1 - i) = 1 := (by simp only [Nat.min_def]; split <;> omega); rw [this])
        (fun j u hu => by rw [Addr.add_lit, Nat.zero_add]; exact ((HB.out.to ho1 (by simpa using hgv.symm)).cell hu)) (by rw [HY.out.1, hcl1]; omega) HY.out.2
    have HF : Hid (InsPost 59 1 base ((cl.take (n)).take (i) ++ ys ++ (cl.take (n)).drop (i)) (n + 1) (.slice (some ⟨g, 0, none⟩) n c) w (.returned (.slice (some ⟨g, 0, none⟩) (n + 1) c)) (W1.setRow g (c1.take (i) ++ ys ++ c1.drop (i + ys.length)).toArray)) := by
      refine ⟨_, _, rfl, ⟨?_, .inr ⟨g, c, (c1.take (i) ++ ys ++ c1.drop (i + ys.length)).toArray, rfl, hbg, hg1.setRow _, hroom, by unfold maxLen; omega, ?_, by first | exact hil | simpa only [Nat.mul_one] using hil⟩⟩, grown_only (ho1.trans (only_setRow (R := fun y => some g = some y) rfl _)), .inl rfl⟩
      · simp only [List.length_append, List.length_take, List.length_drop, HY.out.1, hcl]; omega
      · simp only [List.size_toArray, List.length_append, List.length_take, List.length_drop, HY.out.1, hcl1]; omega
    generalize W1.setRow g (c1.take (i) ++ ys ++ c1.drop (i + ys.length)).toArray = W2 at *
    clear hil hcl1 hg1 ho1 hcp1 hov
    go_wp2_with (at_builtin; refine wpList_copy_run _ rfl _ _ 91 91 rfl _ _ rfl rfl (hcp2 _) ?_)
    go_ret
    exact HF.out
  · have hr' : (c : Int) < (n : Int) + 1 := by omega
    have hkk : (n : Int) + 1 - (i : Int) = ((n + 1 - i : Nat) : Int) := by omega
    have hik : i + (n + 1 - i) = n + 1 := by omega
    have hold : (Builtin.firstCells ti.size i (.slice (some ⟨g, 0, none⟩) i c)).run Tryz.prog w.drew = .ok ((cl.take (n)).take (i)).toArray w.drew := by
      rw [hts]
      refine run_firstCells_some w.drew 1 i ⟨g, 0, none⟩ i c _ (by rw [List.length_take, hxl]; omega) (fun j u hu => ?_)
      rw [Addr.add_lit, Nat.zero_add]
      rw [List.getElem?_take] at hu
      split at hu
      · exact hsrc j u hu
      · cases hu
    have hrz : ∀ ty, (Builtin.append_ #[91, 3] ty #[.slice (some ⟨g, 0, none⟩) i c, .int .i64 ((n : Int) + 1 - (i : Int))]).run Tryz.prog w =
        .ok (.slice (some ⟨w.heap.size, 0, none⟩) (n + 1) (grownCap w (n + 1) c 59)) (w.drew.alloc (.cells (((cl.take (n)).take (i)).toArray ++ Builtin.zeroCells (Value.pointer none).cells (n + 1 - i) ++ Builtin.zeroCells (Value.pointer none).cells (grownCap w (n + 1) c 59 - (n + 1))) 59)) := fun ty => by
      have h := Lib.run_append_grow_zeros w 91 3 ty 59 ti _ .i64 .i64 Tryz.underlying91 Tryz.underlying3 hti htz (some ⟨g, 0, none⟩) i c ((cl.take (n)).take (i)) hold (n + 1 - i) (by omega) (by omega) (by omega) (by omega) (by rw [htb]; omega) (by rw [htb, hik]; exact growslice_fits (by omega) (by omega))
      rw [hik] at h
      rw [hkk]
      exact h
    have hGn : n + 1 ≤ grownCap w (n + 1) c 59 := grownCap_ge w _ _ _
    have hG63 : grownCap w (n + 1) c 59 ≤ 9223372036854775807 := by
      have := grownCap_le_maxLen w (n + 1) c 59 (by unfold maxLen; omega)
      unfold maxLen at this
      omega
    generalize grownCap w (n + 1) c 59 = G at *
    obtain ⟨Z, hZ⟩ : ∃ Z : List Value, Z = (Builtin.zeroCells (Value.pointer none).cells (n + 1 - i)).toList ++ (Builtin.zeroCells (Value.pointer none).cells (G - (n + 1))).toList := ⟨_, rfl⟩
    have hZl : Z.length = (n + 1 - i) + (G - (n + 1)) := by rw [hZ]; simp [Builtin.zeroCells, Value.cells]
    have hK0 : Bk (w.drew.alloc (.cells (((cl.take (n)).take (i)).toArray ++ Builtin.zeroCells (Value.pointer none).cells (n + 1 - i) ++ Builtin.zeroCells (Value.pointer none).cells (G - (n + 1))) 59)) w.heap.size 59 ((cl.take (n)).take (i) ++ Z) := by
      have := Bk.new w.drew 59 ((cl.take (n)).take (i) ++ Z)
      have e : ((cl.take (n)).take (i) ++ Z).toArray = ((cl.take (n)).take (i)).toArray ++ Builtin.zeroCells (Value.pointer none).cells (n + 1 - i) ++ Builtin.zeroCells (Value.pointer none).cells (G - (n + 1)) := by
        rw [hZ]
        apply Array.ext'
        simp
      rw [e] at this
      exact this
    have hb0 : Below w.heap.size w (w.drew.alloc (.cells (((cl.take (n)).take (i)).toArray ++ Builtin.zeroCells (Value.pointer none).cells (n + 1 - i) ++ Builtin.zeroCells (Value.pointer none).cells (G - (n + 1))) 59)) := Below.then' (below_drew w) (below_new (Below.refl _ _)) (Nat.le_refl _)
    generalize w.drew.alloc (.cells (((cl.take (n)).take (i)).toArray ++ Builtin.zeroCells (Value.pointer none).cells (n + 1 - i) ++ Builtin.zeroCells (Value.pointer none).cells (G - (n + 1))) 59) = W0 at *
    clear hZ hold
    have hAl : ((cl.take (n)).take (i)).length = i := by rw [List.length_take, hxl]; omega
    have hEA : ((cl.take (n)).take (i) ++ Z).take (i) ++ ys ++ ((cl.take (n)).take (i) ++ Z).drop (i + ys.length) = (cl.take (n)).take (i) ++ ys ++ Z.drop 1 := by
      rw [take_at hAl, drop_at hAl, HY.out.1]
    have hcpA : ∀ ty, (Builtin.copy_ #[91, 91] ty #[.slice (some ⟨w.heap.size, i, none⟩) (n + 1 - i) (G - i), .slice (some ⟨vb, 0, none⟩) 1 1]).run Tryz.prog W0 = .ok (goInt (Nat.min 1 (n + 1 - i))) (W0.setRow w.heap.size ((cl.take (n)).take (i) ++ ys ++ Z.drop 1).toArray) := fun ty => by
      rw [← hEA]
      exact run_copy_rowK W0 _ _ ty 59 w.heap.size (i) (n + 1 - i) (G - i) ⟨vb, 0, none⟩ 1 1 1 _ 59 ys Tryz.underlying91 hsz hK0 (by rw [HY.out.1]; have : Nat.min 1 (n + 1 - i) = 1 := (by simp only [Nat.min_def]; split <;> omega); rw [this])
        (fun j u hu => by rw [Addr.add_lit, Nat.zero_add]; exact ((HB.out.below hb0).cell hu)) (by rw [HY.out.1, List.length_append, hAl, hZl]; omega) HY.out.2
    have hK1 := hK0.setRow ((cl.take (n)).take (i) ++ ys ++ Z.drop 1)
    have hb1 : Below w.heap.size w (W0.setRow w.heap.size ((cl.take (n)).take (i) ++ ys ++ Z.drop 1).toArray) := hb0.trans ((only_setRow (R := fun y => y = w.heap.size) rfl _).below hb0.size (fun b h1 h2 => by omega))
    generalize W0.setRow w.heap.size ((cl.take (n)).take (i) ++ ys ++ Z.drop 1).toArray = W1 at *
    have hEB : ((cl.take (n)).take (i) ++ ys ++ Z.drop 1).take ((i + 1)) ++ (cl.take (n)).drop (i) ++ ((cl.take (n)).take (i) ++ ys ++ Z.drop 1).drop ((i + 1) + ((cl.take (n)).drop (i)).length) = (cl.take (n)).take (i) ++ ys ++ (cl.take (n)).drop (i) ++ Z.drop (1 + (n - i)) := by
      have hl2 : ((cl.take (n)).take (i) ++ ys).length = (i + 1) := by rw [List.length_append, hAl, HY.out.1] <;> omega
      rw [take_at hl2, drop_at hl2, List.drop_drop, hdl]
    have hcpB : ∀ ty, (Builtin.copy_ #[91, 91] ty #[.slice (some ⟨w.heap.size, (i + 1), none⟩) (n - i) (G - (i + 1)), .slice (some ⟨g, i, none⟩) (n - i) (c - i)]).run Tryz.prog W1.drew = .ok (goInt (Nat.min (n - i) (n - i))) (W1.drew.setRow w.heap.size ((cl.take (n)).take (i) ++ ys ++ (cl.take (n)).drop (i) ++ Z.drop (1 + (n - i))).toArray) := fun ty => by
      rw [← hEB]
      exact run_copy_rowK W1.drew _ _ ty 59 w.heap.size ((i + 1)) (n - i) (G - (i + 1)) ⟨g, i, none⟩ (n - i) (c - i) 1 _ 59 _ Tryz.underlying91 hsz (hK1.below (below_drew _)) (by rw [hdl] <;> simp)
        (fun j u hu => by rw [Addr.add_lit]; exact bk_take ((hgb.below hb1).below (below_drew _)) (by rwa [List.getElem?_drop] at hu))
        (by simp only [List.length_append, List.length_drop, hAl, HY.out.1, hZl, hxl]; omega) (fun u hu => HX.out u (List.mem_of_mem_drop hu))
    have HF : Hid (InsPost 59 1 base ((cl.take (n)).take (i) ++ ys ++ (cl.take (n)).drop (i)) (n + 1) (.slice (some ⟨g, 0, none⟩) n c) w (.returned (.slice (some ⟨w.heap.size, 0, none⟩) (n + 1) G)) (W1.drew.setRow w.heap.size ((cl.take (n)).take (i) ++ ys ++ (cl.take (n)).drop (i) ++ Z.drop (1 + (n - i))).toArray)) := by
      refine ⟨_, _, rfl, ⟨?_, .inr ⟨w.heap.size, G, _, rfl, hbase, (hK1.below (below_drew _)).setRow _, hGn, by unfold maxLen; omega, ?_, ?_⟩⟩, ?_, .inr ⟨_, rfl, Nat.le_refl _⟩⟩
      · simp only [List.length_append, hAl, HY.out.1, hdl]; omega
      · simp only [List.size_toArray, List.length_append, List.length_drop, hAl, HY.out.1, hZl, hxl]; omega
      · try rw [Nat.mul_one (n + 1)]
        show ((cl.take (n)).take (i) ++ ys ++ (cl.take (n)).drop (i) ++ Z.drop (1 + (n - i))).take ((n + 1)) = _
        have hl3 : ((cl.take (n)).take (i) ++ ys ++ (cl.take (n)).drop (i)).length = (n + 1) := by simp only [List.length_append, hAl, HY.out.1, hdl]; omega
        rw [List.take_append_of_le_length (by omega), List.take_of_length_le (by omega)]
      · have hb2 := hb1.trans (((only_of_below (below_drew W1) _).trans (only_setRow (R := fun y => y = w.heap.size) rfl ((cl.take (n)).take (i) ++ ys ++ (cl.take (n)).drop (i) ++ Z.drop (1 + (n - i))).toArray)).below hb1.size (fun b h1 h2 => by omega))
        exact ⟨hb2.os, hb2.tape, hb2.output, hb2.size, fun k hk _ => hb2.block k hk⟩
    generalize W1.drew.setRow w.heap.size ((cl.take (n)).take (i) ++ ys ++ (cl.take (n)).drop (i) ++ Z.drop (1 + (n - i))).toArray = W2 at *
    have hGi : ¬ G = i := by omega
    have hGi1 : ¬ G = i + 1 := by omega
    have hw1 : IntKind.i64.wrap ((i : Int) + 1) = (i : Int) + 1 := by rw [IntKind.wrap_i64]; omega
    have hbb1 : (0 : Int) ≤ (i : Int) + 1 := by omega
    have hbb2 : (i : Int) + 1 ≤ (n : Int) + 1 := by omega
    have hbb3 : (i : Int) ≤ (n : Int) + 1 := by omega
    have htn : ((i : Int) + 1).toNat = i + 1 := by omega
    have hnn : n + 1 - (i + 1) = n - i := by omega
    clear hEA hEB hK0 hK1 hb0 hb1 hkk hik hsrc
    go_enter Tryz.func89, Tryz.ntmps89
    go_wp2_with (first
      | (at_builtin; refine Lib.wpList_append_run _ rfl _ _ _ _ rfl _ _ rfl rfl _ _ (hrz _) ?_)
      | (at_builtin; refine wpList_copy_run _ rfl _ _ 91 91 rfl _ _ rfl rfl (hcpA _) ?_))
    go_region_law (refine step_copy_run rfl _ _ 91 91 rfl _ _ (by simp [Act.eval, Act.put]) (by simp [Act.eval, Act.put]) (hcpB _) ?_)
    go_wp2
    go_ret
    exact HF.out
end Go.Proofs.YtkfeefaokghibabGreat
/-
  slices.Grow of nil, slices.Concat of two (pairs).
-/
namespace Go.Proofs.YtkfeefaokghibabGreat
open Go.RowKit
/-- What is made newly: a row of its own, beside all that was there. -/
def NewPost (E : TypeId) (size n : Nat) (xs : List Value) (w : World) (e : Ending) (w' : World) : Prop := ∃ a c, e = .returned (.slice a n c) ∧ w'.ownsRow w.heap.size E size (.slice a n c) n xs ∧ Below w.heap.size w w'
set_option maxHeartbeats 2000000 in
set_option maxRecDepth 100000 in
theorem growP_any (k : Nat) (w : World) (hk : k ≤ 2097152) : Calls Tryz.prog 119 #[.slice none 0 0, .int .i64 k] w fun e w' => NewPost 64 2 0 [] w e w' := by
  obtain ⟨ti, hti, htz, hts, htb⟩ := info_of infoPairI
  rcases Nat.eq_zero_or_pos k with h0 | hp
  · subst h0
    go_enter Tryz.func119, Tryz.ntmps119
    go_wp2
    go_ret
    exact ⟨_, _, rfl, World.ownsRow_nil _ _ _ _, Below.refl _ _⟩
  · have hold : (Builtin.firstCells ti.size 0 (.slice none 0 0)).run Tryz.prog w.drew = .ok ([] : List Value).toArray w.drew := by simp [Builtin.firstCells]
    have hrz : ∀ ty, (Builtin.append_ #[47, 3] ty #[.slice none 0 0, .int .i64 (k : Int)]).run Tryz.prog w =
        .ok (.slice (some ⟨w.heap.size, 0, none⟩) k (grownCap w k 0 64)) (w.drew.alloc (.cells (([] : List Value).toArray ++ Builtin.zeroCells (Value.agg #[.string ⟨#[]⟩, .string ⟨#[]⟩]).cells k ++ Builtin.zeroCells (Value.agg #[.string ⟨#[]⟩, .string ⟨#[]⟩]).cells (grownCap w k 0 64 - k)) 64)) := fun ty => by
      have h := Lib.run_append_grow_zeros w 47 3 ty 64 ti _ .i64 .i64 Tryz.underlying47 Tryz.underlying3 hti htz none 0 0 [] hold k hp (by omega) (by omega) (by omega) (by rw [htb]; omega) (by rw [htb, Nat.zero_add]; exact growslice_fits (by omega) (by omega))
      rw [Nat.zero_add] at h
      exact h
    have hGn : k ≤ grownCap w k 0 64 := grownCap_ge w _ _ _
    have hG63 : grownCap w k 0 64 ≤ 9223372036854775807 := by
      have := grownCap_le_maxLen w k 0 64 (by unfold maxLen; omega)
      unfold maxLen at this
      omega
    generalize grownCap w k 0 64 = G at *
    have HK : Hid (NewPost 64 2 0 [] w (.returned (.slice (some ⟨w.heap.size, 0, none⟩) 0 G)) (w.drew.alloc (.cells (([] : List Value).toArray ++ Builtin.zeroCells (Value.agg #[.string ⟨#[]⟩, .string ⟨#[]⟩]).cells k ++ Builtin.zeroCells (Value.agg #[.string ⟨#[]⟩, .string ⟨#[]⟩]).cells (G - k)) 64))) := by
      refine ⟨_, _, rfl, ⟨rfl, .inr ⟨w.heap.size, G, _, rfl, Nat.le_refl _, heap_alloc_new w.drew _, Nat.zero_le _, by unfold maxLen; omega, ?_, by simp⟩⟩, Below.then' (below_drew w) (below_new (Below.refl _ _)) (Nat.le_refl _)⟩
      simp [Builtin.zeroCells, Value.cells]
      omega
    generalize w.drew.alloc (.cells (([] : List Value).toArray ++ Builtin.zeroCells (Value.agg #[.string ⟨#[]⟩, .string ⟨#[]⟩]).cells k ++ Builtin.zeroCells (Value.agg #[.string ⟨#[]⟩, .string ⟨#[]⟩]).cells (G - k)) 64) = W0 at *
    have hk1 : (0 : Int) < (k : Int) := by omega
    clear hold
    go_enter Tryz.func119, Tryz.ntmps119
    go_wp2_with (at_builtin; refine Lib.wpList_append_run _ rfl _ _ _ _ rfl _ _ rfl rfl _ _ (hrz _) ?_)
    go_ret
    exact HK.out
set_option maxHeartbeats 4000000 in
set_option maxRecDepth 20000 in
theorem concatP_any (S1 S2 : Nat → Prop) (a1 a2 : Option Addr) (n1 n2 c1 c2 cb : Nat) (xs1 xs2 : List Value) (w : World) (h1 : Rw w S1 (.slice a1 n1 c1) n1 xs1) (h2 : Rw w S2 (.slice a2 n2 c2) n2 xs2) (hc : Bk w cb 47 [.slice a1 n1 c1, .slice a2 n2 c2])
    (hb1 : n1 ≤ 1048576) (hb2 : n2 ≤ 1048576) (hl1 : xs1.length = n1 * 2) (hl2 : xs2.length = n2 * 2) (ho1 : ∀ u ∈ xs1, u.oneCell' = true) (ho2 : ∀ u ∈ xs2, u.oneCell' = true) :
    Calls Tryz.prog 113 #[.slice (some ⟨cb, 0, none⟩) 2 2] w fun e w' => NewPost 64 2 (n1 + n2) (xs1 ++ xs2) w e w' := by
  obtain ⟨ti, hti, htz, hts, htb⟩ := info_of infoPairI
  have H1 := hid h1
  have H2 := hid h2
  have HC := hid hc
  have HX1 := hid (And.intro hl1 ho1)
  have HX2 := hid (And.intro hl2 ho2)
  clear h1 h2 hc hl1 hl2 ho1 ho2
  have c0 := HC.out.cell (j := 0) rfl
  have c1' := HC.out.cell (j := 1) rfl
  go_enter Tryz.func113, Tryz.ntmps113
  go_wp2_with fail
  go_loop [3, 11] (fun x i => (i = .int .i64 0 ∧ x = .int .i64 0) ∨ (i = .int .i64 1 ∧ x = .int .i64 (n1 : Int)) ∨ (i = .int .i64 2 ∧ x = .int .i64 ((n1 + n2 : Nat) : Int))) (fun _ i => 2 - (intOf i).toNat)
  case atStart => exact .inl ⟨rfl, rfl⟩
  case round =>
    rcases hrel with ⟨rfl, rfl⟩ | ⟨rfl, rfl⟩ | ⟨rfl, rfl⟩
    · go_wp2
      go_round
      case rel => exact .inr (.inl ⟨rfl, by go_num⟩)
      case measure => simp [intOf]
    · go_wp2
      go_round
      case rel => exact .inr (.inr ⟨rfl, by go_num⟩)
      case measure => simp [intOf]
    · clear c0 c1'
      have hnn : n1 + n2 ≤ 2097152 := by omega
      go_wp2_with fail
      refine (growP_any (n1 + n2) w hnn).mono ?_
      rintro e w1 ⟨av, cv, rfl, hO, hb⟩
      have HO := hid hO
      have HB := hid hb
      clear hO hb
      go_wp2_with fail
      go_loopw [6, 27] (fun x i wr => ∃ (a : Option Addr) (m c : Nat), x = .slice a m c ∧ Hid (Below w.heap.size w wr) ∧ ((i = .int .i64 0 ∧ m = 0 ∧ Hid (wr.ownsRow w.heap.size 64 2 (.slice a m c) m [])) ∨ (i = .int .i64 1 ∧ m = n1 ∧ Hid (wr.ownsRow w.heap.size 64 2 (.slice a m c) m xs1)) ∨ (i = .int .i64 2 ∧ m = n1 + n2 ∧ Hid (wr.ownsRow w.heap.size 64 2 (.slice a m c) m (xs1 ++ xs2))))) (fun _ i _ => 2 - (intOf i).toNat)
      case atStart => exact ⟨av, 0, cv, rfl, HB.out, .inl ⟨rfl, rfl, HO.out⟩⟩
      case round =>
        obtain ⟨a, m, c, rfl, HBW, hcase⟩ := hrel
        rcases hcase with ⟨rfl, rfl, HO2⟩ | ⟨rfl, hm, HO2⟩ | ⟨rfl, hm, HO2⟩
        · have d0 := (HC.out.below HBW.out).cell (j := 0) rfl
          have HR := hid (H1.out.below HBW.out)
          have hsz := HBW.out.size
          go_wp2_with (at_builtin; refine wpList_append_row_at rfl _ _ 47 rfl w.heap.size 64 ti _ 2 32 Tryz.underlying47 hti htz hts htb rfl (by decide) _ 0 [] rfl HO2.out _ _ n1 xs1 rfl HR.out HX1.out.1 HX1.out.2 (by unfold maxLen; omega) (by omega) hsz ?_)
          intro v' w' k1 k2 k3
          try rw [Nat.zero_add] at k1
          obtain ⟨a', c', rfl⟩ := own_shape k1
          have HB3 := hid (HBW.out.grown k2 HBW.out.size fun k hk => (World.ownsRow.lt HO2.out k hk).1)
          have HO3 : Hid (w'.ownsRow w.heap.size 64 2 (.slice a' n1 c') n1 xs1) := k1
          clear k1 k2 k3 d0
          go_wp2
          go_roundw
          case rel => exact ⟨a', n1, c', rfl, HB3.out, .inr (.inl ⟨rfl, rfl, HO3.out⟩)⟩
          case measure => simp [intOf]
        · subst hm
          have d0 := (HC.out.below HBW.out).cell (j := 1) rfl
          have HR := hid (H2.out.below HBW.out)
          have hsz := HBW.out.size
          go_wp2_with (at_builtin; refine wpList_append_row_at rfl _ _ 47 rfl w.heap.size 64 ti _ 2 32 Tryz.underlying47 hti htz hts htb rfl (by decide) _ _ xs1 rfl HO2.out _ _ n2 xs2 rfl HR.out HX2.out.1 HX2.out.2 (by unfold maxLen; omega) (by omega) hsz ?_)
          intro v' w' k1 k2 k3
          obtain ⟨a', c', rfl⟩ := own_shape k1
          have HB3 := hid (HBW.out.grown k2 HBW.out.size fun k hk => (World.ownsRow.lt HO2.out k hk).1)
          have HO3 := hid k1
          clear k1 k2 k3 d0
          go_wp2
          go_roundw
          case rel => exact ⟨a', _, c', rfl, HB3.out, .inr (.inr ⟨rfl, rfl, HO3.out⟩)⟩
          case measure => simp [intOf]
        · subst hm
          go_wp2
          go_ret
          exact ⟨a, c, rfl, HO2.out, HBW.out⟩
end Go.Proofs.YtkfeefaokghibabGreat
/-
  slices.Grow of nil, slices.Concat of two (limbs).
-/
namespace Go.Proofs.YtkfeefaokghibabGreat
open Go.RowKit

set_option maxHeartbeats 2000000 in
set_option maxRecDepth 100000 in
theorem growL_any (k : Nat) (w : World) (hk : k ≤ 2097152) : Calls Tryz.prog 120 #[.slice none 0 0, .int .i64 k] w fun e w' => NewPost 59 1 0 [] w e w' := by
  obtain ⟨ti, hti, htz, hts, htb⟩ := info_of infoLimbP
  rcases Nat.eq_zero_or_pos k with h0 | hp
  · subst h0
    go_enter Tryz.func120, Tryz.ntmps120
    go_wp2
    go_ret
    exact ⟨_, _, rfl, World.ownsRow_nil _ _ _ _, Below.refl _ _⟩
  · have hold : (Builtin.firstCells ti.size 0 (.slice none 0 0)).run Tryz.prog w.drew = .ok ([] : List Value).toArray w.drew := by simp [Builtin.firstCells]
    have hrz : ∀ ty, (Builtin.append_ #[91, 3] ty #[.slice none 0 0, .int .i64 (k : Int)]).run Tryz.prog w =
        .ok (.slice (some ⟨w.heap.size, 0, none⟩) k (grownCap w k 0 59)) (w.drew.alloc (.cells (([] : List Value).toArray ++ Builtin.zeroCells (Value.pointer none).cells k ++ Builtin.zeroCells (Value.pointer none).cells (grownCap w k 0 59 - k)) 59)) := fun ty => by
      have h := Lib.run_append_grow_zeros w 91 3 ty 59 ti _ .i64 .i64 Tryz.underlying91 Tryz.underlying3 hti htz none 0 0 [] hold k hp (by omega) (by omega) (by omega) (by rw [htb]; omega) (by rw [htb, Nat.zero_add]; exact growslice_fits (by omega) (by omega))
      rw [Nat.zero_add] at h
      exact h
    have hGn : k ≤ grownCap w k 0 59 := grownCap_ge w _ _ _
    have hG63 : grownCap w k 0 59 ≤ 9223372036854775807 := by
      have := grownCap_le_maxLen w k 0 59 (by unfold maxLen; omega)
      unfold maxLen at this
      omega
    generalize grownCap w k 0 59 = G at *
    have HK : Hid (NewPost 59 1 0 [] w (.returned (.slice (some ⟨w.heap.size, 0, none⟩) 0 G)) (w.drew.alloc (.cells (([] : List Value).toArray ++ Builtin.zeroCells (Value.pointer none).cells k ++ Builtin.zeroCells (Value.pointer none).cells (G - k)) 59))) := by
      refine ⟨_, _, rfl, ⟨rfl, .inr ⟨w.heap.size, G, _, rfl, Nat.le_refl _, heap_alloc_new w.drew _, Nat.zero_le _, by unfold maxLen; omega, ?_, by simp⟩⟩, Below.then' (below_drew w) (below_new (Below.refl _ _)) (Nat.le_refl _)⟩
      simp [Builtin.zeroCells, Value.cells]
      omega
    generalize w.drew.alloc (.cells (([] : List Value).toArray ++ Builtin.zeroCells (Value.pointer none).cells k ++ Builtin.zeroCells (Value.pointer none).cells (G - k)) 59) = W0 at *
    have hk1 : (0 : Int) < (k : Int) := by omega
    clear hold
    go_enter Tryz.func120, Tryz.ntmps120
    go_wp2_with (at_builtin; refine Lib.wpList_append_run _ rfl _ _ _ _ rfl _ _ rfl rfl _ _ (hrz _) ?_)
    go_ret
    exact HK.out
set_option maxHeartbeats 4000000 in
set_option maxRecDepth 20000 in
theorem concatL_any (S1 S2 : Nat → Prop) (a1 a2 : Option Addr) (n1 n2 c1 c2 cb : Nat) (xs1 xs2 : List Value) (w : World) (h1 : Rw w S1 (.slice a1 n1 c1) n1 xs1) (h2 : Rw w S2 (.slice a2 n2 c2) n2 xs2) (hc : Bk w cb 91 [.slice a1 n1 c1, .slice a2 n2 c2])
    (hb1 : n1 ≤ 1048576) (hb2 : n2 ≤ 1048576) (hl1 : xs1.length = n1 * 1) (hl2 : xs2.length = n2 * 1) (ho1 : ∀ u ∈ xs1, u.oneCell' = true) (ho2 : ∀ u ∈ xs2, u.oneCell' = true) :
    Calls Tryz.prog 114 #[.slice (some ⟨cb, 0, none⟩) 2 2] w fun e w' => NewPost 59 1 (n1 + n2) (xs1 ++ xs2) w e w' := by
  obtain ⟨ti, hti, htz, hts, htb⟩ := info_of infoLimbP
  have H1 := hid h1
  have H2 := hid h2
  have HC := hid hc
  have HX1 := hid (And.intro hl1 ho1)
  have HX2 := hid (And.intro hl2 ho2)
  clear h1 h2 hc hl1 hl2 ho1 ho2
  have c0 := HC.out.cell (j := 0) rfl
  have c1' := HC.out.cell (j := 1) rfl
  go_enter Tryz.func114, Tryz.ntmps114
  go_wp2_with fail
  go_loop [3, 11] (fun x i => (i = .int .i64 0 ∧ x = .int .i64 0) ∨ (i = .int .i64 1 ∧ x = .int .i64 (n1 : Int)) ∨ (i = .int .i64 2 ∧ x = .int .i64 ((n1 + n2 : Nat) : Int))) (fun _ i => 2 - (intOf i).toNat)
  case atStart => exact .inl ⟨rfl, rfl⟩
  case round =>
    rcases hrel with ⟨rfl, rfl⟩ | ⟨rfl, rfl⟩ | ⟨rfl, rfl⟩
    · go_wp2
      go_round
      case rel => exact .inr (.inl ⟨rfl, by go_num⟩)
      case measure => simp [intOf]
    · go_wp2
      go_round
      case rel => exact .inr (.inr ⟨rfl, by go_num⟩)
      case measure => simp [intOf]
    · clear c0 c1'
      have hnn : n1 + n2 ≤ 2097152 := by omega
      go_wp2_with fail
      refine (growL_any (n1 + n2) w hnn).mono ?_
      rintro e w1 ⟨av, cv, rfl, hO, hb⟩
      have HO := hid hO
      have HB := hid hb
      clear hO hb
      go_wp2_with fail
      go_loopw [6, 27] (fun x i wr => ∃ (a : Option Addr) (m c : Nat), x = .slice a m c ∧ Hid (Below w.heap.size w wr) ∧ ((i = .int .i64 0 ∧ m = 0 ∧ Hid (wr.ownsRow w.heap.size 59 1 (.slice a m c) m [])) ∨ (i = .int .i64 1 ∧ m = n1 ∧ Hid (wr.ownsRow w.heap.size 59 1 (.slice a m c) m xs1)) ∨ (i = .int .i64 2 ∧ m = n1 + n2 ∧ Hid (wr.ownsRow w.heap.size 59 1 (.slice a m c) m (xs1 ++ xs2))))) (fun _ i _ => 2 - (intOf i).toNat)
      case atStart => exact ⟨av, 0, cv, rfl, HB.out, .inl ⟨rfl, rfl, HO.out⟩⟩
      case round =>
        obtain ⟨a, m, c, rfl, HBW, hcase⟩ := hrel
        rcases hcase with ⟨rfl, rfl, HO2⟩ | ⟨rfl, hm, HO2⟩ | ⟨rfl, hm, HO2⟩
        · have d0 := (HC.out.below HBW.out).cell (j := 0) rfl
          have HR := hid (H1.out.below HBW.out)
          have hsz := HBW.out.size
          go_wp2_with (at_builtin; refine wpList_append_row_at rfl _ _ 91 rfl w.heap.size 59 ti _ 1 8 Tryz.underlying91 hti htz hts htb rfl (by decide) _ 0 [] rfl HO2.out _ _ n1 xs1 rfl HR.out HX1.out.1 HX1.out.2 (by unfold maxLen; omega) (by omega) hsz ?_)
          intro v' w' k1 k2 k3
          try rw [Nat.zero_add] at k1
          obtain ⟨a', c', rfl⟩ := own_shape k1
          have HB3 := hid (HBW.out.grown k2 HBW.out.size fun k hk => (World.ownsRow.lt HO2.out k hk).1)
          have HO3 : Hid (w'.ownsRow w.heap.size 59 1 (.slice a' n1 c') n1 xs1) := k1
          clear k1 k2 k3 d0
          go_wp2
          go_roundw
          case rel => exact ⟨a', n1, c', rfl, HB3.out, .inr (.inl ⟨rfl, rfl, HO3.out⟩)⟩
          case measure => simp [intOf]
        · subst hm
          have d0 := (HC.out.below HBW.out).cell (j := 1) rfl
          have HR := hid (H2.out.below HBW.out)
          have hsz := HBW.out.size
          go_wp2_with (at_builtin; refine wpList_append_row_at rfl _ _ 91 rfl w.heap.size 59 ti _ 1 8 Tryz.underlying91 hti htz hts htb rfl (by decide) _ _ xs1 rfl HO2.out _ _ n2 xs2 rfl HR.out HX2.out.1 HX2.out.2 (by unfold maxLen; omega) (by omega) hsz ?_)
          intro v' w' k1 k2 k3
          obtain ⟨a', c', rfl⟩ := own_shape k1
          have HB3 := hid (HBW.out.grown k2 HBW.out.size fun k hk => (World.ownsRow.lt HO2.out k hk).1)
          have HO3 := hid k1
          clear k1 k2 k3 d0
          go_wp2
          go_roundw
          case rel => exact ⟨a', _, c', rfl, HB3.out, .inr (.inr ⟨rfl, rfl, HO3.out⟩)⟩
          case measure => simp [intOf]
        · subst hm
          go_wp2
          go_ret
          exact ⟨a, c, rfl, HO2.out, HBW.out⟩
end Go.Proofs.YtkfeefaokghibabGreat
/-
  slices.Clone, share (pairs).
-/
namespace Go.Proofs.YtkfeefaokghibabGreat
open Go.RowKit
def cutN (n : Nat) : Nat := if n ≤ 4 then n else 3
/-- What comes of sharing out: two rows of their own, made newly, apart from each other. -/
def SharePost (E : TypeId) (size n : Nat) (xs : List Value) (w : World) (e : Ending) (w' : World) : Prop :=
  ∃ a m c a' m' c', e = .returned (.tuple #[.slice a m c, .slice a' m' c']) ∧ m = cutN n ∧ m' = n - cutN n ∧ w'.ownsRow w.heap.size E size (.slice a m c) m (xs.take (m * size)) ∧ w'.ownsRow w.heap.size E size (.slice a' m' c') m' (xs.drop (m * size)) ∧
    (∀ x, (Value.slice a m c).ownBlock = some x → (Value.slice a' m' c').ownBlock ≠ some x) ∧ Below w.heap.size w w'
set_option maxHeartbeats 2000000 in
set_option maxRecDepth 100000 in
theorem cloneP'_any (S : Nat → Prop) (b off n c : Nat) (xs : List Value) (w : World) (h : Rw w S (.slice (some ⟨b, off, none⟩) n c) n xs) (hl : xs.length = n * 2) (h1 : ∀ u ∈ xs, u.oneCell' = true) (hn : n ≤ 1048576) :
    Calls Tryz.prog 97 #[.slice (some ⟨b, off, none⟩) n c] w fun e w' => NewPost 64 2 n xs w e w' := by
  obtain ⟨ti, hti, htz, hts, htb⟩ := info_of infoPairI
  have H0 := hid h
  have HX := hid (And.intro hl h1)
  clear h hl h1
  have he : ∀ w : World, (binOp .eql 47 (.slice (some ⟨b, off, none⟩) n c) (.slice none 0 0)).run Tryz.prog w = .ok (.bool false) w := fun _ => rfl
  have HB := hid (below_new (o := .cells #[] 64) (w := w) (Below.refl _ _))
  have HO : Hid ((w.alloc (.cells #[] 64)).ownsRow w.heap.size 64 2 (.slice (some ⟨w.heap.size, 0, none⟩) 0 0) 0 []) := ⟨rfl, .inr ⟨w.heap.size, 0, #[], rfl, Nat.le_refl _, heap_alloc_new w _, Nat.le_refl _, Nat.zero_le _, rfl, rfl⟩⟩
  go_enter Tryz.func97, Tryz.ntmps97
  go_wp2_with (at_builtin; refine wpList_append_row_at rfl _ _ 47 rfl w.heap.size 64 ti _ 2 32 Tryz.underlying47 hti htz hts htb rfl (by decide) _ 0 [] rfl HO.out S _ n xs rfl (H0.out.below HB.out) HX.out.1 HX.out.2 (by unfold maxLen; omega) (by omega) (by simp) ?_)
  intro v' w' k1 k2 k3
  try rw [Nat.zero_add] at k1
  obtain ⟨a', c', rfl⟩ := own_shape k1
  have HK : Hid (NewPost 64 2 n xs w (.returned (.slice a' n c')) w') := ⟨a', c', rfl, k1, HB.out.trans ((Below.refl _ _).grown k2 (by simp) fun k hk => (World.ownsRow.lt HO.out k hk).1)⟩
  clear k1 k2 k3
  go_wp2
  go_ret
  exact HK.out
set_option maxHeartbeats 4000000 in
set_option maxRecDepth 20000 in
theorem shareP_any (S1 S2 : Nat → Prop) (a1 a2 : Option Addr) (n1 n2 c1 c2 : Nat) (xs1 xs2 : List Value) (w : World) (h1 : Rw w S1 (.slice a1 n1 c1) n1 xs1) (h2 : Rw w S2 (.slice a2 n2 c2) n2 xs2)
    (hb : n1 + n2 ≤ 1048576) (hl1 : xs1.length = n1 * 2) (hl2 : xs2.length = n2 * 2) (ho1 : ∀ u ∈ xs1, u.oneCell' = true) (ho2 : ∀ u ∈ xs2, u.oneCell' = true) :
    Calls Tryz.prog 106 #[.slice a1 n1 c1, .slice a2 n2 c2, .int .i64 4] w fun e w' => SharePost 64 2 (n1 + n2) (xs1 ++ xs2) w e w' := by
  have hb0 := below_new (o := .cells #[.slice a1 n1 c1, .slice a2 n2 c2] 47) (w := w) (Below.refl _ _)
  have HB0 := hid hb0
  have HC := hid (fun w' (k1 : Rw w' S1 (.slice a1 n1 c1) n1 xs1) (k2 : Rw w' S2 (.slice a2 n2 c2) n2 xs2) cb hc => concatP_any S1 S2 a1 a2 n1 n2 c1 c2 cb xs1 xs2 w' k1 k2 hc (by omega) (by omega) hl1 hl2 ho1 ho2)
  have H1 := hid (h1.below hb0)
  have H2 := hid (h2.below hb0)
  have KC0 := hid (Bk.new w 47 [.slice a1 n1 c1, .slice a2 n2 c2])
  have HL : Hid ((xs1 ++ xs2).length = (n1 + n2) * 2) := by show _ = _; rw [List.length_append, hl1, hl2]; omega
  have HU : Hid (∀ u ∈ xs1 ++ xs2, u.oneCell' = true) := fun u hu => by
    rcases List.mem_append.1 hu with h | h
    · exact ho1 u h
    · exact ho2 u h
  have hnn : n1 + n2 ≤ 1048576 := hb
  clear h1 h2 hl1 hl2 ho1 ho2 hb0 hb
  go_enter Tryz.func106, Tryz.ntmps106
  go_wp2_with fail
  refine (HC.out _ H1.out H2.out _ KC0.out).mono ?_
  generalize w.alloc (.cells #[.slice a1 n1 c1, .slice a2 n2 c2] 47) = U at *
  rintro e w1 ⟨a, c, rfl, hO, hb⟩
  have HB1 := hid (Below.then' HB0.out hb (Nat.le_refl _))
  have HO1 := hid (own_mono hO HB0.out.size)
  clear hb hO HC H1 H2 KC0 HB0
  generalize hxs : xs1 ++ xs2 = xs at *
  generalize hn : n1 + n2 = n at *
  have HE := hid (And.intro hxs hn)
  clear hxs hn
  by_cases h4 : n ≤ 4
  · have h4' : (n : Int) ≤ 4 := by omega
    go_wp2
    go_ret2
    have hct : cutN n = n := by simp [cutN, h4]
    rw [HE.out.1, HE.out.2]
    refine ⟨a, n, c, none, 0, 0, rfl, hct.symm, by rw [hct]; omega, ?_, ?_, fun x _ h => by (cases h), HB1.out⟩
    · rw [List.take_of_length_le (by rw [HL.out]; exact Nat.le_refl _)]
      exact HO1.out
    · rw [List.drop_eq_nil_of_le (by rw [HL.out]; exact Nat.le_refl _)]
      exact World.ownsRow_nil _ _ _ _
  · have h4' : ¬ (n : Int) ≤ 4 := by omega
    obtain ⟨g, c', cur, e, hbg, hg, hnc, hcm, hcs, htk⟩ : ∃ g cap cur, Value.slice a n c = .slice (some ⟨g, 0, none⟩) n cap ∧ w.heap.size ≤ g ∧ w1.heap[g]? = some (.cells cur 64 (0, 0)) ∧ n ≤ cap ∧ cap ≤ maxLen ∧ cur.size = cap * 2 ∧ cur.toList.take (n * 2) = xs := by
      rcases HO1.out.2 with ⟨_, h0⟩ | h
      · omega
      · exact h
    cases e
    unfold maxLen at hcm
    have hgb : Bk w1 g 64 cur.toList := by show _ = _; simpa using hg
    have hcl : cur.toList.length = c * 2 := by simpa using hcs
    have RA : Hid (Rw w1 (fun _ => True) (.slice (some ⟨g, 0, none⟩) 3 c) 3 (xs.take (3 * 2))) := by
      refine ⟨_, c, rfl, by omega, by omega, fun h => by omega, fun h => by (cases h), fun _ => ⟨g, 0, rfl, hgb.lt, trivial, fun j u hu => ?_⟩⟩
      rw [Nat.zero_add]
      refine bk_take hgb (m := 3 * 2) ?_
      rw [← htk, List.take_take, Nat.min_eq_left (by omega)] at hu
      exact hu
    have RB : Hid (Rw w1 (fun _ => True) (.slice (some ⟨g, 3 * 2, none⟩) (n - 3) (c - 3)) (n - 3) (xs.drop (3 * 2))) := by
      refine ⟨_, c - 3, rfl, by omega, by omega, fun h => by omega, fun h => by (cases h), fun _ => ⟨g, 3 * 2, rfl, hgb.lt, trivial, fun j u hu => ?_⟩⟩
      rw [List.getElem?_drop] at hu
      rw [← htk] at hu
      exact bk_take hgb hu
    have hla : (xs.take (3 * 2)).length = 3 * 2 := by rw [List.length_take, HL.out]; omega
    have hlb : (xs.drop (3 * 2)).length = (n - 3) * 2 := by rw [List.length_drop, HL.out]; omega
    have HCA := hid (fun w' (k : Rw w' (fun _ => True) (.slice (some ⟨g, 0, none⟩) 3 c) 3 (xs.take (3 * 2))) => cloneP'_any _ g 0 3 c _ w' k hla (fun u hu => HU.out u (List.mem_of_mem_take hu)) (by omega))
    have HCB := hid (fun w' (k : Rw w' (fun _ => True) (.slice (some ⟨g, 3 * 2, none⟩) (n - 3) (c - 3)) (n - 3) (xs.drop (3 * 2))) => cloneP'_any _ g (3 * 2) (n - 3) (c - 3) _ w' k hlb (fun u hu => HU.out u (List.mem_of_mem_drop hu)) (by omega))
    simp only [Nat.reduceMul] at HCA HCB RA RB
    have hc3 : ¬ c = 3 := by omega
    have h3n : (3 : Int) ≤ (n : Int) := by omega
    have h3c : (3 : Int) ≤ (c : Int) := by omega
    clear hgb hcl hg hcs htk hla hlb
    go_wp2_with fail
    go_region_held3 (fun v => Below w1.heap.size w1 v)
      (first | assumption | exact below_drew _ | exact Below.then' (by assumption) hbC (Nat.le_refl _))
      (first
        | (go_at_call_of 97 (Value.slice (some ⟨g, 0, none⟩) 3 c); refine (HCA.out _ (RA.out.below (by assumption))).mono ?_; rintro e wa ⟨a5, c5, rfl, hO5, hbC⟩; have hsz5 := Below.size (by assumption : Below w1.heap.size w1 _))
        | (go_at_call 97; refine (HCB.out _ (RB.out.below (by assumption))).mono ?_; rintro e wb ⟨a6, c6, rfl, hO6, hbC⟩))
    rename_i hS
    have hsz5' : w.heap.size ≤ w1.heap.size := HB1.out.size
    have hown : ∀ x, (Value.slice a5 3 c5).ownBlock = some x → (Value.slice a6 (n - 3) c6).ownBlock ≠ some x := fun x e1 e2 => by
      have k1 := (World.ownsRow.lt hO5 x e1).2
      have k2 := (World.ownsRow.lt hO6 x e2).1
      omega
    have hct : cutN n = 3 := by simp [cutN, h4]
    have HK : Hid (SharePost 64 2 n xs w (.returned (.tuple #[.slice a5 3 c5, .slice a6 (n - 3) c6])) wb) := by
      refine ⟨a5, 3, c5, a6, n - 3, c6, rfl, hct.symm, by rw [hct], ?_, ?_, hown, Below.then' HB1.out hS (Nat.le_refl _)⟩
      · exact own_mono (own_kept hO5 (only_of_below hbC (fun _ => False)) (fun _ _ h => h)) (Nat.le_trans hsz5' hsz5)
      · exact own_mono hO6 (Nat.le_trans hsz5' (Nat.le_trans hsz5 (Below.size (by assumption : Below _ _ wa))))
    clear hS hO5 hO6 hbC hown hsz5 hsz5' RA RB HCA HCB
    generalize hn3 : n - 3 = n3 at *
    clear hn3
    go_wp2
    go_ret2
    rw [HE.out.1, HE.out.2]
    exact HK.out
end Go.Proofs.YtkfeefaokghibabGreat
/-
  slices.Clone, share (limbs).
-/
namespace Go.Proofs.YtkfeefaokghibabGreat
open Go.RowKit

set_option maxHeartbeats 2000000 in
set_option maxRecDepth 100000 in
theorem cloneL'_any (S : Nat → Prop) (b off n c : Nat) (xs : List Value) (w : World) (h : Rw w S (.slice (some ⟨b, off, none⟩) n c) n xs) (hl : xs.length = n * 1) (h1 : ∀ u ∈ xs, u.oneCell' = true) (hn : n ≤ 1048576) :
    Calls Tryz.prog 115 #[.slice (some ⟨b, off, none⟩) n c] w fun e w' => NewPost 59 1 n xs w e w' := by
  obtain ⟨ti, hti, htz, hts, htb⟩ := info_of infoLimbP
  have H0 := hid h
  have HX := hid (And.intro hl h1)
  clear h hl h1
  have he : ∀ w : World, (binOp .eql 91 (.slice (some ⟨b, off, none⟩) n c) (.slice none 0 0)).run Tryz.prog w = .ok (.bool false) w := fun _ => rfl
  have HB := hid (below_new (o := .cells #[] 59) (w := w) (Below.refl _ _))
  have HO : Hid ((w.alloc (.cells #[] 59)).ownsRow w.heap.size 59 1 (.slice (some ⟨w.heap.size, 0, none⟩) 0 0) 0 []) := ⟨rfl, .inr ⟨w.heap.size, 0, #[], rfl, Nat.le_refl _, heap_alloc_new w _, Nat.le_refl _, Nat.zero_le _, rfl, rfl⟩⟩
  go_enter Tryz.func115, Tryz.ntmps115
  go_wp2_with (at_builtin; refine wpList_append_row_at rfl _ _ 91 rfl w.heap.size 59 ti _ 1 8 Tryz.underlying91 hti htz hts htb rfl (by decide) _ 0 [] rfl HO.out S _ n xs rfl (H0.out.below HB.out) HX.out.1 HX.out.2 (by unfold maxLen; omega) (by omega) (by simp) ?_)
  intro v' w' k1 k2 k3
  try rw [Nat.zero_add] at k1
  obtain ⟨a', c', rfl⟩ := own_shape k1
  have HK : Hid (NewPost 59 1 n xs w (.returned (.slice a' n c')) w') := ⟨a', c', rfl, k1, HB.out.trans ((Below.refl _ _).grown k2 (by simp) fun k hk => (World.ownsRow.lt HO.out k hk).1)⟩
  clear k1 k2 k3
  go_wp2
  go_ret
  exact HK.out
set_option maxHeartbeats 4000000 in
set_option maxRecDepth 20000 in
theorem shareL_any (S1 S2 : Nat → Prop) (a1 a2 : Option Addr) (n1 n2 c1 c2 : Nat) (xs1 xs2 : List Value) (w : World) (h1 : Rw w S1 (.slice a1 n1 c1) n1 xs1) (h2 : Rw w S2 (.slice a2 n2 c2) n2 xs2)
    (hb : n1 + n2 ≤ 1048576) (hl1 : xs1.length = n1 * 1) (hl2 : xs2.length = n2 * 1) (ho1 : ∀ u ∈ xs1, u.oneCell' = true) (ho2 : ∀ u ∈ xs2, u.oneCell' = true) :
    Calls Tryz.prog 107 #[.slice a1 n1 c1, .slice a2 n2 c2, .int .i64 4] w fun e w' => SharePost 59 1 (n1 + n2) (xs1 ++ xs2) w e w' := by
  have hb0 := below_new (o := .cells #[.slice a1 n1 c1, .slice a2 n2 c2] 91) (w := w) (Below.refl _ _)
  have HB0 := hid hb0
  have HC := hid (fun w' (k1 : Rw w' S1 (.slice a1 n1 c1) n1 xs1) (k2 : Rw w' S2 (.slice a2 n2 c2) n2 xs2) cb hc => concatL_any S1 S2 a1 a2 n1 n2 c1 c2 cb xs1 xs2 w' k1 k2 hc (by omega) (by omega) hl1 hl2 ho1 ho2)
  have H1 := hid (h1.below hb0)
  have H2 := hid (h2.below hb0)
  have KC0 := hid (Bk.new w 91 [.slice a1 n1 c1, .slice a2 n2 c2])
  have HL : Hid ((xs1 ++ xs2).length = (n1 + n2) * 1) := by show _ = _; rw [List.length_append, hl1, hl2]; omega
  have HU : Hid (∀ u ∈ xs1 ++ xs2, u.oneCell' = true) := fun u hu => by
    rcases List.mem_append.1 hu with h | h
    · exact ho1 u h
    · exact ho2 u h
  have hnn : n1 + n2 ≤ 1048576 := hb
  clear h1 h2 hl1 hl2 ho1 ho2 hb0 hb
  go_enter Tryz.func107, Tryz.ntmps107
  go_wp2_with fail
  refine (HC.out _ H1.out H2.out _ KC0.out).mono ?_
  generalize w.alloc (.cells #[.slice a1 n1 c1, .slice a2 n2 c2] 91) = U at *
  rintro e w1 ⟨a, c, rfl, hO, hb⟩
  have HB1 := hid (Below.then' HB0.out hb (Nat.le_refl _))
  have HO1 := hid (own_mono hO HB0.out.size)
  clear hb hO HC H1 H2 KC0 HB0
  generalize hxs : xs1 ++ xs2 = xs at *
  generalize hn : n1 + n2 = n at *
  have HE := hid (And.intro hxs hn)
  clear hxs hn
  by_cases h4 : n ≤ 4
  · have h4' : (n : Int) ≤ 4 := by omega
    go_wp2
    go_ret2
    have hct : cutN n = n := by simp [cutN, h4]
    rw [HE.out.1, HE.out.2]
    refine ⟨a, n, c, none, 0, 0, rfl, hct.symm, by rw [hct]; omega, ?_, ?_, fun x _ h => by (cases h), HB1.out⟩
    · rw [List.take_of_length_le (by rw [HL.out]; exact Nat.le_refl _)]
      exact HO1.out
    · rw [List.drop_eq_nil_of_le (by rw [HL.out]; exact Nat.le_refl _)]
      exact World.ownsRow_nil _ _ _ _
  · have h4' : ¬ (n : Int) ≤ 4 := by omega
    obtain ⟨g, c', cur, e, hbg, hg, hnc, hcm, hcs, htk⟩ : ∃ g cap cur, Value.slice a n c = .slice (some ⟨g, 0, none⟩) n cap ∧ w.heap.size ≤ g ∧ w1.heap[g]? = some (.cells cur 59 (0, 0)) ∧ n ≤ cap ∧ cap ≤ maxLen ∧ cur.size = cap * 1 ∧ cur.toList.take (n * 1) = xs := by
      rcases HO1.out.2 with ⟨_, h0⟩ | h
      · omega
      · exact h
    cases e
    unfold maxLen at hcm
    have hgb : Bk w1 g 59 cur.toList := by show _ = _; simpa using hg
    have hcl : cur.toList.length = c * 1 := by simpa using hcs
    have RA : Hid (Rw w1 (fun _ => True) (.slice (some ⟨g, 0, none⟩) 3 c) 3 (xs.take (3 * 1))) := by
      refine ⟨_, c, rfl, by omega, by omega, fun h => by omega, fun h => by (cases h), fun _ => ⟨g, 0, rfl, hgb.lt, trivial, fun j u hu => ?_⟩⟩
      rw [Nat.zero_add]
      refine bk_take hgb (m := 3 * 1) ?_
      rw [← htk, List.take_take, Nat.min_eq_left (by omega)] at hu
      exact hu
    have RB : Hid (Rw w1 (fun _ => True) (.slice (some ⟨g, 3 * 1, none⟩) (n - 3) (c - 3)) (n - 3) (xs.drop (3 * 1))) := by
      refine ⟨_, c - 3, rfl, by omega, by omega, fun h => by omega, fun h => by (cases h), fun _ => ⟨g, 3 * 1, rfl, hgb.lt, trivial, fun j u hu => ?_⟩⟩
      rw [List.getElem?_drop] at hu
      rw [← htk] at hu
      exact bk_take hgb hu
    have hla : (xs.take (3 * 1)).length = 3 * 1 := by rw [List.length_take, HL.out]; omega
    have hlb : (xs.drop (3 * 1)).length = (n - 3) * 1 := by rw [List.length_drop, HL.out]; omega
    have HCA := hid (fun w' (k : Rw w' (fun _ => True) (.slice (some ⟨g, 0, none⟩) 3 c) 3 (xs.take (3 * 1))) => cloneL'_any _ g 0 3 c _ w' k hla (fun u hu => HU.out u (List.mem_of_mem_take hu)) (by omega))
    have HCB := hid (fun w' (k : Rw w' (fun _ => True) (.slice (some ⟨g, 3 * 1, none⟩) (n - 3) (c - 3)) (n - 3) (xs.drop (3 * 1))) => cloneL'_any _ g (3 * 1) (n - 3) (c - 3) _ w' k hlb (fun u hu => HU.out u (List.mem_of_mem_drop hu)) (by omega))
    simp only [Nat.reduceMul] at HCA HCB RA RB
    have hc3 : ¬ c = 3 := by omega
    have h3n : (3 : Int) ≤ (n : Int) := by omega
    have h3c : (3 : Int) ≤ (c : Int) := by omega
    clear hgb hcl hg hcs htk hla hlb
    go_wp2_with fail
    go_region_held3 (fun v => Below w1.heap.size w1 v)
      (first | assumption | exact below_drew _ | exact Below.then' (by assumption) hbC (Nat.le_refl _))
      (first
        | (go_at_call_of 115 (Value.slice (some ⟨g, 0, none⟩) 3 c); refine (HCA.out _ (RA.out.below (by assumption))).mono ?_; rintro e wa ⟨a5, c5, rfl, hO5, hbC⟩; have hsz5 := Below.size (by assumption : Below w1.heap.size w1 _))
        | (go_at_call 115; refine (HCB.out _ (RB.out.below (by assumption))).mono ?_; rintro e wb ⟨a6, c6, rfl, hO6, hbC⟩))
    rename_i hS
    have hsz5' : w.heap.size ≤ w1.heap.size := HB1.out.size
    have hown : ∀ x, (Value.slice a5 3 c5).ownBlock = some x → (Value.slice a6 (n - 3) c6).ownBlock ≠ some x := fun x e1 e2 => by
      have k1 := (World.ownsRow.lt hO5 x e1).2
      have k2 := (World.ownsRow.lt hO6 x e2).1
      omega
    have hct : cutN n = 3 := by simp [cutN, h4]
    have HK : Hid (SharePost 59 1 n xs w (.returned (.tuple #[.slice a5 3 c5, .slice a6 (n - 3) c6])) wb) := by
      refine ⟨a5, 3, c5, a6, n - 3, c6, rfl, hct.symm, by rw [hct], ?_, ?_, hown, Below.then' HB1.out hS (Nat.le_refl _)⟩
      · exact own_mono (own_kept hO5 (only_of_below hbC (fun _ => False)) (fun _ _ h => h)) (Nat.le_trans hsz5' hsz5)
      · exact own_mono hO6 (Nat.le_trans hsz5' (Nat.le_trans hsz5 (Below.size (by assumption : Below _ _ wa))))
    clear hS hO5 hO6 hbC hown hsz5 hsz5' RA RB HCA HCB
    generalize hn3 : n - 3 = n3 at *
    clear hn3
    go_wp2
    go_ret2
    rw [HE.out.1, HE.out.2]
    exact HK.out
end Go.Proofs.YtkfeefaokghibabGreat
/-
  Looking a key up: in a list of pairs that ascend, in a tree. Nothing here speaks of the program.
-/
namespace Go.Proofs.YtkfeefaokghibabGreat
open Go.RowKit
def klt (a b : ByteArray) : Bool := Op.bytesLess a.toList b.toList
theorem klt_irrefl (a : ByteArray) : klt a a = false := less_irrefl _
theorem klt_trans {a b c : ByteArray} (h : klt a b = true) (k : klt b c = true) : klt a c = true := less_trans _ _ _ h k
theorem klt_ne {a b : ByteArray} (h : klt a b = true) : a ≠ b := by
  rintro rfl
  rw [klt_irrefl] at h
  cases h
theorem klt_asymm {a b : ByteArray} (h : klt a b = true) : klt b a = false := less_asymm _ _ h
def Asc (l : List PB) : Prop := l.Pairwise fun p q => klt p.1 q.1 = true
theorem pOkF_adj (l : List PB) : ∀ (f k : Nat), pOkF l f k = true → ∀ i, k ≤ i → i < k + f → i ≠ 0 → klt (pAtB l (i - 1)).1 (pAtB l i).1 = true
  | 0, k, _, i, h1, h2, _ => by omega
  | f + 1, k, h, i, h1, h2, h3 => by
    simp only [pOkF, Bool.and_eq_true] at h
    by_cases e : i = k
    · subst e
      have := h.1.2
      simp [h3] at this
      exact this
    · exact pOkF_adj l f (k + 1) h.2 i (by omega) (by omega) h3
theorem pAtB_lt {l : List PB} {i : Nat} (h : i < l.length) : pAtB l i = l[i] := by simp [pAtB, h]
theorem pOk_asc {l : List PB} (h : pOk l = true) : Asc l := by
  simp only [pOk, Bool.and_eq_true] at h
  have adj : ∀ i, i + 1 < l.length → klt (pAtB l i).1 (pAtB l (i + 1)).1 = true := fun i hi => pOkF_adj l _ 0 h.2 (i + 1) (by omega) (by omega) (by omega)
  have far : ∀ d i, i + d + 1 < l.length → klt (pAtB l i).1 (pAtB l (i + d + 1)).1 = true := by
    intro d
    induction d with
    | zero => exact adj
    | succ d ih => exact fun i hi => klt_trans (ih i (by omega)) (adj _ (by omega))
  refine List.pairwise_iff_getElem.2 fun i j hi hj hij => ?_
  have := far (j - i - 1) i (by omega)
  rw [show i + (j - i - 1) + 1 = j by omega, pAtB_lt hi, pAtB_lt hj] at this
  exact this
theorem Asc.at {l : List PB} (h : Asc l) {i j : Nat} (hij : i < j) (hj : j < l.length) : klt (pAtB l i).1 (pAtB l j).1 = true := by
  have := List.pairwise_iff_getElem.1 h i j (by omega) hj hij
  rw [pAtB_lt (by omega), pAtB_lt hj]
  exact this
/-- The value beside the first pair with the key. -/
def fnd (l : List PB) (k : ByteArray) : Option ByteArray := l.findSome? fun p => if p.1 = k then some p.2 else none
theorem fnd_append (l m : List PB) (k : ByteArray) : fnd (l ++ m) k = (fnd l k).or (fnd m k) := List.findSome?_append
theorem fnd_none {l : List PB} {k : ByteArray} (h : ∀ p ∈ l, p.1 ≠ k) : fnd l k = none := by
  rw [fnd, List.findSome?_eq_none_iff]
  intro p hp
  simp [h p hp]
theorem fnd_at : ∀ (l : List PB) (k : ByteArray) (i : Nat), i < l.length → (pAtB l i).1 = k → (∀ a, a < i → (pAtB l a).1 ≠ k) → fnd l k = some (pAtB l i).2
  | [], _, _, h, _, _ => by simp at h
  | p :: l, k, 0, _, hk, _ => by
    have : p.1 = k := hk
    simp [fnd, this, pAtB]
  | p :: l, k, i + 1, h, hk, hl => by
    have h0 : p.1 ≠ k := hl 0 (by omega)
    have := fnd_at l k i (by simpa using h) hk (fun a ha => hl (a + 1) (by omega))
    rw [fnd, List.findSome?_cons]
    simp only [h0, if_false]
    exact this
theorem allL_append (a b : List T) : allL (a ++ b) = allL a ++ allL b := by
  induction a with
  | nil => rfl
  | cons k a ih => simp only [List.cons_append, allL, ih, List.append_assoc]
theorem tAt_lt {ks : List T} {i : Nat} (h : i < ks.length) : tAt ks i = ks[i] := by simp [tAt, h]
theorem ks_split {ks : List T} {q : Nat} (h : q < ks.length) : ks = ks.take q ++ tAt ks q :: ks.drop (q + 1) := by
  rw [tAt_lt h, List.getElem_cons_drop h, List.take_append_drop]
theorem all_split {ks : List T} {q : Nat} (h : q < ks.length) : allL ks = allL (ks.take q) ++ ((tAt ks q).all ++ allL (ks.drop (q + 1))) := by
  have := congrArg allL (ks_split h)
  rwa [allL_append, allL] at this
theorem full_head (t : T) : ∀ r, t.full r = true → ∃ v rest, t.all = (t.least, v) :: rest := by
  induction t using T.ind
  rename_i ps ks ih
  intro r hf
  cases ks with
  | nil =>
    have := full_lf hf
    cases ps with
    | nil => simp at this
    | cons p ps => exact ⟨p.2, ps, by simp [T.all, allL, T.least]⟩
  | cons k ks =>
    obtain ⟨_, _, rfl, h3⟩ := full_br hf (by simp)
    obtain ⟨v, rest, e⟩ := ih k (by simp) false (h3 k (by simp))
    exact ⟨v, rest ++ allL ks, by simp [T.all, allL, T.least, e]⟩
def kidF (ks : List T) (k : ByteArray) : Nat → Nat → Nat
  | 0, p => p
  | f + 1, p => if p + 1 < ks.length ∧ klt k (tAt ks (p + 1)).least = false then kidF ks k f (p + 1) else p
/-- The place of the kid that a key leads to. -/
def kidOf (ks : List T) (k : ByteArray) : Nat := kidF ks k ks.length 0
theorem kidF_spec (ks : List T) (k : ByteArray) : ∀ f p, p < ks.length → ks.length ≤ p + 1 + f → (p = 0 ∨ klt k (tAt ks p).least = false) →
    kidF ks k f p < ks.length ∧ (kidF ks k f p = 0 ∨ klt k (tAt ks (kidF ks k f p)).least = false) ∧ (kidF ks k f p + 1 < ks.length → klt k (tAt ks (kidF ks k f p + 1)).least = true)
  | 0, p, h1, h2, h3 => ⟨h1, h3, fun h => by simp only [kidF] at h; omega⟩
  | f + 1, p, h1, h2, h3 => by
    rw [kidF]
    by_cases hc : p + 1 < ks.length ∧ klt k (tAt ks (p + 1)).least = false
    · rw [if_pos hc]
      exact kidF_spec ks k f (p + 1) hc.1 (by omega) (.inr hc.2)
    · rw [if_neg hc]
      refine ⟨h1, h3, fun h => ?_⟩
      cases hk : klt k (tAt ks (p + 1)).least with
      | true => rfl
      | false => exact absurd ⟨h, hk⟩ hc
theorem kidOf_spec {ks : List T} (k : ByteArray) (h : ks ≠ []) : kidOf ks k < ks.length ∧ (kidOf ks k = 0 ∨ klt k (tAt ks (kidOf ks k)).least = false) ∧ (kidOf ks k + 1 < ks.length → klt k (tAt ks (kidOf ks k + 1)).least = true) :=
  kidF_spec ks k ks.length 0 (List.length_pos_iff.2 h) (by omega) (.inl rfl)
theorem asc_head {p : PB} {l : List PB} (h : Asc (p :: l)) {x : PB} (hx : x ∈ p :: l) : x = p ∨ klt p.1 x.1 = true := by
  rcases List.mem_cons.1 hx with rfl | hx
  · exact .inl rfl
  · exact .inr ((List.pairwise_cons.1 h).1 x hx)
/-- What lies ahead of the kid is less than the key, what lies behind it greater. -/
theorem kid_apart {ks : List T} {k : ByteArray} (hf : ∀ x ∈ ks, x.full false = true) (ha : Asc (allL ks)) {q : Nat} (h1 : q < ks.length) (h2 : q = 0 ∨ klt k (tAt ks q).least = false) (h3 : q + 1 < ks.length → klt k (tAt ks (q + 1)).least = true) :
    (∀ x ∈ allL (ks.take q), klt x.1 k = true) ∧ (∀ x ∈ allL (ks.drop (q + 1)), klt k x.1 = true) ∧ Asc (tAt ks q).all := by
  rw [all_split h1] at ha
  obtain ⟨_, hb, hab⟩ := List.pairwise_append.1 ha
  obtain ⟨hc, hd, hcd⟩ := List.pairwise_append.1 hb
  refine ⟨fun x hx => ?_, fun x hx => ?_, hc⟩
  · rcases h2 with rfl | h2
    · simp [allL] at hx
    · obtain ⟨v, rest, e⟩ := full_head _ _ (hf _ (tAt_mem h1))
      have hlt := hab x hx ((tAt ks q).least, v) (by rw [e]; simp)
      exact less_nless _ _ _ hlt h2
  · by_cases hq : q + 1 < ks.length
    · have hs : ks.drop (q + 1) = tAt ks (q + 1) :: ks.drop (q + 1 + 1) := by rw [tAt_lt hq, List.getElem_cons_drop hq]
      rw [hs, allL] at hx hd
      obtain ⟨v, rest, e⟩ := full_head _ _ (hf _ (tAt_mem hq))
      rw [e] at hx hd
      rcases asc_head hd hx with rfl | h
      · exact h3 hq
      · exact klt_trans (h3 hq) h
    · rw [List.drop_eq_nil_of_le (by omega)] at hx
      simp [allL] at hx
theorem kid_fnd {ks : List T} {k : ByteArray} (hk : ks ≠ []) (hf : ∀ x ∈ ks, x.full false = true) (ha : Asc (allL ks)) : fnd (allL ks) k = fnd (tAt ks (kidOf ks k)).all k ∧ Asc (tAt ks (kidOf ks k)).all := by
  obtain ⟨h1, h2, h3⟩ := kidOf_spec k hk
  obtain ⟨a1, a2, a3⟩ := kid_apart hf ha h1 h2 h3
  refine ⟨?_, a3⟩
  rw [all_split h1, fnd_append, fnd_append, fnd_none (l := allL (ks.take _)) (fun p hp => klt_ne (a1 p hp)), fnd_none (l := allL (ks.drop _)) (fun p hp => (klt_ne (a2 p hp)).symm)]
  simp
/-- How many keys are less. -/
def pos : List PB → ByteArray → Nat
  | [], _ => 0
  | p :: l, k => if klt p.1 k = true then pos l k + 1 else 0
theorem pos_le : ∀ (l : List PB) (k : ByteArray), pos l k ≤ l.length
  | [], _ => Nat.le_refl _
  | p :: l, k => by
    rw [pos]
    split
    · have := pos_le l k; simp; omega
    · exact Nat.zero_le _
theorem pos_uniq : ∀ (l : List PB) (k : ByteArray) (i : Nat), i ≤ l.length → (∀ a, a < i → klt (pAtB l a).1 k = true) → (i < l.length → klt (pAtB l i).1 k = false) → i = pos l k
  | [], _, i, h, _, _ => by simp at h; subst h; rfl
  | p :: l, k, 0, _, _, h => by
    have : klt p.1 k = false := h (by simp)
    rw [pos, this]
    rfl
  | p :: l, k, i + 1, h, hl, hr => by
    have h0 : klt p.1 k = true := hl 0 (by omega)
    have := pos_uniq l k i (by simpa using h) (fun a ha => hl (a + 1) (by omega)) (fun hi => hr (by simpa using hi))
    rw [pos, h0, if_pos rfl, ← this]
theorem pos_spec : ∀ (l : List PB) (k : ByteArray), (∀ a, a < pos l k → klt (pAtB l a).1 k = true) ∧ (pos l k < l.length → klt (pAtB l (pos l k)).1 k = false)
  | [], k => ⟨fun a h => absurd h (Nat.not_lt_zero _), fun h => absurd h (Nat.not_lt_zero _)⟩
  | p :: l, k => by
    rw [pos]
    cases hk : klt p.1 k with
    | false => exact ⟨fun a h => by simp at h, fun _ => hk⟩
    | true =>
      obtain ⟨h1, h2⟩ := pos_spec l k
      simp only [if_true]
      refine ⟨fun a h => ?_, fun h => h2 (by simpa using h)⟩
      cases a with
      | zero => exact hk
      | succ a => exact h1 a (by omega)
theorem pos_fnd {l : List PB} (k : ByteArray) (ha : Asc l) : fnd l k = if pos l k < l.length ∧ (pAtB l (pos l k)).1 = k then some (pAtB l (pos l k)).2 else none := by
  obtain ⟨h1, h2⟩ := pos_spec l k
  split
  · rename_i h
    exact fnd_at l k _ h.1 h.2 (fun a hl => klt_ne (h1 a hl))
  · rename_i h
    refine fnd_none fun p hp e => ?_
    obtain ⟨i, hi, rfl⟩ := List.mem_iff_getElem.1 hp
    rw [← pAtB_lt hi] at e
    rcases Nat.lt_trichotomy i (pos l k) with hlt | heq | hgt
    · exact klt_ne (h1 i hlt) e
    · exact h ⟨by omega, by rw [← heq]; exact e⟩
    · have h3 := ha.at hgt hi
      rw [e] at h3
      rw [h2 (by omega)] at h3
      cases h3
end Go.Proofs.YtkfeefaokghibabGreat
/-
  together: what two neighbours have between them is shared out anew.
-/
namespace Go.Proofs.YtkfeefaokghibabGreat
open Go.RowKit
theorem ptrs_length (A : Nat → Nat) (n : Nat) : (ptrs A n).length = n := by simp [ptrs]
theorem ptrs_one (A : Nat → Nat) (n : Nat) : ∀ u ∈ ptrs A n, u.oneCell' = true := by
  intro u hu
  simp [ptrs] at hu
  obtain ⟨i, _, rfl⟩ := hu
  rfl
/-- Behind the first of the two statements: the pairs are shared out. -/
def TgP (w v : World) (b1 b2 : Nat) (k1 k2 : Value) (n : Nat) (xs : List Value) : Prop := ∃ a m c a' m' c', m = cutN n ∧ m' = n - cutN n ∧ v.ownsRow w.heap.size 64 2 (.slice a m c) m (xs.take (m * 2)) ∧ v.ownsRow w.heap.size 64 2 (.slice a' m' c') m' (xs.drop (m * 2)) ∧
  (∀ x, (Value.slice a m c).ownBlock = some x → (Value.slice a' m' c').ownBlock ≠ some x) ∧ Bk v b1 93 [.slice a m c, k1] ∧ Bk v b2 93 [.slice a' m' c', k2] ∧ Only (fun y => y = b1 ∨ y = b2) w v
/-- Behind both: the kids too. -/
def TgL (w v : World) (b1 b2 : Nat) (n : Nat) (xs : List Value) (k : Nat) (ys : List Value) : Prop := ∃ p1 p2 k1 k2 lo, v.ownsRow w.heap.size 64 2 p1 (cutN n) (xs.take (cutN n * 2)) ∧ v.ownsRow w.heap.size 64 2 p2 (n - cutN n) (xs.drop (cutN n * 2)) ∧
  v.ownsRow lo 59 1 k1 (cutN k) (ys.take (cutN k * 1)) ∧ v.ownsRow lo 59 1 k2 (k - cutN k) (ys.drop (cutN k * 1)) ∧ w.heap.size ≤ lo ∧
  (∀ x, p1.ownBlock = some x → p2.ownBlock ≠ some x) ∧ (∀ x, k1.ownBlock = some x → k2.ownBlock ≠ some x) ∧ (∀ x, p1.ownBlock = some x ∨ p2.ownBlock = some x → x < lo) ∧
  Bk v b1 93 [p1, k1] ∧ Bk v b2 93 [p2, k2] ∧ Only (fun y => y = b1 ∨ y = b2) w v
theorem own_set {w : World} {base : Nat} {e : TypeId} {size : Nat} {v : Value} {n : Nat} {xs : List Value} (h : w.ownsRow base e size v n xs) {b : Nat} (hb : b < base) (o : Nat) (u : Value) : (w.setCell ⟨b, o, none⟩ u).ownsRow base e size v n xs :=
  own_kept h (only_set (R := fun y => y = b) rfl u) (fun k hk e => by have := (World.ownsRow.lt h k hk).1; omega)
theorem meetP {w w1 : World} {b1 b2 n : Nat} {p1 p2 k1 k2 : Value} {xs : List Value} {a a' : Option Addr} {m c m' c' : Nat} (K1 : Bk w b1 93 [p1, k1]) (K2 : Bk w b2 93 [p2, k2]) (hne : b1 ≠ b2) (hm : m = cutN n) (hm' : m' = n - cutN n)
    (hO1 : w1.ownsRow w.drew.heap.size 64 2 (.slice a m c) m (xs.take (m * 2))) (hO2 : w1.ownsRow w.drew.heap.size 64 2 (.slice a' m' c') m' (xs.drop (m * 2)))
    (hap : ∀ x, (Value.slice a m c).ownBlock = some x → (Value.slice a' m' c').ownBlock ≠ some x) (hb : Below w.drew.heap.size w.drew w1) :
    TgP w ((w1.setCell ⟨b1, 0, none⟩ (.slice a (cutN n) c)).setCell ⟨b2, 0, none⟩ (.slice a' (n - cutN n) c')) b1 b2 k1 k2 n xs := by
  subst hm hm'
  have l1 : b1 < w.heap.size := K1.lt
  have l2 : b2 < w.heap.size := K2.lt
  have B1 := ((K1.below (below_drew _)).below hb)
  have B2 := ((K2.below (below_drew _)).below hb)
  refine ⟨a, _, c, a', _, c', rfl, rfl, own_set (own_set hO1 l1 _ _) l2 _ _, own_set (own_set hO2 l1 _ _) l2 _ _, hap, (B1.set 0 _).setOther hne _ _, (B2.setOther (Ne.symm hne) _ _).set 0 _, ?_⟩
  exact ((only_of_below (Below.then' (below_drew w) hb (Nat.le_refl _)) _).trans (only_set (R := fun y => y = b1 ∨ y = b2) (.inl rfl) _)).trans (only_set (R := fun y => y = b1 ∨ y = b2) (.inr rfl) _)
theorem meetL {w wc w1 : World} {b1 b2 n k : Nat} {q1 q2 : Value} {xs ys : List Value} {a a' a3 a4 : Option Addr} {m c m' c' m3 c3 m4 c4 : Nat} (h1 : b1 < w.heap.size) (h2 : b2 < w.heap.size) (L1 : Bk wc b1 93 [.slice a m c, q1]) (L2 : Bk wc b2 93 [.slice a' m' c', q2]) (hne : b1 ≠ b2)
    (HP : m = cutN n ∧ m' = n - cutN n ∧ wc.ownsRow w.heap.size 64 2 (.slice a m c) m (xs.take (m * 2)) ∧ wc.ownsRow w.heap.size 64 2 (.slice a' m' c') m' (xs.drop (m * 2)) ∧ ∀ x, (Value.slice a m c).ownBlock = some x → (Value.slice a' m' c').ownBlock ≠ some x)
    (hon : Only (fun y => y = b1 ∨ y = b2) w wc) (hm3 : m3 = cutN k) (hm4 : m4 = k - cutN k)
    (hO3 : w1.ownsRow wc.drew.heap.size 59 1 (.slice a3 m3 c3) m3 (ys.take (m3 * 1))) (hO4 : w1.ownsRow wc.drew.heap.size 59 1 (.slice a4 m4 c4) m4 (ys.drop (m3 * 1)))
    (hap : ∀ x, (Value.slice a3 m3 c3).ownBlock = some x → (Value.slice a4 m4 c4).ownBlock ≠ some x) (hb : Below wc.drew.heap.size wc.drew w1) :
    TgL w ((w1.setCell ⟨b1, 1, none⟩ (.slice a3 (cutN k) c3)).setCell ⟨b2, 1, none⟩ (.slice a4 (k - cutN k) c4)) b1 b2 n xs k ys := by
  obtain ⟨rfl, rfl, hO1, hO2, hap1⟩ := HP
  subst hm3 hm4
  have hw : w.heap.size ≤ wc.heap.size := hon.size
  have hbw : Below wc.heap.size wc w1 := Below.then' (below_drew wc) hb (Nat.le_refl _)
  have B1 := L1.below hbw
  have B2 := L2.below hbw
  have O1 := own_kept hO1 (only_of_below hbw (fun _ => False)) (fun _ _ h => h)
  have O2 := own_kept hO2 (only_of_below hbw (fun _ => False)) (fun _ _ h => h)
  refine ⟨_, _, _, _, wc.heap.size, own_set (own_set O1 h1 _ _) h2 _ _, own_set (own_set O2 h1 _ _) h2 _ _, own_set (own_set hO3 (b := b1) (show b1 < wc.heap.size by omega) _ _) (show b2 < wc.heap.size by omega) _ _, own_set (own_set hO4 (b := b1) (show b1 < wc.heap.size by omega) _ _) (show b2 < wc.heap.size by omega) _ _, hw, hap1, hap, ?_, (B1.set 1 _).setOther hne _ _, (B2.setOther (Ne.symm hne) _ _).set 1 _, ?_⟩
  · rintro x (h | h)
    · exact (World.ownsRow.lt hO1 x h).2
    · exact (World.ownsRow.lt hO2 x h).2
  · exact ((hon.trans (only_of_below hbw _)).trans (only_set (R := fun y => y = b1 ∨ y = b2) (.inl rfl) _)).trans (only_set (R := fun y => y = b1 ∨ y = b2) (.inr rfl) _)
set_option maxHeartbeats 4000000 in
set_option maxRecDepth 20000 in
theorem together_raw (b1 b2 : Nat) (ap1 ak1 ap2 ak2 : Option Addr) (np1 cp1 nk1 ck1 np2 cp2 nk2 ck2 : Nat) (xs1 xs2 ys1 ys2 : List Value) (w : World) (hne : b1 ≠ b2)
    (hB1 : Bk w b1 93 [.slice ap1 np1 cp1, .slice ak1 nk1 ck1]) (hB2 : Bk w b2 93 [.slice ap2 np2 cp2, .slice ak2 nk2 ck2])
    (hP1 : Rw w (fun x => x ≠ b1 ∧ x ≠ b2) (.slice ap1 np1 cp1) np1 xs1) (hP2 : Rw w (fun x => x ≠ b1 ∧ x ≠ b2) (.slice ap2 np2 cp2) np2 xs2) (hK1 : Rw w (fun x => x ≠ b1 ∧ x ≠ b2) (.slice ak1 nk1 ck1) nk1 ys1) (hK2 : Rw w (fun x => x ≠ b1 ∧ x ≠ b2) (.slice ak2 nk2 ck2) nk2 ys2)
    (hl1 : xs1.length = np1 * 2) (hl2 : xs2.length = np2 * 2) (hm1 : ys1.length = nk1 * 1) (hm2 : ys2.length = nk2 * 1) (ho1 : ∀ u ∈ xs1, u.oneCell' = true) (ho2 : ∀ u ∈ xs2, u.oneCell' = true) (hq1 : ∀ u ∈ ys1, u.oneCell' = true) (hq2 : ∀ u ∈ ys2, u.oneCell' = true)
    (hnp : np1 + np2 ≤ 1048576) (hnk : nk1 + nk2 ≤ 1048576) :
    Calls Tryz.prog 90 #[.pointer (some ⟨b1, 0, none⟩), .pointer (some ⟨b2, 0, none⟩)] w fun e w' => e = .returned (.tuple #[]) ∧ TgL w w' b1 b2 (np1 + np2) (xs1 ++ xs2) (nk1 + nk2) (ys1 ++ ys2) := by
  have HS := hid (fun w' k1 k2 => shareP_any (fun x => x ≠ b1 ∧ x ≠ b2) (fun x => x ≠ b1 ∧ x ≠ b2) ap1 ap2 np1 np2 cp1 cp2 xs1 xs2 w' k1 k2 hnp hl1 hl2 ho1 ho2)
  have HT := hid (fun w' k1 k2 => shareL_any (fun x => x ≠ b1 ∧ x ≠ b2) (fun x => x ≠ b1 ∧ x ≠ b2) ak1 ak2 nk1 nk2 ck1 ck2 ys1 ys2 w' k1 k2 hnk hm1 hm2 hq1 hq2)
  have K1 := hid hB1
  have K2 := hid hB2
  have P1 := hid hP1
  have P2 := hid hP2
  have c0 := hB1.cell (j := 0) rfl
  have d0 := hB2.cell (j := 0) rfl
  have f0 := hB1.free 0
  have g0 := hB2.free 0
  have hne' : ¬ b1 = b2 := hne
  have hne'' : ¬ b2 = b1 := fun h => hne h.symm
  have HLT := hid (And.intro hB1.lt hB2.lt)
  have Q1 := hid hK1
  have Q2 := hid hK2
  clear hP1 hP2 hB1 hB2 hK1 hK2 hl1 hl2 hm1 hm2 ho1 ho2 hq1 hq2
  go_enter Tryz.func90, Tryz.ntmps90
  go_wp2_with fail
  go_cut [4] (fun q v => q = q ∧ TgP w v b1 b2 (.slice ak1 nk1 ck1) (.slice ak2 nk2 ck2) (np1 + np2) (xs1 ++ xs2))
  case first =>
    go_region_with (go_at_call 106; refine (HS.out _ (P1.out.below (below_drew _)) (P2.out.below (below_drew _))).mono ?_; rintro e w1 ⟨a, m, c, a', m', c', rfl, hm, hm', hO1, hO2, hap, hb⟩; have e0 := ((K1.out.below (below_drew _)).below hb).cell (j := 0) rfl; have e1 := ((K1.out.below (below_drew _)).below hb).free 0; have e2 := ((K2.out.below (below_drew _)).below hb).cell (j := 0) rfl; have e3 := ((K2.out.below (below_drew _)).below hb).free 0)
    all_goals (go_wp2_with fail; go_meet)
    all_goals exact ⟨trivial, meetP K1.out K2.out hne hm hm' hO1 hO2 hap hb⟩
  case rest =>
    obtain ⟨_, a, m, c, a', m', c', hm, hm', hO1, hO2, hap, hk1, hk2, hon⟩ := hcut
    have HP := hid (And.intro hm (And.intro hm' (And.intro hO1 (And.intro hO2 hap))))
    have HON := hid hon
    have L1 := hid hk1
    have L2 := hid hk2
    have R1 := hid (Q1.out.to hon (fun b hb _ hr => Or.elim hr hb.1 hb.2))
    have R2 := hid (Q2.out.to hon (fun b hb _ hr => Or.elim hr hb.1 hb.2))
    have x0 := hk1.cell (j := 1) rfl
    have y0 := hk2.cell (j := 1) rfl
    clear hm hm' hO1 hO2 hap hk1 hk2 hon c0 d0 f0 g0 K1 K2 P1 P2 Q1 Q2 HS
    go_wp2_with fail
    go_region_with (go_at_call 107; refine (HT.out _ (R1.out.below (below_drew _)) (R2.out.below (below_drew _))).mono ?_; rintro e w1 ⟨a3, m3, c3, a4, m4, c4, rfl, hm3, hm4, hO3, hO4, hap4, hb⟩; have e0 := ((L1.out.below (below_drew _)).below hb).cell (j := 1) rfl; have e1 := ((L1.out.below (below_drew _)).below hb).free 1; have e2 := ((L2.out.below (below_drew _)).below hb).cell (j := 1) rfl; have e3 := ((L2.out.below (below_drew _)).below hb).free 1)
    all_goals (go_wp2_with fail)
    all_goals go_end0
    all_goals exact ⟨rfl, meetL HLT.out.1 HLT.out.2 L1.out L2.out hne HP.out HON.out hm3 hm4 hO3 hO4 hap4 hb⟩
end Go.Proofs.YtkfeefaokghibabGreat
/-
  together, of limbs.
-/
namespace Go.Proofs.YtkfeefaokghibabGreat
open Go.RowKit
/-- Two neighbours' pairs and kids, shared out anew. -/
def shT (a b : T) : T × T := (.mk ((a.ps ++ b.ps).take (cutN (a.ps ++ b.ps).length)) ((a.ks ++ b.ks).take (cutN (a.ks ++ b.ks).length)), .mk ((a.ps ++ b.ps).drop (cutN (a.ps ++ b.ps).length)) ((a.ks ++ b.ks).drop (cutN (a.ks ++ b.ks).length)))
/-- Two limbs apart from each other, made of the blocks of S and of new ones. -/
def TwoL (w w' : World) (b1 b2 : Nat) (t1 t2 : T) (S : Nat → Prop) : Prop := ∃ S1 S2 : Nat → Prop, Limb w' S1 b1 t1 ∧ Limb w' S2 b2 t2 ∧ (∀ x, S1 x → ¬ S2 x) ∧ (∀ x, S1 x ∨ S2 x → (S x ∨ w.heap.size ≤ x) ∧ x < w'.heap.size) ∧ Only S w w'
theorem pcs_take (l : List PB) : ∀ m, (pcs l).take (m * 2) = pcs (l.take m) := by
  induction l with
  | nil => intro m; simp [pcs]
  | cons p l ih =>
    intro m
    cases m with
    | zero => simp [pcs]
    | succ m => rw [show (m + 1) * 2 = m * 2 + 1 + 1 by omega, pcs, List.take_succ_cons, List.take_succ_cons, ih, List.take_succ_cons, pcs]
theorem pcs_drop (l : List PB) : ∀ m, (pcs l).drop (m * 2) = pcs (l.drop m) := by
  induction l with
  | nil => intro m; simp [pcs]
  | cons p l ih =>
    intro m
    cases m with
    | zero => simp
    | succ m => rw [show (m + 1) * 2 = m * 2 + 1 + 1 by omega, pcs, List.drop_succ_cons, List.drop_succ_cons, ih, List.drop_succ_cons]
theorem ptrs_take (A : Nat → Nat) (n m : Nat) (h : m ≤ n) : (ptrs A n).take m = ptrs A m := by
  apply List.ext_getElem
  · simp [ptrs]; omega
  · intro i h1 h2; simp [ptrs]
theorem ptrs_drop (A : Nat → Nat) (n m : Nat) : (ptrs A n).drop m = ptrs (fun i => A (m + i)) (n - m) := by
  apply List.ext_getElem
  · simp [ptrs]
  · intro i h1 h2; simp [ptrs]
theorem ptrs_app (A1 A2 : Nat → Nat) (n1 n2 : Nat) : ptrs A1 n1 ++ ptrs A2 n2 = ptrs (fun i => if i < n1 then A1 i else A2 (i - n1)) (n1 + n2) := by
  apply List.ext_getElem
  · simp [ptrs]
  · intro i h1 h2
    by_cases hi : i < n1
    · rw [List.getElem_append_left (by simpa [ptrs] using hi)]; simp [ptrs, hi]
    · rw [List.getElem_append_right (by simpa [ptrs] using hi)]; simp [ptrs, hi]
theorem cutN_le (n : Nat) : cutN n ≤ n := by unfold cutN; split <;> omega
theorem tAt_take {ks : List T} {m i : Nat} (h : i < m) : tAt (ks.take m) i = tAt ks i := by simp [tAt, h]
theorem tAt_drop {ks : List T} {m i : Nat} : tAt (ks.drop m) i = tAt ks (m + i) := by simp [tAt]
theorem tAt_app1 {ks ls : List T} {i : Nat} (h : i < ks.length) : tAt (ks ++ ls) i = tAt ks i := by simp [tAt, List.getElem?_append_left h]
theorem tAt_app2 {ks ls : List T} {i : Nat} (h : ks.length ≤ i) : tAt (ks ++ ls) i = tAt ls (i - ks.length) := by simp [tAt, List.getElem?_append_right h]
set_option maxHeartbeats 2000000 in
theorem together_any (S1 S2 : Nat → Prop) (b1 b2 : Nat) (t1 t2 : T) (w : World) (h1 : Limb w S1 b1 t1) (h2 : Limb w S2 b2 t2) (hd : ∀ x, S1 x → ¬ S2 x) (hS1 : ∀ x, S1 x → x < w.heap.size) (hS2 : ∀ x, S2 x → x < w.heap.size)
    (hnp : (t1.ps ++ t2.ps).length ≤ 1048576) (hnk : (t1.ks ++ t2.ks).length ≤ 1048576) :
    Calls Tryz.prog 90 #[.pointer (some ⟨b1, 0, none⟩), .pointer (some ⟨b2, 0, none⟩)] w fun e w' => e = .returned (.tuple #[]) ∧ TwoL w w' b1 b2 (shT t1 t2).1 (shT t1 t2).2 (fun x => S1 x ∨ S2 x) := by
  cases h1 with
  | mk _ _ pv1 kv1 ps1 ks1 A1 SS1 hb1 hB1 hP1 hK1 hPS1 hKS1 hSS1 hD1 hk1 =>
  cases h2 with
  | mk _ _ pv2 kv2 ps2 ks2 A2 SS2 hb2 hB2 hP2 hK2 hPS2 hKS2 hSS2 hD2 hk2 =>
  have hne : b1 ≠ b2 := fun e => hd b1 hb1 (e ▸ hb2)
  obtain ⟨ap1, cp1, rfl⟩ := own_shape hP1
  obtain ⟨ap2, cp2, rfl⟩ := own_shape hP2
  obtain ⟨ak1, ck1, rfl⟩ := own_shape hK1
  obtain ⟨ak2, ck2, rfl⟩ := own_shape hK2
  simp only [T.ps, T.ks, List.length_append] at hnp hnk
  have n1 : ∀ x, S1 x → x ≠ b2 := fun x hx e => hd x hx (e ▸ hb2)
  have n2 : ∀ x, S2 x → x ≠ b1 := fun x hx e => hd b1 hb1 (e ▸ hx)
  refine (together_raw b1 b2 ap1 ak1 ap2 ak2 _ cp1 _ ck1 _ cp2 _ ck2 (pcs ps1) (pcs ps2) (ptrs A1 ks1.length) (ptrs A2 ks2.length) w hne hB1 hB2
    (rw_own hP1 (fun k e _ _ => ⟨(hPS1 k e).2, n1 k (hPS1 k e).1⟩)) (rw_own hP2 (fun k e _ _ => ⟨n2 k (hPS2 k e).1, (hPS2 k e).2⟩))
    (rw_own hK1 (fun k e _ _ => ⟨(hKS1 k e).2.1, n1 k (hKS1 k e).1⟩)) (rw_own hK2 (fun k e _ _ => ⟨n2 k (hKS2 k e).1, (hKS2 k e).2.1⟩))
    (pcs_length _) (pcs_length _) (by rw [ptrs_length]; omega) (by rw [ptrs_length]; omega) (pcs_one _) (pcs_one _) (ptrs_one _ _) (ptrs_one _ _) hnp hnk).mono ?_
  rintro e w' ⟨rfl, p1, p2, k1, k2, lo, hp1, hp2, hk1', hk2', hlo, hpp, hkk, hpl, hB1', hB2', hon⟩
  refine ⟨rfl, ?_⟩
  rw [← pcs_append] at hp1 hp2
  rw [ptrs_app] at hk1' hk2'
  rw [Nat.mul_one] at hk1' hk2'
  rw [pcs_take] at hp1
  rw [pcs_drop] at hp2
  have hlp : (ps1 ++ ps2).length = ps1.length + ps2.length := List.length_append
  have hlk : (ks1 ++ ks2).length = ks1.length + ks2.length := List.length_append
  have hcp := cutN_le (ps1.length + ps2.length)
  have hck := cutN_le (ks1.length + ks2.length)
  generalize hA : (fun i => if i < ks1.length then A1 i else A2 (i - ks1.length)) = A at hk1' hk2'
  rw [ptrs_take _ _ _ hck] at hk1'
  rw [ptrs_drop] at hk2'
  obtain ⟨SS, hSS⟩ : ∃ SS : Nat → Nat → Prop, SS = fun i => if i < ks1.length then SS1 i else SS2 (i - ks1.length) := ⟨_, rfl⟩
  have sL : ∀ i, i < ks1.length → SS i = SS1 i ∧ A i = A1 i := fun i hi => by rw [hSS, ← hA]; simp [hi]
  have sR : ∀ i, ¬ i < ks1.length → SS i = SS2 (i - ks1.length) ∧ A i = A2 (i - ks1.length) := fun i hi => by rw [hSS, ← hA]; simp [hi]
  clear hSS hA
  have hk : ∀ i, i < ks1.length + ks2.length → Limb w (SS i) (A i) (tAt (ks1 ++ ks2) i) ∧ ∀ x, SS i x → (S1 x ∨ S2 x) ∧ x ≠ b1 ∧ x ≠ b2 := fun i hi => by
    by_cases h : i < ks1.length
    · rw [(sL i h).1, (sL i h).2, tAt_app1 h]
      exact ⟨hk1 i h, fun x hx => ⟨.inl (hSS1 i h x hx).1, (hSS1 i h x hx).2.1, n1 x (hSS1 i h x hx).1⟩⟩
    · rw [(sR i h).1, (sR i h).2, tAt_app2 (by omega)]
      exact ⟨hk2 _ (by omega), fun x hx => ⟨.inr (hSS2 _ (by omega) x hx).1, n2 x (hSS2 _ (by omega) x hx).1, (hSS2 _ (by omega) x hx).2.1⟩⟩
  have hD : ∀ i j, i < ks1.length + ks2.length → j < ks1.length + ks2.length → i ≠ j → ∀ x, SS i x → ¬ SS j x := fun i j hi hj hij x hx hy => by
    by_cases h : i < ks1.length <;> by_cases h' : j < ks1.length
    · rw [(sL i h).1] at hx; rw [(sL j h').1] at hy; exact hD1 i j h h' hij x hx hy
    · rw [(sL i h).1] at hx; rw [(sR j h').1] at hy; exact hd x (hSS1 i h x hx).1 (hSS2 _ (by omega) x hy).1
    · rw [(sR i h).1] at hx; rw [(sL j h').1] at hy; exact hd x (hSS1 j h' x hy).1 (hSS2 _ (by omega) x hx).1
    · rw [(sR i h).1] at hx; rw [(sR j h').1] at hy; exact hD2 _ _ (by omega) (by omega) (by omega) x hx hy
  clear sL sR hk1 hk2 hD1 hD2 hSS1 hSS2
  have hold : ∀ x, S1 x ∨ S2 x → x < w.heap.size := fun x h => h.elim (hS1 x) (hS2 x)
  have hSSlt : ∀ i, i < ks1.length + ks2.length → ∀ x, SS i x → x < w.heap.size := fun i hi x hx => hold x ((hk i hi).2 x hx).1
  have q1 := fun x h => World.ownsRow.lt hp1 x h
  have q2 := fun x h => World.ownsRow.lt hp2 x h
  have q3 := fun x h => World.ownsRow.lt hk1' x h
  have q4 := fun x h => World.ownsRow.lt hk2' x h
  have e1 := hS1 b1 hb1
  have e2 := hS2 b2 hb2
  have hsz := hon.size
  generalize hcN : cutN (ps1.length + ps2.length) = cp at *
  generalize hcK : cutN (ks1.length + ks2.length) = ck at *
  refine ⟨fun x => x = b1 ∨ p1.ownBlock = some x ∨ k1.ownBlock = some x ∨ ∃ i, i < ck ∧ SS i x, fun x => x = b2 ∨ p2.ownBlock = some x ∨ k2.ownBlock = some x ∨ ∃ i, ck ≤ i ∧ i < ks1.length + ks2.length ∧ SS i x, ?_, ?_, ?_, ?_, ?_⟩
  · show Limb w' _ b1 (.mk ((ps1 ++ ps2).take (cutN (ps1 ++ ps2).length)) ((ks1 ++ ks2).take (cutN (ks1 ++ ks2).length)))
    rw [hlp, hlk, hcN, hcK]
    have l1 : ((ps1 ++ ps2).take cp).length = cp := by rw [List.length_take, hlp]; omega
    have l2 : ((ks1 ++ ks2).take ck).length = ck := by rw [List.length_take, hlk]; omega
    refine .mk _ b1 p1 k1 _ _ A SS (.inl rfl) hB1' (by rw [l1]; exact own_mono hp1 (Nat.zero_le _)) (by rw [l2]; exact own_mono hk1' (Nat.zero_le _)) (fun x hx => ⟨.inr (.inl hx), ?_⟩) (fun x hx => ⟨.inr (.inr (.inl hx)), ?_, ?_⟩) (fun i hi x hx => ?_) (fun i j hi hj => ?_) (fun i hi => ?_)
    · have := (q1 x hx).1; omega
    · have := (q3 x hx).1; omega
    · intro h; have := hpl x (.inl h); have := (q3 x hx).1; omega
    · rw [l2] at hi
      have h5 := hSSlt i (by omega) x hx
      refine ⟨.inr (.inr (.inr ⟨i, hi, hx⟩)), ((hk i (by omega)).2 x hx).2.1, fun h => ?_, fun h => ?_⟩
      · have := (q1 x h).1; omega
      · have := (q3 x h).1; omega
    · rw [l2] at hi hj; exact hD i j (by omega) (by omega)
    · rw [l2] at hi
      rw [tAt_take hi]
      exact (hk i (by omega)).1.to hon (fun x hx hr => by have := ((hk i (by omega)).2 x hx).2; rcases hr with h | h; exact this.1 h; exact this.2 h)
  · show Limb w' _ b2 (.mk ((ps1 ++ ps2).drop (cutN (ps1 ++ ps2).length)) ((ks1 ++ ks2).drop (cutN (ks1 ++ ks2).length)))
    rw [hlp, hlk, hcN, hcK]
    have l1 : ((ps1 ++ ps2).drop cp).length = ps1.length + ps2.length - cp := by rw [List.length_drop, hlp]
    have l2 : ((ks1 ++ ks2).drop ck).length = ks1.length + ks2.length - ck := by rw [List.length_drop, hlk]
    refine .mk _ b2 p2 k2 _ _ (fun i => A (ck + i)) (fun i => SS (ck + i)) (.inl rfl) hB2' (by rw [l1]; exact own_mono hp2 (Nat.zero_le _)) (by rw [l2]; exact own_mono hk2' (Nat.zero_le _)) (fun x hx => ⟨.inr (.inl hx), ?_⟩) (fun x hx => ⟨.inr (.inr (.inl hx)), ?_, ?_⟩) (fun i hi x hx => ?_) (fun i j hi hj hij => ?_) (fun i hi => ?_)
    · have := (q2 x hx).1; omega
    · have := (q4 x hx).1; omega
    · intro h; have := hpl x (.inr h); have := (q4 x hx).1; omega
    · rw [l2] at hi
      have h5 := hSSlt (ck + i) (by omega) x hx
      refine ⟨.inr (.inr (.inr ⟨ck + i, by omega, by omega, hx⟩)), ((hk (ck + i) (by omega)).2 x hx).2.2, fun h => ?_, fun h => ?_⟩
      · have := (q2 x h).1; omega
      · have := (q4 x h).1; omega
    · rw [l2] at hi hj; exact hD (ck + i) (ck + j) (by omega) (by omega) (by omega)
    · rw [l2] at hi
      rw [tAt_drop]
      exact (hk (ck + i) (by omega)).1.to hon (fun x hx hr => by have := ((hk (ck + i) (by omega)).2 x hx).2; rcases hr with h | h; exact this.1 h; exact this.2 h)
  · rintro x (h | h | h | ⟨i, hi, h⟩) (h' | h' | h' | ⟨j, hj, hj', h'⟩)
    · exact hne (h ▸ h')
    · have := (q2 x h').1; omega
    · have := (q4 x h').1; omega
    · have := ((hk j hj').2 x h').2.1; exact this h
    · have := (q1 x h).1; omega
    · exact hpp x h h'
    · have := hpl x (.inl h); have := (q4 x h').1; omega
    · have := (q1 x h).1; have := hSSlt j hj' x h'; omega
    · have := (q3 x h).1; omega
    · have := hpl x (.inr h'); have := (q3 x h).1; omega
    · exact hkk x h h'
    · have := (q3 x h).1; have := hSSlt j hj' x h'; omega
    · have := ((hk i (by omega)).2 x h).2.2; exact this h'
    · have := (q2 x h').1; have := hSSlt i (by omega) x h; omega
    · have := (q4 x h').1; have := hSSlt i (by omega) x h; omega
    · exact hD i j (by omega) hj' (by omega) x h h'
  · rintro x ((h | h | h | ⟨i, hi, h⟩) | (h | h | h | ⟨j, hj, hj', h⟩))
    · rw [h]; exact ⟨.inl (.inl hb1), by omega⟩
    · exact ⟨.inr (q1 x h).1, (q1 x h).2⟩
    · exact ⟨.inr (Nat.le_trans hlo (q3 x h).1), (q3 x h).2⟩
    · exact ⟨.inl ((hk i (by omega)).2 x h).1, by have := hSSlt i (by omega) x h; omega⟩
    · rw [h]; exact ⟨.inl (.inr hb2), by omega⟩
    · exact ⟨.inr (q2 x h).1, (q2 x h).2⟩
    · exact ⟨.inr (Nat.le_trans hlo (q4 x h).1), (q4 x h).2⟩
    · exact ⟨.inl ((hk j hj').2 x h).1, by have := hSSlt j hj' x h; omega⟩
  · exact hon.mono (fun x _ h => h.elim (fun e => .inl (e ▸ hb1)) (fun e => .inr (e ▸ hb2)))
end Go.Proofs.YtkfeefaokghibabGreat
/-
  strings.Compare, and slices.BinarySearchFunc over pairs that ascend.
-/
namespace Go.Proofs.YtkfeefaokghibabGreat
open Go.RowKit
def cmpV (a b : ByteArray) : Int := Lib.compareBytes a.data.toList b.data.toList
theorem cmpL_cases : ∀ (a b : List UInt8), (Op.bytesLess a b = true ∧ Lib.compareBytes a b = -1) ∨ (a = b ∧ Lib.compareBytes a b = 0) ∨ (Op.bytesLess b a = true ∧ Lib.compareBytes a b = 1)
  | [], [] => .inr (.inl ⟨rfl, rfl⟩)
  | [], _ :: _ => .inl ⟨rfl, rfl⟩
  | _ :: _, [] => .inr (.inr ⟨rfl, rfl⟩)
  | x :: a, y :: b => by
    simp only [Op.bytesLess, Lib.compareBytes]
    by_cases h1 : x < y
    · exact .inl ⟨by simp [h1], by simp [h1]⟩
    · by_cases h2 : y < x
      · exact .inr (.inr ⟨by simp [h2], by simp [h1, h2]⟩)
      · have e : x = y := UInt8.le_antisymm (UInt8.not_lt.1 h2) (UInt8.not_lt.1 h1)
        subst e
        simp only [h1, if_false, decide_false, Bool.false_or, beq_self_eq_true, Bool.true_and]
        rcases cmpL_cases a b with h | ⟨rfl, h⟩ | h
        · exact .inl h
        · exact .inr (.inl ⟨rfl, h⟩)
        · exact .inr (.inr h)
theorem cmpV_cases (a b : ByteArray) : (klt a b = true ∧ cmpV a b = -1) ∨ (a = b ∧ cmpV a b = 0) ∨ (klt a b = false ∧ a ≠ b ∧ cmpV a b = 1) := by
  unfold klt cmpV
  rw [ByteArray.toList_eq, ByteArray.toList_eq]
  rcases cmpL_cases a.data.toList b.data.toList with h | ⟨h1, h2⟩ | ⟨h1, h2⟩
  · exact .inl h
  · exact .inr (.inl ⟨str_ext (by rw [ByteArray.toList_eq, ByteArray.toList_eq]; exact h1), h2⟩)
  · refine .inr (.inr ⟨less_asymm _ _ h1, ?_, h2⟩)
    rintro rfl
    rw [less_irrefl] at h1
    cases h1
set_option maxHeartbeats 1000000 in
set_option maxRecDepth 100000 in
theorem compareString_any (a b : ByteArray) (w : World) : Calls Tryz.prog 109 #[.string a, .string b] w fun e w' => e = .returned (.int .i64 (cmpV a b)) ∧ w' = w := by
  go_enter Tryz.func109, Tryz.ntmps109
  go_wp2
  rw [run_callFunc_extern Tryz.func116 (by kernel_rfl) (by kernel_rfl) (by kernel_rfl) (e := Extern.BytealgCompare.compare) (by kernel_rfl), Lib.run_compareString]
  simp only [Result.andThen]
  rw [Oper.upon_value]
  go_wp2
  go_ret
  exact ⟨rfl, rfl⟩
set_option maxHeartbeats 1000000 in
theorem compare_any (a b : ByteArray) (w : World) : Calls Tryz.prog 101 #[.string a, .string b] w fun e w' => e = .returned (.int .i64 (cmpV a b)) ∧ w' = w := by
  go_enter Tryz.func101, Tryz.ntmps101
  go_wp2_with fail
  refine (compareString_any a b w).mono ?_
  rintro e w1 ⟨rfl, rfl⟩
  generalize hx : cmpV a b = x
  have HX := hid hx
  clear hx
  go_wp2
  go_ret
  exact ⟨by rw [HX.out]; rfl, rfl⟩
set_option maxHeartbeats 1000000 in
theorem pairFor1_any (a b k : ByteArray) (w : World) : Calls Tryz.prog 100 #[.agg #[.string a, .string b], .string k] w fun e w' => e = .returned (.int .i64 (cmpV a k)) ∧ Below w.heap.size w w' := by
  have HB0 := hid (below_new (o := .cells #[.string a, .string b] 64) (w := w) (Below.refl _ _))
  go_enter Tryz.func100, Tryz.ntmps100
  go_wp2_with fail
  refine (compare_any a k _).mono ?_
  rintro e w1 ⟨rfl, rfl⟩
  generalize hx : cmpV a k = x
  have HX := hid hx
  clear hx
  go_wp2
  go_ret
  exact ⟨by rw [HX.out]; rfl, HB0.out⟩
end Go.Proofs.YtkfeefaokghibabGreat
/-
  slices.BinarySearchFunc over pairs that ascend; pairFor: the place of a key in a leaf.
-/
namespace Go.Proofs.YtkfeefaokghibabGreat
open Go.RowKit
theorem Pr.cells {w : World} {S : Nat → Prop} {b off n c : Nat} {l : List PB} (h : Pr w S (.slice (some ⟨b, off, none⟩) n c) l) {i : Nat} (hi : i < l.length) : w.cell? ⟨b, off + i * 2, none⟩ = some (.string (pAtB l i).1) ∧ w.cell? ⟨b, off + i * 2 + 1, none⟩ = some (.string (pAtB l i).2) := by
  have hn := (Rw.len h).1
  obtain ⟨b', off', e, _, _, hc⟩ := Rw.at h (by omega)
  cases e
  obtain ⟨h1, h2⟩ := pcs_at l i hi
  exact ⟨hc _ _ h1, hc _ _ h2⟩
def there (l : List PB) (k : ByteArray) : Bool := decide (pos l k < l.length ∧ (pAtB l (pos l k)).1 = k)
set_option maxHeartbeats 4000000 in
set_option maxRecDepth 20000 in
theorem bsearch_any (S : Nat → Prop) (a : Option Addr) (n c : Nat) (l : List PB) (k : ByteArray) (w : World) (h : Pr w S (.slice a n c) l) (ha : Asc l) (hs : n ≤ 1048576) :
    Calls Tryz.prog 99 #[.slice a n c, .string k, .func (.func 100) #[] #[]] w fun e w' =>
      e = .returned (.tuple #[.int .i64 (pos l k : Nat), .bool (there l k)]) ∧ Below w.heap.size w w' := by
  have HN := hid (Rw.len h).1
  have hnc := (Rw.len h).2.1
  have H0 := hid h
  have HA := hid ha
  clear h ha
  go_enter Tryz.func99, Tryz.ntmps99
  go_wp2_with fail
  go_loopw [9, 10] (fun x y wr => ∃ lo hi : Nat, x = .int .i64 lo ∧ y = .int .i64 hi ∧ lo ≤ hi ∧ hi ≤ n ∧ Hid (∀ i, i < lo → klt (pAtB l i).1 k = true) ∧ Hid (∀ i, hi ≤ i → i < n → klt (pAtB l i).1 k = false) ∧ Hid (Below w.heap.size w wr)) (fun x y _ => (intOf y).toNat - (intOf x).toNat)
  case atStart => exact ⟨0, n, rfl, rfl, Nat.zero_le _, Nat.le_refl _, fun i h => absurd h (Nat.not_lt_zero _), fun i h1 h2 => by omega, Below.refl _ _⟩
  case round =>
    obtain ⟨lo, hi, rfl, rfl, hlh, hin, HLO, HHI, HB⟩ := hrel
    by_cases hlt : lo < hi
    · have hlt' : (lo : Int) < (hi : Int) := by omega
      generalize hm : (lo + hi) / 2 = m
      have hm1 : lo ≤ m := by omega
      have hm2 : m < hi := by omega
      have hdv : ((lo : Int) + (hi : Int)) / 2 = (m : Int) := by omega
      obtain ⟨b, off, hab, _, _, _⟩ := Rw.at (Pr.below H0.out HB.out) (by omega)
      subst hab
      obtain ⟨d0, d1⟩ := Pr.cells (Pr.below H0.out HB.out) (i := m) (by have := HN.out; omega)
      have HK := hid (cmpV_cases (pAtB l m).1 k)
      have HM := hid hm
      have hmn : (m : Int) < (n : Int) := by omega
      clear hm
      go_wp2_with fail
      refine (pairFor1_any _ _ k wr).mono ?_
      rintro e w1 ⟨rfl, hb⟩
      have HB1 := hid (Below.then' HB.out hb (Nat.le_refl _))
      clear hb d0 d1 HB
      cases hk : klt (pAtB l m).1 k with
      | true =>
        have hv : cmpV (pAtB l m).1 k < 0 := by
          rcases HK.out with h | ⟨h, _⟩ | ⟨h, _⟩
          · rw [h.2]; decide
          · rw [h, klt_irrefl] at hk; cases hk
          · rw [h] at hk; cases hk
        have HL1 : Hid (∀ i, i < m + 1 → klt (pAtB l i).1 k = true) := by
          intro i hi
          by_cases e : i = m
          · subst e; exact hk
          · exact klt_trans (HA.out.at (show i < m by omega) (by have := HN.out; omega)) hk
        generalize cmpV (pAtB l m).1 k = z at *
        clear hk HK
        go_wp2
        go_roundw
        case rel => exact ⟨m + 1, hi, by go_num, rfl, by omega, hin, HL1.out, HHI.out, HB1.out⟩
        case measure => simp [intOf]; omega
      | false =>
        have hv : ¬ cmpV (pAtB l m).1 k < 0 := by
          rcases HK.out with h | ⟨_, h⟩ | ⟨_, _, h⟩
          · rw [h.1] at hk; cases hk
          · rw [h]; decide
          · rw [h]; decide
        have HH1 : Hid (∀ i, m ≤ i → i < n → klt (pAtB l i).1 k = false) := by
          intro i h1 h2
          by_cases e : i = m
          · subst e; exact hk
          · cases hi : klt (pAtB l i).1 k with
            | false => rfl
            | true =>
              have := klt_trans (HA.out.at (show m < i by omega) (by have := HN.out; omega)) hi
              rw [hk] at this
              cases this
        generalize cmpV (pAtB l m).1 k = z at *
        clear hk HK
        go_wp2
        go_roundw
        case rel => exact ⟨lo, m, rfl, rfl, hm1, by omega, HLO.out, HH1.out, HB1.out⟩
        case measure => simp [intOf]; omega
    · have hlt' : ¬ (lo : Int) < (hi : Int) := by omega
      have e : hi = lo := by omega
      subst e
      have HP : Hid (hi = pos l k) := pos_uniq l k hi (by rw [← HN.out]; exact hin) HLO.out (fun h => HHI.out hi (Nat.le_refl _) (by rw [HN.out]; exact h))
      by_cases hn : hi < n
      · have hn' : (hi : Int) < (n : Int) := by omega
        obtain ⟨b, off, hab, _, _, _⟩ := Rw.at (Pr.below H0.out HB.out) (by omega)
        subst hab
        obtain ⟨d0, d1⟩ := Pr.cells (Pr.below H0.out HB.out) (i := hi) (by have := HN.out; omega)
        have HK := hid (cmpV_cases (pAtB l hi).1 k)
        go_wp2_with fail
        refine (pairFor1_any _ _ k wr).mono ?_
        rintro e w1 ⟨rfl, hb⟩
        have HB1 := hid (Below.then' HB.out hb (Nat.le_refl _))
        clear hb d0 d1 HB
        by_cases hk : (pAtB l hi).1 = k
        · have hv : (cmpV (pAtB l hi).1 k == 0) = true := by
            rcases HK.out with h | ⟨_, h⟩ | ⟨_, h, _⟩
            · rw [hk, klt_irrefl] at h; cases h.1
            · rw [h]; rfl
            · exact absurd hk h
          have HR : Hid (there l k = true) := by
            show _ = _
            unfold there
            rw [← HP.out]
            exact decide_eq_true ⟨by rw [← HN.out]; exact hn, hk⟩
          generalize cmpV (pAtB l hi).1 k = z at *
          clear hk HK
          go_wp2
          go_ret2
          exact ⟨by rw [HR.out, ← HP.out]; rfl, HB1.out⟩
        · have hv : (cmpV (pAtB l hi).1 k == 0) = false := by
            rcases HK.out with ⟨_, h⟩ | ⟨h, _⟩ | ⟨_, _, h⟩
            · rw [h]; rfl
            · exact absurd h hk
            · rw [h]; rfl
          have HR : Hid (there l k = false) := by
            show _ = _
            unfold there
            rw [← HP.out]
            exact decide_eq_false fun h => hk h.2
          generalize cmpV (pAtB l hi).1 k = z at *
          clear hk HK
          go_wp2
          go_ret2
          exact ⟨by rw [HR.out, ← HP.out]; rfl, HB1.out⟩
      · have hn' : ¬ (hi : Int) < (n : Int) := by omega
        have HR : Hid (there l k = false) := by
          show _ = _
          unfold there
          rw [← HP.out]
          exact decide_eq_false fun h => hn (by rw [HN.out]; exact h.1)
        go_wp2
        go_ret2
        exact ⟨by rw [HR.out, ← HP.out]; rfl, HB.out⟩
set_option maxHeartbeats 1000000 in
theorem pairFor_any (S : Nat → Prop) (b : Nat) (t : T) (k : ByteArray) (w : World) (h : Limb w S b t) (ha : Asc t.ps) (hs : t.ps.length ≤ 1048576) :
    Calls Tryz.prog 83 #[.pointer (some ⟨b, 0, none⟩), .string k] w fun e w' => e = .returned (.tuple #[.int .i64 (pos t.ps k : Nat), .bool (there t.ps k)]) ∧ Below w.heap.size w w' := by
  obtain ⟨ap, cp, ak, ck, A, c0, c1, hp, hk, hkid, _, _⟩ := h.see
  clear c1 hk hkid h
  have HP := hid hp
  clear hp
  go_enter Tryz.func83, Tryz.ntmps83
  go_wp2_with fail
  refine (bsearch_any S ap _ cp t.ps k w HP.out ha hs).mono ?_
  rintro e w1 ⟨rfl, hb⟩
  have HB := hid hb
  clear hb c0
  generalize hp : pos t.ps k = p
  generalize ht : there t.ps k = q
  have HE := hid (And.intro hp ht)
  clear hp ht
  go_wp2
  go_ret2
  exact ⟨by rw [HE.out.1, HE.out.2]; rfl, HB.out⟩
end Go.Proofs.YtkfeefaokghibabGreat
/-
  putPair: a pair comes into a leaf.
-/
namespace Go.Proofs.YtkfeefaokghibabGreat
open Go.RowKit
/-- A list with the pair, at its key's place. -/
def insP (l : List PB) (p : PB) : List PB := if there l p.1 = true then l.set (pos l p.1) p else l.take (pos l p.1) ++ [p] ++ l.drop (pos l p.1)
/-- A limb made of the blocks of S and of new ones. -/
def OneL (w w' : World) (b : Nat) (t : T) (S : Nat → Prop) : Prop := ∃ S' : Nat → Prop, Limb w' S' b t ∧ (∀ x, S' x → (S x ∨ w.heap.size ≤ x) ∧ x < w'.heap.size) ∧ Only S w w'
theorem limb_pairs {w w' : World} {S : Nat → Prop} {b : Nat} {pv kv pv' : Value} {ps' : List PB} {ks : List T} {A : Nat → Nat} {SS : Nat → Nat → Prop} (hS : ∀ x, S x → x < w.heap.size) (hb : S b) (hB' : Bk w' b 93 [pv', kv])
    (hP' : w'.ownsRow 0 64 2 pv' ps'.length (pcs ps')) (hK : w.ownsRow 0 59 1 kv ks.length (ptrs A ks.length))
    (hPS : ∀ x, pv.ownBlock = some x → S x ∧ x ≠ b) (hKS : ∀ x, kv.ownBlock = some x → S x ∧ x ≠ b ∧ pv.ownBlock ≠ some x)
    (hSS : ∀ i, i < ks.length → ∀ x, SS i x → S x ∧ x ≠ b ∧ pv.ownBlock ≠ some x ∧ kv.ownBlock ≠ some x)
    (hD : ∀ i j, i < ks.length → j < ks.length → i ≠ j → ∀ x, SS i x → ¬ SS j x)
    (hk : ∀ i, i < ks.length → Limb w (SS i) (A i) (tAt ks i))
    (hon : Only (fun y => y = b ∨ pv.ownBlock = some y) w w') (hown : pv'.ownBlock = pv.ownBlock ∨ ∃ k, pv'.ownBlock = some k ∧ w.heap.size ≤ k) : OneL w w' b (.mk ps' ks) S := by
  have hlt := World.ownsRow.lt hP'
  refine ⟨fun x => (S x ∨ pv'.ownBlock = some x) ∧ x < w'.heap.size, .mk _ b pv' kv ps' ks A SS ⟨.inl hb, hB'.lt⟩ hB' hP' (own_kept hK hon (fun k e hr => ?_)) (fun x hx => ⟨⟨.inr hx, (hlt x hx).2⟩, ?_⟩) (fun x hx => ⟨⟨.inl (hKS x hx).1, ?_⟩, (hKS x hx).2.1, ?_⟩) (fun i hi x hx => ⟨⟨.inl (hSS i hi x hx).1, ?_⟩, (hSS i hi x hx).2.1, ?_, (hSS i hi x hx).2.2.2⟩) hD (fun i hi => (hk i hi).to hon (fun x hx hr => ?_)), fun x hx => ⟨?_, hx.2⟩, hon.mono (fun x _ h => h.elim (fun e => e ▸ hb) (fun e => (hPS x e).1))⟩
  · rcases hr with h | h
    · exact (hKS k e).2.1 h
    · exact (hKS k e).2.2 h
  · rcases hown with e | ⟨k, e, hk⟩
    · rw [e] at hx; exact (hPS x hx).2
    · rw [e] at hx; cases hx; have := hS b hb; omega
  · have := hS x (hKS x hx).1; have := hon.size; omega
  · rcases hown with e | ⟨k, e, hk⟩
    · rw [e]; exact (hKS x hx).2.2
    · rw [e]; intro h; cases h; have := hS _ (hKS _ hx).1; omega
  · have := hS x (hSS i hi x hx).1; have := hon.size; omega
  · rcases hown with e | ⟨k, e, hk'⟩
    · rw [e]; exact (hSS i hi x hx).2.2.1
    · rw [e]; intro h; cases h; have := hS _ (hSS i hi _ hx).1; omega
  · rcases hr with h | h
    · exact (hSS i hi x hx).2.1 h
    · exact (hSS i hi x hx).2.2.1 h
  · rcases hx.1 with h | h
    · exact .inl h
    · rcases hown with e | ⟨k, e, hk⟩
      · rw [e] at h; exact .inl (hPS x h).1
      · rw [e] at h; cases h; exact .inr hk
theorem pcs_set1 (ps : List PB) (p : PB) (j : Nat) (hj : j < ps.length) : ((pcs ps).set (j * 2) (.string p.1)).set (j * 2 + 1) (.string p.2) = pcs (ps.set j p) := (pcs_set ps p j hj).symm
theorem OneL.from {w w1 w' : World} {b : Nat} {t : T} {S : Nat → Prop} (h : OneL w1 w' b t S) (hb : Below w.heap.size w w1) : OneL w w' b t S := by
  obtain ⟨S', h1, h2, h3⟩ := h
  exact ⟨S', h1, fun x hx => ⟨(h2 x hx).1.elim .inl (fun h => .inr (Nat.le_trans hb.size h)), (h2 x hx).2⟩, (only_of_below hb _).trans h3⟩
theorem bk_grown {w w' : World} {b : Nat} {T : TypeId} {xs : List Value} {o : Option Nat} (h : Bk w b T xs) (hg : w.grownBy w' o) (hne : o ≠ some b) : Bk w' b T xs := (hg.block b h.lt (fun e => hne e.symm)).trans h
theorem pcs_ins (ps : List PB) (p : Nat) (k v : ByteArray) : (pcs ps).take (p * 2) ++ [.string k, .string v] ++ (pcs ps).drop (p * 2) = pcs (ps.take p ++ [(k, v)] ++ ps.drop p) := by
  rw [pcs_take, pcs_drop, pcs_append, pcs_append]
  rfl
set_option maxHeartbeats 4000000 in
set_option maxRecDepth 20000 in
theorem putPair_any (S : Nat → Prop) (b : Nat) (t : T) (k v : ByteArray) (w : World) (h : Limb w S b t) (hS : ∀ x, S x → x < w.heap.size) (ha : Asc t.ps) (hs : t.ps.length ≤ 1000000) :
    Calls Tryz.prog 88 #[.pointer (some ⟨b, 0, none⟩), .agg #[.string k, .string v]] w fun e w' => e = .returned (.tuple #[]) ∧ OneL w w' b (.mk (insP t.ps (k, v)) t.ks) S := by
  have hb := below_new (o := .cells #[.string k, .string v] 64) (w := w) (Below.refl _ _)
  have HB0 := hid hb
  have KP := hid (Bk.new w 64 [.string k, .string v])
  have HPF := hid (fun w' hL => pairFor_any S b t k w' hL ha (by omega))
  have HL0 := hid (h.kept hb)
  clear hb
  go_enter Tryz.func88, Tryz.ntmps88
  go_wp2_with fail
  refine (HPF.out _ HL0.out).mono ?_
  generalize hU : w.alloc (.cells #[.string k, .string v] 64) = U at *
  clear hU
  rintro e w1 ⟨rfl, hb⟩
  have HB1 := hid (Below.then' HB0.out hb (Nat.le_refl _))
  have KP1 := hid (KP.out.below hb)
  have HL1 := hid (HL0.out.kept hb)
  clear hb HPF HL0 KP HB0
  cases HL1.out with
  | mk _ _ pv kv ps ks A SS hb hB hP hK hPS hKS hSS hD hk =>
  simp only [T.ps] at *
  obtain ⟨ap, cp, rfl⟩ := own_shape hP
  have hsz := HB1.out.size
  have hS1 : ∀ x, S x → x < w1.heap.size := fun x hx => Nat.lt_of_lt_of_le (hS x hx) hsz
  have HMK := hid (fun (w' : World) (pv' : Value) (ps' : List PB) hB' hP' hon hown => limb_pairs (w := w1) (w' := w') (pv' := pv') (ps' := ps') hS1 hb hB' hP' hK hPS hKS hSS hD hk hon hown)
  have c0 := hB.cell (j := 0) rfl
  have f0 := hB.free 0
  have p0 := KP1.out.cell (j := 0) rfl
  have p1 := KP1.out.cell (j := 1) rfl
  have KB := hid hB
  have HP := hid hP
  have HPB := hid hPS
  have HBL := hid (hS b hb)
  have HSO := hid hS
  clear hB hP hK hPS hKS hSS hD hk HL1 hS1 hS
  cases hth : there ps k with
  | true =>
    have hlt := (of_decide_eq_true hth).1
    have HI : Hid (insP ps (k, v) = ps.set (pos ps k) (k, v)) := by show _ = _; rw [insP, if_pos hth]
    obtain ⟨g, cap, cur, e, _, hg, hnc, hcm, hcs, htk⟩ : ∃ g cap cur, Value.slice ap ps.length cp = .slice (some ⟨g, 0, none⟩) ps.length cap ∧ 0 ≤ g ∧ w1.heap[g]? = some (.cells cur 64 (0, 0)) ∧ ps.length ≤ cap ∧ cap ≤ maxLen ∧ cur.size = cap * 2 ∧ cur.toList.take (ps.length * 2) = pcs ps := by
      rcases HP.out.2 with ⟨_, h0⟩ | h
      · omega
      · exact h
    cases e
    unfold maxLen at hcm
    have hgb : Bk w1 g 64 cur.toList := by show _ = _; simpa using hg
    have hcl : cur.toList.length = cp * 2 := by simpa using hcs
    generalize cur.toList = cl at *
    generalize hpp : pos ps k = p at *
    have hc : ∀ j u, (pcs ps)[j]? = some u → cl[j]? = some u := fun j u hu => by
      rw [← htk, List.getElem?_take] at hu
      split at hu
      · exact hu
      · cases hu
    have a0 := hgb.cell (hc _ _ (pcs_at ps p hlt).1)
    have a1 := hgb.cell (hc _ _ (pcs_at ps p hlt).2)
    have a2 := hgb.free (p * 2)
    have a3 := hgb.free (p * 2 + 1)
    have hgne : g ≠ b := (HPB.out g rfl).2
    have hgne2 : ¬ g = b := hgne
    have hgne3 : ¬ b = g := fun h => hgne h.symm
    have hlt' : (p : Int) < (ps.length : Int) := by omega
    have hp0 : (0 : Int) ≤ (p : Int) := by omega
    have HK : Hid (OneL w ((w1.setCell ⟨g, p * 2, none⟩ (.string k)).setCell ⟨g, p * 2 + 1, none⟩ (.string v)).drew b (.mk (insP ps (k, v)) ks) S) := by
      have hon : Only (fun y => y = b ∨ (Value.slice (some ⟨g, 0, none⟩) ps.length cp).ownBlock = some y) w1 ((w1.setCell ⟨g, p * 2, none⟩ (.string k)).setCell ⟨g, p * 2 + 1, none⟩ (.string v)).drew :=
        (((only_set (R := fun y => y = b ∨ (Value.slice (some ⟨g, 0, none⟩) ps.length cp).ownBlock = some y) (p := ⟨g, p * 2, none⟩) (.inr rfl) _).trans (only_set (R := fun y => y = b ∨ (Value.slice (some ⟨g, 0, none⟩) ps.length cp).ownBlock = some y) (p := ⟨g, p * 2 + 1, none⟩) (.inr rfl) _))).trans (only_of_below (below_drew _) _)
      refine OneL.from ?_ HB1.out
      rw [HI.out]
      refine HMK.out _ (.slice (some ⟨g, 0, none⟩) ps.length cp) _ ((KB.out.setOther hgne.symm _ _).setOther hgne.symm _ _) ⟨?_, .inr ⟨g, cp, ((cl.set (p * 2) (.string k)).set (p * 2 + 1) (.string v)).toArray, by rw [List.length_set], Nat.zero_le _, (hgb.set _ _).set _ _, ?_, ?_, ?_, ?_⟩⟩ hon (.inl rfl)
      · rw [pcs_length]
      · rw [List.length_set]; omega
      · unfold maxLen; omega
      · simp [hcl]
      · show ((cl.set (p * 2) (.string k)).set (p * 2 + 1) (.string v)).take ((ps.set p (k, v)).length * 2) = _
        rw [List.length_set, List.take_set, List.take_set, htk]
        exact (pcs_set ps (k, v) p hlt).symm
    clear hg hcs htk hc HMK HI hgb hcl
    generalize (pAtB ps p).1 = x0 at *
    generalize (pAtB ps p).2 = x1 at *
    generalize ps.length = n at *
    go_wp2_with fail
    go_region
    all_goals (go_wp2_with fail)
    all_goals go_end0
    all_goals exact ⟨rfl, HK.out⟩
  | false =>
    have HI : Hid (insP ps (k, v) = ps.take (pos ps k) ++ [(k, v)] ++ ps.drop (pos ps k)) := by
      show _ = _
      rw [insP, if_neg (by rw [show ((k, v) : PB).1 = k from rfl, hth]; decide)]
    have hle := pos_le ps k
    generalize hpp : pos ps k = p at *
    have HIN := hid (fun (w' : World) vb (hO : w'.ownsRow 0 64 2 (.slice ap ps.length cp) ps.length (pcs ps)) hB hne => insertP_any (.slice ap ps.length cp) ps.length p vb 0 (pcs ps) [.string k, .string v] w' hO (Nat.zero_le _) hle (by omega) hB rfl (pcs_one ps) (by intro u hu; simp at hu; rcases hu with rfl | rfl <;> rfl) hne)
    clear hpp hth
    have hbn := below_new (o := .cells #[.string k, .string v] 64) (w := w1) (Below.refl _ _)
    have hbd : Below w1.heap.size w1 (w1.alloc (.cells #[.string k, .string v] 64)).drew := Below.then' hbn (below_drew _) (Nat.le_refl _)
    have HC := hid (HIN.out (w1.alloc (.cells #[.string k, .string v] 64)).drew w1.heap.size (own_kept HP.out (only_of_below hbd (fun _ => False)) (fun _ _ h => h)) ((Bk.new w1 64 [.string k, .string v]).below (below_drew _)) (fun e => by have := (World.ownsRow.lt HP.out _ e).2; omega))
    have KB2 := hid (KB.out.below hbd)
    have c0a := (KB.out.below hbn).cell (j := 0) rfl
    have c0b := (KB.out.below hbd).cell (j := 0) rfl
    have HBD := hid hbd
    have hbne : (Value.slice ap ps.length cp).ownBlock ≠ some b := fun e => (HPB.out b e).2 rfl
    have HBN := hid hbne
    have HFIN : Hid (∀ (a3 : Option Addr) (c3 : Nat) (w3 : World), w3.ownsRow 0 64 2 (.slice a3 (ps.length + 1) c3) (ps.length + 1) ((pcs ps).take (p * 2) ++ [.string k, .string v] ++ (pcs ps).drop (p * 2)) → (w1.alloc (.cells #[.string k, .string v] 64)).drew.grownBy w3 (Value.slice ap ps.length cp).ownBlock →
        ((Value.slice a3 (ps.length + 1) c3).ownBlock = (Value.slice ap ps.length cp).ownBlock ∨ ∃ q, (Value.slice a3 (ps.length + 1) c3).ownBlock = some q ∧ (w1.alloc (.cells #[.string k, .string v] 64)).drew.heap.size ≤ q) → OneL w (w3.setCell ⟨b, 0, none⟩ (.slice a3 (ps.length + 1) c3)) b (.mk (insP ps (k, v)) ks) S) := by
      intro a3 c3 w3 hO3 hg3 hw3
      rw [pcs_ins] at hO3
      have hl : (ps.take p ++ [(k, v)] ++ ps.drop p).length = ps.length + 1 := by simp only [List.length_append, List.length_take, List.length_drop, List.length_cons, List.length_nil]; omega
      have hb3 : b < w1.heap.size := Nat.lt_of_lt_of_le HBL.out hsz
      have hne3 : (Value.slice a3 (ps.length + 1) c3).ownBlock ≠ some b := by
        rcases hw3 with e | ⟨q, e, hq⟩
        · rw [e]; exact hbne
        · rw [e]; intro h; cases h; have := hbd.size; omega
      refine OneL.from ?_ HB1.out
      rw [HI.out]
      refine HMK.out _ (.slice a3 (ps.length + 1) c3) _ ((bk_grown KB2.out hg3 hbne).set 0 _) (by rw [hl]; exact own_kept hO3 (only_set (R := fun y => y = b) rfl _) (fun q e h => hne3 (h ▸ e))) ?_ ?_
      · exact ((only_of_below hbd _).trans (only_of_grown hg3 (R := fun y => y = b ∨ (Value.slice ap ps.length cp).ownBlock = some y) (fun q e => .inr e))).trans (only_set (R := fun y => y = b ∨ (Value.slice ap ps.length cp).ownBlock = some y) (.inl rfl) _)
      · rcases hw3 with e | ⟨q, e, hq⟩
        · exact .inl e
        · exact .inr ⟨q, e, Nat.le_trans hbd.size hq⟩
    clear hbn hbd hbne HIN
    go_wp2_with fail
    go_region_with (go_at_call 103; refine HC.out.mono ?_; rintro e w3 ⟨a3, c3, rfl, hO3, hg3, hw3⟩; have e0 := (bk_grown KB2.out hg3 HBN.out).cell (j := 0) rfl; have e1 := (bk_grown KB2.out hg3 HBN.out).free 0)
    all_goals (go_wp2_with fail)
    all_goals go_end0
    all_goals exact ⟨rfl, HFIN.out _ _ _ hO3 hg3 hw3⟩
end Go.Proofs.YtkfeefaokghibabGreat
/-
  kidFor, get: the way down to a key.
-/
namespace Go.Proofs.YtkfeefaokghibabGreat
open Go.RowKit
theorem kidF_stop {ks : List T} {k : ByteArray} {f p : Nat} (h : ¬ (p + 1 < ks.length ∧ klt k (tAt ks (p + 1)).least = false)) : kidF ks k f p = p := by
  cases f with
  | zero => rfl
  | succ f => rw [kidF, if_neg h]
set_option maxHeartbeats 4000000 in
theorem kidFor_any (S : Nat → Prop) (b : Nat) (t : T) (k : ByteArray) (w : World) (h : Limb w S b t) (hf : ∀ x ∈ t.ks, x.full false = true) (hs : t.ks.length ≤ 1048576) :
    Calls Tryz.prog 85 #[.pointer (some ⟨b, 0, none⟩), .string k] w fun e w' => e = .returned (.int .i64 (kidOf t.ks k : Nat)) ∧ ∃ q, w' = w.drewN q := by
  have H0 := hid h
  have HF := hid hf
  clear h hf
  go_enter Tryz.func85, Tryz.ntmps85
  go_wp2_with fail
  go_loopw [5] (fun x wr => ∃ (p f q : Nat), x = .int .i64 p ∧ wr = w.drewN q ∧ Hid (kidF t.ks k f p = kidOf t.ks k) ∧ t.ks.length ≤ p + f ∧ p ≤ t.ks.length) (fun x _ => t.ks.length - (intOf x).toNat)
  case atStart => exact ⟨0, t.ks.length, 0, rfl, rfl, rfl, by omega, Nat.zero_le _⟩
  case round =>
    obtain ⟨p, f, q, rfl, rfl, HK, hpf, hpl⟩ := hrel
    have HL := hid (H0.out.kept (Below.drewN' (Below.refl _ _) q))
    obtain ⟨ap, cp, ak, ck, A, c0, c1, _, hk, hkid, _, _⟩ := HL.out.see
    have hck := (Rw.len hk).2
    by_cases hlt : p + 1 < t.ks.length
    · have hlt' : (p : Int) + 1 < (t.ks.length : Int) := by omega
      obtain ⟨x, off, rfl, _, _, hc⟩ := Rw.at hk (by omega)
      have d0 := hc (p + 1) _ (ptrs_at A _ (p + 1) hlt)
      obtain ⟨S1, _, hk1⟩ := hkid (p + 1) hlt
      have HK1 := hid hk1
      have HNE := hid (full_ne _ _ (HF.out _ (tAt_mem hlt)))
      simp only [ptr] at d0
      clear hc hk hkid hk1
      generalize A (p + 1) = bk at *
      go_wp2_with fail
      refine (least_any S1 bk _ _ HK1.out HNE.out).mono ?_
      rintro e w1 ⟨rfl, q1, rfl⟩
      cases hkl : klt k (tAt t.ks (p + 1)).least with
      | false =>
        obtain ⟨f, rfl⟩ : ∃ g, f = g + 1 := ⟨f - 1, by omega⟩
        have HK2 : Hid (kidF t.ks k f (p + 1) = kidOf t.ks k) := by
          have := HK.out
          rw [kidF, if_pos ⟨hlt, hkl⟩] at this
          exact this
        have hle : Op.bytesLess k.toList (tAt t.ks (p + 1)).least.toList = false := hkl
        generalize (tAt t.ks (p + 1)).least = z at *
        clear hkl
        rcases tri z k with ⟨h1, h2, h3, h4⟩ | rfl | ⟨h1, h2, h3, h4⟩
        · go_wp2
          go_roundw
          case rel => exact ⟨p + 1, f, q + q1, by go_num, rfl, HK2.out, by omega, by omega⟩
          case measure => simp [intOf]; omega
        · go_wp2
          go_roundw
          case rel => exact ⟨p + 1, f, q + q1, by go_num, rfl, HK2.out, by omega, by omega⟩
          case measure => simp [intOf]; omega
        · rw [hle] at h2; cases h2
      | true =>
        have HK2 : Hid (kidOf t.ks k = p) := by
          have := HK.out
          rw [kidF_stop (by intro h; rw [hkl] at h; cases h.2)] at this
          exact this.symm
        have hle : Op.bytesLess k.toList (tAt t.ks (p + 1)).least.toList = true := hkl
        generalize (tAt t.ks (p + 1)).least = z at *
        clear hkl
        rcases tri z k with ⟨h1, h2, h3, h4⟩ | rfl | ⟨h1, h2, h3, h4⟩
        · rw [hle] at h2; cases h2
        · rw [less_irrefl] at hle; cases hle
        · go_wp2
          go_ret
          exact ⟨by rw [HK2.out]; rfl, q + q1, rfl⟩
    · have hlt' : ¬ (p : Int) + 1 < (t.ks.length : Int) := by omega
      have HK2 : Hid (kidOf t.ks k = p) := by
        have := HK.out
        rw [kidF_stop (fun h => hlt h.1)] at this
        exact this.symm
      clear hk hkid
      go_wp2
      go_ret
      exact ⟨by rw [HK2.out]; rfl, q, rfl⟩
end Go.Proofs.YtkfeefaokghibabGreat
/-
  get: what lies beside a key in a tree.
-/
namespace Go.Proofs.YtkfeefaokghibabGreat
open Go.RowKit
/-- What a look-up answers. -/
def gotV : Option ByteArray → Value
  | none => .tuple #[.string ⟨#[]⟩, .bool false]
  | some v => .tuple #[.string v, .bool true]
structure GetOk (t : T) : Prop where
  asc : Asc t.all
  br : t.ks ≠ [] → t.ps = [] ∧ ∀ x ∈ t.ks, x.full false = true
  few : t.ps.length ≤ 8 ∧ t.ks.length ≤ 8
theorem full_getOk {t : T} {r : Bool} (h : t.full r = true) (ha : Asc t.all) : GetOk t := by
  obtain ⟨ps, ks⟩ := t
  by_cases hk : ks = []
  · subst hk
    exact ⟨ha, fun h => absurd rfl h, by have := full_lf h; show ps.length ≤ 8 ∧ 0 ≤ 8; omega⟩
  · have := full_br h hk
    refine ⟨ha, fun _ => this.2.2, ?_, ?_⟩
    · show ps.length ≤ 8
      rw [this.2.2.1]
      decide
    · show ks.length ≤ 8
      omega
theorem szL_mem : ∀ (ks : List T) (x : T), x ∈ ks → x.size ≤ szL ks
  | k :: ks, x, h => by
    rw [szL]
    rcases List.mem_cons.1 h with rfl | h
    · omega
    · have := szL_mem ks x h; omega
theorem kid_size {ps : List PB} {ks : List T} {x : T} (h : x ∈ ks) : x.size < (T.mk ps ks).size := by
  have := szL_mem ks x h
  rw [T.size]
  omega
end Go.Proofs.YtkfeefaokghibabGreat
/-
  put: a pair comes into a tree; what one node can't hold comes newly behind it.
-/
namespace Go.Proofs.YtkfeefaokghibabGreat
open Go.RowKit
def bareT : T := .mk [] []
/-- Kids, one of which has become two. -/
def insK (ks : List T) (i : Nat) (r : T × T) : List T := if r.2.bare = true then ks.set i r.1 else (ks.set i r.1).take (i + 1) ++ [r.2] ++ (ks.set i r.1).drop (i + 1)
def putF : Nat → T → PB → T × T
  | 0, t, _ => (t, bareT)
  | f + 1, t, p => if t.ks = [] then shT (.mk (insP t.ps p) t.ks) bareT else shT (.mk t.ps (insK t.ks (kidOf t.ks p.1) (putF f (tAt t.ks (kidOf t.ks p.1)) p))) bareT
theorem insP_len (l : List PB) (p : PB) : (insP l p).length ≤ l.length + 1 := by
  unfold insP
  split
  · simp
  · simp only [List.length_append, List.length_take, List.length_drop, List.length_cons, List.length_nil]; omega
theorem insK_len (ks : List T) (i : Nat) (r : T × T) : (insK ks i r).length ≤ ks.length + 1 := by
  unfold insK
  split
  · simp
  · simp only [List.length_append, List.length_take, List.length_drop, List.length_cons, List.length_nil, List.length_set]; omega
theorem shT_small (a b : T) : (shT a b).2.ps.length ≤ a.ps.length + b.ps.length ∧ (shT a b).2.ks.length ≤ a.ks.length + b.ks.length := by
  constructor
  · show ((a.ps ++ b.ps).drop _).length ≤ _
    rw [List.length_drop, List.length_append]; omega
  · show ((a.ks ++ b.ks).drop _).length ≤ _
    rw [List.length_drop, List.length_append]; omega
/-- What a limb is made of. -/
structure LB (w : World) (S : Nat → Prop) (b : Nat) (pv kv : Value) (ps : List PB) (ks : List T) (A : Nat → Nat) (SS : Nat → Nat → Prop) : Prop where
  hb : S b
  hB : Bk w b 93 [pv, kv]
  hP : w.ownsRow 0 64 2 pv ps.length (pcs ps)
  hK : w.ownsRow 0 59 1 kv ks.length (ptrs A ks.length)
  hPS : ∀ x, pv.ownBlock = some x → S x ∧ x ≠ b
  hKS : ∀ x, kv.ownBlock = some x → S x ∧ x ≠ b ∧ pv.ownBlock ≠ some x
  hSS : ∀ i, i < ks.length → ∀ x, SS i x → S x ∧ x ≠ b ∧ pv.ownBlock ≠ some x ∧ kv.ownBlock ≠ some x
  hD : ∀ i j, i < ks.length → j < ks.length → i ≠ j → ∀ x, SS i x → ¬ SS j x
  hk : ∀ i, i < ks.length → Limb w (SS i) (A i) (tAt ks i)
theorem LB.limb {w : World} {S : Nat → Prop} {b : Nat} {pv kv : Value} {ps : List PB} {ks : List T} {A : Nat → Nat} {SS : Nat → Nat → Prop} (h : LB w S b pv kv ps ks A SS) : Limb w S b (.mk ps ks) := .mk S b pv kv ps ks A SS h.hb h.hB h.hP h.hK h.hPS h.hKS h.hSS h.hD h.hk
theorem Limb.lb {w : World} {S : Nat → Prop} {b : Nat} {ps : List PB} {ks : List T} (h : Limb w S b (.mk ps ks)) : ∃ pv kv A SS, LB w S b pv kv ps ks A SS := by
  cases h with
  | mk _ _ pv kv _ _ A SS hb hB hP hK hPS hKS hSS hD hk => exact ⟨pv, kv, A, SS, ⟨hb, hB, hP, hK, hPS, hKS, hSS, hD, hk⟩⟩
theorem LB.kept {w w' : World} {S : Nat → Prop} {b : Nat} {pv kv : Value} {ps : List PB} {ks : List T} {A : Nat → Nat} {SS : Nat → Nat → Prop} (h : LB w S b pv kv ps ks A SS) (hb : Below w.heap.size w w') : LB w' S b pv kv ps ks A SS :=
  ⟨h.hb, h.hB.below hb, own_kept h.hP (only_of_below hb (fun _ => False)) (fun _ _ h => h), own_kept h.hK (only_of_below hb (fun _ => False)) (fun _ _ h => h), h.hPS, h.hKS, h.hSS, h.hD, fun i hi => (h.hk i hi).kept hb⟩
/-- A kid has turned into another one; all else is as it was. -/
theorem LB.kid {w w' : World} {S : Nat → Prop} {b : Nat} {pv kv : Value} {ps : List PB} {ks : List T} {A : Nat → Nat} {SS : Nat → Nat → Prop} (h : LB w S b pv kv ps ks A SS) (hS : ∀ x, S x → x < w.heap.size) {q : Nat} (hq : q < ks.length) {S1 : Nat → Prop} {t' : T} (hL : Limb w' S1 (A q) t') (h1 : ∀ x, S1 x → (SS q x ∨ w.heap.size ≤ x) ∧ x < w'.heap.size) (hon : Only (SS q) w w') :
    LB w' (fun x => S x ∨ S1 x) b pv kv ps (ks.set q t') A (fun i => if i = q then S1 else SS i) := by
  obtain ⟨hb, hB, hP, hK, hPS, hKS, hSS, hD, hk⟩ := h
  have hPl := World.ownsRow.lt hP
  have hKl := World.ownsRow.lt hK
  refine ⟨.inl hb, hB.to hon (fun h => (hSS q hq b h).2.1 rfl), own_kept hP hon (fun k e h => (hSS q hq k h).2.2.1 e), by rw [List.length_set]; exact own_kept hK hon (fun k e h => (hSS q hq k h).2.2.2 e), fun x hx => ⟨.inl (hPS x hx).1, (hPS x hx).2⟩, fun x hx => ⟨.inl (hKS x hx).1, (hKS x hx).2⟩, ?_, ?_, ?_⟩
  · intro i hi x hx
    rw [List.length_set] at hi
    by_cases e : i = q
    · simp only [e, if_true] at hx
      refine ⟨.inr hx, ?_⟩
      rcases (h1 x hx).1 with h | h
      · exact (hSS q hq x h).2
      · refine ⟨fun h' => ?_, fun h' => ?_, fun h' => ?_⟩
        · have := hS b hb; omega
        · have := (hPl x h').2; omega
        · have := (hKl x h').2; omega
    · simp only [e, if_false] at hx
      exact ⟨.inl (hSS i hi x hx).1, (hSS i hi x hx).2⟩
  · intro i j hi hj hij x hx hy
    rw [List.length_set] at hi hj
    by_cases e : i = q
    · have e' : j ≠ q := by omega
      simp only [e, if_true] at hx
      simp only [e', if_false] at hy
      rcases (h1 x hx).1 with h | h
      · exact hD q j hq hj (by omega) x h hy
      · have := hS x (hSS j hj x hy).1; omega
    · simp only [e, if_false] at hx
      by_cases e' : j = q
      · simp only [e', if_true] at hy
        rcases (h1 x hy).1 with h | h
        · exact hD q i hq hi (by omega) x h hx
        · have := hS x (hSS i hi x hx).1; omega
      · simp only [e', if_false] at hy
        exact hD i j hi hj hij x hx hy
  · intro i hi
    rw [List.length_set] at hi
    by_cases e : i = q
    · subst e
      simp only [if_true]
      have : tAt (ks.set i t') i = t' := by simp [tAt, hi]
      rw [this]
      exact hL
    · simp only [e, if_false]
      have : tAt (ks.set q t') i = tAt ks i := by simp [tAt, Ne.symm e]
      rw [this]
      exact (hk i hi).to hon (fun x hx h => hD i q hi hq e x hx h)
theorem ptrs_ins (A : Nat → Nat) (n p c : Nat) (h : p ≤ n) : (ptrs A n).take p ++ [ptr c] ++ (ptrs A n).drop p = ptrs (fun i => if i < p then A i else if i = p then c else A (i - 1)) (n + 1) := by
  apply List.ext_getElem?
  intro i
  rcases Nat.lt_trichotomy i p with hi | hi | hi
  · rw [List.append_assoc, List.getElem?_append_left (by simp [ptrs]; omega), List.getElem?_take, if_pos hi, ptrs_at _ _ _ (by omega), ptrs_at _ _ _ (by omega), if_pos hi]
  · rw [List.append_assoc, List.getElem?_append_right (by simp [ptrs]; omega), ptrs_at _ _ _ (by omega), if_neg (by omega), if_pos hi]
    have : i - (List.take p (ptrs A n)).length = 0 := by simp [ptrs]; omega
    rw [this]; rfl
  · rw [List.getElem?_append_right (by simp [ptrs]; omega), List.getElem?_drop]
    have : p + (i - (List.take p (ptrs A n) ++ [ptr c]).length) = i - 1 := by simp [ptrs]; omega
    rw [this]
    by_cases hn : i < n + 1
    · rw [ptrs_at _ _ _ (by omega), ptrs_at _ _ _ hn, if_neg (by omega), if_neg (by omega)]
    · rw [List.getElem?_eq_none (by simp [ptrs]; omega), List.getElem?_eq_none (by simp [ptrs]; omega)]
theorem tAt_ins (ks : List T) (p : Nat) (c : T) (h : p ≤ ks.length) (i : Nat) : tAt (ks.take p ++ [c] ++ ks.drop p) i = if i < p then tAt ks i else if i = p then c else tAt ks (i - 1) := by
  have hl : (ks.take p).length = p := by rw [List.length_take]; omega
  rcases Nat.lt_trichotomy i p with hi | hi | hi
  · rw [List.append_assoc, tAt_app1 (by omega), tAt_take hi, if_pos hi]
  · rw [List.append_assoc, tAt_app2 (by omega), hl, if_neg (by omega), if_pos hi, show i - p = 0 by omega]; rfl
  · rw [tAt_app2 (by rw [List.length_append, hl]; simp; omega), tAt_drop, if_neg (by omega), if_neg (by omega)]
    congr 1
    rw [List.length_append, hl]; simp; omega
/-- A new kid has come in behind the one at q. -/
theorem LB.ins {w w' : World} {S : Nat → Prop} {b : Nat} {pv kv kv' : Value} {ps : List PB} {ks : List T} {A : Nat → Nat} {SS : Nat → Nat → Prop} (h : LB w S b pv kv ps ks A SS) (hS : ∀ x, S x → x < w.heap.size) {p : Nat} (hp : p ≤ ks.length) {S2 : Nat → Prop} {b2 : Nat} {t2 : T} (hL : Limb w S2 b2 t2)
    (h2 : ∀ x, S2 x → x ≠ b ∧ pv.ownBlock ≠ some x ∧ kv.ownBlock ≠ some x ∧ x < w.heap.size) (h3 : ∀ i, i < ks.length → ∀ x, SS i x → ¬ S2 x) (hB' : Bk w' b 93 [pv, kv'])
    (hK' : w'.ownsRow 0 59 1 kv' (ks.length + 1) ((ptrs A ks.length).take p ++ [ptr b2] ++ (ptrs A ks.length).drop p)) (hon : Only (fun y => y = b ∨ kv.ownBlock = some y) w w') (hown : kv'.ownBlock = kv.ownBlock ∨ ∃ k, kv'.ownBlock = some k ∧ w.heap.size ≤ k) :
    OneL w w' b (.mk ps (ks.take p ++ [t2] ++ ks.drop p)) (fun x => S x ∨ S2 x) := by
  obtain ⟨hb, hB, hP, hK, hPS, hKS, hSS, hD, hk⟩ := h
  have hl : (ks.take p ++ [t2] ++ ks.drop p).length = ks.length + 1 := by
    simp only [List.length_append, List.length_take, List.length_drop, List.length_cons, List.length_nil]; omega
  have hlt := World.ownsRow.lt hK'
  have hPl := World.ownsRow.lt hP
  have hKl := World.ownsRow.lt hK
  rw [ptrs_ins _ _ _ _ hp] at hK'
  have hnew : ∀ x, kv'.ownBlock = some x → x ≠ b ∧ pv.ownBlock ≠ some x := by
    intro x hx
    rcases hown with e | ⟨k, e, hk⟩
    · rw [e] at hx; exact (hKS x hx).2
    · rw [e] at hx; cases hx
      exact ⟨fun h => (by have := hS b hb; omega), fun h => (by have := (hPl _ h).2; omega)⟩
  have hsz := hon.size
  -- the kids' blocks
  have hSS' : ∀ i, i < ks.length + 1 → ∀ x, (if i < p then SS i else if i = p then S2 else SS (i - 1)) x → (S x ∨ S2 x) ∧ x ≠ b ∧ pv.ownBlock ≠ some x ∧ kv.ownBlock ≠ some x ∧ x < w.heap.size := by
    intro i hi x hx
    by_cases c1 : i < p
    · simp only [c1, if_true] at hx
      have := hSS i (by omega) x hx
      exact ⟨.inl this.1, this.2.1, this.2.2.1, this.2.2.2, hS x this.1⟩
    · by_cases c2 : i = p
      · simp only [c1, if_false] at hx
        rw [if_pos c2] at hx
        have := h2 x hx
        exact ⟨.inr hx, this⟩
      · simp only [c1, c2, if_false] at hx
        have := hSS (i - 1) (by omega) x hx
        exact ⟨.inl this.1, this.2.1, this.2.2.1, this.2.2.2, hS x this.1⟩
  refine ⟨fun x => ((S x ∨ S2 x) ∨ kv'.ownBlock = some x) ∧ x < w'.heap.size, .mk _ b pv kv' ps _ (fun i => if i < p then A i else if i = p then b2 else A (i - 1)) (fun i => if i < p then SS i else if i = p then S2 else SS (i - 1)) ⟨.inl (.inl hb), hB'.lt⟩ hB' (own_kept hP hon ?_) (by rw [hl]; exact hK') (fun x hx => ⟨⟨.inl (.inl (hPS x hx).1), ?_⟩, (hPS x hx).2⟩) (fun x hx => ⟨⟨.inr hx, (hlt x hx).2⟩, hnew x hx⟩) ?_ ?_ ?_, fun x hx => ⟨?_, hx.2⟩, hon.mono ?_⟩
  · rintro k e (h | h)
    · exact (hPS k e).2 h
    · exact (hKS k h).2.2 e
  · have := hS x (hPS x hx).1; omega
  · intro i hi x hx
    rw [hl] at hi
    obtain ⟨a1, a2, a3, a4, a5⟩ := hSS' i hi x hx
    refine ⟨⟨.inl a1, by omega⟩, a2, a3, ?_⟩
    rcases hown with e | ⟨k, e, hk⟩
    · rw [e]; exact a4
    · rw [e]; intro h; cases h; omega
  · intro i j hi hj hij x hx hy
    rw [hl] at hi hj
    by_cases c1 : i < p
    · simp only [c1, if_true] at hx
      by_cases d1 : j < p
      · simp only [d1, if_true] at hy
        exact hD i j (by omega) (by omega) hij x hx hy
      · simp only [d1, if_false] at hy
        by_cases d2 : j = p
        · rw [if_pos d2] at hy; exact h3 i (by omega) x hx hy
        · rw [if_neg d2] at hy; exact hD i (j - 1) (by omega) (by omega) (by omega) x hx hy
    · simp only [c1, if_false] at hx
      by_cases c2 : i = p
      · rw [if_pos c2] at hx
        by_cases d1 : j < p
        · simp only [d1, if_true] at hy; exact h3 j (by omega) x hy hx
        · simp only [d1, if_false] at hy
          rw [if_neg (by omega)] at hy; exact h3 (j - 1) (by omega) x hy hx
      · rw [if_neg c2] at hx
        by_cases d1 : j < p
        · simp only [d1, if_true] at hy; exact hD (i - 1) j (by omega) (by omega) (by omega) x hx hy
        · simp only [d1, if_false] at hy
          by_cases d2 : j = p
          · rw [if_pos d2] at hy; exact h3 (i - 1) (by omega) x hx hy
          · rw [if_neg d2] at hy; exact hD (i - 1) (j - 1) (by omega) (by omega) (by omega) x hx hy
  · intro i hi
    rw [hl] at hi
    rw [tAt_ins _ _ _ hp]
    have key : ∀ (R : Nat → Prop) (c : Nat) (t : T), Limb w R c t → (∀ x, R x → x ≠ b ∧ kv.ownBlock ≠ some x) → Limb w' R c t := fun R c t hl hr => hl.to hon (fun x hx h => h.elim (hr x hx).1 (hr x hx).2)
    by_cases c1 : i < p
    · simp only [c1, if_true]
      exact key _ _ _ (hk i (by omega)) (fun x hx => ⟨(hSS i (by omega) x hx).2.1, (hSS i (by omega) x hx).2.2.2⟩)
    · by_cases c2 : i = p
      · simp only [c1, if_false]
        rw [if_pos c2, if_pos c2, if_pos c2]
        exact key _ _ _ hL (fun x hx => ⟨(h2 x hx).1, (h2 x hx).2.2.1⟩)
      · simp only [c1, c2, if_false]
        exact key _ _ _ (hk (i - 1) (by omega)) (fun x hx => ⟨(hSS (i - 1) (by omega) x hx).2.1, (hSS (i - 1) (by omega) x hx).2.2.2⟩)
  · rcases hx.1 with h | h
    · exact .inl h
    · rcases hown with e | ⟨k, e, hk⟩
      · rw [e] at h; exact .inl (.inl (hKS x h).1)
      · rw [e] at h; cases h; exact .inr hk
  · rintro x - (h | h)
    · exact .inl (h ▸ hb)
    · exact .inl (hKS x h).1
end Go.Proofs.YtkfeefaokghibabGreat
/-
  Putting a pair in, as plain data: the program's way and the specification's come to the same; what comes of it is full, even and in order.
-/
namespace Go.Proofs.YtkfeefaokghibabGreat
open Go.RowKit
theorem key_eq {a b : ByteArray} (h : klt a b = false) (h' : klt b a = false) : a = b := by
  by_cases e : a.toList = b.toList
  · exact str_ext e
  · have := less_total _ _ h e
    rw [show Op.bytesLess b.toList a.toList = klt b a from rfl, h'] at this
    cases this
theorem there_cons_lt {x p : PB} {l : List PB} (h : klt x.1 p.1 = true) : there (x :: l) p.1 = there l p.1 ∧ pos (x :: l) p.1 = pos l p.1 + 1 := by
  have e : pos (x :: l) p.1 = pos l p.1 + 1 := by rw [pos, if_pos h]
  refine ⟨?_, e⟩
  unfold there
  rw [e]
  have h1 : (pos l p.1 + 1 < (x :: l).length) = (pos l p.1 < l.length) := by simp
  have h2 : pAtB (x :: l) (pos l p.1 + 1) = pAtB l (pos l p.1) := by simp [pAtB]
  rw [h2]
  simp only [h1]
theorem pos_cons_ge {x p : PB} {l : List PB} (h : klt x.1 p.1 = false) : pos (x :: l) p.1 = 0 := by rw [pos, h]; rfl
theorem insP_nil (p : PB) : insP [] p = [p] := by simp [insP, there, pos]
theorem insP_lt {x p : PB} {l : List PB} (h : klt x.1 p.1 = true) : insP (x :: l) p = x :: insP l p := by
  obtain ⟨h1, h2⟩ := there_cons_lt (l := l) h
  unfold insP
  rw [h1, h2]
  split <;> simp
theorem insP_eq {x p : PB} {l : List PB} (h : x.1 = p.1) : insP (x :: l) p = p :: l := by
  have h0 : klt x.1 p.1 = false := by rw [h]; exact klt_irrefl _
  have h1 := pos_cons_ge (l := l) h0
  have h2 : there (x :: l) p.1 = true := by unfold there; rw [h1]; simp [pAtB, h]
  unfold insP
  rw [h2, h1]; simp
theorem insP_gt {x p : PB} {l : List PB} (h : klt x.1 p.1 = false) (hne : x.1 ≠ p.1) : insP (x :: l) p = p :: x :: l := by
  have h1 := pos_cons_ge (l := l) h
  have h2 : there (x :: l) p.1 = false := by unfold there; rw [h1]; simp [pAtB, hne]
  unfold insP
  rw [h2, h1]; simp
theorem insP_left (A : List PB) {B : List PB} {p : PB} (h : ∀ x ∈ A, klt x.1 p.1 = true) : insP (A ++ B) p = A ++ insP B p := by
  induction A with
  | nil => rfl
  | cons a A ih => rw [List.cons_append, insP_lt (h a (by simp)), ih (fun x hx => h x (by simp [hx])), List.cons_append]
theorem insP_right (A : List PB) {B : List PB} {p : PB} (h : ∀ x ∈ B, klt p.1 x.1 = true) : insP (A ++ B) p = insP A p ++ B := by
  induction A with
  | nil =>
    rw [List.nil_append, insP_nil]
    cases B with
    | nil => rw [insP_nil]; rfl
    | cons b B =>
      have := h b (by simp)
      rw [insP_gt (klt_asymm this) (klt_ne this).symm]; rfl
  | cons a A ih =>
    rw [List.cons_append]
    cases hk : klt a.1 p.1 with
    | true => rw [insP_lt hk, insP_lt hk, ih]; rfl
    | false =>
      by_cases e : a.1 = p.1
      · rw [insP_eq e, insP_eq e]; rfl
      · rw [insP_gt hk e, insP_gt hk e]; rfl
theorem insP_mem {l : List PB} {p x : PB} (h : x ∈ insP l p) : x = p ∨ x ∈ l := by
  induction l with
  | nil => rw [insP_nil] at h; simpa using h
  | cons a l ih =>
    cases hk : klt a.1 p.1 with
    | true =>
      rw [insP_lt hk] at h
      rcases List.mem_cons.1 h with h | h
      · exact .inr (by simp [h])
      · exact (ih h).imp id (fun h => by simp [h])
    | false =>
      by_cases e : a.1 = p.1
      · rw [insP_eq e] at h
        rcases List.mem_cons.1 h with h | h
        · exact .inl h
        · exact .inr (by simp [h])
      · rw [insP_gt hk e] at h
        rcases List.mem_cons.1 h with h | h
        · exact .inl h
        · exact .inr h
theorem insP_asc {l : List PB} {p : PB} (h : Asc l) : Asc (insP l p) := by
  induction l with
  | nil => rw [insP_nil]; exact List.pairwise_singleton _ _
  | cons a l ih =>
    obtain ⟨h1, h2⟩ := List.pairwise_cons.1 h
    cases hk : klt a.1 p.1 with
    | true =>
      rw [insP_lt hk]
      refine List.pairwise_cons.2 ⟨fun x hx => ?_, ih h2⟩
      rcases insP_mem hx with rfl | hx
      · exact hk
      · exact h1 x hx
    | false =>
      by_cases e : a.1 = p.1
      · rw [insP_eq e]
        exact List.pairwise_cons.2 ⟨fun x hx => by rw [← e]; exact h1 x hx, h2⟩
      · rw [insP_gt hk e]
        have hlt : klt p.1 a.1 = true := by
          cases hq : klt p.1 a.1 with
          | true => rfl
          | false => exact absurd (key_eq hk hq) e
        refine List.pairwise_cons.2 ⟨fun x hx => ?_, h⟩
        rcases List.mem_cons.1 hx with rfl | hx
        · exact hlt
        · exact klt_trans hlt (h1 x hx)
theorem insP_pos (l : List PB) (p : PB) : l.length ≤ (insP l p).length ∧ 1 ≤ (insP l p).length := by
  induction l with
  | nil => rw [insP_nil]; simp
  | cons a l ih =>
    cases hk : klt a.1 p.1 with
    | true => rw [insP_lt hk]; simp; omega
    | false =>
      by_cases e : a.1 = p.1
      · rw [insP_eq e]; simp
      · rw [insP_gt hk e]; simp
/-- The specification's way: pair after pair. -/
def insS : List PB → PB → Bool → List PB
  | [], p, d => if d = true then [] else [p]
  | x :: l, p, d => (if d = false ∧ klt x.1 p.1 = false then [p] else []) ++ ((if x.1 = p.1 then [] else [x]) ++ insS l p (d || !klt x.1 p.1))
theorem insS_done {l : List PB} {p : PB} (h : ∀ x ∈ l, x.1 ≠ p.1) : insS l p true = l := by
  induction l with
  | nil => rfl
  | cons a l ih =>
    rw [insS, if_neg (by simp), if_neg (h a (by simp))]
    simp [ih (fun x hx => h x (by simp [hx]))]
theorem insS_eq {l : List PB} {p : PB} (h : Asc l) : insS l p false = insP l p := by
  induction l with
  | nil => rw [insP_nil]; rfl
  | cons a l ih =>
    obtain ⟨h1, h2⟩ := List.pairwise_cons.1 h
    cases hk : klt a.1 p.1 with
    | true =>
      rw [insP_lt hk, insS, if_neg (by simp [hk]), if_neg (klt_ne hk), hk, ← ih h2]; rfl
    | false =>
      by_cases e : a.1 = p.1
      · rw [insP_eq e, insS, if_pos ⟨rfl, hk⟩, if_pos e, hk]
        have := insS_done (l := l) (p := p) (fun x hx => by rw [← e]; exact (klt_ne (h1 x hx)).symm)
        simp [this]
      · have hlt : klt p.1 a.1 = true := by
          cases hq : klt p.1 a.1 with
          | true => rfl
          | false => exact absurd (key_eq hk hq) e
        rw [insP_gt hk e, insS, if_pos ⟨rfl, hk⟩, if_neg e, hk]
        have := insS_done (l := l) (p := p) (fun x hx => (klt_ne (klt_trans hlt (h1 x hx))).symm)
        simp [this]
/-- The specification's way down: the last kid whose least key isn't greater. -/
def wayF (ks : List T) (k : ByteArray) : Nat → Nat → Nat → Nat
  | 0, _, a => a
  | f + 1, i, a => if i < ks.length then wayF ks k f (i + 1) (if klt k (tAt ks i).least = false then i else a) else a
def wayOf (ks : List T) (k : ByteArray) : Nat := wayF ks k ks.length 1 0
theorem wayF_up (ks : List T) (k : ByteArray) : ∀ f i a, ks.length ≤ i + f → (∀ j, i ≤ j → j < ks.length → klt k (tAt ks j).least = true) → wayF ks k f i a = a
  | 0, i, a, _, _ => rfl
  | f + 1, i, a, h, hg => by
    rw [wayF]
    split
    · rename_i hi
      rw [hg i (Nat.le_refl _) hi]
      exact wayF_up ks k f (i + 1) a (by omega) (fun j h1 h2 => hg j (by omega) h2)
    · rfl
theorem wayF_spec (ks : List T) (k : ByteArray) (q : Nat) (hlo : ∀ j, 1 ≤ j → j ≤ q → j < ks.length → klt k (tAt ks j).least = false) (hhi : ∀ j, q < j → j < ks.length → klt k (tAt ks j).least = true) (hq : q < ks.length) : ∀ f i, 1 ≤ i → i ≤ q + 1 → ks.length ≤ i + f → wayF ks k f i (i - 1) = q
  | 0, i, h1, h2, h3 => by rw [wayF]; omega
  | f + 1, i, h1, h2, h3 => by
    by_cases e : i = q + 1
    · rw [wayF_up ks k (f + 1) i _ h3 (fun j hj hl => hhi j (by omega) hl)]; omega
    · rw [wayF, if_pos (by omega), if_pos (hlo i h1 (by omega) (by omega))]
      exact wayF_spec ks k q hlo hhi hq f (i + 1) (by omega) (by omega) (by omega)
theorem least_mem {t : T} (h : t.full false = true) : ∃ v, (t.least, v) ∈ t.all := by
  obtain ⟨v, rest, e⟩ := full_head _ _ h
  exact ⟨v, by rw [e]; simp⟩
theorem allL_mem {ks : List T} {q : Nat} (h : q < ks.length) {x : PB} (hx : x ∈ (tAt ks q).all) : x ∈ allL ks := by
  rw [all_split h]; simp [hx]
theorem leasts_asc {ks : List T} (hf : ∀ x ∈ ks, x.full false = true) (ha : Asc (allL ks)) {i j : Nat} (hij : i < j) (hj : j < ks.length) : klt (tAt ks i).least (tAt ks j).least = true := by
  have h1 : j < ks.length := hj
  rw [all_split h1] at ha
  obtain ⟨_, _, hab⟩ := List.pairwise_append.1 ha
  obtain ⟨v, hv⟩ := least_mem (hf _ (tAt_mem (show i < ks.length by omega)))
  obtain ⟨u, hu⟩ := least_mem (hf _ (tAt_mem h1))
  have e : tAt (ks.take j) i = tAt ks i := tAt_take hij
  have := allL_mem (ks := ks.take j) (q := i) (by rw [List.length_take]; omega) (by rw [e]; exact hv)
  exact hab _ this _ (List.mem_append_left _ hu)
theorem wayOf_eq {ks : List T} {k : ByteArray} (hk : ks ≠ []) (hf : ∀ x ∈ ks, x.full false = true) (ha : Asc (allL ks)) : wayOf ks k = kidOf ks k := by
  obtain ⟨h1, h2, h3⟩ := kidOf_spec k hk
  refine wayF_spec ks k (kidOf ks k) (fun j a b c => ?_) (fun j a b => ?_) h1 ks.length 1 (Nat.le_refl _) (by omega) (by omega)
  · rcases h2 with h2 | h2
    · omega
    · by_cases e : j = kidOf ks k
      · rw [e]; exact h2
      · have := leasts_asc hf ha (show j < kidOf ks k by omega) h1
        cases hq : klt k (tAt ks j).least with
        | false => rfl
        | true => rw [klt_trans hq this] at h2; cases h2
  · by_cases e : j = kidOf ks k + 1
    · rw [e]; exact h3 (by omega)
    · exact klt_trans (h3 (by omega)) (leasts_asc hf ha (show kidOf ks k + 1 < j by omega) b)
def splT (t : T) : List T := if t.ks = [] ∧ 4 < t.ps.length then [.mk (t.ps.take 3) [], .mk (t.ps.drop 3) []] else if 4 < t.ks.length then [.mk [] (t.ks.take 3), .mk [] (t.ks.drop 3)] else [t]
def putS : Nat → T → PB → List T
  | 0, t, _ => [t]
  | f + 1, t, p => if t.ks = [] then splT (.mk (insS t.ps p false) []) else splT (.mk [] (t.ks.take (wayOf t.ks p.1) ++ putS f (tAt t.ks (wayOf t.ks p.1)) p ++ t.ks.drop (wayOf t.ks p.1 + 1)))
def two (r : T × T) : List T := if r.2.bare = true then [r.1] else [r.1, r.2]
theorem bare_bareT : bareT.bare = true := rfl
theorem bare_iff {t : T} : t.bare = true ↔ t = bareT := by
  obtain ⟨ps, ks⟩ := t
  constructor
  · intro h
    have h : ps.length + ks.length = 0 := of_decide_eq_true h
    rw [List.eq_nil_of_length_eq_zero (show ps.length = 0 by omega), List.eq_nil_of_length_eq_zero (show ks.length = 0 by omega)]; rfl
  · intro h; rw [h]; rfl
theorem shT_bare (t : T) : shT t bareT = (.mk (t.ps.take (cutN t.ps.length)) (t.ks.take (cutN t.ks.length)), .mk (t.ps.drop (cutN t.ps.length)) (t.ks.drop (cutN t.ks.length))) := by
  simp [shT, bareT, T.ps, T.ks]
theorem T.eta (t : T) : T.mk t.ps t.ks = t := by cases t; rfl
theorem shT_one {t : T} (h1 : t.ps.length ≤ 4) (h2 : t.ks.length ≤ 4) : shT t bareT = (t, bareT) := by
  rw [shT_bare, show cutN t.ps.length = t.ps.length by simp [cutN, h1], show cutN t.ks.length = t.ks.length by simp [cutN, h2]]
  simp [T.eta, bareT]
theorem shT_leaf {ps : List PB} (h : 4 < ps.length) : shT (.mk ps []) bareT = (.mk (ps.take 3) [], .mk (ps.drop 3) []) := by
  rw [shT_bare]; simp only [T.ps, T.ks]
  rw [show cutN ps.length = 3 by simp [cutN]; omega]
  simp
theorem shT_branch {ks : List T} (h : 4 < ks.length) : shT (.mk [] ks) bareT = (.mk [] (ks.take 3), .mk [] (ks.drop 3)) := by
  rw [shT_bare]; simp only [T.ps, T.ks]
  rw [show cutN ks.length = 3 by simp [cutN]; omega]
  simp
/-- What is put into one node, of at most five, comes to one full node or two. -/
theorem not_bare {ps : List PB} {ks : List T} (h : 0 < ps.length + ks.length) : (T.mk ps ks).bare = false := decide_eq_false (by show ¬ (ps.length + ks.length = 0); omega)
theorem two_one (a : T) : two (a, bareT) = [a] := rfl
theorem two_two {a b : T} (h : b.bare = false) : two (a, b) = [a, b] := by unfold two; rw [h]; rfl
theorem two_leaf {ps : List PB} : two (shT (.mk ps []) bareT) = splT (.mk ps []) := by
  unfold splT
  show _ = if ([] : List T) = [] ∧ 4 < ps.length then [T.mk (ps.take 3) [], .mk (ps.drop 3) []] else if 4 < ([] : List T).length then _ else _
  by_cases h : 4 < ps.length
  · rw [shT_leaf h, if_pos ⟨rfl, h⟩, two_two (not_bare (by simp; omega))]
  · rw [shT_one (t := .mk ps []) (show ps.length ≤ 4 by omega) (show ([] : List T).length ≤ 4 by simp), two_one, if_neg (fun e => h e.2), if_neg (by simp)]
theorem two_branch {ks : List T} (hk : ks ≠ []) : two (shT (.mk [] ks) bareT) = splT (.mk [] ks) := by
  unfold splT
  show _ = if ks = [] ∧ 4 < ([] : List PB).length then _ else if 4 < ks.length then [T.mk [] (ks.take 3), T.mk [] (ks.drop 3)] else [T.mk [] ks]
  rw [if_neg (fun e => hk e.1)]
  by_cases h : 4 < ks.length
  · rw [shT_branch h, if_pos h, two_two (not_bare (by simp; omega))]
  · rw [shT_one (t := .mk [] ks) (show ([] : List PB).length ≤ 4 by simp) (show ks.length ≤ 4 by omega), two_one, if_neg h]
theorem insK_two (ks : List T) (q : Nat) (r : T × T) (h : q < ks.length) : insK ks q r = ks.take q ++ two r ++ ks.drop (q + 1) := by
  have e : ks.set q r.1 = ks.take q ++ r.1 :: ks.drop (q + 1) := List.set_eq_take_append_cons_drop.trans (by rw [if_pos h])
  have hl : (ks.take q).length = q := by rw [List.length_take]; omega
  unfold insK two
  split
  · rw [e]; simp
  · rw [e]
    have e1 : (ks.take q ++ r.1 :: ks.drop (q + 1)).take (q + 1) = ks.take q ++ [r.1] := by
      rw [List.take_append, hl, List.take_of_length_le (by omega)]; simp [show q + 1 - q = 1 by omega]
    have e2 : (ks.take q ++ r.1 :: ks.drop (q + 1)).drop (q + 1) = ks.drop (q + 1) := by
      rw [List.drop_append, hl, List.drop_of_length_le (by omega)]; simp [show q + 1 - q = 1 by omega]
    rw [e1, e2]; simp
/-- A tree that may be put into: even, full but for a root, in order. -/
structure PutIn (h : Nat) (r : Bool) (t : T) : Prop where
  ev : Ev h t
  full : t.full r = true ∨ (r = true ∧ t = bareT)
  asc : Asc t.all
theorem PutIn.kids {h : Nat} {r : Bool} {ps : List PB} {ks : List T} (g : PutIn (h + 1) r (.mk ps ks)) (hk : ks ≠ []) : ps = [] ∧ 2 ≤ ks.length ∧ ks.length ≤ 4 ∧ (∀ x ∈ ks, x.full false = true) ∧ (∀ x ∈ ks, Ev h x) ∧ Asc (allL ks) := by
  rcases g.full with hf | ⟨_, e⟩
  · obtain ⟨h1, h2, rfl, h3⟩ := full_br hf hk
    rcases g.ev with ⟨e, _⟩ | ⟨_, e⟩
    · exact absurd e hk
    · exact ⟨rfl, h1, h2, h3, e, by simpa [T.all] using g.asc⟩
  · cases e; exact absurd rfl hk
theorem PutIn.kid {h : Nat} {r : Bool} {ps : List PB} {ks : List T} (g : PutIn (h + 1) r (.mk ps ks)) (hk : ks ≠ []) (k : ByteArray) : PutIn h false (tAt ks (kidOf ks k)) := by
  obtain ⟨_, _, _, h3, h4, h5⟩ := g.kids hk
  obtain ⟨q1, _, _⟩ := kidOf_spec k hk
  exact ⟨h4 _ (tAt_mem q1), .inl (h3 _ (tAt_mem q1)), (kid_fnd hk h3 h5).2⟩
theorem PutIn.leaf {h : Nat} {r : Bool} {ps : List PB} (g : PutIn h r (.mk ps [])) : h = 1 ∧ ps.length ≤ 4 ∧ (r = false → 2 ≤ ps.length) ∧ Asc ps := by
  have hh : h = 1 := (ev_lv h _ g.ev).symm
  have ha : Asc ps := by simpa [T.all, allL] using g.asc
  rcases g.full with hf | ⟨rfl, e⟩
  · obtain ⟨h1, h2⟩ := full_lf hf
    exact ⟨hh, h1, fun e => by subst e; simpa using h2, ha⟩
  · cases e; exact ⟨hh, by simp, by simp, ha⟩
theorem putS_eq : ∀ (h : Nat) (r : Bool) (t : T) (p : PB), PutIn h r t → putS h t p = two (putF h t p)
  | 0, r, t, p, g => g.ev.elim
  | h + 1, r, .mk ps ks, p, g => by
    by_cases hk : ks = []
    · subst hk
      obtain ⟨_, _, _, ha⟩ := g.leaf
      rw [putS, putF]
      simp only [T.ks, T.ps, if_true]
      rw [insS_eq ha, two_leaf]
    · obtain ⟨rfl, h1, h2, h3, h4, h5⟩ := g.kids hk
      obtain ⟨q1, _, _⟩ := kidOf_spec p.1 hk
      rw [putS, putF]
      simp only [T.ks, T.ps, hk, if_false]
      rw [wayOf_eq hk h3 h5, putS_eq h false _ p (g.kid hk p.1), insK_two _ _ _ q1, two_branch]
      simp only [two]; split <;> simp
/-- What comes of it. -/
structure PutOut (h : Nat) (r : Bool) (l : List PB) (x : T × T) : Prop where
  ev : ∀ y ∈ two x, Ev h y
  one : x.2.bare = true → x.1.full r = true
  both : x.2.bare = false → x.1.full false = true ∧ x.2.full false = true
  all : allL (two x) = l
theorem allL_two (x : T × T) : allL (two x) = x.1.all ++ x.2.all := by
  unfold two
  split
  · rename_i h; rw [bare_iff.1 h]; simp [allL, bareT, T.all]
  · simp [allL]
theorem PutOut.fulls {h : Nat} {l : List PB} {x : T × T} (g : PutOut h false l x) : ∀ y ∈ two x, y.full false = true := by
  intro y hy
  unfold two at hy
  cases e : x.2.bare with
  | true => rw [e] at hy; simp at hy; subst hy; exact g.one e
  | false =>
    rw [e] at hy; simp at hy
    rcases hy with rfl | rfl
    · exact (g.both e).1
    · exact (g.both e).2
theorem two_len (x : T × T) : 1 ≤ (two x).length ∧ (two x).length ≤ 2 := by unfold two; split <;> simp
theorem full_mk_leaf {ps : List PB} {r : Bool} (h : ps.length ≤ 4) (h2 : 2 ≤ ps.length ∨ r = true ∧ ps.length = 1) : (T.mk ps []).full r = true := by
  simpa [T.full, h] using h2
theorem full_mk_br {ks : List T} {r : Bool} (h1 : 2 ≤ ks.length) (h2 : ks.length ≤ 4) (h3 : ∀ x ∈ ks, x.full false = true) : (T.mk [] ks).full r = true := by
  have hk : ks ≠ [] := by rintro rfl; simp at h1
  simp [T.full, hk, h1, h2, (fullL_iff ks).2 h3]
theorem shT_out_leaf {ps : List PB} {r : Bool} (h5 : ps.length ≤ 5) (h1 : 1 ≤ ps.length) (h2 : r = false → 2 ≤ ps.length) : PutOut 1 r ps (shT (.mk ps []) bareT) := by
  by_cases h : 4 < ps.length
  · rw [shT_leaf h]
    have hb : (T.mk (ps.drop 3) []).bare = false := not_bare (by simp; omega)
    refine ⟨?_, fun e => absurd e (by show ¬ _ = true; rw [hb]; simp), fun _ => ⟨full_mk_leaf (by simp; omega) (.inl (by simp; omega)), full_mk_leaf (by simp; omega) (.inl (by simp; omega))⟩, ?_⟩
    · intro y hy
      simp only [two, hb] at hy
      simp at hy
      rcases hy with rfl | rfl <;> exact .inl ⟨rfl, rfl⟩
    · rw [allL_two]; simp [T.all, allL]
  · rw [shT_one (t := .mk ps []) (show ps.length ≤ 4 by omega) (show ([] : List T).length ≤ 4 by simp)]
    refine ⟨?_, fun _ => full_mk_leaf (by omega) ?_, fun e => absurd e (by show ¬ bareT.bare = false; rw [bare_bareT]; simp), by rw [allL_two]; simp [T.all, allL, bareT]⟩
    · intro y hy
      simp only [two, bare_bareT, if_true, List.mem_singleton] at hy
      subst hy; exact .inl ⟨rfl, rfl⟩
    · cases r with
      | false => exact .inl (h2 rfl)
      | true =>
        by_cases e : ps.length = 1
        · exact .inr ⟨rfl, e⟩
        · exact .inl (by omega)
theorem shT_out_br {h : Nat} {ks : List T} {r : Bool} (h5 : ks.length ≤ 5) (h1 : 2 ≤ ks.length) (hf : ∀ x ∈ ks, x.full false = true) (he : ∀ x ∈ ks, Ev h x) : PutOut (h + 1) r (allL ks) (shT (.mk [] ks) bareT) := by
  have hk : ks ≠ [] := by rintro rfl; simp at h1
  by_cases h' : 4 < ks.length
  · rw [shT_branch h']
    have hb : (T.mk [] (ks.drop 3)).bare = false := not_bare (by simp; omega)
    have m1 : ∀ x ∈ ks.take 3, x ∈ ks := fun x hx => List.mem_of_mem_take hx
    have m2 : ∀ x ∈ ks.drop 3, x ∈ ks := fun x hx => List.mem_of_mem_drop hx
    have n1 : ks.take 3 ≠ [] := by intro e; have := congrArg List.length e; rw [List.length_take, List.length_nil] at this; omega
    have n2 : ks.drop 3 ≠ [] := by intro e; have := congrArg List.length e; simp at this; omega
    refine ⟨?_, fun e => absurd e (by show ¬ _ = true; rw [hb]; simp), fun _ => ⟨full_mk_br (by simp; omega) (by simp; omega) (fun x hx => hf x (m1 x hx)), full_mk_br (by simp; omega) (by simp; omega) (fun x hx => hf x (m2 x hx))⟩, ?_⟩
    · intro y hy
      simp only [two, hb] at hy
      simp at hy
      rcases hy with rfl | rfl
      · exact .inr ⟨n1, fun x hx => he x (m1 x hx)⟩
      · exact .inr ⟨n2, fun x hx => he x (m2 x hx)⟩
    · rw [allL_two]
      simp only [T.all, List.nil_append]
      rw [← allL_append, List.take_append_drop]
  · rw [shT_one (t := .mk [] ks) (show ([] : List PB).length ≤ 4 by simp) (show ks.length ≤ 4 by omega)]
    refine ⟨?_, fun _ => full_mk_br h1 (by omega) hf, fun e => absurd e (by show ¬ bareT.bare = false; rw [bare_bareT]; simp), by rw [allL_two]; simp [T.all, allL, bareT]⟩
    intro y hy
    simp only [two, bare_bareT, if_true, List.mem_singleton] at hy
    subst hy; exact .inr ⟨hk, he⟩
theorem putF_out : ∀ (h : Nat) (r : Bool) (t : T) (p : PB), PutIn h r t → PutOut h r (insP t.all p) (putF h t p)
  | 0, r, t, p, g => g.ev.elim
  | h + 1, r, .mk ps ks, p, g => by
    by_cases hk : ks = []
    · subst hk
      obtain ⟨hh, hl, hr, ha⟩ := g.leaf
      obtain rfl : h = 0 := by omega
      rw [putF]
      simp only [T.ks, T.ps, if_true]
      have := shT_out_leaf (ps := insP ps p) (r := r) (by have := insP_len ps p; omega) (insP_pos ps p).2 (fun e => by have := hr e; have := (insP_pos ps p).1; omega)
      simpa [T.all, allL] using this
    · obtain ⟨rfl, h1, h2, h3, h4, h5⟩ := g.kids hk
      obtain ⟨q1, q2, q3⟩ := kidOf_spec p.1 hk
      obtain ⟨a1, a2, a3⟩ := kid_apart h3 h5 q1 q2 q3
      have ih := putF_out h false _ p (g.kid hk p.1)
      rw [putF]
      simp only [T.ks, T.ps, hk, if_false]
      rw [insK_two _ _ _ q1]
      generalize putF h (tAt ks (kidOf ks p.1)) p = x at *
      have htl := two_len x
      have hm : ∀ y ∈ ks.take (kidOf ks p.1) ++ two x ++ ks.drop (kidOf ks p.1 + 1), y ∈ ks ∨ y ∈ two x := by
        intro y hy
        rcases List.mem_append.1 hy with hy | hy
        · rcases List.mem_append.1 hy with hy | hy
          · exact .inl (List.mem_of_mem_take hy)
          · exact .inr hy
        · exact .inl (List.mem_of_mem_drop hy)
      have := shT_out_br (h := h) (r := r) (ks := ks.take (kidOf ks p.1) ++ two x ++ ks.drop (kidOf ks p.1 + 1)) (by simp only [List.length_append, List.length_take, List.length_drop]; omega) (by simp only [List.length_append, List.length_take, List.length_drop]; omega)
        (fun y hy => (hm y hy).elim (h3 y) (ih.fulls y)) (fun y hy => (hm y hy).elim (h4 y) (ih.ev y))
      have e : allL (ks.take (kidOf ks p.1) ++ two x ++ ks.drop (kidOf ks p.1 + 1)) = insP (T.mk [] ks).all p := by
        rw [allL_append, allL_append, ih.all, show (T.mk [] ks).all = allL ks by simp [T.all], all_split q1, insP_left _ a1, insP_right _ a2, List.append_assoc]
      rwa [e] at this
/-- The root behind the put. -/
def rootT (x : T × T) : T := if x.2.bare = true then x.1 else .mk [] [x.1, x.2]
theorem rootT_full {h : Nat} {l : List PB} {x : T × T} (g : PutOut h true l x) : (rootT x).full true = true ∧ (∃ h, Ev h (rootT x)) ∧ (rootT x).all = l := by
  unfold rootT
  cases e : x.2.bare with
  | true =>
    refine ⟨g.one e, ⟨h, g.ev _ (by simp [two, e])⟩, ?_⟩
    have := g.all
    rw [two, e] at this
    simpa [allL] using this
  | false =>
    obtain ⟨h1, h2⟩ := g.both e
    have ht : two x = [x.1, x.2] := by simp [two, e]
    refine ⟨full_mk_br (by simp) (by simp) (by simp; exact ⟨h1, h2⟩), ⟨h + 1, .inr ⟨by simp, fun y hy => g.ev y (by rw [ht]; exact hy)⟩⟩, ?_⟩
    have := g.all
    rw [ht] at this
    simpa [T.all] using this
theorem pOkF_of (l : List PB) (hk : ∀ x ∈ l, kOk x.1 = true ∧ vOk x.2 = true) (ha : Asc l) : ∀ f k, k + f ≤ l.length → pOkF l f k = true
  | 0, k, _ => rfl
  | f + 1, k, h => by
    have hlt : k < l.length := by omega
    have := hk (pAtB l k) (by rw [pAtB_lt hlt]; exact List.getElem_mem hlt)
    rw [pOkF, this.1, this.2, pOkF_of l hk ha f (k + 1) (by omega)]
    by_cases e : k = 0
    · simp [e]
    · have := ha.at (show k - 1 < k by omega) hlt
      simp only [klt] at this
      simp [this]
theorem pOk_of {l : List PB} (hl : l.length ≤ 200) (hk : ∀ x ∈ l, kOk x.1 = true ∧ vOk x.2 = true) (ha : Asc l) : pOk l = true := by
  simp [pOk, hl, pOkF_of l hk ha l.length 0 (by omega)]
theorem pOkF_mem (l : List PB) : ∀ f k, pOkF l f k = true → ∀ i, k ≤ i → i < k + f → kOk (pAtB l i).1 = true ∧ vOk (pAtB l i).2 = true
  | 0, k, _, i, h1, h2 => by omega
  | f + 1, k, h, i, h1, h2 => by
    rw [pOkF] at h
    simp only [Bool.and_eq_true] at h
    by_cases e : i = k
    · rw [e]; exact ⟨h.1.1.1, h.1.1.2⟩
    · exact pOkF_mem l f (k + 1) h.2 i (by omega) (by omega)
theorem pOk_mem {l : List PB} (h : pOk l = true) {x : PB} (hx : x ∈ l) : kOk x.1 = true ∧ vOk x.2 = true := by
  simp only [pOk, Bool.and_eq_true] at h
  obtain ⟨i, hi, rfl⟩ := List.mem_iff_getElem.1 hx
  rw [← pAtB_lt hi]
  exact pOkF_mem l l.length 0 h.2 i (by omega) (by omega)
theorem pOk_ins {l : List PB} {p : PB} (h : pOk l = true) (hk : kOk p.1 = true) (hv : vOk p.2 = true) (hl : (insP l p).length ≤ 200) : pOk (insP l p) = true :=
  pOk_of hl (fun _ hx => (insP_mem hx).elim (fun e => e ▸ ⟨hk, hv⟩) (fun hx => pOk_mem h hx)) (insP_asc (pOk_asc h))
end Go.Proofs.YtkfeefaokghibabGreat
