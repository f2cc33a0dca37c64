/-
  append of one string and of one number as a step of a region that draws.
-/
import Derived.Test.YtidjehapeanpbaaGreatDoorMo2
import Derived.Deep.RegionLaw
import Derived.Deep.DeepCutAuto
import Derived.Test.YtidjehapeanpbaaGreatDoorMo4
import Derived.RegionDies
import Derived.Test.YtidjehapeanpbaaGreatDoorMo3
namespace Go.Proofs.YtidjehapeanpbaaGreatDoor
open Go.RowKit
theorem stepS1 {w : World} {ops : Array Oper} {o : Oper} {a : Act} {K : Act → World → Prop} {Q : Exit → Act → World → Prop} {E : Prop} (hgd : o.guard = none) (s x : Operand)
  (ho : o.op = .call { callee := .builtin .append, args := #[s, x], argTypes := #[83, 83] }) (v : Value) (n : Nat) (xs : List Value) (hs : a.eval s = v) (hown : w.ownsRow 0 9 1 v n xs)
  (g : Nat) (z : ByteArray) (hx : a.eval x = .slice (some ⟨g, 0, none⟩) 1 1) (hB : w.cell? ⟨g, 0, none⟩ = some (.string z)) (hb : n ≤ 1048576) (b0 o0 : Nat) (x0 : Value) (hc0 : w.cell? ⟨b0, o0, none⟩ = some x0) (hf0 : w.frozen? ⟨b0, o0, none⟩ = false) (hne : v.ownBlock ≠ some b0)
  (h : ∀ a' n' c' w', w'.ownsRow 0 9 1 (.slice a' n' c') (n + 1) (xs ++ [.string z]) → w.grownBy w' v.ownBlock → ((Value.slice a' n' c').ownBlock = v.ownBlock ∨ (Value.slice a' n' c').ownBlock = some w.heap.size) → w'.cell? ⟨b0, o0, none⟩ = some x0 → w'.frozen? ⟨b0, o0, none⟩ = false → K (a.put o.dst (.slice a' n' c')) w') :
  if Region.wanted o (yielded ops a.tmps) = true then Oper.wp Tryz.prog o a w K Q else E := by
 have hw : Region.wanted o (yielded ops a.tmps) = true := by simp [Region.wanted, hgd]
 rw [if_pos hw]
 obtain ⟨i, hi, hz, hsz, hby⟩ := info_of infoStr'
 have hsrc : Rw w (fun _ => True) (.slice (some ⟨g, 0, none⟩) 1 1) 1 [.string z] := by
  refine ⟨_, 1, rfl, Nat.le_refl _, by omega, fun h => by omega, fun h => (by cases h), fun _ => ⟨g, 0, rfl, block_lt hB, trivial, fun j u hu => ?_⟩⟩
  cases j with
  | zero => simp at hu; subst hu; simpa using hB
  | succ j => simp at hu
 obtain ⟨v', w', hr, h2, h3, h5⟩ := run_append_row_at (P := Tryz.prog) (w := w) 0 83 o.type 9 i _ 1 16 Tryz.underlying83 hi hz hsz hby rfl (by decide) v n xs hown (fun _ => True) _ 1 [.string z] hsrc rfl (by intro u hu; simp at hu; subst hu; rfl) (by unfold maxLen; omega) (by omega) (Nat.zero_le _)
 obtain ⟨a', c', rfl⟩ := own_shape h2
 have hbl := h3.block b0 (block_lt hc0) (fun e => hne e.symm)
 unfold Oper.wp execOp
 simp only [ho, resolve, invoke, builtin, Sem.run_bind, Sem.run_pure, Result.andThen_ok, List.map_toArray, List.map_cons, List.map_nil, hs, hx, hr]
 exact h a' _ c' w' h2 h3 h5 ((World.cell?_of_block (w := w) (a := ⟨b0, o0, none⟩) hbl).trans hc0) ((World.frozen?_of_block (w := w) (a := ⟨b0, o0, none⟩) hbl).trans hf0)
theorem stepI1 {w : World} {ops : Array Oper} {o : Oper} {a : Act} {K : Act → World → Prop} {Q : Exit → Act → World → Prop} {E : Prop} (hgd : o.guard = none) (s x : Operand)
  (ho : o.op = .call { callee := .builtin .append, args := #[s, x], argTypes := #[34, 34] }) (v : Value) (n : Nat) (xs : List Value) (hs : a.eval s = v) (hown : w.ownsRow 0 3 1 v n xs)
  (g : Nat) (z : Int) (hx : a.eval x = .slice (some ⟨g, 0, none⟩) 1 1) (hB : w.cell? ⟨g, 0, none⟩ = some (.int .i64 z)) (hb : n ≤ 1048576) (b0 o0 : Nat) (x0 : Value) (hc0 : w.cell? ⟨b0, o0, none⟩ = some x0) (hf0 : w.frozen? ⟨b0, o0, none⟩ = false) (hne : v.ownBlock ≠ some b0)
  (h : ∀ a' n' c' w', w'.ownsRow 0 3 1 (.slice a' n' c') (n + 1) (xs ++ [.int .i64 z]) → w.grownBy w' v.ownBlock → ((Value.slice a' n' c').ownBlock = v.ownBlock ∨ (Value.slice a' n' c').ownBlock = some w.heap.size) → w'.cell? ⟨b0, o0, none⟩ = some x0 → w'.frozen? ⟨b0, o0, none⟩ = false → K (a.put o.dst (.slice a' n' c')) w') :
  if Region.wanted o (yielded ops a.tmps) = true then Oper.wp Tryz.prog o a w K Q else E := by
 have hw : Region.wanted o (yielded ops a.tmps) = true := by simp [Region.wanted, hgd]
 rw [if_pos hw]
 obtain ⟨i, hi, hz, hsz, hby⟩ := info_of infoInt'
 have hsrc : Rw w (fun _ => True) (.slice (some ⟨g, 0, none⟩) 1 1) 1 [.int .i64 z] := by
  refine ⟨_, 1, rfl, Nat.le_refl _, by omega, fun h => by omega, fun h => (by cases h), fun _ => ⟨g, 0, rfl, block_lt hB, trivial, fun j u hu => ?_⟩⟩
  cases j with
  | zero => simp at hu; subst hu; simpa using hB
  | succ j => simp at hu
 obtain ⟨v', w', hr, h2, h3, h5⟩ := run_append_row_at (P := Tryz.prog) (w := w) 0 34 o.type 3 i _ 1 8 Tryz.underlying34 hi hz hsz hby rfl (by decide) v n xs hown (fun _ => True) _ 1 [.int .i64 z] hsrc rfl (by intro u hu; simp at hu; subst hu; rfl) (by unfold maxLen; omega) (by omega) (Nat.zero_le _)
 obtain ⟨a', c', rfl⟩ := own_shape h2
 have hbl := h3.block b0 (block_lt hc0) (fun e => hne e.symm)
 unfold Oper.wp execOp
 simp only [ho, resolve, invoke, builtin, Sem.run_bind, Sem.run_pure, Result.andThen_ok, List.map_toArray, List.map_cons, List.map_nil, hs, hx, hr]
 exact h a' _ c' w' h2 h3 h5 ((World.cell?_of_block (w := w) (a := ⟨b0, o0, none⟩) hbl).trans hc0) ((World.frozen?_of_block (w := w) (a := ⟨b0, o0, none⟩) hbl).trans hf0)
open Go.RowKit
def cutW (v : World) (B : Nat) : World := { v with heap := v.heap.extract 0 B }
theorem cutW_size {v : World} {B : Nat} (h : B ≤ v.heap.size) : (cutW v B).heap.size = B := by
 simp [cutW]
 omega
theorem cutW_below {v : World} {B : Nat} (h : B ≤ v.heap.size) : Below B (cutW v B) v := by
 refine ⟨rfl, rfl, rfl, by rw [cutW_size h]; exact h, fun i hi => ?_⟩
 show v.heap[i]? = (v.heap.extract 0 B)[i]?
 rw [Array.getElem?_extract]
 simp
 omega
def Pr2 (B : Nat) (v : World) (kv vv iv : Value) (p : PG) : Prop := ∃ u : World, u.heap.size = B ∧ Pr1 u v kv vv iv p
theorem Pr2.to {B : Nat} {v v' : World} {kv vv iv : Value} {p : PG} {P : Nat → Prop} (h : Pr2 B v kv vv iv p) (ho : Only P v v') (hP : ∀ y, P y → y < B) : Pr2 B v' kv vv iv p := by
 obtain ⟨u, rfl, h⟩ := h
 have hB : u.heap.size ≤ v'.heap.size := Nat.le_trans h.be.size ho.size
 refine ⟨cutW v' u.heap.size, cutW_size hB, ?_⟩
 have hs := cutW_size hB
 have hb := cutW_below hB
 refine ⟨by rw [hs]; exact hb, ?_, ?_, ?_, ?_, ?_, ?_, h.ap⟩
 ·rw [hs]; exact h.rb.to ho (fun hr => by have := hP _ hr; omega)
 ·rw [hs]; exact h.bk.to ho (fun hr => by have := hP _ hr; omega)
 ·exact own_kept h.hk ho (fun k e hr => by have := hP _ hr; have := h.lo k (.inl e); omega)
 ·exact own_kept h.hv ho (fun k e hr => by have := hP _ hr; have := h.lo k (.inr (.inl e)); omega)
 ·exact own_kept h.hi ho (fun k e hr => by have := hP _ hr; have := h.lo k (.inr (.inr e)); omega)
 ·rw [hs]; exact h.lo
theorem Pr2.below {B : Nat} {v v' : World} {kv vv iv : Value} {p : PG} (h : Pr2 B v kv vv iv p) (hb : Below v.heap.size v v') : Pr2 B v' kv vv iv p := by
 obtain ⟨u, rfl, h⟩ := h
 exact ⟨u, rfl, h.below hb⟩
theorem Pr2.start (w : World) : Pr2 w.heap.size ((w.alloc (.cells #[.slice none 0 0, .slice none 0 0, .slice none 0 0] 107)).alloc (.cells #[.slice none 0 0, .slice none 0 0, .slice none 0 0] 107)) (.slice none 0 0) (.slice none 0 0) (.slice none 0 0) ⟨[], [], []⟩ := by
 have ba : Below w.heap.size w ((w.alloc (.cells #[.slice none 0 0, .slice none 0 0, .slice none 0 0] 107)).alloc (.cells #[.slice none 0 0, .slice none 0 0, .slice none 0 0] 107)) := below_new (below_new (Below.refl _ _))
 have k1 := Bk.new (w.alloc (.cells #[.slice none 0 0, .slice none 0 0, .slice none 0 0] 107)) 107 [.slice none 0 0, .slice none 0 0, .slice none 0 0]
 exact ⟨w, rfl, ba, (Bk.new w 107 [.slice none 0 0, .slice none 0 0, .slice none 0 0]).alloc _, by simpa using k1, World.ownsRow_nil _ _ _ _, World.ownsRow_nil _ _ _ _, World.ownsRow_nil _ _ _ _, fun y hy => (by rcases hy with e | e | e <;> cases e), fun y => ⟨fun e => (by cases e), fun e => (by cases e)⟩⟩
structure Lf (w v : World) (R : Nat) (a : Option Addr) (n c : Nat) (zs : List Int) (q : Int) (kv vv iv : Value) (p : PG) : Prop where
 rs : Rs v R a n c zs q
 pr : Pr2 w.heap.size v kv vv iv p
 on : Only (fun y => y = R) w v
 lt : R < w.heap.size
theorem Lf.below {w v v' : World} {R : Nat} {a : Option Addr} {n c : Nat} {zs : List Int} {q : Int} {kv vv iv : Value} {p : PG} (h : Lf w v R a n c zs q kv vv iv p) (hb : Below v.heap.size v v') : Lf w v' R a n c zs q kv vv iv p :=
 ⟨h.rs.below hb, h.pr.below hb, h.on.trans (only_of_below hb _), h.lt⟩
theorem Lf.went {w v v' : World} {R : Nat} {a : Option Addr} {n c : Nat} {zs : List Int} {q q' : Int} {kv vv iv : Value} {p : PG} (h : Lf w v R a n c zs q kv vv iv p) (ho : Only (fun y => y = R) v v') (hk : Bk v' R 191 [.slice a n c, .int .i64 q']) : Lf w v' R a n c zs q' kv vv iv p :=
 ⟨h.rs.went ho hk, h.pr.to ho (fun y e => by have := h.lt; omega), h.on.trans ho, h.lt⟩
theorem Lf.cells {w v : World} {R : Nat} {a : Option Addr} {n c : Nat} {zs : List Int} {q : Int} {kv vv iv : Value} {p : PG} (h : Lf w v R a n c zs q kv vv iv p) :
  (v.cell? ⟨w.heap.size + 1, 0, none⟩ = some kv ∧ v.cell? ⟨w.heap.size + 1, 1, none⟩ = some vv ∧ v.cell? ⟨w.heap.size + 1, 2, none⟩ = some iv) ∧ (v.frozen? ⟨w.heap.size + 1, 0, none⟩ = false ∧ v.frozen? ⟨w.heap.size + 1, 1, none⟩ = false ∧ v.frozen? ⟨w.heap.size + 1, 2, none⟩ = false) := by
 obtain ⟨u, hu, k⟩ := h.pr
 rw [← hu]
 exact ⟨k.cells, k.bk.free 0, k.bk.free 1, k.bk.free 2⟩
theorem Lf.rcells {w v : World} {R : Nat} {a : Option Addr} {n c : Nat} {zs : List Int} {q : Int} {kv vv iv : Value} {p : PG} (h : Lf w v R a n c zs q kv vv iv p) :
  (v.cell? ⟨w.heap.size, 0, none⟩ = some (.slice none 0 0) ∧ v.cell? ⟨w.heap.size, 1, none⟩ = some (.slice none 0 0) ∧ v.cell? ⟨w.heap.size, 2, none⟩ = some (.slice none 0 0)) ∧ (v.frozen? ⟨w.heap.size, 0, none⟩ = false ∧ v.frozen? ⟨w.heap.size, 1, none⟩ = false ∧ v.frozen? ⟨w.heap.size, 2, none⟩ = false) := by
 obtain ⟨u, hu, k⟩ := h.pr
 rw [← hu]
 exact ⟨⟨k.rb.cell (j := 0) rfl, k.rb.cell (j := 1) rfl, k.rb.cell (j := 2) rfl⟩, k.rb.free 0, k.rb.free 1, k.rb.free 2⟩
theorem Lf.own {w v : World} {R : Nat} {a : Option Addr} {n c : Nat} {zs : List Int} {q : Int} {kv vv iv : Value} {p : PG} (h : Lf w v R a n c zs q kv vv iv p) :
  v.ownsRow 0 9 1 kv p.keys.length (p.keys.map Value.string) ∧ v.ownsRow 0 9 1 vv p.vals.length (p.vals.map Value.string) ∧ v.ownsRow 0 3 1 iv p.kids.length (p.kids.map (Value.int .i64)) ∧
  (∀ y, (kv.ownBlock = some y ∨ vv.ownBlock = some y ∨ iv.ownBlock = some y) → w.heap.size + 1 < y) := by
 obtain ⟨u, hu, k⟩ := h.pr
 rw [← hu]
 exact ⟨k.hk, k.hv, k.hi, k.lo⟩
theorem Lf.ne {w v : World} {R : Nat} {a : Option Addr} {n c : Nat} {zs : List Int} {q : Int} {kv vv iv : Value} {p : PG} (h : Lf w v R a n c zs q kv vv iv p) : kv.ownBlock ≠ some (w.heap.size + 1) ∧ vv.ownBlock ≠ some (w.heap.size + 1) ∧ iv.ownBlock ≠ some (w.heap.size + 1) :=
 ⟨fun e => by have := h.own.2.2.2 _ (.inl e); omega, fun e => by have := h.own.2.2.2 _ (.inr (.inl e)); omega, fun e => by have := h.own.2.2.2 _ (.inr (.inr e)); omega⟩
theorem Lf.grow {w v w' : World} {R : Nat} {a : Option Addr} {n c : Nat} {zs : List Int} {q : Int} {kv vv iv : Value} {p : PG} (h : Lf w v R a n c zs q kv vv iv p) {r : Value} (hr : ∀ y, r.ownBlock = some y → w.heap.size + 1 < y) (hg : v.grownBy w' r.ownBlock) (o : Nat) (x : Value) : Rs (w'.setCell ⟨w.heap.size + 1, o, none⟩ x) R a n c zs q ∧ Only (fun y => y = R) w (w'.setCell ⟨w.heap.size + 1, o, none⟩ x) := by
 have h1 : Only (fun y => w.heap.size < y) v w' := only_of_grown hg (fun k e => by have := hr k e; omega)
 have h2 : Only (fun y => w.heap.size < y) w' (w'.setCell ⟨w.heap.size + 1, o, none⟩ x) := only_set (R := fun y => w.heap.size < y) (Nat.lt_succ_self _) _
 have h3 := h1.trans h2
 exact ⟨h.rs.to h3 (fun y hy => by have := h.lt; omega), h.on.then h3 (fun i hi hr => by omega)⟩
theorem Lf.addK {w v w' : World} {R : Nat} {a : Option Addr} {n c : Nat} {zs : List Int} {q : Int} {kv vv iv nw : Value} {p : PG} {s : ByteArray} (h : Lf w v R a n c zs q kv vv iv p) (hO : w'.ownsRow 0 9 1 nw (p.keys.length + 1) (p.keys.map (Value.string) ++ [Value.string s])) (hg : v.grownBy w' kv.ownBlock) (ha : nw.ownBlock = kv.ownBlock ∨ nw.ownBlock = some v.heap.size) :
  Lf w (w'.setCell ⟨w.heap.size + 1, 0, none⟩ nw) R a n c zs q nw vv iv ⟨p.keys ++ [s], p.vals, p.kids⟩ := by
 have hl := h.own.2.2.2
 obtain ⟨h1, h2⟩ := h.grow (r := kv) (fun y e => hl y (.inl e)) hg 0 nw
 obtain ⟨u, hu, k⟩ := h.pr
 have k2 := (k.addK hO hg (ha.imp id (fun e => ⟨_, e, Nat.le_refl _⟩))).1
 rw [hu] at k2
 exact ⟨h1, ⟨u, hu, k2⟩, h2, h.lt⟩
theorem Lf.addV {w v w' : World} {R : Nat} {a : Option Addr} {n c : Nat} {zs : List Int} {q : Int} {kv vv iv nw : Value} {p : PG} {s : ByteArray} (h : Lf w v R a n c zs q kv vv iv p) (hO : w'.ownsRow 0 9 1 nw (p.vals.length + 1) (p.vals.map (Value.string) ++ [Value.string s])) (hg : v.grownBy w' vv.ownBlock) (ha : nw.ownBlock = vv.ownBlock ∨ nw.ownBlock = some v.heap.size) :
  Lf w (w'.setCell ⟨w.heap.size + 1, 1, none⟩ nw) R a n c zs q kv nw iv ⟨p.keys, p.vals ++ [s], p.kids⟩ := by
 have hl := h.own.2.2.2
 obtain ⟨h1, h2⟩ := h.grow (r := vv) (fun y e => hl y (.inr (.inl e))) hg 1 nw
 obtain ⟨u, hu, k⟩ := h.pr
 have k2 := (k.addV hO hg (ha.imp id (fun e => ⟨_, e, Nat.le_refl _⟩))).1
 rw [hu] at k2
 exact ⟨h1, ⟨u, hu, k2⟩, h2, h.lt⟩
theorem Lf.addI {w v w' : World} {R : Nat} {a : Option Addr} {n c : Nat} {zs : List Int} {q : Int} {kv vv iv nw : Value} {p : PG} {s : Int} (h : Lf w v R a n c zs q kv vv iv p) (hO : w'.ownsRow 0 3 1 nw (p.kids.length + 1) (p.kids.map (Value.int .i64) ++ [Value.int .i64 s])) (hg : v.grownBy w' iv.ownBlock) (ha : nw.ownBlock = iv.ownBlock ∨ nw.ownBlock = some v.heap.size) :
  Lf w (w'.setCell ⟨w.heap.size + 1, 2, none⟩ nw) R a n c zs q kv vv nw ⟨p.keys, p.vals, p.kids ++ [s]⟩ := by
 have hl := h.own.2.2.2
 obtain ⟨h1, h2⟩ := h.grow (r := iv) (fun y e => hl y (.inr (.inr e))) hg 2 nw
 obtain ⟨u, hu, k⟩ := h.pr
 have k2 := (k.addI hO hg (ha.imp id (fun e => ⟨_, e, Nat.le_refl _⟩))).1
 rw [hu] at k2
 exact ⟨h1, ⟨u, hu, k2⟩, h2, h.lt⟩
def LfP (zs : List Int) (K : PG → Prop) (R : Nat) (a : Option Addr) (n c : Nat) (w : World) (e : Ending) (w' : World) : Prop :=
 Only (fun y => y = R) w w' ∧ ((Gave e ∧ ∀ p0, pgBytes p0 = some zs → K p0 → False) ∨ ∃ (ka : Option Addr) (kn kc : Nat) (va : Option Addr) (vn vc : Nat) (ia : Option Addr) (jn ic : Nat) (p : PG), e = .returned (.agg #[.slice ka kn kc, .slice va vn vc, .slice ia jn ic]) ∧
  PO w' (.slice ka kn kc) (.slice va vn vc) (.slice ia jn ic) p ∧ (∀ y, pbl (.slice ka kn kc) (.slice va vn vc) (.slice ia jn ic) y → w.heap.size ≤ y) ∧ (∃ q, Rs w' R a n c zs q) ∧ ∀ p0, pgBytes p0 = some zs → K p0 → p = p0)
theorem Lf.po {w v : World} {R : Nat} {a : Option Addr} {n c : Nat} {zs : List Int} {q : Int} {kv vv iv : Value} {p : PG} (h : Lf w v R a n c zs q kv vv iv p) : PO v kv vv iv p ∧ ∀ y, pbl kv vv iv y → w.heap.size + 1 < y := by
 have hl := h.own.2.2.2
 obtain ⟨u, hu, k⟩ := h.pr
 exact ⟨⟨k.hk, k.hv, k.hi, k.ap⟩, hl⟩
theorem Lf.done {w v : World} {R : Nat} {a : Option Addr} {n c : Nat} {zs : List Int} {q : Int} {kv vv iv : Value} {p : PG} (h : Lf w v R a n c zs q kv vv iv p) (x y z : Value) {K : PG → Prop} (hp : ∀ p0, pgBytes p0 = some zs → K p0 → p = p0) :
  LfP zs K R a n c w (.returned (.agg #[kv, vv, iv])) (((v.setCell ⟨w.heap.size, 0, none⟩ x).setCell ⟨w.heap.size, 1, none⟩ y).setCell ⟨w.heap.size, 2, none⟩ z) := by
 have ho : Only (fun y => y = w.heap.size) v (((v.setCell ⟨w.heap.size, 0, none⟩ x).setCell ⟨w.heap.size, 1, none⟩ y).setCell ⟨w.heap.size, 2, none⟩ z) :=
  ((only_set (R := fun y => y = w.heap.size) rfl _).trans (only_set (R := fun y => y = w.heap.size) rfl _)).trans (only_set (R := fun y => y = w.heap.size) rfl _)
 obtain ⟨k1, k2⟩ := h.po
 obtain ⟨ka, kc, rfl⟩ := own_shape k1.hk
 obtain ⟨va, vc, rfl⟩ := own_shape k1.hv
 obtain ⟨ia, ic, rfl⟩ := own_shape k1.hi
 refine ⟨h.on.then ho (fun i hi e => by omega), .inr ⟨ka, _, kc, va, _, vc, ia, _, ic, p, rfl, k1.to ho (fun y hy e => by have := k2 y hy; omega), fun y hy => by have := k2 y hy; omega, ⟨q, h.rs.to ho (fun y e => by have := h.lt; omega)⟩, hp⟩⟩
open Go.RowKit
set_option maxHeartbeats 8000000 in
set_option maxRecDepth 20000 in
theorem rleaf_any (R : Nat) (a : Option Addr) (n c : Nat) (zs : List Int) (w : World) (h : Rs w R a n c zs 1) (hl : zs.length = 512) :
  Calls Tryz.prog 167 #[.pointer (some ⟨R, 0, none⟩)] w fun e w' => LfP zs (fun p0 => p0.kids.length = 0) R a n c w e w' := by
 have L0 : Hid (Lf w ((w.alloc (.cells #[.slice none 0 0, .slice none 0 0, .slice none 0 0] 107)).alloc (.cells #[.slice none 0 0, .slice none 0 0, .slice none 0 0] 107)) R a n c zs 1 (.slice none 0 0) (.slice none 0 0) (.slice none 0 0) ⟨[], [], []⟩) := by
  have hb : Below w.heap.size w ((w.alloc (.cells #[.slice none 0 0, .slice none 0 0, .slice none 0 0] 107)).alloc (.cells #[.slice none 0 0, .slice none 0 0, .slice none 0 0] 107)) := below_new (below_new (Below.refl _ _))
  exact ⟨h.below hb, Pr2.start w, only_of_below hb _, h.bk.lt⟩
 have HBY := hid h.rd.2.2.2.2.1
 have HZL := hid hl
 have HGR : Hid (∀ q : Int, -1 ≤ (gt zs q).2 ∧ (gt zs q).2 ≤ 512) := fun q => by have := gt_range zs HBY.out q; rw [HZL.out] at this; exact this
 have HGV := hid (gv_rng zs HBY.out 1)
 have HHD : Hid (∀ p0, pgBytes p0 = some zs → p0.kids.length = 0 → gv zs 1 = ((p0.keys.length : Int), ((pgBody p0 0).length : Int)) ∧ p0.keys.length ≤ 4) := fun p0 hp h0 => ⟨(leaf_head hp h0).2, (pgOk_facts (pg_of hp).1).nk⟩
 have HCT := hid (fun (w : World) (h : Rs w R a n c zs 1) => rcount_any R a n c zs 1 4 w h (by omega))
 rw [HZL.out] at HGV
 clear h hl HBY
 generalize gv zs 1 = o at *
 obtain ⟨N, q0⟩ := o
 dsimp only at HGV
 go_enter Tryz.func167, Tryz.ntmps167
 go_wp2_with fail
 refine (HCT.out _ L0.out.rs).mono ?_
 generalize (w.alloc (.cells #[.slice none 0 0, .slice none 0 0, .slice none 0 0] 107)).alloc (.cells #[.slice none 0 0, .slice none 0 0, .slice none 0 0] 107) = U at *
 rintro e w1 ⟨ho1, -, hcase⟩
 dsimp only at hcase
 rcases hcase with ⟨hn, t, x, rfl⟩ | ⟨hn, hm, rfl, hk1⟩
 ·have HON : Hid (Only (fun y => y = R) w w1) := L0.out.on.trans ho1
  have HNO : Hid (∀ p0, pgBytes p0 = some zs → p0.kids.length = 0 → False) := by
   intro p0 hp h0
   have := HHD.out p0 hp h0
   obtain ⟨e1, e2⟩ := Prod.mk.inj this.1
   omega
  clear hn ho1 HCT HHD
  go_wp2
  exact ⟨rfl, HON.out, .inl ⟨⟨t, x, rfl⟩, HNO.out⟩⟩
 ·have L1 := hid (L0.out.went ho1 hk1)
  have hN0 := HGV.out.2.2.1
  have hq0 := HGV.out.2.1
  obtain ⟨N, rfl⟩ := Int.eq_ofNat_of_zero_le hN0
  clear L0 ho1 hk1 HCT HGV hN0
  have HNN : Hid (∀ p0, pgBytes p0 = some zs → p0.kids.length = 0 → N = p0.keys.length ∧ q0 = ((pgBody p0 0).length : Int)) := by
   intro p0 hp h0
   obtain ⟨e1, e2⟩ := Prod.mk.inj (HHD.out p0 hp h0).1
   exact ⟨by omega, e2⟩
  clear HHD
  go_wp2_with fail
  go_loopw [6] (fun i wr => ∃ (j : Nat) (q : Int) (kv vv iv : Value) (p : PG), j ≤ N ∧ i = .int .i64 j ∧ 0 ≤ q ∧ q ≤ 512 ∧ p.keys.length = j ∧ p.vals.length = j ∧ Hid (Lf w wr R a n c zs q kv vv iv p) ∧ Hid (∀ p0, pgBytes p0 = some zs → p0.kids.length = 0 → q = ((pgBody p0 j).length : Int) ∧ p = ⟨p0.keys.take j, p0.vals.take j, []⟩)) (fun i _ => N - (intOf i).toNat)
  case atStart => exact ⟨0, q0, _, _, _, ⟨[], [], []⟩, Nat.zero_le _, rfl, hn, hq0, rfl, rfl, L1.out, fun p0 hp h0 => ⟨(HNN.out p0 hp h0).2, by simp⟩⟩
  case round =>
   obtain ⟨j, q, kv, vv, iv, p, hj, rfl, hq1, hq2, hkl, hvl, L2, HIN⟩ := hrel
   clear L1
   by_cases hlt : j < N
   ·have hlt' : (j : Int) < (N : Int) := by omega
    have HSTP : Hid (∀ p0, pgBytes p0 = some zs → p0.kids.length = 0 → ∃ q1 : Int, 0 ≤ q1 ∧ gt zs q = (bytesOf (sAt p0.keys j), q1) ∧ gt zs q1 = (bytesOf (sAt p0.vals j), ((pgBody p0 (j + 1)).length : Int)) ∧ j < p0.keys.length ∧ j < p0.vals.length) := by
     intro p0 hp h0
     have h1 := (HNN.out p0 hp h0).1
     obtain ⟨q1, g1, g2, g3⟩ := leaf_step hp h0 (show j < p0.keys.length by omega)
     rw [(HIN.out p0 hp h0).1]
     have := ((pgOk_facts (pg_of hp).1).lf h0).1
     exact ⟨q1, g1, g2, g3, by omega, by omega⟩
    have hr1 := HGR.out q
    have HT1 := hid (fun (u : World) (h : Rs u R a n c zs q) => rtext_any R a n c zs q u h (by omega))
    generalize gt zs q = o1 at *
    obtain ⟨b1, q1⟩ := o1
    dsimp only at HT1 hr1
    obtain ⟨⟨c0, c1, c2⟩, f0, f1, f2⟩ := L2.out.cells
    by_cases h1 : q1 < 0
    ·have HNO : Hid (∀ p0, pgBytes p0 = some zs → p0.kids.length = 0 → False) := by
      intro p0 hp h0
      obtain ⟨q1', g1, g2, -⟩ := HSTP.out p0 hp h0
      have := (Prod.mk.inj g2).2
      omega
     have RSD := hid (L2.out.rs.below (below_drew wr))
     have HON : Hid (Only (fun y => y = R) w wr.drew) := (L2.out.below (below_drew wr)).on
     go_wp2_with fail
     go_region_dies
     all_goals
      refine (HT1.out _ RSD.out).mono ?_
      rintro e w3 ⟨ho3, -, ⟨-, t, x, rfl⟩ | ⟨hno, -⟩⟩
      ·have HON3 := hid (HON.out.trans ho3)
       go_wp2
       exact ⟨rfl, HON3.out, .inl ⟨⟨t, x, rfl⟩, HNO.out⟩⟩
      ·omega
    ·have hq1' : 0 ≤ q1 := by omega
     have HTS : Hid (∀ u, Rs u R a n c zs q → Calls Tryz.prog 178 #[.pointer (some ⟨R, 0, none⟩)] u fun e w' => e = .returned (.string (strOf b1)) ∧ Only (fun y => y = R) u w' ∧ Bk w' R 191 [.slice a n c, .int .i64 q1]) := by
      intro u hu
      refine (HT1.out u hu).mono ?_
      rintro e w' ⟨ho, -, ⟨hno, -⟩ | ⟨-, he, hk⟩⟩
      ·omega
      ·exact ⟨he, ho, hk⟩
     clear HT1
     obtain ⟨s1, hs1⟩ : ∃ s1, strOf b1 = s1 := ⟨_, rfl⟩
     have HS1E := hid hs1
     rw [hs1] at HTS
     clear hs1
     have LD := hid (L2.out.below (below_drew wr))
     go_wp2_with fail
     go_cut [13] (fun x v => ∃ ka5 kn5 kc5, x = .slice ka5 kn5 kc5 ∧ Hid (Lf w v R a n c zs q1 (.slice ka5 kn5 kc5) vv iv ⟨p.keys ++ [s1], p.vals, p.kids⟩))
     case first =>
      go_region_law (first
       | (go_simp; go_at_call 178; refine (HTS.out _ LD.out.rs).mono ?_; rintro e w3 ⟨rfl, ho3, hk3⟩; have L3 := LD.out.went ho3 hk3; have t0 := L3.cells.1.1; have L4 := L3.below (below_new (o := .cells #[.string s1] 9) (Below.refl _ _)); have t4 := L4.cells.1.1)
       | (refine stepS1 rfl _ _ rfl kv _ _ rfl L4.own.1 w3.heap.size s1 rfl ((Bk.new w3 9 [.string s1]).cell (j := 0) rfl) (by omega) (w.heap.size + 1) 0 kv L4.cells.1.1 L4.cells.2.1 L4.ne.1 ?_; intro a5 n5 c5 w5 hO5 hg5 ha5 hc5 hf5))
      all_goals (go_wp2_with fail; go_meet)
      all_goals exact ⟨a5, n5, c5, rfl, L4.addK hO5 hg5 ha5⟩
     case rest =>
      obtain ⟨ka5, kn5, kc5, rfl, L5⟩ := hcut
      clear LD HTS c0 c1 c2 f0 f1 f2 L2
      have HP5 : Hid (∀ p0, pgBytes p0 = some zs → p0.kids.length = 0 → strOf b1 = sAt p0.keys j) := by
       intro p0 hp h0
       obtain ⟨q1', g1, g2, -⟩ := HSTP.out p0 hp h0
       rw [(Prod.mk.inj g2).1, strOf_bytesOf]
      have hr2 := HGR.out q1
      have HT2 := hid (fun (u : World) (h : Rs u R a n c zs q1) => rtext_any R a n c zs q1 u h (by omega))
      have HS2 : Hid (∀ p0, pgBytes p0 = some zs → p0.kids.length = 0 → gt zs q1 = (bytesOf (sAt p0.vals j), ((pgBody p0 (j + 1)).length : Int))) := by
       intro p0 hp h0
       obtain ⟨q1', g1, g2, g3, -⟩ := HSTP.out p0 hp h0
       rw [(Prod.mk.inj g2).2]
       exact g3
      have HJ2 : Hid (∀ p0, pgBytes p0 = some zs → p0.kids.length = 0 → j < p0.keys.length ∧ j < p0.vals.length) := by
       intro p0 hp h0
       obtain ⟨q1', -, -, -, g4, g5⟩ := HSTP.out p0 hp h0
       exact ⟨g4, g5⟩
      rw [HS1E.out] at HP5
      clear HSTP
      generalize gt zs q1 = o2 at *
      obtain ⟨b2, q2⟩ := o2
      dsimp only at HT2 hr2
      obtain ⟨⟨c0, c1, c2⟩, f0, f1, f2⟩ := L5.out.cells
      by_cases h2 : q2 < 0
      ·have HNO : Hid (∀ p0, pgBytes p0 = some zs → p0.kids.length = 0 → False) := by
        intro p0 hp h0
        have := (Prod.mk.inj (HS2.out p0 hp h0)).2
        omega
       have RSD := hid (L5.out.rs.below (below_drew _))
       have HON := hid (L5.out.below (below_drew _)).on
       go_wp2_with fail
       go_region_dies
       all_goals
        refine (HT2.out _ RSD.out).mono ?_
        rintro e w3 ⟨ho3, -, ⟨-, t, x, rfl⟩ | ⟨hno, -⟩⟩
        ·have HON3 := hid (HON.out.trans ho3)
         go_wp2
         exact ⟨rfl, HON3.out, .inl ⟨⟨t, x, rfl⟩, HNO.out⟩⟩
        ·omega
      ·have hq2' : 0 ≤ q2 := by omega
       have HTS : Hid (∀ u, Rs u R a n c zs q1 → Calls Tryz.prog 178 #[.pointer (some ⟨R, 0, none⟩)] u fun e w' => e = .returned (.string (strOf b2)) ∧ Only (fun y => y = R) u w' ∧ Bk w' R 191 [.slice a n c, .int .i64 q2]) := by
        intro u hu
        refine (HT2.out u hu).mono ?_
        rintro e w' ⟨ho, -, ⟨hno, -⟩ | ⟨-, he, hk⟩⟩
        ·omega
        ·exact ⟨he, ho, hk⟩
       have HP6 : Hid (∀ p0, pgBytes p0 = some zs → p0.kids.length = 0 → strOf b2 = sAt p0.vals j ∧ q2 = ((pgBody p0 (j + 1)).length : Int)) := by
        intro p0 hp h0
        have g := HS2.out p0 hp h0
        exact ⟨by rw [(Prod.mk.inj g).1, strOf_bytesOf], (Prod.mk.inj g).2⟩
       clear HT2 HS2
       generalize strOf b2 = s2 at *
       have LD := hid (L5.out.below (below_drew _))
       go_wp2_with fail
       have HIN2 : Hid (∀ p0, pgBytes p0 = some zs → p0.kids.length = 0 → q2 = ((pgBody p0 (j + 1)).length : Int) ∧ (⟨p.keys ++ [s1], p.vals ++ [s2], p.kids⟩ : PG) = ⟨p0.keys.take (j + 1), p0.vals.take (j + 1), []⟩) := by
        intro p0 hp h0
        obtain ⟨g1, g2⟩ := HP6.out p0 hp h0
        obtain ⟨j1, j2⟩ := HJ2.out p0 hp h0
        refine ⟨g2, ?_⟩
        rw [(HIN.out p0 hp h0).2, HP5.out p0 hp h0, g1]
        show (⟨p0.keys.take j ++ [sAt p0.keys j], p0.vals.take j ++ [sAt p0.vals j], []⟩ : PG) = _
        rw [sAt_take j1, sAt_take j2]
       clear HIN HP5 HP6 HJ2
       go_region_law (first
        | (go_simp; go_at_call 178; refine (HTS.out _ LD.out.rs).mono ?_; rintro e w3 ⟨rfl, ho3, hk3⟩; have L3 := LD.out.went ho3 hk3; have t0 := L3.cells.1.2.1; have L4 := L3.below (below_new (o := .cells #[.string s2] 9) (Below.refl _ _)); have t4 := L4.cells.1.2.1)
        | (refine stepS1 rfl _ _ rfl vv _ _ rfl L4.own.2.1 w3.heap.size s2 rfl ((Bk.new w3 9 [.string s2]).cell (j := 0) rfl) (by show p.vals.length ≤ _; omega) (w.heap.size + 1) 1 vv L4.cells.1.2.1 L4.cells.2.2.1 L4.ne.2.1 ?_; intro a5 n5 c5 w5 hO5 hg5 ha5 hc5 hf5))
       all_goals
        have L6 := hid (L4.addV hO5 hg5 ha5)
        clear L3 L4 LD HTS c0 c1 c2 f0 f1 f2 L5 t0 t4 hO5 hg5 ha5 ho3 hk3 hc5 hf5
        go_wp2
        go_roundw
        case rel => exact ⟨j + 1, q2, _, _, iv, _, by omega, by go_num, hq2', hr2.2, by show (p.keys ++ [s1]).length = _; simp [hkl], by show (p.vals ++ [s2]).length = _; simp [hvl], L6.out, HIN2.out⟩
        case measure => simp [intOf]; omega
   ·have hjN : j = N := by omega
    have HPE : Hid (∀ p0, pgBytes p0 = some zs → p0.kids.length = 0 → p = p0) := by
     intro p0 hp h0
     have h1 := (HNN.out p0 hp h0).1
     have h2 := ((pgOk_facts (pg_of hp).1).lf h0).1
     rw [(HIN.out p0 hp h0).2, hjN]
     exact PG.ext' (List.take_of_length_le (by omega)) (List.take_of_length_le (by omega)) (List.eq_nil_of_length_eq_zero h0).symm
    obtain ⟨ka, kc, rfl⟩ := own_shape L2.out.own.1
    obtain ⟨va, vc, rfl⟩ := own_shape L2.out.own.2.1
    obtain ⟨ia, ic, rfl⟩ := own_shape L2.out.own.2.2.1
    have HQ := hid (L2.out.done (.slice ka p.keys.length kc) (.slice va p.vals.length vc) (.slice ia p.kids.length ic) HPE.out)
    generalize p.keys.length = kn at *
    generalize p.vals.length = vn at *
    generalize p.kids.length = jn at *
    obtain ⟨⟨c0, c1, c2⟩, -⟩ := L2.out.cells
    obtain ⟨⟨r0, r1, r2⟩, f0, f1, f2⟩ := L2.out.rcells
    clear hjN HIN HNN L2 hkl hvl
    go_wp2
    refine bodyPost_ret (results_pg (x := .slice ka kn kc) (y := .slice va vn vc) (z := .slice ia jn ic) rfl _ _ _ rfl (by go_simp) (by go_simp) (by go_simp)) rfl ?_
    exact HQ.out
open Go.RowKit
set_option maxHeartbeats 8000000 in
set_option maxRecDepth 20000 in
theorem rbranch_any (R : Nat) (a : Option Addr) (n c : Nat) (zs : List Int) (w : World) (h : Rs w R a n c zs 1) (hl : zs.length = 512) :
  Calls Tryz.prog 168 #[.pointer (some ⟨R, 0, none⟩)] w fun e w' => LfP zs (fun p0 => ¬ p0.kids.length = 0) R a n c w e w' := by
 have L0 : Hid (Lf w ((w.alloc (.cells #[.slice none 0 0, .slice none 0 0, .slice none 0 0] 107)).alloc (.cells #[.slice none 0 0, .slice none 0 0, .slice none 0 0] 107)) R a n c zs 1 (.slice none 0 0) (.slice none 0 0) (.slice none 0 0) ⟨[], [], []⟩) := by
  have hb : Below w.heap.size w ((w.alloc (.cells #[.slice none 0 0, .slice none 0 0, .slice none 0 0] 107)).alloc (.cells #[.slice none 0 0, .slice none 0 0, .slice none 0 0] 107)) := below_new (below_new (Below.refl _ _))
  exact ⟨h.below hb, Pr2.start w, only_of_below hb _, h.bk.lt⟩
 have HBY := hid h.rd.2.2.2.2.1
 have HZL := hid hl
 have HGR : Hid (∀ q : Int, -1 ≤ (gt zs q).2 ∧ (gt zs q).2 ≤ 512) := fun q => by have := gt_range zs HBY.out q; rw [HZL.out] at this; exact this
 have HGW : Hid (∀ q : Int, -1 ≤ (gv zs q).2 ∧ (gv zs q).2 ≤ 512) := fun q => by have := gv_rng zs HBY.out q; rw [HZL.out] at this; exact ⟨this.1, this.2.1⟩
 have HGV := hid (gv_rng zs HBY.out 1)
 have HHD : Hid (∀ p0, pgBytes p0 = some zs → ¬ p0.kids.length = 0 → p0.keys.length ≤ 3 ∧ p0.vals = [] ∧ ∃ q : Int, 0 ≤ q ∧ gv zs 1 = ((p0.keys.length : Int), q) ∧ gv zs q = (iAt p0.kids 0, ((pgBody p0 0).length : Int))) := fun p0 hp h0 => (branch_head hp h0).2
 have HCT := hid (fun (w : World) (h : Rs w R a n c zs 1) => rcount_any R a n c zs 1 3 w h (by omega))
 rw [HZL.out] at HGV
 clear h hl HBY
 obtain ⟨o, hgo⟩ : ∃ o, gv zs 1 = o := ⟨_, rfl⟩
 rw [hgo] at HGV HCT
 have HHE : Hid (∀ p0, pgBytes p0 = some zs → ¬ p0.kids.length = 0 → p0.keys.length ≤ 3 ∧ p0.vals = [] ∧ ∃ q : Int, 0 ≤ q ∧ o = ((p0.keys.length : Int), q) ∧ gv zs q = (iAt p0.kids 0, ((pgBody p0 0).length : Int))) := by rw [← hgo]; exact HHD.out
 clear HHD hgo
 obtain ⟨N, q0⟩ := o
 dsimp only at HGV
 go_enter Tryz.func168, Tryz.ntmps168
 go_wp2_with fail
 refine (HCT.out _ L0.out.rs).mono ?_
 generalize (w.alloc (.cells #[.slice none 0 0, .slice none 0 0, .slice none 0 0] 107)).alloc (.cells #[.slice none 0 0, .slice none 0 0, .slice none 0 0] 107) = U at *
 rintro e w1 ⟨ho1, -, hcase⟩
 dsimp only at hcase
 rcases hcase with ⟨hn, t, x, rfl⟩ | ⟨hn, hm, rfl, hk1⟩
 ·have HON : Hid (Only (fun y => y = R) w w1) := L0.out.on.trans ho1
  have HNO : Hid (∀ p0, pgBytes p0 = some zs → ¬ p0.kids.length = 0 → False) := by
   intro p0 hp h0
   obtain ⟨e1, -, q, e2, e3, -⟩ := HHE.out p0 hp h0
   obtain ⟨e4, e5⟩ := Prod.mk.inj e3
   omega
  clear hn ho1 HCT HHE
  go_wp2
  exact ⟨rfl, HON.out, .inl ⟨⟨t, x, rfl⟩, HNO.out⟩⟩
 ·have L1 := hid (L0.out.went ho1 hk1)
  have hN0 := HGV.out.2.2.1
  have hq0 := HGV.out.2.1
  obtain ⟨N, rfl⟩ := Int.eq_ofNat_of_zero_le hN0
  clear L0 ho1 hk1 HCT HGV hN0
  have HNN : Hid (∀ p0, pgBytes p0 = some zs → ¬ p0.kids.length = 0 → N = p0.keys.length ∧ p0.vals = [] ∧ gv zs q0 = (iAt p0.kids 0, ((pgBody p0 0).length : Int))) := by
   intro p0 hp h0
   obtain ⟨-, e1, q, -, e2, e3⟩ := HHE.out p0 hp h0
   obtain ⟨e4, e5⟩ := Prod.mk.inj e2
   exact ⟨by omega, e1, by rw [e5]; exact e3⟩
  clear HHE
  have hr0 := HGW.out q0
  have HT0 := hid (fun (u : World) (h : Rs u R a n c zs q0) => rnum_any R a n c zs q0 u h (by omega))
  obtain ⟨o0, hgo⟩ : ∃ o, gv zs q0 = o := ⟨_, rfl⟩
  rw [hgo] at HT0 hr0
  have HN2 : Hid (∀ p0, pgBytes p0 = some zs → ¬ p0.kids.length = 0 → N = p0.keys.length ∧ p0.vals = [] ∧ o0 = (iAt p0.kids 0, ((pgBody p0 0).length : Int))) := by rw [← hgo]; exact HNN.out
  clear HNN hgo
  obtain ⟨kid0, q1⟩ := o0
  dsimp only at HT0 hr0
  obtain ⟨⟨c0, c1, c2⟩, f0, f1, f2⟩ := L1.out.cells
  by_cases h1 : q1 < 0
  ·have HNO : Hid (∀ p0, pgBytes p0 = some zs → ¬ p0.kids.length = 0 → False) := by
    intro p0 hp h0
    have := (Prod.mk.inj (HN2.out p0 hp h0).2.2).2
    omega
   have RSD := hid (L1.out.rs.below (below_drew _))
   have HON := hid (L1.out.below (below_drew _)).on
   go_wp2_with fail
   go_region_dies
   all_goals
    refine (HT0.out _ RSD.out).mono ?_
    rintro e w3 ⟨ho3, -, ⟨-, t, x, rfl⟩ | ⟨hno, -⟩⟩
    ·have HON3 := hid (HON.out.trans ho3)
     go_wp2
     exact ⟨rfl, HON3.out, .inl ⟨⟨t, x, rfl⟩, HNO.out⟩⟩
    ·omega
  ·have hq1' : 0 ≤ q1 := by omega
   have HTS : Hid (∀ u, Rs u R a n c zs q0 → Calls Tryz.prog 179 #[.pointer (some ⟨R, 0, none⟩)] u fun e w' => e = .returned (.int .i64 kid0) ∧ Only (fun y => y = R) u w' ∧ Bk w' R 191 [.slice a n c, .int .i64 q1]) := by
    intro u hu
    refine (HT0.out u hu).mono ?_
    rintro e w' ⟨ho, -, ⟨hno, -⟩ | ⟨-, he, hk⟩⟩
    ·omega
    ·exact ⟨he, ho, hk⟩
   clear HT0
   have LD := hid (L1.out.below (below_drew _))
   go_wp2_with fail
   go_cut [12] (fun x v => ∃ ia5 jn5 ic5, x = .slice ia5 jn5 ic5 ∧ Hid (Lf w v R a n c zs q1 (.slice none 0 0) (.slice none 0 0) (.slice ia5 jn5 ic5) ⟨[], [], [kid0]⟩))
   case first =>
    go_region_law (first
     | (go_simp; go_at_call 179; refine (HTS.out _ LD.out.rs).mono ?_; rintro e w3 ⟨rfl, ho3, hk3⟩; have L3 := LD.out.went ho3 hk3; have t0 := L3.cells.1.2.2; have L4 := L3.below (below_new (o := .cells #[.int .i64 kid0] 3) (Below.refl _ _)); have t4 := L4.cells.1.2.2)
     | (refine stepI1 rfl _ _ rfl (.slice none 0 0) _ _ rfl L4.own.2.2.1 w3.heap.size kid0 rfl ((Bk.new w3 3 [.int .i64 kid0]).cell (j := 0) rfl) (by simp) (w.heap.size + 1) 2 (.slice none 0 0) L4.cells.1.2.2 L4.cells.2.2.2 L4.ne.2.2 ?_; intro a5 n5 c5 w5 hO5 hg5 ha5 hc5 hf5))
    all_goals (go_wp2_with fail; go_meet)
    all_goals exact ⟨a5, n5, c5, rfl, L4.addI hO5 hg5 ha5⟩
   case rest =>
    obtain ⟨ia5, jn5, ic5, rfl, L2'⟩ := hcut
    clear LD HTS c0 c1 c2 f0 f1 f2 L1
    have HST : Hid (∀ p0, pgBytes p0 = some zs → ¬ p0.kids.length = 0 → q1 = ((pgBody p0 0).length : Int) ∧ (⟨[], [], [kid0]⟩ : PG) = ⟨p0.keys.take 0, [], p0.kids.take (0 + 1)⟩) := by
     intro p0 hp h0
     obtain ⟨e1, e2⟩ := Prod.mk.inj (HN2.out p0 hp h0).2.2
     refine ⟨e2, ?_⟩
     rw [← iAt_take (by omega), e1]
     rfl
    have HNL : Hid (∀ p0, pgBytes p0 = some zs → ¬ p0.kids.length = 0 → N = p0.keys.length ∧ p0.vals = []) := fun p0 hp h0 => ⟨(HN2.out p0 hp h0).1, (HN2.out p0 hp h0).2.1⟩
    clear HN2
    go_wp2_with fail
    go_loopw [15] (fun i wr => ∃ (j : Nat) (q : Int) (kv vv iv : Value) (p : PG), j ≤ N ∧ i = .int .i64 j ∧ 0 ≤ q ∧ q ≤ 512 ∧ p.keys.length = j ∧ p.kids.length = j + 1 ∧ Hid (Lf w wr R a n c zs q kv vv iv p) ∧ Hid (∀ p0, pgBytes p0 = some zs → ¬ p0.kids.length = 0 → q = ((pgBody p0 j).length : Int) ∧ p = ⟨p0.keys.take j, [], p0.kids.take (j + 1)⟩)) (fun i _ => N - (intOf i).toNat)
    case atStart => exact ⟨0, q1, _, _, _, ⟨[], [], [kid0]⟩, Nat.zero_le _, rfl, hq1', hr0.2, rfl, rfl, L2'.out, HST.out⟩
    case round =>
     obtain ⟨j, q, kv, vv, iv, p, hj, rfl, hqa, hqb, hkl, hil, L2, HIN⟩ := hrel
     clear L2' HST
     by_cases hlt : j < N
     ·have hlt' : (j : Int) < (N : Int) := by omega
      have HSTP : Hid (∀ p0, pgBytes p0 = some zs → ¬ p0.kids.length = 0 → ∃ q1 : Int, 0 ≤ q1 ∧ gt zs q = (bytesOf (sAt p0.keys j), q1) ∧ gv zs q1 = (iAt p0.kids (j + 1), ((pgBody p0 (j + 1)).length : Int)) ∧ j < p0.keys.length ∧ j + 1 < p0.kids.length) := by
       intro p0 hp h0
       have h1 := (HNL.out p0 hp h0).1
       obtain ⟨q1, g1, g2, g3⟩ := branch_step hp h0 (show j < p0.keys.length by omega)
       rw [(HIN.out p0 hp h0).1]
       have := ((pgOk_facts (pg_of hp).1).br h0).1
       exact ⟨q1, g1, g2, g3, by omega, by omega⟩
      have hr1 := HGR.out q
      have HT1 := hid (fun (u : World) (h : Rs u R a n c zs q) => rtext_any R a n c zs q u h (by omega))
      generalize gt zs q = o1 at *
      obtain ⟨b1, q2⟩ := o1
      dsimp only at HT1 hr1
      obtain ⟨⟨c0, c1, c2⟩, f0, f1, f2⟩ := L2.out.cells
      by_cases h2 : q2 < 0
      ·have HNO : Hid (∀ p0, pgBytes p0 = some zs → ¬ p0.kids.length = 0 → False) := by
        intro p0 hp h0
        obtain ⟨q1', g1, g2, -⟩ := HSTP.out p0 hp h0
        have := (Prod.mk.inj g2).2
        omega
       have RSD := hid (L2.out.rs.below (below_drew wr))
       have HON := hid (L2.out.below (below_drew wr)).on
       go_wp2_with fail
       go_region_dies
       all_goals
        refine (HT1.out _ RSD.out).mono ?_
        rintro e w3 ⟨ho3, -, ⟨-, t, x, rfl⟩ | ⟨hno, -⟩⟩
        ·have HON3 := hid (HON.out.trans ho3)
         go_wp2
         exact ⟨rfl, HON3.out, .inl ⟨⟨t, x, rfl⟩, HNO.out⟩⟩
        ·omega
      ·have hq2' : 0 ≤ q2 := by omega
       have HTS : Hid (∀ u, Rs u R a n c zs q → Calls Tryz.prog 178 #[.pointer (some ⟨R, 0, none⟩)] u fun e w' => e = .returned (.string (strOf b1)) ∧ Only (fun y => y = R) u w' ∧ Bk w' R 191 [.slice a n c, .int .i64 q2]) := by
        intro u hu
        refine (HT1.out u hu).mono ?_
        rintro e w' ⟨ho, -, ⟨hno, -⟩ | ⟨-, he, hk⟩⟩
        ·omega
        ·exact ⟨he, ho, hk⟩
       clear HT1
       obtain ⟨s1, hs1⟩ : ∃ s1, strOf b1 = s1 := ⟨_, rfl⟩
       have HS1E := hid hs1
       rw [hs1] at HTS
       clear hs1
       have LD := hid (L2.out.below (below_drew wr))
       go_wp2_with fail
       go_cut [22] (fun x v => ∃ ka5 kn5 kc5, x = .slice ka5 kn5 kc5 ∧ Hid (Lf w v R a n c zs q2 (.slice ka5 kn5 kc5) vv iv ⟨p.keys ++ [s1], p.vals, p.kids⟩))
       case first =>
        go_region_law (first
         | (go_simp; go_at_call 178; refine (HTS.out _ LD.out.rs).mono ?_; rintro e w3 ⟨rfl, ho3, hk3⟩; have L3 := LD.out.went ho3 hk3; have t0 := L3.cells.1.1; have L4 := L3.below (below_new (o := .cells #[.string s1] 9) (Below.refl _ _)); have t4 := L4.cells.1.1)
         | (refine stepS1 rfl _ _ rfl kv _ _ rfl L4.own.1 w3.heap.size s1 rfl ((Bk.new w3 9 [.string s1]).cell (j := 0) rfl) (by omega) (w.heap.size + 1) 0 kv L4.cells.1.1 L4.cells.2.1 L4.ne.1 ?_; intro a5 n5 c5 w5 hO5 hg5 ha5 hc5 hf5))
        all_goals (go_wp2_with fail; go_meet)
        all_goals exact ⟨a5, n5, c5, rfl, L4.addK hO5 hg5 ha5⟩
       case rest =>
        obtain ⟨ka5, kn5, kc5, rfl, L5⟩ := hcut
        clear LD HTS c0 c1 c2 f0 f1 f2 L2
        have HP5 : Hid (∀ p0, pgBytes p0 = some zs → ¬ p0.kids.length = 0 → strOf b1 = sAt p0.keys j) := by
         intro p0 hp h0
         obtain ⟨q1', g1, g2, -⟩ := HSTP.out p0 hp h0
         rw [(Prod.mk.inj g2).1, strOf_bytesOf]
        have hr2 := HGW.out q2
        have HT2 := hid (fun (u : World) (h : Rs u R a n c zs q2) => rnum_any R a n c zs q2 u h (by omega))
        have HS2 : Hid (∀ p0, pgBytes p0 = some zs → ¬ p0.kids.length = 0 → gv zs q2 = (iAt p0.kids (j + 1), ((pgBody p0 (j + 1)).length : Int))) := by
         intro p0 hp h0
         obtain ⟨q1', g1, g2, g3, -⟩ := HSTP.out p0 hp h0
         rw [(Prod.mk.inj g2).2]
         exact g3
        have HJ2 : Hid (∀ p0, pgBytes p0 = some zs → ¬ p0.kids.length = 0 → j < p0.keys.length ∧ j + 1 < p0.kids.length) := by
         intro p0 hp h0
         obtain ⟨q1', -, -, -, g4, g5⟩ := HSTP.out p0 hp h0
         exact ⟨g4, g5⟩
        rw [HS1E.out] at HP5
        clear HSTP
        generalize gv zs q2 = o2 at *
        obtain ⟨kid, q3⟩ := o2
        dsimp only at HT2 hr2
        obtain ⟨⟨c0, c1, c2⟩, f0, f1, f2⟩ := L5.out.cells
        by_cases h3 : q3 < 0
        ·have HNO : Hid (∀ p0, pgBytes p0 = some zs → ¬ p0.kids.length = 0 → False) := by
          intro p0 hp h0
          have := (Prod.mk.inj (HS2.out p0 hp h0)).2
          omega
         have RSD := hid (L5.out.rs.below (below_drew _))
         have HON := hid (L5.out.below (below_drew _)).on
         go_wp2_with fail
         go_region_dies
         all_goals
          refine (HT2.out _ RSD.out).mono ?_
          rintro e w3 ⟨ho3, -, ⟨-, t, x, rfl⟩ | ⟨hno, -⟩⟩
          ·have HON3 := hid (HON.out.trans ho3)
           go_wp2
           exact ⟨rfl, HON3.out, .inl ⟨⟨t, x, rfl⟩, HNO.out⟩⟩
          ·omega
        ·have hq3' : 0 ≤ q3 := by omega
         have HTS : Hid (∀ u, Rs u R a n c zs q2 → Calls Tryz.prog 179 #[.pointer (some ⟨R, 0, none⟩)] u fun e w' => e = .returned (.int .i64 kid) ∧ Only (fun y => y = R) u w' ∧ Bk w' R 191 [.slice a n c, .int .i64 q3]) := by
          intro u hu
          refine (HT2.out u hu).mono ?_
          rintro e w' ⟨ho, -, ⟨hno, -⟩ | ⟨-, he, hk⟩⟩
          ·omega
          ·exact ⟨he, ho, hk⟩
         have HIN2 : Hid (∀ p0, pgBytes p0 = some zs → ¬ p0.kids.length = 0 → q3 = ((pgBody p0 (j + 1)).length : Int) ∧ (⟨p.keys ++ [s1], p.vals, p.kids ++ [kid]⟩ : PG) = ⟨p0.keys.take (j + 1), [], p0.kids.take (j + 1 + 1)⟩) := by
          intro p0 hp h0
          obtain ⟨g1, g2⟩ := Prod.mk.inj (HS2.out p0 hp h0)
          obtain ⟨j1, j2⟩ := HJ2.out p0 hp h0
          refine ⟨g2, ?_⟩
          rw [(HIN.out p0 hp h0).2, HP5.out p0 hp h0, g1]
          show (⟨p0.keys.take j ++ [sAt p0.keys j], [], p0.kids.take (j + 1) ++ [iAt p0.kids (j + 1)]⟩ : PG) = _
          rw [sAt_take j1, iAt_take j2]
         clear HT2 HS2 HIN HP5 HJ2
         have LD := hid (L5.out.below (below_drew _))
         go_wp2_with fail
         go_region_law (first
          | (go_simp; go_at_call 179; refine (HTS.out _ LD.out.rs).mono ?_; rintro e w3 ⟨rfl, ho3, hk3⟩; have L3 := LD.out.went ho3 hk3; have t0 := L3.cells.1.2.2; have L4 := L3.below (below_new (o := .cells #[.int .i64 kid] 3) (Below.refl _ _)); have t4 := L4.cells.1.2.2)
          | (refine stepI1 rfl _ _ rfl iv _ _ rfl L4.own.2.2.1 w3.heap.size kid rfl ((Bk.new w3 3 [.int .i64 kid]).cell (j := 0) rfl) (by show p.kids.length ≤ _; omega) (w.heap.size + 1) 2 iv L4.cells.1.2.2 L4.cells.2.2.2 L4.ne.2.2 ?_; intro a5 n5 c5 w5 hO5 hg5 ha5 hc5 hf5))
         all_goals
          have L6 := hid (L4.addI hO5 hg5 ha5)
          clear L3 L4 LD HTS c0 c1 c2 f0 f1 f2 L5 t0 t4 hO5 hg5 ha5 ho3 hk3 hc5 hf5
          go_wp2
          go_roundw
          case rel => exact ⟨j + 1, q3, _, _, _, _, by omega, by go_num, hq3', hr2.2, by show (p.keys ++ [s1]).length = _; simp [hkl], by show (p.kids ++ [kid]).length = _; simp [hil], L6.out, HIN2.out⟩
          case measure => simp [intOf]; omega
     ·have hjN : j = N := by omega
      have HPE : Hid (∀ p0, pgBytes p0 = some zs → ¬ p0.kids.length = 0 → p = p0) := by
       intro p0 hp h0
       obtain ⟨h1, hv⟩ := HNL.out p0 hp h0
       have h2 := ((pgOk_facts (pg_of hp).1).br h0).1
       rw [(HIN.out p0 hp h0).2, hjN]
       exact PG.ext' (List.take_of_length_le (by omega)) hv.symm (List.take_of_length_le (by omega))
      obtain ⟨ka, kc, rfl⟩ := own_shape L2.out.own.1
      obtain ⟨va, vc, rfl⟩ := own_shape L2.out.own.2.1
      obtain ⟨ia, ic, rfl⟩ := own_shape L2.out.own.2.2.1
      have HQ := hid (L2.out.done (.slice ka p.keys.length kc) (.slice va p.vals.length vc) (.slice ia p.kids.length ic) HPE.out)
      generalize p.keys.length = kn at *
      generalize p.vals.length = vn at *
      generalize p.kids.length = jn at *
      obtain ⟨⟨c0, c1, c2⟩, -⟩ := L2.out.cells
      obtain ⟨⟨r0, r1, r2⟩, f0, f1, f2⟩ := L2.out.rcells
      clear hjN HIN HNL L2 hkl hil
      go_wp2
      refine bodyPost_ret (results_pg (x := .slice ka kn kc) (y := .slice va vn vc) (z := .slice ia jn ic) rfl _ _ _ rfl (by go_simp) (by go_simp) (by go_simp)) rfl ?_
      exact HQ.out
open Go.RowKit
def mtOk (g r : Int) : Bool := decide (1 ≤ g ∧ g ≤ 1099511627775) && (decide (r = 0) || decide (2 ≤ r ∧ r < 400))
def wts : List Int := [4294967296, 16777216, 65536, 256, 1]
def five (n : Int) : List Int := wts.map fun W => n / W % 256
def fiveT (n : Int) (j : Nat) : List Int := (wts.take j).map fun W => n / W % 256
def mtHead (g r : Int) : List Int := [77] ++ five g ++ [r / 256, r % 256]
def mtFull (g r : Int) : List Int := mtHead g r ++ List.replicate 499 0 ++ five g
def mtBytes (g r : Int) : Option (List Int) := if mtOk g r = true then some (mtFull g r) else none
theorem five_len (n : Int) : (five n).length = 5 := rfl
theorem mtFull_len (g r : Int) : (mtFull g r).length = 512 := by simp only [mtFull, mtHead, List.length_append, List.length_replicate, five_len, List.length_cons, List.length_nil]
theorem five_byte (n : Int) : ∀ z ∈ five n, 0 ≤ z ∧ z ≤ 255 := by
 intro z hz
 simp only [five, List.mem_map] at hz
 obtain ⟨W, _, rfl⟩ := hz
 omega
theorem mtHead_byte {g r : Int} (h0 : 0 ≤ r) (h1 : r < 400) : ∀ z ∈ mtHead g r, 0 ≤ z ∧ z ≤ 255 :=
 byte_append (byte_append (by intro z hz; simp at hz; omega) (five_byte g)) (by intro z hz; simp at hz; omega)
theorem mtFull_byte {g r : Int} (h0 : 0 ≤ r) (h1 : r < 400) : ∀ z ∈ mtFull g r, 0 ≤ z ∧ z ≤ 255 :=
 byte_append (byte_append (mtHead_byte h0 h1) (fun z hz => by have := List.eq_of_mem_replicate hz; omega)) (five_byte g)
def wAt (j : Nat) : Int := wts[j]?.getD 1
theorem wAt_rng {j : Nat} (h : j < 5) : 1 ≤ wAt j ∧ wAt j ≤ 4294967296 := by
 match j, h with
 | 0, _ => decide
 | 1, _ => decide
 | 2, _ => decide
 | 3, _ => decide
 | 4, _ => decide
theorem fiveT_succ (n : Int) {j : Nat} (h : j < 5) : fiveT n (j + 1) = fiveT n j ++ [n / wAt j % 256] := by
 match j, h with
 | 0, _ => rfl
 | 1, _ => rfl
 | 2, _ => rfl
 | 3, _ => rfl
 | 4, _ => rfl
theorem fiveT_five (n : Int) : fiveT n 5 = five n := rfl
theorem fiveT_len (n : Int) {j : Nat} (h : j ≤ 5) : (fiveT n j).length = j := by
 simp [fiveT, wts]; omega
theorem mtOk_facts {g r : Int} (h : mtOk g r = true) : 1 ≤ g ∧ g ≤ 1099511627775 ∧ 0 ≤ r ∧ r < 400 := by
 simp [mtOk] at h
 omega
set_option maxHeartbeats 4000000 in
theorem specMetaOk_any (g r : Int) (w : World) : Calls Tryz.prog 91 #[.agg #[.int .i64 g, .int .i64 r]] w fun e w' => e = .returned (.bool (mtOk g r)) ∧ Below w.heap.size w w' := by
 have HB := hid (below_new (o := .cells #[.int .i64 g, .int .i64 r] 61) (w := w) (Below.refl _ _))
 have HD : Hid (mtOk g r = (decide (1 ≤ g ∧ g ≤ 1099511627775) && (decide (r = 0) || decide (2 ≤ r ∧ r < 400)))) := rfl
 by_cases q1 : 1 ≤ g
 ·by_cases q2 : g ≤ 1099511627775
  ·have HN := hid (fun w => specNum_any g w true (by rw [decide_eq_true (by omega)]))
   rw [decide_eq_true (show 1 ≤ g ∧ g ≤ 1099511627775 from ⟨q1, q2⟩)] at HD
   by_cases q3 : r = 0
   ·subst q3
    have HF : Hid (mtOk g 0 = true) := by show _ = true; rw [HD.out]; rfl
    go_enter Tryz.func91, Tryz.ntmps91
    go_wp2_with fail
    refine (HN.out _).mono ?_
    rintro e w1 ⟨rfl, rfl⟩
    go_wp2
    go_ret
    exact ⟨by rw [HF.out]; rfl, HB.out⟩
   ·have q3' : (r == 0) = false := by simp [q3]
    by_cases q4 : 2 ≤ r
    ·by_cases q5 : r < 400
     ·have HF : Hid (mtOk g r = true) := by show _ = true; rw [HD.out, decide_eq_true (show 2 ≤ r ∧ r < 400 from ⟨q4, q5⟩)]; simp
      go_enter Tryz.func91, Tryz.ntmps91
      go_wp2_with fail
      refine (HN.out _).mono ?_
      rintro e w1 ⟨rfl, rfl⟩
      go_wp2
      go_ret
      exact ⟨by rw [HF.out]; rfl, HB.out⟩
     ·have HF : Hid (mtOk g r = false) := by show _ = false; rw [HD.out, decide_eq_false q3, decide_eq_false (by omega)]; rfl
      have q5' : decide (r < 400) = false := decide_eq_false q5
      go_enter Tryz.func91, Tryz.ntmps91
      go_wp2_with fail
      refine (HN.out _).mono ?_
      rintro e w1 ⟨rfl, rfl⟩
      go_wp2
      go_ret
      exact ⟨by rw [HF.out]; rfl, HB.out⟩
    ·have HF : Hid (mtOk g r = false) := by show _ = false; rw [HD.out, decide_eq_false q3, decide_eq_false (by omega)]; rfl
     go_enter Tryz.func91, Tryz.ntmps91
     go_wp2_with fail
     refine (HN.out _).mono ?_
     rintro e w1 ⟨rfl, rfl⟩
     go_wp2
     go_ret
     exact ⟨by rw [HF.out]; rfl, HB.out⟩
  ·have HN := hid (fun w => specNum_any g w false (by rw [decide_eq_false (by omega)]))
   have HF : Hid (mtOk g r = false) := by show _ = false; rw [HD.out, decide_eq_false (by omega)]; rfl
   go_enter Tryz.func91, Tryz.ntmps91
   go_wp2_with fail
   refine (HN.out _).mono ?_
   rintro e w1 ⟨rfl, rfl⟩
   go_wp2
   go_ret
   exact ⟨by rw [HF.out]; rfl, HB.out⟩
 ·have HF : Hid (mtOk g r = false) := by show _ = false; rw [HD.out, decide_eq_false (by omega)]; rfl
  go_enter Tryz.func91, Tryz.ntmps91
  go_wp2
  go_ret
  exact ⟨by rw [HF.out]; rfl, HB.out⟩
theorem infoU8' : (Tryz.prog.info? 5).map (fun i => (i.zero, i.size, i.bytes)) = some (some (.int .u8 0), 1, 1) := by kernel_rfl
theorem Ob.lower {w : World} {B B' : Nat} {v : Value} {zs : List Int} (h : Ob w B v zs) (hB : B' ≤ B) : Ob w B' v zs := by
 refine ⟨h.1, h.2.imp id ?_⟩
 rintro ⟨g, cap, cur, h1, h2, h3⟩
 exact ⟨g, cap, cur, h1, Nat.le_trans hB h2, h3⟩
theorem Ob.keep {w w' : World} {B : Nat} {v : Value} {zs : List Int} (h : Ob w B v zs) (hb : Below w.heap.size w w') : Ob w' B v zs := own_kept h (only_of_below hb (fun _ => False)) (fun _ _ h => h)
theorem wpList_append_by {w : World} {ops : Array Oper} {rest : List Oper} {o : Oper} {a : Act} {Q : Exit → Act → World → Prop} (hgd : o.guard = none) (s x : Operand)
  (ho : o.op = .call { callee := .builtin .append, args := #[s, x], argTypes := #[89, 89] }) (B : Nat) (v : Value) (zs : List Int) (hs : a.eval s = v) (hown : Ob w B v zs)
  (ao : Option Addr) (m c : Nat) (ys : List Int) (hx : a.eval x = .slice ao m c) (hsrc : Rd w ao m c ys) (hb : zs.length ≤ 1048576) (hm : m ≤ 1048576) (hB : B ≤ w.heap.size) (hc : ao = none → c = 0)
  (h : ∀ a' n' c' w', Ob w' B (.slice a' n' c') (zs ++ ys) → w.grownBy w' v.ownBlock → ((Value.slice a' n' c').ownBlock = v.ownBlock ∨ (Value.slice a' n' c').ownBlock = some w.heap.size) → wpList Tryz.prog ops Q rest (a.put o.dst (.slice a' n' c')) w') : wpList Tryz.prog ops Q (o :: rest) a w := by
 obtain ⟨i, hi, hz, hsz, hby⟩ := info_of infoU8'
 obtain ⟨r1, r2, r3, r4, r5, r6⟩ := hsrc
 refine wpList_append_row_at hgd s x 89 ho B 5 i _ 1 1 Tryz.underlying89 hi hz hsz hby rfl (by decide) v zs.length (zs.map (Value.int .u8)) hs hown (fun _ => True) _ m (ys.map (Value.int .u8)) hx ?_ (by simp [r1]) (by intro u hu; simp at hu; obtain ⟨z, _, rfl⟩ := hu; rfl) (by unfold maxLen; omega) (by omega) hB ?_
 ·refine ⟨ao, c, rfl, r2, r3, fun h0 => by rw [List.eq_nil_of_length_eq_zero (by omega : ys.length = 0)]; rfl, hc, fun hp => ?_⟩
  obtain ⟨b, off, e, hb, hcell⟩ := r6 hp
  refine ⟨b, off, e, hb, trivial, fun j u hu => ?_⟩
  rw [List.getElem?_map] at hu
  obtain ⟨z, hz, rfl⟩ := Option.map_eq_some_iff.1 hu
  have hj : j < ys.length := (List.getElem?_eq_some_iff.1 hz).1
  have := hcell j (by omega)
  rwa [hz] at this
 ·intro v' w' k1 k2 k3
  obtain ⟨a', c', rfl⟩ := own_shape k1
  refine h a' _ c' w' ?_ k2 k3
  unfold Ob
  rw [List.length_append, List.map_append, ← r1]
  exact k1
def FvPost (n : Int) (w : World) (e : Ending) (w' : World) : Prop := ∃ a c, e = .returned (.slice (some a) 5 c) ∧ Rd w' (some a) 5 c (five n) ∧ w.heap.size ≤ a.block ∧ Below w.heap.size w w'
set_option maxHeartbeats 4000000 in
set_option maxRecDepth 20000 in
theorem five_any (n : Int) (w : World) (h0 : 0 ≤ n) (h1 : n ≤ 1099511627775) : Calls Tryz.prog 92 #[.int .i64 n] w fun e w' => FvPost n w e w' := by
 have HB : Hid (Below w.heap.size w ((w.alloc (.cells #[] 5)).alloc (.cells #[.int .i64 4294967296, .int .i64 16777216, .int .i64 65536, .int .i64 256, .int .i64 1] 3))) := below_new (below_new (Below.refl _ _))
 have HO : Hid (Ob ((w.alloc (.cells #[] 5)).alloc (.cells #[.int .i64 4294967296, .int .i64 16777216, .int .i64 65536, .int .i64 256, .int .i64 1] 3)) w.heap.size (.slice (some ⟨w.heap.size, 0, none⟩) 0 0) (fiveT n 0)) := (ob_new w w.heap.size (Nat.le_refl _)).alloc _
 have HK : Hid (Bk ((w.alloc (.cells #[] 5)).alloc (.cells #[.int .i64 4294967296, .int .i64 16777216, .int .i64 65536, .int .i64 256, .int .i64 1] 3)) (w.heap.size + 1) 3 (wts.map (Value.int .i64))) := by
  have := Bk.new (w.alloc (.cells #[] 5)) 3 (wts.map (Value.int .i64))
  show Bk _ _ _ _
  simpa [wts] using this
 go_enter Tryz.func92, Tryz.ntmps92
 go_wp2_with fail
 generalize (w.alloc (.cells #[] 5)).alloc (.cells #[.int .i64 4294967296, .int .i64 16777216, .int .i64 65536, .int .i64 256, .int .i64 1] 3) = U at *
 generalize hx : w.heap.size + 1 = x at *
 have HX : Hid (w.heap.size < x) := by show _ < _; omega
 clear hx
 go_loopw [3, 9] (fun xv i wr => ∃ (j : Nat) (av : Option Addr) (nv cv : Nat), j ≤ 5 ∧ i = .int .i64 j ∧ xv = .slice av nv cv ∧ Hid (Ob wr w.heap.size (.slice av nv cv) (fiveT n j)) ∧ Hid ((Value.slice av nv cv).ownBlock ≠ some x) ∧ Hid (Bk wr x 3 (wts.map (Value.int .i64))) ∧ Hid (Below w.heap.size w wr)) (fun _ i _ => 5 - (intOf i).toNat)
 case atStart => exact ⟨0, _, _, _, by omega, rfl, rfl, HO.out, fun e => by have h5 := HX.out; have h6 : w.heap.size = x := Option.some.inj e; omega, HK.out, HB.out⟩
 case round =>
  obtain ⟨j, av, nv, cv, hj, rfl, rfl, O1, N1, K1, B1⟩ := hrel
  clear HB HO HK
  by_cases hlt : j < 5
  ·have hlt' : (j : Int) < 5 := by omega
   have m0 : wr.cell? ⟨x, j, none⟩ = some (.int .i64 (wAt j)) := K1.out.cell (by simp [wAt, wts]; match j, hlt with | 0, _ => rfl | 1, _ => rfl | 2, _ => rfl | 3, _ => rfl | 4, _ => rfl)
   obtain ⟨w1, w2⟩ := wAt_rng hlt
   have HST := hid (fiveT_succ n hlt)
   have HLN := hid (fiveT_len n (show j ≤ 5 by omega))
   generalize wAt j = W at *
   have hW : ¬ W = 0 := by omega
   have hq : n.tdiv W = n / W := Int.tdiv_eq_ediv_of_nonneg h0
   have hq0 : 0 ≤ n / W := Int.ediv_nonneg h0 (by omega)
   have hq1 : n / W ≤ n := Int.ediv_le_self _ h0
   generalize n / W = q at *
   have hr : q.tmod 256 = q % 256 := Int.tmod_eq_emod_of_nonneg hq0
   obtain ⟨z, hz, hz0, hz1⟩ : ∃ z, q % 256 = z ∧ 0 ≤ z ∧ z ≤ 255 := ⟨_, rfl, by omega, by omega⟩
   rw [hz] at hr HST
   have hwq : IntKind.i64.wrap q = q := by simp [IntKind.wrap, IntKind.signed, IntKind.bits]; omega
   have hwz : IntKind.i64.wrap z = z := by simp [IntKind.wrap, IntKind.signed, IntKind.bits]; omega
   have hw8 : IntKind.u8.wrap z = z := by simp [IntKind.wrap, IntKind.signed, IntKind.bits]; omega
   clear hz
   have ba := below_new (o := .cells #[.int .u8 z] 5) (w := wr) (Below.refl _ _)
   have O2 := hid (O1.out.keep ba)
   have K2 := hid (K1.out.below ba)
   have B2 : Hid (Below w.heap.size w (wr.alloc (.cells #[.int .u8 z] 5))) := B1.out.trans (ba.mono B1.out.size)
   have R2 := hid (rd_one wr z hz0 hz1)
   have hll : (fiveT n j).length ≤ 1048576 := by rw [HLN.out]; omega
   have HXL : Hid (x < wr.heap.size) := K1.out.lt
   clear O1 K1 B1 ba
   go_wp2_with (at_builtin; refine wpList_append_by rfl _ _ rfl w.heap.size _ (fiveT n j) rfl O2.out _ 1 1 [z] rfl R2.out hll (by omega) B2.out.size (fun e => by cases e) ?_)
   intro a3 n3 c3 w3 hO3 hg3 ha3
   have hon : Only (fun y => (Value.slice av nv cv).ownBlock = some y) _ w3 := only_of_grown hg3 (fun k e => e)
   have O3 : Hid (Ob w3 w.heap.size (.slice a3 n3 c3) (fiveT n (j + 1))) := by rw [HST.out]; exact hO3
   have K3 := hid (K2.out.to hon (fun e => N1.out e))
   have N3 : Hid ((Value.slice a3 n3 c3).ownBlock ≠ some x) := by
    intro e
    rcases ha3 with e2 | e2
    ·exact N1.out (e2 ▸ e)
    ·rw [e2] at e
     cases e
     have := HXL.out
     omega
   have B3 : Hid (Below w.heap.size w w3) := B2.out.trans (hon.below B2.out.size (fun b hb e => by
    have hk := World.ownsRow.lt O2.out b e
    omega))
   clear hO3 hg3 ha3 hon O2 K2 B2 R2 N1 HST
   go_wp2
   go_roundw
   case rel => exact ⟨j + 1, a3, n3, c3, by omega, by go_num, rfl, O3.out, N3.out, K3.out, B3.out⟩
   case measure => simp [intOf]; omega
  ·obtain rfl : j = 5 := by omega
   have hO := O1.out
   rw [fiveT_five] at hO
   obtain ⟨a', c', e, hR, hlo⟩ := hO.rd (byte_at (five_byte n)) (by rw [five_len]; omega)
   cases e
   have hp : ∃ ad, av = some ad := by
    obtain ⟨b, off, e, _⟩ := hR.2.2.2.2.2 (by rw [five_len]; omega)
    exact ⟨_, e⟩
   obtain ⟨ad, rfl⟩ := hp
   have HR := hid hR
   have HLO := hid (hlo ad rfl)
   clear hO hR hlo O1 K1
   go_wp2
   go_ret
   exact ⟨ad, cv, rfl, HR.out, HLO.out, B1.out⟩
open Go.RowKit
theorem ob_lit (w : World) (z : Int) : Ob (w.alloc (.cells #[.int .u8 z] 5)) w.heap.size (.slice (some ⟨w.heap.size, 0, none⟩) 1 1) [z] :=
 ⟨rfl, .inr ⟨w.heap.size, 1, #[.int .u8 z], rfl, Nat.le_refl _, heap_alloc_new w _, Nat.le_refl _, by decide, rfl, rfl⟩⟩
theorem rd_two (w : World) (y z : Int) (h0 : 0 ≤ y ∧ y ≤ 255) (h1 : 0 ≤ z ∧ z ≤ 255) : Rd (w.alloc (.cells #[.int .u8 y, .int .u8 z] 5)) (some ⟨w.heap.size, 0, none⟩) 2 2 [y, z] := by
 refine ⟨rfl, Nat.le_refl _, by omega, by omega, fun i => ?_, fun _ => ⟨w.heap.size, 0, rfl, by simp, fun i hi => ?_⟩⟩
 ·match i with
  | 0 => exact h0
  | 1 => exact h1
  | n + 2 => simp
 ·have k := Bk.new w 5 [.int .u8 y, .int .u8 z]
  match i, hi with
  | 0, _ => exact k.cell (j := 0) rfl
  | 1, _ => exact k.cell (j := 1) rfl
theorem PutM.got {w w' : World} {r : Option (List Int)} {e : Ending} {zs : List Int} (h : Put w r e w') (hr : r = some zs) : ∃ v, e = .returned (.tuple #[v, .bool true]) ∧ Ob w' w.heap.size v zs ∧ Below w.heap.size w w' := by
 obtain ⟨hb, ⟨h1, _⟩ | ⟨v, zs', h1, h2, h3⟩⟩ := h
 ·rw [hr] at h1; cases h1
 ·rw [hr] at h1; cases h1
  exact ⟨v, h2, h3, hb⟩
theorem btw {u v w : World} (h : Below u.heap.size u v) (k : Below v.heap.size v w) : Below u.heap.size u w := h.trans (k.mono h.size)
theorem Ob.grown {u w w' : World} {v : Value} {zs : List Int} (h : Ob w u.heap.size v zs) (hb : Below u.heap.size u w) (hg : w.grownBy w' v.ownBlock) : Below u.heap.size u w' := by
 have hon : Only (fun y => v.ownBlock = some y) w w' := only_of_grown hg (fun k e => e)
 exact hb.trans (hon.below hb.size (fun b hb' e => by have := (World.ownsRow.lt h b e).1; omega))
theorem Ob.bk {u : Nat} {w w' : World} {v : Value} {zs : List Int} {b : Nat} {T : TypeId} {xs : List Value} (h : Ob w u v zs) (hk : Bk w b T xs) (hg : w.grownBy w' v.ownBlock) (hb : b < u) : Bk w' b T xs :=
 hk.to (only_of_grown hg (R := fun y => v.ownBlock = some y) (fun k e => e)) (fun e => by have := (World.ownsRow.lt h b e).1; omega)
set_option maxHeartbeats 4000000 in
set_option maxRecDepth 20000 in
theorem specMetaBytes_any (g r : Int) (w : World) : Calls Tryz.prog 53 #[.agg #[.int .i64 g, .int .i64 r]] w fun e w' => Put w (mtBytes g r) e w' := by
 have B0 := hid (below_new (o := .cells #[.int .i64 g, .int .i64 r] 61) (w := w) (Below.refl _ _))
 have K0 := hid (Bk.new w 61 [.int .i64 g, .int .i64 r])
 have HZ0 : Hid (w.heap.size < (w.alloc (.cells #[.int .i64 g, .int .i64 r] 61)).heap.size) := by show _ < _; simp
 have HP : Hid (mtBytes g r = if mtOk g r = true then some (mtFull g r) else none) := rfl
 go_enter Tryz.func53, Tryz.ntmps53
 go_wp2_with fail
 refine (specMetaOk_any g r _).mono ?_
 generalize w.alloc (.cells #[.int .i64 g, .int .i64 r] 61) = U at *
 rintro e w1 ⟨rfl, hb1⟩
 have B1 := hid (btw B0.out hb1)
 have K1 := hid (K0.out.below hb1)
 clear hb1 B0 K0 HZ0
 cases hok : mtOk g r with
 | false =>
  have HN : Hid (mtBytes g r = none) := by show _ = _; rw [HP.out, hok]; rfl
  go_wp2
  go_ret2
  exact ⟨B1.out, .inl ⟨HN.out, rfl⟩⟩
 | true =>
  have HN : Hid (mtBytes g r = some (mtFull g r)) := by show _ = _; rw [HP.out, hok]; rfl
  obtain ⟨g0, g1, r0, r1⟩ := mtOk_facts hok
  clear hok HP
  have ba := below_new (o := .cells #[.int .u8 77] 5) (w := w1) (Below.refl _ _)
  have O2 := hid (ob_lit w1 77)
  have K2 := hid (K1.out.below ba)
  have B2 := hid (btw B1.out ba)
  have HZ : Hid (w.heap.size < w1.heap.size) := K1.out.lt
  have c0 := K2.out.cell (j := 0) rfl
  clear ba B1 K1
  go_wp2_with fail
  refine (five_any g _ (by omega) (by omega)).mono ?_
  generalize w1.alloc (.cells #[.int .u8 77] 5) = U1 at *
  generalize w1.heap.size = b1 at *
  rintro e w2 ⟨a2, c2, rfl, hR2, hlo2, hb2⟩
  have O3 := hid (O2.out.keep hb2)
  have K3 := hid (K2.out.below hb2)
  have B3 := hid (btw B2.out hb2)
  have R3 := hid hR2
  have HB1 : Hid (b1 ≤ w2.heap.size) := Nat.le_of_lt (World.ownsRow.lt O3.out b1 rfl).2
  clear hR2 hlo2 hb2 O2 K2 B2 c0
  go_wp2_with (at_builtin; refine wpList_append_by rfl _ _ rfl b1 _ [77] rfl O3.out (some a2) 5 c2 (five g) rfl R3.out (by decide) (by omega) HB1.out (fun e => by cases e) ?_)
  intro a4 n4 c4 w4 hO4 hg4 ha4
  have O4 := hid hO4
  have K4 := hid (O3.out.bk K3.out hg4 HZ.out)
  have B4 : Hid (Below w.heap.size w w4) := (O3.out.lower (Nat.le_of_lt HZ.out)).grown B3.out hg4
  clear hO4 hg4 ha4 O3 K3 B3 R3 HB1
  have hq : r.tdiv 256 = r / 256 := Int.tdiv_eq_ediv_of_nonneg r0
  have hm : r.tmod 256 = r % 256 := Int.tmod_eq_emod_of_nonneg r0
  obtain ⟨y, hy, hy0, hy1⟩ : ∃ y, r / 256 = y ∧ 0 ≤ y ∧ y ≤ 255 := ⟨_, rfl, by omega, by omega⟩
  obtain ⟨z, hz, hz0, hz1⟩ : ∃ z, r % 256 = z ∧ 0 ≤ z ∧ z ≤ 255 := ⟨_, rfl, by omega, by omega⟩
  have HYZ : Hid (mtHead g r = [77] ++ five g ++ [y, z]) := by show _ = _; rw [mtHead, hy, hz]
  rw [hy] at hq
  rw [hz] at hm
  have hw1 : IntKind.i64.wrap y = y := by simp [IntKind.wrap, IntKind.signed, IntKind.bits]; omega
  have hw2 : IntKind.i64.wrap z = z := by simp [IntKind.wrap, IntKind.signed, IntKind.bits]; omega
  have hw3 : IntKind.u8.wrap y = y := by simp [IntKind.wrap, IntKind.signed, IntKind.bits]; omega
  have hw4 : IntKind.u8.wrap z = z := by simp [IntKind.wrap, IntKind.signed, IntKind.bits]; omega
  have HHB := hid (mtHead_byte (g := g) r0 r1)
  clear hy hz
  have ba := below_new (o := .cells #[.int .u8 y, .int .u8 z] 5) (w := w4) (Below.refl _ _)
  have c1 := K4.out.cell (j := 1) rfl
  have O5 := hid (O4.out.keep ba)
  have K5 := hid (K4.out.below ba)
  have B5 := hid (btw B4.out ba)
  have R5 := hid (rd_two w4 y z ⟨hy0, hy1⟩ ⟨hz0, hz1⟩)
  have HB5 : Hid (b1 ≤ (w4.alloc (.cells #[.int .u8 y, .int .u8 z] 5)).heap.size) := by
   obtain ⟨a', c', e⟩ := O5.out.shape
   rcases O5.out.2 with ⟨e2, e3⟩ | ⟨g', cap, cur, e2, hb, hg, _⟩
   ·simp [five_len] at e3
   ·have := (World.ownsRow.lt O5.out g' (by rw [e2]; rfl)).2
    show _ ≤ _
    omega
  have hl6 : (77 :: five g).length ≤ 1048576 := by rw [List.length_cons, five_len]; decide
  clear ba O4 K4 B4
  go_wp2_with (at_builtin; refine wpList_append_by rfl _ _ rfl b1 _ (77 :: five g) rfl O5.out _ 2 2 [y, z] rfl R5.out hl6 (by omega) HB5.out (fun e => by cases e) ?_)
  generalize w4.alloc (.cells #[.int .u8 y, .int .u8 z] 5) = U4 at *
  intro a6 n6 c6 w6 hO6 hg6 ha6
  have hO6 : Ob w6 b1 (.slice a6 n6 c6) (mtHead g r) := by rw [HYZ.out]; simpa using hO6
  have K6 := hid (O5.out.bk K5.out hg6 HZ.out)
  have B6 : Hid (Below w.heap.size w w6) := (O5.out.lower (Nat.le_of_lt HZ.out)).grown B5.out hg6
  obtain ⟨a', c', e, hR6, _⟩ := hO6.rd (byte_at HHB.out) (by simp [mtHead, five_len])
  have hl8 : (mtHead g r).length = 8 := by simp [mtHead, five_len]
  rw [hl8] at e hR6
  cases e
  have R6 := hid hR6
  have HFL : Hid (fl (mtHead g r) 507 = some (mtHead g r ++ List.replicate 499 0)) := by
   show _ = _
   have := fl_ok (mtHead g r) 499 (by rw [hl8]; omega)
   rw [hl8] at this
   exact this
  have HB9 : Hid (∀ z ∈ mtHead g r ++ List.replicate 499 0, 0 ≤ z ∧ z ≤ 255) := byte_append HHB.out (fun z hz => by have := List.eq_of_mem_replicate hz; omega)
  have HL9 : Hid ((mtHead g r ++ List.replicate 499 0).length = 507) := by show _ = _; rw [List.length_append, hl8, List.length_replicate]
  have HEQ : Hid (mtFull g r = mtHead g r ++ List.replicate 499 0 ++ five g) := rfl
  clear hO6 hg6 ha6 hR6 hl8 O5 K5 B5 R5 HB5 HYZ HHB c1
  generalize mtHead g r ++ List.replicate 499 0 = hd at *
  go_wp2_with fail
  refine (specFill_any _ _ _ _ 507 _ R6.out (by omega)).mono ?_
  intro e w7 hput
  obtain ⟨v7, rfl, hO7, hb7⟩ := PutM.got hput HFL.out
  have K7 := hid (K6.out.below hb7)
  have B7 := hid (btw B6.out hb7)
  have HZ7 : Hid (w.heap.size < w6.heap.size) := K6.out.lt
  have O7 := hid (hO7.lower (Nat.le_of_lt HZ7.out))
  have OX := hid hO7
  have HW : Hid (w6.heap.size ≤ w7.heap.size) := hb7.size
  obtain ⟨a7, c7, e7⟩ := hO7.shape
  rw [HL9.out] at e7
  subst e7
  clear hput hO7 hb7 K6 B6 R6 HFL
  have c0 := K7.out.cell (j := 0) rfl
  go_wp2_with fail
  refine (five_any g _ (by omega) (by omega)).mono ?_
  rintro e w8 ⟨a8, c8, rfl, hR8, hlo8, hb8⟩
  have O8 := hid (OX.out.keep hb8)
  have B8 := hid (btw B7.out hb8)
  have R8 := hid hR8
  have HW8 : Hid (w6.heap.size ≤ w8.heap.size) := Nat.le_trans HW.out hb8.size
  clear hR8 hlo8 hb8 O7 OX K7 B7 c0 HW
  go_wp2_with (at_builtin; refine wpList_append_by rfl _ _ rfl w6.heap.size _ hd rfl O8.out (some a8) 5 c8 (five g) rfl R8.out (by rw [HL9.out]; omega) (by omega) HW8.out (fun e => by cases e) ?_)
  intro a9 n9 c9 w9 hO9 hg9 ha9
  have O9 : Hid (Ob w9 w.heap.size (.slice a9 n9 c9) (mtFull g r)) := by rw [HEQ.out]; exact hO9.lower (Nat.le_of_lt HZ7.out)
  have B9 : Hid (Below w.heap.size w w9) := (O8.out.lower (Nat.le_of_lt HZ7.out)).grown B8.out hg9
  clear hO9 hg9 ha9 O8 B8 R8
  go_wp2
  go_ret2
  exact ⟨B9.out, .inr ⟨_, _, HN.out, rfl, O9.out⟩⟩
open Go.RowKit
def acc (zs : List Int) : Nat → Int
 | 0 => 0
 | j + 1 => acc zs j * 256 + zAt zs (j + 1)
def mcd (zs : List Int) : Int × Int := (acc zs 5, zAt zs 6 * 256 + zAt zs 7)
def mrd (zs : List Int) : Option (Int × Int) := if zs.length = 512 ∧ mtBytes (mcd zs).1 (mcd zs).2 = some zs then some (mcd zs) else none
theorem acc_rng {zs : List Int} (hb : ∀ i : Nat, 0 ≤ zs[i]?.getD 0 ∧ zs[i]?.getD 0 ≤ 255) : ∀ j, j ≤ 5 → 0 ≤ acc zs j ∧ acc zs j < 1099511627776 ∧ (j ≤ 4 → acc zs j < 4294967296) ∧ (j ≤ 3 → acc zs j < 16777216) ∧ (j ≤ 2 → acc zs j < 65536) ∧ (j ≤ 1 → acc zs j < 256) ∧ (j ≤ 0 → acc zs j < 1)
 | 0, _ => by simp [acc]
 | j + 1, h => by
  have h1 := acc_rng hb j (by omega)
  have h2 := hb (j + 1)
  have e : acc zs (j + 1) = acc zs j * 256 + zs[j + 1]?.getD 0 := rfl
  rw [e]
  omega
theorem results_mt2 {fn : Func} {p u : Tmp} (h : fn.results = #[.cell p 61, .tmp u]) (tmps : Array Value) (w : World) (g : Nat) {x y b : Value} (hp : tmps.getD p undef = .pointer (some ⟨g, 0, none⟩)) (hb : tmps.getD u undef = b)
  (c0 : w.cell? ⟨g, 0, none⟩ = some x) (c1 : w.cell? ⟨g, 1, none⟩ = some y) : (results fn tmps).run Tryz.prog w = .ok (.tuple #[.agg #[x, y], b]) w := by
 have hp' : tmps[p]?.getD undef = .pointer (some ⟨g, 0, none⟩) := by simpa using hp
 have hb' : tmps[u]?.getD undef = b := by simpa using hb
 have hl : (loadVar 61 ⟨g, 0, none⟩).run Tryz.prog w = .ok (.agg #[x, y]) w := by go_simp
 simp [results, h, hp', hb', asAddr, hl, Result.andThen]
def MrPost (o : Option (Int × Int)) (w : World) (e : Ending) (w' : World) : Prop := Below w.heap.size w w' ∧ ((o = none ∧ e = .returned (.tuple #[.agg #[.int .i64 0, .int .i64 0], .bool false])) ∨ ∃ g r, o = some (g, r) ∧ e = .returned (.tuple #[.agg #[.int .i64 g, .int .i64 r], .bool true]))
structure Mb (w v : World) (g r : Int) : Prop where
 be : Below w.heap.size w v
 rb : Bk v w.heap.size 61 [.int .i64 0, .int .i64 0]
 bk : Bk v (w.heap.size + 1) 61 [.int .i64 g, .int .i64 r]
theorem Mb.below {w v v' : World} {g r : Int} (h : Mb w v g r) (hb : Below v.heap.size v v') : Mb w v' g r := ⟨btw h.be hb, h.rb.below hb, h.bk.below hb⟩
theorem Mb.set0 {w v : World} {g r : Int} (h : Mb w v g r) (g' : Int) : Mb w (v.setCell ⟨w.heap.size + 1, 0, none⟩ (.int .i64 g')) g' r := ⟨h.be.setCell (p := ⟨w.heap.size + 1, 0, none⟩) (Nat.le_succ _) _, h.rb.setOther (by omega) _ _, h.bk.set 0 _⟩
theorem Mb.set1 {w v : World} {g r : Int} (h : Mb w v g r) (r' : Int) : Mb w (v.setCell ⟨w.heap.size + 1, 1, none⟩ (.int .i64 r')) g r' := ⟨h.be.setCell (p := ⟨w.heap.size + 1, 1, none⟩) (Nat.le_succ _) _, h.rb.setOther (by omega) _ _, h.bk.set 1 _⟩
theorem Mb.cells {w v : World} {g r : Int} (h : Mb w v g r) : v.cell? ⟨w.heap.size + 1, 0, none⟩ = some (.int .i64 g) ∧ v.cell? ⟨w.heap.size + 1, 1, none⟩ = some (.int .i64 r) ∧ v.frozen? ⟨w.heap.size + 1, 0, none⟩ = false ∧ v.frozen? ⟨w.heap.size + 1, 1, none⟩ = false := ⟨h.bk.cell (j := 0) rfl, h.bk.cell (j := 1) rfl, h.bk.free 0, h.bk.free 1⟩
theorem Mb.rcells {w v : World} {g r : Int} (h : Mb w v g r) : v.cell? ⟨w.heap.size, 0, none⟩ = some (.int .i64 0) ∧ v.cell? ⟨w.heap.size, 1, none⟩ = some (.int .i64 0) ∧ v.frozen? ⟨w.heap.size, 0, none⟩ = false ∧ v.frozen? ⟨w.heap.size, 1, none⟩ = false := ⟨h.rb.cell (j := 0) rfl, h.rb.cell (j := 1) rfl, h.rb.free 0, h.rb.free 1⟩
theorem Mb.out {w v : World} {g r : Int} (h : Mb w v g r) (x y : Value) : Below w.heap.size w ((v.setCell ⟨w.heap.size, 0, none⟩ x).setCell ⟨w.heap.size, 1, none⟩ y) := (h.be.setCell (p := ⟨w.heap.size, 0, none⟩) (Nat.le_refl _) _).setCell (p := ⟨w.heap.size, 1, none⟩) (Nat.le_refl _) _
set_option maxHeartbeats 4000000 in
set_option maxRecDepth 20000 in
theorem specMetaRead_any (a : Option Addr) (n c : Nat) (zs : List Int) (w : World) (h : Rd w a n c zs) :
  Calls Tryz.prog 62 #[.slice a n c] w fun e w' => MrPost (mrd zs) w e w' := by
 have hzl : n = zs.length := h.1
 have HBY := hid h.2.2.2.2.1
 have HR := hid h
 have M0 : Hid (Mb w ((w.alloc (.cells #[.int .i64 0, .int .i64 0] 61)).alloc (.cells #[.int .i64 0, .int .i64 0] 61)) 0 0) := by
  have k1 := Bk.new (w.alloc (.cells #[.int .i64 0, .int .i64 0] 61)) 61 [.int .i64 0, .int .i64 0]
  exact ⟨below_new (below_new (Below.refl _ _)), (Bk.new w 61 [.int .i64 0, .int .i64 0]).alloc _, by simpa using k1⟩
 obtain ⟨p0, p1, pf0, pf1⟩ := M0.out.cells
 obtain ⟨r0, r1, rf0, rf1⟩ := M0.out.rcells
 by_cases h512 : n = 512
 ·subst h512
  have HZL : Hid (zs.length = 512) := hzl.symm
  obtain ⟨b, off, rfl, hbl, hcell⟩ := h.2.2.2.2.2 (by omega)
  have HC : Hid (∀ v, Below w.heap.size w v → ∀ i, i < 512 → v.cell? ⟨b, off + i, none⟩ = some (.int .u8 (zAt zs i))) := by
   intro v hb i hi
   rw [hb.cell (p := ⟨b, off + i, none⟩) hbl]
   exact hcell i hi
  have HNB : Hid (b < w.heap.size) := hbl
  clear hcell hbl hzl h p0 p1 pf0 pf1 r0 r1 rf0 rf1
  go_enter Tryz.func62, Tryz.ntmps62
  go_wp2_with fail
  generalize (w.alloc (.cells #[.int .i64 0, .int .i64 0] 61)).alloc (.cells #[.int .i64 0, .int .i64 0] 61) = U at *
  go_loopw [5] (fun i wr => ∃ (j : Nat), j ≤ 5 ∧ i = .int .i64 ((j : Int) + 1) ∧ Hid (Mb w wr (acc zs j) 0)) (fun i _ => 6 - (intOf i).toNat)
  case atStart => exact ⟨0, by omega, rfl, M0.out⟩
  case round =>
   obtain ⟨j, hj, rfl, M1⟩ := hrel
   clear M0
   by_cases hlt : j < 5
   ·have hlt' : (j : Int) + 1 < 6 := by omega
    have M2 := hid (M1.out.below (below_drew _))
    obtain ⟨p0, p1, pf0, pf1⟩ := M2.out.cells
    have m0 := HC.out _ M2.out.be (j + 1) (by omega)
    have hac := acc_rng HBY.out j (by omega)
    have hz := HBY.out (j + 1)
    have HST : Hid (acc zs (j + 1) = acc zs j * 256 + zAt zs (j + 1)) := rfl
    have hz' : 0 ≤ zAt zs (j + 1) ∧ zAt zs (j + 1) ≤ 255 := hz
    have hac0 := hac.1
    have hac1 : acc zs j < 4294967296 := hac.2.2.1 (by omega)
    have M3 := hid (M2.out.set0 (acc zs (j + 1)))
    rw [HST.out] at M3
    clear hz hac M1
    generalize acc zs j = G at *
    generalize zAt zs (j + 1) = z at *
    have hw1 : IntKind.i64.wrap (G * 256) = G * 256 := by simp [IntKind.wrap, IntKind.signed, IntKind.bits]; omega
    have hw2 : IntKind.i64.wrap z = z := by simp [IntKind.wrap, IntKind.signed, IntKind.bits]; omega
    have hw3 : IntKind.i64.wrap (G * 256 + z) = G * 256 + z := by simp [IntKind.wrap, IntKind.signed, IntKind.bits]; omega
    have hi2 : (j : Int) + 1 < 512 := by omega
    have hi3 : (0 : Int) ≤ (j : Int) + 1 := by omega
    go_wp2_with fail
    go_region_with (fail)
    all_goals
     clear p0 p1 pf0 pf1 m0 M2 hw1 hw2 hw3
     go_wp2
     go_roundw
     case rel => exact ⟨j + 1, by omega, by go_num, by rw [HST.out]; exact M3.out⟩
     case measure => simp [intOf]; omega
   ·obtain rfl : j = 5 := by omega
    have M2 := hid (M1.out.below (below_drew _))
    obtain ⟨p0, p1, pf0, pf1⟩ := M2.out.cells
    have m6 := HC.out _ M2.out.be 6 (by omega)
    have m7 := HC.out _ M2.out.be 7 (by omega)
    have hz6 : 0 ≤ zAt zs 6 ∧ zAt zs 6 ≤ 255 := HBY.out 6
    have hz7 : 0 ≤ zAt zs 7 ∧ zAt zs 7 ≤ 255 := HBY.out 7
    have HM : Hid (mcd zs = (acc zs 5, zAt zs 6 * 256 + zAt zs 7)) := rfl
    have M3 := hid (M2.out.set1 (zAt zs 6 * 256 + zAt zs 7))
    clear M1
    generalize acc zs 5 = G at *
    generalize zAt zs 6 = y at *
    generalize zAt zs 7 = z at *
    have hw1 : IntKind.i64.wrap (y * 256) = y * 256 := by simp [IntKind.wrap, IntKind.signed, IntKind.bits]; omega
    have hw2 : IntKind.i64.wrap z = z := by simp [IntKind.wrap, IntKind.signed, IntKind.bits]; omega
    have hw3 : IntKind.i64.wrap (y * 256 + z) = y * 256 + z := by simp [IntKind.wrap, IntKind.signed, IntKind.bits]; omega
    have hw4 : IntKind.i64.wrap y = y := by simp [IntKind.wrap, IntKind.signed, IntKind.bits]; omega
    go_wp2_with fail
    go_cut [5] (fun x v => x = x ∧ Hid (Mb w v G (y * 256 + z)))
    case first =>
     go_region_with (fail)
     all_goals (go_wp2_with fail; go_meet)
     all_goals exact ⟨trivial, M3.out⟩
    case rest =>
     obtain ⟨-, M4⟩ := hcut
     clear p0 p1 pf0 pf1 m6 m7 M2 M3 hw1 hw2 hw3 hw4
     obtain ⟨p0, p1, pf0, pf1⟩ := M4.out.cells
     generalize y * 256 + z = R at *
     go_wp2_with fail
     refine (specMetaBytes_any G R _).mono ?_
     intro e w5 hput
     obtain ⟨hb5, ⟨hnn, rfl⟩ | ⟨v5, bs, hss, rfl, hO5⟩⟩ := hput
     ·have HPR : Hid (mrd zs = none) := by
       show mrd zs = none
       rw [mrd, if_neg]
       rintro ⟨_, h⟩
       rw [HM.out, hnn] at h
       cases h
      have M5 := hid (M4.out.below hb5)
      obtain ⟨r0, r1, rf0, rf1⟩ := M5.out.rcells
      clear hb5 hnn M4 p0 p1 pf0 pf1
      go_wp2
      refine bodyPost_ret (results_mt2 (x := .int .i64 0) (y := .int .i64 0) rfl _ _ _ rfl rfl (by go_simp) (by go_simp)) rfl ?_
      exact ⟨M5.out.out _ _, .inl ⟨HPR.out, rfl⟩⟩
     ·have hbs : (∀ z ∈ bs, 0 ≤ z ∧ z ≤ 255) ∧ bs.length = 512 := by
       unfold mtBytes at hss
       split at hss
       ·rename_i hok
        cases hss
        have := mtOk_facts hok
        exact ⟨mtFull_byte this.2.2.1 this.2.2.2, mtFull_len _ _⟩
       ·cases hss
      obtain ⟨a5, c5, e5, hR5, _⟩ := hO5.rd (byte_at hbs.1) (by rw [hbs.2]; omega)
      rw [hbs.2] at e5 hR5
      subst e5
      have R5 := hid hR5
      have M5 := hid (M4.out.below hb5)
      have RB := hid (HR.out.kept M5.out.be)
      have HSS := hid hss
      clear hb5 hO5 hR5 hbs hss M4 p0 p1 pf0 pf1
      obtain ⟨p0, p1, pf0, pf1⟩ := M5.out.cells
      obtain ⟨r0, r1, rf0, rf1⟩ := M5.out.rcells
      go_wp2_with fail
      refine (same_any a5 _ 512 _ c5 _ bs zs _ R5.out RB.out).mono ?_
      by_cases heq : bs = zs
      ·have HPR : Hid (mrd zs = some (G, R)) := by
        show mrd zs = some (G, R)
        rw [mrd, if_pos, HM.out]
        exact ⟨HZL.out, by rw [HM.out, HSS.out, heq]⟩
       rw [decide_eq_true heq]
       rintro e w6 ⟨rfl, rfl⟩
       clear R5 RB HSS heq
       go_wp2
       refine bodyPost_ret (results_mt2 (x := .int .i64 G) (y := .int .i64 R) rfl _ _ _ rfl rfl (by go_simp) (by go_simp)) rfl ?_
       exact ⟨M5.out.out _ _, .inr ⟨G, R, HPR.out, rfl⟩⟩
      ·have HPR : Hid (mrd zs = none) := by
        show mrd zs = none
        rw [mrd, if_neg]
        rintro ⟨_, h⟩
        rw [HM.out, HSS.out] at h
        cases h
        exact heq rfl
       rw [decide_eq_false heq]
       rintro e w6 ⟨rfl, rfl⟩
       clear R5 RB HSS heq
       go_wp2
       refine bodyPost_ret (results_mt2 (x := .int .i64 0) (y := .int .i64 0) rfl _ _ _ rfl rfl (by go_simp) (by go_simp)) rfl ?_
       exact ⟨M5.out.out _ _, .inl ⟨HPR.out, rfl⟩⟩
 ·have h512' : ((n : Int) != 512) = true := by simp; omega
  have HPR : Hid (mrd zs = none) := by
   show mrd zs = none
   rw [mrd, if_neg]
   rintro ⟨h, _⟩
   omega
  have HBF := hid M0.out.be
  clear HBY HR M0 h hzl
  go_enter Tryz.func62, Tryz.ntmps62
  go_wp2
  refine bodyPost_ret (results_mt2 (x := .int .i64 0) (y := .int .i64 0) rfl _ _ _ rfl rfl (by go_simp) (by go_simp)) rfl ?_
  exact ⟨HBF.out, .inl ⟨HPR.out, rfl⟩⟩
open Go.RowKit
set_option maxHeartbeats 400000 in
theorem isPlace_any (n : Int) (w : World) (b : Bool) (hb : b = decide (2 ≤ n ∧ n < 400)) :
  Calls Tryz.prog 161 #[.int .i64 n] w fun e w' => e = .returned (.bool b) ∧ w = w' := by
 have HB := hid hb
 clear hb
 by_cases h0 : 2 ≤ n
 ·by_cases h1 : n < 400
  ·have HE : Hid (b = true) := by show _ = _; rw [HB.out, decide_eq_true (by omega)]
   clear HB
   go_enter Tryz.func161, Tryz.ntmps161
   go_wp2
   go_ret
   exact ⟨by rw [HE.out]; rfl, rfl⟩
  ·have HE : Hid (b = false) := by show _ = _; rw [HB.out, decide_eq_false (by omega)]
   clear HB
   go_enter Tryz.func161, Tryz.ntmps161
   go_wp2
   go_ret
   exact ⟨by rw [HE.out]; rfl, rfl⟩
 ·have HE : Hid (b = false) := by show _ = _; rw [HB.out, decide_eq_false (by omega)]
  clear HB
  go_enter Tryz.func161, Tryz.ntmps161
  go_wp2
  go_ret
  exact ⟨by rw [HE.out]; rfl, rfl⟩
set_option maxHeartbeats 4000000 in
theorem implMetaOk_any (g r : Int) (w : World) : Calls Tryz.prog 134 #[.agg #[.int .i64 g, .int .i64 r]] w fun e w' => e = .returned (.bool (mtOk g r)) ∧ Below w.heap.size w w' := by
 have HB := hid (below_new (o := .cells #[.int .i64 g, .int .i64 r] 61) (w := w) (Below.refl _ _))
 have HD : Hid (mtOk g r = (decide (1 ≤ g ∧ g ≤ 1099511627775) && (decide (r = 0) || decide (2 ≤ r ∧ r < 400)))) := rfl
 by_cases q1 : 1 ≤ g
 ·by_cases q2 : g ≤ 1099511627775
  ·rw [decide_eq_true (show 1 ≤ g ∧ g ≤ 1099511627775 from ⟨q1, q2⟩)] at HD
   by_cases q3 : r = 0
   ·subst q3
    have HF : Hid (mtOk g 0 = true) := by show _ = true; rw [HD.out]; rfl
    clear HD
    go_enter Tryz.func134, Tryz.ntmps134
    go_wp2
    go_ret
    exact ⟨by rw [HF.out]; rfl, HB.out⟩
   ·have q3' : (r == 0) = false := by simp [q3]
    have HF : Hid (mtOk g r = decide (2 ≤ r ∧ r < 400)) := by show _ = _; rw [HD.out, decide_eq_false q3]; rfl
    clear HD
    generalize hz : decide (2 ≤ r ∧ r < 400) = z at *
    have HZ := hid hz.symm
    clear hz
    go_enter Tryz.func134, Tryz.ntmps134
    go_wp2_with fail
    refine (isPlace_any r _ z HZ.out).mono ?_
    rintro e w1 ⟨rfl, rfl⟩
    go_wp2
    go_ret
    exact ⟨by rw [HF.out]; rfl, HB.out⟩
  ·have HF : Hid (mtOk g r = false) := by show _ = false; rw [HD.out, decide_eq_false (by omega)]; rfl
   clear HD
   go_enter Tryz.func134, Tryz.ntmps134
   go_wp2
   go_ret
   exact ⟨by rw [HF.out]; rfl, HB.out⟩
 ·have HF : Hid (mtOk g r = false) := by show _ = false; rw [HD.out, decide_eq_false (by omega)]; rfl
  clear HD
  go_enter Tryz.func134, Tryz.ntmps134
  go_wp2
  go_ret
  exact ⟨by rw [HF.out]; rfl, HB.out⟩
def shr8 (n : Int) : Nat → Int
 | 0 => n
 | k + 1 => shr8 n k / 256
def low8 (n : Int) : Nat → List Int
 | 0 => []
 | k + 1 => (shr8 n k % 256) :: low8 n k
theorem low8_len (n : Int) : ∀ k, (low8 n k).length = k
 | 0 => rfl
 | k + 1 => by rw [low8, List.length_cons, low8_len n k]
theorem low8_five (n : Int) : low8 n 5 = five n := by
 simp only [low8, shr8, five, wts, List.map_cons, List.map_nil]
 refine List.cons_eq_cons.2 ⟨by omega, List.cons_eq_cons.2 ⟨by omega, List.cons_eq_cons.2 ⟨by omega, List.cons_eq_cons.2 ⟨by omega, List.cons_eq_cons.2 ⟨by omega, rfl⟩⟩⟩⟩⟩
theorem low8_two {n : Int} (h0 : 0 ≤ n) (h1 : n < 65536) : low8 n 2 = [n / 256, n % 256] := by
 simp only [low8, shr8]
 refine List.cons_eq_cons.2 ⟨by omega, rfl⟩
theorem shr8_rng {n : Int} (h0 : 0 ≤ n) : ∀ k, 0 ≤ shr8 n k ∧ shr8 n k ≤ n
 | 0 => ⟨h0, Int.le_refl _⟩
 | k + 1 => by
  have := shr8_rng h0 k
  rw [shr8]
  omega
def lowP (n : Int) (s k : Nat) : List Int := List.replicate (s - k) 0 ++ low8 n k
theorem lowP_len (n : Int) {s k : Nat} (h : k ≤ s) : (lowP n s k).length = s := by
 rw [lowP, List.length_append, List.length_replicate, low8_len]
 omega
theorem lowP_set (n : Int) {s k : Nat} (h : k < s) : (byteVals (lowP n s k)).setIfInBounds (s - 1 - k) (.int .u8 (shr8 n k % 256)) = byteVals (lowP n s (k + 1)) := by
 obtain ⟨m, rfl⟩ : ∃ m, s = k + 1 + m := ⟨s - (k + 1), by omega⟩
 have e1 : k + 1 + m - k = m + 1 := by omega
 have e2 : k + 1 + m - (k + 1) = m := by omega
 have e3 : k + 1 + m - 1 - k = m := by omega
 rw [lowP, lowP, e1, e2, e3, byteVals, byteVals, List.setIfInBounds_toArray]
 congr 1
 rw [List.map_append, List.map_append, List.map_replicate, List.map_replicate, List.replicate_succ', List.append_assoc, List.set_append_right _ _ (by simp)]
 simp [low8]
theorem lowP_zero (n : Int) (s : Nat) : byteVals (lowP n s 0) = madeCells #[.int .u8 0] s := by
 apply Array.ext
 ·simp [byteVals, lowP, low8, madeCells]
 ·intro i h1 h2; simp [byteVals, lowP, low8, madeCells, Nat.mod_one]
theorem lowP_all (n : Int) (s : Nat) : lowP n s s = low8 n s := by simp [lowP]
theorem lowP_at (n : Int) {s k : Nat} (h : k ≤ s) {i : Nat} (hi : i < s) : ∃ z, (byteVals (lowP n s k))[i]? = some (.int .u8 z) := by
 have hl : i < (lowP n s k).length := by rw [lowP_len n h]; exact hi
 exact ⟨(lowP n s k)[i], by simp [byteVals, hl]⟩
set_option maxHeartbeats 2000000 in
theorem highFirst_any (n : Int) (s : Nat) (w : World) (h0 : 0 ≤ n) (hs : s ≤ 8) :
  Calls Tryz.prog 135 #[.int .i64 n, .int .i64 s] w fun e w' => e = .returned (.slice (some ⟨w.heap.size, 0, none⟩) s s) ∧ w' = w.alloc (.cells (byteVals (low8 n s)) 5) := by
 have hmk := run_make_row' (P := Tryz.prog) 89 5 (.int .u8 0) 1 Tryz.underlying89 infoU8 rfl .i64 .i64 s (by omega) (by omega)
 go_enter Tryz.func135, Tryz.ntmps135
 go_wp2
 go_loopw [0, 11] (fun v i wr => ∃ k : Nat, k ≤ s ∧ i = .int .i64 k ∧ v = .int .i64 (shr8 n k) ∧ wr = w.alloc (.cells (byteVals (lowP n s k)) 5)) (fun _ i _ => s - (intOf i).toNat)
 case atStart => exact ⟨0, Nat.zero_le _, rfl, rfl, by rw [lowP_zero]⟩
 case round =>
  obtain ⟨k, hk, rfl, rfl, rfl⟩ := hrel
  by_cases hlt : k < s
  ·have hlt' : (k : Int) < (s : Int) := by omega
   obtain ⟨z, hz⟩ := lowP_at n (show k ≤ s by omega) (show s - 1 - k < s by omega)
   have HS := hid (lowP_set n hlt)
   have hr := shr8_rng h0 k
   have HN : Hid (shr8 n (k + 1) = shr8 n k / 256) := rfl
   have hx : (s : Int) - 1 - (k : Int) = ((s - 1 - k : Nat) : Int) := by omega
   generalize s - 1 - k = j at *
   generalize shr8 n k = q at *
   have hw8 : IntKind.u8.wrap q = q % 256 := by simp [IntKind.wrap, IntKind.signed, IntKind.bits]
   go_wp2
   go_roundw
   case rel => exact ⟨k + 1, by omega, by go_num, by rw [HN.out], by rw [HS.out]⟩
   case measure => simp [intOf]; omega
  ·have hk' : k = s := by omega
   have HA : Hid (lowP n s k = low8 n s) := by show _ = _; rw [hk']; exact lowP_all n s
   clear hk'
   go_wp2
   go_ret
   exact ⟨rfl, by rw [HA.out]⟩
def hiF (zs : List Int) : Int := zs.foldl (fun n z => n * 256 + z) 0
theorem hiF_take (zs : List Int) {k : Nat} (h : k < zs.length) : hiF (zs.take (k + 1)) = hiF (zs.take k) * 256 + zs[k]?.getD 0 := by
 rw [List.take_succ_eq_append_getElem h, hiF, List.foldl_append]
 simp [hiF, h]
theorem hiF_rng {zs : List Int} (hb : ∀ z ∈ zs, 0 ≤ z ∧ z ≤ 255) : ∀ k, k ≤ zs.length → 0 ≤ hiF (zs.take k) ∧ (k ≤ 5 → hiF (zs.take k) < 1099511627776) ∧ (k ≤ 4 → hiF (zs.take k) < 4294967296) ∧ (k ≤ 3 → hiF (zs.take k) < 16777216) ∧ (k ≤ 2 → hiF (zs.take k) < 65536) ∧ (k ≤ 1 → hiF (zs.take k) < 256) ∧ (k ≤ 0 → hiF (zs.take k) < 1)
 | 0, _ => by simp [hiF]
 | k + 1, h => by
  have h1 := hiF_rng hb k (by omega)
  have h2 := byte_at hb k
  rw [hiF_take zs (by omega)]
  omega
set_option maxHeartbeats 2000000 in
theorem fromHighFirst_any (a : Option Addr) (n c : Nat) (zs : List Int) (w : World) (h : Rd w a n c zs) (hn : n ≤ 5) :
  Calls Tryz.prog 146 #[.slice a n c] w fun e w' => e = .returned (.int .i64 (hiF zs)) ∧ w = w' := by
 obtain ⟨hn0, hc, hm, hnm, hb, hcell⟩ := h
 have HN : Hid (n = zs.length) := hn0
 have HB := hid (at_byte hb)
 clear hn0 hb
 go_enter Tryz.func146, Tryz.ntmps146
 go_wp2
 go_loopw [3, 8] (fun v i wr => ∃ k : Nat, k ≤ n ∧ i = .int .i64 k ∧ v = .int .i64 (hiF (zs.take k)) ∧ wr = w) (fun _ i _ => n - (intOf i).toNat)
 case atStart => exact ⟨0, Nat.zero_le _, rfl, rfl, rfl⟩
 case round =>
  obtain ⟨k, hk, rfl, rfl, rfl⟩ := hrel
  by_cases hlt : k < n
  ·have hlt' : (k : Int) < (n : Int) := by omega
   obtain ⟨b, off, ha, hbw, hcell⟩ := hcell (by omega)
   have hck := hcell k hlt
   have hbk := byte_at HB.out k
   have HS := hid (hiF_take zs (k := k) (by rw [← HN.out]; exact hlt))
   have hr := hiF_rng HB.out k (by rw [← HN.out]; omega)
   obtain ⟨r0, r1, r2, _⟩ := hr
   have hr1 : hiF (zs.take k) < 4294967296 := r2 (by omega)
   clear hcell r1 r2
   rw [ha]
   generalize hiF (zs.take k) = q at *
   generalize zs[k]?.getD 0 = z at *
   go_wp2
   go_roundw
   case rel => exact ⟨k + 1, by omega, by go_num, by rw [HS.out], by trivial⟩
   case measure => simp [intOf]; omega
  ·have HA : Hid (hiF (zs.take k) = hiF zs) := by show _ = _; rw [List.take_of_length_le (by rw [← HN.out]; omega)]
   clear hcell
   go_wp2
   go_ret
   exact ⟨by rw [HA.out]; rfl, rfl⟩
theorem rd_nilM (w : World) : Rd w none 0 0 [] := ⟨rfl, Nat.le_refl _, by omega, by omega, by simp, fun h => by omega⟩
theorem addSt_ok {most : Nat} {zs ys : List Int} (h : zs.length + ys.length ≤ most) : addSt most (some zs) ys = some (zs ++ ys) := if_pos h
theorem fillSt_ok {most : Nat} {zs : List Int} {k : Nat} (h : zs.length + k ≤ most) : fillSt most (some zs) ((zs.length + k : Nat) : Int) = some (zs ++ List.replicate k 0) := by
 show (if (zs.length : Int) ≤ ((zs.length + k : Nat) : Int) ∧ ((zs.length + k : Nat) : Int) ≤ most then _ else _) = _
 rw [if_pos (by omega)]
 congr 3
 omega
theorem Put.lift {w u w' : World} {r : Option (List Int)} {e : Ending} (hb : Below w.heap.size w u) (h : Put u r e w') : Put w r e w' := by
 refine ⟨btw hb h.1, h.2.imp id ?_⟩
 rintro ⟨v, zs, h1, h2, h3⟩
 exact ⟨v, zs, h1, h2, h3.lower hb.size⟩
set_option maxHeartbeats 4000000 in
set_option maxRecDepth 20000 in
theorem implMetaBytes_any (g r : Int) (w : World) (he : Err w 0) (he2 : Err w 1) : Calls Tryz.prog 99 #[.agg #[.int .i64 g, .int .i64 r]] w fun e w' => Put w (mtBytes g r) e w' := by
 have B0 := hid (below_new (o := .cells #[.int .i64 g, .int .i64 r] 61) (w := w) (Below.refl _ _))
 have K0 := hid (Bk.new w 61 [.int .i64 g, .int .i64 r])
 have HP : Hid (mtBytes g r = if mtOk g r = true then some (mtFull g r) else none) := rfl
 have HE := hid he
 have HE2 := hid he2
 clear he he2
 go_enter Tryz.func99, Tryz.ntmps99
 go_wp2_with fail
 refine (implMetaOk_any g r _).mono ?_
 generalize w.alloc (.cells #[.int .i64 g, .int .i64 r] 61) = U at *
 rintro e w1 ⟨rfl, hb1⟩
 have B1 := hid (btw B0.out hb1)
 have K1 := hid (K0.out.below hb1)
 clear hb1 B0 K0
 cases hok : mtOk g r with
 | false =>
  have HN : Hid (mtBytes g r = none) := by show _ = _; rw [HP.out, hok]; rfl
  go_wp2
  go_ret2
  exact ⟨B1.out, .inl ⟨HN.out, rfl⟩⟩
 | true =>
  have HN : Hid (mtBytes g r = some (mtFull g r)) := by show _ = _; rw [HP.out, hok]; rfl
  obtain ⟨g0, g1, r0, r1⟩ := mtOk_facts hok
  clear hok HP
  have c0 := K1.out.cell (j := 0) rfl
  go_wp2_with fail
  refine (highFirst_any g 5 _ (by omega) (by omega)).mono ?_
  rintro e w2 ⟨rfl, hw2⟩
  have ba : Below w1.heap.size w1 w2 := by rw [hw2]; exact below_new (Below.refl _ _)
  have R2 : Hid (Rd w2 (some ⟨w1.heap.size, 0, none⟩) 5 5 (five g)) := by
   rw [hw2, low8_five]
   exact rd_new w1 (five g) (by rw [five_len]; omega) (byte_at (five_byte g))
  have B2 := hid (btw B1.out ba)
  have K2 := hid (K1.out.below ba)
  have E2 := hid (HE.out.below B2.out HE.out.lt)
  have F2 := hid (HE2.out.below B2.out HE2.out.lt)
  clear hw2 ba B1 K1 HE HE2 c0
  generalize w1.heap.size = q at *
  go_wp2_with fail
  refine (newWriter_any 512 none 0 0 [] w2 E2.out E2.out.lt (rd_nilM _) (by omega) (by omega)).mono ?_
  rintro e w3 ⟨rfl, hb3, hw3⟩
  have W3 : Hid (Wr w3 w2.heap.size 512 (some [])) := hw3
  have C3 := hid hb3
  clear hw3 hb3
  go_wp2_with fail
  refine (addByte_any w2.heap.size 512 (some []) 77 w3 W3.out (E2.out.below C3.out E2.out.lt) E2.out.lt (by omega) (by omega)).mono ?_
  rintro e w4 ⟨rfl, hb4, hw4⟩
  have W4 : Hid (Wr w4 w2.heap.size 512 (some [77])) := hw4
  have C4 := hid (C3.out.trans hb4)
  clear hw4 hb4 W3 C3
  go_wp2_with fail
  refine (add_any w2.heap.size 512 (some [77]) _ 5 5 (five g) w4 W4.out (E2.out.below C4.out E2.out.lt) (R2.out.kept C4.out) (by omega)).mono ?_
  rintro e w5 ⟨rfl, hb5, hw5⟩
  rw [addSt_ok (by rw [five_len]; decide)] at hw5
  have W5 := hid hw5
  have C5 := hid (C4.out.trans hb5)
  have c1 := (K2.out.below C5.out).cell (j := 1) rfl
  clear hw5 hb5 W4 C4
  go_wp2_with fail
  refine (highFirst_any r 2 _ (by omega) (by omega)).mono ?_
  rintro e w6 ⟨rfl, hw6⟩
  have ba : Below w5.heap.size w5 w6 := by rw [hw6]; exact below_new (Below.refl _ _)
  have R6 : Hid (Rd w6 (some ⟨w5.heap.size, 0, none⟩) 2 2 [r / 256, r % 256]) := by
   rw [hw6, low8_two r0 (by omega)]
   exact rd_new w5 [r / 256, r % 256] (by simp) (byte_at (fun z hz => by simp at hz; omega))
  have W6 : Hid (Wr w6 w2.heap.size 512 (some ([77] ++ five g))) := by rw [hw6]; exact W5.out.alloc _
  have C6 := hid (C5.out.trans (ba.mono C5.out.size))
  clear hw6 ba W5 C5 c1
  generalize w5.heap.size = q5 at *
  go_wp2_with fail
  refine (add_any w2.heap.size 512 _ _ 2 2 [r / 256, r % 256] w6 W6.out (E2.out.below C6.out E2.out.lt) R6.out (by omega)).mono ?_
  rintro e w7 ⟨rfl, hb7, hw7⟩
  rw [addSt_ok (by rw [List.length_append, five_len]; simp)] at hw7
  have W7 : Hid (Wr w7 w2.heap.size 512 (some (mtHead g r))) := hw7
  have C7 := hid (C6.out.trans hb7)
  have HL8 : Hid ((mtHead g r).length = 8) := by show _ = _; simp [mtHead, five_len]
  clear hw7 hb7 W6 C6 R6
  have HFL : Hid (fillSt 512 (some (mtHead g r)) 507 = some (mtHead g r ++ List.replicate 499 0)) := by
   show _ = _
   have := fillSt_ok (most := 512) (zs := mtHead g r) (k := 499) (by rw [HL8.out]; omega)
   rw [HL8.out] at this
   exact this
  go_wp2_with fail
  refine (fill_any w2.heap.size 512 _ 507 w7 W7.out (by omega) (E2.out.below C7.out E2.out.lt) (F2.out.below C7.out F2.out.lt) E2.out.lt).mono ?_
  rintro e w8 ⟨rfl, hb8, hw8⟩
  rw [HFL.out] at hw8
  have W8 := hid hw8
  have C8 := hid (C7.out.trans hb8)
  clear hw8 hb8 W7 C7 HFL
  go_wp2_with fail
  refine (add_any w2.heap.size 512 _ _ 5 5 (five g) w8 W8.out (E2.out.below C8.out E2.out.lt) (R2.out.kept C8.out) (by omega)).mono ?_
  rintro e w9 ⟨rfl, hb9, hw9⟩
  rw [addSt_ok (by rw [List.length_append, HL8.out, List.length_replicate, five_len]; decide)] at hw9
  have W9 : Hid (Wr w9 w2.heap.size 512 (some (mtFull g r))) := hw9
  have C9 := hid (C8.out.trans hb9)
  clear hw9 hb9 W8 C8
  go_wp2_with fail
  refine (told_put w2 w9 512 _ W9.out C9.out).mono ?_
  rintro e w10 ⟨v, b, rfl, ⟨a3, n3, c3, rfl⟩, hput⟩
  rw [← HN.out] at hput
  have HQ := hid (hput.lift B2.out)
  clear hput
  go_wp2
  go_ret2
  exact HQ.out
theorem Rd.cut {w : World} {b off n c : Nat} {zs : List Int} (h : Rd w (some ⟨b, off, none⟩) n c zs) (lo m : Nat) (hm : lo + m ≤ n) : Rd w (some ⟨b, off + lo, none⟩) m (c - lo) ((zs.drop lo).take m) := by
 obtain ⟨h1, h2, h3, h4, h5, h6⟩ := h
 have e : ∀ i, i < m → ((zs.drop lo).take m)[i]?.getD 0 = zs[lo + i]?.getD 0 := by
  intro i hi
  rw [List.getElem?_take_of_lt hi, List.getElem?_drop]
 refine ⟨by simp; omega, by omega, by omega, by omega, fun i => ?_, fun hp => ?_⟩
 ·by_cases hi : i < m
  ·rw [e i hi]; exact h5 _
  ·rw [List.getElem?_eq_none (by simp; omega)]; simp
 ·obtain ⟨b', off', ha, hb, hc⟩ := h6 (by omega)
  cases ha
  refine ⟨b, off + lo, rfl, hb, fun i hi => ?_⟩
  rw [e i hi, Nat.add_assoc]
  exact hc (lo + i) (by omega)
theorem hiF_acc (zs : List Int) (h : zs.length = 512) : ∀ k, k ≤ 5 → hiF ((zs.drop 1).take k) = acc zs k
 | 0, _ => by simp [hiF, acc]
 | k + 1, hk => by
  rw [hiF_take _ (by simp; omega), hiF_acc zs h k (by omega), acc, List.getElem?_drop, Nat.add_comm 1 k]
  rfl
theorem hiF_root (zs : List Int) (h : zs.length = 512) : hiF ((zs.drop 6).take 2) = zAt zs 6 * 256 + zAt zs 7 := by
 rw [hiF_take _ (by simp; omega), hiF_take _ (by simp; omega), List.getElem?_drop, List.getElem?_drop]
 simp [hiF, zAt]
set_option maxHeartbeats 800000 in
theorem bytesEqual_any (a b : Option Addr) (n m c d : Nat) (xs ys : List Int) (w : World) (hx : Rd w a n c xs) (hy : Rd w b m d ys) :
  Calls Tryz.prog 147 #[.slice a n c, .slice b m d] w fun e w' => e = .returned (.bool (decide (xs = ys))) ∧ w = w' := by
 have h1 := run_str hx
 have h2 := run_str hy
 have b1 := at_byte hx.2.2.2.2.1
 have b2 := at_byte hy.2.2.2.2.1
 by_cases e : xs = ys
 ·subst e
  generalize strOf xs = s at *
  rw [decide_eq_true rfl]
  clear b1 b2 hx hy
  go_enter Tryz.func147, Tryz.ntmps147
  go_wp2
  go_ret
  exact ⟨rfl, rfl⟩
 ·have hne : ((strOf xs).toList == (strOf ys).toList) = false := by
   rw [beq_eq_false_iff_ne]
   exact fun h => e (strOf_eq b1 b2 (str_ext h))
  rw [decide_eq_false e]
  generalize strOf xs = s at *
  generalize strOf ys = t at *
  clear b1 b2 hx hy e
  go_enter Tryz.func147, Tryz.ntmps147
  go_wp2
  go_ret
  exact ⟨rfl, rfl⟩
open Go.RowKit
def Off (w : World) (g b : Nat) : Prop := b < w.heap.size ∧ b ≠ g ∧ ∀ v, w.cell? ⟨g, 0, none⟩ = some v → v.ownBlock ≠ some b
def Kp (g : Nat) (w w' : World) : Prop := ∀ b, Off w g b → w'.heap[b]? = w.heap[b]? ∧ Off w' g b
theorem Kp.refl (g : Nat) (w : World) : Kp g w w := fun _ h => ⟨rfl, h⟩
theorem Kp.trans {g : Nat} {w w1 w2 : World} (h : Kp g w w1) (k : Kp g w1 w2) : Kp g w w2 := fun b hb => ⟨(k b (h b hb).2).1.trans (h b hb).1, (k b (h b hb).2).2⟩
theorem Kp.alloc {g : Nat} {w : World} (hg : g < w.heap.size) (o : Obj) : Kp g w (w.alloc o) := by
 intro b hb
 refine ⟨Below.heap_alloc _ _ _ hb.1, Nat.lt_of_lt_of_le hb.1 (by simp), hb.2.1, fun v hv => hb.2.2 v ?_⟩
 rwa [World.cell?_alloc_past (hn := hg)] at hv
theorem Kp.drew (g : Nat) (w : World) : Kp g w w.drew := fun _ h => ⟨rfl, h⟩
theorem Kp.bk {g : Nat} {w w' : World} (h : Kp g w w') {b : Nat} {T : TypeId} {xs : List Value} (ho : Off w g b) (hk : Bk w b T xs) : Bk w' b T xs := (h b ho).1.trans hk
theorem only_under {G : Nat} {w w' : World} (h : Below G w w') : Only (fun b => G ≤ b) w w' := ⟨h.os, h.tape, h.output, h.size, fun b _ hn => h.block b (by omega)⟩
theorem Wr.off {w : World} {g most : Nat} {st : Option (List Int)} (h : Wr w g most st) (o : Obj) : Off (w.alloc o) g w.heap.size := by
 have hlt := h.lt
 obtain ⟨v, ev, zs, c0, c1, c2, f0, f2, ho, hr⟩ := h
 refine ⟨by simp, by omega, fun u hu e => ?_⟩
 rw [World.cell?_alloc_past (hn := hlt), c0] at hu
 cases hu
 have := (World.ownsRow.lt ho _ e).2
 omega
set_option maxHeartbeats 800000 in
theorem addK_any (g most : Nat) (zs : List Int) (a : Option Addr) (n c : Nat) (ys : List Int) (w : World) (h : Wr w g most (some zs)) (hs : Rd w a n c ys) (hn : n ≤ 1048576) (hcz : a = none → c = 0) (hfit : zs.length + ys.length ≤ most) (hmo : most ≤ 1048576) :
  Calls Tryz.prog 138 #[.pointer (some ⟨g, 0, none⟩), .slice a n c] w fun e w' => e = .returned (.tuple #[]) ∧ Below g w w' ∧ Wr w' g most (some (zs ++ ys)) ∧ Kp g w w' := by
 have HS := hid hs
 have HN : Hid (n = ys.length) := hs.1
 have hyb := at_byte hs.2.2.2.2.1
 have HY := hid hyb
 have hlt := h.lt
 have HCZ := hid hcz
 obtain ⟨v, ev, zs', c0, c1, c2, f0, f2, ho, hl, hm, hb, hst⟩ := h
 rcases hst with ⟨rfl, e⟩ | ⟨_, e⟩
 ·cases e
  obtain ⟨va, vc, hv⟩ := ho.shape
  have HO := hid ho
  have HB := hid hb
  have HV := hid hv
  rw [hv] at c0
  have HC0 := hid c0
  generalize hL : zs.length = L at hv hl c0
  have HL := hid hL
  clear ho hb hs hyb hL hv hcz
  have hbig : ¬ (most : Int) - (L : Int) < (n : Int) := by have := HL.out; have := HN.out; omega
  have HO' : Hid (Ob w (g + 1) (.slice va L vc) zs) := by show Ob w (g + 1) (.slice va L vc) zs; rw [← HL.out, ← HV.out]; exact HO.out
  have HFT : Hid (zs.length + ys.length ≤ most) := hfit
  clear hfit
  go_enter Tryz.func138, Tryz.ntmps138
  go_wp2
  go_quiet (fail)
  go_wp2_with (at_builtin; refine wpList_append_by rfl _ _ rfl (g + 1) _ zs rfl (HO'.out.drewN nq) a n c ys rfl (HS.out.drewN nq) ?b ?m ?base HCZ.out ?_)
  case b => rw [HL.out]; omega
  case m => omega
  case base => simp; omega
  intro a2 L2 k2 w2 hown2 hg2 hwh
  have hb2 : Below (g + 1) w w2 := Ob.below (HO'.out.drewN nq) (Below.drewN' (Below.refl _ _) nq) (by simp; omega) hg2
  have HO2 := hid hown2
  have HG2 := hid hg2
  have HWH := hid hwh
  have d0 := (hb2.cell (p := ⟨g, 0, none⟩) (by simp)).trans c0
  have d1 := (hb2.cell (p := ⟨g, 1, none⟩) (by simp)).trans c1
  have d2 := (hb2.cell (p := ⟨g, 2, none⟩) (by simp)).trans c2
  have e0 := (hb2.frozen (p := ⟨g, 0, none⟩) (by simp)).trans f0
  have e2 := (hb2.frozen (p := ⟨g, 2, none⟩) (by simp)).trans f2
  clear hown2 hg2 hwh
  go_wp2
  go_end0
  refine ⟨rfl, Below.setCell (p := ⟨g, 0, none⟩) (hb2.mono (Nat.le_succ g)) (Nat.le_refl g) _, ?_, ?_⟩
  ·refine ⟨.slice a2 L2 k2, .nilIface, zs ++ ys, World.cell?_setCell_same _ _ _ d0, ?_, ?_, by simpa using e0, by simpa using e2, ?_, ?_, hm, byte_append HB.out HY.out, .inl ⟨rfl, rfl⟩⟩
   ·rw [World.cell?_setCell_other (h := by simp)]; exact d1
   ·rw [World.cell?_setCell_other (h := by simp)]; exact d2
   ·exact ownsRow_setCell_below HO2.out (by simp) _
   ·rw [List.length_append]; exact HFT.out
  ·intro b hoff
   have hrow : (Value.slice va L vc).ownBlock ≠ some b := hoff.2.2 _ c0
   have hbk : w2.heap[b]? = w.heap[b]? := HG2.out.block b hoff.1 (fun e => hrow e.symm)
   refine ⟨?_, ?_, hoff.2.1, ?_⟩
   ·rw [← hbk]
    exact Below.heap_setCell _ _ _ _ (fun e => hoff.2.1 e)
   ·have := HG2.out.size
    have h1 := hoff.1
    show b < (w2.setCell _ _).heap.size
    simp [World.setCell]
    exact Nat.lt_of_lt_of_le h1 this
   ·intro u hu e
    rw [World.cell?_setCell_same _ _ _ d0] at hu
    cases hu
    rcases HWH.out with h1 | h1
    ·exact hrow (h1 ▸ e)
    ·rw [h1] at e
     have h2 := hoff.1
     have h3 : w.heap.size = b := Option.some.inj e
     omega
 ·cases e
set_option maxHeartbeats 400000 in
theorem addByteK_any (g most : Nat) (zs : List Int) (z : Int) (w : World) (h : Wr w g most (some zs)) (h0 : 0 ≤ z) (h1 : z ≤ 255) (hfit : zs.length + 1 ≤ most) (hmo : most ≤ 1048576) :
  Calls Tryz.prog 137 #[.pointer (some ⟨g, 0, none⟩), .int .u8 z] w fun e w' => e = .returned (.tuple #[]) ∧ Below g w w' ∧ Wr w' g most (some (zs ++ [z])) ∧ Kp g w w' := by
 have hlt := h.lt
 have HW := hid h
 clear h
 have hb1 : Below g w (w.alloc (.cells #[.int .u8 z] 5)) := (Below.refl _ _).alloc (Nat.le_of_lt hlt) _
 have HB := hid hb1
 have HK := hid (Kp.alloc hlt (.cells #[.int .u8 z] 5))
 clear hb1
 go_enter Tryz.func137, Tryz.ntmps137
 go_wp2_with (go_at_call 138; refine (addK_any g most zs _ 1 1 [z] _ (HW.out.alloc _) (rd_one w z h0 h1) (by omega) (fun e => by cases e) (by simpa using hfit) hmo).mono ?_; rintro e w1 ⟨rfl, hb, hw, hk⟩)
 go_end0
 exact ⟨rfl, HB.out.trans hb, hw, HK.out.trans hk⟩
set_option maxHeartbeats 800000 in
theorem numberK_any (g most : Nat) (zs : List Int) (m : Int) (w : World) (h : Wr w g most (some zs)) (h0 : 0 ≤ m) (h1 : m ≤ 1099511627775) (hfit : zs.length + (enc m).length ≤ most) (hmo : most ≤ 1048576) :
  Calls Tryz.prog 190 #[.pointer (some ⟨g, 0, none⟩), .int .i64 m] w fun e w' => e = .returned (.tuple #[]) ∧ Below g w w' ∧ Wr w' g most (some (zs ++ enc m)) ∧ Kp g w w' := by
 have HW := hid h
 have HFT := hid hfit
 clear h hfit
 go_enter Tryz.func190, Tryz.ntmps190
 go_wp2_with (go_at_call 199; refine (isNumber_any m _ true (by simp [h0, h1])).mono ?_; rintro e w' ⟨rfl, rfl⟩)
 go_loopw [1] (fun i wr => ∃ (f : Nat) (q : Int) (ds : List Int), i = .int .i64 q ∧ 0 ≤ q ∧ q ≤ 1099511627775 ∧ q < bnd f ∧ ds ++ encF f q = enc m ∧ Wr wr g most (some (zs ++ ds)) ∧ Below g w wr ∧ Kp g w wr) (fun i _ => (intOf i).toNat)
 case atStart => exact ⟨6, m, [], rfl, h0, h1, by simp [bnd]; omega, rfl, by rw [List.append_nil]; exact HW.out, Below.refl _ _, Kp.refl _ _⟩
 case round =>
  obtain ⟨f, q, ds, rfl, hq0, hq1, hqb, hds, hwr, hbel, hkp⟩ := hrel
  have HD := hid hds
  have HQ := hid hqb
  have HR := hid hwr
  have HKP := hid hkp
  have HLN : Hid (zs.length + (ds.length + 1) ≤ most) := by
   have h2 := HFT.out
   rw [← hds, List.length_append] at h2
   have h3 := encF_len f q
   show _ ≤ _
   omega
  clear hds hqb hwr hkp
  by_cases hge : 128 ≤ q
  ·obtain ⟨f', hf'⟩ : ∃ f', f = f' + 1 := by
    cases f with
    | zero => have := HQ.out; simp [bnd] at this; omega
    | succ f => exact ⟨f, rfl⟩
   subst hf'
   have HD2 : Hid (ds ++ [q % 128 + 128] ++ encF f' (q / 128) = enc m) := by
    show ds ++ [q % 128 + 128] ++ encF f' (q / 128) = enc m
    rw [← HD.out, encF_big f' q hge, Int.add_comm]; simp
   have HQ2 : Hid (q / 128 < bnd f') := bnd_down f' q HQ.out
   go_wp2_with (go_at_call 137; refine (addByteK_any g most (zs ++ ds) (q % 128 + 128) _ HR.out (by omega) (by omega) (by rw [List.length_append]; have := HLN.out; omega) hmo).mono ?_; rintro e w2 ⟨rfl, hb2, hw2, hk2⟩)
   go_roundw
   case rel => exact ⟨f', q / 128, ds ++ [q % 128 + 128], rfl, by omega, by omega, HQ2.out, HD2.out, by rw [← List.append_assoc]; exact hw2, hbel.trans hb2, HKP.out.trans hk2⟩
   case measure => simp [intOf]; omega
  ·have HE3 : Hid (ds ++ [q] = enc m) := by
    show ds ++ [q] = enc m
    rw [← HD.out, encF_small f q (by omega)]
   go_wp2_with (go_at_call 137; refine (addByteK_any g most (zs ++ ds) q _ HR.out (by omega) (by omega) (by rw [List.length_append]; have := HLN.out; omega) hmo).mono ?_; rintro e w2 ⟨rfl, hb2, hw2, hk2⟩)
   go_end0
   exact ⟨rfl, hbel.trans hb2, by rw [← HE3.out, ← List.append_assoc]; exact hw2, HKP.out.trans hk2⟩
set_option maxHeartbeats 400000 in
theorem textK_any (g most : Nat) (zs : List Int) (s : ByteArray) (w : World) (h : Wr w g most (some zs)) (hs : s.size ≤ 1048576) (hfit : zs.length + ((enc s.size).length + s.size) ≤ most) (hmo : most ≤ 1048576) :
  Calls Tryz.prog 191 #[.pointer (some ⟨g, 0, none⟩), .string s] w fun e w' => e = .returned (.tuple #[]) ∧ Below g w w' ∧ Wr w' g most (some (zs ++ (enc s.size ++ bytesOf s))) ∧ Kp g w w' := by
 have hlt := h.lt
 have HW := hid h
 have HFT := hid hfit
 clear h hfit
 have hcv := fun w => run_bytes_of_string (P := Tryz.prog) w 9 89 5 s Tryz.underlying9 Tryz.underlying89 Tryz.underlying5
 go_enter Tryz.func191, Tryz.ntmps191
 go_wp2_with (go_at_call 190; refine (numberK_any g most zs s.size w HW.out (by omega) (by omega) (by have := HFT.out; omega) hmo).mono ?_; rintro e w1 ⟨rfl, hb1, hw1, hk1⟩)
 have HW1 := hid hw1
 have HB1 := hid hb1
 have HK1 := hid hk1
 clear hw1 hb1 hk1
 have hlt1 : g ≤ w1.heap.size := Nat.le_of_lt HW1.out.lt
 have hlt2 := HW1.out.lt
 refine (addK_any g most (zs ++ enc s.size) _ s.size _ (bytesOf s) _ ?gw ?gs (by omega) (fun e => by cases e) (by rw [List.length_append, bytesOf_len]; have := HFT.out; omega) hmo).mono ?_
 case gw => exact HW1.out.alloc _
 case gs => exact rd_conv _ s _ _ (by omega) (grownCap_ge _ _ _ _) (by have := grownCap_le_maxLen w1 s.size 0 5 (by unfold maxLen; omega); unfold maxLen at this; omega)
 rintro e w2 ⟨rfl, hb2, hw2, hk2⟩
 have HB2 := hid hb2
 have HW2 := hid hw2
 have HK2 := hid hk2
 clear hb2 hw2 hk2
 go_wp2
 go_end0
 refine ⟨rfl, HB1.out.trans (((Below.refl g w1).alloc hlt1 _).drew.trans HB2.out), by rw [← List.append_assoc]; exact HW2.out, HK1.out.trans ?_⟩
 exact Kp.trans (Kp.trans (Kp.alloc hlt2 _) (Kp.drew _ _)) HK2.out
open Go.RowKit
set_option maxHeartbeats 800000 in
theorem leafFn_any (s : ByteArray) (w : World) : Calls Tryz.prog 196 #[.string s] w fun e w' => e = .returned (.bool (!vOk s)) ∧ w = w' := by
 have hnot : ∀ (x : Bool) (w : World), (Op.unary .not (.bool x)).run Tryz.prog w = .ok (.bool (!x)) w := fun _ _ => rfl
 go_enter Tryz.func196, Tryz.ntmps196
 go_wp2_with fail
 refine (implValOk_any s _).mono ?_
 rintro e w1 ⟨rfl, rfl⟩
 go_wp2
 go_ret
 exact ⟨rfl, rfl⟩
set_option maxHeartbeats 2000000 in
theorem idxS_any (S : Nat → Prop) (a : Option Addr) (n c : Nat) (ss : List ByteArray) (w : World) (h : Sr w S (.slice a n c) ss) :
  Calls Tryz.prog 200 #[.slice a n c, .func (.func 196) #[] #[]] w fun e w' => (∃ x : Int, e = .returned (.int .i64 x) ∧ decide (0 ≤ x) = !(ss.all vOk) ∧ -1 ≤ x ∧ x ≤ 9223372036854775807) ∧ w = w' := by
 have HN := hid (Rw.len h).1
 have bk := (Rw.len h).2
 have H0 := hid h
 clear h
 go_enter Tryz.func200, Tryz.ntmps200
 go_wp2_with fail
 go_loopw [8] (fun i v => ∃ k : Nat, k ≤ n ∧ i = .int .i64 k ∧ v = w ∧ Hid ((ss.take k).all vOk = true)) (fun i _ => n - (intOf i).toNat)
 case atStart => exact ⟨0, Nat.zero_le _, rfl, rfl, rfl⟩
 case round =>
  obtain ⟨m, hm, rfl, rfl, HT⟩ := hrel
  by_cases hlt : m < n
  ·have hlt' : (m : Int) < (n : Int) := by omega
   have hml : m < ss.length := by rw [← HN.out]; exact hlt
   obtain ⟨b, off, ha, -, -, hcell⟩ := H0.out.at (by omega)
   have hcm := hcell m hlt
   clear hcell
   subst ha
   generalize hcur : sAt ss m = cur at hcm
   have HC : Hid (ss[m]?.getD ⟨#[]⟩ = cur) := hcur
   clear hcur
   go_wp2_with fail
   refine (leafFn_any cur _).mono ?_
   rintro e w1 ⟨rfl, rfl⟩
   cases h1 : vOk cur
   ·have HZ : Hid (ss.all vOk = false) := all_no _ _ ⟨#[]⟩ hml (by rw [HC.out]; exact h1)
    go_wp2
    go_ret
    exact ⟨⟨_, rfl, by rw [HZ.out]; simp, by omega, by omega⟩, rfl⟩
   ·have HT2 : Hid ((ss.take (m + 1)).all vOk = true) := by
     show _ = true
     rw [all_take _ _ ⟨#[]⟩ hml, HT.out, HC.out, h1]; rfl
    go_wp2
    go_roundw
    case rel => exact ⟨m + 1, by omega, by go_num, by trivial, HT2⟩
    case measure => simp [intOf]; omega
  ·have HA : Hid (ss.all vOk = true) := by
    have := HT.out
    rwa [List.take_of_length_le (by rw [← HN.out]; omega)] at this
   go_wp2
   go_ret
   exact ⟨⟨_, rfl, by rw [HA.out]; decide, by omega, by omega⟩, rfl⟩
set_option maxHeartbeats 800000 in
theorem hasS_any (S : Nat → Prop) (a : Option Addr) (n c : Nat) (ss : List ByteArray) (w : World) (h : Sr w S (.slice a n c) ss) :
  Calls Tryz.prog 195 #[.slice a n c, .func (.func 196) #[] #[]] w fun e w' => e = .returned (.bool (!(ss.all vOk))) ∧ w = w' := by
 have H0 := hid h
 clear h
 go_enter Tryz.func195, Tryz.ntmps195
 go_wp2_with fail
 refine (idxS_any S a n c ss _ H0.out).mono ?_
 rintro e w1 ⟨⟨x, rfl, hx, h0, h1⟩, rfl⟩
 have HX := hid hx
 clear hx
 go_wp2
 go_ret
 exact ⟨by rw [← HX.out]; rfl, rfl⟩
set_option maxHeartbeats 800000 in
theorem branchFn_any (k : Int) (w : World) : Calls Tryz.prog 198 #[.int .i64 k] w fun e w' => e = .returned (.bool (!kidOk k)) ∧ w = w' := by
 have hnot : ∀ (x : Bool) (w : World), (Op.unary .not (.bool x)).run Tryz.prog w = .ok (.bool (!x)) w := fun _ _ => rfl
 have HK : Hid (kidOk k = decide (2 ≤ k ∧ k < 400)) := by
  show _ = _
  rw [kidOk]
  by_cases h1 : 2 ≤ k <;> by_cases h2 : k < 400 <;> simp [h1, h2]
 go_enter Tryz.func198, Tryz.ntmps198
 go_wp2_with fail
 refine (isPlace_any k _ (kidOk k) HK.out).mono ?_
 rintro e w1 ⟨rfl, rfl⟩
 go_wp2
 go_ret
 exact ⟨rfl, rfl⟩
set_option maxHeartbeats 2000000 in
theorem idxI_any (S : Nat → Prop) (a : Option Addr) (n c : Nat) (ss : List Int) (w : World) (h : Ir w S (.slice a n c) ss) :
  Calls Tryz.prog 201 #[.slice a n c, .func (.func 198) #[] #[]] w fun e w' => (∃ x : Int, e = .returned (.int .i64 x) ∧ decide (0 ≤ x) = !(ss.all kidOk) ∧ -1 ≤ x ∧ x ≤ 9223372036854775807) ∧ w = w' := by
 have HN := hid (Rw.len h).1
 have bk := (Rw.len h).2
 have H0 := hid h
 clear h
 go_enter Tryz.func201, Tryz.ntmps201
 go_wp2_with fail
 go_loopw [8] (fun i v => ∃ k : Nat, k ≤ n ∧ i = .int .i64 k ∧ v = w ∧ Hid ((ss.take k).all kidOk = true)) (fun i _ => n - (intOf i).toNat)
 case atStart => exact ⟨0, Nat.zero_le _, rfl, rfl, rfl⟩
 case round =>
  obtain ⟨m, hm, rfl, rfl, HT⟩ := hrel
  by_cases hlt : m < n
  ·have hlt' : (m : Int) < (n : Int) := by omega
   have hml : m < ss.length := by rw [← HN.out]; exact hlt
   obtain ⟨b, off, ha, -, -, hcell⟩ := H0.out.at (by omega)
   have hcm := hcell m hlt
   clear hcell
   subst ha
   generalize hcur : iAt ss m = cur at hcm
   have HC : Hid (ss[m]?.getD 0 = cur) := hcur
   clear hcur
   go_wp2_with fail
   refine (branchFn_any cur _).mono ?_
   rintro e w1 ⟨rfl, rfl⟩
   cases h1 : kidOk cur
   ·have HZ : Hid (ss.all kidOk = false) := all_no _ _ 0 hml (by rw [HC.out]; exact h1)
    go_wp2
    go_ret
    exact ⟨⟨_, rfl, by rw [HZ.out]; simp, by omega, by omega⟩, rfl⟩
   ·have HT2 : Hid ((ss.take (m + 1)).all kidOk = true) := by
     show _ = true
     rw [all_take _ _ 0 hml, HT.out, HC.out, h1]; rfl
    go_wp2
    go_roundw
    case rel => exact ⟨m + 1, by omega, by go_num, by trivial, HT2⟩
    case measure => simp [intOf]; omega
  ·have HA : Hid (ss.all kidOk = true) := by
    have := HT.out
    rwa [List.take_of_length_le (by rw [← HN.out]; omega)] at this
   go_wp2
   go_ret
   exact ⟨⟨_, rfl, by rw [HA.out]; decide, by omega, by omega⟩, rfl⟩
set_option maxHeartbeats 800000 in
theorem hasI_any (S : Nat → Prop) (a : Option Addr) (n c : Nat) (ss : List Int) (w : World) (h : Ir w S (.slice a n c) ss) :
  Calls Tryz.prog 197 #[.slice a n c, .func (.func 198) #[] #[]] w fun e w' => e = .returned (.bool (!(ss.all kidOk))) ∧ w = w' := by
 have H0 := hid h
 clear h
 go_enter Tryz.func197, Tryz.ntmps197
 go_wp2_with fail
 refine (idxI_any S a n c ss _ H0.out).mono ?_
 rintro e w1 ⟨⟨x, rfl, hx, h0, h1⟩, rfl⟩
 have HX := hid hx
 clear hx
 go_wp2
 go_ret
 exact ⟨by rw [← HX.out]; rfl, rfl⟩
def lfOk (p : PG) : Bool := decide (1 ≤ p.keys.length ∧ p.keys.length ≤ 4 ∧ p.vals.length = p.keys.length) && (sOkF p.keys p.keys.length 0 && p.vals.all vOk)
def bchOk (p : PG) : Bool := decide (2 ≤ p.kids.length ∧ p.kids.length ≤ 4 ∧ p.keys.length + 1 = p.kids.length ∧ p.vals.length = 0) && (sOkF p.keys p.keys.length 0 && p.kids.all kidOk)
theorem pgOk_lf {p : PG} (h : p.kids.length = 0) : pgOk p = lfOk p := by
 rw [pgOk, if_pos h, pgLeaf, lfOk]
 generalize sOkF p.keys p.keys.length 0 = x
 generalize p.vals.all vOk = y
 by_cases h1 : 1 ≤ p.keys.length <;> by_cases h2 : p.keys.length ≤ 4 <;> by_cases h3 : p.vals.length = p.keys.length <;> simp [h1, h2, h3]
theorem pgOk_br {p : PG} (h : ¬ p.kids.length = 0) : pgOk p = bchOk p := by
 rw [pgOk, if_neg h, pgBranch, bchOk]
 generalize sOkF p.keys p.keys.length 0 = x
 generalize p.kids.all kidOk = y
 by_cases h1 : 2 ≤ p.kids.length <;> by_cases h2 : p.kids.length ≤ 4 <;> by_cases h3 : p.keys.length + 1 = p.kids.length <;> by_cases h4 : p.vals.length = 0 <;> simp [h1, h2, h3, h4]
theorem lfOk_no {p : PG} (h : ¬ (1 ≤ p.keys.length ∧ p.keys.length ≤ 4 ∧ p.vals.length = p.keys.length)) : lfOk p = false := by rw [lfOk, decide_eq_false h]; rfl
theorem lfOk_yes {p : PG} (h : 1 ≤ p.keys.length ∧ p.keys.length ≤ 4 ∧ p.vals.length = p.keys.length) : lfOk p = (sOkF p.keys p.keys.length 0 && p.vals.all vOk) := by rw [lfOk, decide_eq_true h]; rfl
theorem bchOk_no {p : PG} (h : ¬ (2 ≤ p.kids.length ∧ p.kids.length ≤ 4 ∧ p.keys.length + 1 = p.kids.length ∧ p.vals.length = 0)) : bchOk p = false := by rw [bchOk, decide_eq_false h]; rfl
theorem bchOk_yes {p : PG} (h : 2 ≤ p.kids.length ∧ p.kids.length ≤ 4 ∧ p.keys.length + 1 = p.kids.length ∧ p.vals.length = 0) : bchOk p = (sOkF p.keys p.keys.length 0 && p.kids.all kidOk) := by rw [bchOk, decide_eq_true h]; rfl
theorem Sr.rise {w : World} {S : Nat → Prop} {a : Option Addr} {n c : Nat} {ss : List ByteArray} (h : Sr w S (.slice a n c) ss) (hp : 0 < n) : ∃ b off, a = some ⟨b, off, none⟩ ∧ ∀ i, i < n → w.cell? ⟨b, off + i, none⟩ = some (.string (ss[i]?.getD ⟨#[]⟩)) := by
 obtain ⟨b, off, ha, -, -, hc⟩ := h.at hp
 exact ⟨b, off, ha, hc⟩
set_option maxHeartbeats 4000000 in
theorem leafOk_any (S : Nat → Prop) (ka : Option Addr) (kn kc : Nat) (va : Option Addr) (vn vc : Nat) (ia : Option Addr) (jn ic : Nat) (p : PG) (w : World) (h : Pgr w S ka kn kc va vn vc ia jn ic p) :
  Calls Tryz.prog 188 #[.agg #[.slice ka kn kc, .slice va vn vc, .slice ia jn ic]] w fun e w' => e = .returned (.bool (lfOk p)) ∧ Below w.heap.size w w' := by
 have hb0 := below_new (o := .cells #[.slice ka kn kc, .slice va vn vc, .slice ia jn ic] 107) (w := w) (Below.refl _ _)
 have P0 := hid (h.below hb0)
 have HB := hid hb0
 have HNK := hid (Rw.len h.hk).1
 have HNV := hid (Rw.len h.hv).1
 have bk := (Rw.len h.hk).2
 have bv := (Rw.len h.hv).2
 have HNO : Hid (¬ (1 ≤ kn ∧ kn ≤ 4 ∧ vn = kn) → lfOk p = false) := fun h => lfOk_no (by rw [← HNK.out, ← HNV.out]; exact h)
 have HYES : Hid ((1 ≤ kn ∧ kn ≤ 4 ∧ vn = kn) → lfOk p = (sOkF p.keys kn 0 && p.vals.all vOk)) := fun h => by rw [lfOk_yes (by rw [← HNK.out, ← HNV.out]; exact h), ← HNK.out]
 clear h hb0
 by_cases q1 : kn = 0
 ·have HF := hid (HNO.out (by omega))
  subst q1
  clear HNO HYES
  go_enter Tryz.func188, Tryz.ntmps188
  go_wp2
  go_ret
  exact ⟨by rw [HF.out]; rfl, HB.out⟩
 ·have q1' : ((kn : Int) == 0) = false := by simp; omega
  have q1'' : ¬ (kn : Int) = 0 := by omega
  by_cases q2 : 4 < kn
  ·have HF := hid (HNO.out (by omega))
   have q2' : (4 : Int) < (kn : Int) := by omega
   clear HNO HYES
   go_enter Tryz.func188, Tryz.ntmps188
   go_wp2
   go_ret
   exact ⟨by rw [HF.out]; rfl, HB.out⟩
  ·have q2' : ¬ (4 : Int) < (kn : Int) := by omega
   by_cases q3 : vn = kn
   ·subst q3
    have HF := hid (HYES.out ⟨by omega, by omega, rfl⟩)
    have q3' : ((vn : Int) != (vn : Int)) = false := by simp
    clear HNO HYES
    go_enter Tryz.func188, Tryz.ntmps188
    go_wp2_with fail
    refine (implKeysRise_any ka vn kc p.keys _ HNK.out (by omega) (by omega) (fun hp => P0.out.hk.rise hp)).mono ?_
    rintro e w1 ⟨rfl, rfl⟩
    obtain ⟨Z, hZ⟩ : ∃ Z, sOkF p.keys vn 0 = Z := ⟨_, rfl⟩
    rw [hZ]
    have HZ := hid hZ
    clear hZ
    cases Z
    ·go_wp2
     go_ret
     exact ⟨by rw [HF.out, HZ.out]; rfl, HB.out⟩
    ·go_wp2_with fail
     refine (hasS_any S va vn vc p.vals _ P0.out.hv).mono ?_
     rintro e w1 ⟨rfl, rfl⟩
     obtain ⟨Y, hY⟩ : ∃ Y, p.vals.all vOk = Y := ⟨_, rfl⟩
     rw [hY]
     have HY := hid hY
     clear hY
     cases Y
     ·go_wp2
      go_ret
      exact ⟨by rw [HF.out, HZ.out, HY.out]; rfl, HB.out⟩
     ·go_wp2
      go_ret
      exact ⟨by rw [HF.out, HZ.out, HY.out]; rfl, HB.out⟩
   ·have HF := hid (HNO.out (by omega))
    have q3' : ((vn : Int) != (kn : Int)) = true := by simp; omega
    clear HNO HYES
    go_enter Tryz.func188, Tryz.ntmps188
    go_wp2
    go_ret
    exact ⟨by rw [HF.out]; rfl, HB.out⟩
set_option maxHeartbeats 4000000 in
theorem branchOk_any (S : Nat → Prop) (ka : Option Addr) (kn kc : Nat) (va : Option Addr) (vn vc : Nat) (ia : Option Addr) (jn ic : Nat) (p : PG) (w : World) (h : Pgr w S ka kn kc va vn vc ia jn ic p) :
  Calls Tryz.prog 189 #[.agg #[.slice ka kn kc, .slice va vn vc, .slice ia jn ic]] w fun e w' => e = .returned (.bool (bchOk p)) ∧ Below w.heap.size w w' := by
 have hb0 := below_new (o := .cells #[.slice ka kn kc, .slice va vn vc, .slice ia jn ic] 107) (w := w) (Below.refl _ _)
 have P0 := hid (h.below hb0)
 have HB := hid hb0
 have HNK := hid (Rw.len h.hk).1
 have HNV := hid (Rw.len h.hv).1
 have HNI := hid (Rw.len h.hi).1
 have bk := (Rw.len h.hk).2
 have bv := (Rw.len h.hv).2
 have bi := (Rw.len h.hi).2
 have HNO : Hid (¬ (2 ≤ jn ∧ jn ≤ 4 ∧ kn + 1 = jn ∧ vn = 0) → bchOk p = false) := fun h => bchOk_no (by rw [← HNK.out, ← HNV.out, ← HNI.out]; exact h)
 have HYES : Hid ((2 ≤ jn ∧ jn ≤ 4 ∧ kn + 1 = jn ∧ vn = 0) → bchOk p = (sOkF p.keys kn 0 && p.kids.all kidOk)) := fun h => by rw [bchOk_yes (by rw [← HNK.out, ← HNV.out, ← HNI.out]; exact h), ← HNK.out]
 clear h hb0
 by_cases q1 : jn < 2
 ·have HF := hid (HNO.out (by omega))
  have q1' : (jn : Int) < 2 := by omega
  clear HNO HYES
  go_enter Tryz.func189, Tryz.ntmps189
  go_wp2
  go_ret
  exact ⟨by rw [HF.out]; rfl, HB.out⟩
 ·have q1' : ¬ (jn : Int) < 2 := by omega
  by_cases q2 : 4 < jn
  ·have HF := hid (HNO.out (by omega))
   have q2' : (4 : Int) < (jn : Int) := by omega
   clear HNO HYES
   go_enter Tryz.func189, Tryz.ntmps189
   go_wp2
   go_ret
   exact ⟨by rw [HF.out]; rfl, HB.out⟩
  ·have q2' : ¬ (4 : Int) < (jn : Int) := by omega
   by_cases q3 : kn + 1 = jn
   ·have q3' : ((kn : Int) != (jn : Int) - 1) = false := by simp; omega
    by_cases q4 : vn = 0
    ·have HF := hid (HYES.out ⟨by omega, by omega, q3, q4⟩)
     subst q4
     clear HNO HYES
     go_enter Tryz.func189, Tryz.ntmps189
     go_wp2_with fail
     refine (implKeysRise_any ka kn kc p.keys _ HNK.out (by omega) (by omega) (fun hp => P0.out.hk.rise hp)).mono ?_
     rintro e w1 ⟨rfl, rfl⟩
     obtain ⟨Z, hZ⟩ : ∃ Z, sOkF p.keys kn 0 = Z := ⟨_, rfl⟩
     rw [hZ]
     have HZ := hid hZ
     clear hZ
     cases Z
     ·go_wp2
      go_ret
      exact ⟨by rw [HF.out, HZ.out]; rfl, HB.out⟩
     ·go_wp2_with fail
      refine (hasI_any S ia jn ic p.kids _ P0.out.hi).mono ?_
      rintro e w1 ⟨rfl, rfl⟩
      obtain ⟨Y, hY⟩ : ∃ Y, p.kids.all kidOk = Y := ⟨_, rfl⟩
      rw [hY]
      have HY := hid hY
      clear hY
      cases Y
      ·go_wp2
       go_ret
       exact ⟨by rw [HF.out, HZ.out, HY.out]; rfl, HB.out⟩
      ·go_wp2
       go_ret
       exact ⟨by rw [HF.out, HZ.out, HY.out]; rfl, HB.out⟩
    ·have HF := hid (HNO.out (by omega))
     have q4' : ((vn : Int) != 0) = true := by simp; omega
     clear HNO HYES
     go_enter Tryz.func189, Tryz.ntmps189
     go_wp2
     go_ret
     exact ⟨by rw [HF.out]; rfl, HB.out⟩
   ·have HF := hid (HNO.out (by omega))
    have q3' : ((kn : Int) != (jn : Int) - 1) = true := by simp; omega
    clear HNO HYES
    go_enter Tryz.func189, Tryz.ntmps189
    go_wp2
    go_ret
    exact ⟨by rw [HF.out]; rfl, HB.out⟩
set_option maxHeartbeats 2000000 in
theorem implPageOk_any (S : Nat → Prop) (ka : Option Addr) (kn kc : Nat) (va : Option Addr) (vn vc : Nat) (ia : Option Addr) (jn ic : Nat) (p : PG) (w : World) (h : Pgr w S ka kn kc va vn vc ia jn ic p) :
  Calls Tryz.prog 180 #[.agg #[.slice ka kn kc, .slice va vn vc, .slice ia jn ic]] w fun e w' => e = .returned (.bool (pgOk p)) ∧ Below w.heap.size w w' := by
 have hb0 := below_new (o := .cells #[.slice ka kn kc, .slice va vn vc, .slice ia jn ic] 107) (w := w) (Below.refl _ _)
 have P0 := hid (h.below hb0)
 have HB := hid hb0
 have HNI := hid (Rw.len h.hi).1
 have bi := (Rw.len h.hi).2
 clear h hb0
 by_cases q1 : jn = 0
 ·have HE := hid (pgOk_lf (p := p) (by rw [← HNI.out]; exact q1))
  subst q1
  go_enter Tryz.func180, Tryz.ntmps180
  go_wp2_with fail
  refine (leafOk_any S ka kn kc va vn vc ia 0 ic p _ P0.out).mono ?_
  rintro e w1 ⟨rfl, hb1⟩
  have HB1 := hid (btw HB.out hb1)
  clear hb1
  go_wp2
  go_ret
  exact ⟨by rw [HE.out]; rfl, HB1.out⟩
 ·have HE := hid (pgOk_br (p := p) (by rw [← HNI.out]; exact q1))
  have q1' : ((jn : Int) == 0) = false := by simp; omega
  have q1'' : ¬ (jn : Int) = 0 := by omega
  go_enter Tryz.func180, Tryz.ntmps180
  go_wp2_with fail
  refine (branchOk_any S ka kn kc va vn vc ia jn ic p _ P0.out).mono ?_
  rintro e w1 ⟨rfl, hb1⟩
  have HB1 := hid (btw HB.out hb1)
  clear hb1
  go_wp2
  go_ret
  exact ⟨by rw [HE.out]; rfl, HB1.out⟩
open Go.RowKit
structure Wl (w v : World) (G b0 : Nat) (ka : Option Addr) (kn kc : Nat) (va : Option Addr) (vn vc : Nat) (ia : Option Addr) (jn ic : Nat) (p : PG) (zs : List Int) : Prop where
 be : Below G w v
 wr : Wr v G 512 (some zs)
 bk : Bk v b0 107 [.slice ka kn kc, .slice va vn vc, .slice ia jn ic]
 off : Off v G b0
 pg : Pgr v (fun b => b < G) ka kn kc va vn vc ia jn ic p
theorem Wl.step {w v v' : World} {G b0 : Nat} {ka : Option Addr} {kn kc : Nat} {va : Option Addr} {vn vc : Nat} {ia : Option Addr} {jn ic : Nat} {p : PG} {zs zs' : List Int} (h : Wl w v G b0 ka kn kc va vn vc ia jn ic p zs) (hb : Below G v v') (hw : Wr v' G 512 (some zs')) (hk : Kp G v v') : Wl w v' G b0 ka kn kc va vn vc ia jn ic p zs' :=
 ⟨h.be.trans hb, hw, hk.bk h.off h.bk, (hk b0 h.off).2, h.pg.to (only_under hb) (fun b h1 _ h2 => by omega)⟩
theorem Wl.cells {w v : World} {G b0 : Nat} {ka : Option Addr} {kn kc : Nat} {va : Option Addr} {vn vc : Nat} {ia : Option Addr} {jn ic : Nat} {p : PG} {zs : List Int} (h : Wl w v G b0 ka kn kc va vn vc ia jn ic p zs) : v.cell? ⟨b0, 0, none⟩ = some (.slice ka kn kc) ∧ v.cell? ⟨b0, 1, none⟩ = some (.slice va vn vc) ∧ v.cell? ⟨b0, 2, none⟩ = some (.slice ia jn ic) := ⟨h.bk.cell (j := 0) rfl, h.bk.cell (j := 1) rfl, h.bk.cell (j := 2) rfl⟩
theorem Wl.start {w : World} {G : Nat} {ka : Option Addr} {kn kc : Nat} {va : Option Addr} {vn vc : Nat} {ia : Option Addr} {jn ic : Nat} {p : PG} (hw : Wr w G 512 (some [])) (h : Pgr w (fun b => b < G) ka kn kc va vn vc ia jn ic p) : Wl w (w.alloc (.cells #[.slice ka kn kc, .slice va vn vc, .slice ia jn ic] 107)) G w.heap.size ka kn kc va vn vc ia jn ic p [] :=
 ⟨(Below.refl _ _).alloc (Nat.le_of_lt hw.lt) _, hw.alloc _, Bk.new w _ [_, _, _], hw.off _, h.below (below_new (Below.refl _ _))⟩
theorem pgBody_room {p : PG} (hF : PgF p) {j : Nat} (hj : j < p.keys.length) : (pgBody p j).length + (pgPart p j).length ≤ 500 := by
 have h1 := pgBody_len hF j (by omega)
 have h2 := pgPart_len hF hj
 have h3 := hF.nk
 omega
set_option maxHeartbeats 4000000 in
set_option maxRecDepth 20000 in
theorem writeLeaf_any (G : Nat) (ka : Option Addr) (kn kc : Nat) (va : Option Addr) (vn vc : Nat) (ia : Option Addr) (jn ic : Nat) (p : PG) (w : World) (hw : Wr w G 512 (some [])) (h : Pgr w (fun b => b < G) ka kn kc va vn vc ia jn ic p) (hF : PgF p) (h0 : p.kids.length = 0) :
  Calls Tryz.prog 181 #[.pointer (some ⟨G, 0, none⟩), .agg #[.slice ka kn kc, .slice va vn vc, .slice ia jn ic]] w fun e w' => e = .returned (.tuple #[]) ∧ Below G w w' ∧ Wr w' G 512 (some (pgRaw p)) := by
 have L0 := hid (Wl.start hw h)
 have NK := hid (Rw.len h.hk).1
 have NV := hid (Rw.len h.hv).1
 have bk := (Rw.len h.hk).2
 have bv := (Rw.len h.hv).2
 have HF := hid hF
 have HVK : Hid (vn = kn) := by show _ = _; rw [NV.out, NK.out]; exact (hF.lf h0).1
 have HVS := hid (hF.lf h0).2
 have hk4 : kn ≤ 4 := by rw [NK.out]; exact hF.nk
 have HEH : Hid (pgHead p = [76] ++ enc (kn : Int)) := by show _ = _; rw [pgHead, if_pos h0, if_pos h0, ← NK.out]; simp
 have HPA : Hid (∀ i, pgPart p i = (enc (sAt p.keys i).size ++ bytesOf (sAt p.keys i)) ++ (enc (sAt p.vals i).size ++ bytesOf (sAt p.vals i))) := fun i => by rw [pgPart, if_pos h0]
 clear h hF h0 hw
 go_enter Tryz.func181, Tryz.ntmps181
 go_wp2_with fail
 refine (addByteK_any G 512 [] 76 _ L0.out.wr (by omega) (by omega) (by simp) (by omega)).mono ?_
 generalize w.alloc (.cells #[.slice ka kn kc, .slice va vn vc, .slice ia jn ic] 107) = U at *
 generalize w.heap.size = b0 at *
 rintro e w1 ⟨rfl, hb1, hw1, hk1⟩
 have L1 := hid (L0.out.step hb1 hw1 hk1)
 clear hb1 hw1 hk1 L0
 obtain ⟨c0, c1, c2⟩ := L1.out.cells
 have hen := enc_len (kn : Int)
 go_wp2_with fail
 refine (numberK_any G 512 _ (kn : Int) _ L1.out.wr (by omega) (by omega) (by simp; omega) (by omega)).mono ?_
 rintro e w2 ⟨rfl, hb2, hw2, hk2⟩
 have L2 := hid (L1.out.step hb2 hw2 hk2)
 have L2' : Hid (Wl w w2 G b0 ka kn kc va vn vc ia jn ic p (pgBody p 0)) := by rw [pgBody, HEH.out]; exact L2.out
 clear hb2 hw2 hk2 L1 L2 c0 c1 c2 hen
 obtain ⟨c0, c1, c2⟩ := L2'.out.cells
 go_wp2_with fail
 clear c0 c1 c2
 go_loopw [16] (fun i wr => ∃ j : Nat, j ≤ kn ∧ i = .int .i64 j ∧ Hid (Wl w wr G b0 ka kn kc va vn vc ia jn ic p (pgBody p j))) (fun i _ => kn - (intOf i).toNat)
 case atStart => exact ⟨0, Nat.zero_le _, rfl, L2'⟩
 case round =>
  obtain ⟨j, hj, rfl, L3⟩ := hrel
  clear L2'
  by_cases hlt : j < kn
  ·have hlt' : (j : Int) < (kn : Int) := by omega
   have hltv : (j : Int) < (vn : Int) := by have := HVK.out; omega
   have hjl : j < p.keys.length := by rw [← NK.out]; exact hlt
   have hjv : j < p.vals.length := by rw [← NV.out]; omega
   obtain ⟨kb, ko, hka, -, -, hck⟩ := L3.out.pg.hk.at (by omega)
   obtain ⟨vb, vo, hva, -, -, -⟩ := L3.out.pg.hv.at (by omega)
   subst hka hva
   have m0 := hck j hlt
   have HKS := hid (HF.out.ks j hjl)
   have HVZ := hid (HVS.out j hjv)
   have HST : Hid (pgBody p (j + 1) = pgBody p j ++ ((enc (sAt p.keys j).size ++ bytesOf (sAt p.keys j)) ++ (enc (sAt p.vals j).size ++ bytesOf (sAt p.vals j)))) := by show _ = _; rw [pgBody, HPA.out]
   have HRM : Hid ((pgBody p j).length + (((enc (sAt p.keys j).size).length + (sAt p.keys j).size) + ((enc (sAt p.vals j).size).length + (sAt p.vals j).size)) ≤ 500) := by
    have := pgBody_room HF.out hjl
    rw [HPA.out] at this
    simp only [List.length_append, bytesOf_len] at this
    exact this
   have HCV : Hid (∀ u zs, Wl w u G b0 (some ⟨kb, ko, none⟩) kn kc (some ⟨vb, vo, none⟩) vn vc ia jn ic p zs → u.cell? ⟨vb, vo + j, none⟩ = some (.string (sAt p.vals j))) := by
    intro u zs hu
    obtain ⟨vb', vo', e, -, -, hc⟩ := hu.pg.hv.at (by omega)
    cases e
    exact hc j (by omega)
   clear hck
   generalize sAt p.keys j = kk at *
   generalize sAt p.vals j = vv at *
   go_wp2_with fail
   refine (textK_any G 512 _ kk _ L3.out.wr (by have := HKS.out; omega) (by have := HRM.out; omega) (by omega)).mono ?_
   rintro e w4 ⟨rfl, hb4, hw4, hk4'⟩
   have L4 := hid (L3.out.step hb4 hw4 hk4')
   have m4 := HCV.out _ _ L4.out
   clear hb4 hw4 hk4' L3 m0
   obtain ⟨c0, c1, c2⟩ := L4.out.cells
   go_wp2_with fail
   refine (textK_any G 512 _ vv _ L4.out.wr (by have := HVZ.out; omega) (by have := HRM.out; rw [List.length_append, List.length_append, bytesOf_len]; omega) (by omega)).mono ?_
   rintro e w5 ⟨rfl, hb5, hw5, hk5⟩
   have L5 := hid (L4.out.step hb5 hw5 hk5)
   have L6 : Hid (Wl w w5 G b0 (some ⟨kb, ko, none⟩) kn kc (some ⟨vb, vo, none⟩) vn vc ia jn ic p (pgBody p (j + 1))) := by rw [HST.out, ← List.append_assoc]; exact L5.out
   clear hb5 hw5 hk5 L4 L5 m4 c0 c1 c2 HCV HST HRM HKS HVZ
   go_wp2
   go_roundw
   case rel => exact ⟨j + 1, by omega, by go_num, L6⟩
   case measure => simp [intOf]; omega
  ·have hjk : j = kn := by omega
   have HW : Hid (Wr wr G 512 (some (pgRaw p))) := by
    have := L3.out.wr
    rw [hjk, NK.out] at this
    exact this
   clear hjk
   go_wp2
   go_end0
   exact ⟨rfl, L3.out.be, HW.out⟩
set_option maxHeartbeats 4000000 in
set_option maxRecDepth 20000 in
theorem writeBranch_any (G : Nat) (ka : Option Addr) (kn kc : Nat) (va : Option Addr) (vn vc : Nat) (ia : Option Addr) (jn ic : Nat) (p : PG) (w : World) (hw : Wr w G 512 (some [])) (h : Pgr w (fun b => b < G) ka kn kc va vn vc ia jn ic p) (hF : PgF p) (h0 : ¬ p.kids.length = 0) :
  Calls Tryz.prog 182 #[.pointer (some ⟨G, 0, none⟩), .agg #[.slice ka kn kc, .slice va vn vc, .slice ia jn ic]] w fun e w' => e = .returned (.tuple #[]) ∧ Below G w w' ∧ Wr w' G 512 (some (pgRaw p)) := by
 have L0 := hid (Wl.start hw h)
 have NK := hid (Rw.len h.hk).1
 have NI := hid (Rw.len h.hi).1
 have bk := (Rw.len h.hk).2
 have bi := (Rw.len h.hi).2
 have HF := hid hF
 have HJN : Hid (jn = kn + 1) := by show _ = _; rw [NI.out, NK.out]; exact (hF.br h0).1
 have HIS := hid (hF.br h0).2
 have hk4 : kn ≤ 4 := by rw [NK.out]; exact hF.nk
 have hjp : 0 < jn := by have := HJN.out; omega
 have hjp' : (0 : Int) < (jn : Int) := by omega
 have HEH : Hid (pgHead p = [66] ++ enc (kn : Int) ++ enc (iAt p.kids 0)) := by show _ = _; rw [pgHead, if_neg h0, if_neg h0, ← NK.out]
 have HPA : Hid (∀ i, pgPart p i = (enc (sAt p.keys i).size ++ bytesOf (sAt p.keys i)) ++ enc (iAt p.kids (i + 1))) := fun i => by rw [pgPart, if_neg h0]
 have HK0 := hid (HIS.out 0 (by rw [← NI.out]; exact hjp))
 clear h hF h0 hw
 obtain ⟨ib, io, hia, -, -, -⟩ := L0.out.pg.hi.at hjp
 subst hia
 have HCI : Hid (∀ j, j < jn → ∀ u zs, Wl w u G w.heap.size ka kn kc va vn vc (some ⟨ib, io, none⟩) jn ic p zs → u.cell? ⟨ib, io + j, none⟩ = some (.int .i64 (iAt p.kids j))) := by
  intro j hj u zs hu
  obtain ⟨ib', io', e, -, -, hc⟩ := hu.pg.hi.at hjp
  cases e
  exact hc j hj
 go_enter Tryz.func182, Tryz.ntmps182
 go_wp2_with fail
 refine (addByteK_any G 512 [] 66 _ L0.out.wr (by omega) (by omega) (by simp) (by omega)).mono ?_
 generalize w.alloc (.cells #[.slice ka kn kc, .slice va vn vc, .slice (some ⟨ib, io, none⟩) jn ic] 107) = U at *
 generalize w.heap.size = b0 at *
 rintro e w1 ⟨rfl, hb1, hw1, hk1⟩
 have L1 := hid (L0.out.step hb1 hw1 hk1)
 clear hb1 hw1 hk1 L0
 obtain ⟨c0, c1, c2⟩ := L1.out.cells
 have hen := enc_len (kn : Int)
 have hen2 := enc_len (iAt p.kids 0)
 have HEN := hid hen
 have HEN2 := hid hen2
 clear hen hen2
 go_wp2_with fail
 refine (numberK_any G 512 _ (kn : Int) _ L1.out.wr (by omega) (by omega) (by have := HEN.out; simp; omega) (by omega)).mono ?_
 rintro e w2 ⟨rfl, hb2, hw2, hk2⟩
 have L2 := hid (L1.out.step hb2 hw2 hk2)
 have m2 := HCI.out 0 hjp _ _ L2.out
 rw [Nat.add_zero] at m2
 clear hb2 hw2 hk2 L1 c0 c1 c2
 obtain ⟨c0, c1, c2⟩ := L2.out.cells
 generalize hkid : iAt p.kids 0 = kid0 at *
 have HKID := hid hkid
 clear hkid
 have hkr := HK0.out
 go_wp2_with fail
 refine (numberK_any G 512 _ kid0 _ L2.out.wr (by omega) (by omega) (by have := HEN.out; have := HEN2.out; simp; omega) (by omega)).mono ?_
 rintro e w3 ⟨rfl, hb3, hw3, hk3⟩
 have L3' := hid (L2.out.step hb3 hw3 hk3)
 have L3 : Hid (Wl w w3 G b0 ka kn kc va vn vc (some ⟨ib, io, none⟩) jn ic p (pgBody p 0)) := by rw [pgBody, HEH.out]; exact L3'.out
 clear hb3 hw3 hk3 L2 L3' m2 c0 c1 c2 HEH
 obtain ⟨c0, c1, c2⟩ := L3.out.cells
 go_wp2_with fail
 clear c0 c1 c2
 go_loopw [22] (fun i wr => ∃ j : Nat, j ≤ kn ∧ i = .int .i64 j ∧ Hid (Wl w wr G b0 ka kn kc va vn vc (some ⟨ib, io, none⟩) jn ic p (pgBody p j))) (fun i _ => kn - (intOf i).toNat)
 case atStart => exact ⟨0, Nat.zero_le _, rfl, L3⟩
 case round =>
  obtain ⟨j, hj, rfl, L4⟩ := hrel
  clear L3
  by_cases hlt : j < kn
  ·have hlt' : (j : Int) < (kn : Int) := by omega
   have hlt2 : (j : Int) + 1 < (jn : Int) := by have := HJN.out; omega
   have hjl : j < p.keys.length := by rw [← NK.out]; exact hlt
   obtain ⟨kb, ko, hka, -, -, hck⟩ := L4.out.pg.hk.at (by omega)
   subst hka
   have m0 := hck j hlt
   have HKS := hid (HF.out.ks j hjl)
   have HVZ := hid (HIS.out (j + 1) (by rw [← NI.out]; omega))
   have HST : Hid (pgBody p (j + 1) = pgBody p j ++ ((enc (sAt p.keys j).size ++ bytesOf (sAt p.keys j)) ++ enc (iAt p.kids (j + 1)))) := by show _ = _; rw [pgBody, HPA.out]
   have HRM : Hid ((pgBody p j).length + (((enc (sAt p.keys j).size).length + (sAt p.keys j).size) + (enc (iAt p.kids (j + 1))).length) ≤ 500) := by
    have := pgBody_room HF.out hjl
    rw [HPA.out] at this
    simp only [List.length_append, bytesOf_len] at this
    exact this
   have HCV := hid (HCI.out (j + 1) (by omega))
   clear hck
   generalize sAt p.keys j = kk at *
   generalize iAt p.kids (j + 1) = vv at *
   go_wp2_with fail
   refine (textK_any G 512 _ kk _ L4.out.wr (by have := HKS.out; omega) (by have := HRM.out; omega) (by omega)).mono ?_
   rintro e w4 ⟨rfl, hb4, hw4, hk4'⟩
   have L5 := hid (L4.out.step hb4 hw4 hk4')
   have m4 := HCV.out _ _ L5.out
   clear hb4 hw4 hk4' L4 m0
   obtain ⟨c0, c1, c2⟩ := L5.out.cells
   have hvz := HVZ.out
   go_wp2_with fail
   refine (numberK_any G 512 _ vv _ L5.out.wr (by omega) (by omega) (by have := HRM.out; rw [List.length_append, List.length_append, bytesOf_len]; omega) (by omega)).mono ?_
   rintro e w5 ⟨rfl, hb5, hw5, hk5⟩
   have L6 := hid (L5.out.step hb5 hw5 hk5)
   have L7 : Hid (Wl w w5 G b0 (some ⟨kb, ko, none⟩) kn kc va vn vc (some ⟨ib, io, none⟩) jn ic p (pgBody p (j + 1))) := by rw [HST.out, ← List.append_assoc]; exact L6.out
   clear hb5 hw5 hk5 L5 L6 m4 c0 c1 c2 HCV HST HRM HKS HVZ hvz
   go_wp2
   go_roundw
   case rel => exact ⟨j + 1, by omega, by go_num, L7⟩
   case measure => simp [intOf]; omega
  ·have hjk : j = kn := by omega
   have HW : Hid (Wr wr G 512 (some (pgRaw p))) := by
    have := L4.out.wr
    rw [hjk, NK.out] at this
    exact this
   clear hjk
   go_wp2
   go_end0
   exact ⟨rfl, L4.out.be, HW.out⟩
theorem pgRaw_len {p : PG} (hF : PgF p) : (pgRaw p).length ≤ 512 := by
 have h1 := pgBody_len hF p.keys.length (Nat.le_refl _)
 have h2 := hF.nk
 show (pgBody p p.keys.length).length ≤ 512
 omega
set_option maxHeartbeats 4000000 in
set_option maxRecDepth 20000 in
theorem implPageBytes_any (S : Nat → Prop) (ka : Option Addr) (kn kc : Nat) (va : Option Addr) (vn vc : Nat) (ia : Option Addr) (jn ic : Nat) (p : PG) (w : World) (h : Pgr w S ka kn kc va vn vc ia jn ic p) (he : Err w 0) (he2 : Err w 1) :
  Calls Tryz.prog 169 #[.agg #[.slice ka kn kc, .slice va vn vc, .slice ia jn ic]] w fun e w' => Put w (pgBytes p) e w' := by
 have hb0 := below_new (o := .cells #[.slice ka kn kc, .slice va vn vc, .slice ia jn ic] 107) (w := w) (Below.refl _ _)
 have P0 := hid (h.below hb0)
 have B0 := hid hb0
 have K0 := hid (Bk.new w 107 [.slice ka kn kc, .slice va vn vc, .slice ia jn ic])
 have NI := hid (Rw.len h.hi).1
 have bi := (Rw.len h.hi).2
 have HE := hid he
 have HE2 := hid he2
 have HP : Hid (pgBytes p = if pgOk p = true then some (pgFull p) else none) := rfl
 clear h hb0 he he2
 go_enter Tryz.func169, Tryz.ntmps169
 go_wp2_with fail
 refine (implPageOk_any S ka kn kc va vn vc ia jn ic p _ P0.out).mono ?_
 generalize w.alloc (.cells #[.slice ka kn kc, .slice va vn vc, .slice ia jn ic] 107) = U at *
 rintro e w1 ⟨rfl, hb1⟩
 have B1 := hid (btw B0.out hb1)
 have K1 := hid (K0.out.below hb1)
 have P1 := hid (P0.out.below hb1)
 clear hb1 B0 K0 P0
 cases hok : pgOk p with
 | false =>
  have HN : Hid (pgBytes p = none) := by show _ = _; rw [HP.out, hok]; rfl
  go_wp2
  go_ret2
  exact ⟨B1.out, .inl ⟨HN.out, rfl⟩⟩
 | true =>
  have HN : Hid (pgBytes p = some (pgFull p)) := by show _ = _; rw [HP.out, hok]; rfl
  have HF := hid (pgOk_facts hok)
  have E1 := hid (HE.out.below B1.out HE.out.lt)
  have F1 := hid (HE2.out.below B1.out HE2.out.lt)
  clear hok HP HE HE2
  go_wp2_with fail
  refine (newWriter_any 512 none 0 0 [] w1 E1.out E1.out.lt (rd_nilM _) (by omega) (by omega)).mono ?_
  rintro e w2 ⟨rfl, hb2, hw2⟩
  have W2 : Hid (Wr w2 w1.heap.size 512 (some [])) := hw2
  have C2 := hid hb2
  have K2 := hid (K1.out.below hb2)
  have P2 : Hid (Pgr w2 (fun b => b < w1.heap.size) ka kn kc va vn vc ia jn ic p) := by
   have hm : Pgr w1 (fun b => b < w1.heap.size) ka kn kc va vn vc ia jn ic p := ⟨Rw.mono P1.out.hk (fun b _ hb => hb), Rw.mono P1.out.hv (fun b _ hb => hb), Rw.mono P1.out.hi (fun b _ hb => hb)⟩
   exact hm.below hb2
  clear hw2 hb2 K1 P1
  have c0 := K2.out.cell (j := 0) rfl
  have c1 := K2.out.cell (j := 1) rfl
  have c2 := K2.out.cell (j := 2) rfl
  have HFL : Hid (fillSt 512 (some (pgRaw p)) 512 = some (pgFull p)) := by
   show _ = _
   have hl := pgRaw_len HF.out
   have := fillSt_ok (most := 512) (zs := pgRaw p) (k := 512 - (pgRaw p).length) (by omega)
   rw [show (pgRaw p).length + (512 - (pgRaw p).length) = 512 by omega] at this
   exact this
  by_cases hi0 : jn = 0
  ·have h00 : p.kids.length = 0 := by rw [← NI.out]; exact hi0
   have HWL := hid (writeLeaf_any w1.heap.size ka kn kc va vn vc ia jn ic p w2 W2.out P2.out HF.out h00)
   subst hi0
   clear h00
   go_wp2_with fail
   refine HWL.out.mono ?_
   rintro e w3 ⟨rfl, hb3, hw3⟩
   have W3 := hid hw3
   have C3 := hid (C2.out.trans hb3)
   clear hw3 hb3 HWL W2 C2 c0 c1 c2
   go_wp2_with fail
   refine (fill_any w1.heap.size 512 _ 512 w3 W3.out (by omega) (E1.out.below C3.out E1.out.lt) (F1.out.below C3.out F1.out.lt) E1.out.lt).mono ?_
   rintro e w4 ⟨rfl, hb4, hw4⟩
   rw [HFL.out] at hw4
   have W4 := hid hw4
   have C4 := hid (C3.out.trans hb4)
   clear hw4 hb4 W3 C3
   go_wp2_with fail
   refine (told_put w1 w4 512 _ W4.out C4.out).mono ?_
   rintro e w5 ⟨v, b, rfl, ⟨a3, n3, c3, rfl⟩, hput⟩
   rw [← HN.out] at hput
   have HQ := hid (hput.lift B1.out)
   clear hput
   go_wp2
   go_ret2
   exact HQ.out
  ·have h00 : ¬ p.kids.length = 0 := by rw [← NI.out]; exact hi0
   have HWL := hid (writeBranch_any w1.heap.size ka kn kc va vn vc ia jn ic p w2 W2.out P2.out HF.out h00)
   have hi0' : ((jn : Int) == 0) = false := by simp; omega
   have hi0'' : ¬ (jn : Int) = 0 := by omega
   clear h00
   go_wp2_with fail
   refine HWL.out.mono ?_
   rintro e w3 ⟨rfl, hb3, hw3⟩
   have W3 := hid hw3
   have C3 := hid (C2.out.trans hb3)
   clear hw3 hb3 HWL W2 C2 c0 c1 c2
   go_wp2_with fail
   refine (fill_any w1.heap.size 512 _ 512 w3 W3.out (by omega) (E1.out.below C3.out E1.out.lt) (F1.out.below C3.out F1.out.lt) E1.out.lt).mono ?_
   rintro e w4 ⟨rfl, hb4, hw4⟩
   rw [HFL.out] at hw4
   have W4 := hid hw4
   have C4 := hid (C3.out.trans hb4)
   clear hw4 hb4 W3 C3
   go_wp2_with fail
   refine (told_put w1 w4 512 _ W4.out C4.out).mono ?_
   rintro e w5 ⟨v, b, rfl, ⟨a3, n3, c3, rfl⟩, hput⟩
   rw [← HN.out] at hput
   have HQ := hid (hput.lift B1.out)
   clear hput
   go_wp2
   go_ret2
   exact HQ.out
open Go.RowKit
def RdP (zs : List Int) (R : Nat) (w : World) (e : Ending) (w' : World) : Prop :=
 Only (fun y => y = R) w w' ∧ ((Gave e ∧ prd zs = none) ∨ ∃ (ka : Option Addr) (kn kc : Nat) (va : Option Addr) (vn vc : Nat) (ia : Option Addr) (jn ic : Nat) (p : PG), e = .returned (.agg #[.slice ka kn kc, .slice va vn vc, .slice ia jn ic]) ∧
  PO w' (.slice ka kn kc) (.slice va vn vc) (.slice ia jn ic) p ∧ (∀ y, pbl (.slice ka kn kc) (.slice va vn vc) (.slice ia jn ic) y → w.heap.size ≤ y) ∧ prd zs = some p)
structure Pb (w v : World) (R : Nat) (a : Option Addr) (n c : Nat) (zs : List Int) (q : Int) (x y z : Value) : Prop where
 rs : Rs v R a n c zs q
 rb : Bk v w.heap.size 107 [.slice none 0 0, .slice none 0 0, .slice none 0 0]
 bk : Bk v (w.heap.size + 1) 107 [x, y, z]
 on : Only (fun y => y = R) w v
 lt : R < w.heap.size
theorem Pb.to {w v v' : World} {R : Nat} {a : Option Addr} {n c : Nat} {zs : List Int} {q q' : Int} {x y z : Value} (h : Pb w v R a n c zs q x y z) (ho : Only (fun y => y = R) v v') (hr : Rs v' R a n c zs q') : Pb w v' R a n c zs q' x y z :=
 ⟨hr, h.rb.to ho (fun e => by have := h.lt; omega), h.bk.to ho (fun e => by have := h.lt; omega), h.on.trans ho, h.lt⟩
theorem Pb.below {w v v' : World} {R : Nat} {a : Option Addr} {n c : Nat} {zs : List Int} {q : Int} {x y z : Value} (h : Pb w v R a n c zs q x y z) (hb : Below v.heap.size v v') : Pb w v' R a n c zs q x y z :=
 ⟨h.rs.below hb, h.rb.below hb, h.bk.below hb, h.on.trans (only_of_below hb _), h.lt⟩
theorem Pb.set {w v : World} {R : Nat} {a : Option Addr} {n c : Nat} {zs : List Int} {q : Int} {x y z : Value} (h : Pb w v R a n c zs q x y z) (x' y' z' : Value) : Pb w (((v.setCell ⟨w.heap.size + 1, 0, none⟩ x').setCell ⟨w.heap.size + 1, 1, none⟩ y').setCell ⟨w.heap.size + 1, 2, none⟩ z') R a n c zs q x' y' z' ∧ Only (fun y => y = w.heap.size + 1) v (((v.setCell ⟨w.heap.size + 1, 0, none⟩ x').setCell ⟨w.heap.size + 1, 1, none⟩ y').setCell ⟨w.heap.size + 1, 2, none⟩ z') := by
 have ho : Only (fun y => y = w.heap.size + 1) v (((v.setCell ⟨w.heap.size + 1, 0, none⟩ x').setCell ⟨w.heap.size + 1, 1, none⟩ y').setCell ⟨w.heap.size + 1, 2, none⟩ z') :=
  ((only_set (R := fun y => y = w.heap.size + 1) rfl _).trans (only_set (R := fun y => y = w.heap.size + 1) rfl _)).trans (only_set (R := fun y => y = w.heap.size + 1) rfl _)
 refine ⟨⟨h.rs.to ho (fun y e => by have := h.lt; omega), h.rb.to ho (fun e => by omega), ?_, h.on.then ho (fun i hi e => by omega), h.lt⟩, ho⟩
 exact ((h.bk.set 0 x').set 1 y').set 2 z'
theorem Pb.cells {w v : World} {R : Nat} {a : Option Addr} {n c : Nat} {zs : List Int} {q : Int} {x y z : Value} (h : Pb w v R a n c zs q x y z) :
  (v.cell? ⟨w.heap.size + 1, 0, none⟩ = some x ∧ v.cell? ⟨w.heap.size + 1, 1, none⟩ = some y ∧ v.cell? ⟨w.heap.size + 1, 2, none⟩ = some z) ∧ (v.frozen? ⟨w.heap.size + 1, 0, none⟩ = false ∧ v.frozen? ⟨w.heap.size + 1, 1, none⟩ = false ∧ v.frozen? ⟨w.heap.size + 1, 2, none⟩ = false) :=
 ⟨⟨h.bk.cell (j := 0) rfl, h.bk.cell (j := 1) rfl, h.bk.cell (j := 2) rfl⟩, h.bk.free 0, h.bk.free 1, h.bk.free 2⟩
theorem Pb.rcells {w v : World} {R : Nat} {a : Option Addr} {n c : Nat} {zs : List Int} {q : Int} {x y z : Value} (h : Pb w v R a n c zs q x y z) :
  (v.cell? ⟨w.heap.size, 0, none⟩ = some (.slice none 0 0) ∧ v.cell? ⟨w.heap.size, 1, none⟩ = some (.slice none 0 0) ∧ v.cell? ⟨w.heap.size, 2, none⟩ = some (.slice none 0 0)) ∧ (v.frozen? ⟨w.heap.size, 0, none⟩ = false ∧ v.frozen? ⟨w.heap.size, 1, none⟩ = false ∧ v.frozen? ⟨w.heap.size, 2, none⟩ = false) ∧ v.cell? ⟨R, 0, none⟩ = some (.slice a n c) :=
 ⟨⟨h.rb.cell (j := 0) rfl, h.rb.cell (j := 1) rfl, h.rb.cell (j := 2) rfl⟩, ⟨h.rb.free 0, h.rb.free 1, h.rb.free 2⟩, h.rs.bk.cell (j := 0) rfl⟩
theorem Err.only {w w' : World} {g : Nat} {P : Nat → Prop} (h : Err w g) (ho : Only P w w') (hP : ¬ P g) : Err w' g := by
 obtain ⟨t, x, hc⟩ := h
 exact ⟨t, x, (World.cell?_of_block (w := w) (a := ⟨g, 0, none⟩) (ho.block g (block_lt hc) hP)).trans hc⟩
set_option maxHeartbeats 8000000 in
set_option maxRecDepth 20000 in
theorem rpage_any (R : Nat) (a : Option Addr) (n c : Nat) (zs : List Int) (w : World) (h : Rs w R a n c zs 0) (he : Err w 0) (he2 : Err w 1) (hg1 : 0 < R) (hg2 : 1 < R) :
  Calls Tryz.prog 150 #[.pointer (some ⟨R, 0, none⟩)] w fun e w' => RdP zs R w e w' := by
 have HE := hid he
 have HE2 := hid he2
 have H0 := hid h
 have HN : Hid (n = zs.length) := h.rd.1
 have hb1 := below_new (o := .cells #[.slice none 0 0, .slice none 0 0, .slice none 0 0] 107) (w := w) (Below.refl _ _)
 have R1 := hid (h.below hb1)
 have B1 := hid hb1
 have K1 := hid (Bk.new w 107 [.slice none 0 0, .slice none 0 0, .slice none 0 0])
 have c1 := R1.out.bk.cell (j := 0) rfl
 have HLT : Hid (R < w.heap.size) := h.bk.lt
 have HG1 := hid hg1
 have HG2 := hid hg2
 clear h he he2 hb1 hg1 hg2
 by_cases h512 : n = 512
 ·subst h512
  have HZL : Hid (zs.length = 512) := HN.out.symm
  obtain ⟨b, off, ha, hbl, hcell⟩ := R1.out.rd.2.2.2.2.2 (by omega)
  subst ha
  have HBY := hid R1.out.rd.2.2.2.2.1
  have hcc := R1.out.rd.2.1
  have hcm := R1.out.rd.2.2.1
  clear hbl hcell
  have hb2 := below_new (o := .cells #[.slice none 0 0, .slice none 0 0, .slice none 0 0] 107) (w := w.alloc (.cells #[.slice none 0 0, .slice none 0 0, .slice none 0 0] 107)) (Below.refl _ _)
  have P2 : Hid (Pb w ((w.alloc (.cells #[.slice none 0 0, .slice none 0 0, .slice none 0 0] 107)).alloc (.cells #[.slice none 0 0, .slice none 0 0, .slice none 0 0] 107)) R (some ⟨b, off, none⟩) 512 c zs 0 (.slice none 0 0) (.slice none 0 0) (.slice none 0 0)) := by
   have k1 := Bk.new (w.alloc (.cells #[.slice none 0 0, .slice none 0 0, .slice none 0 0] 107)) 107 [.slice none 0 0, .slice none 0 0, .slice none 0 0]
   exact ⟨R1.out.below hb2, K1.out.below hb2, by simpa using k1, only_of_below (btw B1.out hb2) _, HLT.out⟩
  have HPRN : Hid (¬ (zAt zs 0 = 76 ∨ zAt zs 0 = 66) → prd zs = none) := by
   intro hn
   rw [prd, if_neg]
   rintro ⟨_, h, _⟩
   exact hn h
  have HC0 : Hid (∀ v q, Rs v R (some ⟨b, off, none⟩) 512 c zs q → v.cell? ⟨b, off, none⟩ = some (.int .u8 (zAt zs 0))) := by
   intro v q hr
   obtain ⟨b', off', e, -, hc⟩ := hr.rd.2.2.2.2.2 (by omega)
   cases e
   exact hc 0 (by omega)
  clear hb2 K1 B1 HN
  go_enter Tryz.func150, Tryz.ntmps150
  go_wp2_with fail
  refine (goTo_yes R 1 _ P2.out.rs.bk (by omega)).mono ?_
  generalize (w.alloc (.cells #[.slice none 0 0, .slice none 0 0, .slice none 0 0] 107)).alloc (.cells #[.slice none 0 0, .slice none 0 0, .slice none 0 0] 107) = U at *
  rintro e w1 ⟨rfl, hw1⟩
  have O1 : Hid (Only (fun y => y = R) U w1) := by rw [hw1]; exact only_set (R := fun y => y = R) rfl _
  have K3 : Bk w1 R 191 [.slice (some ⟨b, off, none⟩) 512 c, .int .i64 1] := by rw [hw1]; exact P2.out.rs.bk.set 1 _
  have P3 := hid (P2.out.to O1.out (P2.out.rs.went O1.out K3))
  clear hw1 K3 P2 c1 R1
  have m0 := HC0.out _ _ P3.out.rs
  obtain ⟨⟨p0, p1, p2⟩, pf0, pf1, pf2⟩ := P3.out.cells
  obtain ⟨⟨r0, r1, r2⟩, ⟨rf0, rf1, rf2⟩, x0⟩ := P3.out.rcells
  have hz0 : 0 ≤ zAt zs 0 ∧ zAt zs 0 ≤ 255 := HBY.out 0
  by_cases z76 : zAt zs 0 = 76
  ·have HKD : Hid (∀ p0, pgBytes p0 = some zs → p0.kids.length = 0) := by
    intro p0 hp
    by_cases h0 : p0.kids.length = 0
    ·exact h0
    ·have := (branch_head hp h0).1
     omega
   rw [z76] at m0
   have HRD := hid (rleaf_any R (some ⟨b, off, none⟩) 512 c zs w1 P3.out.rs HZL.out)
   clear hz0 HPRN z76
   go_wp2_with fail
   refine HRD.out.mono ?_
   rintro e w2 ⟨ho2, hcase⟩
   rcases hcase with ⟨⟨t, x, rfl⟩, hno⟩ | ⟨ka, kn, kc, va, vn, vc, ia, jn, ic, p, rfl, hpo, hlo, ⟨q2, hrs⟩, heq⟩
   ·have HON : Hid (Only (fun y => y = R) w w2) := P3.out.on.trans ho2
    have HNO : Hid (prd zs = none) := by
     show prd zs = none
     cases hp : prd zs with
     | none => rfl
     | some p0 => exact (hno p0 ((prd_iff zs p0).1 hp) (HKD.out p0 ((prd_iff zs p0).1 hp))).elim
    clear hno ho2 HRD
    go_wp2
    exact ⟨rfl, HON.out, .inl ⟨⟨t, x, rfl⟩, HNO.out⟩⟩
   ·have P4 := hid (P3.out.to ho2 hrs)
    have HEQ : Hid (∀ p0, pgBytes p0 = some zs → p = p0) := fun p0 hp => heq p0 hp (HKD.out p0 hp)
    have HLO := hid hlo
    have HPO := hid hpo
    have HW1 : Hid (w.heap.size + 1 < w1.heap.size) := P3.out.bk.lt
    clear hpo hlo hrs heq ho2 HRD HKD m0 P3 p0 p1 p2 pf0 pf1 pf2 r0 r1 r2 rf0 rf1 rf2 x0
    obtain ⟨⟨p0, p1, p2⟩, pf0, pf1, pf2⟩ := P4.out.cells
    obtain ⟨P5', O5⟩ := P4.out.set (.slice ka kn kc) (.slice va vn vc) (.slice ia jn ic)
    have P5 := hid P5'
    have HPO5 : Hid (PO _ (.slice ka kn kc) (.slice va vn vc) (.slice ia jn ic) p) := HPO.out.to O5 (fun y hy e => by have := HLO.out y hy; have := HW1.out; omega)
    clear P5' O5
    go_wp2_with fail
    have ER5 := hid (HE.out.only P5.out.on (fun e => by have := HG1.out; omega))
    have ES5 := hid (HE2.out.only P5.out.on (fun e => by have := HG2.out; omega))
    have PG5 := hid (HPO5.out.pgr (S := fun _ => True) (fun _ _ => trivial))
    refine (implPageBytes_any (fun _ => True) ka kn kc va vn vc ia jn ic p _ PG5.out ER5.out ES5.out).mono ?_
    generalize ((w2.setCell ⟨w.heap.size + 1, 0, none⟩ (.slice ka kn kc)).setCell ⟨w.heap.size + 1, 1, none⟩ (.slice va vn vc)).setCell ⟨w.heap.size + 1, 2, none⟩ (.slice ia jn ic) = w5 at *
    clear p0 p1 p2 pf0 pf1 pf2 P4 HPO ER5 ES5 PG5
    intro e w6 hput
    have P6 := hid (P5.out.below hput.1)
    have HPO6 := hid (HPO5.out.below hput.1)
    have HON := hid P6.out.on
    obtain ⟨⟨p0, p1, p2⟩, pf0, pf1, pf2⟩ := P6.out.cells
    obtain ⟨⟨r0, r1, r2⟩, ⟨rf0, rf1, rf2⟩, x0⟩ := P6.out.rcells
    rcases hput.2 with ⟨hn, rfl⟩ | ⟨v, out, hs, rfl, ho⟩
    ·have HNO : Hid (prd zs = none) := by
      show prd zs = none
      cases hp : prd zs with
      | none => rfl
      | some p0 =>
       have h1 := (prd_iff zs p0).1 hp
       rw [← HEQ.out p0 h1, hn] at h1
       cases h1
     clear hput hn P5 HPO5
     go_wp2_with fail
     refine (giveUp_any R _ P6.out.rs.er).mono ?_
     rintro e w7 ⟨⟨t, x, rfl⟩, rfl⟩
     go_wp2
     exact ⟨rfl, HON.out, .inl ⟨⟨t, x, rfl⟩, HNO.out⟩⟩
    ·obtain ⟨hsb, hsl⟩ := pgBytes_some hs
     obtain ⟨a3, c3, rfl, hR3, -⟩ := ho.rd (byte_at hsb) (by omega)
     have R3 := hid hR3
     have HS := hid hs
     clear hput ho hR3 hs hsb hsl P5 HPO5
     generalize out.length = L at *
     go_wp2_with fail
     refine (bytesEqual_any _ _ _ _ _ _ _ _ _ R3.out P6.out.rs.rd).mono ?_
     rintro e w7 ⟨rfl, rfl⟩
     by_cases hq : out = zs
     ·have HPR : Hid (prd zs = some p) := by show _ = _; rw [prd_iff, HS.out, hq]
      rw [decide_eq_true hq]
      have HQ : Hid (RdP zs R w (.returned (.agg #[.slice ka kn kc, .slice va vn vc, .slice ia jn ic])) (((w6.setCell ⟨w.heap.size, 0, none⟩ (.slice ka kn kc)).setCell ⟨w.heap.size, 1, none⟩ (.slice va vn vc)).setCell ⟨w.heap.size, 2, none⟩ (.slice ia jn ic))) := by
       have ho7 : Only (fun y => y = w.heap.size) w6 (((w6.setCell ⟨w.heap.size, 0, none⟩ (.slice ka kn kc)).setCell ⟨w.heap.size, 1, none⟩ (.slice va vn vc)).setCell ⟨w.heap.size, 2, none⟩ (.slice ia jn ic)) :=
        ((only_set (R := fun y => y = w.heap.size) rfl _).trans (only_set (R := fun y => y = w.heap.size) rfl _)).trans (only_set (R := fun y => y = w.heap.size) rfl _)
       refine ⟨HON.out.then ho7 (fun i hi e => by omega), .inr ⟨ka, kn, kc, va, vn, vc, ia, jn, ic, p, rfl, HPO6.out.to ho7 (fun y hy e => by have := HLO.out y hy; have := HW1.out; omega), fun y hy => by have := HLO.out y hy; have := HW1.out; omega, HPR.out⟩⟩
      clear hq HS R3 HEQ P6 HPO6
      go_wp2
      refine bodyPost_ret (results_pg (x := .slice ka kn kc) (y := .slice va vn vc) (z := .slice ia jn ic) rfl _ _ _ rfl (by go_simp) (by go_simp) (by go_simp)) rfl ?_
      exact HQ.out
     ·have HNO : Hid (prd zs = none) := by
       show prd zs = none
       cases hp : prd zs with
       | none => rfl
       | some p0 =>
        have h1 := (prd_iff zs p0).1 hp
        rw [← HEQ.out p0 h1, HS.out] at h1
        exact (hq (Option.some.inj h1)).elim
      rw [decide_eq_false hq]
      clear hq HS R3 HEQ
      go_wp2_with fail
      refine (giveUp_any R _ P6.out.rs.er).mono ?_
      rintro e w7 ⟨⟨t, x, rfl⟩, rfl⟩
      go_wp2
      exact ⟨rfl, HON.out, .inl ⟨⟨t, x, rfl⟩, HNO.out⟩⟩
  ·by_cases z66 : zAt zs 0 = 66
   ·have HKD : Hid (∀ p0, pgBytes p0 = some zs → ¬ p0.kids.length = 0) := by
     intro p0 hp h0
     have := (leaf_head hp h0).1
     omega
    rw [z66] at m0
    have HRD := hid (rbranch_any R (some ⟨b, off, none⟩) 512 c zs w1 P3.out.rs HZL.out)
    clear hz0 HPRN z76 z66
    go_wp2_with fail
    refine HRD.out.mono ?_
    rintro e w2 ⟨ho2, hcase⟩
    rcases hcase with ⟨⟨t, x, rfl⟩, hno⟩ | ⟨ka, kn, kc, va, vn, vc, ia, jn, ic, p, rfl, hpo, hlo, ⟨q2, hrs⟩, heq⟩
    ·have HON : Hid (Only (fun y => y = R) w w2) := P3.out.on.trans ho2
     have HNO : Hid (prd zs = none) := by
      show prd zs = none
      cases hp : prd zs with
      | none => rfl
      | some p0 => exact (hno p0 ((prd_iff zs p0).1 hp) (HKD.out p0 ((prd_iff zs p0).1 hp))).elim
     clear hno ho2 HRD
     go_wp2
     exact ⟨rfl, HON.out, .inl ⟨⟨t, x, rfl⟩, HNO.out⟩⟩
    ·have P4 := hid (P3.out.to ho2 hrs)
     have HEQ : Hid (∀ p0, pgBytes p0 = some zs → p = p0) := fun p0 hp => heq p0 hp (HKD.out p0 hp)
     have HLO := hid hlo
     have HPO := hid hpo
     have HW1 : Hid (w.heap.size + 1 < w1.heap.size) := P3.out.bk.lt
     clear hpo hlo hrs heq ho2 HRD HKD m0 P3 p0 p1 p2 pf0 pf1 pf2 r0 r1 r2 rf0 rf1 rf2 x0
     obtain ⟨⟨p0, p1, p2⟩, pf0, pf1, pf2⟩ := P4.out.cells
     obtain ⟨P5', O5⟩ := P4.out.set (.slice ka kn kc) (.slice va vn vc) (.slice ia jn ic)
     have P5 := hid P5'
     have HPO5 : Hid (PO _ (.slice ka kn kc) (.slice va vn vc) (.slice ia jn ic) p) := HPO.out.to O5 (fun y hy e => by have := HLO.out y hy; have := HW1.out; omega)
     clear P5' O5
     go_wp2_with fail
     have ER5 := hid (HE.out.only P5.out.on (fun e => by have := HG1.out; omega))
     have ES5 := hid (HE2.out.only P5.out.on (fun e => by have := HG2.out; omega))
     have PG5 := hid (HPO5.out.pgr (S := fun _ => True) (fun _ _ => trivial))
     refine (implPageBytes_any (fun _ => True) ka kn kc va vn vc ia jn ic p _ PG5.out ER5.out ES5.out).mono ?_
     generalize ((w2.setCell ⟨w.heap.size + 1, 0, none⟩ (.slice ka kn kc)).setCell ⟨w.heap.size + 1, 1, none⟩ (.slice va vn vc)).setCell ⟨w.heap.size + 1, 2, none⟩ (.slice ia jn ic) = w5 at *
     clear p0 p1 p2 pf0 pf1 pf2 P4 HPO ER5 ES5 PG5
     intro e w6 hput
     have P6 := hid (P5.out.below hput.1)
     have HPO6 := hid (HPO5.out.below hput.1)
     have HON := hid P6.out.on
     obtain ⟨⟨p0, p1, p2⟩, pf0, pf1, pf2⟩ := P6.out.cells
     obtain ⟨⟨r0, r1, r2⟩, ⟨rf0, rf1, rf2⟩, x0⟩ := P6.out.rcells
     rcases hput.2 with ⟨hn, rfl⟩ | ⟨v, out, hs, rfl, ho⟩
     ·have HNO : Hid (prd zs = none) := by
       show prd zs = none
       cases hp : prd zs with
       | none => rfl
       | some p0 =>
        have h1 := (prd_iff zs p0).1 hp
        rw [← HEQ.out p0 h1, hn] at h1
        cases h1
      clear hput hn P5 HPO5
      go_wp2_with fail
      refine (giveUp_any R _ P6.out.rs.er).mono ?_
      rintro e w7 ⟨⟨t, x, rfl⟩, rfl⟩
      go_wp2
      exact ⟨rfl, HON.out, .inl ⟨⟨t, x, rfl⟩, HNO.out⟩⟩
     ·obtain ⟨hsb, hsl⟩ := pgBytes_some hs
      obtain ⟨a3, c3, rfl, hR3, -⟩ := ho.rd (byte_at hsb) (by omega)
      have R3 := hid hR3
      have HS := hid hs
      clear hput ho hR3 hs hsb hsl P5 HPO5
      generalize out.length = L at *
      go_wp2_with fail
      refine (bytesEqual_any _ _ _ _ _ _ _ _ _ R3.out P6.out.rs.rd).mono ?_
      rintro e w7 ⟨rfl, rfl⟩
      by_cases hq : out = zs
      ·have HPR : Hid (prd zs = some p) := by show _ = _; rw [prd_iff, HS.out, hq]
       rw [decide_eq_true hq]
       have HQ : Hid (RdP zs R w (.returned (.agg #[.slice ka kn kc, .slice va vn vc, .slice ia jn ic])) (((w6.setCell ⟨w.heap.size, 0, none⟩ (.slice ka kn kc)).setCell ⟨w.heap.size, 1, none⟩ (.slice va vn vc)).setCell ⟨w.heap.size, 2, none⟩ (.slice ia jn ic))) := by
        have ho7 : Only (fun y => y = w.heap.size) w6 (((w6.setCell ⟨w.heap.size, 0, none⟩ (.slice ka kn kc)).setCell ⟨w.heap.size, 1, none⟩ (.slice va vn vc)).setCell ⟨w.heap.size, 2, none⟩ (.slice ia jn ic)) :=
         ((only_set (R := fun y => y = w.heap.size) rfl _).trans (only_set (R := fun y => y = w.heap.size) rfl _)).trans (only_set (R := fun y => y = w.heap.size) rfl _)
        refine ⟨HON.out.then ho7 (fun i hi e => by omega), .inr ⟨ka, kn, kc, va, vn, vc, ia, jn, ic, p, rfl, HPO6.out.to ho7 (fun y hy e => by have := HLO.out y hy; have := HW1.out; omega), fun y hy => by have := HLO.out y hy; have := HW1.out; omega, HPR.out⟩⟩
       clear hq HS R3 HEQ P6 HPO6
       go_wp2
       refine bodyPost_ret (results_pg (x := .slice ka kn kc) (y := .slice va vn vc) (z := .slice ia jn ic) rfl _ _ _ rfl (by go_simp) (by go_simp) (by go_simp)) rfl ?_
       exact HQ.out
      ·have HNO : Hid (prd zs = none) := by
        show prd zs = none
        cases hp : prd zs with
        | none => rfl
        | some p0 =>
         have h1 := (prd_iff zs p0).1 hp
         rw [← HEQ.out p0 h1, HS.out] at h1
         exact (hq (Option.some.inj h1)).elim
       rw [decide_eq_false hq]
       clear hq HS R3 HEQ
       go_wp2_with fail
       refine (giveUp_any R _ P6.out.rs.er).mono ?_
       rintro e w7 ⟨⟨t, x, rfl⟩, rfl⟩
       go_wp2
       exact ⟨rfl, HON.out, .inl ⟨⟨t, x, rfl⟩, HNO.out⟩⟩
   ·have HNO := hid (HPRN.out (by omega))
    have HON := hid P3.out.on
    generalize zAt zs 0 = z0 at *
    have z1 : (z0 == 76) = false := by simp [z76]
    have z2 : (z0 == 66) = false := by simp [z66]
    go_wp2_with fail
    refine (giveUp_any R _ P3.out.rs.er).mono ?_
    rintro e w2 ⟨⟨t, x, rfl⟩, rfl⟩
    go_wp2
    exact ⟨rfl, HON.out, .inl ⟨⟨t, x, rfl⟩, HNO.out⟩⟩
 ·have h512' : ((n : Int) != 512) = true := by simp; omega
  have HPR : Hid (prd zs = none) := by
   show prd zs = none
   rw [prd, if_neg]
   rintro ⟨h, _⟩
   have := HN.out
   omega
  have HON : Hid (Only (fun y => y = R) w (w.alloc (.cells #[.slice none 0 0, .slice none 0 0, .slice none 0 0] 107))) := only_of_below B1.out _
  go_enter Tryz.func150, Tryz.ntmps150
  go_wp2_with fail
  refine (giveUp_any R _ R1.out.er).mono ?_
  rintro e w2 ⟨⟨t, x, rfl⟩, rfl⟩
  go_wp2
  exact ⟨rfl, HON.out, .inl ⟨⟨t, x, rfl⟩, HPR.out⟩⟩
open Go.RowKit
set_option maxHeartbeats 2000000 in
theorem catch_gave (P O : Nat) {x y z b : Value} (t : TypeId) (pv : Value) (older : List PanicEntry) (w : World) (k : Bk w P 107 [x, y, z]) (ko : Bk w O 4 [b]) (hne : ¬ P = O) :
  CallsD Tryz.prog 149 #[.pointer (some ⟨P, 0, none⟩), .pointer (some ⟨O, 0, none⟩)] (.panicking ({ v := .iface t pv, recovered := false } :: older)) w fun e u' w' =>
   e = .returned (.tuple #[]) ∧ u' = .panicking ({ v := .iface t pv, recovered := true } :: older) ∧ w' = (((w.setCell ⟨P, 0, none⟩ (.slice none 0 0)).setCell ⟨P, 1, none⟩ (.slice none 0 0)).setCell ⟨P, 2, none⟩ (.slice none 0 0)).setCell ⟨O, 0, none⟩ (.bool false) := by
 have c0 := k.cell (j := 0) rfl
 have c1 := k.cell (j := 1) rfl
 have c2 := k.cell (j := 2) rfl
 have f0 := k.free 0
 have f1 := k.free 1
 have f2 := k.free 2
 have o0 := ko.cell (j := 0) rfl
 have g0 := ko.free 0
 refine callsD_of_wpS Tryz.func149 rfl fun c₀ cs hu => ?_
 apply wpS_seq
 apply wpS_region
 simp [wpOpsS, go_sem, recoverD, hu, Tryz.ntmps149, Exit.thenS]
 refine wpS_cond (t := true) (by simp [Act.eval, Array.replicate]) ?_
 simp only [if_true]
 apply wpS_region
 simp [wpOpsS, go_sem, c0, c1, c2, f0, f1, f2, o0, g0, bodyPostS, results, Tryz.results149]
set_option maxHeartbeats 2000000 in
theorem catch_none (P O : Nat) (w : World) :
  CallsD Tryz.prog 149 #[.pointer (some ⟨P, 0, none⟩), .pointer (some ⟨O, 0, none⟩)] .returning w fun e u' w' => e = .returned (.tuple #[]) ∧ u' = .returning ∧ w' = w := by
 refine callsD_of_wpS Tryz.func149 rfl fun c₀ cs hu => ?_
 apply wpS_seq
 apply wpS_region
 simp [wpOpsS, go_sem, recoverD, hu, Tryz.ntmps149, Exit.thenS]
 refine wpS_cond (t := false) (by simp [Act.eval, Array.replicate]) ?_
 simp only [Bool.false_eq_true, if_false]
 refine wpS_of_wp (wp_skip ?_)
 cases c₀
 simp_all [bodyPostS, results, Tryz.results149]
def IrPost (o : Option PG) (w : World) (e : Ending) (w' : World) : Prop := Below w.heap.size w w' ∧ ((o = none ∧ e = .returned (.tuple #[.agg #[.slice none 0 0, .slice none 0 0, .slice none 0 0], .bool false])) ∨ ∃ (p : PG) (ka : Option Addr) (kn kc : Nat) (va : Option Addr) (vn vc : Nat) (ia : Option Addr) (jn ic : Nat), o = some p ∧ e = .returned (.tuple #[.agg #[.slice ka kn kc, .slice va vn vc, .slice ia jn ic], .bool true]) ∧ PO w' (.slice ka kn kc) (.slice va vn vc) (.slice ia jn ic) p ∧ ∀ y, pbl (.slice ka kn kc) (.slice va vn vc) (.slice ia jn ic) y → w.heap.size ≤ y)
theorem results_pgb {fn : Func} {p u : Tmp} (h : fn.results = #[.cell p 107, .cell u 4]) (tmps : Array Value) (w : World) (g o : Nat) {x y z b : Value} (hp : tmps.getD p undef = .pointer (some ⟨g, 0, none⟩)) (hb : tmps.getD u undef = .pointer (some ⟨o, 0, none⟩))
  (c0 : w.cell? ⟨g, 0, none⟩ = some x) (c1 : w.cell? ⟨g, 1, none⟩ = some y) (c2 : w.cell? ⟨g, 2, none⟩ = some z) (d0 : w.cell? ⟨o, 0, none⟩ = some b) : (results fn tmps).run Tryz.prog w = .ok (.tuple #[.agg #[x, y, z], b]) w := by
 have hp' : tmps[p]?.getD undef = .pointer (some ⟨g, 0, none⟩) := by simpa using hp
 have hb' : tmps[u]?.getD undef = .pointer (some ⟨o, 0, none⟩) := by simpa using hb
 have hl : (loadVar 107 ⟨g, 0, none⟩).run Tryz.prog w = .ok (.agg #[x, y, z]) w := by go_simp
 have hl2 : (loadVar 4 ⟨o, 0, none⟩).run Tryz.prog w = .ok b w := by go_simp
 simp [results, h, hp', hb', asAddr, hl, hl2, Result.andThen]
set_option maxHeartbeats 4000000 in
set_option maxRecDepth 20000 in
theorem implPageRead_any (a : Option Addr) (n c : Nat) (zs : List Int) (w : World) (h : Rd w a n c zs) (he : Err w 0) (he2 : Err w 1) (he3 : Err w 2) :
  Calls Tryz.prog 117 #[.slice a n c] w fun e w' => IrPost (prd zs) w e w' := by
 have hmf : ∀ (fn : Fn) (first cap : Array Value) (w : World), (Instr.makeFunc fn first cap).run Tryz.prog w = .ok (.func fn first cap) w := fun _ _ _ _ => rfl
 have hb1 := below_new (o := .cells #[.slice none 0 0, .slice none 0 0, .slice none 0 0] 107) (w := w) (Below.refl _ _)
 have hb2 := below_new (o := .cells #[.bool false] 4) (w := w.alloc (.cells #[.slice none 0 0, .slice none 0 0, .slice none 0 0] 107)) (Below.refl _ _)
 have hb3 := below_new (o := .cells #[.slice a n c, .int .i64 0] 191) (w := (w.alloc (.cells #[.slice none 0 0, .slice none 0 0, .slice none 0 0] 107)).alloc (.cells #[.bool false] 4)) (Below.refl _ _)
 have hb := btw (btw hb1 hb2) hb3
 have KP : Hid (Bk (((w.alloc (.cells #[.slice none 0 0, .slice none 0 0, .slice none 0 0] 107)).alloc (.cells #[.bool false] 4)).alloc (.cells #[.slice a n c, .int .i64 0] 191)) w.heap.size 107 [.slice none 0 0, .slice none 0 0, .slice none 0 0]) := ((Bk.new w 107 [.slice none 0 0, .slice none 0 0, .slice none 0 0]).below hb2).below hb3
 have KO : Hid (Bk (((w.alloc (.cells #[.slice none 0 0, .slice none 0 0, .slice none 0 0] 107)).alloc (.cells #[.bool false] 4)).alloc (.cells #[.slice a n c, .int .i64 0] 191)) (w.heap.size + 1) 4 [.bool false]) := by
  have k := Bk.new (w.alloc (.cells #[.slice none 0 0, .slice none 0 0, .slice none 0 0] 107)) 4 [.bool false]
  have k2 : Bk ((w.alloc (.cells #[.slice none 0 0, .slice none 0 0, .slice none 0 0] 107)).alloc (.cells #[.bool false] 4)) (w.heap.size + 1) 4 [.bool false] := by simpa using k
  exact k2.below hb3
 have KR : Bk (((w.alloc (.cells #[.slice none 0 0, .slice none 0 0, .slice none 0 0] 107)).alloc (.cells #[.bool false] 4)).alloc (.cells #[.slice a n c, .int .i64 0] 191)) (w.heap.size + 2) 191 [.slice a n c, .int .i64 0] := by
  have k := Bk.new ((w.alloc (.cells #[.slice none 0 0, .slice none 0 0, .slice none 0 0] 107)).alloc (.cells #[.bool false] 4)) 191 [.slice a n c, .int .i64 0]
  simpa [Nat.add_assoc] using k
 have RS : Hid (Rs (((w.alloc (.cells #[.slice none 0 0, .slice none 0 0, .slice none 0 0] 107)).alloc (.cells #[.bool false] 4)).alloc (.cells #[.slice a n c, .int .i64 0] 191)) (w.heap.size + 2) a n c zs 0) :=
  ⟨KR, h.kept hb, fun x hx hp => by have := h.lt x hx hp; omega, he3.below hb he3.lt, by have := he3.lt; omega⟩
 have E1 := hid (he.below hb he.lt)
 have E2 := hid (he2.below hb he2.lt)
 have L1 : Hid (0 < w.heap.size + 2) := by have := he.lt; show _ < _; omega
 have L2 : Hid (1 < w.heap.size + 2) := by have := he2.lt; show _ < _; omega
 have HB := hid hb
 have HPG := hid (rpage_any (w.heap.size + 2) a n c zs _ RS.out E1.out E2.out L1.out L2.out)
 clear h he he2 he3 hb1 hb2 hb3 hb KR
 go_enter_defers Tryz.func117, Tryz.ntmps117
 go_wp2_with fail
 refine HPG.out.mono ?_
 generalize ((w.alloc (.cells #[.slice none 0 0, .slice none 0 0, .slice none 0 0] 107)).alloc (.cells #[.bool false] 4)).alloc (.cells #[.slice a n c, .int .i64 0] 191) = U at *
 rintro e w1 ⟨ho, hcase⟩
 have KP1 := hid (KP.out.to ho (fun e => by omega))
 have KO1 := hid (KO.out.to ho (fun e => by omega))
 have B1 : Hid (Below w.heap.size w w1) := HB.out.trans (ho.below HB.out.size (fun b hb e => by omega))
 have HU : Hid (w.heap.size ≤ U.heap.size) := HB.out.size
 have HUU : Hid (w.heap.size + 1 < U.heap.size) := KO.out.lt
 clear ho KP KO RS E1 E2 HB HPG
 rcases hcase with ⟨⟨t, x, rfl⟩, hno⟩ | ⟨ka, kn, kc, va, vn, vc, ia, jn, ic, p, rfl, hpo, hlo, hpr⟩
 ·have HNO := hid hno
  clear hno
  go_wp2
  refine leaves_cons (f := 149) (args := #[.pointer (some ⟨w.heap.size, 0, none⟩), .pointer (some ⟨w.heap.size + 1, 0, none⟩)]) (by simp) (by simp [go_sem]) ?_
  refine (catch_gave w.heap.size (w.heap.size + 1) t x [] _ KP1.out KO1.out (by omega)).mono ?_
  rintro e u' w2 ⟨rfl, rfl, hw2⟩
  have KP2 : Bk w2 w.heap.size 107 [.slice none 0 0, .slice none 0 0, .slice none 0 0] := by rw [hw2]; exact (((KP1.out.set 0 _).set 1 _).set 2 _).setOther (by omega) _ _
  have KO2 : Bk w2 (w.heap.size + 1) 4 [.bool false] := by rw [hw2]; exact (((KO1.out.setOther (by omega) _ _).setOther (by omega) _ _).setOther (by omega) _ _).set 0 _
  have B2 : Below w.heap.size w w2 := by rw [hw2]; exact (((B1.out.setCell (p := ⟨w.heap.size, 0, none⟩) (Nat.le_refl _) _).setCell (p := ⟨w.heap.size, 1, none⟩) (Nat.le_refl _) _).setCell (p := ⟨w.heap.size, 2, none⟩) (Nat.le_refl _) _).setCell (p := ⟨w.heap.size + 1, 0, none⟩) (Nat.le_succ _) _
  clear hw2
  simp only [settle]
  refine ⟨_, results_pgb (p := 2) (u := 3) Tryz.results117 _ w2 w.heap.size (w.heap.size + 1) rfl rfl (KP2.cell (j := 0) rfl) (KP2.cell (j := 1) rfl) (KP2.cell (j := 2) rfl) (KO2.cell (j := 0) rfl), ?_⟩
  exact ⟨B2, .inl ⟨HNO.out, rfl⟩⟩
 ·have HPO := hid hpo
  have HLO := hid hlo
  have HPR := hid hpr
  clear hpo hlo hpr
  have c0 := KP1.out.cell (j := 0) rfl
  have c1 := KP1.out.cell (j := 1) rfl
  have c2 := KP1.out.cell (j := 2) rfl
  have f0 := KP1.out.free 0
  have f1 := KP1.out.free 1
  have f2 := KP1.out.free 2
  have o0 := KO1.out.cell (j := 0) rfl
  have g0 := KO1.out.free 0
  go_wp2
  refine leaves_cons (f := 149) (args := #[.pointer (some ⟨w.heap.size, 0, none⟩), .pointer (some ⟨w.heap.size + 1, 0, none⟩)]) (by simp) (by simp [go_sem]) ?_
  refine (catch_none w.heap.size (w.heap.size + 1) _).mono ?_
  rintro e u' w2 ⟨rfl, rfl, hw2⟩
  have KP2 : Bk w2 w.heap.size 107 [.slice ka kn kc, .slice va vn vc, .slice ia jn ic] := by rw [hw2]; exact (((KP1.out.set 0 _).set 1 _).set 2 _).setOther (by omega) _ _
  have KO2 : Bk w2 (w.heap.size + 1) 4 [.bool true] := by rw [hw2]; exact (((KO1.out.setOther (by omega) _ _).setOther (by omega) _ _).setOther (by omega) _ _).set 0 _
  have B2 : Below w.heap.size w w2 := by rw [hw2]; exact (((B1.out.setCell (p := ⟨w.heap.size, 0, none⟩) (Nat.le_refl _) _).setCell (p := ⟨w.heap.size, 1, none⟩) (Nat.le_refl _) _).setCell (p := ⟨w.heap.size, 2, none⟩) (Nat.le_refl _) _).setCell (p := ⟨w.heap.size + 1, 0, none⟩) (Nat.le_succ _) _
  have O2 : Only (fun y => y = w.heap.size ∨ y = w.heap.size + 1) w1 w2 := by
   rw [hw2]
   exact (((only_set (R := fun y => y = w.heap.size ∨ y = w.heap.size + 1) (.inl rfl) _).trans (only_set (R := fun y => y = w.heap.size ∨ y = w.heap.size + 1) (.inl rfl) _)).trans (only_set (R := fun y => y = w.heap.size ∨ y = w.heap.size + 1) (.inl rfl) _)).trans (only_set (R := fun y => y = w.heap.size ∨ y = w.heap.size + 1) (.inr rfl) _)
  clear hw2
  simp only [Leaves, settle]
  refine ⟨_, results_pgb (p := 2) (u := 3) Tryz.results117 _ w2 w.heap.size (w.heap.size + 1) rfl rfl (KP2.cell (j := 0) rfl) (KP2.cell (j := 1) rfl) (KP2.cell (j := 2) rfl) (KO2.cell (j := 0) rfl), ?_⟩
  refine ⟨B2, .inr ⟨p, ka, kn, kc, va, vn, vc, ia, jn, ic, HPR.out, rfl, HPO.out.to O2 (fun y hy e => by have := HLO.out y hy; have := HUU.out; omega), fun y hy => by have := HLO.out y hy; have := HU.out; omega⟩⟩
open Go.RowKit
set_option linter.unusedVariables false
theorem step_append_w {P : Program} {w : World} {ops : Array Oper} {o : Oper} {a : Act} {K : Act → World → Prop} {Q : Exit → Act → World → Prop} {E : Prop} (hgd : o.guard = none) (s x : Operand) (t : TypeId)
  (ho : o.op = .call { callee := .builtin .append, args := #[s, x], argTypes := #[t, t] }) (B : Nat) (e : TypeId) (z : Value) (size bytes : Nat) (ht : P.underlying t = some (.slice e)) (hinfo : (P.info? e).map (fun i => (i.zero, i.size, i.bytes)) = some (some z, size, bytes)) (hzs : z.cells.size = size) (hsz : 0 < size) (hby : bytes ≤ 128)
  (v : Value) (n : Nat) (xs : List Value) (hs : a.eval s = v) (hown : w.ownsRow B e size v n xs) (g : Nat) (news : List Value) (hx : a.eval x = .slice (some ⟨g, 0, none⟩) 1 1) (hB : Rw w (fun _ => True) (.slice (some ⟨g, 0, none⟩) 1 1) 1 news) (hl : news.length = size) (h1 : ∀ u ∈ news, u.oneCell' = true) (hb : n ≤ 1048576) (hbase : B ≤ w.heap.size)
  (b0 o0 : Nat) (x0 : Value) (hc0 : w.cell? ⟨b0, o0, none⟩ = some x0) (hf0 : w.frozen? ⟨b0, o0, none⟩ = false) (hne : v.ownBlock ≠ some b0)
  (h : ∀ a' n' c' w', w'.ownsRow B e size (.slice a' n' c') (n + 1) (xs ++ news) → w.grownBy w' v.ownBlock → ((Value.slice a' n' c').ownBlock = v.ownBlock ∨ (Value.slice a' n' c').ownBlock = some w.heap.size) → w'.cell? ⟨b0, o0, none⟩ = some x0 → w'.frozen? ⟨b0, o0, none⟩ = false → K (a.put o.dst (.slice a' n' c')) w') :
  if Region.wanted o (yielded ops a.tmps) = true then Oper.wp P o a w K Q else E := by
 have hw : Region.wanted o (yielded ops a.tmps) = true := by simp [Region.wanted, hgd]
 rw [if_pos hw]
 obtain ⟨i, hi, hz, hsz', hby'⟩ := info_of hinfo
 obtain ⟨v', w', hr, h2, h3, h5⟩ := run_append_row_at (P := P) (w := w) B t o.type e i z size bytes ht hi hz hsz' hby' hzs hsz v n xs hown (fun _ => True) _ 1 news hB (by omega) h1 (by unfold maxLen; omega) (by have := Nat.mul_le_mul (show n + 1 ≤ 1048577 by omega) hby; omega) hbase
 obtain ⟨a', c', rfl⟩ := own_shape h2
 have hbl := h3.block b0 (block_lt hc0) (fun e => hne e.symm)
 unfold Oper.wp execOp
 simp only [ho, resolve, invoke, builtin, Sem.run_bind, Sem.run_pure, Result.andThen_ok, List.map_toArray, List.map_cons, List.map_nil, hs, hx, hr]
 exact h a' _ c' w' h2 h3 h5 ((World.cell?_of_block (w := w) (a := ⟨b0, o0, none⟩) hbl).trans hc0) ((World.frozen?_of_block (w := w) (a := ⟨b0, o0, none⟩) hbl).trans hf0)
theorem addK_split (ns : List NB) {me : Nat} (h : me < ns.length) (q : Int) : ∃ ms l, ms.length = me ∧ ns = ms ++ nAt ns me :: l ∧ addK ns me q = ms ++ ⟨(nAt ns me).ps, (nAt ns me).keys, (nAt ns me).kids ++ [q]⟩ :: l := by
 refine ⟨ns.take me, ns.drop (me + 1), by simp; omega, ?_, ?_⟩
 ·have e : nAt ns me = ns[me] := by simp [nAt, h]
  rw [e, ← List.drop_eq_getElem_cons h, List.take_append_drop]
 ·rw [addK, List.set_eq_take_append_cons_drop, if_pos h]
structure RS (v : World) (P : Nat → Prop) (r : Nat) (sl : Value) (na : Option Addr) (nn nc : Nat) (pa : Option Addr) (pn pc : Nat) (V : List V3) (s : LS) : Prop where
 box : Bk v r 126 [sl, .slice na nn nc, .slice pa pn pc]
 nod : NA v (.slice na nn nc) V s.1
 pla : v.ownsRow 0 3 1 (.slice pa pn pc) s.2.length (s.2.map (Value.int .i64))
 pr : P r
 pn' : ∀ y, (Value.slice na nn nc).ownBlock = some y → P y ∧ y ≠ r
 pb : ∀ i, i < s.1.length → ∀ y, bl (vAt V i) y → P y ∧ y ≠ r
 pp : ∀ y, (Value.slice pa pn pc).ownBlock = some y → P y ∧ y ≠ r ∧ (Value.slice na nn nc).ownBlock ≠ some y ∧ ∀ i, i < s.1.length → ¬ bl (vAt V i) y
theorem RS.below {v v' : World} {P : Nat → Prop} {r : Nat} {sl : Value} {na : Option Addr} {nn nc : Nat} {pa : Option Addr} {pn pc : Nat} {V : List V3} {s : LS} (h : RS v P r sl na nn nc pa pn pc V s) (hb : Below v.heap.size v v') : RS v' P r sl na nn nc pa pn pc V s :=
 ⟨h.box.below hb, h.nod.kept hb, own_kept h.pla (only_of_below hb (fun _ => False)) (fun _ _ h => h), h.pr, h.pn', h.pb, h.pp⟩
theorem RS.mono {v : World} {P Q : Nat → Prop} {r : Nat} {sl : Value} {na : Option Addr} {nn nc : Nat} {pa : Option Addr} {pn pc : Nat} {V : List V3} {s : LS} (h : RS v P r sl na nn nc pa pn pc V s) (hq : ∀ y, y < v.heap.size → P y → Q y) : RS v Q r sl na nn nc pa pn pc V s :=
 ⟨h.box, h.nod, h.pla, hq _ h.box.lt h.pr, fun y e => ⟨hq y (World.ownsRow.lt h.nod.row y e).2 (h.pn' y e).1, (h.pn' y e).2⟩, fun i hi y e => ⟨hq y ((h.nod.own i hi).1.lt e) (h.pb i hi y e).1, (h.pb i hi y e).2⟩, fun y e => ⟨hq y (World.ownsRow.lt h.pla y e).2 (h.pp y e).1, (h.pp y e).2⟩⟩
theorem RS.pushN {u w2 : World} {P : Nat → Prop} {r : Nat} {sl : Value} {na : Option Addr} {nn nc : Nat} {pa : Option Addr} {pn pc : Nat} {V : List V3} {s : LS} (h : RS u P r sl na nn nc pa pn pc V s) (x : NB) (p : V3) (hx : OwN u p x) (hap : ap3 p)
  (hd : ∀ y, bl p y → P y ∧ y ≠ r ∧ (Value.slice na nn nc).ownBlock ≠ some y ∧ (Value.slice pa pn pc).ownBlock ≠ some y ∧ ∀ i, i < s.1.length → ¬ bl (vAt V i) y) (hP : P u.heap.size) {a5 : Option Addr} {n5 c5 : Nat}
  (ho : w2.ownsRow 0 85 3 (.slice a5 n5 c5) (s.1.length + 1) (ncs V ++ [p.1, p.2.1, p.2.2])) (hg : u.grownBy w2 (Value.slice na nn nc).ownBlock) (ha : (Value.slice a5 n5 c5).ownBlock = (Value.slice na nn nc).ownBlock ∨ (Value.slice a5 n5 c5).ownBlock = some u.heap.size) :
  RS (w2.setCell ⟨r, 1, none⟩ (.slice a5 n5 c5)) P r sl a5 n5 c5 pa pn pc (V ++ [p]) (s.1 ++ [x], s.2) := by
 have o : Only (fun y => (Value.slice na nn nc).ownBlock = some y) u w2 := only_of_grown hg (fun k e => e)
 have o2 : Only (fun y => y = r) w2 (w2.setCell ⟨r, 1, none⟩ (.slice a5 n5 c5)) := only_set (R := fun y => y = r) rfl _
 have hr := h.box.lt
 have hl := h.nod.len
 have hN := h.nod.push x p hx hap (fun y hy => ⟨(hd y hy).2.2.1, (hd y hy).2.2.2.2⟩) ho hg ha
 have hat : ∀ i, i < (s.1 ++ [x]).length → (i < s.1.length ∧ vAt (V ++ [p]) i = vAt V i) ∨ (i = s.1.length ∧ vAt (V ++ [p]) i = p) := by
  intro i hi
  simp at hi
  by_cases e : i < s.1.length
  ·exact .inl ⟨e, vAt_append_left (by omega)⟩
  ·obtain rfl : i = s.1.length := by omega
   exact .inr ⟨rfl, by rw [← hl, vAt_append_at]⟩
 have hn5 : ∀ y, (Value.slice a5 n5 c5).ownBlock = some y → P y ∧ y ≠ r ∧ (Value.slice pa pn pc).ownBlock ≠ some y := by
  intro y e
  rcases ha with ha | ha
  ·rw [ha] at e
   exact ⟨(h.pn' y e).1, (h.pn' y e).2, fun e2 => (h.pp y e2).2.2.1 e⟩
  ·rw [ha] at e
   cases e
   exact ⟨hP, by omega, fun e2 => by have := (World.ownsRow.lt h.pla _ e2).2; omega⟩
 have hb5 : ∀ i, i < (s.1 ++ [x]).length → ∀ y, bl (vAt (V ++ [p]) i) y → P y ∧ y ≠ r ∧ (Value.slice pa pn pc).ownBlock ≠ some y := by
  intro i hi y hy
  rcases hat i hi with ⟨e, e1⟩ | ⟨e, e1⟩
  ·rw [e1] at hy
   exact ⟨(h.pb i e y hy).1, (h.pb i e y hy).2, fun e2 => (h.pp y e2).2.2.2 i e hy⟩
  ·rw [e1] at hy
   exact ⟨(hd y hy).1, (hd y hy).2.1, (hd y hy).2.2.2.1⟩
 refine ⟨?_, hN.to o2 (fun y e => (hn5 y e).2.1) (fun i hi y hy => (hb5 i hi y hy).2.1), own_kept (own_kept h.pla o (fun y e => (h.pp y e).2.2.1)) o2 (fun y e => (h.pp y e).2.1), h.pr, fun y e => ⟨(hn5 y e).1, (hn5 y e).2.1⟩, fun i hi y hy => ⟨(hb5 i hi y hy).1, (hb5 i hi y hy).2.1⟩, fun y e => ⟨(h.pp y e).1, (h.pp y e).2.1, fun e2 => (hn5 y e2).2.2 e, fun i hi hy => (hb5 i hi y hy).2.2 e⟩⟩
 exact (h.box.to o (fun e => (h.pn' r e).2 rfl)).set 1 _
theorem RS.pushP {u w2 : World} {P : Nat → Prop} {r : Nat} {sl : Value} {na : Option Addr} {nn nc : Nat} {pa : Option Addr} {pn pc : Nat} {V : List V3} {s : LS} (h : RS u P r sl na nn nc pa pn pc V s) (t : Int) (hP : P u.heap.size) {a5 : Option Addr} {n5 c5 : Nat}
  (ho : w2.ownsRow 0 3 1 (.slice a5 n5 c5) (s.2.length + 1) (s.2.map (Value.int .i64) ++ [.int .i64 t])) (hg : u.grownBy w2 (Value.slice pa pn pc).ownBlock) (ha : (Value.slice a5 n5 c5).ownBlock = (Value.slice pa pn pc).ownBlock ∨ (Value.slice a5 n5 c5).ownBlock = some u.heap.size) :
  RS (w2.setCell ⟨r, 2, none⟩ (.slice a5 n5 c5)) P r sl na nn nc a5 n5 c5 V (s.1, s.2 ++ [t]) := by
 have o : Only (fun y => (Value.slice pa pn pc).ownBlock = some y) u w2 := only_of_grown hg (fun k e => e)
 have o2 : Only (fun y => y = r) w2 (w2.setCell ⟨r, 2, none⟩ (.slice a5 n5 c5)) := only_set (R := fun y => y = r) rfl _
 have hr := h.box.lt
 have h5 : ∀ y, (Value.slice a5 n5 c5).ownBlock = some y → P y ∧ y ≠ r ∧ (Value.slice na nn nc).ownBlock ≠ some y ∧ ∀ i, i < s.1.length → ¬ bl (vAt V i) y := by
  intro y e
  rcases ha with ha | ha
  ·rw [ha] at e; exact h.pp y e
  ·rw [ha] at e
   cases e
   exact ⟨hP, by omega, fun e2 => by have := (World.ownsRow.lt h.nod.row _ e2).2; omega, fun i hi hy => by have := (h.nod.own i hi).1.lt hy; omega⟩
 refine ⟨?_, (h.nod.to o (fun y e e2 => (h.pp y e2).2.2.1 e) (fun i hi y hy e2 => (h.pp y e2).2.2.2 i hi hy)).to o2 (fun y e => (h.pn' y e).2) (fun i hi y hy => (h.pb i hi y hy).2), own_kept ?_ o2 (fun y e => (h5 y e).2.1), h.pr, h.pn', h.pb, h5⟩
 ·exact (h.box.to o (fun e => (h.pp r e).2.1 rfl)).set 2 _
 ·simpa using ho
theorem RS.kid {u w2 : World} {P : Nat → Prop} {r : Nat} {sl : Value} {g nn nc : Nat} {pa : Option Addr} {pn pc : Nat} {V : List V3} {s : LS} (h : RS u P r sl (some ⟨g, 0, none⟩) nn nc pa pn pc V s) {me : Nat} (hme : me < s.1.length) (q : Int) (hP : P u.heap.size) {a5 : Option Addr} {n5 c5 : Nat}
  (ho : w2.ownsRow 0 3 1 (.slice a5 n5 c5) ((nAt s.1 me).kids.length + 1) ((nAt s.1 me).kids.map (Value.int .i64) ++ [.int .i64 q])) (hg : u.grownBy w2 (vAt V me).2.2.ownBlock) (ha : (Value.slice a5 n5 c5).ownBlock = (vAt V me).2.2.ownBlock ∨ (Value.slice a5 n5 c5).ownBlock = some u.heap.size) :
  RS (w2.setCell ⟨g, me * 3 + 2, none⟩ (.slice a5 n5 c5)) P r sl (some ⟨g, 0, none⟩) nn nc pa pn pc (V.set me ((vAt V me).1, (vAt V me).2.1, .slice a5 n5 c5)) (addK s.1 me q, s.2) := by
 have o : Only (fun y => (vAt V me).2.2.ownBlock = some y) u w2 := only_of_grown hg (fun k e => e)
 have o2 : Only (fun y => y = g) w2 (w2.setCell ⟨g, me * 3 + 2, none⟩ (.slice a5 n5 c5)) := only_set (R := fun y => y = g) rfl _
 have hr := h.box.lt
 have hl := h.nod.len
 have hgr : g ≠ r := (h.pn' g rfl).2
 have hN : NA (w2.setCell ⟨g, me * 3 + 2, none⟩ (.slice a5 n5 c5)) (.slice (some ⟨g, 0, none⟩) nn nc) (V.set me ((vAt V me).1, (vAt V me).2.1, .slice a5 n5 c5)) (addK s.1 me q) := by
  obtain ⟨ms, l, hm, e1, e2⟩ := addK_split s.1 hme q
  have hna := h.nod
  generalize nAt s.1 me = z at *
  rw [e2]
  rw [e1] at hna
  subst hm
  exact hna.addKid ho hg (ha.imp id (fun e => ⟨_, e, Nat.le_refl _⟩))
 have hb5 : ∀ i, i < s.1.length → ∀ y, bl (vAt (V.set me ((vAt V me).1, (vAt V me).2.1, .slice a5 n5 c5)) i) y → P y ∧ y ≠ r ∧ (Value.slice pa pn pc).ownBlock ≠ some y := by
  intro i hi y hy
  have hold : bl (vAt V i) y → P y ∧ y ≠ r ∧ (Value.slice pa pn pc).ownBlock ≠ some y := fun hy => ⟨(h.pb i hi y hy).1, (h.pb i hi y hy).2, fun e2 => (h.pp y e2).2.2.2 i hi hy⟩
  by_cases e : i = me
  ·subst e
   rw [vAt_set _ _ _ (by omega)] at hy
   rcases hy with hy | hy | hy
   ·exact hold (.inl hy)
   ·exact hold (.inr (.inl hy))
   ·simp only at hy
    rcases ha with ha | ha
    ·rw [ha] at hy; exact hold (.inr (.inr hy))
    ·rw [ha] at hy
     cases hy
     exact ⟨hP, by omega, fun e2 => by have := (World.ownsRow.lt h.pla _ e2).2; omega⟩
  ·rw [vAt_other _ _ _ _ e] at hy
   exact hold hy
 refine ⟨(h.box.to o (fun e => (h.pb me hme r (.inr (.inr e))).2 rfl)).to o2 (fun e => hgr e.symm), hN, own_kept (own_kept h.pla o (fun y e e2 => (h.pp y e).2.2.2 me hme (.inr (.inr e2)))) o2 (fun y e e2 => (h.pp y e).2.2.1 (by rw [e2]; rfl)), h.pr, h.pn', fun i hi y hy => ?_, fun y e => ⟨(h.pp y e).1, (h.pp y e).2.1, (h.pp y e).2.2.1, fun i hi hy => ?_⟩⟩
 ·simp only [addK_len] at hi
  exact ⟨(hb5 i hi y hy).1, (hb5 i hi y hy).2.1⟩
 ·simp only [addK_len] at hi
  exact (hb5 i hi y hy).2.2 e
structure RH (w : World) (S : Nat → Prop) (sl : Value) (ss : List (List Int)) : Prop where
 sh : Shr w S sl ss
 e1 : Err w 0 ∧ S 0
 e2 : Err w 1 ∧ S 1
 e3 : Err w 2 ∧ S 2
 sm : ∀ i, i < ss.length → (shAt ss i).length ≤ 1048576
theorem RH.to {w w' : World} {S R : Nat → Prop} {sl : Value} {ss : List (List Int)} (h : RH w S sl ss) (ho : Only R w w') (hd : ∀ b, S b → ¬ R b) : RH w' S sl ss :=
 ⟨h.sh.to ho (fun b hb _ => hd b hb), ⟨h.e1.1.only ho (hd _ h.e1.2), h.e1.2⟩, ⟨h.e2.1.only ho (hd _ h.e2.2), h.e2.2⟩, ⟨h.e3.1.only ho (hd _ h.e3.2), h.e3.2⟩, h.sm⟩
def RePost (ss : List (List Int)) (f : Nat) (P : Nat → Prop) (r : Nat) (sl : Value) (t : Int) (s : LS) (w : World) (e : Ending) (w' : World) : Prop :=
 Only P w w' ∧ ((ldV ss f t s = none ∧ e = .returned (.bool false)) ∨ ∃ s' na nn nc pa pn pc V, ldV ss f t s = some s' ∧ s'.2.length = s'.1.length ∧ e = .returned (.bool true) ∧ RS w' (fun y => P y ∨ w.heap.size ≤ y) r sl na nn nc pa pn pc V s')
def RdAll (ss : List (List Int)) (f : Nat) (sa : Option Addr) (sn sc r : Nat) : Prop := ∀ (S P : Nat → Prop) (na : Option Addr) (nn nc : Nat) (pa : Option Addr) (pn pc : Nat) (V : List V3) (s : LS) (t : Int) (w : World),
 RH w S (.slice sa sn sc) ss → (∀ y, S y → y < w.heap.size ∧ ¬ P y) → (∀ y, P y → y < w.heap.size) → RS w P r (.slice sa sn sc) na nn nc pa pn pc V s → s.2.length = s.1.length → s.1.length ≤ 400 → 400 ≤ s.1.length + f → 0 ≤ t →
 Calls Tryz.prog 76 #[.pointer (some ⟨r, 0, none⟩), .int .i64 t] w fun e w' => RePost ss f P r (.slice sa sn sc) t s w e w'
end Go.Proofs.YtidjehapeanpbaaGreatDoor
