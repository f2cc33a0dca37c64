/-
  The reader's leaves and branches: what is kept at hand.
-/
import Derived.Test.YtpgogpphobafoaaDoorMr3
import Derived.RegionDies
namespace Go.Proofs.YtpgogpphobafoaaDoor
open Go.RowKit
/-- The world's first B blocks. -/
def cutW (v : World) (B : Nat) : World := { v with heap := v.heap.extract 0 B }
theorem cutW_size {v : World} {B : Nat} (h : B ≤ v.heap.size) : (cutW v B).heap.size = B := by
  simp [cutW]
  omega
theorem cutW_below {v : World} {B : Nat} (h : B ≤ v.heap.size) : Below B (cutW v B) v := by
  refine ⟨rfl, rfl, rfl, by rw [cutW_size h]; exact h, fun i hi => ?_⟩
  show v.heap[i]? = (v.heap.extract 0 B)[i]?
  rw [Array.getElem?_extract]
  simp
  omega
/-- The page that is being read lies in the box behind the result's, its rows its own and apart, whatever lies below. -/
def Pr2 (B : Nat) (v : World) (kv vv iv : Value) (p : PG) : Prop := ∃ u : World, u.heap.size = B ∧ Pr1 u v kv vv iv p
theorem Pr2.to {B : Nat} {v v' : World} {kv vv iv : Value} {p : PG} {P : Nat → Prop} (h : Pr2 B v kv vv iv p) (ho : Only P v v') (hP : ∀ y, P y → y < B) : Pr2 B v' kv vv iv p := by
  obtain ⟨u, rfl, h⟩ := h
  have hB : u.heap.size ≤ v'.heap.size := Nat.le_trans h.be.size ho.size
  refine ⟨cutW v' u.heap.size, cutW_size hB, ?_⟩
  have hs := cutW_size hB
  have hb := cutW_below hB
  refine ⟨by rw [hs]; exact hb, ?_, ?_, ?_, ?_, ?_, ?_, h.ap⟩
  · rw [hs]; exact h.rb.to ho (fun hr => by have := hP _ hr; omega)
  · rw [hs]; exact h.bk.to ho (fun hr => by have := hP _ hr; omega)
  · exact own_kept h.hk ho (fun k e hr => by have := hP _ hr; have := h.lo k (.inl e); omega)
  · exact own_kept h.hv ho (fun k e hr => by have := hP _ hr; have := h.lo k (.inr (.inl e)); omega)
  · exact own_kept h.hi ho (fun k e hr => by have := hP _ hr; have := h.lo k (.inr (.inr e)); omega)
  · rw [hs]; exact h.lo
theorem Pr2.below {B : Nat} {v v' : World} {kv vv iv : Value} {p : PG} (h : Pr2 B v kv vv iv p) (hb : Below v.heap.size v v') : Pr2 B v' kv vv iv p := by
  obtain ⟨u, rfl, h⟩ := h
  exact ⟨u, rfl, h.below hb⟩
theorem Pr2.start (w : World) : Pr2 w.heap.size ((w.alloc (.cells #[.slice none 0 0, .slice none 0 0, .slice none 0 0] 30)).alloc (.cells #[.slice none 0 0, .slice none 0 0, .slice none 0 0] 30)) (.slice none 0 0) (.slice none 0 0) (.slice none 0 0) ⟨[], [], []⟩ := by
  have ba : Below w.heap.size w ((w.alloc (.cells #[.slice none 0 0, .slice none 0 0, .slice none 0 0] 30)).alloc (.cells #[.slice none 0 0, .slice none 0 0, .slice none 0 0] 30)) := below_new (below_new (Below.refl _ _))
  have k1 := Bk.new (w.alloc (.cells #[.slice none 0 0, .slice none 0 0, .slice none 0 0] 30)) 30 [.slice none 0 0, .slice none 0 0, .slice none 0 0]
  exact ⟨w, rfl, ba, (Bk.new w 30 [.slice none 0 0, .slice none 0 0, .slice none 0 0]).alloc _, by simpa using k1, World.ownsRow_nil _ _ _ _, World.ownsRow_nil _ _ _ _, World.ownsRow_nil _ _ _ _, fun y hy => (by rcases hy with e | e | e <;> cases e), fun y => ⟨fun e => (by cases e), fun e => (by cases e)⟩⟩
/-- What a reader of leaves and branches has at hand. -/
structure Lf (w v : World) (R : Nat) (a : Option Addr) (n c : Nat) (zs : List Int) (q : Int) (kv vv iv : Value) (p : PG) : Prop where
  rs : Rs v R a n c zs q
  pr : Pr2 w.heap.size v kv vv iv p
  on : Only (fun y => y = R) w v
  lt : R < w.heap.size
theorem Lf.below {w v v' : World} {R : Nat} {a : Option Addr} {n c : Nat} {zs : List Int} {q : Int} {kv vv iv : Value} {p : PG} (h : Lf w v R a n c zs q kv vv iv p) (hb : Below v.heap.size v v') : Lf w v' R a n c zs q kv vv iv p :=
  ⟨h.rs.below hb, h.pr.below hb, h.on.trans (only_of_below hb _), h.lt⟩
theorem Lf.went {w v v' : World} {R : Nat} {a : Option Addr} {n c : Nat} {zs : List Int} {q q' : Int} {kv vv iv : Value} {p : PG} (h : Lf w v R a n c zs q kv vv iv p) (ho : Only (fun y => y = R) v v') (hk : Bk v' R 70 [.slice a n c, .int .i64 q']) : Lf w v' R a n c zs q' kv vv iv p :=
  ⟨h.rs.went ho hk, h.pr.to ho (fun y e => by have := h.lt; omega), h.on.trans ho, h.lt⟩
theorem Lf.cells {w v : World} {R : Nat} {a : Option Addr} {n c : Nat} {zs : List Int} {q : Int} {kv vv iv : Value} {p : PG} (h : Lf w v R a n c zs q kv vv iv p) :
    (v.cell? ⟨w.heap.size + 1, 0, none⟩ = some kv ∧ v.cell? ⟨w.heap.size + 1, 1, none⟩ = some vv ∧ v.cell? ⟨w.heap.size + 1, 2, none⟩ = some iv) ∧ (v.frozen? ⟨w.heap.size + 1, 0, none⟩ = false ∧ v.frozen? ⟨w.heap.size + 1, 1, none⟩ = false ∧ v.frozen? ⟨w.heap.size + 1, 2, none⟩ = false) := by
  obtain ⟨u, hu, k⟩ := h.pr
  rw [← hu]
  exact ⟨k.cells, k.bk.free 0, k.bk.free 1, k.bk.free 2⟩
theorem Lf.rcells {w v : World} {R : Nat} {a : Option Addr} {n c : Nat} {zs : List Int} {q : Int} {kv vv iv : Value} {p : PG} (h : Lf w v R a n c zs q kv vv iv p) :
    (v.cell? ⟨w.heap.size, 0, none⟩ = some (.slice none 0 0) ∧ v.cell? ⟨w.heap.size, 1, none⟩ = some (.slice none 0 0) ∧ v.cell? ⟨w.heap.size, 2, none⟩ = some (.slice none 0 0)) ∧ (v.frozen? ⟨w.heap.size, 0, none⟩ = false ∧ v.frozen? ⟨w.heap.size, 1, none⟩ = false ∧ v.frozen? ⟨w.heap.size, 2, none⟩ = false) := by
  obtain ⟨u, hu, k⟩ := h.pr
  rw [← hu]
  exact ⟨⟨k.rb.cell (j := 0) rfl, k.rb.cell (j := 1) rfl, k.rb.cell (j := 2) rfl⟩, k.rb.free 0, k.rb.free 1, k.rb.free 2⟩
theorem Lf.own {w v : World} {R : Nat} {a : Option Addr} {n c : Nat} {zs : List Int} {q : Int} {kv vv iv : Value} {p : PG} (h : Lf w v R a n c zs q kv vv iv p) :
    v.ownsRow 0 9 1 kv p.keys.length (p.keys.map Value.string) ∧ v.ownsRow 0 9 1 vv p.vals.length (p.vals.map Value.string) ∧ v.ownsRow 0 3 1 iv p.kids.length (p.kids.map (Value.int .i64)) ∧
    (∀ y, (kv.ownBlock = some y ∨ vv.ownBlock = some y ∨ iv.ownBlock = some y) → w.heap.size + 1 < y) := by
  obtain ⟨u, hu, k⟩ := h.pr
  rw [← hu]
  exact ⟨k.hk, k.hv, k.hi, k.lo⟩
theorem Lf.ne {w v : World} {R : Nat} {a : Option Addr} {n c : Nat} {zs : List Int} {q : Int} {kv vv iv : Value} {p : PG} (h : Lf w v R a n c zs q kv vv iv p) : kv.ownBlock ≠ some (w.heap.size + 1) ∧ vv.ownBlock ≠ some (w.heap.size + 1) ∧ iv.ownBlock ≠ some (w.heap.size + 1) :=
  ⟨fun e => by have := h.own.2.2.2 _ (.inl e); omega, fun e => by have := h.own.2.2.2 _ (.inr (.inl e)); omega, fun e => by have := h.own.2.2.2 _ (.inr (.inr e)); omega⟩
theorem Lf.grow {w v w' : World} {R : Nat} {a : Option Addr} {n c : Nat} {zs : List Int} {q : Int} {kv vv iv : Value} {p : PG} (h : Lf w v R a n c zs q kv vv iv p) {r : Value} (hr : ∀ y, r.ownBlock = some y → w.heap.size + 1 < y) (hg : v.grownBy w' r.ownBlock) (o : Nat) (x : Value) : Rs (w'.setCell ⟨w.heap.size + 1, o, none⟩ x) R a n c zs q ∧ Only (fun y => y = R) w (w'.setCell ⟨w.heap.size + 1, o, none⟩ x) := by
  have h1 : Only (fun y => w.heap.size < y) v w' := only_of_grown hg (fun k e => by have := hr k e; omega)
  have h2 : Only (fun y => w.heap.size < y) w' (w'.setCell ⟨w.heap.size + 1, o, none⟩ x) := only_set (R := fun y => w.heap.size < y) (Nat.lt_succ_self _) _
  have h3 := h1.trans h2
  exact ⟨h.rs.to h3 (fun y hy => by have := h.lt; omega), h.on.then h3 (fun i hi hr => by omega)⟩
theorem Lf.addK {w v w' : World} {R : Nat} {a : Option Addr} {n c : Nat} {zs : List Int} {q : Int} {kv vv iv nw : Value} {p : PG} {s : ByteArray} (h : Lf w v R a n c zs q kv vv iv p) (hO : w'.ownsRow 0 9 1 nw (p.keys.length + 1) (p.keys.map (Value.string) ++ [Value.string s])) (hg : v.grownBy w' kv.ownBlock) (ha : nw.ownBlock = kv.ownBlock ∨ nw.ownBlock = some v.heap.size) :
    Lf w (w'.setCell ⟨w.heap.size + 1, 0, none⟩ nw) R a n c zs q nw vv iv ⟨p.keys ++ [s], p.vals, p.kids⟩ := by
  have hl := h.own.2.2.2
  obtain ⟨h1, h2⟩ := h.grow (r := kv) (fun y e => hl y (.inl e)) hg 0 nw
  obtain ⟨u, hu, k⟩ := h.pr
  have k2 := (k.addK hO hg (ha.imp id (fun e => ⟨_, e, Nat.le_refl _⟩))).1
  rw [hu] at k2
  exact ⟨h1, ⟨u, hu, k2⟩, h2, h.lt⟩
theorem Lf.addV {w v w' : World} {R : Nat} {a : Option Addr} {n c : Nat} {zs : List Int} {q : Int} {kv vv iv nw : Value} {p : PG} {s : ByteArray} (h : Lf w v R a n c zs q kv vv iv p) (hO : w'.ownsRow 0 9 1 nw (p.vals.length + 1) (p.vals.map (Value.string) ++ [Value.string s])) (hg : v.grownBy w' vv.ownBlock) (ha : nw.ownBlock = vv.ownBlock ∨ nw.ownBlock = some v.heap.size) :
    Lf w (w'.setCell ⟨w.heap.size + 1, 1, none⟩ nw) R a n c zs q kv nw iv ⟨p.keys, p.vals ++ [s], p.kids⟩ := by
  have hl := h.own.2.2.2
  obtain ⟨h1, h2⟩ := h.grow (r := vv) (fun y e => hl y (.inr (.inl e))) hg 1 nw
  obtain ⟨u, hu, k⟩ := h.pr
  have k2 := (k.addV hO hg (ha.imp id (fun e => ⟨_, e, Nat.le_refl _⟩))).1
  rw [hu] at k2
  exact ⟨h1, ⟨u, hu, k2⟩, h2, h.lt⟩
theorem Lf.addI {w v w' : World} {R : Nat} {a : Option Addr} {n c : Nat} {zs : List Int} {q : Int} {kv vv iv nw : Value} {p : PG} {s : Int} (h : Lf w v R a n c zs q kv vv iv p) (hO : w'.ownsRow 0 3 1 nw (p.kids.length + 1) (p.kids.map (Value.int .i64) ++ [Value.int .i64 s])) (hg : v.grownBy w' iv.ownBlock) (ha : nw.ownBlock = iv.ownBlock ∨ nw.ownBlock = some v.heap.size) :
    Lf w (w'.setCell ⟨w.heap.size + 1, 2, none⟩ nw) R a n c zs q kv vv nw ⟨p.keys, p.vals, p.kids ++ [s]⟩ := by
  have hl := h.own.2.2.2
  obtain ⟨h1, h2⟩ := h.grow (r := iv) (fun y e => hl y (.inr (.inr e))) hg 2 nw
  obtain ⟨u, hu, k⟩ := h.pr
  have k2 := (k.addI hO hg (ha.imp id (fun e => ⟨_, e, Nat.le_refl _⟩))).1
  rw [hu] at k2
  exact ⟨h1, ⟨u, hu, k2⟩, h2, h.lt⟩
/-- A leaf or a branch (K) is read, or the reader gives up where no page of that kind has these bytes. -/
def LfP (zs : List Int) (K : PG → Prop) (R : Nat) (a : Option Addr) (n c : Nat) (w : World) (e : Ending) (w' : World) : Prop :=
  Only (fun y => y = R) w w' ∧ ((Gave e ∧ ∀ p0, pgBytes p0 = some zs → K p0 → False) ∨ ∃ (ka : Option Addr) (kn kc : Nat) (va : Option Addr) (vn vc : Nat) (ia : Option Addr) (jn ic : Nat) (p : PG), e = .returned (.agg #[.slice ka kn kc, .slice va vn vc, .slice ia jn ic]) ∧
    PO w' (.slice ka kn kc) (.slice va vn vc) (.slice ia jn ic) p ∧ (∀ y, pbl (.slice ka kn kc) (.slice va vn vc) (.slice ia jn ic) y → w.heap.size ≤ y) ∧ (∃ q, Rs w' R a n c zs q) ∧ ∀ p0, pgBytes p0 = some zs → K p0 → p = p0)
theorem Lf.po {w v : World} {R : Nat} {a : Option Addr} {n c : Nat} {zs : List Int} {q : Int} {kv vv iv : Value} {p : PG} (h : Lf w v R a n c zs q kv vv iv p) : PO v kv vv iv p ∧ ∀ y, pbl kv vv iv y → w.heap.size + 1 < y := by
  have hl := h.own.2.2.2
  obtain ⟨u, hu, k⟩ := h.pr
  exact ⟨⟨k.hk, k.hv, k.hi, k.ap⟩, hl⟩
/-- The call's end: the page goes from its box into the result's. -/
theorem Lf.done {w v : World} {R : Nat} {a : Option Addr} {n c : Nat} {zs : List Int} {q : Int} {kv vv iv : Value} {p : PG} (h : Lf w v R a n c zs q kv vv iv p) (x y z : Value) {K : PG → Prop} (hp : ∀ p0, pgBytes p0 = some zs → K p0 → p = p0) :
    LfP zs K R a n c w (.returned (.agg #[kv, vv, iv])) (((v.setCell ⟨w.heap.size, 0, none⟩ x).setCell ⟨w.heap.size, 1, none⟩ y).setCell ⟨w.heap.size, 2, none⟩ z) := by
  have ho : Only (fun y => y = w.heap.size) v (((v.setCell ⟨w.heap.size, 0, none⟩ x).setCell ⟨w.heap.size, 1, none⟩ y).setCell ⟨w.heap.size, 2, none⟩ z) :=
    ((only_set (R := fun y => y = w.heap.size) rfl _).trans (only_set (R := fun y => y = w.heap.size) rfl _)).trans (only_set (R := fun y => y = w.heap.size) rfl _)
  obtain ⟨k1, k2⟩ := h.po
  obtain ⟨ka, kc, rfl⟩ := own_shape k1.hk
  obtain ⟨va, vc, rfl⟩ := own_shape k1.hv
  obtain ⟨ia, ic, rfl⟩ := own_shape k1.hi
  refine ⟨h.on.then ho (fun i hi e => by omega), .inr ⟨ka, _, kc, va, _, vc, ia, _, ic, p, rfl, k1.to ho (fun y hy e => by have := k2 y hy; omega), fun y hy => by have := k2 y hy; omega, ⟨q, h.rs.to ho (fun y e => by have := h.lt; omega)⟩, hp⟩⟩
end Go.Proofs.YtpgogpphobafoaaDoor
