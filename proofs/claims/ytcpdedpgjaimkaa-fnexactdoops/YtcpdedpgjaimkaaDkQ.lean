/-
  Disks whose lists are their own and apart from each other.
-/
import Derived.Test.YtcpdedpgjaimkaaDkP
namespace Go.Proofs.Ytcpdedpgjaimkaa
open Go.RowKit
theorem ownD_base {w : World} {B B' : Nat} {e : TypeId} {size : Nat} {v : Value} {n : Nat} {xs : List Value} (h : w.ownsRow B e size v n xs) (hB : B' ≤ B) : w.ownsRow B' e size v n xs := by
  refine ⟨h.1, h.2.imp id ?_⟩
  rintro ⟨g, cap, cur, k1, k2, k3⟩
  exact ⟨g, cap, cur, k1, by omega, k3⟩
theorem bk_own {w : World} {g B : Nat} {T : TypeId} {xs : List Value} {n size : Nat} (h : Bk w g T xs) (hl : xs.length = n * size) (hn : n ≤ 1048576) (hB : B ≤ g) : w.ownsRow B T size (.slice (some ⟨g, 0, none⟩) n n) n xs :=
  ⟨hl, .inr ⟨g, n, xs.toArray, rfl, hB, h, Nat.le_refl _, by unfold maxLen; omega, by simpa using hl, by simp [← hl]⟩⟩
theorem bk_ob {w : World} {g B : Nat} {zs : List Int} (h : Bk w g 5 (zs.map (Value.int .u8))) (hn : zs.length ≤ 1048576) (hB : B ≤ g) : Ob w B (.slice (some ⟨g, 0, none⟩) zs.length zs.length) zs :=
  bk_own h (by simp) hn hB
theorem ownD_set {w : World} {B : Nat} {E : TypeId} {s g n c m : Nat} {xs : List Value} (h : w.ownsRow B E s (.slice (some ⟨g, 0, none⟩) n c) m xs) (j : Nat) (u : Value) : (w.setCell ⟨g, j, none⟩ u).ownsRow B E s (.slice (some ⟨g, 0, none⟩) n c) m (xs.set j u) := by
  obtain ⟨k1, k2⟩ := h
  rcases k2 with ⟨k2, _⟩ | ⟨g', cap, cur, e, k3, k4, k5, k6, k7, k8⟩
  · cases k2
  · cases e
    refine ⟨by simpa using k1, .inr ⟨g, c, cur.setIfInBounds j u, rfl, k3, ?_, k5, k6, by simpa using k7, ?_⟩⟩
    · simp [World.setCell, Array.getElem?_modify, k4]
    · rw [← k8]
      simp only [Array.toList_setIfInBounds, List.take_set]
theorem own_at {w : World} {B : Nat} {E : TypeId} {s : Nat} {a : Option Addr} {n c m : Nat} {xs : List Value} (h : w.ownsRow B E s (.slice a n c) m xs) : n = m ∧ n ≤ c ∧ c ≤ 9223372036854775807 ∧ (0 < n → ∃ g, a = some ⟨g, 0, none⟩ ∧ B ≤ g ∧ g < w.heap.size ∧ (∀ o, w.frozen? ⟨g, o, none⟩ = false) ∧ ∀ (j : Nat) u, xs[j]? = some u → w.cell? ⟨g, j, none⟩ = some u) := by
  have hc := fun g hg => World.ownsRow.cells h (g := g) hg
  have hlt := World.ownsRow.lt h
  rcases h.2 with ⟨e, e2⟩ | ⟨g, cap, cur, e, hB, hg, k5, k6, k7, k8⟩
  · cases e; exact ⟨e2.symm, Nat.le_refl _, by omega, fun h => by omega⟩
  · have e2 : a = some ⟨g, 0, none⟩ ∧ n = m ∧ c = cap := by cases e; exact ⟨rfl, rfl, rfl⟩
    obtain ⟨rfl, rfl, rfl⟩ := e2
    refine ⟨rfl, k5, by unfold maxLen at k6; omega, fun _ => ⟨g, rfl, hB, (hlt g rfl).2, fun o => by simp [World.frozen?, hg], fun j u hu => ?_⟩⟩
    have := hc g rfl j u hu
    rwa [Addr.add_lit, Nat.zero_add] at this
/-- A row of sheets, all of it its own and apart. -/
structure SOw (w : World) (B : Nat) (v : Value) (V : List Value) (ss : List (List Int)) : Prop where
  len : V.length = ss.length
  row : w.ownsRow B 119 1 v ss.length V
  own : ∀ i, i < ss.length → Ob w B (uAt V i) (shAt ss i) ∧ byt (shAt ss i)
  apart : ∀ i j, i < ss.length → j < ss.length → i ≠ j → ∀ y, (uAt V i).ownBlock = some y → (uAt V j).ownBlock ≠ some y
  off : ∀ i, i < ss.length → ∀ y, (uAt V i).ownBlock = some y → v.ownBlock ≠ some y
def sbl (v : Value) (V : List Value) (y : Nat) : Prop := v.ownBlock = some y ∨ ∃ i, i < V.length ∧ (uAt V i).ownBlock = some y
theorem SOw.to {w w' : World} {B : Nat} {R : Nat → Prop} {v : Value} {V : List Value} {ss : List (List Int)} (h : SOw w B v V ss) (ho : Only R w w') (hR : ∀ y, sbl v V y → ¬ R y) : SOw w' B v V ss :=
  ⟨h.len, own_kept h.row ho (fun y e => hR y (.inl e)), fun i hi => ⟨own_kept (h.own i hi).1 ho (fun y e => hR y (.inr ⟨i, by rw [h.len]; exact hi, e⟩)), (h.own i hi).2⟩, h.apart, h.off⟩
theorem SOw.below {w w' : World} {B : Nat} {v : Value} {V : List Value} {ss : List (List Int)} (h : SOw w B v V ss) (hb : Below w.heap.size w w') : SOw w' B v V ss := h.to (only_of_below hb (fun _ => False)) (fun _ _ h => h)
theorem SOw.base {w : World} {B B' : Nat} {v : Value} {V : List Value} {ss : List (List Int)} (h : SOw w B v V ss) (hB : B' ≤ B) : SOw w B' v V ss :=
  ⟨h.len, ownD_base h.row hB, fun i hi => ⟨ownD_base (h.own i hi).1 hB, (h.own i hi).2⟩, h.apart, h.off⟩
theorem SOw.lt {w : World} {B : Nat} {v : Value} {V : List Value} {ss : List (List Int)} (h : SOw w B v V ss) {y : Nat} (hy : sbl v V y) : B ≤ y ∧ y < w.heap.size := by
  rcases hy with e | ⟨i, hi, e⟩
  · exact World.ownsRow.lt h.row y e
  · exact World.ownsRow.lt (h.own i (by rw [← h.len]; exact hi)).1 y e
theorem SOw.shr {w : World} {B : Nat} {v : Value} {V : List Value} {ss : List (List Int)} (h : SOw w B v V ss) {S : Nat → Prop} (hS : ∀ y, sbl v V y → S y) : Shr w S v ss :=
  ⟨V, h.len, rw_own h.row (fun k e _ _ => hS k (.inl e)), fun i hi => by_ob (h.own i hi).1 (h.own i hi).2 (fun k e _ _ => hS k (.inr ⟨i, by rw [h.len]; exact hi, e⟩))⟩
theorem so_nil (w : World) (B : Nat) : SOw w B (.slice none 0 0) [] [] := ⟨rfl, World.ownsRow_nil _ _ _ _, fun i hi => by simp at hi, fun i j hi => by simp at hi, fun i hi => by simp at hi⟩
theorem uAt_left {V : List Value} {p : Value} {i : Nat} (h : i < V.length) : uAt (V ++ [p]) i = uAt V i := by simp [uAt, List.getElem?_append_left h]
theorem uAt_end (V : List Value) (p : Value) : uAt (V ++ [p]) V.length = p := by simp [uAt]
theorem shAt_left {V : List (List Int)} {p : List Int} {i : Nat} (h : i < V.length) : shAt (V ++ [p]) i = shAt V i := by simp [shAt, List.getElem?_append_left h]
theorem shAt_end (V : List (List Int)) (p : List Int) : shAt (V ++ [p]) V.length = p := by simp [shAt]
theorem uAt_set {V : List Value} {p : Value} {i : Nat} (h : i < V.length) : uAt (V.set i p) i = p := by simp [uAt, h]
theorem uAt_other {V : List Value} {p : Value} {i j : Nat} (h : i ≠ j) : uAt (V.set j p) i = uAt V i := by simp [uAt, Ne.symm h]
theorem shAt_set {V : List (List Int)} {p : List Int} {i : Nat} (h : i < V.length) : shAt (V.set i p) i = p := by simp [shAt, h]
theorem shAt_other {V : List (List Int)} {p : List Int} {i j : Nat} (h : i ≠ j) : shAt (V.set j p) i = shAt V i := by simp [shAt, Ne.symm h]
/-- append(sheets, a sheet). -/
theorem SOw.push {u w2 : World} {B : Nat} {v v' : Value} {V : List Value} {ss : List (List Int)} (h : SOw u B v V ss) (x : List Int) (p : Value) (hx : Ob u B p x) (hxb : byt x) (hd : ∀ y, p.ownBlock = some y → ¬ sbl v V y)
    (ho : w2.ownsRow B 119 1 v' (ss.length + 1) (V ++ [p])) (hg : u.grownBy w2 v.ownBlock) (ha : v'.ownBlock = v.ownBlock ∨ v'.ownBlock = some u.heap.size) :
    SOw w2 B v' (V ++ [p]) (ss ++ [x]) := by
  have o : Only (fun y => v.ownBlock = some y) u w2 := only_of_grown hg (fun k e => e)
  have hl := h.len
  have hat : ∀ i, i < (ss ++ [x]).length → (i < ss.length ∧ uAt (V ++ [p]) i = uAt V i ∧ shAt (ss ++ [x]) i = shAt ss i) ∨ (i = ss.length ∧ uAt (V ++ [p]) i = p ∧ shAt (ss ++ [x]) i = x) := by
    intro i hi
    simp at hi
    by_cases e : i < ss.length
    · exact .inl ⟨e, uAt_left (by omega), shAt_left e⟩
    · obtain rfl : i = ss.length := by omega
      exact .inr ⟨rfl, by rw [← hl, uAt_end], shAt_end _ _⟩
  refine ⟨by simp [hl], by rw [List.length_append]; exact ho, fun i hi => ?_, fun i j hi hj hij y hy hz => ?_, fun i hi y hy hv => ?_⟩
  · rcases hat i hi with ⟨e, e1, e2⟩ | ⟨e, e1, e2⟩
    · rw [e1, e2]; exact ⟨own_kept (h.own i e).1 o (h.off i e), (h.own i e).2⟩
    · rw [e1, e2]; exact ⟨own_kept hx o (fun y hy e => hd y hy (.inl e)), hxb⟩
  · rcases hat i hi with ⟨e, e1, _⟩ | ⟨e, e1, _⟩
    · rw [e1] at hy
      rcases hat j hj with ⟨d, d1, _⟩ | ⟨d, d1, _⟩
      · rw [d1] at hz; exact h.apart i j e d hij y hy hz
      · rw [d1] at hz; exact hd y hz (.inr ⟨i, by omega, hy⟩)
    · rw [e1] at hy
      rcases hat j hj with ⟨d, d1, _⟩ | ⟨d, d1, _⟩
      · rw [d1] at hz; exact hd y hy (.inr ⟨j, by omega, hz⟩)
      · omega
  · have : y < u.heap.size ∧ v.ownBlock ≠ some y := by
      rcases hat i hi with ⟨e, e1, _⟩ | ⟨e, e1, _⟩
      · rw [e1] at hy; exact ⟨(World.ownsRow.lt (h.own i e).1 y hy).2, h.off i e y hy⟩
      · rw [e1] at hy; exact ⟨(World.ownsRow.lt hx y hy).2, fun e => hd y hy (.inl e)⟩
    rcases ha with ha | ha
    · rw [ha] at hv; exact this.2 hv
    · rw [ha] at hv; cases hv; omega
/-- One sheet gets other bytes. -/
theorem SOw.upd {u w2 w3 : World} {B : Nat} {v : Value} {V : List Value} {ss : List (List Int)} {k : Nat} {p : Value} {x : List Int} {g : Nat} (h : SOw u B v V ss) (hk : k < ss.length) (hv : v.ownBlock = some g) (hb : Below u.heap.size u w2) (hx : Ob w2 u.heap.size p x) (hxb : byt x) (hB : B ≤ u.heap.size)
    (o3 : Only (fun y => y = g) w2 w3) (hrow : w3.ownsRow B 119 1 v ss.length (V.set k p)) : SOw w3 B v (V.set k p) (ss.set k x) := by
  have hl := h.len
  have hg : g < u.heap.size := (World.ownsRow.lt h.row g hv).2
  have hp : ∀ y, p.ownBlock = some y → u.heap.size ≤ y := fun y e => (World.ownsRow.lt hx y e).1
  have hold : ∀ i, i < ss.length → ∀ y, (uAt V i).ownBlock = some y → y < u.heap.size := fun i hi y e => (World.ownsRow.lt (h.own i hi).1 y e).2
  refine ⟨by simp [hl], by rw [List.length_set]; exact hrow, fun i hi => ?_, fun i j hi hj hij y hy hz => ?_, fun i hi y hy hv' => ?_⟩
  · rw [List.length_set] at hi
    by_cases e : i = k
    · subst e
      rw [uAt_set (by omega), shAt_set hi]
      exact ⟨ownD_base (own_kept hx o3 (fun y e e2 => by have := hp y e; omega)) hB, hxb⟩
    · rw [uAt_other e, shAt_other e]
      exact ⟨own_kept (own_kept (h.own i hi).1 (only_of_below hb (fun _ => False)) (fun _ _ h => h)) o3 (fun y hy e2 => h.off i hi y hy (by rw [hv, e2])), (h.own i hi).2⟩
  · rw [List.length_set] at hi hj
    by_cases e : i = k
    · subst e
      rw [uAt_set (by omega)] at hy
      rw [uAt_other (Ne.symm hij)] at hz
      have := hp y hy
      have := hold j hj y hz
      omega
    · rw [uAt_other e] at hy
      by_cases e2 : j = k
      · subst e2
        rw [uAt_set (by omega)] at hz
        have := hp y hz
        have := hold i hi y hy
        omega
      · rw [uAt_other e2] at hz; exact h.apart i j hi hj hij y hy hz
  · rw [List.length_set] at hi
    rw [hv] at hv'
    cases hv'
    by_cases e : i = k
    · subst e
      rw [uAt_set (by omega)] at hy
      have := hp _ hy
      omega
    · rw [uAt_other e] at hy; exact h.off i hi _ hy hv
/-- A row of writes, all of it its own and apart. -/
structure WO (w : World) (B : Nat) (v : Value) (U : List (Int × Value)) (ds : List DW) : Prop where
  len : U.length = ds.length
  row : w.ownsRow B 109 2 v ds.length (wcs U)
  own : ∀ i, i < ds.length → (xAt U i).1 = (dwAt ds i).1 ∧ Ob w B (xAt U i).2 (dwAt ds i).2 ∧ byt (dwAt ds i).2
  apart : ∀ i j, i < ds.length → j < ds.length → i ≠ j → ∀ y, (xAt U i).2.ownBlock = some y → (xAt U j).2.ownBlock ≠ some y
  off : ∀ i, i < ds.length → ∀ y, (xAt U i).2.ownBlock = some y → v.ownBlock ≠ some y
def wbl (v : Value) (U : List (Int × Value)) (y : Nat) : Prop := v.ownBlock = some y ∨ ∃ i, i < U.length ∧ (xAt U i).2.ownBlock = some y
theorem WO.to {w w' : World} {B : Nat} {R : Nat → Prop} {v : Value} {U : List (Int × Value)} {ds : List DW} (h : WO w B v U ds) (ho : Only R w w') (hR : ∀ y, wbl v U y → ¬ R y) : WO w' B v U ds :=
  ⟨h.len, own_kept h.row ho (fun y e => hR y (.inl e)), fun i hi => ⟨(h.own i hi).1, own_kept (h.own i hi).2.1 ho (fun y e => hR y (.inr ⟨i, by rw [h.len]; exact hi, e⟩)), (h.own i hi).2.2⟩, h.apart, h.off⟩
theorem WO.below {w w' : World} {B : Nat} {v : Value} {U : List (Int × Value)} {ds : List DW} (h : WO w B v U ds) (hb : Below w.heap.size w w') : WO w' B v U ds := h.to (only_of_below hb (fun _ => False)) (fun _ _ h => h)
theorem WO.base {w : World} {B B' : Nat} {v : Value} {U : List (Int × Value)} {ds : List DW} (h : WO w B v U ds) (hB : B' ≤ B) : WO w B' v U ds :=
  ⟨h.len, ownD_base h.row hB, fun i hi => ⟨(h.own i hi).1, ownD_base (h.own i hi).2.1 hB, (h.own i hi).2.2⟩, h.apart, h.off⟩
theorem WO.lt {w : World} {B : Nat} {v : Value} {U : List (Int × Value)} {ds : List DW} (h : WO w B v U ds) {y : Nat} (hy : wbl v U y) : B ≤ y ∧ y < w.heap.size := by
  rcases hy with e | ⟨i, hi, e⟩
  · exact World.ownsRow.lt h.row y e
  · exact World.ownsRow.lt (h.own i (by rw [← h.len]; exact hi)).2.1 y e
theorem WO.wrr {w : World} {B : Nat} {v : Value} {U : List (Int × Value)} {ds : List DW} (h : WO w B v U ds) {S : Nat → Prop} (hS : ∀ y, wbl v U y → S y) : Wrr w S v ds :=
  ⟨U, h.len, rw_own h.row (fun k e _ _ => hS k (.inl e)), fun i hi => ⟨(h.own i hi).1, by_ob (h.own i hi).2.1 (h.own i hi).2.2 (fun k e _ _ => hS k (.inr ⟨i, by rw [h.len]; exact hi, e⟩))⟩⟩
theorem wo_nil (w : World) (B : Nat) : WO w B (.slice none 0 0) [] [] := ⟨rfl, World.ownsRow_nil _ _ _ _, fun i hi => by simp at hi, fun i j hi => by simp at hi, fun i hi => by simp at hi⟩
theorem xAt_left {U : List (Int × Value)} {p : Int × Value} {i : Nat} (h : i < U.length) : xAt (U ++ [p]) i = xAt U i := by simp [xAt, List.getElem?_append_left h]
theorem xAt_end (U : List (Int × Value)) (p : Int × Value) : xAt (U ++ [p]) U.length = p := by simp [xAt]
theorem wAt_left {U : List DW} {p : DW} {i : Nat} (h : i < U.length) : dwAt (U ++ [p]) i = dwAt U i := by simp [dwAt, List.getElem?_append_left h]
theorem wAt_end (U : List DW) (p : DW) : dwAt (U ++ [p]) U.length = p := by simp [dwAt]
theorem xAt_set {V : List (Int × Value)} {p : Int × Value} {i : Nat} (h : i < V.length) : xAt (V.set i p) i = p := by simp [xAt, h]
theorem xAt_other {V : List (Int × Value)} {p : Int × Value} {i j : Nat} (h : i ≠ j) : xAt (V.set j p) i = xAt V i := by simp [xAt, Ne.symm h]
/-- append(writes, a write). -/
theorem WO.push {u w2 : World} {B : Nat} {v v' : Value} {U : List (Int × Value)} {ds : List DW} (h : WO u B v U ds) (t : Int) (x : List Int) (p : Value) (hx : Ob u B p x) (hxb : byt x) (hd : ∀ y, p.ownBlock = some y → ¬ wbl v U y)
    (ho : w2.ownsRow B 109 2 v' (ds.length + 1) (wcs U ++ [.int .i64 t, p])) (hg : u.grownBy w2 v.ownBlock) (ha : v'.ownBlock = v.ownBlock ∨ v'.ownBlock = some u.heap.size) :
    WO w2 B v' (U ++ [(t, p)]) (ds ++ [(t, x)]) := by
  have o : Only (fun y => v.ownBlock = some y) u w2 := only_of_grown hg (fun k e => e)
  have hl := h.len
  have hat : ∀ i, i < (ds ++ [(t, x)]).length → (i < ds.length ∧ xAt (U ++ [(t, p)]) i = xAt U i ∧ dwAt (ds ++ [(t, x)]) i = dwAt ds i) ∨ (i = ds.length ∧ xAt (U ++ [(t, p)]) i = (t, p) ∧ dwAt (ds ++ [(t, x)]) i = (t, x)) := by
    intro i hi
    simp at hi
    by_cases e : i < ds.length
    · exact .inl ⟨e, xAt_left (by omega), wAt_left e⟩
    · obtain rfl : i = ds.length := by omega
      exact .inr ⟨rfl, by rw [← hl, xAt_end], wAt_end _ _⟩
  refine ⟨by simp [hl], by rw [List.length_append, wcs_append]; exact ho, fun i hi => ?_, fun i j hi hj hij y hy hz => ?_, fun i hi y hy hv => ?_⟩
  · rcases hat i hi with ⟨e, e1, e2⟩ | ⟨e, e1, e2⟩
    · rw [e1, e2]; exact ⟨(h.own i e).1, own_kept (h.own i e).2.1 o (h.off i e), (h.own i e).2.2⟩
    · rw [e1, e2]; exact ⟨rfl, own_kept hx o (fun y hy e => hd y hy (.inl e)), hxb⟩
  · rcases hat i hi with ⟨e, e1, _⟩ | ⟨e, e1, _⟩
    · rw [e1] at hy
      rcases hat j hj with ⟨d, d1, _⟩ | ⟨d, d1, _⟩
      · rw [d1] at hz; exact h.apart i j e d hij y hy hz
      · rw [d1] at hz; exact hd y hz (.inr ⟨i, by omega, hy⟩)
    · rw [e1] at hy
      rcases hat j hj with ⟨d, d1, _⟩ | ⟨d, d1, _⟩
      · rw [d1] at hz; exact hd y hy (.inr ⟨j, by omega, hz⟩)
      · omega
  · have : y < u.heap.size ∧ v.ownBlock ≠ some y := by
      rcases hat i hi with ⟨e, e1, _⟩ | ⟨e, e1, _⟩
      · rw [e1] at hy; exact ⟨(World.ownsRow.lt (h.own i e).2.1 y hy).2, h.off i e y hy⟩
      · rw [e1] at hy; exact ⟨(World.ownsRow.lt hx y hy).2, fun e => hd y hy (.inl e)⟩
    rcases ha with ha | ha
    · rw [ha] at hv; exact this.2 hv
    · rw [ha] at hv; cases hv; omega
/-- A disk, all of it its own and apart. -/
structure DO (w : World) (B : Nat) (sv : Value) (V : List Value) (dv : Value) (U : List (Int × Value)) (d : DK) : Prop where
  hs : SOw w B sv V d.sh
  hd : WO w B dv U d.dw
  ap : ∀ y, sbl sv V y → ¬ wbl dv U y
def dbl (sv : Value) (V : List Value) (dv : Value) (U : List (Int × Value)) (y : Nat) : Prop := sbl sv V y ∨ wbl dv U y
theorem DO.to {w w' : World} {B : Nat} {R : Nat → Prop} {sv dv : Value} {V : List Value} {U : List (Int × Value)} {d : DK} (h : DO w B sv V dv U d) (ho : Only R w w') (hR : ∀ y, dbl sv V dv U y → ¬ R y) : DO w' B sv V dv U d := ⟨h.hs.to ho (fun y e => hR y (.inl e)), h.hd.to ho (fun y e => hR y (.inr e)), h.ap⟩
theorem DO.below {w w' : World} {B : Nat} {sv dv : Value} {V : List Value} {U : List (Int × Value)} {d : DK} (h : DO w B sv V dv U d) (hb : Below w.heap.size w w') : DO w' B sv V dv U d := ⟨h.hs.below hb, h.hd.below hb, h.ap⟩
theorem DO.base {w : World} {B B' : Nat} {sv dv : Value} {V : List Value} {U : List (Int × Value)} {d : DK} (h : DO w B sv V dv U d) (hB : B' ≤ B) : DO w B' sv V dv U d := ⟨h.hs.base hB, h.hd.base hB, h.ap⟩
theorem DO.lt {w : World} {B : Nat} {sv dv : Value} {V : List Value} {U : List (Int × Value)} {d : DK} (h : DO w B sv V dv U d) {y : Nat} (hy : dbl sv V dv U y) : B ≤ y ∧ y < w.heap.size := hy.elim h.hs.lt h.hd.lt
theorem DO.dk {w : World} {B : Nat} {sa da : Option Addr} {sn sc dn dc : Nat} {V : List Value} {U : List (Int × Value)} {d : DK} (h : DO w B (.slice sa sn sc) V (.slice da dn dc) U d) {S : Nat → Prop} (hS : ∀ y, dbl (.slice sa sn sc) V (.slice da dn dc) U y → S y) : Dk w S sa sn sc da dn dc d := ⟨h.hs.shr (fun y e => hS y (.inl e)), h.hd.wrr (fun y e => hS y (.inr e))⟩
theorem do_nil (w : World) (B : Nat) : DO w B (.slice none 0 0) [] (.slice none 0 0) [] ⟨[], []⟩ := ⟨so_nil w B, wo_nil w B, fun y hy => by
  rcases hy with e | ⟨i, hi, _⟩
  · cases e
  · simp at hi⟩
theorem DO.shape {w : World} {B : Nat} {sv dv : Value} {V : List Value} {U : List (Int × Value)} {d : DK} (h : DO w B sv V dv U d) : ∃ sa sc da dc, sv = .slice sa d.sh.length sc ∧ dv = .slice da d.dw.length dc := by
  obtain ⟨sa, sc, e⟩ := own_shape h.hs.row
  obtain ⟨da, dc, e2⟩ := own_shape h.hd.row
  exact ⟨sa, sc, da, dc, e, e2⟩
end Go.Proofs.Ytcpdedpgjaimkaa

