/-
  What the law's helpers do with locks, rows of locks and tables: sizes summed, copied, held against each other; rows of one's own.
-/
import Derived.Test.YtbaggkfgnjenoaaLkA
import Derived.Test.YtbaggkfgnjenoaaPairL
import Derived.Test.YtbaggkfgnjenoaaKc
import Derived.Test.YtbaggkfgnjenoaaArgX
namespace Go.Proofs.Ytbaggkfgnjenoaa
open Go.RowKit
set_option linter.unusedVariables false
theorem ownL_base {w : World} {B B' : Nat} {e : TypeId} {size : Nat} {v : Value} {n : Nat} {xs : List Value} (h : w.ownsRow B e size v n xs) (hB : B' ≤ B) : w.ownsRow B' e size v n xs := by
  refine ⟨h.1, h.2.imp id ?_⟩
  rintro ⟨g, cap, cur, k1, k2, k3⟩
  exact ⟨g, cap, cur, k1, by omega, k3⟩
theorem ownL_bk {w : World} {g B : Nat} {T : TypeId} {xs : List Value} {n size : Nat} (h : Bk w g T xs) (hl : xs.length = n * size) (hn : n ≤ 1048577) (hB : B ≤ g) : w.ownsRow B T size (.slice (some ⟨g, 0, none⟩) n n) n xs :=
  ⟨hl, .inr ⟨g, n, xs.toArray, rfl, hB, h, Nat.le_refl _, by unfold maxLen; omega, by simpa using hl, by simp [← hl]⟩⟩
theorem ownL_set {w : World} {B : Nat} {E : TypeId} {s g n c m : Nat} {xs : List Value} (h : w.ownsRow B E s (.slice (some ⟨g, 0, none⟩) n c) m xs) (j : Nat) (u : Value) : (w.setCell ⟨g, j, none⟩ u).ownsRow B E s (.slice (some ⟨g, 0, none⟩) n c) m (xs.set j u) := by
  obtain ⟨k1, k2⟩ := h
  rcases k2 with ⟨k2, _⟩ | ⟨g', cap, cur, e, k3, k4, k5, k6, k7, k8⟩
  · cases k2
  · cases e
    refine ⟨by simpa using k1, .inr ⟨g, c, cur.setIfInBounds j u, rfl, k3, ?_, k5, k6, by simpa using k7, ?_⟩⟩
    · simp [World.setCell, Array.getElem?_modify, k4]
    · rw [← k8]
      simp only [Array.toList_setIfInBounds, List.take_set]
theorem ownL_at {w : World} {B : Nat} {E : TypeId} {s : Nat} {a : Option Addr} {n c m : Nat} {xs : List Value} (h : w.ownsRow B E s (.slice a n c) m xs) : n = m ∧ n ≤ c ∧ c ≤ 9223372036854775807 ∧ (0 < n → ∃ g, a = some ⟨g, 0, none⟩ ∧ B ≤ g ∧ g < w.heap.size ∧ (∀ o, w.frozen? ⟨g, o, none⟩ = false) ∧ ∀ (j : Nat) u, xs[j]? = some u → w.cell? ⟨g, j, none⟩ = some u) := by
  have hc := fun g hg => World.ownsRow.cells h (g := g) hg
  have hlt := World.ownsRow.lt h
  rcases h.2 with ⟨e, e2⟩ | ⟨g, cap, cur, e, hB, hg, k5, k6, k7, k8⟩
  · cases e; exact ⟨e2.symm, Nat.le_refl _, by omega, fun h => by omega⟩
  · have e2 : a = some ⟨g, 0, none⟩ ∧ n = m ∧ c = cap := by cases e; exact ⟨rfl, rfl, rfl⟩
    obtain ⟨rfl, rfl, rfl⟩ := e2
    refine ⟨rfl, k5, by unfold maxLen at k6; omega, fun _ => ⟨g, rfl, hB, (hlt g rfl).2, fun o => by simp [World.frozen?, hg], fun j u hu => ?_⟩⟩
    have := hc g rfl j u hu
    rwa [Addr.add_lit, Nat.zero_add] at this
/-- A row of locks of one's own. -/
def LW (w : World) (B : Nat) (v : Value) (l : List LK) : Prop := w.ownsRow B 31 6 v l.length (lcs l)
theorem LW.to {w w' : World} {B : Nat} {R : Nat → Prop} {v : Value} {l : List LK} (h : LW w B v l) (ho : Only R w w') (hR : ∀ y, v.ownBlock = some y → ¬ R y) : LW w' B v l := own_kept h ho hR
theorem LW.below {w w' : World} {B : Nat} {v : Value} {l : List LK} (h : LW w B v l) (hb : Below w.heap.size w w') : LW w' B v l := h.to (only_of_below hb (fun _ => False)) (fun _ _ h => h)
theorem LW.base {w : World} {B B' : Nat} {v : Value} {l : List LK} (h : LW w B v l) (hB : B' ≤ B) : LW w B' v l := ownL_base h hB
theorem LW.lt {w : World} {B : Nat} {v : Value} {l : List LK} (h : LW w B v l) {y : Nat} (hy : v.ownBlock = some y) : B ≤ y ∧ y < w.heap.size := World.ownsRow.lt h y hy
theorem LW.lr {w : World} {B : Nat} {v : Value} {l : List LK} (h : LW w B v l) : Lr w (fun _ => True) v l := rw_own h (fun _ _ _ _ => trivial)
theorem lw_nil (w : World) (B : Nat) : LW w B (.slice none 0 0) [] := World.ownsRow_nil _ _ _ _
/-- A table of locks of one's own, its two rows apart. -/
structure LO (w : World) (B : Nat) (h v : Value) (hl wl : List LK) : Prop where
  hh : LW w B h hl
  hw : LW w B v wl
  apart : ∀ y, h.ownBlock = some y → v.ownBlock ≠ some y
def lbl (h v : Value) (y : Nat) : Prop := h.ownBlock = some y ∨ v.ownBlock = some y
theorem LO.to {w w' : World} {B : Nat} {R : Nat → Prop} {h v : Value} {hl wl : List LK} (H : LO w B h v hl wl) (ho : Only R w w') (hR : ∀ y, lbl h v y → ¬ R y) : LO w' B h v hl wl := ⟨H.hh.to ho (fun y e => hR y (.inl e)), H.hw.to ho (fun y e => hR y (.inr e)), H.apart⟩
theorem LO.below {w w' : World} {B : Nat} {h v : Value} {hl wl : List LK} (H : LO w B h v hl wl) (hb : Below w.heap.size w w') : LO w' B h v hl wl := ⟨H.hh.below hb, H.hw.below hb, H.apart⟩
theorem LO.base {w : World} {B B' : Nat} {h v : Value} {hl wl : List LK} (H : LO w B h v hl wl) (hB : B' ≤ B) : LO w B' h v hl wl := ⟨H.hh.base hB, H.hw.base hB, H.apart⟩
theorem LO.lt {w : World} {B : Nat} {h v : Value} {hl wl : List LK} (H : LO w B h v hl wl) {y : Nat} (hy : lbl h v y) : B ≤ y ∧ y < w.heap.size := by
  rcases hy with e | e
  · exact H.hh.lt e
  · exact H.hw.lt e
theorem lo_nil (w : World) (B : Nat) : LO w B (.slice none 0 0) (.slice none 0 0) [] [] := ⟨lw_nil w B, lw_nil w B, fun y h => by cases h⟩
theorem infoLockI : (Try.prog.info? 31).map (fun i => (i.zero, i.size, i.bytes)) = some (some (.agg #[.int .i64 0, .int .i64 0, .int .i64 0, .string ⟨#[]⟩, .string ⟨#[]⟩, .bool false]), 6, 64) := by kernel_rfl
theorem made_locks (n : Nat) : madeCells (Value.agg #[.int .i64 0, .int .i64 0, .int .i64 0, .string ⟨#[]⟩, .string ⟨#[]⟩, .bool false]).cells (n * 6) = (lcs (List.replicate n lk0)).toArray := by
  apply Array.ext
  · simp [madeCells, lcs_length]
  · intro i h1 h2
    simp [lcs_length] at h2
    simp only [madeCells, List.getElem_toArray]
    have hq : lAt (List.replicate n lk0) (i / 6) = lk0 := by simp [lAt, show i / 6 < n by omega]
    have h0 := lcs_at (List.replicate n lk0) (i / 6) (by simp; omega)
    rw [hq] at h0
    have h3 : i % 6 = 0 ∨ i % 6 = 1 ∨ i % 6 = 2 ∨ i % 6 = 3 ∨ i % 6 = 4 ∨ i % 6 = 5 := by omega
    rcases h3 with e | e | e | e | e | e
    · have h4 := List.getElem?_eq_some_iff.1 (show (lcs (List.replicate n lk0))[i]? = some (.int .i64 0) by rw [show i / 6 * 6 = i by omega] at h0; exact h0.1)
      rw [h4.2]
      simp [Value.cells, e]
    · have h4 := List.getElem?_eq_some_iff.1 (show (lcs (List.replicate n lk0))[i]? = some (.int .i64 0) by rw [show i / 6 * 6 + 1 = i by omega] at h0; exact h0.2.1)
      rw [h4.2]
      simp [Value.cells, e]
    · have h4 := List.getElem?_eq_some_iff.1 (show (lcs (List.replicate n lk0))[i]? = some (.int .i64 0) by rw [show i / 6 * 6 + 2 = i by omega] at h0; exact h0.2.2.1)
      rw [h4.2]
      simp [Value.cells, e]
    · have h4 := List.getElem?_eq_some_iff.1 (show (lcs (List.replicate n lk0))[i]? = some (.string ⟨#[]⟩) by rw [show i / 6 * 6 + 3 = i by omega] at h0; exact h0.2.2.2.1)
      rw [h4.2]
      simp [Value.cells, e]
    · have h4 := List.getElem?_eq_some_iff.1 (show (lcs (List.replicate n lk0))[i]? = some (.string ⟨#[]⟩) by rw [show i / 6 * 6 + 4 = i by omega] at h0; exact h0.2.2.2.2.1)
      rw [h4.2]
      simp [Value.cells, e]
    · have h4 := List.getElem?_eq_some_iff.1 (show (lcs (List.replicate n lk0))[i]? = some (.bool false) by rw [show i / 6 * 6 + 5 = i by omega] at h0; exact h0.2.2.2.2.2)
      rw [h4.2]
      simp [Value.cells, e]
/-- The locks as far as copied. -/
def ptL (l : List LK) (k : Nat) : List LK := l.take k ++ List.replicate (l.length - k) lk0
theorem ptL_length (l : List LK) (k : Nat) (h : k ≤ l.length) : (ptL l k).length = l.length := by simp [ptL]; omega
theorem ptL_set (l : List LK) (k : Nat) (h : k < l.length) : (ptL l k).set k (lAt l k) = ptL l (k + 1) := by
  have e : lAt l k = l[k] := by simp [lAt, h]
  rw [e]
  have hl : (l.take k).length = k := by simp; omega
  simp only [ptL]
  rw [List.set_append_right _ _ (by omega), hl]
  have h2 : l.length - k = (l.length - (k + 1)) + 1 := by omega
  rw [List.take_succ_eq_append_getElem h, h2, List.replicate_succ, Nat.sub_self, List.set_cons_zero, List.append_assoc]
  rfl
theorem load_lock {w : World} {g : Nat} (c e n : Int) (lo hi : ByteArray) (ex : Bool) (c0 : w.cell? ⟨g, 0, none⟩ = some (.int .i64 c)) (c1 : w.cell? ⟨g, 1, none⟩ = some (.int .i64 e)) (c2 : w.cell? ⟨g, 2, none⟩ = some (.int .i64 n)) (c3 : w.cell? ⟨g, 3, none⟩ = some (.string lo)) (c4 : w.cell? ⟨g, 4, none⟩ = some (.string hi)) (c5 : w.cell? ⟨g, 5, none⟩ = some (.bool ex)) :
    (loadVar 31 ⟨g, 0, none⟩).run Try.prog w = .ok (.agg #[.int .i64 c, .int .i64 e, .int .i64 n, .string lo, .string hi, .bool ex]) w := by go_simp
theorem results_lock {fn : Func} {p : Tmp} (h : fn.results = #[.cell p 31]) (tmps : Array Value) (w : World) (g : Nat) {c e n : Int} {lo hi : ByteArray} {ex : Bool} (hp : tmps.getD p undef = .pointer (some ⟨g, 0, none⟩))
    (c0 : w.cell? ⟨g, 0, none⟩ = some (.int .i64 c)) (c1 : w.cell? ⟨g, 1, none⟩ = some (.int .i64 e)) (c2 : w.cell? ⟨g, 2, none⟩ = some (.int .i64 n)) (c3 : w.cell? ⟨g, 3, none⟩ = some (.string lo)) (c4 : w.cell? ⟨g, 4, none⟩ = some (.string hi)) (c5 : w.cell? ⟨g, 5, none⟩ = some (.bool ex)) : (results fn tmps).run Try.prog w = .ok (.agg #[.int .i64 c, .int .i64 e, .int .i64 n, .string lo, .string hi, .bool ex]) w := by
  have hp' : tmps[p]?.getD undef = .pointer (some ⟨g, 0, none⟩) := by simpa using hp
  simp [results, h, hp', asAddr, load_lock c e n lo hi ex c0 c1 c2 c3 c4 c5]
theorem results_locks {fn : Func} {p : Tmp} (h : fn.results = #[.cell p 25]) (tmps : Array Value) (w : World) (g : Nat) {x y : Value} (hp : tmps.getD p undef = .pointer (some ⟨g, 0, none⟩))
    (c0 : w.cell? ⟨g, 0, none⟩ = some x) (c1 : w.cell? ⟨g, 1, none⟩ = some y) : (results fn tmps).run Try.prog w = .ok (.agg #[x, y]) w := by
  have hp' : tmps[p]?.getD undef = .pointer (some ⟨g, 0, none⟩) := by simpa using hp
  have hl : (loadVar 25 ⟨g, 0, none⟩).run Try.prog w = .ok (.agg #[x, y]) w := by go_simp
  simp [results, h, hp', asAddr, hl]
theorem results_locks2 {fn : Func} {p q : Tmp} (h : fn.results = #[.cell p 25, .tmp q]) (tmps : Array Value) (w : World) (g : Nat) {x y z : Value} (hp : tmps.getD p undef = .pointer (some ⟨g, 0, none⟩)) (hq : tmps.getD q undef = z)
    (c0 : w.cell? ⟨g, 0, none⟩ = some x) (c1 : w.cell? ⟨g, 1, none⟩ = some y) : (results fn tmps).run Try.prog w = .ok (.tuple #[.agg #[x, y], z]) w := by
  have hp' : tmps[p]?.getD undef = .pointer (some ⟨g, 0, none⟩) := by simpa using hp
  have hq' : tmps[q]?.getD undef = z := by simpa using hq
  have hl : (loadVar 25 ⟨g, 0, none⟩).run Try.prog w = .ok (.agg #[x, y]) w := by go_simp
  simp [results, h, hp', hq', asAddr, hl, Result.andThen]
set_option maxHeartbeats 1600000 in
theorem toLock_any (c e n : Int) (lo hi : ByteArray) (ex : Bool) (w : World) : Calls Try.prog 21 #[.agg #[.int .i64 c, .int .i64 e, .int .i64 n, .string lo, .string hi, .bool ex]] w fun r w' => r = .returned (.agg #[.int .i64 c, .int .i64 e, .int .i64 n, .string lo, .string hi, .bool ex]) ∧ Below w.heap.size w w' := by
  have C1 := hid (fun w => toTx_any c e n w)
  have C2 : Hid (∀ w, Calls Try.prog 36 #[.agg #[.string lo, .string hi]] w fun r w' => r = .returned (.agg #[.string lo, .string hi]) ∧ Below w.heap.size w w') := fun w => toRange_any lo hi w
  have B0 := hid (below_new (o := .cells #[.int .i64 c, .int .i64 e, .int .i64 n, .string lo, .string hi, .bool ex] 49) (w := w) (below_new (o := .cells #[.int .i64 0, .int .i64 0, .int .i64 0, .string ⟨#[]⟩, .string ⟨#[]⟩, .bool false] 31) (w := w.alloc (.cells #[.int .i64 c, .int .i64 e, .int .i64 n, .string lo, .string hi, .bool ex] 49)) (below_new (o := .cells #[.int .i64 0, .int .i64 0, .int .i64 0, .string ⟨#[]⟩, .string ⟨#[]⟩, .bool false] 31) (w := (w.alloc (.cells #[.int .i64 c, .int .i64 e, .int .i64 n, .string lo, .string hi, .bool ex] 49)).alloc (.cells #[.int .i64 0, .int .i64 0, .int .i64 0, .string ⟨#[]⟩, .string ⟨#[]⟩, .bool false] 31)) (Below.refl _ _))))
  have K0 := hid (((Bk.new w 49 [.int .i64 c, .int .i64 e, .int .i64 n, .string lo, .string hi, .bool ex]).alloc (.cells #[.int .i64 0, .int .i64 0, .int .i64 0, .string ⟨#[]⟩, .string ⟨#[]⟩, .bool false] 31)).alloc (.cells #[.int .i64 0, .int .i64 0, .int .i64 0, .string ⟨#[]⟩, .string ⟨#[]⟩, .bool false] 31))
  have J0 := hid ((Bk.new (w.alloc (.cells #[.int .i64 c, .int .i64 e, .int .i64 n, .string lo, .string hi, .bool ex] 49)) 31 [.int .i64 0, .int .i64 0, .int .i64 0, .string ⟨#[]⟩, .string ⟨#[]⟩, .bool false]).alloc (.cells #[.int .i64 0, .int .i64 0, .int .i64 0, .string ⟨#[]⟩, .string ⟨#[]⟩, .bool false] 31))
  have I0 := hid (Bk.new ((w.alloc (.cells #[.int .i64 c, .int .i64 e, .int .i64 n, .string lo, .string hi, .bool ex] 49)).alloc (.cells #[.int .i64 0, .int .i64 0, .int .i64 0, .string ⟨#[]⟩, .string ⟨#[]⟩, .bool false] 31)) 31 [.int .i64 0, .int .i64 0, .int .i64 0, .string ⟨#[]⟩, .string ⟨#[]⟩, .bool false])
  rw [show (w.alloc (.cells #[.int .i64 c, .int .i64 e, .int .i64 n, .string lo, .string hi, .bool ex] 49)).heap.size = w.heap.size + 1 by simp] at J0
  rw [show ((w.alloc (.cells #[.int .i64 c, .int .i64 e, .int .i64 n, .string lo, .string hi, .bool ex] 49)).alloc (.cells #[.int .i64 0, .int .i64 0, .int .i64 0, .string ⟨#[]⟩, .string ⟨#[]⟩, .bool false] 31)).heap.size = w.heap.size + 1 + 1 by simp] at I0
  go_enter Try.func21, Try.ntmps21
  go_wp2_with fail
  refine (C1.out _).mono ?_
  generalize ((w.alloc (.cells #[.int .i64 c, .int .i64 e, .int .i64 n, .string lo, .string hi, .bool ex] 49)).alloc (.cells #[.int .i64 0, .int .i64 0, .int .i64 0, .string ⟨#[]⟩, .string ⟨#[]⟩, .bool false] 31)).alloc (.cells #[.int .i64 0, .int .i64 0, .int .i64 0, .string ⟨#[]⟩, .string ⟨#[]⟩, .bool false] 31) = U at *
  rintro r w1 ⟨rfl, hb⟩
  have K1 := hid (K0.out.below hb)
  have J1 := hid (J0.out.below hb)
  have I1 := hid (I0.out.below hb)
  have B1 := hid (B0.out.trans (hb.mono B0.out.size))
  clear hb K0 J0 I0 B0
  have x3 := K1.out.cell (j := 3) rfl
  have x4 := K1.out.cell (j := 4) rfl
  have y0 := I1.out.cell (j := 0) rfl
  have y1 := I1.out.cell (j := 1) rfl
  have y2 := I1.out.cell (j := 2) rfl
  have f0 := I1.out.free 0
  have f1 := I1.out.free 1
  have f2 := I1.out.free 2
  have I2 : Hid (Bk (((w1.setCell ⟨w.heap.size + 1 + 1, 0, none⟩ (.int .i64 c)).setCell ⟨w.heap.size + 1 + 1, 1, none⟩ (.int .i64 e)).setCell ⟨w.heap.size + 1 + 1, 2, none⟩ (.int .i64 n)) (w.heap.size + 1 + 1) 31 [.int .i64 c, .int .i64 e, .int .i64 n, .string ⟨#[]⟩, .string ⟨#[]⟩, .bool false]) := ((I1.out.set 0 (.int .i64 c)).set 1 (.int .i64 e)).set 2 (.int .i64 n)
  have K2 : Hid (Bk (((w1.setCell ⟨w.heap.size + 1 + 1, 0, none⟩ (.int .i64 c)).setCell ⟨w.heap.size + 1 + 1, 1, none⟩ (.int .i64 e)).setCell ⟨w.heap.size + 1 + 1, 2, none⟩ (.int .i64 n)) w.heap.size 49 [.int .i64 c, .int .i64 e, .int .i64 n, .string lo, .string hi, .bool ex]) := ((K1.out.setOther (by omega) 0 (.int .i64 c)).setOther (by omega) 1 (.int .i64 e)).setOther (by omega) 2 (.int .i64 n)
  have J2 : Hid (Bk (((w1.setCell ⟨w.heap.size + 1 + 1, 0, none⟩ (.int .i64 c)).setCell ⟨w.heap.size + 1 + 1, 1, none⟩ (.int .i64 e)).setCell ⟨w.heap.size + 1 + 1, 2, none⟩ (.int .i64 n)) (w.heap.size + 1) 31 [.int .i64 0, .int .i64 0, .int .i64 0, .string ⟨#[]⟩, .string ⟨#[]⟩, .bool false]) := ((J1.out.setOther (by omega) 0 (.int .i64 c)).setOther (by omega) 1 (.int .i64 e)).setOther (by omega) 2 (.int .i64 n)
  have B2 : Hid (Below w.heap.size w (((w1.setCell ⟨w.heap.size + 1 + 1, 0, none⟩ (.int .i64 c)).setCell ⟨w.heap.size + 1 + 1, 1, none⟩ (.int .i64 e)).setCell ⟨w.heap.size + 1 + 1, 2, none⟩ (.int .i64 n))) := ((B1.out.setCell (p := ⟨w.heap.size + 1 + 1, 0, none⟩) (by simp; omega) _).setCell (p := ⟨w.heap.size + 1 + 1, 1, none⟩) (by simp; omega) _).setCell (p := ⟨w.heap.size + 1 + 1, 2, none⟩) (by simp; omega) _
  have d1 : ¬ w.heap.size = w.heap.size + 1 + 1 := by omega
  go_wp2_with fail
  refine (C2.out _).mono ?_
  generalize ((w1.setCell ⟨w.heap.size + 1 + 1, 0, none⟩ (.int .i64 c)).setCell ⟨w.heap.size + 1 + 1, 1, none⟩ (.int .i64 e)).setCell ⟨w.heap.size + 1 + 1, 2, none⟩ (.int .i64 n) = V at *
  rintro r w3 ⟨rfl, hb⟩
  have K3 := hid (K2.out.below hb)
  have J3 := hid (J2.out.below hb)
  have I3 := hid (I2.out.below hb)
  have B3 := hid (B2.out.trans (hb.mono B2.out.size))
  clear hb K2 J2 I2 B2 K1 J1 I1 B1 x3 x4 y0 y1 y2 f0 f1 f2
  have x5 := K3.out.cell (j := 5) rfl
  have y0 := I3.out.cell (j := 0) rfl
  have y1 := I3.out.cell (j := 1) rfl
  have y2 := I3.out.cell (j := 2) rfl
  have y3 := I3.out.cell (j := 3) rfl
  have y4 := I3.out.cell (j := 4) rfl
  have y5 := I3.out.cell (j := 5) rfl
  have f3 := I3.out.free 3
  have f4 := I3.out.free 4
  have f5 := I3.out.free 5
  have z0 := J3.out.cell (j := 0) rfl
  have z1 := J3.out.cell (j := 1) rfl
  have z2 := J3.out.cell (j := 2) rfl
  have z3 := J3.out.cell (j := 3) rfl
  have z4 := J3.out.cell (j := 4) rfl
  have z5 := J3.out.cell (j := 5) rfl
  have g0 := J3.out.free 0
  have g1 := J3.out.free 1
  have g2 := J3.out.free 2
  have g3 := J3.out.free 3
  have g4 := J3.out.free 4
  have g5 := J3.out.free 5
  have d2 : ¬ w.heap.size + 1 = w.heap.size + 1 + 1 := by omega
  have d3 : ¬ w.heap.size + 1 + 1 = w.heap.size + 1 := by omega
  go_wp2
  try simp only [Exit.inBlock, Exit.then]
  refine bodyPost_ret (v := .agg #[.int .i64 c, .int .i64 e, .int .i64 n, .string lo, .string hi, .bool ex]) ?_ rfl ?_
  · exact results_lock rfl _ _ (w.heap.size + 1) rfl (by go_simp) (by go_simp) (by go_simp) (by go_simp) (by go_simp) (by go_simp)
  · refine ⟨rfl, ?_⟩
    repeat (with_reducible refine Below.setCell ?_ (by simp <;> omega) _)
    exact B3.out
end Go.Proofs.Ytbaggkfgnjenoaa

