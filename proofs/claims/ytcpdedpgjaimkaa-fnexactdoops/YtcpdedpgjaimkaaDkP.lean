/-
  Disks as plain data, and what is read through the slices of a disk.
-/
import Derived.Test.YtcpdedpgjaimkaaNd
import Derived.Test.YtcpdedpgjaimkaaUf
import Derived.Test.YtcpdedpgjaimkaaApp
namespace Go.Proofs.Ytcpdedpgjaimkaa
open Go.RowKit
abbrev DW := Int × List Int
def byt (zs : List Int) : Prop := ∀ i : Nat, 0 ≤ zs[i]?.getD 0 ∧ zs[i]?.getD 0 ≤ 255
def shAt (ss : List (List Int)) (i : Nat) : List Int := ss[i]?.getD []
def dwAt (ds : List DW) (i : Nat) : DW := ds[i]?.getD (0, [])
def uAt (V : List Value) (i : Nat) : Value := V[i]?.getD (.slice none 0 0)
def xAt (U : List (Int × Value)) (i : Nat) : Int × Value := U[i]?.getD (0, .slice none 0 0)
theorem uAt_some {V : List Value} {i : Nat} (h : i < V.length) : V[i]? = some (uAt V i) := by simp [uAt, h]
/-- The slice value v leads to the bytes zs. -/
def By (w : World) (S : Nat → Prop) (v : Value) (zs : List Int) : Prop := Rw w S v zs.length (zs.map (Value.int .u8)) ∧ byt zs
theorem By.to {w w' : World} {S R : Nat → Prop} {v : Value} {zs : List Int} (h : By w S v zs) (ho : Only R w w') (hd : ∀ b, S b → b < w.heap.size → ¬ R b) : By w' S v zs := ⟨h.1.to ho hd, h.2⟩
theorem By.mono {w : World} {S R : Nat → Prop} {v : Value} {zs : List Int} (h : By w S v zs) (hd : ∀ b, S b → b < w.heap.size → R b) : By w R v zs := ⟨h.1.mono hd, h.2⟩
theorem By.below {w w' : World} {S : Nat → Prop} {v : Value} {zs : List Int} (h : By w S v zs) (hb : Below w.heap.size w w') : By w' S v zs := ⟨h.1.below hb, h.2⟩
theorem By.len {w : World} {S : Nat → Prop} {a : Option Addr} {n c : Nat} {zs : List Int} (h : By w S (.slice a n c) zs) : n = zs.length ∧ n ≤ c ∧ c ≤ 9223372036854775807 := Rw.len h.1
theorem By.rd {w : World} {S : Nat → Prop} {a : Option Addr} {n c : Nat} {zs : List Int} (h : By w S (.slice a n c) zs) (hn : n ≤ 1048576) : Rd w a n c zs := by
  obtain ⟨h1, h2, h3⟩ := h.len
  refine ⟨h1, h2, h3, by omega, h.2, fun hp => ?_⟩
  obtain ⟨b, off, e, _, hb, hc⟩ := Rw.at h.1 hp
  exact ⟨b, off, e, hb, fun i hi => hc i _ (by simp [show i < zs.length by omega])⟩
theorem by_ob {w : World} {B : Nat} {v : Value} {zs : List Int} (h : Ob w B v zs) (hb : byt zs) {S : Nat → Prop} (hS : ∀ k, v.ownBlock = some k → B ≤ k → k < w.heap.size → S k) : By w S v zs := ⟨rw_own h hS, hb⟩
/-- The slice value v leads to the sheets ss. -/
def Shr (w : World) (S : Nat → Prop) (v : Value) (ss : List (List Int)) : Prop := ∃ V : List Value, V.length = ss.length ∧ Rw w S v ss.length V ∧ ∀ i, i < ss.length → By w S (uAt V i) (shAt ss i)
theorem Shr.to {w w' : World} {S R : Nat → Prop} {v : Value} {ss : List (List Int)} (h : Shr w S v ss) (ho : Only R w w') (hd : ∀ b, S b → b < w.heap.size → ¬ R b) : Shr w' S v ss := by
  obtain ⟨V, h1, h2, h3⟩ := h
  exact ⟨V, h1, h2.to ho hd, fun i hi => (h3 i hi).to ho hd⟩
theorem Shr.mono {w : World} {S R : Nat → Prop} {v : Value} {ss : List (List Int)} (h : Shr w S v ss) (hd : ∀ b, S b → b < w.heap.size → R b) : Shr w R v ss := by
  obtain ⟨V, h1, h2, h3⟩ := h
  exact ⟨V, h1, h2.mono hd, fun i hi => (h3 i hi).mono hd⟩
theorem Shr.below {w w' : World} {S : Nat → Prop} {v : Value} {ss : List (List Int)} (h : Shr w S v ss) (hb : Below w.heap.size w w') : Shr w' S v ss := h.to (only_of_below hb (fun _ => False)) (fun _ _ _ h => h)
theorem Shr.shape {w : World} {S : Nat → Prop} {v : Value} {ss : List (List Int)} (h : Shr w S v ss) : ∃ a c, v = .slice a ss.length c ∧ ss.length ≤ c ∧ c ≤ 9223372036854775807 := by
  obtain ⟨V, h1, h2, h3⟩ := h
  exact h2.shape
theorem Shr.len {w : World} {S : Nat → Prop} {a : Option Addr} {n c : Nat} {ss : List (List Int)} (h : Shr w S (.slice a n c) ss) : n = ss.length ∧ n ≤ c ∧ c ≤ 9223372036854775807 := by
  obtain ⟨V, h1, h2, h3⟩ := h
  exact Rw.len h2
theorem Rw.sliceOf {w : World} {S : Nat → Prop} {v : Value} {n : Nat} {xs : List Value} (h : Rw w S v n xs) : ∃ a c, v = .slice a n c := by
  obtain ⟨a, c, h, _⟩ := h
  exact ⟨a, c, h⟩
theorem Shr.at {w : World} {S : Nat → Prop} {a : Option Addr} {n c : Nat} {ss : List (List Int)} (h : Shr w S (.slice a n c) ss) (hp : 0 < n) : ∃ b off, a = some ⟨b, off, none⟩ ∧ S b ∧ b < w.heap.size ∧ ∀ i, i < n → ∃ ap np cp,
    w.cell? ⟨b, off + i, none⟩ = some (.slice ap np cp) ∧ By w S (.slice ap np cp) (shAt ss i) := by
  obtain ⟨V, h1, h2, h3⟩ := h
  have hn := (Rw.len h2).1
  obtain ⟨b, off, e1, e2, e3, e4⟩ := h2.at hp
  refine ⟨b, off, e1, e2, e3, fun i hi => ?_⟩
  have k1 := h3 i (by omega)
  have d0 := e4 i _ (uAt_some (by omega))
  obtain ⟨ap, cp, g0⟩ := k1.1.sliceOf
  rw [g0] at d0 k1
  exact ⟨ap, _, cp, d0, k1⟩
/-- The cells of a list of writes. -/
def wcs : List (Int × Value) → List Value
  | [] => []
  | p :: ps => .int .i64 p.1 :: p.2 :: wcs ps
theorem wcs_length (ps : List (Int × Value)) : (wcs ps).length = ps.length * 2 := by
  induction ps with
  | nil => rfl
  | cons p ps ih => simp only [wcs, List.length_cons, ih]; omega
theorem wcs_append (ps qs : List (Int × Value)) : wcs (ps ++ qs) = wcs ps ++ wcs qs := by
  induction ps with
  | nil => rfl
  | cons p ps ih => simp only [wcs, List.cons_append, ih]
theorem wcs_at (ps : List (Int × Value)) : ∀ i, i < ps.length → (wcs ps)[i * 2]? = some (.int .i64 (xAt ps i).1) ∧ (wcs ps)[i * 2 + 1]? = some (xAt ps i).2 := by
  induction ps with
  | nil => intro i h; exact absurd h (Nat.not_lt_zero _)
  | cons p ps ih =>
    intro i h
    cases i with
    | zero => exact ⟨rfl, rfl⟩
    | succ i =>
      have := ih i (by simpa using h)
      have e : (i + 1) * 2 = i * 2 + 2 := by omega
      rw [e]
      exact this
theorem wcs_set (ps : List (Int × Value)) (p : Int × Value) : ∀ j, j < ps.length → wcs (ps.set j p) = ((wcs ps).set (j * 2) (.int .i64 p.1)).set (j * 2 + 1) p.2 := by
  induction ps with
  | nil => intro j h; exact absurd h (Nat.not_lt_zero _)
  | cons q ps ih =>
    intro j h
    cases j with
    | zero => rfl
    | succ j =>
      have := ih j (by simpa using h)
      rw [show (j + 1) * 2 = j * 2 + 2 by omega, show j * 2 + 2 + 1 = j * 2 + 1 + 2 by omega]
      show .int .i64 q.1 :: q.2 :: wcs (ps.set j p) = _
      rw [this]
      rfl
/-- The slice value v leads to the writes ds. -/
def Wrr (w : World) (S : Nat → Prop) (v : Value) (ds : List DW) : Prop := ∃ U : List (Int × Value), U.length = ds.length ∧ Rw w S v ds.length (wcs U) ∧ ∀ i, i < ds.length → (xAt U i).1 = (dwAt ds i).1 ∧ By w S (xAt U i).2 (dwAt ds i).2
theorem Wrr.to {w w' : World} {S R : Nat → Prop} {v : Value} {ds : List DW} (h : Wrr w S v ds) (ho : Only R w w') (hd : ∀ b, S b → b < w.heap.size → ¬ R b) : Wrr w' S v ds := by
  obtain ⟨V, h1, h2, h3⟩ := h
  exact ⟨V, h1, h2.to ho hd, fun i hi => ⟨(h3 i hi).1, (h3 i hi).2.to ho hd⟩⟩
theorem Wrr.mono {w : World} {S R : Nat → Prop} {v : Value} {ds : List DW} (h : Wrr w S v ds) (hd : ∀ b, S b → b < w.heap.size → R b) : Wrr w R v ds := by
  obtain ⟨V, h1, h2, h3⟩ := h
  exact ⟨V, h1, h2.mono hd, fun i hi => ⟨(h3 i hi).1, (h3 i hi).2.mono hd⟩⟩
theorem Wrr.below {w w' : World} {S : Nat → Prop} {v : Value} {ds : List DW} (h : Wrr w S v ds) (hb : Below w.heap.size w w') : Wrr w' S v ds := h.to (only_of_below hb (fun _ => False)) (fun _ _ _ h => h)
theorem Wrr.shape {w : World} {S : Nat → Prop} {v : Value} {ds : List DW} (h : Wrr w S v ds) : ∃ a c, v = .slice a ds.length c ∧ ds.length ≤ c ∧ c ≤ 9223372036854775807 := by
  obtain ⟨V, h1, h2, h3⟩ := h
  exact h2.shape
theorem Wrr.len {w : World} {S : Nat → Prop} {a : Option Addr} {n c : Nat} {ds : List DW} (h : Wrr w S (.slice a n c) ds) : n = ds.length ∧ n ≤ c ∧ c ≤ 9223372036854775807 := by
  obtain ⟨V, h1, h2, h3⟩ := h
  exact Rw.len h2
theorem Wrr.at {w : World} {S : Nat → Prop} {a : Option Addr} {n c : Nat} {ds : List DW} (h : Wrr w S (.slice a n c) ds) (hp : 0 < n) : ∃ b off, a = some ⟨b, off, none⟩ ∧ S b ∧ b < w.heap.size ∧ ∀ i, i < n → ∃ ap np cp,
    w.cell? ⟨b, off + i * 2, none⟩ = some (.int .i64 (dwAt ds i).1) ∧ w.cell? ⟨b, off + i * 2 + 1, none⟩ = some (.slice ap np cp) ∧ By w S (.slice ap np cp) (dwAt ds i).2 := by
  obtain ⟨V, h1, h2, h3⟩ := h
  have hn := (Rw.len h2).1
  obtain ⟨b, off, e1, e2, e3, e4⟩ := h2.at hp
  refine ⟨b, off, e1, e2, e3, fun i hi => ?_⟩
  obtain ⟨k0, k1⟩ := h3 i (by omega)
  obtain ⟨c0, c1⟩ := wcs_at V i (by omega)
  have d0 := e4 _ _ c0
  have d1 := e4 _ _ c1
  obtain ⟨ap, cp, g0⟩ := k1.1.sliceOf
  rw [g0] at d1 k1
  rw [k0] at d0
  exact ⟨ap, _, cp, d0, d1, k1⟩
/-- A disk as plain data: its sheets, what waits. -/
structure DK where
  sh : List (List Int)
  dw : List DW
instance : DecidableEq DK := fun a b => decidable_of_iff (a.sh = b.sh ∧ a.dw = b.dw) (by cases a; cases b; simp)
/-- The two slices of a disk lead to d. -/
structure Dk (w : World) (S : Nat → Prop) (sa : Option Addr) (sn sc : Nat) (da : Option Addr) (dn dc : Nat) (d : DK) : Prop where
  hs : Shr w S (.slice sa sn sc) d.sh
  hd : Wrr w S (.slice da dn dc) d.dw
theorem Dk.to {w w' : World} {S R : Nat → Prop} {sa : Option Addr} {sn sc : Nat} {da : Option Addr} {dn dc : Nat} {d : DK} (h : Dk w S sa sn sc da dn dc d) (ho : Only R w w') (hd : ∀ b, S b → b < w.heap.size → ¬ R b) : Dk w' S sa sn sc da dn dc d := ⟨h.hs.to ho hd, h.hd.to ho hd⟩
theorem Dk.mono {w : World} {S R : Nat → Prop} {sa : Option Addr} {sn sc : Nat} {da : Option Addr} {dn dc : Nat} {d : DK} (h : Dk w S sa sn sc da dn dc d) (hd : ∀ b, S b → b < w.heap.size → R b) : Dk w R sa sn sc da dn dc d := ⟨h.hs.mono hd, h.hd.mono hd⟩
theorem Dk.below {w w' : World} {S : Nat → Prop} {sa : Option Addr} {sn sc : Nat} {da : Option Addr} {dn dc : Nat} {d : DK} (h : Dk w S sa sn sc da dn dc d) (hb : Below w.heap.size w w') : Dk w' S sa sn sc da dn dc d := ⟨h.hs.below hb, h.hd.below hb⟩
/-- All its lists are small. -/
def smallD (d : DK) : Prop := (∀ i, i < d.sh.length → (shAt d.sh i).length ≤ 1048576) ∧ ∀ i, i < d.dw.length → (dwAt d.dw i).2.length ≤ 1048576
/-- When a disk is right. -/
def shtOk (l : List Int) : Bool := decide (l.length = 0) || decide (l.length = 512)
def wrtOk (n : Nat) (p : DW) : Bool := decide (0 ≤ p.1) && decide (p.1 < (n : Int)) && decide (p.2.length = 512)
def dkOk (d : DK) : Bool := decide (2 ≤ d.sh.length) && decide (d.sh.length ≤ 400) && decide (d.dw.length ≤ 500) && d.sh.all shtOk && d.dw.all (wrtOk d.sh.length)
theorem allD_at {α : Type} {f : α → Bool} {l : List α} (z : α) : l.all f = true ↔ ∀ i, i < l.length → f (l[i]?.getD z) = true := by
  rw [List.all_eq_true]
  constructor
  · intro h i hi
    rw [List.getElem?_eq_getElem hi]
    exact h _ (List.getElem_mem hi)
  · intro h x hx
    obtain ⟨i, hi, rfl⟩ := List.mem_iff_getElem.1 hx
    have := h i hi
    rwa [List.getElem?_eq_getElem hi] at this
theorem all_not {α : Type} {f : α → Bool} {l : List α} (z : α) {i : Nat} (hi : i < l.length) (h : f (l[i]?.getD z) = false) : l.all f = false := by
  cases e : l.all f with
  | false => rfl
  | true => rw [(allD_at z).1 e i hi] at h; cases h
end Go.Proofs.Ytcpdedpgjaimkaa

