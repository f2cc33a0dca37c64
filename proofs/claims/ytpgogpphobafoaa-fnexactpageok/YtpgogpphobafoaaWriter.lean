/-
  The program's writer: what its methods fail and add do to it, for every state of the writer.
-/
import Derived.Test.YtpgogpphobafoaaApp
import Derived.Test.YtpgogpphobafoaaPlain
namespace Go.Proofs.Ytpgogpphobafoaa
open Go.RowKit

/-- Block g is a writer that gathers at most 'most' bytes: it holds the bytes zs (st = some zs), or an error (st = none). -/
def Wr (w : World) (g most : Nat) (st : Option (List Int)) : Prop :=
  ∃ v ev zs, w.cell? ⟨g, 0, none⟩ = some v ∧ w.cell? ⟨g, 1, none⟩ = some (.int .i64 most) ∧ w.cell? ⟨g, 2, none⟩ = some ev ∧
    w.frozen? ⟨g, 0, none⟩ = false ∧ w.frozen? ⟨g, 2, none⟩ = false ∧ Ob w (g + 1) v zs ∧ zs.length ≤ most ∧ most ≤ 1099511627776 ∧ (∀ z ∈ zs, 0 ≤ z ∧ z ≤ 255) ∧
    ((ev = .nilIface ∧ st = some zs) ∨ ((∃ t x, ev = .iface t x) ∧ st = none))

/-- The variable at block v holds an error. -/
def Err (w : World) (v : Nat) : Prop := ∃ t x, w.cell? ⟨v, 0, none⟩ = some (.iface t x)
theorem Err.below {w w' : World} {v g : Nat} (h : Err w v) (hb : Below g w w') (hv : v < g) : Err w' v := by
  obtain ⟨t, x, hc⟩ := h
  exact ⟨t, x, by rw [hb.cell (p := ⟨v, 0, none⟩) hv]; exact hc⟩

def addSt (most : Nat) : Option (List Int) → List Int → Option (List Int)
  | none, _ => none
  | some zs, ys => if zs.length + ys.length ≤ most then some (zs ++ ys) else none

theorem Ob.drewN {w : World} {B : Nat} {v : Value} {zs : List Int} (h : Ob w B v zs) (q : Nat) : Ob (w.drewN q) B v zs := h
theorem Rd.drewN {w : World} {a : Option Addr} {n c : Nat} {zs : List Int} (h : Rd w a n c zs) (q : Nat) : Rd (w.drewN q) a n c zs := h

/-- What is kept of a writer where its error alone is set. -/
theorem wr_failed {w : World} {g most : Nat} {zs : List Int} {v : Value} {t : TypeId} {x : Value} (c0 : w.cell? ⟨g, 0, none⟩ = some v) (c1 : w.cell? ⟨g, 1, none⟩ = some (.int .i64 most)) (c2 : w.cell? ⟨g, 2, none⟩ = some .nilIface)
    (f0 : w.frozen? ⟨g, 0, none⟩ = false) (f2 : w.frozen? ⟨g, 2, none⟩ = false) (ho : Ob w (g + 1) v zs) (hl : zs.length ≤ most) (hm : most ≤ 1099511627776) (hb : ∀ z ∈ zs, 0 ≤ z ∧ z ≤ 255) :
    Wr (w.setCell ⟨g, 2, none⟩ (.iface t x)) g most none := by
  refine ⟨v, .iface t x, zs, ?_, ?_, ?_, ?_, ?_, ownsRow_setCell_below ho (by simp) _, hl, hm, hb, .inr ⟨⟨t, x, rfl⟩, rfl⟩⟩
  · rw [World.cell?_setCell_other (h := by simp)]; exact c0
  · rw [World.cell?_setCell_other (h := by simp)]; exact c1
  · exact World.cell?_setCell_same _ _ _ c2
  · simp [f0]
  · simp [f2]

theorem Wr.drewN {w : World} {g most : Nat} {st : Option (List Int)} (h : Wr w g most st) (q : Nat) : Wr (w.drewN q) g most st := h
theorem Wr.lt {w : World} {g most : Nat} {st : Option (List Int)} (h : Wr w g most st) : g < w.heap.size := by
  obtain ⟨v, ev, zs, c0, _⟩ := h
  exact block_lt c0
/-- A writer keeps in a world that has kept its block and its row. -/
theorem Wr.alloc {w : World} {g most : Nat} {st : Option (List Int)} (h : Wr w g most st) (o : Obj) : Wr (w.alloc o) g most st := by
  have hlt := h.lt
  obtain ⟨v, ev, zs, c0, c1, c2, f0, f2, ho, hr⟩ := h
  exact ⟨v, ev, zs, by rw [World.cell?_alloc_past (hn := hlt)]; exact c0, by rw [World.cell?_alloc_past (hn := hlt)]; exact c1, by rw [World.cell?_alloc_past (hn := hlt)]; exact c2,
    by rw [World.frozen?_alloc_past (hn := hlt)]; exact f0, by rw [World.frozen?_alloc_past (hn := hlt)]; exact f2, ho.alloc o, hr⟩

theorem addSt_none (most : Nat) (ys : List Int) : addSt most none ys = none := rfl
theorem addSt_addSt (most : Nat) (st : Option (List Int)) (xs ys : List Int) : addSt most (addSt most st xs) ys = addSt most st (xs ++ ys) := by
  cases st with
  | none => rfl
  | some zs =>
    by_cases h : zs.length + xs.length ≤ most
    · have e : addSt most (some zs) xs = some (zs ++ xs) := by unfold addSt; exact if_pos h
      rw [e]
      unfold addSt
      simp [Nat.add_assoc]
    · have e : addSt most (some zs) xs = none := by unfold addSt; exact if_neg h
      have e2 : addSt most (some zs) (xs ++ ys) = none := by unfold addSt; exact if_neg (by rw [List.length_append]; omega)
      rw [e, e2, addSt_none]
theorem Wr.add_nil {w : World} {g most : Nat} {st : Option (List Int)} (h : Wr w g most st) : addSt most st [] = st := by
  obtain ⟨v, ev, zs, _, _, _, _, _, _, hl, _, _, ⟨_, rfl⟩ | ⟨_, rfl⟩⟩ := h
  · unfold addSt; simp [hl]
  · rfl

/-- What number does to the writer's state. -/
def numSt (most : Nat) (st : Option (List Int)) (n : Int) : Option (List Int) := if 0 ≤ n ∧ n ≤ 1099511627775 then addSt most st (enc n) else none

end Go.Proofs.Ytpgogpphobafoaa

