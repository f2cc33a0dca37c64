/-
  The law FnExactLocksOk answers true at every table of locks; what the laws over tables keep at hand.
-/
import Derived.Test.YtbaggkfgnjenoaaLkF
import Derived.Test.YtbaggkfgnjenoaaLkS
import Derived.Test.YtbaggkfgnjenoaaLkM
import Derived.Deep.RegionLaw
import Derived.Deep.DeepCutAuto
namespace Go.Proofs.Ytbaggkfgnjenoaa
open Go.RowKit
set_option linter.unusedVariables false
theorem btL {u v w : World} (h : Below u.heap.size u v) (k : Below v.heap.size v w) : Below u.heap.size u w := h.trans (k.mono h.size)
/-- The law's own table, in its box, its rows below. -/
structure LX (w v : World) (g : Nat) (ha : Option Addr) (hn hc : Nat) (wa : Option Addr) (wn wc : Nat) (hl wl : List LK) : Prop where
  bel : Below w.heap.size w v
  le : w.heap.size ≤ g
  kA : Bk v g 45 [.slice ha hn hc, .slice wa wn wc]
  hA : Lr v (fun b => b < w.heap.size) (.slice ha hn hc) hl
  hB : Lr v (fun b => b < w.heap.size) (.slice wa wn wc) wl
theorem LX.below {w v v' : World} {g : Nat} {ha : Option Addr} {hn hc : Nat} {wa : Option Addr} {wn wc : Nat} {hl wl : List LK} (h : LX w v g ha hn hc wa wn wc hl wl) (hb : Below v.heap.size v v') : LX w v' g ha hn hc wa wn wc hl wl := ⟨btL h.bel hb, h.le, h.kA.below hb, h.hA.below hb, h.hB.below hb⟩
theorem LX.only {w v v' : World} {g : Nat} {ha : Option Addr} {hn hc : Nat} {wa : Option Addr} {wn wc : Nat} {hl wl : List LK} (h : LX w v g ha hn hc wa wn wc hl wl) {R : Nat → Prop} (ho : Only R v v') (hR : ∀ b, R b → g < b) : LX w v' g ha hn hc wa wn wc hl wl :=
  ⟨h.bel.trans (ho.below h.bel.size (fun b hb hr => by have := hR b hr; have := h.le; omega)), h.le, h.kA.to ho (fun hr => by have := hR _ hr; omega), h.hA.to ho (fun b hb _ hr => by have := hR b hr; have := h.le; omega), h.hB.to ho (fun b hb _ hr => by have := hR b hr; have := h.le; omega)⟩
theorem LX.start {w : World} {ha : Option Addr} {hn hc : Nat} {wa : Option Addr} {wn wc : Nat} {hl wl : List LK} (h : Lr w (fun _ => True) (.slice ha hn hc) hl) (k : Lr w (fun _ => True) (.slice wa wn wc) wl) : LX w (w.alloc (.cells #[.slice ha hn hc, .slice wa wn wc] 45)) w.heap.size ha hn hc wa wn wc hl wl := by
  have hb := below_new (o := .cells #[.slice ha hn hc, .slice wa wn wc] 45) (w := w) (Below.refl _ _)
  exact ⟨hb, Nat.le_refl _, Bk.new w _ [_, _], (h.mono (R := fun b => b < w.heap.size) (fun b _ hb => hb)).below hb, (k.mono (R := fun b => b < w.heap.size) (fun b _ hb => hb)).below hb⟩
theorem LX.cells {w v : World} {g : Nat} {ha : Option Addr} {hn hc : Nat} {wa : Option Addr} {wn wc : Nat} {hl wl : List LK} (h : LX w v g ha hn hc wa wn wc hl wl) : v.cell? ⟨g, 0, none⟩ = some (.slice ha hn hc) ∧ v.cell? ⟨g, 1, none⟩ = some (.slice wa wn wc) := ⟨h.kA.cell (j := 0) rfl, h.kA.cell (j := 1) rfl⟩
/-- An answered table in its box. -/
structure LB (v : World) (b B : Nat) (ha : Option Addr) (hn hc : Nat) (wa : Option Addr) (wn wc : Nat) (hl wl : List LK) : Prop where
  box : Bk v b 25 [.slice ha hn hc, .slice wa wn wc]
  own : LO v B (.slice ha hn hc) (.slice wa wn wc) hl wl
  sep : ∀ y, lbl (.slice ha hn hc) (.slice wa wn wc) y → y < b
theorem LB.below {v v' : World} {b B : Nat} {ha : Option Addr} {hn hc : Nat} {wa : Option Addr} {wn wc : Nat} {hl wl : List LK} (h : LB v b B ha hn hc wa wn wc hl wl) (hb : Below v.heap.size v v') : LB v' b B ha hn hc wa wn wc hl wl := ⟨h.box.below hb, h.own.below hb, h.sep⟩
theorem LB.to {v v' : World} {R : Nat → Prop} {b B : Nat} {ha : Option Addr} {hn hc : Nat} {wa : Option Addr} {wn wc : Nat} {hl wl : List LK} (h : LB v b B ha hn hc wa wn wc hl wl) (ho : Only R v v') (hb : ¬ R b) (hR : ∀ y, lbl (.slice ha hn hc) (.slice wa wn wc) y → ¬ R y) : LB v' b B ha hn hc wa wn wc hl wl := ⟨h.box.to ho hb, h.own.to ho hR, h.sep⟩
theorem LB.new {v : World} {B : Nat} {ha : Option Addr} {hn hc : Nat} {wa : Option Addr} {wn wc : Nat} {hl wl : List LK} (h : LO v B (.slice ha hn hc) (.slice wa wn wc) hl wl) : LB (v.alloc (.cells #[.slice ha hn hc, .slice wa wn wc] 25)) v.heap.size B ha hn hc wa wn wc hl wl := ⟨Bk.new v _ [_, _], h.below (below_new (Below.refl _ _)), fun y hy => (h.lt hy).2⟩
theorem LB.cells {v : World} {b B : Nat} {ha : Option Addr} {hn hc : Nat} {wa : Option Addr} {wn wc : Nat} {hl wl : List LK} (h : LB v b B ha hn hc wa wn wc hl wl) : v.cell? ⟨b, 0, none⟩ = some (.slice ha hn hc) ∧ v.cell? ⟨b, 1, none⟩ = some (.slice wa wn wc) := ⟨h.box.cell (j := 0) rfl, h.box.cell (j := 1) rfl⟩
theorem LB.here {v : World} {b B : Nat} {ha : Option Addr} {hn hc : Nat} {wa : Option Addr} {wn wc : Nat} {hl wl : List LK} (h : LB v b B ha hn hc wa wn wc hl wl) {y : Nat} (hy : lbl (.slice ha hn hc) (.slice wa wn wc) y) : B ≤ y ∧ y < b := ⟨(h.own.lt hy).1, h.sep y hy⟩
end Go.Proofs.Ytbaggkfgnjenoaa

