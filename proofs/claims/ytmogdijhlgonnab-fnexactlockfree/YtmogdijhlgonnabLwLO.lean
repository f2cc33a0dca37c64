/-
  The law FnExactLocksOk answers true at every table of locks; what the laws over tables keep at hand.
-/
import Derived.Test.YtmogdijhlgonnabLkF
import Derived.Test.YtmogdijhlgonnabLkS
import Derived.Test.YtmogdijhlgonnabLkM
import Derived.Deep.RegionLaw
import Derived.Deep.DeepCutAuto
namespace Go.Proofs.Ytmogdijhlgonnab
open Go.RowKit
set_option linter.unusedVariables false
theorem btL {u v w : World} (h : Below u.heap.size u v) (k : Below v.heap.size v w) : Below u.heap.size u w := h.trans (k.mono h.size)
/-- The law's own table, in its box, its rows below. -/
structure LX (w v : World) (g : Nat) (ha : Option Addr) (hn hc : Nat) (wa : Option Addr) (wn wc : Nat) (hl wl : List LK) : Prop where
  bel : Below w.heap.size w v
  le : w.heap.size ≤ g
  kA : Bk v g 24 [.slice ha hn hc, .slice wa wn wc]
  hA : Lr v (fun b => b < w.heap.size) (.slice ha hn hc) hl
  hB : Lr v (fun b => b < w.heap.size) (.slice wa wn wc) wl
theorem LX.below {w v v' : World} {g : Nat} {ha : Option Addr} {hn hc : Nat} {wa : Option Addr} {wn wc : Nat} {hl wl : List LK} (h : LX w v g ha hn hc wa wn wc hl wl) (hb : Below v.heap.size v v') : LX w v' g ha hn hc wa wn wc hl wl := ⟨btL h.bel hb, h.le, h.kA.below hb, h.hA.below hb, h.hB.below hb⟩
theorem LX.only {w v v' : World} {g : Nat} {ha : Option Addr} {hn hc : Nat} {wa : Option Addr} {wn wc : Nat} {hl wl : List LK} (h : LX w v g ha hn hc wa wn wc hl wl) {R : Nat → Prop} (ho : Only R v v') (hR : ∀ b, R b → g < b) : LX w v' g ha hn hc wa wn wc hl wl :=
  ⟨h.bel.trans (ho.below h.bel.size (fun b hb hr => by have := hR b hr; have := h.le; omega)), h.le, h.kA.to ho (fun hr => by have := hR _ hr; omega), h.hA.to ho (fun b hb _ hr => by have := hR b hr; have := h.le; omega), h.hB.to ho (fun b hb _ hr => by have := hR b hr; have := h.le; omega)⟩
theorem LX.start {w : World} {ha : Option Addr} {hn hc : Nat} {wa : Option Addr} {wn wc : Nat} {hl wl : List LK} (h : Lr w (fun _ => True) (.slice ha hn hc) hl) (k : Lr w (fun _ => True) (.slice wa wn wc) wl) : LX w (w.alloc (.cells #[.slice ha hn hc, .slice wa wn wc] 24)) w.heap.size ha hn hc wa wn wc hl wl := by
  have hb := below_new (o := .cells #[.slice ha hn hc, .slice wa wn wc] 24) (w := w) (Below.refl _ _)
  exact ⟨hb, Nat.le_refl _, Bk.new w _ [_, _], (h.mono (R := fun b => b < w.heap.size) (fun b _ hb => hb)).below hb, (k.mono (R := fun b => b < w.heap.size) (fun b _ hb => hb)).below hb⟩
theorem LX.cells {w v : World} {g : Nat} {ha : Option Addr} {hn hc : Nat} {wa : Option Addr} {wn wc : Nat} {hl wl : List LK} (h : LX w v g ha hn hc wa wn wc hl wl) : v.cell? ⟨g, 0, none⟩ = some (.slice ha hn hc) ∧ v.cell? ⟨g, 1, none⟩ = some (.slice wa wn wc) := ⟨h.kA.cell (j := 0) rfl, h.kA.cell (j := 1) rfl⟩
/-- An answered table in its box. -/
structure LB (v : World) (b B : Nat) (ha : Option Addr) (hn hc : Nat) (wa : Option Addr) (wn wc : Nat) (hl wl : List LK) : Prop where
  box : Bk v b 29 [.slice ha hn hc, .slice wa wn wc]
  own : LO v B (.slice ha hn hc) (.slice wa wn wc) hl wl
  sep : ∀ y, lbl (.slice ha hn hc) (.slice wa wn wc) y → y < b
theorem LB.below {v v' : World} {b B : Nat} {ha : Option Addr} {hn hc : Nat} {wa : Option Addr} {wn wc : Nat} {hl wl : List LK} (h : LB v b B ha hn hc wa wn wc hl wl) (hb : Below v.heap.size v v') : LB v' b B ha hn hc wa wn wc hl wl := ⟨h.box.below hb, h.own.below hb, h.sep⟩
theorem LB.to {v v' : World} {R : Nat → Prop} {b B : Nat} {ha : Option Addr} {hn hc : Nat} {wa : Option Addr} {wn wc : Nat} {hl wl : List LK} (h : LB v b B ha hn hc wa wn wc hl wl) (ho : Only R v v') (hb : ¬ R b) (hR : ∀ y, lbl (.slice ha hn hc) (.slice wa wn wc) y → ¬ R y) : LB v' b B ha hn hc wa wn wc hl wl := ⟨h.box.to ho hb, h.own.to ho hR, h.sep⟩
theorem LB.new {v : World} {B : Nat} {ha : Option Addr} {hn hc : Nat} {wa : Option Addr} {wn wc : Nat} {hl wl : List LK} (h : LO v B (.slice ha hn hc) (.slice wa wn wc) hl wl) : LB (v.alloc (.cells #[.slice ha hn hc, .slice wa wn wc] 29)) v.heap.size B ha hn hc wa wn wc hl wl := ⟨Bk.new v _ [_, _], h.below (below_new (Below.refl _ _)), fun y hy => (h.lt hy).2⟩
theorem LB.cells {v : World} {b B : Nat} {ha : Option Addr} {hn hc : Nat} {wa : Option Addr} {wn wc : Nat} {hl wl : List LK} (h : LB v b B ha hn hc wa wn wc hl wl) : v.cell? ⟨b, 0, none⟩ = some (.slice ha hn hc) ∧ v.cell? ⟨b, 1, none⟩ = some (.slice wa wn wc) := ⟨h.box.cell (j := 0) rfl, h.box.cell (j := 1) rfl⟩
theorem LB.here {v : World} {b B : Nat} {ha : Option Addr} {hn hc : Nat} {wa : Option Addr} {wn wc : Nat} {hl wl : List LK} (h : LB v b B ha hn hc wa wn wc hl wl) {y : Nat} (hy : lbl (.slice ha hn hc) (.slice wa wn wc) y) : B ≤ y ∧ y < b := ⟨(h.own.lt hy).1, h.sep y hy⟩
set_option maxHeartbeats 8000000 in
set_option maxRecDepth 20000 in
theorem lawLocksOk_walk (ha : Option Addr) (hn hc : Nat) (wa : Option Addr) (wn wc : Nat) (hl wl : List LK) (w : World) (h : Lr w (fun _ => True) (.slice ha hn hc) hl ∧ szOkL hl) (k : Lr w (fun _ => True) (.slice wa wn wc) wl ∧ szOkL wl) :
    Calls Try.prog 3 #[.agg #[.slice ha hn hc, .slice wa wn wc]] w fun e w' => e = .returned (.bool true) ∧ Below w.heap.size w w' := by
  have X0 := hid (LX.start h.1 k.1)
  have HZ1 := hid h.2
  have HZ2 := hid k.2
  clear h k
  go_enter Try.func3, Try.ntmps3
  go_wp2_with fail
  refine (szLocks_any _ _ ha hn hc wa wn wc hl wl _ X0.out.hA X0.out.hB HZ1.out HZ2.out).mono ?_
  generalize w.alloc (.cells #[.slice ha hn hc, .slice wa wn wc] 24) = U at *
  rintro e w1 ⟨⟨x, rfl, hx1, hx2, hx3⟩, hb⟩
  have X1 := hid (X0.out.below hb)
  clear hb X0
  by_cases hneg : x < 0
  · clear hx3
    go_wp2
    go_ret
    exact ⟨rfl, X1.out.bel⟩
  · obtain ⟨m0, m1⟩ := hx3 (by omega)
    clear hx3
    obtain ⟨x0, x1⟩ := X1.out.cells
    go_wp2_with fail
    refine (toLocks_any _ _ ha hn hc wa wn wc hl wl _ X1.out.hA X1.out.hB m0 m1).mono ?_
    rintro e w2 ⟨g0, g1, rfl, hO, hb⟩
    have X2 := hid (X1.out.below hb)
    have C2 := hid hO
    clear hb X1 hO x0 x1
    go_wp2_with fail
    refine (specLocksOk_any (fun _ => True) (fun _ => True) _ _ _ _ _ _ hl wl _ C2.out.hh.lr C2.out.hw.lr (by omega) (by omega)).mono ?_
    rintro e w3 ⟨rfl, hb⟩
    have X3 := hid (X2.out.below hb)
    clear hb X2 C2
    obtain ⟨x0, x1⟩ := X3.out.cells
    go_wp2_with fail
    refine (toLocks_any _ _ ha hn hc wa wn wc hl wl _ X3.out.hA X3.out.hB m0 m1).mono ?_
    rintro e w4 ⟨h0, h1, rfl, hO, hb⟩
    have X4 := hid (X3.out.below hb)
    have C4 := hid (LB.new hO)
    clear hb X3 hO x0 x1
    have hb := below_new (o := .cells #[.slice (some ⟨h0, 0, none⟩) hn hn, .slice (some ⟨h1, 0, none⟩) wn wn] 29) (w := w4) (Below.refl _ _)
    have X5 := hid (X4.out.below hb)
    clear hb X4
    go_wp2_with fail
    refine (implLocksOk_any (fun _ => True) (fun _ => True) _ _ _ _ _ _ hl wl _ C4.out.own.hh.lr C4.out.own.hw.lr (by omega) (by omega)).mono ?_
    generalize w4.alloc (.cells #[.slice (some ⟨h0, 0, none⟩) hn hn, .slice (some ⟨h1, 0, none⟩) wn wn] 29) = w5 at *
    generalize w4.heap.size = b4 at *
    rintro e w6 ⟨rfl, hb⟩
    have X6 := hid (X5.out.below hb)
    have C6 := hid (C4.out.below hb)
    clear hb X5 C4
    have hne : (lksOk hl wl != lksOk hl wl) = false := by simp
    generalize lksOk hl wl = Z at *
    obtain ⟨x0, x1⟩ := X6.out.cells
    obtain ⟨y0, y1⟩ := C6.out.cells
    have X7 := hid (X6.out.below (below_drew _))
    have C7 := hid (C6.out.below (below_drew _))
    go_wp2_with fail
    go_cut [26] (fun x v => x = .bool false ∧ Below w.heap.size w v)
    case first =>
      go_region_with (first
        | (go_at_call 9; refine (toLocks_any _ _ ha hn hc wa wn wc hl wl _ X7.out.hA X7.out.hB m0 m1).mono ?_; rintro e w8 ⟨f0, f1, rfl, hO8, hb8⟩; have z0 := (C7.out.below hb8).cells.1; have z1 := (C7.out.below hb8).cells.2)
        | (go_at_call 11; refine (eqLocks_same (fun _ => True) (fun _ => True) (fun _ => True) (fun _ => True) _ _ _ _ _ _ _ _ _ _ _ _ hl wl _ (C7.out.below hb8).own.hh.lr (C7.out.below hb8).own.hw.lr hO8.hh.lr hO8.hw.lr).mono ?_; rintro e w9 ⟨rfl, hb9⟩))
      all_goals (go_wp2_with fail; go_meet)
      all_goals exact ⟨by simp, btL (btL X7.out.bel hb8) hb9⟩
    case rest =>
      obtain ⟨rfl, hbf⟩ := hcut
      have BF := hid hbf
      clear hbf
      go_wp2
      go_ret
      exact ⟨rfl, BF.out⟩
end Go.Proofs.Ytmogdijhlgonnab

