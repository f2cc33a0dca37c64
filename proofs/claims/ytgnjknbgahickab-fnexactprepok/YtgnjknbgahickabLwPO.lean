/-
  The law FnExactPrepOk answers true at every Prep; what the laws over a Prep keep at hand.
-/
import Derived.Test.YtgnjknbgahickabRcB
import Derived.Test.YtgnjknbgahickabRcN
import Derived.Deep.RegionLaw
import Derived.Deep.DeepCutAuto
namespace Go.Proofs.Ytgnjknbgahickab
open Go.RowKit
set_option linter.unusedVariables false
/-- The law's own Prep, in its box, its row below. -/
structure PX (w v : World) (g : Nat) (c e n : Int) (ra : Option Addr) (rn rc : Nat) (rl : List RC) : Prop where
  bel : Below w.heap.size w v
  le : w.heap.size ≤ g
  kA : Bk v g 41 [.int .i64 c, .int .i64 e, .int .i64 n, .slice ra rn rc]
  hA : rcR v (fun b => b < w.heap.size) (.slice ra rn rc) rl
theorem PX.below {w v v' : World} {g : Nat} {c e n : Int} {ra : Option Addr} {rn rc : Nat} {rl : List RC} (h : PX w v g c e n ra rn rc rl) (hb : Below v.heap.size v v') : PX w v' g c e n ra rn rc rl := ⟨btR h.bel hb, h.le, h.kA.below hb, h.hA.below hb⟩
theorem PX.only {w v v' : World} {g : Nat} {c e n : Int} {ra : Option Addr} {rn rc : Nat} {rl : List RC} (h : PX w v g c e n ra rn rc rl) {R : Nat → Prop} (ho : Only R v v') (hR : ∀ b, R b → g < b) : PX w v' g c e n ra rn rc rl :=
  ⟨h.bel.trans (ho.below h.bel.size (fun b hb hr => by have := hR b hr; have := h.le; omega)), h.le, h.kA.to ho (fun hr => by have := hR _ hr; omega), h.hA.to ho (fun b hb _ hr => by have := hR b hr; have := h.le; omega)⟩
theorem PX.start {w : World} {c e n : Int} {ra : Option Addr} {rn rc : Nat} {rl : List RC} (h : rcR w (fun _ => True) (.slice ra rn rc) rl) : PX w (w.alloc (.cells #[.int .i64 c, .int .i64 e, .int .i64 n, .slice ra rn rc] 41)) w.heap.size c e n ra rn rc rl := by
  have hb := below_new (o := .cells #[.int .i64 c, .int .i64 e, .int .i64 n, .slice ra rn rc] 41) (w := w) (Below.refl _ _)
  exact ⟨hb, Nat.le_refl _, Bk.new w _ [_, _, _, _], (h.mono (R := fun b => b < w.heap.size) (fun b _ hb => hb)).below hb⟩
theorem PX.cells {w v : World} {g : Nat} {c e n : Int} {ra : Option Addr} {rn rc : Nat} {rl : List RC} (h : PX w v g c e n ra rn rc rl) : v.cell? ⟨g, 0, none⟩ = some (.int .i64 c) ∧ v.cell? ⟨g, 1, none⟩ = some (.int .i64 e) ∧ v.cell? ⟨g, 2, none⟩ = some (.int .i64 n) ∧ v.cell? ⟨g, 3, none⟩ = some (.slice ra rn rc) := ⟨h.kA.cell (j := 0) rfl, h.kA.cell (j := 1) rfl, h.kA.cell (j := 2) rfl, h.kA.cell (j := 3) rfl⟩
/-- An owned Prep in its box. -/
structure PB8 (v : World) (b B : Nat) (c e n : Int) (ra : Option Addr) (rn rc : Nat) (rl : List RC) : Prop where
  box : Bk v b 47 [.int .i64 c, .int .i64 e, .int .i64 n, .slice ra rn rc]
  own : rcW v B (.slice ra rn rc) rl
  sep : ∀ y, (Value.slice ra rn rc).ownBlock = some y → y < b
theorem PB8.below {v v' : World} {b B : Nat} {c e n : Int} {ra : Option Addr} {rn rc : Nat} {rl : List RC} (h : PB8 v b B c e n ra rn rc rl) (hb : Below v.heap.size v v') : PB8 v' b B c e n ra rn rc rl := ⟨h.box.below hb, h.own.below hb, h.sep⟩
theorem PB8.to {v v' : World} {R : Nat → Prop} {b B : Nat} {c e n : Int} {ra : Option Addr} {rn rc : Nat} {rl : List RC} (h : PB8 v b B c e n ra rn rc rl) (ho : Only R v v') (hb : ¬ R b) (hR : ∀ y, (Value.slice ra rn rc).ownBlock = some y → ¬ R y) : PB8 v' b B c e n ra rn rc rl := ⟨h.box.to ho hb, h.own.to ho hR, h.sep⟩
theorem PB8.new {v : World} {B : Nat} {c e n : Int} {ra : Option Addr} {rn rc : Nat} {rl : List RC} (h : rcW v B (.slice ra rn rc) rl) : PB8 (v.alloc (.cells #[.int .i64 c, .int .i64 e, .int .i64 n, .slice ra rn rc] 47)) v.heap.size B c e n ra rn rc rl := ⟨Bk.new v _ [_, _, _, _], h.below (below_new (Below.refl _ _)), fun y hy => (h.lt hy).2⟩
theorem PB8.cells {v : World} {b B : Nat} {c e n : Int} {ra : Option Addr} {rn rc : Nat} {rl : List RC} (h : PB8 v b B c e n ra rn rc rl) : v.cell? ⟨b, 0, none⟩ = some (.int .i64 c) ∧ v.cell? ⟨b, 1, none⟩ = some (.int .i64 e) ∧ v.cell? ⟨b, 2, none⟩ = some (.int .i64 n) ∧ v.cell? ⟨b, 3, none⟩ = some (.slice ra rn rc) := ⟨h.box.cell (j := 0) rfl, h.box.cell (j := 1) rfl, h.box.cell (j := 2) rfl, h.box.cell (j := 3) rfl⟩
set_option maxHeartbeats 8000000 in
set_option maxRecDepth 20000 in
theorem lawPrepOk_walk (c e n : Int) (ra : Option Addr) (rn rc : Nat) (rl : List RC) (w : World) (h : rcR w (fun _ => True) (.slice ra rn rc) rl ∧ rcSz rl) :
    Calls Try.prog 5 #[.agg #[.int .i64 c, .int .i64 e, .int .i64 n, .slice ra rn rc]] w fun e w' => e = .returned (.bool true) ∧ Below w.heap.size w w' := by
  have X0 := hid (PX.start (c := c) (e := e) (n := n) h.1)
  have HZ1 := hid h.2
  clear h
  go_enter Try.func5, Try.ntmps5
  go_wp2_with fail
  refine (szPrep_any _ c e n ra rn rc rl _ X0.out.hA HZ1.out).mono ?_
  generalize w.alloc (.cells #[.int .i64 c, .int .i64 e, .int .i64 n, .slice ra rn rc] 41) = U at *
  rintro r w1 ⟨⟨x, rfl, hx1, hx2, hx3⟩, hb⟩
  have X1 := hid (X0.out.below hb)
  clear hb X0
  by_cases hneg : x < 0
  · clear hx3
    go_wp2
    go_ret
    exact ⟨rfl, X1.out.bel⟩
  · have m0 := hx3 (by omega)
    clear hx3
    obtain ⟨x0, x1, x2, x3⟩ := X1.out.cells
    go_wp2_with fail
    refine (toPrep_any _ c e n ra rn rc rl _ X1.out.hA m0).mono ?_
    rintro r w2 ⟨g0, rfl, hO, hb⟩
    have X2 := hid (X1.out.below hb)
    have C2 := hid hO
    clear hb X1 hO x0 x1 x2 x3
    go_wp2_with fail
    refine (specPrepOk_any (fun _ => True) c e n _ _ _ rl _ C2.out.r).mono ?_
    rintro r w3 ⟨rfl, hb⟩
    have X3 := hid (X2.out.below hb)
    clear hb X2 C2
    obtain ⟨x0, x1, x2, x3⟩ := X3.out.cells
    go_wp2_with fail
    refine (toPrep_any _ c e n ra rn rc rl _ X3.out.hA m0).mono ?_
    rintro r w4 ⟨h0, rfl, hO, hb⟩
    have X4 := hid (X3.out.below hb)
    have C4 := hid (PB8.new (c := c) (e := e) (n := n) hO)
    clear hb X3 hO x0 x1 x2 x3
    have hb := below_new (o := .cells #[.int .i64 c, .int .i64 e, .int .i64 n, .slice (some ⟨h0, 0, none⟩) rn rn] 47) (w := w4) (Below.refl _ _)
    have X5 := hid (X4.out.below hb)
    clear hb X4
    go_wp2_with fail
    refine (implPrepOk_any (fun _ => True) c e n _ _ _ rl _ C4.out.own.r).mono ?_
    generalize w4.alloc (.cells #[.int .i64 c, .int .i64 e, .int .i64 n, .slice (some ⟨h0, 0, none⟩) rn rn] 47) = w5 at *
    generalize w4.heap.size = b4 at *
    rintro r w6 ⟨rfl, hb⟩
    have X6 := hid (X5.out.below hb)
    have C6 := hid (C4.out.below hb)
    clear hb X5 C4
    have hne : (prOk (c, e, n) rl != prOk (c, e, n) rl) = false := by simp
    generalize prOk (c, e, n) rl = Z at *
    obtain ⟨x0, x1, x2, x3⟩ := X6.out.cells
    obtain ⟨y0, y1, y2, y3⟩ := C6.out.cells
    have X7 := hid (X6.out.below (below_drew _))
    have C7 := hid (C6.out.below (below_drew _))
    go_wp2_with fail
    go_cut [26] (fun x v => x = .bool false ∧ Below w.heap.size w v)
    case first =>
      go_region_with (first
        | (go_at_call 16; refine (toPrep_any _ c e n ra rn rc rl _ X7.out.hA m0).mono ?_; rintro r w8 ⟨f0, rfl, hO8, hb8⟩; have z0 := (C7.out.below hb8).cells.1; have z1 := (C7.out.below hb8).cells.2.1; have z2 := (C7.out.below hb8).cells.2.2.1; have z3 := (C7.out.below hb8).cells.2.2.2)
        | (go_at_call 18; refine (eqPrep_same (fun _ => True) (fun _ => True) c e n _ _ _ _ _ _ rl _ (C7.out.below hb8).own.r hO8.r).mono ?_; rintro r w9 ⟨rfl, hb9⟩))
      all_goals (go_wp2_with fail; go_meet)
      all_goals exact ⟨by simp, btR (btR X7.out.bel hb8) hb9⟩
    case rest =>
      obtain ⟨rfl, hbf⟩ := hcut
      have BF := hid hbf
      clear hbf
      go_wp2
      go_ret
      exact ⟨rfl, BF.out⟩
end Go.Proofs.Ytgnjknbgahickab

