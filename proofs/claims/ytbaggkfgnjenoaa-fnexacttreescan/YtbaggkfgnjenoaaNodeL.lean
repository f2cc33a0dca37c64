/-
  What the law's helpers do with nodes and trees: copied, sizes summed, held against each other.
-/
import Derived.Test.YtbaggkfgnjenoaaSiL
import Derived.Test.YtbaggkfgnjenoaaUf
namespace Go.Proofs.Ytbaggkfgnjenoaa
open Go.RowKit

theorem load_node {w : World} {g : Nat} {x y z : Value} (c0 : w.cell? ⟨g, 0, none⟩ = some x) (c1 : w.cell? ⟨g, 1, none⟩ = some y) (c2 : w.cell? ⟨g, 2, none⟩ = some z) :
    (loadVar 135 ⟨g, 0, none⟩).run Try.prog w = .ok (.agg #[x, y, z]) w := by go_simp
theorem results_node {fn : Func} {p : Tmp} (h : fn.results = #[.cell p 135]) (tmps : Array Value) (w : World) (g : Nat) {x y z : Value} (hp : tmps.getD p undef = .pointer (some ⟨g, 0, none⟩))
    (c0 : w.cell? ⟨g, 0, none⟩ = some x) (c1 : w.cell? ⟨g, 1, none⟩ = some y) (c2 : w.cell? ⟨g, 2, none⟩ = some z) : (results fn tmps).run Try.prog w = .ok (.agg #[x, y, z]) w := by
  have hp' : tmps[p]?.getD undef = .pointer (some ⟨g, 0, none⟩) := by simpa using hp
  simp [results, h, hp', asAddr, load_node c0 c1 c2]
set_option maxHeartbeats 2000000 in
theorem toNode_any (S : Nat → Prop) (ap ax ai : Option Addr) (np cp nx cx ni ci : Nat) (x : NB) (w : World) (hP : Pr w S (.slice ap np cp) x.ps) (hS : Sr w S (.slice ax nx cx) x.keys) (hI : Ir w S (.slice ai ni ci) x.kids)
    (h1 : np ≤ 1048576) (h2 : nx ≤ 1048576) (h3 : ni ≤ 1048576) :
    Calls Try.prog 114 #[.agg #[.slice ap np cp, .slice ax nx cx, .slice ai ni ci]] w fun e w' => ∃ g0 g1 g2, e = .returned (.agg #[.slice (some ⟨g0, 0, none⟩) np np, .slice (some ⟨g1, 0, none⟩) nx nx, .slice (some ⟨g2, 0, none⟩) ni ni]) ∧
      w.heap.size ≤ g0 ∧ w.heap.size ≤ g1 ∧ w.heap.size ≤ g2 ∧ Bk w' g0 69 (pcs x.ps) ∧ Bk w' g1 9 (x.keys.map Value.string) ∧ Bk w' g2 3 (x.kids.map (Value.int .i64)) ∧ Below w.heap.size w w' := by
  have HP := hid hP
  have HS := hid hS
  have HI := hid hI
  clear hP hS hI
  go_enter Try.func114, Try.ntmps114
  have HB0 : Hid (Below w.heap.size w (((w.alloc (.cells #[.slice ap np cp, .slice ax nx cx, .slice ai ni ci] 156)).alloc (.cells #[.slice none 0 0, .slice none 0 0, .slice none 0 0] 135)).alloc (.cells #[.slice none 0 0, .slice none 0 0, .slice none 0 0] 135))) := below_new (below_new (below_new (Below.refl _ _)))
  have KP : Hid (Bk (((w.alloc (.cells #[.slice ap np cp, .slice ax nx cx, .slice ai ni ci] 156)).alloc (.cells #[.slice none 0 0, .slice none 0 0, .slice none 0 0] 135)).alloc (.cells #[.slice none 0 0, .slice none 0 0, .slice none 0 0] 135)) w.heap.size 156 [.slice ap np cp, .slice ax nx cx, .slice ai ni ci]) := ((Bk.new w 156 [.slice ap np cp, .slice ax nx cx, .slice ai ni ci]).alloc _).alloc _
  have KR : Hid (Bk (((w.alloc (.cells #[.slice ap np cp, .slice ax nx cx, .slice ai ni ci] 156)).alloc (.cells #[.slice none 0 0, .slice none 0 0, .slice none 0 0] 135)).alloc (.cells #[.slice none 0 0, .slice none 0 0, .slice none 0 0] 135)) (w.heap.size + 1) 135 [.slice none 0 0, .slice none 0 0, .slice none 0 0]) := by
    have := (Bk.new (w.alloc (.cells #[.slice ap np cp, .slice ax nx cx, .slice ai ni ci] 156)) 135 [.slice none 0 0, .slice none 0 0, .slice none 0 0]).alloc (.cells #[.slice none 0 0, .slice none 0 0, .slice none 0 0] 135)
    show Bk _ _ _ _
    simpa using this
  have KO : Hid (Bk (((w.alloc (.cells #[.slice ap np cp, .slice ax nx cx, .slice ai ni ci] 156)).alloc (.cells #[.slice none 0 0, .slice none 0 0, .slice none 0 0] 135)).alloc (.cells #[.slice none 0 0, .slice none 0 0, .slice none 0 0] 135)) (w.heap.size + 1 + 1) 135 [.slice none 0 0, .slice none 0 0, .slice none 0 0]) := by
    have := Bk.new ((w.alloc (.cells #[.slice ap np cp, .slice ax nx cx, .slice ai ni ci] 156)).alloc (.cells #[.slice none 0 0, .slice none 0 0, .slice none 0 0] 135)) 135 [.slice none 0 0, .slice none 0 0, .slice none 0 0]
    show Bk _ _ _ _
    simpa using this
  have HZ : Hid ((((w.alloc (.cells #[.slice ap np cp, .slice ax nx cx, .slice ai ni ci] 156)).alloc (.cells #[.slice none 0 0, .slice none 0 0, .slice none 0 0] 135)).alloc (.cells #[.slice none 0 0, .slice none 0 0, .slice none 0 0] 135)).heap.size = w.heap.size + 3) := by show _ = _; simp
  go_wp2_with fail
  refine (toPairS_at S ap np cp x.ps _ (HP.out.below HB0.out) h1).mono ?_
  generalize (((w.alloc (.cells #[.slice ap np cp, .slice ax nx cx, .slice ai ni ci] 156)).alloc (.cells #[.slice none 0 0, .slice none 0 0, .slice none 0 0] 135)).alloc (.cells #[.slice none 0 0, .slice none 0 0, .slice none 0 0] 135)) = W at *
  rintro e w1 ⟨rfl, K0, hb1⟩
  have HB1 := hid (HB0.out.trans (hb1.mono HB0.out.size))
  have KP1 := hid (KP.out.below hb1)
  have KR1 := hid (KR.out.below hb1)
  have KO1 := hid (KO.out.below hb1)
  have K01 := hid K0
  have HG0 : Hid (w.heap.size + 3 ≤ W.heap.size) := Nat.le_of_eq HZ.out.symm
  clear hb1 K0 KP KR KO HB0 HZ
  generalize W.heap.size = g0 at *
  have c0 := KO1.out.cell (j := 0) rfl
  have f0 := KO1.out.free 0
  have p1 := KP1.out.cell (j := 1) rfl
  have HG0' := HG0.out
  have HB2 : Hid (Below w.heap.size w (w1.setCell ⟨w.heap.size + 1 + 1, 0, none⟩ (.slice (some ⟨g0, 0, none⟩) np np))) := HB1.out.setCell (by show w.heap.size ≤ w.heap.size + 1 + 1; omega) _
  have KP2 := hid (KP1.out.setOther (b := w.heap.size + 1 + 1) (by omega) 0 (.slice (some ⟨g0, 0, none⟩) np np))
  have KR2 := hid (KR1.out.setOther (b := w.heap.size + 1 + 1) (by omega) 0 (.slice (some ⟨g0, 0, none⟩) np np))
  have KO2 := hid (KO1.out.set 0 (.slice (some ⟨g0, 0, none⟩) np np))
  have K02 := hid (K01.out.setOther (b := w.heap.size + 1 + 1) (by omega) 0 (.slice (some ⟨g0, 0, none⟩) np np))
  have HL : Hid (g0 < (w1.setCell ⟨w.heap.size + 1 + 1, 0, none⟩ (.slice (some ⟨g0, 0, none⟩) np np)).heap.size) := K02.out.lt
  clear HB1 KP1 KR1 KO1 K01 HG0'
  go_wp2_with fail
  refine (toStringS_at S ax nx cx x.keys _ (HS.out.below HB2.out) h2).mono ?_
  generalize w1.setCell ⟨w.heap.size + 1 + 1, 0, none⟩ (.slice (some ⟨g0, 0, none⟩) np np) = W2 at *
  clear c0 f0 p1
  rintro e w2 ⟨rfl, K1, hb2⟩
  have HB3 := hid (HB2.out.trans (hb2.mono HB2.out.size))
  have KP3 := hid (KP2.out.below hb2)
  have KR3 := hid (KR2.out.below hb2)
  have KO3 := hid (KO2.out.below hb2)
  have K03 := hid (K02.out.below hb2)
  have K13 := hid K1
  clear hb2 K1 KP2 KR2 KO2 K02 HB2
  generalize W2.heap.size = g1 at *
  have c1 := KO3.out.cell (j := 1) rfl
  have f1 := KO3.out.free 1
  have p2 := KP3.out.cell (j := 2) rfl
  have HG0' := HG0.out
  have HL' := HL.out
  have HB4 : Hid (Below w.heap.size w (w2.setCell ⟨w.heap.size + 1 + 1, 1, none⟩ (.slice (some ⟨g1, 0, none⟩) nx nx))) := HB3.out.setCell (by show w.heap.size ≤ w.heap.size + 1 + 1; omega) _
  have KR4 := hid (KR3.out.setOther (b := w.heap.size + 1 + 1) (by omega) 1 (.slice (some ⟨g1, 0, none⟩) nx nx))
  have KO4 := hid (KO3.out.set 1 (.slice (some ⟨g1, 0, none⟩) nx nx))
  have K04 := hid (K03.out.setOther (b := w.heap.size + 1 + 1) (by omega) 1 (.slice (some ⟨g1, 0, none⟩) nx nx))
  have K14 := hid (K13.out.setOther (b := w.heap.size + 1 + 1) (by omega) 1 (.slice (some ⟨g1, 0, none⟩) nx nx))
  have HL1 : Hid (g1 < (w2.setCell ⟨w.heap.size + 1 + 1, 1, none⟩ (.slice (some ⟨g1, 0, none⟩) nx nx)).heap.size) := K14.out.lt
  clear HB3 KP3 KR3 KO3 K03 K13 HG0' HL'
  go_wp2_with fail
  refine (toIntS_at S ai ni ci x.kids _ (HI.out.below HB4.out) h3).mono ?_
  generalize w2.setCell ⟨w.heap.size + 1 + 1, 1, none⟩ (.slice (some ⟨g1, 0, none⟩) nx nx) = W4 at *
  clear c1 f1 p2
  rintro e w3 ⟨rfl, K2, hb3⟩
  have HB5 := hid (HB4.out.trans (hb3.mono HB4.out.size))
  have KR5 := hid (KR4.out.below hb3)
  have KO5 := hid (KO4.out.below hb3)
  have K05 := hid (K04.out.below hb3)
  have K15 := hid (K14.out.below hb3)
  have K25 := hid K2
  clear hb3 K2 KR4 KO4 K04 K14 HB4
  generalize W4.heap.size = g2 at *
  have c0 := KO5.out.cell (j := 0) rfl
  have c1 := KO5.out.cell (j := 1) rfl
  have c2 := KO5.out.cell (j := 2) rfl
  have f2 := KO5.out.free 2
  have r0 := KR5.out.cell (j := 0) rfl
  have r1 := KR5.out.cell (j := 1) rfl
  have r2 := KR5.out.cell (j := 2) rfl
  have q0 := KR5.out.free 0
  have q1 := KR5.out.free 1
  have q2 := KR5.out.free 2
  go_wp2
  try simp only [Exit.inBlock, Exit.then]
  refine bodyPost_ret (v := .agg #[.slice (some ⟨g0, 0, none⟩) np np, .slice (some ⟨g1, 0, none⟩) nx nx, .slice (some ⟨g2, 0, none⟩) ni ni]) ?_ rfl ?_
  · refine results_node rfl _ _ _ rfl ?_ ?_ ?_
    · go_simp
    · go_simp
    · go_simp
  · have HG0' := HG0.out
    have HL' := HL.out
    have HL1' := HL1.out
    refine ⟨g0, g1, g2, rfl, by omega, by omega, by omega, ?_, ?_, ?_, ?_⟩
    · exact (((K05.out.setOther (by omega) _ _).setOther (by omega) _ _).setOther (by omega) _ _).setOther (by omega) _ _
    · exact (((K15.out.setOther (by omega) _ _).setOther (by omega) _ _).setOther (by omega) _ _).setOther (by omega) _ _
    · exact (((K25.out.setOther (by omega) _ _).setOther (by omega) _ _).setOther (by omega) _ _).setOther (by omega) _ _
    · exact (((HB5.out.setCell (by show w.heap.size ≤ w.heap.size + 1 + 1; omega) _).setCell (by show w.heap.size ≤ w.heap.size + 1; omega) _).setCell (by show w.heap.size ≤ w.heap.size + 1; omega) _).setCell (by show w.heap.size ≤ w.heap.size + 1; omega) _
end Go.Proofs.Ytbaggkfgnjenoaa

