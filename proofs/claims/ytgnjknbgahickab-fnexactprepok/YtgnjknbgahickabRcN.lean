/-
  What the law's helpers do with Preps: sizes summed, copied, held against each other.
-/
import Derived.Test.YtgnjknbgahickabRcM
import Derived.Test.YtgnjknbgahickabLkA
namespace Go.Proofs.Ytgnjknbgahickab
open Go.RowKit
set_option linter.unusedVariables false
theorem results_prep {fn : Func} {p : Tmp} (h : fn.results = #[.cell p 47]) (tmps : Array Value) (w : World) (g : Nat) {c e n : Int} {v : Value} (hp : tmps.getD p undef = .pointer (some ⟨g, 0, none⟩))
    (c0 : w.cell? ⟨g, 0, none⟩ = some (.int .i64 c)) (c1 : w.cell? ⟨g, 1, none⟩ = some (.int .i64 e)) (c2 : w.cell? ⟨g, 2, none⟩ = some (.int .i64 n)) (c3 : w.cell? ⟨g, 3, none⟩ = some v) : (results fn tmps).run Try.prog w = .ok (.agg #[.int .i64 c, .int .i64 e, .int .i64 n, v]) w := by
  have hp' : tmps[p]?.getD undef = .pointer (some ⟨g, 0, none⟩) := by simpa using hp
  have hl : (loadVar 47 ⟨g, 0, none⟩).run Try.prog w = .ok (.agg #[.int .i64 c, .int .i64 e, .int .i64 n, v]) w := by go_simp
  simp [results, h, hp', asAddr, hl]
set_option maxHeartbeats 4000000 in
theorem toPrep_any (S : Nat → Prop) (c e n : Int) (ra : Option Addr) (rn rc : Nat) (rl : List RC) (w : World) (h1 : rcR w S (.slice ra rn rc) rl) (hh : rn ≤ 1048576) :
    Calls Try.prog 16 #[.agg #[.int .i64 c, .int .i64 e, .int .i64 n, .slice ra rn rc]] w fun r w' => ∃ g0, r = .returned (.agg #[.int .i64 c, .int .i64 e, .int .i64 n, .slice (some ⟨g0, 0, none⟩) rn rn]) ∧ rcW w' w.heap.size (.slice (some ⟨g0, 0, none⟩) rn rn) rl ∧ Below w.heap.size w w' := by
  have HN := hid (Rw.len h1).1
  have HE : Hid (Below w.heap.size w (((w.alloc (.cells #[.int .i64 c, .int .i64 e, .int .i64 n, .slice ra rn rc] 41)).alloc (.cells #[.int .i64 0, .int .i64 0, .int .i64 0, .slice none 0 0] 47)).alloc (.cells #[.int .i64 0, .int .i64 0, .int .i64 0, .slice none 0 0] 47))) := below_new (below_new (below_new (Below.refl _ _)))
  have C1 := hid (fun w => toTx_any c e n w)
  have K0 := hid (((Bk.new w 41 [.int .i64 c, .int .i64 e, .int .i64 n, .slice ra rn rc]).alloc (.cells #[.int .i64 0, .int .i64 0, .int .i64 0, .slice none 0 0] 47)).alloc (.cells #[.int .i64 0, .int .i64 0, .int .i64 0, .slice none 0 0] 47))
  have J0 := hid ((Bk.new (w.alloc (.cells #[.int .i64 c, .int .i64 e, .int .i64 n, .slice ra rn rc] 41)) 47 [.int .i64 0, .int .i64 0, .int .i64 0, .slice none 0 0]).alloc (.cells #[.int .i64 0, .int .i64 0, .int .i64 0, .slice none 0 0] 47))
  have I0 := hid (Bk.new ((w.alloc (.cells #[.int .i64 c, .int .i64 e, .int .i64 n, .slice ra rn rc] 41)).alloc (.cells #[.int .i64 0, .int .i64 0, .int .i64 0, .slice none 0 0] 47)) 47 [.int .i64 0, .int .i64 0, .int .i64 0, .slice none 0 0])
  rw [show (w.alloc (.cells #[.int .i64 c, .int .i64 e, .int .i64 n, .slice ra rn rc] 41)).heap.size = w.heap.size + 1 by simp] at J0
  rw [show ((w.alloc (.cells #[.int .i64 c, .int .i64 e, .int .i64 n, .slice ra rn rc] 41)).alloc (.cells #[.int .i64 0, .int .i64 0, .int .i64 0, .slice none 0 0] 47)).heap.size = w.heap.size + 1 + 1 by simp] at I0
  have H0 := hid h1
  clear h1
  go_enter Try.func16, Try.ntmps16
  go_wp2_with fail
  refine (C1.out _).mono ?_
  generalize ((w.alloc (.cells #[.int .i64 c, .int .i64 e, .int .i64 n, .slice ra rn rc] 41)).alloc (.cells #[.int .i64 0, .int .i64 0, .int .i64 0, .slice none 0 0] 47)).alloc (.cells #[.int .i64 0, .int .i64 0, .int .i64 0, .slice none 0 0] 47) = U at *
  rintro r w1 ⟨rfl, hb⟩
  have K1 := hid (K0.out.below hb)
  have J1 := hid (J0.out.below hb)
  have I1 := hid (I0.out.below hb)
  have B1 := hid (btR HE.out hb)
  clear hb K0 J0 I0 HE
  have x3 := K1.out.cell (j := 3) rfl
  have y0 := I1.out.cell (j := 0) rfl
  have y1 := I1.out.cell (j := 1) rfl
  have y2 := I1.out.cell (j := 2) rfl
  have f0 := I1.out.free 0
  have f1 := I1.out.free 1
  have f2 := I1.out.free 2
  have d1 : ¬ w.heap.size = w.heap.size + 1 + 1 := by omega
  have I2 : Hid (Bk (((w1.setCell ⟨w.heap.size + 1 + 1, 0, none⟩ (.int .i64 c)).setCell ⟨w.heap.size + 1 + 1, 1, none⟩ (.int .i64 e)).setCell ⟨w.heap.size + 1 + 1, 2, none⟩ (.int .i64 n)) (w.heap.size + 1 + 1) 47 [.int .i64 c, .int .i64 e, .int .i64 n, .slice none 0 0]) := ((I1.out.set 0 _).set 1 _).set 2 _
  have J2 : Hid (Bk (((w1.setCell ⟨w.heap.size + 1 + 1, 0, none⟩ (.int .i64 c)).setCell ⟨w.heap.size + 1 + 1, 1, none⟩ (.int .i64 e)).setCell ⟨w.heap.size + 1 + 1, 2, none⟩ (.int .i64 n)) (w.heap.size + 1) 47 [.int .i64 0, .int .i64 0, .int .i64 0, .slice none 0 0]) := ((J1.out.setOther (by omega) _ _).setOther (by omega) _ _).setOther (by omega) _ _
  have B2 : Hid (Below w.heap.size w (((w1.setCell ⟨w.heap.size + 1 + 1, 0, none⟩ (.int .i64 c)).setCell ⟨w.heap.size + 1 + 1, 1, none⟩ (.int .i64 e)).setCell ⟨w.heap.size + 1 + 1, 2, none⟩ (.int .i64 n))) := ((B1.out.setCell (p := ⟨w.heap.size + 1 + 1, 0, none⟩) (by simp; omega) _).setCell (p := ⟨w.heap.size + 1 + 1, 1, none⟩) (by simp; omega) _).setCell (p := ⟨w.heap.size + 1 + 1, 2, none⟩) (by simp; omega) _
  go_wp2_with fail
  refine (toRecS_at S ra rn rc rl _ (H0.out.below B2.out) hh).mono ?_
  generalize ((w1.setCell ⟨w.heap.size + 1 + 1, 0, none⟩ (.int .i64 c)).setCell ⟨w.heap.size + 1 + 1, 1, none⟩ (.int .i64 e)).setCell ⟨w.heap.size + 1 + 1, 2, none⟩ (.int .i64 n) = V at *
  have SV : Hid (w.heap.size + 1 + 1 < V.heap.size) := I2.out.lt
  generalize hg1 : V.heap.size = g1 at *
  have HG1 := hid hg1
  clear hg1
  rintro r w3 ⟨rfl, hk, hb⟩
  rw [← HG1.out] at hb
  have E3 := hid hk
  have J3 := hid (J2.out.below hb)
  have I3 := hid (I2.out.below hb)
  have B3 := hid (B2.out.trans (hb.mono B2.out.size))
  clear hb hk J2 I2 B2 K1 J1 I1 B1 x3 y0 y1 y2 f0 f1 f2
  have y0 := I3.out.cell (j := 0) rfl
  have y1 := I3.out.cell (j := 1) rfl
  have y2 := I3.out.cell (j := 2) rfl
  have y3 := I3.out.cell (j := 3) rfl
  have f3 := I3.out.free 3
  have z0 := J3.out.cell (j := 0) rfl
  have z1 := J3.out.cell (j := 1) rfl
  have z2 := J3.out.cell (j := 2) rfl
  have z3 := J3.out.cell (j := 3) rfl
  have e0 := J3.out.free 0
  have e1 := J3.out.free 1
  have e2 := J3.out.free 2
  have e3 := J3.out.free 3
  have d2 : ¬ w.heap.size + 1 = w.heap.size + 1 + 1 := by omega
  have d3 : ¬ w.heap.size + 1 + 1 = w.heap.size + 1 := by omega
  have HF : Hid (∀ W, Only (fun y => y = w.heap.size + 1 ∨ y = w.heap.size + 1 + 1) w3 W → rcW W w.heap.size (.slice (some ⟨g1, 0, none⟩) rn rn) rl ∧ Below w.heap.size w W) := fun W hW => by
    have s2 := SV.out
    refine ⟨(rcw_bk (B := w.heap.size) E3.out HN.out (by omega) (by omega)).to hW (fun y hy e => ?_), B3.out.trans (hW.below B3.out.size (fun b hb e => by omega))⟩
    have k1 : g1 = y := Option.some.inj hy
    omega
  clear E3 B3
  go_wp2
  try simp only [Exit.inBlock, Exit.then]
  refine bodyPost_ret (v := .agg #[.int .i64 c, .int .i64 e, .int .i64 n, .slice (some ⟨g1, 0, none⟩) rn rn]) ?_ rfl ?_
  · exact results_prep rfl _ _ (w.heap.size + 1) rfl (by go_simp) (by go_simp) (by go_simp) (by go_simp)
  · refine ⟨g1, rfl, HF.out _ ?_⟩
    exact ((((only_set (R := fun y => y = w.heap.size + 1 ∨ y = w.heap.size + 1 + 1) (.inr rfl) _).trans (only_set (R := fun y => y = w.heap.size + 1 ∨ y = w.heap.size + 1 + 1) (.inl rfl) _)).trans (only_set (R := fun y => y = w.heap.size + 1 ∨ y = w.heap.size + 1 + 1) (.inl rfl) _)).trans (only_set (R := fun y => y = w.heap.size + 1 ∨ y = w.heap.size + 1 + 1) (.inl rfl) _)).trans (only_set (R := fun y => y = w.heap.size + 1 ∨ y = w.heap.size + 1 + 1) (.inl rfl) _)
set_option maxHeartbeats 1600000 in
theorem szPrep_any (S : Nat → Prop) (c e n : Int) (ra : Option Addr) (rn rc : Nat) (rl : List RC) (w : World) (h1 : rcR w S (.slice ra rn rc) rl) (s1 : rcSz rl) :
    Calls Try.prog 14 #[.agg #[.int .i64 c, .int .i64 e, .int .i64 n, .slice ra rn rc], .int .i64 1048576] w fun e w' => (∃ x : Int, e = .returned (.int .i64 x) ∧ x ≤ 1048576 ∧ -1 ≤ x ∧ (0 ≤ x → rn ≤ 1048576)) ∧ Below w.heap.size w w' := by
  have B0 := hid (below_new (o := .cells #[.int .i64 c, .int .i64 e, .int .i64 n, .slice ra rn rc] 41) (w := w) (Below.refl _ _))
  have H1 := hid h1
  have S1 := hid s1
  clear h1 s1
  go_enter Try.func14, Try.ntmps14
  go_wp2_with fail
  refine (szRecS_at S ra rn rc rl 1048576 _ (H1.out.below B0.out) S1.out (by omega) (by omega)).mono ?_
  generalize w.alloc (.cells #[.int .i64 c, .int .i64 e, .int .i64 n, .slice ra rn rc] 41) = U at *
  rintro r w1 ⟨⟨x, rfl, hx1, hx2, hx3⟩, hb⟩
  have B1 := hid (btR B0.out hb)
  have HX := hid hx3
  clear hb B0 hx3
  by_cases hneg : x < 0
  · go_wp2
    go_ret
    exact ⟨⟨_, rfl, by omega, by omega, fun h => by omega⟩, B1.out⟩
  · go_wp2
    go_ret
    exact ⟨⟨_, rfl, by omega, by omega, HX.out⟩, B1.out⟩
set_option maxHeartbeats 1600000 in
theorem eqPrep_same (S S' : Nat → Prop) (c e n : Int) (ra : Option Addr) (rn rc : Nat) (ra' : Option Addr) (rn' rc' : Nat) (rl : List RC) (w : World) (h : rcR w S (.slice ra rn rc) rl) (h' : rcR w S' (.slice ra' rn' rc') rl) :
    Calls Try.prog 18 #[.agg #[.int .i64 c, .int .i64 e, .int .i64 n, .slice ra rn rc], .agg #[.int .i64 c, .int .i64 e, .int .i64 n, .slice ra' rn' rc']] w fun r w' => r = .returned (.bool true) ∧ Below w.heap.size w w' := by
  have C1 := hid (fun w => eqTx_same c e n w)
  have B0 := hid (below_new (o := .cells #[.int .i64 c, .int .i64 e, .int .i64 n, .slice ra rn rc] 47) (w := w) (below_new (o := .cells #[.int .i64 c, .int .i64 e, .int .i64 n, .slice ra' rn' rc'] 47) (w := w.alloc (.cells #[.int .i64 c, .int .i64 e, .int .i64 n, .slice ra rn rc] 47)) (Below.refl _ _)))
  have K0 := hid ((Bk.new w 47 [.int .i64 c, .int .i64 e, .int .i64 n, .slice ra rn rc]).alloc (.cells #[.int .i64 c, .int .i64 e, .int .i64 n, .slice ra' rn' rc'] 47))
  have J0 := hid (Bk.new (w.alloc (.cells #[.int .i64 c, .int .i64 e, .int .i64 n, .slice ra rn rc] 47)) 47 [.int .i64 c, .int .i64 e, .int .i64 n, .slice ra' rn' rc'])
  rw [show (w.alloc (.cells #[.int .i64 c, .int .i64 e, .int .i64 n, .slice ra rn rc] 47)).heap.size = w.heap.size + 1 by simp] at J0
  have H0 := hid h
  have H0' := hid h'
  clear h h'
  go_enter Try.func18, Try.ntmps18
  go_wp2_with fail
  refine (C1.out _).mono ?_
  generalize (w.alloc (.cells #[.int .i64 c, .int .i64 e, .int .i64 n, .slice ra rn rc] 47)).alloc (.cells #[.int .i64 c, .int .i64 e, .int .i64 n, .slice ra' rn' rc'] 47) = U at *
  rintro r w1 ⟨rfl, hb⟩
  have B1 := hid (btR B0.out hb)
  have K1 := hid (K0.out.below hb)
  have J1 := hid (J0.out.below hb)
  clear hb B0 K0 J0
  have x3 := K1.out.cell (j := 3) rfl
  have y3 := J1.out.cell (j := 3) rfl
  go_wp2_with fail
  refine (eqRecS_same S S' ra ra' rn rn' rc rc' rl _ (H0.out.below B1.out) (H0'.out.below B1.out)).mono ?_
  rintro r w2 ⟨rfl, hb⟩
  have B2 := hid (btR B1.out hb)
  clear hb B1 K1 J1 x3 y3
  go_wp2
  go_ret
  exact ⟨rfl, B2.out⟩
end Go.Proofs.Ytgnjknbgahickab

