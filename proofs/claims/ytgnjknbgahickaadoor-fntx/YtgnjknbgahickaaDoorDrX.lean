/-
  The names of transactions that the laws draw: some name.
-/
import Derived.Test.YtgnjknbgahickaaDoorDraw
import Derived.Test.YtgnjknbgahickaaDoorRawC
import Derived.Test.YtgnjknbgahickaaDoorLkA
import Derived.Deep.RegionHeld3
import Derived.Deep.DeepCutAuto
namespace Go.Proofs.YtgnjknbgahickaaDoor
open Go.RowKit
set_option linter.unusedVariables false
theorem btD {u v w : World} (h : Below u.heap.size u v) (k : Below v.heap.size v w) : Below u.heap.size u w := h.trans (k.mono h.size)
theorem grownX_of {w w' : World} (h : Below w.heap.size w w') (row : Option Nat) : w.grownBy w' row := ⟨h.os, h.tape, h.output, h.size, fun k hk _ => h.block k hk⟩
theorem CuX_below {w w' : World} {g : Nat} (h : Cu w g) (hb : Below w.heap.size w w') : Cu w' g := h.kept (grownX_of hb none) (fun k e => by cases e)
theorem grownX_new {w v : World} {row : Option Nat} (h : w.grownBy v row) (b o : Nat) (x : Value) (hb : w.heap.size ≤ b) : w.grownBy (v.setCell ⟨b, o, none⟩ x) row :=
  ⟨h.os, h.tape, h.output, by simpa using h.size, fun k hk hne => by rw [show (v.setCell ⟨b, o, none⟩ x).heap[k]? = v.heap[k]? by simp [World.setCell, Array.getElem?_modify, show ¬ b = k by omega]]; exact h.block k hk hne⟩
theorem CuX_set {v : World} {g : Nat} (h : Cu v g) (b o : Nat) (x : Value) (hb : g < b) : Cu (v.setCell ⟨b, o, none⟩ x) g :=
  h.kept (row := some b) ⟨rfl, rfl, rfl, by simp, fun k hk hne => by simp [World.setCell, Array.getElem?_modify, show ¬ b = k from fun e => hne (by rw [e])]⟩ (fun k e => by cases e; exact hb)
/-- A draw so far: its cursor g, the result's box, the name's. -/
structure DGX (w v : World) (g : Nat) : Prop where
  gr : w.grownBy v (some g)
  cu : Cu v g
  ng : g < w.heap.size
theorem DGX.start {w : World} {g : Nat} (h : Cu w g) : DGX w w g := ⟨grownBy_same _ _, h, h.lt⟩
theorem DGX.step {w v v' : World} {g : Nat} (h : DGX w v g) (hg : v.grownBy v' (some g)) (hc : Cu v' g) : DGX w v' g := ⟨grownBy_trans h.gr hg, hc, h.ng⟩
theorem DGX.alloc {w v : World} {g : Nat} (h : DGX w v g) (o : Obj) : DGX w (v.alloc o) g := h.step (grownBy_alloc _ _ _) (h.cu.alloc _)
theorem DGX.set {w v : World} {g : Nat} (h : DGX w v g) {b : Nat} (hb : w.heap.size ≤ b) (o : Nat) (x : Value) : DGX w (v.setCell ⟨b, o, none⟩ x) g := ⟨grownX_new h.gr _ _ _ hb, CuX_set h.cu _ _ _ (by have := h.ng; omega), h.ng⟩
theorem Bk.grownX {v v' : World} {b g : Nat} {T : TypeId} {vs : List Value} (h : Bk v b T vs) (hg : v.grownBy v' (some g)) (hne : b ≠ g) : Bk v' b T vs := (hg.block b h.lt (fun e => hne (by cases e; rfl))).trans h
structure DX (w v : World) (g b : Nat) (c e n : Int) : Prop where
  dg : DGX w v g
  k1 : Bk v w.heap.size 34 [.int .i64 0, .int .i64 0, .int .i64 0]
  kb : Bk v b 34 [.int .i64 c, .int .i64 e, .int .i64 n]
  lt : w.heap.size < b
theorem DX.step {w v v' : World} {g b : Nat} {c e n : Int} (h : DX w v g b c e n) (hg : v.grownBy v' (some g)) (hc : Cu v' g) : DX w v' g b c e n :=
  ⟨h.dg.step hg hc, h.k1.grownX hg (by have := h.dg.ng; omega), h.kb.grownX hg (by have := h.dg.ng; have := h.lt; omega), h.lt⟩
theorem DX.alloc {w v : World} {g b : Nat} {c e n : Int} (h : DX w v g b c e n) (o : Obj) : DX w (v.alloc o) g b c e n := ⟨h.dg.alloc o, h.k1.alloc o, h.kb.alloc o, h.lt⟩
theorem DX.s0 {w v : World} {g b : Nat} {c e n : Int} (h : DX w v g b c e n) (x : Int) : DX w (v.setCell ⟨b, 0, none⟩ (.int .i64 x)) g b x e n := ⟨h.dg.set (Nat.le_of_lt h.lt) _ _, h.k1.setOther (by have := h.lt; omega) _ _, h.kb.set 0 _, h.lt⟩
theorem DX.s1 {w v : World} {g b : Nat} {c e n : Int} (h : DX w v g b c e n) (x : Int) : DX w (v.setCell ⟨b, 1, none⟩ (.int .i64 x)) g b c x n := ⟨h.dg.set (Nat.le_of_lt h.lt) _ _, h.k1.setOther (by have := h.lt; omega) _ _, h.kb.set 1 _, h.lt⟩
theorem DX.s2 {w v : World} {g b : Nat} {c e n : Int} (h : DX w v g b c e n) (x : Int) : DX w (v.setCell ⟨b, 2, none⟩ (.int .i64 x)) g b c e x := ⟨h.dg.set (Nat.le_of_lt h.lt) _ _, h.k1.setOther (by have := h.lt; omega) _ _, h.kb.set 2 _, h.lt⟩
set_option maxHeartbeats 4000000 in
theorem l07Tx_any (g : Nat) (w : World) (h : Cu w g) : Calls Tryd.prog 41 #[.pointer (some ⟨g, 0, none⟩)] w fun r w' => (∃ c e n : Int, r = .returned (.agg #[.int .i64 c, .int .i64 e, .int .i64 n])) ∧ w.grownBy w' (some g) ∧ Cu w' g := by
  have D0 := hid ((DGX.start h).alloc (.cells #[.int .i64 0, .int .i64 0, .int .i64 0] 34))
  have K0 := hid (Bk.new w 34 [.int .i64 0, .int .i64 0, .int .i64 0])
  clear h
  go_enter Tryd.func41, Tryd.ntmps41
  go_wp2_with fail
  refine (below_any g 3 _ D0.out.cu (by omega) (by omega)).mono ?_
  generalize w.alloc (.cells #[.int .i64 0, .int .i64 0, .int .i64 0] 34) = U at *
  rintro r w1 ⟨⟨x, rfl, hx0, hx1⟩, hg1, hc1⟩
  have D1 := hid (D0.out.step hg1 hc1)
  have K1 := hid (K0.out.grownX hg1 (by have := D0.out.ng; omega))
  clear hg1 hc1 D0 K0
  go_wp2_with fail
  refine (below_any g 2 _ D1.out.cu (by omega) (by omega)).mono ?_
  rintro r w2 ⟨⟨y, rfl, hy0, hy1⟩, hg1, hc1⟩
  have D2 := hid (D1.out.step hg1 hc1)
  have K2 := hid (K1.out.grownX hg1 (by have := D1.out.ng; omega))
  clear hg1 hc1 D1 K1
  go_wp2_with fail
  refine (below_any g 3 _ D2.out.cu (by omega) (by omega)).mono ?_
  rintro r w3 ⟨⟨z, rfl, hz0, hz1⟩, hg1, hc1⟩
  have D3 := hid (D2.out.step hg1 hc1)
  have K3 := hid (K2.out.grownX hg1 (by have := D2.out.ng; omega))
  clear hg1 hc1 D2 K2
  have z0 := K3.out.cell (j := 0) rfl
  have z1 := K3.out.cell (j := 1) rfl
  have z2 := K3.out.cell (j := 2) rfl
  have f0 := K3.out.free 0
  have f1 := K3.out.free 1
  have f2 := K3.out.free 2
  go_wp2
  try simp only [Exit.inBlock, Exit.then]
  refine bodyPost_ret (v := .agg #[.int .i64 x, .int .i64 (1 + y), .int .i64 (1 + z)]) ?_ rfl ?_
  · exact results_tx rfl _ _ _ rfl (by go_simp) (by go_simp) (by go_simp)
  · have q := ((D3.out.set (b := w.heap.size) (Nat.le_refl _) 0 (.int .i64 x)).set (b := w.heap.size) (Nat.le_refl _) 1 (.int .i64 (1 + y))).set (b := w.heap.size) (Nat.le_refl _) 2 (.int .i64 (1 + z))
    exact ⟨⟨_, _, _, rfl⟩, q.gr, q.cu⟩
set_option maxHeartbeats 8000000 in
theorem l07AnyTx_any (g : Nat) (w : World) (h : Cu w g) : Calls Tryd.prog 23 #[.pointer (some ⟨g, 0, none⟩)] w fun r w' => (∃ c e n : Int, r = .returned (.agg #[.int .i64 c, .int .i64 e, .int .i64 n])) ∧ w.grownBy w' (some g) ∧ Cu w' g := by
  have D0 := hid ((DGX.start h).alloc (.cells #[.int .i64 0, .int .i64 0, .int .i64 0] 34))
  have K0 := hid (Bk.new w 34 [.int .i64 0, .int .i64 0, .int .i64 0])
  clear h
  go_enter Tryd.func23, Tryd.ntmps23
  go_wp2_with fail
  refine (l07Tx_any g _ D0.out.cu).mono ?_
  generalize w.alloc (.cells #[.int .i64 0, .int .i64 0, .int .i64 0] 34) = U at *
  rintro r w1 ⟨⟨c, e, n, rfl⟩, hg1, hc1⟩
  have D1 := hid (D0.out.step hg1 hc1)
  have K1 := hid (K0.out.grownX hg1 (by have := D0.out.ng; omega))
  clear hg1 hc1 D0 K0
  have R2 : Hid (DX w (w1.alloc (.cells #[.int .i64 c, .int .i64 e, .int .i64 n] 34)) g w1.heap.size c e n) := ⟨D1.out.alloc _, K1.out.alloc _, Bk.new w1 _ [_, _, _], K1.out.lt⟩
  clear D1 K1
  go_wp2_with fail
  refine (below_any g 12 _ R2.out.dg.cu (by omega) (by omega)).mono ?_
  generalize w1.alloc (.cells #[.int .i64 c, .int .i64 e, .int .i64 n] 34) = V at *
  generalize w1.heap.size = b at *
  rintro r w3 ⟨⟨x, rfl, hx0, hx1⟩, hg1, hc1⟩
  have R := hid (R2.out.step hg1 hc1)
  clear hg1 hc1 R2
  go_upto_if 10 with (fail)
  go_cut [] (fun v => ∃ V c e n, V = v ∧ DX w V g b c e n)
  case first =>
    by_cases hx : x = 0
    · subst hx
      clear hx0 hx1
      go_wp2_with fail
      refine (raw_cu g _ R.out.dg.cu).mono ?_
      rintro r w5 ⟨⟨y, rfl, hy0, hy1⟩, hg1, hc1⟩
      have R1 := hid ((R.out.step hg1 hc1).alloc (.cells #[.int .i64 7, .int .i64 8, .int .i64 (-1), .int .i64 y] 3))
      have T1 := hid (Bk.new w5 3 [.int .i64 7, .int .i64 8, .int .i64 (-1), .int .i64 y])
      have TL : Hid (b < w5.heap.size) := (R.out.step hg1 hc1).kb.lt
      clear hg1 hc1 R
      go_wp2_with fail
      refine (below_any g 4 _ R1.out.dg.cu (by omega) (by omega)).mono ?_
      generalize w5.alloc (.cells #[.int .i64 7, .int .i64 8, .int .i64 (-1), .int .i64 y] 3) = V7 at *
      generalize w5.heap.size = tb at *
      rintro r w6 ⟨⟨u, rfl, hu0, hu1⟩, hg1, hc1⟩
      have R2 := hid (R1.out.step hg1 hc1)
      have T2 := hid (T1.out.grownX hg1 (by have := R1.out.dg.ng; have := R1.out.lt; have := TL.out; omega))
      clear hg1 hc1 R1 T1
      have a1 := R2.out.kb.cell (j := 0) rfl
      have a2 := R2.out.kb.free 0
      rcases (by omega : u = 0 ∨ u = 1 ∨ u = 2 ∨ u = 3) with rfl | rfl | rfl | rfl
      · have hc := T2.out.cell (j := 0) rfl
        clear T2 hu0 hu1
        go_wp2_with fail
        go_meet
        exact ⟨_, _, _, _, rfl, R2.out.s0 _⟩
      · have hc := T2.out.cell (j := 1) rfl
        clear T2 hu0 hu1
        go_wp2_with fail
        go_meet
        exact ⟨_, _, _, _, rfl, R2.out.s0 _⟩
      · have hc := T2.out.cell (j := 2) rfl
        clear T2 hu0 hu1
        go_wp2_with fail
        go_meet
        exact ⟨_, _, _, _, rfl, R2.out.s0 _⟩
      · have hc := T2.out.cell (j := 3) rfl
        clear T2 hu0 hu1
        go_wp2_with fail
        go_meet
        exact ⟨_, _, _, _, rfl, R2.out.s0 _⟩
    · have hx2 : (x == 0) = false := by simpa using hx
      go_wp2_with fail
      go_meet
      exact ⟨_, _, _, _, rfl, R.out⟩
  case rest =>
    obtain ⟨V1, c1, e1, n1, rfl, hR⟩ := hcut
    have R' := hid hR
    clear hR R
    have R := R'
    clear R'
    go_upto_if 20 with (fail)
    go_cut [] (fun v => ∃ V c e n, V = v ∧ DX w V g b c e n)
    case first =>
      by_cases hx : x = 1
      · subst hx
        clear hx0 hx1
        go_wp2_with fail
        refine (raw_cu g _ R.out.dg.cu).mono ?_
        rintro r w5 ⟨⟨y, rfl, hy0, hy1⟩, hg1, hc1⟩
        have R1 := hid ((R.out.step hg1 hc1).alloc (.cells #[.int .i64 0, .int .i64 999, .int .i64 1000, .int .i64 y] 3))
        have T1 := hid (Bk.new w5 3 [.int .i64 0, .int .i64 999, .int .i64 1000, .int .i64 y])
        have TL : Hid (b < w5.heap.size) := (R.out.step hg1 hc1).kb.lt
        clear hg1 hc1 R
        go_wp2_with fail
        refine (below_any g 4 _ R1.out.dg.cu (by omega) (by omega)).mono ?_
        generalize w5.alloc (.cells #[.int .i64 0, .int .i64 999, .int .i64 1000, .int .i64 y] 3) = V7 at *
        generalize w5.heap.size = tb at *
        rintro r w6 ⟨⟨u, rfl, hu0, hu1⟩, hg1, hc1⟩
        have R2 := hid (R1.out.step hg1 hc1)
        have T2 := hid (T1.out.grownX hg1 (by have := R1.out.dg.ng; have := R1.out.lt; have := TL.out; omega))
        clear hg1 hc1 R1 T1
        have a1 := R2.out.kb.cell (j := 1) rfl
        have a2 := R2.out.kb.free 1
        rcases (by omega : u = 0 ∨ u = 1 ∨ u = 2 ∨ u = 3) with rfl | rfl | rfl | rfl
        · have hc := T2.out.cell (j := 0) rfl
          clear T2 hu0 hu1
          go_wp2_with fail
          go_meet
          exact ⟨_, _, _, _, rfl, R2.out.s1 _⟩
        · have hc := T2.out.cell (j := 1) rfl
          clear T2 hu0 hu1
          go_wp2_with fail
          go_meet
          exact ⟨_, _, _, _, rfl, R2.out.s1 _⟩
        · have hc := T2.out.cell (j := 2) rfl
          clear T2 hu0 hu1
          go_wp2_with fail
          go_meet
          exact ⟨_, _, _, _, rfl, R2.out.s1 _⟩
        · have hc := T2.out.cell (j := 3) rfl
          clear T2 hu0 hu1
          go_wp2_with fail
          go_meet
          exact ⟨_, _, _, _, rfl, R2.out.s1 _⟩
      · have hx2 : (x == 1) = false := by simpa using hx
        go_wp2_with fail
        go_meet
        exact ⟨_, _, _, _, rfl, R.out⟩
    case rest =>
      obtain ⟨V2, c2, e2, n2, rfl, hR⟩ := hcut
      have R' := hid hR
      clear hR R
      have R := R'
      clear R'
      go_upto_if 30 with (fail)
      go_cut [] (fun v => ∃ V c e n, V = v ∧ DX w V g b c e n)
      case first =>
        by_cases hx : x = 2
        · subst hx
          clear hx0 hx1
          go_wp2_with fail
          refine (raw_cu g _ R.out.dg.cu).mono ?_
          rintro r w5 ⟨⟨y, rfl, hy0, hy1⟩, hg1, hc1⟩
          have R1 := hid ((R.out.step hg1 hc1).alloc (.cells #[.int .i64 0, .int .i64 999, .int .i64 1000, .int .i64 y] 3))
          have T1 := hid (Bk.new w5 3 [.int .i64 0, .int .i64 999, .int .i64 1000, .int .i64 y])
          have TL : Hid (b < w5.heap.size) := (R.out.step hg1 hc1).kb.lt
          clear hg1 hc1 R
          go_wp2_with fail
          refine (below_any g 4 _ R1.out.dg.cu (by omega) (by omega)).mono ?_
          generalize w5.alloc (.cells #[.int .i64 0, .int .i64 999, .int .i64 1000, .int .i64 y] 3) = V7 at *
          generalize w5.heap.size = tb at *
          rintro r w6 ⟨⟨u, rfl, hu0, hu1⟩, hg1, hc1⟩
          have R2 := hid (R1.out.step hg1 hc1)
          have T2 := hid (T1.out.grownX hg1 (by have := R1.out.dg.ng; have := R1.out.lt; have := TL.out; omega))
          clear hg1 hc1 R1 T1
          have a1 := R2.out.kb.cell (j := 2) rfl
          have a2 := R2.out.kb.free 2
          rcases (by omega : u = 0 ∨ u = 1 ∨ u = 2 ∨ u = 3) with rfl | rfl | rfl | rfl
          · have hc := T2.out.cell (j := 0) rfl
            clear T2 hu0 hu1
            go_wp2_with fail
            go_meet
            exact ⟨_, _, _, _, rfl, R2.out.s2 _⟩
          · have hc := T2.out.cell (j := 1) rfl
            clear T2 hu0 hu1
            go_wp2_with fail
            go_meet
            exact ⟨_, _, _, _, rfl, R2.out.s2 _⟩
          · have hc := T2.out.cell (j := 2) rfl
            clear T2 hu0 hu1
            go_wp2_with fail
            go_meet
            exact ⟨_, _, _, _, rfl, R2.out.s2 _⟩
          · have hc := T2.out.cell (j := 3) rfl
            clear T2 hu0 hu1
            go_wp2_with fail
            go_meet
            exact ⟨_, _, _, _, rfl, R2.out.s2 _⟩
        · have hx2 : (x == 2) = false := by simpa using hx
          go_wp2_with fail
          go_meet
          exact ⟨_, _, _, _, rfl, R.out⟩
      case rest =>
        obtain ⟨V3, c3, e3, n3, rfl, hR⟩ := hcut
        have R' := hid hR
        clear hR R
        have R := R'
        clear R'
        have y0 := R.out.kb.cell (j := 0) rfl
        have y1 := R.out.kb.cell (j := 1) rfl
        have y2 := R.out.kb.cell (j := 2) rfl
        have z0 := R.out.k1.cell (j := 0) rfl
        have z1 := R.out.k1.cell (j := 1) rfl
        have z2 := R.out.k1.cell (j := 2) rfl
        have f0 := R.out.k1.free 0
        have f1 := R.out.k1.free 1
        have f2 := R.out.k1.free 2
        have d1 : ¬ w.heap.size = b := by have := R.out.lt; omega
        have d2 : ¬ b = w.heap.size := by have := R.out.lt; omega
        go_wp2
        try simp only [Exit.inBlock, Exit.then]
        refine bodyPost_ret (v := .agg #[.int .i64 c3, .int .i64 e3, .int .i64 n3]) ?_ rfl ?_
        · exact results_tx rfl _ _ _ rfl (by go_simp) (by go_simp) (by go_simp)
        · have q := ((R.out.dg.set (b := w.heap.size) (Nat.le_refl _) 0 (.int .i64 c3)).set (b := w.heap.size) (Nat.le_refl _) 1 (.int .i64 e3)).set (b := w.heap.size) (Nat.le_refl _) 2 (.int .i64 n3)
          exact ⟨⟨_, _, _, rfl⟩, q.gr, q.cu⟩
theorem results_tx2 {fn : Func} {p u : Tmp} (h : fn.results = #[.cell p 34, .cell u 34]) (tmps : Array Value) (w : World) (g g' : Nat) {c e n c' e' n' : Int} (hp : tmps.getD p undef = .pointer (some ⟨g, 0, none⟩)) (hq : tmps.getD u undef = .pointer (some ⟨g', 0, none⟩))
    (c0 : w.cell? ⟨g, 0, none⟩ = some (.int .i64 c)) (c1 : w.cell? ⟨g, 1, none⟩ = some (.int .i64 e)) (c2 : w.cell? ⟨g, 2, none⟩ = some (.int .i64 n)) (d0 : w.cell? ⟨g', 0, none⟩ = some (.int .i64 c')) (d1 : w.cell? ⟨g', 1, none⟩ = some (.int .i64 e')) (d2 : w.cell? ⟨g', 2, none⟩ = some (.int .i64 n')) :
    (results fn tmps).run Tryd.prog w = .ok (.tuple #[.agg #[.int .i64 c, .int .i64 e, .int .i64 n], .agg #[.int .i64 c', .int .i64 e', .int .i64 n']]) w := by
  have hp' : tmps[p]?.getD undef = .pointer (some ⟨g, 0, none⟩) := by simpa using hp
  have hq' : tmps[u]?.getD undef = .pointer (some ⟨g', 0, none⟩) := by simpa using hq
  simp [results, h, hp', hq', asAddr, load_tx0 c0 c1 c2, load_tx0 d0 d1 d2, Result.andThen]
/-- Two names drawn, with the results' boxes. -/
structure DY (w v : World) (g a b : Nat) (c e n c' e' n' : Int) : Prop where
  bel : Below w.heap.size w v
  cu : Cu v g
  k1 : Bk v w.heap.size 34 [.int .i64 0, .int .i64 0, .int .i64 0]
  k2 : Bk v (w.heap.size + 1) 34 [.int .i64 0, .int .i64 0, .int .i64 0]
  ka : Bk v a 34 [.int .i64 c, .int .i64 e, .int .i64 n]
  kb : Bk v b 34 [.int .i64 c', .int .i64 e', .int .i64 n']
  l1 : w.heap.size + 1 < g
  l2 : g < a
  l3 : a < b
theorem DY.step {w v v' : World} {g a b : Nat} {c e n c' e' n' : Int} (h : DY w v g a b c e n c' e' n') (hg : v.grownBy v' (some g)) (hc : Cu v' g) : DY w v' g a b c e n c' e' n' :=
  ⟨h.bel.trans ((below_of_grown hg h.cu.lt).mono (by have := h.l1; omega)), hc, h.k1.grownX hg (by have := h.l1; omega), h.k2.grownX hg (by have := h.l1; omega), h.ka.grownX hg (by have := h.l2; omega), h.kb.grownX hg (by have := h.l2; have := h.l3; omega), h.l1, h.l2, h.l3⟩
theorem DY.s0 {w v : World} {g a b : Nat} {c e n c' e' n' : Int} (h : DY w v g a b c e n c' e' n') (x : Int) : DY w (v.setCell ⟨b, 0, none⟩ (.int .i64 x)) g a b c e n x e' n' :=
  ⟨Below.setCell (p := ⟨b, 0, none⟩) h.bel (show w.heap.size ≤ b by have := h.l1; have := h.l2; have := h.l3; omega) _, CuX_set h.cu _ _ _ (by have := h.l2; have := h.l3; omega), h.k1.setOther (by have := h.l1; have := h.l2; have := h.l3; omega) _ _, h.k2.setOther (by have := h.l1; have := h.l2; have := h.l3; omega) _ _, h.ka.setOther (by have := h.l3; omega) _ _, h.kb.set 0 _, h.l1, h.l2, h.l3⟩
set_option maxHeartbeats 8000000 in
theorem drawTxAfter_any (a : Option Addr) (n c : Nat) (zs : List Int) (w : World) (h : Rd w a n c zs) (hl : n ≤ 1048576) :
    Calls Tryd.prog 9 #[.slice a n c] w fun r w' => (∃ c e n c' e' n' : Int, r = .returned (.tuple #[.agg #[.int .i64 c, .int .i64 e, .int .i64 n], .agg #[.int .i64 c', .int .i64 e', .int .i64 n']])) ∧ Below w.heap.size w w' := by
  have B0 := hid (below_new (o := .cells #[.int .i64 0, .int .i64 0, .int .i64 0] 34) (w := w) (below_new (o := .cells #[.int .i64 0, .int .i64 0, .int .i64 0] 34) (w := w.alloc (.cells #[.int .i64 0, .int .i64 0, .int .i64 0] 34)) (Below.refl _ _)))
  have K0 := hid ((Bk.new w 34 [.int .i64 0, .int .i64 0, .int .i64 0]).alloc (.cells #[.int .i64 0, .int .i64 0, .int .i64 0] 34))
  have J0 := hid (Bk.new (w.alloc (.cells #[.int .i64 0, .int .i64 0, .int .i64 0] 34)) 34 [.int .i64 0, .int .i64 0, .int .i64 0])
  rw [show (w.alloc (.cells #[.int .i64 0, .int .i64 0, .int .i64 0] 34)).heap.size = w.heap.size + 1 by simp] at J0
  have H0 := hid (h.kept B0.out)
  clear h
  go_enter Tryd.func9, Tryd.ntmps9
  go_wp2_with fail
  refine (new_any a n c zs _ H0.out hl).mono ?_
  generalize (w.alloc (.cells #[.int .i64 0, .int .i64 0, .int .i64 0] 34)).alloc (.cells #[.int .i64 0, .int .i64 0, .int .i64 0] 34) = U at *
  have HG : Hid (w.heap.size + 1 < U.heap.size) := J0.out.lt
  generalize hgg : U.heap.size = g at *
  have HGG := hid hgg
  clear hgg
  rintro r w1 ⟨rfl, hb, hc⟩
  rw [← HGG.out] at hb
  have B1 := hid (btD B0.out hb)
  have K1 := hid (K0.out.below hb)
  have J1 := hid (J0.out.below hb)
  have C1 := hid hc
  clear hb hc B0 K0 J0 H0
  go_wp2_with fail
  refine (l07AnyTx_any g _ C1.out).mono ?_
  rintro r w2 ⟨⟨c, e, n, rfl⟩, hg1, hc1⟩
  have hal := below_new (o := .cells #[.int .i64 c, .int .i64 e, .int .i64 n] 34) (w := w2) (Below.refl _ _)
  have B2a := hid (B1.out.trans ((below_of_grown hg1 C1.out.lt).mono (by have := HG.out; omega)))
  have B2 := hid (btD B2a.out hal)
  have K2 := hid ((K1.out.grownX hg1 (by have := HG.out; omega)).below hal)
  have J2 := hid ((J1.out.grownX hg1 (by have := HG.out; omega)).below hal)
  have A2 := hid (Bk.new w2 34 [.int .i64 c, .int .i64 e, .int .i64 n])
  have C2 := hid (CuX_below hc1 hal)
  have L2 : Hid (g < w2.heap.size) := hc1.lt
  clear hg1 hc1 B1 K1 J1 C1 B2a hal
  go_wp2_with fail
  refine (l07AnyTx_any g _ C2.out).mono ?_
  generalize w2.alloc (.cells #[.int .i64 c, .int .i64 e, .int .i64 n] 34) = V at *
  generalize w2.heap.size = ba at *
  rintro r w3 ⟨⟨c', e', n', rfl⟩, hg1, hc1⟩
  have hal := below_new (o := .cells #[.int .i64 c', .int .i64 e', .int .i64 n'] 34) (w := w3) (Below.refl _ _)
  have R3 : Hid (DY w (w3.alloc (.cells #[.int .i64 c', .int .i64 e', .int .i64 n'] 34)) g ba w3.heap.size c e n c' e' n') :=
    ⟨btD (B2.out.trans ((below_of_grown hg1 C2.out.lt).mono (by have := HG.out; omega))) hal, CuX_below hc1 hal, (K2.out.grownX hg1 (by have := HG.out; omega)).below hal, (J2.out.grownX hg1 (by have := HG.out; omega)).below hal, (A2.out.grownX hg1 (by have := L2.out; omega)).below hal, Bk.new w3 _ [_, _, _], HG.out, L2.out, (A2.out.grownX hg1 (by have := L2.out; omega)).lt⟩
  clear hg1 hc1 hal B2 K2 J2 A2 C2 HG HGG L2
  go_wp2_with fail
  refine (below_any g 2 _ R3.out.cu (by omega) (by omega)).mono ?_
  generalize w3.alloc (.cells #[.int .i64 c', .int .i64 e', .int .i64 n'] 34) = V3 at *
  generalize w3.heap.size = bb at *
  rintro r w4 ⟨⟨x, rfl, hx0, hx1⟩, hg1, hc1⟩
  have R := hid (R3.out.step hg1 hc1)
  clear hg1 hc1 R3
  go_upto_if 15 with (fail)
  go_cut [] (fun v => ∃ V c', V = v ∧ DY w V g ba bb c e n c' e' n')
  case first =>
    by_cases hx : x = 0
    · subst hx
      clear hx0 hx1
      have a0 := R.out.ka.cell (j := 0) rfl
      have b0 := R.out.kb.cell (j := 0) rfl
      have b1 := R.out.kb.free 0
      go_wp2_with fail
      go_meet
      exact ⟨_, _, rfl, R.out.s0 c⟩
    · have hx2 : (x == 0) = false := by simpa using hx
      go_wp2_with fail
      go_meet
      exact ⟨_, _, rfl, R.out⟩
  case rest =>
    obtain ⟨V5, c5, rfl, hR⟩ := hcut
    have R' := hid hR
    clear hR R
    have R := R'
    clear R'
    have a0 := R.out.ka.cell (j := 0) rfl
    have a1 := R.out.ka.cell (j := 1) rfl
    have a2 := R.out.ka.cell (j := 2) rfl
    have b0 := R.out.kb.cell (j := 0) rfl
    have b1 := R.out.kb.cell (j := 1) rfl
    have b2 := R.out.kb.cell (j := 2) rfl
    have z0 := R.out.k1.cell (j := 0) rfl
    have z1 := R.out.k1.cell (j := 1) rfl
    have z2 := R.out.k1.cell (j := 2) rfl
    have f0 := R.out.k1.free 0
    have f1 := R.out.k1.free 1
    have f2 := R.out.k1.free 2
    have y0 := R.out.k2.cell (j := 0) rfl
    have y1 := R.out.k2.cell (j := 1) rfl
    have y2 := R.out.k2.cell (j := 2) rfl
    have g0 := R.out.k2.free 0
    have g1 := R.out.k2.free 1
    have g2 := R.out.k2.free 2
    have l1 := R.out.l1
    have l2 := R.out.l2
    have l3 := R.out.l3
    have d1 : ¬ w.heap.size = ba := by omega
    have d2 : ¬ w.heap.size = bb := by omega
    have d3 : ¬ w.heap.size + 1 = ba := by omega
    have d4 : ¬ w.heap.size + 1 = bb := by omega
    have d5 : ¬ ba = w.heap.size := by omega
    have d6 : ¬ bb = w.heap.size := by omega
    have d7 : ¬ ba = w.heap.size + 1 := by omega
    have d8 : ¬ bb = w.heap.size + 1 := by omega
    have d9 : ¬ w.heap.size = w.heap.size + 1 := by omega
    have d10 : ¬ w.heap.size + 1 = w.heap.size := by omega
    clear l1 l2 l3
    go_wp2_with fail
    refine wp_region_noPanic ?_
    refine wp_region_held_drew (S := fun v => v.cell? ⟨ba, 0, none⟩ = some (.int .i64 c) ∧ v.cell? ⟨ba, 1, none⟩ = some (.int .i64 e) ∧ v.cell? ⟨ba, 2, none⟩ = some (.int .i64 n) ∧ v.cell? ⟨bb, 0, none⟩ = some (.int .i64 c5) ∧ v.cell? ⟨bb, 1, none⟩ = some (.int .i64 e') ∧ v.cell? ⟨bb, 2, none⟩ = some (.int .i64 n')) (by kernel_rfl) (⟨by go_simp, by go_simp, by go_simp, by go_simp, by go_simp, by go_simp⟩) (fun hHeld => ?_)
    simp only [List.size_toArray, List.length_cons, List.length_nil, Array.replicate_succ, Array.replicate_zero, Nat.reduceAdd, List.push_toArray, List.nil_append, List.cons_append]
    refine wpAnyH_take (i := 0) (v := (.agg #[.int .i64 c, .int .i64 e, .int .i64 n])) rfl (by kernel_rfl) (by kernel_rfl) (by kernel_rfl) (fun _ _ _ h => h) (Or.inl ⟨by rfl, ?_⟩) (by assumption) ?_
    · intro w hSw
      (try dsimp only at hSw)
      go_simp
    try simp only [List.getElem_toArray]
    try simp only [List.getElem_cons_succ]
    try simp only [List.getElem_cons_zero]
    try simp only [Act.put]
    try simp only [List.setIfInBounds_toArray]
    try simp only [List.set_cons_succ]
    try simp only [List.set_cons_zero]
    refine wpAnyH_take (i := 1) (v := (.agg #[.int .i64 c5, .int .i64 e', .int .i64 n'])) rfl (by kernel_rfl) (by kernel_rfl) (by kernel_rfl) (fun _ _ _ h => h) (Or.inl ⟨by rfl, ?_⟩) (by assumption) ?_
    · intro w hSw
      (try dsimp only at hSw)
      go_simp
    try simp only [List.getElem_toArray]
    try simp only [List.getElem_cons_succ]
    try simp only [List.getElem_cons_zero]
    try simp only [Act.put]
    try simp only [List.setIfInBounds_toArray]
    try simp only [List.set_cons_succ]
    try simp only [List.set_cons_zero]
    refine wpAnyH_ready (rs := [2]) (by kernel_rfl) (by simp) ?_
    refine AllReadyH.cons rfl (fun K1 hK => ?_) AllReadyH.nil
    go_simp
    try go_wp2_with fail
    refine hK.out _ _ ?_ (fun hHeld => ?_)
    · exact ⟨by go_simp, by go_simp, by go_simp, by go_simp, by go_simp, by go_simp⟩
    clear hK K1
    try simp only [List.getElem_toArray]
    try simp only [List.getElem_cons_succ]
    try simp only [List.getElem_cons_zero]
    try simp only [Act.put]
    try simp only [List.setIfInBounds_toArray]
    try simp only [List.set_cons_succ]
    try simp only [List.set_cons_zero]
    refine wpAnyH_ready (rs := [3]) (by kernel_rfl) (by simp) ?_
    refine AllReadyH.cons rfl (fun K1 hK => ?_) AllReadyH.nil
    go_simp
    try go_wp2_with fail
    refine hK.out _ _ ?_ (fun hHeld => ?_)
    · exact ⟨by go_simp, by go_simp, by go_simp, by go_simp, by go_simp, by go_simp⟩
    clear hK K1
    try simp only [List.getElem_toArray]
    try simp only [List.getElem_cons_succ]
    try simp only [List.getElem_cons_zero]
    try simp only [Act.put]
    try simp only [List.setIfInBounds_toArray]
    try simp only [List.set_cons_succ]
    try simp only [List.set_cons_zero]
    refine wpAnyH_done (by kernel_rfl) ?_ _
    refine NoPanic.normal ?_
    go_wp2
    try simp only [Exit.inBlock, Exit.then]
    refine bodyPost_ret (v := .tuple #[.agg #[.int .i64 c, .int .i64 e, .int .i64 n], .agg #[.int .i64 c5, .int .i64 e', .int .i64 n']]) ?_ rfl ?_
    · exact results_tx2 rfl _ _ _ _ rfl rfl (by go_simp) (by go_simp) (by go_simp) (by go_simp) (by go_simp) (by go_simp)
    · exact ⟨⟨_, _, _, _, _, _, rfl⟩, btD (Below.setCell (p := ⟨w.heap.size + 1, 2, none⟩) (Below.setCell (p := ⟨w.heap.size + 1, 1, none⟩) (Below.setCell (p := ⟨w.heap.size + 1, 0, none⟩) (Below.setCell (p := ⟨w.heap.size, 2, none⟩) (Below.setCell (p := ⟨w.heap.size, 1, none⟩) (Below.setCell (p := ⟨w.heap.size, 0, none⟩) R.out.bel (Nat.le_refl _) _) (Nat.le_refl _) _) (Nat.le_refl _) _) (Nat.le_succ _) _) (Nat.le_succ _) _) (Nat.le_succ _) _) (below_drew _)⟩
end Go.Proofs.YtgnjknbgahickaaDoor

