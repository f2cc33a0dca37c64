/-
  The messages that the laws draw: l09Any.
-/
import Derived.Test.YtbaggkfgnjenoacDoorMg26
namespace Go.Proofs.YtbaggkfgnjenoacDoor
open Go.RowKit
set_option linter.unusedVariables false
set_option maxHeartbeats 16000000 in
set_option maxRecDepth 20000 in
theorem l09Any_any (g : Nat) (w : World) (h : Cu w g) : Calls Tryd.prog 10 #[.pointer (some ⟨g, 0, none⟩)] w fun r w' => (∃ (m : MS) (pa : Option Addr) (pn pc : Nat), r = .returned (.agg #[.int .i64 m.kd, .int .i64 m.c, .int .i64 m.e, .int .i64 m.n, .int .i64 m.sh, .int .i64 m.nu, .int .i64 m.st, .int .i64 m.k, .string m.ky, .string m.vl, .string m.lo, .string m.hi, .int .i64 m.mo, .bool m.bk, .int .i64 m.cd, .slice pa pn pc, .bool m.ys]) ∧ oqW w' w.heap.size (.slice pa pn pc) m.ps ∧ m.ps.length ≤ 6) ∧ w.grownBy w' (some g) ∧ Cu w' g := by
  have D0 := hid ((DG.start h).alloc (.cells #[.int .i64 0, .int .i64 0, .int .i64 0, .int .i64 0, .int .i64 0, .int .i64 0, .int .i64 0, .int .i64 0, .string ⟨#[]⟩, .string ⟨#[]⟩, .string ⟨#[]⟩, .string ⟨#[]⟩, .int .i64 0, .bool false, .int .i64 0, .slice none 0 0, .bool false] 31))
  have K0 := hid (Bk.new w 31 [.int .i64 0, .int .i64 0, .int .i64 0, .int .i64 0, .int .i64 0, .int .i64 0, .int .i64 0, .int .i64 0, .string ⟨#[]⟩, .string ⟨#[]⟩, .string ⟨#[]⟩, .string ⟨#[]⟩, .int .i64 0, .bool false, .int .i64 0, .slice none 0 0, .bool false])
  have HU : Hid ((w.alloc (.cells #[.int .i64 0, .int .i64 0, .int .i64 0, .int .i64 0, .int .i64 0, .int .i64 0, .int .i64 0, .int .i64 0, .string ⟨#[]⟩, .string ⟨#[]⟩, .string ⟨#[]⟩, .string ⟨#[]⟩, .int .i64 0, .bool false, .int .i64 0, .slice none 0 0, .bool false] 31)).heap.size = w.heap.size + 1) := by show _ = _; simp
  clear h
  go_enter Tryd.func10, Tryd.ntmps10
  go_wp2_with fail
  refine (l09Msg_any g _ D0.out.cu).mono ?_
  generalize w.alloc (.cells #[.int .i64 0, .int .i64 0, .int .i64 0, .int .i64 0, .int .i64 0, .int .i64 0, .int .i64 0, .int .i64 0, .string ⟨#[]⟩, .string ⟨#[]⟩, .string ⟨#[]⟩, .string ⟨#[]⟩, .int .i64 0, .bool false, .int .i64 0, .slice none 0 0, .bool false] 31) = U at *
  rintro r w1 ⟨⟨m, pa, pn, pc, rfl, hO, hL⟩, hg, hc⟩
  have D1 := hid (D0.out.step hg hc)
  have K1 := hid (K0.out.grownR hg (by have := D0.out.ng; omega))
  have hlt : w.heap.size < w1.heap.size := K1.out.lt
  have HL := hid hL
  clear D0 K0 hg hc hL
  rw [HU.out] at hO
  have XA : Hid (DN w (w1.alloc (.cells #[.int .i64 m.kd, .int .i64 m.c, .int .i64 m.e, .int .i64 m.n, .int .i64 m.sh, .int .i64 m.nu, .int .i64 m.st, .int .i64 m.k, .string m.ky, .string m.vl, .string m.lo, .string m.hi, .int .i64 m.mo, .bool m.bk, .int .i64 m.cd, .slice pa pn pc, .bool m.ys] 31)) g w1.heap.size [.int .i64 0, .int .i64 0, .int .i64 0, .int .i64 0, .int .i64 0, .int .i64 0, .int .i64 0, .int .i64 0, .string ⟨#[]⟩, .string ⟨#[]⟩, .string ⟨#[]⟩, .string ⟨#[]⟩, .int .i64 0, .bool false, .int .i64 0, .slice none 0 0, .bool false] [.int .i64 m.kd, .int .i64 m.c, .int .i64 m.e, .int .i64 m.n, .int .i64 m.sh, .int .i64 m.nu, .int .i64 m.st, .int .i64 m.k, .string m.ky, .string m.vl, .string m.lo, .string m.hi, .int .i64 m.mo, .bool m.bk, .int .i64 m.cd, .slice pa pn pc, .bool m.ys] (.slice pa pn pc) m.ps) := ⟨⟨D1.out.alloc _, K1.out.alloc _, Bk.new w1 _ _, hlt⟩, hO.below (below_alloc _ _), fun y hy e => by have := (hO.lt hy).2; omega⟩
  clear D1 K1 HU hO
  go_wp2_with (refine wpList_store_row rfl 31 _ _ rfl w1.heap.size _ rfl rfl 31 _ (heap_alloc_new w1 _) (by kernel_rfl) rfl (by kernel_rfl) ?_; rw [World.setRow_alloc_new])
  refine (below_any g 18 _ XA.out.dw.dg.cu (by omega) (by omega)).mono ?_
  generalize w1.alloc (.cells #[.int .i64 m.kd, .int .i64 m.c, .int .i64 m.e, .int .i64 m.n, .int .i64 m.sh, .int .i64 m.nu, .int .i64 m.st, .int .i64 m.k, .string m.ky, .string m.vl, .string m.lo, .string m.hi, .int .i64 m.mo, .bool m.bk, .int .i64 m.cd, .slice pa pn pc, .bool m.ys] 31) = VA at *
  generalize w1.heap.size = b at *
  rintro r V0 ⟨⟨x, rfl, hx0, hx1⟩, hg, hc⟩
  have X0 := hid (XA.out.step hg hc)
  clear XA hg hc
  by_cases e0 : x = 0
  · subst e0
    go_wp2_with fail
    refine (raw_cu g _ X0.out.dw.dg.cu).mono ?_
    rintro r w1 ⟨⟨y, rfl, hy0, hy1⟩, hg, hc⟩
    have Y1 := hid (X0.out.step hg hc)
    clear X0 hg hc
    have c0 := Y1.out.dw.kb.cell (j := 0) rfl
    have f0 := Y1.out.dw.kb.free 0
    have X1 : Hid (DN w (w1.setCell ⟨b, 0, none⟩ (.int .i64 y)) g b [.int .i64 0, .int .i64 0, .int .i64 0, .int .i64 0, .int .i64 0, .int .i64 0, .int .i64 0, .int .i64 0, .string ⟨#[]⟩, .string ⟨#[]⟩, .string ⟨#[]⟩, .string ⟨#[]⟩, .int .i64 0, .bool false, .int .i64 0, .slice none 0 0, .bool false] [.int .i64 y, .int .i64 m.c, .int .i64 m.e, .int .i64 m.n, .int .i64 m.sh, .int .i64 m.nu, .int .i64 m.st, .int .i64 m.k, .string m.ky, .string m.vl, .string m.lo, .string m.hi, .int .i64 m.mo, .bool m.bk, .int .i64 m.cd, .slice pa pn pc, .bool m.ys] (.slice pa pn pc) m.ps) := (Y1.out.setE 0 (.int .i64 y) (ys := [.int .i64 y, .int .i64 m.c, .int .i64 m.e, .int .i64 m.n, .int .i64 m.sh, .int .i64 m.nu, .int .i64 m.st, .int .i64 m.k, .string m.ky, .string m.vl, .string m.lo, .string m.hi, .int .i64 m.mo, .bool m.bk, .int .i64 m.cd, .slice pa pn pc, .bool m.ys]) rfl)
    go_upto_region 21 with (fail)
    generalize (w1.setCell ⟨b, 0, none⟩ (.int .i64 y)) = V1 at *
    clear Y1 c0 f0
    have JE := hid (X1.out.dw.k1.setRow [.int .i64 y, .int .i64 m.c, .int .i64 m.e, .int .i64 m.n, .int .i64 m.sh, .int .i64 m.nu, .int .i64 m.st, .int .i64 m.k, .string m.ky, .string m.vl, .string m.lo, .string m.hi, .int .i64 m.mo, .bool m.bk, .int .i64 m.cd, .slice pa pn pc, .bool m.ys])
    have GE := hid (X1.out.dw.dg.row w.heap.size (Nat.le_refl _) #[.int .i64 y, .int .i64 m.c, .int .i64 m.e, .int .i64 m.n, .int .i64 m.sh, .int .i64 m.nu, .int .i64 m.st, .int .i64 m.k, .string m.ky, .string m.vl, .string m.lo, .string m.hi, .int .i64 m.mo, .bool m.bk, .int .i64 m.cd, .slice pa pn pc, .bool m.ys])
    have OE : Hid (oqW (V1.setRow w.heap.size #[.int .i64 y, .int .i64 m.c, .int .i64 m.e, .int .i64 m.n, .int .i64 m.sh, .int .i64 m.nu, .int .i64 m.st, .int .i64 m.k, .string m.ky, .string m.vl, .string m.lo, .string m.hi, .int .i64 m.mo, .bool m.bk, .int .i64 m.cd, .slice pa pn pc, .bool m.ys]) w.heap.size (.slice pa pn pc) m.ps) := (X1.out.ow.to (only_setRow (R := fun y => y = w.heap.size) rfl _) (fun y hy e => by have := X1.out.ow.lt hy; have := X1.out.dw.lt; omega)).base (by have := X1.out.dw.lt; omega)
    have c0 := X1.out.dw.kb.cell (j := 0) rfl
    have c14 := X1.out.dw.kb.cell (j := 14) rfl
    go_wp2_with (first
      | (refine wpList_load_row rfl 31 _ rfl b rfl 31 _ (0, 0) _ X1.out.dw.kb Tryd.underlying31 rfl (by kernel_rfl) ?_; go_frame)
      | (refine wpList_store_row rfl 31 _ _ rfl w.heap.size #[.int .i64 y, .int .i64 m.c, .int .i64 m.e, .int .i64 m.n, .int .i64 m.sh, .int .i64 m.nu, .int .i64 m.st, .int .i64 m.k, .string m.ky, .string m.vl, .string m.lo, .string m.hi, .int .i64 m.mo, .bool m.bk, .int .i64 m.cd, .slice pa pn pc, .bool m.ys] rfl rfl 31 _ X1.out.dw.k1 (by kernel_rfl) rfl (by kernel_rfl) ?_))
    generalize V1.setRow w.heap.size #[.int .i64 y, .int .i64 m.c, .int .i64 m.e, .int .i64 m.n, .int .i64 m.sh, .int .i64 m.nu, .int .i64 m.st, .int .i64 m.k, .string m.ky, .string m.vl, .string m.lo, .string m.hi, .int .i64 m.mo, .bool m.bk, .int .i64 m.cd, .slice pa pn pc, .bool m.ys] = VE at *
    try simp only [Exit.inBlock, Exit.then]
    refine bodyPost_ret (v := .agg #[.int .i64 y, .int .i64 m.c, .int .i64 m.e, .int .i64 m.n, .int .i64 m.sh, .int .i64 m.nu, .int .i64 m.st, .int .i64 m.k, .string m.ky, .string m.vl, .string m.lo, .string m.hi, .int .i64 m.mo, .bool m.bk, .int .i64 m.cd, .slice pa pn pc, .bool m.ys]) ?_ rfl ?_
    · exact results_cell_row rfl _ _ w.heap.size 31 _ (0, 0) _ rfl JE.out Tryd.underlying31 rfl (by kernel_rfl)
    · exact ⟨⟨⟨y, m.c, m.e, m.n, m.sh, m.nu, m.st, m.k, m.ky, m.vl, m.lo, m.hi, m.mo, m.bk, m.cd, m.ps, m.ys⟩, _, _, _, rfl, OE.out, (show List.length (m.ps : List PB) ≤ 6 by have := HL.out; omega)⟩, GE.out.gr, GE.out.cu⟩
  · by_cases e1 : x = 1
    · subst e1
      go_wp2_with fail
      refine (l07AnyTx_any g _ X0.out.dw.dg.cu).mono ?_
      rintro r w1 ⟨⟨xc, xe, xn, rfl⟩, hg, hc⟩
      have Y1 := hid (X0.out.step hg hc)
      clear X0 hg hc
      have c1 := Y1.out.dw.kb.cell (j := 1) rfl
      have f1 := Y1.out.dw.kb.free 1
      have c2 := Y1.out.dw.kb.cell (j := 2) rfl
      have f2 := Y1.out.dw.kb.free 2
      have c3 := Y1.out.dw.kb.cell (j := 3) rfl
      have f3 := Y1.out.dw.kb.free 3
      have c0 := Y1.out.dw.kb.cell (j := 0) rfl
      have X1 : Hid (DN w (((w1.setCell ⟨b, 1, none⟩ (.int .i64 xc)).setCell ⟨b, 2, none⟩ (.int .i64 xe)).setCell ⟨b, 3, none⟩ (.int .i64 xn)) g b [.int .i64 0, .int .i64 0, .int .i64 0, .int .i64 0, .int .i64 0, .int .i64 0, .int .i64 0, .int .i64 0, .string ⟨#[]⟩, .string ⟨#[]⟩, .string ⟨#[]⟩, .string ⟨#[]⟩, .int .i64 0, .bool false, .int .i64 0, .slice none 0 0, .bool false] [.int .i64 m.kd, .int .i64 xc, .int .i64 xe, .int .i64 xn, .int .i64 m.sh, .int .i64 m.nu, .int .i64 m.st, .int .i64 m.k, .string m.ky, .string m.vl, .string m.lo, .string m.hi, .int .i64 m.mo, .bool m.bk, .int .i64 m.cd, .slice pa pn pc, .bool m.ys] (.slice pa pn pc) m.ps) := (((Y1.out.setE 1 (.int .i64 xc) (ys := [.int .i64 m.kd, .int .i64 xc, .int .i64 m.e, .int .i64 m.n, .int .i64 m.sh, .int .i64 m.nu, .int .i64 m.st, .int .i64 m.k, .string m.ky, .string m.vl, .string m.lo, .string m.hi, .int .i64 m.mo, .bool m.bk, .int .i64 m.cd, .slice pa pn pc, .bool m.ys]) rfl).setE 2 (.int .i64 xe) (ys := [.int .i64 m.kd, .int .i64 xc, .int .i64 xe, .int .i64 m.n, .int .i64 m.sh, .int .i64 m.nu, .int .i64 m.st, .int .i64 m.k, .string m.ky, .string m.vl, .string m.lo, .string m.hi, .int .i64 m.mo, .bool m.bk, .int .i64 m.cd, .slice pa pn pc, .bool m.ys]) rfl).setE 3 (.int .i64 xn) (ys := [.int .i64 m.kd, .int .i64 xc, .int .i64 xe, .int .i64 xn, .int .i64 m.sh, .int .i64 m.nu, .int .i64 m.st, .int .i64 m.k, .string m.ky, .string m.vl, .string m.lo, .string m.hi, .int .i64 m.mo, .bool m.bk, .int .i64 m.cd, .slice pa pn pc, .bool m.ys]) rfl)
      go_upto_region 21 with (fail)
      generalize (((w1.setCell ⟨b, 1, none⟩ (.int .i64 xc)).setCell ⟨b, 2, none⟩ (.int .i64 xe)).setCell ⟨b, 3, none⟩ (.int .i64 xn)) = V1 at *
      clear c0 Y1 c1 f1 c2 f2 c3 f3
      have JE := hid (X1.out.dw.k1.setRow [.int .i64 m.kd, .int .i64 xc, .int .i64 xe, .int .i64 xn, .int .i64 m.sh, .int .i64 m.nu, .int .i64 m.st, .int .i64 m.k, .string m.ky, .string m.vl, .string m.lo, .string m.hi, .int .i64 m.mo, .bool m.bk, .int .i64 m.cd, .slice pa pn pc, .bool m.ys])
      have GE := hid (X1.out.dw.dg.row w.heap.size (Nat.le_refl _) #[.int .i64 m.kd, .int .i64 xc, .int .i64 xe, .int .i64 xn, .int .i64 m.sh, .int .i64 m.nu, .int .i64 m.st, .int .i64 m.k, .string m.ky, .string m.vl, .string m.lo, .string m.hi, .int .i64 m.mo, .bool m.bk, .int .i64 m.cd, .slice pa pn pc, .bool m.ys])
      have OE : Hid (oqW (V1.setRow w.heap.size #[.int .i64 m.kd, .int .i64 xc, .int .i64 xe, .int .i64 xn, .int .i64 m.sh, .int .i64 m.nu, .int .i64 m.st, .int .i64 m.k, .string m.ky, .string m.vl, .string m.lo, .string m.hi, .int .i64 m.mo, .bool m.bk, .int .i64 m.cd, .slice pa pn pc, .bool m.ys]) w.heap.size (.slice pa pn pc) m.ps) := (X1.out.ow.to (only_setRow (R := fun y => y = w.heap.size) rfl _) (fun y hy e => by have := X1.out.ow.lt hy; have := X1.out.dw.lt; omega)).base (by have := X1.out.dw.lt; omega)
      have c0 := X1.out.dw.kb.cell (j := 0) rfl
      have c14 := X1.out.dw.kb.cell (j := 14) rfl
      go_wp2_with (first
        | (refine wpList_load_row rfl 31 _ rfl b rfl 31 _ (0, 0) _ X1.out.dw.kb Tryd.underlying31 rfl (by kernel_rfl) ?_; go_frame)
        | (refine wpList_store_row rfl 31 _ _ rfl w.heap.size #[.int .i64 m.kd, .int .i64 xc, .int .i64 xe, .int .i64 xn, .int .i64 m.sh, .int .i64 m.nu, .int .i64 m.st, .int .i64 m.k, .string m.ky, .string m.vl, .string m.lo, .string m.hi, .int .i64 m.mo, .bool m.bk, .int .i64 m.cd, .slice pa pn pc, .bool m.ys] rfl rfl 31 _ X1.out.dw.k1 (by kernel_rfl) rfl (by kernel_rfl) ?_))
      generalize V1.setRow w.heap.size #[.int .i64 m.kd, .int .i64 xc, .int .i64 xe, .int .i64 xn, .int .i64 m.sh, .int .i64 m.nu, .int .i64 m.st, .int .i64 m.k, .string m.ky, .string m.vl, .string m.lo, .string m.hi, .int .i64 m.mo, .bool m.bk, .int .i64 m.cd, .slice pa pn pc, .bool m.ys] = VE at *
      try simp only [Exit.inBlock, Exit.then]
      refine bodyPost_ret (v := .agg #[.int .i64 m.kd, .int .i64 xc, .int .i64 xe, .int .i64 xn, .int .i64 m.sh, .int .i64 m.nu, .int .i64 m.st, .int .i64 m.k, .string m.ky, .string m.vl, .string m.lo, .string m.hi, .int .i64 m.mo, .bool m.bk, .int .i64 m.cd, .slice pa pn pc, .bool m.ys]) ?_ rfl ?_
      · exact results_cell_row rfl _ _ w.heap.size 31 _ (0, 0) _ rfl JE.out Tryd.underlying31 rfl (by kernel_rfl)
      · exact ⟨⟨⟨m.kd, xc, xe, xn, m.sh, m.nu, m.st, m.k, m.ky, m.vl, m.lo, m.hi, m.mo, m.bk, m.cd, m.ps, m.ys⟩, _, _, _, rfl, OE.out, (show List.length (m.ps : List PB) ≤ 6 by have := HL.out; omega)⟩, GE.out.gr, GE.out.cu⟩
    · by_cases e2 : x = 2
      · subst e2
        go_wp2_with fail
        refine (raw_cu g _ X0.out.dw.dg.cu).mono ?_
        rintro r V1 ⟨⟨z, rfl, hz0, hz1⟩, hg, hc⟩
        have X1 := hid (X0.out.step hg hc)
        clear X0 hg hc
        have XT := hid (X1.out.alloc (.cells #[.int .i64 (-1), .int .i64 4, .int .i64 z] 3))
        have KT := hid (Bk.new V1 3 [.int .i64 (-1), .int .i64 4, .int .i64 z])
        have hTb : V1.heap.size ≠ g := by have := X1.out.dw.dg.cu.lt; omega
        go_wp2_with fail
        refine (below_any g 3 _ XT.out.dw.dg.cu (by omega) (by omega)).mono ?_
        generalize V1.alloc (.cells #[.int .i64 (-1), .int .i64 4, .int .i64 z] 3) = VT at *
        generalize V1.heap.size = bT at *
        rintro r w8 ⟨⟨y, rfl, hy0, hy1⟩, hg, hc⟩
        have Y8 := hid (XT.out.step hg hc)
        have K8 := hid (KT.out.grownR hg hTb)
        clear XT KT X1 hg hc
        have hy : y = 0 ∨ y = 1 ∨ y = 2 := by omega
        clear hy0 hy1
        rcases hy with rfl | rfl | rfl
        · skip
          have t0 := K8.out.cell (j := 0) rfl
          have c4 := Y8.out.dw.kb.cell (j := 4) rfl
          have f4 := Y8.out.dw.kb.free 4
          have X9 : Hid (DN w (w8.setCell ⟨b, 4, none⟩ (.int .i64 (-1))) g b [.int .i64 0, .int .i64 0, .int .i64 0, .int .i64 0, .int .i64 0, .int .i64 0, .int .i64 0, .int .i64 0, .string ⟨#[]⟩, .string ⟨#[]⟩, .string ⟨#[]⟩, .string ⟨#[]⟩, .int .i64 0, .bool false, .int .i64 0, .slice none 0 0, .bool false] [.int .i64 m.kd, .int .i64 m.c, .int .i64 m.e, .int .i64 m.n, .int .i64 (-1), .int .i64 m.nu, .int .i64 m.st, .int .i64 m.k, .string m.ky, .string m.vl, .string m.lo, .string m.hi, .int .i64 m.mo, .bool m.bk, .int .i64 m.cd, .slice pa pn pc, .bool m.ys] (.slice pa pn pc) m.ps) := Y8.out.setE 4 (.int .i64 (-1)) (ys := [.int .i64 m.kd, .int .i64 m.c, .int .i64 m.e, .int .i64 m.n, .int .i64 (-1), .int .i64 m.nu, .int .i64 m.st, .int .i64 m.k, .string m.ky, .string m.vl, .string m.lo, .string m.hi, .int .i64 m.mo, .bool m.bk, .int .i64 m.cd, .slice pa pn pc, .bool m.ys]) rfl
          go_upto_region 21 with (fail)
          generalize (w8.setCell ⟨b, 4, none⟩ (.int .i64 (-1))) = V9 at *
          clear t0 c4 f4 Y8 K8
          have JE := hid (X9.out.dw.k1.setRow [.int .i64 m.kd, .int .i64 m.c, .int .i64 m.e, .int .i64 m.n, .int .i64 (-1), .int .i64 m.nu, .int .i64 m.st, .int .i64 m.k, .string m.ky, .string m.vl, .string m.lo, .string m.hi, .int .i64 m.mo, .bool m.bk, .int .i64 m.cd, .slice pa pn pc, .bool m.ys])
          have GE := hid (X9.out.dw.dg.row w.heap.size (Nat.le_refl _) #[.int .i64 m.kd, .int .i64 m.c, .int .i64 m.e, .int .i64 m.n, .int .i64 (-1), .int .i64 m.nu, .int .i64 m.st, .int .i64 m.k, .string m.ky, .string m.vl, .string m.lo, .string m.hi, .int .i64 m.mo, .bool m.bk, .int .i64 m.cd, .slice pa pn pc, .bool m.ys])
          have OE : Hid (oqW (V9.setRow w.heap.size #[.int .i64 m.kd, .int .i64 m.c, .int .i64 m.e, .int .i64 m.n, .int .i64 (-1), .int .i64 m.nu, .int .i64 m.st, .int .i64 m.k, .string m.ky, .string m.vl, .string m.lo, .string m.hi, .int .i64 m.mo, .bool m.bk, .int .i64 m.cd, .slice pa pn pc, .bool m.ys]) w.heap.size (.slice pa pn pc) m.ps) := (X9.out.ow.to (only_setRow (R := fun y => y = w.heap.size) rfl _) (fun y hy e => by have := X9.out.ow.lt hy; have := X9.out.dw.lt; omega)).base (by have := X9.out.dw.lt; omega)
          have c0 := X9.out.dw.kb.cell (j := 0) rfl
          have c14 := X9.out.dw.kb.cell (j := 14) rfl
          go_wp2_with (first
            | (refine wpList_load_row rfl 31 _ rfl b rfl 31 _ (0, 0) _ X9.out.dw.kb Tryd.underlying31 rfl (by kernel_rfl) ?_; go_frame)
            | (refine wpList_store_row rfl 31 _ _ rfl w.heap.size #[.int .i64 m.kd, .int .i64 m.c, .int .i64 m.e, .int .i64 m.n, .int .i64 (-1), .int .i64 m.nu, .int .i64 m.st, .int .i64 m.k, .string m.ky, .string m.vl, .string m.lo, .string m.hi, .int .i64 m.mo, .bool m.bk, .int .i64 m.cd, .slice pa pn pc, .bool m.ys] rfl rfl 31 _ X9.out.dw.k1 (by kernel_rfl) rfl (by kernel_rfl) ?_))
          generalize V9.setRow w.heap.size #[.int .i64 m.kd, .int .i64 m.c, .int .i64 m.e, .int .i64 m.n, .int .i64 (-1), .int .i64 m.nu, .int .i64 m.st, .int .i64 m.k, .string m.ky, .string m.vl, .string m.lo, .string m.hi, .int .i64 m.mo, .bool m.bk, .int .i64 m.cd, .slice pa pn pc, .bool m.ys] = VE at *
          try simp only [Exit.inBlock, Exit.then]
          refine bodyPost_ret (v := .agg #[.int .i64 m.kd, .int .i64 m.c, .int .i64 m.e, .int .i64 m.n, .int .i64 (-1), .int .i64 m.nu, .int .i64 m.st, .int .i64 m.k, .string m.ky, .string m.vl, .string m.lo, .string m.hi, .int .i64 m.mo, .bool m.bk, .int .i64 m.cd, .slice pa pn pc, .bool m.ys]) ?_ rfl ?_
          · exact results_cell_row rfl _ _ w.heap.size 31 _ (0, 0) _ rfl JE.out Tryd.underlying31 rfl (by kernel_rfl)
          · exact ⟨⟨⟨m.kd, m.c, m.e, m.n, (-1), m.nu, m.st, m.k, m.ky, m.vl, m.lo, m.hi, m.mo, m.bk, m.cd, m.ps, m.ys⟩, _, _, _, rfl, OE.out, (show List.length (m.ps : List PB) ≤ 6 by have := HL.out; omega)⟩, GE.out.gr, GE.out.cu⟩
        · skip
          have t0 := K8.out.cell (j := 1) rfl
          have c4 := Y8.out.dw.kb.cell (j := 4) rfl
          have f4 := Y8.out.dw.kb.free 4
          have X9 : Hid (DN w (w8.setCell ⟨b, 4, none⟩ (.int .i64 4)) g b [.int .i64 0, .int .i64 0, .int .i64 0, .int .i64 0, .int .i64 0, .int .i64 0, .int .i64 0, .int .i64 0, .string ⟨#[]⟩, .string ⟨#[]⟩, .string ⟨#[]⟩, .string ⟨#[]⟩, .int .i64 0, .bool false, .int .i64 0, .slice none 0 0, .bool false] [.int .i64 m.kd, .int .i64 m.c, .int .i64 m.e, .int .i64 m.n, .int .i64 4, .int .i64 m.nu, .int .i64 m.st, .int .i64 m.k, .string m.ky, .string m.vl, .string m.lo, .string m.hi, .int .i64 m.mo, .bool m.bk, .int .i64 m.cd, .slice pa pn pc, .bool m.ys] (.slice pa pn pc) m.ps) := Y8.out.setE 4 (.int .i64 4) (ys := [.int .i64 m.kd, .int .i64 m.c, .int .i64 m.e, .int .i64 m.n, .int .i64 4, .int .i64 m.nu, .int .i64 m.st, .int .i64 m.k, .string m.ky, .string m.vl, .string m.lo, .string m.hi, .int .i64 m.mo, .bool m.bk, .int .i64 m.cd, .slice pa pn pc, .bool m.ys]) rfl
          go_upto_region 21 with (fail)
          generalize (w8.setCell ⟨b, 4, none⟩ (.int .i64 4)) = V9 at *
          clear t0 c4 f4 Y8 K8
          have JE := hid (X9.out.dw.k1.setRow [.int .i64 m.kd, .int .i64 m.c, .int .i64 m.e, .int .i64 m.n, .int .i64 4, .int .i64 m.nu, .int .i64 m.st, .int .i64 m.k, .string m.ky, .string m.vl, .string m.lo, .string m.hi, .int .i64 m.mo, .bool m.bk, .int .i64 m.cd, .slice pa pn pc, .bool m.ys])
          have GE := hid (X9.out.dw.dg.row w.heap.size (Nat.le_refl _) #[.int .i64 m.kd, .int .i64 m.c, .int .i64 m.e, .int .i64 m.n, .int .i64 4, .int .i64 m.nu, .int .i64 m.st, .int .i64 m.k, .string m.ky, .string m.vl, .string m.lo, .string m.hi, .int .i64 m.mo, .bool m.bk, .int .i64 m.cd, .slice pa pn pc, .bool m.ys])
          have OE : Hid (oqW (V9.setRow w.heap.size #[.int .i64 m.kd, .int .i64 m.c, .int .i64 m.e, .int .i64 m.n, .int .i64 4, .int .i64 m.nu, .int .i64 m.st, .int .i64 m.k, .string m.ky, .string m.vl, .string m.lo, .string m.hi, .int .i64 m.mo, .bool m.bk, .int .i64 m.cd, .slice pa pn pc, .bool m.ys]) w.heap.size (.slice pa pn pc) m.ps) := (X9.out.ow.to (only_setRow (R := fun y => y = w.heap.size) rfl _) (fun y hy e => by have := X9.out.ow.lt hy; have := X9.out.dw.lt; omega)).base (by have := X9.out.dw.lt; omega)
          have c0 := X9.out.dw.kb.cell (j := 0) rfl
          have c14 := X9.out.dw.kb.cell (j := 14) rfl
          go_wp2_with (first
            | (refine wpList_load_row rfl 31 _ rfl b rfl 31 _ (0, 0) _ X9.out.dw.kb Tryd.underlying31 rfl (by kernel_rfl) ?_; go_frame)
            | (refine wpList_store_row rfl 31 _ _ rfl w.heap.size #[.int .i64 m.kd, .int .i64 m.c, .int .i64 m.e, .int .i64 m.n, .int .i64 4, .int .i64 m.nu, .int .i64 m.st, .int .i64 m.k, .string m.ky, .string m.vl, .string m.lo, .string m.hi, .int .i64 m.mo, .bool m.bk, .int .i64 m.cd, .slice pa pn pc, .bool m.ys] rfl rfl 31 _ X9.out.dw.k1 (by kernel_rfl) rfl (by kernel_rfl) ?_))
          generalize V9.setRow w.heap.size #[.int .i64 m.kd, .int .i64 m.c, .int .i64 m.e, .int .i64 m.n, .int .i64 4, .int .i64 m.nu, .int .i64 m.st, .int .i64 m.k, .string m.ky, .string m.vl, .string m.lo, .string m.hi, .int .i64 m.mo, .bool m.bk, .int .i64 m.cd, .slice pa pn pc, .bool m.ys] = VE at *
          try simp only [Exit.inBlock, Exit.then]
          refine bodyPost_ret (v := .agg #[.int .i64 m.kd, .int .i64 m.c, .int .i64 m.e, .int .i64 m.n, .int .i64 4, .int .i64 m.nu, .int .i64 m.st, .int .i64 m.k, .string m.ky, .string m.vl, .string m.lo, .string m.hi, .int .i64 m.mo, .bool m.bk, .int .i64 m.cd, .slice pa pn pc, .bool m.ys]) ?_ rfl ?_
          · exact results_cell_row rfl _ _ w.heap.size 31 _ (0, 0) _ rfl JE.out Tryd.underlying31 rfl (by kernel_rfl)
          · exact ⟨⟨⟨m.kd, m.c, m.e, m.n, 4, m.nu, m.st, m.k, m.ky, m.vl, m.lo, m.hi, m.mo, m.bk, m.cd, m.ps, m.ys⟩, _, _, _, rfl, OE.out, (show List.length (m.ps : List PB) ≤ 6 by have := HL.out; omega)⟩, GE.out.gr, GE.out.cu⟩
        · skip
          have t0 := K8.out.cell (j := 2) rfl
          have c4 := Y8.out.dw.kb.cell (j := 4) rfl
          have f4 := Y8.out.dw.kb.free 4
          have X9 : Hid (DN w (w8.setCell ⟨b, 4, none⟩ (.int .i64 z)) g b [.int .i64 0, .int .i64 0, .int .i64 0, .int .i64 0, .int .i64 0, .int .i64 0, .int .i64 0, .int .i64 0, .string ⟨#[]⟩, .string ⟨#[]⟩, .string ⟨#[]⟩, .string ⟨#[]⟩, .int .i64 0, .bool false, .int .i64 0, .slice none 0 0, .bool false] [.int .i64 m.kd, .int .i64 m.c, .int .i64 m.e, .int .i64 m.n, .int .i64 z, .int .i64 m.nu, .int .i64 m.st, .int .i64 m.k, .string m.ky, .string m.vl, .string m.lo, .string m.hi, .int .i64 m.mo, .bool m.bk, .int .i64 m.cd, .slice pa pn pc, .bool m.ys] (.slice pa pn pc) m.ps) := Y8.out.setE 4 (.int .i64 z) (ys := [.int .i64 m.kd, .int .i64 m.c, .int .i64 m.e, .int .i64 m.n, .int .i64 z, .int .i64 m.nu, .int .i64 m.st, .int .i64 m.k, .string m.ky, .string m.vl, .string m.lo, .string m.hi, .int .i64 m.mo, .bool m.bk, .int .i64 m.cd, .slice pa pn pc, .bool m.ys]) rfl
          go_upto_region 21 with (fail)
          generalize (w8.setCell ⟨b, 4, none⟩ (.int .i64 z)) = V9 at *
          clear t0 c4 f4 Y8 K8
          have JE := hid (X9.out.dw.k1.setRow [.int .i64 m.kd, .int .i64 m.c, .int .i64 m.e, .int .i64 m.n, .int .i64 z, .int .i64 m.nu, .int .i64 m.st, .int .i64 m.k, .string m.ky, .string m.vl, .string m.lo, .string m.hi, .int .i64 m.mo, .bool m.bk, .int .i64 m.cd, .slice pa pn pc, .bool m.ys])
          have GE := hid (X9.out.dw.dg.row w.heap.size (Nat.le_refl _) #[.int .i64 m.kd, .int .i64 m.c, .int .i64 m.e, .int .i64 m.n, .int .i64 z, .int .i64 m.nu, .int .i64 m.st, .int .i64 m.k, .string m.ky, .string m.vl, .string m.lo, .string m.hi, .int .i64 m.mo, .bool m.bk, .int .i64 m.cd, .slice pa pn pc, .bool m.ys])
          have OE : Hid (oqW (V9.setRow w.heap.size #[.int .i64 m.kd, .int .i64 m.c, .int .i64 m.e, .int .i64 m.n, .int .i64 z, .int .i64 m.nu, .int .i64 m.st, .int .i64 m.k, .string m.ky, .string m.vl, .string m.lo, .string m.hi, .int .i64 m.mo, .bool m.bk, .int .i64 m.cd, .slice pa pn pc, .bool m.ys]) w.heap.size (.slice pa pn pc) m.ps) := (X9.out.ow.to (only_setRow (R := fun y => y = w.heap.size) rfl _) (fun y hy e => by have := X9.out.ow.lt hy; have := X9.out.dw.lt; omega)).base (by have := X9.out.dw.lt; omega)
          have c0 := X9.out.dw.kb.cell (j := 0) rfl
          have c14 := X9.out.dw.kb.cell (j := 14) rfl
          go_wp2_with (first
            | (refine wpList_load_row rfl 31 _ rfl b rfl 31 _ (0, 0) _ X9.out.dw.kb Tryd.underlying31 rfl (by kernel_rfl) ?_; go_frame)
            | (refine wpList_store_row rfl 31 _ _ rfl w.heap.size #[.int .i64 m.kd, .int .i64 m.c, .int .i64 m.e, .int .i64 m.n, .int .i64 z, .int .i64 m.nu, .int .i64 m.st, .int .i64 m.k, .string m.ky, .string m.vl, .string m.lo, .string m.hi, .int .i64 m.mo, .bool m.bk, .int .i64 m.cd, .slice pa pn pc, .bool m.ys] rfl rfl 31 _ X9.out.dw.k1 (by kernel_rfl) rfl (by kernel_rfl) ?_))
          generalize V9.setRow w.heap.size #[.int .i64 m.kd, .int .i64 m.c, .int .i64 m.e, .int .i64 m.n, .int .i64 z, .int .i64 m.nu, .int .i64 m.st, .int .i64 m.k, .string m.ky, .string m.vl, .string m.lo, .string m.hi, .int .i64 m.mo, .bool m.bk, .int .i64 m.cd, .slice pa pn pc, .bool m.ys] = VE at *
          try simp only [Exit.inBlock, Exit.then]
          refine bodyPost_ret (v := .agg #[.int .i64 m.kd, .int .i64 m.c, .int .i64 m.e, .int .i64 m.n, .int .i64 z, .int .i64 m.nu, .int .i64 m.st, .int .i64 m.k, .string m.ky, .string m.vl, .string m.lo, .string m.hi, .int .i64 m.mo, .bool m.bk, .int .i64 m.cd, .slice pa pn pc, .bool m.ys]) ?_ rfl ?_
          · exact results_cell_row rfl _ _ w.heap.size 31 _ (0, 0) _ rfl JE.out Tryd.underlying31 rfl (by kernel_rfl)
          · exact ⟨⟨⟨m.kd, m.c, m.e, m.n, z, m.nu, m.st, m.k, m.ky, m.vl, m.lo, m.hi, m.mo, m.bk, m.cd, m.ps, m.ys⟩, _, _, _, rfl, OE.out, (show List.length (m.ps : List PB) ≤ 6 by have := HL.out; omega)⟩, GE.out.gr, GE.out.cu⟩
      · by_cases e3 : x = 3
        · subst e3
          go_wp2_with fail
          refine (raw_cu g _ X0.out.dw.dg.cu).mono ?_
          rintro r V1 ⟨⟨z, rfl, hz0, hz1⟩, hg, hc⟩
          have X1 := hid (X0.out.step hg hc)
          clear X0 hg hc
          have XT := hid (X1.out.alloc (.cells #[.int .i64 0, .int .i64 16, .int .i64 17, .int .i64 z] 3))
          have KT := hid (Bk.new V1 3 [.int .i64 0, .int .i64 16, .int .i64 17, .int .i64 z])
          have hTb : V1.heap.size ≠ g := by have := X1.out.dw.dg.cu.lt; omega
          go_wp2_with fail
          refine (below_any g 4 _ XT.out.dw.dg.cu (by omega) (by omega)).mono ?_
          generalize V1.alloc (.cells #[.int .i64 0, .int .i64 16, .int .i64 17, .int .i64 z] 3) = VT at *
          generalize V1.heap.size = bT at *
          rintro r w8 ⟨⟨y, rfl, hy0, hy1⟩, hg, hc⟩
          have Y8 := hid (XT.out.step hg hc)
          have K8 := hid (KT.out.grownR hg hTb)
          clear XT KT X1 hg hc
          have hy : y = 0 ∨ y = 1 ∨ y = 2 ∨ y = 3 := by omega
          clear hy0 hy1
          rcases hy with rfl | rfl | rfl | rfl
          · skip
            have t0 := K8.out.cell (j := 0) rfl
            have c5 := Y8.out.dw.kb.cell (j := 5) rfl
            have f5 := Y8.out.dw.kb.free 5
            have X9 : Hid (DN w (w8.setCell ⟨b, 5, none⟩ (.int .i64 0)) g b [.int .i64 0, .int .i64 0, .int .i64 0, .int .i64 0, .int .i64 0, .int .i64 0, .int .i64 0, .int .i64 0, .string ⟨#[]⟩, .string ⟨#[]⟩, .string ⟨#[]⟩, .string ⟨#[]⟩, .int .i64 0, .bool false, .int .i64 0, .slice none 0 0, .bool false] [.int .i64 m.kd, .int .i64 m.c, .int .i64 m.e, .int .i64 m.n, .int .i64 m.sh, .int .i64 0, .int .i64 m.st, .int .i64 m.k, .string m.ky, .string m.vl, .string m.lo, .string m.hi, .int .i64 m.mo, .bool m.bk, .int .i64 m.cd, .slice pa pn pc, .bool m.ys] (.slice pa pn pc) m.ps) := Y8.out.setE 5 (.int .i64 0) (ys := [.int .i64 m.kd, .int .i64 m.c, .int .i64 m.e, .int .i64 m.n, .int .i64 m.sh, .int .i64 0, .int .i64 m.st, .int .i64 m.k, .string m.ky, .string m.vl, .string m.lo, .string m.hi, .int .i64 m.mo, .bool m.bk, .int .i64 m.cd, .slice pa pn pc, .bool m.ys]) rfl
            go_upto_region 21 with (fail)
            generalize (w8.setCell ⟨b, 5, none⟩ (.int .i64 0)) = V9 at *
            clear t0 c5 f5 Y8 K8
            have JE := hid (X9.out.dw.k1.setRow [.int .i64 m.kd, .int .i64 m.c, .int .i64 m.e, .int .i64 m.n, .int .i64 m.sh, .int .i64 0, .int .i64 m.st, .int .i64 m.k, .string m.ky, .string m.vl, .string m.lo, .string m.hi, .int .i64 m.mo, .bool m.bk, .int .i64 m.cd, .slice pa pn pc, .bool m.ys])
            have GE := hid (X9.out.dw.dg.row w.heap.size (Nat.le_refl _) #[.int .i64 m.kd, .int .i64 m.c, .int .i64 m.e, .int .i64 m.n, .int .i64 m.sh, .int .i64 0, .int .i64 m.st, .int .i64 m.k, .string m.ky, .string m.vl, .string m.lo, .string m.hi, .int .i64 m.mo, .bool m.bk, .int .i64 m.cd, .slice pa pn pc, .bool m.ys])
            have OE : Hid (oqW (V9.setRow w.heap.size #[.int .i64 m.kd, .int .i64 m.c, .int .i64 m.e, .int .i64 m.n, .int .i64 m.sh, .int .i64 0, .int .i64 m.st, .int .i64 m.k, .string m.ky, .string m.vl, .string m.lo, .string m.hi, .int .i64 m.mo, .bool m.bk, .int .i64 m.cd, .slice pa pn pc, .bool m.ys]) w.heap.size (.slice pa pn pc) m.ps) := (X9.out.ow.to (only_setRow (R := fun y => y = w.heap.size) rfl _) (fun y hy e => by have := X9.out.ow.lt hy; have := X9.out.dw.lt; omega)).base (by have := X9.out.dw.lt; omega)
            have c0 := X9.out.dw.kb.cell (j := 0) rfl
            have c14 := X9.out.dw.kb.cell (j := 14) rfl
            go_wp2_with (first
              | (refine wpList_load_row rfl 31 _ rfl b rfl 31 _ (0, 0) _ X9.out.dw.kb Tryd.underlying31 rfl (by kernel_rfl) ?_; go_frame)
              | (refine wpList_store_row rfl 31 _ _ rfl w.heap.size #[.int .i64 m.kd, .int .i64 m.c, .int .i64 m.e, .int .i64 m.n, .int .i64 m.sh, .int .i64 0, .int .i64 m.st, .int .i64 m.k, .string m.ky, .string m.vl, .string m.lo, .string m.hi, .int .i64 m.mo, .bool m.bk, .int .i64 m.cd, .slice pa pn pc, .bool m.ys] rfl rfl 31 _ X9.out.dw.k1 (by kernel_rfl) rfl (by kernel_rfl) ?_))
            generalize V9.setRow w.heap.size #[.int .i64 m.kd, .int .i64 m.c, .int .i64 m.e, .int .i64 m.n, .int .i64 m.sh, .int .i64 0, .int .i64 m.st, .int .i64 m.k, .string m.ky, .string m.vl, .string m.lo, .string m.hi, .int .i64 m.mo, .bool m.bk, .int .i64 m.cd, .slice pa pn pc, .bool m.ys] = VE at *
            try simp only [Exit.inBlock, Exit.then]
            refine bodyPost_ret (v := .agg #[.int .i64 m.kd, .int .i64 m.c, .int .i64 m.e, .int .i64 m.n, .int .i64 m.sh, .int .i64 0, .int .i64 m.st, .int .i64 m.k, .string m.ky, .string m.vl, .string m.lo, .string m.hi, .int .i64 m.mo, .bool m.bk, .int .i64 m.cd, .slice pa pn pc, .bool m.ys]) ?_ rfl ?_
            · exact results_cell_row rfl _ _ w.heap.size 31 _ (0, 0) _ rfl JE.out Tryd.underlying31 rfl (by kernel_rfl)
            · exact ⟨⟨⟨m.kd, m.c, m.e, m.n, m.sh, 0, m.st, m.k, m.ky, m.vl, m.lo, m.hi, m.mo, m.bk, m.cd, m.ps, m.ys⟩, _, _, _, rfl, OE.out, (show List.length (m.ps : List PB) ≤ 6 by have := HL.out; omega)⟩, GE.out.gr, GE.out.cu⟩
          · skip
            have t0 := K8.out.cell (j := 1) rfl
            have c5 := Y8.out.dw.kb.cell (j := 5) rfl
            have f5 := Y8.out.dw.kb.free 5
            have X9 : Hid (DN w (w8.setCell ⟨b, 5, none⟩ (.int .i64 16)) g b [.int .i64 0, .int .i64 0, .int .i64 0, .int .i64 0, .int .i64 0, .int .i64 0, .int .i64 0, .int .i64 0, .string ⟨#[]⟩, .string ⟨#[]⟩, .string ⟨#[]⟩, .string ⟨#[]⟩, .int .i64 0, .bool false, .int .i64 0, .slice none 0 0, .bool false] [.int .i64 m.kd, .int .i64 m.c, .int .i64 m.e, .int .i64 m.n, .int .i64 m.sh, .int .i64 16, .int .i64 m.st, .int .i64 m.k, .string m.ky, .string m.vl, .string m.lo, .string m.hi, .int .i64 m.mo, .bool m.bk, .int .i64 m.cd, .slice pa pn pc, .bool m.ys] (.slice pa pn pc) m.ps) := Y8.out.setE 5 (.int .i64 16) (ys := [.int .i64 m.kd, .int .i64 m.c, .int .i64 m.e, .int .i64 m.n, .int .i64 m.sh, .int .i64 16, .int .i64 m.st, .int .i64 m.k, .string m.ky, .string m.vl, .string m.lo, .string m.hi, .int .i64 m.mo, .bool m.bk, .int .i64 m.cd, .slice pa pn pc, .bool m.ys]) rfl
            go_upto_region 21 with (fail)
            generalize (w8.setCell ⟨b, 5, none⟩ (.int .i64 16)) = V9 at *
            clear t0 c5 f5 Y8 K8
            have JE := hid (X9.out.dw.k1.setRow [.int .i64 m.kd, .int .i64 m.c, .int .i64 m.e, .int .i64 m.n, .int .i64 m.sh, .int .i64 16, .int .i64 m.st, .int .i64 m.k, .string m.ky, .string m.vl, .string m.lo, .string m.hi, .int .i64 m.mo, .bool m.bk, .int .i64 m.cd, .slice pa pn pc, .bool m.ys])
            have GE := hid (X9.out.dw.dg.row w.heap.size (Nat.le_refl _) #[.int .i64 m.kd, .int .i64 m.c, .int .i64 m.e, .int .i64 m.n, .int .i64 m.sh, .int .i64 16, .int .i64 m.st, .int .i64 m.k, .string m.ky, .string m.vl, .string m.lo, .string m.hi, .int .i64 m.mo, .bool m.bk, .int .i64 m.cd, .slice pa pn pc, .bool m.ys])
            have OE : Hid (oqW (V9.setRow w.heap.size #[.int .i64 m.kd, .int .i64 m.c, .int .i64 m.e, .int .i64 m.n, .int .i64 m.sh, .int .i64 16, .int .i64 m.st, .int .i64 m.k, .string m.ky, .string m.vl, .string m.lo, .string m.hi, .int .i64 m.mo, .bool m.bk, .int .i64 m.cd, .slice pa pn pc, .bool m.ys]) w.heap.size (.slice pa pn pc) m.ps) := (X9.out.ow.to (only_setRow (R := fun y => y = w.heap.size) rfl _) (fun y hy e => by have := X9.out.ow.lt hy; have := X9.out.dw.lt; omega)).base (by have := X9.out.dw.lt; omega)
            have c0 := X9.out.dw.kb.cell (j := 0) rfl
            have c14 := X9.out.dw.kb.cell (j := 14) rfl
            go_wp2_with (first
              | (refine wpList_load_row rfl 31 _ rfl b rfl 31 _ (0, 0) _ X9.out.dw.kb Tryd.underlying31 rfl (by kernel_rfl) ?_; go_frame)
              | (refine wpList_store_row rfl 31 _ _ rfl w.heap.size #[.int .i64 m.kd, .int .i64 m.c, .int .i64 m.e, .int .i64 m.n, .int .i64 m.sh, .int .i64 16, .int .i64 m.st, .int .i64 m.k, .string m.ky, .string m.vl, .string m.lo, .string m.hi, .int .i64 m.mo, .bool m.bk, .int .i64 m.cd, .slice pa pn pc, .bool m.ys] rfl rfl 31 _ X9.out.dw.k1 (by kernel_rfl) rfl (by kernel_rfl) ?_))
            generalize V9.setRow w.heap.size #[.int .i64 m.kd, .int .i64 m.c, .int .i64 m.e, .int .i64 m.n, .int .i64 m.sh, .int .i64 16, .int .i64 m.st, .int .i64 m.k, .string m.ky, .string m.vl, .string m.lo, .string m.hi, .int .i64 m.mo, .bool m.bk, .int .i64 m.cd, .slice pa pn pc, .bool m.ys] = VE at *
            try simp only [Exit.inBlock, Exit.then]
            refine bodyPost_ret (v := .agg #[.int .i64 m.kd, .int .i64 m.c, .int .i64 m.e, .int .i64 m.n, .int .i64 m.sh, .int .i64 16, .int .i64 m.st, .int .i64 m.k, .string m.ky, .string m.vl, .string m.lo, .string m.hi, .int .i64 m.mo, .bool m.bk, .int .i64 m.cd, .slice pa pn pc, .bool m.ys]) ?_ rfl ?_
            · exact results_cell_row rfl _ _ w.heap.size 31 _ (0, 0) _ rfl JE.out Tryd.underlying31 rfl (by kernel_rfl)
            · exact ⟨⟨⟨m.kd, m.c, m.e, m.n, m.sh, 16, m.st, m.k, m.ky, m.vl, m.lo, m.hi, m.mo, m.bk, m.cd, m.ps, m.ys⟩, _, _, _, rfl, OE.out, (show List.length (m.ps : List PB) ≤ 6 by have := HL.out; omega)⟩, GE.out.gr, GE.out.cu⟩
          · skip
            have t0 := K8.out.cell (j := 2) rfl
            have c5 := Y8.out.dw.kb.cell (j := 5) rfl
            have f5 := Y8.out.dw.kb.free 5
            have X9 : Hid (DN w (w8.setCell ⟨b, 5, none⟩ (.int .i64 17)) g b [.int .i64 0, .int .i64 0, .int .i64 0, .int .i64 0, .int .i64 0, .int .i64 0, .int .i64 0, .int .i64 0, .string ⟨#[]⟩, .string ⟨#[]⟩, .string ⟨#[]⟩, .string ⟨#[]⟩, .int .i64 0, .bool false, .int .i64 0, .slice none 0 0, .bool false] [.int .i64 m.kd, .int .i64 m.c, .int .i64 m.e, .int .i64 m.n, .int .i64 m.sh, .int .i64 17, .int .i64 m.st, .int .i64 m.k, .string m.ky, .string m.vl, .string m.lo, .string m.hi, .int .i64 m.mo, .bool m.bk, .int .i64 m.cd, .slice pa pn pc, .bool m.ys] (.slice pa pn pc) m.ps) := Y8.out.setE 5 (.int .i64 17) (ys := [.int .i64 m.kd, .int .i64 m.c, .int .i64 m.e, .int .i64 m.n, .int .i64 m.sh, .int .i64 17, .int .i64 m.st, .int .i64 m.k, .string m.ky, .string m.vl, .string m.lo, .string m.hi, .int .i64 m.mo, .bool m.bk, .int .i64 m.cd, .slice pa pn pc, .bool m.ys]) rfl
            go_upto_region 21 with (fail)
            generalize (w8.setCell ⟨b, 5, none⟩ (.int .i64 17)) = V9 at *
            clear t0 c5 f5 Y8 K8
            have JE := hid (X9.out.dw.k1.setRow [.int .i64 m.kd, .int .i64 m.c, .int .i64 m.e, .int .i64 m.n, .int .i64 m.sh, .int .i64 17, .int .i64 m.st, .int .i64 m.k, .string m.ky, .string m.vl, .string m.lo, .string m.hi, .int .i64 m.mo, .bool m.bk, .int .i64 m.cd, .slice pa pn pc, .bool m.ys])
            have GE := hid (X9.out.dw.dg.row w.heap.size (Nat.le_refl _) #[.int .i64 m.kd, .int .i64 m.c, .int .i64 m.e, .int .i64 m.n, .int .i64 m.sh, .int .i64 17, .int .i64 m.st, .int .i64 m.k, .string m.ky, .string m.vl, .string m.lo, .string m.hi, .int .i64 m.mo, .bool m.bk, .int .i64 m.cd, .slice pa pn pc, .bool m.ys])
            have OE : Hid (oqW (V9.setRow w.heap.size #[.int .i64 m.kd, .int .i64 m.c, .int .i64 m.e, .int .i64 m.n, .int .i64 m.sh, .int .i64 17, .int .i64 m.st, .int .i64 m.k, .string m.ky, .string m.vl, .string m.lo, .string m.hi, .int .i64 m.mo, .bool m.bk, .int .i64 m.cd, .slice pa pn pc, .bool m.ys]) w.heap.size (.slice pa pn pc) m.ps) := (X9.out.ow.to (only_setRow (R := fun y => y = w.heap.size) rfl _) (fun y hy e => by have := X9.out.ow.lt hy; have := X9.out.dw.lt; omega)).base (by have := X9.out.dw.lt; omega)
            have c0 := X9.out.dw.kb.cell (j := 0) rfl
            have c14 := X9.out.dw.kb.cell (j := 14) rfl
            go_wp2_with (first
              | (refine wpList_load_row rfl 31 _ rfl b rfl 31 _ (0, 0) _ X9.out.dw.kb Tryd.underlying31 rfl (by kernel_rfl) ?_; go_frame)
              | (refine wpList_store_row rfl 31 _ _ rfl w.heap.size #[.int .i64 m.kd, .int .i64 m.c, .int .i64 m.e, .int .i64 m.n, .int .i64 m.sh, .int .i64 17, .int .i64 m.st, .int .i64 m.k, .string m.ky, .string m.vl, .string m.lo, .string m.hi, .int .i64 m.mo, .bool m.bk, .int .i64 m.cd, .slice pa pn pc, .bool m.ys] rfl rfl 31 _ X9.out.dw.k1 (by kernel_rfl) rfl (by kernel_rfl) ?_))
            generalize V9.setRow w.heap.size #[.int .i64 m.kd, .int .i64 m.c, .int .i64 m.e, .int .i64 m.n, .int .i64 m.sh, .int .i64 17, .int .i64 m.st, .int .i64 m.k, .string m.ky, .string m.vl, .string m.lo, .string m.hi, .int .i64 m.mo, .bool m.bk, .int .i64 m.cd, .slice pa pn pc, .bool m.ys] = VE at *
            try simp only [Exit.inBlock, Exit.then]
            refine bodyPost_ret (v := .agg #[.int .i64 m.kd, .int .i64 m.c, .int .i64 m.e, .int .i64 m.n, .int .i64 m.sh, .int .i64 17, .int .i64 m.st, .int .i64 m.k, .string m.ky, .string m.vl, .string m.lo, .string m.hi, .int .i64 m.mo, .bool m.bk, .int .i64 m.cd, .slice pa pn pc, .bool m.ys]) ?_ rfl ?_
            · exact results_cell_row rfl _ _ w.heap.size 31 _ (0, 0) _ rfl JE.out Tryd.underlying31 rfl (by kernel_rfl)
            · exact ⟨⟨⟨m.kd, m.c, m.e, m.n, m.sh, 17, m.st, m.k, m.ky, m.vl, m.lo, m.hi, m.mo, m.bk, m.cd, m.ps, m.ys⟩, _, _, _, rfl, OE.out, (show List.length (m.ps : List PB) ≤ 6 by have := HL.out; omega)⟩, GE.out.gr, GE.out.cu⟩
          · skip
            have t0 := K8.out.cell (j := 3) rfl
            have c5 := Y8.out.dw.kb.cell (j := 5) rfl
            have f5 := Y8.out.dw.kb.free 5
            have X9 : Hid (DN w (w8.setCell ⟨b, 5, none⟩ (.int .i64 z)) g b [.int .i64 0, .int .i64 0, .int .i64 0, .int .i64 0, .int .i64 0, .int .i64 0, .int .i64 0, .int .i64 0, .string ⟨#[]⟩, .string ⟨#[]⟩, .string ⟨#[]⟩, .string ⟨#[]⟩, .int .i64 0, .bool false, .int .i64 0, .slice none 0 0, .bool false] [.int .i64 m.kd, .int .i64 m.c, .int .i64 m.e, .int .i64 m.n, .int .i64 m.sh, .int .i64 z, .int .i64 m.st, .int .i64 m.k, .string m.ky, .string m.vl, .string m.lo, .string m.hi, .int .i64 m.mo, .bool m.bk, .int .i64 m.cd, .slice pa pn pc, .bool m.ys] (.slice pa pn pc) m.ps) := Y8.out.setE 5 (.int .i64 z) (ys := [.int .i64 m.kd, .int .i64 m.c, .int .i64 m.e, .int .i64 m.n, .int .i64 m.sh, .int .i64 z, .int .i64 m.st, .int .i64 m.k, .string m.ky, .string m.vl, .string m.lo, .string m.hi, .int .i64 m.mo, .bool m.bk, .int .i64 m.cd, .slice pa pn pc, .bool m.ys]) rfl
            go_upto_region 21 with (fail)
            generalize (w8.setCell ⟨b, 5, none⟩ (.int .i64 z)) = V9 at *
            clear t0 c5 f5 Y8 K8
            have JE := hid (X9.out.dw.k1.setRow [.int .i64 m.kd, .int .i64 m.c, .int .i64 m.e, .int .i64 m.n, .int .i64 m.sh, .int .i64 z, .int .i64 m.st, .int .i64 m.k, .string m.ky, .string m.vl, .string m.lo, .string m.hi, .int .i64 m.mo, .bool m.bk, .int .i64 m.cd, .slice pa pn pc, .bool m.ys])
            have GE := hid (X9.out.dw.dg.row w.heap.size (Nat.le_refl _) #[.int .i64 m.kd, .int .i64 m.c, .int .i64 m.e, .int .i64 m.n, .int .i64 m.sh, .int .i64 z, .int .i64 m.st, .int .i64 m.k, .string m.ky, .string m.vl, .string m.lo, .string m.hi, .int .i64 m.mo, .bool m.bk, .int .i64 m.cd, .slice pa pn pc, .bool m.ys])
            have OE : Hid (oqW (V9.setRow w.heap.size #[.int .i64 m.kd, .int .i64 m.c, .int .i64 m.e, .int .i64 m.n, .int .i64 m.sh, .int .i64 z, .int .i64 m.st, .int .i64 m.k, .string m.ky, .string m.vl, .string m.lo, .string m.hi, .int .i64 m.mo, .bool m.bk, .int .i64 m.cd, .slice pa pn pc, .bool m.ys]) w.heap.size (.slice pa pn pc) m.ps) := (X9.out.ow.to (only_setRow (R := fun y => y = w.heap.size) rfl _) (fun y hy e => by have := X9.out.ow.lt hy; have := X9.out.dw.lt; omega)).base (by have := X9.out.dw.lt; omega)
            have c0 := X9.out.dw.kb.cell (j := 0) rfl
            have c14 := X9.out.dw.kb.cell (j := 14) rfl
            go_wp2_with (first
              | (refine wpList_load_row rfl 31 _ rfl b rfl 31 _ (0, 0) _ X9.out.dw.kb Tryd.underlying31 rfl (by kernel_rfl) ?_; go_frame)
              | (refine wpList_store_row rfl 31 _ _ rfl w.heap.size #[.int .i64 m.kd, .int .i64 m.c, .int .i64 m.e, .int .i64 m.n, .int .i64 m.sh, .int .i64 z, .int .i64 m.st, .int .i64 m.k, .string m.ky, .string m.vl, .string m.lo, .string m.hi, .int .i64 m.mo, .bool m.bk, .int .i64 m.cd, .slice pa pn pc, .bool m.ys] rfl rfl 31 _ X9.out.dw.k1 (by kernel_rfl) rfl (by kernel_rfl) ?_))
            generalize V9.setRow w.heap.size #[.int .i64 m.kd, .int .i64 m.c, .int .i64 m.e, .int .i64 m.n, .int .i64 m.sh, .int .i64 z, .int .i64 m.st, .int .i64 m.k, .string m.ky, .string m.vl, .string m.lo, .string m.hi, .int .i64 m.mo, .bool m.bk, .int .i64 m.cd, .slice pa pn pc, .bool m.ys] = VE at *
            try simp only [Exit.inBlock, Exit.then]
            refine bodyPost_ret (v := .agg #[.int .i64 m.kd, .int .i64 m.c, .int .i64 m.e, .int .i64 m.n, .int .i64 m.sh, .int .i64 z, .int .i64 m.st, .int .i64 m.k, .string m.ky, .string m.vl, .string m.lo, .string m.hi, .int .i64 m.mo, .bool m.bk, .int .i64 m.cd, .slice pa pn pc, .bool m.ys]) ?_ rfl ?_
            · exact results_cell_row rfl _ _ w.heap.size 31 _ (0, 0) _ rfl JE.out Tryd.underlying31 rfl (by kernel_rfl)
            · exact ⟨⟨⟨m.kd, m.c, m.e, m.n, m.sh, z, m.st, m.k, m.ky, m.vl, m.lo, m.hi, m.mo, m.bk, m.cd, m.ps, m.ys⟩, _, _, _, rfl, OE.out, (show List.length (m.ps : List PB) ≤ 6 by have := HL.out; omega)⟩, GE.out.gr, GE.out.cu⟩
        · by_cases e4 : x = 4
          · subst e4
            go_wp2_with fail
            refine (l09AnyAsk_any g _ X0.out.dw.dg.cu).mono ?_
            rintro r w1 ⟨⟨ak, ky, vl, lo, hi, mo, bk, rfl⟩, hg, hc⟩
            have Y1 := hid (X0.out.step hg hc)
            clear X0 hg hc
            have c7 := Y1.out.dw.kb.cell (j := 7) rfl
            have f7 := Y1.out.dw.kb.free 7
            have c8 := Y1.out.dw.kb.cell (j := 8) rfl
            have f8 := Y1.out.dw.kb.free 8
            have c9 := Y1.out.dw.kb.cell (j := 9) rfl
            have f9 := Y1.out.dw.kb.free 9
            have c10 := Y1.out.dw.kb.cell (j := 10) rfl
            have f10 := Y1.out.dw.kb.free 10
            have c11 := Y1.out.dw.kb.cell (j := 11) rfl
            have f11 := Y1.out.dw.kb.free 11
            have c12 := Y1.out.dw.kb.cell (j := 12) rfl
            have f12 := Y1.out.dw.kb.free 12
            have c13 := Y1.out.dw.kb.cell (j := 13) rfl
            have f13 := Y1.out.dw.kb.free 13
            have c0 := Y1.out.dw.kb.cell (j := 0) rfl
            have X1 : Hid (DN w (((((((w1.setCell ⟨b, 7, none⟩ (.int .i64 ak)).setCell ⟨b, 8, none⟩ (.string ky)).setCell ⟨b, 9, none⟩ (.string vl)).setCell ⟨b, 10, none⟩ (.string lo)).setCell ⟨b, 11, none⟩ (.string hi)).setCell ⟨b, 12, none⟩ (.int .i64 mo)).setCell ⟨b, 13, none⟩ (.bool bk)) g b [.int .i64 0, .int .i64 0, .int .i64 0, .int .i64 0, .int .i64 0, .int .i64 0, .int .i64 0, .int .i64 0, .string ⟨#[]⟩, .string ⟨#[]⟩, .string ⟨#[]⟩, .string ⟨#[]⟩, .int .i64 0, .bool false, .int .i64 0, .slice none 0 0, .bool false] [.int .i64 m.kd, .int .i64 m.c, .int .i64 m.e, .int .i64 m.n, .int .i64 m.sh, .int .i64 m.nu, .int .i64 m.st, .int .i64 ak, .string ky, .string vl, .string lo, .string hi, .int .i64 mo, .bool bk, .int .i64 m.cd, .slice pa pn pc, .bool m.ys] (.slice pa pn pc) m.ps) := (((((((Y1.out.setE 7 (.int .i64 ak) (ys := [.int .i64 m.kd, .int .i64 m.c, .int .i64 m.e, .int .i64 m.n, .int .i64 m.sh, .int .i64 m.nu, .int .i64 m.st, .int .i64 ak, .string m.ky, .string m.vl, .string m.lo, .string m.hi, .int .i64 m.mo, .bool m.bk, .int .i64 m.cd, .slice pa pn pc, .bool m.ys]) rfl).setE 8 (.string ky) (ys := [.int .i64 m.kd, .int .i64 m.c, .int .i64 m.e, .int .i64 m.n, .int .i64 m.sh, .int .i64 m.nu, .int .i64 m.st, .int .i64 ak, .string ky, .string m.vl, .string m.lo, .string m.hi, .int .i64 m.mo, .bool m.bk, .int .i64 m.cd, .slice pa pn pc, .bool m.ys]) rfl).setE 9 (.string vl) (ys := [.int .i64 m.kd, .int .i64 m.c, .int .i64 m.e, .int .i64 m.n, .int .i64 m.sh, .int .i64 m.nu, .int .i64 m.st, .int .i64 ak, .string ky, .string vl, .string m.lo, .string m.hi, .int .i64 m.mo, .bool m.bk, .int .i64 m.cd, .slice pa pn pc, .bool m.ys]) rfl).setE 10 (.string lo) (ys := [.int .i64 m.kd, .int .i64 m.c, .int .i64 m.e, .int .i64 m.n, .int .i64 m.sh, .int .i64 m.nu, .int .i64 m.st, .int .i64 ak, .string ky, .string vl, .string lo, .string m.hi, .int .i64 m.mo, .bool m.bk, .int .i64 m.cd, .slice pa pn pc, .bool m.ys]) rfl).setE 11 (.string hi) (ys := [.int .i64 m.kd, .int .i64 m.c, .int .i64 m.e, .int .i64 m.n, .int .i64 m.sh, .int .i64 m.nu, .int .i64 m.st, .int .i64 ak, .string ky, .string vl, .string lo, .string hi, .int .i64 m.mo, .bool m.bk, .int .i64 m.cd, .slice pa pn pc, .bool m.ys]) rfl).setE 12 (.int .i64 mo) (ys := [.int .i64 m.kd, .int .i64 m.c, .int .i64 m.e, .int .i64 m.n, .int .i64 m.sh, .int .i64 m.nu, .int .i64 m.st, .int .i64 ak, .string ky, .string vl, .string lo, .string hi, .int .i64 mo, .bool m.bk, .int .i64 m.cd, .slice pa pn pc, .bool m.ys]) rfl).setE 13 (.bool bk) (ys := [.int .i64 m.kd, .int .i64 m.c, .int .i64 m.e, .int .i64 m.n, .int .i64 m.sh, .int .i64 m.nu, .int .i64 m.st, .int .i64 ak, .string ky, .string vl, .string lo, .string hi, .int .i64 mo, .bool bk, .int .i64 m.cd, .slice pa pn pc, .bool m.ys]) rfl)
            go_upto_region 21 with (fail)
            generalize (((((((w1.setCell ⟨b, 7, none⟩ (.int .i64 ak)).setCell ⟨b, 8, none⟩ (.string ky)).setCell ⟨b, 9, none⟩ (.string vl)).setCell ⟨b, 10, none⟩ (.string lo)).setCell ⟨b, 11, none⟩ (.string hi)).setCell ⟨b, 12, none⟩ (.int .i64 mo)).setCell ⟨b, 13, none⟩ (.bool bk)) = V1 at *
            clear c0 Y1 c7 f7 c8 f8 c9 f9 c10 f10 c11 f11 c12 f12 c13 f13
            have JE := hid (X1.out.dw.k1.setRow [.int .i64 m.kd, .int .i64 m.c, .int .i64 m.e, .int .i64 m.n, .int .i64 m.sh, .int .i64 m.nu, .int .i64 m.st, .int .i64 ak, .string ky, .string vl, .string lo, .string hi, .int .i64 mo, .bool bk, .int .i64 m.cd, .slice pa pn pc, .bool m.ys])
            have GE := hid (X1.out.dw.dg.row w.heap.size (Nat.le_refl _) #[.int .i64 m.kd, .int .i64 m.c, .int .i64 m.e, .int .i64 m.n, .int .i64 m.sh, .int .i64 m.nu, .int .i64 m.st, .int .i64 ak, .string ky, .string vl, .string lo, .string hi, .int .i64 mo, .bool bk, .int .i64 m.cd, .slice pa pn pc, .bool m.ys])
            have OE : Hid (oqW (V1.setRow w.heap.size #[.int .i64 m.kd, .int .i64 m.c, .int .i64 m.e, .int .i64 m.n, .int .i64 m.sh, .int .i64 m.nu, .int .i64 m.st, .int .i64 ak, .string ky, .string vl, .string lo, .string hi, .int .i64 mo, .bool bk, .int .i64 m.cd, .slice pa pn pc, .bool m.ys]) w.heap.size (.slice pa pn pc) m.ps) := (X1.out.ow.to (only_setRow (R := fun y => y = w.heap.size) rfl _) (fun y hy e => by have := X1.out.ow.lt hy; have := X1.out.dw.lt; omega)).base (by have := X1.out.dw.lt; omega)
            have c0 := X1.out.dw.kb.cell (j := 0) rfl
            have c14 := X1.out.dw.kb.cell (j := 14) rfl
            go_wp2_with (first
              | (refine wpList_load_row rfl 31 _ rfl b rfl 31 _ (0, 0) _ X1.out.dw.kb Tryd.underlying31 rfl (by kernel_rfl) ?_; go_frame)
              | (refine wpList_store_row rfl 31 _ _ rfl w.heap.size #[.int .i64 m.kd, .int .i64 m.c, .int .i64 m.e, .int .i64 m.n, .int .i64 m.sh, .int .i64 m.nu, .int .i64 m.st, .int .i64 ak, .string ky, .string vl, .string lo, .string hi, .int .i64 mo, .bool bk, .int .i64 m.cd, .slice pa pn pc, .bool m.ys] rfl rfl 31 _ X1.out.dw.k1 (by kernel_rfl) rfl (by kernel_rfl) ?_))
            generalize V1.setRow w.heap.size #[.int .i64 m.kd, .int .i64 m.c, .int .i64 m.e, .int .i64 m.n, .int .i64 m.sh, .int .i64 m.nu, .int .i64 m.st, .int .i64 ak, .string ky, .string vl, .string lo, .string hi, .int .i64 mo, .bool bk, .int .i64 m.cd, .slice pa pn pc, .bool m.ys] = VE at *
            try simp only [Exit.inBlock, Exit.then]
            refine bodyPost_ret (v := .agg #[.int .i64 m.kd, .int .i64 m.c, .int .i64 m.e, .int .i64 m.n, .int .i64 m.sh, .int .i64 m.nu, .int .i64 m.st, .int .i64 ak, .string ky, .string vl, .string lo, .string hi, .int .i64 mo, .bool bk, .int .i64 m.cd, .slice pa pn pc, .bool m.ys]) ?_ rfl ?_
            · exact results_cell_row rfl _ _ w.heap.size 31 _ (0, 0) _ rfl JE.out Tryd.underlying31 rfl (by kernel_rfl)
            · exact ⟨⟨⟨m.kd, m.c, m.e, m.n, m.sh, m.nu, m.st, ak, ky, vl, lo, hi, mo, bk, m.cd, m.ps, m.ys⟩, _, _, _, rfl, OE.out, (show List.length (m.ps : List PB) ≤ 6 by have := HL.out; omega)⟩, GE.out.gr, GE.out.cu⟩
          · by_cases e5 : x = 5
            · subst e5
              have XT := hid (X0.out.alloc (.cells #[.int .i64 9, .int .i64 10, .int .i64 (-1)] 3))
              have KT := hid (Bk.new V0 3 [.int .i64 9, .int .i64 10, .int .i64 (-1)])
              have hTb : V0.heap.size ≠ g := by have := X0.out.dw.dg.cu.lt; omega
              go_wp2_with fail
              refine (below_any g 3 _ XT.out.dw.dg.cu (by omega) (by omega)).mono ?_
              generalize V0.alloc (.cells #[.int .i64 9, .int .i64 10, .int .i64 (-1)] 3) = VT at *
              generalize V0.heap.size = bT at *
              rintro r w8 ⟨⟨y, rfl, hy0, hy1⟩, hg, hc⟩
              have Y8 := hid (XT.out.step hg hc)
              have K8 := hid (KT.out.grownR hg hTb)
              clear XT KT X0 hg hc
              have hy : y = 0 ∨ y = 1 ∨ y = 2 := by omega
              clear hy0 hy1
              rcases hy with rfl | rfl | rfl
              · skip
                have t0 := K8.out.cell (j := 0) rfl
                have c14 := Y8.out.dw.kb.cell (j := 14) rfl
                have f14 := Y8.out.dw.kb.free 14
                have X9 : Hid (DN w (w8.setCell ⟨b, 14, none⟩ (.int .i64 9)) g b [.int .i64 0, .int .i64 0, .int .i64 0, .int .i64 0, .int .i64 0, .int .i64 0, .int .i64 0, .int .i64 0, .string ⟨#[]⟩, .string ⟨#[]⟩, .string ⟨#[]⟩, .string ⟨#[]⟩, .int .i64 0, .bool false, .int .i64 0, .slice none 0 0, .bool false] [.int .i64 m.kd, .int .i64 m.c, .int .i64 m.e, .int .i64 m.n, .int .i64 m.sh, .int .i64 m.nu, .int .i64 m.st, .int .i64 m.k, .string m.ky, .string m.vl, .string m.lo, .string m.hi, .int .i64 m.mo, .bool m.bk, .int .i64 9, .slice pa pn pc, .bool m.ys] (.slice pa pn pc) m.ps) := Y8.out.setE 14 (.int .i64 9) (ys := [.int .i64 m.kd, .int .i64 m.c, .int .i64 m.e, .int .i64 m.n, .int .i64 m.sh, .int .i64 m.nu, .int .i64 m.st, .int .i64 m.k, .string m.ky, .string m.vl, .string m.lo, .string m.hi, .int .i64 m.mo, .bool m.bk, .int .i64 9, .slice pa pn pc, .bool m.ys]) rfl
                go_upto_region 21 with (fail)
                generalize (w8.setCell ⟨b, 14, none⟩ (.int .i64 9)) = V9 at *
                clear t0 c14 f14 Y8 K8
                have JE := hid (X9.out.dw.k1.setRow [.int .i64 m.kd, .int .i64 m.c, .int .i64 m.e, .int .i64 m.n, .int .i64 m.sh, .int .i64 m.nu, .int .i64 m.st, .int .i64 m.k, .string m.ky, .string m.vl, .string m.lo, .string m.hi, .int .i64 m.mo, .bool m.bk, .int .i64 9, .slice pa pn pc, .bool m.ys])
                have GE := hid (X9.out.dw.dg.row w.heap.size (Nat.le_refl _) #[.int .i64 m.kd, .int .i64 m.c, .int .i64 m.e, .int .i64 m.n, .int .i64 m.sh, .int .i64 m.nu, .int .i64 m.st, .int .i64 m.k, .string m.ky, .string m.vl, .string m.lo, .string m.hi, .int .i64 m.mo, .bool m.bk, .int .i64 9, .slice pa pn pc, .bool m.ys])
                have OE : Hid (oqW (V9.setRow w.heap.size #[.int .i64 m.kd, .int .i64 m.c, .int .i64 m.e, .int .i64 m.n, .int .i64 m.sh, .int .i64 m.nu, .int .i64 m.st, .int .i64 m.k, .string m.ky, .string m.vl, .string m.lo, .string m.hi, .int .i64 m.mo, .bool m.bk, .int .i64 9, .slice pa pn pc, .bool m.ys]) w.heap.size (.slice pa pn pc) m.ps) := (X9.out.ow.to (only_setRow (R := fun y => y = w.heap.size) rfl _) (fun y hy e => by have := X9.out.ow.lt hy; have := X9.out.dw.lt; omega)).base (by have := X9.out.dw.lt; omega)
                have c0 := X9.out.dw.kb.cell (j := 0) rfl
                have c14 := X9.out.dw.kb.cell (j := 14) rfl
                go_wp2_with (first
                  | (refine wpList_load_row rfl 31 _ rfl b rfl 31 _ (0, 0) _ X9.out.dw.kb Tryd.underlying31 rfl (by kernel_rfl) ?_; go_frame)
                  | (refine wpList_store_row rfl 31 _ _ rfl w.heap.size #[.int .i64 m.kd, .int .i64 m.c, .int .i64 m.e, .int .i64 m.n, .int .i64 m.sh, .int .i64 m.nu, .int .i64 m.st, .int .i64 m.k, .string m.ky, .string m.vl, .string m.lo, .string m.hi, .int .i64 m.mo, .bool m.bk, .int .i64 9, .slice pa pn pc, .bool m.ys] rfl rfl 31 _ X9.out.dw.k1 (by kernel_rfl) rfl (by kernel_rfl) ?_))
                generalize V9.setRow w.heap.size #[.int .i64 m.kd, .int .i64 m.c, .int .i64 m.e, .int .i64 m.n, .int .i64 m.sh, .int .i64 m.nu, .int .i64 m.st, .int .i64 m.k, .string m.ky, .string m.vl, .string m.lo, .string m.hi, .int .i64 m.mo, .bool m.bk, .int .i64 9, .slice pa pn pc, .bool m.ys] = VE at *
                try simp only [Exit.inBlock, Exit.then]
                refine bodyPost_ret (v := .agg #[.int .i64 m.kd, .int .i64 m.c, .int .i64 m.e, .int .i64 m.n, .int .i64 m.sh, .int .i64 m.nu, .int .i64 m.st, .int .i64 m.k, .string m.ky, .string m.vl, .string m.lo, .string m.hi, .int .i64 m.mo, .bool m.bk, .int .i64 9, .slice pa pn pc, .bool m.ys]) ?_ rfl ?_
                · exact results_cell_row rfl _ _ w.heap.size 31 _ (0, 0) _ rfl JE.out Tryd.underlying31 rfl (by kernel_rfl)
                · exact ⟨⟨⟨m.kd, m.c, m.e, m.n, m.sh, m.nu, m.st, m.k, m.ky, m.vl, m.lo, m.hi, m.mo, m.bk, 9, m.ps, m.ys⟩, _, _, _, rfl, OE.out, (show List.length (m.ps : List PB) ≤ 6 by have := HL.out; omega)⟩, GE.out.gr, GE.out.cu⟩
              · skip
                have t0 := K8.out.cell (j := 1) rfl
                have c14 := Y8.out.dw.kb.cell (j := 14) rfl
                have f14 := Y8.out.dw.kb.free 14
                have X9 : Hid (DN w (w8.setCell ⟨b, 14, none⟩ (.int .i64 10)) g b [.int .i64 0, .int .i64 0, .int .i64 0, .int .i64 0, .int .i64 0, .int .i64 0, .int .i64 0, .int .i64 0, .string ⟨#[]⟩, .string ⟨#[]⟩, .string ⟨#[]⟩, .string ⟨#[]⟩, .int .i64 0, .bool false, .int .i64 0, .slice none 0 0, .bool false] [.int .i64 m.kd, .int .i64 m.c, .int .i64 m.e, .int .i64 m.n, .int .i64 m.sh, .int .i64 m.nu, .int .i64 m.st, .int .i64 m.k, .string m.ky, .string m.vl, .string m.lo, .string m.hi, .int .i64 m.mo, .bool m.bk, .int .i64 10, .slice pa pn pc, .bool m.ys] (.slice pa pn pc) m.ps) := Y8.out.setE 14 (.int .i64 10) (ys := [.int .i64 m.kd, .int .i64 m.c, .int .i64 m.e, .int .i64 m.n, .int .i64 m.sh, .int .i64 m.nu, .int .i64 m.st, .int .i64 m.k, .string m.ky, .string m.vl, .string m.lo, .string m.hi, .int .i64 m.mo, .bool m.bk, .int .i64 10, .slice pa pn pc, .bool m.ys]) rfl
                go_upto_region 21 with (fail)
                generalize (w8.setCell ⟨b, 14, none⟩ (.int .i64 10)) = V9 at *
                clear t0 c14 f14 Y8 K8
                have JE := hid (X9.out.dw.k1.setRow [.int .i64 m.kd, .int .i64 m.c, .int .i64 m.e, .int .i64 m.n, .int .i64 m.sh, .int .i64 m.nu, .int .i64 m.st, .int .i64 m.k, .string m.ky, .string m.vl, .string m.lo, .string m.hi, .int .i64 m.mo, .bool m.bk, .int .i64 10, .slice pa pn pc, .bool m.ys])
                have GE := hid (X9.out.dw.dg.row w.heap.size (Nat.le_refl _) #[.int .i64 m.kd, .int .i64 m.c, .int .i64 m.e, .int .i64 m.n, .int .i64 m.sh, .int .i64 m.nu, .int .i64 m.st, .int .i64 m.k, .string m.ky, .string m.vl, .string m.lo, .string m.hi, .int .i64 m.mo, .bool m.bk, .int .i64 10, .slice pa pn pc, .bool m.ys])
                have OE : Hid (oqW (V9.setRow w.heap.size #[.int .i64 m.kd, .int .i64 m.c, .int .i64 m.e, .int .i64 m.n, .int .i64 m.sh, .int .i64 m.nu, .int .i64 m.st, .int .i64 m.k, .string m.ky, .string m.vl, .string m.lo, .string m.hi, .int .i64 m.mo, .bool m.bk, .int .i64 10, .slice pa pn pc, .bool m.ys]) w.heap.size (.slice pa pn pc) m.ps) := (X9.out.ow.to (only_setRow (R := fun y => y = w.heap.size) rfl _) (fun y hy e => by have := X9.out.ow.lt hy; have := X9.out.dw.lt; omega)).base (by have := X9.out.dw.lt; omega)
                have c0 := X9.out.dw.kb.cell (j := 0) rfl
                have c14 := X9.out.dw.kb.cell (j := 14) rfl
                go_wp2_with (first
                  | (refine wpList_load_row rfl 31 _ rfl b rfl 31 _ (0, 0) _ X9.out.dw.kb Tryd.underlying31 rfl (by kernel_rfl) ?_; go_frame)
                  | (refine wpList_store_row rfl 31 _ _ rfl w.heap.size #[.int .i64 m.kd, .int .i64 m.c, .int .i64 m.e, .int .i64 m.n, .int .i64 m.sh, .int .i64 m.nu, .int .i64 m.st, .int .i64 m.k, .string m.ky, .string m.vl, .string m.lo, .string m.hi, .int .i64 m.mo, .bool m.bk, .int .i64 10, .slice pa pn pc, .bool m.ys] rfl rfl 31 _ X9.out.dw.k1 (by kernel_rfl) rfl (by kernel_rfl) ?_))
                generalize V9.setRow w.heap.size #[.int .i64 m.kd, .int .i64 m.c, .int .i64 m.e, .int .i64 m.n, .int .i64 m.sh, .int .i64 m.nu, .int .i64 m.st, .int .i64 m.k, .string m.ky, .string m.vl, .string m.lo, .string m.hi, .int .i64 m.mo, .bool m.bk, .int .i64 10, .slice pa pn pc, .bool m.ys] = VE at *
                try simp only [Exit.inBlock, Exit.then]
                refine bodyPost_ret (v := .agg #[.int .i64 m.kd, .int .i64 m.c, .int .i64 m.e, .int .i64 m.n, .int .i64 m.sh, .int .i64 m.nu, .int .i64 m.st, .int .i64 m.k, .string m.ky, .string m.vl, .string m.lo, .string m.hi, .int .i64 m.mo, .bool m.bk, .int .i64 10, .slice pa pn pc, .bool m.ys]) ?_ rfl ?_
                · exact results_cell_row rfl _ _ w.heap.size 31 _ (0, 0) _ rfl JE.out Tryd.underlying31 rfl (by kernel_rfl)
                · exact ⟨⟨⟨m.kd, m.c, m.e, m.n, m.sh, m.nu, m.st, m.k, m.ky, m.vl, m.lo, m.hi, m.mo, m.bk, 10, m.ps, m.ys⟩, _, _, _, rfl, OE.out, (show List.length (m.ps : List PB) ≤ 6 by have := HL.out; omega)⟩, GE.out.gr, GE.out.cu⟩
              · skip
                have t0 := K8.out.cell (j := 2) rfl
                have c14 := Y8.out.dw.kb.cell (j := 14) rfl
                have f14 := Y8.out.dw.kb.free 14
                have X9 : Hid (DN w (w8.setCell ⟨b, 14, none⟩ (.int .i64 (-1))) g b [.int .i64 0, .int .i64 0, .int .i64 0, .int .i64 0, .int .i64 0, .int .i64 0, .int .i64 0, .int .i64 0, .string ⟨#[]⟩, .string ⟨#[]⟩, .string ⟨#[]⟩, .string ⟨#[]⟩, .int .i64 0, .bool false, .int .i64 0, .slice none 0 0, .bool false] [.int .i64 m.kd, .int .i64 m.c, .int .i64 m.e, .int .i64 m.n, .int .i64 m.sh, .int .i64 m.nu, .int .i64 m.st, .int .i64 m.k, .string m.ky, .string m.vl, .string m.lo, .string m.hi, .int .i64 m.mo, .bool m.bk, .int .i64 (-1), .slice pa pn pc, .bool m.ys] (.slice pa pn pc) m.ps) := Y8.out.setE 14 (.int .i64 (-1)) (ys := [.int .i64 m.kd, .int .i64 m.c, .int .i64 m.e, .int .i64 m.n, .int .i64 m.sh, .int .i64 m.nu, .int .i64 m.st, .int .i64 m.k, .string m.ky, .string m.vl, .string m.lo, .string m.hi, .int .i64 m.mo, .bool m.bk, .int .i64 (-1), .slice pa pn pc, .bool m.ys]) rfl
                go_upto_region 21 with (fail)
                generalize (w8.setCell ⟨b, 14, none⟩ (.int .i64 (-1))) = V9 at *
                clear t0 c14 f14 Y8 K8
                have JE := hid (X9.out.dw.k1.setRow [.int .i64 m.kd, .int .i64 m.c, .int .i64 m.e, .int .i64 m.n, .int .i64 m.sh, .int .i64 m.nu, .int .i64 m.st, .int .i64 m.k, .string m.ky, .string m.vl, .string m.lo, .string m.hi, .int .i64 m.mo, .bool m.bk, .int .i64 (-1), .slice pa pn pc, .bool m.ys])
                have GE := hid (X9.out.dw.dg.row w.heap.size (Nat.le_refl _) #[.int .i64 m.kd, .int .i64 m.c, .int .i64 m.e, .int .i64 m.n, .int .i64 m.sh, .int .i64 m.nu, .int .i64 m.st, .int .i64 m.k, .string m.ky, .string m.vl, .string m.lo, .string m.hi, .int .i64 m.mo, .bool m.bk, .int .i64 (-1), .slice pa pn pc, .bool m.ys])
                have OE : Hid (oqW (V9.setRow w.heap.size #[.int .i64 m.kd, .int .i64 m.c, .int .i64 m.e, .int .i64 m.n, .int .i64 m.sh, .int .i64 m.nu, .int .i64 m.st, .int .i64 m.k, .string m.ky, .string m.vl, .string m.lo, .string m.hi, .int .i64 m.mo, .bool m.bk, .int .i64 (-1), .slice pa pn pc, .bool m.ys]) w.heap.size (.slice pa pn pc) m.ps) := (X9.out.ow.to (only_setRow (R := fun y => y = w.heap.size) rfl _) (fun y hy e => by have := X9.out.ow.lt hy; have := X9.out.dw.lt; omega)).base (by have := X9.out.dw.lt; omega)
                have c0 := X9.out.dw.kb.cell (j := 0) rfl
                have c14 := X9.out.dw.kb.cell (j := 14) rfl
                go_wp2_with (first
                  | (refine wpList_load_row rfl 31 _ rfl b rfl 31 _ (0, 0) _ X9.out.dw.kb Tryd.underlying31 rfl (by kernel_rfl) ?_; go_frame)
                  | (refine wpList_store_row rfl 31 _ _ rfl w.heap.size #[.int .i64 m.kd, .int .i64 m.c, .int .i64 m.e, .int .i64 m.n, .int .i64 m.sh, .int .i64 m.nu, .int .i64 m.st, .int .i64 m.k, .string m.ky, .string m.vl, .string m.lo, .string m.hi, .int .i64 m.mo, .bool m.bk, .int .i64 (-1), .slice pa pn pc, .bool m.ys] rfl rfl 31 _ X9.out.dw.k1 (by kernel_rfl) rfl (by kernel_rfl) ?_))
                generalize V9.setRow w.heap.size #[.int .i64 m.kd, .int .i64 m.c, .int .i64 m.e, .int .i64 m.n, .int .i64 m.sh, .int .i64 m.nu, .int .i64 m.st, .int .i64 m.k, .string m.ky, .string m.vl, .string m.lo, .string m.hi, .int .i64 m.mo, .bool m.bk, .int .i64 (-1), .slice pa pn pc, .bool m.ys] = VE at *
                try simp only [Exit.inBlock, Exit.then]
                refine bodyPost_ret (v := .agg #[.int .i64 m.kd, .int .i64 m.c, .int .i64 m.e, .int .i64 m.n, .int .i64 m.sh, .int .i64 m.nu, .int .i64 m.st, .int .i64 m.k, .string m.ky, .string m.vl, .string m.lo, .string m.hi, .int .i64 m.mo, .bool m.bk, .int .i64 (-1), .slice pa pn pc, .bool m.ys]) ?_ rfl ?_
                · exact results_cell_row rfl _ _ w.heap.size 31 _ (0, 0) _ rfl JE.out Tryd.underlying31 rfl (by kernel_rfl)
                · exact ⟨⟨⟨m.kd, m.c, m.e, m.n, m.sh, m.nu, m.st, m.k, m.ky, m.vl, m.lo, m.hi, m.mo, m.bk, (-1), m.ps, m.ys⟩, _, _, _, rfl, OE.out, (show List.length (m.ps : List PB) ≤ 6 by have := HL.out; omega)⟩, GE.out.gr, GE.out.cu⟩
            · by_cases e6 : x = 6
              · subst e6
                have XD0 : Hid (DN w V0.drew g b [.int .i64 0, .int .i64 0, .int .i64 0, .int .i64 0, .int .i64 0, .int .i64 0, .int .i64 0, .int .i64 0, .string ⟨#[]⟩, .string ⟨#[]⟩, .string ⟨#[]⟩, .string ⟨#[]⟩, .int .i64 0, .bool false, .int .i64 0, .slice none 0 0, .bool false] [.int .i64 m.kd, .int .i64 m.c, .int .i64 m.e, .int .i64 m.n, .int .i64 m.sh, .int .i64 m.nu, .int .i64 m.st, .int .i64 m.k, .string m.ky, .string m.vl, .string m.lo, .string m.hi, .int .i64 m.mo, .bool m.bk, .int .i64 m.cd, .slice pa pn pc, .bool m.ys] (.slice pa pn pc) m.ps) := X0.out.drew
                clear X0
                go_upto_region 16 with (fail)
                refine wp_region_noPanic ?_
                refine wp_region_held_drew (S := fun _ => True) (by kernel_rfl) (trivial) (fun hHeld => ?_)
                simp only [List.size_toArray, List.length_cons, List.length_nil, Array.replicate_succ, Array.replicate_zero, Nat.reduceAdd, List.push_toArray, List.nil_append, List.cons_append]
                refine wpAnyH_take (i := 0) (v := .pointer (some ⟨b, 15, none⟩)) rfl (by kernel_rfl) (by kernel_rfl) (by kernel_rfl) (fun _ _ _ h => h) (Or.inl ⟨by rfl, ?_⟩) (by assumption) ?_
                · intro w hSw
                  go_simp
                try simp only [List.getElem_toArray]
                try simp only [List.getElem_cons_succ]
                try simp only [List.getElem_cons_zero]
                try simp only [Act.put]
                try simp only [List.setIfInBounds_toArray]
                try simp only [List.set_cons_succ]
                try simp only [List.set_cons_zero]
                refine wpAnyH_take (i := 2) (v := .pointer (some ⟨g, 0, none⟩)) rfl (by kernel_rfl) (by kernel_rfl) (by kernel_rfl) (fun _ _ _ h => h) (Or.inl ⟨by rfl, ?_⟩) (by assumption) ?_
                · intro w hSw
                  go_simp
                try simp only [List.getElem_toArray]
                try simp only [List.getElem_cons_succ]
                try simp only [List.getElem_cons_zero]
                try simp only [Act.put]
                try simp only [List.setIfInBounds_toArray]
                try simp only [List.set_cons_succ]
                try simp only [List.set_cons_zero]
                refine wpAnyH_ready (rs := [1, 3]) (by kernel_rfl) (by simp) ?_
                refine AllReadyH.cons rfl (fun K1 hK => ?_) (AllReadyH.cons rfl (fun K1 hK => ?_) AllReadyH.nil)
                · skip
                  have c15 := XD0.out.dw.kb.cell (j := 15) rfl
                  go_simp
                  refine hK.out _ _ ?_ (fun hHeld => ?_)
                  · trivial
                  clear hK K1
                  try simp only [List.getElem_toArray]
                  try simp only [List.getElem_cons_succ]
                  try simp only [List.getElem_cons_zero]
                  try simp only [Act.put]
                  try simp only [List.setIfInBounds_toArray]
                  try simp only [List.set_cons_succ]
                  try simp only [List.set_cons_zero]
                  clear c15
                  refine wpAnyH_ready (rs := [3]) (by kernel_rfl) (by simp) ?_
                  refine AllReadyH.cons rfl (fun K1 hK => ?_) AllReadyH.nil
                  go_simp
                  refine (anyKey_any g _ XD0.out.dw.dg.cu).mono ?_
                  rintro r u1 ⟨⟨ks, rfl, hks⟩, hg, hc⟩
                  have XD1 := hid (XD0.out.step hg hc)
                  clear XD0 hg hc hks
                  go_wp2_with fail
                  refine hK.out _ _ ?_ (fun hHeld => ?_)
                  · trivial
                  clear hK K1
                  try simp only [List.getElem_toArray]
                  try simp only [List.getElem_cons_succ]
                  try simp only [List.getElem_cons_zero]
                  try simp only [Act.put]
                  try simp only [List.setIfInBounds_toArray]
                  try simp only [List.set_cons_succ]
                  try simp only [List.set_cons_zero]
                  refine wpAnyH_take (i := 4) (v := .agg #[.string ks, .string ⟨#[]⟩]) rfl (by kernel_rfl) (by kernel_rfl) (by kernel_rfl) (fun _ _ _ h => h) (Or.inl ⟨by rfl, ?_⟩) (by assumption) ?_
                  · intro w hSw
                    go_simp
                  try simp only [List.getElem_toArray]
                  try simp only [List.getElem_cons_succ]
                  try simp only [List.getElem_cons_zero]
                  try simp only [Act.put]
                  try simp only [List.setIfInBounds_toArray]
                  try simp only [List.set_cons_succ]
                  try simp only [List.set_cons_zero]
                  refine wpAnyH_ready (rs := [5]) (by kernel_rfl) (by simp) ?_
                  refine AllReadyH.cons rfl (fun K1 hK => ?_) AllReadyH.nil
                  have XD2 := hid (XD1.out.alloc (.cells #[.string ks, .string ⟨#[]⟩] 54))
                  have KB := hid (Bk.new u1 54 (pcs [(ks, ⟨#[]⟩)]))
                  have hgb : w.heap.size + 1 ≤ (u1.alloc (.cells #[.string ks, .string ⟨#[]⟩] 54)).heap.size := by have := XD2.out.dw.kb.lt; have := XD2.out.dw.lt; omega
                  go_simp
                  refine hK.out _ _ ?_ (fun hHeld => ?_)
                  · trivial
                  clear hK K1
                  try simp only [List.getElem_toArray]
                  try simp only [List.getElem_cons_succ]
                  try simp only [List.getElem_cons_zero]
                  try simp only [Act.put]
                  try simp only [List.setIfInBounds_toArray]
                  try simp only [List.set_cons_succ]
                  try simp only [List.set_cons_zero]
                  obtain ⟨za, zn, zc, w5, hr5, hO5, hg5, ha5⟩ := run_append_pq 29 (w.heap.size + 1) _ m.ps XD2.out.ow _ (ks, ⟨#[]⟩) KB.out (by have := HL.out; omega) hgb
                  refine wpAnyH_ready (rs := [6]) (by kernel_rfl) (by simp) ?_
                  refine AllReadyH.cons rfl (fun K1 hK => ?_) AllReadyH.nil
                  refine step_append_pr _ _ rfl _ _ _ rfl rfl hr5 ?_
                  refine hK.out _ _ ?_ (fun hHeld => ?_)
                  · trivial
                  clear hK K1
                  try simp only [List.getElem_toArray]
                  try simp only [List.getElem_cons_succ]
                  try simp only [List.getElem_cons_zero]
                  try simp only [Act.put]
                  try simp only [List.setIfInBounds_toArray]
                  try simp only [List.set_cons_succ]
                  try simp only [List.set_cons_zero]
                  have X5 : Hid (DN w w5 g b [.int .i64 0, .int .i64 0, .int .i64 0, .int .i64 0, .int .i64 0, .int .i64 0, .int .i64 0, .int .i64 0, .string ⟨#[]⟩, .string ⟨#[]⟩, .string ⟨#[]⟩, .string ⟨#[]⟩, .int .i64 0, .bool false, .int .i64 0, .slice none 0 0, .bool false] [.int .i64 m.kd, .int .i64 m.c, .int .i64 m.e, .int .i64 m.n, .int .i64 m.sh, .int .i64 m.nu, .int .i64 m.st, .int .i64 m.k, .string m.ky, .string m.vl, .string m.lo, .string m.hi, .int .i64 m.mo, .bool m.bk, .int .i64 m.cd, .slice pa pn pc, .bool m.ys] (.slice za zn zc) (m.ps ++ [(ks, ⟨#[]⟩)])) := XD2.out.grow hO5 hg5 ha5
                  have c15 := X5.out.dw.kb.cell (j := 15) rfl
                  have f15 := X5.out.dw.kb.free 15
                  have X6 : Hid (DN w (w5.setCell ⟨b, 15, none⟩ (.slice za zn zc)) g b [.int .i64 0, .int .i64 0, .int .i64 0, .int .i64 0, .int .i64 0, .int .i64 0, .int .i64 0, .int .i64 0, .string ⟨#[]⟩, .string ⟨#[]⟩, .string ⟨#[]⟩, .string ⟨#[]⟩, .int .i64 0, .bool false, .int .i64 0, .slice none 0 0, .bool false] [.int .i64 m.kd, .int .i64 m.c, .int .i64 m.e, .int .i64 m.n, .int .i64 m.sh, .int .i64 m.nu, .int .i64 m.st, .int .i64 m.k, .string m.ky, .string m.vl, .string m.lo, .string m.hi, .int .i64 m.mo, .bool m.bk, .int .i64 m.cd, .slice za zn zc, .bool m.ys] (.slice za zn zc) (m.ps ++ [(ks, ⟨#[]⟩)])) := X5.out.setE 15 _ (ys := [.int .i64 m.kd, .int .i64 m.c, .int .i64 m.e, .int .i64 m.n, .int .i64 m.sh, .int .i64 m.nu, .int .i64 m.st, .int .i64 m.k, .string m.ky, .string m.vl, .string m.lo, .string m.hi, .int .i64 m.mo, .bool m.bk, .int .i64 m.cd, .slice za zn zc, .bool m.ys]) rfl
                  clear XD2 KB hgb hr5 hO5 hg5 ha5 X5
                  refine wpAnyH_take (i := 7) (v := .pointer (some ⟨b, 15, none⟩)) rfl (by kernel_rfl) (by kernel_rfl) (by kernel_rfl) (fun _ _ _ h => h) (Or.inl ⟨by rfl, ?_⟩) (by assumption) ?_
                  · intro w hSw
                    go_simp
                  try simp only [List.getElem_toArray]
                  try simp only [List.getElem_cons_succ]
                  try simp only [List.getElem_cons_zero]
                  try simp only [Act.put]
                  try simp only [List.setIfInBounds_toArray]
                  try simp only [List.set_cons_succ]
                  try simp only [List.set_cons_zero]
                  refine wpAnyH_ready (rs := [8]) (by kernel_rfl) (by simp) ?_
                  refine AllReadyH.cons rfl (fun K1 hK => ?_) AllReadyH.nil
                  go_simp
                  refine hK.out _ _ ?_ (fun hHeld => ?_)
                  · trivial
                  clear hK K1
                  try simp only [List.getElem_toArray]
                  try simp only [List.getElem_cons_succ]
                  try simp only [List.getElem_cons_zero]
                  try simp only [Act.put]
                  try simp only [List.setIfInBounds_toArray]
                  try simp only [List.set_cons_succ]
                  try simp only [List.set_cons_zero]
                  refine wpAnyH_done (by kernel_rfl) ?_ _
                  refine NoPanic.normal ?_
                  clear c15 f15
                  go_upto_region 21 with (fail)
                  generalize w5.setCell ⟨b, 15, none⟩ (.slice za zn zc) = V6 at *
                  have JE := hid (X6.out.dw.k1.setRow [.int .i64 m.kd, .int .i64 m.c, .int .i64 m.e, .int .i64 m.n, .int .i64 m.sh, .int .i64 m.nu, .int .i64 m.st, .int .i64 m.k, .string m.ky, .string m.vl, .string m.lo, .string m.hi, .int .i64 m.mo, .bool m.bk, .int .i64 m.cd, .slice za zn zc, .bool m.ys])
                  have GE := hid (X6.out.dw.dg.row w.heap.size (Nat.le_refl _) #[.int .i64 m.kd, .int .i64 m.c, .int .i64 m.e, .int .i64 m.n, .int .i64 m.sh, .int .i64 m.nu, .int .i64 m.st, .int .i64 m.k, .string m.ky, .string m.vl, .string m.lo, .string m.hi, .int .i64 m.mo, .bool m.bk, .int .i64 m.cd, .slice za zn zc, .bool m.ys])
                  have OE : Hid (oqW (V6.setRow w.heap.size #[.int .i64 m.kd, .int .i64 m.c, .int .i64 m.e, .int .i64 m.n, .int .i64 m.sh, .int .i64 m.nu, .int .i64 m.st, .int .i64 m.k, .string m.ky, .string m.vl, .string m.lo, .string m.hi, .int .i64 m.mo, .bool m.bk, .int .i64 m.cd, .slice za zn zc, .bool m.ys]) w.heap.size (.slice za zn zc) (m.ps ++ [(ks, ⟨#[]⟩)])) := (X6.out.ow.to (only_setRow (R := fun y => y = w.heap.size) rfl _) (fun y hy e => by have := X6.out.ow.lt hy; have := X6.out.dw.lt; omega)).base (by have := X6.out.dw.lt; omega)
                  have c0 := X6.out.dw.kb.cell (j := 0) rfl
                  have c14 := X6.out.dw.kb.cell (j := 14) rfl
                  go_wp2_with (first
                    | (refine wpList_load_row rfl 31 _ rfl b rfl 31 _ (0, 0) _ X6.out.dw.kb Tryd.underlying31 rfl (by kernel_rfl) ?_; go_frame)
                    | (refine wpList_store_row rfl 31 _ _ rfl w.heap.size #[.int .i64 m.kd, .int .i64 m.c, .int .i64 m.e, .int .i64 m.n, .int .i64 m.sh, .int .i64 m.nu, .int .i64 m.st, .int .i64 m.k, .string m.ky, .string m.vl, .string m.lo, .string m.hi, .int .i64 m.mo, .bool m.bk, .int .i64 m.cd, .slice za zn zc, .bool m.ys] rfl rfl 31 _ X6.out.dw.k1 (by kernel_rfl) rfl (by kernel_rfl) ?_))
                  generalize V6.setRow w.heap.size #[.int .i64 m.kd, .int .i64 m.c, .int .i64 m.e, .int .i64 m.n, .int .i64 m.sh, .int .i64 m.nu, .int .i64 m.st, .int .i64 m.k, .string m.ky, .string m.vl, .string m.lo, .string m.hi, .int .i64 m.mo, .bool m.bk, .int .i64 m.cd, .slice za zn zc, .bool m.ys] = VE at *
                  try simp only [Exit.inBlock, Exit.then]
                  refine bodyPost_ret (v := .agg #[.int .i64 m.kd, .int .i64 m.c, .int .i64 m.e, .int .i64 m.n, .int .i64 m.sh, .int .i64 m.nu, .int .i64 m.st, .int .i64 m.k, .string m.ky, .string m.vl, .string m.lo, .string m.hi, .int .i64 m.mo, .bool m.bk, .int .i64 m.cd, .slice za zn zc, .bool m.ys]) ?_ rfl ?_
                  · exact results_cell_row rfl _ _ w.heap.size 31 _ (0, 0) _ rfl JE.out Tryd.underlying31 rfl (by kernel_rfl)
                  · exact ⟨⟨⟨m.kd, m.c, m.e, m.n, m.sh, m.nu, m.st, m.k, m.ky, m.vl, m.lo, m.hi, m.mo, m.bk, m.cd, (m.ps ++ [(ks, ⟨#[]⟩)]), m.ys⟩, _, _, _, rfl, OE.out, (show List.length ((m.ps ++ [(ks, ⟨#[]⟩)]) : List PB) ≤ 6 by have := HL.out; rw [List.length_append]; simp; omega)⟩, GE.out.gr, GE.out.cu⟩
                · skip
                  go_simp
                  refine (anyKey_any g _ XD0.out.dw.dg.cu).mono ?_
                  rintro r u1 ⟨⟨ks, rfl, hks⟩, hg, hc⟩
                  have XD1 := hid (XD0.out.step hg hc)
                  clear XD0 hg hc hks
                  go_wp2_with fail
                  refine hK.out _ _ ?_ (fun hHeld => ?_)
                  · trivial
                  clear hK K1
                  try simp only [List.getElem_toArray]
                  try simp only [List.getElem_cons_succ]
                  try simp only [List.getElem_cons_zero]
                  try simp only [Act.put]
                  try simp only [List.setIfInBounds_toArray]
                  try simp only [List.set_cons_succ]
                  try simp only [List.set_cons_zero]
                  refine wpAnyH_take (i := 4) (v := .agg #[.string ks, .string ⟨#[]⟩]) rfl (by kernel_rfl) (by kernel_rfl) (by kernel_rfl) (fun _ _ _ h => h) (Or.inl ⟨by rfl, ?_⟩) (by assumption) ?_
                  · intro w hSw
                    go_simp
                  try simp only [List.getElem_toArray]
                  try simp only [List.getElem_cons_succ]
                  try simp only [List.getElem_cons_zero]
                  try simp only [Act.put]
                  try simp only [List.setIfInBounds_toArray]
                  try simp only [List.set_cons_succ]
                  try simp only [List.set_cons_zero]
                  refine wpAnyH_ready (rs := [1, 5]) (by kernel_rfl) (by simp) ?_
                  refine AllReadyH.cons rfl (fun K1 hK => ?_) (AllReadyH.cons rfl (fun K1 hK => ?_) AllReadyH.nil)
                  · skip
                    have c15 := XD1.out.dw.kb.cell (j := 15) rfl
                    go_simp
                    refine hK.out _ _ ?_ (fun hHeld => ?_)
                    · trivial
                    clear hK K1
                    try simp only [List.getElem_toArray]
                    try simp only [List.getElem_cons_succ]
                    try simp only [List.getElem_cons_zero]
                    try simp only [Act.put]
                    try simp only [List.setIfInBounds_toArray]
                    try simp only [List.set_cons_succ]
                    try simp only [List.set_cons_zero]
                    clear c15
                    refine wpAnyH_ready (rs := [5]) (by kernel_rfl) (by simp) ?_
                    refine AllReadyH.cons rfl (fun K1 hK => ?_) AllReadyH.nil
                    have XD2 := hid (XD1.out.alloc (.cells #[.string ks, .string ⟨#[]⟩] 54))
                    have KB := hid (Bk.new u1 54 (pcs [(ks, ⟨#[]⟩)]))
                    have hgb : w.heap.size + 1 ≤ (u1.alloc (.cells #[.string ks, .string ⟨#[]⟩] 54)).heap.size := by have := XD2.out.dw.kb.lt; have := XD2.out.dw.lt; omega
                    go_simp
                    refine hK.out _ _ ?_ (fun hHeld => ?_)
                    · trivial
                    clear hK K1
                    try simp only [List.getElem_toArray]
                    try simp only [List.getElem_cons_succ]
                    try simp only [List.getElem_cons_zero]
                    try simp only [Act.put]
                    try simp only [List.setIfInBounds_toArray]
                    try simp only [List.set_cons_succ]
                    try simp only [List.set_cons_zero]
                    obtain ⟨za, zn, zc, w5, hr5, hO5, hg5, ha5⟩ := run_append_pq 29 (w.heap.size + 1) _ m.ps XD2.out.ow _ (ks, ⟨#[]⟩) KB.out (by have := HL.out; omega) hgb
                    refine wpAnyH_ready (rs := [6]) (by kernel_rfl) (by simp) ?_
                    refine AllReadyH.cons rfl (fun K1 hK => ?_) AllReadyH.nil
                    refine step_append_pr _ _ rfl _ _ _ rfl rfl hr5 ?_
                    refine hK.out _ _ ?_ (fun hHeld => ?_)
                    · trivial
                    clear hK K1
                    try simp only [List.getElem_toArray]
                    try simp only [List.getElem_cons_succ]
                    try simp only [List.getElem_cons_zero]
                    try simp only [Act.put]
                    try simp only [List.setIfInBounds_toArray]
                    try simp only [List.set_cons_succ]
                    try simp only [List.set_cons_zero]
                    have X5 : Hid (DN w w5 g b [.int .i64 0, .int .i64 0, .int .i64 0, .int .i64 0, .int .i64 0, .int .i64 0, .int .i64 0, .int .i64 0, .string ⟨#[]⟩, .string ⟨#[]⟩, .string ⟨#[]⟩, .string ⟨#[]⟩, .int .i64 0, .bool false, .int .i64 0, .slice none 0 0, .bool false] [.int .i64 m.kd, .int .i64 m.c, .int .i64 m.e, .int .i64 m.n, .int .i64 m.sh, .int .i64 m.nu, .int .i64 m.st, .int .i64 m.k, .string m.ky, .string m.vl, .string m.lo, .string m.hi, .int .i64 m.mo, .bool m.bk, .int .i64 m.cd, .slice pa pn pc, .bool m.ys] (.slice za zn zc) (m.ps ++ [(ks, ⟨#[]⟩)])) := XD2.out.grow hO5 hg5 ha5
                    have c15 := X5.out.dw.kb.cell (j := 15) rfl
                    have f15 := X5.out.dw.kb.free 15
                    have X6 : Hid (DN w (w5.setCell ⟨b, 15, none⟩ (.slice za zn zc)) g b [.int .i64 0, .int .i64 0, .int .i64 0, .int .i64 0, .int .i64 0, .int .i64 0, .int .i64 0, .int .i64 0, .string ⟨#[]⟩, .string ⟨#[]⟩, .string ⟨#[]⟩, .string ⟨#[]⟩, .int .i64 0, .bool false, .int .i64 0, .slice none 0 0, .bool false] [.int .i64 m.kd, .int .i64 m.c, .int .i64 m.e, .int .i64 m.n, .int .i64 m.sh, .int .i64 m.nu, .int .i64 m.st, .int .i64 m.k, .string m.ky, .string m.vl, .string m.lo, .string m.hi, .int .i64 m.mo, .bool m.bk, .int .i64 m.cd, .slice za zn zc, .bool m.ys] (.slice za zn zc) (m.ps ++ [(ks, ⟨#[]⟩)])) := X5.out.setE 15 _ (ys := [.int .i64 m.kd, .int .i64 m.c, .int .i64 m.e, .int .i64 m.n, .int .i64 m.sh, .int .i64 m.nu, .int .i64 m.st, .int .i64 m.k, .string m.ky, .string m.vl, .string m.lo, .string m.hi, .int .i64 m.mo, .bool m.bk, .int .i64 m.cd, .slice za zn zc, .bool m.ys]) rfl
                    clear XD2 KB hgb hr5 hO5 hg5 ha5 X5
                    refine wpAnyH_take (i := 7) (v := .pointer (some ⟨b, 15, none⟩)) rfl (by kernel_rfl) (by kernel_rfl) (by kernel_rfl) (fun _ _ _ h => h) (Or.inl ⟨by rfl, ?_⟩) (by assumption) ?_
                    · intro w hSw
                      go_simp
                    try simp only [List.getElem_toArray]
                    try simp only [List.getElem_cons_succ]
                    try simp only [List.getElem_cons_zero]
                    try simp only [Act.put]
                    try simp only [List.setIfInBounds_toArray]
                    try simp only [List.set_cons_succ]
                    try simp only [List.set_cons_zero]
                    refine wpAnyH_ready (rs := [8]) (by kernel_rfl) (by simp) ?_
                    refine AllReadyH.cons rfl (fun K1 hK => ?_) AllReadyH.nil
                    go_simp
                    refine hK.out _ _ ?_ (fun hHeld => ?_)
                    · trivial
                    clear hK K1
                    try simp only [List.getElem_toArray]
                    try simp only [List.getElem_cons_succ]
                    try simp only [List.getElem_cons_zero]
                    try simp only [Act.put]
                    try simp only [List.setIfInBounds_toArray]
                    try simp only [List.set_cons_succ]
                    try simp only [List.set_cons_zero]
                    refine wpAnyH_done (by kernel_rfl) ?_ _
                    refine NoPanic.normal ?_
                    clear c15 f15
                    go_upto_region 21 with (fail)
                    generalize w5.setCell ⟨b, 15, none⟩ (.slice za zn zc) = V6 at *
                    have JE := hid (X6.out.dw.k1.setRow [.int .i64 m.kd, .int .i64 m.c, .int .i64 m.e, .int .i64 m.n, .int .i64 m.sh, .int .i64 m.nu, .int .i64 m.st, .int .i64 m.k, .string m.ky, .string m.vl, .string m.lo, .string m.hi, .int .i64 m.mo, .bool m.bk, .int .i64 m.cd, .slice za zn zc, .bool m.ys])
                    have GE := hid (X6.out.dw.dg.row w.heap.size (Nat.le_refl _) #[.int .i64 m.kd, .int .i64 m.c, .int .i64 m.e, .int .i64 m.n, .int .i64 m.sh, .int .i64 m.nu, .int .i64 m.st, .int .i64 m.k, .string m.ky, .string m.vl, .string m.lo, .string m.hi, .int .i64 m.mo, .bool m.bk, .int .i64 m.cd, .slice za zn zc, .bool m.ys])
                    have OE : Hid (oqW (V6.setRow w.heap.size #[.int .i64 m.kd, .int .i64 m.c, .int .i64 m.e, .int .i64 m.n, .int .i64 m.sh, .int .i64 m.nu, .int .i64 m.st, .int .i64 m.k, .string m.ky, .string m.vl, .string m.lo, .string m.hi, .int .i64 m.mo, .bool m.bk, .int .i64 m.cd, .slice za zn zc, .bool m.ys]) w.heap.size (.slice za zn zc) (m.ps ++ [(ks, ⟨#[]⟩)])) := (X6.out.ow.to (only_setRow (R := fun y => y = w.heap.size) rfl _) (fun y hy e => by have := X6.out.ow.lt hy; have := X6.out.dw.lt; omega)).base (by have := X6.out.dw.lt; omega)
                    have c0 := X6.out.dw.kb.cell (j := 0) rfl
                    have c14 := X6.out.dw.kb.cell (j := 14) rfl
                    go_wp2_with (first
                      | (refine wpList_load_row rfl 31 _ rfl b rfl 31 _ (0, 0) _ X6.out.dw.kb Tryd.underlying31 rfl (by kernel_rfl) ?_; go_frame)
                      | (refine wpList_store_row rfl 31 _ _ rfl w.heap.size #[.int .i64 m.kd, .int .i64 m.c, .int .i64 m.e, .int .i64 m.n, .int .i64 m.sh, .int .i64 m.nu, .int .i64 m.st, .int .i64 m.k, .string m.ky, .string m.vl, .string m.lo, .string m.hi, .int .i64 m.mo, .bool m.bk, .int .i64 m.cd, .slice za zn zc, .bool m.ys] rfl rfl 31 _ X6.out.dw.k1 (by kernel_rfl) rfl (by kernel_rfl) ?_))
                    generalize V6.setRow w.heap.size #[.int .i64 m.kd, .int .i64 m.c, .int .i64 m.e, .int .i64 m.n, .int .i64 m.sh, .int .i64 m.nu, .int .i64 m.st, .int .i64 m.k, .string m.ky, .string m.vl, .string m.lo, .string m.hi, .int .i64 m.mo, .bool m.bk, .int .i64 m.cd, .slice za zn zc, .bool m.ys] = VE at *
                    try simp only [Exit.inBlock, Exit.then]
                    refine bodyPost_ret (v := .agg #[.int .i64 m.kd, .int .i64 m.c, .int .i64 m.e, .int .i64 m.n, .int .i64 m.sh, .int .i64 m.nu, .int .i64 m.st, .int .i64 m.k, .string m.ky, .string m.vl, .string m.lo, .string m.hi, .int .i64 m.mo, .bool m.bk, .int .i64 m.cd, .slice za zn zc, .bool m.ys]) ?_ rfl ?_
                    · exact results_cell_row rfl _ _ w.heap.size 31 _ (0, 0) _ rfl JE.out Tryd.underlying31 rfl (by kernel_rfl)
                    · exact ⟨⟨⟨m.kd, m.c, m.e, m.n, m.sh, m.nu, m.st, m.k, m.ky, m.vl, m.lo, m.hi, m.mo, m.bk, m.cd, (m.ps ++ [(ks, ⟨#[]⟩)]), m.ys⟩, _, _, _, rfl, OE.out, (show List.length ((m.ps ++ [(ks, ⟨#[]⟩)]) : List PB) ≤ 6 by have := HL.out; rw [List.length_append]; simp; omega)⟩, GE.out.gr, GE.out.cu⟩
                  · skip
                    have XD2 := hid (XD1.out.alloc (.cells #[.string ks, .string ⟨#[]⟩] 54))
                    have KB := hid (Bk.new u1 54 (pcs [(ks, ⟨#[]⟩)]))
                    have hgb : w.heap.size + 1 ≤ (u1.alloc (.cells #[.string ks, .string ⟨#[]⟩] 54)).heap.size := by have := XD2.out.dw.kb.lt; have := XD2.out.dw.lt; omega
                    go_simp
                    refine hK.out _ _ ?_ (fun hHeld => ?_)
                    · trivial
                    clear hK K1
                    try simp only [List.getElem_toArray]
                    try simp only [List.getElem_cons_succ]
                    try simp only [List.getElem_cons_zero]
                    try simp only [Act.put]
                    try simp only [List.setIfInBounds_toArray]
                    try simp only [List.set_cons_succ]
                    try simp only [List.set_cons_zero]
                    refine wpAnyH_ready (rs := [1]) (by kernel_rfl) (by simp) ?_
                    refine AllReadyH.cons rfl (fun K1 hK => ?_) AllReadyH.nil
                    have c15 := XD2.out.dw.kb.cell (j := 15) rfl
                    go_simp
                    refine hK.out _ _ ?_ (fun hHeld => ?_)
                    · trivial
                    clear hK K1
                    try simp only [List.getElem_toArray]
                    try simp only [List.getElem_cons_succ]
                    try simp only [List.getElem_cons_zero]
                    try simp only [Act.put]
                    try simp only [List.setIfInBounds_toArray]
                    try simp only [List.set_cons_succ]
                    try simp only [List.set_cons_zero]
                    clear c15
                    obtain ⟨za, zn, zc, w5, hr5, hO5, hg5, ha5⟩ := run_append_pq 29 (w.heap.size + 1) _ m.ps XD2.out.ow _ (ks, ⟨#[]⟩) KB.out (by have := HL.out; omega) hgb
                    refine wpAnyH_ready (rs := [6]) (by kernel_rfl) (by simp) ?_
                    refine AllReadyH.cons rfl (fun K1 hK => ?_) AllReadyH.nil
                    refine step_append_pr _ _ rfl _ _ _ rfl rfl hr5 ?_
                    refine hK.out _ _ ?_ (fun hHeld => ?_)
                    · trivial
                    clear hK K1
                    try simp only [List.getElem_toArray]
                    try simp only [List.getElem_cons_succ]
                    try simp only [List.getElem_cons_zero]
                    try simp only [Act.put]
                    try simp only [List.setIfInBounds_toArray]
                    try simp only [List.set_cons_succ]
                    try simp only [List.set_cons_zero]
                    have X5 : Hid (DN w w5 g b [.int .i64 0, .int .i64 0, .int .i64 0, .int .i64 0, .int .i64 0, .int .i64 0, .int .i64 0, .int .i64 0, .string ⟨#[]⟩, .string ⟨#[]⟩, .string ⟨#[]⟩, .string ⟨#[]⟩, .int .i64 0, .bool false, .int .i64 0, .slice none 0 0, .bool false] [.int .i64 m.kd, .int .i64 m.c, .int .i64 m.e, .int .i64 m.n, .int .i64 m.sh, .int .i64 m.nu, .int .i64 m.st, .int .i64 m.k, .string m.ky, .string m.vl, .string m.lo, .string m.hi, .int .i64 m.mo, .bool m.bk, .int .i64 m.cd, .slice pa pn pc, .bool m.ys] (.slice za zn zc) (m.ps ++ [(ks, ⟨#[]⟩)])) := XD2.out.grow hO5 hg5 ha5
                    have c15 := X5.out.dw.kb.cell (j := 15) rfl
                    have f15 := X5.out.dw.kb.free 15
                    have X6 : Hid (DN w (w5.setCell ⟨b, 15, none⟩ (.slice za zn zc)) g b [.int .i64 0, .int .i64 0, .int .i64 0, .int .i64 0, .int .i64 0, .int .i64 0, .int .i64 0, .int .i64 0, .string ⟨#[]⟩, .string ⟨#[]⟩, .string ⟨#[]⟩, .string ⟨#[]⟩, .int .i64 0, .bool false, .int .i64 0, .slice none 0 0, .bool false] [.int .i64 m.kd, .int .i64 m.c, .int .i64 m.e, .int .i64 m.n, .int .i64 m.sh, .int .i64 m.nu, .int .i64 m.st, .int .i64 m.k, .string m.ky, .string m.vl, .string m.lo, .string m.hi, .int .i64 m.mo, .bool m.bk, .int .i64 m.cd, .slice za zn zc, .bool m.ys] (.slice za zn zc) (m.ps ++ [(ks, ⟨#[]⟩)])) := X5.out.setE 15 _ (ys := [.int .i64 m.kd, .int .i64 m.c, .int .i64 m.e, .int .i64 m.n, .int .i64 m.sh, .int .i64 m.nu, .int .i64 m.st, .int .i64 m.k, .string m.ky, .string m.vl, .string m.lo, .string m.hi, .int .i64 m.mo, .bool m.bk, .int .i64 m.cd, .slice za zn zc, .bool m.ys]) rfl
                    clear XD2 KB hgb hr5 hO5 hg5 ha5 X5
                    refine wpAnyH_take (i := 7) (v := .pointer (some ⟨b, 15, none⟩)) rfl (by kernel_rfl) (by kernel_rfl) (by kernel_rfl) (fun _ _ _ h => h) (Or.inl ⟨by rfl, ?_⟩) (by assumption) ?_
                    · intro w hSw
                      go_simp
                    try simp only [List.getElem_toArray]
                    try simp only [List.getElem_cons_succ]
                    try simp only [List.getElem_cons_zero]
                    try simp only [Act.put]
                    try simp only [List.setIfInBounds_toArray]
                    try simp only [List.set_cons_succ]
                    try simp only [List.set_cons_zero]
                    refine wpAnyH_ready (rs := [8]) (by kernel_rfl) (by simp) ?_
                    refine AllReadyH.cons rfl (fun K1 hK => ?_) AllReadyH.nil
                    go_simp
                    refine hK.out _ _ ?_ (fun hHeld => ?_)
                    · trivial
                    clear hK K1
                    try simp only [List.getElem_toArray]
                    try simp only [List.getElem_cons_succ]
                    try simp only [List.getElem_cons_zero]
                    try simp only [Act.put]
                    try simp only [List.setIfInBounds_toArray]
                    try simp only [List.set_cons_succ]
                    try simp only [List.set_cons_zero]
                    refine wpAnyH_done (by kernel_rfl) ?_ _
                    refine NoPanic.normal ?_
                    clear c15 f15
                    go_upto_region 21 with (fail)
                    generalize w5.setCell ⟨b, 15, none⟩ (.slice za zn zc) = V6 at *
                    have JE := hid (X6.out.dw.k1.setRow [.int .i64 m.kd, .int .i64 m.c, .int .i64 m.e, .int .i64 m.n, .int .i64 m.sh, .int .i64 m.nu, .int .i64 m.st, .int .i64 m.k, .string m.ky, .string m.vl, .string m.lo, .string m.hi, .int .i64 m.mo, .bool m.bk, .int .i64 m.cd, .slice za zn zc, .bool m.ys])
                    have GE := hid (X6.out.dw.dg.row w.heap.size (Nat.le_refl _) #[.int .i64 m.kd, .int .i64 m.c, .int .i64 m.e, .int .i64 m.n, .int .i64 m.sh, .int .i64 m.nu, .int .i64 m.st, .int .i64 m.k, .string m.ky, .string m.vl, .string m.lo, .string m.hi, .int .i64 m.mo, .bool m.bk, .int .i64 m.cd, .slice za zn zc, .bool m.ys])
                    have OE : Hid (oqW (V6.setRow w.heap.size #[.int .i64 m.kd, .int .i64 m.c, .int .i64 m.e, .int .i64 m.n, .int .i64 m.sh, .int .i64 m.nu, .int .i64 m.st, .int .i64 m.k, .string m.ky, .string m.vl, .string m.lo, .string m.hi, .int .i64 m.mo, .bool m.bk, .int .i64 m.cd, .slice za zn zc, .bool m.ys]) w.heap.size (.slice za zn zc) (m.ps ++ [(ks, ⟨#[]⟩)])) := (X6.out.ow.to (only_setRow (R := fun y => y = w.heap.size) rfl _) (fun y hy e => by have := X6.out.ow.lt hy; have := X6.out.dw.lt; omega)).base (by have := X6.out.dw.lt; omega)
                    have c0 := X6.out.dw.kb.cell (j := 0) rfl
                    have c14 := X6.out.dw.kb.cell (j := 14) rfl
                    go_wp2_with (first
                      | (refine wpList_load_row rfl 31 _ rfl b rfl 31 _ (0, 0) _ X6.out.dw.kb Tryd.underlying31 rfl (by kernel_rfl) ?_; go_frame)
                      | (refine wpList_store_row rfl 31 _ _ rfl w.heap.size #[.int .i64 m.kd, .int .i64 m.c, .int .i64 m.e, .int .i64 m.n, .int .i64 m.sh, .int .i64 m.nu, .int .i64 m.st, .int .i64 m.k, .string m.ky, .string m.vl, .string m.lo, .string m.hi, .int .i64 m.mo, .bool m.bk, .int .i64 m.cd, .slice za zn zc, .bool m.ys] rfl rfl 31 _ X6.out.dw.k1 (by kernel_rfl) rfl (by kernel_rfl) ?_))
                    generalize V6.setRow w.heap.size #[.int .i64 m.kd, .int .i64 m.c, .int .i64 m.e, .int .i64 m.n, .int .i64 m.sh, .int .i64 m.nu, .int .i64 m.st, .int .i64 m.k, .string m.ky, .string m.vl, .string m.lo, .string m.hi, .int .i64 m.mo, .bool m.bk, .int .i64 m.cd, .slice za zn zc, .bool m.ys] = VE at *
                    try simp only [Exit.inBlock, Exit.then]
                    refine bodyPost_ret (v := .agg #[.int .i64 m.kd, .int .i64 m.c, .int .i64 m.e, .int .i64 m.n, .int .i64 m.sh, .int .i64 m.nu, .int .i64 m.st, .int .i64 m.k, .string m.ky, .string m.vl, .string m.lo, .string m.hi, .int .i64 m.mo, .bool m.bk, .int .i64 m.cd, .slice za zn zc, .bool m.ys]) ?_ rfl ?_
                    · exact results_cell_row rfl _ _ w.heap.size 31 _ (0, 0) _ rfl JE.out Tryd.underlying31 rfl (by kernel_rfl)
                    · exact ⟨⟨⟨m.kd, m.c, m.e, m.n, m.sh, m.nu, m.st, m.k, m.ky, m.vl, m.lo, m.hi, m.mo, m.bk, m.cd, (m.ps ++ [(ks, ⟨#[]⟩)]), m.ys⟩, _, _, _, rfl, OE.out, (show List.length ((m.ps ++ [(ks, ⟨#[]⟩)]) : List PB) ≤ 6 by have := HL.out; rw [List.length_append]; simp; omega)⟩, GE.out.gr, GE.out.cu⟩
              · by_cases e7 : x = 7
                · subst e7
                  have c16 := X0.out.dw.kb.cell (j := 16) rfl
                  have f16 := X0.out.dw.kb.free 16
                  have X1 : Hid (DN w (V0.setCell ⟨b, 16, none⟩ (.bool !m.ys)) g b [.int .i64 0, .int .i64 0, .int .i64 0, .int .i64 0, .int .i64 0, .int .i64 0, .int .i64 0, .int .i64 0, .string ⟨#[]⟩, .string ⟨#[]⟩, .string ⟨#[]⟩, .string ⟨#[]⟩, .int .i64 0, .bool false, .int .i64 0, .slice none 0 0, .bool false] [.int .i64 m.kd, .int .i64 m.c, .int .i64 m.e, .int .i64 m.n, .int .i64 m.sh, .int .i64 m.nu, .int .i64 m.st, .int .i64 m.k, .string m.ky, .string m.vl, .string m.lo, .string m.hi, .int .i64 m.mo, .bool m.bk, .int .i64 m.cd, .slice pa pn pc, .bool !m.ys] (.slice pa pn pc) m.ps) := X0.out.setE 16 (.bool !m.ys) (ys := [.int .i64 m.kd, .int .i64 m.c, .int .i64 m.e, .int .i64 m.n, .int .i64 m.sh, .int .i64 m.nu, .int .i64 m.st, .int .i64 m.k, .string m.ky, .string m.vl, .string m.lo, .string m.hi, .int .i64 m.mo, .bool m.bk, .int .i64 m.cd, .slice pa pn pc, .bool !m.ys]) rfl
                  go_upto_region 21 with (fail)
                  generalize (V0.setCell ⟨b, 16, none⟩ (.bool !m.ys)) = V1 at *
                  clear c16 f16 X0
                  have JE := hid (X1.out.dw.k1.setRow [.int .i64 m.kd, .int .i64 m.c, .int .i64 m.e, .int .i64 m.n, .int .i64 m.sh, .int .i64 m.nu, .int .i64 m.st, .int .i64 m.k, .string m.ky, .string m.vl, .string m.lo, .string m.hi, .int .i64 m.mo, .bool m.bk, .int .i64 m.cd, .slice pa pn pc, .bool (!m.ys)])
                  have GE := hid (X1.out.dw.dg.row w.heap.size (Nat.le_refl _) #[.int .i64 m.kd, .int .i64 m.c, .int .i64 m.e, .int .i64 m.n, .int .i64 m.sh, .int .i64 m.nu, .int .i64 m.st, .int .i64 m.k, .string m.ky, .string m.vl, .string m.lo, .string m.hi, .int .i64 m.mo, .bool m.bk, .int .i64 m.cd, .slice pa pn pc, .bool (!m.ys)])
                  have OE : Hid (oqW (V1.setRow w.heap.size #[.int .i64 m.kd, .int .i64 m.c, .int .i64 m.e, .int .i64 m.n, .int .i64 m.sh, .int .i64 m.nu, .int .i64 m.st, .int .i64 m.k, .string m.ky, .string m.vl, .string m.lo, .string m.hi, .int .i64 m.mo, .bool m.bk, .int .i64 m.cd, .slice pa pn pc, .bool (!m.ys)]) w.heap.size (.slice pa pn pc) m.ps) := (X1.out.ow.to (only_setRow (R := fun y => y = w.heap.size) rfl _) (fun y hy e => by have := X1.out.ow.lt hy; have := X1.out.dw.lt; omega)).base (by have := X1.out.dw.lt; omega)
                  have c0 := X1.out.dw.kb.cell (j := 0) rfl
                  have c14 := X1.out.dw.kb.cell (j := 14) rfl
                  go_wp2_with (first
                    | (refine wpList_load_row rfl 31 _ rfl b rfl 31 _ (0, 0) _ X1.out.dw.kb Tryd.underlying31 rfl (by kernel_rfl) ?_; go_frame)
                    | (refine wpList_store_row rfl 31 _ _ rfl w.heap.size #[.int .i64 m.kd, .int .i64 m.c, .int .i64 m.e, .int .i64 m.n, .int .i64 m.sh, .int .i64 m.nu, .int .i64 m.st, .int .i64 m.k, .string m.ky, .string m.vl, .string m.lo, .string m.hi, .int .i64 m.mo, .bool m.bk, .int .i64 m.cd, .slice pa pn pc, .bool (!m.ys)] rfl rfl 31 _ X1.out.dw.k1 (by kernel_rfl) rfl (by kernel_rfl) ?_))
                  generalize V1.setRow w.heap.size #[.int .i64 m.kd, .int .i64 m.c, .int .i64 m.e, .int .i64 m.n, .int .i64 m.sh, .int .i64 m.nu, .int .i64 m.st, .int .i64 m.k, .string m.ky, .string m.vl, .string m.lo, .string m.hi, .int .i64 m.mo, .bool m.bk, .int .i64 m.cd, .slice pa pn pc, .bool (!m.ys)] = VE at *
                  try simp only [Exit.inBlock, Exit.then]
                  refine bodyPost_ret (v := .agg #[.int .i64 m.kd, .int .i64 m.c, .int .i64 m.e, .int .i64 m.n, .int .i64 m.sh, .int .i64 m.nu, .int .i64 m.st, .int .i64 m.k, .string m.ky, .string m.vl, .string m.lo, .string m.hi, .int .i64 m.mo, .bool m.bk, .int .i64 m.cd, .slice pa pn pc, .bool (!m.ys)]) ?_ rfl ?_
                  · exact results_cell_row rfl _ _ w.heap.size 31 _ (0, 0) _ rfl JE.out Tryd.underlying31 rfl (by kernel_rfl)
                  · exact ⟨⟨⟨m.kd, m.c, m.e, m.n, m.sh, m.nu, m.st, m.k, m.ky, m.vl, m.lo, m.hi, m.mo, m.bk, m.cd, m.ps, (!m.ys)⟩, _, _, _, rfl, OE.out, (show List.length (m.ps : List PB) ≤ 6 by have := HL.out; omega)⟩, GE.out.gr, GE.out.cu⟩
                · by_cases e8 : x = 8
                  · subst e8
                    go_wp2_with fail
                    refine (raw_cu g _ X0.out.dw.dg.cu).mono ?_
                    rintro r w1 ⟨⟨y, rfl, hy0, hy1⟩, hg, hc⟩
                    have Y1 := hid (X0.out.step hg hc)
                    clear X0 hg hc
                    have c6 := Y1.out.dw.kb.cell (j := 6) rfl
                    have f6 := Y1.out.dw.kb.free 6
                    have c0 := Y1.out.dw.kb.cell (j := 0) rfl
                    have X1 : Hid (DN w (w1.setCell ⟨b, 6, none⟩ (.int .i64 y)) g b [.int .i64 0, .int .i64 0, .int .i64 0, .int .i64 0, .int .i64 0, .int .i64 0, .int .i64 0, .int .i64 0, .string ⟨#[]⟩, .string ⟨#[]⟩, .string ⟨#[]⟩, .string ⟨#[]⟩, .int .i64 0, .bool false, .int .i64 0, .slice none 0 0, .bool false] [.int .i64 m.kd, .int .i64 m.c, .int .i64 m.e, .int .i64 m.n, .int .i64 m.sh, .int .i64 m.nu, .int .i64 y, .int .i64 m.k, .string m.ky, .string m.vl, .string m.lo, .string m.hi, .int .i64 m.mo, .bool m.bk, .int .i64 m.cd, .slice pa pn pc, .bool m.ys] (.slice pa pn pc) m.ps) := (Y1.out.setE 6 (.int .i64 y) (ys := [.int .i64 m.kd, .int .i64 m.c, .int .i64 m.e, .int .i64 m.n, .int .i64 m.sh, .int .i64 m.nu, .int .i64 y, .int .i64 m.k, .string m.ky, .string m.vl, .string m.lo, .string m.hi, .int .i64 m.mo, .bool m.bk, .int .i64 m.cd, .slice pa pn pc, .bool m.ys]) rfl)
                    go_upto_region 21 with (fail)
                    generalize (w1.setCell ⟨b, 6, none⟩ (.int .i64 y)) = V1 at *
                    clear c0 Y1 c6 f6
                    have JE := hid (X1.out.dw.k1.setRow [.int .i64 m.kd, .int .i64 m.c, .int .i64 m.e, .int .i64 m.n, .int .i64 m.sh, .int .i64 m.nu, .int .i64 y, .int .i64 m.k, .string m.ky, .string m.vl, .string m.lo, .string m.hi, .int .i64 m.mo, .bool m.bk, .int .i64 m.cd, .slice pa pn pc, .bool m.ys])
                    have GE := hid (X1.out.dw.dg.row w.heap.size (Nat.le_refl _) #[.int .i64 m.kd, .int .i64 m.c, .int .i64 m.e, .int .i64 m.n, .int .i64 m.sh, .int .i64 m.nu, .int .i64 y, .int .i64 m.k, .string m.ky, .string m.vl, .string m.lo, .string m.hi, .int .i64 m.mo, .bool m.bk, .int .i64 m.cd, .slice pa pn pc, .bool m.ys])
                    have OE : Hid (oqW (V1.setRow w.heap.size #[.int .i64 m.kd, .int .i64 m.c, .int .i64 m.e, .int .i64 m.n, .int .i64 m.sh, .int .i64 m.nu, .int .i64 y, .int .i64 m.k, .string m.ky, .string m.vl, .string m.lo, .string m.hi, .int .i64 m.mo, .bool m.bk, .int .i64 m.cd, .slice pa pn pc, .bool m.ys]) w.heap.size (.slice pa pn pc) m.ps) := (X1.out.ow.to (only_setRow (R := fun y => y = w.heap.size) rfl _) (fun y hy e => by have := X1.out.ow.lt hy; have := X1.out.dw.lt; omega)).base (by have := X1.out.dw.lt; omega)
                    have c0 := X1.out.dw.kb.cell (j := 0) rfl
                    have c14 := X1.out.dw.kb.cell (j := 14) rfl
                    go_wp2_with (first
                      | (refine wpList_load_row rfl 31 _ rfl b rfl 31 _ (0, 0) _ X1.out.dw.kb Tryd.underlying31 rfl (by kernel_rfl) ?_; go_frame)
                      | (refine wpList_store_row rfl 31 _ _ rfl w.heap.size #[.int .i64 m.kd, .int .i64 m.c, .int .i64 m.e, .int .i64 m.n, .int .i64 m.sh, .int .i64 m.nu, .int .i64 y, .int .i64 m.k, .string m.ky, .string m.vl, .string m.lo, .string m.hi, .int .i64 m.mo, .bool m.bk, .int .i64 m.cd, .slice pa pn pc, .bool m.ys] rfl rfl 31 _ X1.out.dw.k1 (by kernel_rfl) rfl (by kernel_rfl) ?_))
                    generalize V1.setRow w.heap.size #[.int .i64 m.kd, .int .i64 m.c, .int .i64 m.e, .int .i64 m.n, .int .i64 m.sh, .int .i64 m.nu, .int .i64 y, .int .i64 m.k, .string m.ky, .string m.vl, .string m.lo, .string m.hi, .int .i64 m.mo, .bool m.bk, .int .i64 m.cd, .slice pa pn pc, .bool m.ys] = VE at *
                    try simp only [Exit.inBlock, Exit.then]
                    refine bodyPost_ret (v := .agg #[.int .i64 m.kd, .int .i64 m.c, .int .i64 m.e, .int .i64 m.n, .int .i64 m.sh, .int .i64 m.nu, .int .i64 y, .int .i64 m.k, .string m.ky, .string m.vl, .string m.lo, .string m.hi, .int .i64 m.mo, .bool m.bk, .int .i64 m.cd, .slice pa pn pc, .bool m.ys]) ?_ rfl ?_
                    · exact results_cell_row rfl _ _ w.heap.size 31 _ (0, 0) _ rfl JE.out Tryd.underlying31 rfl (by kernel_rfl)
                    · exact ⟨⟨⟨m.kd, m.c, m.e, m.n, m.sh, m.nu, y, m.k, m.ky, m.vl, m.lo, m.hi, m.mo, m.bk, m.cd, m.ps, m.ys⟩, _, _, _, rfl, OE.out, (show List.length (m.ps : List PB) ≤ 6 by have := HL.out; omega)⟩, GE.out.gr, GE.out.cu⟩
                  · skip
                    go_upto_region 21 with (fail)
                    have JE := hid (X0.out.dw.k1.setRow [.int .i64 m.kd, .int .i64 m.c, .int .i64 m.e, .int .i64 m.n, .int .i64 m.sh, .int .i64 m.nu, .int .i64 m.st, .int .i64 m.k, .string m.ky, .string m.vl, .string m.lo, .string m.hi, .int .i64 m.mo, .bool m.bk, .int .i64 m.cd, .slice pa pn pc, .bool m.ys])
                    have GE := hid (X0.out.dw.dg.row w.heap.size (Nat.le_refl _) #[.int .i64 m.kd, .int .i64 m.c, .int .i64 m.e, .int .i64 m.n, .int .i64 m.sh, .int .i64 m.nu, .int .i64 m.st, .int .i64 m.k, .string m.ky, .string m.vl, .string m.lo, .string m.hi, .int .i64 m.mo, .bool m.bk, .int .i64 m.cd, .slice pa pn pc, .bool m.ys])
                    have OE : Hid (oqW (V0.setRow w.heap.size #[.int .i64 m.kd, .int .i64 m.c, .int .i64 m.e, .int .i64 m.n, .int .i64 m.sh, .int .i64 m.nu, .int .i64 m.st, .int .i64 m.k, .string m.ky, .string m.vl, .string m.lo, .string m.hi, .int .i64 m.mo, .bool m.bk, .int .i64 m.cd, .slice pa pn pc, .bool m.ys]) w.heap.size (.slice pa pn pc) m.ps) := (X0.out.ow.to (only_setRow (R := fun y => y = w.heap.size) rfl _) (fun y hy e => by have := X0.out.ow.lt hy; have := X0.out.dw.lt; omega)).base (by have := X0.out.dw.lt; omega)
                    have c0 := X0.out.dw.kb.cell (j := 0) rfl
                    have c14 := X0.out.dw.kb.cell (j := 14) rfl
                    go_wp2_with (first
                      | (refine wpList_load_row rfl 31 _ rfl b rfl 31 _ (0, 0) _ X0.out.dw.kb Tryd.underlying31 rfl (by kernel_rfl) ?_; go_frame)
                      | (refine wpList_store_row rfl 31 _ _ rfl w.heap.size #[.int .i64 m.kd, .int .i64 m.c, .int .i64 m.e, .int .i64 m.n, .int .i64 m.sh, .int .i64 m.nu, .int .i64 m.st, .int .i64 m.k, .string m.ky, .string m.vl, .string m.lo, .string m.hi, .int .i64 m.mo, .bool m.bk, .int .i64 m.cd, .slice pa pn pc, .bool m.ys] rfl rfl 31 _ X0.out.dw.k1 (by kernel_rfl) rfl (by kernel_rfl) ?_))
                    generalize V0.setRow w.heap.size #[.int .i64 m.kd, .int .i64 m.c, .int .i64 m.e, .int .i64 m.n, .int .i64 m.sh, .int .i64 m.nu, .int .i64 m.st, .int .i64 m.k, .string m.ky, .string m.vl, .string m.lo, .string m.hi, .int .i64 m.mo, .bool m.bk, .int .i64 m.cd, .slice pa pn pc, .bool m.ys] = VE at *
                    try simp only [Exit.inBlock, Exit.then]
                    refine bodyPost_ret (v := .agg #[.int .i64 m.kd, .int .i64 m.c, .int .i64 m.e, .int .i64 m.n, .int .i64 m.sh, .int .i64 m.nu, .int .i64 m.st, .int .i64 m.k, .string m.ky, .string m.vl, .string m.lo, .string m.hi, .int .i64 m.mo, .bool m.bk, .int .i64 m.cd, .slice pa pn pc, .bool m.ys]) ?_ rfl ?_
                    · exact results_cell_row rfl _ _ w.heap.size 31 _ (0, 0) _ rfl JE.out Tryd.underlying31 rfl (by kernel_rfl)
                    · exact ⟨⟨⟨m.kd, m.c, m.e, m.n, m.sh, m.nu, m.st, m.k, m.ky, m.vl, m.lo, m.hi, m.mo, m.bk, m.cd, m.ps, m.ys⟩, _, _, _, rfl, OE.out, (show List.length (m.ps : List PB) ≤ 6 by have := HL.out; omega)⟩, GE.out.gr, GE.out.cu⟩
end Go.Proofs.YtbaggkfgnjenoacDoor
