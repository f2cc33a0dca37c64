/-
  The messages that the laws draw: l09Msg.
-/
import Derived.Test.YtbaggkfgnjenoacDoorMg15
namespace Go.Proofs.YtbaggkfgnjenoacDoor
open Go.RowKit
set_option linter.unusedVariables false
set_option maxHeartbeats 16000000 in
set_option maxRecDepth 20000 in
theorem l09Msg_any (g : Nat) (w : World) (h : Cu w g) : Calls Tryd.prog 30 #[.pointer (some ⟨g, 0, none⟩)] w fun r w' => (∃ (m : MS) (pa : Option Addr) (pn pc : Nat), r = .returned (.agg #[.int .i64 m.kd, .int .i64 m.c, .int .i64 m.e, .int .i64 m.n, .int .i64 m.sh, .int .i64 m.nu, .int .i64 m.st, .int .i64 m.k, .string m.ky, .string m.vl, .string m.lo, .string m.hi, .int .i64 m.mo, .bool m.bk, .int .i64 m.cd, .slice pa pn pc, .bool m.ys]) ∧ oqW w' w.heap.size (.slice pa pn pc) m.ps ∧ m.ps.length ≤ 5) ∧ w.grownBy w' (some g) ∧ Cu w' g := by
  have D0 := hid ((DG.start h).alloc (.cells #[.int .i64 0, .int .i64 0, .int .i64 0, .int .i64 0, .int .i64 0, .int .i64 0, .int .i64 0, .int .i64 0, .string ⟨#[]⟩, .string ⟨#[]⟩, .string ⟨#[]⟩, .string ⟨#[]⟩, .int .i64 0, .bool false, .int .i64 0, .slice none 0 0, .bool false] 31))
  have K0 := hid (Bk.new w 31 [.int .i64 0, .int .i64 0, .int .i64 0, .int .i64 0, .int .i64 0, .int .i64 0, .int .i64 0, .int .i64 0, .string ⟨#[]⟩, .string ⟨#[]⟩, .string ⟨#[]⟩, .string ⟨#[]⟩, .int .i64 0, .bool false, .int .i64 0, .slice none 0 0, .bool false])
  clear h
  go_enter Tryd.func30, Tryd.ntmps30
  go_wp2_with fail
  refine (below_any g 7 _ D0.out.cu (by omega) (by omega)).mono ?_
  generalize w.alloc (.cells #[.int .i64 0, .int .i64 0, .int .i64 0, .int .i64 0, .int .i64 0, .int .i64 0, .int .i64 0, .int .i64 0, .string ⟨#[]⟩, .string ⟨#[]⟩, .string ⟨#[]⟩, .string ⟨#[]⟩, .int .i64 0, .bool false, .int .i64 0, .slice none 0 0, .bool false] 31) = U at *
  rintro r w1 ⟨⟨x, rfl, hx0, hx1⟩, hg, hc⟩
  have D1 := hid (D0.out.step hg hc)
  have K1 := hid (K0.out.grownR hg (by have := D0.out.ng; omega))
  clear D0 K0 hg hc
  go_wp2_with fail
  refine (l07Tx_any g _ D1.out.cu).mono ?_
  rintro r w2 ⟨⟨xc, xe, xn, rfl⟩, hg, hc⟩
  have D2 := hid (D1.out.step hg hc)
  have K2 := hid (K1.out.grownR hg (by have := D1.out.ng; omega))
  clear D1 K1 hg hc
  go_wp2_with fail
  refine (below_any g 3 _ D2.out.cu (by omega) (by omega)).mono ?_
  rintro r w3 ⟨⟨sh, rfl, hs0, hs1⟩, hg, hc⟩
  have D3 := hid (D2.out.step hg hc)
  have K3 := hid (K2.out.grownR hg (by have := D2.out.ng; omega))
  have hlt : w.heap.size < w3.heap.size := K3.out.lt
  clear D2 K2 hg hc
  have XA : Hid (DM w (w3.alloc (.cells #[.int .i64 (1 + x), .int .i64 xc, .int .i64 xe, .int .i64 xn, .int .i64 sh, .int .i64 0, .int .i64 0, .int .i64 0, .string ⟨#[]⟩, .string ⟨#[]⟩, .string ⟨#[]⟩, .string ⟨#[]⟩, .int .i64 0, .bool false, .int .i64 0, .slice none 0 0, .bool false] 31)) g w3.heap.size [.int .i64 0, .int .i64 0, .int .i64 0, .int .i64 0, .int .i64 0, .int .i64 0, .int .i64 0, .int .i64 0, .string ⟨#[]⟩, .string ⟨#[]⟩, .string ⟨#[]⟩, .string ⟨#[]⟩, .int .i64 0, .bool false, .int .i64 0, .slice none 0 0, .bool false] [.int .i64 (1 + x), .int .i64 xc, .int .i64 xe, .int .i64 xn, .int .i64 sh, .int .i64 0, .int .i64 0, .int .i64 0, .string ⟨#[]⟩, .string ⟨#[]⟩, .string ⟨#[]⟩, .string ⟨#[]⟩, .int .i64 0, .bool false, .int .i64 0, .slice none 0 0, .bool false] (.slice none 0 0) []) := ⟨⟨D3.out.alloc _, K3.out.alloc _, Bk.new w3 _ _, hlt⟩, oqw_nil _ _⟩
  clear D3 K3
  go_upto_region 2 with (refine wpList_store_row rfl 31 _ _ rfl w3.heap.size _ rfl rfl 31 _ (heap_alloc_new w3 _) (by kernel_rfl) rfl (by kernel_rfl) ?_; rw [World.setRow_alloc_new])
  generalize w3.alloc (.cells #[.int .i64 (1 + x), .int .i64 xc, .int .i64 xe, .int .i64 xn, .int .i64 sh, .int .i64 0, .int .i64 0, .int .i64 0, .string ⟨#[]⟩, .string ⟨#[]⟩, .string ⟨#[]⟩, .string ⟨#[]⟩, .int .i64 0, .bool false, .int .i64 0, .slice none 0 0, .bool false] 31) = V0 at *
  generalize w3.heap.size = b at *
  have h7 : x = 0 ∨ x = 1 ∨ x = 2 ∨ x = 3 ∨ x = 4 ∨ x = 5 ∨ x = 6 := by omega
  clear hx0 hx1
  rcases h7 with rfl | rfl | rfl | rfl | rfl | rfl | rfl
  · have X0 : Hid (DM w V0 g b [.int .i64 0, .int .i64 0, .int .i64 0, .int .i64 0, .int .i64 0, .int .i64 0, .int .i64 0, .int .i64 0, .string ⟨#[]⟩, .string ⟨#[]⟩, .string ⟨#[]⟩, .string ⟨#[]⟩, .int .i64 0, .bool false, .int .i64 0, .slice none 0 0, .bool false] [.int .i64 1, .int .i64 xc, .int .i64 xe, .int .i64 xn, .int .i64 sh, .int .i64 0, .int .i64 0, .int .i64 0, .string ⟨#[]⟩, .string ⟨#[]⟩, .string ⟨#[]⟩, .string ⟨#[]⟩, .int .i64 0, .bool false, .int .i64 0, .slice none 0 0, .bool false] (.slice none 0 0) []) := XA.out
    clear XA
    have c0 := X0.out.dw.kb.cell (j := 0) rfl
    go_wp2_with fail
    refine (below_any g 3 _ X0.out.dw.dg.cu (by omega) (by omega)).mono ?_
    rintro r w1 ⟨⟨nu, rfl, hn0, hn1⟩, hg, hc⟩
    have Y1 := hid (X0.out.step hg hc)
    clear X0 hg hc
    have c5 := Y1.out.dw.kb.cell (j := 5) rfl
    have f5 := Y1.out.dw.kb.free 5
    have c0 := Y1.out.dw.kb.cell (j := 0) rfl
    have X1 : Hid (DM w (w1.setCell ⟨b, 5, none⟩ (.int .i64 (1 + nu))) g b [.int .i64 0, .int .i64 0, .int .i64 0, .int .i64 0, .int .i64 0, .int .i64 0, .int .i64 0, .int .i64 0, .string ⟨#[]⟩, .string ⟨#[]⟩, .string ⟨#[]⟩, .string ⟨#[]⟩, .int .i64 0, .bool false, .int .i64 0, .slice none 0 0, .bool false] [.int .i64 1, .int .i64 xc, .int .i64 xe, .int .i64 xn, .int .i64 sh, .int .i64 (1 + nu), .int .i64 0, .int .i64 0, .string ⟨#[]⟩, .string ⟨#[]⟩, .string ⟨#[]⟩, .string ⟨#[]⟩, .int .i64 0, .bool false, .int .i64 0, .slice none 0 0, .bool false] (.slice none 0 0) []) := (Y1.out.setE 5 (.int .i64 (1 + nu)) (ys := [.int .i64 1, .int .i64 xc, .int .i64 xe, .int .i64 xn, .int .i64 sh, .int .i64 (1 + nu), .int .i64 0, .int .i64 0, .string ⟨#[]⟩, .string ⟨#[]⟩, .string ⟨#[]⟩, .string ⟨#[]⟩, .int .i64 0, .bool false, .int .i64 0, .slice none 0 0, .bool false]) rfl)
    go_upto_region 4 with (fail)
    generalize (w1.setCell ⟨b, 5, none⟩ (.int .i64 (1 + nu))) = V1 at *
    clear c0 Y1 c5 f5
    have c0 := X1.out.dw.kb.cell (j := 0) rfl
    go_wp2_with fail
    refine (l09Ask_any g _ X1.out.dw.dg.cu).mono ?_
    rintro r w2 ⟨⟨ak, ky, vl, lo, hi, mo, bk, rfl⟩, hg, hc⟩
    have Y2 := hid (X1.out.step hg hc)
    clear X1 hg hc
    have c7 := Y2.out.dw.kb.cell (j := 7) rfl
    have f7 := Y2.out.dw.kb.free 7
    have c8 := Y2.out.dw.kb.cell (j := 8) rfl
    have f8 := Y2.out.dw.kb.free 8
    have c9 := Y2.out.dw.kb.cell (j := 9) rfl
    have f9 := Y2.out.dw.kb.free 9
    have c10 := Y2.out.dw.kb.cell (j := 10) rfl
    have f10 := Y2.out.dw.kb.free 10
    have c11 := Y2.out.dw.kb.cell (j := 11) rfl
    have f11 := Y2.out.dw.kb.free 11
    have c12 := Y2.out.dw.kb.cell (j := 12) rfl
    have f12 := Y2.out.dw.kb.free 12
    have c13 := Y2.out.dw.kb.cell (j := 13) rfl
    have f13 := Y2.out.dw.kb.free 13
    have c0 := Y2.out.dw.kb.cell (j := 0) rfl
    have X2 : Hid (DM w (((((((w2.setCell ⟨b, 7, none⟩ (.int .i64 ak)).setCell ⟨b, 8, none⟩ (.string ky)).setCell ⟨b, 9, none⟩ (.string vl)).setCell ⟨b, 10, none⟩ (.string lo)).setCell ⟨b, 11, none⟩ (.string hi)).setCell ⟨b, 12, none⟩ (.int .i64 mo)).setCell ⟨b, 13, none⟩ (.bool bk)) g b [.int .i64 0, .int .i64 0, .int .i64 0, .int .i64 0, .int .i64 0, .int .i64 0, .int .i64 0, .int .i64 0, .string ⟨#[]⟩, .string ⟨#[]⟩, .string ⟨#[]⟩, .string ⟨#[]⟩, .int .i64 0, .bool false, .int .i64 0, .slice none 0 0, .bool false] [.int .i64 1, .int .i64 xc, .int .i64 xe, .int .i64 xn, .int .i64 sh, .int .i64 (1 + nu), .int .i64 0, .int .i64 ak, .string ky, .string vl, .string lo, .string hi, .int .i64 mo, .bool bk, .int .i64 0, .slice none 0 0, .bool false] (.slice none 0 0) []) := (((((((Y2.out.setE 7 (.int .i64 ak) (ys := [.int .i64 1, .int .i64 xc, .int .i64 xe, .int .i64 xn, .int .i64 sh, .int .i64 (1 + nu), .int .i64 0, .int .i64 ak, .string ⟨#[]⟩, .string ⟨#[]⟩, .string ⟨#[]⟩, .string ⟨#[]⟩, .int .i64 0, .bool false, .int .i64 0, .slice none 0 0, .bool false]) rfl).setE 8 (.string ky) (ys := [.int .i64 1, .int .i64 xc, .int .i64 xe, .int .i64 xn, .int .i64 sh, .int .i64 (1 + nu), .int .i64 0, .int .i64 ak, .string ky, .string ⟨#[]⟩, .string ⟨#[]⟩, .string ⟨#[]⟩, .int .i64 0, .bool false, .int .i64 0, .slice none 0 0, .bool false]) rfl).setE 9 (.string vl) (ys := [.int .i64 1, .int .i64 xc, .int .i64 xe, .int .i64 xn, .int .i64 sh, .int .i64 (1 + nu), .int .i64 0, .int .i64 ak, .string ky, .string vl, .string ⟨#[]⟩, .string ⟨#[]⟩, .int .i64 0, .bool false, .int .i64 0, .slice none 0 0, .bool false]) rfl).setE 10 (.string lo) (ys := [.int .i64 1, .int .i64 xc, .int .i64 xe, .int .i64 xn, .int .i64 sh, .int .i64 (1 + nu), .int .i64 0, .int .i64 ak, .string ky, .string vl, .string lo, .string ⟨#[]⟩, .int .i64 0, .bool false, .int .i64 0, .slice none 0 0, .bool false]) rfl).setE 11 (.string hi) (ys := [.int .i64 1, .int .i64 xc, .int .i64 xe, .int .i64 xn, .int .i64 sh, .int .i64 (1 + nu), .int .i64 0, .int .i64 ak, .string ky, .string vl, .string lo, .string hi, .int .i64 0, .bool false, .int .i64 0, .slice none 0 0, .bool false]) rfl).setE 12 (.int .i64 mo) (ys := [.int .i64 1, .int .i64 xc, .int .i64 xe, .int .i64 xn, .int .i64 sh, .int .i64 (1 + nu), .int .i64 0, .int .i64 ak, .string ky, .string vl, .string lo, .string hi, .int .i64 mo, .bool false, .int .i64 0, .slice none 0 0, .bool false]) rfl).setE 13 (.bool bk) (ys := [.int .i64 1, .int .i64 xc, .int .i64 xe, .int .i64 xn, .int .i64 sh, .int .i64 (1 + nu), .int .i64 0, .int .i64 ak, .string ky, .string vl, .string lo, .string hi, .int .i64 mo, .bool bk, .int .i64 0, .slice none 0 0, .bool false]) rfl)
    go_upto_region 6 with (fail)
    generalize (((((((w2.setCell ⟨b, 7, none⟩ (.int .i64 ak)).setCell ⟨b, 8, none⟩ (.string ky)).setCell ⟨b, 9, none⟩ (.string vl)).setCell ⟨b, 10, none⟩ (.string lo)).setCell ⟨b, 11, none⟩ (.string hi)).setCell ⟨b, 12, none⟩ (.int .i64 mo)).setCell ⟨b, 13, none⟩ (.bool bk)) = V2 at *
    clear c0 Y2 c7 f7 c8 f8 c9 f9 c10 f10 c11 f11 c12 f12 c13 f13
    have JE := hid (X2.out.dw.k1.setRow [.int .i64 1, .int .i64 xc, .int .i64 xe, .int .i64 xn, .int .i64 sh, .int .i64 (1 + nu), .int .i64 0, .int .i64 ak, .string ky, .string vl, .string lo, .string hi, .int .i64 mo, .bool bk, .int .i64 0, .slice none 0 0, .bool false])
    have GE := hid (X2.out.dw.dg.row w.heap.size (Nat.le_refl _) #[.int .i64 1, .int .i64 xc, .int .i64 xe, .int .i64 xn, .int .i64 sh, .int .i64 (1 + nu), .int .i64 0, .int .i64 ak, .string ky, .string vl, .string lo, .string hi, .int .i64 mo, .bool bk, .int .i64 0, .slice none 0 0, .bool false])
    have OE : Hid (oqW (V2.setRow w.heap.size #[.int .i64 1, .int .i64 xc, .int .i64 xe, .int .i64 xn, .int .i64 sh, .int .i64 (1 + nu), .int .i64 0, .int .i64 ak, .string ky, .string vl, .string lo, .string hi, .int .i64 mo, .bool bk, .int .i64 0, .slice none 0 0, .bool false]) w.heap.size (.slice none 0 0) []) := (X2.out.ow.to (only_setRow (R := fun y => y = w.heap.size) rfl _) (fun y hy e => by have := X2.out.ow.lt hy; have := X2.out.dw.lt; omega)).base (by have := X2.out.dw.lt; omega)
    have c0 := X2.out.dw.kb.cell (j := 0) rfl
    have c14 := X2.out.dw.kb.cell (j := 14) rfl
    go_wp2_with (first
      | (refine wpList_load_row rfl 31 _ rfl b rfl 31 _ (0, 0) _ X2.out.dw.kb Tryd.underlying31 rfl (by kernel_rfl) ?_; go_frame)
      | (refine wpList_store_row rfl 31 _ _ rfl w.heap.size #[.int .i64 1, .int .i64 xc, .int .i64 xe, .int .i64 xn, .int .i64 sh, .int .i64 (1 + nu), .int .i64 0, .int .i64 ak, .string ky, .string vl, .string lo, .string hi, .int .i64 mo, .bool bk, .int .i64 0, .slice none 0 0, .bool false] rfl rfl 31 _ X2.out.dw.k1 (by kernel_rfl) rfl (by kernel_rfl) ?_))
    generalize V2.setRow w.heap.size #[.int .i64 1, .int .i64 xc, .int .i64 xe, .int .i64 xn, .int .i64 sh, .int .i64 (1 + nu), .int .i64 0, .int .i64 ak, .string ky, .string vl, .string lo, .string hi, .int .i64 mo, .bool bk, .int .i64 0, .slice none 0 0, .bool false] = VE at *
    try simp only [Exit.inBlock, Exit.then]
    refine bodyPost_ret (v := .agg #[.int .i64 1, .int .i64 xc, .int .i64 xe, .int .i64 xn, .int .i64 sh, .int .i64 (1 + nu), .int .i64 0, .int .i64 ak, .string ky, .string vl, .string lo, .string hi, .int .i64 mo, .bool bk, .int .i64 0, .slice none 0 0, .bool false]) ?_ rfl ?_
    · exact results_cell_row rfl _ _ w.heap.size 31 _ (0, 0) _ rfl JE.out Tryd.underlying31 rfl (by kernel_rfl)
    · exact ⟨⟨⟨1, xc, xe, xn, sh, (1 + nu), 0, ak, ky, vl, lo, hi, mo, bk, 0, [], false⟩, _, _, _, rfl, OE.out, (show List.length ([] : List PB) ≤ 5 by simp)⟩, GE.out.gr, GE.out.cu⟩
  · have X0 : Hid (DM w V0 g b [.int .i64 0, .int .i64 0, .int .i64 0, .int .i64 0, .int .i64 0, .int .i64 0, .int .i64 0, .int .i64 0, .string ⟨#[]⟩, .string ⟨#[]⟩, .string ⟨#[]⟩, .string ⟨#[]⟩, .int .i64 0, .bool false, .int .i64 0, .slice none 0 0, .bool false] [.int .i64 2, .int .i64 xc, .int .i64 xe, .int .i64 xn, .int .i64 sh, .int .i64 0, .int .i64 0, .int .i64 0, .string ⟨#[]⟩, .string ⟨#[]⟩, .string ⟨#[]⟩, .string ⟨#[]⟩, .int .i64 0, .bool false, .int .i64 0, .slice none 0 0, .bool false] (.slice none 0 0) []) := XA.out
    clear XA
    have c0 := X0.out.dw.kb.cell (j := 0) rfl
    go_wp2_with fail
    refine (below_any g 3 _ X0.out.dw.dg.cu (by omega) (by omega)).mono ?_
    rintro r w1 ⟨⟨nu, rfl, hn0, hn1⟩, hg, hc⟩
    have Y1 := hid (X0.out.step hg hc)
    clear X0 hg hc
    have c5 := Y1.out.dw.kb.cell (j := 5) rfl
    have f5 := Y1.out.dw.kb.free 5
    have c0 := Y1.out.dw.kb.cell (j := 0) rfl
    have X1 : Hid (DM w (w1.setCell ⟨b, 5, none⟩ (.int .i64 (1 + nu))) g b [.int .i64 0, .int .i64 0, .int .i64 0, .int .i64 0, .int .i64 0, .int .i64 0, .int .i64 0, .int .i64 0, .string ⟨#[]⟩, .string ⟨#[]⟩, .string ⟨#[]⟩, .string ⟨#[]⟩, .int .i64 0, .bool false, .int .i64 0, .slice none 0 0, .bool false] [.int .i64 2, .int .i64 xc, .int .i64 xe, .int .i64 xn, .int .i64 sh, .int .i64 (1 + nu), .int .i64 0, .int .i64 0, .string ⟨#[]⟩, .string ⟨#[]⟩, .string ⟨#[]⟩, .string ⟨#[]⟩, .int .i64 0, .bool false, .int .i64 0, .slice none 0 0, .bool false] (.slice none 0 0) []) := (Y1.out.setE 5 (.int .i64 (1 + nu)) (ys := [.int .i64 2, .int .i64 xc, .int .i64 xe, .int .i64 xn, .int .i64 sh, .int .i64 (1 + nu), .int .i64 0, .int .i64 0, .string ⟨#[]⟩, .string ⟨#[]⟩, .string ⟨#[]⟩, .string ⟨#[]⟩, .int .i64 0, .bool false, .int .i64 0, .slice none 0 0, .bool false]) rfl)
    go_upto_region 4 with (fail)
    generalize (w1.setCell ⟨b, 5, none⟩ (.int .i64 (1 + nu))) = V1 at *
    clear c0 Y1 c5 f5
    have c0 := X1.out.dw.kb.cell (j := 0) rfl
    go_wp2_with fail
    refine (below_any g 3 _ X1.out.dw.dg.cu (by omega) (by omega)).mono ?_
    rintro r w2 ⟨⟨cd, rfl, hd0, hd1⟩, hg, hc⟩
    have Y2 := hid (X1.out.step hg hc)
    clear X1 hg hc
    have c14 := Y2.out.dw.kb.cell (j := 14) rfl
    have f14 := Y2.out.dw.kb.free 14
    have c0 := Y2.out.dw.kb.cell (j := 0) rfl
    have X2 : Hid (DM w (w2.setCell ⟨b, 14, none⟩ (.int .i64 cd)) g b [.int .i64 0, .int .i64 0, .int .i64 0, .int .i64 0, .int .i64 0, .int .i64 0, .int .i64 0, .int .i64 0, .string ⟨#[]⟩, .string ⟨#[]⟩, .string ⟨#[]⟩, .string ⟨#[]⟩, .int .i64 0, .bool false, .int .i64 0, .slice none 0 0, .bool false] [.int .i64 2, .int .i64 xc, .int .i64 xe, .int .i64 xn, .int .i64 sh, .int .i64 (1 + nu), .int .i64 0, .int .i64 0, .string ⟨#[]⟩, .string ⟨#[]⟩, .string ⟨#[]⟩, .string ⟨#[]⟩, .int .i64 0, .bool false, .int .i64 cd, .slice none 0 0, .bool false] (.slice none 0 0) []) := (Y2.out.setE 14 (.int .i64 cd) (ys := [.int .i64 2, .int .i64 xc, .int .i64 xe, .int .i64 xn, .int .i64 sh, .int .i64 (1 + nu), .int .i64 0, .int .i64 0, .string ⟨#[]⟩, .string ⟨#[]⟩, .string ⟨#[]⟩, .string ⟨#[]⟩, .int .i64 0, .bool false, .int .i64 cd, .slice none 0 0, .bool false]) rfl)
    go_upto_region 8 with (fail)
    generalize (w2.setCell ⟨b, 14, none⟩ (.int .i64 cd)) = V2 at *
    clear c0 Y2 c14 f14
    go_wp2_with fail
    refine (below_any g 4 _ X2.out.dw.dg.cu (by omega) (by omega)).mono ?_
    rintro r w4 ⟨⟨t, rfl, ht0, ht1⟩, hg, hc⟩
    have X3 := hid (X2.out.step hg hc)
    clear X2 hg hc
    obtain ⟨j0, hj0⟩ : ∃ j0 : Nat, t = (j0 : Int) := ⟨t.toNat, by omega⟩
    subst hj0
    go_wp2_with fail
    go_loopw [4] (fun i wr => ∃ (j : Nat) (l : List PB) (va : Option Addr) (vn vc : Nat), i = .int .i64 j ∧ l.length + j ≤ 4 ∧ Hid (DM w wr g b [.int .i64 0, .int .i64 0, .int .i64 0, .int .i64 0, .int .i64 0, .int .i64 0, .int .i64 0, .int .i64 0, .string ⟨#[]⟩, .string ⟨#[]⟩, .string ⟨#[]⟩, .string ⟨#[]⟩, .int .i64 0, .bool false, .int .i64 0, .slice none 0 0, .bool false] [.int .i64 2, .int .i64 xc, .int .i64 xe, .int .i64 xn, .int .i64 sh, .int .i64 (1 + nu), .int .i64 0, .int .i64 0, .string ⟨#[]⟩, .string ⟨#[]⟩, .string ⟨#[]⟩, .string ⟨#[]⟩, .int .i64 0, .bool false, .int .i64 cd, .slice va vn vc, .bool false] (.slice va vn vc) l)) (fun i _ => (intOf i).toNat)
    case atStart => exact ⟨j0, [], none, 0, 0, rfl, by simp; omega, X3.out⟩
    case round =>
      obtain ⟨j, l, va, vn, vc, rfl, hlj, HX⟩ := hrel
      clear X3
      by_cases hj : 0 < j
      · have hj' : (0 : Int) < (j : Int) := by omega
        have XD0 : Hid (DM w wr.drew g b [.int .i64 0, .int .i64 0, .int .i64 0, .int .i64 0, .int .i64 0, .int .i64 0, .int .i64 0, .int .i64 0, .string ⟨#[]⟩, .string ⟨#[]⟩, .string ⟨#[]⟩, .string ⟨#[]⟩, .int .i64 0, .bool false, .int .i64 0, .slice none 0 0, .bool false] [.int .i64 2, .int .i64 xc, .int .i64 xe, .int .i64 xn, .int .i64 sh, .int .i64 (1 + nu), .int .i64 0, .int .i64 0, .string ⟨#[]⟩, .string ⟨#[]⟩, .string ⟨#[]⟩, .string ⟨#[]⟩, .int .i64 0, .bool false, .int .i64 cd, .slice va vn vc, .bool false] (.slice va vn vc) l) := ⟨⟨HX.out.dw.dg.call (below_drew _), HX.out.dw.k1.below (below_drew _), HX.out.dw.kb.below (below_drew _), HX.out.dw.lt⟩, HX.out.ow.below (below_drew _)⟩
        clear HX
        go_wp2_with fail
        refine wp_region_noPanic ?_
        refine wp_region_held_drew (S := fun _ => True) (by kernel_rfl) (trivial) (fun hHeld => ?_)
        simp only [List.size_toArray, List.length_cons, List.length_nil, Array.replicate_succ, Array.replicate_zero, Nat.reduceAdd, List.push_toArray, List.nil_append, List.cons_append]
        refine wpAnyH_take (i := 0) (v := .pointer (some ⟨b, 15, none⟩)) rfl (by kernel_rfl) (by kernel_rfl) (by kernel_rfl) (fun _ _ _ h => h) (Or.inl ⟨by rfl, ?_⟩) (by assumption) ?_
        · intro w hSw
          go_simp
        try simp only [List.getElem_toArray]
        try simp only [List.getElem_cons_succ]
        try simp only [List.getElem_cons_zero]
        try simp only [Act.put]
        try simp only [List.setIfInBounds_toArray]
        try simp only [List.set_cons_succ]
        try simp only [List.set_cons_zero]
        refine wpAnyH_take (i := 2) (v := .pointer (some ⟨g, 0, none⟩)) rfl (by kernel_rfl) (by kernel_rfl) (by kernel_rfl) (fun _ _ _ h => h) (Or.inl ⟨by rfl, ?_⟩) (by assumption) ?_
        · intro w hSw
          go_simp
        try simp only [List.getElem_toArray]
        try simp only [List.getElem_cons_succ]
        try simp only [List.getElem_cons_zero]
        try simp only [Act.put]
        try simp only [List.setIfInBounds_toArray]
        try simp only [List.set_cons_succ]
        try simp only [List.set_cons_zero]
        refine wpAnyH_take (i := 4) (v := .pointer (some ⟨g, 0, none⟩)) rfl (by kernel_rfl) (by kernel_rfl) (by kernel_rfl) (fun _ _ _ h => h) (Or.inl ⟨by rfl, ?_⟩) (by assumption) ?_
        · intro w hSw
          go_simp
        try simp only [List.getElem_toArray]
        try simp only [List.getElem_cons_succ]
        try simp only [List.getElem_cons_zero]
        try simp only [Act.put]
        try simp only [List.setIfInBounds_toArray]
        try simp only [List.set_cons_succ]
        try simp only [List.set_cons_zero]
        refine wpAnyH_ready (rs := [1, 3]) (by kernel_rfl) (by simp) ?_
        refine AllReadyH.cons rfl (fun K1 hK => ?_) (AllReadyH.cons rfl (fun K1 hK => ?_) AllReadyH.nil)
        · skip
          have c15 := XD0.out.dw.kb.cell (j := 15) rfl
          go_simp
          refine hK.out _ _ ?_ (fun hHeld => ?_)
          · trivial
          clear hK K1
          try simp only [List.getElem_toArray]
          try simp only [List.getElem_cons_succ]
          try simp only [List.getElem_cons_zero]
          try simp only [Act.put]
          try simp only [List.setIfInBounds_toArray]
          try simp only [List.set_cons_succ]
          try simp only [List.set_cons_zero]
          clear c15
          refine wpAnyH_ready (rs := [3]) (by kernel_rfl) (by simp) ?_
          refine AllReadyH.cons rfl (fun K1 hK => ?_) AllReadyH.nil
          go_simp
          refine (l08User_any g _ XD0.out.dw.dg.cu).mono ?_
          rintro r u1 ⟨⟨ks, rfl⟩, hg, hc⟩
          have XD1 := hid (XD0.out.step hg hc)
          clear XD0 hg hc
          go_wp2_with fail
          refine hK.out _ _ ?_ (fun hHeld => ?_)
          · trivial
          clear hK K1
          try simp only [List.getElem_toArray]
          try simp only [List.getElem_cons_succ]
          try simp only [List.getElem_cons_zero]
          try simp only [Act.put]
          try simp only [List.setIfInBounds_toArray]
          try simp only [List.set_cons_succ]
          try simp only [List.set_cons_zero]
          refine wpAnyH_ready (rs := [5]) (by kernel_rfl) (by simp) ?_
          refine AllReadyH.cons rfl (fun K1 hK => ?_) AllReadyH.nil
          go_simp
          refine (l08Uval_any g _ XD1.out.dw.dg.cu).mono ?_
          rintro r u2 ⟨⟨vs, rfl⟩, hg, hc⟩
          have XD2 := hid (XD1.out.step hg hc)
          clear XD1 hg hc
          go_wp2_with fail
          refine hK.out _ _ ?_ (fun hHeld => ?_)
          · trivial
          clear hK K1
          try simp only [List.getElem_toArray]
          try simp only [List.getElem_cons_succ]
          try simp only [List.getElem_cons_zero]
          try simp only [Act.put]
          try simp only [List.setIfInBounds_toArray]
          try simp only [List.set_cons_succ]
          try simp only [List.set_cons_zero]
          refine wpAnyH_take (i := 6) (v := .agg #[.string ks, .string vs]) rfl (by kernel_rfl) (by kernel_rfl) (by kernel_rfl) (fun _ _ _ h => h) (Or.inl ⟨by rfl, ?_⟩) (by assumption) ?_
          · intro w hSw
            go_simp
          try simp only [List.getElem_toArray]
          try simp only [List.getElem_cons_succ]
          try simp only [List.getElem_cons_zero]
          try simp only [Act.put]
          try simp only [List.setIfInBounds_toArray]
          try simp only [List.set_cons_succ]
          try simp only [List.set_cons_zero]
          refine wpAnyH_ready (rs := [7]) (by kernel_rfl) (by simp) ?_
          refine AllReadyH.cons rfl (fun K1 hK => ?_) AllReadyH.nil
          have XD3 := hid (XD2.out.alloc (.cells #[.string ks, .string vs] 54))
          have KB := hid (Bk.new u2 54 (pcs [(ks, vs)]))
          have hgb : b + 1 ≤ (u2.alloc (.cells #[.string ks, .string vs] 54)).heap.size := by have := XD3.out.dw.kb.lt; omega
          go_simp
          refine hK.out _ _ ?_ (fun hHeld => ?_)
          · trivial
          clear hK K1
          try simp only [List.getElem_toArray]
          try simp only [List.getElem_cons_succ]
          try simp only [List.getElem_cons_zero]
          try simp only [Act.put]
          try simp only [List.setIfInBounds_toArray]
          try simp only [List.set_cons_succ]
          try simp only [List.set_cons_zero]
          obtain ⟨za, zn, zc, w5, hr5, hO5, hg5⟩ := run_append_pr 29 (b + 1) _ l XD3.out.ow _ (ks, vs) KB.out (by omega) hgb
          refine wpAnyH_ready (rs := [8]) (by kernel_rfl) (by simp) ?_
          refine AllReadyH.cons rfl (fun K1 hK => ?_) AllReadyH.nil
          refine step_append_pr _ _ rfl _ _ _ rfl rfl hr5 ?_
          refine hK.out _ _ ?_ (fun hHeld => ?_)
          · trivial
          clear hK K1
          try simp only [List.getElem_toArray]
          try simp only [List.getElem_cons_succ]
          try simp only [List.getElem_cons_zero]
          try simp only [Act.put]
          try simp only [List.setIfInBounds_toArray]
          try simp only [List.set_cons_succ]
          try simp only [List.set_cons_zero]
          have ho5 : Only (fun y => (Value.slice va vn vc).ownBlock = some y) _ w5 := only_of_grown hg5 (fun k e => e)
          have hown : ∀ y, (Value.slice va vn vc).ownBlock = some y → b + 1 ≤ y := fun y hy => (XD3.out.ow.lt hy).1
          have hng := XD3.out.dw.dg.ng
          have hlt5 := XD3.out.dw.lt
          have hc5 : Cu w5 g := XD3.out.dw.dg.cu.kept hg5 (fun k e => by have := hown k e; omega)
          have hg6 : w.grownBy w5 (some g) := ⟨hg5.os.trans XD3.out.dw.dg.gr.os, hg5.tape.trans XD3.out.dw.dg.gr.tape, hg5.output.trans XD3.out.dw.dg.gr.output, Nat.le_trans XD3.out.dw.dg.gr.size hg5.size, fun k hk hne => (hg5.block k (Nat.lt_of_lt_of_le hk XD3.out.dw.dg.gr.size) (fun e => by have := hown k e.symm; omega)).trans (XD3.out.dw.dg.gr.block k hk hne)⟩
          have X5 : Hid (DM w w5 g b [.int .i64 0, .int .i64 0, .int .i64 0, .int .i64 0, .int .i64 0, .int .i64 0, .int .i64 0, .int .i64 0, .string ⟨#[]⟩, .string ⟨#[]⟩, .string ⟨#[]⟩, .string ⟨#[]⟩, .int .i64 0, .bool false, .int .i64 0, .slice none 0 0, .bool false] [.int .i64 2, .int .i64 xc, .int .i64 xe, .int .i64 xn, .int .i64 sh, .int .i64 (1 + nu), .int .i64 0, .int .i64 0, .string ⟨#[]⟩, .string ⟨#[]⟩, .string ⟨#[]⟩, .string ⟨#[]⟩, .int .i64 0, .bool false, .int .i64 cd, .slice va vn vc, .bool false] (.slice za zn zc) (l ++ [(ks, vs)])) := ⟨⟨⟨hg6, hc5, hng⟩, XD3.out.dw.k1.to ho5 (fun e => by have := hown _ e; omega), XD3.out.dw.kb.to ho5 (fun e => by have := hown _ e; omega), hlt5⟩, hO5⟩
          have c15 := X5.out.dw.kb.cell (j := 15) rfl
          have f15 := X5.out.dw.kb.free 15
          have X6 : Hid (DM w (w5.setCell ⟨b, 15, none⟩ (.slice za zn zc)) g b [.int .i64 0, .int .i64 0, .int .i64 0, .int .i64 0, .int .i64 0, .int .i64 0, .int .i64 0, .int .i64 0, .string ⟨#[]⟩, .string ⟨#[]⟩, .string ⟨#[]⟩, .string ⟨#[]⟩, .int .i64 0, .bool false, .int .i64 0, .slice none 0 0, .bool false] [.int .i64 2, .int .i64 xc, .int .i64 xe, .int .i64 xn, .int .i64 sh, .int .i64 (1 + nu), .int .i64 0, .int .i64 0, .string ⟨#[]⟩, .string ⟨#[]⟩, .string ⟨#[]⟩, .string ⟨#[]⟩, .int .i64 0, .bool false, .int .i64 cd, .slice za zn zc, .bool false] (.slice za zn zc) (l ++ [(ks, vs)])) := X5.out.setE 15 _ (ys := [.int .i64 2, .int .i64 xc, .int .i64 xe, .int .i64 xn, .int .i64 sh, .int .i64 (1 + nu), .int .i64 0, .int .i64 0, .string ⟨#[]⟩, .string ⟨#[]⟩, .string ⟨#[]⟩, .string ⟨#[]⟩, .int .i64 0, .bool false, .int .i64 cd, .slice za zn zc, .bool false]) rfl
          clear ho5 hown hng hlt5 hc5 hg6 X5 XD3 KB hgb hr5 hO5 hg5
          refine wpAnyH_take (i := 9) (v := .pointer (some ⟨b, 15, none⟩)) rfl (by kernel_rfl) (by kernel_rfl) (by kernel_rfl) (fun _ _ _ h => h) (Or.inl ⟨by rfl, ?_⟩) (by assumption) ?_
          · intro w hSw
            go_simp
          try simp only [List.getElem_toArray]
          try simp only [List.getElem_cons_succ]
          try simp only [List.getElem_cons_zero]
          try simp only [Act.put]
          try simp only [List.setIfInBounds_toArray]
          try simp only [List.set_cons_succ]
          try simp only [List.set_cons_zero]
          refine wpAnyH_ready (rs := [10]) (by kernel_rfl) (by simp) ?_
          refine AllReadyH.cons rfl (fun K1 hK => ?_) AllReadyH.nil
          go_simp
          refine hK.out _ _ ?_ (fun hHeld => ?_)
          · trivial
          clear hK K1
          try simp only [List.getElem_toArray]
          try simp only [List.getElem_cons_succ]
          try simp only [List.getElem_cons_zero]
          try simp only [Act.put]
          try simp only [List.setIfInBounds_toArray]
          try simp only [List.set_cons_succ]
          try simp only [List.set_cons_zero]
          refine wpAnyH_done (by kernel_rfl) ?_ _
          refine NoPanic.normal ?_
          clear c15 f15
          go_wp2
          go_roundw
          case rel => exact ⟨j - 1, l ++ [(ks, vs)], za, zn, zc, by first | rfl | (congr 1; omega) | go_num, by rw [List.length_append]; simp; omega, X6.out⟩
          case measure => simp [intOf]; omega
        · skip
          go_simp
          refine (l08User_any g _ XD0.out.dw.dg.cu).mono ?_
          rintro r u1 ⟨⟨ks, rfl⟩, hg, hc⟩
          have XD1 := hid (XD0.out.step hg hc)
          clear XD0 hg hc
          go_wp2_with fail
          refine hK.out _ _ ?_ (fun hHeld => ?_)
          · trivial
          clear hK K1
          try simp only [List.getElem_toArray]
          try simp only [List.getElem_cons_succ]
          try simp only [List.getElem_cons_zero]
          try simp only [Act.put]
          try simp only [List.setIfInBounds_toArray]
          try simp only [List.set_cons_succ]
          try simp only [List.set_cons_zero]
          refine wpAnyH_ready (rs := [1, 5]) (by kernel_rfl) (by simp) ?_
          refine AllReadyH.cons rfl (fun K1 hK => ?_) (AllReadyH.cons rfl (fun K1 hK => ?_) AllReadyH.nil)
          · skip
            have c15 := XD1.out.dw.kb.cell (j := 15) rfl
            go_simp
            refine hK.out _ _ ?_ (fun hHeld => ?_)
            · trivial
            clear hK K1
            try simp only [List.getElem_toArray]
            try simp only [List.getElem_cons_succ]
            try simp only [List.getElem_cons_zero]
            try simp only [Act.put]
            try simp only [List.setIfInBounds_toArray]
            try simp only [List.set_cons_succ]
            try simp only [List.set_cons_zero]
            clear c15
            refine wpAnyH_ready (rs := [5]) (by kernel_rfl) (by simp) ?_
            refine AllReadyH.cons rfl (fun K1 hK => ?_) AllReadyH.nil
            go_simp
            refine (l08Uval_any g _ XD1.out.dw.dg.cu).mono ?_
            rintro r u2 ⟨⟨vs, rfl⟩, hg, hc⟩
            have XD2 := hid (XD1.out.step hg hc)
            clear XD1 hg hc
            go_wp2_with fail
            refine hK.out _ _ ?_ (fun hHeld => ?_)
            · trivial
            clear hK K1
            try simp only [List.getElem_toArray]
            try simp only [List.getElem_cons_succ]
            try simp only [List.getElem_cons_zero]
            try simp only [Act.put]
            try simp only [List.setIfInBounds_toArray]
            try simp only [List.set_cons_succ]
            try simp only [List.set_cons_zero]
            refine wpAnyH_take (i := 6) (v := .agg #[.string ks, .string vs]) rfl (by kernel_rfl) (by kernel_rfl) (by kernel_rfl) (fun _ _ _ h => h) (Or.inl ⟨by rfl, ?_⟩) (by assumption) ?_
            · intro w hSw
              go_simp
            try simp only [List.getElem_toArray]
            try simp only [List.getElem_cons_succ]
            try simp only [List.getElem_cons_zero]
            try simp only [Act.put]
            try simp only [List.setIfInBounds_toArray]
            try simp only [List.set_cons_succ]
            try simp only [List.set_cons_zero]
            refine wpAnyH_ready (rs := [7]) (by kernel_rfl) (by simp) ?_
            refine AllReadyH.cons rfl (fun K1 hK => ?_) AllReadyH.nil
            have XD3 := hid (XD2.out.alloc (.cells #[.string ks, .string vs] 54))
            have KB := hid (Bk.new u2 54 (pcs [(ks, vs)]))
            have hgb : b + 1 ≤ (u2.alloc (.cells #[.string ks, .string vs] 54)).heap.size := by have := XD3.out.dw.kb.lt; omega
            go_simp
            refine hK.out _ _ ?_ (fun hHeld => ?_)
            · trivial
            clear hK K1
            try simp only [List.getElem_toArray]
            try simp only [List.getElem_cons_succ]
            try simp only [List.getElem_cons_zero]
            try simp only [Act.put]
            try simp only [List.setIfInBounds_toArray]
            try simp only [List.set_cons_succ]
            try simp only [List.set_cons_zero]
            obtain ⟨za, zn, zc, w5, hr5, hO5, hg5⟩ := run_append_pr 29 (b + 1) _ l XD3.out.ow _ (ks, vs) KB.out (by omega) hgb
            refine wpAnyH_ready (rs := [8]) (by kernel_rfl) (by simp) ?_
            refine AllReadyH.cons rfl (fun K1 hK => ?_) AllReadyH.nil
            refine step_append_pr _ _ rfl _ _ _ rfl rfl hr5 ?_
            refine hK.out _ _ ?_ (fun hHeld => ?_)
            · trivial
            clear hK K1
            try simp only [List.getElem_toArray]
            try simp only [List.getElem_cons_succ]
            try simp only [List.getElem_cons_zero]
            try simp only [Act.put]
            try simp only [List.setIfInBounds_toArray]
            try simp only [List.set_cons_succ]
            try simp only [List.set_cons_zero]
            have ho5 : Only (fun y => (Value.slice va vn vc).ownBlock = some y) _ w5 := only_of_grown hg5 (fun k e => e)
            have hown : ∀ y, (Value.slice va vn vc).ownBlock = some y → b + 1 ≤ y := fun y hy => (XD3.out.ow.lt hy).1
            have hng := XD3.out.dw.dg.ng
            have hlt5 := XD3.out.dw.lt
            have hc5 : Cu w5 g := XD3.out.dw.dg.cu.kept hg5 (fun k e => by have := hown k e; omega)
            have hg6 : w.grownBy w5 (some g) := ⟨hg5.os.trans XD3.out.dw.dg.gr.os, hg5.tape.trans XD3.out.dw.dg.gr.tape, hg5.output.trans XD3.out.dw.dg.gr.output, Nat.le_trans XD3.out.dw.dg.gr.size hg5.size, fun k hk hne => (hg5.block k (Nat.lt_of_lt_of_le hk XD3.out.dw.dg.gr.size) (fun e => by have := hown k e.symm; omega)).trans (XD3.out.dw.dg.gr.block k hk hne)⟩
            have X5 : Hid (DM w w5 g b [.int .i64 0, .int .i64 0, .int .i64 0, .int .i64 0, .int .i64 0, .int .i64 0, .int .i64 0, .int .i64 0, .string ⟨#[]⟩, .string ⟨#[]⟩, .string ⟨#[]⟩, .string ⟨#[]⟩, .int .i64 0, .bool false, .int .i64 0, .slice none 0 0, .bool false] [.int .i64 2, .int .i64 xc, .int .i64 xe, .int .i64 xn, .int .i64 sh, .int .i64 (1 + nu), .int .i64 0, .int .i64 0, .string ⟨#[]⟩, .string ⟨#[]⟩, .string ⟨#[]⟩, .string ⟨#[]⟩, .int .i64 0, .bool false, .int .i64 cd, .slice va vn vc, .bool false] (.slice za zn zc) (l ++ [(ks, vs)])) := ⟨⟨⟨hg6, hc5, hng⟩, XD3.out.dw.k1.to ho5 (fun e => by have := hown _ e; omega), XD3.out.dw.kb.to ho5 (fun e => by have := hown _ e; omega), hlt5⟩, hO5⟩
            have c15 := X5.out.dw.kb.cell (j := 15) rfl
            have f15 := X5.out.dw.kb.free 15
            have X6 : Hid (DM w (w5.setCell ⟨b, 15, none⟩ (.slice za zn zc)) g b [.int .i64 0, .int .i64 0, .int .i64 0, .int .i64 0, .int .i64 0, .int .i64 0, .int .i64 0, .int .i64 0, .string ⟨#[]⟩, .string ⟨#[]⟩, .string ⟨#[]⟩, .string ⟨#[]⟩, .int .i64 0, .bool false, .int .i64 0, .slice none 0 0, .bool false] [.int .i64 2, .int .i64 xc, .int .i64 xe, .int .i64 xn, .int .i64 sh, .int .i64 (1 + nu), .int .i64 0, .int .i64 0, .string ⟨#[]⟩, .string ⟨#[]⟩, .string ⟨#[]⟩, .string ⟨#[]⟩, .int .i64 0, .bool false, .int .i64 cd, .slice za zn zc, .bool false] (.slice za zn zc) (l ++ [(ks, vs)])) := X5.out.setE 15 _ (ys := [.int .i64 2, .int .i64 xc, .int .i64 xe, .int .i64 xn, .int .i64 sh, .int .i64 (1 + nu), .int .i64 0, .int .i64 0, .string ⟨#[]⟩, .string ⟨#[]⟩, .string ⟨#[]⟩, .string ⟨#[]⟩, .int .i64 0, .bool false, .int .i64 cd, .slice za zn zc, .bool false]) rfl
            clear ho5 hown hng hlt5 hc5 hg6 X5 XD3 KB hgb hr5 hO5 hg5
            refine wpAnyH_take (i := 9) (v := .pointer (some ⟨b, 15, none⟩)) rfl (by kernel_rfl) (by kernel_rfl) (by kernel_rfl) (fun _ _ _ h => h) (Or.inl ⟨by rfl, ?_⟩) (by assumption) ?_
            · intro w hSw
              go_simp
            try simp only [List.getElem_toArray]
            try simp only [List.getElem_cons_succ]
            try simp only [List.getElem_cons_zero]
            try simp only [Act.put]
            try simp only [List.setIfInBounds_toArray]
            try simp only [List.set_cons_succ]
            try simp only [List.set_cons_zero]
            refine wpAnyH_ready (rs := [10]) (by kernel_rfl) (by simp) ?_
            refine AllReadyH.cons rfl (fun K1 hK => ?_) AllReadyH.nil
            go_simp
            refine hK.out _ _ ?_ (fun hHeld => ?_)
            · trivial
            clear hK K1
            try simp only [List.getElem_toArray]
            try simp only [List.getElem_cons_succ]
            try simp only [List.getElem_cons_zero]
            try simp only [Act.put]
            try simp only [List.setIfInBounds_toArray]
            try simp only [List.set_cons_succ]
            try simp only [List.set_cons_zero]
            refine wpAnyH_done (by kernel_rfl) ?_ _
            refine NoPanic.normal ?_
            clear c15 f15
            go_wp2
            go_roundw
            case rel => exact ⟨j - 1, l ++ [(ks, vs)], za, zn, zc, by first | rfl | (congr 1; omega) | go_num, by rw [List.length_append]; simp; omega, X6.out⟩
            case measure => simp [intOf]; omega
          · skip
            go_simp
            refine (l08Uval_any g _ XD1.out.dw.dg.cu).mono ?_
            rintro r u2 ⟨⟨vs, rfl⟩, hg, hc⟩
            have XD2 := hid (XD1.out.step hg hc)
            clear XD1 hg hc
            go_wp2_with fail
            refine hK.out _ _ ?_ (fun hHeld => ?_)
            · trivial
            clear hK K1
            try simp only [List.getElem_toArray]
            try simp only [List.getElem_cons_succ]
            try simp only [List.getElem_cons_zero]
            try simp only [Act.put]
            try simp only [List.setIfInBounds_toArray]
            try simp only [List.set_cons_succ]
            try simp only [List.set_cons_zero]
            refine wpAnyH_take (i := 6) (v := .agg #[.string ks, .string vs]) rfl (by kernel_rfl) (by kernel_rfl) (by kernel_rfl) (fun _ _ _ h => h) (Or.inl ⟨by rfl, ?_⟩) (by assumption) ?_
            · intro w hSw
              go_simp
            try simp only [List.getElem_toArray]
            try simp only [List.getElem_cons_succ]
            try simp only [List.getElem_cons_zero]
            try simp only [Act.put]
            try simp only [List.setIfInBounds_toArray]
            try simp only [List.set_cons_succ]
            try simp only [List.set_cons_zero]
            refine wpAnyH_ready (rs := [1, 7]) (by kernel_rfl) (by simp) ?_
            refine AllReadyH.cons rfl (fun K1 hK => ?_) (AllReadyH.cons rfl (fun K1 hK => ?_) AllReadyH.nil)
            · skip
              have c15 := XD2.out.dw.kb.cell (j := 15) rfl
              go_simp
              refine hK.out _ _ ?_ (fun hHeld => ?_)
              · trivial
              clear hK K1
              try simp only [List.getElem_toArray]
              try simp only [List.getElem_cons_succ]
              try simp only [List.getElem_cons_zero]
              try simp only [Act.put]
              try simp only [List.setIfInBounds_toArray]
              try simp only [List.set_cons_succ]
              try simp only [List.set_cons_zero]
              clear c15
              refine wpAnyH_ready (rs := [7]) (by kernel_rfl) (by simp) ?_
              refine AllReadyH.cons rfl (fun K1 hK => ?_) AllReadyH.nil
              have XD3 := hid (XD2.out.alloc (.cells #[.string ks, .string vs] 54))
              have KB := hid (Bk.new u2 54 (pcs [(ks, vs)]))
              have hgb : b + 1 ≤ (u2.alloc (.cells #[.string ks, .string vs] 54)).heap.size := by have := XD3.out.dw.kb.lt; omega
              go_simp
              refine hK.out _ _ ?_ (fun hHeld => ?_)
              · trivial
              clear hK K1
              try simp only [List.getElem_toArray]
              try simp only [List.getElem_cons_succ]
              try simp only [List.getElem_cons_zero]
              try simp only [Act.put]
              try simp only [List.setIfInBounds_toArray]
              try simp only [List.set_cons_succ]
              try simp only [List.set_cons_zero]
              obtain ⟨za, zn, zc, w5, hr5, hO5, hg5⟩ := run_append_pr 29 (b + 1) _ l XD3.out.ow _ (ks, vs) KB.out (by omega) hgb
              refine wpAnyH_ready (rs := [8]) (by kernel_rfl) (by simp) ?_
              refine AllReadyH.cons rfl (fun K1 hK => ?_) AllReadyH.nil
              refine step_append_pr _ _ rfl _ _ _ rfl rfl hr5 ?_
              refine hK.out _ _ ?_ (fun hHeld => ?_)
              · trivial
              clear hK K1
              try simp only [List.getElem_toArray]
              try simp only [List.getElem_cons_succ]
              try simp only [List.getElem_cons_zero]
              try simp only [Act.put]
              try simp only [List.setIfInBounds_toArray]
              try simp only [List.set_cons_succ]
              try simp only [List.set_cons_zero]
              have ho5 : Only (fun y => (Value.slice va vn vc).ownBlock = some y) _ w5 := only_of_grown hg5 (fun k e => e)
              have hown : ∀ y, (Value.slice va vn vc).ownBlock = some y → b + 1 ≤ y := fun y hy => (XD3.out.ow.lt hy).1
              have hng := XD3.out.dw.dg.ng
              have hlt5 := XD3.out.dw.lt
              have hc5 : Cu w5 g := XD3.out.dw.dg.cu.kept hg5 (fun k e => by have := hown k e; omega)
              have hg6 : w.grownBy w5 (some g) := ⟨hg5.os.trans XD3.out.dw.dg.gr.os, hg5.tape.trans XD3.out.dw.dg.gr.tape, hg5.output.trans XD3.out.dw.dg.gr.output, Nat.le_trans XD3.out.dw.dg.gr.size hg5.size, fun k hk hne => (hg5.block k (Nat.lt_of_lt_of_le hk XD3.out.dw.dg.gr.size) (fun e => by have := hown k e.symm; omega)).trans (XD3.out.dw.dg.gr.block k hk hne)⟩
              have X5 : Hid (DM w w5 g b [.int .i64 0, .int .i64 0, .int .i64 0, .int .i64 0, .int .i64 0, .int .i64 0, .int .i64 0, .int .i64 0, .string ⟨#[]⟩, .string ⟨#[]⟩, .string ⟨#[]⟩, .string ⟨#[]⟩, .int .i64 0, .bool false, .int .i64 0, .slice none 0 0, .bool false] [.int .i64 2, .int .i64 xc, .int .i64 xe, .int .i64 xn, .int .i64 sh, .int .i64 (1 + nu), .int .i64 0, .int .i64 0, .string ⟨#[]⟩, .string ⟨#[]⟩, .string ⟨#[]⟩, .string ⟨#[]⟩, .int .i64 0, .bool false, .int .i64 cd, .slice va vn vc, .bool false] (.slice za zn zc) (l ++ [(ks, vs)])) := ⟨⟨⟨hg6, hc5, hng⟩, XD3.out.dw.k1.to ho5 (fun e => by have := hown _ e; omega), XD3.out.dw.kb.to ho5 (fun e => by have := hown _ e; omega), hlt5⟩, hO5⟩
              have c15 := X5.out.dw.kb.cell (j := 15) rfl
              have f15 := X5.out.dw.kb.free 15
              have X6 : Hid (DM w (w5.setCell ⟨b, 15, none⟩ (.slice za zn zc)) g b [.int .i64 0, .int .i64 0, .int .i64 0, .int .i64 0, .int .i64 0, .int .i64 0, .int .i64 0, .int .i64 0, .string ⟨#[]⟩, .string ⟨#[]⟩, .string ⟨#[]⟩, .string ⟨#[]⟩, .int .i64 0, .bool false, .int .i64 0, .slice none 0 0, .bool false] [.int .i64 2, .int .i64 xc, .int .i64 xe, .int .i64 xn, .int .i64 sh, .int .i64 (1 + nu), .int .i64 0, .int .i64 0, .string ⟨#[]⟩, .string ⟨#[]⟩, .string ⟨#[]⟩, .string ⟨#[]⟩, .int .i64 0, .bool false, .int .i64 cd, .slice za zn zc, .bool false] (.slice za zn zc) (l ++ [(ks, vs)])) := X5.out.setE 15 _ (ys := [.int .i64 2, .int .i64 xc, .int .i64 xe, .int .i64 xn, .int .i64 sh, .int .i64 (1 + nu), .int .i64 0, .int .i64 0, .string ⟨#[]⟩, .string ⟨#[]⟩, .string ⟨#[]⟩, .string ⟨#[]⟩, .int .i64 0, .bool false, .int .i64 cd, .slice za zn zc, .bool false]) rfl
              clear ho5 hown hng hlt5 hc5 hg6 X5 XD3 KB hgb hr5 hO5 hg5
              refine wpAnyH_take (i := 9) (v := .pointer (some ⟨b, 15, none⟩)) rfl (by kernel_rfl) (by kernel_rfl) (by kernel_rfl) (fun _ _ _ h => h) (Or.inl ⟨by rfl, ?_⟩) (by assumption) ?_
              · intro w hSw
                go_simp
              try simp only [List.getElem_toArray]
              try simp only [List.getElem_cons_succ]
              try simp only [List.getElem_cons_zero]
              try simp only [Act.put]
              try simp only [List.setIfInBounds_toArray]
              try simp only [List.set_cons_succ]
              try simp only [List.set_cons_zero]
              refine wpAnyH_ready (rs := [10]) (by kernel_rfl) (by simp) ?_
              refine AllReadyH.cons rfl (fun K1 hK => ?_) AllReadyH.nil
              go_simp
              refine hK.out _ _ ?_ (fun hHeld => ?_)
              · trivial
              clear hK K1
              try simp only [List.getElem_toArray]
              try simp only [List.getElem_cons_succ]
              try simp only [List.getElem_cons_zero]
              try simp only [Act.put]
              try simp only [List.setIfInBounds_toArray]
              try simp only [List.set_cons_succ]
              try simp only [List.set_cons_zero]
              refine wpAnyH_done (by kernel_rfl) ?_ _
              refine NoPanic.normal ?_
              clear c15 f15
              go_wp2
              go_roundw
              case rel => exact ⟨j - 1, l ++ [(ks, vs)], za, zn, zc, by first | rfl | (congr 1; omega) | go_num, by rw [List.length_append]; simp; omega, X6.out⟩
              case measure => simp [intOf]; omega
            · skip
              have XD3 := hid (XD2.out.alloc (.cells #[.string ks, .string vs] 54))
              have KB := hid (Bk.new u2 54 (pcs [(ks, vs)]))
              have hgb : b + 1 ≤ (u2.alloc (.cells #[.string ks, .string vs] 54)).heap.size := by have := XD3.out.dw.kb.lt; omega
              go_simp
              refine hK.out _ _ ?_ (fun hHeld => ?_)
              · trivial
              clear hK K1
              try simp only [List.getElem_toArray]
              try simp only [List.getElem_cons_succ]
              try simp only [List.getElem_cons_zero]
              try simp only [Act.put]
              try simp only [List.setIfInBounds_toArray]
              try simp only [List.set_cons_succ]
              try simp only [List.set_cons_zero]
              refine wpAnyH_ready (rs := [1]) (by kernel_rfl) (by simp) ?_
              refine AllReadyH.cons rfl (fun K1 hK => ?_) AllReadyH.nil
              have c15 := XD3.out.dw.kb.cell (j := 15) rfl
              go_simp
              refine hK.out _ _ ?_ (fun hHeld => ?_)
              · trivial
              clear hK K1
              try simp only [List.getElem_toArray]
              try simp only [List.getElem_cons_succ]
              try simp only [List.getElem_cons_zero]
              try simp only [Act.put]
              try simp only [List.setIfInBounds_toArray]
              try simp only [List.set_cons_succ]
              try simp only [List.set_cons_zero]
              clear c15
              obtain ⟨za, zn, zc, w5, hr5, hO5, hg5⟩ := run_append_pr 29 (b + 1) _ l XD3.out.ow _ (ks, vs) KB.out (by omega) hgb
              refine wpAnyH_ready (rs := [8]) (by kernel_rfl) (by simp) ?_
              refine AllReadyH.cons rfl (fun K1 hK => ?_) AllReadyH.nil
              refine step_append_pr _ _ rfl _ _ _ rfl rfl hr5 ?_
              refine hK.out _ _ ?_ (fun hHeld => ?_)
              · trivial
              clear hK K1
              try simp only [List.getElem_toArray]
              try simp only [List.getElem_cons_succ]
              try simp only [List.getElem_cons_zero]
              try simp only [Act.put]
              try simp only [List.setIfInBounds_toArray]
              try simp only [List.set_cons_succ]
              try simp only [List.set_cons_zero]
              have ho5 : Only (fun y => (Value.slice va vn vc).ownBlock = some y) _ w5 := only_of_grown hg5 (fun k e => e)
              have hown : ∀ y, (Value.slice va vn vc).ownBlock = some y → b + 1 ≤ y := fun y hy => (XD3.out.ow.lt hy).1
              have hng := XD3.out.dw.dg.ng
              have hlt5 := XD3.out.dw.lt
              have hc5 : Cu w5 g := XD3.out.dw.dg.cu.kept hg5 (fun k e => by have := hown k e; omega)
              have hg6 : w.grownBy w5 (some g) := ⟨hg5.os.trans XD3.out.dw.dg.gr.os, hg5.tape.trans XD3.out.dw.dg.gr.tape, hg5.output.trans XD3.out.dw.dg.gr.output, Nat.le_trans XD3.out.dw.dg.gr.size hg5.size, fun k hk hne => (hg5.block k (Nat.lt_of_lt_of_le hk XD3.out.dw.dg.gr.size) (fun e => by have := hown k e.symm; omega)).trans (XD3.out.dw.dg.gr.block k hk hne)⟩
              have X5 : Hid (DM w w5 g b [.int .i64 0, .int .i64 0, .int .i64 0, .int .i64 0, .int .i64 0, .int .i64 0, .int .i64 0, .int .i64 0, .string ⟨#[]⟩, .string ⟨#[]⟩, .string ⟨#[]⟩, .string ⟨#[]⟩, .int .i64 0, .bool false, .int .i64 0, .slice none 0 0, .bool false] [.int .i64 2, .int .i64 xc, .int .i64 xe, .int .i64 xn, .int .i64 sh, .int .i64 (1 + nu), .int .i64 0, .int .i64 0, .string ⟨#[]⟩, .string ⟨#[]⟩, .string ⟨#[]⟩, .string ⟨#[]⟩, .int .i64 0, .bool false, .int .i64 cd, .slice va vn vc, .bool false] (.slice za zn zc) (l ++ [(ks, vs)])) := ⟨⟨⟨hg6, hc5, hng⟩, XD3.out.dw.k1.to ho5 (fun e => by have := hown _ e; omega), XD3.out.dw.kb.to ho5 (fun e => by have := hown _ e; omega), hlt5⟩, hO5⟩
              have c15 := X5.out.dw.kb.cell (j := 15) rfl
              have f15 := X5.out.dw.kb.free 15
              have X6 : Hid (DM w (w5.setCell ⟨b, 15, none⟩ (.slice za zn zc)) g b [.int .i64 0, .int .i64 0, .int .i64 0, .int .i64 0, .int .i64 0, .int .i64 0, .int .i64 0, .int .i64 0, .string ⟨#[]⟩, .string ⟨#[]⟩, .string ⟨#[]⟩, .string ⟨#[]⟩, .int .i64 0, .bool false, .int .i64 0, .slice none 0 0, .bool false] [.int .i64 2, .int .i64 xc, .int .i64 xe, .int .i64 xn, .int .i64 sh, .int .i64 (1 + nu), .int .i64 0, .int .i64 0, .string ⟨#[]⟩, .string ⟨#[]⟩, .string ⟨#[]⟩, .string ⟨#[]⟩, .int .i64 0, .bool false, .int .i64 cd, .slice za zn zc, .bool false] (.slice za zn zc) (l ++ [(ks, vs)])) := X5.out.setE 15 _ (ys := [.int .i64 2, .int .i64 xc, .int .i64 xe, .int .i64 xn, .int .i64 sh, .int .i64 (1 + nu), .int .i64 0, .int .i64 0, .string ⟨#[]⟩, .string ⟨#[]⟩, .string ⟨#[]⟩, .string ⟨#[]⟩, .int .i64 0, .bool false, .int .i64 cd, .slice za zn zc, .bool false]) rfl
              clear ho5 hown hng hlt5 hc5 hg6 X5 XD3 KB hgb hr5 hO5 hg5
              refine wpAnyH_take (i := 9) (v := .pointer (some ⟨b, 15, none⟩)) rfl (by kernel_rfl) (by kernel_rfl) (by kernel_rfl) (fun _ _ _ h => h) (Or.inl ⟨by rfl, ?_⟩) (by assumption) ?_
              · intro w hSw
                go_simp
              try simp only [List.getElem_toArray]
              try simp only [List.getElem_cons_succ]
              try simp only [List.getElem_cons_zero]
              try simp only [Act.put]
              try simp only [List.setIfInBounds_toArray]
              try simp only [List.set_cons_succ]
              try simp only [List.set_cons_zero]
              refine wpAnyH_ready (rs := [10]) (by kernel_rfl) (by simp) ?_
              refine AllReadyH.cons rfl (fun K1 hK => ?_) AllReadyH.nil
              go_simp
              refine hK.out _ _ ?_ (fun hHeld => ?_)
              · trivial
              clear hK K1
              try simp only [List.getElem_toArray]
              try simp only [List.getElem_cons_succ]
              try simp only [List.getElem_cons_zero]
              try simp only [Act.put]
              try simp only [List.setIfInBounds_toArray]
              try simp only [List.set_cons_succ]
              try simp only [List.set_cons_zero]
              refine wpAnyH_done (by kernel_rfl) ?_ _
              refine NoPanic.normal ?_
              clear c15 f15
              go_wp2
              go_roundw
              case rel => exact ⟨j - 1, l ++ [(ks, vs)], za, zn, zc, by first | rfl | (congr 1; omega) | go_num, by rw [List.length_append]; simp; omega, X6.out⟩
              case measure => simp [intOf]; omega
      · have hj' : ¬ (0 : Int) < (j : Int) := by omega
        have c0 := HX.out.dw.kb.cell (j := 0) rfl
        have c14 := HX.out.dw.kb.cell (j := 14) rfl
        by_cases hcd : cd = 0
        · subst hcd
          have X4 := hid HX.out
          clear HX
          go_wp2_with fail
          refine (below_any g 3 _ X4.out.dw.dg.cu (by omega) (by omega)).mono ?_
          rintro r w5 ⟨⟨st, rfl, hn2, hn3⟩, hg, hc⟩
          have Y5 := hid (X4.out.step hg hc)
          clear X4 hg hc
          have c6 := Y5.out.dw.kb.cell (j := 6) rfl
          have f6 := Y5.out.dw.kb.free 6
          have c0 := Y5.out.dw.kb.cell (j := 0) rfl
          have X5 : Hid (DM w (w5.setCell ⟨b, 6, none⟩ (.int .i64 (1001 + st))) g b [.int .i64 0, .int .i64 0, .int .i64 0, .int .i64 0, .int .i64 0, .int .i64 0, .int .i64 0, .int .i64 0, .string ⟨#[]⟩, .string ⟨#[]⟩, .string ⟨#[]⟩, .string ⟨#[]⟩, .int .i64 0, .bool false, .int .i64 0, .slice none 0 0, .bool false] [.int .i64 2, .int .i64 xc, .int .i64 xe, .int .i64 xn, .int .i64 sh, .int .i64 (1 + nu), .int .i64 (1001 + st), .int .i64 0, .string ⟨#[]⟩, .string ⟨#[]⟩, .string ⟨#[]⟩, .string ⟨#[]⟩, .int .i64 0, .bool false, .int .i64 0, .slice va vn vc, .bool false] (.slice va vn vc) l) := (Y5.out.setE 6 (.int .i64 (1001 + st)) (ys := [.int .i64 2, .int .i64 xc, .int .i64 xe, .int .i64 xn, .int .i64 sh, .int .i64 (1 + nu), .int .i64 (1001 + st), .int .i64 0, .string ⟨#[]⟩, .string ⟨#[]⟩, .string ⟨#[]⟩, .string ⟨#[]⟩, .int .i64 0, .bool false, .int .i64 0, .slice va vn vc, .bool false]) rfl)
          go_upto_region 14 with (fail)
          generalize (w5.setCell ⟨b, 6, none⟩ (.int .i64 (1001 + st))) = V5 at *
          clear c0 Y5 c6 f6
          have JE := hid (X5.out.dw.k1.setRow [.int .i64 2, .int .i64 xc, .int .i64 xe, .int .i64 xn, .int .i64 sh, .int .i64 (1 + nu), .int .i64 (1001 + st), .int .i64 0, .string ⟨#[]⟩, .string ⟨#[]⟩, .string ⟨#[]⟩, .string ⟨#[]⟩, .int .i64 0, .bool false, .int .i64 0, .slice va vn vc, .bool false])
          have GE := hid (X5.out.dw.dg.row w.heap.size (Nat.le_refl _) #[.int .i64 2, .int .i64 xc, .int .i64 xe, .int .i64 xn, .int .i64 sh, .int .i64 (1 + nu), .int .i64 (1001 + st), .int .i64 0, .string ⟨#[]⟩, .string ⟨#[]⟩, .string ⟨#[]⟩, .string ⟨#[]⟩, .int .i64 0, .bool false, .int .i64 0, .slice va vn vc, .bool false])
          have OE : Hid (oqW (V5.setRow w.heap.size #[.int .i64 2, .int .i64 xc, .int .i64 xe, .int .i64 xn, .int .i64 sh, .int .i64 (1 + nu), .int .i64 (1001 + st), .int .i64 0, .string ⟨#[]⟩, .string ⟨#[]⟩, .string ⟨#[]⟩, .string ⟨#[]⟩, .int .i64 0, .bool false, .int .i64 0, .slice va vn vc, .bool false]) w.heap.size (.slice va vn vc) l) := (X5.out.ow.to (only_setRow (R := fun y => y = w.heap.size) rfl _) (fun y hy e => by have := X5.out.ow.lt hy; have := X5.out.dw.lt; omega)).base (by have := X5.out.dw.lt; omega)
          have c0 := X5.out.dw.kb.cell (j := 0) rfl
          have c14 := X5.out.dw.kb.cell (j := 14) rfl
          go_wp2_with (first
            | (refine wpList_load_row rfl 31 _ rfl b rfl 31 _ (0, 0) _ X5.out.dw.kb Tryd.underlying31 rfl (by kernel_rfl) ?_; go_frame)
            | (refine wpList_store_row rfl 31 _ _ rfl w.heap.size #[.int .i64 2, .int .i64 xc, .int .i64 xe, .int .i64 xn, .int .i64 sh, .int .i64 (1 + nu), .int .i64 (1001 + st), .int .i64 0, .string ⟨#[]⟩, .string ⟨#[]⟩, .string ⟨#[]⟩, .string ⟨#[]⟩, .int .i64 0, .bool false, .int .i64 0, .slice va vn vc, .bool false] rfl rfl 31 _ X5.out.dw.k1 (by kernel_rfl) rfl (by kernel_rfl) ?_))
          generalize V5.setRow w.heap.size #[.int .i64 2, .int .i64 xc, .int .i64 xe, .int .i64 xn, .int .i64 sh, .int .i64 (1 + nu), .int .i64 (1001 + st), .int .i64 0, .string ⟨#[]⟩, .string ⟨#[]⟩, .string ⟨#[]⟩, .string ⟨#[]⟩, .int .i64 0, .bool false, .int .i64 0, .slice va vn vc, .bool false] = VE at *
          try simp only [Exit.inBlock, Exit.then]
          refine bodyPost_ret (v := .agg #[.int .i64 2, .int .i64 xc, .int .i64 xe, .int .i64 xn, .int .i64 sh, .int .i64 (1 + nu), .int .i64 (1001 + st), .int .i64 0, .string ⟨#[]⟩, .string ⟨#[]⟩, .string ⟨#[]⟩, .string ⟨#[]⟩, .int .i64 0, .bool false, .int .i64 0, .slice va vn vc, .bool false]) ?_ rfl ?_
          · exact results_cell_row rfl _ _ w.heap.size 31 _ (0, 0) _ rfl JE.out Tryd.underlying31 rfl (by kernel_rfl)
          · exact ⟨⟨⟨2, xc, xe, xn, sh, (1 + nu), (1001 + st), 0, ⟨#[]⟩, ⟨#[]⟩, ⟨#[]⟩, ⟨#[]⟩, 0, false, 0, l, false⟩, _, _, _, rfl, OE.out, (show List.length (l : List PB) ≤ 5 by omega)⟩, GE.out.gr, GE.out.cu⟩
        · have hcd2 : (cd == 0) = false := by simpa using hcd
          have X4 := hid HX.out
          clear HX
          go_upto_region 14 with (fail)
          clear c0 c14
          have JE := hid (X4.out.dw.k1.setRow [.int .i64 2, .int .i64 xc, .int .i64 xe, .int .i64 xn, .int .i64 sh, .int .i64 (1 + nu), .int .i64 0, .int .i64 0, .string ⟨#[]⟩, .string ⟨#[]⟩, .string ⟨#[]⟩, .string ⟨#[]⟩, .int .i64 0, .bool false, .int .i64 cd, .slice va vn vc, .bool false])
          have GE := hid (X4.out.dw.dg.row w.heap.size (Nat.le_refl _) #[.int .i64 2, .int .i64 xc, .int .i64 xe, .int .i64 xn, .int .i64 sh, .int .i64 (1 + nu), .int .i64 0, .int .i64 0, .string ⟨#[]⟩, .string ⟨#[]⟩, .string ⟨#[]⟩, .string ⟨#[]⟩, .int .i64 0, .bool false, .int .i64 cd, .slice va vn vc, .bool false])
          have OE : Hid (oqW (wr.setRow w.heap.size #[.int .i64 2, .int .i64 xc, .int .i64 xe, .int .i64 xn, .int .i64 sh, .int .i64 (1 + nu), .int .i64 0, .int .i64 0, .string ⟨#[]⟩, .string ⟨#[]⟩, .string ⟨#[]⟩, .string ⟨#[]⟩, .int .i64 0, .bool false, .int .i64 cd, .slice va vn vc, .bool false]) w.heap.size (.slice va vn vc) l) := (X4.out.ow.to (only_setRow (R := fun y => y = w.heap.size) rfl _) (fun y hy e => by have := X4.out.ow.lt hy; have := X4.out.dw.lt; omega)).base (by have := X4.out.dw.lt; omega)
          have c0 := X4.out.dw.kb.cell (j := 0) rfl
          have c14 := X4.out.dw.kb.cell (j := 14) rfl
          go_wp2_with (first
            | (refine wpList_load_row rfl 31 _ rfl b rfl 31 _ (0, 0) _ X4.out.dw.kb Tryd.underlying31 rfl (by kernel_rfl) ?_; go_frame)
            | (refine wpList_store_row rfl 31 _ _ rfl w.heap.size #[.int .i64 2, .int .i64 xc, .int .i64 xe, .int .i64 xn, .int .i64 sh, .int .i64 (1 + nu), .int .i64 0, .int .i64 0, .string ⟨#[]⟩, .string ⟨#[]⟩, .string ⟨#[]⟩, .string ⟨#[]⟩, .int .i64 0, .bool false, .int .i64 cd, .slice va vn vc, .bool false] rfl rfl 31 _ X4.out.dw.k1 (by kernel_rfl) rfl (by kernel_rfl) ?_))
          generalize wr.setRow w.heap.size #[.int .i64 2, .int .i64 xc, .int .i64 xe, .int .i64 xn, .int .i64 sh, .int .i64 (1 + nu), .int .i64 0, .int .i64 0, .string ⟨#[]⟩, .string ⟨#[]⟩, .string ⟨#[]⟩, .string ⟨#[]⟩, .int .i64 0, .bool false, .int .i64 cd, .slice va vn vc, .bool false] = VE at *
          try simp only [Exit.inBlock, Exit.then]
          refine bodyPost_ret (v := .agg #[.int .i64 2, .int .i64 xc, .int .i64 xe, .int .i64 xn, .int .i64 sh, .int .i64 (1 + nu), .int .i64 0, .int .i64 0, .string ⟨#[]⟩, .string ⟨#[]⟩, .string ⟨#[]⟩, .string ⟨#[]⟩, .int .i64 0, .bool false, .int .i64 cd, .slice va vn vc, .bool false]) ?_ rfl ?_
          · exact results_cell_row rfl _ _ w.heap.size 31 _ (0, 0) _ rfl JE.out Tryd.underlying31 rfl (by kernel_rfl)
          · exact ⟨⟨⟨2, xc, xe, xn, sh, (1 + nu), 0, 0, ⟨#[]⟩, ⟨#[]⟩, ⟨#[]⟩, ⟨#[]⟩, 0, false, cd, l, false⟩, _, _, _, rfl, OE.out, (show List.length (l : List PB) ≤ 5 by omega)⟩, GE.out.gr, GE.out.cu⟩
  · have X0 : Hid (DM w V0 g b [.int .i64 0, .int .i64 0, .int .i64 0, .int .i64 0, .int .i64 0, .int .i64 0, .int .i64 0, .int .i64 0, .string ⟨#[]⟩, .string ⟨#[]⟩, .string ⟨#[]⟩, .string ⟨#[]⟩, .int .i64 0, .bool false, .int .i64 0, .slice none 0 0, .bool false] [.int .i64 3, .int .i64 xc, .int .i64 xe, .int .i64 xn, .int .i64 sh, .int .i64 0, .int .i64 0, .int .i64 0, .string ⟨#[]⟩, .string ⟨#[]⟩, .string ⟨#[]⟩, .string ⟨#[]⟩, .int .i64 0, .bool false, .int .i64 0, .slice none 0 0, .bool false] (.slice none 0 0) []) := XA.out
    clear XA
    have c0 := X0.out.dw.kb.cell (j := 0) rfl
    go_wp2_with fail
    refine (below_any g 3 _ X0.out.dw.dg.cu (by omega) (by omega)).mono ?_
    rintro r w1 ⟨⟨nu, rfl, hn0, hn1⟩, hg, hc⟩
    have Y1 := hid (X0.out.step hg hc)
    clear X0 hg hc
    have c5 := Y1.out.dw.kb.cell (j := 5) rfl
    have f5 := Y1.out.dw.kb.free 5
    have c0 := Y1.out.dw.kb.cell (j := 0) rfl
    have X1 : Hid (DM w (w1.setCell ⟨b, 5, none⟩ (.int .i64 (1 + nu))) g b [.int .i64 0, .int .i64 0, .int .i64 0, .int .i64 0, .int .i64 0, .int .i64 0, .int .i64 0, .int .i64 0, .string ⟨#[]⟩, .string ⟨#[]⟩, .string ⟨#[]⟩, .string ⟨#[]⟩, .int .i64 0, .bool false, .int .i64 0, .slice none 0 0, .bool false] [.int .i64 3, .int .i64 xc, .int .i64 xe, .int .i64 xn, .int .i64 sh, .int .i64 (1 + nu), .int .i64 0, .int .i64 0, .string ⟨#[]⟩, .string ⟨#[]⟩, .string ⟨#[]⟩, .string ⟨#[]⟩, .int .i64 0, .bool false, .int .i64 0, .slice none 0 0, .bool false] (.slice none 0 0) []) := (Y1.out.setE 5 (.int .i64 (1 + nu)) (ys := [.int .i64 3, .int .i64 xc, .int .i64 xe, .int .i64 xn, .int .i64 sh, .int .i64 (1 + nu), .int .i64 0, .int .i64 0, .string ⟨#[]⟩, .string ⟨#[]⟩, .string ⟨#[]⟩, .string ⟨#[]⟩, .int .i64 0, .bool false, .int .i64 0, .slice none 0 0, .bool false]) rfl)
    go_upto_region 4 with (fail)
    generalize (w1.setCell ⟨b, 5, none⟩ (.int .i64 (1 + nu))) = V1 at *
    clear c0 Y1 c5 f5
    have c0 := X1.out.dw.kb.cell (j := 0) rfl
    go_wp2_with fail
    refine (below_any g 3 _ X1.out.dw.dg.cu (by omega) (by omega)).mono ?_
    rintro r w2 ⟨⟨st, rfl, hn2, hn3⟩, hg, hc⟩
    have Y2 := hid (X1.out.step hg hc)
    clear X1 hg hc
    have c6 := Y2.out.dw.kb.cell (j := 6) rfl
    have f6 := Y2.out.dw.kb.free 6
    have c0 := Y2.out.dw.kb.cell (j := 0) rfl
    have X2 : Hid (DM w (w2.setCell ⟨b, 6, none⟩ (.int .i64 (1001 + st))) g b [.int .i64 0, .int .i64 0, .int .i64 0, .int .i64 0, .int .i64 0, .int .i64 0, .int .i64 0, .int .i64 0, .string ⟨#[]⟩, .string ⟨#[]⟩, .string ⟨#[]⟩, .string ⟨#[]⟩, .int .i64 0, .bool false, .int .i64 0, .slice none 0 0, .bool false] [.int .i64 3, .int .i64 xc, .int .i64 xe, .int .i64 xn, .int .i64 sh, .int .i64 (1 + nu), .int .i64 (1001 + st), .int .i64 0, .string ⟨#[]⟩, .string ⟨#[]⟩, .string ⟨#[]⟩, .string ⟨#[]⟩, .int .i64 0, .bool false, .int .i64 0, .slice none 0 0, .bool false] (.slice none 0 0) []) := (Y2.out.setE 6 (.int .i64 (1001 + st)) (ys := [.int .i64 3, .int .i64 xc, .int .i64 xe, .int .i64 xn, .int .i64 sh, .int .i64 (1 + nu), .int .i64 (1001 + st), .int .i64 0, .string ⟨#[]⟩, .string ⟨#[]⟩, .string ⟨#[]⟩, .string ⟨#[]⟩, .int .i64 0, .bool false, .int .i64 0, .slice none 0 0, .bool false]) rfl)
    go_upto_region 14 with (fail)
    generalize (w2.setCell ⟨b, 6, none⟩ (.int .i64 (1001 + st))) = V2 at *
    clear c0 Y2 c6 f6
    have JE := hid (X2.out.dw.k1.setRow [.int .i64 3, .int .i64 xc, .int .i64 xe, .int .i64 xn, .int .i64 sh, .int .i64 (1 + nu), .int .i64 (1001 + st), .int .i64 0, .string ⟨#[]⟩, .string ⟨#[]⟩, .string ⟨#[]⟩, .string ⟨#[]⟩, .int .i64 0, .bool false, .int .i64 0, .slice none 0 0, .bool false])
    have GE := hid (X2.out.dw.dg.row w.heap.size (Nat.le_refl _) #[.int .i64 3, .int .i64 xc, .int .i64 xe, .int .i64 xn, .int .i64 sh, .int .i64 (1 + nu), .int .i64 (1001 + st), .int .i64 0, .string ⟨#[]⟩, .string ⟨#[]⟩, .string ⟨#[]⟩, .string ⟨#[]⟩, .int .i64 0, .bool false, .int .i64 0, .slice none 0 0, .bool false])
    have OE : Hid (oqW (V2.setRow w.heap.size #[.int .i64 3, .int .i64 xc, .int .i64 xe, .int .i64 xn, .int .i64 sh, .int .i64 (1 + nu), .int .i64 (1001 + st), .int .i64 0, .string ⟨#[]⟩, .string ⟨#[]⟩, .string ⟨#[]⟩, .string ⟨#[]⟩, .int .i64 0, .bool false, .int .i64 0, .slice none 0 0, .bool false]) w.heap.size (.slice none 0 0) []) := (X2.out.ow.to (only_setRow (R := fun y => y = w.heap.size) rfl _) (fun y hy e => by have := X2.out.ow.lt hy; have := X2.out.dw.lt; omega)).base (by have := X2.out.dw.lt; omega)
    have c0 := X2.out.dw.kb.cell (j := 0) rfl
    have c14 := X2.out.dw.kb.cell (j := 14) rfl
    go_wp2_with (first
      | (refine wpList_load_row rfl 31 _ rfl b rfl 31 _ (0, 0) _ X2.out.dw.kb Tryd.underlying31 rfl (by kernel_rfl) ?_; go_frame)
      | (refine wpList_store_row rfl 31 _ _ rfl w.heap.size #[.int .i64 3, .int .i64 xc, .int .i64 xe, .int .i64 xn, .int .i64 sh, .int .i64 (1 + nu), .int .i64 (1001 + st), .int .i64 0, .string ⟨#[]⟩, .string ⟨#[]⟩, .string ⟨#[]⟩, .string ⟨#[]⟩, .int .i64 0, .bool false, .int .i64 0, .slice none 0 0, .bool false] rfl rfl 31 _ X2.out.dw.k1 (by kernel_rfl) rfl (by kernel_rfl) ?_))
    generalize V2.setRow w.heap.size #[.int .i64 3, .int .i64 xc, .int .i64 xe, .int .i64 xn, .int .i64 sh, .int .i64 (1 + nu), .int .i64 (1001 + st), .int .i64 0, .string ⟨#[]⟩, .string ⟨#[]⟩, .string ⟨#[]⟩, .string ⟨#[]⟩, .int .i64 0, .bool false, .int .i64 0, .slice none 0 0, .bool false] = VE at *
    try simp only [Exit.inBlock, Exit.then]
    refine bodyPost_ret (v := .agg #[.int .i64 3, .int .i64 xc, .int .i64 xe, .int .i64 xn, .int .i64 sh, .int .i64 (1 + nu), .int .i64 (1001 + st), .int .i64 0, .string ⟨#[]⟩, .string ⟨#[]⟩, .string ⟨#[]⟩, .string ⟨#[]⟩, .int .i64 0, .bool false, .int .i64 0, .slice none 0 0, .bool false]) ?_ rfl ?_
    · exact results_cell_row rfl _ _ w.heap.size 31 _ (0, 0) _ rfl JE.out Tryd.underlying31 rfl (by kernel_rfl)
    · exact ⟨⟨⟨3, xc, xe, xn, sh, (1 + nu), (1001 + st), 0, ⟨#[]⟩, ⟨#[]⟩, ⟨#[]⟩, ⟨#[]⟩, 0, false, 0, [], false⟩, _, _, _, rfl, OE.out, (show List.length ([] : List PB) ≤ 5 by simp)⟩, GE.out.gr, GE.out.cu⟩
  · have X0 : Hid (DM w V0 g b [.int .i64 0, .int .i64 0, .int .i64 0, .int .i64 0, .int .i64 0, .int .i64 0, .int .i64 0, .int .i64 0, .string ⟨#[]⟩, .string ⟨#[]⟩, .string ⟨#[]⟩, .string ⟨#[]⟩, .int .i64 0, .bool false, .int .i64 0, .slice none 0 0, .bool false] [.int .i64 4, .int .i64 xc, .int .i64 xe, .int .i64 xn, .int .i64 sh, .int .i64 0, .int .i64 0, .int .i64 0, .string ⟨#[]⟩, .string ⟨#[]⟩, .string ⟨#[]⟩, .string ⟨#[]⟩, .int .i64 0, .bool false, .int .i64 0, .slice none 0 0, .bool false] (.slice none 0 0) []) := XA.out
    clear XA
    have c0 := X0.out.dw.kb.cell (j := 0) rfl
    go_wp2_with fail
    refine (below_any g 2 _ X0.out.dw.dg.cu (by omega) (by omega)).mono ?_
    rintro r w1 ⟨⟨z, rfl, hn2, hn3⟩, hg, hc⟩
    have Y1 := hid (X0.out.step hg hc)
    clear X0 hg hc
    have c16 := Y1.out.dw.kb.cell (j := 16) rfl
    have f16 := Y1.out.dw.kb.free 16
    have c0 := Y1.out.dw.kb.cell (j := 0) rfl
    have X1 : Hid (DM w (w1.setCell ⟨b, 16, none⟩ (.bool (z == 0))) g b [.int .i64 0, .int .i64 0, .int .i64 0, .int .i64 0, .int .i64 0, .int .i64 0, .int .i64 0, .int .i64 0, .string ⟨#[]⟩, .string ⟨#[]⟩, .string ⟨#[]⟩, .string ⟨#[]⟩, .int .i64 0, .bool false, .int .i64 0, .slice none 0 0, .bool false] [.int .i64 4, .int .i64 xc, .int .i64 xe, .int .i64 xn, .int .i64 sh, .int .i64 0, .int .i64 0, .int .i64 0, .string ⟨#[]⟩, .string ⟨#[]⟩, .string ⟨#[]⟩, .string ⟨#[]⟩, .int .i64 0, .bool false, .int .i64 0, .slice none 0 0, .bool (z == 0)] (.slice none 0 0) []) := (Y1.out.setE 16 (.bool (z == 0)) (ys := [.int .i64 4, .int .i64 xc, .int .i64 xe, .int .i64 xn, .int .i64 sh, .int .i64 0, .int .i64 0, .int .i64 0, .string ⟨#[]⟩, .string ⟨#[]⟩, .string ⟨#[]⟩, .string ⟨#[]⟩, .int .i64 0, .bool false, .int .i64 0, .slice none 0 0, .bool (z == 0)]) rfl)
    go_upto_region 16 with (fail)
    generalize (w1.setCell ⟨b, 16, none⟩ (.bool (z == 0))) = V1 at *
    clear c0 Y1 c16 f16
    have JE := hid (X1.out.dw.k1.setRow [.int .i64 4, .int .i64 xc, .int .i64 xe, .int .i64 xn, .int .i64 sh, .int .i64 0, .int .i64 0, .int .i64 0, .string ⟨#[]⟩, .string ⟨#[]⟩, .string ⟨#[]⟩, .string ⟨#[]⟩, .int .i64 0, .bool false, .int .i64 0, .slice none 0 0, .bool (z == 0)])
    have GE := hid (X1.out.dw.dg.row w.heap.size (Nat.le_refl _) #[.int .i64 4, .int .i64 xc, .int .i64 xe, .int .i64 xn, .int .i64 sh, .int .i64 0, .int .i64 0, .int .i64 0, .string ⟨#[]⟩, .string ⟨#[]⟩, .string ⟨#[]⟩, .string ⟨#[]⟩, .int .i64 0, .bool false, .int .i64 0, .slice none 0 0, .bool (z == 0)])
    have OE : Hid (oqW (V1.setRow w.heap.size #[.int .i64 4, .int .i64 xc, .int .i64 xe, .int .i64 xn, .int .i64 sh, .int .i64 0, .int .i64 0, .int .i64 0, .string ⟨#[]⟩, .string ⟨#[]⟩, .string ⟨#[]⟩, .string ⟨#[]⟩, .int .i64 0, .bool false, .int .i64 0, .slice none 0 0, .bool (z == 0)]) w.heap.size (.slice none 0 0) []) := (X1.out.ow.to (only_setRow (R := fun y => y = w.heap.size) rfl _) (fun y hy e => by have := X1.out.ow.lt hy; have := X1.out.dw.lt; omega)).base (by have := X1.out.dw.lt; omega)
    have c0 := X1.out.dw.kb.cell (j := 0) rfl
    have c14 := X1.out.dw.kb.cell (j := 14) rfl
    go_wp2_with (first
      | (refine wpList_load_row rfl 31 _ rfl b rfl 31 _ (0, 0) _ X1.out.dw.kb Tryd.underlying31 rfl (by kernel_rfl) ?_; go_frame)
      | (refine wpList_store_row rfl 31 _ _ rfl w.heap.size #[.int .i64 4, .int .i64 xc, .int .i64 xe, .int .i64 xn, .int .i64 sh, .int .i64 0, .int .i64 0, .int .i64 0, .string ⟨#[]⟩, .string ⟨#[]⟩, .string ⟨#[]⟩, .string ⟨#[]⟩, .int .i64 0, .bool false, .int .i64 0, .slice none 0 0, .bool (z == 0)] rfl rfl 31 _ X1.out.dw.k1 (by kernel_rfl) rfl (by kernel_rfl) ?_))
    generalize V1.setRow w.heap.size #[.int .i64 4, .int .i64 xc, .int .i64 xe, .int .i64 xn, .int .i64 sh, .int .i64 0, .int .i64 0, .int .i64 0, .string ⟨#[]⟩, .string ⟨#[]⟩, .string ⟨#[]⟩, .string ⟨#[]⟩, .int .i64 0, .bool false, .int .i64 0, .slice none 0 0, .bool (z == 0)] = VE at *
    try simp only [Exit.inBlock, Exit.then]
    refine bodyPost_ret (v := .agg #[.int .i64 4, .int .i64 xc, .int .i64 xe, .int .i64 xn, .int .i64 sh, .int .i64 0, .int .i64 0, .int .i64 0, .string ⟨#[]⟩, .string ⟨#[]⟩, .string ⟨#[]⟩, .string ⟨#[]⟩, .int .i64 0, .bool false, .int .i64 0, .slice none 0 0, .bool (z == 0)]) ?_ rfl ?_
    · exact results_cell_row rfl _ _ w.heap.size 31 _ (0, 0) _ rfl JE.out Tryd.underlying31 rfl (by kernel_rfl)
    · exact ⟨⟨⟨4, xc, xe, xn, sh, 0, 0, 0, ⟨#[]⟩, ⟨#[]⟩, ⟨#[]⟩, ⟨#[]⟩, 0, false, 0, [], (z == 0)⟩, _, _, _, rfl, OE.out, (show List.length ([] : List PB) ≤ 5 by simp)⟩, GE.out.gr, GE.out.cu⟩
  · have X0 : Hid (DM w V0 g b [.int .i64 0, .int .i64 0, .int .i64 0, .int .i64 0, .int .i64 0, .int .i64 0, .int .i64 0, .int .i64 0, .string ⟨#[]⟩, .string ⟨#[]⟩, .string ⟨#[]⟩, .string ⟨#[]⟩, .int .i64 0, .bool false, .int .i64 0, .slice none 0 0, .bool false] [.int .i64 5, .int .i64 xc, .int .i64 xe, .int .i64 xn, .int .i64 sh, .int .i64 0, .int .i64 0, .int .i64 0, .string ⟨#[]⟩, .string ⟨#[]⟩, .string ⟨#[]⟩, .string ⟨#[]⟩, .int .i64 0, .bool false, .int .i64 0, .slice none 0 0, .bool false] (.slice none 0 0) []) := XA.out
    clear XA
    have c0 := X0.out.dw.kb.cell (j := 0) rfl
    go_wp2_with fail
    refine (below_any g 2 _ X0.out.dw.dg.cu (by omega) (by omega)).mono ?_
    rintro r w1 ⟨⟨z, rfl, hn2, hn3⟩, hg, hc⟩
    have Y1 := hid (X0.out.step hg hc)
    clear X0 hg hc
    have c16 := Y1.out.dw.kb.cell (j := 16) rfl
    have f16 := Y1.out.dw.kb.free 16
    have c0 := Y1.out.dw.kb.cell (j := 0) rfl
    have X1 : Hid (DM w (w1.setCell ⟨b, 16, none⟩ (.bool (z == 0))) g b [.int .i64 0, .int .i64 0, .int .i64 0, .int .i64 0, .int .i64 0, .int .i64 0, .int .i64 0, .int .i64 0, .string ⟨#[]⟩, .string ⟨#[]⟩, .string ⟨#[]⟩, .string ⟨#[]⟩, .int .i64 0, .bool false, .int .i64 0, .slice none 0 0, .bool false] [.int .i64 5, .int .i64 xc, .int .i64 xe, .int .i64 xn, .int .i64 sh, .int .i64 0, .int .i64 0, .int .i64 0, .string ⟨#[]⟩, .string ⟨#[]⟩, .string ⟨#[]⟩, .string ⟨#[]⟩, .int .i64 0, .bool false, .int .i64 0, .slice none 0 0, .bool (z == 0)] (.slice none 0 0) []) := (Y1.out.setE 16 (.bool (z == 0)) (ys := [.int .i64 5, .int .i64 xc, .int .i64 xe, .int .i64 xn, .int .i64 sh, .int .i64 0, .int .i64 0, .int .i64 0, .string ⟨#[]⟩, .string ⟨#[]⟩, .string ⟨#[]⟩, .string ⟨#[]⟩, .int .i64 0, .bool false, .int .i64 0, .slice none 0 0, .bool (z == 0)]) rfl)
    go_upto_region 16 with (fail)
    generalize (w1.setCell ⟨b, 16, none⟩ (.bool (z == 0))) = V1 at *
    clear c0 Y1 c16 f16
    have JE := hid (X1.out.dw.k1.setRow [.int .i64 5, .int .i64 xc, .int .i64 xe, .int .i64 xn, .int .i64 sh, .int .i64 0, .int .i64 0, .int .i64 0, .string ⟨#[]⟩, .string ⟨#[]⟩, .string ⟨#[]⟩, .string ⟨#[]⟩, .int .i64 0, .bool false, .int .i64 0, .slice none 0 0, .bool (z == 0)])
    have GE := hid (X1.out.dw.dg.row w.heap.size (Nat.le_refl _) #[.int .i64 5, .int .i64 xc, .int .i64 xe, .int .i64 xn, .int .i64 sh, .int .i64 0, .int .i64 0, .int .i64 0, .string ⟨#[]⟩, .string ⟨#[]⟩, .string ⟨#[]⟩, .string ⟨#[]⟩, .int .i64 0, .bool false, .int .i64 0, .slice none 0 0, .bool (z == 0)])
    have OE : Hid (oqW (V1.setRow w.heap.size #[.int .i64 5, .int .i64 xc, .int .i64 xe, .int .i64 xn, .int .i64 sh, .int .i64 0, .int .i64 0, .int .i64 0, .string ⟨#[]⟩, .string ⟨#[]⟩, .string ⟨#[]⟩, .string ⟨#[]⟩, .int .i64 0, .bool false, .int .i64 0, .slice none 0 0, .bool (z == 0)]) w.heap.size (.slice none 0 0) []) := (X1.out.ow.to (only_setRow (R := fun y => y = w.heap.size) rfl _) (fun y hy e => by have := X1.out.ow.lt hy; have := X1.out.dw.lt; omega)).base (by have := X1.out.dw.lt; omega)
    have c0 := X1.out.dw.kb.cell (j := 0) rfl
    have c14 := X1.out.dw.kb.cell (j := 14) rfl
    go_wp2_with (first
      | (refine wpList_load_row rfl 31 _ rfl b rfl 31 _ (0, 0) _ X1.out.dw.kb Tryd.underlying31 rfl (by kernel_rfl) ?_; go_frame)
      | (refine wpList_store_row rfl 31 _ _ rfl w.heap.size #[.int .i64 5, .int .i64 xc, .int .i64 xe, .int .i64 xn, .int .i64 sh, .int .i64 0, .int .i64 0, .int .i64 0, .string ⟨#[]⟩, .string ⟨#[]⟩, .string ⟨#[]⟩, .string ⟨#[]⟩, .int .i64 0, .bool false, .int .i64 0, .slice none 0 0, .bool (z == 0)] rfl rfl 31 _ X1.out.dw.k1 (by kernel_rfl) rfl (by kernel_rfl) ?_))
    generalize V1.setRow w.heap.size #[.int .i64 5, .int .i64 xc, .int .i64 xe, .int .i64 xn, .int .i64 sh, .int .i64 0, .int .i64 0, .int .i64 0, .string ⟨#[]⟩, .string ⟨#[]⟩, .string ⟨#[]⟩, .string ⟨#[]⟩, .int .i64 0, .bool false, .int .i64 0, .slice none 0 0, .bool (z == 0)] = VE at *
    try simp only [Exit.inBlock, Exit.then]
    refine bodyPost_ret (v := .agg #[.int .i64 5, .int .i64 xc, .int .i64 xe, .int .i64 xn, .int .i64 sh, .int .i64 0, .int .i64 0, .int .i64 0, .string ⟨#[]⟩, .string ⟨#[]⟩, .string ⟨#[]⟩, .string ⟨#[]⟩, .int .i64 0, .bool false, .int .i64 0, .slice none 0 0, .bool (z == 0)]) ?_ rfl ?_
    · exact results_cell_row rfl _ _ w.heap.size 31 _ (0, 0) _ rfl JE.out Tryd.underlying31 rfl (by kernel_rfl)
    · exact ⟨⟨⟨5, xc, xe, xn, sh, 0, 0, 0, ⟨#[]⟩, ⟨#[]⟩, ⟨#[]⟩, ⟨#[]⟩, 0, false, 0, [], (z == 0)⟩, _, _, _, rfl, OE.out, (show List.length ([] : List PB) ≤ 5 by simp)⟩, GE.out.gr, GE.out.cu⟩
  · have X0 : Hid (DM w V0 g b [.int .i64 0, .int .i64 0, .int .i64 0, .int .i64 0, .int .i64 0, .int .i64 0, .int .i64 0, .int .i64 0, .string ⟨#[]⟩, .string ⟨#[]⟩, .string ⟨#[]⟩, .string ⟨#[]⟩, .int .i64 0, .bool false, .int .i64 0, .slice none 0 0, .bool false] [.int .i64 6, .int .i64 xc, .int .i64 xe, .int .i64 xn, .int .i64 sh, .int .i64 0, .int .i64 0, .int .i64 0, .string ⟨#[]⟩, .string ⟨#[]⟩, .string ⟨#[]⟩, .string ⟨#[]⟩, .int .i64 0, .bool false, .int .i64 0, .slice none 0 0, .bool false] (.slice none 0 0) []) := XA.out
    clear XA
    have c0 := X0.out.dw.kb.cell (j := 0) rfl
    have JE := hid (X0.out.dw.k1.setRow [.int .i64 6, .int .i64 xc, .int .i64 xe, .int .i64 xn, .int .i64 sh, .int .i64 0, .int .i64 0, .int .i64 0, .string ⟨#[]⟩, .string ⟨#[]⟩, .string ⟨#[]⟩, .string ⟨#[]⟩, .int .i64 0, .bool false, .int .i64 0, .slice none 0 0, .bool false])
    have GE := hid (X0.out.dw.dg.row w.heap.size (Nat.le_refl _) #[.int .i64 6, .int .i64 xc, .int .i64 xe, .int .i64 xn, .int .i64 sh, .int .i64 0, .int .i64 0, .int .i64 0, .string ⟨#[]⟩, .string ⟨#[]⟩, .string ⟨#[]⟩, .string ⟨#[]⟩, .int .i64 0, .bool false, .int .i64 0, .slice none 0 0, .bool false])
    have OE : Hid (oqW (V0.setRow w.heap.size #[.int .i64 6, .int .i64 xc, .int .i64 xe, .int .i64 xn, .int .i64 sh, .int .i64 0, .int .i64 0, .int .i64 0, .string ⟨#[]⟩, .string ⟨#[]⟩, .string ⟨#[]⟩, .string ⟨#[]⟩, .int .i64 0, .bool false, .int .i64 0, .slice none 0 0, .bool false]) w.heap.size (.slice none 0 0) []) := (X0.out.ow.to (only_setRow (R := fun y => y = w.heap.size) rfl _) (fun y hy e => by have := X0.out.ow.lt hy; have := X0.out.dw.lt; omega)).base (by have := X0.out.dw.lt; omega)
    have c0 := X0.out.dw.kb.cell (j := 0) rfl
    have c14 := X0.out.dw.kb.cell (j := 14) rfl
    go_wp2_with (first
      | (refine wpList_load_row rfl 31 _ rfl b rfl 31 _ (0, 0) _ X0.out.dw.kb Tryd.underlying31 rfl (by kernel_rfl) ?_; go_frame)
      | (refine wpList_store_row rfl 31 _ _ rfl w.heap.size #[.int .i64 6, .int .i64 xc, .int .i64 xe, .int .i64 xn, .int .i64 sh, .int .i64 0, .int .i64 0, .int .i64 0, .string ⟨#[]⟩, .string ⟨#[]⟩, .string ⟨#[]⟩, .string ⟨#[]⟩, .int .i64 0, .bool false, .int .i64 0, .slice none 0 0, .bool false] rfl rfl 31 _ X0.out.dw.k1 (by kernel_rfl) rfl (by kernel_rfl) ?_))
    generalize V0.setRow w.heap.size #[.int .i64 6, .int .i64 xc, .int .i64 xe, .int .i64 xn, .int .i64 sh, .int .i64 0, .int .i64 0, .int .i64 0, .string ⟨#[]⟩, .string ⟨#[]⟩, .string ⟨#[]⟩, .string ⟨#[]⟩, .int .i64 0, .bool false, .int .i64 0, .slice none 0 0, .bool false] = VE at *
    try simp only [Exit.inBlock, Exit.then]
    refine bodyPost_ret (v := .agg #[.int .i64 6, .int .i64 xc, .int .i64 xe, .int .i64 xn, .int .i64 sh, .int .i64 0, .int .i64 0, .int .i64 0, .string ⟨#[]⟩, .string ⟨#[]⟩, .string ⟨#[]⟩, .string ⟨#[]⟩, .int .i64 0, .bool false, .int .i64 0, .slice none 0 0, .bool false]) ?_ rfl ?_
    · exact results_cell_row rfl _ _ w.heap.size 31 _ (0, 0) _ rfl JE.out Tryd.underlying31 rfl (by kernel_rfl)
    · exact ⟨⟨⟨6, xc, xe, xn, sh, 0, 0, 0, ⟨#[]⟩, ⟨#[]⟩, ⟨#[]⟩, ⟨#[]⟩, 0, false, 0, [], false⟩, _, _, _, rfl, OE.out, (show List.length ([] : List PB) ≤ 5 by simp)⟩, GE.out.gr, GE.out.cu⟩
  · have X0 : Hid (DM w V0 g b [.int .i64 0, .int .i64 0, .int .i64 0, .int .i64 0, .int .i64 0, .int .i64 0, .int .i64 0, .int .i64 0, .string ⟨#[]⟩, .string ⟨#[]⟩, .string ⟨#[]⟩, .string ⟨#[]⟩, .int .i64 0, .bool false, .int .i64 0, .slice none 0 0, .bool false] [.int .i64 7, .int .i64 xc, .int .i64 xe, .int .i64 xn, .int .i64 sh, .int .i64 0, .int .i64 0, .int .i64 0, .string ⟨#[]⟩, .string ⟨#[]⟩, .string ⟨#[]⟩, .string ⟨#[]⟩, .int .i64 0, .bool false, .int .i64 0, .slice none 0 0, .bool false] (.slice none 0 0) []) := XA.out
    clear XA
    have c0 := X0.out.dw.kb.cell (j := 0) rfl
    have JE := hid (X0.out.dw.k1.setRow [.int .i64 7, .int .i64 xc, .int .i64 xe, .int .i64 xn, .int .i64 sh, .int .i64 0, .int .i64 0, .int .i64 0, .string ⟨#[]⟩, .string ⟨#[]⟩, .string ⟨#[]⟩, .string ⟨#[]⟩, .int .i64 0, .bool false, .int .i64 0, .slice none 0 0, .bool false])
    have GE := hid (X0.out.dw.dg.row w.heap.size (Nat.le_refl _) #[.int .i64 7, .int .i64 xc, .int .i64 xe, .int .i64 xn, .int .i64 sh, .int .i64 0, .int .i64 0, .int .i64 0, .string ⟨#[]⟩, .string ⟨#[]⟩, .string ⟨#[]⟩, .string ⟨#[]⟩, .int .i64 0, .bool false, .int .i64 0, .slice none 0 0, .bool false])
    have OE : Hid (oqW (V0.setRow w.heap.size #[.int .i64 7, .int .i64 xc, .int .i64 xe, .int .i64 xn, .int .i64 sh, .int .i64 0, .int .i64 0, .int .i64 0, .string ⟨#[]⟩, .string ⟨#[]⟩, .string ⟨#[]⟩, .string ⟨#[]⟩, .int .i64 0, .bool false, .int .i64 0, .slice none 0 0, .bool false]) w.heap.size (.slice none 0 0) []) := (X0.out.ow.to (only_setRow (R := fun y => y = w.heap.size) rfl _) (fun y hy e => by have := X0.out.ow.lt hy; have := X0.out.dw.lt; omega)).base (by have := X0.out.dw.lt; omega)
    have c0 := X0.out.dw.kb.cell (j := 0) rfl
    have c14 := X0.out.dw.kb.cell (j := 14) rfl
    go_wp2_with (first
      | (refine wpList_load_row rfl 31 _ rfl b rfl 31 _ (0, 0) _ X0.out.dw.kb Tryd.underlying31 rfl (by kernel_rfl) ?_; go_frame)
      | (refine wpList_store_row rfl 31 _ _ rfl w.heap.size #[.int .i64 7, .int .i64 xc, .int .i64 xe, .int .i64 xn, .int .i64 sh, .int .i64 0, .int .i64 0, .int .i64 0, .string ⟨#[]⟩, .string ⟨#[]⟩, .string ⟨#[]⟩, .string ⟨#[]⟩, .int .i64 0, .bool false, .int .i64 0, .slice none 0 0, .bool false] rfl rfl 31 _ X0.out.dw.k1 (by kernel_rfl) rfl (by kernel_rfl) ?_))
    generalize V0.setRow w.heap.size #[.int .i64 7, .int .i64 xc, .int .i64 xe, .int .i64 xn, .int .i64 sh, .int .i64 0, .int .i64 0, .int .i64 0, .string ⟨#[]⟩, .string ⟨#[]⟩, .string ⟨#[]⟩, .string ⟨#[]⟩, .int .i64 0, .bool false, .int .i64 0, .slice none 0 0, .bool false] = VE at *
    try simp only [Exit.inBlock, Exit.then]
    refine bodyPost_ret (v := .agg #[.int .i64 7, .int .i64 xc, .int .i64 xe, .int .i64 xn, .int .i64 sh, .int .i64 0, .int .i64 0, .int .i64 0, .string ⟨#[]⟩, .string ⟨#[]⟩, .string ⟨#[]⟩, .string ⟨#[]⟩, .int .i64 0, .bool false, .int .i64 0, .slice none 0 0, .bool false]) ?_ rfl ?_
    · exact results_cell_row rfl _ _ w.heap.size 31 _ (0, 0) _ rfl JE.out Tryd.underlying31 rfl (by kernel_rfl)
    · exact ⟨⟨⟨7, xc, xe, xn, sh, 0, 0, 0, ⟨#[]⟩, ⟨#[]⟩, ⟨#[]⟩, ⟨#[]⟩, 0, false, 0, [], false⟩, _, _, _, rfl, OE.out, (show List.length ([] : List PB) ≤ 5 by simp)⟩, GE.out.gr, GE.out.cu⟩
end Go.Proofs.YtbaggkfgnjenoacDoor
