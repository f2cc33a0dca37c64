/-
  The asks that the laws draw: some ask.
-/
import Derived.Test.YtbaggkfgnjenoacDoorMg5
import Derived.Test.YtbaggkfgnjenoacDoorMg6
import Derived.Test.YtbaggkfgnjenoacDoorMg1
import Derived.Deep.WholeRow
import Derived.Test.YtbaggkfgnjenoacDoorMg7
import Derived.Test.YtbaggkfgnjenoacDoorMg8
import Derived.Test.YtbaggkfgnjenoacDoorMg9
import Derived.Test.YtbaggkfgnjenoacDoorMg10
import Derived.Test.YtbaggkfgnjenoacDoorMg11
import Derived.Test.YtbaggkfgnjenoacDoorMg12
import Derived.Test.YtbaggkfgnjenoacDoorMg13
import Derived.Test.YtbaggkfgnjenoacDoorMg14
import Derived.Test.YtbaggkfgnjenoacDoorMg2
namespace Go.Proofs.YtbaggkfgnjenoacDoor
open Go.RowKit
set_option linter.unusedVariables false
/-- A draw so far, with the result's box and that of what is drawn. -/
structure DW (w v : World) (g b : Nat) (T : TypeId) (zs cs : List Value) : Prop where
  dg : DG w v g
  k1 : Bk v w.heap.size T zs
  kb : Bk v b T cs
  lt : w.heap.size < b
theorem DW.step {w v v' : World} {g b : Nat} {T : TypeId} {zs cs : List Value} (h : DW w v g b T zs cs) (hg : v.grownBy v' (some g)) (hc : Cu v' g) : DW w v' g b T zs cs :=
  ⟨h.dg.step hg hc, h.k1.grownR hg (by have := h.dg.ng; omega), h.kb.grownR hg (by have := h.dg.ng; have := h.lt; omega), h.lt⟩
theorem DW.setE {w v : World} {g b : Nat} {T : TypeId} {zs cs : List Value} (h : DW w v g b T zs cs) (j : Nat) (x : Value) {ys : List Value} (e : cs.set j x = ys) : DW w (v.setCell ⟨b, j, none⟩ x) g b T zs ys :=
  ⟨h.dg.set (Nat.le_of_lt h.lt) _ _, h.k1.setOther (by have := h.lt; omega) _ _, by rw [← e]; exact h.kb.set j x, h.lt⟩
theorem DG.row {w v : World} {g : Nat} (h : DG w v g) (b : Nat) (hb : w.heap.size ≤ b) (cs : Array Value) : DG w (v.setRow b cs) g := by
  have ho := only_setRow (R := fun y => y = b) (w := v) (g := b) rfl cs
  have hng := h.ng
  have h2 : v.grownBy (v.setRow b cs) (some b) := ⟨ho.os, ho.tape, ho.output, ho.size, fun k hk hne => ho.block k hk (fun e => hne (by rw [e]))⟩
  refine ⟨⟨h2.os.trans h.gr.os, h2.tape.trans h.gr.tape, h2.output.trans h.gr.output, Nat.le_trans h.gr.size h2.size, fun k hk hne => ?_⟩, h.cu.kept h2 (fun k e => by cases e; omega), hng⟩
  exact (h2.block k (Nat.lt_of_lt_of_le hk h.gr.size) (fun e => by cases e; omega)).trans (h.gr.block k hk hne)
set_option maxHeartbeats 8000000 in
set_option maxRecDepth 20000 in
theorem l09Ask_any (g : Nat) (w : World) (h : Cu w g) : Calls Tryd.prog 49 #[.pointer (some ⟨g, 0, none⟩)] w fun r w' => (∃ (k : Int) (ky vl lo hi : ByteArray) (mo : Int) (bk : Bool), r = .returned (.agg #[.int .i64 k, .string ky, .string vl, .string lo, .string hi, .int .i64 mo, .bool bk])) ∧ w.grownBy w' (some g) ∧ Cu w' g := by
  have D0 := hid ((DG.start h).alloc (.cells #[.int .i64 0, .string ⟨#[]⟩, .string ⟨#[]⟩, .string ⟨#[]⟩, .string ⟨#[]⟩, .int .i64 0, .bool false] 28))
  have K0 := hid (Bk.new w 28 [.int .i64 0, .string ⟨#[]⟩, .string ⟨#[]⟩, .string ⟨#[]⟩, .string ⟨#[]⟩, .int .i64 0, .bool false])
  clear h
  go_enter Tryd.func49, Tryd.ntmps49
  go_wp2_with fail
  refine (below_any g 4 _ D0.out.cu (by omega) (by omega)).mono ?_
  generalize w.alloc (.cells #[.int .i64 0, .string ⟨#[]⟩, .string ⟨#[]⟩, .string ⟨#[]⟩, .string ⟨#[]⟩, .int .i64 0, .bool false] 28) = U at *
  rintro r w1 ⟨⟨x, rfl, hx0, hx1⟩, hg, hc⟩
  have D1 := hid (D0.out.step hg hc)
  have K1 := hid (K0.out.grownR hg (by have := D0.out.ng; omega))
  have hlt : w.heap.size < w1.heap.size := K1.out.lt
  clear D0 K0 hg hc
  have X0 : Hid (DW w (w1.alloc (.cells #[.int .i64 (1 + x), .string ⟨#[]⟩, .string ⟨#[]⟩, .string ⟨#[]⟩, .string ⟨#[]⟩, .int .i64 0, .bool false] 28)) g w1.heap.size 28 [.int .i64 0, .string ⟨#[]⟩, .string ⟨#[]⟩, .string ⟨#[]⟩, .string ⟨#[]⟩, .int .i64 0, .bool false] [.int .i64 (1 + x), .string ⟨#[]⟩, .string ⟨#[]⟩, .string ⟨#[]⟩, .string ⟨#[]⟩, .int .i64 0, .bool false]) := ⟨D1.out.alloc _, K1.out.alloc _, Bk.new w1 _ _, hlt⟩
  clear D1 K1
  go_upto_region 3 with (first
    | (refine wpList_store_row rfl 28 _ _ rfl w1.heap.size _ rfl rfl 28 _ (heap_alloc_new w1 _) (by kernel_rfl) rfl (by kernel_rfl) ?_; rw [World.setRow_alloc_new]))
  generalize w1.alloc (.cells #[.int .i64 (1 + x), .string ⟨#[]⟩, .string ⟨#[]⟩, .string ⟨#[]⟩, .string ⟨#[]⟩, .int .i64 0, .bool false] 28) = V0 at *
  generalize w1.heap.size = b at *
  by_cases h4 : 1 + x = 4
  · skip
    go_wp2_with fail
    refine (l08Reach_any g _ X0.out.dg.cu).mono ?_
    rintro r w1 ⟨⟨lo, hi, rfl⟩, hg, hc⟩
    have Y1 := hid (X0.out.step hg hc)
    clear X0 hg hc
    have c3 := Y1.out.kb.cell (j := 3) rfl
    have f3 := Y1.out.kb.free 3
    have c4 := Y1.out.kb.cell (j := 4) rfl
    have f4 := Y1.out.kb.free 4
    have X1 : Hid (DW w ((w1.setCell ⟨b, 3, none⟩ (.string lo)).setCell ⟨b, 4, none⟩ (.string hi)) g b 28 [.int .i64 0, .string ⟨#[]⟩, .string ⟨#[]⟩, .string ⟨#[]⟩, .string ⟨#[]⟩, .int .i64 0, .bool false] [.int .i64 (1 + x), .string ⟨#[]⟩, .string ⟨#[]⟩, .string lo, .string hi, .int .i64 0, .bool false]) := ((Y1.out.setE 3 (.string lo) (ys := [.int .i64 (1 + x), .string ⟨#[]⟩, .string ⟨#[]⟩, .string lo, .string ⟨#[]⟩, .int .i64 0, .bool false]) rfl).setE 4 (.string hi) (ys := [.int .i64 (1 + x), .string ⟨#[]⟩, .string ⟨#[]⟩, .string lo, .string hi, .int .i64 0, .bool false]) rfl)
    go_upto_region 5 with (fail)
    generalize ((w1.setCell ⟨b, 3, none⟩ (.string lo)).setCell ⟨b, 4, none⟩ (.string hi)) = V1 at *
    clear Y1 c3 f3 c4 f4
    go_wp2_with fail
    refine (below_any g 8 _ X1.out.dg.cu (by omega) (by omega)).mono ?_
    rintro r w2 ⟨⟨y, rfl, hy0, hy1⟩, hg, hc⟩
    have Y2 := hid (X1.out.step hg hc)
    clear X1 hg hc
    have c5 := Y2.out.kb.cell (j := 5) rfl
    have f5 := Y2.out.kb.free 5
    have X2 : Hid (DW w (w2.setCell ⟨b, 5, none⟩ (.int .i64 (1 + y))) g b 28 [.int .i64 0, .string ⟨#[]⟩, .string ⟨#[]⟩, .string ⟨#[]⟩, .string ⟨#[]⟩, .int .i64 0, .bool false] [.int .i64 (1 + x), .string ⟨#[]⟩, .string ⟨#[]⟩, .string lo, .string hi, .int .i64 (1 + y), .bool false]) := (Y2.out.setE 5 (.int .i64 (1 + y)) (ys := [.int .i64 (1 + x), .string ⟨#[]⟩, .string ⟨#[]⟩, .string lo, .string hi, .int .i64 (1 + y), .bool false]) rfl)
    go_upto_region 6 with (fail)
    generalize (w2.setCell ⟨b, 5, none⟩ (.int .i64 (1 + y))) = V2 at *
    clear Y2 c5 f5
    go_wp2_with fail
    refine (below_any g 2 _ X2.out.dg.cu (by omega) (by omega)).mono ?_
    rintro r w3 ⟨⟨z, rfl, hz0, hz1⟩, hg, hc⟩
    have Y3 := hid (X2.out.step hg hc)
    clear X2 hg hc
    have c6 := Y3.out.kb.cell (j := 6) rfl
    have f6 := Y3.out.kb.free 6
    have X3 : Hid (DW w (w3.setCell ⟨b, 6, none⟩ (.bool (z == 0))) g b 28 [.int .i64 0, .string ⟨#[]⟩, .string ⟨#[]⟩, .string ⟨#[]⟩, .string ⟨#[]⟩, .int .i64 0, .bool false] [.int .i64 (1 + x), .string ⟨#[]⟩, .string ⟨#[]⟩, .string lo, .string hi, .int .i64 (1 + y), .bool (z == 0)]) := (Y3.out.setE 6 (.bool (z == 0)) (ys := [.int .i64 (1 + x), .string ⟨#[]⟩, .string ⟨#[]⟩, .string lo, .string hi, .int .i64 (1 + y), .bool (z == 0)]) rfl)
    go_upto_region 7 with (fail)
    generalize (w3.setCell ⟨b, 6, none⟩ (.bool (z == 0))) = V3 at *
    clear Y3 c6 f6
    have JE := hid (X3.out.k1.setRow [.int .i64 (1 + x), .string ⟨#[]⟩, .string ⟨#[]⟩, .string lo, .string hi, .int .i64 (1 + y), .bool (z == 0)])
    have GE := hid (X3.out.dg.row w.heap.size (Nat.le_refl _) #[.int .i64 (1 + x), .string ⟨#[]⟩, .string ⟨#[]⟩, .string lo, .string hi, .int .i64 (1 + y), .bool (z == 0)])
    go_wp2_with (first
      | (refine wpList_load_row rfl 28 _ rfl b rfl 28 _ (0, 0) _ X3.out.kb Tryd.underlying28 rfl (by kernel_rfl) ?_; go_frame)
      | (refine wpList_store_row rfl 28 _ _ rfl w.heap.size #[.int .i64 (1 + x), .string ⟨#[]⟩, .string ⟨#[]⟩, .string lo, .string hi, .int .i64 (1 + y), .bool (z == 0)] rfl rfl 28 _ X3.out.k1 (by kernel_rfl) rfl (by kernel_rfl) ?_))
    generalize V3.setRow w.heap.size #[.int .i64 (1 + x), .string ⟨#[]⟩, .string ⟨#[]⟩, .string lo, .string hi, .int .i64 (1 + y), .bool (z == 0)] = VE at *
    try simp only [Exit.inBlock, Exit.then]
    refine bodyPost_ret (v := .agg #[.int .i64 (1 + x), .string ⟨#[]⟩, .string ⟨#[]⟩, .string lo, .string hi, .int .i64 (1 + y), .bool (z == 0)]) ?_ rfl ?_
    · exact results_cell_row rfl _ _ w.heap.size 28 _ (0, 0) _ rfl JE.out Tryd.underlying28 rfl (by kernel_rfl)
    · exact ⟨⟨_, _, _, _, _, _, _, rfl⟩, GE.out.gr, GE.out.cu⟩
  · skip
    go_wp2_with fail
    refine (l08User_any g _ X0.out.dg.cu).mono ?_
    rintro r w1 ⟨⟨ky, rfl⟩, hg, hc⟩
    have Y1 := hid (X0.out.step hg hc)
    clear X0 hg hc
    have c1 := Y1.out.kb.cell (j := 1) rfl
    have f1 := Y1.out.kb.free 1
    have X1 : Hid (DW w (w1.setCell ⟨b, 1, none⟩ (.string ky)) g b 28 [.int .i64 0, .string ⟨#[]⟩, .string ⟨#[]⟩, .string ⟨#[]⟩, .string ⟨#[]⟩, .int .i64 0, .bool false] [.int .i64 (1 + x), .string ky, .string ⟨#[]⟩, .string ⟨#[]⟩, .string ⟨#[]⟩, .int .i64 0, .bool false]) := (Y1.out.setE 1 (.string ky) (ys := [.int .i64 (1 + x), .string ky, .string ⟨#[]⟩, .string ⟨#[]⟩, .string ⟨#[]⟩, .int .i64 0, .bool false]) rfl)
    go_upto_region 9 with (fail)
    generalize (w1.setCell ⟨b, 1, none⟩ (.string ky)) = V1 at *
    clear Y1 c1 f1
    by_cases h2 : 1 + x = 2
    · skip
      go_wp2_with fail
      refine (l08Uval_any g _ X1.out.dg.cu).mono ?_
      rintro r w2 ⟨⟨vl, rfl⟩, hg, hc⟩
      have Y2 := hid (X1.out.step hg hc)
      clear X1 hg hc
      have c2 := Y2.out.kb.cell (j := 2) rfl
      have f2 := Y2.out.kb.free 2
      have X2 : Hid (DW w (w2.setCell ⟨b, 2, none⟩ (.string vl)) g b 28 [.int .i64 0, .string ⟨#[]⟩, .string ⟨#[]⟩, .string ⟨#[]⟩, .string ⟨#[]⟩, .int .i64 0, .bool false] [.int .i64 (1 + x), .string ky, .string vl, .string ⟨#[]⟩, .string ⟨#[]⟩, .int .i64 0, .bool false]) := (Y2.out.setE 2 (.string vl) (ys := [.int .i64 (1 + x), .string ky, .string vl, .string ⟨#[]⟩, .string ⟨#[]⟩, .int .i64 0, .bool false]) rfl)
      go_upto_region 11 with (fail)
      generalize (w2.setCell ⟨b, 2, none⟩ (.string vl)) = V2 at *
      clear Y2 c2 f2
      have JE := hid (X2.out.k1.setRow [.int .i64 (1 + x), .string ky, .string vl, .string ⟨#[]⟩, .string ⟨#[]⟩, .int .i64 0, .bool false])
      have GE := hid (X2.out.dg.row w.heap.size (Nat.le_refl _) #[.int .i64 (1 + x), .string ky, .string vl, .string ⟨#[]⟩, .string ⟨#[]⟩, .int .i64 0, .bool false])
      go_wp2_with (first
        | (refine wpList_load_row rfl 28 _ rfl b rfl 28 _ (0, 0) _ X2.out.kb Tryd.underlying28 rfl (by kernel_rfl) ?_; go_frame)
        | (refine wpList_store_row rfl 28 _ _ rfl w.heap.size #[.int .i64 (1 + x), .string ky, .string vl, .string ⟨#[]⟩, .string ⟨#[]⟩, .int .i64 0, .bool false] rfl rfl 28 _ X2.out.k1 (by kernel_rfl) rfl (by kernel_rfl) ?_))
      generalize V2.setRow w.heap.size #[.int .i64 (1 + x), .string ky, .string vl, .string ⟨#[]⟩, .string ⟨#[]⟩, .int .i64 0, .bool false] = VE at *
      try simp only [Exit.inBlock, Exit.then]
      refine bodyPost_ret (v := .agg #[.int .i64 (1 + x), .string ky, .string vl, .string ⟨#[]⟩, .string ⟨#[]⟩, .int .i64 0, .bool false]) ?_ rfl ?_
      · exact results_cell_row rfl _ _ w.heap.size 28 _ (0, 0) _ rfl JE.out Tryd.underlying28 rfl (by kernel_rfl)
      · exact ⟨⟨_, _, _, _, _, _, _, rfl⟩, GE.out.gr, GE.out.cu⟩
    · skip
      go_upto_region 11 with (fail)
      have JE := hid (X1.out.k1.setRow [.int .i64 (1 + x), .string ky, .string ⟨#[]⟩, .string ⟨#[]⟩, .string ⟨#[]⟩, .int .i64 0, .bool false])
      have GE := hid (X1.out.dg.row w.heap.size (Nat.le_refl _) #[.int .i64 (1 + x), .string ky, .string ⟨#[]⟩, .string ⟨#[]⟩, .string ⟨#[]⟩, .int .i64 0, .bool false])
      go_wp2_with (first
        | (refine wpList_load_row rfl 28 _ rfl b rfl 28 _ (0, 0) _ X1.out.kb Tryd.underlying28 rfl (by kernel_rfl) ?_; go_frame)
        | (refine wpList_store_row rfl 28 _ _ rfl w.heap.size #[.int .i64 (1 + x), .string ky, .string ⟨#[]⟩, .string ⟨#[]⟩, .string ⟨#[]⟩, .int .i64 0, .bool false] rfl rfl 28 _ X1.out.k1 (by kernel_rfl) rfl (by kernel_rfl) ?_))
      generalize V1.setRow w.heap.size #[.int .i64 (1 + x), .string ky, .string ⟨#[]⟩, .string ⟨#[]⟩, .string ⟨#[]⟩, .int .i64 0, .bool false] = VE at *
      try simp only [Exit.inBlock, Exit.then]
      refine bodyPost_ret (v := .agg #[.int .i64 (1 + x), .string ky, .string ⟨#[]⟩, .string ⟨#[]⟩, .string ⟨#[]⟩, .int .i64 0, .bool false]) ?_ rfl ?_
      · exact results_cell_row rfl _ _ w.heap.size 28 _ (0, 0) _ rfl JE.out Tryd.underlying28 rfl (by kernel_rfl)
      · exact ⟨⟨_, _, _, _, _, _, _, rfl⟩, GE.out.gr, GE.out.cu⟩
end Go.Proofs.YtbaggkfgnjenoacDoor
/-
  The asks that the laws draw: any ask.
-/
namespace Go.Proofs.YtbaggkfgnjenoacDoor
open Go.RowKit
set_option linter.unusedVariables false
theorem DW.alloc {w v : World} {g b : Nat} {T : TypeId} {zs cs : List Value} (h : DW w v g b T zs cs) (o : Obj) : DW w (v.alloc o) g b T zs cs := ⟨h.dg.alloc o, h.k1.alloc o, h.kb.alloc o, h.lt⟩
set_option maxHeartbeats 16000000 in
set_option maxRecDepth 20000 in
theorem l09AnyAsk_any (g : Nat) (w : World) (h : Cu w g) : Calls Tryd.prog 34 #[.pointer (some ⟨g, 0, none⟩)] w fun r w' => (∃ (k : Int) (ky vl lo hi : ByteArray) (mo : Int) (bk : Bool), r = .returned (.agg #[.int .i64 k, .string ky, .string vl, .string lo, .string hi, .int .i64 mo, .bool bk])) ∧ w.grownBy w' (some g) ∧ Cu w' g := by
  have D0 := hid ((DG.start h).alloc (.cells #[.int .i64 0, .string ⟨#[]⟩, .string ⟨#[]⟩, .string ⟨#[]⟩, .string ⟨#[]⟩, .int .i64 0, .bool false] 28))
  have K0 := hid (Bk.new w 28 [.int .i64 0, .string ⟨#[]⟩, .string ⟨#[]⟩, .string ⟨#[]⟩, .string ⟨#[]⟩, .int .i64 0, .bool false])
  clear h
  go_enter Tryd.func34, Tryd.ntmps34
  go_wp2_with fail
  refine (l09Ask_any g _ D0.out.cu).mono ?_
  generalize w.alloc (.cells #[.int .i64 0, .string ⟨#[]⟩, .string ⟨#[]⟩, .string ⟨#[]⟩, .string ⟨#[]⟩, .int .i64 0, .bool false] 28) = U at *
  rintro r w1 ⟨⟨k, ky, vl, lo, hi, mo, bk, rfl⟩, hg, hc⟩
  have D1 := hid (D0.out.step hg hc)
  have K1 := hid (K0.out.grownR hg (by have := D0.out.ng; omega))
  have hlt : w.heap.size < w1.heap.size := K1.out.lt
  clear D0 K0 hg hc
  have XA : Hid (DW w (w1.alloc (.cells #[.int .i64 k, .string ky, .string vl, .string lo, .string hi, .int .i64 mo, .bool bk] 28)) g w1.heap.size 28 [.int .i64 0, .string ⟨#[]⟩, .string ⟨#[]⟩, .string ⟨#[]⟩, .string ⟨#[]⟩, .int .i64 0, .bool false] [.int .i64 k, .string ky, .string vl, .string lo, .string hi, .int .i64 mo, .bool bk]) := ⟨D1.out.alloc _, K1.out.alloc _, Bk.new w1 _ _, hlt⟩
  clear D1 K1
  go_wp2_with (refine wpList_store_row rfl 28 _ _ rfl w1.heap.size _ rfl rfl 28 _ (heap_alloc_new w1 _) (by kernel_rfl) rfl (by kernel_rfl) ?_; rw [World.setRow_alloc_new])
  refine (below_any g 14 _ XA.out.dg.cu (by omega) (by omega)).mono ?_
  generalize w1.alloc (.cells #[.int .i64 k, .string ky, .string vl, .string lo, .string hi, .int .i64 mo, .bool bk] 28) = VA at *
  generalize w1.heap.size = b at *
  rintro r V0 ⟨⟨x, rfl, hx0, hx1⟩, hg, hc⟩
  have X0 := hid (XA.out.step hg hc)
  clear XA hg hc
  by_cases e0 : x = 0
  · subst e0
    go_wp2_with fail
    refine (raw_cu g _ X0.out.dg.cu).mono ?_
    rintro r w1 ⟨⟨y, rfl, hy0, hy1⟩, hg, hc⟩
    have Y1 := hid (X0.out.step hg hc)
    clear X0 hg hc
    have c0 := Y1.out.kb.cell (j := 0) rfl
    have f0 := Y1.out.kb.free 0
    have X1 : Hid (DW w (w1.setCell ⟨b, 0, none⟩ (.int .i64 y)) g b 28 [.int .i64 0, .string ⟨#[]⟩, .string ⟨#[]⟩, .string ⟨#[]⟩, .string ⟨#[]⟩, .int .i64 0, .bool false] [.int .i64 y, .string ky, .string vl, .string lo, .string hi, .int .i64 mo, .bool bk]) := (Y1.out.setE 0 (.int .i64 y) (ys := [.int .i64 y, .string ky, .string vl, .string lo, .string hi, .int .i64 mo, .bool bk]) rfl)
    go_upto_region 13 with (fail)
    generalize (w1.setCell ⟨b, 0, none⟩ (.int .i64 y)) = V1 at *
    clear Y1 c0 f0
    have JE := hid (X1.out.k1.setRow [.int .i64 y, .string ky, .string vl, .string lo, .string hi, .int .i64 mo, .bool bk])
    have GE := hid (X1.out.dg.row w.heap.size (Nat.le_refl _) #[.int .i64 y, .string ky, .string vl, .string lo, .string hi, .int .i64 mo, .bool bk])
    go_wp2_with (first
      | (refine wpList_load_row rfl 28 _ rfl b rfl 28 _ (0, 0) _ X1.out.kb Tryd.underlying28 rfl (by kernel_rfl) ?_; go_frame)
      | (refine wpList_store_row rfl 28 _ _ rfl w.heap.size #[.int .i64 y, .string ky, .string vl, .string lo, .string hi, .int .i64 mo, .bool bk] rfl rfl 28 _ X1.out.k1 (by kernel_rfl) rfl (by kernel_rfl) ?_))
    generalize V1.setRow w.heap.size #[.int .i64 y, .string ky, .string vl, .string lo, .string hi, .int .i64 mo, .bool bk] = VE at *
    try simp only [Exit.inBlock, Exit.then]
    refine bodyPost_ret (v := .agg #[.int .i64 y, .string ky, .string vl, .string lo, .string hi, .int .i64 mo, .bool bk]) ?_ rfl ?_
    · exact results_cell_row rfl _ _ w.heap.size 28 _ (0, 0) _ rfl JE.out Tryd.underlying28 rfl (by kernel_rfl)
    · exact ⟨⟨_, _, _, _, _, _, _, rfl⟩, GE.out.gr, GE.out.cu⟩
  · by_cases e1 : x = 1
    · subst e1
      have XT := hid (X0.out.alloc (.cells #[.string ⟨#[]⟩, .string ⟨#[122, 122, 122, 122, 122, 122, 122, 122, 122]⟩, .string ⟨#[97]⟩] 9))
      have KT := hid (Bk.new V0 9 [.string ⟨#[]⟩, .string ⟨#[122, 122, 122, 122, 122, 122, 122, 122, 122]⟩, .string ⟨#[97]⟩])
      have hTb : V0.heap.size ≠ g := by have := X0.out.dg.cu.lt; omega
      go_wp2_with fail
      refine (below_any g 3 _ XT.out.dg.cu (by omega) (by omega)).mono ?_
      generalize V0.alloc (.cells #[.string ⟨#[]⟩, .string ⟨#[122, 122, 122, 122, 122, 122, 122, 122, 122]⟩, .string ⟨#[97]⟩] 9) = VT at *
      generalize V0.heap.size = bT at *
      rintro r w2 ⟨⟨y, rfl, hy0, hy1⟩, hg, hc⟩
      have Y1 := hid (XT.out.step hg hc)
      have K2 := hid (KT.out.grownR hg hTb)
      clear XT KT X0 hg hc
      have hy : y = 0 ∨ y = 1 ∨ y = 2 := by omega
      clear hy0 hy1
      rcases hy with rfl | rfl | rfl
      · skip
        have t0 := K2.out.cell (j := 0) rfl
        have c1 := Y1.out.kb.cell (j := 1) rfl
        have f1 := Y1.out.kb.free 1
        have X1 : Hid (DW w (w2.setCell ⟨b, 1, none⟩ (.string ⟨#[]⟩)) g b 28 [.int .i64 0, .string ⟨#[]⟩, .string ⟨#[]⟩, .string ⟨#[]⟩, .string ⟨#[]⟩, .int .i64 0, .bool false] [.int .i64 k, .string ⟨#[]⟩, .string vl, .string lo, .string hi, .int .i64 mo, .bool bk]) := Y1.out.setE 1 (.string ⟨#[]⟩) (ys := [.int .i64 k, .string ⟨#[]⟩, .string vl, .string lo, .string hi, .int .i64 mo, .bool bk]) rfl
        go_upto_region 13 with (fail)
        generalize (w2.setCell ⟨b, 1, none⟩ (.string ⟨#[]⟩)) = V1 at *
        clear t0 c1 f1 Y1 K2
        have JE := hid (X1.out.k1.setRow [.int .i64 k, .string ⟨#[]⟩, .string vl, .string lo, .string hi, .int .i64 mo, .bool bk])
        have GE := hid (X1.out.dg.row w.heap.size (Nat.le_refl _) #[.int .i64 k, .string ⟨#[]⟩, .string vl, .string lo, .string hi, .int .i64 mo, .bool bk])
        go_wp2_with (first
          | (refine wpList_load_row rfl 28 _ rfl b rfl 28 _ (0, 0) _ X1.out.kb Tryd.underlying28 rfl (by kernel_rfl) ?_; go_frame)
          | (refine wpList_store_row rfl 28 _ _ rfl w.heap.size #[.int .i64 k, .string ⟨#[]⟩, .string vl, .string lo, .string hi, .int .i64 mo, .bool bk] rfl rfl 28 _ X1.out.k1 (by kernel_rfl) rfl (by kernel_rfl) ?_))
        generalize V1.setRow w.heap.size #[.int .i64 k, .string ⟨#[]⟩, .string vl, .string lo, .string hi, .int .i64 mo, .bool bk] = VE at *
        try simp only [Exit.inBlock, Exit.then]
        refine bodyPost_ret (v := .agg #[.int .i64 k, .string ⟨#[]⟩, .string vl, .string lo, .string hi, .int .i64 mo, .bool bk]) ?_ rfl ?_
        · exact results_cell_row rfl _ _ w.heap.size 28 _ (0, 0) _ rfl JE.out Tryd.underlying28 rfl (by kernel_rfl)
        · exact ⟨⟨_, _, _, _, _, _, _, rfl⟩, GE.out.gr, GE.out.cu⟩
      · skip
        have t0 := K2.out.cell (j := 1) rfl
        have c1 := Y1.out.kb.cell (j := 1) rfl
        have f1 := Y1.out.kb.free 1
        have X1 : Hid (DW w (w2.setCell ⟨b, 1, none⟩ (.string ⟨#[122, 122, 122, 122, 122, 122, 122, 122, 122]⟩)) g b 28 [.int .i64 0, .string ⟨#[]⟩, .string ⟨#[]⟩, .string ⟨#[]⟩, .string ⟨#[]⟩, .int .i64 0, .bool false] [.int .i64 k, .string ⟨#[122, 122, 122, 122, 122, 122, 122, 122, 122]⟩, .string vl, .string lo, .string hi, .int .i64 mo, .bool bk]) := Y1.out.setE 1 (.string ⟨#[122, 122, 122, 122, 122, 122, 122, 122, 122]⟩) (ys := [.int .i64 k, .string ⟨#[122, 122, 122, 122, 122, 122, 122, 122, 122]⟩, .string vl, .string lo, .string hi, .int .i64 mo, .bool bk]) rfl
        go_upto_region 13 with (fail)
        generalize (w2.setCell ⟨b, 1, none⟩ (.string ⟨#[122, 122, 122, 122, 122, 122, 122, 122, 122]⟩)) = V1 at *
        clear t0 c1 f1 Y1 K2
        have JE := hid (X1.out.k1.setRow [.int .i64 k, .string ⟨#[122, 122, 122, 122, 122, 122, 122, 122, 122]⟩, .string vl, .string lo, .string hi, .int .i64 mo, .bool bk])
        have GE := hid (X1.out.dg.row w.heap.size (Nat.le_refl _) #[.int .i64 k, .string ⟨#[122, 122, 122, 122, 122, 122, 122, 122, 122]⟩, .string vl, .string lo, .string hi, .int .i64 mo, .bool bk])
        go_wp2_with (first
          | (refine wpList_load_row rfl 28 _ rfl b rfl 28 _ (0, 0) _ X1.out.kb Tryd.underlying28 rfl (by kernel_rfl) ?_; go_frame)
          | (refine wpList_store_row rfl 28 _ _ rfl w.heap.size #[.int .i64 k, .string ⟨#[122, 122, 122, 122, 122, 122, 122, 122, 122]⟩, .string vl, .string lo, .string hi, .int .i64 mo, .bool bk] rfl rfl 28 _ X1.out.k1 (by kernel_rfl) rfl (by kernel_rfl) ?_))
        generalize V1.setRow w.heap.size #[.int .i64 k, .string ⟨#[122, 122, 122, 122, 122, 122, 122, 122, 122]⟩, .string vl, .string lo, .string hi, .int .i64 mo, .bool bk] = VE at *
        try simp only [Exit.inBlock, Exit.then]
        refine bodyPost_ret (v := .agg #[.int .i64 k, .string ⟨#[122, 122, 122, 122, 122, 122, 122, 122, 122]⟩, .string vl, .string lo, .string hi, .int .i64 mo, .bool bk]) ?_ rfl ?_
        · exact results_cell_row rfl _ _ w.heap.size 28 _ (0, 0) _ rfl JE.out Tryd.underlying28 rfl (by kernel_rfl)
        · exact ⟨⟨_, _, _, _, _, _, _, rfl⟩, GE.out.gr, GE.out.cu⟩
      · skip
        have t0 := K2.out.cell (j := 2) rfl
        have c1 := Y1.out.kb.cell (j := 1) rfl
        have f1 := Y1.out.kb.free 1
        have X1 : Hid (DW w (w2.setCell ⟨b, 1, none⟩ (.string ⟨#[97]⟩)) g b 28 [.int .i64 0, .string ⟨#[]⟩, .string ⟨#[]⟩, .string ⟨#[]⟩, .string ⟨#[]⟩, .int .i64 0, .bool false] [.int .i64 k, .string ⟨#[97]⟩, .string vl, .string lo, .string hi, .int .i64 mo, .bool bk]) := Y1.out.setE 1 (.string ⟨#[97]⟩) (ys := [.int .i64 k, .string ⟨#[97]⟩, .string vl, .string lo, .string hi, .int .i64 mo, .bool bk]) rfl
        go_upto_region 13 with (fail)
        generalize (w2.setCell ⟨b, 1, none⟩ (.string ⟨#[97]⟩)) = V1 at *
        clear t0 c1 f1 Y1 K2
        have JE := hid (X1.out.k1.setRow [.int .i64 k, .string ⟨#[97]⟩, .string vl, .string lo, .string hi, .int .i64 mo, .bool bk])
        have GE := hid (X1.out.dg.row w.heap.size (Nat.le_refl _) #[.int .i64 k, .string ⟨#[97]⟩, .string vl, .string lo, .string hi, .int .i64 mo, .bool bk])
        go_wp2_with (first
          | (refine wpList_load_row rfl 28 _ rfl b rfl 28 _ (0, 0) _ X1.out.kb Tryd.underlying28 rfl (by kernel_rfl) ?_; go_frame)
          | (refine wpList_store_row rfl 28 _ _ rfl w.heap.size #[.int .i64 k, .string ⟨#[97]⟩, .string vl, .string lo, .string hi, .int .i64 mo, .bool bk] rfl rfl 28 _ X1.out.k1 (by kernel_rfl) rfl (by kernel_rfl) ?_))
        generalize V1.setRow w.heap.size #[.int .i64 k, .string ⟨#[97]⟩, .string vl, .string lo, .string hi, .int .i64 mo, .bool bk] = VE at *
        try simp only [Exit.inBlock, Exit.then]
        refine bodyPost_ret (v := .agg #[.int .i64 k, .string ⟨#[97]⟩, .string vl, .string lo, .string hi, .int .i64 mo, .bool bk]) ?_ rfl ?_
        · exact results_cell_row rfl _ _ w.heap.size 28 _ (0, 0) _ rfl JE.out Tryd.underlying28 rfl (by kernel_rfl)
        · exact ⟨⟨_, _, _, _, _, _, _, rfl⟩, GE.out.gr, GE.out.cu⟩
    · by_cases e2 : x = 2
      · subst e2
        have XT := hid (X0.out.alloc (.cells #[.int .i64 0, .int .i64 9, .int .i64 1] 3))
        have KT := hid (Bk.new V0 3 [.int .i64 0, .int .i64 9, .int .i64 1])
        have hTb : V0.heap.size ≠ g := by have := X0.out.dg.cu.lt; omega
        go_wp2_with fail
        refine (below_any g 3 _ XT.out.dg.cu (by omega) (by omega)).mono ?_
        generalize V0.alloc (.cells #[.int .i64 0, .int .i64 9, .int .i64 1] 3) = VT at *
        generalize V0.heap.size = bT at *
        rintro r w2 ⟨⟨y, rfl, hy0, hy1⟩, hg, hc⟩
        have Y1 := hid (XT.out.step hg hc)
        have K2 := hid (KT.out.grownR hg hTb)
        clear XT KT X0 hg hc
        have hy : y = 0 ∨ y = 1 ∨ y = 2 := by omega
        clear hy0 hy1
        rcases hy with rfl | rfl | rfl
        · skip
          have t0 := K2.out.cell (j := 0) rfl
          have c5 := Y1.out.kb.cell (j := 5) rfl
          have f5 := Y1.out.kb.free 5
          have X1 : Hid (DW w (w2.setCell ⟨b, 5, none⟩ (.int .i64 0)) g b 28 [.int .i64 0, .string ⟨#[]⟩, .string ⟨#[]⟩, .string ⟨#[]⟩, .string ⟨#[]⟩, .int .i64 0, .bool false] [.int .i64 k, .string ky, .string vl, .string lo, .string hi, .int .i64 0, .bool bk]) := Y1.out.setE 5 (.int .i64 0) (ys := [.int .i64 k, .string ky, .string vl, .string lo, .string hi, .int .i64 0, .bool bk]) rfl
          go_upto_region 13 with (fail)
          generalize (w2.setCell ⟨b, 5, none⟩ (.int .i64 0)) = V1 at *
          clear t0 c5 f5 Y1 K2
          have JE := hid (X1.out.k1.setRow [.int .i64 k, .string ky, .string vl, .string lo, .string hi, .int .i64 0, .bool bk])
          have GE := hid (X1.out.dg.row w.heap.size (Nat.le_refl _) #[.int .i64 k, .string ky, .string vl, .string lo, .string hi, .int .i64 0, .bool bk])
          go_wp2_with (first
            | (refine wpList_load_row rfl 28 _ rfl b rfl 28 _ (0, 0) _ X1.out.kb Tryd.underlying28 rfl (by kernel_rfl) ?_; go_frame)
            | (refine wpList_store_row rfl 28 _ _ rfl w.heap.size #[.int .i64 k, .string ky, .string vl, .string lo, .string hi, .int .i64 0, .bool bk] rfl rfl 28 _ X1.out.k1 (by kernel_rfl) rfl (by kernel_rfl) ?_))
          generalize V1.setRow w.heap.size #[.int .i64 k, .string ky, .string vl, .string lo, .string hi, .int .i64 0, .bool bk] = VE at *
          try simp only [Exit.inBlock, Exit.then]
          refine bodyPost_ret (v := .agg #[.int .i64 k, .string ky, .string vl, .string lo, .string hi, .int .i64 0, .bool bk]) ?_ rfl ?_
          · exact results_cell_row rfl _ _ w.heap.size 28 _ (0, 0) _ rfl JE.out Tryd.underlying28 rfl (by kernel_rfl)
          · exact ⟨⟨_, _, _, _, _, _, _, rfl⟩, GE.out.gr, GE.out.cu⟩
        · skip
          have t0 := K2.out.cell (j := 1) rfl
          have c5 := Y1.out.kb.cell (j := 5) rfl
          have f5 := Y1.out.kb.free 5
          have X1 : Hid (DW w (w2.setCell ⟨b, 5, none⟩ (.int .i64 9)) g b 28 [.int .i64 0, .string ⟨#[]⟩, .string ⟨#[]⟩, .string ⟨#[]⟩, .string ⟨#[]⟩, .int .i64 0, .bool false] [.int .i64 k, .string ky, .string vl, .string lo, .string hi, .int .i64 9, .bool bk]) := Y1.out.setE 5 (.int .i64 9) (ys := [.int .i64 k, .string ky, .string vl, .string lo, .string hi, .int .i64 9, .bool bk]) rfl
          go_upto_region 13 with (fail)
          generalize (w2.setCell ⟨b, 5, none⟩ (.int .i64 9)) = V1 at *
          clear t0 c5 f5 Y1 K2
          have JE := hid (X1.out.k1.setRow [.int .i64 k, .string ky, .string vl, .string lo, .string hi, .int .i64 9, .bool bk])
          have GE := hid (X1.out.dg.row w.heap.size (Nat.le_refl _) #[.int .i64 k, .string ky, .string vl, .string lo, .string hi, .int .i64 9, .bool bk])
          go_wp2_with (first
            | (refine wpList_load_row rfl 28 _ rfl b rfl 28 _ (0, 0) _ X1.out.kb Tryd.underlying28 rfl (by kernel_rfl) ?_; go_frame)
            | (refine wpList_store_row rfl 28 _ _ rfl w.heap.size #[.int .i64 k, .string ky, .string vl, .string lo, .string hi, .int .i64 9, .bool bk] rfl rfl 28 _ X1.out.k1 (by kernel_rfl) rfl (by kernel_rfl) ?_))
          generalize V1.setRow w.heap.size #[.int .i64 k, .string ky, .string vl, .string lo, .string hi, .int .i64 9, .bool bk] = VE at *
          try simp only [Exit.inBlock, Exit.then]
          refine bodyPost_ret (v := .agg #[.int .i64 k, .string ky, .string vl, .string lo, .string hi, .int .i64 9, .bool bk]) ?_ rfl ?_
          · exact results_cell_row rfl _ _ w.heap.size 28 _ (0, 0) _ rfl JE.out Tryd.underlying28 rfl (by kernel_rfl)
          · exact ⟨⟨_, _, _, _, _, _, _, rfl⟩, GE.out.gr, GE.out.cu⟩
        · skip
          have t0 := K2.out.cell (j := 2) rfl
          have c5 := Y1.out.kb.cell (j := 5) rfl
          have f5 := Y1.out.kb.free 5
          have X1 : Hid (DW w (w2.setCell ⟨b, 5, none⟩ (.int .i64 1)) g b 28 [.int .i64 0, .string ⟨#[]⟩, .string ⟨#[]⟩, .string ⟨#[]⟩, .string ⟨#[]⟩, .int .i64 0, .bool false] [.int .i64 k, .string ky, .string vl, .string lo, .string hi, .int .i64 1, .bool bk]) := Y1.out.setE 5 (.int .i64 1) (ys := [.int .i64 k, .string ky, .string vl, .string lo, .string hi, .int .i64 1, .bool bk]) rfl
          go_upto_region 13 with (fail)
          generalize (w2.setCell ⟨b, 5, none⟩ (.int .i64 1)) = V1 at *
          clear t0 c5 f5 Y1 K2
          have JE := hid (X1.out.k1.setRow [.int .i64 k, .string ky, .string vl, .string lo, .string hi, .int .i64 1, .bool bk])
          have GE := hid (X1.out.dg.row w.heap.size (Nat.le_refl _) #[.int .i64 k, .string ky, .string vl, .string lo, .string hi, .int .i64 1, .bool bk])
          go_wp2_with (first
            | (refine wpList_load_row rfl 28 _ rfl b rfl 28 _ (0, 0) _ X1.out.kb Tryd.underlying28 rfl (by kernel_rfl) ?_; go_frame)
            | (refine wpList_store_row rfl 28 _ _ rfl w.heap.size #[.int .i64 k, .string ky, .string vl, .string lo, .string hi, .int .i64 1, .bool bk] rfl rfl 28 _ X1.out.k1 (by kernel_rfl) rfl (by kernel_rfl) ?_))
          generalize V1.setRow w.heap.size #[.int .i64 k, .string ky, .string vl, .string lo, .string hi, .int .i64 1, .bool bk] = VE at *
          try simp only [Exit.inBlock, Exit.then]
          refine bodyPost_ret (v := .agg #[.int .i64 k, .string ky, .string vl, .string lo, .string hi, .int .i64 1, .bool bk]) ?_ rfl ?_
          · exact results_cell_row rfl _ _ w.heap.size 28 _ (0, 0) _ rfl JE.out Tryd.underlying28 rfl (by kernel_rfl)
          · exact ⟨⟨_, _, _, _, _, _, _, rfl⟩, GE.out.gr, GE.out.cu⟩
      · by_cases e3 : x = 3
        · subst e3
          go_wp2_with fail
          refine (anyRange_any g _ X0.out.dg.cu).mono ?_
          rintro r w1 ⟨⟨lo2, hi2, rfl⟩, hg, hc⟩
          have Y1 := hid (X0.out.step hg hc)
          clear X0 hg hc
          have c3 := Y1.out.kb.cell (j := 3) rfl
          have f3 := Y1.out.kb.free 3
          have c4 := Y1.out.kb.cell (j := 4) rfl
          have f4 := Y1.out.kb.free 4
          have X1 : Hid (DW w ((w1.setCell ⟨b, 3, none⟩ (.string lo2)).setCell ⟨b, 4, none⟩ (.string hi2)) g b 28 [.int .i64 0, .string ⟨#[]⟩, .string ⟨#[]⟩, .string ⟨#[]⟩, .string ⟨#[]⟩, .int .i64 0, .bool false] [.int .i64 k, .string ky, .string vl, .string lo2, .string hi2, .int .i64 mo, .bool bk]) := ((Y1.out.setE 3 (.string lo2) (ys := [.int .i64 k, .string ky, .string vl, .string lo2, .string hi, .int .i64 mo, .bool bk]) rfl).setE 4 (.string hi2) (ys := [.int .i64 k, .string ky, .string vl, .string lo2, .string hi2, .int .i64 mo, .bool bk]) rfl)
          go_upto_region 13 with (fail)
          generalize ((w1.setCell ⟨b, 3, none⟩ (.string lo2)).setCell ⟨b, 4, none⟩ (.string hi2)) = V1 at *
          clear Y1 c3 f3 c4 f4
          have JE := hid (X1.out.k1.setRow [.int .i64 k, .string ky, .string vl, .string lo2, .string hi2, .int .i64 mo, .bool bk])
          have GE := hid (X1.out.dg.row w.heap.size (Nat.le_refl _) #[.int .i64 k, .string ky, .string vl, .string lo2, .string hi2, .int .i64 mo, .bool bk])
          go_wp2_with (first
            | (refine wpList_load_row rfl 28 _ rfl b rfl 28 _ (0, 0) _ X1.out.kb Tryd.underlying28 rfl (by kernel_rfl) ?_; go_frame)
            | (refine wpList_store_row rfl 28 _ _ rfl w.heap.size #[.int .i64 k, .string ky, .string vl, .string lo2, .string hi2, .int .i64 mo, .bool bk] rfl rfl 28 _ X1.out.k1 (by kernel_rfl) rfl (by kernel_rfl) ?_))
          generalize V1.setRow w.heap.size #[.int .i64 k, .string ky, .string vl, .string lo2, .string hi2, .int .i64 mo, .bool bk] = VE at *
          try simp only [Exit.inBlock, Exit.then]
          refine bodyPost_ret (v := .agg #[.int .i64 k, .string ky, .string vl, .string lo2, .string hi2, .int .i64 mo, .bool bk]) ?_ rfl ?_
          · exact results_cell_row rfl _ _ w.heap.size 28 _ (0, 0) _ rfl JE.out Tryd.underlying28 rfl (by kernel_rfl)
          · exact ⟨⟨_, _, _, _, _, _, _, rfl⟩, GE.out.gr, GE.out.cu⟩
        · by_cases e4 : x = 4
          · subst e4
            have c6 := X0.out.kb.cell (j := 6) rfl
            have f6 := X0.out.kb.free 6
            have X1 : Hid (DW w (V0.setCell ⟨b, 6, none⟩ (.bool !bk)) g b 28 [.int .i64 0, .string ⟨#[]⟩, .string ⟨#[]⟩, .string ⟨#[]⟩, .string ⟨#[]⟩, .int .i64 0, .bool false] [.int .i64 k, .string ky, .string vl, .string lo, .string hi, .int .i64 mo, .bool !bk]) := X0.out.setE 6 (.bool !bk) (ys := [.int .i64 k, .string ky, .string vl, .string lo, .string hi, .int .i64 mo, .bool !bk]) rfl
            go_upto_region 13 with (fail)
            generalize (V0.setCell ⟨b, 6, none⟩ (.bool !bk)) = V1 at *
            clear c6 f6 X0
            have JE := hid (X1.out.k1.setRow [.int .i64 k, .string ky, .string vl, .string lo, .string hi, .int .i64 mo, .bool !bk])
            have GE := hid (X1.out.dg.row w.heap.size (Nat.le_refl _) #[.int .i64 k, .string ky, .string vl, .string lo, .string hi, .int .i64 mo, .bool !bk])
            go_wp2_with (first
              | (refine wpList_load_row rfl 28 _ rfl b rfl 28 _ (0, 0) _ X1.out.kb Tryd.underlying28 rfl (by kernel_rfl) ?_; go_frame)
              | (refine wpList_store_row rfl 28 _ _ rfl w.heap.size #[.int .i64 k, .string ky, .string vl, .string lo, .string hi, .int .i64 mo, .bool !bk] rfl rfl 28 _ X1.out.k1 (by kernel_rfl) rfl (by kernel_rfl) ?_))
            generalize V1.setRow w.heap.size #[.int .i64 k, .string ky, .string vl, .string lo, .string hi, .int .i64 mo, .bool !bk] = VE at *
            try simp only [Exit.inBlock, Exit.then]
            refine bodyPost_ret (v := .agg #[.int .i64 k, .string ky, .string vl, .string lo, .string hi, .int .i64 mo, .bool !bk]) ?_ rfl ?_
            · exact results_cell_row rfl _ _ w.heap.size 28 _ (0, 0) _ rfl JE.out Tryd.underlying28 rfl (by kernel_rfl)
            · exact ⟨⟨_, _, _, _, _, _, _, rfl⟩, GE.out.gr, GE.out.cu⟩
          · skip
            go_upto_region 13 with (fail)
            have JE := hid (X0.out.k1.setRow [.int .i64 k, .string ky, .string vl, .string lo, .string hi, .int .i64 mo, .bool bk])
            have GE := hid (X0.out.dg.row w.heap.size (Nat.le_refl _) #[.int .i64 k, .string ky, .string vl, .string lo, .string hi, .int .i64 mo, .bool bk])
            go_wp2_with (first
              | (refine wpList_load_row rfl 28 _ rfl b rfl 28 _ (0, 0) _ X0.out.kb Tryd.underlying28 rfl (by kernel_rfl) ?_; go_frame)
              | (refine wpList_store_row rfl 28 _ _ rfl w.heap.size #[.int .i64 k, .string ky, .string vl, .string lo, .string hi, .int .i64 mo, .bool bk] rfl rfl 28 _ X0.out.k1 (by kernel_rfl) rfl (by kernel_rfl) ?_))
            generalize V0.setRow w.heap.size #[.int .i64 k, .string ky, .string vl, .string lo, .string hi, .int .i64 mo, .bool bk] = VE at *
            try simp only [Exit.inBlock, Exit.then]
            refine bodyPost_ret (v := .agg #[.int .i64 k, .string ky, .string vl, .string lo, .string hi, .int .i64 mo, .bool bk]) ?_ rfl ?_
            · exact results_cell_row rfl _ _ w.heap.size 28 _ (0, 0) _ rfl JE.out Tryd.underlying28 rfl (by kernel_rfl)
            · exact ⟨⟨_, _, _, _, _, _, _, rfl⟩, GE.out.gr, GE.out.cu⟩
end Go.Proofs.YtbaggkfgnjenoacDoor
/-
  The messages that the laws draw: some message.
-/
namespace Go.Proofs.YtbaggkfgnjenoacDoor
open Go.RowKit
set_option linter.unusedVariables false
theorem run_append_pr {w : World} (ty : TypeId) (B : Nat) (v : Value) (l : List PB) (hown : oqW w B v l) (g : Nat) (x : PB) (hB : Bk w g 54 (pcs [x])) (hb : l.length ≤ 1048576) (hbase : B ≤ w.heap.size) :
    ∃ a' n' c' w', (Builtin.append_ #[29, 29] ty #[v, .slice (some ⟨g, 0, none⟩) 1 1]).run Tryd.prog w = .ok (.slice a' n' c') w' ∧ oqW w' B (.slice a' n' c') (l ++ [x]) ∧ w.grownBy w' v.ownBlock := by
  obtain ⟨i, hi, hz, hsz, hby⟩ := info_of infoPairI
  obtain ⟨v', w', hr, h2, h3, h4⟩ := run_append_row_at (P := Tryd.prog) (w := w) B 29 ty 54 i _ 2 32 Tryd.underlying29 hi hz hsz hby rfl (by decide) v l.length (pcs l) hown (fun _ => True) _ 1 (pcs [x]) (hB.rw (Nat.le_refl _) (by omega) (fun h => by omega) _ trivial) rfl (pcs_one [x]) (by unfold maxLen; omega) (by omega) hbase
  obtain ⟨a', c', rfl⟩ := own_shape h2
  refine ⟨a', _, c', w', hr, ?_, h3⟩
  unfold oqW
  rw [List.length_append, pcs_append]
  exact h2
theorem step_append_pr {w w' : World} {o : Oper} {a : Act} {K : Act → World → Prop} {Q : Exit → Act → World → Prop} (s x : Operand)
    (ho : o.op = .call { callee := .builtin .append, args := #[s, x], argTypes := #[29, 29] }) (v src v' : Value) (hs : a.eval s = v) (hx : a.eval x = src)
    (hr : (Builtin.append_ #[29, 29] o.type #[v, src]).run Tryd.prog w = .ok v' w') (h : K (a.put o.dst v') w') : Oper.wp Tryd.prog o a w K Q := by
  unfold Oper.wp execOp
  simp only [ho, resolve, invoke, builtin, Sem.run_bind, Sem.run_pure, Result.andThen_ok, List.map_toArray, List.map_cons, List.map_nil, hs, hx, hr]
  exact h
/-- A draw of a message so far. -/
structure DM (w v : World) (g b : Nat) (zs cs : List Value) (sl : Value) (l : List PB) : Prop where
  dw : DW w v g b 31 zs cs
  ow : oqW v (b + 1) sl l
theorem DM.step {w v v' : World} {g b : Nat} {zs cs : List Value} {sl : Value} {l : List PB} (h : DM w v g b zs cs sl l) (hg : v.grownBy v' (some g)) (hc : Cu v' g) : DM w v' g b zs cs sl l :=
  ⟨h.dw.step hg hc, h.ow.to (only_of_grown hg (R := fun y => y = g) (fun k e => (Option.some.inj e).symm)) (fun y hy e => by have := h.ow.lt hy; have := h.dw.lt; have := h.dw.dg.ng; omega)⟩
theorem DM.setE {w v : World} {g b : Nat} {zs cs : List Value} {sl : Value} {l : List PB} (h : DM w v g b zs cs sl l) (j : Nat) (x : Value) {ys : List Value} (e : cs.set j x = ys) : DM w (v.setCell ⟨b, j, none⟩ x) g b zs ys sl l :=
  ⟨h.dw.setE j x e, h.ow.to (only_set (R := fun y => y = b) (p := ⟨b, j, none⟩) rfl _) (fun y hy e => by have := h.ow.lt hy; omega)⟩
theorem DM.alloc {w v : World} {g b : Nat} {zs cs : List Value} {sl : Value} {l : List PB} (h : DM w v g b zs cs sl l) (o : Obj) : DM w (v.alloc o) g b zs cs sl l := ⟨h.dw.alloc o, h.ow.below (below_alloc _ _)⟩
end Go.Proofs.YtbaggkfgnjenoacDoor
/-
  Messages: partsOk at no kind.
-/
namespace Go.Proofs.YtbaggkfgnjenoacDoor
open Go.RowKit
set_option linter.unusedVariables false
set_option maxHeartbeats 4000000 in
theorem partsOk_0 (S : Nat → Prop) (ps : List PB) (kd c e n sh nu st k : Int) (ky vl lo hi : ByteArray) (mo : Int) (bk : Bool) (cd : Int) (pa : Option Addr) (pn pc : Nat) (ys : Bool) (w : World) (h : Pr w S (.slice pa pn pc) ps) (hk : ¬ (1 ≤ kd ∧ kd ≤ 7)) : Calls Tryd.prog 37 #[.agg #[.int .i64 kd, .int .i64 c, .int .i64 e, .int .i64 n, .int .i64 sh, .int .i64 nu, .int .i64 st, .int .i64 k, .string ky, .string vl, .string lo, .string hi, .int .i64 mo, .bool bk, .int .i64 cd, .slice pa pn pc, .bool ys]] w fun r w' => r = .returned (.bool (prtOk kd nu st (akOk k ky vl lo hi mo bk) (akZ k ky vl lo hi mo bk) cd ps ys)) ∧ Below w.heap.size w w' := by
  have B0 := hid (below_new (o := .cells #[.int .i64 kd, .int .i64 c, .int .i64 e, .int .i64 n, .int .i64 sh, .int .i64 nu, .int .i64 st, .int .i64 k, .string ky, .string vl, .string lo, .string hi, .int .i64 mo, .bool bk, .int .i64 cd, .slice pa pn pc, .bool ys] 31) (w := w) (Below.refl _ _))
  have K0 := hid (Bk.new w 31 [.int .i64 kd, .int .i64 c, .int .i64 e, .int .i64 n, .int .i64 sh, .int .i64 nu, .int .i64 st, .int .i64 k, .string ky, .string vl, .string lo, .string hi, .int .i64 mo, .bool bk, .int .i64 cd, .slice pa pn pc, .bool ys])
  have HN := hid (Rw.len h).1
  have C1 := hid (fun w => askNumOk_any nu w)
  have C2 := hid (fun w => implAskOk_any k ky vl lo hi mo bk w)
  have C3 := hid (fun w => tellsNothing_any kd c e n sh nu st k ky vl lo hi mo bk cd pa pn pc ys w)
  have C4 := hid (fun w => asksNothing_any kd c e n sh nu st k ky vl lo hi mo bk cd pa pn pc ys w)
  have C5 : Hid (∀ v, Below w.heap.size w v → Calls Tryd.prog 58 #[.agg #[.int .i64 kd, .int .i64 c, .int .i64 e, .int .i64 n, .int .i64 sh, .int .i64 nu, .int .i64 st, .int .i64 k, .string ky, .string vl, .string lo, .string hi, .int .i64 mo, .bool bk, .int .i64 cd, .slice pa pn pc, .bool ys]] v fun r w' => r = .returned (.bool (tel st cd ps)) ∧ Below v.heap.size v w') := fun v hb => tellOk_any S ps kd c e n sh nu st k ky vl lo hi mo bk cd pa pn pc ys v (h.below hb)
  clear h
  generalize akOk k ky vl lo hi mo bk = ak at *
  generalize akZ k ky vl lo hi mo bk = az at *
  have HV := hid (prtOk_no hk nu st ak az cd ps ys)
  generalize prtOk kd nu st ak az cd ps ys = z0 at *
  clear C1 C2 C3 C4 C5
  have q1 : ¬ kd = 1 := by omega
  have q2 : ¬ kd = 2 := by omega
  have q3 : ¬ kd = 3 := by omega
  have q4 : ¬ kd = 4 := by omega
  have q5 : ¬ kd = 5 := by omega
  have q6 : ¬ kd = 6 := by omega
  have q7 : ¬ kd = 7 := by omega
  clear hk
  go_enter Tryd.func37, Tryd.ntmps37
  go_wp2
  go_ret
  exact ⟨by rw [HV.out] <;> simp <;> first | assumption | (intros; omega), B0.out⟩
end Go.Proofs.YtbaggkfgnjenoacDoor
/-
  MsgOk of the specification.
-/
namespace Go.Proofs.YtbaggkfgnjenoacDoor
open Go.RowKit
set_option linter.unusedVariables false
theorem specMsgOk_any (S : Nat → Prop) (ps : List PB) (kd c e n sh nu st k : Int) (ky vl lo hi : ByteArray) (mo : Int) (bk : Bool) (cd : Int) (pa : Option Addr) (pn pc : Nat) (ys : Bool) (w : World) (h : Pr w S (.slice pa pn pc) ps) : Calls Tryd.prog 6 #[.agg #[.int .i64 kd, .int .i64 c, .int .i64 e, .int .i64 n, .int .i64 sh, .int .i64 nu, .int .i64 st, .int .i64 k, .string ky, .string vl, .string lo, .string hi, .int .i64 mo, .bool bk, .int .i64 cd, .slice pa pn pc, .bool ys]] w fun r w' => r = .returned (.bool (mgOk kd c e n sh nu st (akOk k ky vl lo hi mo bk) (akZ k ky vl lo hi mo bk) cd ps ys)) ∧ Below w.heap.size w w' := by
  by_cases hk : 1 ≤ kd ∧ kd ≤ 7
  · have h7 : kd = 1 ∨ kd = 2 ∨ kd = 3 ∨ kd = 4 ∨ kd = 5 ∨ kd = 6 ∨ kd = 7 := by omega
    rcases h7 with rfl | rfl | rfl | rfl | rfl | rfl | rfl
    · exact specMsgOk_1 S ps c e n sh nu st k ky vl lo hi mo bk cd pa pn pc ys w h
    · exact specMsgOk_2 S ps c e n sh nu st k ky vl lo hi mo bk cd pa pn pc ys w h
    · exact specMsgOk_3 S ps c e n sh nu st k ky vl lo hi mo bk cd pa pn pc ys w h
    · exact specMsgOk_4 S ps c e n sh nu st k ky vl lo hi mo bk cd pa pn pc ys w h
    · exact specMsgOk_5 S ps c e n sh nu st k ky vl lo hi mo bk cd pa pn pc ys w h
    · exact specMsgOk_6 S ps c e n sh nu st k ky vl lo hi mo bk cd pa pn pc ys w h
    · exact specMsgOk_7 S ps c e n sh nu st k ky vl lo hi mo bk cd pa pn pc ys w h
  · exact specMsgOk_0 S ps kd c e n sh nu st k ky vl lo hi mo bk cd pa pn pc ys w h hk
end Go.Proofs.YtbaggkfgnjenoacDoor
/-
  Marks in messages: nothing but the row of pairs turns.
-/
namespace Go.Proofs.YtbaggkfgnjenoacDoor
open Go.RowKit
set_option linter.unusedVariables false
theorem oq_uf {w : World} {base : Nat} {e : TypeId} {size : Nat} {v : Value} {n : Nat} {xs : List Value} (h : w.ownsRow base e size v n xs) {k : Nat} (hk : v.ownBlock = some k) : Uf w k := by
  rcases h.2 with ⟨rfl, _⟩ | ⟨g, cap, cur, rfl, h3, h4, h5, h6, h7, h8⟩
  · cases hk
  · cases hk
    exact ⟨_, _, h4⟩
theorem pcs_strM (ps : List PB) : ∀ u ∈ pcs ps, isStr u := by
  induction ps with
  | nil => intro u hu; cases hu
  | cons p ps ih =>
    intro u hu
    simp only [pcs, List.mem_cons] at hu
    rcases hu with rfl | rfl | hu
    · exact ⟨_, rfl⟩
    · exact ⟨_, rfl⟩
    · exact ih u hu
theorem oqW.kw {w : World} {B : Nat} {v : Value} {l : List PB} (h : oqW w B v l) : Kw w (fun b => v.ownBlock = some b) v l.length (l.length * 2) isStr := by
  have := kw_of (S' := fun b => v.ownBlock = some b) (K := isStr) (rw_own h (S := fun b => v.ownBlock = some b ∧ Uf w b) (fun k hk hb _ => ⟨hk, oq_uf h hk⟩)) (fun u hu => pcs_strM _ u hu) (fun b hb _ => hb)
  rwa [pcs_length] at this
end Go.Proofs.YtbaggkfgnjenoacDoor
/-
  toMsg.
-/
namespace Go.Proofs.YtbaggkfgnjenoacDoor
open Go.RowKit
set_option linter.unusedVariables false
end Go.Proofs.YtbaggkfgnjenoacDoor
/-
  szMsg, eqMsg.
-/
namespace Go.Proofs.YtbaggkfgnjenoacDoor
open Go.RowKit
set_option linter.unusedVariables false

end Go.Proofs.YtbaggkfgnjenoacDoor
