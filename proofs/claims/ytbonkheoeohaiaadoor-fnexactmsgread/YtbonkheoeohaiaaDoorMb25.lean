/-
  toMsg.
-/
import Derived.Test.YtbonkheoeohaiaaDoorMb5
namespace Go.Proofs.YtbonkheoeohaiaaDoor
open Go.RowKit
set_option linter.unusedVariables false
set_option maxHeartbeats 8000000 in
set_option maxRecDepth 20000 in
theorem toMsg_any (S : Nat → Prop) (ps : List PB) (kd c e n sh nu st k : Int) (ky vl lo hi : ByteArray) (mo : Int) (bk : Bool) (cd : Int) (pa : Option Addr) (pn pc : Nat) (ys : Bool) (w : World) (h1 : Pr w S (.slice pa pn pc) ps) (hh : pn ≤ 1048576) :
    Calls Tryd.prog 12 #[.agg #[.int .i64 kd, .int .i64 c, .int .i64 e, .int .i64 n, .int .i64 sh, .int .i64 nu, .int .i64 st, .int .i64 k, .string ky, .string vl, .string lo, .string hi, .int .i64 mo, .bool bk, .int .i64 cd, .slice pa pn pc, .bool ys]] w fun r w' => ∃ g0, r = .returned (.agg #[.int .i64 kd, .int .i64 c, .int .i64 e, .int .i64 n, .int .i64 sh, .int .i64 nu, .int .i64 st, .int .i64 k, .string ky, .string vl, .string lo, .string hi, .int .i64 mo, .bool bk, .int .i64 cd, .slice (some ⟨g0, 0, none⟩) pn pn, .bool ys]) ∧ oqW w' w.heap.size (.slice (some ⟨g0, 0, none⟩) pn pn) ps ∧ Below w.heap.size w w' := by
  have HN := hid (Rw.len h1).1
  have B0 : Hid (Below w.heap.size w (((w.alloc (.cells #[.int .i64 kd, .int .i64 c, .int .i64 e, .int .i64 n, .int .i64 sh, .int .i64 nu, .int .i64 st, .int .i64 k, .string ky, .string vl, .string lo, .string hi, .int .i64 mo, .bool bk, .int .i64 cd, .slice pa pn pc, .bool ys] 45)).alloc (.cells #[.int .i64 0, .int .i64 0, .int .i64 0, .int .i64 0, .int .i64 0, .int .i64 0, .int .i64 0, .int .i64 0, .string ⟨#[]⟩, .string ⟨#[]⟩, .string ⟨#[]⟩, .string ⟨#[]⟩, .int .i64 0, .bool false, .int .i64 0, .slice none 0 0, .bool false] 31)).alloc (.cells #[.int .i64 kd, .int .i64 0, .int .i64 0, .int .i64 0, .int .i64 0, .int .i64 0, .int .i64 0, .int .i64 0, .string ⟨#[]⟩, .string ⟨#[]⟩, .string ⟨#[]⟩, .string ⟨#[]⟩, .int .i64 0, .bool false, .int .i64 0, .slice none 0 0, .bool false] 31))) := below_new (below_new (below_new (Below.refl _ _)))
  have C1 := hid (fun w => toTx_any c e n w)
  have C2 := hid (fun w => toAsk_any k ky vl lo hi mo bk w)
  have K0 := hid (((Bk.new w 45 [.int .i64 kd, .int .i64 c, .int .i64 e, .int .i64 n, .int .i64 sh, .int .i64 nu, .int .i64 st, .int .i64 k, .string ky, .string vl, .string lo, .string hi, .int .i64 mo, .bool bk, .int .i64 cd, .slice pa pn pc, .bool ys]).alloc (.cells #[.int .i64 0, .int .i64 0, .int .i64 0, .int .i64 0, .int .i64 0, .int .i64 0, .int .i64 0, .int .i64 0, .string ⟨#[]⟩, .string ⟨#[]⟩, .string ⟨#[]⟩, .string ⟨#[]⟩, .int .i64 0, .bool false, .int .i64 0, .slice none 0 0, .bool false] 31)).alloc (.cells #[.int .i64 kd, .int .i64 0, .int .i64 0, .int .i64 0, .int .i64 0, .int .i64 0, .int .i64 0, .int .i64 0, .string ⟨#[]⟩, .string ⟨#[]⟩, .string ⟨#[]⟩, .string ⟨#[]⟩, .int .i64 0, .bool false, .int .i64 0, .slice none 0 0, .bool false] 31))
  have J0 := hid ((Bk.new (w.alloc (.cells #[.int .i64 kd, .int .i64 c, .int .i64 e, .int .i64 n, .int .i64 sh, .int .i64 nu, .int .i64 st, .int .i64 k, .string ky, .string vl, .string lo, .string hi, .int .i64 mo, .bool bk, .int .i64 cd, .slice pa pn pc, .bool ys] 45)) 31 [.int .i64 0, .int .i64 0, .int .i64 0, .int .i64 0, .int .i64 0, .int .i64 0, .int .i64 0, .int .i64 0, .string ⟨#[]⟩, .string ⟨#[]⟩, .string ⟨#[]⟩, .string ⟨#[]⟩, .int .i64 0, .bool false, .int .i64 0, .slice none 0 0, .bool false]).alloc (.cells #[.int .i64 kd, .int .i64 0, .int .i64 0, .int .i64 0, .int .i64 0, .int .i64 0, .int .i64 0, .int .i64 0, .string ⟨#[]⟩, .string ⟨#[]⟩, .string ⟨#[]⟩, .string ⟨#[]⟩, .int .i64 0, .bool false, .int .i64 0, .slice none 0 0, .bool false] 31))
  have I0 := hid (Bk.new ((w.alloc (.cells #[.int .i64 kd, .int .i64 c, .int .i64 e, .int .i64 n, .int .i64 sh, .int .i64 nu, .int .i64 st, .int .i64 k, .string ky, .string vl, .string lo, .string hi, .int .i64 mo, .bool bk, .int .i64 cd, .slice pa pn pc, .bool ys] 45)).alloc (.cells #[.int .i64 0, .int .i64 0, .int .i64 0, .int .i64 0, .int .i64 0, .int .i64 0, .int .i64 0, .int .i64 0, .string ⟨#[]⟩, .string ⟨#[]⟩, .string ⟨#[]⟩, .string ⟨#[]⟩, .int .i64 0, .bool false, .int .i64 0, .slice none 0 0, .bool false] 31)) 31 [.int .i64 kd, .int .i64 0, .int .i64 0, .int .i64 0, .int .i64 0, .int .i64 0, .int .i64 0, .int .i64 0, .string ⟨#[]⟩, .string ⟨#[]⟩, .string ⟨#[]⟩, .string ⟨#[]⟩, .int .i64 0, .bool false, .int .i64 0, .slice none 0 0, .bool false])
  rw [show (w.alloc (.cells #[.int .i64 kd, .int .i64 c, .int .i64 e, .int .i64 n, .int .i64 sh, .int .i64 nu, .int .i64 st, .int .i64 k, .string ky, .string vl, .string lo, .string hi, .int .i64 mo, .bool bk, .int .i64 cd, .slice pa pn pc, .bool ys] 45)).heap.size = w.heap.size + 1 by simp] at J0
  rw [show ((w.alloc (.cells #[.int .i64 kd, .int .i64 c, .int .i64 e, .int .i64 n, .int .i64 sh, .int .i64 nu, .int .i64 st, .int .i64 k, .string ky, .string vl, .string lo, .string hi, .int .i64 mo, .bool bk, .int .i64 cd, .slice pa pn pc, .bool ys] 45)).alloc (.cells #[.int .i64 0, .int .i64 0, .int .i64 0, .int .i64 0, .int .i64 0, .int .i64 0, .int .i64 0, .int .i64 0, .string ⟨#[]⟩, .string ⟨#[]⟩, .string ⟨#[]⟩, .string ⟨#[]⟩, .int .i64 0, .bool false, .int .i64 0, .slice none 0 0, .bool false] 31)).heap.size = w.heap.size + 1 + 1 by simp] at I0
  have d1 : ¬ w.heap.size = w.heap.size + 1 + 1 := by omega
  have d2 : ¬ w.heap.size + 1 = w.heap.size + 1 + 1 := by omega
  have d3 : ¬ w.heap.size + 1 + 1 = w.heap.size + 1 := by omega
  have d4 : ¬ w.heap.size = w.heap.size + 1 := by omega
  have H0 := hid h1
  clear h1
  go_enter Tryd.func12, Tryd.ntmps12
  go_wp2_with fail
  refine (C1.out _).mono ?_
  generalize ((w.alloc (.cells #[.int .i64 kd, .int .i64 c, .int .i64 e, .int .i64 n, .int .i64 sh, .int .i64 nu, .int .i64 st, .int .i64 k, .string ky, .string vl, .string lo, .string hi, .int .i64 mo, .bool bk, .int .i64 cd, .slice pa pn pc, .bool ys] 45)).alloc (.cells #[.int .i64 0, .int .i64 0, .int .i64 0, .int .i64 0, .int .i64 0, .int .i64 0, .int .i64 0, .int .i64 0, .string ⟨#[]⟩, .string ⟨#[]⟩, .string ⟨#[]⟩, .string ⟨#[]⟩, .int .i64 0, .bool false, .int .i64 0, .slice none 0 0, .bool false] 31)).alloc (.cells #[.int .i64 kd, .int .i64 0, .int .i64 0, .int .i64 0, .int .i64 0, .int .i64 0, .int .i64 0, .int .i64 0, .string ⟨#[]⟩, .string ⟨#[]⟩, .string ⟨#[]⟩, .string ⟨#[]⟩, .int .i64 0, .bool false, .int .i64 0, .slice none 0 0, .bool false] 31) = U at *
  rintro r w1 ⟨rfl, hb⟩
  have K1 := hid (K0.out.below hb)
  have J1 := hid (J0.out.below hb)
  have I1 := hid (I0.out.below hb)
  have B1 := hid (btR B0.out hb)
  clear hb K0 J0 I0 B0
  have x4 := K1.out.cell (j := 4) rfl
  have x5 := K1.out.cell (j := 5) rfl
  have x6 := K1.out.cell (j := 6) rfl
  have x7 := K1.out.cell (j := 7) rfl
  have x8 := K1.out.cell (j := 8) rfl
  have x9 := K1.out.cell (j := 9) rfl
  have x10 := K1.out.cell (j := 10) rfl
  have x11 := K1.out.cell (j := 11) rfl
  have x12 := K1.out.cell (j := 12) rfl
  have x13 := K1.out.cell (j := 13) rfl
  have y0 := I1.out.cell (j := 0) rfl
  have y1 := I1.out.cell (j := 1) rfl
  have y2 := I1.out.cell (j := 2) rfl
  have y3 := I1.out.cell (j := 3) rfl
  have y4 := I1.out.cell (j := 4) rfl
  have y5 := I1.out.cell (j := 5) rfl
  have y6 := I1.out.cell (j := 6) rfl
  have f1 := I1.out.free 1
  have f2 := I1.out.free 2
  have f3 := I1.out.free 3
  have f4 := I1.out.free 4
  have f5 := I1.out.free 5
  have f6 := I1.out.free 6
  have I2 : Hid (Bk ((((((w1.setCell ⟨w.heap.size + 1 + 1, 1, none⟩ (.int .i64 c)).setCell ⟨w.heap.size + 1 + 1, 2, none⟩ (.int .i64 e)).setCell ⟨w.heap.size + 1 + 1, 3, none⟩ (.int .i64 n)).setCell ⟨w.heap.size + 1 + 1, 4, none⟩ (.int .i64 sh)).setCell ⟨w.heap.size + 1 + 1, 5, none⟩ (.int .i64 nu)).setCell ⟨w.heap.size + 1 + 1, 6, none⟩ (.int .i64 st)) (w.heap.size + 1 + 1) 31 [.int .i64 kd, .int .i64 c, .int .i64 e, .int .i64 n, .int .i64 sh, .int .i64 nu, .int .i64 st, .int .i64 0, .string ⟨#[]⟩, .string ⟨#[]⟩, .string ⟨#[]⟩, .string ⟨#[]⟩, .int .i64 0, .bool false, .int .i64 0, .slice none 0 0, .bool false]) := ((((((I1.out.set 1 _).set 2 _).set 3 _).set 4 _).set 5 _).set 6 _)
  have J2 : Hid (Bk ((((((w1.setCell ⟨w.heap.size + 1 + 1, 1, none⟩ (.int .i64 c)).setCell ⟨w.heap.size + 1 + 1, 2, none⟩ (.int .i64 e)).setCell ⟨w.heap.size + 1 + 1, 3, none⟩ (.int .i64 n)).setCell ⟨w.heap.size + 1 + 1, 4, none⟩ (.int .i64 sh)).setCell ⟨w.heap.size + 1 + 1, 5, none⟩ (.int .i64 nu)).setCell ⟨w.heap.size + 1 + 1, 6, none⟩ (.int .i64 st)) (w.heap.size + 1) 31 [.int .i64 0, .int .i64 0, .int .i64 0, .int .i64 0, .int .i64 0, .int .i64 0, .int .i64 0, .int .i64 0, .string ⟨#[]⟩, .string ⟨#[]⟩, .string ⟨#[]⟩, .string ⟨#[]⟩, .int .i64 0, .bool false, .int .i64 0, .slice none 0 0, .bool false]) := ((((((J1.out.setOther (by omega) _ _).setOther (by omega) _ _).setOther (by omega) _ _).setOther (by omega) _ _).setOther (by omega) _ _).setOther (by omega) _ _)
  have K2 : Hid (Bk ((((((w1.setCell ⟨w.heap.size + 1 + 1, 1, none⟩ (.int .i64 c)).setCell ⟨w.heap.size + 1 + 1, 2, none⟩ (.int .i64 e)).setCell ⟨w.heap.size + 1 + 1, 3, none⟩ (.int .i64 n)).setCell ⟨w.heap.size + 1 + 1, 4, none⟩ (.int .i64 sh)).setCell ⟨w.heap.size + 1 + 1, 5, none⟩ (.int .i64 nu)).setCell ⟨w.heap.size + 1 + 1, 6, none⟩ (.int .i64 st)) w.heap.size 45 [.int .i64 kd, .int .i64 c, .int .i64 e, .int .i64 n, .int .i64 sh, .int .i64 nu, .int .i64 st, .int .i64 k, .string ky, .string vl, .string lo, .string hi, .int .i64 mo, .bool bk, .int .i64 cd, .slice pa pn pc, .bool ys]) := ((((((K1.out.setOther (by omega) _ _).setOther (by omega) _ _).setOther (by omega) _ _).setOther (by omega) _ _).setOther (by omega) _ _).setOther (by omega) _ _)
  have B2 : Hid (Below w.heap.size w ((((((w1.setCell ⟨w.heap.size + 1 + 1, 1, none⟩ (.int .i64 c)).setCell ⟨w.heap.size + 1 + 1, 2, none⟩ (.int .i64 e)).setCell ⟨w.heap.size + 1 + 1, 3, none⟩ (.int .i64 n)).setCell ⟨w.heap.size + 1 + 1, 4, none⟩ (.int .i64 sh)).setCell ⟨w.heap.size + 1 + 1, 5, none⟩ (.int .i64 nu)).setCell ⟨w.heap.size + 1 + 1, 6, none⟩ (.int .i64 st))) := ((((((B1.out.setCell (p := ⟨w.heap.size + 1 + 1, 1, none⟩) (by simp; omega) _).setCell (p := ⟨w.heap.size + 1 + 1, 2, none⟩) (by simp; omega) _).setCell (p := ⟨w.heap.size + 1 + 1, 3, none⟩) (by simp; omega) _).setCell (p := ⟨w.heap.size + 1 + 1, 4, none⟩) (by simp; omega) _).setCell (p := ⟨w.heap.size + 1 + 1, 5, none⟩) (by simp; omega) _).setCell (p := ⟨w.heap.size + 1 + 1, 6, none⟩) (by simp; omega) _)
  go_wp2_with fail
  refine (C2.out _).mono ?_
  generalize ((((((w1.setCell ⟨w.heap.size + 1 + 1, 1, none⟩ (.int .i64 c)).setCell ⟨w.heap.size + 1 + 1, 2, none⟩ (.int .i64 e)).setCell ⟨w.heap.size + 1 + 1, 3, none⟩ (.int .i64 n)).setCell ⟨w.heap.size + 1 + 1, 4, none⟩ (.int .i64 sh)).setCell ⟨w.heap.size + 1 + 1, 5, none⟩ (.int .i64 nu)).setCell ⟨w.heap.size + 1 + 1, 6, none⟩ (.int .i64 st)) = V at *
  rintro r w2 ⟨rfl, hb⟩
  have K3 := hid (K2.out.below hb)
  have J3 := hid (J2.out.below hb)
  have I3 := hid (I2.out.below hb)
  have B3 := hid (btR B2.out hb)
  clear hb K1 J1 I1 B1 K2 J2 I2 B2 x4 x5 x6 x7 x8 x9 x10 x11 x12 x13 y0 y1 y2 y3 y4 y5 y6 f1 f2 f3 f4 f5 f6
  have x14 := K3.out.cell (j := 14) rfl
  have x15 := K3.out.cell (j := 15) rfl
  have x16 := K3.out.cell (j := 16) rfl
  have y0 := I3.out.cell (j := 0) rfl
  have y1 := I3.out.cell (j := 1) rfl
  have y2 := I3.out.cell (j := 2) rfl
  have y3 := I3.out.cell (j := 3) rfl
  have y4 := I3.out.cell (j := 4) rfl
  have y5 := I3.out.cell (j := 5) rfl
  have y6 := I3.out.cell (j := 6) rfl
  have y7 := I3.out.cell (j := 7) rfl
  have y8 := I3.out.cell (j := 8) rfl
  have y9 := I3.out.cell (j := 9) rfl
  have y10 := I3.out.cell (j := 10) rfl
  have y11 := I3.out.cell (j := 11) rfl
  have y12 := I3.out.cell (j := 12) rfl
  have y13 := I3.out.cell (j := 13) rfl
  have y14 := I3.out.cell (j := 14) rfl
  have f7 := I3.out.free 7
  have f8 := I3.out.free 8
  have f9 := I3.out.free 9
  have f10 := I3.out.free 10
  have f11 := I3.out.free 11
  have f12 := I3.out.free 12
  have f13 := I3.out.free 13
  have f14 := I3.out.free 14
  have I4 : Hid (Bk ((((((((w2.setCell ⟨w.heap.size + 1 + 1, 7, none⟩ (.int .i64 k)).setCell ⟨w.heap.size + 1 + 1, 8, none⟩ (.string ky)).setCell ⟨w.heap.size + 1 + 1, 9, none⟩ (.string vl)).setCell ⟨w.heap.size + 1 + 1, 10, none⟩ (.string lo)).setCell ⟨w.heap.size + 1 + 1, 11, none⟩ (.string hi)).setCell ⟨w.heap.size + 1 + 1, 12, none⟩ (.int .i64 mo)).setCell ⟨w.heap.size + 1 + 1, 13, none⟩ (.bool bk)).setCell ⟨w.heap.size + 1 + 1, 14, none⟩ (.int .i64 cd)) (w.heap.size + 1 + 1) 31 [.int .i64 kd, .int .i64 c, .int .i64 e, .int .i64 n, .int .i64 sh, .int .i64 nu, .int .i64 st, .int .i64 k, .string ky, .string vl, .string lo, .string hi, .int .i64 mo, .bool bk, .int .i64 cd, .slice none 0 0, .bool false]) := ((((((((I3.out.set 7 _).set 8 _).set 9 _).set 10 _).set 11 _).set 12 _).set 13 _).set 14 _)
  have J4 : Hid (Bk ((((((((w2.setCell ⟨w.heap.size + 1 + 1, 7, none⟩ (.int .i64 k)).setCell ⟨w.heap.size + 1 + 1, 8, none⟩ (.string ky)).setCell ⟨w.heap.size + 1 + 1, 9, none⟩ (.string vl)).setCell ⟨w.heap.size + 1 + 1, 10, none⟩ (.string lo)).setCell ⟨w.heap.size + 1 + 1, 11, none⟩ (.string hi)).setCell ⟨w.heap.size + 1 + 1, 12, none⟩ (.int .i64 mo)).setCell ⟨w.heap.size + 1 + 1, 13, none⟩ (.bool bk)).setCell ⟨w.heap.size + 1 + 1, 14, none⟩ (.int .i64 cd)) (w.heap.size + 1) 31 [.int .i64 0, .int .i64 0, .int .i64 0, .int .i64 0, .int .i64 0, .int .i64 0, .int .i64 0, .int .i64 0, .string ⟨#[]⟩, .string ⟨#[]⟩, .string ⟨#[]⟩, .string ⟨#[]⟩, .int .i64 0, .bool false, .int .i64 0, .slice none 0 0, .bool false]) := ((((((((J3.out.setOther (by omega) _ _).setOther (by omega) _ _).setOther (by omega) _ _).setOther (by omega) _ _).setOther (by omega) _ _).setOther (by omega) _ _).setOther (by omega) _ _).setOther (by omega) _ _)
  have K4 : Hid (Bk ((((((((w2.setCell ⟨w.heap.size + 1 + 1, 7, none⟩ (.int .i64 k)).setCell ⟨w.heap.size + 1 + 1, 8, none⟩ (.string ky)).setCell ⟨w.heap.size + 1 + 1, 9, none⟩ (.string vl)).setCell ⟨w.heap.size + 1 + 1, 10, none⟩ (.string lo)).setCell ⟨w.heap.size + 1 + 1, 11, none⟩ (.string hi)).setCell ⟨w.heap.size + 1 + 1, 12, none⟩ (.int .i64 mo)).setCell ⟨w.heap.size + 1 + 1, 13, none⟩ (.bool bk)).setCell ⟨w.heap.size + 1 + 1, 14, none⟩ (.int .i64 cd)) w.heap.size 45 [.int .i64 kd, .int .i64 c, .int .i64 e, .int .i64 n, .int .i64 sh, .int .i64 nu, .int .i64 st, .int .i64 k, .string ky, .string vl, .string lo, .string hi, .int .i64 mo, .bool bk, .int .i64 cd, .slice pa pn pc, .bool ys]) := ((((((((K3.out.setOther (by omega) _ _).setOther (by omega) _ _).setOther (by omega) _ _).setOther (by omega) _ _).setOther (by omega) _ _).setOther (by omega) _ _).setOther (by omega) _ _).setOther (by omega) _ _)
  have B4 : Hid (Below w.heap.size w ((((((((w2.setCell ⟨w.heap.size + 1 + 1, 7, none⟩ (.int .i64 k)).setCell ⟨w.heap.size + 1 + 1, 8, none⟩ (.string ky)).setCell ⟨w.heap.size + 1 + 1, 9, none⟩ (.string vl)).setCell ⟨w.heap.size + 1 + 1, 10, none⟩ (.string lo)).setCell ⟨w.heap.size + 1 + 1, 11, none⟩ (.string hi)).setCell ⟨w.heap.size + 1 + 1, 12, none⟩ (.int .i64 mo)).setCell ⟨w.heap.size + 1 + 1, 13, none⟩ (.bool bk)).setCell ⟨w.heap.size + 1 + 1, 14, none⟩ (.int .i64 cd))) := ((((((((B3.out.setCell (p := ⟨w.heap.size + 1 + 1, 7, none⟩) (by simp; omega) _).setCell (p := ⟨w.heap.size + 1 + 1, 8, none⟩) (by simp; omega) _).setCell (p := ⟨w.heap.size + 1 + 1, 9, none⟩) (by simp; omega) _).setCell (p := ⟨w.heap.size + 1 + 1, 10, none⟩) (by simp; omega) _).setCell (p := ⟨w.heap.size + 1 + 1, 11, none⟩) (by simp; omega) _).setCell (p := ⟨w.heap.size + 1 + 1, 12, none⟩) (by simp; omega) _).setCell (p := ⟨w.heap.size + 1 + 1, 13, none⟩) (by simp; omega) _).setCell (p := ⟨w.heap.size + 1 + 1, 14, none⟩) (by simp; omega) _)
  go_wp2_with fail
  refine (toPairS_at S pa pn pc ps _ (H0.out.below B4.out) hh).mono ?_
  generalize ((((((((w2.setCell ⟨w.heap.size + 1 + 1, 7, none⟩ (.int .i64 k)).setCell ⟨w.heap.size + 1 + 1, 8, none⟩ (.string ky)).setCell ⟨w.heap.size + 1 + 1, 9, none⟩ (.string vl)).setCell ⟨w.heap.size + 1 + 1, 10, none⟩ (.string lo)).setCell ⟨w.heap.size + 1 + 1, 11, none⟩ (.string hi)).setCell ⟨w.heap.size + 1 + 1, 12, none⟩ (.int .i64 mo)).setCell ⟨w.heap.size + 1 + 1, 13, none⟩ (.bool bk)).setCell ⟨w.heap.size + 1 + 1, 14, none⟩ (.int .i64 cd)) = V2 at *
  have SV : Hid (w.heap.size + 1 + 1 < V2.heap.size) := I4.out.lt
  generalize hg1 : V2.heap.size = g1 at *
  have HG1 := hid hg1
  clear hg1
  rintro r w3 ⟨rfl, hk, hb⟩
  rw [← HG1.out] at hb
  have E5 := hid hk
  have K5 := hid (K4.out.below hb)
  have J5 := hid (J4.out.below hb)
  have I5 := hid (I4.out.below hb)
  have B5 := hid (B4.out.trans (hb.mono B4.out.size))
  clear hb hk K3 J3 I3 B3 K4 J4 I4 B4 x14 x15 x16 y0 y1 y2 y3 y4 y5 y6 y7 y8 y9 y10 y11 y12 y13 y14 f7 f8 f9 f10 f11 f12 f13 f14
  have x16 := K5.out.cell (j := 16) rfl
  have y0 := I5.out.cell (j := 0) rfl
  have y1 := I5.out.cell (j := 1) rfl
  have y2 := I5.out.cell (j := 2) rfl
  have y3 := I5.out.cell (j := 3) rfl
  have y4 := I5.out.cell (j := 4) rfl
  have y5 := I5.out.cell (j := 5) rfl
  have y6 := I5.out.cell (j := 6) rfl
  have y7 := I5.out.cell (j := 7) rfl
  have y8 := I5.out.cell (j := 8) rfl
  have y9 := I5.out.cell (j := 9) rfl
  have y10 := I5.out.cell (j := 10) rfl
  have y11 := I5.out.cell (j := 11) rfl
  have y12 := I5.out.cell (j := 12) rfl
  have y13 := I5.out.cell (j := 13) rfl
  have y14 := I5.out.cell (j := 14) rfl
  have y15 := I5.out.cell (j := 15) rfl
  have y16 := I5.out.cell (j := 16) rfl
  have f15 := I5.out.free 15
  have f16 := I5.out.free 16
  have z0 := J5.out.cell (j := 0) rfl
  have z1 := J5.out.cell (j := 1) rfl
  have z2 := J5.out.cell (j := 2) rfl
  have z3 := J5.out.cell (j := 3) rfl
  have z4 := J5.out.cell (j := 4) rfl
  have z5 := J5.out.cell (j := 5) rfl
  have z6 := J5.out.cell (j := 6) rfl
  have z7 := J5.out.cell (j := 7) rfl
  have z8 := J5.out.cell (j := 8) rfl
  have z9 := J5.out.cell (j := 9) rfl
  have z10 := J5.out.cell (j := 10) rfl
  have z11 := J5.out.cell (j := 11) rfl
  have z12 := J5.out.cell (j := 12) rfl
  have z13 := J5.out.cell (j := 13) rfl
  have z14 := J5.out.cell (j := 14) rfl
  have z15 := J5.out.cell (j := 15) rfl
  have z16 := J5.out.cell (j := 16) rfl
  have e0 := J5.out.free 0
  have e1 := J5.out.free 1
  have e2 := J5.out.free 2
  have e3 := J5.out.free 3
  have e4 := J5.out.free 4
  have e5 := J5.out.free 5
  have e6 := J5.out.free 6
  have e7 := J5.out.free 7
  have e8 := J5.out.free 8
  have e9 := J5.out.free 9
  have e10 := J5.out.free 10
  have e11 := J5.out.free 11
  have e12 := J5.out.free 12
  have e13 := J5.out.free 13
  have e14 := J5.out.free 14
  have e15 := J5.out.free 15
  have e16 := J5.out.free 16
  have HF : Hid (∀ W, Only (fun y => y = w.heap.size + 1 ∨ y = w.heap.size + 1 + 1) w3 W → oqW W w.heap.size (.slice (some ⟨g1, 0, none⟩) pn pn) ps ∧ Below w.heap.size w W) := fun W hW => by
    have s2 := SV.out
    refine ⟨(oqw_bk (B := w.heap.size) E5.out HN.out (by omega) (by omega)).to hW (fun y hy e => ?_), B5.out.trans (hW.below B5.out.size (fun b hb e => by omega))⟩
    have k1 : g1 = y := Option.some.inj hy
    omega
  clear E5 B5
  have J6 : Hid (Bk ((w3.setCell ⟨w.heap.size + 1 + 1, 15, none⟩ (.slice (some ⟨g1, 0, none⟩) pn pn)).setCell ⟨w.heap.size + 1 + 1, 16, none⟩ (.bool ys)) (w.heap.size + 1) 31 [.int .i64 0, .int .i64 0, .int .i64 0, .int .i64 0, .int .i64 0, .int .i64 0, .int .i64 0, .int .i64 0, .string ⟨#[]⟩, .string ⟨#[]⟩, .string ⟨#[]⟩, .string ⟨#[]⟩, .int .i64 0, .bool false, .int .i64 0, .slice none 0 0, .bool false]) := (J5.out.setOther (by omega) _ _).setOther (by omega) _ _
  have J7 : Hid (Bk (((((((((((((((((((w3.setCell ⟨w.heap.size + 1 + 1, 15, none⟩ (.slice (some ⟨g1, 0, none⟩) pn pn)).setCell ⟨w.heap.size + 1 + 1, 16, none⟩ (.bool ys)).setCell ⟨w.heap.size + 1, 0, none⟩ (.int .i64 kd)).setCell ⟨w.heap.size + 1, 1, none⟩ (.int .i64 c)).setCell ⟨w.heap.size + 1, 2, none⟩ (.int .i64 e)).setCell ⟨w.heap.size + 1, 3, none⟩ (.int .i64 n)).setCell ⟨w.heap.size + 1, 4, none⟩ (.int .i64 sh)).setCell ⟨w.heap.size + 1, 5, none⟩ (.int .i64 nu)).setCell ⟨w.heap.size + 1, 6, none⟩ (.int .i64 st)).setCell ⟨w.heap.size + 1, 7, none⟩ (.int .i64 k)).setCell ⟨w.heap.size + 1, 8, none⟩ (.string ky)).setCell ⟨w.heap.size + 1, 9, none⟩ (.string vl)).setCell ⟨w.heap.size + 1, 10, none⟩ (.string lo)).setCell ⟨w.heap.size + 1, 11, none⟩ (.string hi)).setCell ⟨w.heap.size + 1, 12, none⟩ (.int .i64 mo)).setCell ⟨w.heap.size + 1, 13, none⟩ (.bool bk)).setCell ⟨w.heap.size + 1, 14, none⟩ (.int .i64 cd)).setCell ⟨w.heap.size + 1, 15, none⟩ (.slice (some ⟨g1, 0, none⟩) pn pn)).setCell ⟨w.heap.size + 1, 16, none⟩ (.bool ys)) (w.heap.size + 1) 31 [.int .i64 kd, .int .i64 c, .int .i64 e, .int .i64 n, .int .i64 sh, .int .i64 nu, .int .i64 st, .int .i64 k, .string ky, .string vl, .string lo, .string hi, .int .i64 mo, .bool bk, .int .i64 cd, .slice (some ⟨g1, 0, none⟩) pn pn, .bool ys]) := msg_sets J6.out _ _ _ _ _ _ _ _ _ _ _ _ _ _ _ _ _
  have O7 : Hid (Only (fun y => y = w.heap.size + 1 ∨ y = w.heap.size + 1 + 1) w3 (((((((((((((((((((w3.setCell ⟨w.heap.size + 1 + 1, 15, none⟩ (.slice (some ⟨g1, 0, none⟩) pn pn)).setCell ⟨w.heap.size + 1 + 1, 16, none⟩ (.bool ys)).setCell ⟨w.heap.size + 1, 0, none⟩ (.int .i64 kd)).setCell ⟨w.heap.size + 1, 1, none⟩ (.int .i64 c)).setCell ⟨w.heap.size + 1, 2, none⟩ (.int .i64 e)).setCell ⟨w.heap.size + 1, 3, none⟩ (.int .i64 n)).setCell ⟨w.heap.size + 1, 4, none⟩ (.int .i64 sh)).setCell ⟨w.heap.size + 1, 5, none⟩ (.int .i64 nu)).setCell ⟨w.heap.size + 1, 6, none⟩ (.int .i64 st)).setCell ⟨w.heap.size + 1, 7, none⟩ (.int .i64 k)).setCell ⟨w.heap.size + 1, 8, none⟩ (.string ky)).setCell ⟨w.heap.size + 1, 9, none⟩ (.string vl)).setCell ⟨w.heap.size + 1, 10, none⟩ (.string lo)).setCell ⟨w.heap.size + 1, 11, none⟩ (.string hi)).setCell ⟨w.heap.size + 1, 12, none⟩ (.int .i64 mo)).setCell ⟨w.heap.size + 1, 13, none⟩ (.bool bk)).setCell ⟨w.heap.size + 1, 14, none⟩ (.int .i64 cd)).setCell ⟨w.heap.size + 1, 15, none⟩ (.slice (some ⟨g1, 0, none⟩) pn pn)).setCell ⟨w.heap.size + 1, 16, none⟩ (.bool ys))) := (only_step (R := fun y => y = w.heap.size + 1 ∨ y = w.heap.size + 1 + 1) (only_set (R := fun y => y = w.heap.size + 1 ∨ y = w.heap.size + 1 + 1) (p := ⟨w.heap.size + 1 + 1, 15, none⟩) (.inr rfl) _) (.inr rfl) 16 _).trans (msg_only (R := fun y => y = w.heap.size + 1 ∨ y = w.heap.size + 1 + 1) (.inl rfl) _ _ _ _ _ _ _ _ _ _ _ _ _ _ _ _ _)
  clear J5 J6 K5 I5
  go_wp2
  try simp only [Exit.inBlock, Exit.then]
  generalize (((((((((((((((((((w3.setCell ⟨w.heap.size + 1 + 1, 15, none⟩ (.slice (some ⟨g1, 0, none⟩) pn pn)).setCell ⟨w.heap.size + 1 + 1, 16, none⟩ (.bool ys)).setCell ⟨w.heap.size + 1, 0, none⟩ (.int .i64 kd)).setCell ⟨w.heap.size + 1, 1, none⟩ (.int .i64 c)).setCell ⟨w.heap.size + 1, 2, none⟩ (.int .i64 e)).setCell ⟨w.heap.size + 1, 3, none⟩ (.int .i64 n)).setCell ⟨w.heap.size + 1, 4, none⟩ (.int .i64 sh)).setCell ⟨w.heap.size + 1, 5, none⟩ (.int .i64 nu)).setCell ⟨w.heap.size + 1, 6, none⟩ (.int .i64 st)).setCell ⟨w.heap.size + 1, 7, none⟩ (.int .i64 k)).setCell ⟨w.heap.size + 1, 8, none⟩ (.string ky)).setCell ⟨w.heap.size + 1, 9, none⟩ (.string vl)).setCell ⟨w.heap.size + 1, 10, none⟩ (.string lo)).setCell ⟨w.heap.size + 1, 11, none⟩ (.string hi)).setCell ⟨w.heap.size + 1, 12, none⟩ (.int .i64 mo)).setCell ⟨w.heap.size + 1, 13, none⟩ (.bool bk)).setCell ⟨w.heap.size + 1, 14, none⟩ (.int .i64 cd)).setCell ⟨w.heap.size + 1, 15, none⟩ (.slice (some ⟨g1, 0, none⟩) pn pn)).setCell ⟨w.heap.size + 1, 16, none⟩ (.bool ys)) = W9 at *
  clear x16 y0 y1 y2 y3 y4 y5 y6 y7 y8 y9 y10 y11 y12 y13 y14 y15 y16 z0 z1 z2 z3 z4 z5 z6 z7 z8 z9 z10 z11 z12 z13 z14 z15 z16 e0 e1 e2 e3 e4 e5 e6 e7 e8 e9 e10 e11 e12 e13 e14 e15 e16
  refine bodyPost_ret (v := .agg #[.int .i64 kd, .int .i64 c, .int .i64 e, .int .i64 n, .int .i64 sh, .int .i64 nu, .int .i64 st, .int .i64 k, .string ky, .string vl, .string lo, .string hi, .int .i64 mo, .bool bk, .int .i64 cd, .slice (some ⟨g1, 0, none⟩) pn pn, .bool ys]) ?_ rfl ?_
  · exact results_msg rfl _ _ _ rfl (J7.out.cell (j := 0) rfl) (J7.out.cell (j := 1) rfl) (J7.out.cell (j := 2) rfl) (J7.out.cell (j := 3) rfl) (J7.out.cell (j := 4) rfl) (J7.out.cell (j := 5) rfl) (J7.out.cell (j := 6) rfl) (J7.out.cell (j := 7) rfl) (J7.out.cell (j := 8) rfl) (J7.out.cell (j := 9) rfl) (J7.out.cell (j := 10) rfl) (J7.out.cell (j := 11) rfl) (J7.out.cell (j := 12) rfl) (J7.out.cell (j := 13) rfl) (J7.out.cell (j := 14) rfl) (J7.out.cell (j := 15) rfl) (J7.out.cell (j := 16) rfl)
  · exact ⟨g1, rfl, HF.out _ O7.out⟩
end Go.Proofs.YtbonkheoeohaiaaDoor
