/-
  The law FnExactRecText answers true at every record.
-/
import Derived.Test.YtgnjknbgahickabDoorRcX
namespace Go.Proofs.YtgnjknbgahickabDoor
open Go.RowKit
set_option linter.unusedVariables false
set_option maxHeartbeats 1600000 in
theorem lawRecText_walk (k : Int) (ky vl lo hi : ByteArray) (w : World) (hl : ky.size ≤ maxLen ∧ vl.size ≤ maxLen ∧ lo.size ≤ maxLen ∧ hi.size ≤ maxLen) : Calls Tryd.prog 3 #[.agg #[.int .i64 k, .string ky, .string vl, .string lo, .string hi]] w fun e w' => e = .returned (.bool true) ∧ Below w.heap.size w w' := by
  unfold maxLen at hl
  have C1 := hid (fun w => specRecText_any k ky vl lo hi w)
  have C2 := hid (fun w => implRecText_any k ky vl lo hi w)
  have B0 := hid (below_new (o := .cells #[.int .i64 k, .string ky, .string vl, .string lo, .string hi] 25) (w := w) (Below.refl _ _))
  have K0 := hid (Bk.new w 25 [.int .i64 k, .string ky, .string vl, .string lo, .string hi])
  generalize rcTx k ky vl lo hi = z at *
  have hz : (z.toList != z.toList) = false := by simp
  go_enter Tryd.func3, Tryd.ntmps3
  go_wp2_with fail
  refine (szRec_any k ky vl lo hi 1048576 _ (by omega) (by omega) hl).mono ?_
  generalize w.alloc (.cells #[.int .i64 k, .string ky, .string vl, .string lo, .string hi] 25) = U at *
  rintro e w1 ⟨⟨x, rfl, hx1, hx2⟩, hb⟩
  have B1 := hid (btR B0.out hb)
  have K1 := hid (K0.out.below hb)
  clear hb B0 K0
  by_cases hx : x < 0
  · go_wp2
    go_ret
    exact ⟨rfl, B1.out⟩
  · have x0 := K1.out.cell (j := 0) rfl
    have x1 := K1.out.cell (j := 1) rfl
    have x2 := K1.out.cell (j := 2) rfl
    have x3 := K1.out.cell (j := 3) rfl
    have x4 := K1.out.cell (j := 4) rfl
    go_wp2_with fail
    refine (toRec_any k ky vl lo hi _).mono ?_
    rintro e w2 ⟨rfl, hb⟩
    have B2 := hid (btR B1.out hb)
    have K2 := hid (K1.out.below hb)
    clear hb B1 K1 x0 x1 x2 x3 x4
    have x0 := K2.out.cell (j := 0) rfl
    have x1 := K2.out.cell (j := 1) rfl
    have x2 := K2.out.cell (j := 2) rfl
    have x3 := K2.out.cell (j := 3) rfl
    have x4 := K2.out.cell (j := 4) rfl
    go_wp2_with fail
    refine (C1.out _).mono ?_
    rintro e w3 ⟨rfl, hb⟩
    have B3 := hid (btR B2.out hb)
    have K3 := hid (K2.out.below hb)
    clear hb B2 K2 x0 x1 x2 x3 x4
    have x0 := K3.out.cell (j := 0) rfl
    have x1 := K3.out.cell (j := 1) rfl
    have x2 := K3.out.cell (j := 2) rfl
    have x3 := K3.out.cell (j := 3) rfl
    have x4 := K3.out.cell (j := 4) rfl
    go_wp2_with fail
    refine (toRec_any k ky vl lo hi _).mono ?_
    rintro e w4 ⟨rfl, hb⟩
    have B4 := hid (btR B3.out hb)
    have K4 := hid (K3.out.below hb)
    clear hb B3 K3 x0 x1 x2 x3 x4
    have x0 := K4.out.cell (j := 0) rfl
    have x1 := K4.out.cell (j := 1) rfl
    have x2 := K4.out.cell (j := 2) rfl
    have x3 := K4.out.cell (j := 3) rfl
    have x4 := K4.out.cell (j := 4) rfl
    go_wp2_with fail
    refine (C2.out _).mono ?_
    rintro e w5 ⟨rfl, hb⟩
    have B5 := hid (btR B4.out hb)
    have K5 := hid (K4.out.below hb)
    clear hb B4 K4 x0 x1 x2 x3 x4
    have x0 := K5.out.cell (j := 0) rfl
    have x1 := K5.out.cell (j := 1) rfl
    have x2 := K5.out.cell (j := 2) rfl
    have x3 := K5.out.cell (j := 3) rfl
    have x4 := K5.out.cell (j := 4) rfl
    go_wp2
    go_ret
    exact ⟨rfl, B5.out⟩
theorem lawRecText_door (k : Int) (ky vl lo hi : ByteArray) (w : World) (hl : ky.size ≤ maxLen ∧ vl.size ≤ maxLen ∧ lo.size ≤ maxLen ∧ hi.size ≤ maxLen) (_ : Err w 0) (_ : Err w 1) (_ : 0 < w.heap.size) (_ : 1 < w.heap.size) :
    Calls Tryd.prog 3 #[.agg #[.int .i64 k, .string ky, .string vl, .string lo, .string hi]] w fun e w' => e = .returned (.bool true) ∧ Below w.heap.size w w' := lawRecText_walk k ky vl lo hi w hl
end Go.Proofs.YtgnjknbgahickabDoor

