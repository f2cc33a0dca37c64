/-
  The law FnExactTextRec answers true at every string.
-/
import Derived.Test.YtgnjknbgahickabDoorRcV
import Derived.Test.YtgnjknbgahickabDoorRcM
import Derived.Deep.RegionLaw
namespace Go.Proofs.YtgnjknbgahickabDoor
open Go.RowKit
set_option linter.unusedVariables false
set_option maxHeartbeats 3200000 in
theorem lawTextRec_door (s : ByteArray) (w : World) (hl : s.size ≤ maxLen) (_ : Err w 0) (_ : Err w 1) (_ : 0 < w.heap.size) (_ : 1 < w.heap.size) :
    Calls Tryd.prog 4 #[.string s] w fun e w' => e = .returned (.bool true) ∧ Below w.heap.size w w' := by
  by_cases hbig : 1048576 < s.size
  · have hb : (1048576 : Int) < (s.size : Int) := by omega
    go_enter Tryd.func4, Tryd.ntmps4
    go_wp2
    go_ret
    exact ⟨rfl, Below.refl _ _⟩
  · have hb : ¬ (1048576 : Int) < (s.size : Int) := by omega
    have C1 := hid (fun w => specTextRec_any s w (by omega))
    have C2 := hid (fun w => implTextRec_any s w (by omega))
    generalize trV s = r at *
    obtain ⟨⟨rk, rky, rvl, rlo, rhi⟩, ok⟩ := r
    have hok : (ok != ok) = false := by simp
    go_enter Tryd.func4, Tryd.ntmps4
    go_wp2_with fail
    refine (C1.out _).mono ?_
    rintro e w1 ⟨rfl, hb1⟩
    have B1 := hid hb1
    clear hb1
    have K2 := hid (Bk.new w1 30 [.int .i64 rk, .string rky, .string rvl, .string rlo, .string rhi])
    have B2 := hid (btR B1.out (below_new (o := .cells #[.int .i64 rk, .string rky, .string rvl, .string rlo, .string rhi] 30) (w := w1) (Below.refl _ _)))
    go_wp2_with fail
    refine (C2.out _).mono ?_
    generalize w1.alloc (.cells #[.int .i64 rk, .string rky, .string rvl, .string rlo, .string rhi] 30) = U at *
    generalize w1.heap.size = g1 at *
    rintro e w3 ⟨rfl, hb3⟩
    have B3 := hid (btR B2.out hb3)
    have K3 := hid (K2.out.below hb3)
    clear hb3 B1 B2 K2
    have hb4 := below_new (o := .cells #[.int .i64 rk, .string rky, .string rvl, .string rlo, .string rhi] 30) (w := w3) (Below.refl _ _)
    have K4 := hid (K3.out.below hb4)
    have B4 := hid (btR B3.out hb4)
    have J4 := hid (Bk.new w3 30 [.int .i64 rk, .string rky, .string rvl, .string rlo, .string rhi])
    clear hb4
    have x0 := K3.out.cell (j := 0) rfl
    have x1 := K3.out.cell (j := 1) rfl
    have x2 := K3.out.cell (j := 2) rfl
    have x3 := K3.out.cell (j := 3) rfl
    have x4 := K3.out.cell (j := 4) rfl
    have HNE : g1 < w3.heap.size := K3.out.lt
    have C3 := hid (fun w => eqRec_same rk rky rvl rlo rhi w)
    go_wp2_with fail
    refine (C3.out _).mono ?_
    rintro e w5 ⟨rfl, hb5⟩
    have B5 := hid (btR B4.out hb5)
    clear hb5 B3 B4 K3 K4 J4 x0 x1 x2 x3 x4
    go_wp2
    go_ret
    exact ⟨rfl, B5.out⟩
end Go.Proofs.YtgnjknbgahickabDoor

