/-
  The decimal text of a number: what the program's NumText answers: the same as the model's.
-/
import Derived.Test.YtgnjknbgahickaaDoorNumBase
import Derived.Test.YtgnjknbgahickaaDoorShelf
import Derived.WalkSmall
namespace Go.Proofs.YtgnjknbgahickaaDoor
open Go.RowKit

/-- The table of powers of ten that Go's strconv reads. -/
def Tab (w : World) : Prop := Lib.TabIs Tryd.prog w ((Rows.fnTxRow.laid.map (·.1)).getD 2 default) .u64 Lib.pow10Tab
theorem grow_below (w : World) (k : Nat) (os : Array Obj) : Below w.heap.size w (Sort.grow (w.drewN k) os) := by
  refine ⟨rfl, rfl, rfl, ?_, fun i hi => ?_⟩
  · show w.heap.size ≤ (w.heap ++ os).size
    simp
  · show (w.heap ++ os)[i]? = w.heap[i]?
    rw [Array.getElem?_append_left hi]
theorem Tab.below {w w' : World} {B : Nat} (h : Tab w) (hb : Below B w w') (hB : 5 < B) : Tab w' :=
  var?_below (g := 5) hb (by kernel_rfl) hB h

set_option maxHeartbeats 400000 in
theorem isNumber_any (n : Int) (w : World) (b : Bool) (hb : b = decide (0 ≤ n ∧ n ≤ 1099511627775)) :
    Calls Tryd.prog 43 #[.int .i64 n] w fun e w' => e = .returned (.bool b) ∧ w = w' := by
  have HB : Hid (b = decide (0 ≤ n ∧ n ≤ 1099511627775)) := hb
  clear hb
  by_cases h0 : 0 ≤ n
  · by_cases h1 : n ≤ 1099511627775
    · go_enter Tryd.func43, Tryd.ntmps43
      go_wp2
      go_ret
      exact ⟨by rw [HB.out]; simp [h0, h1], rfl⟩
    · go_enter Tryd.func43, Tryd.ntmps43
      go_wp2
      go_ret
      exact ⟨by rw [HB.out]; simp [h1], rfl⟩
  · go_enter Tryd.func43, Tryd.ntmps43
    go_wp2
    go_ret
    exact ⟨by rw [HB.out, decide_eq_false (by omega)]; rfl, rfl⟩

theorem itoa_any (n : Int) (w : World) (h0 : 0 ≤ n) (h1 : n ≤ 1099511627775) (ht : Tab w) :
    Calls Tryd.prog 44 #[.int .i64 n] w fun e w' => e = .returned (.string (numS n)) ∧ Below w.heap.size w w' := by
  refine (Any.strconv_Itoa Tryd.laysM171 n (by omega) (by omega) w ht).mono ?_
  rintro e w' ⟨he, k, os, hw⟩
  refine ⟨?_, by rw [hw]; exact grow_below w k os⟩
  rw [he, numS_ok n h0 h1]
  unfold Lib.itoa
  rw [if_neg (by omega)]

set_option maxHeartbeats 400000 in
theorem implNumText_any (n : Int) (w : World) (ht : Tab w) :
    Calls Tryd.prog 26 #[.int .i64 n] w fun e w' => e = .returned (.string (numS n)) ∧ Below w.heap.size w w' := by
  have HT := hid ht
  clear ht
  by_cases h : 0 ≤ n ∧ n ≤ 1099511627775
  · obtain ⟨h0, h1⟩ := h
    go_enter Tryd.func26, Tryd.ntmps26
    go_wp2_with (first
      | (go_at_call 43; refine (isNumber_any n _ true (by simp [h0, h1])).mono ?_; rintro e w' ⟨rfl, rfl⟩)
      | (go_at_call 44; refine (itoa_any n w h0 h1 HT.out).mono ?_; rintro e w1 ⟨rfl, hb1⟩))
    go_ret
    exact ⟨rfl, hb1⟩
  · have HS := hid (numS_bad n h)
    go_enter Tryd.func26, Tryd.ntmps26
    go_wp2_with (go_at_call 43; refine (isNumber_any n _ false (by rw [decide_eq_false h])).mono ?_; rintro e w' ⟨rfl, rfl⟩)
    go_ret
    exact ⟨by rw [HS.out]; rfl, Below.refl _ _⟩
end Go.Proofs.YtgnjknbgahickaaDoor

