/-
  The law FnExactPointOf answers true at every string.
-/
import Derived.Test.YtpeaajencheamabRng3
import Derived.Deep.DeepCutAuto
namespace Go.Proofs.Ytpeaajencheamab
open Go.RowKit
set_option maxHeartbeats 2000000 in
theorem lawPointOf_walk (k : ByteArray) (w : World) (_ : k.size ≤ maxLen) : Calls Try.prog 3 #[.string k] w fun e w' => e = .returned (.bool true) ∧ Below w.heap.size w w' := by
  by_cases hbig : 1048576 < k.size
  · have hb : (1048576 : Int) < (k.size : Int) := by omega
    go_enter Try.func3, Try.ntmps3
    go_wp2
    go_ret
    exact ⟨rfl, Below.refl _ _⟩
  · have hb : ¬ (1048576 : Int) < (k.size : Int) := by omega
    go_enter Try.func3, Try.ntmps3
    go_wp2_with fail
    refine (specPointOf_any k _).mono ?_
    rintro e w1 ⟨rfl, hb1⟩
    simp only [rng]
    go_wp2_with fail
    have hb1' : Below w.heap.size w (w1.alloc (Obj.cells #[Value.string (ptLo k), Value.string (ptHi k)] 23)) := hb1.alloc hb1.size _
    have B1 := hid (Blk.new w1 (ptLo k) (ptHi k))
    refine (implPointOf_any k _).mono ?_
    generalize w1.alloc (Obj.cells #[Value.string (ptLo k), Value.string (ptHi k)] 23) = v1 at *
    rintro e v2 ⟨rfl, hb2⟩
    simp only [rng]
    have B2 := hid (B1.out.kept hb2)
    have hb3 := hb1'.trans (hb2.mono hb1'.size)
    obtain ⟨c0, c1, _, _⟩ := B2.out.facts
    clear hb2 hb1' B1 hb1
    have hlt := B2.out.lt
    have hne : ¬ w1.heap.size = v2.heap.size := by omega
    go_wp2_with fail
    refine (eqRange_same (ptLo k) (ptHi k) _).mono ?_
    rintro e v4 ⟨rfl, hb4⟩
    have hb5 : Below w.heap.size w v4 := hb3.trans ((below_new hb4).mono hb3.size)
    go_wp2
    go_ret
    exact ⟨rfl, hb5⟩
end Go.Proofs.Ytpeaajencheamab
