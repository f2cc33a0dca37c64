/-
  The law FnExactUnquote answers true at every string, and writes nothing that was there.
-/
import Derived.Test.YtceplgnijcdbfahDoorImplUnq
import Derived.Test.YtceplgnijcdbfahDoorSpecUnq
namespace Go.Proofs.YtceplgnijcdbfahDoor
open Go.RowKit

set_option maxHeartbeats 400000 in
theorem lawUnquote_walk (s : ByteArray) (w : World) (_w1 : s.size ≤ maxLen) (he : Err w 2) (he2 : Err w 1) (hg : 2 < w.heap.size) (hg2 : 1 < w.heap.size) :
    Calls Tryd.prog 6 #[.string s] w fun e w' => e = .returned (.bool true) ∧ Below w.heap.size w w' := by
  by_cases hbig : 1048576 < s.size
  · have hb' : (1048576 : Int) < (s.size : Int) := by omega
    clear he he2 hg hg2
    go_enter Tryd.func6, Tryd.ntmps6
    go_wp2
    go_ret
    exact ⟨rfl, Below.refl _ _⟩
  · have hb' : ¬ (1048576 : Int) < (s.size : Int) := by omega
    have HE := hid he
    have HG := hid hg
    have HE2 := hid he2
    have HG2 := hid hg2
    have HS := hid (specUnquote_any s w (by omega))
    have HI := hid (fun w he he2 hg hg2 => implUnquote_any s w (by omega) he he2 hg hg2)
    clear he he2 hg hg2
    generalize strOf ((uq s).getD []) = x at HS HI
    generalize (uq s).isSome = b at HS HI
    have hbb : (b != b) = false := by simp
    go_enter Tryd.func6, Tryd.ntmps6
    go_wp2_with fail
    refine HS.out.mono ?_
    rintro e w1 ⟨rfl, hb1⟩
    have HB1 := hid hb1
    clear hb1
    go_wp2_with fail
    refine (HI.out w1 (HE.out.below HB1.out HG.out) (HE2.out.below HB1.out HG2.out) (Nat.lt_of_lt_of_le HG.out HB1.out.size) (Nat.lt_of_lt_of_le HG2.out HB1.out.size)).mono ?_
    rintro e w2 ⟨rfl, hb2⟩
    have HB2 := hid (HB1.out.trans (hb2.mono HB1.out.size))
    clear hb2
    go_wp2
    go_ret
    exact ⟨rfl, HB2.out⟩
end Go.Proofs.YtceplgnijcdbfahDoor
