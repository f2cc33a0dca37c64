/-
  The law FnExactQuote answers true at every string, and writes nothing that was there.
-/
import Derived.Test.YtceplgnijcdbfahDoorImplQuote
namespace Go.Proofs.YtceplgnijcdbfahDoor
open Go.RowKit

set_option maxHeartbeats 400000 in
theorem lawQuote_walk (s : ByteArray) (w : World) (_w1 : s.size ≤ maxLen) (he : Err w 2) (hg : 2 < w.heap.size) :
    Calls Tryd.prog 5 #[.string s] w fun e w' => e = .returned (.bool true) ∧ Below w.heap.size w w' := by
  by_cases hbig : 1048576 < s.size
  · have hb' : (1048576 : Int) < (s.size : Int) := by omega
    clear he hg
    go_enter Tryd.func5, Tryd.ntmps5
    go_wp2
    go_ret
    exact ⟨rfl, Below.refl _ _⟩
  · have hb' : ¬ (1048576 : Int) < (s.size : Int) := by omega
    have HE := hid he
    have HG := hid hg
    have HS := hid (specQuote_any s w (by omega))
    have HI := hid (fun w he hg => implQuote_any s w (by omega) he hg)
    clear he hg
    generalize qt s = x at HS HI
    go_enter Tryd.func5, Tryd.ntmps5
    go_wp2_with fail
    refine HS.out.mono ?_
    rintro e w1 ⟨rfl, hb1⟩
    have HB1 := hid hb1
    clear hb1
    go_wp2_with fail
    refine (HI.out w1 (HE.out.below HB1.out HG.out) (Nat.lt_of_lt_of_le HG.out HB1.out.size)).mono ?_
    rintro e w2 ⟨rfl, hb2⟩
    have HB2 := hid (HB1.out.trans (hb2.mono HB1.out.size))
    clear hb2
    go_wp2
    go_ret
    exact ⟨rfl, HB2.out⟩
end Go.Proofs.YtceplgnijcdbfahDoor
