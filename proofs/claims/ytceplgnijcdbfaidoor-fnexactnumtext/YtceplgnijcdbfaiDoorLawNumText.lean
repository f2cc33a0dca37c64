/-
  The law FnExactNumText answers true at every number, and writes nothing that was there.
-/
import Derived.Test.YtceplgnijcdbfaiDoorNumImpl
namespace Go.Proofs.YtceplgnijcdbfaiDoor
open Go.RowKit

set_option maxHeartbeats 400000 in
theorem lawNumText_walk (n : Int) (w : World) (_w1 : (Lit.int .i64 n).wf = true) (ht : Tab w) (hg : 2 < w.heap.size) :
    Calls Tryd.prog 3 #[.int .i64 n] w fun e w' => e = .returned (.bool true) ∧ Below w.heap.size w w' := by
  have HT := hid ht
  have HG := hid hg
  have HS := hid (specNumText_any n w)
  have HI := hid (fun w ht => implNumText_any n w ht)
  clear ht hg
  generalize numS n = x at HS HI
  go_enter Tryd.func3, Tryd.ntmps3
  go_wp2_with fail
  refine HS.out.mono ?_
  rintro e w1 ⟨rfl, hb1⟩
  have HB1 := hid hb1
  clear hb1
  go_wp2_with fail
  refine (HI.out w1 (HT.out.below HB1.out HG.out)).mono ?_
  rintro e w2 ⟨rfl, hb2⟩
  have HB2 := hid (HB1.out.trans (hb2.mono HB1.out.size))
  clear hb2
  go_wp2
  go_ret
  exact ⟨rfl, HB2.out⟩
end Go.Proofs.YtceplgnijcdbfaiDoor
