/-
  The law FnExactTextNum answers true at every string, and writes nothing that was there.
-/
import Derived.Test.YtceplgnijcdbfaiDoorTextNum
namespace Go.Proofs.YtceplgnijcdbfaiDoor
open Go.RowKit

set_option maxHeartbeats 400000 in
theorem lawTextNum_walk (s : ByteArray) (w : World) (_w1 : s.size ≤ maxLen) (ht : Tab w) (he2 : Err w 1) (he : Err w 0) (hg2 : 1 < w.heap.size) (hg : 0 < w.heap.size) (hgt : 2 < w.heap.size) :
    Calls Tryd.prog 4 #[.string s] w fun e w' => e = .returned (.bool true) ∧ Below w.heap.size w w' := by
  by_cases hbig : 1048576 < s.size
  · have hb' : (1048576 : Int) < (s.size : Int) := by omega
    clear he he2 hg hg2 ht hgt
    go_enter Tryd.func4, Tryd.ntmps4
    go_wp2
    go_ret
    exact ⟨rfl, Below.refl _ _⟩
  · have hb' : ¬ (1048576 : Int) < (s.size : Int) := by omega
    have HT := hid ht
    have HGT := hid hgt
    have HE := hid he
    have HG := hid hg
    have HE2 := hid he2
    have HG2 := hid hg2
    have HS := hid (specTextNum_any s w (by omega))
    have HI := hid (fun w ht he he2 hg => implTextNum_any s w (by omega) ht he he2 hg)
    clear he he2 hg hg2 ht hgt
    generalize (tn s).getD 0 = x at HS HI
    generalize (tn s).isSome = b at HS HI
    have hbb : (b != b) = false := by simp
    go_enter Tryd.func4, Tryd.ntmps4
    go_wp2_with fail
    refine HS.out.mono ?_
    rintro e w1 ⟨rfl, hb1⟩
    have HB1 := hid hb1
    clear hb1
    go_wp2_with fail
    refine (HI.out w1 (HT.out.below HB1.out HGT.out) (HE.out.below HB1.out HG.out) (HE2.out.below HB1.out HG2.out) (Nat.lt_of_lt_of_le HGT.out HB1.out.size)).mono ?_
    rintro e w2 ⟨rfl, hb2⟩
    have HB2 := hid (HB1.out.trans (hb2.mono HB1.out.size))
    clear hb2
    go_wp2
    go_ret
    exact ⟨rfl, HB2.out⟩
end Go.Proofs.YtceplgnijcdbfaiDoor
