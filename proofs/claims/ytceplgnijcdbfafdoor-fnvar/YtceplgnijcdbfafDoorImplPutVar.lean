/-
  What the program's PutVar answers, for every slice of bytes and every number: the same as the model's.
-/
import Derived.Test.YtceplgnijcdbfafDoorImplPut
namespace Go.Proofs.YtceplgnijcdbfafDoor
open Go.RowKit

theorem numSt_pv (zs : List Int) (m : Int) : numSt 4096 (addSt 4096 (some []) zs) m = pv zs m := by
  unfold numSt pv
  by_cases h : 0 ≤ m ∧ m ≤ 1099511627775
  · rw [if_pos h, addSt_two]
    simp only [h, true_and]
  · rw [if_neg h, if_neg (fun x => h x.1)]

set_option maxHeartbeats 400000 in
theorem implPutVar_any (a : Option Addr) (n c : Nat) (zs : List Int) (m : Int) (w : World) (h : Rd w a n c zs) (hlen : n ≤ 1099511627776)
    (he : Err w 2) (he2 : Err w 0) (hg : 2 < w.heap.size) (hg2 : 0 < w.heap.size) :
    Calls Tryd.prog 8 #[.slice a n c, .int .i64 m] w fun e w' => Put w (pv zs m) e w' := by
  have HR := hid h
  have HE := hid he
  have HE2 := hid he2
  have HG := hid hg
  have HG2 := hid hg2
  have HP := hid (numSt_pv zs m)
  clear h he he2 hg hg2
  go_enter Tryd.func8, Tryd.ntmps8
  go_wp2_with fail
  refine (newWriter_any 4096 a n c zs w HE.out HG.out HR.out hlen (by omega)).mono ?_
  rintro e w1 ⟨rfl, hb1, hw1⟩
  have HB1 := hid hb1
  have HW1 := hid hw1
  clear hb1 hw1
  go_wp2_with fail
  refine (number_any w.heap.size 4096 _ m w1 HW1.out (HE.out.below HB1.out HG.out) (HE2.out.below HB1.out HG2.out) HG.out).mono ?_
  rintro e w2 ⟨rfl, hb2, hw2⟩
  have HB2 := hid (HB1.out.trans hb2)
  have HW2 := hid hw2
  clear hb2 hw2
  go_wp2_with fail
  refine (told_put w w2 4096 _ HW2.out HB2.out).mono ?_
  rintro e w3 ⟨v, b, rfl, ⟨a3, n3, c3, hv⟩, hput⟩
  rw [HP.out] at hput
  have HQ := hid hput
  clear hput
  rw [hv] at HQ
  rw [hv]
  go_wp2
  go_ret2
  exact HQ.out
end Go.Proofs.YtceplgnijcdbfafDoor
