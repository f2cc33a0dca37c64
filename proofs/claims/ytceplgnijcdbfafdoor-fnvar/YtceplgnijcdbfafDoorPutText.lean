/-
  What both PutTexts answer, for every slice of bytes and every string that is not too long.
-/
import Derived.Test.YtceplgnijcdbfafDoorImplPut
import Derived.Test.YtceplgnijcdbfafDoorZeros
namespace Go.Proofs.YtceplgnijcdbfafDoor
open Go.RowKit

theorem Ow.drew {w : World} {B : Nat} {v : Value} {zs : List Int} (h : Ow w B v zs) : Ow w.drew B v zs := h
/-- What PutText answers. -/
def pt (zs : List Int) (s : ByteArray) : Option (List Int) := if (zs ++ enc s.size ++ bytesOf s).length ≤ 4096 then some (zs ++ enc s.size ++ bytesOf s) else none


set_option maxHeartbeats 400000 in
theorem text_any (g most : Nat) (st : Option (List Int)) (s : ByteArray) (w : World) (h : Wr w g most st) (he : Err w 2) (he2 : Err w 0) (hg : 2 < g) (hs : s.size ≤ 1048576) :
    Calls Tryd.prog 27 #[.pointer (some ⟨g, 0, none⟩), .string s] w fun e w' => e = .returned (.tuple #[]) ∧ Below g w w' ∧ Wr w' g most (addSt most (numSt most st s.size) (bytesOf s)) := by
  have hlt := h.lt
  have HW := hid h
  have HE := hid he
  have HE2 := hid he2
  clear h he he2
  have hcv := fun w => run_bytes_of_string (P := Tryd.prog) w 9 22 5 s Tryd.underlying9 Tryd.underlying22 Tryd.underlying5
  go_enter Tryd.func27, Tryd.ntmps27
  go_wp2_with (go_at_call 24; refine (number_any g most st s.size w HW.out HE.out HE2.out hg).mono ?_; rintro e w1 ⟨rfl, hb1, hw1⟩)
  have HW1 := hid hw1
  have HB1 := hid hb1
  clear hw1 hb1
  have hlt1 : g ≤ w1.heap.size := Nat.le_of_lt HW1.out.lt
  refine (add_any g most (numSt most st s.size) _ s.size _ (bytesOf s) _ ?gw ?ge ?gs (by omega)).mono ?_
  case gw => exact HW1.out.alloc _
  case ge => exact (HE.out.below HB1.out hg).below ((Below.refl g w1).alloc hlt1 _).drew hg
  case gs => exact rd_conv _ s _ _ (by omega) (grownCap_ge _ _ _ _) (by have := grownCap_le_maxLen w1 s.size 0 5 (by unfold maxLen; omega); unfold maxLen at this; omega)
  rintro e w2 ⟨rfl, hb2, hw2⟩
  have HB2 := hid hb2
  have HW2 := hid hw2
  clear hb2 hw2
  go_wp2
  go_end0
  exact ⟨rfl, HB1.out.trans (((Below.refl g w1).alloc hlt1 _).drew.trans HB2.out), HW2.out⟩

theorem addSt_pt (zs : List Int) (s : ByteArray) (hs : s.size ≤ 1048576) : addSt 4096 (numSt 4096 (addSt 4096 (some []) zs) s.size) (bytesOf s) = pt zs s := by
  unfold numSt
  rw [if_pos ⟨by omega, by omega⟩, addSt_addSt, addSt_addSt, addSt_start]
  unfold pt
  rw [List.append_assoc]

set_option maxHeartbeats 400000 in
theorem implPutText_any (a : Option Addr) (n c : Nat) (zs : List Int) (s : ByteArray) (w : World) (h : Rd w a n c zs) (hlen : n ≤ 1099511627776) (hs : s.size ≤ 1048576)
    (he : Err w 2) (he2 : Err w 0) (hg : 2 < w.heap.size) (hg2 : 0 < w.heap.size) :
    Calls Tryd.prog 10 #[.slice a n c, .string s] w fun e w' => Put w (pt zs s) e w' := by
  have HR := hid h
  have HE := hid he
  have HE2 := hid he2
  have HG := hid hg
  have HG2 := hid hg2
  have HP := hid (addSt_pt zs s hs)
  clear h he he2 hg hg2
  go_enter Tryd.func10, Tryd.ntmps10
  go_wp2_with fail
  refine (newWriter_any 4096 a n c zs w HE.out HG.out HR.out hlen (by omega)).mono ?_
  rintro e w1 ⟨rfl, hb1, hw1⟩
  have HB1 := hid hb1
  have HW1 := hid hw1
  clear hb1 hw1
  go_wp2_with fail
  refine (text_any w.heap.size 4096 _ s w1 HW1.out (HE.out.below HB1.out HG.out) (HE2.out.below HB1.out HG2.out) HG.out hs).mono ?_
  rintro e w2 ⟨rfl, hb2, hw2⟩
  have HB2 := hid (HB1.out.trans hb2)
  have HW2 := hid hw2
  clear hb2 hw2
  go_wp2_with fail
  refine (told_put w w2 4096 _ HW2.out HB2.out).mono ?_
  rintro e w3 ⟨v, b, rfl, ⟨a3, n3, c3, hv⟩, hput⟩
  rw [HP.out] at hput
  have HQ := hid hput
  clear hput
  rw [hv] at HQ
  rw [hv]
  go_wp2
  go_ret2
  exact HQ.out
end Go.Proofs.YtceplgnijcdbfafDoor
