/-
  What both PutTexts answer, for every slice of bytes and every string that is not too long.
-/
import Derived.Test.YtgnjknbgahickabDoorImplPut
import Derived.Test.YtgnjknbgahickabDoorZeros
namespace Go.Proofs.YtgnjknbgahickabDoor
open Go.RowKit

theorem specPutVar_none (a : Option Addr) (n c : Nat) (zs : List Int) (m : Int) (w : World) (h : Rd w a n c zs) (hlen : n ≤ 1099511627776) (hr : pv zs m = none) :
    Calls Tryd.prog 51 #[.slice a n c, .int .i64 m] w fun e w' => e = .returned (.tuple #[.slice none 0 0, .bool false]) ∧ Below w.heap.size w w' := by
  refine (specPutVar_any a n c zs m w h hlen).mono ?_
  rintro e w' ⟨hb, ⟨_, he⟩ | ⟨v, zs', hr', _⟩⟩
  · exact ⟨he, hb⟩
  · rw [hr] at hr'; cases hr'
theorem specPutVar_some (a : Option Addr) (n c : Nat) (zs out : List Int) (m : Int) (w : World) (h : Rd w a n c zs) (hlen : n ≤ 1099511627776) (hr : pv zs m = some out) :
    Calls Tryd.prog 51 #[.slice a n c, .int .i64 m] w fun e w' => ∃ v, e = .returned (.tuple #[v, .bool true]) ∧ Ob w' w.heap.size v out ∧ Below w.heap.size w w' := by
  refine (specPutVar_any a n c zs m w h hlen).mono ?_
  rintro e w' ⟨hb, ⟨hr', _⟩ | ⟨v, zs', hr', he, ho⟩⟩
  · rw [hr] at hr'; cases hr'
  · rw [hr] at hr'; cases hr'
    exact ⟨v, he, ho, hb⟩
theorem Ob.drew {w : World} {B : Nat} {v : Value} {zs : List Int} (h : Ob w B v zs) : Ob w.drew B v zs := h
/-- What PutText answers. -/
def pt (zs : List Int) (s : ByteArray) : Option (List Int) := if (zs ++ enc s.size ++ bytesOf s).length ≤ 4096 then some (zs ++ enc s.size ++ bytesOf s) else none

set_option maxHeartbeats 800000 in
theorem specPutText_any (a : Option Addr) (n c : Nat) (zs : List Int) (s : ByteArray) (w : World) (h : Rd w a n c zs) (hlen : n ≤ 1099511627776) (hs : s.size ≤ 1048576) :
    Calls Tryd.prog 24 #[.slice a n c, .string s] w fun e w' => Put w (pt zs s) e w' := by
  have HR := hid h
  clear h
  by_cases h1 : (zs ++ enc s.size).length ≤ 4096
  · have HP := hid (pv_ok zs s.size (by omega) (by omega) h1)
    have hol : (zs ++ enc s.size).length ≤ 4096 := h1
    have HT : Hid (pt zs s = if (zs ++ enc s.size).length + s.size ≤ 4096 then some (zs ++ enc s.size ++ bytesOf s) else none) := by
      show pt zs s = _
      unfold pt
      rw [show (zs ++ enc s.size ++ bytesOf s).length = (zs ++ enc s.size).length + s.size from by rw [List.length_append, bytesOf_len]]
    clear h1
    generalize zs ++ enc s.size = out at HP hol HT
    generalize hL : out.length = L at HT hol
    have HL := hid hL
    clear hL
    have hcv := fun w => run_bytes_of_string (P := Tryd.prog) w 9 57 5 s Tryd.underlying9 Tryd.underlying57 Tryd.underlying5
    by_cases hbig : (4096 : Int) - (L : Int) < (s.size : Int)
    · have HN : Hid (pt zs s = none) := by show pt zs s = none; rw [HT.out]; exact if_neg (by omega)
      go_enter Tryd.func24, Tryd.ntmps24
      go_wp2_with fail
      refine (specPutVar_some a n c zs out _ w HR.out hlen HP.out).mono ?_
      rintro e w1 ⟨v, rfl, ho, hb1⟩
      obtain ⟨a1, c1, hv⟩ := ho.shape
      have HO := hid ho
      rw [HL.out] at hv
      clear ho
      rw [hv]
      go_wp2
      go_ret2
      exact ⟨hb1, .inl ⟨HN.out, rfl⟩⟩
    · have HN : Hid (pt zs s = some (out ++ bytesOf s)) := by show pt zs s = some (out ++ bytesOf s); rw [HT.out]; exact if_pos (by omega)
      go_enter Tryd.func24, Tryd.ntmps24
      go_wp2_with fail
      refine (specPutVar_some a n c zs out _ w HR.out hlen HP.out).mono ?_
      rintro e w1 ⟨v, rfl, ho, hb1⟩
      obtain ⟨a1, c1, hv⟩ := ho.shape
      rw [HL.out] at hv
      have HO : Hid (Ob w1 w.heap.size (.slice a1 L c1) out) := by show Ob w1 w.heap.size (.slice a1 L c1) out; rw [← hv]; exact ho
      clear ho
      rw [hv]
      clear hv
      go_wp2_with (at_builtin; refine wpList_append_rd rfl _ _ rfl w.heap.size _ out rfl ?own _ _ _ (bytesOf s) rfl ?src ?b ?base ?_)
      case own => exact HO.out.alloc _
      case src => exact rd_conv _ s _ _ (by omega) (grownCap_ge _ _ _ _) (by have := grownCap_le_maxLen w1 s.size 0 5 (by unfold maxLen; omega); unfold maxLen at this; omega)
      case b => rw [HL.out, bytesOf_len]; omega
      case base => have := hb1.size; simp; omega
      intro v2 w2 hown2 hg2
      have hb2 : Below w.heap.size w w2 := Ob.below (HO.out.alloc _).drew ((hb1.alloc hb1.size _).drew) (by have := hb1.size; simp; omega) hg2
      have HO2 := hid hown2
      obtain ⟨a2, c2, hv2⟩ := hown2.shape
      clear hown2 hg2
      go_wp2
      go_ret2
      exact ⟨hb2, .inr ⟨v2, out ++ bytesOf s, HN.out, rfl, HO2.out⟩⟩
  · have HP := hid (pv_long zs s.size (by omega))
    have HN : Hid (pt zs s = none) := by
      show pt zs s = none
      unfold pt
      rw [show (zs ++ enc s.size ++ bytesOf s).length = (zs ++ enc s.size).length + s.size from by rw [List.length_append, bytesOf_len]]
      exact if_neg (by omega)
    go_enter Tryd.func24, Tryd.ntmps24
    go_wp2_with (go_at_call 51; refine (specPutVar_none a n c zs _ w HR.out hlen HP.out).mono ?_; rintro e w1 ⟨rfl, hb1⟩)
    go_ret2
    exact ⟨hb1, .inl ⟨HN.out, rfl⟩⟩

set_option maxHeartbeats 400000 in
theorem text_any (g most : Nat) (st : Option (List Int)) (s : ByteArray) (w : World) (h : Wr w g most st) (he : Err w 0) (he2 : Err w 1) (hg : 0 < g) (hs : s.size ≤ 1048576) :
    Calls Tryd.prog 57 #[.pointer (some ⟨g, 0, none⟩), .string s] w fun e w' => e = .returned (.tuple #[]) ∧ Below g w w' ∧ Wr w' g most (addSt most (numSt most st s.size) (bytesOf s)) := by
  have hlt := h.lt
  have HW := hid h
  have HE := hid he
  have HE2 := hid he2
  clear h he he2
  have hcv := fun w => run_bytes_of_string (P := Tryd.prog) w 9 57 5 s Tryd.underlying9 Tryd.underlying57 Tryd.underlying5
  go_enter Tryd.func57, Tryd.ntmps57
  go_wp2_with (go_at_call 70; refine (number_any g most st s.size w HW.out HE.out HE2.out hg).mono ?_; rintro e w1 ⟨rfl, hb1, hw1⟩)
  have HW1 := hid hw1
  have HB1 := hid hb1
  clear hw1 hb1
  have hlt1 : g ≤ w1.heap.size := Nat.le_of_lt HW1.out.lt
  refine (add_any g most (numSt most st s.size) _ s.size _ (bytesOf s) _ ?gw ?ge ?gs (by omega)).mono ?_
  case gw => exact HW1.out.alloc _
  case ge => exact (HE.out.below HB1.out hg).below ((Below.refl g w1).alloc hlt1 _).drew hg
  case gs => exact rd_conv _ s _ _ (by omega) (grownCap_ge _ _ _ _) (by have := grownCap_le_maxLen w1 s.size 0 5 (by unfold maxLen; omega); unfold maxLen at this; omega)
  rintro e w2 ⟨rfl, hb2, hw2⟩
  have HB2 := hid hb2
  have HW2 := hid hw2
  clear hb2 hw2
  go_wp2
  go_end0
  exact ⟨rfl, HB1.out.trans (((Below.refl g w1).alloc hlt1 _).drew.trans HB2.out), HW2.out⟩
theorem addSt_pt (zs : List Int) (s : ByteArray) (hs : s.size ≤ 1048576) : addSt 4096 (numSt 4096 (addSt 4096 (some []) zs) s.size) (bytesOf s) = pt zs s := by
  unfold numSt
  rw [if_pos ⟨by omega, by omega⟩, addSt_addSt, addSt_addSt, addSt_start]
  unfold pt
  rw [List.append_assoc]

end Go.Proofs.YtgnjknbgahickabDoor

