/-
  The law FnVar answers true at every slice of bytes, and writes nothing that was there.
-/
import Derived.Test.YtceplgnijcdbfafDoorDrawV
import Derived.Test.YtceplgnijcdbfafDoorBack
import Derived.Test.YtceplgnijcdbfafDoorImplPutVar
import Derived.Test.YtceplgnijcdbfafDoorImplQuote
import Derived.Test.YtceplgnijcdbfafDoorUnqPlain
namespace Go.Proofs.YtceplgnijcdbfafDoor
open Go.RowKit

set_option maxHeartbeats 400000 in
theorem numText_bad (n : Int) (w : World) (h : ¬ (0 ≤ n ∧ n ≤ 1099511627775)) :
    Calls Tryd.prog 9 #[.int .i64 n] w fun e w' => e = .returned (.string ByteArray.empty) ∧ w = w' := by
  have HN := hid h
  clear h
  go_enter Tryd.func9, Tryd.ntmps9
  go_wp2_with (go_at_call 25; refine (isNumber_any n _ false (by rw [decide_eq_false HN.out])).mono ?_; rintro e w' ⟨rfl, rfl⟩)
  go_ret
  exact ⟨rfl, rfl⟩
theorem putVar_none (a : Option Addr) (n c : Nat) (zs : List Int) (m : Int) (w : World) (h : Rd w a n c zs) (hlen : n ≤ 1099511627776) (hr : pv zs m = none)
    (he : Err w 2) (he2 : Err w 0) (hg : 2 < w.heap.size) (hg2 : 0 < w.heap.size) :
    Calls Tryd.prog 8 #[.slice a n c, .int .i64 m] w fun e w' => e = .returned (.tuple #[.slice none 0 0, .bool false]) ∧ Below w.heap.size w w' := by
  refine (implPutVar_any a n c zs m w h hlen he he2 hg hg2).mono ?_
  rintro e w' ⟨hb, ⟨_, he⟩ | ⟨v, zs', hr', _⟩⟩
  · exact ⟨he, hb⟩
  · rw [hr] at hr'; cases hr'
theorem putVar_some (a : Option Addr) (n c : Nat) (zs out : List Int) (m : Int) (w : World) (h : Rd w a n c zs) (hlen : n ≤ 1099511627776) (hr : pv zs m = some out)
    (he : Err w 2) (he2 : Err w 0) (hg : 2 < w.heap.size) (hg2 : 0 < w.heap.size) :
    Calls Tryd.prog 8 #[.slice a n c, .int .i64 m] w fun e w' => ∃ v, e = .returned (.tuple #[v, .bool true]) ∧ Ow w' w.heap.size v out ∧ Below w.heap.size w w' := by
  refine (implPutVar_any a n c zs m w h hlen he he2 hg hg2).mono ?_
  rintro e w' ⟨hb, ⟨hr', _⟩ | ⟨v, zs', hr', he, ho⟩⟩
  · rw [hr] at hr'; cases hr'
  · rw [hr] at hr'; cases hr'
    exact ⟨v, he, ho, hb⟩
theorem putText_some (a : Option Addr) (n c : Nat) (zs out : List Int) (s : ByteArray) (w : World) (h : Rd w a n c zs) (hlen : n ≤ 1099511627776) (hs : s.size ≤ 1048576) (hr : pt zs s = some out)
    (he : Err w 2) (he2 : Err w 0) (hg : 2 < w.heap.size) (hg2 : 0 < w.heap.size) :
    Calls Tryd.prog 10 #[.slice a n c, .string s] w fun e w' => ∃ v, e = .returned (.tuple #[v, .bool true]) ∧ Ow w' w.heap.size v out ∧ Below w.heap.size w w' := by
  refine (implPutText_any a n c zs s w h hlen hs he he2 hg hg2).mono ?_
  rintro e w' ⟨hb, ⟨hr', _⟩ | ⟨v, zs', hr', he, ho⟩⟩
  · rw [hr] at hr'; cases hr'
  · rw [hr] at hr'; cases hr'
    exact ⟨v, he, ho, hb⟩

set_option maxHeartbeats 1600000 in
theorem lawFVar_walk (a : Option Addr) (n c : Nat) (zs : List Int) (w : World) (hr : IsRow .u8 w a n c zs) (he : Err w 2) (he2 : Err w 0) (hg : 2 < w.heap.size) (hg2 : 0 < w.heap.size) :
    Calls Tryd.prog 3 #[.slice a n c] w fun e w' => e = .returned (.bool true) ∧ Below w.heap.size w w' := by
  by_cases hbig : 1048576 < n
  · have hb' : (1048576 : Int) < (n : Int) := by omega
    clear he he2 hg hg2 hr
    go_enter Tryd.func3, Tryd.ntmps3
    go_wp2
    go_ret
    exact ⟨rfl, Below.refl _ _⟩
  · have hb' : ¬ (1048576 : Int) < (n : Int) := by omega
    have hrd := rd_of_row hr (by omega)
    have HR := hid hrd
    have HE := hid he
    have HG := hid hg
    have HE2 := hid he2
    have HG2 := hid hg2
    clear he he2 hg hg2 hr hrd
    go_enter Tryd.func3, Tryd.ntmps3
    go_wp2_with fail
    refine (drawPutVar_any a n c _ w HR.out (by omega)).mono ?_
    rintro e w1 ⟨ab, nb, cb, ys, x, rfl, hrb, hnb, hx0, hx1, hb1⟩
    have HB1 := hid hb1
    have HRB := hid hrb
    clear hb1 hrb
    go_wp2_with fail
    refine (drawPutText_any a n c _ w1 (HR.out.kept HB1.out) (by omega)).mono ?_
    rintro e w2 ⟨at', nt, ct, s, rfl, hs, hb2⟩
    have HB2 := hid (HB1.out.trans (hb2.mono HB1.out.size))
    have HRB2 := hid (HRB.out.kept hb2)
    clear hb2
    have HEw : Hid (∀ w', Below w.heap.size w w' → Err w' 2 ∧ Err w' 0 ∧ 2 < w'.heap.size ∧ 0 < w'.heap.size) :=
      fun w' hb => ⟨HE.out.below hb HG.out, HE2.out.below hb HG2.out, Nat.lt_of_lt_of_le HG.out hb.size, Nat.lt_of_lt_of_le HG2.out hb.size⟩
    by_cases hlong : 20 < nb ∨ 40 < s.size
    · obtain ⟨k1, k2, k3, k4⟩ := HEw.out w2 HB2.out
      have HQ := hid (implQuote_any ⟨#[]⟩ w2 (by decide) k1 k3)
      have hq0 : qt ⟨#[]⟩ = ⟨#[34, 34]⟩ := by rfl
      rw [hq0] at HQ
      clear k1 k2 k3 k4 hq0
      rcases (by omega : (20 : Int) < (nb : Int) ∨ (¬ (20 : Int) < (nb : Int) ∧ (40 : Int) < (s.size : Int))) with d1 | ⟨d1, d2⟩
      all_goals
        clear hlong
        go_wp2_with fail
        refine HQ.out.mono ?_
        rintro e w3 ⟨rfl, hb3⟩
        have HB3 := hid (HB2.out.trans (hb3.mono HB2.out.size))
        clear hb3
        go_wp2
        go_ret
        exact ⟨rfl, HB3.out⟩
    · have d1 : ¬ (20 : Int) < (nb : Int) := by omega
      have d2 : ¬ (40 : Int) < (s.size : Int) := by omega
      have HN : Hid (nb = ys.length) := HRB2.out.1
      obtain ⟨k1, k2, k3, k4⟩ := HEw.out w2 HB2.out
      by_cases hok : 0 ≤ x ∧ x ≤ 1099511627775
      · obtain ⟨h0, h1⟩ := hok
        have HPV : Hid (pv ys x = some (ys ++ enc x)) := pv_ok ys x h0 h1 (by have := (enc_len x).2; have := HN.out; simp; omega)
        have HP := hid (putVar_some ab nb cb ys _ x w2 HRB2.out (by omega) HPV.out k1 k2 k3 k4)
        clear k1 k2 k3 k4 hlong
        go_wp2_with fail
        refine HP.out.mono ?_
        rintro e w3 ⟨v3, rfl, ho3, hb3⟩
        have HB3 := hid (HB2.out.trans (hb3.mono HB2.out.size))
        obtain ⟨k1, k2, k3, k4⟩ := HEw.out w3 HB3.out
        have hbytes : ∀ z ∈ ys ++ enc x, 0 ≤ z ∧ z ≤ 255 := byte_append (at_byte HRB2.out.2.2.2.2.1) (enc_byte x h0 h1)
        have hlen3 : (ys ++ enc x).length ≤ 27 := by have := (enc_len x).2; have := HN.out; simp; omega
        obtain ⟨a3, c3, hv3, hrd3, _⟩ := ho3.rd (byte_at hbytes) (by omega)
        have HPT : Hid (pt (ys ++ enc x) s = some (ys ++ enc x ++ enc s.size ++ bytesOf s)) := by
          show pt (ys ++ enc x) s = _
          unfold pt
          exact if_pos (by have := (enc_len s.size).2; have := bytesOf_len s; simp only [List.length_append] at hlen3 ⊢; omega)
        have HP3 := hid (putText_some a3 _ c3 (ys ++ enc x) _ s w3 hrd3 (by omega) (by omega) HPT.out k1 k2 k3 k4)
        have HBY := hid hbytes
        have HL3 := hid hlen3
        rw [hv3]
        generalize (ys ++ enc x).length = L3 at HP3
        clear k1 k2 k3 k4 ho3 hb3 hbytes hlen3 hv3 hrd3 HP HPV
        go_wp2_with fail
        refine HP3.out.mono ?_
        rintro e w4 ⟨v4, rfl, ho4, hb4⟩
        have HB4 := hid (HB3.out.trans (hb4.mono HB3.out.size))
        have hbytes : ∀ z ∈ ys ++ enc x ++ enc s.size ++ bytesOf s, 0 ≤ z ∧ z ≤ 255 := byte_append (byte_append HBY.out (enc_byte _ (by omega) (by omega))) (bytesOf_byte s)
        have hlen4 : (ys ++ enc x ++ enc s.size ++ bytesOf s).length ≤ 80 := by
          have := (enc_len s.size).2; have := bytesOf_len s; have := HL3.out; simp only [List.length_append] at this ⊢; omega
        obtain ⟨a4, c4, hv4, hrd4, _⟩ := ho4.rd (byte_at hbytes) (by omega)
        have HGV : Hid (gv (ys ++ enc x ++ enc s.size ++ bytesOf s) (nb : Int) = (x, (((ys ++ enc x).length : Nat) : Int))) := by
          show gv (ys ++ enc x ++ enc s.size ++ bytesOf s) (nb : Int) = _
          rw [HN.out, List.append_assoc (ys ++ enc x), gv_enc ys _ x h0 h1, List.length_append]
        have HGT : Hid (gt (ys ++ enc x ++ enc s.size ++ bytesOf s) (((ys ++ enc x).length : Nat) : Int) = (bytesOf s, ((ys ++ enc x ++ enc s.size ++ bytesOf s).length : Int))) := by
          show gt (ys ++ enc x ++ enc s.size ++ bytesOf s) _ = _
          have := gt_enc (ys ++ enc x) (bytesOf s) (by rw [bytesOf_len]; omega)
          rw [bytesOf_len] at this
          exact this
        have HI1 := hid (implGetVar_any a4 _ c4 _ (nb : Int) w4 hrd4 (by omega))
        have hL27 : (ys ++ enc x).length ≤ 27 := HL3.out
        have HI2 := hid (implGetText_any a4 _ c4 _ (((ys ++ enc x).length : Nat) : Int) w4 hrd4 (by omega))
        rw [HGV.out] at HI1
        rw [HGT.out] at HI2
        rw [show strOf (bytesOf s) = s from str_bytes s] at HI2
        rw [hv4]
        generalize (ys ++ enc x ++ enc s.size ++ bytesOf s).length = L4 at HI1 HI2 hlen4
        generalize (ys ++ enc x).length = L5 at HI1 HI2 hL27
        clear ho4 hb4 hbytes hv4 hrd4 HP3 HPT HGV HGT
        go_wp2_with fail
        refine HI1.out.mono ?_
        rintro e w5 ⟨rfl, rfl⟩
        go_wp2_with fail
        refine HI2.out.mono ?_
        rintro e w5 ⟨rfl, rfl⟩
        go_wp2
        go_ret
        exact ⟨rfl, HB4.out⟩
      · have HPV : Hid (pv ys x = none) := pv_bad ys x (by omega)
        have HP := hid (putVar_none ab nb cb ys x w2 HRB2.out (by omega) HPV.out k1 k2 k3 k4)
        have HNT := hid (fun w => numText_bad x w hok)
        clear k1 k2 k3 k4 hlong
        rcases (by omega : (x < 0) ∨ (0 ≤ x ∧ 1099511627775 < x)) with e1 | ⟨e1, e2⟩
        all_goals
          clear hok
          go_wp2_with fail
          refine HP.out.mono ?_
          rintro e w3 ⟨rfl, hb3⟩
          have HB3 := hid (HB2.out.trans (hb3.mono HB2.out.size))
          clear hb3
          go_wp2_with fail
          refine (HNT.out w3).mono ?_
          rintro e w4 ⟨rfl, rfl⟩
          go_wp2
          go_ret
          exact ⟨rfl, HB3.out⟩
end Go.Proofs.YtceplgnijcdbfafDoor
