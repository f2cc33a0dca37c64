/-
  What the program's Quote answers, for every string: the same as the model's.
-/
import Derived.Test.YtceplgnijcdbfafDoorQuote
namespace Go.Proofs.YtceplgnijcdbfafDoor
open Go.RowKit

theorem get_hex (d : Int) (h0 : 0 ≤ d) (h1 : d < 16) (h : d.toNat < (⟨#[48, 49, 50, 51, 52, 53, 54, 55, 56, 57, 65, 66, 67, 68, 69, 70]⟩ : ByteArray).size) :
    (((⟨#[48, 49, 50, 51, 52, 53, 54, 55, 56, 57, 65, 66, 67, 68, 69, 70]⟩ : ByteArray)[d.toNat]'h).toNat : Int) = hexD d := by
  have : d = 0 ∨ d = 1 ∨ d = 2 ∨ d = 3 ∨ d = 4 ∨ d = 5 ∨ d = 6 ∨ d = 7 ∨ d = 8 ∨ d = 9 ∨ d = 10 ∨ d = 11 ∨ d = 12 ∨ d = 13 ∨ d = 14 ∨ d = 15 := by omega
  rcases this with rfl | rfl | rfl | rfl | rfl | rfl | rfl | rfl | rfl | rfl | rfl | rfl | rfl | rfl | rfl | rfl
  all_goals rfl
theorem wrap_div (z : Int) (h0 : 0 ≤ z) (h1 : z ≤ 255) : IntKind.u8.wrap (z.tdiv 16) = z / 16 := by
  rw [Int.tdiv_eq_ediv_of_nonneg h0]
  simp [IntKind.wrap, IntKind.signed, IntKind.bits]
  omega
theorem wrap_mod (z : Int) (h0 : 0 ≤ z) : IntKind.u8.wrap (z.tmod 16) = z % 16 := by
  rw [Int.tmod_eq_emod_of_nonneg h0]
  simp [IntKind.wrap, IntKind.signed, IntKind.bits]
  omega

theorem Wr.drew {w : World} {g most : Nat} {st : Option (List Int)} (h : Wr w g most st) : Wr w.drew g most st := h
theorem Rd.drew {w : World} {a : Option Addr} {n c : Nat} {zs : List Int} (h : Rd w a n c zs) : Rd w.drew a n c zs := h

set_option maxHeartbeats 800000 in
theorem quoted_any (g most : Nat) (st : Option (List Int)) (z : Int) (w : World) (h : Wr w g most st) (he : Err w 2) (hg : 2 < g) (h0 : 0 ≤ z) (h1 : z ≤ 255) :
    Calls Tryd.prog 22 #[.pointer (some ⟨g, 0, none⟩), .int .u8 z] w fun e w' => e = .returned (.tuple #[]) ∧ Below g w w' ∧ Wr w' g most (addSt most st (qb z)) := by
  have hlt := h.lt
  have HW := hid h
  have HE := hid he
  clear h he
  cases hpl : isPl z with
  | true =>
    have HQ : Hid (qb z = [z]) := by show qb z = [z]; unfold qb; rw [if_pos hpl]
    have HC := hid (show Calls Tryd.prog 32 #[.int .u8 z] w fun e w' => e = .returned (.bool true) ∧ w = w' by rw [← hpl]; exact isPlain_any z w)
    clear hpl
    go_enter Tryd.func22, Tryd.ntmps22
    go_wp2_with (first
      | (go_at_call 32; refine HC.out.mono ?_; rintro e w' ⟨rfl, rfl⟩)
      | (go_at_call 21; refine (addByte_any g most st z w HW.out HE.out hg h0 h1).mono ?_; rintro e w2 ⟨rfl, hb2, hw2⟩))
    exact bodyPost_ret (results_none rfl _ _ _) rfl ⟨rfl, hb2, by rw [HQ.out]; exact hw2⟩
  | false =>
    have HQ : Hid (qb z = [37, hexD (z / 16), hexD (z % 16)]) := by show qb z = _; unfold qb; rw [hpl]; rfl
    have HC := hid (show Calls Tryd.prog 32 #[.int .u8 z] w fun e w' => e = .returned (.bool false) ∧ w = w' by rw [← hpl]; exact isPlain_any z w)
    clear hpl
    have HX := hid (hexD_byte (z / 16) (by omega) (by omega))
    have HY := hid (hexD_byte (z % 16) (by omega) (by omega))
    go_enter Tryd.func22, Tryd.ntmps22
    go_wp2_with (go_at_call 32; refine HC.out.mono ?_; rintro e w' ⟨rfl, rfl⟩)
    have q1 : 0 ≤ z / 16 := by omega
    have q2 : z / 16 < 16 := by omega
    have q3 : 0 ≤ z % 16 := by omega
    have q4 : z % 16 < 16 := by omega
    have e1 := wrap_div z h0 h1
    have e2 := wrap_mod z h0
    have e5 : z.tmod 16 = z % 16 := Int.tmod_eq_emod_of_nonneg h0
    have e3 := get_hex (z / 16) q1 q2
    have e4 := get_hex (z % 16) q3 q4
    have HA := hid (add_any g most st _ 3 3 [37, hexD (z / 16), hexD (z % 16)] (w.alloc (.cells #[.int .u8 37, .int .u8 (hexD (z / 16)), .int .u8 (hexD (z % 16))] 5)).drew (HW.out.alloc _).drew (HE.out.below ((Below.refl g w).alloc (Nat.le_of_lt hlt) _).drew hg) (rd_three w _ _ _ (by omega) HX.out HY.out).drew (by omega))
    go_region_with (go_at_call 31; refine HA.out.mono ?_; rintro e w2 ⟨rfl, hb2, hw2⟩)
    all_goals
      go_end0
      exact ⟨rfl, ((Below.refl g w).alloc (Nat.le_of_lt hlt) _).drew.trans hb2, by rw [HQ.out]; exact hw2⟩

theorem addSt_ok (most : Nat) (zs ys : List Int) (h : zs.length + ys.length ≤ most) : addSt most (some zs) ys = some (zs ++ ys) := by
  have e : addSt most (some zs) ys = if zs.length + ys.length ≤ most then some (zs ++ ys) else none := rfl
  rw [e, if_pos h]

set_option maxHeartbeats 1000000 in
theorem implQuote_any (s : ByteArray) (w : World) (hs : s.size ≤ 1048576) (he : Err w 2) (hg : 2 < w.heap.size) :
    Calls Tryd.prog 7 #[.string s] w fun e w' => e = .returned (.string (qt s)) ∧ Below w.heap.size w w' := by
  by_cases hbig : 4096 < s.size
  · have HQ : Hid (qt s = ByteArray.empty) := by show qt s = ByteArray.empty; unfold qt; exact if_neg (by omega)
    have hb' : (4096 : Int) < (s.size : Int) := by omega
    clear he hg
    go_enter Tryd.func7, Tryd.ntmps7
    go_wp2
    go_ret
    exact ⟨by rw [HQ.out]; rfl, Below.refl _ _⟩
  · have HQ : Hid (qt s = strOf (34 :: qs (bytesOf s) ++ [34])) := by show qt s = strOf (34 :: qs (bytesOf s) ++ [34]); unfold qt; exact if_pos (by omega)
    have hb' : ¬ (4096 : Int) < (s.size : Int) := by omega
    have HE := hid he
    have HG := hid hg
    clear he hg
    go_enter Tryd.func7, Tryd.ntmps7
    go_wp2_with fail
    refine (newWriter_any 12290 none 0 0 [] w HE.out HG.out ⟨rfl, Nat.le_refl _, by omega, by omega, by simp, fun h => by omega⟩ (by omega) (by omega)).mono ?_
    rintro e w1 ⟨rfl, hb1, hw1⟩
    have HB1 := hid hb1
    have HW1 : Hid (Wr w1 w.heap.size 12290 (some [])) := hw1
    clear hb1 hw1
    go_wp2_with fail
    refine (addByte_any w.heap.size 12290 (some []) 34 w1 HW1.out (HE.out.below HB1.out HG.out) HG.out (by omega) (by omega)).mono ?_
    rintro e w2 ⟨rfl, hb2, hw2⟩
    have HB2 := hid (HB1.out.trans hb2)
    have HW2 : Hid (Wr w2 w.heap.size 12290 (some [34])) := hw2
    clear hb2 hw2 HB1 HW1
    go_wp2
    go_loopw [15] (fun i wr => ∃ k : Nat, k ≤ s.size ∧ i = .int .i64 k ∧ Wr wr w.heap.size 12290 (some (34 :: qs ((bytesOf s).take k))) ∧ Below w.heap.size w wr) (fun i _ => s.size - (intOf i).toNat)
    case atStart => exact ⟨0, Nat.zero_le _, rfl, HW2.out, HB2.out⟩
    case round =>
      obtain ⟨k, hk, rfl, hwr, hbel⟩ := hrel
      have HW := hid hwr
      have HB := hid hbel
      have HL : Hid ((34 :: qs ((bytesOf s).take k)).length ≤ 3 * k + 1) := by
        have := qs_len ((bytesOf s).take k)
        have := List.length_take_le k (bytesOf s)
        show (34 :: qs ((bytesOf s).take k)).length ≤ 3 * k + 1
        simp only [List.length_cons]; omega
      clear hwr hbel
      by_cases hlt : k < s.size
      · have hlt' : (k : Int) < (s.size : Int) := by omega
        have HT : Hid (addSt 12290 (some (34 :: qs ((bytesOf s).take k))) (qb (s[k].toNat : Int)) = some (34 :: qs ((bytesOf s).take (k + 1)))) := by
          show addSt 12290 (some (34 :: qs ((bytesOf s).take k))) (qb (s[k].toNat : Int)) = some (34 :: qs ((bytesOf s).take (k + 1)))
          have a := HL.out
          have b := qb_len (s[k].toNat : Int)
          rw [addSt_ok _ _ _ (by omega), qs_take s k hlt]
          rfl
        have hz1 : (s[k].toNat : Int) ≤ 255 := by have := s[k].toNat_lt; omega
        go_wp2_with (go_at_call 22; refine (quoted_any w.heap.size 12290 _ (s[k].toNat : Int) wr HW.out (HE.out.below HB.out HG.out) HG.out (by omega) hz1).mono ?_; rintro e w3 ⟨rfl, hb3, hw3⟩)
        have HW3 := hid hw3
        have HB3 := hid hb3
        clear hw3 hb3
        go_roundw
        case rel => exact ⟨k + 1, by omega, by go_num, by rw [← HT.out]; exact HW3.out, HB.out.trans HB3.out⟩
        case measure => simp [intOf]; omega
      · have hlt' : ¬ (k : Int) < (s.size : Int) := by omega
        have HT : Hid ((bytesOf s).take k = bytesOf s) := List.take_of_length_le (by rw [bytesOf_len]; omega)
        have HT2 : Hid (addSt 12290 (some (34 :: qs ((bytesOf s).take k))) [34] = some (34 :: qs (bytesOf s) ++ [34])) := by
          show addSt 12290 (some (34 :: qs ((bytesOf s).take k))) [34] = some (34 :: qs (bytesOf s) ++ [34])
          have a := HL.out
          rw [addSt_ok _ _ _ (by simp only [List.length_cons, List.length_nil] at a ⊢; omega), HT.out]
        go_wp2_with (go_at_call 21; refine (addByte_any w.heap.size 12290 _ 34 wr HW.out (HE.out.below HB.out HG.out) HG.out (by omega) (by omega)).mono ?_; rintro e w3 ⟨rfl, hb3, hw3⟩)
        rw [HT2.out] at hw3
        have HW3 := hid hw3
        have HB3 := hid (HB.out.trans hb3)
        clear hw3 hb3
        refine (told_some w.heap.size 12290 _ w3 HW3.out).mono ?_
        rintro e w4 ⟨v, rfl, ho, rfl⟩
        have hbyte : ∀ z ∈ (34 :: qs (bytesOf s) ++ [34] : List Int), 0 ≤ z ∧ z ≤ 255 := by
          intro z hz
          simp only [List.cons_append, List.mem_cons, List.mem_append] at hz
          rcases hz with e | e | e
          · omega
          · exact qs_byte _ (bytesOf_byte s) z e
          · simp at e; omega
        obtain ⟨a3, c3, hv3, hrd3, _⟩ := ho.rd (byte_at hbyte) (by have := qs_len (bytesOf s); have := bytesOf_len s; simp; omega)
        have hst := run_str hrd3
        generalize hL3 : (34 :: qs (bytesOf s) ++ [34]).length = L3 at hv3 hst
        clear ho hbyte hrd3 hL3
        rw [hv3]
        clear hv3
        go_wp2
        go_ret
        exact ⟨by rw [HQ.out]; rfl, HB3.out⟩
end Go.Proofs.YtceplgnijcdbfafDoor
