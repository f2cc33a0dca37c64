/-
  MetaOk, highFirst, fromHighFirst, MetaBytes and MetaRead of the program.
-/
import Derived.Test.YtidjehapeanpbaaGreatDoorMk4
import Derived.Test.YtidjehapeanpbaaGreatDoorMk1
import Derived.Test.YtidjehapeanpbaaGreatDoorMk2
import Derived.Laws.CopyOwn
import Derived.Test.YtidjehapeanpbaaGreatDoorMk3
import Derived.RangeFuncNested
import Derived.RangeFuncBound
import Derived.RangeFuncCalls
import Derived.RangeFuncLeaves
import Derived.Shelf.Abstract
import Derived.Shelf.RegionOpen
import Derived.WalkKit
import Derived.OwnWalkIn
import Derived.TacticsInMore
import Derived.LoopNIn
import Derived.LoopIn
namespace Go.Proofs.YtidjehapeanpbaaGreatDoor
open Go.RowKit
set_option maxHeartbeats 400000 in
theorem isPlace_any (n : Int) (w : World) (b : Bool) (hb : b = decide (2 ≤ n ∧ n < 400)) :
  Calls Tryz.prog 161 #[.int .i64 n] w fun e w' => e = .returned (.bool b) ∧ w = w' := by
 have HB := hid hb
 clear hb
 by_cases h0 : 2 ≤ n
 ·by_cases h1 : n < 400
  ·have HE : Hid (b = true) := by show _ = _; rw [HB.out, decide_eq_true (by omega)]
   clear HB
   go_enter Tryz.func161, Tryz.ntmps161
   go_wp2
   go_ret
   exact ⟨by rw [HE.out]; rfl, rfl⟩
  ·have HE : Hid (b = false) := by show _ = _; rw [HB.out, decide_eq_false (by omega)]
   clear HB
   go_enter Tryz.func161, Tryz.ntmps161
   go_wp2
   go_ret
   exact ⟨by rw [HE.out]; rfl, rfl⟩
 ·have HE : Hid (b = false) := by show _ = _; rw [HB.out, decide_eq_false (by omega)]
  clear HB
  go_enter Tryz.func161, Tryz.ntmps161
  go_wp2
  go_ret
  exact ⟨by rw [HE.out]; rfl, rfl⟩
set_option maxHeartbeats 4000000 in
theorem implMetaOk_any (g r : Int) (w : World) : Calls Tryz.prog 134 #[.agg #[.int .i64 g, .int .i64 r]] w fun e w' => e = .returned (.bool (mtOk g r)) ∧ Below w.heap.size w w' := by
 have HB := hid (below_new (o := .cells #[.int .i64 g, .int .i64 r] 61) (w := w) (Below.refl _ _))
 have HD : Hid (mtOk g r = (decide (1 ≤ g ∧ g ≤ 1099511627775) && (decide (r = 0) || decide (2 ≤ r ∧ r < 400)))) := rfl
 by_cases q1 : 1 ≤ g
 ·by_cases q2 : g ≤ 1099511627775
  ·rw [decide_eq_true (show 1 ≤ g ∧ g ≤ 1099511627775 from ⟨q1, q2⟩)] at HD
   by_cases q3 : r = 0
   ·subst q3
    have HF : Hid (mtOk g 0 = true) := by show _ = true; rw [HD.out]; rfl
    clear HD
    go_enter Tryz.func134, Tryz.ntmps134
    go_wp2
    go_ret
    exact ⟨by rw [HF.out]; rfl, HB.out⟩
   ·have q3' : (r == 0) = false := by simp [q3]
    have HF : Hid (mtOk g r = decide (2 ≤ r ∧ r < 400)) := by show _ = _; rw [HD.out, decide_eq_false q3]; rfl
    clear HD
    generalize hz : decide (2 ≤ r ∧ r < 400) = z at *
    have HZ := hid hz.symm
    clear hz
    go_enter Tryz.func134, Tryz.ntmps134
    go_wp2_with fail
    refine (isPlace_any r _ z HZ.out).mono ?_
    rintro e w1 ⟨rfl, rfl⟩
    go_wp2
    go_ret
    exact ⟨by rw [HF.out]; rfl, HB.out⟩
  ·have HF : Hid (mtOk g r = false) := by show _ = false; rw [HD.out, decide_eq_false (by omega)]; rfl
   clear HD
   go_enter Tryz.func134, Tryz.ntmps134
   go_wp2
   go_ret
   exact ⟨by rw [HF.out]; rfl, HB.out⟩
 ·have HF : Hid (mtOk g r = false) := by show _ = false; rw [HD.out, decide_eq_false (by omega)]; rfl
  clear HD
  go_enter Tryz.func134, Tryz.ntmps134
  go_wp2
  go_ret
  exact ⟨by rw [HF.out]; rfl, HB.out⟩
def shr8 (n : Int) : Nat → Int
 | 0 => n
 | k + 1 => shr8 n k / 256
def low8 (n : Int) : Nat → List Int
 | 0 => []
 | k + 1 => (shr8 n k % 256) :: low8 n k
theorem low8_len (n : Int) : ∀ k, (low8 n k).length = k
 | 0 => rfl
 | k + 1 => by rw [low8, List.length_cons, low8_len n k]
theorem low8_five (n : Int) : low8 n 5 = five n := by
 simp only [low8, shr8, five, wts, List.map_cons, List.map_nil]
 refine List.cons_eq_cons.2 ⟨by omega, List.cons_eq_cons.2 ⟨by omega, List.cons_eq_cons.2 ⟨by omega, List.cons_eq_cons.2 ⟨by omega, List.cons_eq_cons.2 ⟨by omega, rfl⟩⟩⟩⟩⟩
theorem low8_two {n : Int} (h0 : 0 ≤ n) (h1 : n < 65536) : low8 n 2 = [n / 256, n % 256] := by
 simp only [low8, shr8]
 refine List.cons_eq_cons.2 ⟨by omega, rfl⟩
theorem shr8_rng {n : Int} (h0 : 0 ≤ n) : ∀ k, 0 ≤ shr8 n k ∧ shr8 n k ≤ n
 | 0 => ⟨h0, Int.le_refl _⟩
 | k + 1 => by
  have := shr8_rng h0 k
  rw [shr8]
  omega
def lowP (n : Int) (s k : Nat) : List Int := List.replicate (s - k) 0 ++ low8 n k
theorem lowP_len (n : Int) {s k : Nat} (h : k ≤ s) : (lowP n s k).length = s := by
 rw [lowP, List.length_append, List.length_replicate, low8_len]
 omega
theorem lowP_set (n : Int) {s k : Nat} (h : k < s) : (byteVals (lowP n s k)).setIfInBounds (s - 1 - k) (.int .u8 (shr8 n k % 256)) = byteVals (lowP n s (k + 1)) := by
 obtain ⟨m, rfl⟩ : ∃ m, s = k + 1 + m := ⟨s - (k + 1), by omega⟩
 have e1 : k + 1 + m - k = m + 1 := by omega
 have e2 : k + 1 + m - (k + 1) = m := by omega
 have e3 : k + 1 + m - 1 - k = m := by omega
 rw [lowP, lowP, e1, e2, e3, byteVals, byteVals, List.setIfInBounds_toArray]
 congr 1
 rw [List.map_append, List.map_append, List.map_replicate, List.map_replicate, List.replicate_succ', List.append_assoc, List.set_append_right _ _ (by simp)]
 simp [low8]
theorem lowP_zero (n : Int) (s : Nat) : byteVals (lowP n s 0) = madeCells #[.int .u8 0] s := by
 apply Array.ext
 ·simp [byteVals, lowP, low8, madeCells]
 ·intro i h1 h2; simp [byteVals, lowP, low8, madeCells, Nat.mod_one]
theorem lowP_all (n : Int) (s : Nat) : lowP n s s = low8 n s := by simp [lowP]
theorem lowP_at (n : Int) {s k : Nat} (h : k ≤ s) {i : Nat} (hi : i < s) : ∃ z, (byteVals (lowP n s k))[i]? = some (.int .u8 z) := by
 have hl : i < (lowP n s k).length := by rw [lowP_len n h]; exact hi
 exact ⟨(lowP n s k)[i], by simp [byteVals, hl]⟩
set_option maxHeartbeats 2000000 in
theorem highFirst_any (n : Int) (s : Nat) (w : World) (h0 : 0 ≤ n) (hs : s ≤ 8) :
  Calls Tryz.prog 135 #[.int .i64 n, .int .i64 s] w fun e w' => e = .returned (.slice (some ⟨w.heap.size, 0, none⟩) s s) ∧ w' = w.alloc (.cells (byteVals (low8 n s)) 5) := by
 have hmk := run_make_row' (P := Tryz.prog) 89 5 (.int .u8 0) 1 Tryz.underlying89 infoU8 rfl .i64 .i64 s (by omega) (by omega)
 go_enter Tryz.func135, Tryz.ntmps135
 go_wp2
 go_loopw [0, 11] (fun v i wr => ∃ k : Nat, k ≤ s ∧ i = .int .i64 k ∧ v = .int .i64 (shr8 n k) ∧ wr = w.alloc (.cells (byteVals (lowP n s k)) 5)) (fun _ i _ => s - (intOf i).toNat)
 case atStart => exact ⟨0, Nat.zero_le _, rfl, rfl, by rw [lowP_zero]⟩
 case round =>
  obtain ⟨k, hk, rfl, rfl, rfl⟩ := hrel
  by_cases hlt : k < s
  ·have hlt' : (k : Int) < (s : Int) := by omega
   obtain ⟨z, hz⟩ := lowP_at n (show k ≤ s by omega) (show s - 1 - k < s by omega)
   have HS := hid (lowP_set n hlt)
   have hr := shr8_rng h0 k
   have HN : Hid (shr8 n (k + 1) = shr8 n k / 256) := rfl
   have hx : (s : Int) - 1 - (k : Int) = ((s - 1 - k : Nat) : Int) := by omega
   generalize s - 1 - k = j at *
   generalize shr8 n k = q at *
   have hw8 : IntKind.u8.wrap q = q % 256 := by simp [IntKind.wrap, IntKind.signed, IntKind.bits]
   go_wp2
   go_roundw
   case rel => exact ⟨k + 1, by omega, by go_num, by rw [HN.out], by rw [HS.out]⟩
   case measure => simp [intOf]; omega
  ·have hk' : k = s := by omega
   have HA : Hid (lowP n s k = low8 n s) := by show _ = _; rw [hk']; exact lowP_all n s
   clear hk'
   go_wp2
   go_ret
   exact ⟨rfl, by rw [HA.out]⟩
def hiF (zs : List Int) : Int := zs.foldl (fun n z => n * 256 + z) 0
theorem hiF_take (zs : List Int) {k : Nat} (h : k < zs.length) : hiF (zs.take (k + 1)) = hiF (zs.take k) * 256 + zs[k]?.getD 0 := by
 rw [List.take_succ_eq_append_getElem h, hiF, List.foldl_append]
 simp [hiF, h]
theorem hiF_rng {zs : List Int} (hb : ∀ z ∈ zs, 0 ≤ z ∧ z ≤ 255) : ∀ k, k ≤ zs.length → 0 ≤ hiF (zs.take k) ∧ (k ≤ 5 → hiF (zs.take k) < 1099511627776) ∧ (k ≤ 4 → hiF (zs.take k) < 4294967296) ∧ (k ≤ 3 → hiF (zs.take k) < 16777216) ∧ (k ≤ 2 → hiF (zs.take k) < 65536) ∧ (k ≤ 1 → hiF (zs.take k) < 256) ∧ (k ≤ 0 → hiF (zs.take k) < 1)
 | 0, _ => by simp [hiF]
 | k + 1, h => by
  have h1 := hiF_rng hb k (by omega)
  have h2 := byte_at hb k
  rw [hiF_take zs (by omega)]
  omega
set_option maxHeartbeats 2000000 in
theorem fromHighFirst_any (a : Option Addr) (n c : Nat) (zs : List Int) (w : World) (h : Rd w a n c zs) (hn : n ≤ 5) :
  Calls Tryz.prog 146 #[.slice a n c] w fun e w' => e = .returned (.int .i64 (hiF zs)) ∧ w = w' := by
 obtain ⟨hn0, hc, hm, hnm, hb, hcell⟩ := h
 have HN : Hid (n = zs.length) := hn0
 have HB := hid (at_byte hb)
 clear hn0 hb
 go_enter Tryz.func146, Tryz.ntmps146
 go_wp2
 go_loopw [3, 8] (fun v i wr => ∃ k : Nat, k ≤ n ∧ i = .int .i64 k ∧ v = .int .i64 (hiF (zs.take k)) ∧ wr = w) (fun _ i _ => n - (intOf i).toNat)
 case atStart => exact ⟨0, Nat.zero_le _, rfl, rfl, rfl⟩
 case round =>
  obtain ⟨k, hk, rfl, rfl, rfl⟩ := hrel
  by_cases hlt : k < n
  ·have hlt' : (k : Int) < (n : Int) := by omega
   obtain ⟨b, off, ha, hbw, hcell⟩ := hcell (by omega)
   have hck := hcell k hlt
   have hbk := byte_at HB.out k
   have HS := hid (hiF_take zs (k := k) (by rw [← HN.out]; exact hlt))
   have hr := hiF_rng HB.out k (by rw [← HN.out]; omega)
   obtain ⟨r0, r1, r2, _⟩ := hr
   have hr1 : hiF (zs.take k) < 4294967296 := r2 (by omega)
   clear hcell r1 r2
   rw [ha]
   generalize hiF (zs.take k) = q at *
   generalize zs[k]?.getD 0 = z at *
   go_wp2
   go_roundw
   case rel => exact ⟨k + 1, by omega, by go_num, by rw [HS.out], by trivial⟩
   case measure => simp [intOf]; omega
  ·have HA : Hid (hiF (zs.take k) = hiF zs) := by show _ = _; rw [List.take_of_length_le (by rw [← HN.out]; omega)]
   clear hcell
   go_wp2
   go_ret
   exact ⟨by rw [HA.out]; rfl, rfl⟩
theorem rd_nilM (w : World) : Rd w none 0 0 [] := ⟨rfl, Nat.le_refl _, by omega, by omega, by simp, fun h => by omega⟩
theorem addSt_ok {most : Nat} {zs ys : List Int} (h : zs.length + ys.length ≤ most) : addSt most (some zs) ys = some (zs ++ ys) := if_pos h
theorem fillSt_ok {most : Nat} {zs : List Int} {k : Nat} (h : zs.length + k ≤ most) : fillSt most (some zs) ((zs.length + k : Nat) : Int) = some (zs ++ List.replicate k 0) := by
 show (if (zs.length : Int) ≤ ((zs.length + k : Nat) : Int) ∧ ((zs.length + k : Nat) : Int) ≤ most then _ else _) = _
 rw [if_pos (by omega)]
 congr 3
 omega
theorem Put.lift {w u w' : World} {r : Option (List Int)} {e : Ending} (hb : Below w.heap.size w u) (h : Put u r e w') : Put w r e w' := by
 refine ⟨btw hb h.1, h.2.imp id ?_⟩
 rintro ⟨v, zs, h1, h2, h3⟩
 exact ⟨v, zs, h1, h2, h3.lower hb.size⟩
set_option maxHeartbeats 4000000 in
set_option maxRecDepth 20000 in
theorem implMetaBytes_any (g r : Int) (w : World) (he : Err w 0) (he2 : Err w 1) : Calls Tryz.prog 99 #[.agg #[.int .i64 g, .int .i64 r]] w fun e w' => Put w (mtBytes g r) e w' := by
 have B0 := hid (below_new (o := .cells #[.int .i64 g, .int .i64 r] 61) (w := w) (Below.refl _ _))
 have K0 := hid (Bk.new w 61 [.int .i64 g, .int .i64 r])
 have HP : Hid (mtBytes g r = if mtOk g r = true then some (mtFull g r) else none) := rfl
 have HE := hid he
 have HE2 := hid he2
 clear he he2
 go_enter Tryz.func99, Tryz.ntmps99
 go_wp2_with fail
 refine (implMetaOk_any g r _).mono ?_
 generalize w.alloc (.cells #[.int .i64 g, .int .i64 r] 61) = U at *
 rintro e w1 ⟨rfl, hb1⟩
 have B1 := hid (btw B0.out hb1)
 have K1 := hid (K0.out.below hb1)
 clear hb1 B0 K0
 cases hok : mtOk g r with
 | false =>
  have HN : Hid (mtBytes g r = none) := by show _ = _; rw [HP.out, hok]; rfl
  go_wp2
  go_ret2
  exact ⟨B1.out, .inl ⟨HN.out, rfl⟩⟩
 | true =>
  have HN : Hid (mtBytes g r = some (mtFull g r)) := by show _ = _; rw [HP.out, hok]; rfl
  obtain ⟨g0, g1, r0, r1⟩ := mtOk_facts hok
  clear hok HP
  have c0 := K1.out.cell (j := 0) rfl
  go_wp2_with fail
  refine (highFirst_any g 5 _ (by omega) (by omega)).mono ?_
  rintro e w2 ⟨rfl, hw2⟩
  have ba : Below w1.heap.size w1 w2 := by rw [hw2]; exact below_new (Below.refl _ _)
  have R2 : Hid (Rd w2 (some ⟨w1.heap.size, 0, none⟩) 5 5 (five g)) := by
   rw [hw2, low8_five]
   exact rd_new w1 (five g) (by rw [five_len]; omega) (byte_at (five_byte g))
  have B2 := hid (btw B1.out ba)
  have K2 := hid (K1.out.below ba)
  have E2 := hid (HE.out.below B2.out HE.out.lt)
  have F2 := hid (HE2.out.below B2.out HE2.out.lt)
  clear hw2 ba B1 K1 HE HE2 c0
  generalize w1.heap.size = q at *
  go_wp2_with fail
  refine (newWriter_any 512 none 0 0 [] w2 E2.out E2.out.lt (rd_nilM _) (by omega) (by omega)).mono ?_
  rintro e w3 ⟨rfl, hb3, hw3⟩
  have W3 : Hid (Wr w3 w2.heap.size 512 (some [])) := hw3
  have C3 := hid hb3
  clear hw3 hb3
  go_wp2_with fail
  refine (addByte_any w2.heap.size 512 (some []) 77 w3 W3.out (E2.out.below C3.out E2.out.lt) E2.out.lt (by omega) (by omega)).mono ?_
  rintro e w4 ⟨rfl, hb4, hw4⟩
  have W4 : Hid (Wr w4 w2.heap.size 512 (some [77])) := hw4
  have C4 := hid (C3.out.trans hb4)
  clear hw4 hb4 W3 C3
  go_wp2_with fail
  refine (add_any w2.heap.size 512 (some [77]) _ 5 5 (five g) w4 W4.out (E2.out.below C4.out E2.out.lt) (R2.out.kept C4.out) (by omega)).mono ?_
  rintro e w5 ⟨rfl, hb5, hw5⟩
  rw [addSt_ok (by rw [five_len]; decide)] at hw5
  have W5 := hid hw5
  have C5 := hid (C4.out.trans hb5)
  have c1 := (K2.out.below C5.out).cell (j := 1) rfl
  clear hw5 hb5 W4 C4
  go_wp2_with fail
  refine (highFirst_any r 2 _ (by omega) (by omega)).mono ?_
  rintro e w6 ⟨rfl, hw6⟩
  have ba : Below w5.heap.size w5 w6 := by rw [hw6]; exact below_new (Below.refl _ _)
  have R6 : Hid (Rd w6 (some ⟨w5.heap.size, 0, none⟩) 2 2 [r / 256, r % 256]) := by
   rw [hw6, low8_two r0 (by omega)]
   exact rd_new w5 [r / 256, r % 256] (by simp) (byte_at (fun z hz => by simp at hz; omega))
  have W6 : Hid (Wr w6 w2.heap.size 512 (some ([77] ++ five g))) := by rw [hw6]; exact W5.out.alloc _
  have C6 := hid (C5.out.trans (ba.mono C5.out.size))
  clear hw6 ba W5 C5 c1
  generalize w5.heap.size = q5 at *
  go_wp2_with fail
  refine (add_any w2.heap.size 512 _ _ 2 2 [r / 256, r % 256] w6 W6.out (E2.out.below C6.out E2.out.lt) R6.out (by omega)).mono ?_
  rintro e w7 ⟨rfl, hb7, hw7⟩
  rw [addSt_ok (by rw [List.length_append, five_len]; simp)] at hw7
  have W7 : Hid (Wr w7 w2.heap.size 512 (some (mtHead g r))) := hw7
  have C7 := hid (C6.out.trans hb7)
  have HL8 : Hid ((mtHead g r).length = 8) := by show _ = _; simp [mtHead, five_len]
  clear hw7 hb7 W6 C6 R6
  have HFL : Hid (fillSt 512 (some (mtHead g r)) 507 = some (mtHead g r ++ List.replicate 499 0)) := by
   show _ = _
   have := fillSt_ok (most := 512) (zs := mtHead g r) (k := 499) (by rw [HL8.out]; omega)
   rw [HL8.out] at this
   exact this
  go_wp2_with fail
  refine (fill_any w2.heap.size 512 _ 507 w7 W7.out (by omega) (E2.out.below C7.out E2.out.lt) (F2.out.below C7.out F2.out.lt) E2.out.lt).mono ?_
  rintro e w8 ⟨rfl, hb8, hw8⟩
  rw [HFL.out] at hw8
  have W8 := hid hw8
  have C8 := hid (C7.out.trans hb8)
  clear hw8 hb8 W7 C7 HFL
  go_wp2_with fail
  refine (add_any w2.heap.size 512 _ _ 5 5 (five g) w8 W8.out (E2.out.below C8.out E2.out.lt) (R2.out.kept C8.out) (by omega)).mono ?_
  rintro e w9 ⟨rfl, hb9, hw9⟩
  rw [addSt_ok (by rw [List.length_append, HL8.out, List.length_replicate, five_len]; decide)] at hw9
  have W9 : Hid (Wr w9 w2.heap.size 512 (some (mtFull g r))) := hw9
  have C9 := hid (C8.out.trans hb9)
  clear hw9 hb9 W8 C8
  go_wp2_with fail
  refine (told_put w2 w9 512 _ W9.out C9.out).mono ?_
  rintro e w10 ⟨v, b, rfl, ⟨a3, n3, c3, rfl⟩, hput⟩
  rw [← HN.out] at hput
  have HQ := hid (hput.lift B2.out)
  clear hput
  go_wp2
  go_ret2
  exact HQ.out
theorem Rd.cut {w : World} {b off n c : Nat} {zs : List Int} (h : Rd w (some ⟨b, off, none⟩) n c zs) (lo m : Nat) (hm : lo + m ≤ n) : Rd w (some ⟨b, off + lo, none⟩) m (c - lo) ((zs.drop lo).take m) := by
 obtain ⟨h1, h2, h3, h4, h5, h6⟩ := h
 have e : ∀ i, i < m → ((zs.drop lo).take m)[i]?.getD 0 = zs[lo + i]?.getD 0 := by
  intro i hi
  rw [List.getElem?_take_of_lt hi, List.getElem?_drop]
 refine ⟨by simp; omega, by omega, by omega, by omega, fun i => ?_, fun hp => ?_⟩
 ·by_cases hi : i < m
  ·rw [e i hi]; exact h5 _
  ·rw [List.getElem?_eq_none (by simp; omega)]; simp
 ·obtain ⟨b', off', ha, hb, hc⟩ := h6 (by omega)
  cases ha
  refine ⟨b, off + lo, rfl, hb, fun i hi => ?_⟩
  rw [e i hi, Nat.add_assoc]
  exact hc (lo + i) (by omega)
theorem hiF_acc (zs : List Int) (h : zs.length = 512) : ∀ k, k ≤ 5 → hiF ((zs.drop 1).take k) = acc zs k
 | 0, _ => by simp [hiF, acc]
 | k + 1, hk => by
  rw [hiF_take _ (by simp; omega), hiF_acc zs h k (by omega), acc, List.getElem?_drop, Nat.add_comm 1 k]
  rfl
theorem hiF_root (zs : List Int) (h : zs.length = 512) : hiF ((zs.drop 6).take 2) = zAt zs 6 * 256 + zAt zs 7 := by
 rw [hiF_take _ (by simp; omega), hiF_take _ (by simp; omega), List.getElem?_drop, List.getElem?_drop]
 simp [hiF, zAt]
set_option maxHeartbeats 800000 in
theorem bytesEqual_any (a b : Option Addr) (n m c d : Nat) (xs ys : List Int) (w : World) (hx : Rd w a n c xs) (hy : Rd w b m d ys) :
  Calls Tryz.prog 147 #[.slice a n c, .slice b m d] w fun e w' => e = .returned (.bool (decide (xs = ys))) ∧ w = w' := by
 have h1 := run_str hx
 have h2 := run_str hy
 have b1 := at_byte hx.2.2.2.2.1
 have b2 := at_byte hy.2.2.2.2.1
 by_cases e : xs = ys
 ·subst e
  generalize strOf xs = s at *
  rw [decide_eq_true rfl]
  clear b1 b2 hx hy
  go_enter Tryz.func147, Tryz.ntmps147
  go_wp2
  go_ret
  exact ⟨rfl, rfl⟩
 ·have hne : ((strOf xs).toList == (strOf ys).toList) = false := by
   rw [beq_eq_false_iff_ne]
   exact fun h => e (strOf_eq b1 b2 (str_ext h))
  rw [decide_eq_false e]
  generalize strOf xs = s at *
  generalize strOf ys = t at *
  clear b1 b2 hx hy e
  go_enter Tryz.func147, Tryz.ntmps147
  go_wp2
  go_ret
  exact ⟨rfl, rfl⟩
open Go.RowKit
def Off (w : World) (g b : Nat) : Prop := b < w.heap.size ∧ b ≠ g ∧ ∀ v, w.cell? ⟨g, 0, none⟩ = some v → v.ownBlock ≠ some b
def Kp (g : Nat) (w w' : World) : Prop := ∀ b, Off w g b → w'.heap[b]? = w.heap[b]? ∧ Off w' g b
theorem Kp.refl (g : Nat) (w : World) : Kp g w w := fun _ h => ⟨rfl, h⟩
theorem Kp.trans {g : Nat} {w w1 w2 : World} (h : Kp g w w1) (k : Kp g w1 w2) : Kp g w w2 := fun b hb => ⟨(k b (h b hb).2).1.trans (h b hb).1, (k b (h b hb).2).2⟩
theorem Kp.alloc {g : Nat} {w : World} (hg : g < w.heap.size) (o : Obj) : Kp g w (w.alloc o) := by
 intro b hb
 refine ⟨Below.heap_alloc _ _ _ hb.1, Nat.lt_of_lt_of_le hb.1 (by simp), hb.2.1, fun v hv => hb.2.2 v ?_⟩
 rwa [World.cell?_alloc_past (hn := hg)] at hv
theorem Kp.drew (g : Nat) (w : World) : Kp g w w.drew := fun _ h => ⟨rfl, h⟩
theorem Kp.bk {g : Nat} {w w' : World} (h : Kp g w w') {b : Nat} {T : TypeId} {xs : List Value} (ho : Off w g b) (hk : Bk w b T xs) : Bk w' b T xs := (h b ho).1.trans hk
theorem only_under {G : Nat} {w w' : World} (h : Below G w w') : Only (fun b => G ≤ b) w w' := ⟨h.os, h.tape, h.output, h.size, fun b _ hn => h.block b (by omega)⟩
theorem Wr.off {w : World} {g most : Nat} {st : Option (List Int)} (h : Wr w g most st) (o : Obj) : Off (w.alloc o) g w.heap.size := by
 have hlt := h.lt
 obtain ⟨v, ev, zs, c0, c1, c2, f0, f2, ho, hr⟩ := h
 refine ⟨by simp, by omega, fun u hu e => ?_⟩
 rw [World.cell?_alloc_past (hn := hlt), c0] at hu
 cases hu
 have := (World.ownsRow.lt ho _ e).2
 omega
set_option maxHeartbeats 800000 in
theorem addK_any (g most : Nat) (zs : List Int) (a : Option Addr) (n c : Nat) (ys : List Int) (w : World) (h : Wr w g most (some zs)) (hs : Rd w a n c ys) (hn : n ≤ 1048576) (hcz : a = none → c = 0) (hfit : zs.length + ys.length ≤ most) (hmo : most ≤ 1048576) :
  Calls Tryz.prog 138 #[.pointer (some ⟨g, 0, none⟩), .slice a n c] w fun e w' => e = .returned (.tuple #[]) ∧ Below g w w' ∧ Wr w' g most (some (zs ++ ys)) ∧ Kp g w w' := by
 have HS := hid hs
 have HN : Hid (n = ys.length) := hs.1
 have hyb := at_byte hs.2.2.2.2.1
 have HY := hid hyb
 have hlt := h.lt
 have HCZ := hid hcz
 obtain ⟨v, ev, zs', c0, c1, c2, f0, f2, ho, hl, hm, hb, hst⟩ := h
 rcases hst with ⟨rfl, e⟩ | ⟨_, e⟩
 ·cases e
  obtain ⟨va, vc, hv⟩ := ho.shape
  have HO := hid ho
  have HB := hid hb
  have HV := hid hv
  rw [hv] at c0
  have HC0 := hid c0
  generalize hL : zs.length = L at hv hl c0
  have HL := hid hL
  clear ho hb hs hyb hL hv hcz
  have hbig : ¬ (most : Int) - (L : Int) < (n : Int) := by have := HL.out; have := HN.out; omega
  have HO' : Hid (Ob w (g + 1) (.slice va L vc) zs) := by show Ob w (g + 1) (.slice va L vc) zs; rw [← HL.out, ← HV.out]; exact HO.out
  have HFT : Hid (zs.length + ys.length ≤ most) := hfit
  clear hfit
  go_enter Tryz.func138, Tryz.ntmps138
  go_wp2
  go_quiet (fail)
  go_wp2_with (at_builtin; refine wpList_append_by rfl _ _ rfl (g + 1) _ zs rfl (HO'.out.drewN nq) a n c ys rfl (HS.out.drewN nq) ?b ?m ?base HCZ.out ?_)
  case b => rw [HL.out]; omega
  case m => omega
  case base => simp; omega
  intro a2 L2 k2 w2 hown2 hg2 hwh
  have hb2 : Below (g + 1) w w2 := Ob.below (HO'.out.drewN nq) (Below.drewN' (Below.refl _ _) nq) (by simp; omega) hg2
  have HO2 := hid hown2
  have HG2 := hid hg2
  have HWH := hid hwh
  have d0 := (hb2.cell (p := ⟨g, 0, none⟩) (by simp)).trans c0
  have d1 := (hb2.cell (p := ⟨g, 1, none⟩) (by simp)).trans c1
  have d2 := (hb2.cell (p := ⟨g, 2, none⟩) (by simp)).trans c2
  have e0 := (hb2.frozen (p := ⟨g, 0, none⟩) (by simp)).trans f0
  have e2 := (hb2.frozen (p := ⟨g, 2, none⟩) (by simp)).trans f2
  clear hown2 hg2 hwh
  go_wp2
  go_end0
  refine ⟨rfl, Below.setCell (p := ⟨g, 0, none⟩) (hb2.mono (Nat.le_succ g)) (Nat.le_refl g) _, ?_, ?_⟩
  ·refine ⟨.slice a2 L2 k2, .nilIface, zs ++ ys, World.cell?_setCell_same _ _ _ d0, ?_, ?_, by simpa using e0, by simpa using e2, ?_, ?_, hm, byte_append HB.out HY.out, .inl ⟨rfl, rfl⟩⟩
   ·rw [World.cell?_setCell_other (h := by simp)]; exact d1
   ·rw [World.cell?_setCell_other (h := by simp)]; exact d2
   ·exact ownsRow_setCell_below HO2.out (by simp) _
   ·rw [List.length_append]; exact HFT.out
  ·intro b hoff
   have hrow : (Value.slice va L vc).ownBlock ≠ some b := hoff.2.2 _ c0
   have hbk : w2.heap[b]? = w.heap[b]? := HG2.out.block b hoff.1 (fun e => hrow e.symm)
   refine ⟨?_, ?_, hoff.2.1, ?_⟩
   ·rw [← hbk]
    exact Below.heap_setCell _ _ _ _ (fun e => hoff.2.1 e)
   ·have := HG2.out.size
    have h1 := hoff.1
    show b < (w2.setCell _ _).heap.size
    simp [World.setCell]
    exact Nat.lt_of_lt_of_le h1 this
   ·intro u hu e
    rw [World.cell?_setCell_same _ _ _ d0] at hu
    cases hu
    rcases HWH.out with h1 | h1
    ·exact hrow (h1 ▸ e)
    ·rw [h1] at e
     have h2 := hoff.1
     have h3 : w.heap.size = b := Option.some.inj e
     omega
 ·cases e
set_option maxHeartbeats 400000 in
theorem addByteK_any (g most : Nat) (zs : List Int) (z : Int) (w : World) (h : Wr w g most (some zs)) (h0 : 0 ≤ z) (h1 : z ≤ 255) (hfit : zs.length + 1 ≤ most) (hmo : most ≤ 1048576) :
  Calls Tryz.prog 137 #[.pointer (some ⟨g, 0, none⟩), .int .u8 z] w fun e w' => e = .returned (.tuple #[]) ∧ Below g w w' ∧ Wr w' g most (some (zs ++ [z])) ∧ Kp g w w' := by
 have hlt := h.lt
 have HW := hid h
 clear h
 have hb1 : Below g w (w.alloc (.cells #[.int .u8 z] 5)) := (Below.refl _ _).alloc (Nat.le_of_lt hlt) _
 have HB := hid hb1
 have HK := hid (Kp.alloc hlt (.cells #[.int .u8 z] 5))
 clear hb1
 go_enter Tryz.func137, Tryz.ntmps137
 go_wp2_with (go_at_call 138; refine (addK_any g most zs _ 1 1 [z] _ (HW.out.alloc _) (rd_one w z h0 h1) (by omega) (fun e => by cases e) (by simpa using hfit) hmo).mono ?_; rintro e w1 ⟨rfl, hb, hw, hk⟩)
 go_end0
 exact ⟨rfl, HB.out.trans hb, hw, HK.out.trans hk⟩
set_option maxHeartbeats 800000 in
theorem numberK_any (g most : Nat) (zs : List Int) (m : Int) (w : World) (h : Wr w g most (some zs)) (h0 : 0 ≤ m) (h1 : m ≤ 1099511627775) (hfit : zs.length + (enc m).length ≤ most) (hmo : most ≤ 1048576) :
  Calls Tryz.prog 190 #[.pointer (some ⟨g, 0, none⟩), .int .i64 m] w fun e w' => e = .returned (.tuple #[]) ∧ Below g w w' ∧ Wr w' g most (some (zs ++ enc m)) ∧ Kp g w w' := by
 have HW := hid h
 have HFT := hid hfit
 clear h hfit
 go_enter Tryz.func190, Tryz.ntmps190
 go_wp2_with (go_at_call 199; refine (isNumber_any m _ true (by simp [h0, h1])).mono ?_; rintro e w' ⟨rfl, rfl⟩)
 go_loopw [1] (fun i wr => ∃ (f : Nat) (q : Int) (ds : List Int), i = .int .i64 q ∧ 0 ≤ q ∧ q ≤ 1099511627775 ∧ q < bnd f ∧ ds ++ encF f q = enc m ∧ Wr wr g most (some (zs ++ ds)) ∧ Below g w wr ∧ Kp g w wr) (fun i _ => (intOf i).toNat)
 case atStart => exact ⟨6, m, [], rfl, h0, h1, by simp [bnd]; omega, rfl, by rw [List.append_nil]; exact HW.out, Below.refl _ _, Kp.refl _ _⟩
 case round =>
  obtain ⟨f, q, ds, rfl, hq0, hq1, hqb, hds, hwr, hbel, hkp⟩ := hrel
  have HD := hid hds
  have HQ := hid hqb
  have HR := hid hwr
  have HKP := hid hkp
  have HLN : Hid (zs.length + (ds.length + 1) ≤ most) := by
   have h2 := HFT.out
   rw [← hds, List.length_append] at h2
   have h3 := encF_len f q
   show _ ≤ _
   omega
  clear hds hqb hwr hkp
  by_cases hge : 128 ≤ q
  ·obtain ⟨f', hf'⟩ : ∃ f', f = f' + 1 := by
    cases f with
    | zero => have := HQ.out; simp [bnd] at this; omega
    | succ f => exact ⟨f, rfl⟩
   subst hf'
   have HD2 : Hid (ds ++ [q % 128 + 128] ++ encF f' (q / 128) = enc m) := by
    show ds ++ [q % 128 + 128] ++ encF f' (q / 128) = enc m
    rw [← HD.out, encF_big f' q hge, Int.add_comm]; simp
   have HQ2 : Hid (q / 128 < bnd f') := bnd_down f' q HQ.out
   go_wp2_with (go_at_call 137; refine (addByteK_any g most (zs ++ ds) (q % 128 + 128) _ HR.out (by omega) (by omega) (by rw [List.length_append]; have := HLN.out; omega) hmo).mono ?_; rintro e w2 ⟨rfl, hb2, hw2, hk2⟩)
   go_roundw
   case rel => exact ⟨f', q / 128, ds ++ [q % 128 + 128], rfl, by omega, by omega, HQ2.out, HD2.out, by rw [← List.append_assoc]; exact hw2, hbel.trans hb2, HKP.out.trans hk2⟩
   case measure => simp [intOf]; omega
  ·have HE3 : Hid (ds ++ [q] = enc m) := by
    show ds ++ [q] = enc m
    rw [← HD.out, encF_small f q (by omega)]
   go_wp2_with (go_at_call 137; refine (addByteK_any g most (zs ++ ds) q _ HR.out (by omega) (by omega) (by rw [List.length_append]; have := HLN.out; omega) hmo).mono ?_; rintro e w2 ⟨rfl, hb2, hw2, hk2⟩)
   go_end0
   exact ⟨rfl, hbel.trans hb2, by rw [← HE3.out, ← List.append_assoc]; exact hw2, HKP.out.trans hk2⟩
set_option maxHeartbeats 400000 in
theorem textK_any (g most : Nat) (zs : List Int) (s : ByteArray) (w : World) (h : Wr w g most (some zs)) (hs : s.size ≤ 1048576) (hfit : zs.length + ((enc s.size).length + s.size) ≤ most) (hmo : most ≤ 1048576) :
  Calls Tryz.prog 191 #[.pointer (some ⟨g, 0, none⟩), .string s] w fun e w' => e = .returned (.tuple #[]) ∧ Below g w w' ∧ Wr w' g most (some (zs ++ (enc s.size ++ bytesOf s))) ∧ Kp g w w' := by
 have hlt := h.lt
 have HW := hid h
 have HFT := hid hfit
 clear h hfit
 have hcv := fun w => run_bytes_of_string (P := Tryz.prog) w 9 89 5 s Tryz.underlying9 Tryz.underlying89 Tryz.underlying5
 go_enter Tryz.func191, Tryz.ntmps191
 go_wp2_with (go_at_call 190; refine (numberK_any g most zs s.size w HW.out (by omega) (by omega) (by have := HFT.out; omega) hmo).mono ?_; rintro e w1 ⟨rfl, hb1, hw1, hk1⟩)
 have HW1 := hid hw1
 have HB1 := hid hb1
 have HK1 := hid hk1
 clear hw1 hb1 hk1
 have hlt1 : g ≤ w1.heap.size := Nat.le_of_lt HW1.out.lt
 have hlt2 := HW1.out.lt
 refine (addK_any g most (zs ++ enc s.size) _ s.size _ (bytesOf s) _ ?gw ?gs (by omega) (fun e => by cases e) (by rw [List.length_append, bytesOf_len]; have := HFT.out; omega) hmo).mono ?_
 case gw => exact HW1.out.alloc _
 case gs => exact rd_conv _ s _ _ (by omega) (grownCap_ge _ _ _ _) (by have := grownCap_le_maxLen w1 s.size 0 5 (by unfold maxLen; omega); unfold maxLen at this; omega)
 rintro e w2 ⟨rfl, hb2, hw2, hk2⟩
 have HB2 := hid hb2
 have HW2 := hid hw2
 have HK2 := hid hk2
 clear hb2 hw2 hk2
 go_wp2
 go_end0
 refine ⟨rfl, HB1.out.trans (((Below.refl g w1).alloc hlt1 _).drew.trans HB2.out), by rw [← List.append_assoc]; exact HW2.out, HK1.out.trans ?_⟩
 exact Kp.trans (Kp.trans (Kp.alloc hlt2 _) (Kp.drew _ _)) HK2.out
open Go.RowKit
set_option maxHeartbeats 800000 in
theorem leafFn_any (s : ByteArray) (w : World) : Calls Tryz.prog 196 #[.string s] w fun e w' => e = .returned (.bool (!vOk s)) ∧ w = w' := by
 have hnot : ∀ (x : Bool) (w : World), (Op.unary .not (.bool x)).run Tryz.prog w = .ok (.bool (!x)) w := fun _ _ => rfl
 go_enter Tryz.func196, Tryz.ntmps196
 go_wp2_with fail
 refine (implValOk_any s _).mono ?_
 rintro e w1 ⟨rfl, rfl⟩
 go_wp2
 go_ret
 exact ⟨rfl, rfl⟩
set_option maxHeartbeats 2000000 in
theorem idxS_any (S : Nat → Prop) (a : Option Addr) (n c : Nat) (ss : List ByteArray) (w : World) (h : Sr w S (.slice a n c) ss) :
  Calls Tryz.prog 200 #[.slice a n c, .func (.func 196) #[] #[]] w fun e w' => (∃ x : Int, e = .returned (.int .i64 x) ∧ decide (0 ≤ x) = !(ss.all vOk) ∧ -1 ≤ x ∧ x ≤ 9223372036854775807) ∧ w = w' := by
 have HN := hid (Rw.len h).1
 have bk := (Rw.len h).2
 have H0 := hid h
 clear h
 go_enter Tryz.func200, Tryz.ntmps200
 go_wp2_with fail
 go_loopw [8] (fun i v => ∃ k : Nat, k ≤ n ∧ i = .int .i64 k ∧ v = w ∧ Hid ((ss.take k).all vOk = true)) (fun i _ => n - (intOf i).toNat)
 case atStart => exact ⟨0, Nat.zero_le _, rfl, rfl, rfl⟩
 case round =>
  obtain ⟨m, hm, rfl, rfl, HT⟩ := hrel
  by_cases hlt : m < n
  ·have hlt' : (m : Int) < (n : Int) := by omega
   have hml : m < ss.length := by rw [← HN.out]; exact hlt
   obtain ⟨b, off, ha, -, -, hcell⟩ := H0.out.at (by omega)
   have hcm := hcell m hlt
   clear hcell
   subst ha
   generalize hcur : sAt ss m = cur at hcm
   have HC : Hid (ss[m]?.getD ⟨#[]⟩ = cur) := hcur
   clear hcur
   go_wp2_with fail
   refine (leafFn_any cur _).mono ?_
   rintro e w1 ⟨rfl, rfl⟩
   cases h1 : vOk cur
   ·have HZ : Hid (ss.all vOk = false) := all_no _ _ ⟨#[]⟩ hml (by rw [HC.out]; exact h1)
    go_wp2
    go_ret
    exact ⟨⟨_, rfl, by rw [HZ.out]; simp, by omega, by omega⟩, rfl⟩
   ·have HT2 : Hid ((ss.take (m + 1)).all vOk = true) := by
     show _ = true
     rw [all_take _ _ ⟨#[]⟩ hml, HT.out, HC.out, h1]; rfl
    go_wp2
    go_roundw
    case rel => exact ⟨m + 1, by omega, by go_num, by trivial, HT2⟩
    case measure => simp [intOf]; omega
  ·have HA : Hid (ss.all vOk = true) := by
    have := HT.out
    rwa [List.take_of_length_le (by rw [← HN.out]; omega)] at this
   go_wp2
   go_ret
   exact ⟨⟨_, rfl, by rw [HA.out]; decide, by omega, by omega⟩, rfl⟩
set_option maxHeartbeats 800000 in
theorem hasS_any (S : Nat → Prop) (a : Option Addr) (n c : Nat) (ss : List ByteArray) (w : World) (h : Sr w S (.slice a n c) ss) :
  Calls Tryz.prog 195 #[.slice a n c, .func (.func 196) #[] #[]] w fun e w' => e = .returned (.bool (!(ss.all vOk))) ∧ w = w' := by
 have H0 := hid h
 clear h
 go_enter Tryz.func195, Tryz.ntmps195
 go_wp2_with fail
 refine (idxS_any S a n c ss _ H0.out).mono ?_
 rintro e w1 ⟨⟨x, rfl, hx, h0, h1⟩, rfl⟩
 have HX := hid hx
 clear hx
 go_wp2
 go_ret
 exact ⟨by rw [← HX.out]; rfl, rfl⟩
set_option maxHeartbeats 800000 in
theorem branchFn_any (k : Int) (w : World) : Calls Tryz.prog 198 #[.int .i64 k] w fun e w' => e = .returned (.bool (!kidOk k)) ∧ w = w' := by
 have hnot : ∀ (x : Bool) (w : World), (Op.unary .not (.bool x)).run Tryz.prog w = .ok (.bool (!x)) w := fun _ _ => rfl
 have HK : Hid (kidOk k = decide (2 ≤ k ∧ k < 400)) := by
  show _ = _
  rw [kidOk]
  by_cases h1 : 2 ≤ k <;> by_cases h2 : k < 400 <;> simp [h1, h2]
 go_enter Tryz.func198, Tryz.ntmps198
 go_wp2_with fail
 refine (isPlace_any k _ (kidOk k) HK.out).mono ?_
 rintro e w1 ⟨rfl, rfl⟩
 go_wp2
 go_ret
 exact ⟨rfl, rfl⟩
set_option maxHeartbeats 2000000 in
theorem idxI_any (S : Nat → Prop) (a : Option Addr) (n c : Nat) (ss : List Int) (w : World) (h : Ir w S (.slice a n c) ss) :
  Calls Tryz.prog 201 #[.slice a n c, .func (.func 198) #[] #[]] w fun e w' => (∃ x : Int, e = .returned (.int .i64 x) ∧ decide (0 ≤ x) = !(ss.all kidOk) ∧ -1 ≤ x ∧ x ≤ 9223372036854775807) ∧ w = w' := by
 have HN := hid (Rw.len h).1
 have bk := (Rw.len h).2
 have H0 := hid h
 clear h
 go_enter Tryz.func201, Tryz.ntmps201
 go_wp2_with fail
 go_loopw [8] (fun i v => ∃ k : Nat, k ≤ n ∧ i = .int .i64 k ∧ v = w ∧ Hid ((ss.take k).all kidOk = true)) (fun i _ => n - (intOf i).toNat)
 case atStart => exact ⟨0, Nat.zero_le _, rfl, rfl, rfl⟩
 case round =>
  obtain ⟨m, hm, rfl, rfl, HT⟩ := hrel
  by_cases hlt : m < n
  ·have hlt' : (m : Int) < (n : Int) := by omega
   have hml : m < ss.length := by rw [← HN.out]; exact hlt
   obtain ⟨b, off, ha, -, -, hcell⟩ := H0.out.at (by omega)
   have hcm := hcell m hlt
   clear hcell
   subst ha
   generalize hcur : iAt ss m = cur at hcm
   have HC : Hid (ss[m]?.getD 0 = cur) := hcur
   clear hcur
   go_wp2_with fail
   refine (branchFn_any cur _).mono ?_
   rintro e w1 ⟨rfl, rfl⟩
   cases h1 : kidOk cur
   ·have HZ : Hid (ss.all kidOk = false) := all_no _ _ 0 hml (by rw [HC.out]; exact h1)
    go_wp2
    go_ret
    exact ⟨⟨_, rfl, by rw [HZ.out]; simp, by omega, by omega⟩, rfl⟩
   ·have HT2 : Hid ((ss.take (m + 1)).all kidOk = true) := by
     show _ = true
     rw [all_take _ _ 0 hml, HT.out, HC.out, h1]; rfl
    go_wp2
    go_roundw
    case rel => exact ⟨m + 1, by omega, by go_num, by trivial, HT2⟩
    case measure => simp [intOf]; omega
  ·have HA : Hid (ss.all kidOk = true) := by
    have := HT.out
    rwa [List.take_of_length_le (by rw [← HN.out]; omega)] at this
   go_wp2
   go_ret
   exact ⟨⟨_, rfl, by rw [HA.out]; decide, by omega, by omega⟩, rfl⟩
set_option maxHeartbeats 800000 in
theorem hasI_any (S : Nat → Prop) (a : Option Addr) (n c : Nat) (ss : List Int) (w : World) (h : Ir w S (.slice a n c) ss) :
  Calls Tryz.prog 197 #[.slice a n c, .func (.func 198) #[] #[]] w fun e w' => e = .returned (.bool (!(ss.all kidOk))) ∧ w = w' := by
 have H0 := hid h
 clear h
 go_enter Tryz.func197, Tryz.ntmps197
 go_wp2_with fail
 refine (idxI_any S a n c ss _ H0.out).mono ?_
 rintro e w1 ⟨⟨x, rfl, hx, h0, h1⟩, rfl⟩
 have HX := hid hx
 clear hx
 go_wp2
 go_ret
 exact ⟨by rw [← HX.out]; rfl, rfl⟩
def lfOk (p : PG) : Bool := decide (1 ≤ p.keys.length ∧ p.keys.length ≤ 4 ∧ p.vals.length = p.keys.length) && (sOkF p.keys p.keys.length 0 && p.vals.all vOk)
def bchOk (p : PG) : Bool := decide (2 ≤ p.kids.length ∧ p.kids.length ≤ 4 ∧ p.keys.length + 1 = p.kids.length ∧ p.vals.length = 0) && (sOkF p.keys p.keys.length 0 && p.kids.all kidOk)
theorem pgOk_lf {p : PG} (h : p.kids.length = 0) : pgOk p = lfOk p := by
 rw [pgOk, if_pos h, pgLeaf, lfOk]
 generalize sOkF p.keys p.keys.length 0 = x
 generalize p.vals.all vOk = y
 by_cases h1 : 1 ≤ p.keys.length <;> by_cases h2 : p.keys.length ≤ 4 <;> by_cases h3 : p.vals.length = p.keys.length <;> simp [h1, h2, h3]
theorem pgOk_br {p : PG} (h : ¬ p.kids.length = 0) : pgOk p = bchOk p := by
 rw [pgOk, if_neg h, pgBranch, bchOk]
 generalize sOkF p.keys p.keys.length 0 = x
 generalize p.kids.all kidOk = y
 by_cases h1 : 2 ≤ p.kids.length <;> by_cases h2 : p.kids.length ≤ 4 <;> by_cases h3 : p.keys.length + 1 = p.kids.length <;> by_cases h4 : p.vals.length = 0 <;> simp [h1, h2, h3, h4]
theorem lfOk_no {p : PG} (h : ¬ (1 ≤ p.keys.length ∧ p.keys.length ≤ 4 ∧ p.vals.length = p.keys.length)) : lfOk p = false := by rw [lfOk, decide_eq_false h]; rfl
theorem lfOk_yes {p : PG} (h : 1 ≤ p.keys.length ∧ p.keys.length ≤ 4 ∧ p.vals.length = p.keys.length) : lfOk p = (sOkF p.keys p.keys.length 0 && p.vals.all vOk) := by rw [lfOk, decide_eq_true h]; rfl
theorem bchOk_no {p : PG} (h : ¬ (2 ≤ p.kids.length ∧ p.kids.length ≤ 4 ∧ p.keys.length + 1 = p.kids.length ∧ p.vals.length = 0)) : bchOk p = false := by rw [bchOk, decide_eq_false h]; rfl
theorem bchOk_yes {p : PG} (h : 2 ≤ p.kids.length ∧ p.kids.length ≤ 4 ∧ p.keys.length + 1 = p.kids.length ∧ p.vals.length = 0) : bchOk p = (sOkF p.keys p.keys.length 0 && p.kids.all kidOk) := by rw [bchOk, decide_eq_true h]; rfl
theorem Sr.rise {w : World} {S : Nat → Prop} {a : Option Addr} {n c : Nat} {ss : List ByteArray} (h : Sr w S (.slice a n c) ss) (hp : 0 < n) : ∃ b off, a = some ⟨b, off, none⟩ ∧ ∀ i, i < n → w.cell? ⟨b, off + i, none⟩ = some (.string (ss[i]?.getD ⟨#[]⟩)) := by
 obtain ⟨b, off, ha, -, -, hc⟩ := h.at hp
 exact ⟨b, off, ha, hc⟩
set_option maxHeartbeats 4000000 in
theorem leafOk_any (S : Nat → Prop) (ka : Option Addr) (kn kc : Nat) (va : Option Addr) (vn vc : Nat) (ia : Option Addr) (jn ic : Nat) (p : PG) (w : World) (h : Pgr w S ka kn kc va vn vc ia jn ic p) :
  Calls Tryz.prog 188 #[.agg #[.slice ka kn kc, .slice va vn vc, .slice ia jn ic]] w fun e w' => e = .returned (.bool (lfOk p)) ∧ Below w.heap.size w w' := by
 have hb0 := below_new (o := .cells #[.slice ka kn kc, .slice va vn vc, .slice ia jn ic] 107) (w := w) (Below.refl _ _)
 have P0 := hid (h.below hb0)
 have HB := hid hb0
 have HNK := hid (Rw.len h.hk).1
 have HNV := hid (Rw.len h.hv).1
 have bk := (Rw.len h.hk).2
 have bv := (Rw.len h.hv).2
 have HNO : Hid (¬ (1 ≤ kn ∧ kn ≤ 4 ∧ vn = kn) → lfOk p = false) := fun h => lfOk_no (by rw [← HNK.out, ← HNV.out]; exact h)
 have HYES : Hid ((1 ≤ kn ∧ kn ≤ 4 ∧ vn = kn) → lfOk p = (sOkF p.keys kn 0 && p.vals.all vOk)) := fun h => by rw [lfOk_yes (by rw [← HNK.out, ← HNV.out]; exact h), ← HNK.out]
 clear h hb0
 by_cases q1 : kn = 0
 ·have HF := hid (HNO.out (by omega))
  subst q1
  clear HNO HYES
  go_enter Tryz.func188, Tryz.ntmps188
  go_wp2
  go_ret
  exact ⟨by rw [HF.out]; rfl, HB.out⟩
 ·have q1' : ((kn : Int) == 0) = false := by simp; omega
  have q1'' : ¬ (kn : Int) = 0 := by omega
  by_cases q2 : 4 < kn
  ·have HF := hid (HNO.out (by omega))
   have q2' : (4 : Int) < (kn : Int) := by omega
   clear HNO HYES
   go_enter Tryz.func188, Tryz.ntmps188
   go_wp2
   go_ret
   exact ⟨by rw [HF.out]; rfl, HB.out⟩
  ·have q2' : ¬ (4 : Int) < (kn : Int) := by omega
   by_cases q3 : vn = kn
   ·subst q3
    have HF := hid (HYES.out ⟨by omega, by omega, rfl⟩)
    have q3' : ((vn : Int) != (vn : Int)) = false := by simp
    clear HNO HYES
    go_enter Tryz.func188, Tryz.ntmps188
    go_wp2_with fail
    refine (implKeysRise_any ka vn kc p.keys _ HNK.out (by omega) (by omega) (fun hp => P0.out.hk.rise hp)).mono ?_
    rintro e w1 ⟨rfl, rfl⟩
    obtain ⟨Z, hZ⟩ : ∃ Z, sOkF p.keys vn 0 = Z := ⟨_, rfl⟩
    rw [hZ]
    have HZ := hid hZ
    clear hZ
    cases Z
    ·go_wp2
     go_ret
     exact ⟨by rw [HF.out, HZ.out]; rfl, HB.out⟩
    ·go_wp2_with fail
     refine (hasS_any S va vn vc p.vals _ P0.out.hv).mono ?_
     rintro e w1 ⟨rfl, rfl⟩
     obtain ⟨Y, hY⟩ : ∃ Y, p.vals.all vOk = Y := ⟨_, rfl⟩
     rw [hY]
     have HY := hid hY
     clear hY
     cases Y
     ·go_wp2
      go_ret
      exact ⟨by rw [HF.out, HZ.out, HY.out]; rfl, HB.out⟩
     ·go_wp2
      go_ret
      exact ⟨by rw [HF.out, HZ.out, HY.out]; rfl, HB.out⟩
   ·have HF := hid (HNO.out (by omega))
    have q3' : ((vn : Int) != (kn : Int)) = true := by simp; omega
    clear HNO HYES
    go_enter Tryz.func188, Tryz.ntmps188
    go_wp2
    go_ret
    exact ⟨by rw [HF.out]; rfl, HB.out⟩
set_option maxHeartbeats 4000000 in
theorem branchOk_any (S : Nat → Prop) (ka : Option Addr) (kn kc : Nat) (va : Option Addr) (vn vc : Nat) (ia : Option Addr) (jn ic : Nat) (p : PG) (w : World) (h : Pgr w S ka kn kc va vn vc ia jn ic p) :
  Calls Tryz.prog 189 #[.agg #[.slice ka kn kc, .slice va vn vc, .slice ia jn ic]] w fun e w' => e = .returned (.bool (bchOk p)) ∧ Below w.heap.size w w' := by
 have hb0 := below_new (o := .cells #[.slice ka kn kc, .slice va vn vc, .slice ia jn ic] 107) (w := w) (Below.refl _ _)
 have P0 := hid (h.below hb0)
 have HB := hid hb0
 have HNK := hid (Rw.len h.hk).1
 have HNV := hid (Rw.len h.hv).1
 have HNI := hid (Rw.len h.hi).1
 have bk := (Rw.len h.hk).2
 have bv := (Rw.len h.hv).2
 have bi := (Rw.len h.hi).2
 have HNO : Hid (¬ (2 ≤ jn ∧ jn ≤ 4 ∧ kn + 1 = jn ∧ vn = 0) → bchOk p = false) := fun h => bchOk_no (by rw [← HNK.out, ← HNV.out, ← HNI.out]; exact h)
 have HYES : Hid ((2 ≤ jn ∧ jn ≤ 4 ∧ kn + 1 = jn ∧ vn = 0) → bchOk p = (sOkF p.keys kn 0 && p.kids.all kidOk)) := fun h => by rw [bchOk_yes (by rw [← HNK.out, ← HNV.out, ← HNI.out]; exact h), ← HNK.out]
 clear h hb0
 by_cases q1 : jn < 2
 ·have HF := hid (HNO.out (by omega))
  have q1' : (jn : Int) < 2 := by omega
  clear HNO HYES
  go_enter Tryz.func189, Tryz.ntmps189
  go_wp2
  go_ret
  exact ⟨by rw [HF.out]; rfl, HB.out⟩
 ·have q1' : ¬ (jn : Int) < 2 := by omega
  by_cases q2 : 4 < jn
  ·have HF := hid (HNO.out (by omega))
   have q2' : (4 : Int) < (jn : Int) := by omega
   clear HNO HYES
   go_enter Tryz.func189, Tryz.ntmps189
   go_wp2
   go_ret
   exact ⟨by rw [HF.out]; rfl, HB.out⟩
  ·have q2' : ¬ (4 : Int) < (jn : Int) := by omega
   by_cases q3 : kn + 1 = jn
   ·have q3' : ((kn : Int) != (jn : Int) - 1) = false := by simp; omega
    by_cases q4 : vn = 0
    ·have HF := hid (HYES.out ⟨by omega, by omega, q3, q4⟩)
     subst q4
     clear HNO HYES
     go_enter Tryz.func189, Tryz.ntmps189
     go_wp2_with fail
     refine (implKeysRise_any ka kn kc p.keys _ HNK.out (by omega) (by omega) (fun hp => P0.out.hk.rise hp)).mono ?_
     rintro e w1 ⟨rfl, rfl⟩
     obtain ⟨Z, hZ⟩ : ∃ Z, sOkF p.keys kn 0 = Z := ⟨_, rfl⟩
     rw [hZ]
     have HZ := hid hZ
     clear hZ
     cases Z
     ·go_wp2
      go_ret
      exact ⟨by rw [HF.out, HZ.out]; rfl, HB.out⟩
     ·go_wp2_with fail
      refine (hasI_any S ia jn ic p.kids _ P0.out.hi).mono ?_
      rintro e w1 ⟨rfl, rfl⟩
      obtain ⟨Y, hY⟩ : ∃ Y, p.kids.all kidOk = Y := ⟨_, rfl⟩
      rw [hY]
      have HY := hid hY
      clear hY
      cases Y
      ·go_wp2
       go_ret
       exact ⟨by rw [HF.out, HZ.out, HY.out]; rfl, HB.out⟩
      ·go_wp2
       go_ret
       exact ⟨by rw [HF.out, HZ.out, HY.out]; rfl, HB.out⟩
    ·have HF := hid (HNO.out (by omega))
     have q4' : ((vn : Int) != 0) = true := by simp; omega
     clear HNO HYES
     go_enter Tryz.func189, Tryz.ntmps189
     go_wp2
     go_ret
     exact ⟨by rw [HF.out]; rfl, HB.out⟩
   ·have HF := hid (HNO.out (by omega))
    have q3' : ((kn : Int) != (jn : Int) - 1) = true := by simp; omega
    clear HNO HYES
    go_enter Tryz.func189, Tryz.ntmps189
    go_wp2
    go_ret
    exact ⟨by rw [HF.out]; rfl, HB.out⟩
set_option maxHeartbeats 2000000 in
theorem implPageOk_any (S : Nat → Prop) (ka : Option Addr) (kn kc : Nat) (va : Option Addr) (vn vc : Nat) (ia : Option Addr) (jn ic : Nat) (p : PG) (w : World) (h : Pgr w S ka kn kc va vn vc ia jn ic p) :
  Calls Tryz.prog 180 #[.agg #[.slice ka kn kc, .slice va vn vc, .slice ia jn ic]] w fun e w' => e = .returned (.bool (pgOk p)) ∧ Below w.heap.size w w' := by
 have hb0 := below_new (o := .cells #[.slice ka kn kc, .slice va vn vc, .slice ia jn ic] 107) (w := w) (Below.refl _ _)
 have P0 := hid (h.below hb0)
 have HB := hid hb0
 have HNI := hid (Rw.len h.hi).1
 have bi := (Rw.len h.hi).2
 clear h hb0
 by_cases q1 : jn = 0
 ·have HE := hid (pgOk_lf (p := p) (by rw [← HNI.out]; exact q1))
  subst q1
  go_enter Tryz.func180, Tryz.ntmps180
  go_wp2_with fail
  refine (leafOk_any S ka kn kc va vn vc ia 0 ic p _ P0.out).mono ?_
  rintro e w1 ⟨rfl, hb1⟩
  have HB1 := hid (btw HB.out hb1)
  clear hb1
  go_wp2
  go_ret
  exact ⟨by rw [HE.out]; rfl, HB1.out⟩
 ·have HE := hid (pgOk_br (p := p) (by rw [← HNI.out]; exact q1))
  have q1' : ((jn : Int) == 0) = false := by simp; omega
  have q1'' : ¬ (jn : Int) = 0 := by omega
  go_enter Tryz.func180, Tryz.ntmps180
  go_wp2_with fail
  refine (branchOk_any S ka kn kc va vn vc ia jn ic p _ P0.out).mono ?_
  rintro e w1 ⟨rfl, hb1⟩
  have HB1 := hid (btw HB.out hb1)
  clear hb1
  go_wp2
  go_ret
  exact ⟨by rw [HE.out]; rfl, HB1.out⟩
open Go.RowKit
structure Wl (w v : World) (G b0 : Nat) (ka : Option Addr) (kn kc : Nat) (va : Option Addr) (vn vc : Nat) (ia : Option Addr) (jn ic : Nat) (p : PG) (zs : List Int) : Prop where
 be : Below G w v
 wr : Wr v G 512 (some zs)
 bk : Bk v b0 107 [.slice ka kn kc, .slice va vn vc, .slice ia jn ic]
 off : Off v G b0
 pg : Pgr v (fun b => b < G) ka kn kc va vn vc ia jn ic p
theorem Wl.step {w v v' : World} {G b0 : Nat} {ka : Option Addr} {kn kc : Nat} {va : Option Addr} {vn vc : Nat} {ia : Option Addr} {jn ic : Nat} {p : PG} {zs zs' : List Int} (h : Wl w v G b0 ka kn kc va vn vc ia jn ic p zs) (hb : Below G v v') (hw : Wr v' G 512 (some zs')) (hk : Kp G v v') : Wl w v' G b0 ka kn kc va vn vc ia jn ic p zs' :=
 ⟨h.be.trans hb, hw, hk.bk h.off h.bk, (hk b0 h.off).2, h.pg.to (only_under hb) (fun b h1 _ h2 => by omega)⟩
theorem Wl.cells {w v : World} {G b0 : Nat} {ka : Option Addr} {kn kc : Nat} {va : Option Addr} {vn vc : Nat} {ia : Option Addr} {jn ic : Nat} {p : PG} {zs : List Int} (h : Wl w v G b0 ka kn kc va vn vc ia jn ic p zs) : v.cell? ⟨b0, 0, none⟩ = some (.slice ka kn kc) ∧ v.cell? ⟨b0, 1, none⟩ = some (.slice va vn vc) ∧ v.cell? ⟨b0, 2, none⟩ = some (.slice ia jn ic) := ⟨h.bk.cell (j := 0) rfl, h.bk.cell (j := 1) rfl, h.bk.cell (j := 2) rfl⟩
theorem Wl.start {w : World} {G : Nat} {ka : Option Addr} {kn kc : Nat} {va : Option Addr} {vn vc : Nat} {ia : Option Addr} {jn ic : Nat} {p : PG} (hw : Wr w G 512 (some [])) (h : Pgr w (fun b => b < G) ka kn kc va vn vc ia jn ic p) : Wl w (w.alloc (.cells #[.slice ka kn kc, .slice va vn vc, .slice ia jn ic] 107)) G w.heap.size ka kn kc va vn vc ia jn ic p [] :=
 ⟨(Below.refl _ _).alloc (Nat.le_of_lt hw.lt) _, hw.alloc _, Bk.new w _ [_, _, _], hw.off _, h.below (below_new (Below.refl _ _))⟩
theorem pgBody_room {p : PG} (hF : PgF p) {j : Nat} (hj : j < p.keys.length) : (pgBody p j).length + (pgPart p j).length ≤ 500 := by
 have h1 := pgBody_len hF j (by omega)
 have h2 := pgPart_len hF hj
 have h3 := hF.nk
 omega
set_option maxHeartbeats 4000000 in
set_option maxRecDepth 20000 in
theorem writeLeaf_any (G : Nat) (ka : Option Addr) (kn kc : Nat) (va : Option Addr) (vn vc : Nat) (ia : Option Addr) (jn ic : Nat) (p : PG) (w : World) (hw : Wr w G 512 (some [])) (h : Pgr w (fun b => b < G) ka kn kc va vn vc ia jn ic p) (hF : PgF p) (h0 : p.kids.length = 0) :
  Calls Tryz.prog 181 #[.pointer (some ⟨G, 0, none⟩), .agg #[.slice ka kn kc, .slice va vn vc, .slice ia jn ic]] w fun e w' => e = .returned (.tuple #[]) ∧ Below G w w' ∧ Wr w' G 512 (some (pgRaw p)) := by
 have L0 := hid (Wl.start hw h)
 have NK := hid (Rw.len h.hk).1
 have NV := hid (Rw.len h.hv).1
 have bk := (Rw.len h.hk).2
 have bv := (Rw.len h.hv).2
 have HF := hid hF
 have HVK : Hid (vn = kn) := by show _ = _; rw [NV.out, NK.out]; exact (hF.lf h0).1
 have HVS := hid (hF.lf h0).2
 have hk4 : kn ≤ 4 := by rw [NK.out]; exact hF.nk
 have HEH : Hid (pgHead p = [76] ++ enc (kn : Int)) := by show _ = _; rw [pgHead, if_pos h0, if_pos h0, ← NK.out]; simp
 have HPA : Hid (∀ i, pgPart p i = (enc (sAt p.keys i).size ++ bytesOf (sAt p.keys i)) ++ (enc (sAt p.vals i).size ++ bytesOf (sAt p.vals i))) := fun i => by rw [pgPart, if_pos h0]
 clear h hF h0 hw
 go_enter Tryz.func181, Tryz.ntmps181
 go_wp2_with fail
 refine (addByteK_any G 512 [] 76 _ L0.out.wr (by omega) (by omega) (by simp) (by omega)).mono ?_
 generalize w.alloc (.cells #[.slice ka kn kc, .slice va vn vc, .slice ia jn ic] 107) = U at *
 generalize w.heap.size = b0 at *
 rintro e w1 ⟨rfl, hb1, hw1, hk1⟩
 have L1 := hid (L0.out.step hb1 hw1 hk1)
 clear hb1 hw1 hk1 L0
 obtain ⟨c0, c1, c2⟩ := L1.out.cells
 have hen := enc_len (kn : Int)
 go_wp2_with fail
 refine (numberK_any G 512 _ (kn : Int) _ L1.out.wr (by omega) (by omega) (by simp; omega) (by omega)).mono ?_
 rintro e w2 ⟨rfl, hb2, hw2, hk2⟩
 have L2 := hid (L1.out.step hb2 hw2 hk2)
 have L2' : Hid (Wl w w2 G b0 ka kn kc va vn vc ia jn ic p (pgBody p 0)) := by rw [pgBody, HEH.out]; exact L2.out
 clear hb2 hw2 hk2 L1 L2 c0 c1 c2 hen
 obtain ⟨c0, c1, c2⟩ := L2'.out.cells
 go_wp2_with fail
 clear c0 c1 c2
 go_loopw [16] (fun i wr => ∃ j : Nat, j ≤ kn ∧ i = .int .i64 j ∧ Hid (Wl w wr G b0 ka kn kc va vn vc ia jn ic p (pgBody p j))) (fun i _ => kn - (intOf i).toNat)
 case atStart => exact ⟨0, Nat.zero_le _, rfl, L2'⟩
 case round =>
  obtain ⟨j, hj, rfl, L3⟩ := hrel
  clear L2'
  by_cases hlt : j < kn
  ·have hlt' : (j : Int) < (kn : Int) := by omega
   have hltv : (j : Int) < (vn : Int) := by have := HVK.out; omega
   have hjl : j < p.keys.length := by rw [← NK.out]; exact hlt
   have hjv : j < p.vals.length := by rw [← NV.out]; omega
   obtain ⟨kb, ko, hka, -, -, hck⟩ := L3.out.pg.hk.at (by omega)
   obtain ⟨vb, vo, hva, -, -, -⟩ := L3.out.pg.hv.at (by omega)
   subst hka hva
   have m0 := hck j hlt
   have HKS := hid (HF.out.ks j hjl)
   have HVZ := hid (HVS.out j hjv)
   have HST : Hid (pgBody p (j + 1) = pgBody p j ++ ((enc (sAt p.keys j).size ++ bytesOf (sAt p.keys j)) ++ (enc (sAt p.vals j).size ++ bytesOf (sAt p.vals j)))) := by show _ = _; rw [pgBody, HPA.out]
   have HRM : Hid ((pgBody p j).length + (((enc (sAt p.keys j).size).length + (sAt p.keys j).size) + ((enc (sAt p.vals j).size).length + (sAt p.vals j).size)) ≤ 500) := by
    have := pgBody_room HF.out hjl
    rw [HPA.out] at this
    simp only [List.length_append, bytesOf_len] at this
    exact this
   have HCV : Hid (∀ u zs, Wl w u G b0 (some ⟨kb, ko, none⟩) kn kc (some ⟨vb, vo, none⟩) vn vc ia jn ic p zs → u.cell? ⟨vb, vo + j, none⟩ = some (.string (sAt p.vals j))) := by
    intro u zs hu
    obtain ⟨vb', vo', e, -, -, hc⟩ := hu.pg.hv.at (by omega)
    cases e
    exact hc j (by omega)
   clear hck
   generalize sAt p.keys j = kk at *
   generalize sAt p.vals j = vv at *
   go_wp2_with fail
   refine (textK_any G 512 _ kk _ L3.out.wr (by have := HKS.out; omega) (by have := HRM.out; omega) (by omega)).mono ?_
   rintro e w4 ⟨rfl, hb4, hw4, hk4'⟩
   have L4 := hid (L3.out.step hb4 hw4 hk4')
   have m4 := HCV.out _ _ L4.out
   clear hb4 hw4 hk4' L3 m0
   obtain ⟨c0, c1, c2⟩ := L4.out.cells
   go_wp2_with fail
   refine (textK_any G 512 _ vv _ L4.out.wr (by have := HVZ.out; omega) (by have := HRM.out; rw [List.length_append, List.length_append, bytesOf_len]; omega) (by omega)).mono ?_
   rintro e w5 ⟨rfl, hb5, hw5, hk5⟩
   have L5 := hid (L4.out.step hb5 hw5 hk5)
   have L6 : Hid (Wl w w5 G b0 (some ⟨kb, ko, none⟩) kn kc (some ⟨vb, vo, none⟩) vn vc ia jn ic p (pgBody p (j + 1))) := by rw [HST.out, ← List.append_assoc]; exact L5.out
   clear hb5 hw5 hk5 L4 L5 m4 c0 c1 c2 HCV HST HRM HKS HVZ
   go_wp2
   go_roundw
   case rel => exact ⟨j + 1, by omega, by go_num, L6⟩
   case measure => simp [intOf]; omega
  ·have hjk : j = kn := by omega
   have HW : Hid (Wr wr G 512 (some (pgRaw p))) := by
    have := L3.out.wr
    rw [hjk, NK.out] at this
    exact this
   clear hjk
   go_wp2
   go_end0
   exact ⟨rfl, L3.out.be, HW.out⟩
set_option maxHeartbeats 4000000 in
set_option maxRecDepth 20000 in
theorem writeBranch_any (G : Nat) (ka : Option Addr) (kn kc : Nat) (va : Option Addr) (vn vc : Nat) (ia : Option Addr) (jn ic : Nat) (p : PG) (w : World) (hw : Wr w G 512 (some [])) (h : Pgr w (fun b => b < G) ka kn kc va vn vc ia jn ic p) (hF : PgF p) (h0 : ¬ p.kids.length = 0) :
  Calls Tryz.prog 182 #[.pointer (some ⟨G, 0, none⟩), .agg #[.slice ka kn kc, .slice va vn vc, .slice ia jn ic]] w fun e w' => e = .returned (.tuple #[]) ∧ Below G w w' ∧ Wr w' G 512 (some (pgRaw p)) := by
 have L0 := hid (Wl.start hw h)
 have NK := hid (Rw.len h.hk).1
 have NI := hid (Rw.len h.hi).1
 have bk := (Rw.len h.hk).2
 have bi := (Rw.len h.hi).2
 have HF := hid hF
 have HJN : Hid (jn = kn + 1) := by show _ = _; rw [NI.out, NK.out]; exact (hF.br h0).1
 have HIS := hid (hF.br h0).2
 have hk4 : kn ≤ 4 := by rw [NK.out]; exact hF.nk
 have hjp : 0 < jn := by have := HJN.out; omega
 have hjp' : (0 : Int) < (jn : Int) := by omega
 have HEH : Hid (pgHead p = [66] ++ enc (kn : Int) ++ enc (iAt p.kids 0)) := by show _ = _; rw [pgHead, if_neg h0, if_neg h0, ← NK.out]
 have HPA : Hid (∀ i, pgPart p i = (enc (sAt p.keys i).size ++ bytesOf (sAt p.keys i)) ++ enc (iAt p.kids (i + 1))) := fun i => by rw [pgPart, if_neg h0]
 have HK0 := hid (HIS.out 0 (by rw [← NI.out]; exact hjp))
 clear h hF h0 hw
 obtain ⟨ib, io, hia, -, -, -⟩ := L0.out.pg.hi.at hjp
 subst hia
 have HCI : Hid (∀ j, j < jn → ∀ u zs, Wl w u G w.heap.size ka kn kc va vn vc (some ⟨ib, io, none⟩) jn ic p zs → u.cell? ⟨ib, io + j, none⟩ = some (.int .i64 (iAt p.kids j))) := by
  intro j hj u zs hu
  obtain ⟨ib', io', e, -, -, hc⟩ := hu.pg.hi.at hjp
  cases e
  exact hc j hj
 go_enter Tryz.func182, Tryz.ntmps182
 go_wp2_with fail
 refine (addByteK_any G 512 [] 66 _ L0.out.wr (by omega) (by omega) (by simp) (by omega)).mono ?_
 generalize w.alloc (.cells #[.slice ka kn kc, .slice va vn vc, .slice (some ⟨ib, io, none⟩) jn ic] 107) = U at *
 generalize w.heap.size = b0 at *
 rintro e w1 ⟨rfl, hb1, hw1, hk1⟩
 have L1 := hid (L0.out.step hb1 hw1 hk1)
 clear hb1 hw1 hk1 L0
 obtain ⟨c0, c1, c2⟩ := L1.out.cells
 have hen := enc_len (kn : Int)
 have hen2 := enc_len (iAt p.kids 0)
 have HEN := hid hen
 have HEN2 := hid hen2
 clear hen hen2
 go_wp2_with fail
 refine (numberK_any G 512 _ (kn : Int) _ L1.out.wr (by omega) (by omega) (by have := HEN.out; simp; omega) (by omega)).mono ?_
 rintro e w2 ⟨rfl, hb2, hw2, hk2⟩
 have L2 := hid (L1.out.step hb2 hw2 hk2)
 have m2 := HCI.out 0 hjp _ _ L2.out
 rw [Nat.add_zero] at m2
 clear hb2 hw2 hk2 L1 c0 c1 c2
 obtain ⟨c0, c1, c2⟩ := L2.out.cells
 generalize hkid : iAt p.kids 0 = kid0 at *
 have HKID := hid hkid
 clear hkid
 have hkr := HK0.out
 go_wp2_with fail
 refine (numberK_any G 512 _ kid0 _ L2.out.wr (by omega) (by omega) (by have := HEN.out; have := HEN2.out; simp; omega) (by omega)).mono ?_
 rintro e w3 ⟨rfl, hb3, hw3, hk3⟩
 have L3' := hid (L2.out.step hb3 hw3 hk3)
 have L3 : Hid (Wl w w3 G b0 ka kn kc va vn vc (some ⟨ib, io, none⟩) jn ic p (pgBody p 0)) := by rw [pgBody, HEH.out]; exact L3'.out
 clear hb3 hw3 hk3 L2 L3' m2 c0 c1 c2 HEH
 obtain ⟨c0, c1, c2⟩ := L3.out.cells
 go_wp2_with fail
 clear c0 c1 c2
 go_loopw [22] (fun i wr => ∃ j : Nat, j ≤ kn ∧ i = .int .i64 j ∧ Hid (Wl w wr G b0 ka kn kc va vn vc (some ⟨ib, io, none⟩) jn ic p (pgBody p j))) (fun i _ => kn - (intOf i).toNat)
 case atStart => exact ⟨0, Nat.zero_le _, rfl, L3⟩
 case round =>
  obtain ⟨j, hj, rfl, L4⟩ := hrel
  clear L3
  by_cases hlt : j < kn
  ·have hlt' : (j : Int) < (kn : Int) := by omega
   have hlt2 : (j : Int) + 1 < (jn : Int) := by have := HJN.out; omega
   have hjl : j < p.keys.length := by rw [← NK.out]; exact hlt
   obtain ⟨kb, ko, hka, -, -, hck⟩ := L4.out.pg.hk.at (by omega)
   subst hka
   have m0 := hck j hlt
   have HKS := hid (HF.out.ks j hjl)
   have HVZ := hid (HIS.out (j + 1) (by rw [← NI.out]; omega))
   have HST : Hid (pgBody p (j + 1) = pgBody p j ++ ((enc (sAt p.keys j).size ++ bytesOf (sAt p.keys j)) ++ enc (iAt p.kids (j + 1)))) := by show _ = _; rw [pgBody, HPA.out]
   have HRM : Hid ((pgBody p j).length + (((enc (sAt p.keys j).size).length + (sAt p.keys j).size) + (enc (iAt p.kids (j + 1))).length) ≤ 500) := by
    have := pgBody_room HF.out hjl
    rw [HPA.out] at this
    simp only [List.length_append, bytesOf_len] at this
    exact this
   have HCV := hid (HCI.out (j + 1) (by omega))
   clear hck
   generalize sAt p.keys j = kk at *
   generalize iAt p.kids (j + 1) = vv at *
   go_wp2_with fail
   refine (textK_any G 512 _ kk _ L4.out.wr (by have := HKS.out; omega) (by have := HRM.out; omega) (by omega)).mono ?_
   rintro e w4 ⟨rfl, hb4, hw4, hk4'⟩
   have L5 := hid (L4.out.step hb4 hw4 hk4')
   have m4 := HCV.out _ _ L5.out
   clear hb4 hw4 hk4' L4 m0
   obtain ⟨c0, c1, c2⟩ := L5.out.cells
   have hvz := HVZ.out
   go_wp2_with fail
   refine (numberK_any G 512 _ vv _ L5.out.wr (by omega) (by omega) (by have := HRM.out; rw [List.length_append, List.length_append, bytesOf_len]; omega) (by omega)).mono ?_
   rintro e w5 ⟨rfl, hb5, hw5, hk5⟩
   have L6 := hid (L5.out.step hb5 hw5 hk5)
   have L7 : Hid (Wl w w5 G b0 (some ⟨kb, ko, none⟩) kn kc va vn vc (some ⟨ib, io, none⟩) jn ic p (pgBody p (j + 1))) := by rw [HST.out, ← List.append_assoc]; exact L6.out
   clear hb5 hw5 hk5 L5 L6 m4 c0 c1 c2 HCV HST HRM HKS HVZ hvz
   go_wp2
   go_roundw
   case rel => exact ⟨j + 1, by omega, by go_num, L7⟩
   case measure => simp [intOf]; omega
  ·have hjk : j = kn := by omega
   have HW : Hid (Wr wr G 512 (some (pgRaw p))) := by
    have := L4.out.wr
    rw [hjk, NK.out] at this
    exact this
   clear hjk
   go_wp2
   go_end0
   exact ⟨rfl, L4.out.be, HW.out⟩
theorem pgRaw_len {p : PG} (hF : PgF p) : (pgRaw p).length ≤ 512 := by
 have h1 := pgBody_len hF p.keys.length (Nat.le_refl _)
 have h2 := hF.nk
 show (pgBody p p.keys.length).length ≤ 512
 omega
set_option maxHeartbeats 4000000 in
set_option maxRecDepth 20000 in
theorem implPageBytes_any (S : Nat → Prop) (ka : Option Addr) (kn kc : Nat) (va : Option Addr) (vn vc : Nat) (ia : Option Addr) (jn ic : Nat) (p : PG) (w : World) (h : Pgr w S ka kn kc va vn vc ia jn ic p) (he : Err w 0) (he2 : Err w 1) :
  Calls Tryz.prog 169 #[.agg #[.slice ka kn kc, .slice va vn vc, .slice ia jn ic]] w fun e w' => Put w (pgBytes p) e w' := by
 have hb0 := below_new (o := .cells #[.slice ka kn kc, .slice va vn vc, .slice ia jn ic] 107) (w := w) (Below.refl _ _)
 have P0 := hid (h.below hb0)
 have B0 := hid hb0
 have K0 := hid (Bk.new w 107 [.slice ka kn kc, .slice va vn vc, .slice ia jn ic])
 have NI := hid (Rw.len h.hi).1
 have bi := (Rw.len h.hi).2
 have HE := hid he
 have HE2 := hid he2
 have HP : Hid (pgBytes p = if pgOk p = true then some (pgFull p) else none) := rfl
 clear h hb0 he he2
 go_enter Tryz.func169, Tryz.ntmps169
 go_wp2_with fail
 refine (implPageOk_any S ka kn kc va vn vc ia jn ic p _ P0.out).mono ?_
 generalize w.alloc (.cells #[.slice ka kn kc, .slice va vn vc, .slice ia jn ic] 107) = U at *
 rintro e w1 ⟨rfl, hb1⟩
 have B1 := hid (btw B0.out hb1)
 have K1 := hid (K0.out.below hb1)
 have P1 := hid (P0.out.below hb1)
 clear hb1 B0 K0 P0
 cases hok : pgOk p with
 | false =>
  have HN : Hid (pgBytes p = none) := by show _ = _; rw [HP.out, hok]; rfl
  go_wp2
  go_ret2
  exact ⟨B1.out, .inl ⟨HN.out, rfl⟩⟩
 | true =>
  have HN : Hid (pgBytes p = some (pgFull p)) := by show _ = _; rw [HP.out, hok]; rfl
  have HF := hid (pgOk_facts hok)
  have E1 := hid (HE.out.below B1.out HE.out.lt)
  have F1 := hid (HE2.out.below B1.out HE2.out.lt)
  clear hok HP HE HE2
  go_wp2_with fail
  refine (newWriter_any 512 none 0 0 [] w1 E1.out E1.out.lt (rd_nilM _) (by omega) (by omega)).mono ?_
  rintro e w2 ⟨rfl, hb2, hw2⟩
  have W2 : Hid (Wr w2 w1.heap.size 512 (some [])) := hw2
  have C2 := hid hb2
  have K2 := hid (K1.out.below hb2)
  have P2 : Hid (Pgr w2 (fun b => b < w1.heap.size) ka kn kc va vn vc ia jn ic p) := by
   have hm : Pgr w1 (fun b => b < w1.heap.size) ka kn kc va vn vc ia jn ic p := ⟨Rw.mono P1.out.hk (fun b _ hb => hb), Rw.mono P1.out.hv (fun b _ hb => hb), Rw.mono P1.out.hi (fun b _ hb => hb)⟩
   exact hm.below hb2
  clear hw2 hb2 K1 P1
  have c0 := K2.out.cell (j := 0) rfl
  have c1 := K2.out.cell (j := 1) rfl
  have c2 := K2.out.cell (j := 2) rfl
  have HFL : Hid (fillSt 512 (some (pgRaw p)) 512 = some (pgFull p)) := by
   show _ = _
   have hl := pgRaw_len HF.out
   have := fillSt_ok (most := 512) (zs := pgRaw p) (k := 512 - (pgRaw p).length) (by omega)
   rw [show (pgRaw p).length + (512 - (pgRaw p).length) = 512 by omega] at this
   exact this
  by_cases hi0 : jn = 0
  ·have h00 : p.kids.length = 0 := by rw [← NI.out]; exact hi0
   have HWL := hid (writeLeaf_any w1.heap.size ka kn kc va vn vc ia jn ic p w2 W2.out P2.out HF.out h00)
   subst hi0
   clear h00
   go_wp2_with fail
   refine HWL.out.mono ?_
   rintro e w3 ⟨rfl, hb3, hw3⟩
   have W3 := hid hw3
   have C3 := hid (C2.out.trans hb3)
   clear hw3 hb3 HWL W2 C2 c0 c1 c2
   go_wp2_with fail
   refine (fill_any w1.heap.size 512 _ 512 w3 W3.out (by omega) (E1.out.below C3.out E1.out.lt) (F1.out.below C3.out F1.out.lt) E1.out.lt).mono ?_
   rintro e w4 ⟨rfl, hb4, hw4⟩
   rw [HFL.out] at hw4
   have W4 := hid hw4
   have C4 := hid (C3.out.trans hb4)
   clear hw4 hb4 W3 C3
   go_wp2_with fail
   refine (told_put w1 w4 512 _ W4.out C4.out).mono ?_
   rintro e w5 ⟨v, b, rfl, ⟨a3, n3, c3, rfl⟩, hput⟩
   rw [← HN.out] at hput
   have HQ := hid (hput.lift B1.out)
   clear hput
   go_wp2
   go_ret2
   exact HQ.out
  ·have h00 : ¬ p.kids.length = 0 := by rw [← NI.out]; exact hi0
   have HWL := hid (writeBranch_any w1.heap.size ka kn kc va vn vc ia jn ic p w2 W2.out P2.out HF.out h00)
   have hi0' : ((jn : Int) == 0) = false := by simp; omega
   have hi0'' : ¬ (jn : Int) = 0 := by omega
   clear h00
   go_wp2_with fail
   refine HWL.out.mono ?_
   rintro e w3 ⟨rfl, hb3, hw3⟩
   have W3 := hid hw3
   have C3 := hid (C2.out.trans hb3)
   clear hw3 hb3 HWL W2 C2 c0 c1 c2
   go_wp2_with fail
   refine (fill_any w1.heap.size 512 _ 512 w3 W3.out (by omega) (E1.out.below C3.out E1.out.lt) (F1.out.below C3.out F1.out.lt) E1.out.lt).mono ?_
   rintro e w4 ⟨rfl, hb4, hw4⟩
   rw [HFL.out] at hw4
   have W4 := hid hw4
   have C4 := hid (C3.out.trans hb4)
   clear hw4 hb4 W3 C3
   go_wp2_with fail
   refine (told_put w1 w4 512 _ W4.out C4.out).mono ?_
   rintro e w5 ⟨v, b, rfl, ⟨a3, n3, c3, rfl⟩, hput⟩
   rw [← HN.out] at hput
   have HQ := hid (hput.lift B1.out)
   clear hput
   go_wp2
   go_ret2
   exact HQ.out
open Go.RowKit
def RdP (zs : List Int) (R : Nat) (w : World) (e : Ending) (w' : World) : Prop :=
 Only (fun y => y = R) w w' ∧ ((Gave e ∧ prd zs = none) ∨ ∃ (ka : Option Addr) (kn kc : Nat) (va : Option Addr) (vn vc : Nat) (ia : Option Addr) (jn ic : Nat) (p : PG), e = .returned (.agg #[.slice ka kn kc, .slice va vn vc, .slice ia jn ic]) ∧
  PO w' (.slice ka kn kc) (.slice va vn vc) (.slice ia jn ic) p ∧ (∀ y, pbl (.slice ka kn kc) (.slice va vn vc) (.slice ia jn ic) y → w.heap.size ≤ y) ∧ prd zs = some p)
structure Pb (w v : World) (R : Nat) (a : Option Addr) (n c : Nat) (zs : List Int) (q : Int) (x y z : Value) : Prop where
 rs : Rs v R a n c zs q
 rb : Bk v w.heap.size 107 [.slice none 0 0, .slice none 0 0, .slice none 0 0]
 bk : Bk v (w.heap.size + 1) 107 [x, y, z]
 on : Only (fun y => y = R) w v
 lt : R < w.heap.size
theorem Pb.to {w v v' : World} {R : Nat} {a : Option Addr} {n c : Nat} {zs : List Int} {q q' : Int} {x y z : Value} (h : Pb w v R a n c zs q x y z) (ho : Only (fun y => y = R) v v') (hr : Rs v' R a n c zs q') : Pb w v' R a n c zs q' x y z :=
 ⟨hr, h.rb.to ho (fun e => by have := h.lt; omega), h.bk.to ho (fun e => by have := h.lt; omega), h.on.trans ho, h.lt⟩
theorem Pb.below {w v v' : World} {R : Nat} {a : Option Addr} {n c : Nat} {zs : List Int} {q : Int} {x y z : Value} (h : Pb w v R a n c zs q x y z) (hb : Below v.heap.size v v') : Pb w v' R a n c zs q x y z :=
 ⟨h.rs.below hb, h.rb.below hb, h.bk.below hb, h.on.trans (only_of_below hb _), h.lt⟩
theorem Pb.set {w v : World} {R : Nat} {a : Option Addr} {n c : Nat} {zs : List Int} {q : Int} {x y z : Value} (h : Pb w v R a n c zs q x y z) (x' y' z' : Value) : Pb w (((v.setCell ⟨w.heap.size + 1, 0, none⟩ x').setCell ⟨w.heap.size + 1, 1, none⟩ y').setCell ⟨w.heap.size + 1, 2, none⟩ z') R a n c zs q x' y' z' ∧ Only (fun y => y = w.heap.size + 1) v (((v.setCell ⟨w.heap.size + 1, 0, none⟩ x').setCell ⟨w.heap.size + 1, 1, none⟩ y').setCell ⟨w.heap.size + 1, 2, none⟩ z') := by
 have ho : Only (fun y => y = w.heap.size + 1) v (((v.setCell ⟨w.heap.size + 1, 0, none⟩ x').setCell ⟨w.heap.size + 1, 1, none⟩ y').setCell ⟨w.heap.size + 1, 2, none⟩ z') :=
  ((only_set (R := fun y => y = w.heap.size + 1) rfl _).trans (only_set (R := fun y => y = w.heap.size + 1) rfl _)).trans (only_set (R := fun y => y = w.heap.size + 1) rfl _)
 refine ⟨⟨h.rs.to ho (fun y e => by have := h.lt; omega), h.rb.to ho (fun e => by omega), ?_, h.on.then ho (fun i hi e => by omega), h.lt⟩, ho⟩
 exact ((h.bk.set 0 x').set 1 y').set 2 z'
theorem Pb.cells {w v : World} {R : Nat} {a : Option Addr} {n c : Nat} {zs : List Int} {q : Int} {x y z : Value} (h : Pb w v R a n c zs q x y z) :
  (v.cell? ⟨w.heap.size + 1, 0, none⟩ = some x ∧ v.cell? ⟨w.heap.size + 1, 1, none⟩ = some y ∧ v.cell? ⟨w.heap.size + 1, 2, none⟩ = some z) ∧ (v.frozen? ⟨w.heap.size + 1, 0, none⟩ = false ∧ v.frozen? ⟨w.heap.size + 1, 1, none⟩ = false ∧ v.frozen? ⟨w.heap.size + 1, 2, none⟩ = false) :=
 ⟨⟨h.bk.cell (j := 0) rfl, h.bk.cell (j := 1) rfl, h.bk.cell (j := 2) rfl⟩, h.bk.free 0, h.bk.free 1, h.bk.free 2⟩
theorem Pb.rcells {w v : World} {R : Nat} {a : Option Addr} {n c : Nat} {zs : List Int} {q : Int} {x y z : Value} (h : Pb w v R a n c zs q x y z) :
  (v.cell? ⟨w.heap.size, 0, none⟩ = some (.slice none 0 0) ∧ v.cell? ⟨w.heap.size, 1, none⟩ = some (.slice none 0 0) ∧ v.cell? ⟨w.heap.size, 2, none⟩ = some (.slice none 0 0)) ∧ (v.frozen? ⟨w.heap.size, 0, none⟩ = false ∧ v.frozen? ⟨w.heap.size, 1, none⟩ = false ∧ v.frozen? ⟨w.heap.size, 2, none⟩ = false) ∧ v.cell? ⟨R, 0, none⟩ = some (.slice a n c) :=
 ⟨⟨h.rb.cell (j := 0) rfl, h.rb.cell (j := 1) rfl, h.rb.cell (j := 2) rfl⟩, ⟨h.rb.free 0, h.rb.free 1, h.rb.free 2⟩, h.rs.bk.cell (j := 0) rfl⟩
theorem Err.only {w w' : World} {g : Nat} {P : Nat → Prop} (h : Err w g) (ho : Only P w w') (hP : ¬ P g) : Err w' g := by
 obtain ⟨t, x, hc⟩ := h
 exact ⟨t, x, (World.cell?_of_block (w := w) (a := ⟨g, 0, none⟩) (ho.block g (block_lt hc) hP)).trans hc⟩
set_option maxHeartbeats 8000000 in
set_option maxRecDepth 20000 in
theorem rpage_any (R : Nat) (a : Option Addr) (n c : Nat) (zs : List Int) (w : World) (h : Rs w R a n c zs 0) (he : Err w 0) (he2 : Err w 1) (hg1 : 0 < R) (hg2 : 1 < R) :
  Calls Tryz.prog 150 #[.pointer (some ⟨R, 0, none⟩)] w fun e w' => RdP zs R w e w' := by
 have HE := hid he
 have HE2 := hid he2
 have H0 := hid h
 have HN : Hid (n = zs.length) := h.rd.1
 have hb1 := below_new (o := .cells #[.slice none 0 0, .slice none 0 0, .slice none 0 0] 107) (w := w) (Below.refl _ _)
 have R1 := hid (h.below hb1)
 have B1 := hid hb1
 have K1 := hid (Bk.new w 107 [.slice none 0 0, .slice none 0 0, .slice none 0 0])
 have c1 := R1.out.bk.cell (j := 0) rfl
 have HLT : Hid (R < w.heap.size) := h.bk.lt
 have HG1 := hid hg1
 have HG2 := hid hg2
 clear h he he2 hb1 hg1 hg2
 by_cases h512 : n = 512
 ·subst h512
  have HZL : Hid (zs.length = 512) := HN.out.symm
  obtain ⟨b, off, ha, hbl, hcell⟩ := R1.out.rd.2.2.2.2.2 (by omega)
  subst ha
  have HBY := hid R1.out.rd.2.2.2.2.1
  have hcc := R1.out.rd.2.1
  have hcm := R1.out.rd.2.2.1
  clear hbl hcell
  have hb2 := below_new (o := .cells #[.slice none 0 0, .slice none 0 0, .slice none 0 0] 107) (w := w.alloc (.cells #[.slice none 0 0, .slice none 0 0, .slice none 0 0] 107)) (Below.refl _ _)
  have P2 : Hid (Pb w ((w.alloc (.cells #[.slice none 0 0, .slice none 0 0, .slice none 0 0] 107)).alloc (.cells #[.slice none 0 0, .slice none 0 0, .slice none 0 0] 107)) R (some ⟨b, off, none⟩) 512 c zs 0 (.slice none 0 0) (.slice none 0 0) (.slice none 0 0)) := by
   have k1 := Bk.new (w.alloc (.cells #[.slice none 0 0, .slice none 0 0, .slice none 0 0] 107)) 107 [.slice none 0 0, .slice none 0 0, .slice none 0 0]
   exact ⟨R1.out.below hb2, K1.out.below hb2, by simpa using k1, only_of_below (btw B1.out hb2) _, HLT.out⟩
  have HPRN : Hid (¬ (zAt zs 0 = 76 ∨ zAt zs 0 = 66) → prd zs = none) := by
   intro hn
   rw [prd, if_neg]
   rintro ⟨_, h, _⟩
   exact hn h
  have HC0 : Hid (∀ v q, Rs v R (some ⟨b, off, none⟩) 512 c zs q → v.cell? ⟨b, off, none⟩ = some (.int .u8 (zAt zs 0))) := by
   intro v q hr
   obtain ⟨b', off', e, -, hc⟩ := hr.rd.2.2.2.2.2 (by omega)
   cases e
   exact hc 0 (by omega)
  clear hb2 K1 B1 HN
  go_enter Tryz.func150, Tryz.ntmps150
  go_wp2_with fail
  refine (goTo_yes R 1 _ P2.out.rs.bk (by omega)).mono ?_
  generalize (w.alloc (.cells #[.slice none 0 0, .slice none 0 0, .slice none 0 0] 107)).alloc (.cells #[.slice none 0 0, .slice none 0 0, .slice none 0 0] 107) = U at *
  rintro e w1 ⟨rfl, hw1⟩
  have O1 : Hid (Only (fun y => y = R) U w1) := by rw [hw1]; exact only_set (R := fun y => y = R) rfl _
  have K3 : Bk w1 R 191 [.slice (some ⟨b, off, none⟩) 512 c, .int .i64 1] := by rw [hw1]; exact P2.out.rs.bk.set 1 _
  have P3 := hid (P2.out.to O1.out (P2.out.rs.went O1.out K3))
  clear hw1 K3 P2 c1 R1
  have m0 := HC0.out _ _ P3.out.rs
  obtain ⟨⟨p0, p1, p2⟩, pf0, pf1, pf2⟩ := P3.out.cells
  obtain ⟨⟨r0, r1, r2⟩, ⟨rf0, rf1, rf2⟩, x0⟩ := P3.out.rcells
  have hz0 : 0 ≤ zAt zs 0 ∧ zAt zs 0 ≤ 255 := HBY.out 0
  by_cases z76 : zAt zs 0 = 76
  ·have HKD : Hid (∀ p0, pgBytes p0 = some zs → p0.kids.length = 0) := by
    intro p0 hp
    by_cases h0 : p0.kids.length = 0
    ·exact h0
    ·have := (branch_head hp h0).1
     omega
   rw [z76] at m0
   have HRD := hid (rleaf_any R (some ⟨b, off, none⟩) 512 c zs w1 P3.out.rs HZL.out)
   clear hz0 HPRN z76
   go_wp2_with fail
   refine HRD.out.mono ?_
   rintro e w2 ⟨ho2, hcase⟩
   rcases hcase with ⟨⟨t, x, rfl⟩, hno⟩ | ⟨ka, kn, kc, va, vn, vc, ia, jn, ic, p, rfl, hpo, hlo, ⟨q2, hrs⟩, heq⟩
   ·have HON : Hid (Only (fun y => y = R) w w2) := P3.out.on.trans ho2
    have HNO : Hid (prd zs = none) := by
     show prd zs = none
     cases hp : prd zs with
     | none => rfl
     | some p0 => exact (hno p0 ((prd_iff zs p0).1 hp) (HKD.out p0 ((prd_iff zs p0).1 hp))).elim
    clear hno ho2 HRD
    go_wp2
    exact ⟨rfl, HON.out, .inl ⟨⟨t, x, rfl⟩, HNO.out⟩⟩
   ·have P4 := hid (P3.out.to ho2 hrs)
    have HEQ : Hid (∀ p0, pgBytes p0 = some zs → p = p0) := fun p0 hp => heq p0 hp (HKD.out p0 hp)
    have HLO := hid hlo
    have HPO := hid hpo
    have HW1 : Hid (w.heap.size + 1 < w1.heap.size) := P3.out.bk.lt
    clear hpo hlo hrs heq ho2 HRD HKD m0 P3 p0 p1 p2 pf0 pf1 pf2 r0 r1 r2 rf0 rf1 rf2 x0
    obtain ⟨⟨p0, p1, p2⟩, pf0, pf1, pf2⟩ := P4.out.cells
    obtain ⟨P5', O5⟩ := P4.out.set (.slice ka kn kc) (.slice va vn vc) (.slice ia jn ic)
    have P5 := hid P5'
    have HPO5 : Hid (PO _ (.slice ka kn kc) (.slice va vn vc) (.slice ia jn ic) p) := HPO.out.to O5 (fun y hy e => by have := HLO.out y hy; have := HW1.out; omega)
    clear P5' O5
    go_wp2_with fail
    have ER5 := hid (HE.out.only P5.out.on (fun e => by have := HG1.out; omega))
    have ES5 := hid (HE2.out.only P5.out.on (fun e => by have := HG2.out; omega))
    have PG5 := hid (HPO5.out.pgr (S := fun _ => True) (fun _ _ => trivial))
    refine (implPageBytes_any (fun _ => True) ka kn kc va vn vc ia jn ic p _ PG5.out ER5.out ES5.out).mono ?_
    generalize ((w2.setCell ⟨w.heap.size + 1, 0, none⟩ (.slice ka kn kc)).setCell ⟨w.heap.size + 1, 1, none⟩ (.slice va vn vc)).setCell ⟨w.heap.size + 1, 2, none⟩ (.slice ia jn ic) = w5 at *
    clear p0 p1 p2 pf0 pf1 pf2 P4 HPO ER5 ES5 PG5
    intro e w6 hput
    have P6 := hid (P5.out.below hput.1)
    have HPO6 := hid (HPO5.out.below hput.1)
    have HON := hid P6.out.on
    obtain ⟨⟨p0, p1, p2⟩, pf0, pf1, pf2⟩ := P6.out.cells
    obtain ⟨⟨r0, r1, r2⟩, ⟨rf0, rf1, rf2⟩, x0⟩ := P6.out.rcells
    rcases hput.2 with ⟨hn, rfl⟩ | ⟨v, out, hs, rfl, ho⟩
    ·have HNO : Hid (prd zs = none) := by
      show prd zs = none
      cases hp : prd zs with
      | none => rfl
      | some p0 =>
       have h1 := (prd_iff zs p0).1 hp
       rw [← HEQ.out p0 h1, hn] at h1
       cases h1
     clear hput hn P5 HPO5
     go_wp2_with fail
     refine (giveUp_any R _ P6.out.rs.er).mono ?_
     rintro e w7 ⟨⟨t, x, rfl⟩, rfl⟩
     go_wp2
     exact ⟨rfl, HON.out, .inl ⟨⟨t, x, rfl⟩, HNO.out⟩⟩
    ·obtain ⟨hsb, hsl⟩ := pgBytes_some hs
     obtain ⟨a3, c3, rfl, hR3, -⟩ := ho.rd (byte_at hsb) (by omega)
     have R3 := hid hR3
     have HS := hid hs
     clear hput ho hR3 hs hsb hsl P5 HPO5
     generalize out.length = L at *
     go_wp2_with fail
     refine (bytesEqual_any _ _ _ _ _ _ _ _ _ R3.out P6.out.rs.rd).mono ?_
     rintro e w7 ⟨rfl, rfl⟩
     by_cases hq : out = zs
     ·have HPR : Hid (prd zs = some p) := by show _ = _; rw [prd_iff, HS.out, hq]
      rw [decide_eq_true hq]
      have HQ : Hid (RdP zs R w (.returned (.agg #[.slice ka kn kc, .slice va vn vc, .slice ia jn ic])) (((w6.setCell ⟨w.heap.size, 0, none⟩ (.slice ka kn kc)).setCell ⟨w.heap.size, 1, none⟩ (.slice va vn vc)).setCell ⟨w.heap.size, 2, none⟩ (.slice ia jn ic))) := by
       have ho7 : Only (fun y => y = w.heap.size) w6 (((w6.setCell ⟨w.heap.size, 0, none⟩ (.slice ka kn kc)).setCell ⟨w.heap.size, 1, none⟩ (.slice va vn vc)).setCell ⟨w.heap.size, 2, none⟩ (.slice ia jn ic)) :=
        ((only_set (R := fun y => y = w.heap.size) rfl _).trans (only_set (R := fun y => y = w.heap.size) rfl _)).trans (only_set (R := fun y => y = w.heap.size) rfl _)
       refine ⟨HON.out.then ho7 (fun i hi e => by omega), .inr ⟨ka, kn, kc, va, vn, vc, ia, jn, ic, p, rfl, HPO6.out.to ho7 (fun y hy e => by have := HLO.out y hy; have := HW1.out; omega), fun y hy => by have := HLO.out y hy; have := HW1.out; omega, HPR.out⟩⟩
      clear hq HS R3 HEQ P6 HPO6
      go_wp2
      refine bodyPost_ret (results_pg (x := .slice ka kn kc) (y := .slice va vn vc) (z := .slice ia jn ic) rfl _ _ _ rfl (by go_simp) (by go_simp) (by go_simp)) rfl ?_
      exact HQ.out
     ·have HNO : Hid (prd zs = none) := by
       show prd zs = none
       cases hp : prd zs with
       | none => rfl
       | some p0 =>
        have h1 := (prd_iff zs p0).1 hp
        rw [← HEQ.out p0 h1, HS.out] at h1
        exact (hq (Option.some.inj h1)).elim
      rw [decide_eq_false hq]
      clear hq HS R3 HEQ
      go_wp2_with fail
      refine (giveUp_any R _ P6.out.rs.er).mono ?_
      rintro e w7 ⟨⟨t, x, rfl⟩, rfl⟩
      go_wp2
      exact ⟨rfl, HON.out, .inl ⟨⟨t, x, rfl⟩, HNO.out⟩⟩
  ·by_cases z66 : zAt zs 0 = 66
   ·have HKD : Hid (∀ p0, pgBytes p0 = some zs → ¬ p0.kids.length = 0) := by
     intro p0 hp h0
     have := (leaf_head hp h0).1
     omega
    rw [z66] at m0
    have HRD := hid (rbranch_any R (some ⟨b, off, none⟩) 512 c zs w1 P3.out.rs HZL.out)
    clear hz0 HPRN z76 z66
    go_wp2_with fail
    refine HRD.out.mono ?_
    rintro e w2 ⟨ho2, hcase⟩
    rcases hcase with ⟨⟨t, x, rfl⟩, hno⟩ | ⟨ka, kn, kc, va, vn, vc, ia, jn, ic, p, rfl, hpo, hlo, ⟨q2, hrs⟩, heq⟩
    ·have HON : Hid (Only (fun y => y = R) w w2) := P3.out.on.trans ho2
     have HNO : Hid (prd zs = none) := by
      show prd zs = none
      cases hp : prd zs with
      | none => rfl
      | some p0 => exact (hno p0 ((prd_iff zs p0).1 hp) (HKD.out p0 ((prd_iff zs p0).1 hp))).elim
     clear hno ho2 HRD
     go_wp2
     exact ⟨rfl, HON.out, .inl ⟨⟨t, x, rfl⟩, HNO.out⟩⟩
    ·have P4 := hid (P3.out.to ho2 hrs)
     have HEQ : Hid (∀ p0, pgBytes p0 = some zs → p = p0) := fun p0 hp => heq p0 hp (HKD.out p0 hp)
     have HLO := hid hlo
     have HPO := hid hpo
     have HW1 : Hid (w.heap.size + 1 < w1.heap.size) := P3.out.bk.lt
     clear hpo hlo hrs heq ho2 HRD HKD m0 P3 p0 p1 p2 pf0 pf1 pf2 r0 r1 r2 rf0 rf1 rf2 x0
     obtain ⟨⟨p0, p1, p2⟩, pf0, pf1, pf2⟩ := P4.out.cells
     obtain ⟨P5', O5⟩ := P4.out.set (.slice ka kn kc) (.slice va vn vc) (.slice ia jn ic)
     have P5 := hid P5'
     have HPO5 : Hid (PO _ (.slice ka kn kc) (.slice va vn vc) (.slice ia jn ic) p) := HPO.out.to O5 (fun y hy e => by have := HLO.out y hy; have := HW1.out; omega)
     clear P5' O5
     go_wp2_with fail
     have ER5 := hid (HE.out.only P5.out.on (fun e => by have := HG1.out; omega))
     have ES5 := hid (HE2.out.only P5.out.on (fun e => by have := HG2.out; omega))
     have PG5 := hid (HPO5.out.pgr (S := fun _ => True) (fun _ _ => trivial))
     refine (implPageBytes_any (fun _ => True) ka kn kc va vn vc ia jn ic p _ PG5.out ER5.out ES5.out).mono ?_
     generalize ((w2.setCell ⟨w.heap.size + 1, 0, none⟩ (.slice ka kn kc)).setCell ⟨w.heap.size + 1, 1, none⟩ (.slice va vn vc)).setCell ⟨w.heap.size + 1, 2, none⟩ (.slice ia jn ic) = w5 at *
     clear p0 p1 p2 pf0 pf1 pf2 P4 HPO ER5 ES5 PG5
     intro e w6 hput
     have P6 := hid (P5.out.below hput.1)
     have HPO6 := hid (HPO5.out.below hput.1)
     have HON := hid P6.out.on
     obtain ⟨⟨p0, p1, p2⟩, pf0, pf1, pf2⟩ := P6.out.cells
     obtain ⟨⟨r0, r1, r2⟩, ⟨rf0, rf1, rf2⟩, x0⟩ := P6.out.rcells
     rcases hput.2 with ⟨hn, rfl⟩ | ⟨v, out, hs, rfl, ho⟩
     ·have HNO : Hid (prd zs = none) := by
       show prd zs = none
       cases hp : prd zs with
       | none => rfl
       | some p0 =>
        have h1 := (prd_iff zs p0).1 hp
        rw [← HEQ.out p0 h1, hn] at h1
        cases h1
      clear hput hn P5 HPO5
      go_wp2_with fail
      refine (giveUp_any R _ P6.out.rs.er).mono ?_
      rintro e w7 ⟨⟨t, x, rfl⟩, rfl⟩
      go_wp2
      exact ⟨rfl, HON.out, .inl ⟨⟨t, x, rfl⟩, HNO.out⟩⟩
     ·obtain ⟨hsb, hsl⟩ := pgBytes_some hs
      obtain ⟨a3, c3, rfl, hR3, -⟩ := ho.rd (byte_at hsb) (by omega)
      have R3 := hid hR3
      have HS := hid hs
      clear hput ho hR3 hs hsb hsl P5 HPO5
      generalize out.length = L at *
      go_wp2_with fail
      refine (bytesEqual_any _ _ _ _ _ _ _ _ _ R3.out P6.out.rs.rd).mono ?_
      rintro e w7 ⟨rfl, rfl⟩
      by_cases hq : out = zs
      ·have HPR : Hid (prd zs = some p) := by show _ = _; rw [prd_iff, HS.out, hq]
       rw [decide_eq_true hq]
       have HQ : Hid (RdP zs R w (.returned (.agg #[.slice ka kn kc, .slice va vn vc, .slice ia jn ic])) (((w6.setCell ⟨w.heap.size, 0, none⟩ (.slice ka kn kc)).setCell ⟨w.heap.size, 1, none⟩ (.slice va vn vc)).setCell ⟨w.heap.size, 2, none⟩ (.slice ia jn ic))) := by
        have ho7 : Only (fun y => y = w.heap.size) w6 (((w6.setCell ⟨w.heap.size, 0, none⟩ (.slice ka kn kc)).setCell ⟨w.heap.size, 1, none⟩ (.slice va vn vc)).setCell ⟨w.heap.size, 2, none⟩ (.slice ia jn ic)) :=
         ((only_set (R := fun y => y = w.heap.size) rfl _).trans (only_set (R := fun y => y = w.heap.size) rfl _)).trans (only_set (R := fun y => y = w.heap.size) rfl _)
        refine ⟨HON.out.then ho7 (fun i hi e => by omega), .inr ⟨ka, kn, kc, va, vn, vc, ia, jn, ic, p, rfl, HPO6.out.to ho7 (fun y hy e => by have := HLO.out y hy; have := HW1.out; omega), fun y hy => by have := HLO.out y hy; have := HW1.out; omega, HPR.out⟩⟩
       clear hq HS R3 HEQ P6 HPO6
       go_wp2
       refine bodyPost_ret (results_pg (x := .slice ka kn kc) (y := .slice va vn vc) (z := .slice ia jn ic) rfl _ _ _ rfl (by go_simp) (by go_simp) (by go_simp)) rfl ?_
       exact HQ.out
      ·have HNO : Hid (prd zs = none) := by
        show prd zs = none
        cases hp : prd zs with
        | none => rfl
        | some p0 =>
         have h1 := (prd_iff zs p0).1 hp
         rw [← HEQ.out p0 h1, HS.out] at h1
         exact (hq (Option.some.inj h1)).elim
       rw [decide_eq_false hq]
       clear hq HS R3 HEQ
       go_wp2_with fail
       refine (giveUp_any R _ P6.out.rs.er).mono ?_
       rintro e w7 ⟨⟨t, x, rfl⟩, rfl⟩
       go_wp2
       exact ⟨rfl, HON.out, .inl ⟨⟨t, x, rfl⟩, HNO.out⟩⟩
   ·have HNO := hid (HPRN.out (by omega))
    have HON := hid P3.out.on
    generalize zAt zs 0 = z0 at *
    have z1 : (z0 == 76) = false := by simp [z76]
    have z2 : (z0 == 66) = false := by simp [z66]
    go_wp2_with fail
    refine (giveUp_any R _ P3.out.rs.er).mono ?_
    rintro e w2 ⟨⟨t, x, rfl⟩, rfl⟩
    go_wp2
    exact ⟨rfl, HON.out, .inl ⟨⟨t, x, rfl⟩, HNO.out⟩⟩
 ·have h512' : ((n : Int) != 512) = true := by simp; omega
  have HPR : Hid (prd zs = none) := by
   show prd zs = none
   rw [prd, if_neg]
   rintro ⟨h, _⟩
   have := HN.out
   omega
  have HON : Hid (Only (fun y => y = R) w (w.alloc (.cells #[.slice none 0 0, .slice none 0 0, .slice none 0 0] 107))) := only_of_below B1.out _
  go_enter Tryz.func150, Tryz.ntmps150
  go_wp2_with fail
  refine (giveUp_any R _ R1.out.er).mono ?_
  rintro e w2 ⟨⟨t, x, rfl⟩, rfl⟩
  go_wp2
  exact ⟨rfl, HON.out, .inl ⟨⟨t, x, rfl⟩, HPR.out⟩⟩
open Go.RowKit
set_option maxHeartbeats 2000000 in
theorem catch_gave (P O : Nat) {x y z b : Value} (t : TypeId) (pv : Value) (older : List PanicEntry) (w : World) (k : Bk w P 107 [x, y, z]) (ko : Bk w O 4 [b]) (hne : ¬ P = O) :
  CallsD Tryz.prog 149 #[.pointer (some ⟨P, 0, none⟩), .pointer (some ⟨O, 0, none⟩)] (.panicking ({ v := .iface t pv, recovered := false } :: older)) w fun e u' w' =>
   e = .returned (.tuple #[]) ∧ u' = .panicking ({ v := .iface t pv, recovered := true } :: older) ∧ w' = (((w.setCell ⟨P, 0, none⟩ (.slice none 0 0)).setCell ⟨P, 1, none⟩ (.slice none 0 0)).setCell ⟨P, 2, none⟩ (.slice none 0 0)).setCell ⟨O, 0, none⟩ (.bool false) := by
 have c0 := k.cell (j := 0) rfl
 have c1 := k.cell (j := 1) rfl
 have c2 := k.cell (j := 2) rfl
 have f0 := k.free 0
 have f1 := k.free 1
 have f2 := k.free 2
 have o0 := ko.cell (j := 0) rfl
 have g0 := ko.free 0
 refine callsD_of_wpS Tryz.func149 rfl fun c₀ cs hu => ?_
 apply wpS_seq
 apply wpS_region
 simp [wpOpsS, go_sem, recoverD, hu, Tryz.ntmps149, Exit.thenS]
 refine wpS_cond (t := true) (by simp [Act.eval, Array.replicate]) ?_
 simp only [if_true]
 apply wpS_region
 simp [wpOpsS, go_sem, c0, c1, c2, f0, f1, f2, o0, g0, bodyPostS, results, Tryz.results149]
set_option maxHeartbeats 2000000 in
theorem catch_none (P O : Nat) (w : World) :
  CallsD Tryz.prog 149 #[.pointer (some ⟨P, 0, none⟩), .pointer (some ⟨O, 0, none⟩)] .returning w fun e u' w' => e = .returned (.tuple #[]) ∧ u' = .returning ∧ w' = w := by
 refine callsD_of_wpS Tryz.func149 rfl fun c₀ cs hu => ?_
 apply wpS_seq
 apply wpS_region
 simp [wpOpsS, go_sem, recoverD, hu, Tryz.ntmps149, Exit.thenS]
 refine wpS_cond (t := false) (by simp [Act.eval, Array.replicate]) ?_
 simp only [Bool.false_eq_true, if_false]
 refine wpS_of_wp (wp_skip ?_)
 cases c₀
 simp_all [bodyPostS, results, Tryz.results149]
def IrPost (o : Option PG) (w : World) (e : Ending) (w' : World) : Prop := Below w.heap.size w w' ∧ ((o = none ∧ e = .returned (.tuple #[.agg #[.slice none 0 0, .slice none 0 0, .slice none 0 0], .bool false])) ∨ ∃ (p : PG) (ka : Option Addr) (kn kc : Nat) (va : Option Addr) (vn vc : Nat) (ia : Option Addr) (jn ic : Nat), o = some p ∧ e = .returned (.tuple #[.agg #[.slice ka kn kc, .slice va vn vc, .slice ia jn ic], .bool true]) ∧ PO w' (.slice ka kn kc) (.slice va vn vc) (.slice ia jn ic) p ∧ ∀ y, pbl (.slice ka kn kc) (.slice va vn vc) (.slice ia jn ic) y → w.heap.size ≤ y)
theorem results_pgb {fn : Func} {p u : Tmp} (h : fn.results = #[.cell p 107, .cell u 4]) (tmps : Array Value) (w : World) (g o : Nat) {x y z b : Value} (hp : tmps.getD p undef = .pointer (some ⟨g, 0, none⟩)) (hb : tmps.getD u undef = .pointer (some ⟨o, 0, none⟩))
  (c0 : w.cell? ⟨g, 0, none⟩ = some x) (c1 : w.cell? ⟨g, 1, none⟩ = some y) (c2 : w.cell? ⟨g, 2, none⟩ = some z) (d0 : w.cell? ⟨o, 0, none⟩ = some b) : (results fn tmps).run Tryz.prog w = .ok (.tuple #[.agg #[x, y, z], b]) w := by
 have hp' : tmps[p]?.getD undef = .pointer (some ⟨g, 0, none⟩) := by simpa using hp
 have hb' : tmps[u]?.getD undef = .pointer (some ⟨o, 0, none⟩) := by simpa using hb
 have hl : (loadVar 107 ⟨g, 0, none⟩).run Tryz.prog w = .ok (.agg #[x, y, z]) w := by go_simp
 have hl2 : (loadVar 4 ⟨o, 0, none⟩).run Tryz.prog w = .ok b w := by go_simp
 simp [results, h, hp', hb', asAddr, hl, hl2, Result.andThen]
set_option maxHeartbeats 4000000 in
set_option maxRecDepth 20000 in
theorem implPageRead_any (a : Option Addr) (n c : Nat) (zs : List Int) (w : World) (h : Rd w a n c zs) (he : Err w 0) (he2 : Err w 1) (he3 : Err w 2) :
  Calls Tryz.prog 117 #[.slice a n c] w fun e w' => IrPost (prd zs) w e w' := by
 have hmf : ∀ (fn : Fn) (first cap : Array Value) (w : World), (Instr.makeFunc fn first cap).run Tryz.prog w = .ok (.func fn first cap) w := fun _ _ _ _ => rfl
 have hb1 := below_new (o := .cells #[.slice none 0 0, .slice none 0 0, .slice none 0 0] 107) (w := w) (Below.refl _ _)
 have hb2 := below_new (o := .cells #[.bool false] 4) (w := w.alloc (.cells #[.slice none 0 0, .slice none 0 0, .slice none 0 0] 107)) (Below.refl _ _)
 have hb3 := below_new (o := .cells #[.slice a n c, .int .i64 0] 191) (w := (w.alloc (.cells #[.slice none 0 0, .slice none 0 0, .slice none 0 0] 107)).alloc (.cells #[.bool false] 4)) (Below.refl _ _)
 have hb := btw (btw hb1 hb2) hb3
 have KP : Hid (Bk (((w.alloc (.cells #[.slice none 0 0, .slice none 0 0, .slice none 0 0] 107)).alloc (.cells #[.bool false] 4)).alloc (.cells #[.slice a n c, .int .i64 0] 191)) w.heap.size 107 [.slice none 0 0, .slice none 0 0, .slice none 0 0]) := ((Bk.new w 107 [.slice none 0 0, .slice none 0 0, .slice none 0 0]).below hb2).below hb3
 have KO : Hid (Bk (((w.alloc (.cells #[.slice none 0 0, .slice none 0 0, .slice none 0 0] 107)).alloc (.cells #[.bool false] 4)).alloc (.cells #[.slice a n c, .int .i64 0] 191)) (w.heap.size + 1) 4 [.bool false]) := by
  have k := Bk.new (w.alloc (.cells #[.slice none 0 0, .slice none 0 0, .slice none 0 0] 107)) 4 [.bool false]
  have k2 : Bk ((w.alloc (.cells #[.slice none 0 0, .slice none 0 0, .slice none 0 0] 107)).alloc (.cells #[.bool false] 4)) (w.heap.size + 1) 4 [.bool false] := by simpa using k
  exact k2.below hb3
 have KR : Bk (((w.alloc (.cells #[.slice none 0 0, .slice none 0 0, .slice none 0 0] 107)).alloc (.cells #[.bool false] 4)).alloc (.cells #[.slice a n c, .int .i64 0] 191)) (w.heap.size + 2) 191 [.slice a n c, .int .i64 0] := by
  have k := Bk.new ((w.alloc (.cells #[.slice none 0 0, .slice none 0 0, .slice none 0 0] 107)).alloc (.cells #[.bool false] 4)) 191 [.slice a n c, .int .i64 0]
  simpa [Nat.add_assoc] using k
 have RS : Hid (Rs (((w.alloc (.cells #[.slice none 0 0, .slice none 0 0, .slice none 0 0] 107)).alloc (.cells #[.bool false] 4)).alloc (.cells #[.slice a n c, .int .i64 0] 191)) (w.heap.size + 2) a n c zs 0) :=
  ⟨KR, h.kept hb, fun x hx hp => by have := h.lt x hx hp; omega, he3.below hb he3.lt, by have := he3.lt; omega⟩
 have E1 := hid (he.below hb he.lt)
 have E2 := hid (he2.below hb he2.lt)
 have L1 : Hid (0 < w.heap.size + 2) := by have := he.lt; show _ < _; omega
 have L2 : Hid (1 < w.heap.size + 2) := by have := he2.lt; show _ < _; omega
 have HB := hid hb
 have HPG := hid (rpage_any (w.heap.size + 2) a n c zs _ RS.out E1.out E2.out L1.out L2.out)
 clear h he he2 he3 hb1 hb2 hb3 hb KR
 go_enter_defers Tryz.func117, Tryz.ntmps117
 go_wp2_with fail
 refine HPG.out.mono ?_
 generalize ((w.alloc (.cells #[.slice none 0 0, .slice none 0 0, .slice none 0 0] 107)).alloc (.cells #[.bool false] 4)).alloc (.cells #[.slice a n c, .int .i64 0] 191) = U at *
 rintro e w1 ⟨ho, hcase⟩
 have KP1 := hid (KP.out.to ho (fun e => by omega))
 have KO1 := hid (KO.out.to ho (fun e => by omega))
 have B1 : Hid (Below w.heap.size w w1) := HB.out.trans (ho.below HB.out.size (fun b hb e => by omega))
 have HU : Hid (w.heap.size ≤ U.heap.size) := HB.out.size
 have HUU : Hid (w.heap.size + 1 < U.heap.size) := KO.out.lt
 clear ho KP KO RS E1 E2 HB HPG
 rcases hcase with ⟨⟨t, x, rfl⟩, hno⟩ | ⟨ka, kn, kc, va, vn, vc, ia, jn, ic, p, rfl, hpo, hlo, hpr⟩
 ·have HNO := hid hno
  clear hno
  go_wp2
  refine leaves_cons (f := 149) (args := #[.pointer (some ⟨w.heap.size, 0, none⟩), .pointer (some ⟨w.heap.size + 1, 0, none⟩)]) (by simp) (by simp [go_sem]) ?_
  refine (catch_gave w.heap.size (w.heap.size + 1) t x [] _ KP1.out KO1.out (by omega)).mono ?_
  rintro e u' w2 ⟨rfl, rfl, hw2⟩
  have KP2 : Bk w2 w.heap.size 107 [.slice none 0 0, .slice none 0 0, .slice none 0 0] := by rw [hw2]; exact (((KP1.out.set 0 _).set 1 _).set 2 _).setOther (by omega) _ _
  have KO2 : Bk w2 (w.heap.size + 1) 4 [.bool false] := by rw [hw2]; exact (((KO1.out.setOther (by omega) _ _).setOther (by omega) _ _).setOther (by omega) _ _).set 0 _
  have B2 : Below w.heap.size w w2 := by rw [hw2]; exact (((B1.out.setCell (p := ⟨w.heap.size, 0, none⟩) (Nat.le_refl _) _).setCell (p := ⟨w.heap.size, 1, none⟩) (Nat.le_refl _) _).setCell (p := ⟨w.heap.size, 2, none⟩) (Nat.le_refl _) _).setCell (p := ⟨w.heap.size + 1, 0, none⟩) (Nat.le_succ _) _
  clear hw2
  simp only [settle]
  refine ⟨_, results_pgb (p := 2) (u := 3) Tryz.results117 _ w2 w.heap.size (w.heap.size + 1) rfl rfl (KP2.cell (j := 0) rfl) (KP2.cell (j := 1) rfl) (KP2.cell (j := 2) rfl) (KO2.cell (j := 0) rfl), ?_⟩
  exact ⟨B2, .inl ⟨HNO.out, rfl⟩⟩
 ·have HPO := hid hpo
  have HLO := hid hlo
  have HPR := hid hpr
  clear hpo hlo hpr
  have c0 := KP1.out.cell (j := 0) rfl
  have c1 := KP1.out.cell (j := 1) rfl
  have c2 := KP1.out.cell (j := 2) rfl
  have f0 := KP1.out.free 0
  have f1 := KP1.out.free 1
  have f2 := KP1.out.free 2
  have o0 := KO1.out.cell (j := 0) rfl
  have g0 := KO1.out.free 0
  go_wp2
  refine leaves_cons (f := 149) (args := #[.pointer (some ⟨w.heap.size, 0, none⟩), .pointer (some ⟨w.heap.size + 1, 0, none⟩)]) (by simp) (by simp [go_sem]) ?_
  refine (catch_none w.heap.size (w.heap.size + 1) _).mono ?_
  rintro e u' w2 ⟨rfl, rfl, hw2⟩
  have KP2 : Bk w2 w.heap.size 107 [.slice ka kn kc, .slice va vn vc, .slice ia jn ic] := by rw [hw2]; exact (((KP1.out.set 0 _).set 1 _).set 2 _).setOther (by omega) _ _
  have KO2 : Bk w2 (w.heap.size + 1) 4 [.bool true] := by rw [hw2]; exact (((KO1.out.setOther (by omega) _ _).setOther (by omega) _ _).setOther (by omega) _ _).set 0 _
  have B2 : Below w.heap.size w w2 := by rw [hw2]; exact (((B1.out.setCell (p := ⟨w.heap.size, 0, none⟩) (Nat.le_refl _) _).setCell (p := ⟨w.heap.size, 1, none⟩) (Nat.le_refl _) _).setCell (p := ⟨w.heap.size, 2, none⟩) (Nat.le_refl _) _).setCell (p := ⟨w.heap.size + 1, 0, none⟩) (Nat.le_succ _) _
  have O2 : Only (fun y => y = w.heap.size ∨ y = w.heap.size + 1) w1 w2 := by
   rw [hw2]
   exact (((only_set (R := fun y => y = w.heap.size ∨ y = w.heap.size + 1) (.inl rfl) _).trans (only_set (R := fun y => y = w.heap.size ∨ y = w.heap.size + 1) (.inl rfl) _)).trans (only_set (R := fun y => y = w.heap.size ∨ y = w.heap.size + 1) (.inl rfl) _)).trans (only_set (R := fun y => y = w.heap.size ∨ y = w.heap.size + 1) (.inr rfl) _)
  clear hw2
  simp only [Leaves, settle]
  refine ⟨_, results_pgb (p := 2) (u := 3) Tryz.results117 _ w2 w.heap.size (w.heap.size + 1) rfl rfl (KP2.cell (j := 0) rfl) (KP2.cell (j := 1) rfl) (KP2.cell (j := 2) rfl) (KO2.cell (j := 0) rfl), ?_⟩
  refine ⟨B2, .inr ⟨p, ka, kn, kc, va, vn, vc, ia, jn, ic, HPR.out, rfl, HPO.out.to O2 (fun y hy e => by have := HLO.out y hy; have := HUU.out; omega), fun y hy => by have := HLO.out y hy; have := HU.out; omega⟩⟩
open Go.RowKit
set_option linter.unusedVariables false
theorem step_append_w {P : Program} {w : World} {ops : Array Oper} {o : Oper} {a : Act} {K : Act → World → Prop} {Q : Exit → Act → World → Prop} {E : Prop} (hgd : o.guard = none) (s x : Operand) (t : TypeId)
  (ho : o.op = .call { callee := .builtin .append, args := #[s, x], argTypes := #[t, t] }) (B : Nat) (e : TypeId) (z : Value) (size bytes : Nat) (ht : P.underlying t = some (.slice e)) (hinfo : (P.info? e).map (fun i => (i.zero, i.size, i.bytes)) = some (some z, size, bytes)) (hzs : z.cells.size = size) (hsz : 0 < size) (hby : bytes ≤ 128)
  (v : Value) (n : Nat) (xs : List Value) (hs : a.eval s = v) (hown : w.ownsRow B e size v n xs) (g : Nat) (news : List Value) (hx : a.eval x = .slice (some ⟨g, 0, none⟩) 1 1) (hB : Rw w (fun _ => True) (.slice (some ⟨g, 0, none⟩) 1 1) 1 news) (hl : news.length = size) (h1 : ∀ u ∈ news, u.oneCell' = true) (hb : n ≤ 1048576) (hbase : B ≤ w.heap.size)
  (b0 o0 : Nat) (x0 : Value) (hc0 : w.cell? ⟨b0, o0, none⟩ = some x0) (hf0 : w.frozen? ⟨b0, o0, none⟩ = false) (hne : v.ownBlock ≠ some b0)
  (h : ∀ a' n' c' w', w'.ownsRow B e size (.slice a' n' c') (n + 1) (xs ++ news) → w.grownBy w' v.ownBlock → ((Value.slice a' n' c').ownBlock = v.ownBlock ∨ (Value.slice a' n' c').ownBlock = some w.heap.size) → w'.cell? ⟨b0, o0, none⟩ = some x0 → w'.frozen? ⟨b0, o0, none⟩ = false → K (a.put o.dst (.slice a' n' c')) w') :
  if Region.wanted o (yielded ops a.tmps) = true then Oper.wp P o a w K Q else E := by
 have hw : Region.wanted o (yielded ops a.tmps) = true := by simp [Region.wanted, hgd]
 rw [if_pos hw]
 obtain ⟨i, hi, hz, hsz', hby'⟩ := info_of hinfo
 obtain ⟨v', w', hr, h2, h3, h5⟩ := run_append_row_at (P := P) (w := w) B t o.type e i z size bytes ht hi hz hsz' hby' hzs hsz v n xs hown (fun _ => True) _ 1 news hB (by omega) h1 (by unfold maxLen; omega) (by have := Nat.mul_le_mul (show n + 1 ≤ 1048577 by omega) hby; omega) hbase
 obtain ⟨a', c', rfl⟩ := own_shape h2
 have hbl := h3.block b0 (block_lt hc0) (fun e => hne e.symm)
 unfold Oper.wp execOp
 simp only [ho, resolve, invoke, builtin, Sem.run_bind, Sem.run_pure, Result.andThen_ok, List.map_toArray, List.map_cons, List.map_nil, hs, hx, hr]
 exact h a' _ c' w' h2 h3 h5 ((World.cell?_of_block (w := w) (a := ⟨b0, o0, none⟩) hbl).trans hc0) ((World.frozen?_of_block (w := w) (a := ⟨b0, o0, none⟩) hbl).trans hf0)
theorem addK_split (ns : List NB) {me : Nat} (h : me < ns.length) (q : Int) : ∃ ms l, ms.length = me ∧ ns = ms ++ nAt ns me :: l ∧ addK ns me q = ms ++ ⟨(nAt ns me).ps, (nAt ns me).keys, (nAt ns me).kids ++ [q]⟩ :: l := by
 refine ⟨ns.take me, ns.drop (me + 1), by simp; omega, ?_, ?_⟩
 ·have e : nAt ns me = ns[me] := by simp [nAt, h]
  rw [e, ← List.drop_eq_getElem_cons h, List.take_append_drop]
 ·rw [addK, List.set_eq_take_append_cons_drop, if_pos h]
structure RS (v : World) (P : Nat → Prop) (r : Nat) (sl : Value) (na : Option Addr) (nn nc : Nat) (pa : Option Addr) (pn pc : Nat) (V : List V3) (s : LS) : Prop where
 box : Bk v r 126 [sl, .slice na nn nc, .slice pa pn pc]
 nod : NA v (.slice na nn nc) V s.1
 pla : v.ownsRow 0 3 1 (.slice pa pn pc) s.2.length (s.2.map (Value.int .i64))
 pr : P r
 pn' : ∀ y, (Value.slice na nn nc).ownBlock = some y → P y ∧ y ≠ r
 pb : ∀ i, i < s.1.length → ∀ y, bl (vAt V i) y → P y ∧ y ≠ r
 pp : ∀ y, (Value.slice pa pn pc).ownBlock = some y → P y ∧ y ≠ r ∧ (Value.slice na nn nc).ownBlock ≠ some y ∧ ∀ i, i < s.1.length → ¬ bl (vAt V i) y
theorem RS.below {v v' : World} {P : Nat → Prop} {r : Nat} {sl : Value} {na : Option Addr} {nn nc : Nat} {pa : Option Addr} {pn pc : Nat} {V : List V3} {s : LS} (h : RS v P r sl na nn nc pa pn pc V s) (hb : Below v.heap.size v v') : RS v' P r sl na nn nc pa pn pc V s :=
 ⟨h.box.below hb, h.nod.kept hb, own_kept h.pla (only_of_below hb (fun _ => False)) (fun _ _ h => h), h.pr, h.pn', h.pb, h.pp⟩
theorem RS.mono {v : World} {P Q : Nat → Prop} {r : Nat} {sl : Value} {na : Option Addr} {nn nc : Nat} {pa : Option Addr} {pn pc : Nat} {V : List V3} {s : LS} (h : RS v P r sl na nn nc pa pn pc V s) (hq : ∀ y, y < v.heap.size → P y → Q y) : RS v Q r sl na nn nc pa pn pc V s :=
 ⟨h.box, h.nod, h.pla, hq _ h.box.lt h.pr, fun y e => ⟨hq y (World.ownsRow.lt h.nod.row y e).2 (h.pn' y e).1, (h.pn' y e).2⟩, fun i hi y e => ⟨hq y ((h.nod.own i hi).1.lt e) (h.pb i hi y e).1, (h.pb i hi y e).2⟩, fun y e => ⟨hq y (World.ownsRow.lt h.pla y e).2 (h.pp y e).1, (h.pp y e).2⟩⟩
theorem RS.pushN {u w2 : World} {P : Nat → Prop} {r : Nat} {sl : Value} {na : Option Addr} {nn nc : Nat} {pa : Option Addr} {pn pc : Nat} {V : List V3} {s : LS} (h : RS u P r sl na nn nc pa pn pc V s) (x : NB) (p : V3) (hx : OwN u p x) (hap : ap3 p)
  (hd : ∀ y, bl p y → P y ∧ y ≠ r ∧ (Value.slice na nn nc).ownBlock ≠ some y ∧ (Value.slice pa pn pc).ownBlock ≠ some y ∧ ∀ i, i < s.1.length → ¬ bl (vAt V i) y) (hP : P u.heap.size) {a5 : Option Addr} {n5 c5 : Nat}
  (ho : w2.ownsRow 0 85 3 (.slice a5 n5 c5) (s.1.length + 1) (ncs V ++ [p.1, p.2.1, p.2.2])) (hg : u.grownBy w2 (Value.slice na nn nc).ownBlock) (ha : (Value.slice a5 n5 c5).ownBlock = (Value.slice na nn nc).ownBlock ∨ (Value.slice a5 n5 c5).ownBlock = some u.heap.size) :
  RS (w2.setCell ⟨r, 1, none⟩ (.slice a5 n5 c5)) P r sl a5 n5 c5 pa pn pc (V ++ [p]) (s.1 ++ [x], s.2) := by
 have o : Only (fun y => (Value.slice na nn nc).ownBlock = some y) u w2 := only_of_grown hg (fun k e => e)
 have o2 : Only (fun y => y = r) w2 (w2.setCell ⟨r, 1, none⟩ (.slice a5 n5 c5)) := only_set (R := fun y => y = r) rfl _
 have hr := h.box.lt
 have hl := h.nod.len
 have hN := h.nod.push x p hx hap (fun y hy => ⟨(hd y hy).2.2.1, (hd y hy).2.2.2.2⟩) ho hg ha
 have hat : ∀ i, i < (s.1 ++ [x]).length → (i < s.1.length ∧ vAt (V ++ [p]) i = vAt V i) ∨ (i = s.1.length ∧ vAt (V ++ [p]) i = p) := by
  intro i hi
  simp at hi
  by_cases e : i < s.1.length
  ·exact .inl ⟨e, vAt_append_left (by omega)⟩
  ·obtain rfl : i = s.1.length := by omega
   exact .inr ⟨rfl, by rw [← hl, vAt_append_at]⟩
 have hn5 : ∀ y, (Value.slice a5 n5 c5).ownBlock = some y → P y ∧ y ≠ r ∧ (Value.slice pa pn pc).ownBlock ≠ some y := by
  intro y e
  rcases ha with ha | ha
  ·rw [ha] at e
   exact ⟨(h.pn' y e).1, (h.pn' y e).2, fun e2 => (h.pp y e2).2.2.1 e⟩
  ·rw [ha] at e
   cases e
   exact ⟨hP, by omega, fun e2 => by have := (World.ownsRow.lt h.pla _ e2).2; omega⟩
 have hb5 : ∀ i, i < (s.1 ++ [x]).length → ∀ y, bl (vAt (V ++ [p]) i) y → P y ∧ y ≠ r ∧ (Value.slice pa pn pc).ownBlock ≠ some y := by
  intro i hi y hy
  rcases hat i hi with ⟨e, e1⟩ | ⟨e, e1⟩
  ·rw [e1] at hy
   exact ⟨(h.pb i e y hy).1, (h.pb i e y hy).2, fun e2 => (h.pp y e2).2.2.2 i e hy⟩
  ·rw [e1] at hy
   exact ⟨(hd y hy).1, (hd y hy).2.1, (hd y hy).2.2.2.1⟩
 refine ⟨?_, hN.to o2 (fun y e => (hn5 y e).2.1) (fun i hi y hy => (hb5 i hi y hy).2.1), own_kept (own_kept h.pla o (fun y e => (h.pp y e).2.2.1)) o2 (fun y e => (h.pp y e).2.1), h.pr, fun y e => ⟨(hn5 y e).1, (hn5 y e).2.1⟩, fun i hi y hy => ⟨(hb5 i hi y hy).1, (hb5 i hi y hy).2.1⟩, fun y e => ⟨(h.pp y e).1, (h.pp y e).2.1, fun e2 => (hn5 y e2).2.2 e, fun i hi hy => (hb5 i hi y hy).2.2 e⟩⟩
 exact (h.box.to o (fun e => (h.pn' r e).2 rfl)).set 1 _
theorem RS.pushP {u w2 : World} {P : Nat → Prop} {r : Nat} {sl : Value} {na : Option Addr} {nn nc : Nat} {pa : Option Addr} {pn pc : Nat} {V : List V3} {s : LS} (h : RS u P r sl na nn nc pa pn pc V s) (t : Int) (hP : P u.heap.size) {a5 : Option Addr} {n5 c5 : Nat}
  (ho : w2.ownsRow 0 3 1 (.slice a5 n5 c5) (s.2.length + 1) (s.2.map (Value.int .i64) ++ [.int .i64 t])) (hg : u.grownBy w2 (Value.slice pa pn pc).ownBlock) (ha : (Value.slice a5 n5 c5).ownBlock = (Value.slice pa pn pc).ownBlock ∨ (Value.slice a5 n5 c5).ownBlock = some u.heap.size) :
  RS (w2.setCell ⟨r, 2, none⟩ (.slice a5 n5 c5)) P r sl na nn nc a5 n5 c5 V (s.1, s.2 ++ [t]) := by
 have o : Only (fun y => (Value.slice pa pn pc).ownBlock = some y) u w2 := only_of_grown hg (fun k e => e)
 have o2 : Only (fun y => y = r) w2 (w2.setCell ⟨r, 2, none⟩ (.slice a5 n5 c5)) := only_set (R := fun y => y = r) rfl _
 have hr := h.box.lt
 have h5 : ∀ y, (Value.slice a5 n5 c5).ownBlock = some y → P y ∧ y ≠ r ∧ (Value.slice na nn nc).ownBlock ≠ some y ∧ ∀ i, i < s.1.length → ¬ bl (vAt V i) y := by
  intro y e
  rcases ha with ha | ha
  ·rw [ha] at e; exact h.pp y e
  ·rw [ha] at e
   cases e
   exact ⟨hP, by omega, fun e2 => by have := (World.ownsRow.lt h.nod.row _ e2).2; omega, fun i hi hy => by have := (h.nod.own i hi).1.lt hy; omega⟩
 refine ⟨?_, (h.nod.to o (fun y e e2 => (h.pp y e2).2.2.1 e) (fun i hi y hy e2 => (h.pp y e2).2.2.2 i hi hy)).to o2 (fun y e => (h.pn' y e).2) (fun i hi y hy => (h.pb i hi y hy).2), own_kept ?_ o2 (fun y e => (h5 y e).2.1), h.pr, h.pn', h.pb, h5⟩
 ·exact (h.box.to o (fun e => (h.pp r e).2.1 rfl)).set 2 _
 ·simpa using ho
theorem RS.kid {u w2 : World} {P : Nat → Prop} {r : Nat} {sl : Value} {g nn nc : Nat} {pa : Option Addr} {pn pc : Nat} {V : List V3} {s : LS} (h : RS u P r sl (some ⟨g, 0, none⟩) nn nc pa pn pc V s) {me : Nat} (hme : me < s.1.length) (q : Int) (hP : P u.heap.size) {a5 : Option Addr} {n5 c5 : Nat}
  (ho : w2.ownsRow 0 3 1 (.slice a5 n5 c5) ((nAt s.1 me).kids.length + 1) ((nAt s.1 me).kids.map (Value.int .i64) ++ [.int .i64 q])) (hg : u.grownBy w2 (vAt V me).2.2.ownBlock) (ha : (Value.slice a5 n5 c5).ownBlock = (vAt V me).2.2.ownBlock ∨ (Value.slice a5 n5 c5).ownBlock = some u.heap.size) :
  RS (w2.setCell ⟨g, me * 3 + 2, none⟩ (.slice a5 n5 c5)) P r sl (some ⟨g, 0, none⟩) nn nc pa pn pc (V.set me ((vAt V me).1, (vAt V me).2.1, .slice a5 n5 c5)) (addK s.1 me q, s.2) := by
 have o : Only (fun y => (vAt V me).2.2.ownBlock = some y) u w2 := only_of_grown hg (fun k e => e)
 have o2 : Only (fun y => y = g) w2 (w2.setCell ⟨g, me * 3 + 2, none⟩ (.slice a5 n5 c5)) := only_set (R := fun y => y = g) rfl _
 have hr := h.box.lt
 have hl := h.nod.len
 have hgr : g ≠ r := (h.pn' g rfl).2
 have hN : NA (w2.setCell ⟨g, me * 3 + 2, none⟩ (.slice a5 n5 c5)) (.slice (some ⟨g, 0, none⟩) nn nc) (V.set me ((vAt V me).1, (vAt V me).2.1, .slice a5 n5 c5)) (addK s.1 me q) := by
  obtain ⟨ms, l, hm, e1, e2⟩ := addK_split s.1 hme q
  have hna := h.nod
  generalize nAt s.1 me = z at *
  rw [e2]
  rw [e1] at hna
  subst hm
  exact hna.addKid ho hg (ha.imp id (fun e => ⟨_, e, Nat.le_refl _⟩))
 have hb5 : ∀ i, i < s.1.length → ∀ y, bl (vAt (V.set me ((vAt V me).1, (vAt V me).2.1, .slice a5 n5 c5)) i) y → P y ∧ y ≠ r ∧ (Value.slice pa pn pc).ownBlock ≠ some y := by
  intro i hi y hy
  have hold : bl (vAt V i) y → P y ∧ y ≠ r ∧ (Value.slice pa pn pc).ownBlock ≠ some y := fun hy => ⟨(h.pb i hi y hy).1, (h.pb i hi y hy).2, fun e2 => (h.pp y e2).2.2.2 i hi hy⟩
  by_cases e : i = me
  ·subst e
   rw [vAt_set _ _ _ (by omega)] at hy
   rcases hy with hy | hy | hy
   ·exact hold (.inl hy)
   ·exact hold (.inr (.inl hy))
   ·simp only at hy
    rcases ha with ha | ha
    ·rw [ha] at hy; exact hold (.inr (.inr hy))
    ·rw [ha] at hy
     cases hy
     exact ⟨hP, by omega, fun e2 => by have := (World.ownsRow.lt h.pla _ e2).2; omega⟩
  ·rw [vAt_other _ _ _ _ e] at hy
   exact hold hy
 refine ⟨(h.box.to o (fun e => (h.pb me hme r (.inr (.inr e))).2 rfl)).to o2 (fun e => hgr e.symm), hN, own_kept (own_kept h.pla o (fun y e e2 => (h.pp y e).2.2.2 me hme (.inr (.inr e2)))) o2 (fun y e e2 => (h.pp y e).2.2.1 (by rw [e2]; rfl)), h.pr, h.pn', fun i hi y hy => ?_, fun y e => ⟨(h.pp y e).1, (h.pp y e).2.1, (h.pp y e).2.2.1, fun i hi hy => ?_⟩⟩
 ·simp only [addK_len] at hi
  exact ⟨(hb5 i hi y hy).1, (hb5 i hi y hy).2.1⟩
 ·simp only [addK_len] at hi
  exact (hb5 i hi y hy).2.2 e
structure RH (w : World) (S : Nat → Prop) (sl : Value) (ss : List (List Int)) : Prop where
 sh : Shr w S sl ss
 e1 : Err w 0 ∧ S 0
 e2 : Err w 1 ∧ S 1
 e3 : Err w 2 ∧ S 2
 sm : ∀ i, i < ss.length → (shAt ss i).length ≤ 1048576
theorem RH.to {w w' : World} {S R : Nat → Prop} {sl : Value} {ss : List (List Int)} (h : RH w S sl ss) (ho : Only R w w') (hd : ∀ b, S b → ¬ R b) : RH w' S sl ss :=
 ⟨h.sh.to ho (fun b hb _ => hd b hb), ⟨h.e1.1.only ho (hd _ h.e1.2), h.e1.2⟩, ⟨h.e2.1.only ho (hd _ h.e2.2), h.e2.2⟩, ⟨h.e3.1.only ho (hd _ h.e3.2), h.e3.2⟩, h.sm⟩
def RePost (ss : List (List Int)) (f : Nat) (P : Nat → Prop) (r : Nat) (sl : Value) (t : Int) (s : LS) (w : World) (e : Ending) (w' : World) : Prop :=
 Only P w w' ∧ ((ldV ss f t s = none ∧ e = .returned (.bool false)) ∨ ∃ s' na nn nc pa pn pc V, ldV ss f t s = some s' ∧ s'.2.length = s'.1.length ∧ e = .returned (.bool true) ∧ RS w' (fun y => P y ∨ w.heap.size ≤ y) r sl na nn nc pa pn pc V s')
def RdAll (ss : List (List Int)) (f : Nat) (sa : Option Addr) (sn sc r : Nat) : Prop := ∀ (S P : Nat → Prop) (na : Option Addr) (nn nc : Nat) (pa : Option Addr) (pn pc : Nat) (V : List V3) (s : LS) (t : Int) (w : World),
 RH w S (.slice sa sn sc) ss → (∀ y, S y → y < w.heap.size ∧ ¬ P y) → (∀ y, P y → y < w.heap.size) → RS w P r (.slice sa sn sc) na nn nc pa pn pc V s → s.2.length = s.1.length → s.1.length ≤ 400 → 400 ≤ s.1.length + f → 0 ≤ t →
 Calls Tryz.prog 76 #[.pointer (some ⟨r, 0, none⟩), .int .i64 t] w fun e w' => RePost ss f P r (.slice sa sn sc) t s w e w'
open Go.RowKit
set_option linter.unusedVariables false
theorem pgAt_out {ss : List (List Int)} {t : Int} (h : (ss.length : Int) ≤ t) : pgAt ss t = none := by
 rw [pgAt, if_neg (by omega)]
theorem pgAt_in {ss : List (List Int)} {t : Int} (h0 : 0 ≤ t) (h : t < (ss.length : Int)) : pgAt ss t = prd (shAt ss t.toNat) := by
 rw [pgAt, if_pos ⟨h0, h⟩]
theorem nAt_addK_other {ns : List NB} {me i : Nat} (q : Int) (h : i ≠ me) : nAt (addK ns me q) i = nAt ns i := by simp [nAt, addK, Ne.symm h]
theorem nAt_addK_me {ns : List NB} {me : Nat} (q : Int) (h : me < ns.length) : nAt (addK ns me q) me = ⟨(nAt ns me).ps, (nAt ns me).keys, (nAt ns me).kids ++ [q]⟩ := by simp [nAt, addK, h]
theorem ldK_old {F : Int → LS → Option LS} (hF : ∀ t s s', F t s = some s' → s.1.length ≤ s'.1.length ∧ ∀ i, i < s.1.length → nAt s'.1 i = nAt s.1 i) (me : Nat) : ∀ (ks : List Int) (s s' : LS), ldK F me ks s = some s' → ∀ i, i < s.1.length → i ≠ me → nAt s'.1 i = nAt s.1 i
 | [], s, s', h, i, hi, hm => by cases h; rfl
 | k :: ks, s, s', h, i, hi, hm => by
  rw [ldK] at h
  cases e : F k (addK s.1 me (s.1.length : Int), s.2) with
  | none => rw [e] at h; cases h
  | some s2 =>
   rw [e] at h
   have h1 := hF _ _ _ e
   simp only [addK_len] at h1
   rw [ldK_old hF me ks s2 s' h i (by omega) hm, h1.2 i hi, nAt_addK_other _ hm]
theorem ldV_old (ss : List (List Int)) : ∀ (f : Nat) (t : Int) (s s' : LS), ldV ss f t s = some s' → ∀ i, i < s.1.length → nAt s'.1 i = nAt s.1 i
 | 0, t, s, s', h => by cases h
 | f + 1, t, s, s', h => by
  intro i hi
  rw [ldV] at h
  cases e : pgAt ss t with
  | none => rw [e] at h; cases h
  | some p =>
   rw [e] at h
   simp only at h
   by_cases hb : t ∈ s.2 ∨ 400 ≤ s.1.length
   ·rw [if_pos hb] at h; cases h
   ·rw [if_neg hb] at h
    rw [ldK_old (fun t s s' h => ⟨by have := ldV_len ss f t s s' h; omega, ldV_old ss f t s s' h⟩) s.1.length p.kids _ s' h i (by simp; omega) (by omega)]
    exact nAt_append_left hi
theorem nodeP_kids (p : PG) : (nodeP p).kids = [] := by
 unfold nodeP
 split <;> rfl
set_option maxHeartbeats 8000000 in
set_option maxRecDepth 100000 in
theorem treeRead_step (ss : List (List Int)) (f : Nat) (sa : Option Addr) (sn sc r : Nat) (IH : ∀ f', f = f' + 1 → RdAll ss f' sa sn sc r) : RdAll ss f sa sn sc r := by
 intro S P na nn nc pa pn pc V s t w hRH hS hP hR hpl hn4 hf ht
 have HH := hid hRH
 have HR := hid hR
 have HNN := hid (own_at hR.nod.row).1
 have hnc := (own_at hR.nod.row).2.1
 have hnc' := (own_at hR.nod.row).2.2.1
 have HPN := hid (own_at hR.pla).1
 have hpc := (own_at hR.pla).2.1
 have hpc' := (own_at hR.pla).2.2.1
 have HSN := hid hRH.sh.len.1
 have hsc := hRH.sh.len.2.1
 have hsc' := hRH.sh.len.2.2
 have HIR : Hid (∀ v, Below w.heap.size w v → Ir v (fun _ => True) (.slice pa pn pc) s.2) := fun v hv => rw_own (HR.out.below hv).pla (fun _ _ _ _ => trivial)
 have c0 := hR.box.cell (j := 0) rfl
 have c1 := hR.box.cell (j := 1) rfl
 have c2 := hR.box.cell (j := 2) rfl
 have HL4 := hid hn4
 have HF := hid hf
 have HPL := hid hpl
 have HS := hid hS
 have HP := hid hP
 clear hRH hR hpl hn4 hf hS hP
 by_cases q1 : (sn : Int) ≤ t
 ·have HB : Hid (ldV ss f t s = none) := ldV_page (pgAt_out (by rw [← HSN.out]; exact q1))
  go_enter Tryz.func76, Tryz.ntmps76
  go_wp2
  go_ret
  exact ⟨Only.refl _ _, .inl ⟨HB.out, rfl⟩⟩
 ·have q1' : t < (sn : Int) := by omega
  by_cases q2 : t ∈ s.2
  ·have HB : Hid (ldV ss f t s = none) := ldV_bad (.inl q2)
   have HC : Hid (decide (t ∈ s.2) = true) := decide_eq_true q2
   clear q2
   go_enter Tryz.func76, Tryz.ntmps76
   go_wp2_with fail
   refine (containsI_any (fun _ => True) pa pn pc s.2 t _ (HIR.out _ (Below.refl _ _))).mono ?_
   rintro e w1 ⟨rfl, rfl⟩
   rw [HC.out]
   go_wp2
   go_ret
   exact ⟨Only.refl _ _, .inl ⟨HB.out, rfl⟩⟩
  ·have HC : Hid (decide (t ∈ s.2) = false) := decide_eq_false q2
   by_cases q3 : nn = 400
   ·have HB : Hid (ldV ss f t s = none) := ldV_bad (.inr (by rw [← HNN.out]; omega))
    clear q2
    subst q3
    go_enter Tryz.func76, Tryz.ntmps76
    go_wp2_with fail
    refine (containsI_any (fun _ => True) pa pn pc s.2 t _ (HIR.out _ (Below.refl _ _))).mono ?_
    rintro e w1 ⟨rfl, rfl⟩
    rw [HC.out]
    go_wp2
    go_ret
    exact ⟨Only.refl _ _, .inl ⟨HB.out, rfl⟩⟩
   ·have q3' : ((nn : Int) == 400) = false := by simp; omega
    have HF1 : Hid (∃ f', f = f' + 1) := by
     have h1 := HF.out
     have h2 := HL4.out
     have h3 := HNN.out
     exact ⟨f - 1, by omega⟩
    obtain ⟨f', rfl⟩ := HF1.out
    have HI := hid (IH f' rfl)
    have HQ : Hid (¬ (t ∈ s.2 ∨ 400 ≤ s.1.length)) := by
     have h2 := HL4.out
     have h3 := HNN.out
     exact fun h => h.elim q2 (fun h => by omega)
    clear IH HF1 q2
    obtain ⟨sb, so, rfl, HSB, hsb, hcs⟩ := HH.out.sh.at (by omega)
    obtain ⟨k, rfl⟩ : ∃ k : Nat, t = (k : Int) := ⟨t.toNat, by omega⟩
    obtain ⟨ya, yn, yc, cy, hby⟩ := hcs k (by omega)
    clear hcs
    have HPG : Hid (pgAt ss (k : Int) = prd (shAt ss k)) := by
     have h3 := HSN.out
     exact pgAt_in (by omega) (by omega)
    have HYL := hby.len
    have HRD : Hid (Rd w ya yn yc (shAt ss k)) := hby.rd (by rw [HYL.1]; exact HH.out.sm k (by have := HSN.out; omega))
    clear hby HYL
    go_enter Tryz.func76, Tryz.ntmps76
    go_wp2_with fail
    refine (containsI_any (fun _ => True) pa pn pc s.2 k _ (HIR.out _ (Below.refl _ _))).mono ?_
    rintro e w1 ⟨rfl, rfl⟩
    rw [HC.out]
    go_wp2_with fail
    refine (implPageRead_any ya yn yc (shAt ss k) _ HRD.out HH.out.e1.1 HH.out.e2.1 HH.out.e3.1).mono ?_
    rintro e w1 ⟨hb1, ⟨hz, rfl⟩ | ⟨p, ka, kn, kc, va, vn, vc, ia, jn, ic, hz, rfl, hPO, hfr⟩⟩
    ·have HB : Hid (ldV ss (f' + 1) (k : Int) s = none) := ldV_page (by rw [HPG.out]; exact hz)
     have HB1 := hid hb1
     clear hb1 hz
     go_wp2
     go_ret
     exact ⟨only_of_below (bt7 HB1.out (below_new (Below.refl _ _))) _, .inl ⟨HB.out, rfl⟩⟩
    ·have HB1 := hid hb1
     have HPO := hid hPO
     have HFR := hid hfr
     have HOK := hid (prd_ok hz)
     have HZ : Hid (pgAt ss (k : Int) = some p) := by show _ = _; rw [HPG.out]; exact hz
     have HB2 : Hid (Below w.heap.size w (w1.alloc (.cells #[.slice ka kn kc, .slice va vn vc, .slice ia jn ic] 107))) := bt7 hb1 (below_new (Below.refl _ _))
     have HB3 : Hid (Below w1.heap.size w1 (w1.alloc (.cells #[.slice ka kn kc, .slice va vn vc, .slice ia jn ic] 107))) := below_new (Below.refl _ _)
     have KB := hid (Bk.new w1 107 [.slice ka kn kc, .slice va vn vc, .slice ia jn ic])
     clear hb1 hPO hfr hz HC HPG HRD
     have PO2 := hid (HPO.out.below HB3.out)
     have HSZ : Hid (w.heap.size ≤ w1.heap.size ∧ w1.heap.size < (w1.alloc (.cells #[.slice ka kn kc, .slice va vn vc, .slice ia jn ic] 107)).heap.size ∧ ∀ y, pbl (.slice ka kn kc) (.slice va vn vc) (.slice ia jn ic) y → y ≠ w1.heap.size) := by
      refine ⟨HB1.out.size, KB.out.lt, fun y hy e => ?_⟩
      have hp := HPO.out
      rcases hy with hy | hy | hy
      ·have := (World.ownsRow.lt hp.hk y hy).2; omega
      ·have := (World.ownsRow.lt hp.hv y hy).2; omega
      ·have := (World.ownsRow.lt hp.hi y hy).2; omega
     have HQX : Hid (∃ Q : Nat → Prop, ∀ y, Q y ↔ (P y ∨ (w.heap.size ≤ y ∧ (Value.slice ia jn ic).ownBlock ≠ some y ∧ y ≠ w1.heap.size))) := ⟨_, fun _ => Iff.rfl⟩
     obtain ⟨Q, hQ⟩ := HQX.out
     have HQQ := hid hQ
     clear hQ HQX
     have RS2 : Hid (RS (w1.alloc (.cells #[.slice ka kn kc, .slice va vn vc, .slice ia jn ic] 107)) Q r (.slice (some ⟨sb, so, none⟩) sn sc) na nn nc pa pn pc V s) := (HR.out.below HB2.out).mono (fun y _ hy => (HQQ.out y).2 (.inl hy))
     have HNQ : Hid (∀ y, ((Value.slice ia jn ic).ownBlock = some y ∨ y = w1.heap.size) → ¬ Q y) := by
      intro y hy hq
      rcases (HQQ.out y).1 hq with h | h
      ·have h1 := HP.out y h
       rcases hy with hy | hy
       ·have := HFR.out y (.inr (.inr hy)); omega
       ·have := HSZ.out.1; omega
      ·rcases hy with hy | hy
       ·exact h.2.1 hy
       ·exact h.2.2 hy
     have HR0 := HR
     go_wp2_with fail
     clear HB3 HPO c0 c1 c2 cy HIR HR HB1
     generalize w1.alloc (.cells #[.slice ka kn kc, .slice va vn vc, .slice ia jn ic] 107) = U at *
     generalize w1.heap.size = pb at *
     clear w1
     have c1 := RS2.out.box.cell (j := 1) rfl
     have HSX : Hid (∀ v, Only Q U v → v.cell? ⟨pb, 0, none⟩ = some (.slice ka kn kc) ∧ v.cell? ⟨pb, 1, none⟩ = some (.slice va vn vc) ∧ v.cell? ⟨pb, 2, none⟩ = some (.slice ia jn ic)) := fun v hv => by
      have h := KB.out.to hv (HNQ.out pb (.inr rfl))
      exact ⟨h.cell (j := 0) rfl, h.cell (j := 1) rfl, h.cell (j := 2) rfl⟩
     have HS0 := hid (HSX.out U.drew (only_of_below (below_drew _) _))
     have HNO := hid (fun v (h : Below U.heap.size U v) => nodeOf_any ka kn kc va vn vc ia jn ic p v (PO2.out.below h) HOK.out)
     -- what the append of the node leaves
     have HPU : Hid (∀ (w2 : World) (n1 n2 n3 : Value) (w3 w5 : World) (a5 : Option Addr) (n5 c5 : Nat), OwN w2 (n1, n2, n3) (nodeP p) → ap3 (n1, n2, n3) → (∀ y, bl (n1, n2, n3) y → (Value.slice ka kn kc).ownBlock = some y ∨ U.heap.size ≤ y) → Below U.heap.size U w2 → Below w2.heap.size w2 w3 → w5.ownsRow 0 85 3 (.slice a5 n5 c5) (s.1.length + 1) (ncs V ++ [n1, n2, n3]) → w3.grownBy w5 (Value.slice na nn nc).ownBlock → ((Value.slice a5 n5 c5).ownBlock = (Value.slice na nn nc).ownBlock ∨ (Value.slice a5 n5 c5).ownBlock = some w3.heap.size) →
       RS (w5.setCell ⟨r, 1, none⟩ (.slice a5 n5 c5)) Q r (.slice (some ⟨sb, so, none⟩) sn sc) a5 n5 c5 pa pn pc (V ++ [(n1, n2, n3)]) (s.1 ++ [nodeP p], s.2) ∧ Only Q U (w5.setCell ⟨r, 1, none⟩ (.slice a5 n5 c5)) ∧ Only Q U w5) := by
      intro w2 n1 n2 n3 w3 w5 a5 n5 c5 hO hA hBl h2 h3 hO5 hg5 ha5
      have R2 := RS2.out
      have R3 := (R2.below h2).below h3
      have hU2 := h2.size
      have hU3 := h3.size
      have hiv : ∀ y, (Value.slice ia jn ic).ownBlock = some y → y < U.heap.size := fun y e => (World.ownsRow.lt PO2.out.hi y e).2
      have hnew : ∀ y, U.heap.size ≤ y → Q y := fun y hy => (HQQ.out y).2 (.inr ⟨by have := HB2.out.size; omega, fun e => by have := hiv y e; omega, by have := HSZ.out.2.1; omega⟩)
      have hold : ∀ y, (Value.slice ka kn kc).ownBlock = some y → w.heap.size ≤ y ∧ y < U.heap.size ∧ Q y := by
       intro y e
       have h1 := HFR.out y (.inl e)
       exact ⟨h1, (World.ownsRow.lt PO2.out.hk y e).2, (HQQ.out y).2 (.inr ⟨h1, ((PO2.out.ap y).1 e).2, HSZ.out.2.2 y (.inl e)⟩)⟩
      have ho5 : Only Q U w5 := ((only_of_below h2 Q).trans (only_of_below h3 Q)).trans (only_of_grown hg5 (fun y e => (R2.pn' y e).1))
      refine ⟨R3.pushN (nodeP p) (n1, n2, n3) (hO.to (only_of_below h3 (fun _ => False)) (fun _ _ h => h)) hA (fun y hy => ?_) (hnew _ (by omega)) hO5 hg5 ha5, ho5.trans (only_set (R := Q) R2.pr _), ho5⟩
      have hP0 := HP.out
      have R0 := HR0.out
      rcases hBl y hy with e | e
      ·obtain ⟨e1, e2, e3⟩ := hold y e
       refine ⟨e3, fun h => ?_, fun h => ?_, fun h => ?_, fun i hi h => ?_⟩
       ·have := hP0 y (h ▸ R0.pr); omega
       ·have := hP0 y (R0.pn' y h).1; omega
       ·have := hP0 y (R0.pp y h).1; omega
       ·have := hP0 y (R0.pb i hi y h).1; omega
      ·refine ⟨hnew y e, fun h => ?_, fun h => ?_, fun h => ?_, fun i hi h => ?_⟩
       ·have := R2.box.lt; omega
       ·have := (World.ownsRow.lt R2.nod.row y h).2; omega
       ·have := (World.ownsRow.lt R2.pla y h).2; omega
       ·have := (R2.nod.own i hi).1.lt h; omega
     have HLEN : s.1.length ≤ 1048576 := by have := HL4.out; omega
     have HNE : Hid ((Value.slice na nn nc).ownBlock ≠ some r) := fun e => (RS2.out.pn' r e).2 rfl
     go_cut [] (fun wr => ∃ a5 n5 c5 V5, Hid (RS wr Q r (.slice (some ⟨sb, so, none⟩) sn sc) a5 n5 c5 pa pn pc V5 (s.1 ++ [nodeP p], s.2)) ∧ Hid (Only Q U wr))
     case first =>
      refine wp_region_noPanic ?_
      refine wp_region_held_drew (S := (fun v => v.cell? ⟨pb, 0, none⟩ = some (.slice ka kn kc) ∧ v.cell? ⟨pb, 1, none⟩ = some (.slice va vn vc) ∧ v.cell? ⟨pb, 2, none⟩ = some (.slice ia jn ic))) (by kernel_rfl) HS0.out (fun hHeld => ?_)
      simp only [List.size_toArray, List.length_cons, List.length_nil, Array.replicate_succ, Array.replicate_zero, Nat.reduceAdd, List.push_toArray, List.nil_append, List.cons_append]
      refine wpAnyH_take (i := 0) (v := (.pointer (some ⟨r, 0, none⟩))) rfl (by kernel_rfl) (by kernel_rfl) (by kernel_rfl) (fun _ _ _ h => h) (Or.inl ⟨by rfl, ?_⟩) (by assumption) ?_
      ·intro w hSw
       (try dsimp only at hSw)
       go_simp
      try simp only [List.getElem_toArray]
      try simp only [List.getElem_cons_succ]
      try simp only [List.getElem_cons_zero]
      try simp only [Act.put]
      try simp only [List.setIfInBounds_toArray]
      try simp only [List.set_cons_succ]
      try simp only [List.set_cons_zero]
      refine wpAnyH_take (i := 1) (v := (.pointer (some ⟨r, 0, none⟩))) rfl (by kernel_rfl) (by kernel_rfl) (by kernel_rfl) (fun _ _ _ h => h) (Or.inl ⟨by rfl, ?_⟩) (by assumption) ?_
      ·intro w hSw
       (try dsimp only at hSw)
       go_simp
      try simp only [List.getElem_toArray]
      try simp only [List.getElem_cons_succ]
      try simp only [List.getElem_cons_zero]
      try simp only [Act.put]
      try simp only [List.setIfInBounds_toArray]
      try simp only [List.set_cons_succ]
      try simp only [List.set_cons_zero]
      refine wpAnyH_take (i := 2) (v := (.pointer (some ⟨r, 0, none⟩))) rfl (by kernel_rfl) (by kernel_rfl) (by kernel_rfl) (fun _ _ _ h => h) (Or.inl ⟨by rfl, ?_⟩) (by assumption) ?_
      ·intro w hSw
       (try dsimp only at hSw)
       go_simp
      try simp only [List.getElem_toArray]
      try simp only [List.getElem_cons_succ]
      try simp only [List.getElem_cons_zero]
      try simp only [Act.put]
      try simp only [List.setIfInBounds_toArray]
      try simp only [List.set_cons_succ]
      try simp only [List.set_cons_zero]
      refine wpAnyH_take (i := 3) (v := (.pointer (some ⟨r, 1, none⟩))) rfl (by kernel_rfl) (by kernel_rfl) (by kernel_rfl) (fun _ _ _ h => h) (Or.inl ⟨by rfl, ?_⟩) (by assumption) ?_
      ·intro w hSw
       (try dsimp only at hSw)
       go_simp
      try simp only [List.getElem_toArray]
      try simp only [List.getElem_cons_succ]
      try simp only [List.getElem_cons_zero]
      try simp only [Act.put]
      try simp only [List.setIfInBounds_toArray]
      try simp only [List.set_cons_succ]
      try simp only [List.set_cons_zero]
      refine wpAnyH_take (i := 4) (v := (.pointer (some ⟨r, 1, none⟩))) rfl (by kernel_rfl) (by kernel_rfl) (by kernel_rfl) (fun _ _ _ h => h) (Or.inl ⟨by rfl, ?_⟩) (by assumption) ?_
      ·intro w hSw
       (try dsimp only at hSw)
       go_simp
      try simp only [List.getElem_toArray]
      try simp only [List.getElem_cons_succ]
      try simp only [List.getElem_cons_zero]
      try simp only [Act.put]
      try simp only [List.setIfInBounds_toArray]
      try simp only [List.set_cons_succ]
      try simp only [List.set_cons_zero]
      refine wpAnyH_take (i := 6) (v := (.agg #[.slice ka kn kc, .slice va vn vc, .slice ia jn ic])) rfl (by kernel_rfl) (by kernel_rfl) (by kernel_rfl) (fun _ _ _ h => h) (Or.inl ⟨by rfl, ?_⟩) (by assumption) ?_
      ·intro w hSw
       (try dsimp only at hSw)
       go_simp
      try simp only [List.getElem_toArray]
      try simp only [List.getElem_cons_succ]
      try simp only [List.getElem_cons_zero]
      try simp only [Act.put]
      try simp only [List.setIfInBounds_toArray]
      try simp only [List.set_cons_succ]
      try simp only [List.set_cons_zero]
      refine wpAnyH_ready (rs := [5, 7]) (by kernel_rfl) (by simp) ?_
      refine (AllReadyH.cons rfl (fun K1 hK => ?_) (AllReadyH.cons rfl (fun K1 hK => ?_) AllReadyH.nil))
      ·go_simp
       refine hK.out _ _ ?_ (fun hHeld => ?_)
       ·assumption
       clear hK K1
       try simp only [List.getElem_toArray]
       try simp only [List.getElem_cons_succ]
       try simp only [List.getElem_cons_zero]
       try simp only [Act.put]
       try simp only [List.setIfInBounds_toArray]
       try simp only [List.set_cons_succ]
       try simp only [List.set_cons_zero]
       refine wpAnyH_ready (rs := [7]) (by kernel_rfl) (by simp) ?_
       refine (AllReadyH.cons rfl (fun K1 hK => ?_) AllReadyH.nil)
       go_simp
       refine (HNO.out _ (below_drew _)).mono ?_
       rintro e w2 ⟨a1, n1, d1, a2, n2, d2, a3, n3, d3, rfl, hO, hA, hBl, hB⟩
       have B4 : Hid (Below U.heap.size U w2) := bt7 (below_drew U) hB
       have HO := hid hO
       have HA := hid hA
       have HBl := hid hBl
       have R4 := hid (RS2.out.below B4.out)
       have B5 : Hid (Below w2.heap.size w2 (w2.alloc (.cells #[.slice a1 n1 d1, .slice a2 n2 d2, .slice a3 n3 d3] 85))) := below_new (Below.refl _ _)
       have R5 := hid (R4.out.below B5.out)
       have H5 := hid R5.out.nod.row
       have KN := hid (Bk.new w2 85 [.slice a1 n1 d1, .slice a2 n2 d2, .slice a3 n3 d3])
       have S4 := HSX.out _ (only_of_below B4.out _)
       have S5 := HSX.out _ ((only_of_below B4.out _).trans (only_of_below B5.out _))
       have c4 := R4.out.box.cell (j := 1) rfl
       have c5' := R5.out.box.cell (j := 1) rfl
       have F5 := hid (R5.out.box.free 1)
       clear hO hA hBl hB
       go_wp2_with fail
       refine hK.out _ _ ?_ (fun hHeld => ?_)
       ·exact S4
       clear hK K1
       try simp only [List.getElem_toArray]
       try simp only [List.getElem_cons_succ]
       try simp only [List.getElem_cons_zero]
       try simp only [Act.put]
       try simp only [List.setIfInBounds_toArray]
       try simp only [List.set_cons_succ]
       try simp only [List.set_cons_zero]
       refine wpAnyH_ready (rs := [8]) (by kernel_rfl) (by simp) ?_
       refine (AllReadyH.cons rfl (fun K1 hK => ?_) AllReadyH.nil)
       go_simp
       refine hK.out _ _ ?_ (fun hHeld => ?_)
       ·exact S5
       clear hK K1
       try simp only [List.getElem_toArray]
       try simp only [List.getElem_cons_succ]
       try simp only [List.getElem_cons_zero]
       try simp only [Act.put]
       try simp only [List.setIfInBounds_toArray]
       try simp only [List.set_cons_succ]
       try simp only [List.set_cons_zero]
       refine wpAnyH_ready (rs := [9]) (by kernel_rfl) (by simp) ?_
       refine (AllReadyH.cons rfl (fun K1 hK => ?_) AllReadyH.nil)
       refine step_append_w rfl _ _ _ rfl 0 85 (.agg #[.slice none 0 0, .slice none 0 0, .slice none 0 0]) 3 72 Tryz.underlying31 infoNodeI rfl (by decide) (by decide) (.slice na nn nc) s.1.length (ncs V) rfl H5.out w2.heap.size [.slice a1 n1 d1, .slice a2 n2 d2, .slice a3 n3 d3] rfl (KN.out.rw (Nat.le_refl _) (by omega) (fun h => by omega) _ trivial) rfl (by intro y hy; simp at hy; rcases hy with rfl | rfl | rfl <;> rfl) HLEN (Nat.zero_le _) r 1 (.slice na nn nc) c5' F5.out HNE.out ?_
       intro a5 n5 c5 w5 hO5 hg5 ha5 hc5 hf5
       have P5 := hid (HPU.out w2 _ _ _ _ w5 a5 n5 c5 HO.out HA.out HBl.out B4.out B5.out hO5 hg5 ha5)
       have S6 := HSX.out _ P5.out.2.2
       have S7 := HSX.out _ P5.out.2.1
       clear hO5 hg5 ha5
       refine hK.out _ _ ?_ (fun hHeld => ?_)
       ·exact S6
       clear hK K1
       try simp only [List.getElem_toArray]
       try simp only [List.getElem_cons_succ]
       try simp only [List.getElem_cons_zero]
       try simp only [Act.put]
       try simp only [List.setIfInBounds_toArray]
       try simp only [List.set_cons_succ]
       try simp only [List.set_cons_zero]
       refine wpAnyH_take (i := 10) (v := (.pointer (some ⟨r, 0, none⟩))) rfl (by kernel_rfl) (by kernel_rfl) (by kernel_rfl) (fun _ _ _ h => h) (Or.inl ⟨by rfl, ?_⟩) (by assumption) ?_
       ·intro w hSw
        (try dsimp only at hSw)
        go_simp
       try simp only [List.getElem_toArray]
       try simp only [List.getElem_cons_succ]
       try simp only [List.getElem_cons_zero]
       try simp only [Act.put]
       try simp only [List.setIfInBounds_toArray]
       try simp only [List.set_cons_succ]
       try simp only [List.set_cons_zero]
       refine wpAnyH_take (i := 11) (v := (.pointer (some ⟨r, 1, none⟩))) rfl (by kernel_rfl) (by kernel_rfl) (by kernel_rfl) (fun _ _ _ h => h) (Or.inl ⟨by rfl, ?_⟩) (by assumption) ?_
       ·intro w hSw
        (try dsimp only at hSw)
        go_simp
       try simp only [List.getElem_toArray]
       try simp only [List.getElem_cons_succ]
       try simp only [List.getElem_cons_zero]
       try simp only [Act.put]
       try simp only [List.setIfInBounds_toArray]
       try simp only [List.set_cons_succ]
       try simp only [List.set_cons_zero]
       refine wpAnyH_take (i := 12) (v := (.pointer (some ⟨r, 1, none⟩))) rfl (by kernel_rfl) (by kernel_rfl) (by kernel_rfl) (fun _ _ _ h => h) (Or.inl ⟨by rfl, ?_⟩) (by assumption) ?_
       ·intro w hSw
        (try dsimp only at hSw)
        go_simp
       try simp only [List.getElem_toArray]
       try simp only [List.getElem_cons_succ]
       try simp only [List.getElem_cons_zero]
       try simp only [Act.put]
       try simp only [List.setIfInBounds_toArray]
       try simp only [List.set_cons_succ]
       try simp only [List.set_cons_zero]
       refine wpAnyH_ready (rs := [13]) (by kernel_rfl) (by simp) ?_
       refine (AllReadyH.cons rfl (fun K1 hK => ?_) AllReadyH.nil)
       go_simp
       refine hK.out _ _ ?_ (fun hHeld => ?_)
       ·exact S7
       clear hK K1
       try simp only [List.getElem_toArray]
       try simp only [List.getElem_cons_succ]
       try simp only [List.getElem_cons_zero]
       try simp only [Act.put]
       try simp only [List.setIfInBounds_toArray]
       try simp only [List.set_cons_succ]
       try simp only [List.set_cons_zero]
       refine wpAnyH_done (by kernel_rfl) ?_ _
       refine NoPanic.normal ?_
       go_wp2_with fail
       go_meet
       exact ⟨a5, n5, c5, _, P5.out.1, P5.out.2.1⟩
      ·go_simp
       refine (HNO.out _ (below_drew _)).mono ?_
       rintro e w2 ⟨a1, n1, d1, a2, n2, d2, a3, n3, d3, rfl, hO, hA, hBl, hB⟩
       have B4 : Hid (Below U.heap.size U w2) := bt7 (below_drew U) hB
       have HO := hid hO
       have HA := hid hA
       have HBl := hid hBl
       have R4 := hid (RS2.out.below B4.out)
       have B5 : Hid (Below w2.heap.size w2 (w2.alloc (.cells #[.slice a1 n1 d1, .slice a2 n2 d2, .slice a3 n3 d3] 85))) := below_new (Below.refl _ _)
       have R5 := hid (R4.out.below B5.out)
       have H5 := hid R5.out.nod.row
       have KN := hid (Bk.new w2 85 [.slice a1 n1 d1, .slice a2 n2 d2, .slice a3 n3 d3])
       have S4 := HSX.out _ (only_of_below B4.out _)
       have S5 := HSX.out _ ((only_of_below B4.out _).trans (only_of_below B5.out _))
       have c4 := R4.out.box.cell (j := 1) rfl
       have c5' := R5.out.box.cell (j := 1) rfl
       have F5 := hid (R5.out.box.free 1)
       clear hO hA hBl hB
       go_wp2_with fail
       refine hK.out _ _ ?_ (fun hHeld => ?_)
       ·exact S4
       clear hK K1
       try simp only [List.getElem_toArray]
       try simp only [List.getElem_cons_succ]
       try simp only [List.getElem_cons_zero]
       try simp only [Act.put]
       try simp only [List.setIfInBounds_toArray]
       try simp only [List.set_cons_succ]
       try simp only [List.set_cons_zero]
       refine wpAnyH_ready (rs := [5, 8]) (by kernel_rfl) (by simp) ?_
       refine (AllReadyH.cons rfl (fun K1 hK => ?_) (AllReadyH.cons rfl (fun K1 hK => ?_) AllReadyH.nil))
       ·go_simp
        refine hK.out _ _ ?_ (fun hHeld => ?_)
        ·exact S4
        clear hK K1
        try simp only [List.getElem_toArray]
        try simp only [List.getElem_cons_succ]
        try simp only [List.getElem_cons_zero]
        try simp only [Act.put]
        try simp only [List.setIfInBounds_toArray]
        try simp only [List.set_cons_succ]
        try simp only [List.set_cons_zero]
        refine wpAnyH_ready (rs := [8]) (by kernel_rfl) (by simp) ?_
        refine (AllReadyH.cons rfl (fun K1 hK => ?_) AllReadyH.nil)
        go_simp
        refine hK.out _ _ ?_ (fun hHeld => ?_)
        ·exact S5
        clear hK K1
        try simp only [List.getElem_toArray]
        try simp only [List.getElem_cons_succ]
        try simp only [List.getElem_cons_zero]
        try simp only [Act.put]
        try simp only [List.setIfInBounds_toArray]
        try simp only [List.set_cons_succ]
        try simp only [List.set_cons_zero]
        refine wpAnyH_ready (rs := [9]) (by kernel_rfl) (by simp) ?_
        refine (AllReadyH.cons rfl (fun K1 hK => ?_) AllReadyH.nil)
        refine step_append_w rfl _ _ _ rfl 0 85 (.agg #[.slice none 0 0, .slice none 0 0, .slice none 0 0]) 3 72 Tryz.underlying31 infoNodeI rfl (by decide) (by decide) (.slice na nn nc) s.1.length (ncs V) rfl H5.out w2.heap.size [.slice a1 n1 d1, .slice a2 n2 d2, .slice a3 n3 d3] rfl (KN.out.rw (Nat.le_refl _) (by omega) (fun h => by omega) _ trivial) rfl (by intro y hy; simp at hy; rcases hy with rfl | rfl | rfl <;> rfl) HLEN (Nat.zero_le _) r 1 (.slice na nn nc) c5' F5.out HNE.out ?_
        intro a5 n5 c5 w5 hO5 hg5 ha5 hc5 hf5
        have P5 := hid (HPU.out w2 _ _ _ _ w5 a5 n5 c5 HO.out HA.out HBl.out B4.out B5.out hO5 hg5 ha5)
        have S6 := HSX.out _ P5.out.2.2
        have S7 := HSX.out _ P5.out.2.1
        clear hO5 hg5 ha5
        refine hK.out _ _ ?_ (fun hHeld => ?_)
        ·exact S6
        clear hK K1
        try simp only [List.getElem_toArray]
        try simp only [List.getElem_cons_succ]
        try simp only [List.getElem_cons_zero]
        try simp only [Act.put]
        try simp only [List.setIfInBounds_toArray]
        try simp only [List.set_cons_succ]
        try simp only [List.set_cons_zero]
        refine wpAnyH_take (i := 10) (v := (.pointer (some ⟨r, 0, none⟩))) rfl (by kernel_rfl) (by kernel_rfl) (by kernel_rfl) (fun _ _ _ h => h) (Or.inl ⟨by rfl, ?_⟩) (by assumption) ?_
        ·intro w hSw
         (try dsimp only at hSw)
         go_simp
        try simp only [List.getElem_toArray]
        try simp only [List.getElem_cons_succ]
        try simp only [List.getElem_cons_zero]
        try simp only [Act.put]
        try simp only [List.setIfInBounds_toArray]
        try simp only [List.set_cons_succ]
        try simp only [List.set_cons_zero]
        refine wpAnyH_take (i := 11) (v := (.pointer (some ⟨r, 1, none⟩))) rfl (by kernel_rfl) (by kernel_rfl) (by kernel_rfl) (fun _ _ _ h => h) (Or.inl ⟨by rfl, ?_⟩) (by assumption) ?_
        ·intro w hSw
         (try dsimp only at hSw)
         go_simp
        try simp only [List.getElem_toArray]
        try simp only [List.getElem_cons_succ]
        try simp only [List.getElem_cons_zero]
        try simp only [Act.put]
        try simp only [List.setIfInBounds_toArray]
        try simp only [List.set_cons_succ]
        try simp only [List.set_cons_zero]
        refine wpAnyH_take (i := 12) (v := (.pointer (some ⟨r, 1, none⟩))) rfl (by kernel_rfl) (by kernel_rfl) (by kernel_rfl) (fun _ _ _ h => h) (Or.inl ⟨by rfl, ?_⟩) (by assumption) ?_
        ·intro w hSw
         (try dsimp only at hSw)
         go_simp
        try simp only [List.getElem_toArray]
        try simp only [List.getElem_cons_succ]
        try simp only [List.getElem_cons_zero]
        try simp only [Act.put]
        try simp only [List.setIfInBounds_toArray]
        try simp only [List.set_cons_succ]
        try simp only [List.set_cons_zero]
        refine wpAnyH_ready (rs := [13]) (by kernel_rfl) (by simp) ?_
        refine (AllReadyH.cons rfl (fun K1 hK => ?_) AllReadyH.nil)
        go_simp
        refine hK.out _ _ ?_ (fun hHeld => ?_)
        ·exact S7
        clear hK K1
        try simp only [List.getElem_toArray]
        try simp only [List.getElem_cons_succ]
        try simp only [List.getElem_cons_zero]
        try simp only [Act.put]
        try simp only [List.setIfInBounds_toArray]
        try simp only [List.set_cons_succ]
        try simp only [List.set_cons_zero]
        refine wpAnyH_done (by kernel_rfl) ?_ _
        refine NoPanic.normal ?_
        go_wp2_with fail
        go_meet
        exact ⟨a5, n5, c5, _, P5.out.1, P5.out.2.1⟩
       ·go_simp
        refine hK.out _ _ ?_ (fun hHeld => ?_)
        ·exact S5
        clear hK K1
        try simp only [List.getElem_toArray]
        try simp only [List.getElem_cons_succ]
        try simp only [List.getElem_cons_zero]
        try simp only [Act.put]
        try simp only [List.setIfInBounds_toArray]
        try simp only [List.set_cons_succ]
        try simp only [List.set_cons_zero]
        refine wpAnyH_ready (rs := [5]) (by kernel_rfl) (by simp) ?_
        refine (AllReadyH.cons rfl (fun K1 hK => ?_) AllReadyH.nil)
        go_simp
        refine hK.out _ _ ?_ (fun hHeld => ?_)
        ·exact S5
        clear hK K1
        try simp only [List.getElem_toArray]
        try simp only [List.getElem_cons_succ]
        try simp only [List.getElem_cons_zero]
        try simp only [Act.put]
        try simp only [List.setIfInBounds_toArray]
        try simp only [List.set_cons_succ]
        try simp only [List.set_cons_zero]
        refine wpAnyH_ready (rs := [9]) (by kernel_rfl) (by simp) ?_
        refine (AllReadyH.cons rfl (fun K1 hK => ?_) AllReadyH.nil)
        refine step_append_w rfl _ _ _ rfl 0 85 (.agg #[.slice none 0 0, .slice none 0 0, .slice none 0 0]) 3 72 Tryz.underlying31 infoNodeI rfl (by decide) (by decide) (.slice na nn nc) s.1.length (ncs V) rfl H5.out w2.heap.size [.slice a1 n1 d1, .slice a2 n2 d2, .slice a3 n3 d3] rfl (KN.out.rw (Nat.le_refl _) (by omega) (fun h => by omega) _ trivial) rfl (by intro y hy; simp at hy; rcases hy with rfl | rfl | rfl <;> rfl) HLEN (Nat.zero_le _) r 1 (.slice na nn nc) c5' F5.out HNE.out ?_
        intro a5 n5 c5 w5 hO5 hg5 ha5 hc5 hf5
        have P5 := hid (HPU.out w2 _ _ _ _ w5 a5 n5 c5 HO.out HA.out HBl.out B4.out B5.out hO5 hg5 ha5)
        have S6 := HSX.out _ P5.out.2.2
        have S7 := HSX.out _ P5.out.2.1
        clear hO5 hg5 ha5
        refine hK.out _ _ ?_ (fun hHeld => ?_)
        ·exact S6
        clear hK K1
        try simp only [List.getElem_toArray]
        try simp only [List.getElem_cons_succ]
        try simp only [List.getElem_cons_zero]
        try simp only [Act.put]
        try simp only [List.setIfInBounds_toArray]
        try simp only [List.set_cons_succ]
        try simp only [List.set_cons_zero]
        refine wpAnyH_take (i := 10) (v := (.pointer (some ⟨r, 0, none⟩))) rfl (by kernel_rfl) (by kernel_rfl) (by kernel_rfl) (fun _ _ _ h => h) (Or.inl ⟨by rfl, ?_⟩) (by assumption) ?_
        ·intro w hSw
         (try dsimp only at hSw)
         go_simp
        try simp only [List.getElem_toArray]
        try simp only [List.getElem_cons_succ]
        try simp only [List.getElem_cons_zero]
        try simp only [Act.put]
        try simp only [List.setIfInBounds_toArray]
        try simp only [List.set_cons_succ]
        try simp only [List.set_cons_zero]
        refine wpAnyH_take (i := 11) (v := (.pointer (some ⟨r, 1, none⟩))) rfl (by kernel_rfl) (by kernel_rfl) (by kernel_rfl) (fun _ _ _ h => h) (Or.inl ⟨by rfl, ?_⟩) (by assumption) ?_
        ·intro w hSw
         (try dsimp only at hSw)
         go_simp
        try simp only [List.getElem_toArray]
        try simp only [List.getElem_cons_succ]
        try simp only [List.getElem_cons_zero]
        try simp only [Act.put]
        try simp only [List.setIfInBounds_toArray]
        try simp only [List.set_cons_succ]
        try simp only [List.set_cons_zero]
        refine wpAnyH_take (i := 12) (v := (.pointer (some ⟨r, 1, none⟩))) rfl (by kernel_rfl) (by kernel_rfl) (by kernel_rfl) (fun _ _ _ h => h) (Or.inl ⟨by rfl, ?_⟩) (by assumption) ?_
        ·intro w hSw
         (try dsimp only at hSw)
         go_simp
        try simp only [List.getElem_toArray]
        try simp only [List.getElem_cons_succ]
        try simp only [List.getElem_cons_zero]
        try simp only [Act.put]
        try simp only [List.setIfInBounds_toArray]
        try simp only [List.set_cons_succ]
        try simp only [List.set_cons_zero]
        refine wpAnyH_ready (rs := [13]) (by kernel_rfl) (by simp) ?_
        refine (AllReadyH.cons rfl (fun K1 hK => ?_) AllReadyH.nil)
        go_simp
        refine hK.out _ _ ?_ (fun hHeld => ?_)
        ·exact S7
        clear hK K1
        try simp only [List.getElem_toArray]
        try simp only [List.getElem_cons_succ]
        try simp only [List.getElem_cons_zero]
        try simp only [Act.put]
        try simp only [List.setIfInBounds_toArray]
        try simp only [List.set_cons_succ]
        try simp only [List.set_cons_zero]
        refine wpAnyH_done (by kernel_rfl) ?_ _
        refine NoPanic.normal ?_
        go_wp2_with fail
        go_meet
        exact ⟨a5, n5, c5, _, P5.out.1, P5.out.2.1⟩
     case rest =>
      obtain ⟨a5, n5, c5, V5, R5, O5⟩ := hcut
      have HNW : Hid (∀ y, U.heap.size ≤ y → Q y) := by
       intro y hy
       have hiv : ∀ y, (Value.slice ia jn ic).ownBlock = some y → y < U.heap.size := fun y e => (World.ownsRow.lt PO2.out.hi y e).2
       exact (HQQ.out y).2 (.inr ⟨by have := HB2.out.size; omega, fun e => by have := hiv y e; omega, by have := HSZ.out.2.1; omega⟩)
      have HQP : Hid (∀ y, y < w.heap.size → Q y → P y) := fun y hy hq => ((HQQ.out y).1 hq).elim id (fun h => by omega)
      have HSQ : Hid (∀ y, S y → ¬ Q y) := fun y hy hq => (HS.out y hy).2 (HQP.out y (HS.out y hy).1 hq)
      have HGO := hid (ldV_go (f := f') HZ.out HQ.out)
      have HK0 := hid (pgOk_shape HOK.out)
      have HRU := hid (HH.out.to (only_of_below HB2.out Q) HSQ.out)
      have B6 : Hid (Below wc.heap.size wc (wc.alloc (.cells #[.int .i64 (k : Int)] 3))) := below_new (Below.refl _ _)
      have R5b := hid (R5.out.below B6.out)
      have HRI := hid R5b.out.pla
      have KB5 := hid ((KB.out.to O5.out (HNQ.out pb (.inr rfl))).below B6.out)
      have c2 := R5.out.box.cell (j := 2) rfl
      have hkk : s.2.length ≤ 1048576 := by have h1 := HPL.out; have h2 := HL4.out; omega
      have hrp : pb ≠ r := fun e => HNQ.out pb (.inr rfl) (e ▸ R5.out.pr)
      have hpr : r ≠ pb := Ne.symm hrp
      clear HPU HNO HS0 c1 HNE RS2 HSX KB
      go_wp2_with (at_builtin; refine wpList_append_int1 rfl _ _ rfl _ s.2.length _ rfl HRI.out wc.heap.size (k : Int) rfl (Bk.new wc 3 [.int .i64 (k : Int)]) hkk ?_)
      intro a6 n6 c6 w6 hO6 hg6 ha6
      have R6 := hid (R5b.out.pushP (k : Int) (HNW.out _ (by have h1 := B6.out.size; have h2 := O5.out.size; omega)) hO6 hg6 (by simpa using ha6))
      have O6 : Hid (Only Q U (w6.setCell ⟨r, 2, none⟩ (.slice a6 n6 c6))) := ((O5.out.trans (only_of_below B6.out Q)).trans (only_of_grown hg6 (fun y e => (R5b.out.pp y e).1))).trans (only_set (R := Q) R5b.out.pr _)
      have og : Only (fun y => (Value.slice pa pn pc).ownBlock = some y) (wc.alloc (.cells #[.int .i64 (k : Int)] 3)) w6 := only_of_grown hg6 (fun y e => e)
      have K6 := R5b.out.box.to og (fun e => (R5b.out.pp r e).2.1 rfl)
      have z2 := K6.cell (j := 2) rfl
      have zf := K6.free 2
      have z3 := (KB5.out.to og (fun e => HNQ.out pb (.inr rfl) (R5b.out.pp pb e).1)).cell (j := 2) rfl
      clear hO6 hg6 ha6 og K6 HRI R5b B6 KB5
      have hic := (own_at PO2.out.hi).2.1
      have hic' := (own_at PO2.out.hi).2.2.1
      have HJN := hid (own_at PO2.out.hi).1
      go_wp2_with fail
      generalize w6.setCell ⟨r, 2, none⟩ (.slice a6 n6 c6) = W at *
      clear z2 zf z3 c2
      go_loopw [75] (fun i wr => ∃ (m : Nat) (s5 : LS) (a7 : Option Addr) (n7 c7 : Nat) (a8 : Option Addr) (n8 c8 : Nat) (V7 : List V3), m ≤ jn ∧ i = .int .i64 m ∧ Hid (RS wr Q r (.slice (some ⟨sb, so, none⟩) sn sc) a7 n7 c7 a8 n8 c8 V7 s5) ∧ Hid (Only Q U wr) ∧ Hid (s5.2.length = s5.1.length ∧ s.1.length < s5.1.length ∧ s5.1.length ≤ 400 ∧ (nAt s5.1 s.1.length).kids.length ≤ m) ∧ Hid (ldV ss (f' + 1) (k : Int) s = ldK (ldV ss f') s.1.length (p.kids.drop m) s5)) (fun i _ => jn - (intOf i).toNat)
      case atStart =>
       have h1 := HPL.out
       have h2 := HQ.out
       exact ⟨0, _, _, _, _, _, _, _, _, Nat.zero_le _, rfl, R6.out, O6.out, ⟨by simp; omega, by simp, by simp; omega, by rw [nAt_append_at, nodeP_kids]; exact Nat.le_refl _⟩, HGO.out⟩
      case round =>
       clear R6 O6 HGO R5 O5
       obtain ⟨m, s5, a7, n7, c7, a8, n8, c8, V7, hm, rfl, R7, O7, L7, E7⟩ := hrel
       by_cases hlt : m < jn
       ·have hlt' : (m : Int) < (jn : Int) := by omega
        have HKW : Ir wr (fun _ => True) (.slice ia jn ic) p.kids := rw_own (own_kept PO2.out.hi O7.out (fun y e => HNQ.out y (.inl e))) (fun _ _ _ _ => trivial)
        obtain ⟨ib, io, rfl, -, -, hci⟩ := HKW.at (by omega)
        have q0 := hci m hlt
        clear hci HKW
        have HML : Hid (m < p.kids.length) := by rw [← HJN.out]; exact hlt
        have HKA := hid (ldK_at (ldV ss f') s.1.length p.kids HML.out s5)
        have HKQ : Hid (0 ≤ iAt p.kids m) := by
         have e : iAt p.kids m = p.kids[m]'HML.out := by simp [iAt, HML.out]
         have := HK0.out.2.2.2 (iAt p.kids m) (by rw [e]; exact List.getElem_mem _)
         show 0 ≤ _
         omega
        generalize iAt p.kids m = q at *
        have HN7 := own_at R7.out.nod.row
        have HNL := hid HN7.1
        have hn7 := HN7.2.1
        have hn7' := HN7.2.2.1
        have hmn : nn < n7 := by have h1 := HNN.out; have h2 := HNL.out; have h3 := L7.out.2.1; omega
        have hmn' : (nn : Int) < (n7 : Int) := by omega
        obtain ⟨g, rfl, -, -, -, hcg⟩ := HN7.2.2.2 (by omega)
        clear HN7
        have HME : Hid (nn < s5.1.length) := by show _ < _; rw [← HNL.out]; exact hmn
        have HOW := hid (R7.out.nod.own nn HME.out)
        obtain ⟨ax, cx, hx⟩ := own_shape HOW.out.1.2.2
        generalize hnx : (nAt s5.1 nn).kids.length = nx at *
        have HNX := hid hnx
        have HX := hid hx
        have q2 := hcg (nn * 3 + 2) _ (ncs_at V7 nn (by rw [R7.out.nod.len]; exact HME.out)).2.2
        rw [hx] at q2
        clear hcg hnx hx
        have hnx4 : nx ≤ 1048576 := by
         have h1 := HNX.out
         have h2 := L7.out.2.2.2
         rw [← HNN.out] at h2
         have h3 := HK0.out.2.2.1
         have h4 := HML.out
         omega
        have HW2 : Hid (Below wr.heap.size wr ((wr.alloc (.cells #[.int .i64 (n7 : Int)] 3)).drew)) := bt7 (below_new (Below.refl _ _)) (below_drew _)
        have R8 := hid (R7.out.below HW2.out)
        have HSX : Hid (∀ v, Only (fun y => y = g ∨ (Value.slice ax nx cx).ownBlock = some y) wr v → v.cell? ⟨r, 1, none⟩ = some (.slice (some ⟨g, 0, none⟩) n7 c7)) := by
         intro v hv
         refine (R7.out.box.to hv (fun e => ?_)).cell (j := 1) rfl
         rcases e with e | e
         ·exact (R7.out.pn' g rfl).2 e.symm
         ·exact (R7.out.pb nn HME.out r (.inr (.inr (by rw [HX.out]; exact e)))).2 rfl
        have HS0 := hid (HSX.out wr.drew (only_of_below (below_drew _) _))
        have S5 := HSX.out _ (only_of_below HW2.out _)
        have HOW8 := hid (R8.out.nod.own nn HME.out)
        have H8 : Hid (World.ownsRow ((wr.alloc (.cells #[.int .i64 (n7 : Int)] 3)).drew) 0 3 1 (.slice ax nx cx) nx ((nAt s5.1 nn).kids.map (Value.int .i64))) := by
         have h1 := HOW8.out.1.2.2
         rw [HX.out, HNX.out] at h1
         exact h1
        have KN : Hid (Bk ((wr.alloc (.cells #[.int .i64 (n7 : Int)] 3)).drew) wr.heap.size 3 [.int .i64 (n7 : Int)]) := (Bk.new wr 3 [.int .i64 (n7 : Int)]).below (below_drew _)
        have HCX : Hid (((wr.alloc (.cells #[.int .i64 (n7 : Int)] 3)).drew).cell? ⟨g, nn * 3 + 2, none⟩ = some (.slice ax nx cx) ∧ ((wr.alloc (.cells #[.int .i64 (n7 : Int)] 3)).drew).frozen? ⟨g, nn * 3 + 2, none⟩ = false) := by
         obtain ⟨g', e, -, -, hfz, hcg⟩ := (own_at R8.out.nod.row).2.2.2 (by omega)
         cases e
         have h1 := hcg (nn * 3 + 2) _ (ncs_at V7 nn (by rw [R7.out.nod.len]; exact HME.out)).2.2
         rw [HX.out] at h1
         exact ⟨h1, hfz _⟩
        have q3 := HCX.out.1
        have HNE : Hid ((Value.slice ax nx cx).ownBlock ≠ some g) := fun e => R7.out.nod.off nn HME.out g (.inr (.inr (by rw [HX.out]; exact e))) rfl
        have HPU : Hid (∀ (a9 : Option Addr) (n9 c9 : Nat) (w9 : World), w9.ownsRow 0 3 1 (.slice a9 n9 c9) (nx + 1) ((nAt s5.1 nn).kids.map (Value.int .i64) ++ [.int .i64 (n7 : Int)]) → World.grownBy ((wr.alloc (.cells #[.int .i64 (n7 : Int)] 3)).drew) w9 (Value.slice ax nx cx).ownBlock → ((Value.slice a9 n9 c9).ownBlock = (Value.slice ax nx cx).ownBlock ∨ (Value.slice a9 n9 c9).ownBlock = some ((wr.alloc (.cells #[.int .i64 (n7 : Int)] 3)).drew).heap.size) →
          (∃ V9, RS (w9.setCell ⟨g, nn * 3 + 2, none⟩ (.slice a9 n9 c9)) Q r (.slice (some ⟨sb, so, none⟩) sn sc) (some ⟨g, 0, none⟩) n7 c7 a8 n8 c8 V9 (addK s5.1 nn (n7 : Int), s5.2)) ∧ Only (fun y => y = g ∨ (Value.slice ax nx cx).ownBlock = some y) wr w9 ∧ Only (fun y => y = g ∨ (Value.slice ax nx cx).ownBlock = some y) wr (w9.setCell ⟨g, nn * 3 + 2, none⟩ (.slice a9 n9 c9)) ∧ Only Q U (w9.setCell ⟨g, nn * 3 + 2, none⟩ (.slice a9 n9 c9))) := by
         intro a9 n9 c9 w9 hO9 hg9 ha9
         have hz1 := HX.out
         have o1 : Only (fun y => y = g ∨ (Value.slice ax nx cx).ownBlock = some y) wr w9 := (only_of_below HW2.out _).trans (only_of_grown hg9 (fun y e => .inr e))
         have o2 := o1.trans (only_set (R := fun y => y = g ∨ (Value.slice ax nx cx).ownBlock = some y) (p := ⟨g, nn * 3 + 2, none⟩) (.inl rfl) (.slice a9 n9 c9))
         refine ⟨⟨_, R8.out.kid HME.out (n7 : Int) (HNW.out _ (by have h1 := HW2.out.size; have h2 := O7.out.size; omega)) (by rw [HNX.out]; exact hO9) (by rw [hz1]; exact hg9) (by rw [hz1]; exact ha9)⟩, o1, o2, O7.out.trans (o2.mono (fun y _ e => ?_))⟩
         rcases e with e | e
         ·rw [e]; exact (R7.out.pn' g rfl).1
         ·exact (R7.out.pb nn HME.out y (.inr (.inr (by rw [hz1]; exact e)))).1
        clear HOW8
        go_wp2_with fail
        refine wp_region_noPanic ?_
        refine wp_region_held_drew (S := (fun v => v.cell? ⟨r, 1, none⟩ = some (.slice (some ⟨g, 0, none⟩) n7 c7))) (by kernel_rfl) HS0.out (fun hHeld => ?_)
        simp only [List.size_toArray, List.length_cons, List.length_nil, Array.replicate_succ, Array.replicate_zero, Nat.reduceAdd, List.push_toArray, List.nil_append, List.cons_append]
        refine wpAnyH_take (i := 0) (v := (.pointer (some ⟨r, 0, none⟩))) rfl (by kernel_rfl) (by kernel_rfl) (by kernel_rfl) (fun _ _ _ h => h) (Or.inl ⟨by rfl, ?_⟩) (by assumption) ?_
        ·intro w hSw
         (try dsimp only at hSw)
         go_simp
        try simp only [List.getElem_toArray]
        try simp only [List.getElem_cons_succ]
        try simp only [List.getElem_cons_zero]
        try simp only [Act.put]
        try simp only [List.setIfInBounds_toArray]
        try simp only [List.set_cons_succ]
        try simp only [List.set_cons_zero]
        refine wpAnyH_take (i := 1) (v := (.pointer (some ⟨r, 0, none⟩))) rfl (by kernel_rfl) (by kernel_rfl) (by kernel_rfl) (fun _ _ _ h => h) (Or.inl ⟨by rfl, ?_⟩) (by assumption) ?_
        ·intro w hSw
         (try dsimp only at hSw)
         go_simp
        try simp only [List.getElem_toArray]
        try simp only [List.getElem_cons_succ]
        try simp only [List.getElem_cons_zero]
        try simp only [Act.put]
        try simp only [List.setIfInBounds_toArray]
        try simp only [List.set_cons_succ]
        try simp only [List.set_cons_zero]
        refine wpAnyH_take (i := 2) (v := (.pointer (some ⟨r, 1, none⟩))) rfl (by kernel_rfl) (by kernel_rfl) (by kernel_rfl) (fun _ _ _ h => h) (Or.inl ⟨by rfl, ?_⟩) (by assumption) ?_
        ·intro w hSw
         (try dsimp only at hSw)
         go_simp
        try simp only [List.getElem_toArray]
        try simp only [List.getElem_cons_succ]
        try simp only [List.getElem_cons_zero]
        try simp only [Act.put]
        try simp only [List.setIfInBounds_toArray]
        try simp only [List.set_cons_succ]
        try simp only [List.set_cons_zero]
        refine wpAnyH_take (i := 3) (v := (.pointer (some ⟨r, 1, none⟩))) rfl (by kernel_rfl) (by kernel_rfl) (by kernel_rfl) (fun _ _ _ h => h) (Or.inl ⟨by rfl, ?_⟩) (by assumption) ?_
        ·intro w hSw
         (try dsimp only at hSw)
         go_simp
        try simp only [List.getElem_toArray]
        try simp only [List.getElem_cons_succ]
        try simp only [List.getElem_cons_zero]
        try simp only [Act.put]
        try simp only [List.setIfInBounds_toArray]
        try simp only [List.set_cons_succ]
        try simp only [List.set_cons_zero]
        refine wpAnyH_take (i := 4) (v := (.slice (some ⟨g, 0, none⟩) n7 c7)) rfl (by kernel_rfl) (by kernel_rfl) (by kernel_rfl) (fun _ _ _ h => h) (Or.inl ⟨by rfl, ?_⟩) (by assumption) ?_
        ·intro w hSw
         (try dsimp only at hSw)
         go_simp
        try simp only [List.getElem_toArray]
        try simp only [List.getElem_cons_succ]
        try simp only [List.getElem_cons_zero]
        try simp only [Act.put]
        try simp only [List.setIfInBounds_toArray]
        try simp only [List.set_cons_succ]
        try simp only [List.set_cons_zero]
        refine wpAnyH_take (i := 5) (v := (.int .i64 (nn : Int))) rfl (by kernel_rfl) (by kernel_rfl) (by kernel_rfl) (fun _ _ _ h => h) (Or.inl ⟨by rfl, ?_⟩) (by assumption) ?_
        ·intro w hSw
         (try dsimp only at hSw)
         go_simp
        try simp only [List.getElem_toArray]
        try simp only [List.getElem_cons_succ]
        try simp only [List.getElem_cons_zero]
        try simp only [Act.put]
        try simp only [List.setIfInBounds_toArray]
        try simp only [List.set_cons_succ]
        try simp only [List.set_cons_zero]
        refine wpAnyH_take (i := 6) (v := (.pointer (some ⟨r, 0, none⟩))) rfl (by kernel_rfl) (by kernel_rfl) (by kernel_rfl) (fun _ _ _ h => h) (Or.inl ⟨by rfl, ?_⟩) (by assumption) ?_
        ·intro w hSw
         (try dsimp only at hSw)
         go_simp
        try simp only [List.getElem_toArray]
        try simp only [List.getElem_cons_succ]
        try simp only [List.getElem_cons_zero]
        try simp only [Act.put]
        try simp only [List.setIfInBounds_toArray]
        try simp only [List.set_cons_succ]
        try simp only [List.set_cons_zero]
        refine wpAnyH_take (i := 7) (v := (.pointer (some ⟨r, 0, none⟩))) rfl (by kernel_rfl) (by kernel_rfl) (by kernel_rfl) (fun _ _ _ h => h) (Or.inl ⟨by rfl, ?_⟩) (by assumption) ?_
        ·intro w hSw
         (try dsimp only at hSw)
         go_simp
        try simp only [List.getElem_toArray]
        try simp only [List.getElem_cons_succ]
        try simp only [List.getElem_cons_zero]
        try simp only [Act.put]
        try simp only [List.setIfInBounds_toArray]
        try simp only [List.set_cons_succ]
        try simp only [List.set_cons_zero]
        refine wpAnyH_take (i := 8) (v := (.pointer (some ⟨r, 1, none⟩))) rfl (by kernel_rfl) (by kernel_rfl) (by kernel_rfl) (fun _ _ _ h => h) (Or.inl ⟨by rfl, ?_⟩) (by assumption) ?_
        ·intro w hSw
         (try dsimp only at hSw)
         go_simp
        try simp only [List.getElem_toArray]
        try simp only [List.getElem_cons_succ]
        try simp only [List.getElem_cons_zero]
        try simp only [Act.put]
        try simp only [List.setIfInBounds_toArray]
        try simp only [List.set_cons_succ]
        try simp only [List.set_cons_zero]
        refine wpAnyH_take (i := 9) (v := (.pointer (some ⟨r, 1, none⟩))) rfl (by kernel_rfl) (by kernel_rfl) (by kernel_rfl) (fun _ _ _ h => h) (Or.inl ⟨by rfl, ?_⟩) (by assumption) ?_
        ·intro w hSw
         (try dsimp only at hSw)
         go_simp
        try simp only [List.getElem_toArray]
        try simp only [List.getElem_cons_succ]
        try simp only [List.getElem_cons_zero]
        try simp only [Act.put]
        try simp only [List.setIfInBounds_toArray]
        try simp only [List.set_cons_succ]
        try simp only [List.set_cons_zero]
        refine wpAnyH_take (i := 10) (v := (.slice (some ⟨g, 0, none⟩) n7 c7)) rfl (by kernel_rfl) (by kernel_rfl) (by kernel_rfl) (fun _ _ _ h => h) (Or.inl ⟨by rfl, ?_⟩) (by assumption) ?_
        ·intro w hSw
         (try dsimp only at hSw)
         go_simp
        try simp only [List.getElem_toArray]
        try simp only [List.getElem_cons_succ]
        try simp only [List.getElem_cons_zero]
        try simp only [Act.put]
        try simp only [List.setIfInBounds_toArray]
        try simp only [List.set_cons_succ]
        try simp only [List.set_cons_zero]
        refine wpAnyH_take (i := 11) (v := (.int .i64 (nn : Int))) rfl (by kernel_rfl) (by kernel_rfl) (by kernel_rfl) (fun _ _ _ h => h) (Or.inl ⟨by rfl, ?_⟩) (by assumption) ?_
        ·intro w hSw
         (try dsimp only at hSw)
         go_simp
        try simp only [List.getElem_toArray]
        try simp only [List.getElem_cons_succ]
        try simp only [List.getElem_cons_zero]
        try simp only [Act.put]
        try simp only [List.setIfInBounds_toArray]
        try simp only [List.set_cons_succ]
        try simp only [List.set_cons_zero]
        refine wpAnyH_take (i := 12) (v := (.pointer (some ⟨g, nn * 3, none⟩))) rfl (by kernel_rfl) (by kernel_rfl) (by kernel_rfl) (fun _ _ _ h => h) (Or.inl ⟨by rfl, ?_⟩) (by assumption) ?_
        ·intro w hSw
         (try dsimp only at hSw)
         go_simp
        try simp only [List.getElem_toArray]
        try simp only [List.getElem_cons_succ]
        try simp only [List.getElem_cons_zero]
        try simp only [Act.put]
        try simp only [List.setIfInBounds_toArray]
        try simp only [List.set_cons_succ]
        try simp only [List.set_cons_zero]
        refine wpAnyH_take (i := 13) (v := (.pointer (some ⟨g, nn * 3 + 2, none⟩))) rfl (by kernel_rfl) (by kernel_rfl) (by kernel_rfl) (fun _ _ _ h => h) (Or.inl ⟨by rfl, ?_⟩) (by assumption) ?_
        ·intro w hSw
         (try dsimp only at hSw)
         go_simp
        try simp only [List.getElem_toArray]
        try simp only [List.getElem_cons_succ]
        try simp only [List.getElem_cons_zero]
        try simp only [Act.put]
        try simp only [List.setIfInBounds_toArray]
        try simp only [List.set_cons_succ]
        try simp only [List.set_cons_zero]
        refine wpAnyH_take (i := 15) (v := (.pointer (some ⟨r, 0, none⟩))) rfl (by kernel_rfl) (by kernel_rfl) (by kernel_rfl) (fun _ _ _ h => h) (Or.inl ⟨by rfl, ?_⟩) (by assumption) ?_
        ·intro w hSw
         (try dsimp only at hSw)
         go_simp
        try simp only [List.getElem_toArray]
        try simp only [List.getElem_cons_succ]
        try simp only [List.getElem_cons_zero]
        try simp only [Act.put]
        try simp only [List.setIfInBounds_toArray]
        try simp only [List.set_cons_succ]
        try simp only [List.set_cons_zero]
        refine wpAnyH_take (i := 16) (v := (.pointer (some ⟨r, 0, none⟩))) rfl (by kernel_rfl) (by kernel_rfl) (by kernel_rfl) (fun _ _ _ h => h) (Or.inl ⟨by rfl, ?_⟩) (by assumption) ?_
        ·intro w hSw
         (try dsimp only at hSw)
         go_simp
        try simp only [List.getElem_toArray]
        try simp only [List.getElem_cons_succ]
        try simp only [List.getElem_cons_zero]
        try simp only [Act.put]
        try simp only [List.setIfInBounds_toArray]
        try simp only [List.set_cons_succ]
        try simp only [List.set_cons_zero]
        refine wpAnyH_take (i := 17) (v := (.pointer (some ⟨r, 1, none⟩))) rfl (by kernel_rfl) (by kernel_rfl) (by kernel_rfl) (fun _ _ _ h => h) (Or.inl ⟨by rfl, ?_⟩) (by assumption) ?_
        ·intro w hSw
         (try dsimp only at hSw)
         go_simp
        try simp only [List.getElem_toArray]
        try simp only [List.getElem_cons_succ]
        try simp only [List.getElem_cons_zero]
        try simp only [Act.put]
        try simp only [List.setIfInBounds_toArray]
        try simp only [List.set_cons_succ]
        try simp only [List.set_cons_zero]
        refine wpAnyH_take (i := 18) (v := (.pointer (some ⟨r, 1, none⟩))) rfl (by kernel_rfl) (by kernel_rfl) (by kernel_rfl) (fun _ _ _ h => h) (Or.inl ⟨by rfl, ?_⟩) (by assumption) ?_
        ·intro w hSw
         (try dsimp only at hSw)
         go_simp
        try simp only [List.getElem_toArray]
        try simp only [List.getElem_cons_succ]
        try simp only [List.getElem_cons_zero]
        try simp only [Act.put]
        try simp only [List.setIfInBounds_toArray]
        try simp only [List.set_cons_succ]
        try simp only [List.set_cons_zero]
        refine wpAnyH_take (i := 19) (v := (.slice (some ⟨g, 0, none⟩) n7 c7)) rfl (by kernel_rfl) (by kernel_rfl) (by kernel_rfl) (fun _ _ _ h => h) (Or.inl ⟨by rfl, ?_⟩) (by assumption) ?_
        ·intro w hSw
         (try dsimp only at hSw)
         go_simp
        try simp only [List.getElem_toArray]
        try simp only [List.getElem_cons_succ]
        try simp only [List.getElem_cons_zero]
        try simp only [Act.put]
        try simp only [List.setIfInBounds_toArray]
        try simp only [List.set_cons_succ]
        try simp only [List.set_cons_zero]
        refine wpAnyH_take (i := 20) (v := (.int .i64 (n7 : Int))) rfl (by kernel_rfl) (by kernel_rfl) (by kernel_rfl) (fun _ _ _ h => h) (Or.inl ⟨by rfl, ?_⟩) (by assumption) ?_
        ·intro w hSw
         (try dsimp only at hSw)
         go_simp
        try simp only [List.getElem_toArray]
        try simp only [List.getElem_cons_succ]
        try simp only [List.getElem_cons_zero]
        try simp only [Act.put]
        try simp only [List.setIfInBounds_toArray]
        try simp only [List.set_cons_succ]
        try simp only [List.set_cons_zero]
        refine wpAnyH_ready (rs := [14, 21]) (by kernel_rfl) (by simp) ?_
        refine (AllReadyH.cons rfl (fun K1 hK => ?_) (AllReadyH.cons rfl (fun K1 hK => ?_) AllReadyH.nil))
        ·go_simp
         refine hK.out _ _ ?_ (fun hHeld => ?_)
         ·assumption
         clear hK K1
         try simp only [List.getElem_toArray]
         try simp only [List.getElem_cons_succ]
         try simp only [List.getElem_cons_zero]
         try simp only [Act.put]
         try simp only [List.setIfInBounds_toArray]
         try simp only [List.set_cons_succ]
         try simp only [List.set_cons_zero]
         refine wpAnyH_ready (rs := [21]) (by kernel_rfl) (by simp) ?_
         refine (AllReadyH.cons rfl (fun K1 hK => ?_) AllReadyH.nil)
         go_simp
         refine hK.out _ _ ?_ (fun hHeld => ?_)
         ·exact S5
         clear hK K1
         try simp only [List.getElem_toArray]
         try simp only [List.getElem_cons_succ]
         try simp only [List.getElem_cons_zero]
         try simp only [Act.put]
         try simp only [List.setIfInBounds_toArray]
         try simp only [List.set_cons_succ]
         try simp only [List.set_cons_zero]
         refine wpAnyH_ready (rs := [22]) (by kernel_rfl) (by simp) ?_
         refine (AllReadyH.cons rfl (fun K1 hK => ?_) AllReadyH.nil)
         refine step_append_g rfl _ _ _ rfl 0 3 (.int .i64 0) 1 8 Tryz.underlying34 infoInt' rfl (by decide) (by decide) (.slice ax nx cx) nx ((nAt s5.1 nn).kids.map (Value.int .i64)) rfl H8.out wr.heap.size [.int .i64 (n7 : Int)] rfl (KN.out.rw (Nat.le_refl _) (by omega) (fun h => by omega) _ trivial) rfl (by intro y hy; simp at hy; subst hy; rfl) hnx4 (Nat.zero_le _) g (nn * 3 + 2) (.slice ax nx cx) HCX.out.1 HCX.out.2 HNE.out ?_
         intro a9 n9 c9 w9 hO9 hg9 ha9 hc9 hf9
         have P9 := hid (HPU.out a9 n9 c9 w9 hO9 hg9 ha9)
         have S6 := HSX.out _ P9.out.2.1
         have S7 := HSX.out _ P9.out.2.2.1
         clear hO9 hg9 ha9
         refine hK.out _ _ ?_ (fun hHeld => ?_)
         ·exact S6
         clear hK K1
         try simp only [List.getElem_toArray]
         try simp only [List.getElem_cons_succ]
         try simp only [List.getElem_cons_zero]
         try simp only [Act.put]
         try simp only [List.setIfInBounds_toArray]
         try simp only [List.set_cons_succ]
         try simp only [List.set_cons_zero]
         refine wpAnyH_take (i := 23) (v := (.pointer (some ⟨g, nn * 3, none⟩))) rfl (by kernel_rfl) (by kernel_rfl) (by kernel_rfl) (fun _ _ _ h => h) (Or.inl ⟨by rfl, ?_⟩) (by assumption) ?_
         ·intro w hSw
          (try dsimp only at hSw)
          go_simp
         try simp only [List.getElem_toArray]
         try simp only [List.getElem_cons_succ]
         try simp only [List.getElem_cons_zero]
         try simp only [Act.put]
         try simp only [List.setIfInBounds_toArray]
         try simp only [List.set_cons_succ]
         try simp only [List.set_cons_zero]
         refine wpAnyH_take (i := 24) (v := (.pointer (some ⟨g, nn * 3 + 2, none⟩))) rfl (by kernel_rfl) (by kernel_rfl) (by kernel_rfl) (fun _ _ _ h => h) (Or.inl ⟨by rfl, ?_⟩) (by assumption) ?_
         ·intro w hSw
          (try dsimp only at hSw)
          go_simp
         try simp only [List.getElem_toArray]
         try simp only [List.getElem_cons_succ]
         try simp only [List.getElem_cons_zero]
         try simp only [Act.put]
         try simp only [List.setIfInBounds_toArray]
         try simp only [List.set_cons_succ]
         try simp only [List.set_cons_zero]
         refine wpAnyH_ready (rs := [25]) (by kernel_rfl) (by simp) ?_
         refine (AllReadyH.cons rfl (fun K1 hK => ?_) AllReadyH.nil)
         go_simp
         refine hK.out _ _ ?_ (fun hHeld => ?_)
         ·exact S7
         clear hK K1
         try simp only [List.getElem_toArray]
         try simp only [List.getElem_cons_succ]
         try simp only [List.getElem_cons_zero]
         try simp only [Act.put]
         try simp only [List.setIfInBounds_toArray]
         try simp only [List.set_cons_succ]
         try simp only [List.set_cons_zero]
         refine wpAnyH_done (by kernel_rfl) ?_ _
         refine NoPanic.normal ?_
         have R9 := hid P9.out.1
         have O9 := hid P9.out.2.2.2
         clear hc9 hf9 S6 S7 P9 HPU HCX q3 S5 HS0 HSX H8 KN HNE HW2 R8 q2
         go_wp2_with fail
         generalize w9.setCell ⟨g, nn * 3 + 2, none⟩ (.slice a9 n9 c9) = W9 at *
         obtain ⟨V9, R9⟩ := R9.out
         have HC9 := hid (HI.out S (fun y => Q y ∧ y < W9.heap.size) _ _ _ _ _ _ _ _ q W9 (HRU.out.to O9.out HSQ.out) (fun y hy => ⟨Nat.lt_of_lt_of_le (HS.out y hy).1 (Nat.le_trans HB2.out.size O9.out.size), fun h => HSQ.out y hy h.1⟩) (fun y hy => hy.2) (R9.mono (fun y h1 h2 => ⟨h2, h1⟩)) (by simp only [addK_len]; exact L7.out.1) (by simp only [addK_len]; exact L7.out.2.2.1) (by simp only [addK_len]; have h1 := HF.out; have h2 := L7.out.2.1; omega) HKQ.out)
         refine HC9.out.mono ?_
         rintro e w' ⟨ho, ⟨hn, rfl⟩ | ⟨s', b1, b2, b3, b4, b5, b6, V6, hs', hl', rfl, hR'⟩⟩
         ·have HE : Hid (ldV ss (f' + 1) (k : Int) s = none) := by
           show _ = _
           have h1 := HKA.out
           have h2 := HNL.out
           rw [← HNN.out, ← h2, hn] at h1
           rw [E7.out, ← HNN.out, h1]
          have HO : Hid (Only P w w') := (only_of_below HB2.out P).then (O9.out.trans (ho.mono (fun y _ h => h.1))) (fun y hy hq => HQP.out y hy hq)
          clear hn ho
          go_wp2
          go_ret
          exact ⟨HO.out, .inl ⟨HE.out, rfl⟩⟩
         ·have HE : Hid (ldV ss (f' + 1) (k : Int) s = ldK (ldV ss f') s.1.length (p.kids.drop (m + 1)) s') := by
           show _ = _
           have h1 := HKA.out
           have h2 := HNL.out
           rw [← HNN.out, ← h2, hs'] at h1
           rw [E7.out, ← HNN.out, h1]
          have HO : Hid (Only Q U w') := O9.out.trans (ho.mono (fun y _ h => h.1))
          have HR' : Hid (RS w' Q r (.slice (some ⟨sb, so, none⟩) sn sc) b1 b2 b3 b4 b5 b6 V6 s') := hR'.mono (fun y _ h => h.elim (fun h => h.1) (fun h => HNW.out y (Nat.le_trans O9.out.size h)))
          have HL' : Hid (s'.2.length = s'.1.length ∧ s.1.length < s'.1.length ∧ s'.1.length ≤ 400 ∧ (nAt s'.1 s.1.length).kids.length ≤ m + 1) := by
           have h1 := ldV_len ss f' _ _ _ hs'
           have h3 := ldV_old ss f' _ _ _ hs' nn (by simp only [addK_len]; exact HME.out)
           simp only [addK_len] at h1
           have h2 := L7.out
           refine ⟨hl', by omega, h1.2, ?_⟩
           rw [← HNN.out] at h2 ⊢
           rw [h3, nAt_addK_me _ HME.out]
           simp only [List.length_append, List.length_cons, List.length_nil]
           omega
          clear hs' hl' ho hR'
          go_wp2
          go_roundw
          case rel => exact ⟨m + 1, s', b1, b2, b3, b4, b5, b6, V6, by omega, by go_num, HR'.out, HO.out, HL'.out, HE.out⟩
          case measure => simp [intOf]; omega
        ·go_simp
         refine hK.out _ _ ?_ (fun hHeld => ?_)
         ·exact S5
         clear hK K1
         try simp only [List.getElem_toArray]
         try simp only [List.getElem_cons_succ]
         try simp only [List.getElem_cons_zero]
         try simp only [Act.put]
         try simp only [List.setIfInBounds_toArray]
         try simp only [List.set_cons_succ]
         try simp only [List.set_cons_zero]
         refine wpAnyH_ready (rs := [14]) (by kernel_rfl) (by simp) ?_
         refine (AllReadyH.cons rfl (fun K1 hK => ?_) AllReadyH.nil)
         go_simp
         refine hK.out _ _ ?_ (fun hHeld => ?_)
         ·exact S5
         clear hK K1
         try simp only [List.getElem_toArray]
         try simp only [List.getElem_cons_succ]
         try simp only [List.getElem_cons_zero]
         try simp only [Act.put]
         try simp only [List.setIfInBounds_toArray]
         try simp only [List.set_cons_succ]
         try simp only [List.set_cons_zero]
         refine wpAnyH_ready (rs := [22]) (by kernel_rfl) (by simp) ?_
         refine (AllReadyH.cons rfl (fun K1 hK => ?_) AllReadyH.nil)
         refine step_append_g rfl _ _ _ rfl 0 3 (.int .i64 0) 1 8 Tryz.underlying34 infoInt' rfl (by decide) (by decide) (.slice ax nx cx) nx ((nAt s5.1 nn).kids.map (Value.int .i64)) rfl H8.out wr.heap.size [.int .i64 (n7 : Int)] rfl (KN.out.rw (Nat.le_refl _) (by omega) (fun h => by omega) _ trivial) rfl (by intro y hy; simp at hy; subst hy; rfl) hnx4 (Nat.zero_le _) g (nn * 3 + 2) (.slice ax nx cx) HCX.out.1 HCX.out.2 HNE.out ?_
         intro a9 n9 c9 w9 hO9 hg9 ha9 hc9 hf9
         have P9 := hid (HPU.out a9 n9 c9 w9 hO9 hg9 ha9)
         have S6 := HSX.out _ P9.out.2.1
         have S7 := HSX.out _ P9.out.2.2.1
         clear hO9 hg9 ha9
         refine hK.out _ _ ?_ (fun hHeld => ?_)
         ·exact S6
         clear hK K1
         try simp only [List.getElem_toArray]
         try simp only [List.getElem_cons_succ]
         try simp only [List.getElem_cons_zero]
         try simp only [Act.put]
         try simp only [List.setIfInBounds_toArray]
         try simp only [List.set_cons_succ]
         try simp only [List.set_cons_zero]
         refine wpAnyH_take (i := 23) (v := (.pointer (some ⟨g, nn * 3, none⟩))) rfl (by kernel_rfl) (by kernel_rfl) (by kernel_rfl) (fun _ _ _ h => h) (Or.inl ⟨by rfl, ?_⟩) (by assumption) ?_
         ·intro w hSw
          (try dsimp only at hSw)
          go_simp
         try simp only [List.getElem_toArray]
         try simp only [List.getElem_cons_succ]
         try simp only [List.getElem_cons_zero]
         try simp only [Act.put]
         try simp only [List.setIfInBounds_toArray]
         try simp only [List.set_cons_succ]
         try simp only [List.set_cons_zero]
         refine wpAnyH_take (i := 24) (v := (.pointer (some ⟨g, nn * 3 + 2, none⟩))) rfl (by kernel_rfl) (by kernel_rfl) (by kernel_rfl) (fun _ _ _ h => h) (Or.inl ⟨by rfl, ?_⟩) (by assumption) ?_
         ·intro w hSw
          (try dsimp only at hSw)
          go_simp
         try simp only [List.getElem_toArray]
         try simp only [List.getElem_cons_succ]
         try simp only [List.getElem_cons_zero]
         try simp only [Act.put]
         try simp only [List.setIfInBounds_toArray]
         try simp only [List.set_cons_succ]
         try simp only [List.set_cons_zero]
         refine wpAnyH_ready (rs := [25]) (by kernel_rfl) (by simp) ?_
         refine (AllReadyH.cons rfl (fun K1 hK => ?_) AllReadyH.nil)
         go_simp
         refine hK.out _ _ ?_ (fun hHeld => ?_)
         ·exact S7
         clear hK K1
         try simp only [List.getElem_toArray]
         try simp only [List.getElem_cons_succ]
         try simp only [List.getElem_cons_zero]
         try simp only [Act.put]
         try simp only [List.setIfInBounds_toArray]
         try simp only [List.set_cons_succ]
         try simp only [List.set_cons_zero]
         refine wpAnyH_done (by kernel_rfl) ?_ _
         refine NoPanic.normal ?_
         have R9 := hid P9.out.1
         have O9 := hid P9.out.2.2.2
         clear hc9 hf9 S6 S7 P9 HPU HCX q3 S5 HS0 HSX H8 KN HNE HW2 R8 q2
         go_wp2_with fail
         generalize w9.setCell ⟨g, nn * 3 + 2, none⟩ (.slice a9 n9 c9) = W9 at *
         obtain ⟨V9, R9⟩ := R9.out
         have HC9 := hid (HI.out S (fun y => Q y ∧ y < W9.heap.size) _ _ _ _ _ _ _ _ q W9 (HRU.out.to O9.out HSQ.out) (fun y hy => ⟨Nat.lt_of_lt_of_le (HS.out y hy).1 (Nat.le_trans HB2.out.size O9.out.size), fun h => HSQ.out y hy h.1⟩) (fun y hy => hy.2) (R9.mono (fun y h1 h2 => ⟨h2, h1⟩)) (by simp only [addK_len]; exact L7.out.1) (by simp only [addK_len]; exact L7.out.2.2.1) (by simp only [addK_len]; have h1 := HF.out; have h2 := L7.out.2.1; omega) HKQ.out)
         refine HC9.out.mono ?_
         rintro e w' ⟨ho, ⟨hn, rfl⟩ | ⟨s', b1, b2, b3, b4, b5, b6, V6, hs', hl', rfl, hR'⟩⟩
         ·have HE : Hid (ldV ss (f' + 1) (k : Int) s = none) := by
           show _ = _
           have h1 := HKA.out
           have h2 := HNL.out
           rw [← HNN.out, ← h2, hn] at h1
           rw [E7.out, ← HNN.out, h1]
          have HO : Hid (Only P w w') := (only_of_below HB2.out P).then (O9.out.trans (ho.mono (fun y _ h => h.1))) (fun y hy hq => HQP.out y hy hq)
          clear hn ho
          go_wp2
          go_ret
          exact ⟨HO.out, .inl ⟨HE.out, rfl⟩⟩
         ·have HE : Hid (ldV ss (f' + 1) (k : Int) s = ldK (ldV ss f') s.1.length (p.kids.drop (m + 1)) s') := by
           show _ = _
           have h1 := HKA.out
           have h2 := HNL.out
           rw [← HNN.out, ← h2, hs'] at h1
           rw [E7.out, ← HNN.out, h1]
          have HO : Hid (Only Q U w') := O9.out.trans (ho.mono (fun y _ h => h.1))
          have HR' : Hid (RS w' Q r (.slice (some ⟨sb, so, none⟩) sn sc) b1 b2 b3 b4 b5 b6 V6 s') := hR'.mono (fun y _ h => h.elim (fun h => h.1) (fun h => HNW.out y (Nat.le_trans O9.out.size h)))
          have HL' : Hid (s'.2.length = s'.1.length ∧ s.1.length < s'.1.length ∧ s'.1.length ≤ 400 ∧ (nAt s'.1 s.1.length).kids.length ≤ m + 1) := by
           have h1 := ldV_len ss f' _ _ _ hs'
           have h3 := ldV_old ss f' _ _ _ hs' nn (by simp only [addK_len]; exact HME.out)
           simp only [addK_len] at h1
           have h2 := L7.out
           refine ⟨hl', by omega, h1.2, ?_⟩
           rw [← HNN.out] at h2 ⊢
           rw [h3, nAt_addK_me _ HME.out]
           simp only [List.length_append, List.length_cons, List.length_nil]
           omega
          clear hs' hl' ho hR'
          go_wp2
          go_roundw
          case rel => exact ⟨m + 1, s', b1, b2, b3, b4, b5, b6, V6, by omega, by go_num, HR'.out, HO.out, HL'.out, HE.out⟩
          case measure => simp [intOf]; omega
       ·have HE : Hid (ldV ss (f' + 1) (k : Int) s = some s5) := by
         show _ = _
         rw [E7.out, List.drop_of_length_le (by rw [← HJN.out]; omega)]
         rfl
        have HO : Hid (Only P w wr) := (only_of_below HB2.out P).then O7.out (fun y hy hq => HQP.out y hy hq)
        have HR' : Hid (RS wr (fun y => P y ∨ w.heap.size ≤ y) r (.slice (some ⟨sb, so, none⟩) sn sc) a7 n7 c7 a8 n8 c8 V7 s5) := R7.out.mono (fun y _ h => ((HQQ.out y).1 h).imp id (fun h => h.1))
        go_wp2
        go_ret
        exact ⟨HO.out, .inr ⟨s5, a7, n7, c7, a8, n8, c8, V7, HE.out, L7.out.1, rfl, HR'.out⟩⟩
theorem treeRead_any (ss : List (List Int)) (sa : Option Addr) (sn sc r : Nat) : ∀ f, RdAll ss f sa sn sc r
 | 0 => treeRead_step ss 0 sa sn sc r (fun f' e => by omega)
 | f + 1 => treeRead_step ss (f + 1) sa sn sc r (fun f' e => by cases e; exact treeRead_any ss sa sn sc r f)
open Go.RowKit
def trB (old new : List Int) (n : Int) : List Int := new.take n.toNat ++ old.drop n.toNat
def sheet (zs : List Int) : List Int := if zs.length = 0 then List.replicate 512 0 else zs
def shOk (zs : List Int) : Bool := decide (zs.length = 0) || decide (zs.length = 512)
theorem sheet_len {zs : List Int} (h : shOk zs = true) : (sheet zs).length = 512 := by
 unfold sheet
 simp only [shOk, Bool.or_eq_true, decide_eq_true_eq] at h
 split
 ·rw [List.length_replicate]
 ·omega
theorem ob_made (w : World) (k : Nat) (hk : k ≤ 8192) : Ob (w.alloc (.cells (madeCells #[.int .u8 0] k) 5)) w.heap.size (.slice (some ⟨w.heap.size, 0, none⟩) k k) (List.replicate k 0) := by
 have e : (madeCells #[.int .u8 0] k).toList = (List.replicate k (0 : Int)).map (Value.int .u8) := by
  apply List.ext_getElem
  ·simp [madeCells]
  ·intro i h1 h2
   simp [madeCells, Nat.mod_one]
 refine ⟨by simp, .inr ⟨w.heap.size, k, madeCells #[.int .u8 0] k, by simp, Nat.le_refl _, heap_alloc_new w _, by simp, by unfold maxLen; omega, by simp [madeCells], ?_⟩⟩
 rw [e]
 simp
theorem makeB (k : Nat) (h : k ≤ 8192) : ∀ w, (Instr.makeSlice 89 (.int .i64 (k : Int)) (.int .i64 (k : Int))).run Tryz.prog w = .ok (.slice (some ⟨w.heap.size, 0, none⟩) k k) (w.alloc (.cells (madeCells #[.int .u8 0] k) 5)) :=
 fun w => run_make_row' (P := Tryz.prog) 89 5 (.int .u8 0) 1 Tryz.underlying89 infoU8 rfl .i64 .i64 k (by omega) (by omega) w
def ShPost (zs : List Int) (w : World) (e : Ending) (w' : World) : Prop := ∃ a n c, e = .returned (.tuple #[.slice a n c, .bool (shOk zs)]) ∧ Ob w' w.heap.size (.slice a n c) (sheet zs) ∧ Below w.heap.size w w'
set_option maxHeartbeats 2000000 in
theorem sheet_any (a : Option Addr) (n c : Nat) (zs : List Int) (w : World) (h : Rd w a n c zs) (hl : n ≤ 1048576) : Calls Tryz.prog 102 #[.slice a n c] w fun e w' => ShPost zs w e w' := by
 have hzl : n = zs.length := h.1
 by_cases h0 : n = 0
 ·subst h0
  have HS : Hid (shOk zs = true ∧ sheet zs = List.replicate 512 0) := ⟨by simp [shOk, ← hzl], by rw [sheet, if_pos hzl.symm]⟩
  have hmk : ∀ w, (Instr.makeSlice 89 (.int .i64 512) (.int .i64 512)).run Tryz.prog w = .ok (.slice (some ⟨w.heap.size, 0, none⟩) 512 512) (w.alloc (.cells (madeCells #[.int .u8 0] 512) 5)) := fun w => makeB 512 (by omega) w
  have HO := hid (ob_made w 512 (by omega))
  have HB := hid (below_new (o := .cells (madeCells #[.int .u8 0] 512) 5) (w := w) (Below.refl _ _))
  clear h hzl
  go_enter Tryz.func102, Tryz.ntmps102
  go_wp2
  go_ret2
  exact ⟨_, _, _, by rw [HS.out.1]; rfl, by rw [HS.out.2]; exact HO.out, HB.out⟩
 ·have h0' : ((n : Int) == 0) = false := by simp; omega
  have h0'' : ¬ (n : Int) = 0 := by omega
  have HS : Hid (shOk zs = decide (n = 512) ∧ sheet zs = zs) := ⟨by simp [shOk, ← hzl, h0], by rw [sheet, if_neg (by omega)]⟩
  have HO := hid (ob_new w w.heap.size (Nat.le_refl _))
  have HB := hid (below_new (o := .cells #[] 5) (w := w) (Below.refl _ _))
  have HR := hid (h.kept HB.out)
  have HZ : Hid (w.heap.size ≤ (w.alloc (.cells #[] 5)).heap.size) := HB.out.size
  have hzb : ([] : List Int).length + zs.length ≤ 70368744177664 := by rw [← hzl]; simp; omega
  clear h hzl
  go_enter Tryz.func102, Tryz.ntmps102
  go_wp2_with (at_builtin; refine wpList_append_rd rfl _ _ rfl w.heap.size _ [] rfl HO.out a n c zs rfl HR.out hzb HZ.out ?_)
  intro v3 w3 hO3 hg3
  have O3 : Hid (Ob w3 w.heap.size v3 zs) := by show Ob _ _ _ _; simpa using hO3
  have B3 : Hid (Below w.heap.size w w3) := HB.out.trans ((only_of_grown hg3 (R := fun y => (Value.slice (some ⟨w.heap.size, 0, none⟩) 0 0).ownBlock = some y) (fun k e => e)).below HZ.out (fun b hb e => by have := (World.ownsRow.lt HO.out b e).1; omega))
  obtain ⟨a3, c3, rfl⟩ := hO3.shape
  clear hO3 hg3 HO HB HR
  by_cases h5 : n = 512
  ·have h5' : ((n : Int) == 512) = true := by simp; omega
   have HT : Hid (shOk zs = true) := by show _ = true; rw [HS.out.1, decide_eq_true h5]
   subst h5
   go_wp2
   go_ret2
   exact ⟨_, _, _, by rw [HT.out]; rfl, by rw [HS.out.2]; exact O3.out, B3.out⟩
  ·have h5' : ((n : Int) == 512) = false := by simp; omega
   have h5'' : ¬ (n : Int) = 512 := by omega
   have HT : Hid (shOk zs = false) := by show _ = false; rw [HS.out.1, decide_eq_false h5]
   go_wp2
   go_ret2
   exact ⟨_, _, _, by rw [HT.out]; rfl, by rw [HS.out.2]; exact O3.out, B3.out⟩
open Go.RowKit
theorem shOk_iff (zs : List Int) : shOk zs = true ↔ zs.length = 0 ∨ zs.length = 512 := by simp only [shOk, Bool.or_eq_true, decide_eq_true_eq]
def shV (zs : List Int) : Option (List Int) := if shOk zs = true then some (sheet zs) else none
set_option maxHeartbeats 1000000 in
theorem sheetOk_any (a : Option Addr) (n c : Nat) (zs : List Int) (w : World) (h : n = zs.length) (hn : n ≤ 9223372036854775807) :
  Calls Tryz.prog 112 #[.slice a n c] w fun e w' => e = .returned (.bool (shOk zs)) ∧ w' = w := by
 by_cases h0 : n = 0
 ·have HV : Hid (shOk zs = true) := (shOk_iff zs).2 (by omega)
  subst h0
  clear h
  go_enter Tryz.func112, Tryz.ntmps112
  go_wp2
  go_ret
  exact ⟨by rw [HV.out]; rfl, rfl⟩
 ·have h0' : ((n : Int) == 0) = false := by simp; omega
  have h0'' : ¬ (n : Int) = 0 := by omega
  by_cases h5 : n = 512
  ·have HV : Hid (shOk zs = true) := (shOk_iff zs).2 (by omega)
   subst h5
   clear h
   go_enter Tryz.func112, Tryz.ntmps112
   go_wp2
   go_ret
   exact ⟨by rw [HV.out]; rfl, rfl⟩
  ·have h5' : ((n : Int) == 512) = false := by simp; omega
   have h5'' : ¬ (n : Int) = 512 := by omega
   have HV : Hid (shOk zs = false) := by
    show _ = false
    rw [Bool.eq_false_iff]
    intro e
    have := (shOk_iff zs).1 e
    omega
   clear h
   go_enter Tryz.func112, Tryz.ntmps112
   go_wp2
   go_ret
   exact ⟨by rw [HV.out]; rfl, rfl⟩
set_option maxHeartbeats 2000000 in
theorem sheetBytes_any (a : Option Addr) (n c : Nat) (zs : List Int) (w : World) (h : Rd w a n c zs) (he : Err w 0) (he2 : Err w 1) :
  Calls Tryz.prog 145 #[.slice a n c] w fun e w' => Put w (shV zs) e w' := by
 have hzl : n = zs.length := h.1
 have HC := hid (sheetOk_any a n c zs w hzl (by have := h.2.1; have := h.2.2.1; omega))
 by_cases hok : n = 0 ∨ n = 512
 ·have HV : Hid (fl zs 512 = shV zs) := by
   show _ = _
   rw [shV, if_pos ((shOk_iff zs).2 (by omega)), sheet, fl, if_pos (by omega)]
   rcases hok with e | e
   ·rw [if_pos (by omega), List.eq_nil_of_length_eq_zero (by omega : zs.length = 0)]
    rfl
   ·rw [if_neg (by omega), ← hzl, e]
    simp
  have HT : Hid (shOk zs = true) := (shOk_iff zs).2 (by omega)
  have HR := hid h
  have HE := hid he
  have HE2 := hid he2
  have hn5 : n ≤ 1099511627776 := by omega
  clear h he he2 hok hzl
  go_enter Tryz.func145, Tryz.ntmps145
  go_wp2_with fail
  refine HC.out.mono ?_
  rintro e w0 ⟨rfl, rfl⟩
  rw [HT.out]
  go_wp2_with fail
  refine (implFill_any a _ c zs 512 _ HR.out (by omega) HE.out HE2.out HE.out.lt HE2.out.lt).mono ?_
  intro e w1 hput
  rw [HV.out] at hput
  have HP := hid hput
  rcases hput.2 with ⟨_, rfl⟩ | ⟨v, out, _, rfl, ho⟩
  ·clear hput
   go_wp2
   go_ret2
   exact HP.out
  ·obtain ⟨a', c', rfl⟩ := ho.shape
   clear hput ho
   go_wp2
   go_ret2
   exact HP.out
 ·have HN : Hid (shV zs = none) := by
   show _ = _
   rw [shV, if_neg]
   rw [shOk_iff]
   omega
  have HT : Hid (shOk zs = false) := by
   show _ = false
   rw [Bool.eq_false_iff]
   intro e
   have := (shOk_iff zs).1 e
   omega
  clear h he he2 hok hzl
  go_enter Tryz.func145, Tryz.ntmps145
  go_wp2_with fail
  refine HC.out.mono ?_
  rintro e w0 ⟨rfl, rfl⟩
  rw [HT.out]
  go_wp2
  go_ret2
  exact ⟨Below.refl _ _, .inl ⟨HN.out, rfl⟩⟩
open Go.RowKit Go.Shelf
set_option linter.unusedVariables false
attribute [local go_sem] Oper.semAt_some
def Lsw (n₀ : Nat) (W : World) (a : Option Addr) (n : Nat) (T : Nat → Int) (A : Nat → Option Addr) (N C : Nat → Nat) : Prop :=
 0 < n → ∃ b off, a = some ⟨b, off, none⟩ ∧ b < n₀ ∧ ∀ i, i < n → W.cell? ⟨b, off + i * 2, none⟩ = some (.int .i64 (T i)) ∧ W.cell? ⟨b, off + i * 2 + 1, none⟩ = some (.slice (A i) (N i) (C i))
theorem Lsw.below {n₀ : Nat} {W W' : World} {a : Option Addr} {n : Nat} {T : Nat → Int} {A : Nat → Option Addr} {N C : Nat → Nat} (h : Lsw n₀ W a n T A N C) (hb : Below n₀ W W') : Lsw n₀ W' a n T A N C := by
 intro hp
 obtain ⟨b, off, rfl, hbn, hc⟩ := h hp
 exact ⟨b, off, rfl, hbn, fun i hi => ⟨(hb.cell (p := ⟨b, off + i * 2, none⟩) hbn).trans (hc i hi).1, (hb.cell (p := ⟨b, off + i * 2 + 1, none⟩) hbn).trans (hc i hi).2⟩⟩
def dnTo (n k : Nat) : List Nat := (List.range k).map fun j => n - 1 - j
theorem dnTo_succ (n k : Nat) : dnTo n (k + 1) = dnTo n k ++ [n - 1 - k] := by simp [dnTo, List.range_succ]
theorem dnTo_length (n k : Nat) : (dnTo n k).length = k := by simp [dnTo]
theorem dnTo_pre (n : Nat) {k m : Nat} (h : k ≤ m) : dnTo n k <+: dnTo n m := by
 obtain ⟨j, rfl⟩ : ∃ j, m = k + j := ⟨m - k, by omega⟩
 clear h
 induction j with
 | zero => exact List.prefix_refl _
 | succ j ih => rw [← Nat.add_assoc, dnTo_succ]; exact ih.trans (List.prefix_append _ _)
set_option maxRecDepth 100000 in
set_option maxHeartbeats 4000000 in
theorem behind1_in (F : Fence) (m : Nat) (h6 : F.fn 163) (hro : F.round = none) (hm : 1 ≤ m) (l Bn n₀ : Nat) (a : Option Addr) (n c : Nat) (T : Nat → Int) (A : Nat → Option Addr) (N C : Nat → Nat) (J Jx : List Nat → World → Prop)
  (hY : ∀ pre x W, J pre W → pre.length < n → YieldAt F (m - 1) Tryz.prog l #[.agg #[.int .i64 (T x), .slice (A x) (N x) (C x)]] W fun e W' =>
   (e = .returned (.bool true) ∧ J (pre ++ [x]) W' ∧ Below n₀ W W') ∨ (e = .returned (.bool false) ∧ Jx (pre ++ [x]) W'))
  (W : World) (hB0 : Bn < n₀) (hBn : W.cell? ⟨Bn, 0, none⟩ = some (.slice a n c)) (hL : Lsw n₀ W a n T A N C) (hn : n ≤ c) (hc : c ≤ 9223372036854775807) (h0 : J [] W) :
  CallsIn F m Tryz.prog 163 #[.func (.yield l) #[] #[], .pointer (some ⟨Bn, 0, none⟩)] W fun e W' => (∃ v, e = .returned v) ∧
   ((∃ ys, ys = dnTo n n ∧ J ys W') ∨ (∃ pre, pre <+: dnTo n n ∧ Jx pre W')) := by
 refine callsIn_of_wp Tryz.func163 rfl h6 ?_ hro
 simp only [Tryz.ntmps163, List.size_toArray, List.length_cons, List.length_nil, Nat.reduceAdd, Nat.reduceSub, Array.replicate_succ, Array.replicate_zero, List.push_toArray, List.append_toArray, List.nil_append, List.cons_append]
 gi_wp2
 gi_loopw [3] (fun p wr => ∃ k : Nat, k ≤ n ∧ p = .int .i64 ((k : Int) - 1) ∧ Hid (J (dnTo n (n - k)) wr) ∧ wr.cell? ⟨Bn, 0, none⟩ = some (.slice a n c) ∧ Hid (Lsw n₀ wr a n T A N C)) (fun p _ => (intOf p + 1).toNat)
 case atStart => exact ⟨n, Nat.le_refl _, by go_num, by rw [Nat.sub_self]; exact h0, hBn, hL⟩
 case round =>
  obtain ⟨k, hk, rfl, HJ, hcB, HL⟩ := hrel
  cases k with
  | zero =>
   have HJ' : Hid (J (dnTo n n) wr) := HJ.out
   have hneg : ¬ (0 : Int) ≤ ((0 : Nat) : Int) - 1 := by omega
   gi_wp2
   go_end0
   exact ⟨⟨_, rfl⟩, .inl HJ'.out⟩
  | succ j =>
   obtain ⟨b, off, rfl, hbn, hcell⟩ := HL.out (by omega)
   obtain ⟨m0, m1⟩ := hcell j (by omega)
   have hj : (((j + 1 : Nat) : Int) - 1) = (j : Int) := by omega
   rw [hj]
   have hjn : (j : Int) < (n : Int) := by omega
   have HP : Hid (dnTo n (n - j) = dnTo n (n - (j + 1)) ++ [j]) := by
    show _ = _
    rw [show n - j = n - (j + 1) + 1 by omega, dnTo_succ, show n - 1 - (n - (j + 1)) = j by omega]
   obtain ⟨fn, tmps, assign, body, hy, hR⟩ := hY _ j wr HJ.out (by rw [dnTo_length]; omega)
   clear hcell
   gi_wp2
   refine hR.mono ?_
   rintro e W3 (⟨rfl, hJ3, hk3⟩ | ⟨rfl, hJx3⟩)
   ·have hq3 : W3.cell? ⟨Bn, 0, none⟩ = some (.slice (some ⟨b, off, none⟩) n c) := (hk3.cell (p := ⟨Bn, 0, none⟩) hB0).trans hcB
    have HL3 := hid (HL.out.below hk3)
    have HJ3 : Hid (J (dnTo n (n - j)) W3) := by rw [HP.out]; exact hJ3
    clear hJ3 hk3 m0 m1 hcB HL
    gi_wp2
    go_roundw
    case rel => exact ⟨j, by omega, by go_num, HJ3.out, hq3, HL3.out⟩
    case measure => simp [intOf]
   ·have HX : Hid (Jx (dnTo n (n - j)) W3) := by rw [HP.out]; exact hJx3
    gi_wp2
    refine bodyPost_ret (results_none rfl _ _ _) rfl ?_
    exact ⟨⟨_, rfl⟩, .inr ⟨_, dnTo_pre n (by omega), HX.out⟩⟩
theorem behind_stops (F : Fence) (m : Nat) (h6 : F.fn 163) (hro : F.round = none) (hm : 1 ≤ m) (Bn n₀ : Nat) (a : Option Addr) (n c : Nat) (T : Nat → Int) (A : Nat → Option Addr) (N C : Nat → Nat) (w : World) (hB0 : Bn < n₀) (hn₀ : n₀ ≤ w.heap.size)
  (hBn : w.cell? ⟨Bn, 0, none⟩ = some (.slice a n c)) (hL : Lsw n₀ w a n T A N C) (hn : n ≤ c) (hc : c ≤ 9223372036854775807) :
  SeqStopsK F m Tryz.prog 163 #[.pointer (some ⟨Bn, 0, none⟩)] (fun x : Nat => #[Value.agg #[.int .i64 (T x), .slice (A x) (N x) (C x)]]) (Below n₀) (fun ys => ys = dnTo n n) (fun pre => pre <+: dnTo n n) n w := fun l J Jx W hW _ _ hY h0 =>
 behind1_in F m h6 hro hm l Bn n₀ a n c T A N C J Jx hY W hB0 ((hW.cell (p := ⟨Bn, 0, none⟩) (by show Bn < _; omega)).trans hBn) (hL.below (hW.mono hn₀)) hn hc h0
set_option maxHeartbeats 1000000 in
theorem behind_in (F : Fence) (m : Nat) (h5 : F.fn 144) (hro : F.round = none) (a : Option Addr) (n c : Nat) (w : World) :
  CallsIn F m Tryz.prog 144 #[.slice a n c] w fun e w' => e = .returned (.func (.func 163) #[] #[.pointer (some ⟨w.heap.size, 0, none⟩)]) ∧ w' = w.alloc (.cells #[.slice a n c] 28) := by
 refine callsIn_of_wp Tryz.func144 rfl h5 ?_ hro
 simp only [Tryz.ntmps144, List.size_toArray, List.length_cons, List.length_nil, Nat.reduceAdd, Nat.reduceSub, Array.replicate_succ, Array.replicate_zero, List.push_toArray, List.append_toArray, List.nil_append, List.cons_append]
 gi_wp2
 go_ret
 exact ⟨rfl, rfl⟩
open Go.RowKit Go.Shelf
set_option linter.unusedVariables false
theorem bt6 {u v w : World} (h : Below u.heap.size u v) (k : Below v.heap.size v w) : Below u.heap.size u w := h.trans (k.mono h.size)
set_option maxHeartbeats 1000000 in
theorem copyBytes_any (a : Option Addr) (n c : Nat) (zs : List Int) (w : World) (h : Rd w a n c zs) (hn : n ≤ 1048576) :
  Calls Tryz.prog 78 #[.slice a n c] w fun e w' => ∃ v, e = .returned v ∧ Ob w' w.heap.size v zs ∧ Below w.heap.size w w' := by
 have HR := hid h
 have hzl : n = zs.length := h.1
 have HO : Hid (Ob w w.heap.size (.slice none 0 0) []) := World.ownsRow_nil _ _ _ _
 have hzb : ([] : List Int).length + zs.length ≤ 70368744177664 := by rw [← hzl]; simp; omega
 clear h hzl
 go_enter Tryz.func78, Tryz.ntmps78
 go_wp2_with (at_builtin; refine wpList_append_rd rfl _ _ rfl w.heap.size _ [] rfl HO.out a n c zs rfl HR.out hzb (Nat.le_refl _) ?_)
 intro v3 w3 hO3 hg3
 have O3 : Hid (Ob w3 w.heap.size v3 zs) := by show Ob _ _ _ _; simpa using hO3
 have B3 : Hid (Below w.heap.size w w3) := (only_of_grown hg3 (R := fun _ => False) (fun k e => by cases e)).below (Nat.le_refl _) (fun _ _ h => h)
 obtain ⟨a3, c3, rfl⟩ := hO3.shape
 clear hO3 hg3 HO HR
 go_wp2
 go_ret
 exact ⟨_, rfl, O3.out, B3.out⟩
def lastW (ds : List DW) (t : Int) : Nat → Option (List Int)
 | 0 => none
 | k + 1 => if (dwAt ds k).1 = t then some (dwAt ds k).2 else lastW ds t k
def rdV (d : DK) (t : Int) : Option (List Int) :=
 if dkOk d = true ∧ 0 ≤ t ∧ t < (d.sh.length : Int) then some ((lastW d.dw t d.dw.length).getD (sheet (shAt d.sh t.toNat))) else none
def RdPost (o : Option (List Int)) (w : World) (e : Ending) (w' : World) : Prop := ∃ a n c, e = .returned (.tuple #[.slice a n c, .bool o.isSome]) ∧ Ob w' w.heap.size (.slice a n c) (o.getD []) ∧ Below w.heap.size w w'
theorem shOk_sht (l : List Int) : shOk l = shtOk l := rfl
set_option maxHeartbeats 4000000 in
theorem specDiskRead_any (S : Nat → Prop) (sa : Option Addr) (sn sc : Nat) (da : Option Addr) (dn dc : Nat) (d : DK) (t : Int) (w : World) (h : Dk w S sa sn sc da dn dc d) (hsm : smallD d) :
  Calls Tryz.prog 61 #[.agg #[.slice sa sn sc, .slice da dn dc], .int .i64 t] w fun e w' => RdPost (rdV d t) w e w' := by
 have HS := hid h.hs
 have HD := hid h.hd
 have HSM := hid hsm
 obtain ⟨ns, hsc, hsc'⟩ := h.hs.len
 obtain ⟨nd, hdc, hdc'⟩ := h.hd.len
 have HNS := hid ns
 have HND := hid nd
 have HB0 : Hid (Below w.heap.size w (w.alloc (.cells #[.slice sa sn sc, .slice da dn dc] 30))) := below_new (Below.refl _ _)
 have KP : Hid (Bk (w.alloc (.cells #[.slice sa sn sc, .slice da dn dc] 30)) w.heap.size 30 [.slice sa sn sc, .slice da dn dc]) := Bk.new w 30 [.slice sa sn sc, .slice da dn dc]
 have HK := hid (specDiskOk_any S sa sn sc da dn dc d _ (h.below HB0.out))
 have HV : Hid (rdV d t = if dkOk d = true ∧ 0 ≤ t ∧ t < (d.sh.length : Int) then some ((lastW d.dw t d.dw.length).getD (sheet (shAt d.sh t.toNat))) else none) := rfl
 have HN : Hid (¬ (dkOk d = true ∧ 0 ≤ t ∧ t < (d.sh.length : Int)) → rdV d t = none) := fun hh => by rw [HV.out, if_neg hh]
 clear h ns nd hsm
 go_enter Tryz.func61, Tryz.ntmps61
 go_wp2_with fail
 refine HK.out.mono ?_
 rintro e w1 ⟨rfl, hb⟩
 have K1 := hid (KP.out.below hb)
 have B1 := hid (HB0.out.trans (hb.mono HB0.out.size))
 clear hb HB0 KP HK
 cases hok : dkOk d with
 | false =>
  have HF := hid (HN.out (by rw [hok]; simp))
  go_wp2
  go_ret2
  rw [HF.out]
  exact ⟨_, _, _, rfl, World.ownsRow_nil _ _ _ _, B1.out⟩
 | true =>
  have HOK := hid hok
  clear hok
  by_cases t0 : t < 0
  ·have HF := hid (HN.out (by omega))
   go_wp2
   go_ret2
   rw [HF.out]
   exact ⟨_, _, _, rfl, World.ownsRow_nil _ _ _ _, B1.out⟩
  ·have c0 := K1.out.cell (j := 0) rfl
   have c1 := K1.out.cell (j := 1) rfl
   by_cases t1 : (sn : Int) ≤ t
   ·have HF := hid (HN.out (by rw [← HNS.out]; omega))
    go_wp2
    go_ret2
    rw [HF.out]
    exact ⟨_, _, _, rfl, World.ownsRow_nil _ _ _ _, B1.out⟩
   ·have HV2 : Hid (rdV d t = some ((lastW d.dw t d.dw.length).getD (sheet (shAt d.sh t.toNat)))) := by
     show _ = _
     rw [HV.out, if_pos ⟨HOK.out, by omega, by rw [← HNS.out]; omega⟩]
    clear HV HN
    go_wp2_with fail
    clear c0 c1
    go_loop [6] (fun i => ∃ k : Nat, k ≤ dn ∧ i = .int .i64 ((k : Int) - 1) ∧ Hid (lastW d.dw t k = lastW d.dw t d.dw.length)) (fun i => (intOf i + 1).toNat)
    case atStart => exact ⟨dn, Nat.le_refl _, by go_num, by rw [HND.out]; rfl⟩
    case round =>
     obtain ⟨k, hk, rfl, HL⟩ := hrel
     cases k with
     | zero =>
      have hneg : ¬ (0 : Int) ≤ ((0 : Nat) : Int) - 1 := by omega
      have c0 := K1.out.cell (j := 0) rfl
      obtain ⟨b, off, rfl, _, hbw, hcell⟩ := (HS.out.below B1.out).at (by omega)
      obtain ⟨u, hu⟩ : ∃ u : Nat, t = (u : Int) := ⟨t.toNat, by omega⟩
      subst hu
      obtain ⟨ap, np, cp, m0, hp⟩ := hcell u (by omega)
      have hul : u < d.sh.length := by rw [← HNS.out]; omega
      have hnp : np ≤ 1048576 := by rw [hp.len.1]; exact HSM.out.1 u hul
      have HC := hid (sheet_any ap np cp (shAt d.sh u) w1 (hp.rd hnp) hnp)
      have HSO : Hid (shOk (shAt d.sh u) = true) := by
       show _ = true
       rw [shOk_sht]
       exact ((dkOk_iff d).1 HOK.out).2.2.2.1 u hul
      have HV3 : Hid (rdV d (u : Int) = some (sheet (shAt d.sh u))) := by
       show _ = _
       rw [HV2.out, ← HL.out, lastW]
       simp
      have hu2 : (u : Int) < (sn : Int) := by omega
      clear hcell hbw hp
      go_wp2_with fail
      refine HC.out.mono ?_
      rintro e w2 ⟨a2, n2, c2, rfl, hO2, hb2⟩
      have O2 := hid hO2
      have B2 := hid (bt6 B1.out hb2)
      rw [HSO.out]
      clear hO2 hb2 HC
      go_wp2
      go_ret2
      rw [HV3.out]
      exact ⟨_, _, _, rfl, ownD_base O2.out B1.out.size, B2.out⟩
     | succ j =>
      have hj : (((j + 1 : Nat) : Int) - 1) = (j : Int) := by omega
      rw [hj]
      have c1 := K1.out.cell (j := 1) rfl
      obtain ⟨b, off, rfl, _, hbw, hcell⟩ := (HD.out.below B1.out).at (by omega)
      obtain ⟨ap, np, cp, mt, m0, hp⟩ := hcell j (by omega)
      have hjl : j < d.dw.length := by rw [← HND.out]; omega
      have hnp : np ≤ 1048576 := by rw [hp.len.1]; exact HSM.out.2 j hjl
      have HLS : Hid (lastW d.dw t (j + 1) = if (dwAt d.dw j).1 = t then some (dwAt d.dw j).2 else lastW d.dw t j) := rfl
      have hj2 : (j : Int) < (dn : Int) := by omega
      have HRD := hid (hp.rd hnp)
      have HLN := hid hp.len.1
      clear hcell hbw hp
      generalize (dwAt d.dw j).1 = tt at *
      by_cases e : tt = t
      ·subst e
       have HV3 : Hid (rdV d tt = some (dwAt d.dw j).2) := by
        show _ = _
        rw [HV2.out, ← HL.out, HLS.out, if_pos rfl]
        rfl
       have HO := hid (ob_new w1 w1.heap.size (Nat.le_refl _))
       have HB := hid (below_new (o := .cells #[] 5) (w := w1) (Below.refl _ _))
       have HR := hid (HRD.out.kept HB.out)
       have hzb : ([] : List Int).length + (dwAt d.dw j).2.length ≤ 70368744177664 := by rw [← HLN.out]; simp; omega
       have HZ : Hid (w1.heap.size ≤ (w1.alloc (.cells #[] 5)).heap.size) := HB.out.size
       have k1 := (K1.out.below HB.out).cell (j := 1) rfl
       have k0 := (World.cell?_of_block (w := w1) (a := ⟨b, off + j * 2 + 1, none⟩) (w' := w1.alloc (.cells #[] 5)) (HB.out.block b (by exact block_lt m0))).trans m0
       clear HL HLS HV2
       go_wp2_with (at_builtin; refine wpList_append_rd rfl _ _ rfl w1.heap.size _ [] rfl HO.out ap np cp _ rfl HR.out hzb HZ.out ?_)
       intro v3 w3 hO3 hg3
       have O3 : Hid (Ob w3 w1.heap.size v3 (dwAt d.dw j).2) := by show Ob _ _ _ _; simpa using hO3
       have B3 : Hid (Below w1.heap.size w1 w3) := HB.out.trans ((only_of_grown hg3 (R := fun y => (Value.slice (some ⟨w1.heap.size, 0, none⟩) 0 0).ownBlock = some y) (fun k e => e)).below HZ.out (fun b hb e => by have := (World.ownsRow.lt HO.out b e).1; omega))
       obtain ⟨a3, c3, rfl⟩ := hO3.shape
       clear hO3 hg3 HO HB HR k0 k1
       go_wp2
       go_ret2
       rw [HV3.out]
       exact ⟨_, _, _, rfl, ownD_base O3.out B1.out.size, bt6 B1.out B3.out⟩
      ·have e' : (tt == t) = false := by simp [e]
       have HL2 : Hid (lastW d.dw t j = lastW d.dw t d.dw.length) := by
        show _ = _
        rw [← HL.out, HLS.out, if_neg e]
       clear HL HLS
       go_wp2
       go_round
       case rel => exact ⟨j, by omega, by go_num, HL2.out⟩
       case measure => simp [intOf]
open Go.RowKit
set_option linter.unusedVariables false
structure LT (v : World) (P : Nat → Prop) (na : Option Addr) (nn nc : Nat) (pa : Option Addr) (pn pc : Nat) (V : List V3) (s : LS) : Prop where
 len : V.length = s.1.length
 row : v.ownsRow 0 85 3 (.slice na nn nc) s.1.length (ncs V)
 rd : ∀ i, i < s.1.length → Pr v (fun y => ¬ P y) (vAt V i).1 (nAt s.1 i).ps ∧ Sr v (fun y => ¬ P y) (vAt V i).2.1 (nAt s.1 i).keys
 kid : ∀ i, i < s.1.length → v.ownsRow 0 3 1 (vAt V i).2.2 (nAt s.1 i).kids.length ((nAt s.1 i).kids.map (Value.int .i64))
 apart : ∀ i j, i < s.1.length → j < s.1.length → i ≠ j → ∀ y, (vAt V i).2.2.ownBlock = some y → (vAt V j).2.2.ownBlock ≠ some y
 off : ∀ i, i < s.1.length → ∀ y, (vAt V i).2.2.ownBlock = some y → P y ∧ (Value.slice na nn nc).ownBlock ≠ some y
 pn' : ∀ y, (Value.slice na nn nc).ownBlock = some y → P y
 pla : v.ownsRow 0 3 1 (.slice pa pn pc) s.2.length (s.2.map (Value.int .i64))
 pp : ∀ y, (Value.slice pa pn pc).ownBlock = some y → P y ∧ (Value.slice na nn nc).ownBlock ≠ some y ∧ ∀ i, i < s.1.length → (vAt V i).2.2.ownBlock ≠ some y
theorem LT.below {v v' : World} {P : Nat → Prop} {na : Option Addr} {nn nc : Nat} {pa : Option Addr} {pn pc : Nat} {V : List V3} {s : LS} (h : LT v P na nn nc pa pn pc V s) (hb : Below v.heap.size v v') : LT v' P na nn nc pa pn pc V s := by
 have o := only_of_below hb (fun _ => False)
 exact ⟨h.len, own_kept h.row o (fun _ _ h => h), fun i hi => ⟨(h.rd i hi).1.to o (fun _ _ _ h => h), (h.rd i hi).2.to o (fun _ _ _ h => h)⟩, fun i hi => own_kept (h.kid i hi) o (fun _ _ h => h), h.apart, h.off, h.pn', own_kept h.pla o (fun _ _ h => h), h.pp⟩
theorem LT.iff {v : World} {P Q : Nat → Prop} {na : Option Addr} {nn nc : Nat} {pa : Option Addr} {pn pc : Nat} {V : List V3} {s : LS} (h : LT v P na nn nc pa pn pc V s) (hq : ∀ y, y < v.heap.size → (P y ↔ Q y)) : LT v Q na nn nc pa pn pc V s :=
 ⟨h.len, h.row, fun i hi => ⟨(h.rd i hi).1.mono (fun b hb hl hQ => hb ((hq b hl).2 hQ)), (h.rd i hi).2.mono (fun b hb hl hQ => hb ((hq b hl).2 hQ))⟩, h.kid, h.apart, fun i hi y e => ⟨(hq y (World.ownsRow.lt (h.kid i hi) y e).2).1 (h.off i hi y e).1, (h.off i hi y e).2⟩, fun y e => (hq y (World.ownsRow.lt h.row y e).2).1 (h.pn' y e), h.pla, fun y e => ⟨(hq y (World.ownsRow.lt h.pla y e).2).1 (h.pp y e).1, (h.pp y e).2⟩⟩
theorem LT.pushN {u w2 : World} {P : Nat → Prop} {na : Option Addr} {nn nc : Nat} {pa : Option Addr} {pn pc : Nat} {V : List V3} {s : LS} (h : LT u P na nn nc pa pn pc V s) (x : NB) (x1 x2 : Value) (hk : x.kids = []) (h1 : Pr u (fun y => ¬ P y) x1 x.ps) (h2 : Sr u (fun y => ¬ P y) x2 x.keys) (hP : P u.heap.size) {a5 : Option Addr} {n5 c5 : Nat}
  (ho : w2.ownsRow 0 85 3 (.slice a5 n5 c5) (s.1.length + 1) (ncs V ++ [x1, x2, .slice none 0 0])) (hg : u.grownBy w2 (Value.slice na nn nc).ownBlock) (ha : (Value.slice a5 n5 c5).ownBlock = (Value.slice na nn nc).ownBlock ∨ (Value.slice a5 n5 c5).ownBlock = some u.heap.size) :
  LT w2 P a5 n5 c5 pa pn pc (V ++ [(x1, x2, .slice none 0 0)]) (s.1 ++ [x], s.2) := by
 have o : Only (fun y => (Value.slice na nn nc).ownBlock = some y) u w2 := only_of_grown hg (fun k e => e)
 have hl := h.len
 have hat : ∀ i, i < (s.1 ++ [x]).length → (i < s.1.length ∧ vAt (V ++ [(x1, x2, .slice none 0 0)]) i = vAt V i ∧ nAt (s.1 ++ [x]) i = nAt s.1 i) ∨ (i = s.1.length ∧ vAt (V ++ [(x1, x2, .slice none 0 0)]) i = (x1, x2, .slice none 0 0) ∧ nAt (s.1 ++ [x]) i = x) := by
  intro i hi
  simp at hi
  by_cases e : i < s.1.length
  ·exact .inl ⟨e, vAt_append_left (by omega), nAt_append_left e⟩
  ·obtain rfl : i = s.1.length := by omega
   exact .inr ⟨rfl, by rw [← hl, vAt_append_at], nAt_append_at _ _ _⟩
 have hold : ∀ i, i < (s.1 ++ [x]).length → ∀ y, (vAt (V ++ [(x1, x2, .slice none 0 0)]) i).2.2.ownBlock = some y → i < s.1.length ∧ (vAt V i).2.2.ownBlock = some y := by
  intro i hi y e
  rcases hat i hi with ⟨e1, e2, _⟩ | ⟨e1, e2, _⟩
  ·rw [e2] at e; exact ⟨e1, e⟩
  ·rw [e2] at e; cases e
 have hn5 : ∀ y, (Value.slice a5 n5 c5).ownBlock = some y → (Value.slice na nn nc).ownBlock = some y ∨ y = u.heap.size := by
  intro y e
  rcases ha with ha | ha
  ·exact .inl (ha ▸ e)
  ·rw [ha] at e; cases e; exact .inr rfl
 refine ⟨by simp [hl], by rw [ncs_append, List.length_append]; exact ho, fun i hi => ?_, fun i hi => ?_, fun i j hi hj hij y e e2 => ?_, fun i hi y e => ?_, fun y e => ?_, own_kept h.pla o (fun y e => (h.pp y e).2.1), fun y e => ⟨(h.pp y e).1, fun e2 => ?_, fun i hi e2 => ?_⟩⟩
 ·rcases hat i hi with ⟨e1, e2, e3⟩ | ⟨e1, e2, e3⟩
  ·rw [e2, e3]; exact ⟨(h.rd i e1).1.to o (fun b hb _ e => hb (h.pn' b e)), (h.rd i e1).2.to o (fun b hb _ e => hb (h.pn' b e))⟩
  ·rw [e2, e3]; exact ⟨h1.to o (fun b hb _ e => hb (h.pn' b e)), h2.to o (fun b hb _ e => hb (h.pn' b e))⟩
 ·rcases hat i hi with ⟨e1, e2, e3⟩ | ⟨e1, e2, e3⟩
  ·rw [e2, e3]; exact own_kept (h.kid i e1) o (fun y e => (h.off i e1 y e).2)
  ·rw [e2, e3, hk]; exact World.ownsRow_nil _ _ _ _
 ·obtain ⟨k1, k2⟩ := hold i hi y e
  obtain ⟨k3, k4⟩ := hold j hj y e2
  exact h.apart i j k1 k3 hij y k2 k4
 ·obtain ⟨k1, k2⟩ := hold i hi y e
  refine ⟨(h.off i k1 y k2).1, fun e2 => ?_⟩
  rcases hn5 y e2 with e3 | e3
  ·exact (h.off i k1 y k2).2 e3
  ·have := (World.ownsRow.lt (h.kid i k1) y k2).2; omega
 ·rcases hn5 y e with e3 | e3
  ·exact h.pn' y e3
  ·rw [e3]; exact hP
 ·rcases hn5 y e2 with e3 | e3
  ·exact (h.pp y e).2.1 e3
  ·have := (World.ownsRow.lt h.pla y e).2; omega
 ·obtain ⟨k1, k2⟩ := hold i hi y e2
  exact (h.pp y e).2.2 i k1 k2
theorem LT.pushP {u w2 : World} {P : Nat → Prop} {na : Option Addr} {nn nc : Nat} {pa : Option Addr} {pn pc : Nat} {V : List V3} {s : LS} (h : LT u P na nn nc pa pn pc V s) (t : Int) (hP : P u.heap.size) {a5 : Option Addr} {n5 c5 : Nat}
  (ho : w2.ownsRow 0 3 1 (.slice a5 n5 c5) (s.2.length + 1) (s.2.map (Value.int .i64) ++ [.int .i64 t])) (hg : u.grownBy w2 (Value.slice pa pn pc).ownBlock) (ha : (Value.slice a5 n5 c5).ownBlock = (Value.slice pa pn pc).ownBlock ∨ (Value.slice a5 n5 c5).ownBlock = some u.heap.size) :
  LT w2 P na nn nc a5 n5 c5 V (s.1, s.2 ++ [t]) := by
 have o : Only (fun y => (Value.slice pa pn pc).ownBlock = some y) u w2 := only_of_grown hg (fun k e => e)
 refine ⟨h.len, own_kept h.row o (fun y e e2 => (h.pp y e2).2.1 e), fun i hi => ⟨(h.rd i hi).1.to o (fun b hb _ e => hb (h.pp b e).1), (h.rd i hi).2.to o (fun b hb _ e => hb (h.pp b e).1)⟩, fun i hi => own_kept (h.kid i hi) o (fun y e e2 => (h.pp y e2).2.2 i hi e), h.apart, h.off, h.pn', by simpa using ho, fun y e => ?_⟩
 rcases ha with ha | ha
 ·rw [ha] at e; exact h.pp y e
 ·rw [ha] at e
  cases e
  exact ⟨hP, fun e2 => by have := (World.ownsRow.lt h.row _ e2).2; omega, fun i hi e2 => by have := (World.ownsRow.lt (h.kid i hi) _ e2).2; omega⟩
theorem LT.kidP {u w2 : World} {P : Nat → Prop} {g nn nc : Nat} {pa : Option Addr} {pn pc : Nat} {V : List V3} {s : LS} (h : LT u P (some ⟨g, 0, none⟩) nn nc pa pn pc V s) {me : Nat} (hme : me < s.1.length) (q : Int) (hP : P u.heap.size) {a5 : Option Addr} {n5 c5 : Nat}
  (ho : w2.ownsRow 0 3 1 (.slice a5 n5 c5) ((nAt s.1 me).kids.length + 1) ((nAt s.1 me).kids.map (Value.int .i64) ++ [.int .i64 q])) (hg : u.grownBy w2 (vAt V me).2.2.ownBlock) (ha : (Value.slice a5 n5 c5).ownBlock = (vAt V me).2.2.ownBlock ∨ (Value.slice a5 n5 c5).ownBlock = some u.heap.size) :
  LT (w2.setCell ⟨g, me * 3 + 2, none⟩ (.slice a5 n5 c5)) P (some ⟨g, 0, none⟩) nn nc pa pn pc (V.set me ((vAt V me).1, (vAt V me).2.1, .slice a5 n5 c5)) (addK s.1 me q, s.2) := by
 have o : Only (fun y => (vAt V me).2.2.ownBlock = some y) u w2 := only_of_grown hg (fun k e => e)
 have o2 : Only (fun y => y = g) w2 (w2.setCell ⟨g, me * 3 + 2, none⟩ (.slice a5 n5 c5)) := only_set (R := fun y => y = g) rfl _
 have hl := h.len
 have hG : P g := h.pn' g rfl
 have hv0 : vAt (V.set me ((vAt V me).1, (vAt V me).2.1, .slice a5 n5 c5)) me = ((vAt V me).1, (vAt V me).2.1, .slice a5 n5 c5) := vAt_set _ _ _ (by omega)
 have hv1 : ∀ i, i ≠ me → vAt (V.set me ((vAt V me).1, (vAt V me).2.1, .slice a5 n5 c5)) i = vAt V i := fun i hi => vAt_other _ _ _ _ hi
 have hr : ∀ i, (vAt (V.set me ((vAt V me).1, (vAt V me).2.1, .slice a5 n5 c5)) i).1 = (vAt V i).1 ∧ (vAt (V.set me ((vAt V me).1, (vAt V me).2.1, .slice a5 n5 c5)) i).2.1 = (vAt V i).2.1 ∧ (nAt (addK s.1 me q) i).ps = (nAt s.1 i).ps ∧ (nAt (addK s.1 me q) i).keys = (nAt s.1 i).keys := by
  intro i
  by_cases e : i = me
  ·subst e; rw [hv0, nAt_addK_me _ hme]; exact ⟨rfl, rfl, rfl, rfl⟩
  ·rw [hv1 i e, nAt_addK_other _ e]; exact ⟨rfl, rfl, rfl, rfl⟩
 have hnew : ∀ y, (Value.slice a5 n5 c5).ownBlock = some y → (vAt V me).2.2.ownBlock = some y ∨ y = u.heap.size := by
  intro y e
  rcases ha with ha | ha
  ·exact .inl (ha ▸ e)
  ·rw [ha] at e; cases e; exact .inr rfl
 have hb : ∀ i, i < s.1.length → ∀ y, (vAt (V.set me ((vAt V me).1, (vAt V me).2.1, .slice a5 n5 c5)) i).2.2.ownBlock = some y → (vAt V i).2.2.ownBlock = some y ∨ (i = me ∧ y = u.heap.size) := by
  intro i hi y e
  by_cases e1 : i = me
  ·subst e1
   rw [hv0] at e
   exact (hnew y e).imp id (fun h => ⟨rfl, h⟩)
  ·rw [hv1 i e1] at e; exact .inl e
 have hgu : g < u.heap.size := (World.ownsRow.lt h.row g rfl).2
 refine ⟨by rw [List.length_set, addK_len]; exact hl, ?_, fun i hi => ?_, fun i hi => ?_, fun i j hi hj hij y e e2 => ?_, fun i hi y e => ?_, h.pn', own_kept (own_kept h.pla o (fun y e => (h.pp y e).2.2 me hme)) o2 (fun y e e2 => (h.pp y e).2.1 (by rw [e2]; rfl)), fun y e => ⟨(h.pp y e).1, (h.pp y e).2.1, fun i hi e2 => ?_⟩⟩
 ·rw [ncs_set2 _ _ _ (by omega), addK_len]
  exact row_set (own_kept h.row o (fun y e e2 => (h.off me hme y e2).2 e)) _ _
 ·simp only [addK_len] at hi
  obtain ⟨r1, r2, r3, r4⟩ := hr i
  rw [r1, r2, r3, r4]
  exact ⟨((h.rd i hi).1.to o (fun b hb _ e => hb (h.off me hme b e).1)).to o2 (fun b hb _ e => hb (e ▸ hG)), ((h.rd i hi).2.to o (fun b hb _ e => hb (h.off me hme b e).1)).to o2 (fun b hb _ e => hb (e ▸ hG))⟩
 ·simp only [addK_len] at hi
  by_cases e : i = me
  ·subst e
   rw [hv0, nAt_addK_me _ hme]
   refine own_kept ?_ o2 (fun y e e2 => ?_)
   ·simpa using ho
   ·rcases hnew y e with e3 | e3
    ·exact (h.off i hi y e3).2 (by rw [e2]; rfl)
    ·omega
  ·rw [hv1 i e, nAt_addK_other _ e]
   exact own_kept (own_kept (h.kid i hi) o (fun y e1 => h.apart i me hi hme e y e1)) o2 (fun y e1 e2 => (h.off i hi y e1).2 (by rw [e2]; rfl))
 ·simp only [addK_len] at hi hj
  rcases hb i hi y e with k1 | ⟨k1, k2⟩
  ·rcases hb j hj y e2 with k3 | ⟨k3, k4⟩
   ·exact h.apart i j hi hj hij y k1 k3
   ·have := (World.ownsRow.lt (h.kid i hi) y k1).2; omega
  ·rcases hb j hj y e2 with k3 | ⟨k3, k4⟩
   ·have := (World.ownsRow.lt (h.kid j hj) y k3).2; omega
   ·omega
 ·simp only [addK_len] at hi
  rcases hb i hi y e with k1 | ⟨k1, k2⟩
  ·exact h.off i hi y k1
  ·exact ⟨k2 ▸ hP, fun e2 => by have e3 : g = y := Option.some.inj e2; omega⟩
 ·simp only [addK_len] at hi
  rcases hb i hi y e2 with k1 | ⟨k1, k2⟩
  ·exact (h.pp y e).2.2 i hi k1
  ·have := (World.ownsRow.lt h.pla y e).2; omega
theorem wpList_append_nodeS {w : World} {ops : Array Oper} {rest : List Oper} {o : Oper} {a : Act} {Q : Exit → Act → World → Prop} (hgd : o.guard = none) (s x : Operand)
  (ho : o.op = .call { callee := .builtin .append, args := #[s, x], argTypes := #[31, 31] }) (v : Value) (n : Nat) (xs : List Value) (hs : a.eval s = v) (hown : w.ownsRow 0 85 3 v n xs)
  (g : Nat) (x1 x2 x3 : Value) (h1 : x1.oneCell' = true ∧ x2.oneCell' = true ∧ x3.oneCell' = true) (hx : a.eval x = .slice (some ⟨g, 0, none⟩) 1 1) (hB : Bk w g 85 [x1, x2, x3]) (hb : n ≤ 1048576)
  (h : ∀ a' n' c' w', w'.ownsRow 0 85 3 (.slice a' n' c') (n + 1) (xs ++ [x1, x2, x3]) → w.grownBy w' v.ownBlock → ((Value.slice a' n' c').ownBlock = v.ownBlock ∨ (Value.slice a' n' c').ownBlock = some w.heap.size) → wpList Tryz.prog ops Q rest (a.put o.dst (.slice a' n' c')) w') : wpList Tryz.prog ops Q (o :: rest) a w := by
 obtain ⟨i, hi, hz, hsz, hby⟩ := info_of infoNodeI
 refine wpList_append_row_at hgd s x 31 ho 0 85 i _ 3 72 Tryz.underlying31 hi hz hsz hby rfl (by decide) v n xs hs hown (fun _ => True) _ 1 [x1, x2, x3] hx (hB.rw (Nat.le_refl _) (by omega) (fun h => by omega) _ trivial) rfl
  (by
   intro u hu
   simp at hu
   rcases hu with rfl | rfl | rfl
   ·exact h1.1
   ·exact h1.2.1
   ·exact h1.2.2) (by unfold maxLen; omega) (by omega) (Nat.zero_le _) ?_
 intro v' w' k1 k2 k3
 obtain ⟨a', c', rfl⟩ := own_shape k1
 exact h a' _ c' w' k1 k2 k3
end Go.Proofs.YtidjehapeanpbaaGreatDoor
