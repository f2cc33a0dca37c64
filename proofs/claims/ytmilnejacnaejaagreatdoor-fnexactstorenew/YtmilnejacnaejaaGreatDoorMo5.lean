/-
  MetaOk, highFirst, fromHighFirst, MetaBytes and MetaRead of the program.
-/
import Derived.Test.YtmilnejacnaejaaGreatDoorMo4
import Derived.Test.YtmilnejacnaejaaGreatDoorMo1
import Derived.Test.YtmilnejacnaejaaGreatDoorMo2
import Derived.Laws.CopyOwn
import Derived.Test.YtmilnejacnaejaaGreatDoorMo3
import Derived.RangeFuncNested
import Derived.RangeFuncBound
import Derived.RangeFuncCalls
import Derived.RangeFuncLeaves
import Derived.Shelf.Abstract
import Derived.Shelf.RegionOpen
import Derived.WalkKit
import Derived.OwnWalkIn
import Derived.TacticsInMore
import Derived.LoopNIn
import Derived.LoopIn
namespace Go.Proofs.YtmilnejacnaejaaGreatDoor
open Go.RowKit
set_option maxHeartbeats 400000 in
theorem isPlace_any (n : Int) (w : World) (b : Bool) (hb : b = decide (2 ≤ n ∧ n < 400)) :
    Calls Tryz.prog 203 #[.int .i64 n] w fun e w' => e = .returned (.bool b) ∧ w = w' := by
  have HB := hid hb
  clear hb
  by_cases h0 : 2 ≤ n
  · by_cases h1 : n < 400
    · have HE : Hid (b = true) := by show _ = _; rw [HB.out, decide_eq_true (by omega)]
      clear HB
      go_enter Tryz.func203, Tryz.ntmps203
      go_wp2
      go_ret
      exact ⟨by rw [HE.out]; rfl, rfl⟩
    · have HE : Hid (b = false) := by show _ = _; rw [HB.out, decide_eq_false (by omega)]
      clear HB
      go_enter Tryz.func203, Tryz.ntmps203
      go_wp2
      go_ret
      exact ⟨by rw [HE.out]; rfl, rfl⟩
  · have HE : Hid (b = false) := by show _ = _; rw [HB.out, decide_eq_false (by omega)]
    clear HB
    go_enter Tryz.func203, Tryz.ntmps203
    go_wp2
    go_ret
    exact ⟨by rw [HE.out]; rfl, rfl⟩
set_option maxHeartbeats 4000000 in
theorem implMetaOk_any (g r : Int) (w : World) : Calls Tryz.prog 152 #[.agg #[.int .i64 g, .int .i64 r]] w fun e w' => e = .returned (.bool (mtOk g r)) ∧ Below w.heap.size w w' := by
  have HB := hid (below_new (o := .cells #[.int .i64 g, .int .i64 r] 75) (w := w) (Below.refl _ _))
  have HD : Hid (mtOk g r = (decide (1 ≤ g ∧ g ≤ 1099511627775) && (decide (r = 0) || decide (2 ≤ r ∧ r < 400)))) := rfl
  by_cases q1 : 1 ≤ g
  · by_cases q2 : g ≤ 1099511627775
    · rw [decide_eq_true (show 1 ≤ g ∧ g ≤ 1099511627775 from ⟨q1, q2⟩)] at HD
      by_cases q3 : r = 0
      · subst q3
        have HF : Hid (mtOk g 0 = true) := by show _ = true; rw [HD.out]; rfl
        clear HD
        go_enter Tryz.func152, Tryz.ntmps152
        go_wp2
        go_ret
        exact ⟨by rw [HF.out]; rfl, HB.out⟩
      · have q3' : (r == 0) = false := by simp [q3]
        have HF : Hid (mtOk g r = decide (2 ≤ r ∧ r < 400)) := by show _ = _; rw [HD.out, decide_eq_false q3]; rfl
        clear HD
        generalize hz : decide (2 ≤ r ∧ r < 400) = z at *
        have HZ := hid hz.symm
        clear hz
        go_enter Tryz.func152, Tryz.ntmps152
        go_wp2_with fail
        refine (isPlace_any r _ z HZ.out).mono ?_
        rintro e w1 ⟨rfl, rfl⟩
        go_wp2
        go_ret
        exact ⟨by rw [HF.out]; rfl, HB.out⟩
    · have HF : Hid (mtOk g r = false) := by show _ = false; rw [HD.out, decide_eq_false (by omega)]; rfl
      clear HD
      go_enter Tryz.func152, Tryz.ntmps152
      go_wp2
      go_ret
      exact ⟨by rw [HF.out]; rfl, HB.out⟩
  · have HF : Hid (mtOk g r = false) := by show _ = false; rw [HD.out, decide_eq_false (by omega)]; rfl
    clear HD
    go_enter Tryz.func152, Tryz.ntmps152
    go_wp2
    go_ret
    exact ⟨by rw [HF.out]; rfl, HB.out⟩
def shr8 (n : Int) : Nat → Int
  | 0 => n
  | k + 1 => shr8 n k / 256
def low8 (n : Int) : Nat → List Int
  | 0 => []
  | k + 1 => (shr8 n k % 256) :: low8 n k
theorem low8_len (n : Int) : ∀ k, (low8 n k).length = k
  | 0 => rfl
  | k + 1 => by rw [low8, List.length_cons, low8_len n k]
theorem low8_five (n : Int) : low8 n 5 = five n := by
  simp only [low8, shr8, five, wts, List.map_cons, List.map_nil]
  refine List.cons_eq_cons.2 ⟨by omega, List.cons_eq_cons.2 ⟨by omega, List.cons_eq_cons.2 ⟨by omega, List.cons_eq_cons.2 ⟨by omega, List.cons_eq_cons.2 ⟨by omega, rfl⟩⟩⟩⟩⟩
theorem low8_two {n : Int} (h0 : 0 ≤ n) (h1 : n < 65536) : low8 n 2 = [n / 256, n % 256] := by
  simp only [low8, shr8]
  refine List.cons_eq_cons.2 ⟨by omega, rfl⟩
theorem shr8_rng {n : Int} (h0 : 0 ≤ n) : ∀ k, 0 ≤ shr8 n k ∧ shr8 n k ≤ n
  | 0 => ⟨h0, Int.le_refl _⟩
  | k + 1 => by
    have := shr8_rng h0 k
    rw [shr8]
    omega
def lowP (n : Int) (s k : Nat) : List Int := List.replicate (s - k) 0 ++ low8 n k
theorem lowP_len (n : Int) {s k : Nat} (h : k ≤ s) : (lowP n s k).length = s := by
  rw [lowP, List.length_append, List.length_replicate, low8_len]
  omega
theorem lowP_set (n : Int) {s k : Nat} (h : k < s) : (byteVals (lowP n s k)).setIfInBounds (s - 1 - k) (.int .u8 (shr8 n k % 256)) = byteVals (lowP n s (k + 1)) := by
  obtain ⟨m, rfl⟩ : ∃ m, s = k + 1 + m := ⟨s - (k + 1), by omega⟩
  have e1 : k + 1 + m - k = m + 1 := by omega
  have e2 : k + 1 + m - (k + 1) = m := by omega
  have e3 : k + 1 + m - 1 - k = m := by omega
  rw [lowP, lowP, e1, e2, e3, byteVals, byteVals, List.setIfInBounds_toArray]
  congr 1
  rw [List.map_append, List.map_append, List.map_replicate, List.map_replicate, List.replicate_succ', List.append_assoc, List.set_append_right _ _ (by simp)]
  simp [low8]
theorem lowP_zero (n : Int) (s : Nat) : byteVals (lowP n s 0) = madeCells #[.int .u8 0] s := by
  apply Array.ext
  · simp [byteVals, lowP, low8, madeCells]
  · intro i h1 h2; simp [byteVals, lowP, low8, madeCells, Nat.mod_one]
theorem lowP_all (n : Int) (s : Nat) : lowP n s s = low8 n s := by simp [lowP]
theorem lowP_at (n : Int) {s k : Nat} (h : k ≤ s) {i : Nat} (hi : i < s) : ∃ z, (byteVals (lowP n s k))[i]? = some (.int .u8 z) := by
  have hl : i < (lowP n s k).length := by rw [lowP_len n h]; exact hi
  exact ⟨(lowP n s k)[i], by simp [byteVals, hl]⟩
set_option maxHeartbeats 2000000 in
theorem highFirst_any (n : Int) (s : Nat) (w : World) (h0 : 0 ≤ n) (hs : s ≤ 8) :
    Calls Tryz.prog 153 #[.int .i64 n, .int .i64 s] w fun e w' => e = .returned (.slice (some ⟨w.heap.size, 0, none⟩) s s) ∧ w' = w.alloc (.cells (byteVals (low8 n s)) 5) := by
  have hmk := run_make_row' (P := Tryz.prog) 71 5 (.int .u8 0) 1 Tryz.underlying71 infoU8 rfl .i64 .i64 s (by omega) (by omega)
  go_enter Tryz.func153, Tryz.ntmps153
  go_wp2
  go_loopw [0, 11] (fun v i wr => ∃ k : Nat, k ≤ s ∧ i = .int .i64 k ∧ v = .int .i64 (shr8 n k) ∧ wr = w.alloc (.cells (byteVals (lowP n s k)) 5)) (fun _ i _ => s - (intOf i).toNat)
  case atStart => exact ⟨0, Nat.zero_le _, rfl, rfl, by rw [lowP_zero]⟩
  case round =>
    obtain ⟨k, hk, rfl, rfl, rfl⟩ := hrel
    by_cases hlt : k < s
    · have hlt' : (k : Int) < (s : Int) := by omega
      obtain ⟨z, hz⟩ := lowP_at n (show k ≤ s by omega) (show s - 1 - k < s by omega)
      have HS := hid (lowP_set n hlt)
      have hr := shr8_rng h0 k
      have HN : Hid (shr8 n (k + 1) = shr8 n k / 256) := rfl
      have hx : (s : Int) - 1 - (k : Int) = ((s - 1 - k : Nat) : Int) := by omega
      generalize s - 1 - k = j at *
      generalize shr8 n k = q at *
      have hw8 : IntKind.u8.wrap q = q % 256 := by simp [IntKind.wrap, IntKind.signed, IntKind.bits]
      go_wp2
      go_roundw
      case rel => exact ⟨k + 1, by omega, by go_num, by rw [HN.out], by rw [HS.out]⟩
      case measure => simp [intOf]; omega
    · have hk' : k = s := by omega
      have HA : Hid (lowP n s k = low8 n s) := by show _ = _; rw [hk']; exact lowP_all n s
      clear hk'
      go_wp2
      go_ret
      exact ⟨rfl, by rw [HA.out]⟩
def hiF (zs : List Int) : Int := zs.foldl (fun n z => n * 256 + z) 0
theorem hiF_take (zs : List Int) {k : Nat} (h : k < zs.length) : hiF (zs.take (k + 1)) = hiF (zs.take k) * 256 + zs[k]?.getD 0 := by
  rw [List.take_succ_eq_append_getElem h, hiF, List.foldl_append]
  simp [hiF, h]
theorem hiF_rng {zs : List Int} (hb : ∀ z ∈ zs, 0 ≤ z ∧ z ≤ 255) : ∀ k, k ≤ zs.length → 0 ≤ hiF (zs.take k) ∧ (k ≤ 5 → hiF (zs.take k) < 1099511627776) ∧ (k ≤ 4 → hiF (zs.take k) < 4294967296) ∧ (k ≤ 3 → hiF (zs.take k) < 16777216) ∧ (k ≤ 2 → hiF (zs.take k) < 65536) ∧ (k ≤ 1 → hiF (zs.take k) < 256) ∧ (k ≤ 0 → hiF (zs.take k) < 1)
  | 0, _ => by simp [hiF]
  | k + 1, h => by
    have h1 := hiF_rng hb k (by omega)
    have h2 := byte_at hb k
    rw [hiF_take zs (by omega)]
    omega
set_option maxHeartbeats 2000000 in
theorem fromHighFirst_any (a : Option Addr) (n c : Nat) (zs : List Int) (w : World) (h : Rd w a n c zs) (hn : n ≤ 5) :
    Calls Tryz.prog 233 #[.slice a n c] w fun e w' => e = .returned (.int .i64 (hiF zs)) ∧ w = w' := by
  obtain ⟨hn0, hc, hm, hnm, hb, hcell⟩ := h
  have HN : Hid (n = zs.length) := hn0
  have HB := hid (at_byte hb)
  clear hn0 hb
  go_enter Tryz.func233, Tryz.ntmps233
  go_wp2
  go_loopw [3, 8] (fun v i wr => ∃ k : Nat, k ≤ n ∧ i = .int .i64 k ∧ v = .int .i64 (hiF (zs.take k)) ∧ wr = w) (fun _ i _ => n - (intOf i).toNat)
  case atStart => exact ⟨0, Nat.zero_le _, rfl, rfl, rfl⟩
  case round =>
    obtain ⟨k, hk, rfl, rfl, rfl⟩ := hrel
    by_cases hlt : k < n
    · have hlt' : (k : Int) < (n : Int) := by omega
      obtain ⟨b, off, ha, hbw, hcell⟩ := hcell (by omega)
      have hck := hcell k hlt
      have hbk := byte_at HB.out k
      have HS := hid (hiF_take zs (k := k) (by rw [← HN.out]; exact hlt))
      have hr := hiF_rng HB.out k (by rw [← HN.out]; omega)
      obtain ⟨r0, r1, r2, _⟩ := hr
      have hr1 : hiF (zs.take k) < 4294967296 := r2 (by omega)
      clear hcell r1 r2
      rw [ha]
      generalize hiF (zs.take k) = q at *
      generalize zs[k]?.getD 0 = z at *
      go_wp2
      go_roundw
      case rel => exact ⟨k + 1, by omega, by go_num, by rw [HS.out], by trivial⟩
      case measure => simp [intOf]; omega
    · have HA : Hid (hiF (zs.take k) = hiF zs) := by show _ = _; rw [List.take_of_length_le (by rw [← HN.out]; omega)]
      clear hcell
      go_wp2
      go_ret
      exact ⟨by rw [HA.out]; rfl, rfl⟩
theorem rd_nilM (w : World) : Rd w none 0 0 [] := ⟨rfl, Nat.le_refl _, by omega, by omega, by simp, fun h => by omega⟩
theorem addSt_ok {most : Nat} {zs ys : List Int} (h : zs.length + ys.length ≤ most) : addSt most (some zs) ys = some (zs ++ ys) := if_pos h
theorem fillSt_ok {most : Nat} {zs : List Int} {k : Nat} (h : zs.length + k ≤ most) : fillSt most (some zs) ((zs.length + k : Nat) : Int) = some (zs ++ List.replicate k 0) := by
  show (if (zs.length : Int) ≤ ((zs.length + k : Nat) : Int) ∧ ((zs.length + k : Nat) : Int) ≤ most then _ else _) = _
  rw [if_pos (by omega)]
  congr 3
  omega
theorem Put.lift {w u w' : World} {r : Option (List Int)} {e : Ending} (hb : Below w.heap.size w u) (h : Put u r e w') : Put w r e w' := by
  refine ⟨btw hb h.1, h.2.imp id ?_⟩
  rintro ⟨v, zs, h1, h2, h3⟩
  exact ⟨v, zs, h1, h2, h3.lower hb.size⟩
set_option maxHeartbeats 4000000 in
set_option maxRecDepth 20000 in
theorem implMetaBytes_any (g r : Int) (w : World) (he : Err w 0) (he2 : Err w 1) : Calls Tryz.prog 87 #[.agg #[.int .i64 g, .int .i64 r]] w fun e w' => Put w (mtBytes g r) e w' := by
  have B0 := hid (below_new (o := .cells #[.int .i64 g, .int .i64 r] 75) (w := w) (Below.refl _ _))
  have K0 := hid (Bk.new w 75 [.int .i64 g, .int .i64 r])
  have HP : Hid (mtBytes g r = if mtOk g r = true then some (mtFull g r) else none) := rfl
  have HE := hid he
  have HE2 := hid he2
  clear he he2
  go_enter Tryz.func87, Tryz.ntmps87
  go_wp2_with fail
  refine (implMetaOk_any g r _).mono ?_
  generalize w.alloc (.cells #[.int .i64 g, .int .i64 r] 75) = U at *
  rintro e w1 ⟨rfl, hb1⟩
  have B1 := hid (btw B0.out hb1)
  have K1 := hid (K0.out.below hb1)
  clear hb1 B0 K0
  cases hok : mtOk g r with
  | false =>
    have HN : Hid (mtBytes g r = none) := by show _ = _; rw [HP.out, hok]; rfl
    go_wp2
    go_ret2
    exact ⟨B1.out, .inl ⟨HN.out, rfl⟩⟩
  | true =>
    have HN : Hid (mtBytes g r = some (mtFull g r)) := by show _ = _; rw [HP.out, hok]; rfl
    obtain ⟨g0, g1, r0, r1⟩ := mtOk_facts hok
    clear hok HP
    have c0 := K1.out.cell (j := 0) rfl
    go_wp2_with fail
    refine (highFirst_any g 5 _ (by omega) (by omega)).mono ?_
    rintro e w2 ⟨rfl, hw2⟩
    have ba : Below w1.heap.size w1 w2 := by rw [hw2]; exact below_new (Below.refl _ _)
    have R2 : Hid (Rd w2 (some ⟨w1.heap.size, 0, none⟩) 5 5 (five g)) := by
      rw [hw2, low8_five]
      exact rd_new w1 (five g) (by rw [five_len]; omega) (byte_at (five_byte g))
    have B2 := hid (btw B1.out ba)
    have K2 := hid (K1.out.below ba)
    have E2 := hid (HE.out.below B2.out HE.out.lt)
    have F2 := hid (HE2.out.below B2.out HE2.out.lt)
    clear hw2 ba B1 K1 HE HE2 c0
    generalize w1.heap.size = q at *
    go_wp2_with fail
    refine (newWriter_any 512 none 0 0 [] w2 E2.out E2.out.lt (rd_nilM _) (by omega) (by omega)).mono ?_
    rintro e w3 ⟨rfl, hb3, hw3⟩
    have W3 : Hid (Wr w3 w2.heap.size 512 (some [])) := hw3
    have C3 := hid hb3
    clear hw3 hb3
    go_wp2_with fail
    refine (addByte_any w2.heap.size 512 (some []) 77 w3 W3.out (E2.out.below C3.out E2.out.lt) E2.out.lt (by omega) (by omega)).mono ?_
    rintro e w4 ⟨rfl, hb4, hw4⟩
    have W4 : Hid (Wr w4 w2.heap.size 512 (some [77])) := hw4
    have C4 := hid (C3.out.trans hb4)
    clear hw4 hb4 W3 C3
    go_wp2_with fail
    refine (add_any w2.heap.size 512 (some [77]) _ 5 5 (five g) w4 W4.out (E2.out.below C4.out E2.out.lt) (R2.out.kept C4.out) (by omega)).mono ?_
    rintro e w5 ⟨rfl, hb5, hw5⟩
    rw [addSt_ok (by rw [five_len]; decide)] at hw5
    have W5 := hid hw5
    have C5 := hid (C4.out.trans hb5)
    have c1 := (K2.out.below C5.out).cell (j := 1) rfl
    clear hw5 hb5 W4 C4
    go_wp2_with fail
    refine (highFirst_any r 2 _ (by omega) (by omega)).mono ?_
    rintro e w6 ⟨rfl, hw6⟩
    have ba : Below w5.heap.size w5 w6 := by rw [hw6]; exact below_new (Below.refl _ _)
    have R6 : Hid (Rd w6 (some ⟨w5.heap.size, 0, none⟩) 2 2 [r / 256, r % 256]) := by
      rw [hw6, low8_two r0 (by omega)]
      exact rd_new w5 [r / 256, r % 256] (by simp) (byte_at (fun z hz => by simp at hz; omega))
    have W6 : Hid (Wr w6 w2.heap.size 512 (some ([77] ++ five g))) := by rw [hw6]; exact W5.out.alloc _
    have C6 := hid (C5.out.trans (ba.mono C5.out.size))
    clear hw6 ba W5 C5 c1
    generalize w5.heap.size = q5 at *
    go_wp2_with fail
    refine (add_any w2.heap.size 512 _ _ 2 2 [r / 256, r % 256] w6 W6.out (E2.out.below C6.out E2.out.lt) R6.out (by omega)).mono ?_
    rintro e w7 ⟨rfl, hb7, hw7⟩
    rw [addSt_ok (by rw [List.length_append, five_len]; simp)] at hw7
    have W7 : Hid (Wr w7 w2.heap.size 512 (some (mtHead g r))) := hw7
    have C7 := hid (C6.out.trans hb7)
    have HL8 : Hid ((mtHead g r).length = 8) := by show _ = _; simp [mtHead, five_len]
    clear hw7 hb7 W6 C6 R6
    have HFL : Hid (fillSt 512 (some (mtHead g r)) 507 = some (mtHead g r ++ List.replicate 499 0)) := by
      show _ = _
      have := fillSt_ok (most := 512) (zs := mtHead g r) (k := 499) (by rw [HL8.out]; omega)
      rw [HL8.out] at this
      exact this
    go_wp2_with fail
    refine (fill_any w2.heap.size 512 _ 507 w7 W7.out (by omega) (E2.out.below C7.out E2.out.lt) (F2.out.below C7.out F2.out.lt) E2.out.lt).mono ?_
    rintro e w8 ⟨rfl, hb8, hw8⟩
    rw [HFL.out] at hw8
    have W8 := hid hw8
    have C8 := hid (C7.out.trans hb8)
    clear hw8 hb8 W7 C7 HFL
    go_wp2_with fail
    refine (add_any w2.heap.size 512 _ _ 5 5 (five g) w8 W8.out (E2.out.below C8.out E2.out.lt) (R2.out.kept C8.out) (by omega)).mono ?_
    rintro e w9 ⟨rfl, hb9, hw9⟩
    rw [addSt_ok (by rw [List.length_append, HL8.out, List.length_replicate, five_len]; decide)] at hw9
    have W9 : Hid (Wr w9 w2.heap.size 512 (some (mtFull g r))) := hw9
    have C9 := hid (C8.out.trans hb9)
    clear hw9 hb9 W8 C8
    go_wp2_with fail
    refine (told_put w2 w9 512 _ W9.out C9.out).mono ?_
    rintro e w10 ⟨v, b, rfl, ⟨a3, n3, c3, rfl⟩, hput⟩
    rw [← HN.out] at hput
    have HQ := hid (hput.lift B2.out)
    clear hput
    go_wp2
    go_ret2
    exact HQ.out
theorem Rd.cut {w : World} {b off n c : Nat} {zs : List Int} (h : Rd w (some ⟨b, off, none⟩) n c zs) (lo m : Nat) (hm : lo + m ≤ n) : Rd w (some ⟨b, off + lo, none⟩) m (c - lo) ((zs.drop lo).take m) := by
  obtain ⟨h1, h2, h3, h4, h5, h6⟩ := h
  have e : ∀ i, i < m → ((zs.drop lo).take m)[i]?.getD 0 = zs[lo + i]?.getD 0 := by
    intro i hi
    rw [List.getElem?_take_of_lt hi, List.getElem?_drop]
  refine ⟨by simp; omega, by omega, by omega, by omega, fun i => ?_, fun hp => ?_⟩
  · by_cases hi : i < m
    · rw [e i hi]; exact h5 _
    · rw [List.getElem?_eq_none (by simp; omega)]; simp
  · obtain ⟨b', off', ha, hb, hc⟩ := h6 (by omega)
    cases ha
    refine ⟨b, off + lo, rfl, hb, fun i hi => ?_⟩
    rw [e i hi, Nat.add_assoc]
    exact hc (lo + i) (by omega)
theorem hiF_acc (zs : List Int) (h : zs.length = 512) : ∀ k, k ≤ 5 → hiF ((zs.drop 1).take k) = acc zs k
  | 0, _ => by simp [hiF, acc]
  | k + 1, hk => by
    rw [hiF_take _ (by simp; omega), hiF_acc zs h k (by omega), acc, List.getElem?_drop, Nat.add_comm 1 k]
    rfl
theorem hiF_root (zs : List Int) (h : zs.length = 512) : hiF ((zs.drop 6).take 2) = zAt zs 6 * 256 + zAt zs 7 := by
  rw [hiF_take _ (by simp; omega), hiF_take _ (by simp; omega), List.getElem?_drop, List.getElem?_drop]
  simp [hiF, zAt]
set_option maxHeartbeats 800000 in
theorem bytesEqual_any (a b : Option Addr) (n m c d : Nat) (xs ys : List Int) (w : World) (hx : Rd w a n c xs) (hy : Rd w b m d ys) :
    Calls Tryz.prog 234 #[.slice a n c, .slice b m d] w fun e w' => e = .returned (.bool (decide (xs = ys))) ∧ w = w' := by
  have h1 := run_str hx
  have h2 := run_str hy
  have b1 := at_byte hx.2.2.2.2.1
  have b2 := at_byte hy.2.2.2.2.1
  by_cases e : xs = ys
  · subst e
    generalize strOf xs = s at *
    rw [decide_eq_true rfl]
    clear b1 b2 hx hy
    go_enter Tryz.func234, Tryz.ntmps234
    go_wp2
    go_ret
    exact ⟨rfl, rfl⟩
  · have hne : ((strOf xs).toList == (strOf ys).toList) = false := by
      rw [beq_eq_false_iff_ne]
      exact fun h => e (strOf_eq b1 b2 (str_ext h))
    rw [decide_eq_false e]
    generalize strOf xs = s at *
    generalize strOf ys = t at *
    clear b1 b2 hx hy e
    go_enter Tryz.func234, Tryz.ntmps234
    go_wp2
    go_ret
    exact ⟨rfl, rfl⟩
open Go.RowKit
def Off (w : World) (g b : Nat) : Prop := b < w.heap.size ∧ b ≠ g ∧ ∀ v, w.cell? ⟨g, 0, none⟩ = some v → v.ownBlock ≠ some b
open Go.RowKit
open Go.RowKit
structure Wl (w v : World) (G b0 : Nat) (ka : Option Addr) (kn kc : Nat) (va : Option Addr) (vn vc : Nat) (ia : Option Addr) (jn ic : Nat) (p : PG) (zs : List Int) : Prop where
  be : Below G w v
  wr : Wr v G 512 (some zs)
  bk : Bk v b0 93 [.slice ka kn kc, .slice va vn vc, .slice ia jn ic]
  off : Off v G b0
  pg : Pgr v (fun b => b < G) ka kn kc va vn vc ia jn ic p
open Go.RowKit
structure Pb (w v : World) (R : Nat) (a : Option Addr) (n c : Nat) (zs : List Int) (q : Int) (x y z : Value) : Prop where
  rs : Rs v R a n c zs q
  rb : Bk v w.heap.size 93 [.slice none 0 0, .slice none 0 0, .slice none 0 0]
  bk : Bk v (w.heap.size + 1) 93 [x, y, z]
  on : Only (fun y => y = R) w v
  lt : R < w.heap.size
open Go.RowKit
open Go.RowKit
set_option linter.unusedVariables false
structure RS (v : World) (P : Nat → Prop) (r : Nat) (sl : Value) (na : Option Addr) (nn nc : Nat) (pa : Option Addr) (pn pc : Nat) (V : List V3) (s : LS) : Prop where
  box : Bk v r 190 [sl, .slice na nn nc, .slice pa pn pc]
  nod : NA v (.slice na nn nc) V s.1
  pla : v.ownsRow 0 3 1 (.slice pa pn pc) s.2.length (s.2.map (Value.int .i64))
  pr : P r
  pn' : ∀ y, (Value.slice na nn nc).ownBlock = some y → P y ∧ y ≠ r
  pb : ∀ i, i < s.1.length → ∀ y, bl (vAt V i) y → P y ∧ y ≠ r
  pp : ∀ y, (Value.slice pa pn pc).ownBlock = some y → P y ∧ y ≠ r ∧ (Value.slice na nn nc).ownBlock ≠ some y ∧ ∀ i, i < s.1.length → ¬ bl (vAt V i) y
theorem RS.below {v v' : World} {P : Nat → Prop} {r : Nat} {sl : Value} {na : Option Addr} {nn nc : Nat} {pa : Option Addr} {pn pc : Nat} {V : List V3} {s : LS} (h : RS v P r sl na nn nc pa pn pc V s) (hb : Below v.heap.size v v') : RS v' P r sl na nn nc pa pn pc V s :=
  ⟨h.box.below hb, h.nod.kept hb, own_kept h.pla (only_of_below hb (fun _ => False)) (fun _ _ h => h), h.pr, h.pn', h.pb, h.pp⟩
theorem RS.mono {v : World} {P Q : Nat → Prop} {r : Nat} {sl : Value} {na : Option Addr} {nn nc : Nat} {pa : Option Addr} {pn pc : Nat} {V : List V3} {s : LS} (h : RS v P r sl na nn nc pa pn pc V s) (hq : ∀ y, y < v.heap.size → P y → Q y) : RS v Q r sl na nn nc pa pn pc V s :=
  ⟨h.box, h.nod, h.pla, hq _ h.box.lt h.pr, fun y e => ⟨hq y (World.ownsRow.lt h.nod.row y e).2 (h.pn' y e).1, (h.pn' y e).2⟩, fun i hi y e => ⟨hq y ((h.nod.own i hi).1.lt e) (h.pb i hi y e).1, (h.pb i hi y e).2⟩, fun y e => ⟨hq y (World.ownsRow.lt h.pla y e).2 (h.pp y e).1, (h.pp y e).2⟩⟩
structure RH (w : World) (S : Nat → Prop) (sl : Value) (ss : List (List Int)) : Prop where
  sh : Shr w S sl ss
  e1 : Err w 0 ∧ S 0
  e2 : Err w 1 ∧ S 1
  e3 : Err w 3 ∧ S 3
  sm : ∀ i, i < ss.length → (shAt ss i).length ≤ 1048576
open Go.RowKit
set_option linter.unusedVariables false
open Go.RowKit
def trB (old new : List Int) (n : Int) : List Int := new.take n.toNat ++ old.drop n.toNat
def sheet (zs : List Int) : List Int := if zs.length = 0 then List.replicate 512 0 else zs
def shOk (zs : List Int) : Bool := decide (zs.length = 0) || decide (zs.length = 512)
def tearV (old new : List Int) (n : Int) : Option (List Int) := if shOk old = true ∧ shOk new = true then some (trB (sheet old) (sheet new) n) else none
theorem sheet_len {zs : List Int} (h : shOk zs = true) : (sheet zs).length = 512 := by
  unfold sheet
  simp only [shOk, Bool.or_eq_true, decide_eq_true_eq] at h
  split
  · rw [List.length_replicate]
  · omega
theorem ob_made (w : World) (k : Nat) (hk : k ≤ 8192) : Ob (w.alloc (.cells (madeCells #[.int .u8 0] k) 5)) w.heap.size (.slice (some ⟨w.heap.size, 0, none⟩) k k) (List.replicate k 0) := by
  have e : (madeCells #[.int .u8 0] k).toList = (List.replicate k (0 : Int)).map (Value.int .u8) := by
    apply List.ext_getElem
    · simp [madeCells]
    · intro i h1 h2
      simp [madeCells, Nat.mod_one]
  refine ⟨by simp, .inr ⟨w.heap.size, k, madeCells #[.int .u8 0] k, by simp, Nat.le_refl _, heap_alloc_new w _, by simp, by unfold maxLen; omega, by simp [madeCells], ?_⟩⟩
  rw [e]
  simp
theorem makeB (k : Nat) (h : k ≤ 8192) : ∀ w, (Instr.makeSlice 71 (.int .i64 (k : Int)) (.int .i64 (k : Int))).run Tryz.prog w = .ok (.slice (some ⟨w.heap.size, 0, none⟩) k k) (w.alloc (.cells (madeCells #[.int .u8 0] k) 5)) :=
  fun w => run_make_row' (P := Tryz.prog) 71 5 (.int .u8 0) 1 Tryz.underlying71 infoU8 rfl .i64 .i64 k (by omega) (by omega) w
theorem Ob.setB {w : World} {B g n c : Nat} {zs : List Int} (h : Ob w B (.slice (some ⟨g, 0, none⟩) n c) zs) (j : Nat) (z : Int) : Ob (w.setCell ⟨g, j, none⟩ (.int .u8 z)) B (.slice (some ⟨g, 0, none⟩) n c) (zs.set j z) := by
  obtain ⟨k1, k2⟩ := h
  rcases k2 with ⟨k2, _⟩ | ⟨g', cap, cur, e, k3, k4, k5, k6, k7, k8⟩
  · cases k2
  · have e2 : g' = g ∧ zs.length = n ∧ cap = c := by cases e; exact ⟨rfl, rfl, rfl⟩
    obtain ⟨rfl, hn, rfl⟩ := e2
    refine ⟨by simp, .inr ⟨g', cap, cur.setIfInBounds j (.int .u8 z), by rw [List.length_set, hn], k3, ?_, by rw [List.length_set]; exact k5, k6, by simpa using k7, ?_⟩⟩
    · simp [World.setCell, Array.getElem?_modify, k4]
    · rw [List.length_set, Array.toList_setIfInBounds, List.take_set, k8, List.map_set]
theorem Ob.keepT {w w' : World} {B : Nat} {v : Value} {zs : List Int} (h : Ob w B v zs) (hb : Below w.heap.size w w') : Ob w' B v zs := own_kept h (only_of_below hb (fun _ => False)) (fun _ _ h => h)
theorem Ob.at {w : World} {B : Nat} {a : Option Addr} {n c : Nat} {zs : List Int} (h : Ob w B (.slice a n c) zs) (hp : 0 < n) : ∃ g, a = some ⟨g, 0, none⟩ ∧ B ≤ g ∧ n = zs.length ∧ n ≤ c ∧ c ≤ 9223372036854775807 ∧ (∀ o, w.frozen? ⟨g, o, none⟩ = false) ∧ ∀ i, i < n → w.cell? ⟨g, i, none⟩ = some (.int .u8 (zs[i]?.getD 0)) := by
  have hc := fun g hg => World.ownsRow.cells h (g := g) hg
  rcases h.2 with ⟨e, e2⟩ | ⟨g, cap, cur, e, hB, hg, k5, k6, k7, k8⟩
  · cases e; omega
  · have e2 : a = some ⟨g, 0, none⟩ ∧ n = zs.length ∧ c = cap := by cases e; exact ⟨rfl, rfl, rfl⟩
    obtain ⟨rfl, rfl, rfl⟩ := e2
    refine ⟨g, rfl, hB, rfl, k5, by unfold maxLen at k6; omega, fun o => by simp [World.frozen?, hg], fun i hi => ?_⟩
    have := hc g rfl i (.int .u8 (zs[i]?.getD 0)) (by simp [hi])
    rwa [Addr.add_lit, Nat.zero_add] at this
def ShPost (zs : List Int) (w : World) (e : Ending) (w' : World) : Prop := ∃ a n c, e = .returned (.tuple #[.slice a n c, .bool (shOk zs)]) ∧ Ob w' w.heap.size (.slice a n c) (sheet zs) ∧ Below w.heap.size w w'
set_option maxHeartbeats 2000000 in
theorem sheet_any (a : Option Addr) (n c : Nat) (zs : List Int) (w : World) (h : Rd w a n c zs) (hl : n ≤ 1048576) : Calls Tryz.prog 195 #[.slice a n c] w fun e w' => ShPost zs w e w' := by
  have hzl : n = zs.length := h.1
  by_cases h0 : n = 0
  · subst h0
    have HS : Hid (shOk zs = true ∧ sheet zs = List.replicate 512 0) := ⟨by simp [shOk, ← hzl], by rw [sheet, if_pos hzl.symm]⟩
    have hmk : ∀ w, (Instr.makeSlice 71 (.int .i64 512) (.int .i64 512)).run Tryz.prog w = .ok (.slice (some ⟨w.heap.size, 0, none⟩) 512 512) (w.alloc (.cells (madeCells #[.int .u8 0] 512) 5)) := fun w => makeB 512 (by omega) w
    have HO := hid (ob_made w 512 (by omega))
    have HB := hid (below_new (o := .cells (madeCells #[.int .u8 0] 512) 5) (w := w) (Below.refl _ _))
    clear h hzl
    go_enter Tryz.func195, Tryz.ntmps195
    go_wp2
    go_ret2
    exact ⟨_, _, _, by rw [HS.out.1]; rfl, by rw [HS.out.2]; exact HO.out, HB.out⟩
  · have h0' : ((n : Int) == 0) = false := by simp; omega
    have h0'' : ¬ (n : Int) = 0 := by omega
    have HS : Hid (shOk zs = decide (n = 512) ∧ sheet zs = zs) := ⟨by simp [shOk, ← hzl, h0], by rw [sheet, if_neg (by omega)]⟩
    have HO := hid (ob_new w w.heap.size (Nat.le_refl _))
    have HB := hid (below_new (o := .cells #[] 5) (w := w) (Below.refl _ _))
    have HR := hid (h.kept HB.out)
    have HZ : Hid (w.heap.size ≤ (w.alloc (.cells #[] 5)).heap.size) := HB.out.size
    have hzb : ([] : List Int).length + zs.length ≤ 70368744177664 := by rw [← hzl]; simp; omega
    clear h hzl
    go_enter Tryz.func195, Tryz.ntmps195
    go_wp2_with (at_builtin; refine wpList_append_rd rfl _ _ rfl w.heap.size _ [] rfl HO.out a n c zs rfl HR.out hzb HZ.out ?_)
    intro v3 w3 hO3 hg3
    have O3 : Hid (Ob w3 w.heap.size v3 zs) := by show Ob _ _ _ _; simpa using hO3
    have B3 : Hid (Below w.heap.size w w3) := HB.out.trans ((only_of_grown hg3 (R := fun y => (Value.slice (some ⟨w.heap.size, 0, none⟩) 0 0).ownBlock = some y) (fun k e => e)).below HZ.out (fun b hb e => by have := (World.ownsRow.lt HO.out b e).1; omega))
    obtain ⟨a3, c3, rfl⟩ := hO3.shape
    clear hO3 hg3 HO HB HR
    by_cases h5 : n = 512
    · have h5' : ((n : Int) == 512) = true := by simp; omega
      have HT : Hid (shOk zs = true) := by show _ = true; rw [HS.out.1, decide_eq_true h5]
      subst h5
      go_wp2
      go_ret2
      exact ⟨_, _, _, by rw [HT.out]; rfl, by rw [HS.out.2]; exact O3.out, B3.out⟩
    · have h5' : ((n : Int) == 512) = false := by simp; omega
      have h5'' : ¬ (n : Int) = 512 := by omega
      have HT : Hid (shOk zs = false) := by show _ = false; rw [HS.out.1, decide_eq_false h5]
      go_wp2
      go_ret2
      exact ⟨_, _, _, by rw [HT.out]; rfl, by rw [HS.out.2]; exact O3.out, B3.out⟩
theorem tr_step {old new : List Int} (ho : old.length = 512) (hn : new.length = 512) {j : Nat} (hj : j < 512) : (trB old new (j : Int)).set j (new[j]?.getD 0) = trB old new ((j + 1 : Nat) : Int) := by
  unfold trB
  rw [Int.toNat_natCast, Int.toNat_natCast]
  have hl : (new.take j).length = j := by rw [List.length_take]; omega
  have hd : old.drop j = (old[j]?.getD 0) :: old.drop (j + 1) := by
    rw [List.drop_eq_getElem_cons (by omega)]; simp [show j < old.length by omega]
  have ht : new.take (j + 1) = new.take j ++ [new[j]?.getD 0] := by
    rw [List.take_succ_eq_append_getElem (by omega)]; simp [show j < new.length by omega]
  rw [List.set_append_right _ _ (by omega), hl, Nat.sub_self, hd, List.set_cons_zero, ht, List.append_assoc]
  rfl
theorem tr_len {old new : List Int} (ho : old.length = 512) (hn : new.length = 512) (n : Int) : (trB old new n).length = 512 := by
  rw [trB, List.length_append, List.length_take, List.length_drop]
  omega
theorem tr_full {old new : List Int} (ho : old.length = 512) (hn : new.length = 512) {n : Int} (h : 512 ≤ n) : trB old new n = trB old new ((512 : Nat) : Int) := by
  rw [trB, trB, List.take_of_length_le (by omega), List.drop_eq_nil_of_le (by omega), List.take_of_length_le (by omega), List.drop_eq_nil_of_le (by omega)]
theorem tr_stop {old new : List Int} {n : Int} {j : Nat} (h : n ≤ (j : Int)) (h2 : j = 0 ∨ (j : Int) ≤ n) : trB old new n = trB old new (j : Int) := by
  have e : n.toNat = j := by omega
  rw [trB, trB, e, Int.toNat_natCast]
def TePost (o : Option (List Int)) (w : World) (e : Ending) (w' : World) : Prop := Below w.heap.size w w' ∧ ((o = none ∧ e = .returned (.slice none 0 0)) ∨ ∃ v zs, o = some zs ∧ e = .returned v ∧ Ob w' w.heap.size v zs)
set_option maxHeartbeats 2000000 in
theorem specTear_any (a : Option Addr) (n c : Nat) (xs : List Int) (b : Option Addr) (m d : Nat) (ys : List Int) (t : Int) (w : World) (hx : Rd w a n c xs) (hy : Rd w b m d ys) (hn : n ≤ 1048576) (hm : m ≤ 1048576) :
    Calls Tryz.prog 143 #[.slice a n c, .slice b m d, .int .i64 t] w fun e w' => TePost (tearV xs ys t) w e w' := by
  have HY := hid hy
  have HX := hid hx
  have HT : Hid (tearV xs ys t = if shOk xs = true ∧ shOk ys = true then some (trB (sheet xs) (sheet ys) t) else none) := rfl
  clear hx hy
  go_enter Tryz.func143, Tryz.ntmps143
  go_wp2_with fail
  refine (sheet_any a n c xs _ HX.out hn).mono ?_
  rintro e w1 ⟨a1, n1, c1, rfl, hO1, hb1⟩
  have HY1 := hid (HY.out.kept hb1)
  have O1 := hid hO1
  have B1 := hid hb1
  clear hO1 hb1
  go_wp2_with fail
  refine (sheet_any b m d ys _ HY1.out hm).mono ?_
  rintro e w2 ⟨a2, n2, c2, rfl, hO2, hb2⟩
  have O1' := hid (O1.out.keepT hb2)
  have O2 := hid hO2
  have B2 : Hid (Below w.heap.size w w2) := B1.out.trans (hb2.mono B1.out.size)
  have HSEP : Hid (∀ y, (Value.slice a1 n1 c1).ownBlock = some y → y < w1.heap.size) := fun y e => (World.ownsRow.lt O1.out y e).2
  clear hO2 hb2 O1 B1 HY1
  cases h1 : shOk xs with
  | false =>
    have HN : Hid (tearV xs ys t = none) := by show _ = _; rw [HT.out, if_neg (by rw [h1]; simp)]
    go_wp2
    go_ret
    exact ⟨B2.out, .inl ⟨HN.out, rfl⟩⟩
  | true =>
    cases h2 : shOk ys with
    | false =>
      have HN : Hid (tearV xs ys t = none) := by show _ = _; rw [HT.out, if_neg (by rw [h2]; simp)]
      go_wp2
      go_ret
      exact ⟨B2.out, .inl ⟨HN.out, rfl⟩⟩
    | true =>
      have HN : Hid (tearV xs ys t = some (trB (sheet xs) (sheet ys) t)) := by show _ = _; rw [HT.out, if_pos ⟨h1, h2⟩]
      have HL1 := hid (sheet_len h1)
      have HL2 := hid (sheet_len h2)
      clear HT h1 h2
      generalize sheet xs = xs' at *
      generalize sheet ys = ys' at *
      obtain ⟨n1e, n2e⟩ : n1 = 512 ∧ n2 = 512 := by
        obtain ⟨_, _, e1⟩ := O1'.out.shape
        obtain ⟨_, _, e2⟩ := O2.out.shape
        cases e1; cases e2
        exact ⟨HL1.out, HL2.out⟩
      subst n1e n2e
      obtain ⟨g1, e1, hB1, -, hc1, hc1', -, -⟩ := O1'.out.at (by omega)
      obtain ⟨g2, e2, hB2, -, hc2, hc2', -, -⟩ := O2.out.at (by omega)
      subst e1 e2
      have HNE : Hid (g1 ≠ g2) := by have := HSEP.out g1 rfl; show _ ≠ _; omega
      have O0 : Hid (Ob w2 w.heap.size (.slice (some ⟨g1, 0, none⟩) 512 c1) (trB xs' ys' ((0 : Nat) : Int))) := by show Ob _ _ _ _; simpa [trB] using O1'.out
      have HG1 := hid hB1
      have O2' : Hid (Ob w2 0 (.slice (some ⟨g2, 0, none⟩) 512 c2) ys') := by
        refine ⟨O2.out.1, O2.out.2.imp id ?_⟩
        rintro ⟨g, cap, cur, k1, k2, k3⟩
        exact ⟨g, cap, cur, k1, Nat.zero_le _, k3⟩
      clear O1' O2 HSEP hB1 hB2
      go_wp2_with fail
      go_loopw [11] (fun i wr => ∃ (j : Nat), j ≤ 512 ∧ i = .int .i64 j ∧ (j = 0 ∨ (j : Int) ≤ t) ∧ Hid (Ob wr w.heap.size (.slice (some ⟨g1, 0, none⟩) 512 c1) (trB xs' ys' (j : Int))) ∧ Hid (Ob wr 0 (.slice (some ⟨g2, 0, none⟩) 512 c2) ys') ∧ Hid (Below w.heap.size w wr)) (fun i _ => 512 - (intOf i).toNat)
      case atStart => exact ⟨0, by omega, rfl, .inl rfl, O0.out, O2'.out, B2.out⟩
      case round =>
        obtain ⟨j, hj, rfl, hjt, P1, P2, B3⟩ := hrel
        clear O0 O2' B2
        by_cases q1 : (j : Int) < 512
        · by_cases q2 : (j : Int) < t
          · obtain ⟨g, e, -, hl, -, -, hf, hcell⟩ := P1.out.at (by omega)
            cases e
            obtain ⟨g, e, -, hl2, -, -, -, hcell2⟩ := P2.out.at (by omega)
            cases e
            have m1 := hcell j (by omega)
            have m2 := hcell2 j (by omega)
            have f1 := hf j
            have HST := hid (tr_step HL1.out HL2.out (show j < 512 by omega))
            have P1' : Hid (Ob (wr.setCell ⟨g1, j, none⟩ (.int .u8 (ys'[j]?.getD 0))) w.heap.size (.slice (some ⟨g1, 0, none⟩) 512 c1) (trB xs' ys' ((j + 1 : Nat) : Int))) := by
              show Ob _ _ _ _
              rw [← HST.out]
              exact P1.out.setB j _
            have P2' : Hid (Ob (wr.setCell ⟨g1, j, none⟩ (.int .u8 (ys'[j]?.getD 0))) 0 (.slice (some ⟨g2, 0, none⟩) 512 c2) ys') := own_kept P2.out (only_set (R := fun y => y = g1) rfl _) (fun k e e2 => by cases e; exact HNE.out e2.symm)
            have B3' : Hid (Below w.heap.size w (wr.setCell ⟨g1, j, none⟩ (.int .u8 (ys'[j]?.getD 0)))) := B3.out.setCell (p := ⟨g1, j, none⟩) HG1.out _
            clear hcell hcell2 hf P1 P2 B3 HST hl hl2
            generalize ys'[j]?.getD 0 = z at *
            generalize (trB xs' ys' (j : Int))[j]?.getD 0 = z2 at *
            go_wp2
            go_roundw
            case rel => exact ⟨j + 1, by omega, by go_num, .inr (by omega), P1'.out, P2'.out, B3'.out⟩
            case measure => simp [intOf]; omega
          · have HE : Hid (trB xs' ys' t = trB xs' ys' (j : Int)) := tr_stop (by omega) hjt
            clear hjt
            go_wp2
            go_ret
            exact ⟨B3.out, .inr ⟨_, _, by rw [HN.out, HE.out], rfl, P1.out⟩⟩
        · obtain rfl : j = 512 := by omega
          have HE : Hid (trB xs' ys' t = trB xs' ys' ((512 : Nat) : Int)) := tr_full HL1.out HL2.out (by omega)
          go_wp2
          go_ret
          exact ⟨B3.out, .inr ⟨_, _, by rw [HN.out, HE.out], rfl, P1.out⟩⟩
open Go.RowKit
theorem shOk_iff (zs : List Int) : shOk zs = true ↔ zs.length = 0 ∨ zs.length = 512 := by simp only [shOk, Bool.or_eq_true, decide_eq_true_eq]
def shV (zs : List Int) : Option (List Int) := if shOk zs = true then some (sheet zs) else none
set_option maxHeartbeats 1000000 in
theorem sheetOk_any (a : Option Addr) (n c : Nat) (zs : List Int) (w : World) (h : n = zs.length) (hn : n ≤ 9223372036854775807) :
    Calls Tryz.prog 147 #[.slice a n c] w fun e w' => e = .returned (.bool (shOk zs)) ∧ w' = w := by
  by_cases h0 : n = 0
  · have HV : Hid (shOk zs = true) := (shOk_iff zs).2 (by omega)
    subst h0
    clear h
    go_enter Tryz.func147, Tryz.ntmps147
    go_wp2
    go_ret
    exact ⟨by rw [HV.out]; rfl, rfl⟩
  · have h0' : ((n : Int) == 0) = false := by simp; omega
    have h0'' : ¬ (n : Int) = 0 := by omega
    by_cases h5 : n = 512
    · have HV : Hid (shOk zs = true) := (shOk_iff zs).2 (by omega)
      subst h5
      clear h
      go_enter Tryz.func147, Tryz.ntmps147
      go_wp2
      go_ret
      exact ⟨by rw [HV.out]; rfl, rfl⟩
    · have h5' : ((n : Int) == 512) = false := by simp; omega
      have h5'' : ¬ (n : Int) = 512 := by omega
      have HV : Hid (shOk zs = false) := by
        show _ = false
        rw [Bool.eq_false_iff]
        intro e
        have := (shOk_iff zs).1 e
        omega
      clear h
      go_enter Tryz.func147, Tryz.ntmps147
      go_wp2
      go_ret
      exact ⟨by rw [HV.out]; rfl, rfl⟩
set_option maxHeartbeats 2000000 in
theorem sheetBytes_any (a : Option Addr) (n c : Nat) (zs : List Int) (w : World) (h : Rd w a n c zs) (he : Err w 0) (he2 : Err w 1) :
    Calls Tryz.prog 232 #[.slice a n c] w fun e w' => Put w (shV zs) e w' := by
  have hzl : n = zs.length := h.1
  have HC := hid (sheetOk_any a n c zs w hzl (by have := h.2.1; have := h.2.2.1; omega))
  by_cases hok : n = 0 ∨ n = 512
  · have HV : Hid (fl zs 512 = shV zs) := by
      show _ = _
      rw [shV, if_pos ((shOk_iff zs).2 (by omega)), sheet, fl, if_pos (by omega)]
      rcases hok with e | e
      · rw [if_pos (by omega), List.eq_nil_of_length_eq_zero (by omega : zs.length = 0)]
        rfl
      · rw [if_neg (by omega), ← hzl, e]
        simp
    have HT : Hid (shOk zs = true) := (shOk_iff zs).2 (by omega)
    have HR := hid h
    have HE := hid he
    have HE2 := hid he2
    have hn5 : n ≤ 1099511627776 := by omega
    clear h he he2 hok hzl
    go_enter Tryz.func232, Tryz.ntmps232
    go_wp2_with fail
    refine HC.out.mono ?_
    rintro e w0 ⟨rfl, rfl⟩
    rw [HT.out]
    go_wp2_with fail
    refine (implFill_any a _ c zs 512 _ HR.out (by omega) HE.out HE2.out HE.out.lt HE2.out.lt).mono ?_
    intro e w1 hput
    rw [HV.out] at hput
    have HP := hid hput
    rcases hput.2 with ⟨_, rfl⟩ | ⟨v, out, _, rfl, ho⟩
    · clear hput
      go_wp2
      go_ret2
      exact HP.out
    · obtain ⟨a', c', rfl⟩ := ho.shape
      clear hput ho
      go_wp2
      go_ret2
      exact HP.out
  · have HN : Hid (shV zs = none) := by
      show _ = _
      rw [shV, if_neg]
      rw [shOk_iff]
      omega
    have HT : Hid (shOk zs = false) := by
      show _ = false
      rw [Bool.eq_false_iff]
      intro e
      have := (shOk_iff zs).1 e
      omega
    clear h he he2 hok hzl
    go_enter Tryz.func232, Tryz.ntmps232
    go_wp2_with fail
    refine HC.out.mono ?_
    rintro e w0 ⟨rfl, rfl⟩
    rw [HT.out]
    go_wp2
    go_ret2
    exact ⟨Below.refl _ _, .inl ⟨HN.out, rfl⟩⟩
open Go.RowKit Go.Shelf
set_option linter.unusedVariables false
attribute [local go_sem] Oper.semAt_some
def Lsw (n₀ : Nat) (W : World) (a : Option Addr) (n : Nat) (T : Nat → Int) (A : Nat → Option Addr) (N C : Nat → Nat) : Prop :=
  0 < n → ∃ b off, a = some ⟨b, off, none⟩ ∧ b < n₀ ∧ ∀ i, i < n → W.cell? ⟨b, off + i * 2, none⟩ = some (.int .i64 (T i)) ∧ W.cell? ⟨b, off + i * 2 + 1, none⟩ = some (.slice (A i) (N i) (C i))
theorem Lsw.below {n₀ : Nat} {W W' : World} {a : Option Addr} {n : Nat} {T : Nat → Int} {A : Nat → Option Addr} {N C : Nat → Nat} (h : Lsw n₀ W a n T A N C) (hb : Below n₀ W W') : Lsw n₀ W' a n T A N C := by
  intro hp
  obtain ⟨b, off, rfl, hbn, hc⟩ := h hp
  exact ⟨b, off, rfl, hbn, fun i hi => ⟨(hb.cell (p := ⟨b, off + i * 2, none⟩) hbn).trans (hc i hi).1, (hb.cell (p := ⟨b, off + i * 2 + 1, none⟩) hbn).trans (hc i hi).2⟩⟩
def dnTo (n k : Nat) : List Nat := (List.range k).map fun j => n - 1 - j
theorem dnTo_succ (n k : Nat) : dnTo n (k + 1) = dnTo n k ++ [n - 1 - k] := by simp [dnTo, List.range_succ]
theorem dnTo_length (n k : Nat) : (dnTo n k).length = k := by simp [dnTo]
theorem dnTo_pre (n : Nat) {k m : Nat} (h : k ≤ m) : dnTo n k <+: dnTo n m := by
  obtain ⟨j, rfl⟩ : ∃ j, m = k + j := ⟨m - k, by omega⟩
  clear h
  induction j with
  | zero => exact List.prefix_refl _
  | succ j ih => rw [← Nat.add_assoc, dnTo_succ]; exact ih.trans (List.prefix_append _ _)
set_option maxRecDepth 100000 in
set_option maxHeartbeats 4000000 in
theorem behind1_in (F : Fence) (m : Nat) (h6 : F.fn 254) (hro : F.round = none) (hm : 1 ≤ m) (l Bn n₀ : Nat) (a : Option Addr) (n c : Nat) (T : Nat → Int) (A : Nat → Option Addr) (N C : Nat → Nat) (J Jx : List Nat → World → Prop)
    (hY : ∀ pre x W, J pre W → pre.length < n → YieldAt F (m - 1) Tryz.prog l #[.agg #[.int .i64 (T x), .slice (A x) (N x) (C x)]] W fun e W' =>
      (e = .returned (.bool true) ∧ J (pre ++ [x]) W' ∧ Below n₀ W W') ∨ (e = .returned (.bool false) ∧ Jx (pre ++ [x]) W'))
    (W : World) (hB0 : Bn < n₀) (hBn : W.cell? ⟨Bn, 0, none⟩ = some (.slice a n c)) (hL : Lsw n₀ W a n T A N C) (hn : n ≤ c) (hc : c ≤ 9223372036854775807) (h0 : J [] W) :
    CallsIn F m Tryz.prog 254 #[.func (.yield l) #[] #[], .pointer (some ⟨Bn, 0, none⟩)] W fun e W' => (∃ v, e = .returned v) ∧
      ((∃ ys, ys = dnTo n n ∧ J ys W') ∨ (∃ pre, pre <+: dnTo n n ∧ Jx pre W')) := by
  refine callsIn_of_wp Tryz.func254 rfl h6 ?_ hro
  simp only [Tryz.ntmps254, List.size_toArray, List.length_cons, List.length_nil, Nat.reduceAdd, Nat.reduceSub, Array.replicate_succ, Array.replicate_zero, List.push_toArray, List.append_toArray, List.nil_append, List.cons_append]
  gi_wp2
  gi_loopw [3] (fun p wr => ∃ k : Nat, k ≤ n ∧ p = .int .i64 ((k : Int) - 1) ∧ Hid (J (dnTo n (n - k)) wr) ∧ wr.cell? ⟨Bn, 0, none⟩ = some (.slice a n c) ∧ Hid (Lsw n₀ wr a n T A N C)) (fun p _ => (intOf p + 1).toNat)
  case atStart => exact ⟨n, Nat.le_refl _, by go_num, by rw [Nat.sub_self]; exact h0, hBn, hL⟩
  case round =>
    obtain ⟨k, hk, rfl, HJ, hcB, HL⟩ := hrel
    cases k with
    | zero =>
      have HJ' : Hid (J (dnTo n n) wr) := HJ.out
      have hneg : ¬ (0 : Int) ≤ ((0 : Nat) : Int) - 1 := by omega
      gi_wp2
      go_end0
      exact ⟨⟨_, rfl⟩, .inl HJ'.out⟩
    | succ j =>
      obtain ⟨b, off, rfl, hbn, hcell⟩ := HL.out (by omega)
      obtain ⟨m0, m1⟩ := hcell j (by omega)
      have hj : (((j + 1 : Nat) : Int) - 1) = (j : Int) := by omega
      rw [hj]
      have hjn : (j : Int) < (n : Int) := by omega
      have HP : Hid (dnTo n (n - j) = dnTo n (n - (j + 1)) ++ [j]) := by
        show _ = _
        rw [show n - j = n - (j + 1) + 1 by omega, dnTo_succ, show n - 1 - (n - (j + 1)) = j by omega]
      obtain ⟨fn, tmps, assign, body, hy, hR⟩ := hY _ j wr HJ.out (by rw [dnTo_length]; omega)
      clear hcell
      gi_wp2
      refine hR.mono ?_
      rintro e W3 (⟨rfl, hJ3, hk3⟩ | ⟨rfl, hJx3⟩)
      · have hq3 : W3.cell? ⟨Bn, 0, none⟩ = some (.slice (some ⟨b, off, none⟩) n c) := (hk3.cell (p := ⟨Bn, 0, none⟩) hB0).trans hcB
        have HL3 := hid (HL.out.below hk3)
        have HJ3 : Hid (J (dnTo n (n - j)) W3) := by rw [HP.out]; exact hJ3
        clear hJ3 hk3 m0 m1 hcB HL
        gi_wp2
        go_roundw
        case rel => exact ⟨j, by omega, by go_num, HJ3.out, hq3, HL3.out⟩
        case measure => simp [intOf]
      · have HX : Hid (Jx (dnTo n (n - j)) W3) := by rw [HP.out]; exact hJx3
        gi_wp2
        refine bodyPost_ret (results_none rfl _ _ _) rfl ?_
        exact ⟨⟨_, rfl⟩, .inr ⟨_, dnTo_pre n (by omega), HX.out⟩⟩
theorem behind_stops (F : Fence) (m : Nat) (h6 : F.fn 254) (hro : F.round = none) (hm : 1 ≤ m) (Bn n₀ : Nat) (a : Option Addr) (n c : Nat) (T : Nat → Int) (A : Nat → Option Addr) (N C : Nat → Nat) (w : World) (hB0 : Bn < n₀) (hn₀ : n₀ ≤ w.heap.size)
    (hBn : w.cell? ⟨Bn, 0, none⟩ = some (.slice a n c)) (hL : Lsw n₀ w a n T A N C) (hn : n ≤ c) (hc : c ≤ 9223372036854775807) :
    SeqStopsK F m Tryz.prog 254 #[.pointer (some ⟨Bn, 0, none⟩)] (fun x : Nat => #[Value.agg #[.int .i64 (T x), .slice (A x) (N x) (C x)]]) (Below n₀) (fun ys => ys = dnTo n n) (fun pre => pre <+: dnTo n n) n w := fun l J Jx W hW _ _ hY h0 =>
  behind1_in F m h6 hro hm l Bn n₀ a n c T A N C J Jx hY W hB0 ((hW.cell (p := ⟨Bn, 0, none⟩) (by show Bn < _; omega)).trans hBn) (hL.below (hW.mono hn₀)) hn hc h0
set_option maxHeartbeats 1000000 in
theorem behind_in (F : Fence) (m : Nat) (h5 : F.fn 231) (hro : F.round = none) (a : Option Addr) (n c : Nat) (w : World) :
    CallsIn F m Tryz.prog 231 #[.slice a n c] w fun e w' => e = .returned (.func (.func 254) #[] #[.pointer (some ⟨w.heap.size, 0, none⟩)]) ∧ w' = w.alloc (.cells #[.slice a n c] 23) := by
  refine callsIn_of_wp Tryz.func231 rfl h5 ?_ hro
  simp only [Tryz.ntmps231, List.size_toArray, List.length_cons, List.length_nil, Nat.reduceAdd, Nat.reduceSub, Array.replicate_succ, Array.replicate_zero, List.push_toArray, List.append_toArray, List.nil_append, List.cons_append]
  gi_wp2
  go_ret
  exact ⟨rfl, rfl⟩
open Go.RowKit Go.Shelf
set_option linter.unusedVariables false
theorem bt6 {u v w : World} (h : Below u.heap.size u v) (k : Below v.heap.size v w) : Below u.heap.size u w := h.trans (k.mono h.size)
set_option maxHeartbeats 1000000 in
theorem copyBytes_any (a : Option Addr) (n c : Nat) (zs : List Int) (w : World) (h : Rd w a n c zs) (hn : n ≤ 1048576) :
    Calls Tryz.prog 146 #[.slice a n c] w fun e w' => ∃ v, e = .returned v ∧ Ob w' w.heap.size v zs ∧ Below w.heap.size w w' := by
  have HR := hid h
  have hzl : n = zs.length := h.1
  have HO : Hid (Ob w w.heap.size (.slice none 0 0) []) := World.ownsRow_nil _ _ _ _
  have hzb : ([] : List Int).length + zs.length ≤ 70368744177664 := by rw [← hzl]; simp; omega
  clear h hzl
  go_enter Tryz.func146, Tryz.ntmps146
  go_wp2_with (at_builtin; refine wpList_append_rd rfl _ _ rfl w.heap.size _ [] rfl HO.out a n c zs rfl HR.out hzb (Nat.le_refl _) ?_)
  intro v3 w3 hO3 hg3
  have O3 : Hid (Ob w3 w.heap.size v3 zs) := by show Ob _ _ _ _; simpa using hO3
  have B3 : Hid (Below w.heap.size w w3) := (only_of_grown hg3 (R := fun _ => False) (fun k e => by cases e)).below (Nat.le_refl _) (fun _ _ h => h)
  obtain ⟨a3, c3, rfl⟩ := hO3.shape
  clear hO3 hg3 HO HR
  go_wp2
  go_ret
  exact ⟨_, rfl, O3.out, B3.out⟩
def lastW (ds : List DW) (t : Int) : Nat → Option (List Int)
  | 0 => none
  | k + 1 => if (dwAt ds k).1 = t then some (dwAt ds k).2 else lastW ds t k
def rdV (d : DK) (t : Int) : Option (List Int) :=
  if dkOk d = true ∧ 0 ≤ t ∧ t < (d.sh.length : Int) then some ((lastW d.dw t d.dw.length).getD (sheet (shAt d.sh t.toNat))) else none
def RdPost (o : Option (List Int)) (w : World) (e : Ending) (w' : World) : Prop := ∃ a n c, e = .returned (.tuple #[.slice a n c, .bool o.isSome]) ∧ Ob w' w.heap.size (.slice a n c) (o.getD []) ∧ Below w.heap.size w w'
theorem shOk_sht (l : List Int) : shOk l = shtOk l := rfl
set_option maxHeartbeats 4000000 in
theorem specDiskRead_any (S : Nat → Prop) (sa : Option Addr) (sn sc : Nat) (da : Option Addr) (dn dc : Nat) (d : DK) (t : Int) (w : World) (h : Dk w S sa sn sc da dn dc d) (hsm : smallD d) :
    Calls Tryz.prog 140 #[.agg #[.slice sa sn sc, .slice da dn dc], .int .i64 t] w fun e w' => RdPost (rdV d t) w e w' := by
  have HS := hid h.hs
  have HD := hid h.hd
  have HSM := hid hsm
  obtain ⟨ns, hsc, hsc'⟩ := h.hs.len
  obtain ⟨nd, hdc, hdc'⟩ := h.hd.len
  have HNS := hid ns
  have HND := hid nd
  have HB0 : Hid (Below w.heap.size w (w.alloc (.cells #[.slice sa sn sc, .slice da dn dc] 25))) := below_new (Below.refl _ _)
  have KP : Hid (Bk (w.alloc (.cells #[.slice sa sn sc, .slice da dn dc] 25)) w.heap.size 25 [.slice sa sn sc, .slice da dn dc]) := Bk.new w 25 [.slice sa sn sc, .slice da dn dc]
  have HK := hid (specDiskOk_any S sa sn sc da dn dc d _ (h.below HB0.out))
  have HV : Hid (rdV d t = if dkOk d = true ∧ 0 ≤ t ∧ t < (d.sh.length : Int) then some ((lastW d.dw t d.dw.length).getD (sheet (shAt d.sh t.toNat))) else none) := rfl
  have HN : Hid (¬ (dkOk d = true ∧ 0 ≤ t ∧ t < (d.sh.length : Int)) → rdV d t = none) := fun hh => by rw [HV.out, if_neg hh]
  clear h ns nd hsm
  go_enter Tryz.func140, Tryz.ntmps140
  go_wp2_with fail
  refine HK.out.mono ?_
  rintro e w1 ⟨rfl, hb⟩
  have K1 := hid (KP.out.below hb)
  have B1 := hid (HB0.out.trans (hb.mono HB0.out.size))
  clear hb HB0 KP HK
  cases hok : dkOk d with
  | false =>
    have HF := hid (HN.out (by rw [hok]; simp))
    go_wp2
    go_ret2
    rw [HF.out]
    exact ⟨_, _, _, rfl, World.ownsRow_nil _ _ _ _, B1.out⟩
  | true =>
    have HOK := hid hok
    clear hok
    by_cases t0 : t < 0
    · have HF := hid (HN.out (by omega))
      go_wp2
      go_ret2
      rw [HF.out]
      exact ⟨_, _, _, rfl, World.ownsRow_nil _ _ _ _, B1.out⟩
    · have c0 := K1.out.cell (j := 0) rfl
      have c1 := K1.out.cell (j := 1) rfl
      by_cases t1 : (sn : Int) ≤ t
      · have HF := hid (HN.out (by rw [← HNS.out]; omega))
        go_wp2
        go_ret2
        rw [HF.out]
        exact ⟨_, _, _, rfl, World.ownsRow_nil _ _ _ _, B1.out⟩
      · have HV2 : Hid (rdV d t = some ((lastW d.dw t d.dw.length).getD (sheet (shAt d.sh t.toNat)))) := by
          show _ = _
          rw [HV.out, if_pos ⟨HOK.out, by omega, by rw [← HNS.out]; omega⟩]
        clear HV HN
        go_wp2_with fail
        clear c0 c1
        go_loop [6] (fun i => ∃ k : Nat, k ≤ dn ∧ i = .int .i64 ((k : Int) - 1) ∧ Hid (lastW d.dw t k = lastW d.dw t d.dw.length)) (fun i => (intOf i + 1).toNat)
        case atStart => exact ⟨dn, Nat.le_refl _, by go_num, by rw [HND.out]; rfl⟩
        case round =>
          obtain ⟨k, hk, rfl, HL⟩ := hrel
          cases k with
          | zero =>
            have hneg : ¬ (0 : Int) ≤ ((0 : Nat) : Int) - 1 := by omega
            have c0 := K1.out.cell (j := 0) rfl
            obtain ⟨b, off, rfl, _, hbw, hcell⟩ := (HS.out.below B1.out).at (by omega)
            obtain ⟨u, hu⟩ : ∃ u : Nat, t = (u : Int) := ⟨t.toNat, by omega⟩
            subst hu
            obtain ⟨ap, np, cp, m0, hp⟩ := hcell u (by omega)
            have hul : u < d.sh.length := by rw [← HNS.out]; omega
            have hnp : np ≤ 1048576 := by rw [hp.len.1]; exact HSM.out.1 u hul
            have HC := hid (sheet_any ap np cp (shAt d.sh u) w1 (hp.rd hnp) hnp)
            have HSO : Hid (shOk (shAt d.sh u) = true) := by
              show _ = true
              rw [shOk_sht]
              exact ((dkOk_iff d).1 HOK.out).2.2.2.1 u hul
            have HV3 : Hid (rdV d (u : Int) = some (sheet (shAt d.sh u))) := by
              show _ = _
              rw [HV2.out, ← HL.out, lastW]
              simp
            have hu2 : (u : Int) < (sn : Int) := by omega
            clear hcell hbw hp
            go_wp2_with fail
            refine HC.out.mono ?_
            rintro e w2 ⟨a2, n2, c2, rfl, hO2, hb2⟩
            have O2 := hid hO2
            have B2 := hid (bt6 B1.out hb2)
            rw [HSO.out]
            clear hO2 hb2 HC
            go_wp2
            go_ret2
            rw [HV3.out]
            exact ⟨_, _, _, rfl, ownD_base O2.out B1.out.size, B2.out⟩
          | succ j =>
            have hj : (((j + 1 : Nat) : Int) - 1) = (j : Int) := by omega
            rw [hj]
            have c1 := K1.out.cell (j := 1) rfl
            obtain ⟨b, off, rfl, _, hbw, hcell⟩ := (HD.out.below B1.out).at (by omega)
            obtain ⟨ap, np, cp, mt, m0, hp⟩ := hcell j (by omega)
            have hjl : j < d.dw.length := by rw [← HND.out]; omega
            have hnp : np ≤ 1048576 := by rw [hp.len.1]; exact HSM.out.2 j hjl
            have HLS : Hid (lastW d.dw t (j + 1) = if (dwAt d.dw j).1 = t then some (dwAt d.dw j).2 else lastW d.dw t j) := rfl
            have hj2 : (j : Int) < (dn : Int) := by omega
            have HRD := hid (hp.rd hnp)
            have HLN := hid hp.len.1
            clear hcell hbw hp
            generalize (dwAt d.dw j).1 = tt at *
            by_cases e : tt = t
            · subst e
              have HV3 : Hid (rdV d tt = some (dwAt d.dw j).2) := by
                show _ = _
                rw [HV2.out, ← HL.out, HLS.out, if_pos rfl]
                rfl
              have HO := hid (ob_new w1 w1.heap.size (Nat.le_refl _))
              have HB := hid (below_new (o := .cells #[] 5) (w := w1) (Below.refl _ _))
              have HR := hid (HRD.out.kept HB.out)
              have hzb : ([] : List Int).length + (dwAt d.dw j).2.length ≤ 70368744177664 := by rw [← HLN.out]; simp; omega
              have HZ : Hid (w1.heap.size ≤ (w1.alloc (.cells #[] 5)).heap.size) := HB.out.size
              have k1 := (K1.out.below HB.out).cell (j := 1) rfl
              have k0 := (World.cell?_of_block (w := w1) (a := ⟨b, off + j * 2 + 1, none⟩) (w' := w1.alloc (.cells #[] 5)) (HB.out.block b (by exact block_lt m0))).trans m0
              clear HL HLS HV2
              go_wp2_with (at_builtin; refine wpList_append_rd rfl _ _ rfl w1.heap.size _ [] rfl HO.out ap np cp _ rfl HR.out hzb HZ.out ?_)
              intro v3 w3 hO3 hg3
              have O3 : Hid (Ob w3 w1.heap.size v3 (dwAt d.dw j).2) := by show Ob _ _ _ _; simpa using hO3
              have B3 : Hid (Below w1.heap.size w1 w3) := HB.out.trans ((only_of_grown hg3 (R := fun y => (Value.slice (some ⟨w1.heap.size, 0, none⟩) 0 0).ownBlock = some y) (fun k e => e)).below HZ.out (fun b hb e => by have := (World.ownsRow.lt HO.out b e).1; omega))
              obtain ⟨a3, c3, rfl⟩ := hO3.shape
              clear hO3 hg3 HO HB HR k0 k1
              go_wp2
              go_ret2
              rw [HV3.out]
              exact ⟨_, _, _, rfl, ownD_base O3.out B1.out.size, bt6 B1.out B3.out⟩
            · have e' : (tt == t) = false := by simp [e]
              have HL2 : Hid (lastW d.dw t j = lastW d.dw t d.dw.length) := by
                show _ = _
                rw [← HL.out, HLS.out, if_neg e]
              clear HL HLS
              go_wp2
              go_round
              case rel => exact ⟨j, by omega, by go_num, HL2.out⟩
              case measure => simp [intOf]
open Go.RowKit
set_option linter.unusedVariables false
structure LT (v : World) (P : Nat → Prop) (na : Option Addr) (nn nc : Nat) (pa : Option Addr) (pn pc : Nat) (V : List V3) (s : LS) : Prop where
  len : V.length = s.1.length
  row : v.ownsRow 0 97 3 (.slice na nn nc) s.1.length (ncs V)
  rd : ∀ i, i < s.1.length → Pr v (fun y => ¬ P y) (vAt V i).1 (nAt s.1 i).ps ∧ Sr v (fun y => ¬ P y) (vAt V i).2.1 (nAt s.1 i).keys
  kid : ∀ i, i < s.1.length → v.ownsRow 0 3 1 (vAt V i).2.2 (nAt s.1 i).kids.length ((nAt s.1 i).kids.map (Value.int .i64))
  apart : ∀ i j, i < s.1.length → j < s.1.length → i ≠ j → ∀ y, (vAt V i).2.2.ownBlock = some y → (vAt V j).2.2.ownBlock ≠ some y
  off : ∀ i, i < s.1.length → ∀ y, (vAt V i).2.2.ownBlock = some y → P y ∧ (Value.slice na nn nc).ownBlock ≠ some y
  pn' : ∀ y, (Value.slice na nn nc).ownBlock = some y → P y
  pla : v.ownsRow 0 3 1 (.slice pa pn pc) s.2.length (s.2.map (Value.int .i64))
  pp : ∀ y, (Value.slice pa pn pc).ownBlock = some y → P y ∧ (Value.slice na nn nc).ownBlock ≠ some y ∧ ∀ i, i < s.1.length → (vAt V i).2.2.ownBlock ≠ some y
end Go.Proofs.YtmilnejacnaejaaGreatDoor
