/-
  MetaOk, highFirst, fromHighFirst, MetaBytes and MetaRead of the program.
-/
import Derived.Test.YtijinngmfalfcabDoorMtR
import Derived.Test.YtijinngmfalfcabDoorDoor
namespace Go.Proofs.YtijinngmfalfcabDoor
open Go.RowKit
set_option maxHeartbeats 400000 in
theorem isPlace_any (n : Int) (w : World) (b : Bool) (hb : b = decide (2 ≤ n ∧ n < 400)) :
    Calls Tryd.prog 90 #[.int .i64 n] w fun e w' => e = .returned (.bool b) ∧ w = w' := by
  have HB := hid hb
  clear hb
  by_cases h0 : 2 ≤ n
  · by_cases h1 : n < 400
    · have HE : Hid (b = true) := by show _ = _; rw [HB.out, decide_eq_true (by omega)]
      clear HB
      go_enter Tryd.func90, Tryd.ntmps90
      go_wp2
      go_ret
      exact ⟨by rw [HE.out]; rfl, rfl⟩
    · have HE : Hid (b = false) := by show _ = _; rw [HB.out, decide_eq_false (by omega)]
      clear HB
      go_enter Tryd.func90, Tryd.ntmps90
      go_wp2
      go_ret
      exact ⟨by rw [HE.out]; rfl, rfl⟩
  · have HE : Hid (b = false) := by show _ = _; rw [HB.out, decide_eq_false (by omega)]
    clear HB
    go_enter Tryd.func90, Tryd.ntmps90
    go_wp2
    go_ret
    exact ⟨by rw [HE.out]; rfl, rfl⟩
set_option maxHeartbeats 4000000 in
theorem implMetaOk_any (g r : Int) (w : World) : Calls Tryd.prog 77 #[.agg #[.int .i64 g, .int .i64 r]] w fun e w' => e = .returned (.bool (mtOk g r)) ∧ Below w.heap.size w w' := by
  have HB := hid (below_new (o := .cells #[.int .i64 g, .int .i64 r] 41) (w := w) (Below.refl _ _))
  have HD : Hid (mtOk g r = (decide (1 ≤ g ∧ g ≤ 1099511627775) && (decide (r = 0) || decide (2 ≤ r ∧ r < 400)))) := rfl
  by_cases q1 : 1 ≤ g
  · by_cases q2 : g ≤ 1099511627775
    · rw [decide_eq_true (show 1 ≤ g ∧ g ≤ 1099511627775 from ⟨q1, q2⟩)] at HD
      by_cases q3 : r = 0
      · subst q3
        have HF : Hid (mtOk g 0 = true) := by show _ = true; rw [HD.out]; rfl
        clear HD
        go_enter Tryd.func77, Tryd.ntmps77
        go_wp2
        go_ret
        exact ⟨by rw [HF.out]; rfl, HB.out⟩
      · have q3' : (r == 0) = false := by simp [q3]
        have HF : Hid (mtOk g r = decide (2 ≤ r ∧ r < 400)) := by show _ = _; rw [HD.out, decide_eq_false q3]; rfl
        clear HD
        generalize hz : decide (2 ≤ r ∧ r < 400) = z at *
        have HZ := hid hz.symm
        clear hz
        go_enter Tryd.func77, Tryd.ntmps77
        go_wp2_with fail
        refine (isPlace_any r _ z HZ.out).mono ?_
        rintro e w1 ⟨rfl, rfl⟩
        go_wp2
        go_ret
        exact ⟨by rw [HF.out]; rfl, HB.out⟩
    · have HF : Hid (mtOk g r = false) := by show _ = false; rw [HD.out, decide_eq_false (by omega)]; rfl
      clear HD
      go_enter Tryd.func77, Tryd.ntmps77
      go_wp2
      go_ret
      exact ⟨by rw [HF.out]; rfl, HB.out⟩
  · have HF : Hid (mtOk g r = false) := by show _ = false; rw [HD.out, decide_eq_false (by omega)]; rfl
    clear HD
    go_enter Tryd.func77, Tryd.ntmps77
    go_wp2
    go_ret
    exact ⟨by rw [HF.out]; rfl, HB.out⟩
/-- The number without its k lowest bytes; its k lowest bytes, the highest first. -/
def shr8 (n : Int) : Nat → Int
  | 0 => n
  | k + 1 => shr8 n k / 256
def low8 (n : Int) : Nat → List Int
  | 0 => []
  | k + 1 => (shr8 n k % 256) :: low8 n k
theorem low8_len (n : Int) : ∀ k, (low8 n k).length = k
  | 0 => rfl
  | k + 1 => by rw [low8, List.length_cons, low8_len n k]
theorem low8_byte (n : Int) : ∀ k, ∀ z ∈ low8 n k, 0 ≤ z ∧ z ≤ 255
  | 0 => by intro z hz; cases hz
  | k + 1 => by
    intro z hz
    rw [low8] at hz
    rcases List.mem_cons.1 hz with rfl | h
    · omega
    · exact low8_byte n k z h
theorem low8_five (n : Int) : low8 n 5 = five n := by
  simp only [low8, shr8, five, wts, List.map_cons, List.map_nil]
  refine List.cons_eq_cons.2 ⟨by omega, List.cons_eq_cons.2 ⟨by omega, List.cons_eq_cons.2 ⟨by omega, List.cons_eq_cons.2 ⟨by omega, List.cons_eq_cons.2 ⟨by omega, rfl⟩⟩⟩⟩⟩
theorem low8_two {n : Int} (h0 : 0 ≤ n) (h1 : n < 65536) : low8 n 2 = [n / 256, n % 256] := by
  simp only [low8, shr8]
  refine List.cons_eq_cons.2 ⟨by omega, rfl⟩
theorem shr8_rng {n : Int} (h0 : 0 ≤ n) : ∀ k, 0 ≤ shr8 n k ∧ shr8 n k ≤ n
  | 0 => ⟨h0, Int.le_refl _⟩
  | k + 1 => by
    have := shr8_rng h0 k
    rw [shr8]
    omega
/-- The row that highFirst fills from behind, k of its bytes being there. -/
def lowP (n : Int) (s k : Nat) : List Int := List.replicate (s - k) 0 ++ low8 n k
theorem lowP_len (n : Int) {s k : Nat} (h : k ≤ s) : (lowP n s k).length = s := by
  rw [lowP, List.length_append, List.length_replicate, low8_len]
  omega
theorem lowP_set (n : Int) {s k : Nat} (h : k < s) : (byteVals (lowP n s k)).setIfInBounds (s - 1 - k) (.int .u8 (shr8 n k % 256)) = byteVals (lowP n s (k + 1)) := by
  obtain ⟨m, rfl⟩ : ∃ m, s = k + 1 + m := ⟨s - (k + 1), by omega⟩
  have e1 : k + 1 + m - k = m + 1 := by omega
  have e2 : k + 1 + m - (k + 1) = m := by omega
  have e3 : k + 1 + m - 1 - k = m := by omega
  rw [lowP, lowP, e1, e2, e3, byteVals, byteVals, List.setIfInBounds_toArray]
  congr 1
  rw [List.map_append, List.map_append, List.map_replicate, List.map_replicate, List.replicate_succ', List.append_assoc, List.set_append_right _ _ (by simp)]
  simp [low8]
theorem lowP_zero (n : Int) (s : Nat) : byteVals (lowP n s 0) = madeCells #[.int .u8 0] s := by
  apply Array.ext
  · simp [byteVals, lowP, low8, madeCells]
  · intro i h1 h2; simp [byteVals, lowP, low8, madeCells, Nat.mod_one]
theorem lowP_all (n : Int) (s : Nat) : lowP n s s = low8 n s := by simp [lowP]
theorem lowP_at (n : Int) {s k : Nat} (h : k ≤ s) {i : Nat} (hi : i < s) : ∃ z, (byteVals (lowP n s k))[i]? = some (.int .u8 z) := by
  have hl : i < (lowP n s k).length := by rw [lowP_len n h]; exact hi
  exact ⟨(lowP n s k)[i], by simp [byteVals, hl]⟩
set_option maxHeartbeats 2000000 in
theorem highFirst_any (n : Int) (s : Nat) (w : World) (h0 : 0 ≤ n) (hs : s ≤ 8) :
    Calls Tryd.prog 78 #[.int .i64 n, .int .i64 s] w fun e w' => e = .returned (.slice (some ⟨w.heap.size, 0, none⟩) s s) ∧ w' = w.alloc (.cells (byteVals (low8 n s)) 5) := by
  have hmk := run_make_row' (P := Tryd.prog) 46 5 (.int .u8 0) 1 Tryd.underlying46 infoU8 rfl .i64 .i64 s (by omega) (by omega)
  go_enter Tryd.func78, Tryd.ntmps78
  go_wp2
  go_loopw [0, 11] (fun v i wr => ∃ k : Nat, k ≤ s ∧ i = .int .i64 k ∧ v = .int .i64 (shr8 n k) ∧ wr = w.alloc (.cells (byteVals (lowP n s k)) 5)) (fun _ i _ => s - (intOf i).toNat)
  case atStart => exact ⟨0, Nat.zero_le _, rfl, rfl, by rw [lowP_zero]⟩
  case round =>
    obtain ⟨k, hk, rfl, rfl, rfl⟩ := hrel
    by_cases hlt : k < s
    · have hlt' : (k : Int) < (s : Int) := by omega
      obtain ⟨z, hz⟩ := lowP_at n (show k ≤ s by omega) (show s - 1 - k < s by omega)
      have HS := hid (lowP_set n hlt)
      have hr := shr8_rng h0 k
      have HN : Hid (shr8 n (k + 1) = shr8 n k / 256) := rfl
      have hx : (s : Int) - 1 - (k : Int) = ((s - 1 - k : Nat) : Int) := by omega
      generalize s - 1 - k = j at *
      generalize shr8 n k = q at *
      have hw8 : IntKind.u8.wrap q = q % 256 := by simp [IntKind.wrap, IntKind.signed, IntKind.bits]
      go_wp2
      go_roundw
      case rel => exact ⟨k + 1, by omega, by go_num, by rw [HN.out], by rw [HS.out]⟩
      case measure => simp [intOf]; omega
    · have hk' : k = s := by omega
      have HA : Hid (lowP n s k = low8 n s) := by show _ = _; rw [hk']; exact lowP_all n s
      clear hk'
      go_wp2
      go_ret
      exact ⟨rfl, by rw [HA.out]⟩
/-- The number that bytes tell, the highest first. -/
def hiF (zs : List Int) : Int := zs.foldl (fun n z => n * 256 + z) 0
theorem hiF_take (zs : List Int) {k : Nat} (h : k < zs.length) : hiF (zs.take (k + 1)) = hiF (zs.take k) * 256 + zs[k]?.getD 0 := by
  rw [List.take_succ_eq_append_getElem h, hiF, List.foldl_append]
  simp [hiF, h]
theorem hiF_rng {zs : List Int} (hb : ∀ z ∈ zs, 0 ≤ z ∧ z ≤ 255) : ∀ k, k ≤ zs.length → 0 ≤ hiF (zs.take k) ∧ (k ≤ 5 → hiF (zs.take k) < 1099511627776) ∧ (k ≤ 4 → hiF (zs.take k) < 4294967296) ∧ (k ≤ 3 → hiF (zs.take k) < 16777216) ∧ (k ≤ 2 → hiF (zs.take k) < 65536) ∧ (k ≤ 1 → hiF (zs.take k) < 256) ∧ (k ≤ 0 → hiF (zs.take k) < 1)
  | 0, _ => by simp [hiF]
  | k + 1, h => by
    have h1 := hiF_rng hb k (by omega)
    have h2 := byte_at hb k
    rw [hiF_take zs (by omega)]
    omega
set_option maxHeartbeats 2000000 in
theorem fromHighFirst_any (a : Option Addr) (n c : Nat) (zs : List Int) (w : World) (h : Rd w a n c zs) (hn : n ≤ 5) :
    Calls Tryd.prog 63 #[.slice a n c] w fun e w' => e = .returned (.int .i64 (hiF zs)) ∧ w = w' := by
  obtain ⟨hn0, hc, hm, hnm, hb, hcell⟩ := h
  have HN : Hid (n = zs.length) := hn0
  have HB := hid (at_byte hb)
  clear hn0 hb
  go_enter Tryd.func63, Tryd.ntmps63
  go_wp2
  go_loopw [3, 8] (fun v i wr => ∃ k : Nat, k ≤ n ∧ i = .int .i64 k ∧ v = .int .i64 (hiF (zs.take k)) ∧ wr = w) (fun _ i _ => n - (intOf i).toNat)
  case atStart => exact ⟨0, Nat.zero_le _, rfl, rfl, rfl⟩
  case round =>
    obtain ⟨k, hk, rfl, rfl, rfl⟩ := hrel
    by_cases hlt : k < n
    · have hlt' : (k : Int) < (n : Int) := by omega
      obtain ⟨b, off, ha, hbw, hcell⟩ := hcell (by omega)
      have hck := hcell k hlt
      have hbk := byte_at HB.out k
      have HS := hid (hiF_take zs (k := k) (by rw [← HN.out]; exact hlt))
      have hr := hiF_rng HB.out k (by rw [← HN.out]; omega)
      obtain ⟨r0, r1, r2, _⟩ := hr
      have hr1 : hiF (zs.take k) < 4294967296 := r2 (by omega)
      clear hcell r1 r2
      rw [ha]
      generalize hiF (zs.take k) = q at *
      generalize zs[k]?.getD 0 = z at *
      go_wp2
      go_roundw
      case rel => exact ⟨k + 1, by omega, by go_num, by rw [HS.out], by trivial⟩
      case measure => simp [intOf]; omega
    · have HA : Hid (hiF (zs.take k) = hiF zs) := by show _ = _; rw [List.take_of_length_le (by rw [← HN.out]; omega)]
      clear hcell
      go_wp2
      go_ret
      exact ⟨by rw [HA.out]; rfl, rfl⟩
theorem rd_nilM (w : World) : Rd w none 0 0 [] := ⟨rfl, Nat.le_refl _, by omega, by omega, by simp, fun h => by omega⟩
theorem addSt_ok {most : Nat} {zs ys : List Int} (h : zs.length + ys.length ≤ most) : addSt most (some zs) ys = some (zs ++ ys) := if_pos h
theorem fillSt_ok {most : Nat} {zs : List Int} {k : Nat} (h : zs.length + k ≤ most) : fillSt most (some zs) ((zs.length + k : Nat) : Int) = some (zs ++ List.replicate k 0) := by
  show (if (zs.length : Int) ≤ ((zs.length + k : Nat) : Int) ∧ ((zs.length + k : Nat) : Int) ≤ most then _ else _) = _
  rw [if_pos (by omega)]
  congr 3
  omega
theorem Put.lift {w u w' : World} {r : Option (List Int)} {e : Ending} (hb : Below w.heap.size w u) (h : Put u r e w') : Put w r e w' := by
  refine ⟨btw hb h.1, h.2.imp id ?_⟩
  rintro ⟨v, zs, h1, h2, h3⟩
  exact ⟨v, zs, h1, h2, h3.lower hb.size⟩
set_option maxHeartbeats 4000000 in
set_option maxRecDepth 20000 in
theorem implMetaBytes_any (g r : Int) (w : World) (he : Err w 0) (he2 : Err w 1) : Calls Tryd.prog 64 #[.agg #[.int .i64 g, .int .i64 r]] w fun e w' => Put w (mtBytes g r) e w' := by
  have B0 := hid (below_new (o := .cells #[.int .i64 g, .int .i64 r] 41) (w := w) (Below.refl _ _))
  have K0 := hid (Bk.new w 41 [.int .i64 g, .int .i64 r])
  have HP : Hid (mtBytes g r = if mtOk g r = true then some (mtFull g r) else none) := rfl
  have HE := hid he
  have HE2 := hid he2
  clear he he2
  go_enter Tryd.func64, Tryd.ntmps64
  go_wp2_with fail
  refine (implMetaOk_any g r _).mono ?_
  generalize w.alloc (.cells #[.int .i64 g, .int .i64 r] 41) = U at *
  rintro e w1 ⟨rfl, hb1⟩
  have B1 := hid (btw B0.out hb1)
  have K1 := hid (K0.out.below hb1)
  clear hb1 B0 K0
  cases hok : mtOk g r with
  | false =>
    have HN : Hid (mtBytes g r = none) := by show _ = _; rw [HP.out, hok]; rfl
    go_wp2
    go_ret2
    exact ⟨B1.out, .inl ⟨HN.out, rfl⟩⟩
  | true =>
    have HN : Hid (mtBytes g r = some (mtFull g r)) := by show _ = _; rw [HP.out, hok]; rfl
    obtain ⟨g0, g1, r0, r1⟩ := mtOk_facts hok
    clear hok HP
    have c0 := K1.out.cell (j := 0) rfl
    go_wp2_with fail
    refine (highFirst_any g 5 _ (by omega) (by omega)).mono ?_
    rintro e w2 ⟨rfl, hw2⟩
    have ba : Below w1.heap.size w1 w2 := by rw [hw2]; exact below_new (Below.refl _ _)
    have R2 : Hid (Rd w2 (some ⟨w1.heap.size, 0, none⟩) 5 5 (five g)) := by
      rw [hw2, low8_five]
      exact rd_new w1 (five g) (by rw [five_len]; omega) (byte_at (five_byte g))
    have B2 := hid (btw B1.out ba)
    have K2 := hid (K1.out.below ba)
    have E2 := hid (HE.out.below B2.out HE.out.lt)
    have F2 := hid (HE2.out.below B2.out HE2.out.lt)
    clear hw2 ba B1 K1 HE HE2 c0
    generalize w1.heap.size = q at *
    go_wp2_with fail
    refine (newWriter_any 512 none 0 0 [] w2 E2.out E2.out.lt (rd_nilM _) (by omega) (by omega)).mono ?_
    rintro e w3 ⟨rfl, hb3, hw3⟩
    have W3 : Hid (Wr w3 w2.heap.size 512 (some [])) := hw3
    have C3 := hid hb3
    clear hw3 hb3
    go_wp2_with fail
    refine (addByte_any w2.heap.size 512 (some []) 77 w3 W3.out (E2.out.below C3.out E2.out.lt) E2.out.lt (by omega) (by omega)).mono ?_
    rintro e w4 ⟨rfl, hb4, hw4⟩
    have W4 : Hid (Wr w4 w2.heap.size 512 (some [77])) := hw4
    have C4 := hid (C3.out.trans hb4)
    clear hw4 hb4 W3 C3
    go_wp2_with fail
    refine (add_any w2.heap.size 512 (some [77]) _ 5 5 (five g) w4 W4.out (E2.out.below C4.out E2.out.lt) (R2.out.kept C4.out) (by omega)).mono ?_
    rintro e w5 ⟨rfl, hb5, hw5⟩
    rw [addSt_ok (by rw [five_len]; decide)] at hw5
    have W5 := hid hw5
    have C5 := hid (C4.out.trans hb5)
    have c1 := (K2.out.below C5.out).cell (j := 1) rfl
    clear hw5 hb5 W4 C4
    go_wp2_with fail
    refine (highFirst_any r 2 _ (by omega) (by omega)).mono ?_
    rintro e w6 ⟨rfl, hw6⟩
    have ba : Below w5.heap.size w5 w6 := by rw [hw6]; exact below_new (Below.refl _ _)
    have R6 : Hid (Rd w6 (some ⟨w5.heap.size, 0, none⟩) 2 2 [r / 256, r % 256]) := by
      rw [hw6, low8_two r0 (by omega)]
      exact rd_new w5 [r / 256, r % 256] (by simp) (byte_at (fun z hz => by simp at hz; omega))
    have W6 : Hid (Wr w6 w2.heap.size 512 (some ([77] ++ five g))) := by rw [hw6]; exact W5.out.alloc _
    have C6 := hid (C5.out.trans (ba.mono C5.out.size))
    clear hw6 ba W5 C5 c1
    generalize w5.heap.size = q5 at *
    go_wp2_with fail
    refine (add_any w2.heap.size 512 _ _ 2 2 [r / 256, r % 256] w6 W6.out (E2.out.below C6.out E2.out.lt) R6.out (by omega)).mono ?_
    rintro e w7 ⟨rfl, hb7, hw7⟩
    rw [addSt_ok (by rw [List.length_append, five_len]; simp)] at hw7
    have W7 : Hid (Wr w7 w2.heap.size 512 (some (mtHead g r))) := hw7
    have C7 := hid (C6.out.trans hb7)
    have HL8 : Hid ((mtHead g r).length = 8) := by show _ = _; simp [mtHead, five_len]
    clear hw7 hb7 W6 C6 R6
    have HFL : Hid (fillSt 512 (some (mtHead g r)) 507 = some (mtHead g r ++ List.replicate 499 0)) := by
      show _ = _
      have := fillSt_ok (most := 512) (zs := mtHead g r) (k := 499) (by rw [HL8.out]; omega)
      rw [HL8.out] at this
      exact this
    go_wp2_with fail
    refine (fill_any w2.heap.size 512 _ 507 w7 W7.out (by omega) (E2.out.below C7.out E2.out.lt) (F2.out.below C7.out F2.out.lt) E2.out.lt).mono ?_
    rintro e w8 ⟨rfl, hb8, hw8⟩
    rw [HFL.out] at hw8
    have W8 := hid hw8
    have C8 := hid (C7.out.trans hb8)
    clear hw8 hb8 W7 C7 HFL
    go_wp2_with fail
    refine (add_any w2.heap.size 512 _ _ 5 5 (five g) w8 W8.out (E2.out.below C8.out E2.out.lt) (R2.out.kept C8.out) (by omega)).mono ?_
    rintro e w9 ⟨rfl, hb9, hw9⟩
    rw [addSt_ok (by rw [List.length_append, HL8.out, List.length_replicate, five_len]; decide)] at hw9
    have W9 : Hid (Wr w9 w2.heap.size 512 (some (mtFull g r))) := hw9
    have C9 := hid (C8.out.trans hb9)
    clear hw9 hb9 W8 C8
    go_wp2_with fail
    refine (told_put w2 w9 512 _ W9.out C9.out).mono ?_
    rintro e w10 ⟨v, b, rfl, ⟨a3, n3, c3, rfl⟩, hput⟩
    rw [← HN.out] at hput
    have HQ := hid (hput.lift B2.out)
    clear hput
    go_wp2
    go_ret2
    exact HQ.out
theorem Rd.cut {w : World} {b off n c : Nat} {zs : List Int} (h : Rd w (some ⟨b, off, none⟩) n c zs) (lo m : Nat) (hm : lo + m ≤ n) : Rd w (some ⟨b, off + lo, none⟩) m (c - lo) ((zs.drop lo).take m) := by
  obtain ⟨h1, h2, h3, h4, h5, h6⟩ := h
  have e : ∀ i, i < m → ((zs.drop lo).take m)[i]?.getD 0 = zs[lo + i]?.getD 0 := by
    intro i hi
    rw [List.getElem?_take_of_lt hi, List.getElem?_drop]
  refine ⟨by simp; omega, by omega, by omega, by omega, fun i => ?_, fun hp => ?_⟩
  · by_cases hi : i < m
    · rw [e i hi]; exact h5 _
    · rw [List.getElem?_eq_none (by simp; omega)]; simp
  · obtain ⟨b', off', ha, hb, hc⟩ := h6 (by omega)
    cases ha
    refine ⟨b, off + lo, rfl, hb, fun i hi => ?_⟩
    rw [e i hi, Nat.add_assoc]
    exact hc (lo + i) (by omega)
theorem hiF_acc (zs : List Int) (h : zs.length = 512) : ∀ k, k ≤ 5 → hiF ((zs.drop 1).take k) = acc zs k
  | 0, _ => by simp [hiF, acc]
  | k + 1, hk => by
    rw [hiF_take _ (by simp; omega), hiF_acc zs h k (by omega), acc, List.getElem?_drop, Nat.add_comm 1 k]
    rfl
theorem hiF_root (zs : List Int) (h : zs.length = 512) : hiF ((zs.drop 6).take 2) = zAt zs 6 * 256 + zAt zs 7 := by
  rw [hiF_take _ (by simp; omega), hiF_take _ (by simp; omega), List.getElem?_drop, List.getElem?_drop]
  simp [hiF, zAt]
set_option maxHeartbeats 800000 in
theorem bytesEqual_any (a b : Option Addr) (n m c d : Nat) (xs ys : List Int) (w : World) (hx : Rd w a n c xs) (hy : Rd w b m d ys) :
    Calls Tryd.prog 65 #[.slice a n c, .slice b m d] w fun e w' => e = .returned (.bool (decide (xs = ys))) ∧ w = w' := by
  have h1 := run_str hx
  have h2 := run_str hy
  have b1 := at_byte hx.2.2.2.2.1
  have b2 := at_byte hy.2.2.2.2.1
  by_cases e : xs = ys
  · subst e
    generalize strOf xs = s at *
    rw [decide_eq_true rfl]
    clear b1 b2 hx hy
    go_enter Tryd.func65, Tryd.ntmps65
    go_wp2
    go_ret
    exact ⟨rfl, rfl⟩
  · have hne : ((strOf xs).toList == (strOf ys).toList) = false := by
      rw [beq_eq_false_iff_ne]
      exact fun h => e (strOf_eq b1 b2 (str_ext h))
    rw [decide_eq_false e]
    generalize strOf xs = s at *
    generalize strOf ys = t at *
    clear b1 b2 hx hy e
    go_enter Tryd.func65, Tryd.ntmps65
    go_wp2
    go_ret
    exact ⟨rfl, rfl⟩
end Go.Proofs.YtijinngmfalfcabDoor

