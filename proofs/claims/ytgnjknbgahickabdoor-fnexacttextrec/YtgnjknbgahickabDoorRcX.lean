/-
  RecText of the program and of the specification.
-/
import Derived.Test.YtgnjknbgahickabDoorRcT
import Derived.Test.YtgnjknbgahickabDoorWrK
import Derived.Test.YtgnjknbgahickabDoorStrs
namespace Go.Proofs.YtgnjknbgahickabDoor
open Go.RowKit
set_option linter.unusedVariables false
set_option maxHeartbeats 400000 in
/-- A new writer of no bytes. -/
theorem newWriterK_any (most : Nat) (w : World) (hm : most ≤ 1048576) :
    Calls Tryd.prog 55 #[.slice none 0 0, .int .i64 most] w fun e w' => e = .returned (.pointer (some ⟨w.heap.size, 0, none⟩)) ∧ Below w.heap.size w w' ∧ Wr w' w.heap.size most (some []) := by
  go_enter Tryd.func55, Tryd.ntmps55
  have hw0 : Wr (w.alloc (.cells #[.slice none 0 0, .int .i64 most, .nilIface] 96)) w.heap.size most (some []) := by
    refine ⟨.slice none 0 0, .nilIface, [], ?_, ?_, ?_, World.frozen?_alloc_at (hn := rfl) .., World.frozen?_alloc_at (hn := rfl) .., World.ownsRow_nil _ _ _ _, by simp, by omega, by simp, .inl ⟨rfl, rfl⟩⟩
    · rw [World.cell?_alloc_at (hn := rfl)]; rfl
    · rw [World.cell?_alloc_at (hn := rfl)]; rfl
    · rw [World.cell?_alloc_at (hn := rfl)]; rfl
  have hb0 : Below w.heap.size w (w.alloc (.cells #[.slice none 0 0, .int .i64 most, .nilIface] 96)) := (Below.refl _ _).alloc (Nat.le_refl _) _
  have HW0 := hid hw0
  have HB0 := hid hb0
  clear hw0 hb0
  go_wp2_with (go_at_call 69; refine (addK_any w.heap.size most [] none 0 0 [] _ HW0.out ⟨rfl, Nat.le_refl _, by omega, by omega, by simp, fun h => by omega⟩ (by omega) (fun _ => rfl) (by simp) hm).mono ?_; rintro e w1 ⟨rfl, hb1, hw1, hk1⟩)
  go_ret
  exact ⟨rfl, HB0.out.trans hb1, hw1⟩
set_option maxHeartbeats 1600000 in
theorem recordText_any (m : Int) (h0 : 0 ≤ m) (h1 : m ≤ 255) (a : Option Addr) (n c : Nat) (ps : List ByteArray) (w : World) (h : Sd w a n c ps) (hl : n ≤ 2) (hs : ∀ s ∈ ps, s.size ≤ 20) :
    Calls Tryd.prog 27 #[.int .u8 m, .slice a n c] w fun e w' => e = .returned (.string (strOf (m :: tparts ps))) ∧ Below w.heap.size w w' := by
  have H0 := hid h
  have HN := hid h.1
  have HS := hid hs
  clear h hs
  go_enter Tryd.func27, Tryd.ntmps27
  go_wp2_with fail
  refine (newWriterK_any 4096 w (by omega)).mono ?_
  rintro e w1 ⟨rfl, hb, hw⟩
  have B1 := hid hb
  have W1 := hid hw
  clear hb hw
  go_wp2_with fail
  refine (addByteK_any w.heap.size 4096 [] m w1 W1.out h0 h1 (by simp) (by omega)).mono ?_
  rintro e w2 ⟨rfl, hb, hw, _⟩
  have B2 := hid (B1.out.trans hb)
  have W2 : Hid (Wr w2 w.heap.size 4096 (some (m :: tparts (ps.take 0)))) := hw
  clear hb hw B1 W1
  go_wp2_with fail
  go_loopw [16] (fun i wr => ∃ j : Nat, j ≤ n ∧ i = .int .i64 j ∧ Hid (Below w.heap.size w wr) ∧ Hid (Wr wr w.heap.size 4096 (some (m :: tparts (ps.take j))))) (fun i _ => n - (intOf i).toNat)
  case atStart => exact ⟨0, Nat.zero_le _, rfl, B2, W2⟩
  case round =>
    obtain ⟨j, hj, rfl, HB, HW⟩ := hrel
    clear B2 W2
    by_cases hlt : j < n
    · have hlt' : (j : Int) < (n : Int) := by omega
      have hjl : j < ps.length := by rw [← HN.out]; exact hlt
      obtain ⟨b, off, ha, hbw, hcell⟩ := (H0.out.kept HB.out).2.2.2.2 (by omega)
      have hc := hcell j hlt
      subst ha
      have hsz : (ps[j]?.getD ⟨#[]⟩).size ≤ 20 := by
        have := HS.out ps[j] (List.getElem_mem hjl)
        simpa [hjl] using this
      have HT : Hid (tparts (ps.take (j + 1)) = tparts (ps.take j) ++ tpart (ps[j]?.getD ⟨#[]⟩)) := by
        show _ = _
        rw [List.take_succ_eq_append_getElem hjl, tparts_append]
        simp [hjl, tparts]
      have HL : Hid ((m :: tparts (ps.take j)).length ≤ 60) := by
        have := tparts_len (ps.take j) (fun s hs => HS.out s (List.mem_of_mem_take hs))
        rw [List.length_take] at this
        show _ ≤ _
        rw [List.length_cons]
        omega
      clear hcell hbw
      generalize ps[j]?.getD ⟨#[]⟩ = s at *
      go_wp2_with fail
      refine (textK_any w.heap.size 4096 _ s wr HW.out (by omega) (by have := enc_len (s.size : Int); have := HL.out; omega) (by omega)).mono ?_
      rintro e w3 ⟨rfl, hb, hw, _⟩
      have HB3 := hid (HB.out.trans hb)
      have HW3 : Hid (Wr w3 w.heap.size 4096 (some (m :: tparts (ps.take (j + 1))))) := by
        show Wr _ _ _ _
        rw [HT.out]
        exact hw
      clear hb hw HB HW
      go_wp2
      go_roundw
      case rel => exact ⟨j + 1, by omega, by go_num, HB3, HW3⟩
      case measure => simp [intOf]; omega
    · have HE : Hid (tparts (ps.take j) = tparts ps) := by
        show _ = _
        rw [List.take_of_length_le (by rw [← HN.out]; omega)]
      have HL : Hid ((m :: tparts ps).length ≤ 60) := by
        have := tparts_len ps HS.out
        have := HN.out
        show _ ≤ _
        rw [List.length_cons]
        omega
      have HY : Hid (∀ z ∈ m :: tparts ps, 0 ≤ z ∧ z ≤ 255) := by
        intro z hz
        rcases List.mem_cons.1 hz with rfl | hz
        · exact ⟨h0, h1⟩
        · exact tparts_byte ps (fun s hs => by have := HS.out s hs; omega) z hz
      rw [HE.out] at HW
      go_wp2_with fail
      refine (told_some w.heap.size 4096 _ wr HW.out).mono ?_
      rintro e w3 ⟨v, rfl, ho, rfl⟩
      obtain ⟨va, vc, rfl, hrd⟩ := ho.rd' HY.out (by have := HL.out; omega)
      have hst := run_str hrd
      clear ho hrd
      generalize (m :: tparts ps).length = L at *
      go_wp2
      go_ret
      exact ⟨rfl, HB.out⟩
theorem sd_two (w : World) (x y : ByteArray) (T : TypeId) (hx : x.size ≤ 20) (hy : y.size ≤ 20) : Sd (w.alloc (.cells #[.string x, .string y] T)) (some ⟨w.heap.size, 0, none⟩) 2 2 [x, y] := by
  refine ⟨rfl, Nat.le_refl _, by omega, fun i => ?_, fun _ => ⟨w.heap.size, 0, rfl, by simp, fun i hi => ?_⟩⟩
  · match i with
    | 0 => simp; omega
    | 1 => simp; omega
    | n + 2 => simp; decide
  · rw [World.cell?_alloc_at (hn := rfl)]
    have : i = 0 ∨ i = 1 := by omega
    rcases this with rfl | rfl <;> simp
theorem sd_one (w : World) (x : ByteArray) (T : TypeId) (hx : x.size ≤ 20) : Sd (w.alloc (.cells #[.string x] T)) (some ⟨w.heap.size, 0, none⟩) 1 1 [x] := by
  refine ⟨rfl, Nat.le_refl _, by omega, fun i => ?_, fun _ => ⟨w.heap.size, 0, rfl, by simp, fun i hi => ?_⟩⟩
  · match i with
    | 0 => simp; omega
    | n + 1 => simp; decide
  · rw [World.cell?_alloc_at (hn := rfl)]
    have : i = 0 := by omega
    subst this; simp
set_option maxHeartbeats 8000000 in
theorem implRecText_any (k : Int) (ky vl lo hi : ByteArray) (w : World) : Calls Tryd.prog 9 #[.agg #[.int .i64 k, .string ky, .string vl, .string lo, .string hi]] w fun r w' => r = .returned (.string (rcTx k ky vl lo hi)) ∧ Below w.heap.size w w' := by
  have B0 := hid (below_new (o := .cells #[.int .i64 k, .string ky, .string vl, .string lo, .string hi] 30) (w := w) (Below.refl _ _))
  have K0 := hid (Bk.new w 30 [.int .i64 k, .string ky, .string vl, .string lo, .string hi])
  have C1 := hid (fun w => implRecOk_any k ky vl lo hi w)
  by_cases hok : rcOk k ky vl lo hi = true
  · have HFA := hid (rcOk_facts hok)
    rw [hok] at C1
    rcases HFA.out with ⟨rfl, h1, h2, h3, h4⟩ | ⟨rfl, h1, h3, h4, h5⟩ | ⟨hk, h3, h4, h1, h2⟩
    · clear HFA
      have HV : Hid (rcTx 1 ky vl lo hi = strOf (119 :: tparts [ky, vl])) := by show _ = _; rw [rcTx, if_pos hok]; rfl
      clear hok
      clear h3 h4
      go_enter Tryd.func9, Tryd.ntmps9
      go_wp2_with fail
      refine (C1.out _).mono ?_
      generalize w.alloc (.cells #[.int .i64 1, .string ky, .string vl, .string lo, .string hi] 30) = U at *
      rintro r w1 ⟨rfl, hb⟩
      have K1 := hid (K0.out.below hb)
      have B1 := hid (btR B0.out hb)
      clear hb K0 B0
      have x0 := K1.out.cell (j := 0) rfl
      have x1 := K1.out.cell (j := 1) rfl
      have x2 := K1.out.cell (j := 2) rfl
      have x3 := K1.out.cell (j := 3) rfl
      have x4 := K1.out.cell (j := 4) rfl
      have HSD := hid (sd_two w1 ky vl 9 (by omega) (by omega))
      have B2 := hid (btR B1.out (below_new (o := .cells #[.string ky, .string vl] 9) (w := w1) (Below.refl _ _)))
      go_wp2_with fail
      refine (recordText_any 119 (by omega) (by omega) _ _ _ [ky, vl] _ HSD.out (by omega) (by intro s hs; simp at hs; rcases hs with rfl | rfl <;> omega)).mono ?_
      rintro r w2 ⟨rfl, hb⟩
      have B3 := hid (btR B2.out hb)
      clear hb B1 B2 HSD
      go_wp2
      go_ret
      exact ⟨by rw [HV.out]; rfl, B3.out⟩
    · clear HFA
      have HV : Hid (rcTx 2 ky vl lo hi = strOf (103 :: tparts [ky])) := by show _ = _; rw [rcTx, if_pos hok]; rfl
      clear hok
      clear h3 h4 h5
      go_enter Tryd.func9, Tryd.ntmps9
      go_wp2_with fail
      refine (C1.out _).mono ?_
      generalize w.alloc (.cells #[.int .i64 2, .string ky, .string vl, .string lo, .string hi] 30) = U at *
      rintro r w1 ⟨rfl, hb⟩
      have K1 := hid (K0.out.below hb)
      have B1 := hid (btR B0.out hb)
      clear hb K0 B0
      have x0 := K1.out.cell (j := 0) rfl
      have x1 := K1.out.cell (j := 1) rfl
      have x2 := K1.out.cell (j := 2) rfl
      have x3 := K1.out.cell (j := 3) rfl
      have x4 := K1.out.cell (j := 4) rfl
      have HSD := hid (sd_one w1 ky 9 (by omega))
      have B2 := hid (btR B1.out (below_new (o := .cells #[.string ky] 9) (w := w1) (Below.refl _ _)))
      go_wp2_with fail
      refine (recordText_any 103 (by omega) (by omega) _ _ _ [ky] _ HSD.out (by omega) (by intro s hs; simp at hs; rcases hs with rfl <;> omega)).mono ?_
      rintro r w2 ⟨rfl, hb⟩
      have B3 := hid (btR B2.out hb)
      clear hb B1 B2 HSD
      go_wp2
      go_ret
      exact ⟨by rw [HV.out]; rfl, B3.out⟩
    · clear HFA
      rcases hk with rfl | rfl
      · skip
        have HV : Hid (rcTx 3 ky vl lo hi = strOf (115 :: tparts [lo, hi])) := by show _ = _; rw [rcTx, if_pos hok]; rfl
        clear hok
        clear h3 h4
        go_enter Tryd.func9, Tryd.ntmps9
        go_wp2_with fail
        refine (C1.out _).mono ?_
        generalize w.alloc (.cells #[.int .i64 3, .string ky, .string vl, .string lo, .string hi] 30) = U at *
        rintro r w1 ⟨rfl, hb⟩
        have K1 := hid (K0.out.below hb)
        have B1 := hid (btR B0.out hb)
        clear hb K0 B0
        have x0 := K1.out.cell (j := 0) rfl
        have x1 := K1.out.cell (j := 1) rfl
        have x2 := K1.out.cell (j := 2) rfl
        have x3 := K1.out.cell (j := 3) rfl
        have x4 := K1.out.cell (j := 4) rfl
        have HSD := hid (sd_two w1 lo hi 9 (by omega) (by omega))
        have B2 := hid (btR B1.out (below_new (o := .cells #[.string lo, .string hi] 9) (w := w1) (Below.refl _ _)))
        go_wp2_with fail
        refine (recordText_any 115 (by omega) (by omega) _ _ _ [lo, hi] _ HSD.out (by omega) (by intro s hs; simp at hs; rcases hs with rfl | rfl <;> omega)).mono ?_
        rintro r w2 ⟨rfl, hb⟩
        have B3 := hid (btR B2.out hb)
        clear hb B1 B2 HSD
        go_wp2
        go_ret
        exact ⟨by rw [HV.out]; rfl, B3.out⟩
      · skip
        have HV : Hid (rcTx 4 ky vl lo hi = strOf (120 :: tparts [lo, hi])) := by show _ = _; rw [rcTx, if_pos hok]; rfl
        clear hok
        clear h3 h4
        go_enter Tryd.func9, Tryd.ntmps9
        go_wp2_with fail
        refine (C1.out _).mono ?_
        generalize w.alloc (.cells #[.int .i64 4, .string ky, .string vl, .string lo, .string hi] 30) = U at *
        rintro r w1 ⟨rfl, hb⟩
        have K1 := hid (K0.out.below hb)
        have B1 := hid (btR B0.out hb)
        clear hb K0 B0
        have x0 := K1.out.cell (j := 0) rfl
        have x1 := K1.out.cell (j := 1) rfl
        have x2 := K1.out.cell (j := 2) rfl
        have x3 := K1.out.cell (j := 3) rfl
        have x4 := K1.out.cell (j := 4) rfl
        have HSD := hid (sd_two w1 lo hi 9 (by omega) (by omega))
        have B2 := hid (btR B1.out (below_new (o := .cells #[.string lo, .string hi] 9) (w := w1) (Below.refl _ _)))
        go_wp2_with fail
        refine (recordText_any 120 (by omega) (by omega) _ _ _ [lo, hi] _ HSD.out (by omega) (by intro s hs; simp at hs; rcases hs with rfl | rfl <;> omega)).mono ?_
        rintro r w2 ⟨rfl, hb⟩
        have B3 := hid (btR B2.out hb)
        clear hb B1 B2 HSD
        go_wp2
        go_ret
        exact ⟨by rw [HV.out]; rfl, B3.out⟩
  · have HV : Hid (rcTx k ky vl lo hi = ⟨#[]⟩) := by show _ = _; rw [rcTx, if_neg hok]
    have hok2 : rcOk k ky vl lo hi = false := by simpa using hok
    rw [hok2] at C1
    clear hok hok2
    go_enter Tryd.func9, Tryd.ntmps9
    go_wp2_with fail
    refine (C1.out _).mono ?_
    rintro r w1 ⟨rfl, hb⟩
    have B1 := hid (btR B0.out hb)
    clear hb B0 K0
    go_wp2
    go_ret
    exact ⟨by rw [HV.out]; rfl, B1.out⟩
set_option maxHeartbeats 8000000 in
theorem specRecText_any (k : Int) (ky vl lo hi : ByteArray) (w : World) : Calls Tryd.prog 7 #[.agg #[.int .i64 k, .string ky, .string vl, .string lo, .string hi]] w fun r w' => r = .returned (.string (rcTx k ky vl lo hi)) ∧ Below w.heap.size w w' := by
  have B0 := hid (below_new (o := .cells #[.int .i64 k, .string ky, .string vl, .string lo, .string hi] 30) (w := w) (Below.refl _ _))
  have K0 := hid (Bk.new w 30 [.int .i64 k, .string ky, .string vl, .string lo, .string hi])
  have C1 := hid (fun w => specRecOk_any k ky vl lo hi w)
  by_cases hok : rcOk k ky vl lo hi = true
  · have HFA := hid (rcOk_facts hok)
    rw [hok] at C1
    rcases HFA.out with ⟨rfl, h1, h2, h3, h4⟩ | ⟨rfl, h1, h3, h4, h5⟩ | ⟨hk, h3, h4, h1, h2⟩
    · clear HFA
      have HV : Hid (rcTx 1 ky vl lo hi = strOf (119 :: tparts [ky, vl])) := by show _ = _; rw [rcTx, if_pos hok]; rfl
      clear hok
      clear h3 h4
      have hix : (((⟨#[32, 119, 103, 115, 120]⟩ : ByteArray)[1]'(by decide)).toNat : Int) = 119 := rfl
      go_enter Tryd.func7, Tryd.ntmps7
      go_wp2_with fail
      refine (C1.out _).mono ?_
      generalize w.alloc (.cells #[.int .i64 1, .string ky, .string vl, .string lo, .string hi] 30) = U at *
      rintro r w1 ⟨rfl, hb⟩
      have K1 := hid (K0.out.below hb)
      have B1 := hid (btR B0.out hb)
      clear hb K0 B0
      have R1 := hid (rd_one w1 119 (by omega) (by omega))
      have hb := below_new (o := .cells #[.int .u8 119] 5) (w := w1) (Below.refl _ _)
      have K2 := hid (K1.out.below hb)
      have B2 := hid (btR B1.out hb)
      clear hb
      have x0 := K1.out.cell (j := 0) rfl
      have x1 := K1.out.cell (j := 1) rfl
      have x2 := K1.out.cell (j := 2) rfl
      have x3 := K1.out.cell (j := 3) rfl
      have x4 := K1.out.cell (j := 4) rfl
      have y0 := K2.out.cell (j := 0) rfl
      have y1 := K2.out.cell (j := 1) rfl
      have y2 := K2.out.cell (j := 2) rfl
      have y3 := K2.out.cell (j := 3) rfl
      have y4 := K2.out.cell (j := 4) rfl
      go_wp2_with fail
      refine (specPT_fit _ _ _ ([119]) ky _ R1.out (by simp) (by omega)).mono ?_
      generalize w1.alloc (.cells #[.int .u8 119] 5) = V at *
      generalize w1.heap.size = g1 at *
      rintro r w3 ⟨a3, n3, c3, rfl, hR, hb⟩
      have R2 := hid hR
      have K3 := hid (K2.out.below hb)
      have B3 := hid (btR B2.out hb)
      clear x0 x1 x2 x3 x4
      clear hb hR y0 y1 y2 y3 y4 K2 B2 R1 K1 B1
      have y0 := K3.out.cell (j := 0) rfl
      have y1 := K3.out.cell (j := 1) rfl
      have y2 := K3.out.cell (j := 2) rfl
      have y3 := K3.out.cell (j := 3) rfl
      have y4 := K3.out.cell (j := 4) rfl
      go_wp2_with fail
      refine (specPT_fit _ _ _ ([119] ++ tpart ky) vl _ R2.out (by simp; have := tpart_len ky; omega) (by omega)).mono ?_
      rintro r w4 ⟨a4, n4, c4, rfl, hR, hb⟩
      have R3 := hid hR
      have K4 := hid (K3.out.below hb)
      have B4 := hid (btR B3.out hb)
      clear hb hR y0 y1 y2 y3 y4 K3 B3 R2
      have y0 := K4.out.cell (j := 0) rfl
      have y1 := K4.out.cell (j := 1) rfl
      have y2 := K4.out.cell (j := 2) rfl
      have y3 := K4.out.cell (j := 3) rfl
      have y4 := K4.out.cell (j := 4) rfl
      have hst := run_str R3.out
      have HQ : Hid ([119] ++ tpart ky ++ tpart vl = 119 :: tparts [ky, vl]) := by show _ = _; simp [tparts]
      rw [HQ.out] at hst
      go_wp2
      go_ret
      exact ⟨by rw [HV.out]; rfl, B4.out⟩
    · clear HFA
      have HV : Hid (rcTx 2 ky vl lo hi = strOf (103 :: tparts [ky])) := by show _ = _; rw [rcTx, if_pos hok]; rfl
      clear hok
      clear h3 h4 h5
      have hix : (((⟨#[32, 119, 103, 115, 120]⟩ : ByteArray)[2]'(by decide)).toNat : Int) = 103 := rfl
      go_enter Tryd.func7, Tryd.ntmps7
      go_wp2_with fail
      refine (C1.out _).mono ?_
      generalize w.alloc (.cells #[.int .i64 2, .string ky, .string vl, .string lo, .string hi] 30) = U at *
      rintro r w1 ⟨rfl, hb⟩
      have K1 := hid (K0.out.below hb)
      have B1 := hid (btR B0.out hb)
      clear hb K0 B0
      have R1 := hid (rd_one w1 103 (by omega) (by omega))
      have hb := below_new (o := .cells #[.int .u8 103] 5) (w := w1) (Below.refl _ _)
      have K2 := hid (K1.out.below hb)
      have B2 := hid (btR B1.out hb)
      clear hb
      have x0 := K1.out.cell (j := 0) rfl
      have x1 := K1.out.cell (j := 1) rfl
      have x2 := K1.out.cell (j := 2) rfl
      have x3 := K1.out.cell (j := 3) rfl
      have x4 := K1.out.cell (j := 4) rfl
      have y0 := K2.out.cell (j := 0) rfl
      have y1 := K2.out.cell (j := 1) rfl
      have y2 := K2.out.cell (j := 2) rfl
      have y3 := K2.out.cell (j := 3) rfl
      have y4 := K2.out.cell (j := 4) rfl
      go_wp2_with fail
      refine (specPT_fit _ _ _ ([103]) ky _ R1.out (by simp) (by omega)).mono ?_
      generalize w1.alloc (.cells #[.int .u8 103] 5) = V at *
      generalize w1.heap.size = g1 at *
      rintro r w3 ⟨a3, n3, c3, rfl, hR, hb⟩
      have R2 := hid hR
      have K3 := hid (K2.out.below hb)
      have B3 := hid (btR B2.out hb)
      clear x0 x1 x2 x3 x4
      clear hb hR y0 y1 y2 y3 y4 K2 B2 R1 K1 B1
      have y0 := K3.out.cell (j := 0) rfl
      have y1 := K3.out.cell (j := 1) rfl
      have y2 := K3.out.cell (j := 2) rfl
      have y3 := K3.out.cell (j := 3) rfl
      have y4 := K3.out.cell (j := 4) rfl
      have hst := run_str R2.out
      have HQ : Hid ([103] ++ tpart ky = 103 :: tparts [ky]) := by show _ = _; simp [tparts]
      rw [HQ.out] at hst
      go_wp2
      go_ret
      exact ⟨by rw [HV.out]; rfl, B3.out⟩
    · clear HFA
      rcases hk with rfl | rfl
      · skip
        have HV : Hid (rcTx 3 ky vl lo hi = strOf (115 :: tparts [lo, hi])) := by show _ = _; rw [rcTx, if_pos hok]; rfl
        clear hok
        clear h3 h4
        have hix : (((⟨#[32, 119, 103, 115, 120]⟩ : ByteArray)[3]'(by decide)).toNat : Int) = 115 := rfl
        go_enter Tryd.func7, Tryd.ntmps7
        go_wp2_with fail
        refine (C1.out _).mono ?_
        generalize w.alloc (.cells #[.int .i64 3, .string ky, .string vl, .string lo, .string hi] 30) = U at *
        rintro r w1 ⟨rfl, hb⟩
        have K1 := hid (K0.out.below hb)
        have B1 := hid (btR B0.out hb)
        clear hb K0 B0
        have R1 := hid (rd_one w1 115 (by omega) (by omega))
        have hb := below_new (o := .cells #[.int .u8 115] 5) (w := w1) (Below.refl _ _)
        have K2 := hid (K1.out.below hb)
        have B2 := hid (btR B1.out hb)
        clear hb
        have x0 := K1.out.cell (j := 0) rfl
        have x1 := K1.out.cell (j := 1) rfl
        have x2 := K1.out.cell (j := 2) rfl
        have x3 := K1.out.cell (j := 3) rfl
        have x4 := K1.out.cell (j := 4) rfl
        have y0 := K2.out.cell (j := 0) rfl
        have y1 := K2.out.cell (j := 1) rfl
        have y2 := K2.out.cell (j := 2) rfl
        have y3 := K2.out.cell (j := 3) rfl
        have y4 := K2.out.cell (j := 4) rfl
        go_wp2_with fail
        refine (specPT_fit _ _ _ ([115]) lo _ R1.out (by simp) (by omega)).mono ?_
        generalize w1.alloc (.cells #[.int .u8 115] 5) = V at *
        generalize w1.heap.size = g1 at *
        rintro r w3 ⟨a3, n3, c3, rfl, hR, hb⟩
        have R2 := hid hR
        have K3 := hid (K2.out.below hb)
        have B3 := hid (btR B2.out hb)
        clear x0 x1 x2 x3 x4
        clear hb hR y0 y1 y2 y3 y4 K2 B2 R1 K1 B1
        have y0 := K3.out.cell (j := 0) rfl
        have y1 := K3.out.cell (j := 1) rfl
        have y2 := K3.out.cell (j := 2) rfl
        have y3 := K3.out.cell (j := 3) rfl
        have y4 := K3.out.cell (j := 4) rfl
        go_wp2_with fail
        refine (specPT_fit _ _ _ ([115] ++ tpart lo) hi _ R2.out (by simp; have := tpart_len lo; omega) (by omega)).mono ?_
        rintro r w4 ⟨a4, n4, c4, rfl, hR, hb⟩
        have R3 := hid hR
        have K4 := hid (K3.out.below hb)
        have B4 := hid (btR B3.out hb)
        clear hb hR y0 y1 y2 y3 y4 K3 B3 R2
        have y0 := K4.out.cell (j := 0) rfl
        have y1 := K4.out.cell (j := 1) rfl
        have y2 := K4.out.cell (j := 2) rfl
        have y3 := K4.out.cell (j := 3) rfl
        have y4 := K4.out.cell (j := 4) rfl
        have hst := run_str R3.out
        have HQ : Hid ([115] ++ tpart lo ++ tpart hi = 115 :: tparts [lo, hi]) := by show _ = _; simp [tparts]
        rw [HQ.out] at hst
        go_wp2
        go_ret
        exact ⟨by rw [HV.out]; rfl, B4.out⟩
      · skip
        have HV : Hid (rcTx 4 ky vl lo hi = strOf (120 :: tparts [lo, hi])) := by show _ = _; rw [rcTx, if_pos hok]; rfl
        clear hok
        clear h3 h4
        have hix : (((⟨#[32, 119, 103, 115, 120]⟩ : ByteArray)[4]'(by decide)).toNat : Int) = 120 := rfl
        go_enter Tryd.func7, Tryd.ntmps7
        go_wp2_with fail
        refine (C1.out _).mono ?_
        generalize w.alloc (.cells #[.int .i64 4, .string ky, .string vl, .string lo, .string hi] 30) = U at *
        rintro r w1 ⟨rfl, hb⟩
        have K1 := hid (K0.out.below hb)
        have B1 := hid (btR B0.out hb)
        clear hb K0 B0
        have R1 := hid (rd_one w1 120 (by omega) (by omega))
        have hb := below_new (o := .cells #[.int .u8 120] 5) (w := w1) (Below.refl _ _)
        have K2 := hid (K1.out.below hb)
        have B2 := hid (btR B1.out hb)
        clear hb
        have x0 := K1.out.cell (j := 0) rfl
        have x1 := K1.out.cell (j := 1) rfl
        have x2 := K1.out.cell (j := 2) rfl
        have x3 := K1.out.cell (j := 3) rfl
        have x4 := K1.out.cell (j := 4) rfl
        have y0 := K2.out.cell (j := 0) rfl
        have y1 := K2.out.cell (j := 1) rfl
        have y2 := K2.out.cell (j := 2) rfl
        have y3 := K2.out.cell (j := 3) rfl
        have y4 := K2.out.cell (j := 4) rfl
        go_wp2_with fail
        refine (specPT_fit _ _ _ ([120]) lo _ R1.out (by simp) (by omega)).mono ?_
        generalize w1.alloc (.cells #[.int .u8 120] 5) = V at *
        generalize w1.heap.size = g1 at *
        rintro r w3 ⟨a3, n3, c3, rfl, hR, hb⟩
        have R2 := hid hR
        have K3 := hid (K2.out.below hb)
        have B3 := hid (btR B2.out hb)
        clear x0 x1 x2 x3 x4
        clear hb hR y0 y1 y2 y3 y4 K2 B2 R1 K1 B1
        have y0 := K3.out.cell (j := 0) rfl
        have y1 := K3.out.cell (j := 1) rfl
        have y2 := K3.out.cell (j := 2) rfl
        have y3 := K3.out.cell (j := 3) rfl
        have y4 := K3.out.cell (j := 4) rfl
        go_wp2_with fail
        refine (specPT_fit _ _ _ ([120] ++ tpart lo) hi _ R2.out (by simp; have := tpart_len lo; omega) (by omega)).mono ?_
        rintro r w4 ⟨a4, n4, c4, rfl, hR, hb⟩
        have R3 := hid hR
        have K4 := hid (K3.out.below hb)
        have B4 := hid (btR B3.out hb)
        clear hb hR y0 y1 y2 y3 y4 K3 B3 R2
        have y0 := K4.out.cell (j := 0) rfl
        have y1 := K4.out.cell (j := 1) rfl
        have y2 := K4.out.cell (j := 2) rfl
        have y3 := K4.out.cell (j := 3) rfl
        have y4 := K4.out.cell (j := 4) rfl
        have hst := run_str R3.out
        have HQ : Hid ([120] ++ tpart lo ++ tpart hi = 120 :: tparts [lo, hi]) := by show _ = _; simp [tparts]
        rw [HQ.out] at hst
        go_wp2
        go_ret
        exact ⟨by rw [HV.out]; rfl, B4.out⟩
  · have HV : Hid (rcTx k ky vl lo hi = ⟨#[]⟩) := by show _ = _; rw [rcTx, if_neg hok]
    have hok2 : rcOk k ky vl lo hi = false := by simpa using hok
    rw [hok2] at C1
    clear hok hok2
    go_enter Tryd.func7, Tryd.ntmps7
    go_wp2_with fail
    refine (C1.out _).mono ?_
    rintro r w1 ⟨rfl, hb⟩
    have B1 := hid (btR B0.out hb)
    clear hb B0 K0
    go_wp2
    go_ret
    exact ⟨by rw [HV.out]; rfl, B1.out⟩
end Go.Proofs.YtgnjknbgahickabDoor

