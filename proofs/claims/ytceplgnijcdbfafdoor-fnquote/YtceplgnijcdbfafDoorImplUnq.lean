/-
  What the program's Unquote answers, for every string: the same as the model's.
-/
import Derived.Test.YtceplgnijcdbfafDoorUnqPlain
import Derived.Test.YtceplgnijcdbfafDoorImplQuote
import Derived.Lib.Bytealg
namespace Go.Proofs.YtceplgnijcdbfafDoor
open Go.RowKit

theorem idx_all : ∀ k : Fin 256, Lib.indexByte [48, 49, 50, 51, 52, 53, 54, 55, 56, 57, 65, 66, 67, 68, 69, 70] (UInt8.ofNat k.val) = hexV (k.val : Int) := by decide +kernel
theorem idx_hex (z : Int) (h0 : 0 ≤ z) (h1 : z ≤ 255) : Lib.indexByte [48, 49, 50, 51, 52, 53, 54, 55, 56, 57, 65, 66, 67, 68, 69, 70] z.toNat.toUInt8 = hexV z := by
  have := idx_all ⟨z.toNat, by omega⟩
  simp only at this
  rw [show ((z.toNat : Nat) : Int) = z from by omega] at this
  exact this

set_option maxHeartbeats 400000 in
theorem indexByte_any (z : Int) (w : World) (h0 : 0 ≤ z) (h1 : z ≤ 255) :
    Calls Tryd.prog 35 #[.string ⟨#[48, 49, 50, 51, 52, 53, 54, 55, 56, 57, 65, 66, 67, 68, 69, 70]⟩, .int .u8 z] w fun e w' => e = .returned (.int .i64 (hexV z)) ∧ w = w' := by
  have HV := hid (idx_hex z h0 h1)
  go_enter Tryd.func35, Tryd.ntmps35
  go_wp2
  rw [run_callFunc_extern Tryd.func42 (by kernel_rfl) (by kernel_rfl) (by kernel_rfl) (e := Extern.BytealgIndexByte.indexByte) (by kernel_rfl), Lib.run_indexByteString]
  simp only [Result.andThen]
  rw [Oper.upon_value]
  go_wp2
  go_ret
  exact ⟨by rw [← HV.out]; rfl, rfl⟩

/-- The writer's state behind a byte that was read, or not. -/
def unSt (most : Nat) (st : Option (List Int)) : Option Int → Option (List Int)
  | none => none
  | some b => addSt most st [b]

theorem at_str (s : ByteArray) (j : Nat) (h : j < s.size) : (bytesOf s)[j]?.getD 0 = (s[j].toNat : Int) := by
  have h' : j < (bytesOf s).length := by rw [bytesOf_len]; exact h
  rw [List.getElem?_eq_getElem h']
  simp [bytesOf]
  rfl

set_option maxHeartbeats 1000000 in
theorem unquoted_any (g most : Nat) (st : Option (List Int)) (s : ByteArray) (w : World) (h : Wr w g most st) (he : Err w 2) (he2 : Err w 1) (hg : 2 < g) (hs : 1 ≤ s.size) (hs2 : s.size ≤ 1048576) :
    Calls Tryd.prog 29 #[.pointer (some ⟨g, 0, none⟩), .string s] w fun e w' => e = .returned (.int .i64 ((us (bytesOf s)).2 : Int)) ∧ Below g w w' ∧ Wr w' g most (unSt most st (us (bytesOf s)).1) := by
  have hlt := h.lt
  have HW := hid h
  have HE := hid he
  obtain ⟨t, x, hx⟩ := he2
  have e0 := at_str s 0 (by omega)
  have hz0 : (0 : Int) ≤ (s[0].toNat : Int) := by omega
  have hz1 : (s[0].toNat : Int) ≤ 255 := by have := s[0].toNat_lt; omega
  have hs' : (0 : Int) < (s.size : Int) := by omega
  have HL := hid (bytesOf_len s)
  have HU : Hid (us (bytesOf s) = if isPl (s[0].toNat : Int) then (some (s[0].toNat : Int), 1) else if (s[0].toNat : Int) ≠ 37 ∨ s.size < 3 then (none, s.size)
      else if hexV ((bytesOf s)[1]?.getD 0) < 0 ∨ hexV ((bytesOf s)[2]?.getD 0) < 0 ∨ isPl (hexV ((bytesOf s)[1]?.getD 0) * 16 + hexV ((bytesOf s)[2]?.getD 0)) = true then (none, s.size)
      else (some (hexV ((bytesOf s)[1]?.getD 0) * 16 + hexV ((bytesOf s)[2]?.getD 0)), 3)) := by
    show us (bytesOf s) = _
    unfold us
    rw [e0, HL.out]
  clear e0 he h
  cases hpl : isPl (s[0].toNat : Int) with
  | true =>
    have HU1 : Hid (us (bytesOf s) = (some (s[0].toNat : Int), 1)) := by show us (bytesOf s) = _; rw [HU.out, if_pos hpl]
    have HC := hid (show Calls Tryd.prog 32 #[.int .u8 (s[0].toNat : Int)] w fun e w' => e = .returned (.bool true) ∧ w = w' by rw [← hpl]; exact isPlain_any _ w)
    clear hpl HU
    go_enter Tryd.func29, Tryd.ntmps29
    go_wp2_with (first
      | (go_at_call 32; refine HC.out.mono ?_; rintro e w' ⟨rfl, rfl⟩)
      | (go_at_call 21; refine (addByte_any g most st _ w HW.out HE.out hg hz0 hz1).mono ?_; rintro e w2 ⟨rfl, hb2, hw2⟩))
    go_ret
    exact ⟨by rw [HU1.out]; rfl, hb2, by rw [HU1.out]; exact hw2⟩
  | false =>
    have HC := hid (show Calls Tryd.prog 32 #[.int .u8 (s[0].toNat : Int)] w fun e w' => e = .returned (.bool false) ∧ w = w' by rw [← hpl]; exact isPlain_any _ w)
    -- how a failure ends
    have failed : ∀ w1 : World, w1 = (if (st = none) then w else w.setCell ⟨g, 2, none⟩ (.iface t x)) → Below g w w1 ∧ Wr w1 g most none := by
      intro w1 hw1
      obtain ⟨v, ev, zs, c0, c1, c2, f0, f2, ho, hl, hm, hb, ⟨rfl, rfl⟩ | ⟨⟨y, z, rfl⟩, rfl⟩⟩ := HW.out
      · rw [if_neg (by simp)] at hw1
        subst hw1
        exact ⟨Below.setCell (p := ⟨g, 2, none⟩) (Below.refl g w) (Nat.le_refl g) _, wr_failed c0 c1 c2 f0 f2 ho hl hm hb⟩
      · rw [if_pos rfl] at hw1
        subst hw1
        exact ⟨Below.refl _ _, HW.out⟩
    have hfail : Calls Tryd.prog 33 #[.pointer (some ⟨g, 0, none⟩), .iface t x] w fun e w' => e = .returned (.tuple #[]) ∧ Below g w w' ∧ Wr w' g most none := by
      obtain ⟨v, ev, zs, c0, c1, c2, f0, f2, ho, hl, hm, hb, ⟨rfl, rfl⟩ | ⟨⟨y, z, rfl⟩, rfl⟩⟩ := HW.out
      · refine (fail_set g t x w c2 f2).mono ?_
        rintro e w' ⟨rfl, hw⟩
        exact ⟨rfl, failed w' (by rw [if_neg (by simp)]; exact hw)⟩
      · refine (fail_keep g t x w y z c2).mono ?_
        rintro e w' ⟨rfl, rfl⟩
        exact ⟨rfl, Below.refl _ _, HW.out⟩
    have HF := hid hfail
    clear hfail failed
    by_cases hbad : (s[0].toNat : Int) ≠ 37 ∨ s.size < 3
    · have HU1 : Hid (us (bytesOf s) = (none, s.size)) := by show us (bytesOf s) = _; rw [HU.out, hpl]; rw [if_neg (by simp), if_pos hbad]
      rcases (by simp only [bne_iff_ne, bne_eq_false_iff_eq]; omega : ((s[0].toNat : Int) != 37) = true ∨ (((s[0].toNat : Int) != 37) = false ∧ (s.size : Int) < 3)) with hq | ⟨hq, hq2⟩
      all_goals
        clear hpl HU hbad
        go_enter Tryd.func29, Tryd.ntmps29
        go_wp2_with (first
          | (go_at_call 32; refine HC.out.mono ?_; rintro e w' ⟨rfl, rfl⟩)
          | (go_at_call 33; refine HF.out.mono ?_; rintro e w2 ⟨rfl, hb2, hw2⟩))
        go_ret
        exact ⟨by rw [HU1.out]; rfl, hb2, by rw [HU1.out]; exact hw2⟩
    · have h3 : 3 ≤ s.size := by omega
      have g37 : ((s[0].toNat : Int) != 37) = false := by rw [bne_eq_false_iff_eq]; omega
      have HUx : Hid (us (bytesOf s) = if hexV ((bytesOf s)[1]?.getD 0) < 0 ∨ hexV ((bytesOf s)[2]?.getD 0) < 0 ∨ isPl (hexV ((bytesOf s)[1]?.getD 0) * (16 : Int) + hexV ((bytesOf s)[2]?.getD 0)) = true then (none, s.size)
          else (some (hexV ((bytesOf s)[1]?.getD 0) * (16 : Int) + hexV ((bytesOf s)[2]?.getD 0)), 3)) := by
        show us (bytesOf s) = _
        rw [HU.out, hpl, if_neg (by simp), if_neg hbad]
      clear hbad hpl HU
      have e1 := at_str s 1 (by omega)
      have e2 := at_str s 2 (by omega)
      have g3 : ¬ (s.size : Int) < 3 := by omega
      have l1 : (1 : Int) < (s.size : Int) := by omega
      have l2 : (2 : Int) < (s.size : Int) := by omega
      have y0 : (0 : Int) ≤ (s[1].toNat : Int) := by omega
      have y1 : (s[1].toNat : Int) ≤ 255 := by have := s[1].toNat_lt; omega
      have x0 : (0 : Int) ≤ (s[2].toNat : Int) := by omega
      have x1 : (s[2].toNat : Int) ≤ 255 := by have := s[2].toNat_lt; omega
      have HU2 : Hid (us (bytesOf s) = if hexV (s[1].toNat : Int) < 0 ∨ hexV (s[2].toNat : Int) < 0 ∨ isPl (hexV (s[1].toNat : Int) * (16 : Int) + hexV (s[2].toNat : Int)) = true then (none, s.size) else (some (hexV (s[1].toNat : Int) * (16 : Int) + hexV (s[2].toNat : Int)), 3)) := by
        show us (bytesOf s) = _
        rw [HUx.out, e1, e2]
      have C1 := hid (fun w => indexByte_any (s[1].toNat : Int) w y0 y1)
      have C2 := hid (fun w => indexByte_any (s[2].toNat : Int) w x0 x1)
      have b1 : -1 ≤ hexV (s[1].toNat : Int) ∧ hexV (s[1].toNat : Int) ≤ 15 := by unfold hexV; split <;> (try split) <;> omega
      have b2 : -1 ≤ hexV (s[2].toNat : Int) ∧ hexV (s[2].toNat : Int) ≤ 15 := by unfold hexV; split <;> (try split) <;> omega
      generalize hexV (s[1].toNat : Int) = A at HU2 C1 b1
      generalize hexV (s[2].toNat : Int) = B at HU2 C2 b2
      obtain ⟨b1a, b1b⟩ := b1
      obtain ⟨b2a, b2b⟩ := b2
      clear e1 e2 HUx
      go_enter Tryd.func29, Tryd.ntmps29
      go_wp2_with (go_at_call 32; refine HC.out.mono ?_; rintro e w' ⟨rfl, rfl⟩)
      refine (C1.out _).mono ?_
      rintro e w' ⟨rfl, rfl⟩
      go_wp2_with fail
      refine (C2.out _).mono ?_
      rintro e w' ⟨rfl, rfl⟩
      by_cases hA : A < 0
      · have HU1 : Hid (us (bytesOf s) = (none, s.size)) := by show us (bytesOf s) = _; rw [HU2.out, if_pos (.inl hA)]
        go_wp2_with (go_at_call 33; refine HF.out.mono ?_; rintro e w2 ⟨rfl, hb2, hw2⟩)
        go_ret
        exact ⟨by rw [HU1.out]; rfl, hb2, by rw [HU1.out]; exact hw2⟩
      · by_cases hB : B < 0
        · have HU1 : Hid (us (bytesOf s) = (none, s.size)) := by show us (bytesOf s) = _; rw [HU2.out, if_pos (.inr (.inl hB))]
          go_wp2_with (go_at_call 33; refine HF.out.mono ?_; rintro e w2 ⟨rfl, hb2, hw2⟩)
          go_ret
          exact ⟨by rw [HU1.out]; rfl, hb2, by rw [HU1.out]; exact hw2⟩
        · have HC2 := hid (isPlain_any (A * 16 + B) w)
          cases hpl2 : isPl (A * 16 + B) with
          | true =>
            have HU1 : Hid (us (bytesOf s) = (none, s.size)) := by show us (bytesOf s) = _; rw [HU2.out, if_pos (.inr (.inr hpl2))]
            rw [hpl2] at HC2
            clear hpl2
            go_wp2_with (first
              | (go_at_call 32; refine HC2.out.mono ?_; rintro e w' ⟨rfl, rfl⟩)
              | (go_at_call 33; refine HF.out.mono ?_; rintro e w2 ⟨rfl, hb2, hw2⟩))
            go_ret
            exact ⟨by rw [HU1.out]; rfl, hb2, by rw [HU1.out]; exact hw2⟩
          | false =>
            have HU1 : Hid (us (bytesOf s) = (some (A * 16 + B), 3)) := by
              show us (bytesOf s) = _
              rw [HU2.out, hpl2, if_neg (by simp; omega)]
            rw [hpl2] at HC2
            clear hpl2
            go_wp2_with (first
              | (go_at_call 32; refine HC2.out.mono ?_; rintro e w' ⟨rfl, rfl⟩)
              | (go_at_call 21; refine (addByte_any g most st (A * 16 + B) w HW.out HE.out hg (by omega) (by omega)).mono ?_; rintro e w2 ⟨rfl, hb2, hw2⟩))
            go_ret
            exact ⟨by rw [HU1.out]; rfl, hb2, by rw [HU1.out]; exact hw2⟩

theorem bytes_extract (s : ByteArray) (a b : Nat) : bytesOf (s.extract a b) = ((bytesOf s).take b).drop a := by
  unfold bytesOf
  rw [Lib.extract_data, List.drop_take]
  simp [List.map_take, List.map_drop]
theorem us_pos (L : List Int) (h : 1 ≤ L.length) : L ≠ [] := by
  intro e
  rw [e] at h
  simp at h
/-- What is left to be read at place k. -/
def rest (s : ByteArray) (k : Nat) : List Int := ((bytesOf s).take (s.size - 1)).drop k
theorem rest_len (s : ByteArray) (k : Nat) : (rest s k).length = s.size - 1 - k := by
  unfold rest
  rw [List.length_drop, List.length_take, bytesOf_len]
  omega
theorem rest_drop (s : ByteArray) (k n : Nat) : (rest s k).drop n = rest s (k + n) := by
  unfold rest
  rw [List.drop_drop]
theorem comb_step (st : Option (List Int)) (L : List Int) (h : L ≠ []) : comb (unSt 4096 st (us L).1) (L.drop (us L).2) = comb st L := by
  cases st with
  | none =>
    rw [comb_none]
    cases (us L).1 with
    | none => rfl
    | some b => rfl
  | some zs =>
    cases hu : (us L).1 with
    | none => rw [comb_bad zs L h hu]; rfl
    | some b => rw [comb_good zs L h b hu]; rfl

set_option maxHeartbeats 1600000 in
theorem implUnquote_any (s : ByteArray) (w : World) (hs : s.size ≤ 1048576) (he : Err w 2) (he2 : Err w 1) (hg : 2 < w.heap.size) (hg2 : 1 < w.heap.size) :
    Calls Tryd.prog 15 #[.string s] w fun e w' => e = .returned (.tuple #[.string (strOf ((uq s).getD [])), .bool (uq s).isSome]) ∧ Below w.heap.size w w' := by
  have HE := hid he
  have HE2 := hid he2
  have HG := hid hg
  have HG2 := hid hg2
  clear he he2 hg hg2
  by_cases h2 : s.size < 2
  · have HU := hid (uq_short s h2)
    have h2' : (s.size : Int) - 1 < 1 := by omega
    go_enter Tryd.func15, Tryd.ntmps15
    go_wp2
    go_ret2
    exact ⟨by rw [HU.out]; rfl, Below.refl _ _⟩
  · have h2' : ¬ (s.size : Int) - 1 < 1 := by omega
    have l0 : (0 : Int) < (s.size : Int) := by omega
    have l1 : (s.size : Int) - 1 < (s.size : Int) := by omega
    have l2 : 0 ≤ (s.size : Int) - 1 := by omega
    have hk0 : 0 < s.size := by omega
    have hk1 : s.size - 1 < s.size := by omega
    have e0 := at_str s 0 hk0
    have e1 := at_str s (s.size - 1) hk1
    by_cases hm : ¬ ((s[0].toNat : Int) = 34 ∧ (s[s.size - 1].toNat : Int) = 34)
    · have HU : Hid (uq s = none) := by
        show uq s = none
        unfold uq
        rw [e0, e1]
        exact if_neg (fun x => hm x.2)
      rcases (by simp only [bne_iff_ne, bne_eq_false_iff_eq]; omega : ((s[0].toNat : Int) != 34) = true ∨ (((s[0].toNat : Int) != 34) = false ∧ ((s[s.size - 1].toNat : Int) != 34) = true)) with hq | ⟨hq, hq2⟩
      · clear hm e0 e1
        go_enter Tryd.func15, Tryd.ntmps15
        go_wp2
        go_ret2
        exact ⟨by rw [HU.out]; rfl, Below.refl _ _⟩
      · clear hm e0 e1
        have tn : ((s.size : Int) - 1).toNat = s.size - 1 := by omega
        go_enter Tryd.func15, Tryd.ntmps15
        go_wp2
        go_ret2
        exact ⟨by rw [HU.out]; rfl, Below.refl _ _⟩
    · have HU : Hid (uq s = comb (some []) (rest s 1)) := by
        show uq s = comb (some []) (rest s 1)
        unfold uq
        rw [e0, e1, if_pos ⟨by omega, by omega⟩]
        rfl
      have q0 : ((s[0].toNat : Int) != 34) = false := by rw [bne_eq_false_iff_eq]; omega
      have q1 : ((s[s.size - 1].toNat : Int) != 34) = false := by rw [bne_eq_false_iff_eq]; omega
      clear hm e0 e1
      have tn : ((s.size : Int) - 1).toNat = s.size - 1 := by omega
      obtain ⟨T, hT⟩ : ∃ T : Nat, s.size = T + 1 := ⟨s.size - 1, by omega⟩
      have HT := hid hT
      clear hT
      go_enter Tryd.func15, Tryd.ntmps15
      go_wp2_with fail
      refine (newWriter_any 4096 none 0 0 [] w HE.out HG.out ⟨rfl, Nat.le_refl _, by omega, by omega, by simp, fun h => by omega⟩ (by omega) (by omega)).mono ?_
      rintro e w1 ⟨rfl, hb1, hw1⟩
      have HB1 := hid hb1
      have HW1 : Hid (Wr w1 w.heap.size 4096 (some [])) := hw1
      clear hb1 hw1
      go_wp2
      go_loopw [6] (fun i wr => ∃ (k : Nat) (st : Option (List Int)), 1 ≤ k ∧ k ≤ s.size - 1 ∧ i = .int .i64 k ∧ Wr wr w.heap.size 4096 st ∧ comb st (rest s k) = uq s ∧ Below w.heap.size w wr) (fun i _ => s.size - (intOf i).toNat)
      case atStart => exact ⟨1, some [], by omega, by omega, rfl, HW1.out, HU.out.symm, HB1.out⟩
      case round =>
        obtain ⟨k, st, hk1, hk2, rfl, hwr, hcomb, hbel⟩ := hrel
        have HW := hid hwr
        have HB := hid hbel
        have HC := hid hcomb
        obtain ⟨v, ev, zs, c0, c1, c2, f0, f2, ho, hl, hm4, hb, hst⟩ := hwr
        have HO := hid ho
        have HZ := hid hb
        clear hcomb hbel c0 c1 f0 f2 ho hb
        rcases hst with ⟨rfl, rfl⟩ | ⟨⟨y, z, rfl⟩, rfl⟩
        · by_cases hlt : k < s.size - 1
          · have hlt' : (k : Int) < (s.size : Int) - 1 := by omega
            have hne : rest s k ≠ [] := us_pos _ (by rw [rest_len]; omega)
            have HX : Hid (bytesOf (s.extract k (s.size - 1)) = rest s k) := bytes_extract s k (s.size - 1)
            have HS := hid (comb_step (some zs) (rest s k) hne)
            have ul := us_len (rest s k) hne
            rw [rest_len] at ul
            have HUL := hid ul
            have hxs : (s.extract k (s.size - 1)).size = s.size - 1 - k := by rw [← bytesOf_len, HX.out, rest_len]
            have HXS := hid hxs
            clear hne ul hxs
            have HQ := hid (unquoted_any w.heap.size 4096 (some zs) (s.extract k (s.size - 1)) wr HW.out (HE.out.below HB.out HG.out) (HE2.out.below HB.out HG2.out) HG.out (by rw [HXS.out]; omega) (by rw [HXS.out]; omega))
            rw [HX.out] at HQ
            rw [rest_drop] at HS
            generalize (us (rest s k)).2 = n at HQ HS HUL
            generalize (us (rest s k)).1 = ob at HQ HS
            have n1 : 1 ≤ n := HUL.out.1
            have n2 : n ≤ s.size - 1 - k := HUL.out.2
            go_wp2_with fail
            refine HQ.out.mono ?_
            rintro e w2 ⟨rfl, hb2, hw2⟩
            have HB2 := hid (HB.out.trans hb2)
            have HW2 := hid hw2
            clear hb2 hw2 c2
            go_wp2
            go_roundw
            case rel => exact ⟨k + n, _, by omega, by omega, by go_num, HW2.out, by rw [HS.out]; exact HC.out, HB2.out⟩
            case measure => simp [intOf]; omega
          · have hlt' : ¬ (k : Int) < (s.size : Int) - 1 := by omega
            have HN : Hid (uq s = some zs) := by
              show uq s = some zs
              have : rest s k = [] := List.eq_nil_of_length_eq_zero (by rw [rest_len]; omega)
              rw [← HC.out, this, comb_nil zs hl]
            go_wp2_with fail
            refine (told_some w.heap.size 4096 zs wr HW.out).mono ?_
            rintro e w4 ⟨v4, rfl, ho4, rfl⟩
            obtain ⟨a3, c3, hv3, hrd3, _⟩ := ho4.rd (byte_at HZ.out) (by omega)
            have hst := run_str hrd3
            generalize hL3 : zs.length = L3 at hv3 hst
            clear ho4 hrd3 hL3
            rw [hv3]
            clear hv3
            go_wp2
            go_ret2
            exact ⟨by rw [HN.out]; rfl, HB.out⟩
        · have HN : Hid (uq s = none) := by
            show uq s = none
            rw [← HC.out]; rfl
          have hst := fun w => run_str (w := w) (a := none) (n := 0) (c := 0) (zs := []) ⟨rfl, Nat.le_refl _, by omega, by omega, by simp, fun h => by omega⟩
          by_cases hlt : k < s.size - 1
          · have hlt' : (k : Int) < (s.size : Int) - 1 := by omega
            go_wp2_with (go_at_call 23; refine (told_none w.heap.size 4096 wr HW.out).mono ?_; rintro e w4 ⟨rfl, rfl⟩)
            go_ret2
            exact ⟨by rw [HN.out]; rfl, HB.out⟩
          · have hlt' : ¬ (k : Int) < (s.size : Int) - 1 := by omega
            go_wp2_with (go_at_call 23; refine (told_none w.heap.size 4096 wr HW.out).mono ?_; rintro e w4 ⟨rfl, rfl⟩)
            go_ret2
            exact ⟨by rw [HN.out]; rfl, HB.out⟩
end Go.Proofs.YtceplgnijcdbfafDoor
