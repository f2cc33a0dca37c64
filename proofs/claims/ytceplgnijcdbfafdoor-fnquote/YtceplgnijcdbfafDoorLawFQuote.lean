/-
  The law FnQuote answers true at every slice of bytes, and writes nothing that was there.
-/
import Derived.Test.YtceplgnijcdbfafDoorDrawQ
import Derived.Test.YtceplgnijcdbfafDoorImplUnq
namespace Go.Proofs.YtceplgnijcdbfafDoor
open Go.RowKit

theorem hexD_vis (d : Int) (h0 : 0 ≤ d) (h1 : d ≤ 15) : 33 ≤ hexD d ∧ hexD d ≤ 126 := by unfold hexD; split <;> omega
theorem qb_vis (z : Int) (h0 : 0 ≤ z) (h1 : z ≤ 255) : ∀ x ∈ qb z, 33 ≤ x ∧ x ≤ 126 := by
  intro x hx
  unfold qb at hx
  split at hx
  · rename_i h
    have := (isPl_iff z).1 h
    simp at hx
    omega
  · have a := hexD_vis (z / 16) (by omega) (by omega)
    have b := hexD_vis (z % 16) (by omega) (by omega)
    simp at hx
    omega
theorem quote_vis (s : ByteArray) : ∀ x ∈ (34 :: qs (bytesOf s) ++ [34] : List Int), 33 ≤ x ∧ x ≤ 126 := by
  intro x hx
  simp only [List.cons_append, List.mem_cons, List.mem_append] at hx
  rcases hx with e | e | e
  · omega
  · obtain ⟨z, hz, hx⟩ := List.mem_flatMap.1 e
    have := bytesOf_byte s z hz
    exact qb_vis z this.1 this.2 x hx
  · simp at e; omega
theorem qt_bytes (s : ByteArray) (h : s.size ≤ 4096) : bytesOf (qt s) = 34 :: qs (bytesOf s) ++ [34] := by
  unfold qt
  rw [if_pos h]
  exact bytes_str _ (fun z hz => by have := quote_vis s z hz; omega)
theorem qt_size (s : ByteArray) : (qt s).size ≤ 12290 := by
  by_cases h : s.size ≤ 4096
  · rw [← bytesOf_len, qt_bytes s h]
    have := qs_len (bytesOf s)
    have := bytesOf_len s
    simp; omega
  · unfold qt
    rw [if_neg h]
    exact Nat.zero_le _
theorem qt_vis (s : ByteArray) (i : Nat) (hi : i < (qt s).size) : 33 ≤ ((qt s)[i].toNat : Int) ∧ ((qt s)[i].toNat : Int) ≤ 126 := by
  by_cases h : s.size ≤ 4096
  · rw [← at_str (qt s) i hi, qt_bytes s h]
    have hl : i < (34 :: qs (bytesOf s) ++ [34] : List Int).length := by rw [← qt_bytes s h, bytesOf_len]; exact hi
    rw [List.getElem?_eq_getElem hl]
    exact quote_vis s _ (List.getElem_mem hl)
  · exfalso
    unfold qt at hi
    rw [if_neg h] at hi
    exact absurd hi (Nat.not_lt_zero _)
theorem qt_uq (s : ByteArray) (h : s.size ≤ 4096) : uq (qt s) = some (bytesOf s) :=
  uq_of_quote (qt s) (bytesOf s) (bytesOf_byte s) (by rw [bytesOf_len]; exact h) (qt_bytes s h)
theorem qt_ne (s : ByteArray) (h : s.size ≤ 4096) : qt s ≠ ByteArray.empty := by
  intro e
  have a := qt_bytes s h
  rw [e] at a
  have : (bytesOf ByteArray.empty) = [] := rfl
  rw [this] at a
  simp at a
theorem toList_ne {a : ByteArray} (h : a ≠ ByteArray.empty) : ¬ a.toList = [] := by
  intro e
  rw [ByteArray.toList_eq] at e
  exact h (Go.WideShapes.bytes_inj e)

set_option maxHeartbeats 1600000 in
theorem lawFQuote_walk (a : Option Addr) (n c : Nat) (zs : List Int) (w : World) (hr : IsRow .u8 w a n c zs) (he : Err w 2) (he2 : Err w 1) (hg : 2 < w.heap.size) (hg2 : 1 < w.heap.size) :
    Calls Tryd.prog 4 #[.slice a n c] w fun e w' => e = .returned (.bool true) ∧ Below w.heap.size w w' := by
  by_cases hbig : 1048576 < n
  · have hb' : (1048576 : Int) < (n : Int) := by omega
    clear he he2 hg hg2 hr
    go_enter Tryd.func4, Tryd.ntmps4
    go_wp2
    go_ret
    exact ⟨rfl, Below.refl _ _⟩
  · have hb' : ¬ (1048576 : Int) < (n : Int) := by omega
    have hrd := rd_of_row hr (by omega)
    have HR := hid hrd
    have HE := hid he
    have HG := hid hg
    have HE2 := hid he2
    have HG2 := hid hg2
    clear he he2 hg hg2 hr hrd
    go_enter Tryd.func4, Tryd.ntmps4
    go_wp2_with fail
    refine (drawQuote_any a n c _ w HR.out (by omega)).mono ?_
    rintro e w1 ⟨s, rfl, hs, hb1⟩
    have HB1 := hid hb1
    clear hb1
    go_wp2_with fail
    refine (implQuote_any s w1 (by omega) (HE.out.below HB1.out HG.out) (Nat.lt_of_lt_of_le HG.out HB1.out.size)).mono ?_
    rintro e w2 ⟨rfl, hb2⟩
    have HB2 := hid (HB1.out.trans (hb2.mono HB1.out.size))
    clear hb2
    have HS := hid (specQuote_any s w2 (by omega))
    have HU := hid (fun w he he2 hg hg2 => implUnquote_any (qt s) w (by have := qt_size s; omega) he he2 hg hg2)
    have HV := hid (qt_vis s)
    have hqs := qt_size s
    by_cases h4 : s.size ≤ 4096
    · have hq := toList_ne (qt_ne s h4)
      have hqe : (qt s).toList.isEmpty = false := by cases h : (qt s).toList with | nil => exact absurd h hq | cons _ _ => rfl
      rw [qt_uq s h4] at HU
      have hsb : strOf (bytesOf s) = s := str_bytes s
      simp only [Option.getD_some, Option.isSome_some, hsb] at HU
      generalize qt s = q at *
      clear hsb h4
      go_wp2_with fail
      refine HS.out.mono ?_
      rintro e w3 ⟨rfl, hb3⟩
      have HB3 := hid (HB2.out.trans (hb3.mono HB2.out.size))
      clear hb3
      go_wp2
      go_loop [5] (fun i => ∃ k : Nat, i = .int .i64 k ∧ k ≤ q.size) (fun i => q.size - (intOf i).toNat)
      case atStart => exact ⟨0, rfl, Nat.zero_le _⟩
      case round =>
        obtain ⟨k, rfl, hk⟩ := hrel
        by_cases hlt : k < q.size
        · have hlt' : (k : Int) < (q.size : Int) := by omega
          have v0 := (HV.out k hlt).1
          have v1 := (HV.out k hlt).2
          go_wp2
          go_round
          case rel => exact ⟨k + 1, by go_num, by omega⟩
          case measure => simp [intOf]; omega
        · have hlt' : ¬ (k : Int) < (q.size : Int) := by omega
          go_wp2_with fail
          refine (HU.out w3 (HE.out.below HB3.out HG.out) (HE2.out.below HB3.out HG2.out) (Nat.lt_of_lt_of_le HG.out HB3.out.size) (Nat.lt_of_lt_of_le HG2.out HB3.out.size)).mono ?_
          rintro e w4 ⟨rfl, hb4⟩
          have HB4 := hid (HB3.out.trans (hb4.mono HB3.out.size))
          clear hb4
          go_wp2
          go_ret
          exact ⟨rfl, HB4.out⟩
    · have hq : qt s = ByteArray.empty := by unfold qt; exact if_neg h4
      have hu : uq (ByteArray.empty) = none := uq_short _ (by decide)
      rw [hq, hu] at HU
      rw [hq] at HS
      simp only [Option.getD_none, Option.isSome_none] at HU
      rw [hq]
      clear hqs HV hq hu h4
      have hss : strOf [] = ByteArray.empty := rfl
      rw [hss] at HU
      clear hss
      go_wp2_with fail
      refine HS.out.mono ?_
      rintro e w3 ⟨rfl, hb3⟩
      have HB3 := hid (HB2.out.trans (hb3.mono HB2.out.size))
      clear hb3
      go_wp2
      go_loop [5] (fun i => i = .int .i64 0) (fun _ => 0)
      case atStart => rfl
      case round =>
        obtain rfl := hrel
        go_wp2_with fail
        refine (HU.out w3 (HE.out.below HB3.out HG.out) (HE2.out.below HB3.out HG2.out) (Nat.lt_of_lt_of_le HG.out HB3.out.size) (Nat.lt_of_lt_of_le HG2.out HB3.out.size)).mono ?_
        rintro e w4 ⟨rfl, hb4⟩
        have HB4 := hid (HB3.out.trans (hb4.mono HB3.out.size))
        clear hb4
        go_wp2
        go_ret
        exact ⟨rfl, HB4.out⟩
end Go.Proofs.YtceplgnijcdbfafDoor
