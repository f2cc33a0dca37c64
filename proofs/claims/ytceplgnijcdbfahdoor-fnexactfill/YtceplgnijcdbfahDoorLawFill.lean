/-
  The law FnExactFill answers true at all its arguments, and writes nothing that was there.
-/
import Derived.Test.YtceplgnijcdbfahDoorMarks
import Derived.Test.YtceplgnijcdbfahDoorFill
namespace Go.Proofs.YtceplgnijcdbfahDoor
open Go.RowKit

/-- What a put leaves, in one form. -/
theorem Put.view {w w' : World} {r : Option (List Int)} {e : Ending} (h : Put w r e w') (hb : ∀ i : Nat, 0 ≤ (r.getD [])[i]?.getD 0 ∧ (r.getD [])[i]?.getD 0 ≤ 255) (hl : (r.getD []).length ≤ 4096) :
    ∃ a c, e = .returned (.tuple #[.slice a (r.getD []).length c, .bool r.isSome]) ∧ Rd w' a (r.getD []).length c (r.getD []) ∧ (∀ x, a = some x → w.heap.size ≤ x.block) ∧ Wb w' a (r.getD []).length ∧ Below w.heap.size w w' := by
  obtain ⟨hbel, ⟨rfl, rfl⟩ | ⟨v, zs, rfl, rfl, ho⟩⟩ := h
  · exact ⟨none, 0, rfl, ⟨rfl, by simp, by omega, by simp, by simp, fun h => by simp at h⟩, (fun x hx => by cases hx), (fun x hx => by cases hx), hbel⟩
  · simp only [Option.getD_some] at hb hl ⊢
    obtain ⟨a, c, rfl, hrd, hB⟩ := ho.rd hb (by omega)
    exact ⟨a, c, rfl, hrd, hB, ho.wb rfl _, hbel⟩

theorem fl_facts (zs : List Int) (m : Int) (hb : ∀ i : Nat, 0 ≤ zs[i]?.getD 0 ∧ zs[i]?.getD 0 ≤ 255) :
    (∀ i : Nat, 0 ≤ ((fl zs m).getD [])[i]?.getD 0 ∧ ((fl zs m).getD [])[i]?.getD 0 ≤ 255) ∧ ((fl zs m).getD []).length ≤ 4096 := by
  unfold fl
  split
  · rename_i h
    refine ⟨byte_at (byte_append (at_byte hb) (fun z hz => ?_)), ?_⟩
    · obtain ⟨_, rfl⟩ := List.mem_replicate.1 hz
      omega
    · simp; omega
  · simp

set_option maxHeartbeats 2000000 in
/-- The law's road behind its guards. -/
theorem lawFill_road (a : Option Addr) (n c : Nat) (zs : List Int) (m : Int) (w : World) (hrd : Rd w a n c zs) (hn : n ≤ 1048576) 
    (he : Err w 2) (he2 : Err w 0) (hg : 2 < w.heap.size) (hg2 : 0 < w.heap.size) :
    Calls Tryd.prog 4 #[.slice a n c, .int .i64 m] w fun e w' => e = .returned (.bool true) ∧ Below w.heap.size w w' := by
  have HN : Hid (n = zs.length) := hrd.1
  have HB : Hid (∀ i : Nat, 0 ≤ zs[i]?.getD 0 ∧ zs[i]?.getD 0 ≤ 255) := hrd.2.2.2.2.1
  have hns : ¬ (1048576 : Int) < (n : Int) := by omega
  have HR := hid hrd
  have HE := hid he
  have HE2 := hid he2
  have HG := hid hg
  have HG2 := hid hg2
  obtain ⟨hob, hol⟩ := fl_facts zs m HB.out
  have HS := hid (fun (a : Option Addr) (c : Nat) (w : World) (h : Rd w a n c zs) => specFill_any a n c zs m w h (by omega))
  have HI := hid (fun (a : Option Addr) (c : Nat) (w : World) (h : Rd w a n c zs) (he : Err w 2) (he2 : Err w 0) (hg : 2 < w.heap.size) (hg2 : 0 < w.heap.size) => implFill_any a n c zs m w h (by omega) he he2 hg hg2)
  generalize fl zs m = r at HS HI hob hol
  have HOB := hid hob
  clear hrd he he2 hg hg2 hob
  generalize hout : r.getD [] = out at HOB hol
  generalize hbo : r.isSome = bo
  have HO := hid hout
  have HBO := hid hbo
  clear hout hbo
  generalize hL : out.length = L at hol
  have HL := hid hL
  clear hL
  have hview : ∀ (w w' : World) (e : Ending), Put w r e w' → ∃ a c, e = .returned (.tuple #[.slice a L c, .bool bo]) ∧ Rd w' a L c out ∧ (∀ x, a = some x → w.heap.size ≤ x.block) ∧ Wb w' a L ∧ Below w.heap.size w w' := by
    intro w w' e h
    have := h.view (by rw [HO.out]; exact HOB.out) (by rw [HO.out, HL.out]; exact hol)
    rw [HO.out, HL.out, HBO.out] at this
    exact this
  have HV := hid hview
  clear hview
  have hbb : (bo != bo) = false := by simp
  have new : ∀ w : World, Rd (w.alloc (.cells (byteVals zs) 5)) (some ⟨w.heap.size, 0, none⟩) n n zs := by
    intro w
    have := rd_new w zs (by rw [← HN.out]; omega) HB.out
    rw [← HN.out] at this; exact this
  have NEW := hid new
  clear new
  go_enter Tryd.func4, Tryd.ntmps4
  -- the model's answer
  go_wp2_with fail
  refine (toByteS_any a n c zs _ HR.out).mono ?_
  rintro e w1 ⟨rfl, hw1⟩
  have B1 := hid (show Below w.heap.size w w1 by rw [hw1]; exact (Below.refl _ _).alloc (Nat.le_refl _) _)
  have R1 := hid (show Rd w1 (some ⟨w.heap.size, 0, none⟩) n n zs by rw [hw1]; exact NEW.out w)
  clear hw1
  go_wp2_with fail
  refine (HS.out _ _ w1 R1.out).mono ?_
  intro e w2 hp
  obtain ⟨a0, c0, rfl, hr0, hB0, _, hb2⟩ := HV.out _ _ _ hp
  have RW := hid hr0
  have B2 := hid (B1.out.trans (hb2.mono B1.out.size))
  clear hp hr0 hB0 hb2 R1 B1
  -- the program's answer
  go_wp2_with fail
  refine (toByteS_any a n c zs _ (HR.out.kept B2.out)).mono ?_
  rintro e w3 ⟨rfl, hw3⟩
  have S3 := hid (show w3.heap.size = w2.heap.size + 1 by rw [hw3]; simp)
  have C3 := hid (show Below w2.heap.size w2 w3 by rw [hw3]; exact (Below.refl _ _).alloc (Nat.le_refl _) _)
  have B3 := hid (B2.out.trans (C3.out.mono B2.out.size))
  have X3 := hid (show Rd w3 (some ⟨w2.heap.size, 0, none⟩) n n zs by rw [hw3]; exact NEW.out w2)
  have W3 := hid (show Wb w3 (some ⟨w2.heap.size, 0, none⟩) n by rw [hw3]; exact wb_new _ _ _ _)
  clear hw3
  go_wp2_with fail
  refine (HI.out _ _ w3 X3.out (HE.out.below B3.out HG.out) (HE2.out.below B3.out HG2.out) (Nat.lt_of_lt_of_le HG.out B3.out.size) (Nat.lt_of_lt_of_le HG2.out B3.out.size)).mono ?_
  intro e w4 hp
  obtain ⟨a1, c1, rfl, hr1, hB1, hwb1, hb4⟩ := HV.out _ _ _ hp
  have D4 := hid hb4
  have C4 := hid (C3.out.trans (hb4.mono C3.out.size))
  have B4 := hid (B3.out.trans (hb4.mono B3.out.size))
  have G4 := hid hr1
  have GB := hid hB1
  have GW := hid hwb1
  clear hp hr1 hB1 hwb1 hb4
  go_wp2_with fail
  refine (eqByteS_same a1 a0 L L c1 c0 out _ G4.out (RW.out.kept C4.out)).mono ?_
  rintro e w5 ⟨rfl, q5, hw5⟩
  have E5 := hid (show Below w4.heap.size w4 w5 by rw [hw5]; exact Below.drewN' (Below.refl _ _) q5)
  have S5 := hid (show w5.heap.size = w4.heap.size by rw [hw5]; rfl)
  clear hw5
  have D5 := hid (D4.out.trans (E5.out.mono D4.out.size))
  have C5 := hid (C4.out.trans (E5.out.mono C4.out.size))
  have B5 := hid (B4.out.trans (E5.out.mono B4.out.size))
  -- the argument is as it was
  go_wp2_with fail
  refine (toByteS_any a n c zs _ (HR.out.kept B5.out)).mono ?_
  rintro e w6 ⟨rfl, hw6⟩
  have F6 := hid (show Below w5.heap.size w5 w6 by rw [hw6]; exact (Below.refl _ _).alloc (Nat.le_refl _) _)
  have X6 := hid (show Rd w6 (some ⟨w5.heap.size, 0, none⟩) n n zs by rw [hw6]; exact NEW.out w5)
  clear hw6
  have E6 := hid (E5.out.trans (F6.out.mono E5.out.size))
  have D6 := hid (D5.out.trans (F6.out.mono D5.out.size))
  have C6 := hid (C5.out.trans (F6.out.mono C5.out.size))
  have B6 := hid (B5.out.trans (F6.out.mono B5.out.size))
  go_wp2_with fail
  refine (eqByteS_same _ _ n n n n zs _ (X3.out.kept D6.out) X6.out).mono ?_
  rintro e w7 ⟨rfl, q7, hw7⟩
  have F7 := hid (show Below w6.heap.size w6 w7 by rw [hw7]; exact Below.drewN' (Below.refl _ _) q7)
  clear hw7 F6 X6
  have E7 := hid (E6.out.trans (F7.out.mono E6.out.size))
  have D7 := hid (D6.out.trans (F7.out.mono D6.out.size))
  have C7 := hid (C6.out.trans (F7.out.mono C6.out.size))
  have B7 := hid (B6.out.trans (F7.out.mono B6.out.size))
  clear F7 E5 E6 D5 D6 C5 C6 B5 B6
  -- marks in the argument
  go_wp2_with fail
  refine (mark_any _ n n zs 1 _ (X3.out.kept D7.out) (W3.out.below D7.out X3.out.lt) (by omega) (by omega)).mono ?_
  rintro e w8 ⟨rfl, _, hg8⟩
  have G8 := hid hg8
  clear hg8
  have C8 := hid (C7.out.grown G8.out C7.out.size (fun k hk => by simp at hk; omega))
  have B8 := hid (B7.out.grown G8.out B7.out.size (fun k hk => by have := B2.out.size; simp at hk; omega))
  have hne : ∀ x, a1 = some x → some x.block ≠ (some (⟨w2.heap.size, 0, none⟩ : Addr)).map (·.block) := by
    intro x hx e
    have := GB.out x hx
    have := S3.out
    simp at e
    omega
  have R8 := hid ((G4.out.kept E7.out).grown G8.out hne)
  have W8 := hid ((GW.out.below E7.out G4.out.lt).grown G8.out (fun x hx hp => ⟨(G4.out.kept E7.out).lt x hx hp, hne x hx⟩))
  clear hne
  have hk1 : ¬ (1 + (n : Int)) < 0 := by omega
  go_wp2_with fail
  refine (eqByteS_same a1 a0 L L c1 c0 out _ R8.out (RW.out.kept C8.out)).mono ?_
  rintro e w9 ⟨rfl, q9, hw9⟩
  have F9 := hid (show Below w8.heap.size w8 w9 by rw [hw9]; exact Below.drewN' (Below.refl _ _) q9)
  clear hw9
  have C9 := hid (C8.out.trans (F9.out.mono C8.out.size))
  have B9 := hid (B8.out.trans (F9.out.mono B8.out.size))
  have R9 := hid (R8.out.kept F9.out)
  have W9 := hid (W8.out.below F9.out R8.out.lt)
  clear F9 R8 W8 G8 C8 B8 E7 D7 C7 B7
  -- marks in the answer
  go_wp2_with fail
  refine (mark_any a1 L c1 out 1 _ R9.out W9.out (by omega) (by omega)).mono ?_
  rintro e w10 ⟨rfl, hm10, hg10⟩
  have M10 := hid hm10
  have G10 := hid hg10
  clear hm10 hg10
  have hrow : ∀ k, a1.map (·.block) = some k → w3.heap.size ≤ k := by
    intro k hk
    cases a1 with
    | none => cases hk
    | some x => simp at hk; rw [← hk]; exact GB.out x rfl
  have C10 := hid (C9.out.grown G10.out C9.out.size (fun k hk => by have := hrow k hk; have := S3.out; omega))
  have B10 := hid (B9.out.grown G10.out B9.out.size (fun k hk => by have := hrow k hk; have := B3.out.size; omega))
  clear hrow G10 C9 B9 R9 W9
  go_wp2_with fail
  refine (held_any a1 L c1 1 _ M10.out (by omega) (by omega)).mono ?_
  rintro e w10' ⟨rfl, rfl⟩
  have hk2 : ¬ (1 + (L : Int)) < 0 := by omega
  have hk3 : ((1 + (L : Int)) != (1 + (L : Int))) = false := by simp
  -- once more
  go_wp2_with fail
  refine (toByteS_any a n c zs _ (HR.out.kept B10.out)).mono ?_
  rintro e w11 ⟨rfl, hw11⟩
  have F11 := hid (show Below w10.heap.size w10 w11 by rw [hw11]; exact (Below.refl _ _).alloc (Nat.le_refl _) _)
  have X11 := hid (show Rd w11 (some ⟨w10.heap.size, 0, none⟩) n n zs by rw [hw11]; exact NEW.out w10)
  clear hw11
  have C11 := hid (C10.out.trans (F11.out.mono C10.out.size))
  have B11 := hid (B10.out.trans (F11.out.mono B10.out.size))
  go_wp2_with fail
  refine (HI.out _ _ w11 X11.out (HE.out.below B11.out HG.out) (HE2.out.below B11.out HG2.out) (Nat.lt_of_lt_of_le HG.out B11.out.size) (Nat.lt_of_lt_of_le HG2.out B11.out.size)).mono ?_
  intro e w12 hp
  obtain ⟨a2, c2, rfl, hr2, _, _, hb12⟩ := HV.out _ _ _ hp
  have R12 := hid hr2
  have F12 := hid (F11.out.trans (hb12.mono F11.out.size))
  have C12 := hid (C11.out.trans (hb12.mono C11.out.size))
  have B12 := hid (B11.out.trans (hb12.mono B11.out.size))
  clear hp hr2 hb12 F11 C11 B11 X11
  go_wp2_with fail
  refine (eqByteS_same a2 a0 L L c2 c0 out _ R12.out (RW.out.kept C12.out)).mono ?_
  rintro e w13 ⟨rfl, q13, hw13⟩
  have F13 := hid (show Below w12.heap.size w12 w13 by rw [hw13]; exact Below.drewN' (Below.refl _ _) q13)
  clear hw13
  have K13 := hid (F12.out.trans (F13.out.mono F12.out.size))
  have B13 := hid (B12.out.trans (F13.out.mono B12.out.size))
  go_wp2_with fail
  refine (held_any a1 L c1 1 _ (M10.out.kept K13.out) (by omega) (by omega)).mono ?_
  rintro e w13' ⟨rfl, rfl⟩
  go_wp2
  go_ret
  exact ⟨rfl, B13.out⟩

set_option maxHeartbeats 400000 in
theorem lawFill_walk (a : Option Addr) (n c : Nat) (z0 : List Int) (m : Int) (w : World) (w0 : IsRow .u8 w a n c z0) (_w1 : (Lit.int .i64 m).wf = true)
    (he : Err w 2) (he2 : Err w 0) (hg : 2 < w.heap.size) (hg2 : 0 < w.heap.size) :
    Calls Tryd.prog 4 #[.slice a n c, .int .i64 m] w fun e w' => e = .returned (.bool true) ∧ Below w.heap.size w w' := by
  by_cases hbig : 1048576 < n
  · have hb' : (1048576 : Int) < (n : Int) := by omega
    clear w0 he he2 hg hg2
    go_enter Tryd.func4, Tryd.ntmps4
    go_wp2
    go_ret
    exact ⟨rfl, Below.refl _ _⟩
  · exact lawFill_road a n c _ m w (rd_of_row w0 (by omega)) (by omega) he he2 hg hg2
end Go.Proofs.YtceplgnijcdbfahDoor
