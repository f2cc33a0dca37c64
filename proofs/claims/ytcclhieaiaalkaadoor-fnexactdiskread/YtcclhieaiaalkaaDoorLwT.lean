/-
  The law FnExactTear answers true at every argument.
-/
import Derived.Test.YtcclhieaiaalkaaDoorTeI
import Derived.Test.YtcclhieaiaalkaaDoorMarks
namespace Go.Proofs.YtcclhieaiaalkaaDoor
open Go.RowKit
theorem tear_facts (xs ys : List Int) (t : Int) (hx : ∀ i : Nat, 0 ≤ xs[i]?.getD 0 ∧ xs[i]?.getD 0 ≤ 255) (hy : ∀ i : Nat, 0 ≤ ys[i]?.getD 0 ∧ ys[i]?.getD 0 ≤ 255) :
    (∀ i : Nat, 0 ≤ ((tearV xs ys t).getD [])[i]?.getD 0 ∧ ((tearV xs ys t).getD [])[i]?.getD 0 ≤ 255) ∧ ((tearV xs ys t).getD []).length ≤ 4096 := by
  unfold tearV
  split
  · rename_i h
    have hx' := sheet_byte (at_byte hx)
    have hy' := sheet_byte (at_byte hy)
    have l1 := sheet_len h.1
    have l2 := sheet_len h.2
    refine ⟨byte_at ?_, ?_⟩
    · intro z hz
      rw [Option.getD_some, trB] at hz
      rcases List.mem_append.1 hz with h | h
      · exact hy' z (List.mem_of_mem_take h)
      · exact hx' z (List.mem_of_mem_drop h)
    · rw [Option.getD_some, trB, List.length_append, List.length_take, List.length_drop]
      omega
  · simp
theorem TePost.see {w w' : World} {r : Option (List Int)} {e : Ending} (h : TePost r w e w') (hb : ∀ i : Nat, 0 ≤ (r.getD [])[i]?.getD 0 ∧ (r.getD [])[i]?.getD 0 ≤ 255) (hl : (r.getD []).length ≤ 4096) :
    ∃ a c, e = .returned (.slice a (r.getD []).length c) ∧ Rd w' a (r.getD []).length c (r.getD []) ∧ (∀ x, a = some x → w.heap.size ≤ x.block) ∧ Wb w' a (r.getD []).length ∧ Below w.heap.size w w' := by
  obtain ⟨hbel, ⟨rfl, rfl⟩ | ⟨v, zs, rfl, rfl, ho⟩⟩ := h
  · exact ⟨none, 0, rfl, ⟨rfl, by simp, by omega, by simp, by simp, fun h => by simp at h⟩, (fun x hx => by cases hx), (fun x hx => by cases hx), hbel⟩
  · simp only [Option.getD_some] at hb hl ⊢
    obtain ⟨a, c, rfl, hrd, hB⟩ := ho.rd hb (by omega)
    exact ⟨a, c, rfl, hrd, hB, ho.wb rfl _, hbel⟩
theorem bt3 {u v w : World} (h : Below u.heap.size u v) (k : Below v.heap.size v w) : Below u.heap.size u w := h.trans (k.mono h.size)
set_option maxHeartbeats 8000000 in
set_option maxRecDepth 20000 in
theorem lawTear_road (a : Option Addr) (n c : Nat) (xs : List Int) (b : Option Addr) (m d : Nat) (ys : List Int) (t : Int) (w : World) (hx : Rd w a n c xs) (hy : Rd w b m d ys) (hn : n ≤ 1048576) (hm : m ≤ 1048576) (he : Err w 0) (he2 : Err w 1) :
    Calls Tryd.prog 5 #[.slice a n c, .slice b m d, .int .i64 t] w fun e w' => e = .returned (.bool true) ∧ Below w.heap.size w w' := by
  have HX := hid hx
  have HY := hid hy
  have HE := hid he
  have HE2 := hid he2
  have HF := hid (tear_facts xs ys t hx.2.2.2.2.1 hy.2.2.2.2.1)
  have NX : Hid (∀ w : World, Rd (w.alloc (.cells (byteVals xs) 5)) (some ⟨w.heap.size, 0, none⟩) n n xs) := by
    intro w
    have := rd_new w xs (by rw [← hx.1]; omega) hx.2.2.2.2.1
    rw [← hx.1] at this; exact this
  have NY : Hid (∀ w : World, Rd (w.alloc (.cells (byteVals ys) 5)) (some ⟨w.heap.size, 0, none⟩) m m ys) := by
    intro w
    have := rd_new w ys (by rw [← hy.1]; omega) hy.2.2.2.2.1
    rw [← hy.1] at this; exact this
  clear hx hy he he2
  have HS : Hid (∀ (a b : Option Addr) (w : World), Rd w a n n xs → Rd w b m m ys → Calls Tryd.prog 17 #[.slice a n n, .slice b m m, .int .i64 t] w fun e w' => TePost (tearV xs ys t) w e w') := fun a b w h k => specTear_any a n n xs b m m ys t w h k hn hm
  have HI : Hid (∀ (a b : Option Addr) (w : World), Rd w a n n xs → Rd w b m m ys → Err w 0 → Err w 1 → Calls Tryd.prog 15 #[.slice a n n, .slice b m m, .int .i64 t] w fun e w' => TePost (tearV xs ys t) w e w') := fun a b w h k h1 h2 => implTear_any a n n xs b m m ys t w h k h1 h2
  generalize tearV xs ys t = o at HS HI HF
  have HL : Hid ((o.getD []).length ≤ 4096) := HF.out.2
  have HV : Hid (∀ (w w' : World) (e : Ending), TePost o w e w' → ∃ a c, e = .returned (.slice a (o.getD []).length c) ∧ Rd w' a (o.getD []).length c (o.getD []) ∧ (∀ x, a = some x → w.heap.size ≤ x.block) ∧ Wb w' a (o.getD []).length ∧ Below w.heap.size w w') := fun w w' e h => h.see HF.out.1 HF.out.2
  generalize o.getD [] = out at *
  generalize out.length = L at *
  clear HF
  have hl := HL.out
  have hns : ¬ (1048576 : Int) < (n : Int) := by omega
  have hms : ¬ (1048576 : Int) < (m : Int) := by omega
  go_enter Tryd.func5, Tryd.ntmps5
  go_wp2_with fail
  refine (toByteS_any a n c xs _ HX.out).mono ?_
  rintro e w1 ⟨rfl, hw1⟩
  have B1 := hid (show Below w.heap.size w w1 by rw [hw1]; exact (Below.refl _ _).alloc (Nat.le_refl _) _)
  have X1 := hid (show Rd w1 (some ⟨w.heap.size, 0, none⟩) n n xs by rw [hw1]; exact NX.out w)
  clear hw1
  go_wp2_with fail
  refine (toByteS_any b m d ys _ (HY.out.kept B1.out)).mono ?_
  rintro e w2 ⟨rfl, hw2⟩
  have b2 := hid (show Below w1.heap.size w1 w2 by rw [hw2]; exact (Below.refl _ _).alloc (Nat.le_refl _) _)
  have Y2 := hid (show Rd w2 (some ⟨w1.heap.size, 0, none⟩) m m ys by rw [hw2]; exact NY.out w1)
  have X2 := hid (X1.out.kept b2.out)
  have B2 := hid (bt3 B1.out b2.out)
  clear hw2 b2 B1 X1
  go_wp2_with fail
  refine (HS.out _ _ w2 X2.out Y2.out).mono ?_
  intro e w3 hp
  obtain ⟨a0, c0, rfl, hr0, -, -, hb3⟩ := HV.out _ _ _ hp
  have RW := hid hr0
  have B3 := hid (bt3 B2.out hb3)
  clear hp hr0 hb3 B2 X2 Y2 HS
  go_wp2_with fail
  refine (toByteS_any a n c xs _ (HX.out.kept B3.out)).mono ?_
  rintro e w4 ⟨rfl, hw4⟩
  have C4 := hid (show Below w3.heap.size w3 w4 by rw [hw4]; exact (Below.refl _ _).alloc (Nat.le_refl _) _)
  have S4 := hid (show w4.heap.size = w3.heap.size + 1 by rw [hw4]; simp)
  have X4 := hid (show Rd w4 (some ⟨w3.heap.size, 0, none⟩) n n xs by rw [hw4]; exact NX.out w3)
  have WX4 := hid (show Wb w4 (some ⟨w3.heap.size, 0, none⟩) n by rw [hw4]; exact wb_new _ _ _ _)
  have B4 := hid (bt3 B3.out C4.out)
  clear hw4
  go_wp2_with fail
  refine (toByteS_any b m d ys _ (HY.out.kept B4.out)).mono ?_
  rintro e w5 ⟨rfl, hw5⟩
  have b5 := hid (show Below w4.heap.size w4 w5 by rw [hw5]; exact (Below.refl _ _).alloc (Nat.le_refl _) _)
  have S5 := hid (show w5.heap.size = w4.heap.size + 1 by rw [hw5]; simp)
  have Y5 := hid (show Rd w5 (some ⟨w4.heap.size, 0, none⟩) m m ys by rw [hw5]; exact NY.out w4)
  have WY5 := hid (show Wb w5 (some ⟨w4.heap.size, 0, none⟩) m by rw [hw5]; exact wb_new _ _ _ _)
  have X5 := hid (X4.out.kept b5.out)
  have WX5 := hid (WX4.out.below b5.out X4.out.lt)
  have C5 := hid (bt3 C4.out b5.out)
  have B5 := hid (bt3 B4.out b5.out)
  clear hw5 b5 X4 WX4 C4 B4
  go_wp2_with fail
  refine (HI.out _ _ w5 X5.out Y5.out (HE.out.below B5.out HE.out.lt) (HE2.out.below B5.out HE2.out.lt)).mono ?_
  intro e w6 hp
  obtain ⟨a1, c1, rfl, hr1, hB1, hwb1, hb6⟩ := HV.out _ _ _ hp
  have D6 := hid hb6
  have G6 := hid hr1
  have GB := hid hB1
  have GW := hid hwb1
  have C6 := hid (bt3 C5.out hb6)
  have B6 := hid (bt3 B5.out hb6)
  clear hp hr1 hB1 hwb1 hb6
  go_wp2_with fail
  refine (eqByteS_same a1 a0 L L c1 c0 out _ G6.out (RW.out.kept C6.out)).mono ?_
  rintro e w7 ⟨rfl, q7, hw7⟩
  have E7 := hid (show Below w6.heap.size w6 w7 by rw [hw7]; exact Below.drewN' (Below.refl _ _) q7)
  have B7 := hid (bt3 B6.out E7.out)
  clear hw7
  go_wp2_with fail
  refine (toByteS_any a n c xs _ (HX.out.kept B7.out)).mono ?_
  rintro e w8 ⟨rfl, hw8⟩
  have b8 := hid (show Below w7.heap.size w7 w8 by rw [hw8]; exact (Below.refl _ _).alloc (Nat.le_refl _) _)
  have Z8 := hid (show Rd w8 (some ⟨w7.heap.size, 0, none⟩) n n xs by rw [hw8]; exact NX.out w7)
  have E8 := hid (bt3 E7.out b8.out)
  have D8 := hid (bt3 D6.out E8.out)
  clear hw8 b8
  go_wp2_with fail
  refine (eqByteS_same _ _ n n n n xs _ (X5.out.kept D8.out) Z8.out).mono ?_
  rintro e w9 ⟨rfl, q9, hw9⟩
  have b9 := hid (show Below w8.heap.size w8 w9 by rw [hw9]; exact Below.drewN' (Below.refl _ _) q9)
  have E9 := hid (bt3 E8.out b9.out)
  have B9 := hid (bt3 B6.out E9.out)
  clear hw9 b9 E8 D8 Z8 E7 B7
  go_wp2_with fail
  refine (toByteS_any b m d ys _ (HY.out.kept B9.out)).mono ?_
  rintro e w10 ⟨rfl, hw10⟩
  have b10 := hid (show Below w9.heap.size w9 w10 by rw [hw10]; exact (Below.refl _ _).alloc (Nat.le_refl _) _)
  have Z10 := hid (show Rd w10 (some ⟨w9.heap.size, 0, none⟩) m m ys by rw [hw10]; exact NY.out w9)
  have E10 := hid (bt3 E9.out b10.out)
  have D10 := hid (bt3 D6.out E10.out)
  clear hw10 b10
  go_wp2_with fail
  refine (eqByteS_same _ _ m m m m ys _ (Y5.out.kept D10.out) Z10.out).mono ?_
  rintro e w11 ⟨rfl, q11, hw11⟩
  have b11 := hid (show Below w10.heap.size w10 w11 by rw [hw11]; exact Below.drewN' (Below.refl _ _) q11)
  have E11 := hid (bt3 E10.out b11.out)
  have D11 := hid (bt3 D6.out E11.out)
  have C11 := hid (bt3 C5.out D11.out)
  have B11 := hid (bt3 B6.out E11.out)
  have X11 := hid (X5.out.kept D11.out)
  have WX11 := hid (WX5.out.below D11.out X5.out.lt)
  have Y11 := hid (Y5.out.kept D11.out)
  have WY11 := hid (WY5.out.below D11.out Y5.out.lt)
  have G11 := hid (G6.out.kept E11.out)
  have GW11 := hid (GW.out.below E11.out G6.out.lt)
  clear hw11 b11 E10 D10 Z10 E9 B9 X5 WX5 Y5 WY5 G6 GW D11 E11 D6 C6 B6
  -- marks in the arguments
  go_wp2_with fail
  refine (mark_any _ n n xs 1 _ X11.out WX11.out (by omega) (by omega)).mono ?_
  rintro e w12 ⟨rfl, -, hg12⟩
  have C12 := hid (C11.out.grown hg12 C11.out.size (fun k hk => by simp at hk; omega))
  have B12 := hid (B11.out.grown hg12 B11.out.size (fun k hk => by have := B3.out.size; simp at hk; omega))
  have hny : ∀ x, (some (⟨w4.heap.size, 0, none⟩ : Addr)) = some x → some x.block ≠ (some (⟨w3.heap.size, 0, none⟩ : Addr)).map (·.block) := by
    intro x hx e
    cases hx
    have := S4.out
    simp at e
    omega
  have hng : ∀ x, a1 = some x → some x.block ≠ (some (⟨w3.heap.size, 0, none⟩ : Addr)).map (·.block) := by
    intro x hx e
    have := GB.out x hx
    have := S4.out
    have := S5.out
    simp at e
    omega
  have Y12 := hid (Y11.out.grown hg12 hny)
  have WY12 := hid (WY11.out.grown hg12 (fun x hx hp => ⟨Y11.out.lt x hx hp, hny x hx⟩))
  have G12 := hid (G11.out.grown hg12 hng)
  have GW12 := hid (GW11.out.grown hg12 (fun x hx hp => ⟨G11.out.lt x hx hp, hng x hx⟩))
  clear hg12 hny hng X11 WX11 Y11 WY11 G11 GW11 C11 B11
  go_wp2_with fail
  refine (mark_any _ m m ys (1 + (n : Int)) _ Y12.out WY12.out (by omega) (by omega)).mono ?_
  rintro e w13 ⟨rfl, -, hg13⟩
  have C13 := hid (C12.out.grown hg13 C12.out.size (fun k hk => by have := S4.out; simp at hk; omega))
  have B13 := hid (B12.out.grown hg13 B12.out.size (fun k hk => by have := B3.out.size; have := S4.out; simp at hk; omega))
  have hng : ∀ x, a1 = some x → some x.block ≠ (some (⟨w4.heap.size, 0, none⟩ : Addr)).map (·.block) := by
    intro x hx e
    have := GB.out x hx
    have := S5.out
    simp at e
    omega
  have G13 := hid (G12.out.grown hg13 hng)
  have GW13 := hid (GW12.out.grown hg13 (fun x hx hp => ⟨G12.out.lt x hx hp, hng x hx⟩))
  clear hg13 hng Y12 WY12 G12 GW12 C12 B12
  have hk1 : ¬ (1 + (n : Int) + (m : Int)) < 0 := by omega
  go_wp2_with fail
  refine (eqByteS_same a1 a0 L L c1 c0 out _ G13.out (RW.out.kept C13.out)).mono ?_
  rintro e w14 ⟨rfl, q14, hw14⟩
  have b14 := hid (show Below w13.heap.size w13 w14 by rw [hw14]; exact Below.drewN' (Below.refl _ _) q14)
  have C14 := hid (bt3 C13.out b14.out)
  have B14 := hid (bt3 B13.out b14.out)
  have G14 := hid (G13.out.kept b14.out)
  have GW14 := hid (GW13.out.below b14.out G13.out.lt)
  clear hw14 b14 G13 GW13 C13 B13
  -- marks in the answer
  go_wp2_with fail
  refine (mark_any a1 L c1 out 1 _ G14.out GW14.out (by omega) (by omega)).mono ?_
  rintro e w15 ⟨rfl, hm15, hg15⟩
  have M15 := hid hm15
  have hrow : ∀ k, a1.map (·.block) = some k → w5.heap.size ≤ k := by
    intro k hk
    cases a1 with
    | none => cases hk
    | some x => simp at hk; rw [← hk]; exact GB.out x rfl
  have C15 := hid (C14.out.grown hg15 C14.out.size (fun k hk => by have := hrow k hk; have := S4.out; have := S5.out; omega))
  have B15 := hid (B14.out.grown hg15 B14.out.size (fun k hk => by have := hrow k hk; have := B5.out.size; omega))
  clear hrow hg15 hm15 C14 B14 G14 GW14
  go_wp2_with fail
  refine (held_any a1 L c1 1 _ M15.out (by omega) (by omega)).mono ?_
  rintro e w15' ⟨rfl, rfl⟩
  have hk2 : ¬ (1 + (L : Int)) < 0 := by omega
  have hk3 : ((1 + (L : Int)) != (1 + (L : Int))) = false := by simp
  -- once more
  go_wp2_with fail
  refine (toByteS_any a n c xs _ (HX.out.kept B15.out)).mono ?_
  rintro e w16 ⟨rfl, hw16⟩
  have F16 := hid (show Below w15.heap.size w15 w16 by rw [hw16]; exact (Below.refl _ _).alloc (Nat.le_refl _) _)
  have X16 := hid (show Rd w16 (some ⟨w15.heap.size, 0, none⟩) n n xs by rw [hw16]; exact NX.out w15)
  have B16 := hid (bt3 B15.out F16.out)
  clear hw16
  go_wp2_with fail
  refine (toByteS_any b m d ys _ (HY.out.kept B16.out)).mono ?_
  rintro e w17 ⟨rfl, hw17⟩
  have b17 := hid (show Below w16.heap.size w16 w17 by rw [hw17]; exact (Below.refl _ _).alloc (Nat.le_refl _) _)
  have Y17 := hid (show Rd w17 (some ⟨w16.heap.size, 0, none⟩) m m ys by rw [hw17]; exact NY.out w16)
  have X17 := hid (X16.out.kept b17.out)
  have F17 := hid (bt3 F16.out b17.out)
  have B17 := hid (bt3 B15.out F17.out)
  clear hw17 b17 F16 B16 X16
  go_wp2_with fail
  refine (HI.out _ _ w17 X17.out Y17.out (HE.out.below B17.out HE.out.lt) (HE2.out.below B17.out HE2.out.lt)).mono ?_
  intro e w18 hp
  obtain ⟨a2, c2, rfl, hr2, -, -, hb18⟩ := HV.out _ _ _ hp
  have R18 := hid hr2
  have F18 := hid (bt3 F17.out hb18)
  have C18 := hid (bt3 C15.out F18.out)
  clear hp hr2 hb18 F17 B17 X17 Y17
  go_wp2_with fail
  refine (eqByteS_same a2 a0 L L c2 c0 out _ R18.out (RW.out.kept C18.out)).mono ?_
  rintro e w19 ⟨rfl, q19, hw19⟩
  have b19 := hid (show Below w18.heap.size w18 w19 by rw [hw19]; exact Below.drewN' (Below.refl _ _) q19)
  have F19 := hid (bt3 F18.out b19.out)
  have B19 := hid (bt3 B15.out F19.out)
  clear hw19 b19
  go_wp2_with fail
  refine (held_any a1 L c1 1 _ (M15.out.kept F19.out) (by omega) (by omega)).mono ?_
  rintro e w19' ⟨rfl, rfl⟩
  go_wp2
  go_ret
  exact ⟨rfl, B19.out⟩
theorem lawTear_walk (a : Option Addr) (n c : Nat) (z0 : List Int) (b : Option Addr) (m d : Nat) (z1 : List Int) (t : Int) (w : World) (h0 : IsRow .u8 w a n c z0) (h1 : IsRow .u8 w b m d z1) (_ht : (Lit.int .i64 t).wf = true) (he : Err w 0) (he2 : Err w 1) (_l1 : 0 < w.heap.size) (_l2 : 1 < w.heap.size) :
    Calls Tryd.prog 5 #[.slice a n c, .slice b m d, .int .i64 t] w fun e w' => e = .returned (.bool true) ∧ Below w.heap.size w w' := by
  by_cases hbig : 1048576 < n
  · have hb' : (1048576 : Int) < (n : Int) := by omega
    clear h0 h1 he he2 _l1 _l2 _ht
    go_enter Tryd.func5, Tryd.ntmps5
    go_wp2
    go_ret
    exact ⟨rfl, Below.refl _ _⟩
  · by_cases hbig2 : 1048576 < m
    · have hb' : ¬ (1048576 : Int) < (n : Int) := by omega
      have hb2 : (1048576 : Int) < (m : Int) := by omega
      clear h0 h1 he he2 _l1 _l2 _ht
      go_enter Tryd.func5, Tryd.ntmps5
      go_wp2
      go_ret
      exact ⟨rfl, Below.refl _ _⟩
    · exact lawTear_road a n c _ b m d _ t w (rd_of_row h0 (by omega)) (rd_of_row h1 (by omega)) (by omega) (by omega) he he2
end Go.Proofs.YtcclhieaiaalkaaDoor

