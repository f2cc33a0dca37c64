/-
  The law FnExactDiskCrash answers true at every disk and list of numbers.
-/
import Derived.Test.YtijinngmfalfcabDoorLwDY
import Derived.Test.YtijinngmfalfcabDoorDkU
import Derived.Test.YtijinngmfalfcabDoorMkP
namespace Go.Proofs.YtijinngmfalfcabDoor
open Go.RowKit
set_option linter.unusedVariables false
set_option maxHeartbeats 16000000 in
set_option maxRecDepth 20000 in
theorem lawDiskCrash_walk (sa : Option Addr) (sn sc : Nat) (da : Option Addr) (dn dc : Nat) (d : DK) (ka : Option Addr) (kn kc : Nat) (keep : List Int) (w : World) (h : Dk w (fun _ => True) sa sn sc da dn dc d) (hk : Ir w (fun _ => True) (.slice ka kn kc) keep) (he : Err w 0) (he2 : Err w 1) (_l1 : 0 < w.heap.size) (_l2 : 1 < w.heap.size) :
    Calls Tryd.prog 3 #[.agg #[.slice sa sn sc, .slice da dn dc], .slice ka kn kc] w fun e w' => e = .returned (.bool true) ∧ Below w.heap.size w w' := by
  have X0 := hid (DX.start h)
  have NS := hid h.hs.len.1
  have ND := hid h.hd.len.1
  have HAS := hid (dcV_small h.bytes' keep)
  have HKE := hid hk
  have NK := hid (Rw.len hk).1
  have hkc := (Rw.len hk).2
  have HE := hid he
  have HE2 := hid he2
  clear h hk he he2 _l1 _l2
  by_cases hbig : 1048576 < kn
  · have hbig' : (1048576 : Int) < (kn : Int) := by omega
    go_enter Tryd.func3, Tryd.ntmps3
    go_wp2
    go_ret
    exact ⟨rfl, X0.out.bel⟩
  have hbig' : ¬ (1048576 : Int) < (kn : Int) := by omega
  have m2 : kn ≤ 1048576 := by omega
  go_enter Tryd.func3, Tryd.ntmps3
  go_wp2_with fail
  refine (szDisk_any _ sa sn sc da dn dc d _ X0.out.hA).mono ?_
  generalize w.alloc (.cells #[.slice sa sn sc, .slice da dn dc] 25) = U at *
  rintro e w1 ⟨⟨x, rfl, hx1, hx2, hx3⟩, hb⟩
  have X1 := hid (X0.out.below hb)
  have HX := hid hx3
  clear hb hx3 X0
  by_cases hneg : x < 0
  · go_wp2
    go_ret
    exact ⟨rfl, X1.out.bel⟩
  · have HSM := hid (small_of_sum (HX.out (by omega))).1
    have HTO := hid (tot_of_sum (HX.out (by omega)))
    have m0 : sn ≤ 1048576 := by rw [NS.out]; exact (small_of_sum (HX.out (by omega))).2.1
    have m1 : dn ≤ 1048576 := by rw [ND.out]; exact (small_of_sum (HX.out (by omega))).2.2
    clear HX
    have HIR : Hid (∀ (v : World) (k0 : Nat), Bk v k0 3 (keep.map (Value.int .i64)) → Ir v (fun _ => True) (.slice (some ⟨k0, 0, none⟩) kn kn) keep) := fun v k0 hB => by
      show Rw _ _ _ _ _
      rw [← NK.out]
      exact hB.rw (Nat.le_refl _) (by omega) (fun e => by rw [List.eq_nil_of_length_eq_zero (NK.out.symm.trans e)]; rfl) _ trivial
    have HSP : Hid (∀ (v : World) g0 g1 V Uu B k0, DO v B (.slice (some ⟨g0, 0, none⟩) sn sn) V (.slice (some ⟨g1, 0, none⟩) dn dn) Uu d → Bk v k0 3 (keep.map (Value.int .i64)) → Calls Tryd.prog 7 #[.agg #[.slice (some ⟨g0, 0, none⟩) sn sn, .slice (some ⟨g1, 0, none⟩) dn dn], .slice (some ⟨k0, 0, none⟩) kn kn] v fun e w' => DkPost1 (dcV d keep) v e w') := fun v g0 g1 V Uu B k0 hO hB => specDiskCrash_any (fun _ => True) (fun _ => True) _ _ _ _ _ _ d _ _ _ keep v (hO.dk (fun _ _ => trivial)) HSM.out m0 m1 (HIR.out v k0 hB)
    have HIM : Hid (∀ (v : World) g0 g1 V Uu B k0, DO v B (.slice (some ⟨g0, 0, none⟩) sn sn) V (.slice (some ⟨g1, 0, none⟩) dn dn) Uu d → Bk v k0 3 (keep.map (Value.int .i64)) → Below w.heap.size w v → Calls Tryd.prog 10 #[.agg #[.slice (some ⟨g0, 0, none⟩) sn sn, .slice (some ⟨g1, 0, none⟩) dn dn], .slice (some ⟨k0, 0, none⟩) kn kn] v fun e w' => DkPost1 (dcV d keep) v e w') := fun v g0 g1 V Uu B k0 hO hB hw => implDiskCrash_any (fun _ => True) (fun _ => True) _ _ _ _ _ _ d _ _ _ keep v (hO.dk (fun _ _ => trivial)) HSM.out m0 m1 (HIR.out v k0 hB) (HE.out.below hw HE.out.lt) (HE2.out.below hw HE2.out.lt)
    generalize dcV d keep = dd at *
    have HTI : Hid (∀ v : World, Below w.heap.size w v → Calls Tryd.prog 9 #[.slice ka kn kc] v fun e w' => e = .returned (.slice (some ⟨v.heap.size, 0, none⟩) kn kn) ∧ Bk w' v.heap.size 3 (keep.map (Value.int .i64)) ∧ Below v.heap.size v w') := fun v hv => toIntS_at (fun _ => True) ka kn kc keep v (HKE.out.below hv) m2
    clear HE HE2
    have HS2 := hid HAS.out.1
    have HT2 := hid HAS.out.2
    clear HAS
    obtain ⟨x0, x1⟩ := X1.out.cells
    go_wp2_with fail
    refine (toDisk_any _ sa sn sc da dn dc d _ X1.out.hA m0 m1 HSM.out).mono ?_
    rintro e w2 ⟨g0, g1, V, Uu, rfl, hO, hb⟩
    have X2 := hid (X1.out.below hb)
    have C2 := hid hO
    clear hb X1 hO x0 x1
    go_wp2_with fail
    refine (HTI.out _ X2.out.bel).mono ?_
    rintro e w2b ⟨rfl, hI, hb⟩
    have X2b := hid (X2.out.below hb)
    have C2b := hid (C2.out.below hb)
    have I2 := hid hI
    clear hI hb X2 C2
    generalize w2.heap.size = k2 at *
    go_wp2_with fail
    refine (HSP.out _ _ _ _ _ _ _ C2b.out I2.out).mono ?_
    rintro e w3 ⟨aa, an, ac, ba, bn, bc, VA, UA, rfl, hO, hb⟩
    have hb2 := bt5 hb (below_new (o := .cells #[.slice aa an ac, .slice ba bn bc] 31) (w := w3) (Below.refl _ _))
    have X3 := hid (X2b.out.below hb2)
    have A3 := hid (DB.new hO)
    clear hb hb2 X2b C2b I2 hO HSP
    obtain ⟨x0, x1⟩ := X3.out.cells
    go_wp2_with fail
    refine (toDisk_any _ sa sn sc da dn dc d _ X3.out.hA m0 m1 HSM.out).mono ?_
    generalize w3.alloc (.cells #[.slice aa an ac, .slice ba bn bc] 31) = u3 at *
    generalize w3.heap.size = bA at *
    rintro e w4 ⟨h0, h1, V4, U4, rfl, hO, hb⟩
    have hb2 := bt5 hb (below_new (o := .cells #[.slice (some ⟨h0, 0, none⟩) sn sn, .slice (some ⟨h1, 0, none⟩) dn dn] 31) (w := w4) (Below.refl _ _))
    have X5 := hid (X3.out.below hb2)
    have A5 := hid (A3.out.below hb2)
    have D5 := hid (DB.new hO)
    have SA : Hid (bA < u3.heap.size ∧ w.heap.size < u3.heap.size) := ⟨A3.out.box.lt, X3.out.kA.lt⟩
    clear hb hb2 hO X3 x0 x1 A3
    go_wp2_with fail
    refine (HTI.out _ X5.out.bel).mono ?_
    generalize w4.alloc (.cells #[.slice (some ⟨h0, 0, none⟩) sn sn, .slice (some ⟨h1, 0, none⟩) dn dn] 31) = u4 at *
    generalize w4.heap.size = bX at *
    rintro e u5 ⟨rfl, hI, hb⟩
    have X5b := hid (X5.out.below hb)
    have A5b := hid (A5.out.below hb)
    have D5b := hid (D5.out.below hb)
    have I5 := hid hI
    have SK : Hid (u4.heap.size < u5.heap.size ∧ bX < u4.heap.size) := ⟨hI.lt, D5.out.box.lt⟩
    clear hI hb X5 A5 D5
    generalize u4.heap.size = k1 at *
    clear u4
    obtain ⟨y0, y1⟩ := D5b.out.cells
    go_wp2_with fail
    refine (HIM.out _ _ _ _ _ _ _ D5b.out.own I5.out X5b.out.bel).mono ?_
    clear y0 y1
    rintro e w6 ⟨ga, gn, gc, ja, jn, jc, VG, UG, rfl, hO, hb⟩
    have hb2 := bt5 hb (below_new (o := .cells #[.slice ga gn gc, .slice ja jn jc] 31) (w := w6) (Below.refl _ _))
    have X6 := hid (X5b.out.below hb2)
    have A6 := hid (A5b.out.below hb2)
    have D6 := hid (D5b.out.below hb2)
    have I6 := hid (I5.out.below hb2)
    have G6 := hid (DB.new hO)
    have SX : Hid (bX < u5.heap.size) := D5b.out.box.lt
    have SU : Hid (u3.heap.size ≤ bX ∧ bX < k1 ∧ k1 < u5.heap.size) := by have h1 := D5b.out.here (y := h0) (.inl (.inl rfl)); have h2 := SK.out; show _ ∧ _; omega
    have SG : Hid (u5.heap.size ≤ w6.heap.size) := hb.size
    clear hb hb2 hO X5b A5b D5b I5
    obtain ⟨x0, x1⟩ := A6.out.cells
    obtain ⟨y0, y1⟩ := G6.out.cells
    go_wp2_with fail
    refine (eqDisk_any (fun _ => True) (fun _ => True) _ _ _ _ _ _ dd _ _ _ _ _ _ dd _ G6.out.dk A6.out.dk HS2.out HS2.out).mono ?_
    generalize w6.alloc (.cells #[.slice ga gn gc, .slice ja jn jc] 31) = u6 at *
    generalize w6.heap.size = bG at *
    rw [decide_eq_true (rfl : dd = dd)]
    rintro e w7 ⟨rfl, hb⟩
    have X7 := hid (X6.out.below hb)
    have A7 := hid (A6.out.below hb)
    have D7 := hid (D6.out.below hb)
    have I7 := hid (I6.out.below hb)
    have G7 := hid (G6.out.below hb)
    clear hb X6 A6 D6 G6 I6 x0 x1 y0 y1
    obtain ⟨x0, x1⟩ := X7.out.cells
    obtain ⟨y0, y1⟩ := D7.out.cells
    have X8 := hid (X7.out.below (below_drew _))
    have A8 := hid (A7.out.below (below_drew _))
    have D8 := hid (D7.out.below (below_drew _))
    have G8 := hid (G7.out.below (below_drew _))
    have I8 := hid (I7.out.below (below_drew _))
    clear X7 A7 G7 I7
    go_wp2_with fail
    go_cut [42] (fun x v => x = .bool false ∧ DX w v sa sn sc da dn dc d ∧ DB v bA w2b.heap.size aa an ac ba bn bc VA UA dd ∧ DB v bX u3.heap.size (some ⟨h0, 0, none⟩) sn sn (some ⟨h1, 0, none⟩) dn dn V4 U4 d ∧ DB v bG u5.heap.size ga gn gc ja jn jc VG UG dd ∧ Bk v k1 3 (keep.map (Value.int .i64)))
    case first =>
      go_region_with (first
        | (go_at_call 8; refine (toDisk_any _ sa sn sc da dn dc d _ X8.out.hA m0 m1 HSM.out).mono ?_; rintro e w8 ⟨f0, f1, V8, U8, rfl, hO8, hb8⟩; have z0 := (D8.out.below hb8).cells.1; have z1 := (D8.out.below hb8).cells.2)
        | (go_at_call 11; refine (eqDisk_any (fun _ => True) (fun _ => True) _ _ _ _ _ _ d _ _ _ _ _ _ d _ (D8.out.below hb8).dk (hO8.dk (S := fun _ => True) (fun _ _ => trivial)) HSM.out HSM.out).mono ?_; rintro e w9 ⟨rfl, hb9⟩))
      all_goals (go_wp2_with fail; go_meet)
      all_goals exact ⟨by simp, (X8.out.below hb8).below hb9, (A8.out.below hb8).below hb9, (D8.out.below hb8).below hb9, (G8.out.below hb8).below hb9, (I8.out.below hb8).below hb9⟩
    case rest =>
      obtain ⟨rfl, hX, hA, hD, hG, hI⟩ := hcut
      have X9 := hid hX
      have A9 := hid hA
      have D9 := hid hD
      have G9 := hid hG
      have I9 := hid hI
      clear hX hA hD hG hI D7 X8 A8 D8 G8 I8 x0 x1 y0 y1
      go_wp2_with fail
      refine (HTI.out _ X9.out.bel).mono ?_
      rintro e w9b ⟨rfl, hI2, hb⟩
      have X9b := hid (X9.out.below hb)
      have A9b := hid (A9.out.below hb)
      have D9b := hid (D9.out.below hb)
      have G9b := hid (G9.out.below hb)
      have I9b := hid (I9.out.below hb)
      have I9c := hid hI2
      clear hI2 hb X9 A9 D9 G9 I9
      go_wp2_with fail
      refine (eqIntS_at (fun _ => True) (fun _ => True) _ _ _ _ _ _ keep keep _ (HIR.out _ _ I9b.out) (HIR.out _ _ I9c.out)).mono ?_
      rw [decide_eq_true (rfl : keep = keep)]
      rintro e w9d ⟨rfl, hb⟩
      have X9 := hid (X9b.out.below hb)
      have A9 := hid (A9b.out.below hb)
      have D9 := hid (D9b.out.below hb)
      have G9 := hid (G9b.out.below hb)
      have I9 := hid (I9b.out.below hb)
      clear hb X9b A9b D9b G9b I9b I9c
      obtain ⟨y0, y1⟩ := D9.out.cells
      go_wp2_with fail
      refine (markDisk_ex _ _ _ _ _ _ _ 1 V4 U4 d _ D9.out.own HTO.out (by omega) (by omega)).mono ?_
      rintro e w10 ⟨rfl, -, ho⟩
      have hsx : ∀ y, dbl (.slice (some ⟨h0, 0, none⟩) sn sn) V4 (.slice (some ⟨h1, 0, none⟩) dn dn) U4 y → u3.heap.size ≤ y ∧ y < u5.heap.size ∧ y ≠ k1 := fun y hy => by have h1 := D9.out.here hy; have h2 := SX.out; have h3 := SU.out; omega
      have X10 := hid (X9.out.only ho (fun b hb => by have h1 := hsx b hb; have h2 := SA.out; omega))
      have A10 := hid (A9.out.to ho (fun e => by have h1 := hsx _ e; have h2 := SA.out; omega) (fun y hy e => by have h1 := hsx y e; have h2 := A9.out.here hy; have h3 := SA.out; omega))
      have G10 := hid (G9.out.to ho (fun e => by have h1 := hsx _ e; have h2 := SG.out; omega) (fun y hy e => by have h1 := hsx y e; have h2 := G9.out.here hy; omega))
      have I10 := hid (I9.out.to ho (fun e => (hsx _ e).2.2 rfl))
      clear ho hsx X9 A9 D9 G9 I9 y0 y1
      have hkk : 1 + dkTot d ≤ 4194305 := by have := HTO.out; omega
      have hkk0 : 0 < 1 + dkTot d := by omega
      generalize 1 + dkTot d = kq at *
      have HKW : Hid (Kw w10 (fun y => y = k1) (.slice (some ⟨k1, 0, none⟩) kn kn) kn kn isInt) := by
        have h1 : Rw w10 (fun y => y = k1) (.slice (some ⟨k1, 0, none⟩) kn kn) kn (keep.map (Value.int .i64)) := I10.out.rw (Nat.le_refl _) (by omega) (fun e => by rw [List.eq_nil_of_length_eq_zero (NK.out.symm.trans e)]; rfl) _ rfl
        have h2 := kw_of (K := isInt) (S' := fun y => y = k1) h1 (fun u hu => by simp at hu; obtain ⟨s, _, rfl⟩ := hu; exact ⟨s, rfl⟩) (fun b hb _ => ⟨hb, by rw [hb]; exact I10.out.uf⟩)
        rw [List.length_map, ← NK.out] at h2
        exact h2
      go_wp2_with fail
      refine (markIntS_any _ _ _ _ kq _ HKW.out m2 hkk0 (by omega)).mono ?_
      rintro e w10b ⟨rfl, hm⟩
      have ho := hm.1.only
      have X10b := hid (X10.out.only ho (fun b hb => by have h2 := SA.out; have h3 := SU.out; omega))
      have A10b := hid (A10.out.to ho (fun e => by have h2 := SA.out; have h3 := SU.out; omega) (fun y hy e => by have h2 := A10.out.here hy; have h3 := SA.out; have h4 := SU.out; omega))
      have G10b := hid (G10.out.to ho (fun e => by have h2 := SG.out; have h3 := SU.out; omega) (fun y hy e => by have h2 := G10.out.here hy; have h3 := SU.out; omega))
      clear ho hm X10 A10 G10 I10 HKW
      have hkn : ¬ ((kq + kn : Nat) : Int) < 0 := by omega
      generalize kq + kn = kk at *
      obtain ⟨x0, x1⟩ := A10b.out.cells
      obtain ⟨y0, y1⟩ := G10b.out.cells
      go_wp2_with fail
      refine (eqDisk_any (fun _ => True) (fun _ => True) _ _ _ _ _ _ dd _ _ _ _ _ _ dd _ G10b.out.dk A10b.out.dk HS2.out HS2.out).mono ?_
      rw [decide_eq_true (rfl : dd = dd)]
      rintro e w11 ⟨rfl, hb⟩
      have X11 := hid (X10b.out.below hb)
      have A11 := hid (A10b.out.below hb)
      have G11 := hid (G10b.out.below hb)
      clear hb X10b A10b G10b x0 x1 y0 y1
      obtain ⟨y0, y1⟩ := G11.out.cells
      go_wp2_with fail
      refine (markDisk_ex _ _ _ _ _ _ _ 1 VG UG dd _ G11.out.own HT2.out (by omega) (by omega)).mono ?_
      rintro e w12 ⟨rfl, hm, ho⟩
      have hsg : ∀ y, dbl (.slice ga gn gc) VG (.slice ja jn jc) UG y → u5.heap.size ≤ y ∧ y < bG := fun y hy => G11.out.here hy
      have Q12 : Hid (DQ5 w12 bG ga gn gc ja jn jc VG UG dd 1) := ⟨G11.out.box.to ho (fun e => absurd (hsg _ e).2 (Nat.lt_irrefl _)), hm⟩
      have S35 : u3.heap.size ≤ u5.heap.size := by have := SU.out; omega
      have X12 := hid (X11.out.only ho (fun b hb => by have h1 := hsg b hb; have h2 := SA.out; omega))
      have A12 := hid (A11.out.to ho (fun e => by have h1 := hsg _ e; have h2 := SA.out; omega) (fun y hy e => by have h1 := hsg y e; have h2 := A11.out.here hy; have h3 := SA.out; omega))
      clear hm ho hsg X11 A11 G11 y0 y1 S35
      obtain ⟨y0, y1⟩ := Q12.out.cells
      have HTP : Hid (1 + dkTot dd ≤ 4194305) := by have := HT2.out; show _ ≤ _; omega
      generalize hq : 1 + dkTot dd = q at *
      have HQ := hid hq
      have hq0 : ¬ (q : Int) < 0 := by omega
      have hqq : ((q : Int) != (q : Int)) = false := by simp
      clear hq
      go_wp2_with fail
      refine (heldDisk_any _ _ _ _ _ _ 1 VG UG dd _ Q12.out.own HT2.out (by omega) (by omega)).mono ?_
      rw [HQ.out]
      rintro e w13 ⟨rfl, hb⟩
      have X13 := hid (X12.out.below hb)
      have A13 := hid (A12.out.below hb)
      have Q13 := hid (Q12.out.below hb)
      clear hb X12 A12 Q12 y0 y1
      obtain ⟨x0, x1⟩ := X13.out.cells
      go_wp2_with fail
      refine (toDisk_any _ sa sn sc da dn dc d _ X13.out.hA m0 m1 HSM.out).mono ?_
      rintro e w14 ⟨f0, f1, V14, U14, rfl, hO, hb⟩
      have X14 := hid (X13.out.below hb)
      have A14 := hid (A13.out.below hb)
      have Q14 := hid (Q13.out.below hb)
      have C14 := hid hO
      clear hO hb X13 A13 Q13 x0 x1
      go_wp2_with fail
      refine (HTI.out _ X14.out.bel).mono ?_
      rintro e w14b ⟨rfl, hI, hb⟩
      have X14b := hid (X14.out.below hb)
      have A14b := hid (A14.out.below hb)
      have Q14b := hid (Q14.out.below hb)
      have C14b := hid (C14.out.below hb)
      have I14 := hid hI
      clear hI hb X14 A14 Q14 C14
      generalize w14.heap.size = k14 at *
      go_wp2_with fail
      refine (HIM.out _ _ _ _ _ _ _ C14b.out I14.out X14b.out.bel).mono ?_
      rintro e w15 ⟨ha, hn, hc, la, ln, lc, VH, UH, rfl, hO, hb⟩
      have hb2 := bt5 hb (below_new (o := .cells #[.slice ha hn hc, .slice la ln lc] 31) (w := w15) (Below.refl _ _))
      have X15 := hid (X14b.out.below hb2)
      have A15 := hid (A14b.out.below hb2)
      have Q15 := hid (Q14b.out.below hb2)
      have H15 := hid (DB.new hO)
      clear hO hb hb2 X14b A14b Q14b C14b I14
      obtain ⟨x0, x1⟩ := A15.out.cells
      obtain ⟨y0, y1⟩ := H15.out.cells
      go_wp2_with fail
      refine (eqDisk_any (fun _ => True) (fun _ => True) _ _ _ _ _ _ dd _ _ _ _ _ _ dd _ H15.out.dk A15.out.dk HS2.out HS2.out).mono ?_
      generalize w15.alloc (.cells #[.slice ha hn hc, .slice la ln lc] 31) = u15 at *
      generalize w15.heap.size = bH at *
      rw [decide_eq_true (rfl : dd = dd)]
      rintro e w16 ⟨rfl, hb⟩
      have X16 := hid (X15.out.below hb)
      have Q16 := hid (Q15.out.below hb)
      clear hb X15 A15 Q15 H15 x0 x1 y0 y1
      obtain ⟨y0, y1⟩ := Q16.out.cells
      go_wp2_with fail
      refine (heldDisk_any _ _ _ _ _ _ 1 VG UG dd _ Q16.out.own HT2.out (by omega) (by omega)).mono ?_
      rw [HQ.out]
      rintro e w17 ⟨rfl, hb⟩
      have X17 := hid (X16.out.below hb)
      clear hb X16 Q16 y0 y1
      go_wp2
      go_ret
      exact ⟨rfl, X17.out.bel⟩
end Go.Proofs.YtijinngmfalfcabDoor

