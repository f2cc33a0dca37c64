/-
  copyDisk of the program, l05Copy of the specification.
-/
import Derived.Test.YtcpdedpgjaimkaaDkC
namespace Go.Proofs.Ytcpdedpgjaimkaa
open Go.RowKit
set_option linter.unusedVariables false
set_option maxHeartbeats 16000000 in
set_option maxRecDepth 20000 in
theorem l05Copy_any (S : Nat → Prop) (sa : Option Addr) (sn sc : Nat) (da : Option Addr) (dn dc : Nat) (d : DK) (w : World) (h : Dk w S sa sn sc da dn dc d) (hsm : smallD d) (h1 : sn ≤ 1048576) (h2 : dn ≤ 1048576) :
    Calls Try.prog 53 #[.agg #[.slice sa sn sc, .slice da dn dc]] w fun e w' => DkPost1 d w e w' := by
  have HS := hid h.hs
  have HD := hid h.hd
  have HSM := hid hsm
  have HNS := hid h.hs.len.1
  have HND := hid h.hd.len.1
  have C0 := hid (CX.start w sa sn sc da dn dc)
  clear h hsm
  go_enter Try.func53, Try.ntmps53
  go_wp2_with fail
  go_loopw [12] (fun i wr => ∃ (k : Nat) (xa : Option Addr) (xn xc : Nat) (V : List Value), k ≤ sn ∧ i = .int .i64 k ∧ Hid (CX w wr sa sn sc da dn dc xa xn xc none 0 0 V [] ⟨d.sh.take k, []⟩)) (fun i _ => sn - (intOf i).toNat)
  case atStart => exact ⟨0, none, 0, 0, [], Nat.zero_le _, rfl, C0.out⟩
  case round =>
    obtain ⟨k, xa, xn, xc, V, hk, rfl, CC⟩ := hrel
    clear C0
    by_cases hlt : k < sn
    · have hlt' : (k : Int) < (sn : Int) := by omega
      obtain ⟨b, off, rfl, _, hbw, hcell⟩ := (HS.out.below CC.out.bel).at (by omega)
      obtain ⟨ap, np, cp, m0, hp⟩ := hcell k hlt
      have hkl : k < d.sh.length := by rw [← HNS.out]; exact hlt
      have hnp : np ≤ 1048576 := by rw [hp.len.1]; exact HSM.out.1 k hkl
      have hb0 := below_new (o := .cells #[.slice ap np cp] 119) (w := wr) (Below.refl _ _)
      have CU := hid (CC.out.below hb0)
      have HBY := hid hp.2
      have HL : Hid ((d.sh.take k).length = k) := by show _ = _; rw [List.length_take]; omega
      have HTK := hid (take_sh hkl)
      have HBX : Hid (∀ z, Below (wr.alloc (.cells #[.slice ap np cp] 119)).heap.size (wr.alloc (.cells #[.slice ap np cp] 119)) z → z.cell? ⟨w.heap.size + 1 + 1, 0, none⟩ = some (.slice xa xn xc) ∧ z.frozen? ⟨w.heap.size + 1 + 1, 0, none⟩ = false ∧ z.ownsRow (w.heap.size + 3) 119 1 (.slice xa xn xc) k V) := fun z hz => by
        have c := CU.out.below hz
        refine ⟨c.k2.cell (j := 0) rfl, c.k2.free 0, ?_⟩
        have := c.own.hs.row
        rwa [HL.out] at this
      have SS : Hid (w.heap.size + 1 + 1 < wr.heap.size) := CC.out.k2.lt
      have HNE : Hid ((Value.slice xa xn xc).ownBlock ≠ some (w.heap.size + 1 + 1)) := fun e => by have := (World.ownsRow.lt CC.out.own.hs.row _ e).1; omega
      have HFIN : Hid (∀ (w4 : World) (a4 : Option Addr) (n4 c4 : Nat) (a5 : Option Addr) (n5 c5 : Nat) (w5 : World), Ob w4 (wr.alloc (.cells #[.slice ap np cp] 119)).heap.size (.slice a4 n4 c4) (shAt d.sh k) → Below (wr.alloc (.cells #[.slice ap np cp] 119)).heap.size (wr.alloc (.cells #[.slice ap np cp] 119)) w4 → w5.ownsRow (w.heap.size + 3) 119 1 (.slice a5 n5 c5) (k + 1) (V ++ [.slice a4 n4 c4]) → (w4.alloc (.cells #[.slice a4 n4 c4] 119)).grownBy w5 (Value.slice xa xn xc).ownBlock → ((Value.slice a5 n5 c5).ownBlock = (Value.slice xa xn xc).ownBlock ∨ (Value.slice a5 n5 c5).ownBlock = some (w4.alloc (.cells #[.slice a4 n4 c4] 119)).heap.size) →
          CX w (w5.setCell ⟨w.heap.size + 1 + 1, 0, none⟩ (.slice a5 n5 c5)) (some ⟨b, off, none⟩) sn sc da dn dc a5 n5 c5 none 0 0 (V ++ [.slice a4 n4 c4]) [] ⟨d.sh.take (k + 1), []⟩) := by
        intro w4 a4 n4 c4 a5 n5 c5 w5 hO4 hb4 hO5 hg5 ha5
        rw [HTK.out]
        have hbn := below_new (o := .cells #[.slice a4 n4 c4] 119) (w := w4) (Below.refl _ _)
        exact CU.out.pushS (bt7 hb4 hbn) _ _ (own_kept hO4 (only_of_below hbn (fun _ => False)) (fun _ _ h => h)) HBY.out (by rw [HL.out]; exact hO5) hg5 ha5
      have c1 := CC.out.k2.cell (j := 0) rfl
      have s1 := SS.out
      have s1b : w.heap.size + 1 + 1 < wr.heap.size + 1 := by omega
      have hk6 : k ≤ 1048576 := by omega
      have HS4 : Hid (∀ z, Below (wr.alloc (.cells #[.slice ap np cp] 119)).heap.size (wr.alloc (.cells #[.slice ap np cp] 119)) z → w.heap.size + 1 + 1 < z.heap.size) := fun z hz => by have h1 := hz.size; have h2 := CU.out.k2.lt; omega
      have HS5 : Hid (∀ z, Below (wr.alloc (.cells #[.slice ap np cp] 119)).heap.size (wr.alloc (.cells #[.slice ap np cp] 119)) z → wr.heap.size < z.heap.size) := fun z hz => by have h1 := hz.size; simp at h1; omega
      have hbe : Below (wr.alloc (.cells #[.slice ap np cp] 119)).heap.size (wr.alloc (.cells #[.slice ap np cp] 119)) ((wr.alloc (.cells #[.slice ap np cp] 119)).alloc (.cells #[] 5)).drew := bt7 (below_new (Below.refl _ _)) (below_drew _)
      have HUS : Hid ((wr.alloc (.cells #[.slice ap np cp] 119)).heap.size = wr.heap.size + 1) := by show _ = _; simp
      have HOB : Hid (Ob ((wr.alloc (.cells #[.slice ap np cp] 119)).alloc (.cells #[] 5)).drew (wr.heap.size + 1) (.slice (some ⟨wr.heap.size + 1, 0, none⟩) 0 0) []) := by
        have := ob_new (wr.alloc (.cells #[.slice ap np cp] 119)) (wr.alloc (.cells #[.slice ap np cp] 119)).heap.size (Nat.le_refl _)
        rw [HUS.out] at this
        exact own_kept this (only_of_below (below_drew _) (fun _ => False)) (fun _ _ h => h)
      have HRD2 : Hid (Rd ((wr.alloc (.cells #[.slice ap np cp] 119)).alloc (.cells #[] 5)).drew ap np cp (shAt d.sh k)) := (hp.rd hnp).kept (bt7 hb0 hbe)
      have hzb : ([] : List Int).length + (shAt d.sh k).length ≤ 70368744177664 := by rw [← hp.len.1]; simp; omega
      have HZ2 : Hid (wr.heap.size + 1 ≤ ((wr.alloc (.cells #[.slice ap np cp] 119)).alloc (.cells #[] 5)).drew.heap.size) := by have := hbe.size; rw [HUS.out] at this; exact this
      have HB4 : Hid (∀ w4 : World, ((wr.alloc (.cells #[.slice ap np cp] 119)).alloc (.cells #[] 5)).drew.grownBy w4 (Value.slice (some ⟨wr.heap.size + 1, 0, none⟩) 0 0).ownBlock → Below (wr.alloc (.cells #[.slice ap np cp] 119)).heap.size (wr.alloc (.cells #[.slice ap np cp] 119)) w4) := fun w4 hg => hbe.trans ((only_of_grown hg (R := fun y => (Value.slice (some ⟨wr.heap.size + 1, 0, none⟩) 0 0).ownBlock = some y) (fun k e => e)).below hbe.size (fun y hy e => by have e' : wr.heap.size + 1 = y := (by simpa [Value.ownBlock] using e); rw [HUS.out] at hy; omega))
      have HCV : Hid (∀ (w4 : World) (v4 : Value), Ob w4 (wr.heap.size + 1) v4 ([] ++ (shAt d.sh k)) → Ob w4 (wr.alloc (.cells #[.slice ap np cp] 119)).heap.size v4 (shAt d.sh k)) := fun w4 v4 hO => by rw [HUS.out]; simpa using hO
      clear hbe
      have HSZ : Hid (∀ z, Below (wr.alloc (.cells #[.slice ap np cp] 119)).heap.size (wr.alloc (.cells #[.slice ap np cp] 119)) z → w.heap.size + 3 ≤ z.heap.size) := fun z hz => by have h1 := hz.size; have h2 := CU.out.k2.lt; omega
      clear hcell hbw hp hb0 CC HBY
      go_wp2_with fail
      go_region_law (first
        | (refine step_append_rd rfl _ _ rfl (wr.heap.size + 1) _ [] rfl HOB.out ap np cp (shAt d.sh k) rfl HRD2.out hzb HZ2.out ?_; intro a4 n4 c4 w4 hO4 hg4; have hb4 := HB4.out w4 hg4; have q1 := (HBX.out w4 hb4).1; have s4 := HS4.out w4 hb4)
        | (refine step_append_g rfl _ _ _ rfl (w.heap.size + 3) 119 (.agg #[.slice none 0 0]) 1 24 Try.underlying43 infoSheetI rfl (by decide) (by decide) (.slice xa xn xc) k V rfl (HBX.out _ (bt7 hb4 (below_new (Below.refl _ _)))).2.2 w4.heap.size [.slice a4 n4 c4] rfl (rw_one (Bk.new w4 _ [_])) rfl (by intro u hu; simp at hu; subst hu; rfl) hk6 (HSZ.out _ (bt7 hb4 (below_new (Below.refl _ _)))) (w.heap.size + 1 + 1) 0 _ (HBX.out _ (bt7 hb4 (below_new (Below.refl _ _)))).1 (HBX.out _ (bt7 hb4 (below_new (Below.refl _ _)))).2.1 HNE.out ?_; intro a5 n5 c5 w5 hO5 hg5 ha5 hc5 hf5))
      all_goals go_wp2
      all_goals exact ⟨⟨k + 1, a5, n5, c5, _, by omega, by go_num, HFIN.out w4 a4 n4 c4 a5 n5 c5 w5 (HCV.out _ _ hO4) hb4 hO5 hg5 ha5⟩, by simp [intOf]; omega⟩
    · have hks : k = d.sh.length := by rw [← HNS.out]; omega
      have CD : Hid (CX w wr sa sn sc da dn dc xa xn xc none 0 0 V [] ⟨d.sh, []⟩) := by
        have := CC.out
        rwa [hks, List.take_length] at this
      clear CC hks
      have d1 := CD.out.k0.cell (j := 1) rfl
      go_wp2_with fail
      clear d1
      go_loopw [30] (fun i wr => ∃ (j : Nat) (ya : Option Addr) (yn yc : Nat) (Uu : List (Int × Value)), j ≤ dn ∧ i = .int .i64 j ∧ Hid (CX w wr sa sn sc da dn dc xa xn xc ya yn yc V Uu ⟨d.sh, d.dw.take j⟩)) (fun i _ => dn - (intOf i).toNat)
      case atStart => exact ⟨0, none, 0, 0, [], Nat.zero_le _, rfl, CD.out⟩
      case round =>
        clear CD
        obtain ⟨j, ya, yn, yc, Uu, hj, rfl, CC⟩ := hrel
        by_cases hlt2 : j < dn
        · have hlt' : (j : Int) < (dn : Int) := by omega
          obtain ⟨b, off, rfl, _, hbw, hcell⟩ := (HD.out.below CC.out.bel).at (by omega)
          obtain ⟨ap, np, cp, mt, m0, hp⟩ := hcell j hlt2
          have hkl : j < d.dw.length := by rw [← HND.out]; exact hlt2
          have hnp : np ≤ 1048576 := by rw [hp.len.1]; exact HSM.out.2 j hkl
          have HTK := hid (take_dw hkl)
          generalize (dwAt d.dw j).1 = tt at *
          have hb0 := below_new (o := .cells #[.int .i64 tt, .slice ap np cp] 109) (w := wr) (Below.refl _ _)
          have CU := hid (CC.out.below hb0)
          have HBY := hid hp.2
          have HL : Hid ((d.dw.take j).length = j) := by show _ = _; rw [List.length_take]; omega
          have HBX : Hid (∀ z, Below (wr.alloc (.cells #[.int .i64 tt, .slice ap np cp] 109)).heap.size (wr.alloc (.cells #[.int .i64 tt, .slice ap np cp] 109)) z → z.cell? ⟨w.heap.size + 1 + 1, 1, none⟩ = some (.slice ya yn yc) ∧ z.frozen? ⟨w.heap.size + 1 + 1, 1, none⟩ = false ∧ z.ownsRow (w.heap.size + 3) 109 2 (.slice ya yn yc) j (wcs Uu) ∧ z.cell? ⟨wr.heap.size, 0, none⟩ = some (.int .i64 tt)) := fun z hz => by
            have c := CU.out.below hz
            refine ⟨c.k2.cell (j := 1) rfl, c.k2.free 1, ?_, ((Bk.new wr 109 [.int .i64 tt, .slice ap np cp]).below hz).cell (j := 0) rfl⟩
            have := c.own.hd.row
            rwa [HL.out] at this
          have SS : Hid (w.heap.size + 1 + 1 < wr.heap.size) := CC.out.k2.lt
          have HNE : Hid ((Value.slice ya yn yc).ownBlock ≠ some (w.heap.size + 1 + 1)) := fun e => by have := (World.ownsRow.lt CC.out.own.hd.row _ e).1; omega
          have HFIN : Hid (∀ (w4 : World) (a4 : Option Addr) (n4 c4 : Nat) (a5 : Option Addr) (n5 c5 : Nat) (w5 : World), Ob w4 (wr.alloc (.cells #[.int .i64 tt, .slice ap np cp] 109)).heap.size (.slice a4 n4 c4) (dwAt d.dw j).2 → Below (wr.alloc (.cells #[.int .i64 tt, .slice ap np cp] 109)).heap.size (wr.alloc (.cells #[.int .i64 tt, .slice ap np cp] 109)) w4 → w5.ownsRow (w.heap.size + 3) 109 2 (.slice a5 n5 c5) (j + 1) (wcs Uu ++ [.int .i64 tt, .slice a4 n4 c4]) → (w4.alloc (.cells #[.int .i64 tt, .slice a4 n4 c4] 109)).grownBy w5 (Value.slice ya yn yc).ownBlock → ((Value.slice a5 n5 c5).ownBlock = (Value.slice ya yn yc).ownBlock ∨ (Value.slice a5 n5 c5).ownBlock = some (w4.alloc (.cells #[.int .i64 tt, .slice a4 n4 c4] 109)).heap.size) →
              CX w (w5.setCell ⟨w.heap.size + 1 + 1, 1, none⟩ (.slice a5 n5 c5)) sa sn sc (some ⟨b, off, none⟩) dn dc xa xn xc a5 n5 c5 V (Uu ++ [(tt, .slice a4 n4 c4)]) ⟨d.sh, d.dw.take (j + 1)⟩) := by
            intro w4 a4 n4 c4 a5 n5 c5 w5 hO4 hb4 hO5 hg5 ha5
            rw [HTK.out]
            have hbn := below_new (o := .cells #[.int .i64 tt, .slice a4 n4 c4] 109) (w := w4) (Below.refl _ _)
            exact CU.out.pushW (bt7 hb4 hbn) tt _ _ (own_kept hO4 (only_of_below hbn (fun _ => False)) (fun _ _ h => h)) HBY.out (by rw [HL.out]; exact hO5) hg5 ha5
          have c1 := CC.out.k2.cell (j := 1) rfl
          have s1 := SS.out
          have s1b : w.heap.size + 1 + 1 < wr.heap.size + 1 := by omega
          have hk6 : j ≤ 1048576 := by omega
          have HS4 : Hid (∀ z, Below (wr.alloc (.cells #[.int .i64 tt, .slice ap np cp] 109)).heap.size (wr.alloc (.cells #[.int .i64 tt, .slice ap np cp] 109)) z → w.heap.size + 1 + 1 < z.heap.size) := fun z hz => by have h1 := hz.size; have h2 := CU.out.k2.lt; omega
          have HS5 : Hid (∀ z, Below (wr.alloc (.cells #[.int .i64 tt, .slice ap np cp] 109)).heap.size (wr.alloc (.cells #[.int .i64 tt, .slice ap np cp] 109)) z → wr.heap.size < z.heap.size) := fun z hz => by have h1 := hz.size; simp at h1; omega
          have hbe : Below (wr.alloc (.cells #[.int .i64 tt, .slice ap np cp] 109)).heap.size (wr.alloc (.cells #[.int .i64 tt, .slice ap np cp] 109)) ((wr.alloc (.cells #[.int .i64 tt, .slice ap np cp] 109)).alloc (.cells #[] 5)).drew := bt7 (below_new (Below.refl _ _)) (below_drew _)
          have HUS : Hid ((wr.alloc (.cells #[.int .i64 tt, .slice ap np cp] 109)).heap.size = wr.heap.size + 1) := by show _ = _; simp
          have HOB : Hid (Ob ((wr.alloc (.cells #[.int .i64 tt, .slice ap np cp] 109)).alloc (.cells #[] 5)).drew (wr.heap.size + 1) (.slice (some ⟨wr.heap.size + 1, 0, none⟩) 0 0) []) := by
            have := ob_new (wr.alloc (.cells #[.int .i64 tt, .slice ap np cp] 109)) (wr.alloc (.cells #[.int .i64 tt, .slice ap np cp] 109)).heap.size (Nat.le_refl _)
            rw [HUS.out] at this
            exact own_kept this (only_of_below (below_drew _) (fun _ => False)) (fun _ _ h => h)
          have HRD2 : Hid (Rd ((wr.alloc (.cells #[.int .i64 tt, .slice ap np cp] 109)).alloc (.cells #[] 5)).drew ap np cp (dwAt d.dw j).2) := (hp.rd hnp).kept (bt7 hb0 hbe)
          have hzb : ([] : List Int).length + (dwAt d.dw j).2.length ≤ 70368744177664 := by rw [← hp.len.1]; simp; omega
          have HZ2 : Hid (wr.heap.size + 1 ≤ ((wr.alloc (.cells #[.int .i64 tt, .slice ap np cp] 109)).alloc (.cells #[] 5)).drew.heap.size) := by have := hbe.size; rw [HUS.out] at this; exact this
          have HB4 : Hid (∀ w4 : World, ((wr.alloc (.cells #[.int .i64 tt, .slice ap np cp] 109)).alloc (.cells #[] 5)).drew.grownBy w4 (Value.slice (some ⟨wr.heap.size + 1, 0, none⟩) 0 0).ownBlock → Below (wr.alloc (.cells #[.int .i64 tt, .slice ap np cp] 109)).heap.size (wr.alloc (.cells #[.int .i64 tt, .slice ap np cp] 109)) w4) := fun w4 hg => hbe.trans ((only_of_grown hg (R := fun y => (Value.slice (some ⟨wr.heap.size + 1, 0, none⟩) 0 0).ownBlock = some y) (fun k e => e)).below hbe.size (fun y hy e => by have e' : wr.heap.size + 1 = y := (by simpa [Value.ownBlock] using e); rw [HUS.out] at hy; omega))
          have HCV : Hid (∀ (w4 : World) (v4 : Value), Ob w4 (wr.heap.size + 1) v4 ([] ++ (dwAt d.dw j).2) → Ob w4 (wr.alloc (.cells #[.int .i64 tt, .slice ap np cp] 109)).heap.size v4 (dwAt d.dw j).2) := fun w4 v4 hO => by rw [HUS.out]; simpa using hO
          clear hbe
          have HSZ : Hid (∀ z, Below (wr.alloc (.cells #[.int .i64 tt, .slice ap np cp] 109)).heap.size (wr.alloc (.cells #[.int .i64 tt, .slice ap np cp] 109)) z → w.heap.size + 3 ≤ z.heap.size) := fun z hz => by have h1 := hz.size; have h2 := CU.out.k2.lt; omega
          clear hcell hbw hp hb0 CC HBY
          go_wp2_with fail
          go_region_law (first
            | (refine step_append_rd rfl _ _ rfl (wr.heap.size + 1) _ [] rfl HOB.out ap np cp (dwAt d.dw j).2 rfl HRD2.out hzb HZ2.out ?_; intro a4 n4 c4 w4 hO4 hg4; have hb4 := HB4.out w4 hg4; have q1 := (HBX.out w4 hb4).1; have s4 := HS4.out w4 hb4; have q2 := (HBX.out w4 hb4).2.2.2; have s5 := HS5.out w4 hb4)
            | (refine step_append_g rfl _ _ _ rfl (w.heap.size + 3) 109 (.agg #[.int .i64 0, .slice none 0 0]) 2 32 Try.underlying44 infoWriteI rfl (by decide) (by decide) (.slice ya yn yc) j (wcs Uu) rfl (HBX.out _ (bt7 hb4 (below_new (Below.refl _ _)))).2.2.1 w4.heap.size [.int .i64 tt, .slice a4 n4 c4] rfl (rw_two (Bk.new w4 _ [_, _])) rfl (by intro u hu; simp at hu; rcases hu with rfl | rfl <;> rfl) hk6 (HSZ.out _ (bt7 hb4 (below_new (Below.refl _ _)))) (w.heap.size + 1 + 1) 1 _ (HBX.out _ (bt7 hb4 (below_new (Below.refl _ _)))).1 (HBX.out _ (bt7 hb4 (below_new (Below.refl _ _)))).2.1 HNE.out ?_; intro a5 n5 c5 w5 hO5 hg5 ha5 hc5 hf5))
          all_goals go_wp2
          all_goals exact ⟨⟨j + 1, a5, n5, c5, _, by omega, by go_num, HFIN.out w4 a4 n4 c4 a5 n5 c5 w5 (HCV.out _ _ hO4) hb4 hO5 hg5 ha5⟩, by simp [intOf]; omega⟩
        · have hjd : j = d.dw.length := by rw [← HND.out]; omega
          have CE : Hid (CX w wr sa sn sc da dn dc xa xn xc ya yn yc V Uu d) := by
            have := CC.out
            rwa [hjd, List.take_length] at this
          clear CC hjd
          have c0 := CE.out.k2.cell (j := 0) rfl
          have c1 := CE.out.k2.cell (j := 1) rfl
          have r0 := CE.out.k1.cell (j := 0) rfl
          have r1 := CE.out.k1.cell (j := 1) rfl
          have f0 := CE.out.k1.free 0
          have f1 := CE.out.k1.free 1
          go_wp2
          try simp only [Exit.inBlock, Exit.then]
          refine bodyPost_ret (v := .agg #[.slice xa xn xc, .slice ya yn yc]) ?_ rfl ?_
          · exact results_dsk rfl _ _ _ rfl (by go_simp) (by go_simp)
          · have O1 : Only (fun y => y = w.heap.size + 1) wr ((wr.setCell ⟨w.heap.size + 1, 0, none⟩ (.slice xa xn xc)).setCell ⟨w.heap.size + 1, 1, none⟩ (.slice ya yn yc)) := (only_set (R := fun y => y = w.heap.size + 1) rfl _).trans (only_set (R := fun y => y = w.heap.size + 1) rfl _)
            exact ⟨_, _, _, _, _, _, _, _, rfl, (CE.out.own.to O1 (fun y e e2 => by have := (CE.out.own.lt e).1; omega)).base (by omega), (CE.out.bel.setCell (p := ⟨w.heap.size + 1, 0, none⟩) (Nat.le_succ _) _).setCell (p := ⟨w.heap.size + 1, 1, none⟩) (Nat.le_succ _) _⟩
end Go.Proofs.Ytcpdedpgjaimkaa

