/-
  DiskCrash of the program.
-/
import Derived.Test.YtijinngmfalfcabDoorDkJ
import Derived.Test.YtijinngmfalfcabDoorTeI
import Derived.Deep.RegionHeld3
namespace Go.Proofs.YtijinngmfalfcabDoor
open Go.RowKit
set_option linter.unusedVariables false
theorem crS_le {d : DK} (hok : dkOk d = true) (hb : (∀ i, byt (shAt d.sh i)) ∧ ∀ i, byt (dwAt d.dw i).2) (keep : List Int) (i : Nat) : (shAt (crS d.sh d.dw keep d.dw.length) i).length ≤ 512 := by
  by_cases hi : i < d.sh.length
  · have := (shtOk_iff _).1 ((crS_facts hok hb keep d.dw.length (Nat.le_refl _) i).2 hi)
    omega
  · simp [shAt, show (crS d.sh d.dw keep d.dw.length).length ≤ i by rw [crS_len]; omega]
theorem implTear_at (a : Option Addr) (n c : Nat) (xs : List Int) (b : Option Addr) (m d : Nat) (ys : List Int) (t : Int) (w : World) (hx : Rd w a n c xs) (hy : Rd w b m d ys) (he : Err w 0) (he2 : Err w 1) :
    Calls Tryd.prog 31 #[.slice a n c, .slice b m d, .int .i64 t] w fun e w' => ∃ a' n' c', e = .returned (.slice a' n' c') ∧ Ob w' w.heap.size (.slice a' n' c') (teaV xs ys t) ∧ Below w.heap.size w w' := by
  refine (implTear_any a n c xs b m d ys t w hx hy he he2).mono ?_
  rintro e w' ⟨hb, hor⟩
  rcases hor with ⟨ho, rfl⟩ | ⟨v, zs, ho, rfl, hO⟩
  · exact ⟨none, 0, 0, rfl, by rw [teaV, ho]; exact World.ownsRow_nil _ _ _ _, hb⟩
  · obtain ⟨a', c', rfl⟩ := hO.shape
    exact ⟨a', _, c', rfl, by rw [teaV, ho]; exact hO, hb⟩
set_option maxHeartbeats 8000000 in
set_option maxRecDepth 20000 in
theorem implDiskCrash_any (S S2 : Nat → Prop) (sa : Option Addr) (sn sc : Nat) (da : Option Addr) (dn dc : Nat) (d : DK) (ka : Option Addr) (kn kc : Nat) (keep : List Int) (w : World) (h : Dk w S sa sn sc da dn dc d) (hsm : smallD d) (h1 : sn ≤ 1048576) (h2 : dn ≤ 1048576) (hk : Ir w S2 (.slice ka kn kc) keep) (he : Err w 0) (he2 : Err w 1) :
    Calls Tryd.prog 10 #[.agg #[.slice sa sn sc, .slice da dn dc], .slice ka kn kc] w fun e w' => DkPost1 (dcV d keep) w e w' := by
  have HH := hid h
  have HSM := hid hsm
  have HBY := hid h.bytes'
  have HKE := hid hk
  have HE := hid he
  have HE2 := hid he2
  obtain ⟨hkl0, hkc, hkc'⟩ := Rw.len hk
  have HKL := hid hkl0
  have hsc := h.hs.len.2
  have hdc := h.hd.len.2
  have HNS := hid h.hs.len.1
  have HND := hid h.hd.len.1
  have HB0 : Hid (Below w.heap.size w ((w.alloc (.cells #[.slice sa sn sc, .slice da dn dc] 31)).alloc (.cells #[.slice none 0 0, .slice none 0 0] 31))) := below_new (below_new (Below.refl _ _))
  have K0 := hid ((Bk.new w 31 [.slice sa sn sc, .slice da dn dc]).alloc (.cells #[.slice none 0 0, .slice none 0 0] 31))
  have K1 : Hid (Bk ((w.alloc (.cells #[.slice sa sn sc, .slice da dn dc] 31)).alloc (.cells #[.slice none 0 0, .slice none 0 0] 31)) (w.heap.size + 1) 31 [.slice none 0 0, .slice none 0 0]) := by
    have := Bk.new (w.alloc (.cells #[.slice sa sn sc, .slice da dn dc] 31)) 31 [.slice none 0 0, .slice none 0 0]
    show Bk _ _ _ _
    simpa using this
  have HOK := hid (implDiskOk_any S sa sn sc da dn dc d _ (h.below HB0.out))
  have HDV : Hid (dcV d keep = if dkOk d = true then ⟨crS d.sh d.dw keep d.dw.length, []⟩ else emD) := rfl
  clear h hsm hk he he2 hkl0
  go_enter Tryd.func10, Tryd.ntmps10
  go_wp2_with fail
  refine HOK.out.mono ?_
  generalize (w.alloc (.cells #[.slice sa sn sc, .slice da dn dc] 31)).alloc (.cells #[.slice none 0 0, .slice none 0 0] 31) = W0 at *
  rintro e w1 ⟨rfl, hb⟩
  have J0 := hid (K0.out.below hb)
  have J1 := hid (K1.out.below hb)
  have B1 := hid (bt7 HB0.out hb)
  clear hb HB0 K0 K1 HOK
  cases hok : dkOk d with
  | false =>
    have HF : Hid (dcV d keep = emD) := by show _ = _; rw [HDV.out, hok]; rfl
    have r0 := J1.out.cell (j := 0) rfl
    have r1 := J1.out.cell (j := 1) rfl
    have f0 := J1.out.free 0
    have f1 := J1.out.free 1
    go_wp2
    try simp only [Exit.inBlock, Exit.then]
    refine bodyPost_ret (v := .agg #[.slice none 0 0, .slice none 0 0]) ?_ rfl ?_
    · exact results_dsk rfl _ _ _ rfl (by go_simp) (by go_simp)
    · rw [HF.out]
      exact ⟨_, _, _, _, _, _, _, _, rfl, do_nil _ _, (B1.out.setCell (p := ⟨w.heap.size + 1, 0, none⟩) (Nat.le_succ _) _).setCell (p := ⟨w.heap.size + 1, 1, none⟩) (Nat.le_succ _) _⟩
  | true =>
    have HF : Hid (dcV d keep = ⟨crS d.sh d.dw keep d.dw.length, []⟩) := by show _ = _; rw [HDV.out, hok]; rfl
    have HOK := hid hok
    have hsn : 2 ≤ sn ∧ sn ≤ 400 := by have := (dkOk_iff d).1 hok; rw [HNS.out]; exact ⟨this.1, this.2.1⟩
    clear hok HDV
    obtain ⟨V, hVl, hVr, hVb⟩ := HH.out.hs.below B1.out
    rw [← HNS.out] at hVr
    obtain ⟨b, off, rfl, -⟩ := Rw.at hVr (by omega)
    have HCL := hid (cloneS_any S b off sn sc V w1 hVr (by rw [hVl, HNS.out]) (one_slices hVl hVb) h1)
    have HVB := hid hVb
    have HVL := hid hVl
    clear hVl hVr hVb
    have d0 := J0.out.cell (j := 0) rfl
    go_wp2_with fail
    refine HCL.out.mono ?_
    rintro e w2 ⟨ga, cc, rfl, hrow, hb⟩
    have hcc := (own_at hrow).2.1
    have hcc' := (own_at hrow).2.2.1
    obtain ⟨g, rfl, -⟩ := (own_at hrow).2.2.2 (by omega)
    have V0 : Hid (VX w w2 (some ⟨b, off, none⟩) sn sc da dn dc g cc V (crS d.sh d.dw keep 0)) := VX.start B1.out J0.out J1.out HVL.out HNS.out.symm HVB.out hrow hb
    have d1 := V0.out.k0.cell (j := 1) rfl
    clear hrow hb J0 J1 B1 HCL HVB HVL d0
    go_wp2_with fail
    clear d1
    go_loopw [18] (fun i wr => ∃ (k : Nat) (V : List Value), k ≤ dn ∧ i = .int .i64 k ∧ Hid (VX w wr (some ⟨b, off, none⟩) sn sc da dn dc g cc V (crS d.sh d.dw keep k))) (fun i _ => dn - (intOf i).toNat)
    case atStart => exact ⟨0, V, Nat.zero_le _, rfl, V0.out⟩
    case round =>
      clear V0
      obtain ⟨k, V, hk, rfl, VV⟩ := hrel
      by_cases hlt : k < dn
      · have hlt' : (k : Int) < (dn : Int) := by omega
        obtain ⟨b2, off2, rfl, _, hbw, hcell⟩ := (HH.out.hd.below VV.out.bel).at (by omega)
        obtain ⟨ap, np, cp, mt, m0, hp⟩ := hcell k hlt
        have hkl : k < d.dw.length := by rw [← HND.out]; exact hlt
        have hwk := (wrtOk_iff _ _).1 (((dkOk_iff d).1 HOK.out).2.2.2.2 k hkl)
        obtain ⟨u, hu⟩ : ∃ u : Nat, (dwAt d.dw k).1 = (u : Int) := ⟨(dwAt d.dw k).1.toNat, by omega⟩
        have hus : u < sn := by rw [HNS.out]; omega
        have hus' : (u : Int) < (sn : Int) := by omega
        rw [hu] at mt
        have hnp : np ≤ 1048576 := by have := hp.len.1; have := hwk.2.2; omega
        have HPR := hid (hp.rd hnp)
        have HCR : Hid (crS d.sh d.dw keep (k + 1) = if 0 < iAt keep k then (crS d.sh d.dw keep k).set u (teaV (shAt (crS d.sh d.dw keep k) u) (dwAt d.dw k).2 (iAt keep k)) else crS d.sh d.dw keep k) := by
          show _ = _
          rw [crS, hu]
          rfl
        have hb0 := below_new (o := .cells #[.int .i64 (u : Int), .slice ap np cp] 56) (w := wr) (Below.refl _ _)
        have VU := hid (VV.out.below hb0)
        have hgg := World.ownsRow.lt VV.out.row g rfl
        have HFA := hid (crS_facts HOK.out HBY.out keep k (by omega) u)
        have HB2 := hid (HBY.out.2 k)
        clear hcell hbw hp hwk hu
        by_cases hkk : k < kn
        · have hkk' : (k : Int) < (kn : Int) := by omega
          obtain ⟨kb, koff, rfl, _, hkb, hkcell⟩ := Ir.at HKE.out (by omega)
          have n0 := (World.cell?_of_block (w := w) (a := ⟨kb, koff + k, none⟩) (VV.out.bel.block kb hkb)).trans (hkcell k hkk)
          have hkg : ¬ kb = g := by omega
          have hkg2 : ¬ g = kb := by omega
          have hkw : kb < wr.heap.size := by have := VV.out.bel.size; omega
          clear hkcell
          generalize iAt keep k = q at *
          by_cases hq : 0 < q
          · have HCR2 : Hid (crS d.sh d.dw keep (k + 1) = (crS d.sh d.dw keep k).set u (teaV (shAt (crS d.sh d.dw keep k) u) (dwAt d.dw k).2 q)) := by show _ = _; rw [HCR.out, if_pos hq]
            have hby := VV.out.byt' u hus
            obtain ⟨a3, c3, e3⟩ := hby.1.sliceOf
            have hvl : u < V.length := by rw [VV.out.len]; exact hus
            have hl3 : (shAt (crS d.sh d.dw keep k) u).length ≤ 512 := by have := (shtOk_iff _).1 (HFA.out.2 (by rw [← HNS.out]; exact hus)); omega
            rw [e3] at hby
            have HRS : Hid (Rd wr a3 (shAt (crS d.sh d.dw keep k) u).length c3 (shAt (crS d.sh d.dw keep k) u)) := hby.rd (by omega)
            have HBX : Hid (∀ z, Below (wr.alloc (.cells #[.int .i64 (u : Int), .slice ap np cp] 56)).heap.size (wr.alloc (.cells #[.int .i64 (u : Int), .slice ap np cp] 56)) z → z.cell? ⟨g, u, none⟩ = some (.slice a3 (shAt (crS d.sh d.dw keep k) u).length c3) ∧ z.frozen? ⟨g, u, none⟩ = false) := fun z hz => by
              have c := VU.out.below hz
              obtain ⟨-, -, -, hr⟩ := own_at c.row
              obtain ⟨g', e', -, -, hf, hcell⟩ := hr (by omega)
              cases e'
              refine ⟨?_, hf u⟩
              have := hcell u _ (uAt_some hvl)
              rwa [e3] at this
            have HTE : Hid (∀ z, Below (wr.alloc (.cells #[.int .i64 (u : Int), .slice ap np cp] 56)).heap.size (wr.alloc (.cells #[.int .i64 (u : Int), .slice ap np cp] 56)) z → Calls Tryd.prog 31 #[.slice a3 (shAt (crS d.sh d.dw keep k) u).length c3, .slice ap np cp, .int .i64 q] z fun e w' => ∃ a' n' c', e = .returned (.slice a' n' c') ∧ Ob w' z.heap.size (.slice a' n' c') (teaV (shAt (crS d.sh d.dw keep k) u) (dwAt d.dw k).2 q) ∧ Below z.heap.size z w') := fun z hz =>
              implTear_at _ _ _ _ _ _ _ _ q z (HRS.out.kept (bt7 hb0 hz)) (HPR.out.kept (bt7 hb0 hz)) (HE.out.below (bt7 (bt7 VV.out.bel hb0) hz) HE.out.lt) (HE2.out.below (bt7 (bt7 VV.out.bel hb0) hz) HE2.out.lt)
            have HFIN : Hid (∀ (w4 : World) (a4 : Option Addr) (n4 c4 : Nat), Ob w4 (wr.alloc (.cells #[.int .i64 (u : Int), .slice ap np cp] 56)).heap.size (.slice a4 n4 c4) (teaV (shAt (crS d.sh d.dw keep k) u) (dwAt d.dw k).2 q) → Below (wr.alloc (.cells #[.int .i64 (u : Int), .slice ap np cp] 56)).heap.size (wr.alloc (.cells #[.int .i64 (u : Int), .slice ap np cp] 56)) w4 → VX w (w4.setCell ⟨g, u, none⟩ (.slice a4 n4 c4)) (some ⟨b, off, none⟩) sn sc (some ⟨b2, off2, none⟩) dn dc g cc (V.set u (.slice a4 n4 c4)) (crS d.sh d.dw keep (k + 1))) := fun w4 a4 n4 c4 hO4 hb4 => by
              rw [HCR2.out]
              exact (VU.out.below hb4).put hus (by_ob hO4 (tea_facts HFA.out.1 HB2.out q).1 (fun y _ hy _ => by have h1 := hb0.size; omega))
            have HS3 : Hid (∀ z, Below (wr.alloc (.cells #[.int .i64 (u : Int), .slice ap np cp] 56)).heap.size (wr.alloc (.cells #[.int .i64 (u : Int), .slice ap np cp] 56)) z → z.cell? ⟨wr.heap.size, 0, none⟩ = some (.int .i64 (u : Int)) ∧ z.cell? ⟨wr.heap.size, 1, none⟩ = some (.slice ap np cp) ∧ z.cell? ⟨kb, koff + k, none⟩ = some (.int .i64 q)) := fun z hz => ⟨((Bk.new wr 56 [.int .i64 (u : Int), .slice ap np cp]).below hz).cell (j := 0) rfl, ((Bk.new wr 56 [.int .i64 (u : Int), .slice ap np cp]).below hz).cell (j := 1) rfl, (World.cell?_of_block (w := wr) (a := ⟨kb, koff + k, none⟩) ((bt7 hb0 hz).block kb hkw)).trans n0⟩
            have HS0 := hid (HS3.out _ (below_drew (wr.alloc (.cells #[.int .i64 (u : Int), .slice ap np cp] 56))))
            have gg1 : wr.cell? ⟨g, u, none⟩ = some (.slice a3 (shAt (crS d.sh d.dw keep k) u).length c3) := by
              obtain ⟨-, -, -, hr⟩ := own_at VV.out.row
              obtain ⟨g', e', -, -, hf, hcell⟩ := hr (by omega)
              cases e'
              have := hcell u _ (uAt_some hvl)
              rwa [e3] at this
            have gg0 := (HBX.out _ (Below.refl _ _)).1
            have s2 := hgg.2
            have g3 : ¬ g = wr.heap.size := by omega
            have g4 : ¬ wr.heap.size = g := by omega
            clear hby e3 HRS HCR HCR2 VV hb0 HFA HB2 HPR hvl hl3 hgg VU
            generalize (shAt (crS d.sh d.dw keep k) u).length = L3 at *
            go_wp2_with fail
            refine wp_region_noPanic ?_
            refine wp_region_held_drew (S := (fun v => v.cell? ⟨wr.heap.size, 0, none⟩ = some (.int .i64 (u : Int)) ∧ v.cell? ⟨wr.heap.size, 1, none⟩ = some (.slice ap np cp) ∧ v.cell? ⟨kb, koff + k, none⟩ = some (.int .i64 q))) (by kernel_rfl) HS0.out (fun hHeld => ?_)
            simp only [List.size_toArray, List.length_cons, List.length_nil, Array.replicate_succ, Array.replicate_zero, Nat.reduceAdd, List.push_toArray, List.nil_append, List.cons_append]
            refine wpAnyH_take (i := 0) (v := (.slice (some ⟨g, 0, none⟩) sn cc)) rfl (by kernel_rfl) (by kernel_rfl) (by kernel_rfl) (fun _ _ _ h => h) (Or.inl ⟨by rfl, ?_⟩) (by assumption) ?_
            · intro w hSw
              (try dsimp only at hSw)
              go_simp
            try simp only [List.getElem_toArray]
            try simp only [List.getElem_cons_succ]
            try simp only [List.getElem_cons_zero]
            try simp only [Act.put]
            try simp only [List.setIfInBounds_toArray]
            try simp only [List.set_cons_succ]
            try simp only [List.set_cons_zero]
            refine wpAnyH_take (i := 1) (v := (.pointer (some ⟨wr.heap.size, 0, none⟩))) rfl (by kernel_rfl) (by kernel_rfl) (by kernel_rfl) (fun _ _ _ h => h) (Or.inl ⟨by rfl, ?_⟩) (by assumption) ?_
            · intro w hSw
              (try dsimp only at hSw)
              go_simp
            try simp only [List.getElem_toArray]
            try simp only [List.getElem_cons_succ]
            try simp only [List.getElem_cons_zero]
            try simp only [Act.put]
            try simp only [List.setIfInBounds_toArray]
            try simp only [List.set_cons_succ]
            try simp only [List.set_cons_zero]
            refine wpAnyH_take (i := 2) (v := (.int .i64 (u : Int))) rfl (by kernel_rfl) (by kernel_rfl) (by kernel_rfl) (fun _ _ _ h => h) (Or.inl ⟨by rfl, ?_⟩) (by assumption) ?_
            · intro w hSw
              (try dsimp only at hSw)
              go_simp
            try simp only [List.getElem_toArray]
            try simp only [List.getElem_cons_succ]
            try simp only [List.getElem_cons_zero]
            try simp only [Act.put]
            try simp only [List.setIfInBounds_toArray]
            try simp only [List.set_cons_succ]
            try simp only [List.set_cons_zero]
            refine wpAnyH_take (i := 3) (v := (.slice (some ⟨g, 0, none⟩) sn cc)) rfl (by kernel_rfl) (by kernel_rfl) (by kernel_rfl) (fun _ _ _ h => h) (Or.inl ⟨by rfl, ?_⟩) (by assumption) ?_
            · intro w hSw
              (try dsimp only at hSw)
              go_simp
            try simp only [List.getElem_toArray]
            try simp only [List.getElem_cons_succ]
            try simp only [List.getElem_cons_zero]
            try simp only [Act.put]
            try simp only [List.setIfInBounds_toArray]
            try simp only [List.set_cons_succ]
            try simp only [List.set_cons_zero]
            refine wpAnyH_take (i := 4) (v := (.pointer (some ⟨wr.heap.size, 0, none⟩))) rfl (by kernel_rfl) (by kernel_rfl) (by kernel_rfl) (fun _ _ _ h => h) (Or.inl ⟨by rfl, ?_⟩) (by assumption) ?_
            · intro w hSw
              (try dsimp only at hSw)
              go_simp
            try simp only [List.getElem_toArray]
            try simp only [List.getElem_cons_succ]
            try simp only [List.getElem_cons_zero]
            try simp only [Act.put]
            try simp only [List.setIfInBounds_toArray]
            try simp only [List.set_cons_succ]
            try simp only [List.set_cons_zero]
            refine wpAnyH_take (i := 5) (v := (.int .i64 (u : Int))) rfl (by kernel_rfl) (by kernel_rfl) (by kernel_rfl) (fun _ _ _ h => h) (Or.inl ⟨by rfl, ?_⟩) (by assumption) ?_
            · intro w hSw
              (try dsimp only at hSw)
              go_simp
            try simp only [List.getElem_toArray]
            try simp only [List.getElem_cons_succ]
            try simp only [List.getElem_cons_zero]
            try simp only [Act.put]
            try simp only [List.setIfInBounds_toArray]
            try simp only [List.set_cons_succ]
            try simp only [List.set_cons_zero]
            refine wpAnyH_take (i := 6) (v := (.pointer (some ⟨g, u, none⟩))) rfl (by kernel_rfl) (by kernel_rfl) (by kernel_rfl) (fun _ _ _ h => h) (Or.inl ⟨by rfl, ?_⟩) (by assumption) ?_
            · intro w hSw
              (try dsimp only at hSw)
              go_simp
            try simp only [List.getElem_toArray]
            try simp only [List.getElem_cons_succ]
            try simp only [List.getElem_cons_zero]
            try simp only [Act.put]
            try simp only [List.setIfInBounds_toArray]
            try simp only [List.set_cons_succ]
            try simp only [List.set_cons_zero]
            refine wpAnyH_take (i := 7) (v := (.pointer (some ⟨g, u, none⟩))) rfl (by kernel_rfl) (by kernel_rfl) (by kernel_rfl) (fun _ _ _ h => h) (Or.inl ⟨by rfl, ?_⟩) (by assumption) ?_
            · intro w hSw
              (try dsimp only at hSw)
              go_simp
            try simp only [List.getElem_toArray]
            try simp only [List.getElem_cons_succ]
            try simp only [List.getElem_cons_zero]
            try simp only [Act.put]
            try simp only [List.setIfInBounds_toArray]
            try simp only [List.set_cons_succ]
            try simp only [List.set_cons_zero]
            refine wpAnyH_take (i := 9) (v := (.pointer (some ⟨wr.heap.size, 1, none⟩))) rfl (by kernel_rfl) (by kernel_rfl) (by kernel_rfl) (fun _ _ _ h => h) (Or.inl ⟨by rfl, ?_⟩) (by assumption) ?_
            · intro w hSw
              (try dsimp only at hSw)
              go_simp
            try simp only [List.getElem_toArray]
            try simp only [List.getElem_cons_succ]
            try simp only [List.getElem_cons_zero]
            try simp only [Act.put]
            try simp only [List.setIfInBounds_toArray]
            try simp only [List.set_cons_succ]
            try simp only [List.set_cons_zero]
            refine wpAnyH_take (i := 10) (v := (.slice ap np cp)) rfl (by kernel_rfl) (by kernel_rfl) (by kernel_rfl) (fun _ _ _ h => h) (Or.inl ⟨by rfl, ?_⟩) (by assumption) ?_
            · intro w hSw
              (try dsimp only at hSw)
              go_simp
            try simp only [List.getElem_toArray]
            try simp only [List.getElem_cons_succ]
            try simp only [List.getElem_cons_zero]
            try simp only [Act.put]
            try simp only [List.setIfInBounds_toArray]
            try simp only [List.set_cons_succ]
            try simp only [List.set_cons_zero]
            refine wpAnyH_take (i := 11) (v := (.slice (some ⟨kb, koff, none⟩) kn kc)) rfl (by kernel_rfl) (by kernel_rfl) (by kernel_rfl) (fun _ _ _ h => h) (Or.inl ⟨by rfl, ?_⟩) (by assumption) ?_
            · intro w hSw
              (try dsimp only at hSw)
              go_simp
            try simp only [List.getElem_toArray]
            try simp only [List.getElem_cons_succ]
            try simp only [List.getElem_cons_zero]
            try simp only [Act.put]
            try simp only [List.setIfInBounds_toArray]
            try simp only [List.set_cons_succ]
            try simp only [List.set_cons_zero]
            refine wpAnyH_take (i := 12) (v := (.int .i64 (k : Int))) rfl (by kernel_rfl) (by kernel_rfl) (by kernel_rfl) (fun _ _ _ h => h) (Or.inl ⟨by rfl, ?_⟩) (by assumption) ?_
            · intro w hSw
              (try dsimp only at hSw)
              go_simp
            try simp only [List.getElem_toArray]
            try simp only [List.getElem_cons_succ]
            try simp only [List.getElem_cons_zero]
            try simp only [Act.put]
            try simp only [List.setIfInBounds_toArray]
            try simp only [List.set_cons_succ]
            try simp only [List.set_cons_zero]
            refine wpAnyH_take (i := 13) (v := (.pointer (some ⟨kb, koff + k, none⟩))) rfl (by kernel_rfl) (by kernel_rfl) (by kernel_rfl) (fun _ _ _ h => h) (Or.inl ⟨by rfl, ?_⟩) (by assumption) ?_
            · intro w hSw
              (try dsimp only at hSw)
              go_simp
            try simp only [List.getElem_toArray]
            try simp only [List.getElem_cons_succ]
            try simp only [List.getElem_cons_zero]
            try simp only [Act.put]
            try simp only [List.setIfInBounds_toArray]
            try simp only [List.set_cons_succ]
            try simp only [List.set_cons_zero]
            refine wpAnyH_take (i := 14) (v := (.int .i64 q)) rfl (by kernel_rfl) (by kernel_rfl) (by kernel_rfl) (fun _ _ _ h => h) (Or.inl ⟨by rfl, ?_⟩) (by assumption) ?_
            · intro w hSw
              (try dsimp only at hSw)
              go_simp
            try simp only [List.getElem_toArray]
            try simp only [List.getElem_cons_succ]
            try simp only [List.getElem_cons_zero]
            try simp only [Act.put]
            try simp only [List.setIfInBounds_toArray]
            try simp only [List.set_cons_succ]
            try simp only [List.set_cons_zero]
            refine wpAnyH_ready (rs := [8]) (by kernel_rfl) (by simp) ?_
            refine AllReadyH.cons rfl (fun K1 hK => ?_) AllReadyH.nil
            go_simp
            try go_wp2_with fail
            refine hK.out _ _ ?_ (fun hHeld => ?_)
            · assumption
            clear hK K1
            try simp only [List.getElem_toArray]
            try simp only [List.getElem_cons_succ]
            try simp only [List.getElem_cons_zero]
            try simp only [Act.put]
            try simp only [List.setIfInBounds_toArray]
            try simp only [List.set_cons_succ]
            try simp only [List.set_cons_zero]
            refine wpAnyH_ready (rs := [15]) (by kernel_rfl) (by simp) ?_
            refine AllReadyH.cons rfl (fun K1 hK => ?_) AllReadyH.nil
            go_simp
            refine (HTE.out _ (below_drew _)).mono ?_
            rintro e w4 ⟨a4, n4, c4, rfl, hO4, hb4⟩
            have q3 := (HBX.out w4 (bt7 (below_drew _) hb4)).1
            have q4 := (HBX.out w4 (bt7 (below_drew _) hb4)).2
            go_wp2_with fail
            refine hK.out _ _ ?_ (fun hHeld => ?_)
            · exact HS3.out _ (bt7 (below_drew _) hb4)
            clear hK K1
            try simp only [List.getElem_toArray]
            try simp only [List.getElem_cons_succ]
            try simp only [List.getElem_cons_zero]
            try simp only [Act.put]
            try simp only [List.setIfInBounds_toArray]
            try simp only [List.set_cons_succ]
            try simp only [List.set_cons_zero]
            refine wpAnyH_take (i := 16) (v := (.pointer (some ⟨g, u, none⟩))) rfl (by kernel_rfl) (by kernel_rfl) (by kernel_rfl) (fun _ _ _ h => h) (Or.inl ⟨by rfl, ?_⟩) (by assumption) ?_
            · intro w hSw
              (try dsimp only at hSw)
              go_simp
            try simp only [List.getElem_toArray]
            try simp only [List.getElem_cons_succ]
            try simp only [List.getElem_cons_zero]
            try simp only [Act.put]
            try simp only [List.setIfInBounds_toArray]
            try simp only [List.set_cons_succ]
            try simp only [List.set_cons_zero]
            refine wpAnyH_take (i := 17) (v := (.pointer (some ⟨g, u, none⟩))) rfl (by kernel_rfl) (by kernel_rfl) (by kernel_rfl) (fun _ _ _ h => h) (Or.inl ⟨by rfl, ?_⟩) (by assumption) ?_
            · intro w hSw
              (try dsimp only at hSw)
              go_simp
            try simp only [List.getElem_toArray]
            try simp only [List.getElem_cons_succ]
            try simp only [List.getElem_cons_zero]
            try simp only [Act.put]
            try simp only [List.setIfInBounds_toArray]
            try simp only [List.set_cons_succ]
            try simp only [List.set_cons_zero]
            refine wpAnyH_ready (rs := [18]) (by kernel_rfl) (by simp) ?_
            refine AllReadyH.cons rfl (fun K1 hK => ?_) AllReadyH.nil
            go_simp
            try go_wp2_with fail
            refine hK.out _ _ ?_ (fun hHeld => ?_)
            · refine ⟨?_, ?_, ?_⟩ <;> go_simp
            clear hK K1
            try simp only [List.getElem_toArray]
            try simp only [List.getElem_cons_succ]
            try simp only [List.getElem_cons_zero]
            try simp only [Act.put]
            try simp only [List.setIfInBounds_toArray]
            try simp only [List.set_cons_succ]
            try simp only [List.set_cons_zero]
            refine wpAnyH_done (by kernel_rfl) ?_ _
            refine NoPanic.normal ?_
            go_wp2
            exact ⟨⟨k + 1, V.set u (.slice a4 n4 c4), by omega, by go_num, HFIN.out w4 a4 n4 c4 hO4 (bt7 (below_drew _) hb4)⟩, by simp [intOf]; omega⟩
          · have HCR2 : Hid (VX w (wr.alloc (.cells #[.int .i64 (u : Int), .slice ap np cp] 56)) (some ⟨b, off, none⟩) sn sc (some ⟨b2, off2, none⟩) dn dc g cc V (crS d.sh d.dw keep (k + 1))) := by rw [HCR.out, if_neg hq]; exact VU.out
            clear HCR VV VU hb0 HFA HB2 HPR
            go_wp2
            go_roundw
            case rel => exact ⟨k + 1, V, by omega, by go_num, HCR2.out⟩
            case measure => simp [intOf]; omega
        · have hkk' : ¬ (k : Int) < (kn : Int) := by omega
          have HCR2 : Hid (VX w (wr.alloc (.cells #[.int .i64 (u : Int), .slice ap np cp] 56)) (some ⟨b, off, none⟩) sn sc (some ⟨b2, off2, none⟩) dn dc g cc V (crS d.sh d.dw keep (k + 1))) := by
            rw [HCR.out, if_neg (by rw [show iAt keep k = 0 by simp [iAt, show keep.length ≤ k by rw [← HKL.out]; omega]]; omega)]
            exact VU.out
          clear HCR VV VU hb0 HFA HB2 HPR
          go_wp2
          go_roundw
          case rel => exact ⟨k + 1, V, by omega, by go_num, HCR2.out⟩
          case measure => simp [intOf]; omega
      · have hkd : k = d.dw.length := by rw [← HND.out]; omega
        subst hkd
        have HDK : Hid (Dk wr (fun _ => True) (some ⟨g, 0, none⟩) sn cc none 0 0 ⟨crS d.sh d.dw keep d.dw.length, []⟩) := ⟨VV.out.shr, wrr_nil _ _⟩
        have HSM2 : Hid (smallD ⟨crS d.sh d.dw keep d.dw.length, []⟩) := ⟨fun i hi => by have := crS_le HOK.out HBY.out keep i; simp only at this ⊢; omega, fun i hi => by simp at hi⟩
        go_wp2_with fail
        refine (copyDisk_any (fun _ => True) _ _ _ _ _ _ _ _ HDK.out HSM2.out h1 (by omega)).mono ?_
        rintro e w3 ⟨za, zn, zc, ya, yn, yc, V3, U3, rfl, hO, hb⟩
        have J1 := hid (VV.out.k1.below hb)
        have HO := hid hO
        have B2 := hid (bt7 VV.out.bel hb)
        have SZ : Hid (w.heap.size + 2 ≤ wr.heap.size) := VV.out.k1.lt
        clear hO hb VV HDK
        have r0 := J1.out.cell (j := 0) rfl
        have r1 := J1.out.cell (j := 1) rfl
        have f0 := J1.out.free 0
        have f1 := J1.out.free 1
        go_wp2
        try simp only [Exit.inBlock, Exit.then]
        refine bodyPost_ret (v := .agg #[.slice za zn zc, .slice ya yn yc]) ?_ rfl ?_
        · exact results_dsk rfl _ _ _ rfl (by go_simp) (by go_simp)
        · rw [HF.out]
          have O1 : Only (fun y => y = w.heap.size + 1) w3 ((w3.setCell ⟨w.heap.size + 1, 0, none⟩ (.slice za zn zc)).setCell ⟨w.heap.size + 1, 1, none⟩ (.slice ya yn yc)) := (only_set (R := fun y => y = w.heap.size + 1) rfl _).trans (only_set (R := fun y => y = w.heap.size + 1) rfl _)
          have hz := SZ.out
          exact ⟨_, _, _, _, _, _, _, _, rfl, (HO.out.to O1 (fun y e e2 => by have := (HO.out.lt e).1; omega)).base (by omega), (B2.out.setCell (p := ⟨w.heap.size + 1, 0, none⟩) (Nat.le_succ _) _).setCell (p := ⟨w.heap.size + 1, 1, none⟩) (Nat.le_succ _) _⟩
end Go.Proofs.YtijinngmfalfcabDoor

