/-
  DiskCrash of the specification: its walk.
-/
import Derived.Test.YtcpdedpgjaimkaaDkG
namespace Go.Proofs.Ytcpdedpgjaimkaa
open Go.RowKit
set_option linter.unusedVariables false
set_option maxHeartbeats 16000000 in
set_option maxRecDepth 20000 in
theorem specDiskCrash_any (S S2 : Nat → Prop) (sa : Option Addr) (sn sc : Nat) (da : Option Addr) (dn dc : Nat) (d : DK) (ka : Option Addr) (kn kc : Nat) (keep : List Int) (w : World) (h : Dk w S sa sn sc da dn dc d) (hsm : smallD d) (h1 : sn ≤ 1048576) (h2 : dn ≤ 1048576) (hk : Ir w S2 (.slice ka kn kc) keep) :
    Calls Try.prog 115 #[.agg #[.slice sa sn sc, .slice da dn dc], .slice ka kn kc] w fun e w' => DkPost1 (dcV d keep) w e w' := by
  have HH := hid h
  have HSM := hid hsm
  have HKE := hid hk
  have HBY := hid h.bytes'
  obtain ⟨hkl, hkc, hkc'⟩ := Rw.len hk
  have HKL := hid hkl
  have hsc := h.hs.len.2
  have hdc := h.hd.len.2
  have HNS := hid h.hs.len.1
  have HND := hid h.hd.len.1
  have HB0 : Hid (Below w.heap.size w ((w.alloc (.cells #[.slice sa sn sc, .slice da dn dc] 46)).alloc (.cells #[.slice none 0 0, .slice none 0 0] 46))) := below_new (below_new (Below.refl _ _))
  have K0 := hid ((Bk.new w 46 [.slice sa sn sc, .slice da dn dc]).alloc (.cells #[.slice none 0 0, .slice none 0 0] 46))
  have K1 : Hid (Bk ((w.alloc (.cells #[.slice sa sn sc, .slice da dn dc] 46)).alloc (.cells #[.slice none 0 0, .slice none 0 0] 46)) (w.heap.size + 1) 46 [.slice none 0 0, .slice none 0 0]) := by
    have := Bk.new (w.alloc (.cells #[.slice sa sn sc, .slice da dn dc] 46)) 46 [.slice none 0 0, .slice none 0 0]
    show Bk _ _ _ _
    simpa using this
  have HOK := hid (specDiskOk_any S sa sn sc da dn dc d _ (h.below HB0.out))
  have HDV : Hid (dcV d keep = if dkOk d = true then ⟨crS d.sh d.dw keep d.dw.length, []⟩ else emD) := rfl
  clear h hsm hk hkl
  go_enter Try.func115, Try.ntmps115
  go_wp2_with fail
  refine HOK.out.mono ?_
  generalize (w.alloc (.cells #[.slice sa sn sc, .slice da dn dc] 46)).alloc (.cells #[.slice none 0 0, .slice none 0 0] 46) = W0 at *
  rintro e w1 ⟨rfl, hb⟩
  have J0 := hid (K0.out.below hb)
  have J1 := hid (K1.out.below hb)
  have B1 := hid (bt7 HB0.out hb)
  clear hb HB0 K0 K1 HOK
  cases hok : dkOk d with
  | false =>
    have HF : Hid (dcV d keep = emD) := by show _ = _; rw [HDV.out, hok]; rfl
    have r0 := J1.out.cell (j := 0) rfl
    have r1 := J1.out.cell (j := 1) rfl
    have f0 := J1.out.free 0
    have f1 := J1.out.free 1
    go_wp2
    try simp only [Exit.inBlock, Exit.then]
    refine bodyPost_ret (v := .agg #[.slice none 0 0, .slice none 0 0]) ?_ rfl ?_
    · exact results_dsk rfl _ _ _ rfl (by go_simp) (by go_simp)
    · rw [HF.out]
      exact ⟨_, _, _, _, _, _, _, _, rfl, do_nil _ _, (B1.out.setCell (p := ⟨w.heap.size + 1, 0, none⟩) (Nat.le_succ _) _).setCell (p := ⟨w.heap.size + 1, 1, none⟩) (Nat.le_succ _) _⟩
  | true =>
    have HF : Hid (dcV d keep = ⟨crS d.sh d.dw keep d.dw.length, []⟩) := by show _ = _; rw [HDV.out, hok]; rfl
    have HOK := hid hok
    clear hok HDV
    have d0 := J0.out.cell (j := 0) rfl
    have d1 := J0.out.cell (j := 1) rfl
    go_wp2_with fail
    refine (l05Copy_any S sa sn sc da dn dc d _ (HH.out.below B1.out) HSM.out h1 h2).mono ?_
    rintro e w2 ⟨xa, xn, xc, ya, yn, yc, V, Uu, rfl, hO, hb⟩
    have hsn : 2 ≤ sn ∧ sn ≤ 400 := by have := (dkOk_iff d).1 HOK.out; rw [HNS.out]; exact ⟨this.1, this.2.1⟩
    have hxn : xn = sn := by rw [HNS.out]; exact (own_at hO.hs.row).1
    have hxc := (own_at hO.hs.row).2.1
    have hxc' := (own_at hO.hs.row).2.2.1
    subst hxn
    obtain ⟨g, rfl, -⟩ := (own_at hO.hs.row).2.2.2 (by omega)
    have hbn := below_new (o := .cells #[.slice (some ⟨g, 0, none⟩) xn xc, .slice none 0 0] 46) (w := w2) (Below.refl _ _)
    have KK0 : Hid (KX w (w2.alloc (.cells #[.slice (some ⟨g, 0, none⟩) xn xc, .slice none 0 0] 46)) sa xn sc da dn dc w2.heap.size w1.heap.size (some ⟨g, 0, none⟩) xn xc V (crS d.sh d.dw keep 0)) :=
      ⟨bt7 (bt7 B1.out hb) hbn, (J0.out.below hb).below hbn, (J1.out.below hb).below hbn, Bk.new w2 _ [_, _], hO.hs.below hbn, J1.out.lt, Nat.lt_of_lt_of_le J1.out.lt hb.size, fun y hy => by have := (hO.hs.lt hy).2; omega⟩
    have d1b := KK0.out.k0.cell (j := 1) rfl
    clear hb hbn hO J0 J1 B1 d0 d1
    go_wp2_with fail
    clear d1b
    generalize w2.heap.size = bo at *
    generalize w1.heap.size = B at *
    go_loopw [19] (fun i wr => ∃ (k : Nat) (V : List Value), k ≤ dn ∧ i = .int .i64 k ∧ Hid (KX w wr sa xn sc da dn dc bo B (some ⟨g, 0, none⟩) xn xc V (crS d.sh d.dw keep k))) (fun i _ => dn - (intOf i).toNat)
    case atStart => exact ⟨0, V, Nat.zero_le _, rfl, KK0.out⟩
    case round =>
      clear KK0
      obtain ⟨k, V, hk, rfl, KK⟩ := hrel
      by_cases hlt : k < dn
      · have hlt' : (k : Int) < (dn : Int) := by omega
        obtain ⟨b, off, rfl, _, hbw, hcell⟩ := (HH.out.hd.below KK.out.bel).at (by omega)
        obtain ⟨ap, np, cp, mt, m0, hp⟩ := hcell k hlt
        have hkl : k < d.dw.length := by rw [← HND.out]; exact hlt
        have hwk := (wrtOk_iff _ _).1 (((dkOk_iff d).1 HOK.out).2.2.2.2 k hkl)
        obtain ⟨u, hu⟩ : ∃ u : Nat, (dwAt d.dw k).1 = (u : Int) := ⟨(dwAt d.dw k).1.toNat, by omega⟩
        have hus : u < xn := by rw [HNS.out]; omega
        rw [hu] at mt
        have hnp : np ≤ 1048576 := by have := hp.len.1; have := hwk.2.2; omega
        have HPR := hid hp
        have HCR : Hid (crS d.sh d.dw keep (k + 1) = if 0 < iAt keep k then (crS d.sh d.dw keep k).set u (teaV (shAt (crS d.sh d.dw keep k) u) (dwAt d.dw k).2 (iAt keep k)) else crS d.sh d.dw keep k) := by
          show _ = _
          rw [crS, hu]
          rfl
        have hb0 := below_new (o := .cells #[.int .i64 (u : Int), .slice ap np cp] 109) (w := wr) (Below.refl _ _)
        have KU := hid (KK.out.below hb0)
        have HFA := hid (crS_facts HOK.out HBY.out keep k (by omega) u)
        have HB2 := hid (HBY.out.2 k)
        have SS : Hid (bo < wr.heap.size) := KK.out.k2.lt
        have SG : Hid (g < wr.heap.size) := (World.ownsRow.lt KK.out.own.row g rfl).2
        clear hcell hbw hp hwk hu
        by_cases hkk : k < kn
        · have hkk' : (k : Int) < (kn : Int) := by omega
          obtain ⟨kb, koff, rfl, _, hkb, hkcell⟩ := Ir.at (HKE.out.below KK.out.bel) (by omega)
          have n0 := hkcell k hkk
          have n0' : (wr.alloc (.cells #[.int .i64 (u : Int), .slice ap np cp] 109)).cell? ⟨kb, koff + k, none⟩ = some (.int .i64 (iAt keep k)) := (World.cell?_of_block (w := wr) (a := ⟨kb, koff + k, none⟩) (hb0.block kb hkb)).trans n0
          clear hkcell
          generalize iAt keep k = q at *
          by_cases hq : 0 < q
          · have HCR2 : Hid (crS d.sh d.dw keep (k + 1) = (crS d.sh d.dw keep k).set u (teaV (shAt (crS d.sh d.dw keep k) u) (dwAt d.dw k).2 q)) := by show _ = _; rw [HCR.out, if_pos hq]
            have hul : u < (crS d.sh d.dw keep k).length := by rw [crS_len, ← HNS.out]; exact hus
            have hso := KK.out.own.own u hul
            obtain ⟨a3, c3, e3⟩ := hso.1.shape
            have hvl : u < V.length := by rw [KK.out.own.len]; exact hul
            have hl3 : (shAt (crS d.sh d.dw keep k) u).length ≤ 512 := by have := (shtOk_iff _).1 (HFA.out.2 (by rw [← HNS.out]; exact hus)); omega
            have HRS : Hid (Rd wr a3 (shAt (crS d.sh d.dw keep k) u).length c3 (shAt (crS d.sh d.dw keep k) u)) := by
              obtain ⟨a', c', e', hr, _⟩ := Ob.rd hso.1 hso.2 (by omega)
              rw [e3] at e'
              cases e'
              exact hr
            have HBX : Hid (∀ z, Below (wr.alloc (.cells #[.int .i64 (u : Int), .slice ap np cp] 109)).heap.size (wr.alloc (.cells #[.int .i64 (u : Int), .slice ap np cp] 109)) z → z.cell? ⟨bo, 0, none⟩ = some (.slice (some ⟨g, 0, none⟩) xn xc) ∧ z.cell? ⟨wr.heap.size, 0, none⟩ = some (.int .i64 (u : Int)) ∧ z.cell? ⟨g, u, none⟩ = some (.slice a3 (shAt (crS d.sh d.dw keep k) u).length c3) ∧ z.frozen? ⟨g, u, none⟩ = false) := fun z hz => by
              have c := KU.out.below hz
              obtain ⟨-, -, -, hr⟩ := own_at c.own.row
              obtain ⟨g', e', -, -, hf, hcell⟩ := hr (by omega)
              cases e'
              refine ⟨c.k2.cell (j := 0) rfl, ((Bk.new wr 109 [.int .i64 (u : Int), .slice ap np cp]).below hz).cell (j := 0) rfl, ?_, hf u⟩
              have := hcell u _ (uAt_some hvl)
              rwa [e3] at this
            have HTE : Hid (∀ z, Below (wr.alloc (.cells #[.int .i64 (u : Int), .slice ap np cp] 109)).heap.size (wr.alloc (.cells #[.int .i64 (u : Int), .slice ap np cp] 109)) z → Calls Try.prog 160 #[.slice a3 (shAt (crS d.sh d.dw keep k) u).length c3, .slice ap np cp, .int .i64 q] z fun e w' => ∃ a' n' c', e = .returned (.slice a' n' c') ∧ Ob w' z.heap.size (.slice a' n' c') (teaV (shAt (crS d.sh d.dw keep k) u) (dwAt d.dw k).2 q) ∧ Below z.heap.size z w') := fun z hz =>
              specTear_at _ _ _ _ _ _ _ _ q z (HRS.out.kept (bt7 hb0 hz)) ((HPR.out.rd (by omega)).kept (bt7 hb0 hz)) (by omega) (by omega)
            have HFIN : Hid (∀ (w4 : World) (a4 : Option Addr) (n4 c4 : Nat), Ob w4 (wr.alloc (.cells #[.int .i64 (u : Int), .slice ap np cp] 109)).heap.size (.slice a4 n4 c4) (teaV (shAt (crS d.sh d.dw keep k) u) (dwAt d.dw k).2 q) → Below (wr.alloc (.cells #[.int .i64 (u : Int), .slice ap np cp] 109)).heap.size (wr.alloc (.cells #[.int .i64 (u : Int), .slice ap np cp] 109)) w4 → KX w (w4.setCell ⟨g, u, none⟩ (.slice a4 n4 c4)) sa xn sc (some ⟨b, off, none⟩) dn dc bo B (some ⟨g, 0, none⟩) xn xc (V.set u (.slice a4 n4 c4)) (crS d.sh d.dw keep (k + 1))) := fun w4 a4 n4 c4 hO4 hb4 => by
              rw [HCR2.out]
              exact KU.out.put hb4 hO4 (tea_facts HFA.out.1 HB2.out q).1 hul
            have HS4 : Hid (∀ z, Below (wr.alloc (.cells #[.int .i64 (u : Int), .slice ap np cp] 109)).heap.size (wr.alloc (.cells #[.int .i64 (u : Int), .slice ap np cp] 109)) z → g < z.heap.size ∧ bo < z.heap.size ∧ wr.heap.size < z.heap.size) := fun z hz => by have h1 := hz.size; have h2 := SS.out; have h3 := SG.out; simp at h1; omega
            have bb0 := (HBX.out _ (Below.refl _ _)).1
            have gg0 := (HBX.out _ (Below.refl _ _)).2.2.1
            have bb1 := KK.out.k2.cell (j := 0) rfl
            have gg1 : wr.cell? ⟨g, u, none⟩ = some (.slice a3 (shAt (crS d.sh d.dw keep k) u).length c3) := by
              obtain ⟨-, -, -, hr⟩ := own_at KK.out.own.row
              obtain ⟨g', e', -, -, hf, hcell⟩ := hr (by omega)
              cases e'
              have := hcell u _ (uAt_some hvl)
              rwa [e3] at this
            have HS3 : Hid (∀ z, Below (wr.alloc (.cells #[.int .i64 (u : Int), .slice ap np cp] 109)).heap.size (wr.alloc (.cells #[.int .i64 (u : Int), .slice ap np cp] 109)) z → z.cell? ⟨bo, 0, none⟩ = some (.slice (some ⟨g, 0, none⟩) xn xc) ∧ z.cell? ⟨wr.heap.size, 0, none⟩ = some (.int .i64 (u : Int)) ∧ z.cell? ⟨wr.heap.size, 1, none⟩ = some (.slice ap np cp)) := fun z hz => ⟨(HBX.out z hz).1, (HBX.out z hz).2.1, ((Bk.new wr 109 [.int .i64 (u : Int), .slice ap np cp]).below hz).cell (j := 1) rfl⟩
            have HS0 := hid (HS3.out _ (below_drew (wr.alloc (.cells #[.int .i64 (u : Int), .slice ap np cp] 109))))
            have g1 : ¬ g = bo := KK.out.nb g (.inl rfl)
            have g2 : ¬ bo = g := fun e => g1 e.symm
            have g3 : ¬ g = wr.heap.size := by have := SG.out; omega
            have g4 : ¬ wr.heap.size = g := fun e => g3 e.symm
            have s1 := SS.out
            have s2 := SG.out
            have hus' : (u : Int) < (xn : Int) := by omega
            clear hso e3 HRS HCR HCR2 KK hb0 HFA HB2 HPR hul hvl hl3 n0'
            generalize (shAt (crS d.sh d.dw keep k) u).length = L3 at *
            go_wp2_with fail
            refine wp_region_noPanic ?_
            refine wp_region_held_drew (S := (fun v => v.cell? ⟨bo, 0, none⟩ = some (.slice (some ⟨g, 0, none⟩) xn xc) ∧ v.cell? ⟨wr.heap.size, 0, none⟩ = some (.int .i64 (u : Int)) ∧ v.cell? ⟨wr.heap.size, 1, none⟩ = some (.slice ap np cp))) (by kernel_rfl) HS0.out (fun hHeld => ?_)
            simp only [List.size_toArray, List.length_cons, List.length_nil, Array.replicate_succ, Array.replicate_zero, Nat.reduceAdd, List.push_toArray, List.nil_append, List.cons_append]
            refine wpAnyH_take (i := 0) (v := (.pointer (some ⟨bo, 0, none⟩))) rfl (by kernel_rfl) (by kernel_rfl) (by kernel_rfl) (fun _ _ _ h => h) (Or.inl ⟨by rfl, ?_⟩) (by assumption) ?_
            · intro w hSw
              (try dsimp only at hSw)
              go_simp
            try simp only [List.getElem_toArray]
            try simp only [List.getElem_cons_succ]
            try simp only [List.getElem_cons_zero]
            try simp only [Act.put]
            try simp only [List.setIfInBounds_toArray]
            try simp only [List.set_cons_succ]
            try simp only [List.set_cons_zero]
            refine wpAnyH_take (i := 1) (v := (.slice (some ⟨g, 0, none⟩) xn xc)) rfl (by kernel_rfl) (by kernel_rfl) (by kernel_rfl) (fun _ _ _ h => h) (Or.inl ⟨by rfl, ?_⟩) (by assumption) ?_
            · intro w hSw
              (try dsimp only at hSw)
              go_simp
            try simp only [List.getElem_toArray]
            try simp only [List.getElem_cons_succ]
            try simp only [List.getElem_cons_zero]
            try simp only [Act.put]
            try simp only [List.setIfInBounds_toArray]
            try simp only [List.set_cons_succ]
            try simp only [List.set_cons_zero]
            refine wpAnyH_take (i := 2) (v := (.pointer (some ⟨wr.heap.size, 0, none⟩))) rfl (by kernel_rfl) (by kernel_rfl) (by kernel_rfl) (fun _ _ _ h => h) (Or.inl ⟨by rfl, ?_⟩) (by assumption) ?_
            · intro w hSw
              (try dsimp only at hSw)
              go_simp
            try simp only [List.getElem_toArray]
            try simp only [List.getElem_cons_succ]
            try simp only [List.getElem_cons_zero]
            try simp only [Act.put]
            try simp only [List.setIfInBounds_toArray]
            try simp only [List.set_cons_succ]
            try simp only [List.set_cons_zero]
            refine wpAnyH_take (i := 3) (v := (.int .i64 (u : Int))) rfl (by kernel_rfl) (by kernel_rfl) (by kernel_rfl) (fun _ _ _ h => h) (Or.inl ⟨by rfl, ?_⟩) (by assumption) ?_
            · intro w hSw
              (try dsimp only at hSw)
              go_simp
            try simp only [List.getElem_toArray]
            try simp only [List.getElem_cons_succ]
            try simp only [List.getElem_cons_zero]
            try simp only [Act.put]
            try simp only [List.setIfInBounds_toArray]
            try simp only [List.set_cons_succ]
            try simp only [List.set_cons_zero]
            refine wpAnyH_take (i := 4) (v := (.pointer (some ⟨bo, 0, none⟩))) rfl (by kernel_rfl) (by kernel_rfl) (by kernel_rfl) (fun _ _ _ h => h) (Or.inl ⟨by rfl, ?_⟩) (by assumption) ?_
            · intro w hSw
              (try dsimp only at hSw)
              go_simp
            try simp only [List.getElem_toArray]
            try simp only [List.getElem_cons_succ]
            try simp only [List.getElem_cons_zero]
            try simp only [Act.put]
            try simp only [List.setIfInBounds_toArray]
            try simp only [List.set_cons_succ]
            try simp only [List.set_cons_zero]
            refine wpAnyH_take (i := 5) (v := (.slice (some ⟨g, 0, none⟩) xn xc)) rfl (by kernel_rfl) (by kernel_rfl) (by kernel_rfl) (fun _ _ _ h => h) (Or.inl ⟨by rfl, ?_⟩) (by assumption) ?_
            · intro w hSw
              (try dsimp only at hSw)
              go_simp
            try simp only [List.getElem_toArray]
            try simp only [List.getElem_cons_succ]
            try simp only [List.getElem_cons_zero]
            try simp only [Act.put]
            try simp only [List.setIfInBounds_toArray]
            try simp only [List.set_cons_succ]
            try simp only [List.set_cons_zero]
            refine wpAnyH_take (i := 6) (v := (.pointer (some ⟨wr.heap.size, 0, none⟩))) rfl (by kernel_rfl) (by kernel_rfl) (by kernel_rfl) (fun _ _ _ h => h) (Or.inl ⟨by rfl, ?_⟩) (by assumption) ?_
            · intro w hSw
              (try dsimp only at hSw)
              go_simp
            try simp only [List.getElem_toArray]
            try simp only [List.getElem_cons_succ]
            try simp only [List.getElem_cons_zero]
            try simp only [Act.put]
            try simp only [List.setIfInBounds_toArray]
            try simp only [List.set_cons_succ]
            try simp only [List.set_cons_zero]
            refine wpAnyH_take (i := 7) (v := (.int .i64 (u : Int))) rfl (by kernel_rfl) (by kernel_rfl) (by kernel_rfl) (fun _ _ _ h => h) (Or.inl ⟨by rfl, ?_⟩) (by assumption) ?_
            · intro w hSw
              (try dsimp only at hSw)
              go_simp
            try simp only [List.getElem_toArray]
            try simp only [List.getElem_cons_succ]
            try simp only [List.getElem_cons_zero]
            try simp only [Act.put]
            try simp only [List.setIfInBounds_toArray]
            try simp only [List.set_cons_succ]
            try simp only [List.set_cons_zero]
            refine wpAnyH_take (i := 8) (v := (.pointer (some ⟨g, u, none⟩))) rfl (by kernel_rfl) (by kernel_rfl) (by kernel_rfl) (fun _ _ _ h => h) (Or.inl ⟨by rfl, ?_⟩) (by assumption) ?_
            · intro w hSw
              (try dsimp only at hSw)
              go_simp
            try simp only [List.getElem_toArray]
            try simp only [List.getElem_cons_succ]
            try simp only [List.getElem_cons_zero]
            try simp only [Act.put]
            try simp only [List.setIfInBounds_toArray]
            try simp only [List.set_cons_succ]
            try simp only [List.set_cons_zero]
            refine wpAnyH_take (i := 9) (v := (.pointer (some ⟨g, u, none⟩))) rfl (by kernel_rfl) (by kernel_rfl) (by kernel_rfl) (fun _ _ _ h => h) (Or.inl ⟨by rfl, ?_⟩) (by assumption) ?_
            · intro w hSw
              (try dsimp only at hSw)
              go_simp
            try simp only [List.getElem_toArray]
            try simp only [List.getElem_cons_succ]
            try simp only [List.getElem_cons_zero]
            try simp only [Act.put]
            try simp only [List.setIfInBounds_toArray]
            try simp only [List.set_cons_succ]
            try simp only [List.set_cons_zero]
            refine wpAnyH_take (i := 11) (v := (.pointer (some ⟨wr.heap.size, 1, none⟩))) rfl (by kernel_rfl) (by kernel_rfl) (by kernel_rfl) (fun _ _ _ h => h) (Or.inl ⟨by rfl, ?_⟩) (by assumption) ?_
            · intro w hSw
              (try dsimp only at hSw)
              go_simp
            try simp only [List.getElem_toArray]
            try simp only [List.getElem_cons_succ]
            try simp only [List.getElem_cons_zero]
            try simp only [Act.put]
            try simp only [List.setIfInBounds_toArray]
            try simp only [List.set_cons_succ]
            try simp only [List.set_cons_zero]
            refine wpAnyH_take (i := 12) (v := (.slice ap np cp)) rfl (by kernel_rfl) (by kernel_rfl) (by kernel_rfl) (fun _ _ _ h => h) (Or.inl ⟨by rfl, ?_⟩) (by assumption) ?_
            · intro w hSw
              (try dsimp only at hSw)
              go_simp
            try simp only [List.getElem_toArray]
            try simp only [List.getElem_cons_succ]
            try simp only [List.getElem_cons_zero]
            try simp only [Act.put]
            try simp only [List.setIfInBounds_toArray]
            try simp only [List.set_cons_succ]
            try simp only [List.set_cons_zero]
            refine wpAnyH_take (i := 13) (v := (.int .i64 q)) rfl (by kernel_rfl) (by kernel_rfl) (by kernel_rfl) (fun _ _ _ h => h) (Or.inl ⟨by rfl, ?_⟩) (by assumption) ?_
            · intro w hSw
              (try dsimp only at hSw)
              go_simp
            try simp only [List.getElem_toArray]
            try simp only [List.getElem_cons_succ]
            try simp only [List.getElem_cons_zero]
            try simp only [Act.put]
            try simp only [List.setIfInBounds_toArray]
            try simp only [List.set_cons_succ]
            try simp only [List.set_cons_zero]
            refine wpAnyH_ready (rs := [10]) (by kernel_rfl) (by simp) ?_
            refine AllReadyH.cons rfl (fun K1 hK => ?_) AllReadyH.nil
            go_simp
            try go_wp2_with fail
            refine hK.out _ _ ?_ (fun hHeld => ?_)
            · assumption
            clear hK K1
            try simp only [List.getElem_toArray]
            try simp only [List.getElem_cons_succ]
            try simp only [List.getElem_cons_zero]
            try simp only [Act.put]
            try simp only [List.setIfInBounds_toArray]
            try simp only [List.set_cons_succ]
            try simp only [List.set_cons_zero]
            refine wpAnyH_ready (rs := [14]) (by kernel_rfl) (by simp) ?_
            refine AllReadyH.cons rfl (fun K1 hK => ?_) AllReadyH.nil
            go_simp
            refine (HTE.out _ (below_drew _)).mono ?_
            rintro e w4 ⟨a4, n4, c4, rfl, hO4, hb4⟩
            have q1 := (HBX.out w4 (bt7 (below_drew _) hb4)).1
            have q2 := (HBX.out w4 (bt7 (below_drew _) hb4)).2.1
            have q3 := (HBX.out w4 (bt7 (below_drew _) hb4)).2.2.1
            have q4 := (HBX.out w4 (bt7 (below_drew _) hb4)).2.2.2
            go_wp2_with fail
            refine hK.out _ _ ?_ (fun hHeld => ?_)
            · exact HS3.out _ (bt7 (below_drew _) hb4)
            clear hK K1
            try simp only [List.getElem_toArray]
            try simp only [List.getElem_cons_succ]
            try simp only [List.getElem_cons_zero]
            try simp only [Act.put]
            try simp only [List.setIfInBounds_toArray]
            try simp only [List.set_cons_succ]
            try simp only [List.set_cons_zero]
            refine wpAnyH_take (i := 15) (v := (.pointer (some ⟨g, u, none⟩))) rfl (by kernel_rfl) (by kernel_rfl) (by kernel_rfl) (fun _ _ _ h => h) (Or.inl ⟨by rfl, ?_⟩) (by assumption) ?_
            · intro w hSw
              (try dsimp only at hSw)
              go_simp
            try simp only [List.getElem_toArray]
            try simp only [List.getElem_cons_succ]
            try simp only [List.getElem_cons_zero]
            try simp only [Act.put]
            try simp only [List.setIfInBounds_toArray]
            try simp only [List.set_cons_succ]
            try simp only [List.set_cons_zero]
            refine wpAnyH_take (i := 16) (v := (.pointer (some ⟨g, u, none⟩))) rfl (by kernel_rfl) (by kernel_rfl) (by kernel_rfl) (fun _ _ _ h => h) (Or.inl ⟨by rfl, ?_⟩) (by assumption) ?_
            · intro w hSw
              (try dsimp only at hSw)
              go_simp
            try simp only [List.getElem_toArray]
            try simp only [List.getElem_cons_succ]
            try simp only [List.getElem_cons_zero]
            try simp only [Act.put]
            try simp only [List.setIfInBounds_toArray]
            try simp only [List.set_cons_succ]
            try simp only [List.set_cons_zero]
            refine wpAnyH_ready (rs := [17]) (by kernel_rfl) (by simp) ?_
            refine AllReadyH.cons rfl (fun K1 hK => ?_) AllReadyH.nil
            go_simp
            try go_wp2_with fail
            refine hK.out _ _ ?_ (fun hHeld => ?_)
            · refine ⟨?_, ?_, ?_⟩ <;> go_simp
            clear hK K1
            try simp only [List.getElem_toArray]
            try simp only [List.getElem_cons_succ]
            try simp only [List.getElem_cons_zero]
            try simp only [Act.put]
            try simp only [List.setIfInBounds_toArray]
            try simp only [List.set_cons_succ]
            try simp only [List.set_cons_zero]
            refine wpAnyH_done (by kernel_rfl) ?_ _
            refine NoPanic.normal ?_
            all_goals go_wp2
            all_goals exact ⟨⟨k + 1, V.set u (.slice a4 n4 c4), by omega, by go_num, HFIN.out w4 a4 n4 c4 hO4 (bt7 (below_drew _) hb4)⟩, by simp [intOf]; omega⟩
          · have HCR2 : Hid (KX w (wr.alloc (.cells #[.int .i64 (u : Int), .slice ap np cp] 109)) sa xn sc (some ⟨b, off, none⟩) dn dc bo B (some ⟨g, 0, none⟩) xn xc V (crS d.sh d.dw keep (k + 1))) := by rw [HCR.out, if_neg hq]; exact KU.out
            clear HCR KK KU hb0 HFA HB2 HPR
            go_wp2
            go_roundw
            case rel => exact ⟨k + 1, V, by omega, by go_num, HCR2.out⟩
            case measure => simp [intOf]; omega
        · have hkk' : ¬ (k : Int) < (kn : Int) := by omega
          have HCR2 : Hid (KX w (wr.alloc (.cells #[.int .i64 (u : Int), .slice ap np cp] 109)) sa xn sc (some ⟨b, off, none⟩) dn dc bo B (some ⟨g, 0, none⟩) xn xc V (crS d.sh d.dw keep (k + 1))) := by
            rw [HCR.out, if_neg (by rw [show iAt keep k = 0 by simp [iAt, show keep.length ≤ k by rw [← HKL.out]; omega]]; omega)]
            exact KU.out
          clear HCR KK KU hb0 HFA HB2 HPR
          go_wp2
          go_roundw
          case rel => exact ⟨k + 1, V, by omega, by go_num, HCR2.out⟩
          case measure => simp [intOf]; omega
      · have hkd : k = d.dw.length := by rw [← HND.out]; omega
        subst hkd
        have c0 := KK.out.k2.cell (j := 0) rfl
        have c1 := KK.out.k2.cell (j := 1) rfl
        have r0 := KK.out.k1.cell (j := 0) rfl
        have r1 := KK.out.k1.cell (j := 1) rfl
        have f0 := KK.out.k1.free 0
        have f1 := KK.out.k1.free 1
        have hnb : ¬ w.heap.size + 1 = bo := by have := KK.out.lb; omega
        have hnb2 : ¬ bo = w.heap.size + 1 := fun e => hnb e.symm
        go_wp2
        try simp only [Exit.inBlock, Exit.then]
        refine bodyPost_ret (v := .agg #[.slice (some ⟨g, 0, none⟩) xn xc, .slice none 0 0]) ?_ rfl ?_
        · exact results_dsk rfl _ _ _ rfl (by go_simp) (by go_simp)
        · rw [HF.out]
          have O1 : Only (fun y => y = w.heap.size + 1) wr ((wr.setCell ⟨w.heap.size + 1, 0, none⟩ (.slice (some ⟨g, 0, none⟩) xn xc)).setCell ⟨w.heap.size + 1, 1, none⟩ (.slice none 0 0)) := (only_set (R := fun y => y = w.heap.size + 1) rfl _).trans (only_set (R := fun y => y = w.heap.size + 1) rfl _)
          have hlo := KK.out.lo
          refine ⟨_, _, _, _, _, _, V, [], rfl, ⟨(KK.out.own.to O1 (fun y e e2 => by have := (KK.out.own.lt e).1; omega)).base (by omega), wo_nil _ _, fun y _ hy => ?_⟩, (KK.out.bel.setCell (p := ⟨w.heap.size + 1, 0, none⟩) (Nat.le_succ _) _).setCell (p := ⟨w.heap.size + 1, 1, none⟩) (Nat.le_succ _) _⟩
          rcases hy with e | ⟨i, hi, _⟩
          · cases e
          · simp at hi
end Go.Proofs.Ytcpdedpgjaimkaa

