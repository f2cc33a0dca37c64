/-
  DiskWrite of the program.
-/
import Derived.Test.YtbaggkfgnjenoabDkV
import Derived.Test.YtbaggkfgnjenoabDkD
import Derived.Test.YtbaggkfgnjenoabCatW
namespace Go.Proofs.Ytbaggkfgnjenoab
open Go.RowKit
set_option linter.unusedVariables false
theorem one_writes {w : World} {S : Nat → Prop} {U : List (Int × Value)} {ds : List DW} (hl : U.length = ds.length) (h : ∀ i, i < ds.length → (xAt U i).1 = (dwAt ds i).1 ∧ By w S (xAt U i).2 (dwAt ds i).2) : ∀ u ∈ wcs U, u.oneCell' = true := by
  intro u hu
  obtain ⟨j, hj, rfl⟩ := List.mem_iff_getElem.1 hu
  have hlen := wcs_length U
  have hi : j / 2 < U.length := by omega
  obtain ⟨c0, c1⟩ := wcs_at U (j / 2) hi
  rcases Nat.mod_two_eq_zero_or_one j with e | e
  · have ej : j / 2 * 2 = j := by omega
    rw [ej, List.getElem?_eq_getElem hj] at c0
    rw [Option.some.inj c0]
    rfl
  · have ej : j / 2 * 2 + 1 = j := by omega
    rw [ej, List.getElem?_eq_getElem hj] at c1
    obtain ⟨a, c, e'⟩ := (h (j / 2) (by omega)).2.1.sliceOf
    rw [Option.some.inj c1, e']
    rfl
/-- The boxes of the program's DiskWrite: the result, what is written. -/
structure ZX (w v : World) (bo : Nat) (sa : Option Addr) (sn sc : Nat) (ya : Option Addr) (yn yc : Nat) (d : DK) : Prop where
  bel : Below w.heap.size w v
  k1 : Bk v (w.heap.size + 1) 31 [.slice none 0 0, .slice none 0 0]
  k2 : Bk v bo 31 [.slice sa sn sc, .slice ya yn yc]
  dk : Dk v (fun _ => True) sa sn sc ya yn yc d
theorem ZX.below {w v v' : World} {bo : Nat} {sa : Option Addr} {sn sc : Nat} {ya : Option Addr} {yn yc : Nat} {d : DK} (h : ZX w v bo sa sn sc ya yn yc d) (hb : Below v.heap.size v v') : ZX w v' bo sa sn sc ya yn yc d :=
  ⟨bt7 h.bel hb, h.k1.below hb, h.k2.below hb, h.dk.below hb⟩
/-- What slices.Concat finds: the row of the rows, the new write. -/
structure CV (W0 v : World) (g1 g2 : Nat) (da : Option Addr) (dn dc : Nat) (t : Int) (ap : Option Addr) (np cp : Nat) : Prop where
  bel : Below W0.heap.size W0 v
  c1 : Bk v g1 47 [.int .i64 t, .slice ap np cp]
  c2 : Bk v g2 29 [.slice da dn dc, .slice (some ⟨g1, 0, none⟩) 1 1]
set_option maxHeartbeats 16000000 in
set_option maxRecDepth 20000 in
theorem implDiskWrite_any (S S2 : Nat → Prop) (sa : Option Addr) (sn sc : Nat) (da : Option Addr) (dn dc : Nat) (d : DK) (t : Int) (ap : Option Addr) (np cp : Nat) (bs : List Int) (w : World) (h : Dk w S sa sn sc da dn dc d) (hsm : smallD d) (h1 : sn ≤ 1048576) (h2 : dn ≤ 1048576) (hp : By w S2 (.slice ap np cp) bs) (hnp : np ≤ 1048576) :
    Calls Try.prog 9 #[.agg #[.slice sa sn sc, .slice da dn dc], .int .i64 t, .slice ap np cp] w fun e w' => DkPo (dwrV d t bs) w e w' := by
  have HH := hid h
  have HSM : Hid (smallD (dwrD d t bs)) := by
    refine ⟨hsm.1, fun i hi => ?_⟩
    by_cases e : i < d.dw.length
    · rw [show dwAt (dwrD d t bs).dw i = dwAt d.dw i from wAt_left e]
      exact hsm.2 i e
    · obtain rfl : i = d.dw.length := by simp [dwrD] at hi; omega
      rw [show dwAt (dwrD d t bs).dw d.dw.length = (t, bs) from wAt_end _ _]
      have := hp.len.1
      show bs.length ≤ _
      omega
  have HP := hid hp
  have HND := hid h.hd.len.1
  obtain ⟨U, hUl, hUr, hUb⟩ := h.hd
  have HUR := hid hUr
  have HUB := hid hUb
  have HUL := hid hUl
  have HUO := hid (one_writes hUl hUb)
  have HDV : Hid (dwrV d t bs = if dkOk (dwrD d t bs) = true then some (dwrD d t bs) else none) := rfl
  have HB0 : Hid (Below w.heap.size w ((w.alloc (.cells #[.slice sa sn sc, .slice da dn dc] 31)).alloc (.cells #[.slice none 0 0, .slice none 0 0] 31))) := below_new (below_new (Below.refl _ _))
  have K0 := hid ((Bk.new w 31 [.slice sa sn sc, .slice da dn dc]).alloc (.cells #[.slice none 0 0, .slice none 0 0] 31))
  have K1 : Hid (Bk ((w.alloc (.cells #[.slice sa sn sc, .slice da dn dc] 31)).alloc (.cells #[.slice none 0 0, .slice none 0 0] 31)) (w.heap.size + 1) 31 [.slice none 0 0, .slice none 0 0]) := by
    have := Bk.new (w.alloc (.cells #[.slice sa sn sc, .slice da dn dc] 31)) 31 [.slice none 0 0, .slice none 0 0]
    show Bk _ _ _ _
    simpa using this
  clear h hsm hp hUl hUr hUb
  go_enter Try.func9, Try.ntmps9
  go_wp2_with fail
  generalize (w.alloc (.cells #[.slice sa sn sc, .slice da dn dc] 31)).alloc (.cells #[.slice none 0 0, .slice none 0 0] 31) = W0 at *
  have s0 : w.heap.size < W0.heap.size := K0.out.lt
  have d0 := K0.out.cell (j := 0) rfl
  have d1 := K0.out.cell (j := 1) rfl
  have HCON : Hid (∀ (v : World) (g1 g2 : Nat), CV W0 v g1 g2 da dn dc t ap np cp → Calls Try.prog 23 #[.slice (some ⟨g2, 0, none⟩) 2 2] v fun e w' => NewPostW 47 2 (dn + 1) (wcs U ++ [.int .i64 t, .slice ap np cp]) v e w') := fun v g1 g2 hv => by
    have hr := HUR.out.below (bt7 HB0.out hv.bel)
    rw [← HND.out] at hr
    exact concatW_any S (fun _ => True) da _ dn 1 dc 1 g2 (wcs U) [.int .i64 t, .slice ap np cp] v hr (rw_two hv.c1) hv.c2 h2 (by omega) (by rw [wcs_length, HUL.out, HND.out]) rfl HUO.out (by intro u hu; simp at hu; rcases hu with rfl | rfl <;> rfl)
  have HDC : Hid (∀ v, Below W0.heap.size W0 v → v.cell? ⟨w.heap.size, 0, none⟩ = some (.slice sa sn sc)) := fun v hv => (K0.out.below hv).cell (j := 0) rfl
  have HDK : Hid (∀ (B bo : Nat) (a5 : Option Addr) (c5 : Nat) (w5 : World), w5.ownsRow B 47 2 (.slice a5 (dn + 1) c5) (dn + 1) (wcs U ++ [.int .i64 t, .slice ap np cp]) → Below W0.heap.size W0 w5 → W0.heap.size ≤ bo → (∀ y, (Value.slice a5 (dn + 1) c5).ownBlock = some y → y ≠ bo) → Dk w5 (fun y => y ≠ bo) sa sn sc a5 (dn + 1) c5 (dwrD d t bs)) := fun B bo a5 c5 w5 hO hb2 hbo hne => by
    have hb3 : Below w.heap.size w w5 := bt7 HB0.out hb2
    have hsz := HB0.out.size
    refine ⟨(HH.out.hs.mono (R := fun y => y ≠ bo) (fun y _ hy => by omega)).below hb3, U ++ [(t, .slice ap np cp)], by simp [dwrD, HUL.out], ?_, fun i hi => ?_⟩
    · have e1 : (dwrD d t bs).dw.length = dn + 1 := by simp [dwrD, HND.out]
      rw [e1, wcs_append]
      exact rw_own hO (fun y e _ _ => hne y e)
    · by_cases e : i < d.dw.length
      · rw [show dwAt (dwrD d t bs).dw i = dwAt d.dw i from wAt_left e, xAt_left (by rw [HUL.out]; exact e)]
        exact ⟨(HUB.out i e).1, ((HUB.out i e).2.mono (R := fun y => y ≠ bo) (fun y _ hy => by omega)).below hb3⟩
      · obtain rfl : i = d.dw.length := by simp [dwrD] at hi; omega
        rw [show dwAt (dwrD d t bs).dw d.dw.length = (t, bs) from wAt_end _ _, ← HUL.out, xAt_end]
        exact ⟨rfl, (HP.out.mono (R := fun y => y ≠ bo) (fun y _ hy => by omega)).below hb3⟩
  have HF1 : Hid (∀ (B : Nat) (a5 : Option Addr) (c5 : Nat) (w5 : World), w5.ownsRow B 47 2 (.slice a5 (dn + 1) c5) (dn + 1) (wcs U ++ [.int .i64 t, .slice ap np cp]) → Below W0.heap.size W0 w5 → ZX w (w5.alloc (.cells #[.slice sa sn sc, .slice a5 (dn + 1) c5] 31)) w5.heap.size sa sn sc a5 (dn + 1) c5 (dwrD d t bs)) := fun B a5 c5 w5 hO hb => by
    have hbn := below_new (o := .cells #[.slice sa sn sc, .slice a5 (dn + 1) c5] 31) (w := w5) (Below.refl _ _)
    have hd := HDK.out B w5.heap.size a5 c5 w5 hO hb hb.size (fun y e => by have := (World.ownsRow.lt hO y e).2; omega)
    exact ⟨bt7 (bt7 HB0.out hb) hbn, (K1.out.below hb).below hbn, Bk.new w5 _ [_, _], (hd.mono (fun _ _ _ => trivial)).below hbn⟩
  have HF2 : Hid (∀ (B bo : Nat) (a5 : Option Addr) (c5 : Nat) (w5 : World), w5.ownsRow B 47 2 (.slice a5 (dn + 1) c5) (dn + 1) (wcs U ++ [.int .i64 t, .slice ap np cp]) → Below W0.heap.size W0 w5 → W0.heap.size ≤ bo → bo < B → Bk w5 bo 31 [.slice none 0 0, .slice none 0 0] → ZX w ((w5.setCell ⟨bo, 0, none⟩ (.slice sa sn sc)).setCell ⟨bo, 1, none⟩ (.slice a5 (dn + 1) c5)) bo sa sn sc a5 (dn + 1) c5 (dwrD d t bs)) := fun B bo a5 c5 w5 hO hb hbo hB hk => by
    have hd := HDK.out B bo a5 c5 w5 hO hb hbo (fun y e => by have := (World.ownsRow.lt hO y e).1; omega)
    have O1 : Only (fun y => y = bo) w5 ((w5.setCell ⟨bo, 0, none⟩ (.slice sa sn sc)).setCell ⟨bo, 1, none⟩ (.slice a5 (dn + 1) c5)) := (only_set (R := fun y => y = bo) rfl _).trans (only_set (R := fun y => y = bo) rfl _)
    have hsz := HB0.out.size
    have hk1 := K1.out.lt
    exact ⟨((bt7 HB0.out hb).setCell (p := ⟨bo, 0, none⟩) (by show w.heap.size ≤ bo; omega) _).setCell (p := ⟨bo, 1, none⟩) (by show w.heap.size ≤ bo; omega) _, (K1.out.below hb).to O1 (by omega), (hk.set 0 _).set 1 _, (hd.to O1 (fun b hb _ e => hb e)).mono (fun _ _ _ => trivial)⟩
  have HS4 : Hid (∀ z, Below W0.heap.size W0 z → w.heap.size < z.heap.size) := fun z hz => by have h1 := hz.size; omega
  have V1 : Hid (CV W0 ((W0.alloc (.cells #[.int .i64 t, .slice ap np cp] 47)).alloc (.cells #[.slice da dn dc, .slice (some ⟨W0.heap.size, 0, none⟩) 1 1] 29)).drew (W0.heap.size) (W0.heap.size + 1) da dn dc t ap np cp) := by
    refine ⟨bt7 (below_new (below_new (Below.refl _ _))) (below_drew _), ?_, ?_⟩
    · exact ((Bk.new W0 47 [.int .i64 t, .slice ap np cp]).alloc _).below (below_drew _)
    · have := (Bk.new (W0.alloc (.cells #[.int .i64 t, .slice ap np cp] 47)) 29 [.slice da dn dc, .slice (some ⟨W0.heap.size, 0, none⟩) 1 1]).below (below_drew _)
      simpa using this
  have V2 : Hid (CV W0 (((W0.alloc (.cells #[.int .i64 t, .slice ap np cp] 47)).alloc (.cells #[.slice da dn dc, .slice (some ⟨W0.heap.size, 0, none⟩) 1 1] 29)).alloc (.cells #[.slice none 0 0, .slice none 0 0] 31)).drew (W0.heap.size) (W0.heap.size + 1) da dn dc t ap np cp) := by
    refine ⟨bt7 (below_new (below_new (below_new (Below.refl _ _)))) (below_drew _), ?_, ?_⟩
    · exact (((Bk.new W0 47 [.int .i64 t, .slice ap np cp]).alloc _).alloc _).below (below_drew _)
    · have := ((Bk.new (W0.alloc (.cells #[.int .i64 t, .slice ap np cp] 47)) 29 [.slice da dn dc, .slice (some ⟨W0.heap.size, 0, none⟩) 1 1]).alloc (.cells #[.slice none 0 0, .slice none 0 0] 31)).below (below_drew _)
      simpa using this
  have Z2 : Hid (Bk (((W0.alloc (.cells #[.int .i64 t, .slice ap np cp] 47)).alloc (.cells #[.slice da dn dc, .slice (some ⟨W0.heap.size, 0, none⟩) 1 1] 29)).alloc (.cells #[.slice none 0 0, .slice none 0 0] 31)).drew (W0.heap.size + 1 + 1) 31 [.slice none 0 0, .slice none 0 0]) := by
    have := (Bk.new ((W0.alloc (.cells #[.int .i64 t, .slice ap np cp] 47)).alloc (.cells #[.slice da dn dc, .slice (some ⟨W0.heap.size, 0, none⟩) 1 1] 29)) 31 [.slice none 0 0, .slice none 0 0]).below (below_drew _)
    show Bk _ _ _ _
    simpa using this
  have V3 : Hid (CV W0 (((W0.alloc (.cells #[.int .i64 t, .slice ap np cp] 47)).alloc (.cells #[.slice none 0 0, .slice none 0 0] 31)).alloc (.cells #[.slice da dn dc, .slice (some ⟨W0.heap.size, 0, none⟩) 1 1] 29)).drew (W0.heap.size) (W0.heap.size + 1 + 1) da dn dc t ap np cp) := by
    refine ⟨bt7 (below_new (below_new (below_new (Below.refl _ _)))) (below_drew _), ?_, ?_⟩
    · exact (((Bk.new W0 47 [.int .i64 t, .slice ap np cp]).alloc _).alloc _).below (below_drew _)
    · have := (Bk.new ((W0.alloc (.cells #[.int .i64 t, .slice ap np cp] 47)).alloc (.cells #[.slice none 0 0, .slice none 0 0] 31)) 29 [.slice da dn dc, .slice (some ⟨W0.heap.size, 0, none⟩) 1 1]).below (below_drew _)
      simpa using this
  have Z3 : Hid (Bk (((W0.alloc (.cells #[.int .i64 t, .slice ap np cp] 47)).alloc (.cells #[.slice none 0 0, .slice none 0 0] 31)).alloc (.cells #[.slice da dn dc, .slice (some ⟨W0.heap.size, 0, none⟩) 1 1] 29)).drew (W0.heap.size + 1) 31 [.slice none 0 0, .slice none 0 0]) := by
    have := ((Bk.new (W0.alloc (.cells #[.int .i64 t, .slice ap np cp] 47)) 31 [.slice none 0 0, .slice none 0 0]).alloc (.cells #[.slice da dn dc, .slice (some ⟨W0.heap.size, 0, none⟩) 1 1] 29)).below (below_drew _)
    show Bk _ _ _ _
    simpa using this
  have V4 : Hid (CV W0 (((W0.alloc (.cells #[.slice none 0 0, .slice none 0 0] 31)).alloc (.cells #[.int .i64 t, .slice ap np cp] 47)).alloc (.cells #[.slice da dn dc, .slice (some ⟨W0.heap.size + 1, 0, none⟩) 1 1] 29)).drew (W0.heap.size + 1) (W0.heap.size + 1 + 1) da dn dc t ap np cp) := by
    refine ⟨bt7 (below_new (below_new (below_new (Below.refl _ _)))) (below_drew _), ?_, ?_⟩
    · have := ((Bk.new (W0.alloc (.cells #[.slice none 0 0, .slice none 0 0] 31)) 47 [.int .i64 t, .slice ap np cp]).alloc (.cells #[.slice da dn dc, .slice (some ⟨W0.heap.size + 1, 0, none⟩) 1 1] 29)).below (below_drew _)
      simpa using this
    · have := (Bk.new ((W0.alloc (.cells #[.slice none 0 0, .slice none 0 0] 31)).alloc (.cells #[.int .i64 t, .slice ap np cp] 47)) 29 [.slice da dn dc, .slice (some ⟨W0.heap.size + 1, 0, none⟩) 1 1]).below (below_drew _)
      simpa using this
  have Z4 : Hid (Bk (((W0.alloc (.cells #[.slice none 0 0, .slice none 0 0] 31)).alloc (.cells #[.int .i64 t, .slice ap np cp] 47)).alloc (.cells #[.slice da dn dc, .slice (some ⟨W0.heap.size + 1, 0, none⟩) 1 1] 29)).drew (W0.heap.size) 31 [.slice none 0 0, .slice none 0 0]) := by
    exact (((Bk.new W0 31 [.slice none 0 0, .slice none 0 0]).alloc _).alloc _).below (below_drew _)
  have HSS : Hid (∀ v, Below W0.heap.size W0 v → v.cell? ⟨w.heap.size, 0, none⟩ = some (.slice sa sn sc) ∧ v.cell? ⟨w.heap.size, 1, none⟩ = some (.slice da dn dc)) := fun v hv => ⟨(K0.out.below hv).cell (j := 0) rfl, (K0.out.below hv).cell (j := 1) rfl⟩
  clear HUR HUB HUL HUO
  go_cut [8] (fun x v => ∃ bo a5 c5, x = .pointer (some ⟨bo, 0, none⟩) ∧ Hid (ZX w v bo sa sn sc a5 (dn + 1) c5 (dwrD d t bs)))
  case first =>
    refine wp_region_noPanic ?_
    refine wp_region_held_drew (S := (fun v => v.cell? ⟨w.heap.size, 0, none⟩ = some (.slice sa sn sc) ∧ v.cell? ⟨w.heap.size, 1, none⟩ = some (.slice da dn dc))) (by kernel_rfl) (HSS.out _ (below_drew _)) (fun hHeld => ?_)
    simp only [List.size_toArray, List.length_cons, List.length_nil, Array.replicate_succ, Array.replicate_zero, Nat.reduceAdd, List.push_toArray, List.nil_append, List.cons_append]
    refine wpAnyH_take (i := 0) (v := (.pointer (some ⟨w.heap.size, 0, none⟩))) rfl (by kernel_rfl) (by kernel_rfl) (by kernel_rfl) (fun _ _ _ h => h) (Or.inl ⟨by rfl, ?_⟩) (by assumption) ?_
    · intro w hSw
      (try dsimp only at hSw)
      go_simp
    try simp only [List.getElem_toArray]
    try simp only [List.getElem_cons_succ]
    try simp only [List.getElem_cons_zero]
    try simp only [Act.put]
    try simp only [List.setIfInBounds_toArray]
    try simp only [List.set_cons_succ]
    try simp only [List.set_cons_zero]
    refine wpAnyH_take (i := 1) (v := (.slice sa sn sc)) rfl (by kernel_rfl) (by kernel_rfl) (by kernel_rfl) (fun _ _ _ h => h) (Or.inl ⟨by rfl, ?_⟩) (by assumption) ?_
    · intro w hSw
      (try dsimp only at hSw)
      go_simp
    try simp only [List.getElem_toArray]
    try simp only [List.getElem_cons_succ]
    try simp only [List.getElem_cons_zero]
    try simp only [Act.put]
    try simp only [List.setIfInBounds_toArray]
    try simp only [List.set_cons_succ]
    try simp only [List.set_cons_zero]
    refine wpAnyH_take (i := 2) (v := (.pointer (some ⟨w.heap.size, 1, none⟩))) rfl (by kernel_rfl) (by kernel_rfl) (by kernel_rfl) (fun _ _ _ h => h) (Or.inl ⟨by rfl, ?_⟩) (by assumption) ?_
    · intro w hSw
      (try dsimp only at hSw)
      go_simp
    try simp only [List.getElem_toArray]
    try simp only [List.getElem_cons_succ]
    try simp only [List.getElem_cons_zero]
    try simp only [Act.put]
    try simp only [List.setIfInBounds_toArray]
    try simp only [List.set_cons_succ]
    try simp only [List.set_cons_zero]
    refine wpAnyH_take (i := 3) (v := (.slice da dn dc)) rfl (by kernel_rfl) (by kernel_rfl) (by kernel_rfl) (fun _ _ _ h => h) (Or.inl ⟨by rfl, ?_⟩) (by assumption) ?_
    · intro w hSw
      (try dsimp only at hSw)
      go_simp
    try simp only [List.getElem_toArray]
    try simp only [List.getElem_cons_succ]
    try simp only [List.getElem_cons_zero]
    try simp only [Act.put]
    try simp only [List.setIfInBounds_toArray]
    try simp only [List.set_cons_succ]
    try simp only [List.set_cons_zero]
    refine wpAnyH_take (i := 4) (v := (.int .i64 t)) rfl (by kernel_rfl) (by kernel_rfl) (by kernel_rfl) (fun _ _ _ h => h) (Or.inl ⟨by rfl, ?_⟩) (by assumption) ?_
    · intro w hSw
      (try dsimp only at hSw)
      go_simp
    try simp only [List.getElem_toArray]
    try simp only [List.getElem_cons_succ]
    try simp only [List.getElem_cons_zero]
    try simp only [Act.put]
    try simp only [List.setIfInBounds_toArray]
    try simp only [List.set_cons_succ]
    try simp only [List.set_cons_zero]
    refine wpAnyH_take (i := 5) (v := (.slice ap np cp)) rfl (by kernel_rfl) (by kernel_rfl) (by kernel_rfl) (fun _ _ _ h => h) (Or.inl ⟨by rfl, ?_⟩) (by assumption) ?_
    · intro w hSw
      (try dsimp only at hSw)
      go_simp
    try simp only [List.getElem_toArray]
    try simp only [List.getElem_cons_succ]
    try simp only [List.getElem_cons_zero]
    try simp only [Act.put]
    try simp only [List.setIfInBounds_toArray]
    try simp only [List.set_cons_succ]
    try simp only [List.set_cons_zero]
    refine wpAnyH_take (i := 6) (v := (.agg #[.int .i64 t, .slice ap np cp])) rfl (by kernel_rfl) (by kernel_rfl) (by kernel_rfl) (fun _ _ _ h => h) (Or.inl ⟨by rfl, ?_⟩) (by assumption) ?_
    · intro w hSw
      (try dsimp only at hSw)
      go_simp
    try simp only [List.getElem_toArray]
    try simp only [List.getElem_cons_succ]
    try simp only [List.getElem_cons_zero]
    try simp only [Act.put]
    try simp only [List.setIfInBounds_toArray]
    try simp only [List.set_cons_succ]
    try simp only [List.set_cons_zero]
    refine wpAnyH_ready (rs := [7, 11]) (by kernel_rfl) (by simp) ?_
    refine AllReadyH.cons rfl (fun K1 hK => ?_) (AllReadyH.cons rfl (fun K1 hK => ?_) AllReadyH.nil)
    · go_simp
      try go_wp2_with fail
      refine hK.out _ _ ?_ (fun hHeld => ?_)
      · exact HSS.out _ (by first | exact below_drew _ | exact bt7 (below_new (Below.refl _ _)) (below_drew _) | exact bt7 (below_new (below_new (Below.refl _ _))) (below_drew _) | exact bt7 (below_new (below_new (below_new (Below.refl _ _)))) (below_drew _))
      clear hK K1
      try simp only [List.getElem_toArray]
      try simp only [List.getElem_cons_succ]
      try simp only [List.getElem_cons_zero]
      try simp only [Act.put]
      try simp only [List.setIfInBounds_toArray]
      try simp only [List.set_cons_succ]
      try simp only [List.set_cons_zero]
      refine wpAnyH_ready (rs := [8, 11]) (by kernel_rfl) (by simp) ?_
      refine AllReadyH.cons rfl (fun K1 hK => ?_) (AllReadyH.cons rfl (fun K1 hK => ?_) AllReadyH.nil)
      · go_simp
        try go_wp2_with fail
        refine hK.out _ _ ?_ (fun hHeld => ?_)
        · exact HSS.out _ (by first | exact below_drew _ | exact bt7 (below_new (Below.refl _ _)) (below_drew _) | exact bt7 (below_new (below_new (Below.refl _ _))) (below_drew _) | exact bt7 (below_new (below_new (below_new (Below.refl _ _)))) (below_drew _))
        clear hK K1
        try simp only [List.getElem_toArray]
        try simp only [List.getElem_cons_succ]
        try simp only [List.getElem_cons_zero]
        try simp only [Act.put]
        try simp only [List.setIfInBounds_toArray]
        try simp only [List.set_cons_succ]
        try simp only [List.set_cons_zero]
        refine wpAnyH_ready (rs := [9, 11]) (by kernel_rfl) (by simp) ?_
        refine AllReadyH.cons rfl (fun K1 hK => ?_) (AllReadyH.cons rfl (fun K1 hK => ?_) AllReadyH.nil)
        · go_simp
          refine (HCON.out _ _ _ V1.out).mono ?_
          rintro e w5 ⟨a5, c5, rfl, hO5, hb5⟩
          have hb6 := bt7 V1.out.bel hb5
          have q0 := HDC.out w5 hb6
          have s5 := HS4.out w5 hb6
          try go_wp2_with fail
          refine hK.out _ _ ?_ (fun hHeld => ?_)
          · exact HSS.out _ hb6
          clear hK K1
          try simp only [List.getElem_toArray]
          try simp only [List.getElem_cons_succ]
          try simp only [List.getElem_cons_zero]
          try simp only [Act.put]
          try simp only [List.setIfInBounds_toArray]
          try simp only [List.set_cons_succ]
          try simp only [List.set_cons_zero]
          refine wpAnyH_take (i := 10) (v := (.agg #[.slice sa sn sc, .slice a5 (dn + 1) c5])) rfl (by kernel_rfl) (by kernel_rfl) (by kernel_rfl) (fun _ _ _ h => h) (Or.inl ⟨by rfl, ?_⟩) (by assumption) ?_
          · intro w hSw
            (try dsimp only at hSw)
            go_simp
          try simp only [List.getElem_toArray]
          try simp only [List.getElem_cons_succ]
          try simp only [List.getElem_cons_zero]
          try simp only [Act.put]
          try simp only [List.setIfInBounds_toArray]
          try simp only [List.set_cons_succ]
          try simp only [List.set_cons_zero]
          refine wpAnyH_ready (rs := [11]) (by kernel_rfl) (by simp) ?_
          refine AllReadyH.cons rfl (fun K1 hK => ?_) AllReadyH.nil
          go_simp
          try go_wp2_with fail
          refine hK.out _ _ ?_ (fun hHeld => ?_)
          · exact HSS.out _ (bt7 hb6 (below_new (Below.refl _ _)))
          clear hK K1
          try simp only [List.getElem_toArray]
          try simp only [List.getElem_cons_succ]
          try simp only [List.getElem_cons_zero]
          try simp only [Act.put]
          try simp only [List.setIfInBounds_toArray]
          try simp only [List.set_cons_succ]
          try simp only [List.set_cons_zero]
          refine wpAnyH_ready (rs := [12]) (by kernel_rfl) (by simp) ?_
          refine AllReadyH.cons rfl (fun K1 hK => ?_) AllReadyH.nil
          go_simp
          try go_wp2_with fail
          refine hK.out _ _ ?_ (fun hHeld => ?_)
          · exact HSS.out _ (bt7 hb6 (below_new (Below.refl _ _)))
          clear hK K1
          try simp only [List.getElem_toArray]
          try simp only [List.getElem_cons_succ]
          try simp only [List.getElem_cons_zero]
          try simp only [Act.put]
          try simp only [List.setIfInBounds_toArray]
          try simp only [List.set_cons_succ]
          try simp only [List.set_cons_zero]
          refine wpAnyH_done (by kernel_rfl) ?_ _
          refine NoPanic.normal ?_
          go_wp2_with fail
          go_meet
          exact ⟨_, a5, c5, rfl, HF1.out _ a5 c5 w5 hO5 hb6⟩
        · go_simp
          try go_wp2_with fail
          refine hK.out _ _ ?_ (fun hHeld => ?_)
          · exact HSS.out _ (by first | exact below_drew _ | exact bt7 (below_new (Below.refl _ _)) (below_drew _) | exact bt7 (below_new (below_new (Below.refl _ _))) (below_drew _) | exact bt7 (below_new (below_new (below_new (Below.refl _ _)))) (below_drew _))
          clear hK K1
          try simp only [List.getElem_toArray]
          try simp only [List.getElem_cons_succ]
          try simp only [List.getElem_cons_zero]
          try simp only [Act.put]
          try simp only [List.setIfInBounds_toArray]
          try simp only [List.set_cons_succ]
          try simp only [List.set_cons_zero]
          refine wpAnyH_ready (rs := [9]) (by kernel_rfl) (by simp) ?_
          refine AllReadyH.cons rfl (fun K1 hK => ?_) AllReadyH.nil
          go_simp
          refine (HCON.out _ _ _ V2.out).mono ?_
          rintro e w5 ⟨a5, c5, rfl, hO5, hb5⟩
          have hb6 := bt7 V2.out.bel hb5
          have q0 := HDC.out w5 hb6
          have s5 := HS4.out w5 hb6
          have hz5 := Z2.out.below hb5
          have z0 := hz5.cell (j := 0) rfl
          have z1 := hz5.cell (j := 1) rfl
          have z2 := hz5.free 0
          have z3 := hz5.free 1
          have s6 := Z2.out.lt
          try go_wp2_with fail
          refine hK.out _ _ ?_ (fun hHeld => ?_)
          · exact HSS.out _ hb6
          clear hK K1
          try simp only [List.getElem_toArray]
          try simp only [List.getElem_cons_succ]
          try simp only [List.getElem_cons_zero]
          try simp only [Act.put]
          try simp only [List.setIfInBounds_toArray]
          try simp only [List.set_cons_succ]
          try simp only [List.set_cons_zero]
          refine wpAnyH_take (i := 10) (v := (.agg #[.slice sa sn sc, .slice a5 (dn + 1) c5])) rfl (by kernel_rfl) (by kernel_rfl) (by kernel_rfl) (fun _ _ _ h => h) (Or.inl ⟨by rfl, ?_⟩) (by assumption) ?_
          · intro w hSw
            (try dsimp only at hSw)
            go_simp
          try simp only [List.getElem_toArray]
          try simp only [List.getElem_cons_succ]
          try simp only [List.getElem_cons_zero]
          try simp only [Act.put]
          try simp only [List.setIfInBounds_toArray]
          try simp only [List.set_cons_succ]
          try simp only [List.set_cons_zero]
          refine wpAnyH_ready (rs := [12]) (by kernel_rfl) (by simp) ?_
          refine AllReadyH.cons rfl (fun K1 hK => ?_) AllReadyH.nil
          go_simp
          try go_wp2_with fail
          refine hK.out _ _ ?_ (fun hHeld => ?_)
          · exact HSS.out _ ((hb6.setCell (p := ⟨W0.heap.size + 1 + 1, 0, none⟩) (show W0.heap.size ≤ W0.heap.size + 1 + 1 by omega) _).setCell (p := ⟨W0.heap.size + 1 + 1, 1, none⟩) (show W0.heap.size ≤ W0.heap.size + 1 + 1 by omega) _)
          clear hK K1
          try simp only [List.getElem_toArray]
          try simp only [List.getElem_cons_succ]
          try simp only [List.getElem_cons_zero]
          try simp only [Act.put]
          try simp only [List.setIfInBounds_toArray]
          try simp only [List.set_cons_succ]
          try simp only [List.set_cons_zero]
          refine wpAnyH_done (by kernel_rfl) ?_ _
          refine NoPanic.normal ?_
          go_wp2_with fail
          go_meet
          exact ⟨_, a5, c5, rfl, HF2.out _ (W0.heap.size + 1 + 1) a5 c5 w5 hO5 hb6 (by omega) s6 hz5⟩
      · go_simp
        try go_wp2_with fail
        refine hK.out _ _ ?_ (fun hHeld => ?_)
        · exact HSS.out _ (by first | exact below_drew _ | exact bt7 (below_new (Below.refl _ _)) (below_drew _) | exact bt7 (below_new (below_new (Below.refl _ _))) (below_drew _) | exact bt7 (below_new (below_new (below_new (Below.refl _ _)))) (below_drew _))
        clear hK K1
        try simp only [List.getElem_toArray]
        try simp only [List.getElem_cons_succ]
        try simp only [List.getElem_cons_zero]
        try simp only [Act.put]
        try simp only [List.setIfInBounds_toArray]
        try simp only [List.set_cons_succ]
        try simp only [List.set_cons_zero]
        refine wpAnyH_ready (rs := [8]) (by kernel_rfl) (by simp) ?_
        refine AllReadyH.cons rfl (fun K1 hK => ?_) AllReadyH.nil
        go_simp
        try go_wp2_with fail
        refine hK.out _ _ ?_ (fun hHeld => ?_)
        · exact HSS.out _ (by first | exact below_drew _ | exact bt7 (below_new (Below.refl _ _)) (below_drew _) | exact bt7 (below_new (below_new (Below.refl _ _))) (below_drew _) | exact bt7 (below_new (below_new (below_new (Below.refl _ _)))) (below_drew _))
        clear hK K1
        try simp only [List.getElem_toArray]
        try simp only [List.getElem_cons_succ]
        try simp only [List.getElem_cons_zero]
        try simp only [Act.put]
        try simp only [List.setIfInBounds_toArray]
        try simp only [List.set_cons_succ]
        try simp only [List.set_cons_zero]
        refine wpAnyH_ready (rs := [9]) (by kernel_rfl) (by simp) ?_
        refine AllReadyH.cons rfl (fun K1 hK => ?_) AllReadyH.nil
        go_simp
        refine (HCON.out _ _ _ V3.out).mono ?_
        rintro e w5 ⟨a5, c5, rfl, hO5, hb5⟩
        have hb6 := bt7 V3.out.bel hb5
        have q0 := HDC.out w5 hb6
        have s5 := HS4.out w5 hb6
        have hz5 := Z3.out.below hb5
        have z0 := hz5.cell (j := 0) rfl
        have z1 := hz5.cell (j := 1) rfl
        have z2 := hz5.free 0
        have z3 := hz5.free 1
        have s6 := Z3.out.lt
        try go_wp2_with fail
        refine hK.out _ _ ?_ (fun hHeld => ?_)
        · exact HSS.out _ hb6
        clear hK K1
        try simp only [List.getElem_toArray]
        try simp only [List.getElem_cons_succ]
        try simp only [List.getElem_cons_zero]
        try simp only [Act.put]
        try simp only [List.setIfInBounds_toArray]
        try simp only [List.set_cons_succ]
        try simp only [List.set_cons_zero]
        refine wpAnyH_take (i := 10) (v := (.agg #[.slice sa sn sc, .slice a5 (dn + 1) c5])) rfl (by kernel_rfl) (by kernel_rfl) (by kernel_rfl) (fun _ _ _ h => h) (Or.inl ⟨by rfl, ?_⟩) (by assumption) ?_
        · intro w hSw
          (try dsimp only at hSw)
          go_simp
        try simp only [List.getElem_toArray]
        try simp only [List.getElem_cons_succ]
        try simp only [List.getElem_cons_zero]
        try simp only [Act.put]
        try simp only [List.setIfInBounds_toArray]
        try simp only [List.set_cons_succ]
        try simp only [List.set_cons_zero]
        refine wpAnyH_ready (rs := [12]) (by kernel_rfl) (by simp) ?_
        refine AllReadyH.cons rfl (fun K1 hK => ?_) AllReadyH.nil
        go_simp
        try go_wp2_with fail
        refine hK.out _ _ ?_ (fun hHeld => ?_)
        · exact HSS.out _ ((hb6.setCell (p := ⟨W0.heap.size + 1, 0, none⟩) (show W0.heap.size ≤ W0.heap.size + 1 by omega) _).setCell (p := ⟨W0.heap.size + 1, 1, none⟩) (show W0.heap.size ≤ W0.heap.size + 1 by omega) _)
        clear hK K1
        try simp only [List.getElem_toArray]
        try simp only [List.getElem_cons_succ]
        try simp only [List.getElem_cons_zero]
        try simp only [Act.put]
        try simp only [List.setIfInBounds_toArray]
        try simp only [List.set_cons_succ]
        try simp only [List.set_cons_zero]
        refine wpAnyH_done (by kernel_rfl) ?_ _
        refine NoPanic.normal ?_
        go_wp2_with fail
        go_meet
        exact ⟨_, a5, c5, rfl, HF2.out _ (W0.heap.size + 1) a5 c5 w5 hO5 hb6 (by omega) s6 hz5⟩
    · go_simp
      try go_wp2_with fail
      refine hK.out _ _ ?_ (fun hHeld => ?_)
      · exact HSS.out _ (by first | exact below_drew _ | exact bt7 (below_new (Below.refl _ _)) (below_drew _) | exact bt7 (below_new (below_new (Below.refl _ _))) (below_drew _) | exact bt7 (below_new (below_new (below_new (Below.refl _ _)))) (below_drew _))
      clear hK K1
      try simp only [List.getElem_toArray]
      try simp only [List.getElem_cons_succ]
      try simp only [List.getElem_cons_zero]
      try simp only [Act.put]
      try simp only [List.setIfInBounds_toArray]
      try simp only [List.set_cons_succ]
      try simp only [List.set_cons_zero]
      refine wpAnyH_ready (rs := [7]) (by kernel_rfl) (by simp) ?_
      refine AllReadyH.cons rfl (fun K1 hK => ?_) AllReadyH.nil
      go_simp
      try go_wp2_with fail
      refine hK.out _ _ ?_ (fun hHeld => ?_)
      · exact HSS.out _ (by first | exact below_drew _ | exact bt7 (below_new (Below.refl _ _)) (below_drew _) | exact bt7 (below_new (below_new (Below.refl _ _))) (below_drew _) | exact bt7 (below_new (below_new (below_new (Below.refl _ _)))) (below_drew _))
      clear hK K1
      try simp only [List.getElem_toArray]
      try simp only [List.getElem_cons_succ]
      try simp only [List.getElem_cons_zero]
      try simp only [Act.put]
      try simp only [List.setIfInBounds_toArray]
      try simp only [List.set_cons_succ]
      try simp only [List.set_cons_zero]
      refine wpAnyH_ready (rs := [8]) (by kernel_rfl) (by simp) ?_
      refine AllReadyH.cons rfl (fun K1 hK => ?_) AllReadyH.nil
      go_simp
      try go_wp2_with fail
      refine hK.out _ _ ?_ (fun hHeld => ?_)
      · exact HSS.out _ (by first | exact below_drew _ | exact bt7 (below_new (Below.refl _ _)) (below_drew _) | exact bt7 (below_new (below_new (Below.refl _ _))) (below_drew _) | exact bt7 (below_new (below_new (below_new (Below.refl _ _)))) (below_drew _))
      clear hK K1
      try simp only [List.getElem_toArray]
      try simp only [List.getElem_cons_succ]
      try simp only [List.getElem_cons_zero]
      try simp only [Act.put]
      try simp only [List.setIfInBounds_toArray]
      try simp only [List.set_cons_succ]
      try simp only [List.set_cons_zero]
      refine wpAnyH_ready (rs := [9]) (by kernel_rfl) (by simp) ?_
      refine AllReadyH.cons rfl (fun K1 hK => ?_) AllReadyH.nil
      go_simp
      refine (HCON.out _ _ _ V4.out).mono ?_
      rintro e w5 ⟨a5, c5, rfl, hO5, hb5⟩
      have hb6 := bt7 V4.out.bel hb5
      have q0 := HDC.out w5 hb6
      have s5 := HS4.out w5 hb6
      have hz5 := Z4.out.below hb5
      have z0 := hz5.cell (j := 0) rfl
      have z1 := hz5.cell (j := 1) rfl
      have z2 := hz5.free 0
      have z3 := hz5.free 1
      have s6 := Z4.out.lt
      try go_wp2_with fail
      refine hK.out _ _ ?_ (fun hHeld => ?_)
      · exact HSS.out _ hb6
      clear hK K1
      try simp only [List.getElem_toArray]
      try simp only [List.getElem_cons_succ]
      try simp only [List.getElem_cons_zero]
      try simp only [Act.put]
      try simp only [List.setIfInBounds_toArray]
      try simp only [List.set_cons_succ]
      try simp only [List.set_cons_zero]
      refine wpAnyH_take (i := 10) (v := (.agg #[.slice sa sn sc, .slice a5 (dn + 1) c5])) rfl (by kernel_rfl) (by kernel_rfl) (by kernel_rfl) (fun _ _ _ h => h) (Or.inl ⟨by rfl, ?_⟩) (by assumption) ?_
      · intro w hSw
        (try dsimp only at hSw)
        go_simp
      try simp only [List.getElem_toArray]
      try simp only [List.getElem_cons_succ]
      try simp only [List.getElem_cons_zero]
      try simp only [Act.put]
      try simp only [List.setIfInBounds_toArray]
      try simp only [List.set_cons_succ]
      try simp only [List.set_cons_zero]
      refine wpAnyH_ready (rs := [12]) (by kernel_rfl) (by simp) ?_
      refine AllReadyH.cons rfl (fun K1 hK => ?_) AllReadyH.nil
      go_simp
      try go_wp2_with fail
      refine hK.out _ _ ?_ (fun hHeld => ?_)
      · exact HSS.out _ ((hb6.setCell (p := ⟨W0.heap.size, 0, none⟩) (show W0.heap.size ≤ W0.heap.size by omega) _).setCell (p := ⟨W0.heap.size, 1, none⟩) (show W0.heap.size ≤ W0.heap.size by omega) _)
      clear hK K1
      try simp only [List.getElem_toArray]
      try simp only [List.getElem_cons_succ]
      try simp only [List.getElem_cons_zero]
      try simp only [Act.put]
      try simp only [List.setIfInBounds_toArray]
      try simp only [List.set_cons_succ]
      try simp only [List.set_cons_zero]
      refine wpAnyH_done (by kernel_rfl) ?_ _
      refine NoPanic.normal ?_
      go_wp2_with fail
      go_meet
      exact ⟨_, a5, c5, rfl, HF2.out _ (W0.heap.size) a5 c5 w5 hO5 hb6 (by omega) s6 hz5⟩
  case rest =>
    clear HSS HS4 HF1 HF2 HDK HDC HCON V1 V2 V3 V4 Z2 Z3 Z4 d0 d1 s0
    obtain ⟨bo, a5, c5, rfl, X5⟩ := hcut
    have c0 := X5.out.k2.cell (j := 0) rfl
    have c1 := X5.out.k2.cell (j := 1) rfl
    go_wp2_with fail
    refine (implDiskOk_any (fun _ => True) sa sn sc a5 (dn + 1) c5 (dwrD d t bs) _ X5.out.dk).mono ?_
    rintro e w6 ⟨rfl, hb⟩
    have X6 := hid (X5.out.below hb)
    clear hb X5 c0 c1
    cases hok : dkOk (dwrD d t bs) with
    | false =>
      have HF : Hid (dwrV d t bs = none) := by show _ = _; rw [HDV.out, hok]; rfl
      have r0 := X6.out.k1.cell (j := 0) rfl
      have r1 := X6.out.k1.cell (j := 1) rfl
      have f0 := X6.out.k1.free 0
      have f1 := X6.out.k1.free 1
      go_wp2
      try simp only [Exit.inBlock, Exit.then]
      refine bodyPost_ret (v := .tuple #[.agg #[.slice none 0 0, .slice none 0 0], .bool false]) (results_dsk2 rfl _ _ _ rfl rfl (by go_simp) (by go_simp)) rfl ?_
      rw [HF.out]
      exact ⟨_, _, _, _, _, _, _, _, rfl, do_nil _ _, (X6.out.bel.setCell (p := ⟨w.heap.size + 1, 0, none⟩) (Nat.le_succ _) _).setCell (p := ⟨w.heap.size + 1, 1, none⟩) (Nat.le_succ _) _⟩
    | true =>
      have HF : Hid (dwrV d t bs = some (dwrD d t bs)) := by show _ = _; rw [HDV.out, hok]; rfl
      have hd1 : dn + 1 ≤ 1048576 := by
        have h3 := ((dkOk_iff _).1 hok).2.2.1
        have e1 : (dwrD d t bs).dw.length = dn + 1 := by simp [dwrD, HND.out]
        omega
      have c0 := X6.out.k2.cell (j := 0) rfl
      have c1 := X6.out.k2.cell (j := 1) rfl
      go_wp2_with fail
      refine (copyDisk_any (fun _ => True) sa sn sc a5 (dn + 1) c5 (dwrD d t bs) _ X6.out.dk HSM.out h1 hd1).mono ?_
      rintro e w7 ⟨xa, xn, xc, ya, yn, yc, V, Uu, rfl, hO, hb⟩
      have J1 := hid (X6.out.k1.below hb)
      have HO := hid hO
      have B7 := hid (bt7 X6.out.bel hb)
      have SZ : Hid (w.heap.size + 1 < w6.heap.size) := X6.out.k1.lt
      clear hb X6 c0 c1 hO
      have r0 := J1.out.cell (j := 0) rfl
      have r1 := J1.out.cell (j := 1) rfl
      have f0 := J1.out.free 0
      have f1 := J1.out.free 1
      go_wp2
      try simp only [Exit.inBlock, Exit.then]
      refine bodyPost_ret (v := .tuple #[.agg #[.slice xa xn xc, .slice ya yn yc], .bool true]) (results_dsk2 rfl _ _ _ rfl rfl (by go_simp) (by go_simp)) rfl ?_
      rw [HF.out]
      have O1 : Only (fun y => y = w.heap.size + 1) w7 ((w7.setCell ⟨w.heap.size + 1, 0, none⟩ (.slice xa xn xc)).setCell ⟨w.heap.size + 1, 1, none⟩ (.slice ya yn yc)) := (only_set (R := fun y => y = w.heap.size + 1) rfl _).trans (only_set (R := fun y => y = w.heap.size + 1) rfl _)
      have hz := SZ.out
      exact ⟨_, _, _, _, _, _, _, _, rfl, (HO.out.to O1 (fun y e e2 => by have h1 := (HO.out.lt e).1; omega)).base (by omega), (B7.out.setCell (p := ⟨w.heap.size + 1, 0, none⟩) (Nat.le_succ _) _).setCell (p := ⟨w.heap.size + 1, 1, none⟩) (Nat.le_succ _) _⟩
end Go.Proofs.Ytbaggkfgnjenoab

