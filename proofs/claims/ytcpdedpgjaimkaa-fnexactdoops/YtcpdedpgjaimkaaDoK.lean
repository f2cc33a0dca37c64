/-
  DoOps of the program.
-/
import Derived.Test.YtcpdedpgjaimkaaDoJ
namespace Go.Proofs.Ytcpdedpgjaimkaa
open Go.RowKit
set_option linter.unusedVariables false
theorem HD.make {w v : World} {hb g cc sn : Nat} {V : List Value} {ss : List (List Int)} {da : Option Addr} {dn dc : Nat} {U : List (Int × Value)} {ds : List DW} {y0 y1 : Value} (bel : Below w.heap.size w v) (k4 : Bk v (w.heap.size + 1) 46 [.slice none 0 0, .slice none 0 0]) (kh : Bk v hb 46 [y0, y1])
    (srow : v.ownsRow (w.heap.size + 2) 119 1 (.slice (some ⟨g, 0, none⟩) sn cc) sn V) (vl : V.length = sn) (sl : ss.length = sn) (sby : ∀ i, i < sn → By v (fun y => y < w.heap.size) (uAt V i) (shAt ss i))
    (drow : v.ownsRow (w.heap.size + 2) 109 2 (.slice da dn dc) ds.length (wcs U)) (ul : U.length = ds.length) (dby : ∀ i, i < ds.length → (xAt U i).1 = (dwAt ds i).1 ∧ By v (fun y => y < w.heap.size) (xAt U i).2 (dwAt ds i).2)
    (ap : (Value.slice da dn dc).ownBlock ≠ some g) (hg : hb ≠ g) (hd : (Value.slice da dn dc).ownBlock ≠ some hb) (hl : w.heap.size + 2 ≤ hb) (ok : dkOk ⟨ss, ds⟩ = true) :
    HD w ((v.setCell ⟨hb, 0, none⟩ (.slice (some ⟨g, 0, none⟩) sn cc)).setCell ⟨hb, 1, none⟩ (.slice da dn dc)) hb g cc sn V ss da dn dc U ds := by
  have o : Only (fun y => y = hb) v ((v.setCell ⟨hb, 0, none⟩ (.slice (some ⟨g, 0, none⟩) sn cc)).setCell ⟨hb, 1, none⟩ (.slice da dn dc)) := (only_set (R := fun y => y = hb) rfl _).trans (only_set (R := fun y => y = hb) rfl _)
  have hgl := (World.ownsRow.lt srow g rfl).1
  exact ⟨(bel.setCell (p := ⟨hb, 0, none⟩) (by show w.heap.size ≤ hb; omega) _).setCell (p := ⟨hb, 1, none⟩) (by show w.heap.size ≤ hb; omega) _, k4.to o (by omega), (kh.set 0 _).set 1 _, ⟨own_kept srow o (fun y e e2 => (by cases e; exact hg e2.symm)), vl, sl, fun i hi => (sby i hi).to o (fun y hy _ e => by omega), fun h => (by have h' : g < w.heap.size := h; omega)⟩, own_kept drow o (fun y e e2 => hd (e2 ▸ e)), ul, fun i hi => ⟨(dby i hi).1, (dby i hi).2.to o (fun y hy _ e => by omega)⟩, ap, hg, hd, hl, ok⟩
theorem wcs_one {w : World} {S : Nat → Prop} {U : List (Int × Value)} {ds : List DW} (hl : U.length = ds.length) (h : ∀ i, i < ds.length → (xAt U i).1 = (dwAt ds i).1 ∧ By w S (xAt U i).2 (dwAt ds i).2) : ∀ u ∈ wcs U, u.oneCell' = true := by
  intro u hu
  obtain ⟨i, hi, rfl⟩ := List.mem_iff_getElem.1 hu
  rw [wcs_length] at hi
  have hq := wcs_at U (i / 2) (by omega)
  obtain ⟨a, c, e⟩ := (h (i / 2) (by omega)).2.1.sliceOf
  have h2 : i = i / 2 * 2 ∨ i = i / 2 * 2 + 1 := by omega
  rcases h2 with e2 | e2
  · rw [← e2] at hq
    have := List.getElem?_eq_some_iff.1 hq.1
    rw [this.2]; rfl
  · rw [← e2] at hq
    have := List.getElem?_eq_some_iff.1 hq.2
    rw [this.2, e]; rfl
theorem deedOf_sync (hb : Nat) (t : Int) (p : Option Addr) (n c : Nat) (w : World) :
    Calls Try.prog 62 #[.pointer (some ⟨hb, 0, none⟩), .agg #[.bool true, .int .i64 t, .slice p n c]] w fun e w' => e = .returned (.func (.func 121) #[] #[.pointer (some ⟨w.heap.size, 0, none⟩)]) ∧ (w.alloc (.cells #[.pointer (some ⟨hb, 0, none⟩)] 124)).alloc (.cells #[.bool true, .int .i64 t, .slice p n c] 111) = w' := by
  have := deedOf_any hb true t p n c w
  rwa [if_pos rfl] at this
theorem deedOf_write (hb : Nat) (t : Int) (p : Option Addr) (n c : Nat) (w : World) :
    Calls Try.prog 62 #[.pointer (some ⟨hb, 0, none⟩), .agg #[.bool false, .int .i64 t, .slice p n c]] w fun e w' => e = .returned (.func (.func 123) #[] #[.pointer (some ⟨w.heap.size, 0, none⟩), .pointer (some ⟨w.heap.size + 1, 0, none⟩)]) ∧ (w.alloc (.cells #[.pointer (some ⟨hb, 0, none⟩)] 124)).alloc (.cells #[.bool false, .int .i64 t, .slice p n c] 111) = w' := by
  have := deedOf_any hb false t p n c w
  rwa [if_neg (by decide)] at this
set_option maxHeartbeats 8000000 in
set_option maxRecDepth 100000 in
theorem implDoOps_any (S E : Nat → Prop) (sa : Option Addr) (sn sc : Nat) (da : Option Addr) (dn dc : Nat) (d : DK) (a : Option Addr) (n c : Nat) (l : List OW) (w : World) (h : Dk w S sa sn sc da dn dc d) (hsm : smallD d) (h1 : sn ≤ 1048576) (h2 : dn ≤ 1048576) (hl : Opr w E (.slice a n c) l) :
    Calls Try.prog 17 #[.agg #[.slice sa sn sc, .slice da dn dc], .slice a n c] w fun e w' => DkPost1 (doV d l) w e w' := by
  have HH : Hid (Dk w (fun y => y < w.heap.size) sa sn sc da dn dc d) := h.mono (fun _ _ h => h)
  have HL : Hid (Opr w (fun y => y < w.heap.size) (.slice a n c) l) := hl.mono (fun _ _ h => h)
  have HLN := hid hl.len.1
  have hlc := hl.len.2
  have hsc := h.hs.len.2
  have hdc := h.hd.len.2
  have HNS := hid h.hs.len.1
  have HND := hid h.hd.len.1
  have HB0 : Hid (Below w.heap.size w ((w.alloc (.cells #[.slice sa sn sc, .slice da dn dc] 46)).alloc (.cells #[.slice none 0 0, .slice none 0 0] 46))) := below_new (below_new (Below.refl _ _))
  have K0 := hid ((Bk.new w 46 [.slice sa sn sc, .slice da dn dc]).alloc (.cells #[.slice none 0 0, .slice none 0 0] 46))
  have K1 : Hid (Bk ((w.alloc (.cells #[.slice sa sn sc, .slice da dn dc] 46)).alloc (.cells #[.slice none 0 0, .slice none 0 0] 46)) (w.heap.size + 1) 46 [.slice none 0 0, .slice none 0 0]) := by
    have := Bk.new (w.alloc (.cells #[.slice sa sn sc, .slice da dn dc] 46)) 46 [.slice none 0 0, .slice none 0 0]
    show Bk _ _ _ _
    simpa using this
  have HOK := hid (implDiskOk_any S sa sn sc da dn dc d _ (h.below HB0.out))
  have hnot : ∀ (x : Bool) (w : World), (Op.unary .not (.bool x)).run Try.prog w = .ok (.bool (!x)) w := fun _ _ => rfl
  clear h hl hsm
  go_enter Try.func17, Try.ntmps17
  go_wp2_with fail
  refine HOK.out.mono ?_
  generalize (w.alloc (.cells #[.slice sa sn sc, .slice da dn dc] 46)).alloc (.cells #[.slice none 0 0, .slice none 0 0] 46) = W0 at *
  rintro e w1 ⟨rfl, hb⟩
  have J0 := hid (K0.out.below hb)
  have J1 := hid (K1.out.below hb)
  have B1 := hid (bt7 HB0.out hb)
  clear hb HB0 K0 K1 HOK
  cases hok : dkOk d with
  | false =>
    have HF := hid (doV_no (l := l) hok)
    have r0 := J1.out.cell (j := 0) rfl
    have r1 := J1.out.cell (j := 1) rfl
    have f0 := J1.out.free 0
    have f1 := J1.out.free 1
    go_wp2
    try simp only [Exit.inBlock, Exit.then]
    refine bodyPost_ret (v := .agg #[.slice none 0 0, .slice none 0 0]) ?_ rfl ?_
    · exact results_dsk rfl _ _ _ rfl (by go_simp) (by go_simp)
    · rw [HF.out]
      exact em_fin B1.out _ _
  | true =>
    have HF := hid (doV_yes (l := l) hok)
    have HOK := hid hok
    have hsz := dk_smallO hok
    have hsn : 2 ≤ sn ∧ sn ≤ 400 ∧ dn ≤ 500 := by rw [HNS.out, HND.out]; exact ⟨hsz.2.2.2, hsz.2.1, hsz.2.2.1⟩
    clear hok hsz
    obtain ⟨V, hVl, hVr, hVb⟩ := HH.out.hs
    obtain ⟨Uu, hUl, hUr, hUb⟩ := HH.out.hd
    rw [← HNS.out] at hVr
    rw [← HND.out] at hUr
    obtain ⟨b, off, rfl, -⟩ := Rw.at hVr (by omega)
    have HCS : Hid (∀ v, Below w.heap.size w v → Calls Try.prog 60 #[.slice (some ⟨b, off, none⟩) sn sc] v fun e w' => ∃ a c', e = .returned (.slice a sn c') ∧ w'.ownsRow v.heap.size 119 1 (.slice a sn c') sn V ∧ Below v.heap.size v w') := fun v hv =>
      cloneS_any _ b off sn sc V v (hVr.below hv) (by rw [hVl, HNS.out]) (one_slices hVl hVb) h1
    have HCW : Hid (∀ v, Below w.heap.size w v → Calls Try.prog 61 #[.slice da dn dc] v fun e w' => ∃ a' c', e = .returned (.slice a' dn c') ∧ w'.ownsRow v.heap.size 109 2 (.slice a' dn c') dn (wcs Uu) ∧ Below v.heap.size v w') := fun v hv =>
      cloneW_any _ da dn dc (wcs Uu) v (hUr.below hv) (by rw [wcs_length, hUl, HND.out]) (wcs_one hUl hUb) h2
    have HMK : Hid (∀ (v : World) (hb g cc : Nat) (da' : Option Addr) (dc' : Nat) (y0 y1 : Value), Below w.heap.size w v → Bk v (w.heap.size + 1) 46 [.slice none 0 0, .slice none 0 0] → Bk v hb 46 [y0, y1] → v.ownsRow (w.heap.size + 2) 119 1 (.slice (some ⟨g, 0, none⟩) sn cc) sn V → v.ownsRow (w.heap.size + 2) 109 2 (.slice da' dn dc') dn (wcs Uu) → (Value.slice da' dn dc').ownBlock ≠ some g → hb ≠ g → (Value.slice da' dn dc').ownBlock ≠ some hb → w.heap.size + 2 ≤ hb →
        HD w ((v.setCell ⟨hb, 0, none⟩ (.slice (some ⟨g, 0, none⟩) sn cc)).setCell ⟨hb, 1, none⟩ (.slice da' dn dc')) hb g cc sn V d.sh da' dn dc' Uu d.dw) := by
      intro v hb g cc da' dc' y0 y1 q1 q2 q3 q4 q5 q6 q7 q8 q9
      exact HD.make q1 q2 q3 q4 (by rw [hVl, HNS.out]) HNS.out.symm (fun i hi => (hVb i (by rw [← HNS.out]; exact hi)).below q1) (by rw [← HND.out]; exact q5) hUl (fun i hi => ⟨(hUb i hi).1, (hUb i hi).2.below q1⟩) q6 q7 q8 q9 HOK.out
    clear hVl hVr hVb hUl hUr hUb
    have B1d := hid (bt7 B1.out (below_drew w1))
    have J0d := hid (J0.out.below (below_drew w1))
    have J1d := hid (J1.out.below (below_drew w1))
    have SZ1 : Hid (w.heap.size + 2 ≤ w1.heap.size) := J1.out.lt
    have d0 := J0d.out.cell (j := 0) rfl
    have d1 := J0d.out.cell (j := 1) rfl
    have HS0 : Hid (w1.drew.cell? ⟨w.heap.size, 0, none⟩ = some (.slice (some ⟨b, off, none⟩) sn sc) ∧ w1.drew.cell? ⟨w.heap.size, 1, none⟩ = some (.slice da dn dc)) := ⟨d0, d1⟩
    have HSX : Hid (∀ v, Below w1.drew.heap.size w1.drew v → v.cell? ⟨w.heap.size, 0, none⟩ = some (.slice (some ⟨b, off, none⟩) sn sc) ∧ v.cell? ⟨w.heap.size, 1, none⟩ = some (.slice da dn dc)) := fun v hv => ⟨(J0d.out.below hv).cell (j := 0) rfl, (J0d.out.below hv).cell (j := 1) rfl⟩
    clear d0 d1
    go_wp2_with fail
    go_cut [5] (fun p wr => ∃ (hb g cc : Nat) (V' : List Value) (da' : Option Addr) (dn' dc' : Nat) (U' : List (Int × Value)), p = .pointer (some ⟨hb, 0, none⟩) ∧ Hid (HD w wr hb g cc sn V' d.sh da' dn' dc' U' d.dw))
    case first =>
      refine wp_region_noPanic ?_
      refine wp_region_held_drew (S := (fun v => v.cell? ⟨w.heap.size, 0, none⟩ = some (.slice (some ⟨b, off, none⟩) sn sc) ∧ v.cell? ⟨w.heap.size, 1, none⟩ = some (.slice da dn dc))) (by kernel_rfl) HS0.out (fun hHeld => ?_)
      simp only [List.size_toArray, List.length_cons, List.length_nil, Array.replicate_succ, Array.replicate_zero, Nat.reduceAdd, List.push_toArray, List.nil_append, List.cons_append]
      refine wpAnyH_take (i := 0) (v := (.pointer (some ⟨w.heap.size, 0, none⟩))) rfl (by kernel_rfl) (by kernel_rfl) (by kernel_rfl) (fun _ _ _ h => h) (Or.inl ⟨by rfl, ?_⟩) (by assumption) ?_
      · intro w hSw
        (try dsimp only at hSw)
        go_simp
      try simp only [List.getElem_toArray]
      try simp only [List.getElem_cons_succ]
      try simp only [List.getElem_cons_zero]
      try simp only [Act.put]
      try simp only [List.setIfInBounds_toArray]
      try simp only [List.set_cons_succ]
      try simp only [List.set_cons_zero]
      refine wpAnyH_take (i := 1) (v := (.slice (some ⟨b, off, none⟩) sn sc)) rfl (by kernel_rfl) (by kernel_rfl) (by kernel_rfl) (fun _ _ _ h => h) (Or.inl ⟨by rfl, ?_⟩) (by assumption) ?_
      · intro w hSw
        (try dsimp only at hSw)
        go_simp
      try simp only [List.getElem_toArray]
      try simp only [List.getElem_cons_succ]
      try simp only [List.getElem_cons_zero]
      try simp only [Act.put]
      try simp only [List.setIfInBounds_toArray]
      try simp only [List.set_cons_succ]
      try simp only [List.set_cons_zero]
      refine wpAnyH_take (i := 3) (v := (.pointer (some ⟨w.heap.size, 1, none⟩))) rfl (by kernel_rfl) (by kernel_rfl) (by kernel_rfl) (fun _ _ _ h => h) (Or.inl ⟨by rfl, ?_⟩) (by assumption) ?_
      · intro w hSw
        (try dsimp only at hSw)
        go_simp
      try simp only [List.getElem_toArray]
      try simp only [List.getElem_cons_succ]
      try simp only [List.getElem_cons_zero]
      try simp only [Act.put]
      try simp only [List.setIfInBounds_toArray]
      try simp only [List.set_cons_succ]
      try simp only [List.set_cons_zero]
      refine wpAnyH_take (i := 4) (v := (.slice da dn dc)) rfl (by kernel_rfl) (by kernel_rfl) (by kernel_rfl) (fun _ _ _ h => h) (Or.inl ⟨by rfl, ?_⟩) (by assumption) ?_
      · intro w hSw
        (try dsimp only at hSw)
        go_simp
      try simp only [List.getElem_toArray]
      try simp only [List.getElem_cons_succ]
      try simp only [List.getElem_cons_zero]
      try simp only [Act.put]
      try simp only [List.setIfInBounds_toArray]
      try simp only [List.set_cons_succ]
      try simp only [List.set_cons_zero]
      refine wpAnyH_ready (rs := [2, 7]) (by kernel_rfl) (by simp) ?_
      refine AllReadyH.cons rfl (fun K1 hK => ?_) (AllReadyH.cons rfl (fun K1 hK => ?_) AllReadyH.nil)
      · go_simp
        refine (HCS.out _ (bt7 B1d.out (Below.refl _ _))).mono ?_
        rintro e w2 ⟨ga, cc, rfl, hrow, hb2⟩
        have hcc := (own_at hrow).2.1
        have hcc' := (own_at hrow).2.2.1
        obtain ⟨g, rfl, hg1, hg2, -⟩ := (own_at hrow).2.2.2 (by omega)
        have X2 := hid (bt7 (Below.refl _ _) hb2)
        have R2 := hid hrow
        have Z2 := hid hb2
        have G2 := hid (And.intro hg1 hg2)
        have S2 := HSX.out _ X2.out
        clear hrow hb2 hg1 hg2
        go_wp2_with fail
        refine hK.out _ _ ?_ (fun hHeld => ?_)
        · exact S2
        clear hK K1
        try simp only [List.getElem_toArray]
        try simp only [List.getElem_cons_succ]
        try simp only [List.getElem_cons_zero]
        try simp only [Act.put]
        try simp only [List.setIfInBounds_toArray]
        try simp only [List.set_cons_succ]
        try simp only [List.set_cons_zero]
        refine wpAnyH_ready (rs := [5, 7]) (by kernel_rfl) (by simp) ?_
        refine AllReadyH.cons rfl (fun K1 hK => ?_) (AllReadyH.cons rfl (fun K1 hK => ?_) AllReadyH.nil)
        · go_simp
          refine (HCW.out _ (bt7 B1d.out X2.out)).mono ?_
          rintro e w3 ⟨ea, ec, rfl, hrow, hb3⟩
          have hec := (own_at hrow).2.1
          have hec' := (own_at hrow).2.2.1
          have X3 := hid (bt7 X2.out hb3)
          have R3 := hid hrow
          have Z3 := hid hb3
          have S3 := HSX.out _ X3.out
          clear hrow hb3
          go_wp2_with fail
          refine hK.out _ _ ?_ (fun hHeld => ?_)
          · exact S3
          clear hK K1
          try simp only [List.getElem_toArray]
          try simp only [List.getElem_cons_succ]
          try simp only [List.getElem_cons_zero]
          try simp only [Act.put]
          try simp only [List.setIfInBounds_toArray]
          try simp only [List.set_cons_succ]
          try simp only [List.set_cons_zero]
          refine wpAnyH_take (i := 6) (v := (.agg #[.slice (some ⟨g, 0, none⟩) sn cc, .slice ea dn ec])) rfl (by kernel_rfl) (by kernel_rfl) (by kernel_rfl) (fun _ _ _ h => h) (Or.inl ⟨by rfl, ?_⟩) (by assumption) ?_
          · intro w hSw
            (try dsimp only at hSw)
            go_simp
          try simp only [List.getElem_toArray]
          try simp only [List.getElem_cons_succ]
          try simp only [List.getElem_cons_zero]
          try simp only [Act.put]
          try simp only [List.setIfInBounds_toArray]
          try simp only [List.set_cons_succ]
          try simp only [List.set_cons_zero]
          refine wpAnyH_ready (rs := [7]) (by kernel_rfl) (by simp) ?_
          refine AllReadyH.cons rfl (fun K1 hK => ?_) AllReadyH.nil
          have N3 := hid (below_new (o := .cells #[.slice none 0 0, .slice none 0 0] 46) (w := w3) (Below.refl _ _))
          have S4 := HSX.out _ (bt7 X3.out N3.out)
          go_simp
          refine hK.out _ _ ?_ (fun hHeld => ?_)
          · exact S4
          clear hK K1
          try simp only [List.getElem_toArray]
          try simp only [List.getElem_cons_succ]
          try simp only [List.getElem_cons_zero]
          try simp only [Act.put]
          try simp only [List.setIfInBounds_toArray]
          try simp only [List.set_cons_succ]
          try simp only [List.set_cons_zero]
          refine wpAnyH_ready (rs := [8]) (by kernel_rfl) (by simp) ?_
          refine AllReadyH.cons rfl (fun K1 hK => ?_) AllReadyH.nil
          have F3 := hid (HMK.out (w3.alloc (.cells #[.slice none 0 0, .slice none 0 0] 46)) w3.heap.size g cc ea ec _ _ (bt7 (bt7 B1d.out X3.out) N3.out) ((J1d.out.below X3.out).below N3.out) (Bk.new w3 46 [.slice none 0 0, .slice none 0 0]) (ownD_base (own_kept R2.out (only_of_below (bt7 Z3.out N3.out) (fun _ => False)) (fun _ _ h => h)) SZ1.out) (ownD_base (own_kept R3.out (only_of_below N3.out (fun _ => False)) (fun _ _ h => h)) (Nat.le_trans SZ1.out X2.out.size)) (fun e => by have h1 := (World.ownsRow.lt R3.out g e).1; have h2 := G2.out.2; omega) (by have h1 := G2.out.2; have h2 := Z3.out.size; omega) (fun e => by have h1 := (World.ownsRow.lt R3.out _ e).2; omega) (Nat.le_trans SZ1.out X3.out.size))
          have F4 : Hid (HD w (w3.alloc (.cells #[.slice (some ⟨g, 0, none⟩) sn cc, .slice ea dn ec] 46)) w3.heap.size g cc sn V d.sh ea dn ec Uu d.dw) := by
            have := F3.out
            rw [World.setCell_alloc_at _ _ _ _ _ rfl, World.setCell_alloc_at _ _ _ _ _ rfl] at this
            exact this
          have S5 := HSX.out _ (bt7 X3.out (below_new (o := .cells #[.slice (some ⟨g, 0, none⟩) sn cc, .slice ea dn ec] 46) (w := w3) (Below.refl _ _)))
          go_simp
          try go_wp2_with fail
          refine hK.out _ _ ?_ (fun hHeld => ?_)
          · exact S5
          clear hK K1
          try simp only [List.getElem_toArray]
          try simp only [List.getElem_cons_succ]
          try simp only [List.getElem_cons_zero]
          try simp only [Act.put]
          try simp only [List.setIfInBounds_toArray]
          try simp only [List.set_cons_succ]
          try simp only [List.set_cons_zero]
          refine wpAnyH_done (by kernel_rfl) ?_ _
          refine NoPanic.normal ?_
          go_wp2_with fail
          go_meet
          exact ⟨_, g, cc, V, ea, dn, ec, Uu, rfl, F4.out⟩
        · have N2 := hid (below_new (o := .cells #[.slice none 0 0, .slice none 0 0] 46) (w := w2) (Below.refl _ _))
          have S4 := HSX.out _ (bt7 X2.out N2.out)
          have KN := hid (Bk.new w2 46 [.slice none 0 0, .slice none 0 0])
          go_simp
          refine hK.out _ _ ?_ (fun hHeld => ?_)
          · exact S4
          clear hK K1
          try simp only [List.getElem_toArray]
          try simp only [List.getElem_cons_succ]
          try simp only [List.getElem_cons_zero]
          try simp only [Act.put]
          try simp only [List.setIfInBounds_toArray]
          try simp only [List.set_cons_succ]
          try simp only [List.set_cons_zero]
          refine wpAnyH_ready (rs := [5]) (by kernel_rfl) (by simp) ?_
          refine AllReadyH.cons rfl (fun K1 hK => ?_) AllReadyH.nil
          go_simp
          refine (HCW.out _ (bt7 B1d.out (bt7 X2.out N2.out))).mono ?_
          rintro e w3 ⟨ea, ec, rfl, hrow, hb3⟩
          have hec := (own_at hrow).2.1
          have hec' := (own_at hrow).2.2.1
          have X3 := hid (bt7 (bt7 X2.out N2.out) hb3)
          have R3 := hid hrow
          have Z3 := hid hb3
          have S3 := HSX.out _ X3.out
          clear hrow hb3
          go_wp2_with fail
          refine hK.out _ _ ?_ (fun hHeld => ?_)
          · exact S3
          clear hK K1
          try simp only [List.getElem_toArray]
          try simp only [List.getElem_cons_succ]
          try simp only [List.getElem_cons_zero]
          try simp only [Act.put]
          try simp only [List.setIfInBounds_toArray]
          try simp only [List.set_cons_succ]
          try simp only [List.set_cons_zero]
          refine wpAnyH_take (i := 6) (v := (.agg #[.slice (some ⟨g, 0, none⟩) sn cc, .slice ea dn ec])) rfl (by kernel_rfl) (by kernel_rfl) (by kernel_rfl) (fun _ _ _ h => h) (Or.inl ⟨by rfl, ?_⟩) (by assumption) ?_
          · intro w hSw
            (try dsimp only at hSw)
            go_simp
          try simp only [List.getElem_toArray]
          try simp only [List.getElem_cons_succ]
          try simp only [List.getElem_cons_zero]
          try simp only [Act.put]
          try simp only [List.setIfInBounds_toArray]
          try simp only [List.set_cons_succ]
          try simp only [List.set_cons_zero]
          refine wpAnyH_ready (rs := [8]) (by kernel_rfl) (by simp) ?_
          refine AllReadyH.cons rfl (fun K1 hK => ?_) AllReadyH.nil
          have KB := hid (KN.out.below Z3.out)
          have F4 := hid (HMK.out w3 w2.heap.size g cc ea ec _ _ (bt7 B1d.out X3.out) (J1d.out.below X3.out) KB.out (ownD_base (own_kept R2.out (only_of_below (bt7 N2.out Z3.out) (fun _ => False)) (fun _ _ h => h)) SZ1.out) (ownD_base R3.out (Nat.le_trans SZ1.out (Nat.le_trans X2.out.size N2.out.size))) (fun e => by have h1 := (World.ownsRow.lt R3.out g e).1; have h2 := G2.out.2; have h3 := N2.out.size; omega) (by have h1 := G2.out.2; omega) (fun e => by have h1 := (World.ownsRow.lt R3.out _ e).1; have h2 := KN.out.lt; omega) (Nat.le_trans SZ1.out X2.out.size))
          have t0 := KB.out.cell (j := 0) rfl
          have t1 := KB.out.cell (j := 1) rfl
          have t2 := KB.out.free 0
          have t3 := KB.out.free 1
          have hwb : ¬ w.heap.size = w2.heap.size := by have h1 := SZ1.out; have h2 := X2.out.size; have h3 : w1.drew.heap.size = w1.heap.size := rfl; omega
          have hwb' : ¬ w2.heap.size = w.heap.size := fun e => hwb e.symm
          obtain ⟨s30, s31⟩ := S3
          go_simp
          try go_wp2_with fail
          refine hK.out _ _ ?_ (fun hHeld => ?_)
          · refine ⟨?_, ?_⟩ <;> go_simp
          clear hK K1
          try simp only [List.getElem_toArray]
          try simp only [List.getElem_cons_succ]
          try simp only [List.getElem_cons_zero]
          try simp only [Act.put]
          try simp only [List.setIfInBounds_toArray]
          try simp only [List.set_cons_succ]
          try simp only [List.set_cons_zero]
          refine wpAnyH_done (by kernel_rfl) ?_ _
          refine NoPanic.normal ?_
          go_wp2_with fail
          go_meet
          exact ⟨_, g, cc, V, ea, dn, ec, Uu, rfl, F4.out⟩
      · have N1 : Hid (Below w1.drew.heap.size w1.drew ((w1.alloc (.cells #[.slice none 0 0, .slice none 0 0] 46)).drew)) := (below_new (o := .cells #[.slice none 0 0, .slice none 0 0] 46) (w := w1.drew) (Below.refl _ _))
        have S4 := HSX.out _ N1.out
        have KN : Hid (Bk ((w1.alloc (.cells #[.slice none 0 0, .slice none 0 0] 46)).drew) w1.heap.size 46 [.slice none 0 0, .slice none 0 0]) := (Bk.new w1 46 [.slice none 0 0, .slice none 0 0]).below (below_drew _)
        go_simp
        refine hK.out _ _ ?_ (fun hHeld => ?_)
        · exact S4
        clear hK K1
        try simp only [List.getElem_toArray]
        try simp only [List.getElem_cons_succ]
        try simp only [List.getElem_cons_zero]
        try simp only [Act.put]
        try simp only [List.setIfInBounds_toArray]
        try simp only [List.set_cons_succ]
        try simp only [List.set_cons_zero]
        refine wpAnyH_ready (rs := [2]) (by kernel_rfl) (by simp) ?_
        refine AllReadyH.cons rfl (fun K1 hK => ?_) AllReadyH.nil
        go_simp
        refine (HCS.out _ (bt7 B1d.out N1.out)).mono ?_
        rintro e w2 ⟨ga, cc, rfl, hrow, hb2⟩
        have hcc := (own_at hrow).2.1
        have hcc' := (own_at hrow).2.2.1
        obtain ⟨g, rfl, hg1, hg2, -⟩ := (own_at hrow).2.2.2 (by omega)
        have X2 := hid (bt7 N1.out hb2)
        have R2 := hid hrow
        have Z2 := hid hb2
        have G2 := hid (And.intro hg1 hg2)
        have S2 := HSX.out _ X2.out
        clear hrow hb2 hg1 hg2
        go_wp2_with fail
        refine hK.out _ _ ?_ (fun hHeld => ?_)
        · exact S2
        clear hK K1
        try simp only [List.getElem_toArray]
        try simp only [List.getElem_cons_succ]
        try simp only [List.getElem_cons_zero]
        try simp only [Act.put]
        try simp only [List.setIfInBounds_toArray]
        try simp only [List.set_cons_succ]
        try simp only [List.set_cons_zero]
        refine wpAnyH_ready (rs := [5]) (by kernel_rfl) (by simp) ?_
        refine AllReadyH.cons rfl (fun K1 hK => ?_) AllReadyH.nil
        go_simp
        refine (HCW.out _ (bt7 B1d.out X2.out)).mono ?_
        rintro e w3 ⟨ea, ec, rfl, hrow, hb3⟩
        have hec := (own_at hrow).2.1
        have hec' := (own_at hrow).2.2.1
        have X3 := hid (bt7 X2.out hb3)
        have R3 := hid hrow
        have Z3 := hid hb3
        have S3 := HSX.out _ X3.out
        clear hrow hb3
        go_wp2_with fail
        refine hK.out _ _ ?_ (fun hHeld => ?_)
        · exact S3
        clear hK K1
        try simp only [List.getElem_toArray]
        try simp only [List.getElem_cons_succ]
        try simp only [List.getElem_cons_zero]
        try simp only [Act.put]
        try simp only [List.setIfInBounds_toArray]
        try simp only [List.set_cons_succ]
        try simp only [List.set_cons_zero]
        refine wpAnyH_take (i := 6) (v := (.agg #[.slice (some ⟨g, 0, none⟩) sn cc, .slice ea dn ec])) rfl (by kernel_rfl) (by kernel_rfl) (by kernel_rfl) (fun _ _ _ h => h) (Or.inl ⟨by rfl, ?_⟩) (by assumption) ?_
        · intro w hSw
          (try dsimp only at hSw)
          go_simp
        try simp only [List.getElem_toArray]
        try simp only [List.getElem_cons_succ]
        try simp only [List.getElem_cons_zero]
        try simp only [Act.put]
        try simp only [List.setIfInBounds_toArray]
        try simp only [List.set_cons_succ]
        try simp only [List.set_cons_zero]
        refine wpAnyH_ready (rs := [8]) (by kernel_rfl) (by simp) ?_
        refine AllReadyH.cons rfl (fun K1 hK => ?_) AllReadyH.nil
        have KB := hid ((KN.out.below Z2.out).below Z3.out)
        have F4 := hid (HMK.out w3 w1.heap.size g cc ea ec _ _ (bt7 B1d.out X3.out) (J1d.out.below X3.out) KB.out (ownD_base (own_kept R2.out (only_of_below Z3.out (fun _ => False)) (fun _ _ h => h)) (Nat.le_trans SZ1.out N1.out.size)) (ownD_base R3.out (Nat.le_trans SZ1.out X2.out.size)) (fun e => by have h1 := (World.ownsRow.lt R3.out g e).1; have h2 := G2.out.2; omega) (by have h1 := G2.out.1; have h2 := KN.out.lt; omega) (fun e => by have h1 := (World.ownsRow.lt R3.out _ e).1; have h2 := KN.out.lt; have h3 := Z2.out.size; omega) SZ1.out)
        have t0 := KB.out.cell (j := 0) rfl
        have t1 := KB.out.cell (j := 1) rfl
        have t2 := KB.out.free 0
        have t3 := KB.out.free 1
        have hwb : ¬ w.heap.size = w1.heap.size := by have h1 := SZ1.out; omega
        have hwb' : ¬ w1.heap.size = w.heap.size := fun e => hwb e.symm
        obtain ⟨s30, s31⟩ := S3
        go_simp
        try go_wp2_with fail
        refine hK.out _ _ ?_ (fun hHeld => ?_)
        · refine ⟨?_, ?_⟩ <;> go_simp
        clear hK K1
        try simp only [List.getElem_toArray]
        try simp only [List.getElem_cons_succ]
        try simp only [List.getElem_cons_zero]
        try simp only [Act.put]
        try simp only [List.setIfInBounds_toArray]
        try simp only [List.set_cons_succ]
        try simp only [List.set_cons_zero]
        refine wpAnyH_done (by kernel_rfl) ?_ _
        refine NoPanic.normal ?_
        go_wp2_with fail
        go_meet
        exact ⟨_, g, cc, V, ea, dn, ec, Uu, rfl, F4.out⟩
    case rest =>
      obtain ⟨hb, g, cc, V', da', dn', dc', U', rfl, H0⟩ := hcut
      clear J0 J1 J0d J1d B1 B1d HS0 HSX HCS HCW HMK SZ1
      go_wp2_with fail
      generalize wc = w4 at *
      go_loopw [22] (fun i wr => ∃ (k : Nat) (V' : List Value) (da' : Option Addr) (dn' dc' : Nat) (U' : List (Int × Value)) (d' : DK), k ≤ n ∧ i = .int .i64 k ∧ Hid (HD w wr hb g cc sn V' d'.sh da' dn' dc' U' d'.dw) ∧ Hid (opS l d = opS (l.drop k) d')) (fun i _ => n - (intOf i).toNat)
      case atStart => exact ⟨0, V', da', dn', dc', U', d, Nat.zero_le _, rfl, H0.out, rfl⟩
      case round =>
        clear H0 HOK
        obtain ⟨k, V', da', dn', dc', U', d', hk, rfl, HH', DD⟩ := hrel
        by_cases hlt : k < n
        · have hlt' : (k : Int) < (n : Int) := by omega
          have hkl : k < l.length := by rw [← HLN.out]; exact hlt
          obtain ⟨eb, eo, ha, -, -, hcell⟩ := (HL.out.below HH'.out.bel).at (by omega)
          subst ha
          obtain ⟨xp, xn, xc, m0, m1, m2, hby⟩ := hcell k hlt
          clear hcell
          have HSN := hid (fun h => opS_none l hkl (d := d') h)
          have HSS := hid (fun d'' h => opS_some l hkl (d := d') (d' := d'') h)
          have HET : Hid (op1 d' (oAt l k) = if (oAt l k).1 = true then some (dsV d') else dwrV d' (oAt l k).2.1 (oAt l k).2.2) := rfl
          have hxc := hby.len.2
          clear hkl
          generalize oAt l k = cur at *
          obtain ⟨cs, ct, cb⟩ := cur
          have hbe := below_new (o := .cells #[.bool cs, .int .i64 ct, .slice xp xn xc] 111) (w := wr) (Below.refl _ _)
          have H3 := hid (HH'.out.below hbe)
          have Y3 := hid (hby.below hbe)
          have KE := hid (Bk.new wr 111 [.bool cs, .int .i64 ct, .slice xp xn xc])
          have q0 := KE.out.cell (j := 0) rfl
          have q1 := KE.out.cell (j := 1) rfl
          have q2 := KE.out.cell (j := 2) rfl
          clear hbe hby HH'
          cases cs with
          | true =>
            have HT2 : Hid (op1 d' (true, ct, cb) = some (dsV d')) := by show _ = _; rw [HET.out]; rfl
            have D4 : Hid (opS l d = opS (l.drop (k + 1)) (dsV d')) := DD.out.trans (HSS.out _ HT2.out)
            clear HSN HSS HET
            go_wp2_with fail
            refine (deedOf_sync hb ct xp xn xc _).mono ?_
            generalize wr.alloc (.cells #[.bool true, .int .i64 ct, .slice xp xn xc] 111) = v1 at *
            rintro e v2 ⟨rfl, rfl⟩
            have B2 := hid (below_new (o := .cells #[.pointer (some ⟨hb, 0, none⟩)] 124) (w := v1) (below_new (o := .cells #[.bool true, .int .i64 ct, .slice xp xn xc] 111) (Below.refl _ _)))
            have H4 := hid (H3.out.below B2.out)
            have KP := hid ((Bk.new v1 124 [.pointer (some ⟨hb, 0, none⟩)]).alloc (.cells #[.bool true, .int .i64 ct, .slice xp xn xc] 111))
            have G4 : Hid (g < v1.heap.size ∧ hb < v1.heap.size) := ⟨(World.ownsRow.lt H3.out.sh.row g rfl).2, H3.out.kh.lt⟩
            clear H3 KE q0 q1 q2 m0 m1 m2
            go_wp2_with fail
            refine (deedSync_any w v1.heap.size hb g cc sn V' _ da' dn' dc' U' _ _ H4.out KP.out (by have := G4.out; omega) (by have := G4.out; omega)).mono ?_
            rintro e v3 ⟨rfl, V3, h5⟩
            have H5 := hid h5
            clear h5 H4 KP G4 B2
            go_wp2
            go_roundw
            case rel => exact ⟨k + 1, V3, none, 0, 0, [], dsV d', by omega, by go_num, H5.out, D4.out⟩
            case measure => simp [intOf]; omega
          | false =>
            have HT2 : Hid (op1 d' (false, ct, cb) = dwrV d' ct cb) := by show _ = _; rw [HET.out]; rfl
            have HDW : Hid (dwrV d' ct cb = if dkOk (dwrD d' ct cb) = true then some (dwrD d' ct cb) else none) := rfl
            clear HET
            go_wp2_with fail
            refine (deedOf_write hb ct xp xn xc _).mono ?_
            generalize wr.alloc (.cells #[.bool false, .int .i64 ct, .slice xp xn xc] 111) = v1 at *
            rintro e v2 ⟨rfl, rfl⟩
            have B2 := hid (below_new (o := .cells #[.pointer (some ⟨hb, 0, none⟩)] 124) (w := v1) (below_new (o := .cells #[.bool false, .int .i64 ct, .slice xp xn xc] 111) (Below.refl _ _)))
            have H4 := hid (H3.out.below B2.out)
            have Y4 := hid (Y3.out.below B2.out)
            have KP := hid ((Bk.new v1 124 [.pointer (some ⟨hb, 0, none⟩)]).alloc (.cells #[.bool false, .int .i64 ct, .slice xp xn xc] 111))
            have KO : Hid (Bk ((v1.alloc (.cells #[.pointer (some ⟨hb, 0, none⟩)] 124)).alloc (.cells #[.bool false, .int .i64 ct, .slice xp xn xc] 111)) (v1.heap.size + 1) 111 [.bool false, .int .i64 ct, .slice xp xn xc]) := by
              have := Bk.new (v1.alloc (.cells #[.pointer (some ⟨hb, 0, none⟩)] 124)) 111 [.bool false, .int .i64 ct, .slice xp xn xc]
              show Bk _ _ _ _
              simpa using this
            have G4 : Hid ((∀ y, (Value.slice da' dn' dc').ownBlock = some y → y < v1.heap.size) ∧ hb < v1.heap.size) := ⟨fun y e => (World.ownsRow.lt H3.out.drow y e).2, H3.out.kh.lt⟩
            clear H3 KE q0 q1 q2 m0 m1 m2 Y3
            go_wp2_with fail
            refine (deedWrite_any w v1.heap.size (v1.heap.size + 1) hb g cc sn V' _ da' dn' dc' U' _ false ct xp xn xc cb _ H4.out KP.out KO.out ⟨fun e => by have := G4.out.1 _ e; omega, by have := G4.out.2; omega⟩ ⟨fun e => by have := G4.out.1 _ e; omega, by have := G4.out.2; omega⟩ Y4.out).mono ?_
            rintro e v3 hpo
            rcases hpo with ⟨hg, rfl, a5, n5, c5, U5, h5⟩ | ⟨hg, rfl, hb5, hk5⟩
            · have D4 : Hid (opS l d = opS (l.drop (k + 1)) (dwrD d' ct cb)) := DD.out.trans (HSS.out _ (HT2.out.trans (by rw [HDW.out]; exact if_pos hg)))
              have H5 := hid h5
              clear h5 H4 KP KO G4 B2 Y4 hg HSN HSS
              go_wp2
              go_roundw
              case rel => exact ⟨k + 1, V', a5, n5, c5, U5, dwrD d' ct cb, by omega, by go_num, H5.out, D4.out⟩
              case measure => simp [intOf]; omega
            · have HR2 : Hid (doV d l = emD) := by
                show _ = _
                rw [HF.out, DD.out, HSN.out (HT2.out.trans (by rw [HDW.out]; exact if_neg (by rw [show dkOk (dwrD d' ct cb) = false from hg]; decide)))]
                rfl
              have B5 := hid hb5
              have r0 := hk5.cell (j := 0) rfl
              have r1 := hk5.cell (j := 1) rfl
              have f0 := hk5.free 0
              have f1 := hk5.free 1
              clear hb5 hk5 H4 KP KO G4 B2 Y4 hg HSN HSS
              go_wp2
              try simp only [Exit.inBlock, Exit.then]
              refine bodyPost_ret (v := .agg #[.slice none 0 0, .slice none 0 0]) ?_ rfl ?_
              · exact results_dsk rfl _ _ _ rfl (by go_simp) (by go_simp)
              · rw [HR2.out]
                exact em_fin B5.out _ _
        · have HR2 : Hid (doV d l = d') := by
            show _ = _
            rw [HF.out, DD.out, List.drop_eq_nil_of_le (by rw [← HLN.out]; omega)]
            rfl
          have HSM := hid (dk_smallO HH'.out.ok)
          obtain ⟨ln1, ln2, ⟨ln3, ln4, ln5⟩, ln6, ln7, ln8, ln9⟩ := HH'.out.lens
          clear HF DD ln1 ln2
          obtain ⟨⟨c0, c1⟩, -, -, -⟩ := HH'.out.cells
          go_wp2_with fail
          refine (copyDisk_any (fun _ => True) _ _ _ _ _ _ _ _ HH'.out.dk HSM.out.1 (by omega) (by omega)).mono ?_
          rintro e w5 ⟨za, zn, zc, ya, yn, yc, V5, U5, rfl, hO, hb5⟩
          have J5 := hid (HH'.out.k4.below hb5)
          have B5 := hid (bt7 HH'.out.bel hb5)
          have SZ : Hid (w.heap.size + 2 ≤ wr.heap.size) := HH'.out.k4.lt
          have HO := hid hO
          clear hO hb5 c0 c1 HH'
          have r0 := J5.out.cell (j := 0) rfl
          have r1 := J5.out.cell (j := 1) rfl
          have f0 := J5.out.free 0
          have f1 := J5.out.free 1
          go_wp2
          try simp only [Exit.inBlock, Exit.then]
          refine bodyPost_ret (v := .agg #[.slice za zn zc, .slice ya yn yc]) ?_ rfl ?_
          · exact results_dsk rfl _ _ _ rfl (by go_simp) (by go_simp)
          · rw [HR2.out]
            have O1 : Only (fun y => y = w.heap.size + 1) w5 ((w5.setCell ⟨w.heap.size + 1, 0, none⟩ (.slice za zn zc)).setCell ⟨w.heap.size + 1, 1, none⟩ (.slice ya yn yc)) := (only_set (R := fun y => y = w.heap.size + 1) rfl _).trans (only_set (R := fun y => y = w.heap.size + 1) rfl _)
            have hz := SZ.out
            exact ⟨_, _, _, _, _, _, _, _, rfl, (HO.out.to O1 (fun y e e2 => by have := (HO.out.lt e).1; omega)).base (by omega), (B5.out.setCell (p := ⟨w.heap.size + 1, 0, none⟩) (Nat.le_succ _) _).setCell (p := ⟨w.heap.size + 1, 1, none⟩) (Nat.le_succ _) _⟩
end Go.Proofs.Ytcpdedpgjaimkaa

