/-
  l07Copy of the specification.
-/
import Derived.Test.YtbaggkfgnjenoaaLkR
namespace Go.Proofs.Ytbaggkfgnjenoaa
open Go.RowKit
set_option linter.unusedVariables false
set_option maxHeartbeats 8000000 in
set_option maxRecDepth 20000 in
theorem l07Copy_any (S S' : Nat → Prop) (ha : Option Addr) (hn hc : Nat) (wa : Option Addr) (wn wc : Nat) (hl wl : List LK) (w : World) (h1 : Lr w S (.slice ha hn hc) hl) (h2 : Lr w S' (.slice wa wn wc) wl) (hh : hl.length ≤ 1048576) (hw : wl.length ≤ 1048576) :
    Calls Try.prog 56 #[.agg #[.slice ha hn hc, .slice wa wn wc]] w fun r w' => CpPost w hl wl r w' := by
  have B0 : Hid (Below w.heap.size w ((w.alloc (.cells #[.slice ha hn hc, .slice wa wn wc] 25)).alloc (.cells #[.slice none 0 0, .slice none 0 0] 25))) := below_new (below_new (Below.refl _ _))
  have Kq0 := hid ((Bk.new w 25 [.slice ha hn hc, .slice wa wn wc]).alloc (.cells #[.slice none 0 0, .slice none 0 0] 25))
  have I0 := hid (Bk.new (w.alloc (.cells #[.slice ha hn hc, .slice wa wn wc] 25)) 25 [.slice none 0 0, .slice none 0 0])
  rw [show (w.alloc (.cells #[.slice ha hn hc, .slice wa wn wc] 25)).heap.size = w.heap.size + 1 by simp] at I0
  have H1 := hid h1
  have H2 := hid h2
  clear h1 h2
  unfold CpPost
  go_enter Try.func56, Try.ntmps56
  go_wp2_with fail
  generalize (w.alloc (.cells #[.slice ha hn hc, .slice wa wn wc] 25)).alloc (.cells #[.slice none 0 0, .slice none 0 0] 25) = U at *
  refine wp_region_noPanic ?_
  refine wp_region_held_drew (S := fun v => v.cell? ⟨w.heap.size, 0, none⟩ = some (.slice ha hn hc) ∧ v.cell? ⟨w.heap.size, 1, none⟩ = some (.slice wa wn wc)) (by kernel_rfl) (⟨(Kq0.out.below (below_drew _)).cell (j := 0) rfl, (Kq0.out.below (below_drew _)).cell (j := 1) rfl⟩) (fun hHeld => ?_)
  simp only [List.size_toArray, List.length_cons, List.length_nil, Array.replicate_succ, Array.replicate_zero, Nat.reduceAdd, List.push_toArray, List.nil_append, List.cons_append]
  refine wpAnyH_take (i := 1) (v := (.pointer (some ⟨w.heap.size, 0, none⟩))) rfl (by kernel_rfl) (by kernel_rfl) (by kernel_rfl) (fun _ _ _ h => h) (Or.inl ⟨by rfl, ?_⟩) (by assumption) ?_
  · intro w hSw
    (try dsimp only at hSw)
    go_simp
  try simp only [List.getElem_toArray]
  try simp only [List.getElem_cons_succ]
  try simp only [List.getElem_cons_zero]
  try simp only [Act.put]
  try simp only [List.setIfInBounds_toArray]
  try simp only [List.set_cons_succ]
  try simp only [List.set_cons_zero]
  refine wpAnyH_take (i := 2) (v := (.slice ha hn hc)) rfl (by kernel_rfl) (by kernel_rfl) (by kernel_rfl) (fun _ _ _ h => h) (Or.inl ⟨by rfl, ?_⟩) (by assumption) ?_
  · intro w hSw
    (try dsimp only at hSw)
    go_simp
  try simp only [List.getElem_toArray]
  try simp only [List.getElem_cons_succ]
  try simp only [List.getElem_cons_zero]
  try simp only [Act.put]
  try simp only [List.setIfInBounds_toArray]
  try simp only [List.set_cons_succ]
  try simp only [List.set_cons_zero]
  refine wpAnyH_take (i := 5) (v := (.pointer (some ⟨w.heap.size, 1, none⟩))) rfl (by kernel_rfl) (by kernel_rfl) (by kernel_rfl) (fun _ _ _ h => h) (Or.inl ⟨by rfl, ?_⟩) (by assumption) ?_
  · intro w hSw
    (try dsimp only at hSw)
    go_simp
  try simp only [List.getElem_toArray]
  try simp only [List.getElem_cons_succ]
  try simp only [List.getElem_cons_zero]
  try simp only [Act.put]
  try simp only [List.setIfInBounds_toArray]
  try simp only [List.set_cons_succ]
  try simp only [List.set_cons_zero]
  refine wpAnyH_take (i := 6) (v := (.slice wa wn wc)) rfl (by kernel_rfl) (by kernel_rfl) (by kernel_rfl) (fun _ _ _ h => h) (Or.inl ⟨by rfl, ?_⟩) (by assumption) ?_
  · intro w hSw
    (try dsimp only at hSw)
    go_simp
  try simp only [List.getElem_toArray]
  try simp only [List.getElem_cons_succ]
  try simp only [List.getElem_cons_zero]
  try simp only [Act.put]
  try simp only [List.setIfInBounds_toArray]
  try simp only [List.set_cons_succ]
  try simp only [List.set_cons_zero]
  have BD := hid (B0.out.trans ((below_drew U).mono B0.out.size))
  have KqD := hid (Kq0.out.below (below_drew _))
  have ID := hid (I0.out.below (below_drew _))
  clear B0 Kq0 I0
  generalize U.drew = v0 at *
  have B0 := BD
  have Kq0 := KqD
  have I0 := ID
  clear BD KqD ID
  refine wpAnyH_ready (rs := [0, 4]) (by kernel_rfl) (by simp) ?_
  refine AllReadyH.cons rfl (fun K1 hK => ?_) (AllReadyH.cons rfl (fun K1 hK => ?_) AllReadyH.nil)
  · go_simp
    try go_wp2_with fail
    have hb := below_new (o := .cells #[] 31) (w := v0) (Below.refl _ _)
    have Kq1 := hid (Kq0.out.below hb)
    have I1 := hid (I0.out.below hb)
    have B1 := hid (B0.out.trans (hb.mono B0.out.size))
    have E1_1 := hid (Bk.new v0 31 [])
    have G1 : Hid (w.heap.size + 1 < v0.heap.size) := I0.out.lt
    clear hb Kq0 I0 B0
    refine hK.out _ _ ?_ (fun hHeld => ?_)
    · exact ⟨Kq1.out.cell (j := 0) rfl, Kq1.out.cell (j := 1) rfl⟩
    clear hK K1
    try simp only [List.getElem_toArray]
    try simp only [List.getElem_cons_succ]
    try simp only [List.getElem_cons_zero]
    try simp only [Act.put]
    try simp only [List.setIfInBounds_toArray]
    try simp only [List.set_cons_succ]
    try simp only [List.set_cons_zero]
    generalize v0.alloc (.cells #[] 31) = v1 at *
    generalize v0.heap.size = g1 at *
    refine wpAnyH_ready (rs := [3, 4]) (by kernel_rfl) (by simp) ?_
    refine AllReadyH.cons rfl (fun K1 hK => ?_) (AllReadyH.cons rfl (fun K1 hK => ?_) AllReadyH.nil)
    · refine step_append_lr rfl _ _ rfl w.heap.size _ [] rfl (lw_empty E1_1.out (by have := G1.out; omega)) S (.slice ha hn hc) hl rfl (H1.out.below B1.out) (by simp; omega) (B1.out.size) ?_
      intro a4 n4 c4 v2 hO4 hg4 ha4
      rw [List.nil_append] at hO4
      have o4 : Only (fun y => y = g1) v1 v2 := only_of_grown hg4 (fun k e => (Option.some.inj e).symm)
      have Kq2 := hid (Kq1.out.to o4 (by have := G1.out; omega))
      have I2 := hid (I1.out.to o4 (by have := G1.out; omega))
      have P1_2 := hid hO4
      have B2 := hid (B1.out.trans (o4.below B1.out.size (fun b hb e => by have := G1.out; omega)))
      have A4 : Hid (∀ y, (Value.slice a4 n4 c4).ownBlock = some y → w.heap.size + 1 < y) := fun y e => by
        rcases ha4 with h1 | h1
        · rw [h1] at e
          have e3 : g1 = y := Option.some.inj e
          have := G1.out
          omega
        · rw [h1] at e
          have e3 : v1.heap.size = y := Option.some.inj e
          have := I1.out.lt
          omega
      clear hO4 hg4 ha4 o4 Kq1 I1 B1 E1_1
      refine hK.out _ _ ?_ (fun hHeld => ?_)
      · exact ⟨Kq2.out.cell (j := 0) rfl, Kq2.out.cell (j := 1) rfl⟩
      clear hK K1
      try simp only [List.getElem_toArray]
      try simp only [List.getElem_cons_succ]
      try simp only [List.getElem_cons_zero]
      try simp only [Act.put]
      try simp only [List.setIfInBounds_toArray]
      try simp only [List.set_cons_succ]
      try simp only [List.set_cons_zero]
      refine wpAnyH_ready (rs := [4]) (by kernel_rfl) (by simp) ?_
      refine AllReadyH.cons rfl (fun K1 hK => ?_) AllReadyH.nil
      go_simp
      try go_wp2_with fail
      have hb := below_new (o := .cells #[] 31) (w := v2) (Below.refl _ _)
      have Kq3 := hid (Kq2.out.below hb)
      have I3 := hid (I2.out.below hb)
      have P1_3 := hid (P1_2.out.below hb)
      have B3 := hid (B2.out.trans (hb.mono B2.out.size))
      have E2_3 := hid (Bk.new v2 31 [])
      have G2 : Hid (w.heap.size + 1 < v2.heap.size) := I2.out.lt
      have N4 : Hid (∀ y, (Value.slice a4 n4 c4).ownBlock = some y → y < v2.heap.size) := fun y e => (P1_2.out.lt e).2
      clear hb Kq2 I2 P1_2 B2
      refine hK.out _ _ ?_ (fun hHeld => ?_)
      · exact ⟨Kq3.out.cell (j := 0) rfl, Kq3.out.cell (j := 1) rfl⟩
      clear hK K1
      try simp only [List.getElem_toArray]
      try simp only [List.getElem_cons_succ]
      try simp only [List.getElem_cons_zero]
      try simp only [Act.put]
      try simp only [List.setIfInBounds_toArray]
      try simp only [List.set_cons_succ]
      try simp only [List.set_cons_zero]
      generalize v2.alloc (.cells #[] 31) = v3 at *
      generalize v2.heap.size = g2 at *
      refine wpAnyH_ready (rs := [7]) (by kernel_rfl) (by simp) ?_
      refine AllReadyH.cons rfl (fun K1 hK => ?_) AllReadyH.nil
      refine step_append_lr rfl _ _ rfl w.heap.size _ [] rfl (lw_empty E2_3.out (by have := G2.out; omega)) S' (.slice wa wn wc) wl rfl (H2.out.below B3.out) (by simp; omega) (B3.out.size) ?_
      intro a5 n5 c5 w5 hO5 hg5 ha5
      rw [List.nil_append] at hO5
      have P5 : Hid (LO w5 w.heap.size (.slice a4 n4 c4) (.slice a5 n5 c5) hl wl) := (show LO v3 w.heap.size (.slice a4 n4 c4) (.slice (some ⟨g2, 0, none⟩) 0 0) hl [] from ⟨P1_3.out, lw_empty E2_3.out (by have := G2.out; omega), fun y h e => by have e3 : g2 = y := Option.some.inj e; have := N4.out y h; omega⟩).pushW hO5 hg5 ha5
      have o5 : Only (fun y => y = g2) v3 w5 := only_of_grown hg5 (fun k e => (Option.some.inj e).symm)
      have B5 := hid (B3.out.trans (o5.below B3.out.size (fun b hb e => by have := G2.out; omega)))
      have Kq5 := hid (Kq3.out.to o5 (by have := G2.out; omega))
      have I5 := hid (I3.out.to o5 (by have := G2.out; omega))
      have A5 : Hid (∀ y, lbl (.slice a4 n4 c4) (.slice a5 n5 c5) y → w.heap.size + 1 < y) := fun y e => by
        rcases e with e | e
        · exact A4.out y e
        · rcases ha5 with h1 | h1
          · rw [h1] at e
            have e3 : g2 = y := Option.some.inj e
            have := G2.out
            omega
          · rw [h1] at e
            have e3 : v3.heap.size = y := Option.some.inj e
            have := I3.out.lt
            omega
      clear hO5 hg5 ha5 o5
      refine hK.out _ _ ?_ (fun hHeld => ?_)
      · exact ⟨Kq5.out.cell (j := 0) rfl, Kq5.out.cell (j := 1) rfl⟩
      clear hK K1
      try simp only [List.getElem_toArray]
      try simp only [List.getElem_cons_succ]
      try simp only [List.getElem_cons_zero]
      try simp only [Act.put]
      try simp only [List.setIfInBounds_toArray]
      try simp only [List.set_cons_succ]
      try simp only [List.set_cons_zero]
      refine wpAnyH_take (i := 8) (v := (.agg #[.slice a4 n4 c4, .slice a5 n5 c5])) rfl (by kernel_rfl) (by kernel_rfl) (by kernel_rfl) (fun _ _ _ h => h) (Or.inl ⟨by rfl, ?_⟩) (by assumption) ?_
      · intro w hSw
        (try dsimp only at hSw)
        go_simp
      try simp only [List.getElem_toArray]
      try simp only [List.getElem_cons_succ]
      try simp only [List.getElem_cons_zero]
      try simp only [Act.put]
      try simp only [List.setIfInBounds_toArray]
      try simp only [List.set_cons_succ]
      try simp only [List.set_cons_zero]
      have z0 := I5.out.cell (j := 0) rfl
      have z1 := I5.out.cell (j := 1) rfl
      have e0 := I5.out.free 0
      have e1 := I5.out.free 1
      have Kq6 : Hid (Bk ((w5.setCell ⟨w.heap.size + 1, 0, none⟩ (.slice a4 n4 c4)).setCell ⟨w.heap.size + 1, 1, none⟩ (.slice a5 n5 c5)) w.heap.size 25 [.slice ha hn hc, .slice wa wn wc]) := (Kq5.out.setOther (by omega) 0 _).setOther (by omega) 1 _
      have HF : Hid (LO ((w5.setCell ⟨w.heap.size + 1, 0, none⟩ (.slice a4 n4 c4)).setCell ⟨w.heap.size + 1, 1, none⟩ (.slice a5 n5 c5)) w.heap.size (.slice a4 n4 c4) (.slice a5 n5 c5) hl wl ∧ Below w.heap.size w ((w5.setCell ⟨w.heap.size + 1, 0, none⟩ (.slice a4 n4 c4)).setCell ⟨w.heap.size + 1, 1, none⟩ (.slice a5 n5 c5))) := by
        have ow : Only (fun y => y = w.heap.size + 1) w5 ((w5.setCell ⟨w.heap.size + 1, 0, none⟩ (.slice a4 n4 c4)).setCell ⟨w.heap.size + 1, 1, none⟩ (.slice a5 n5 c5)) := (only_set (R := fun y => y = w.heap.size + 1) (p := ⟨w.heap.size + 1, 0, none⟩) rfl _).trans (only_set (R := fun y => y = w.heap.size + 1) (p := ⟨w.heap.size + 1, 1, none⟩) rfl _)
        exact ⟨P5.out.to ow (fun y hy e => by have := A5.out y hy; omega), B5.out.trans (ow.below B5.out.size (fun b hb e => by omega))⟩
      refine wpAnyH_ready (rs := [9]) (by kernel_rfl) (by simp) ?_
      refine AllReadyH.cons rfl (fun K1 hK => ?_) AllReadyH.nil
      go_simp
      try go_wp2_with fail
      refine hK.out _ _ ?_ (fun hHeld => ?_)
      · exact ⟨Kq6.out.cell (j := 0) rfl, Kq6.out.cell (j := 1) rfl⟩
      clear hK K1
      try simp only [List.getElem_toArray]
      try simp only [List.getElem_cons_succ]
      try simp only [List.getElem_cons_zero]
      try simp only [Act.put]
      try simp only [List.setIfInBounds_toArray]
      try simp only [List.set_cons_succ]
      try simp only [List.set_cons_zero]
      refine wpAnyH_done (by kernel_rfl) ?_ _
      refine NoPanic.normal ?_
      clear z0 z1 e0 e1
      have q0 : ((w5.setCell ⟨w.heap.size + 1, 0, none⟩ (.slice a4 n4 c4)).setCell ⟨w.heap.size + 1, 1, none⟩ (.slice a5 n5 c5)).cell? ⟨w.heap.size + 1, 0, none⟩ = some (.slice a4 n4 c4) := ((I5.out.set 0 _).set 1 _).cell (j := 0) rfl
      have q1 : ((w5.setCell ⟨w.heap.size + 1, 0, none⟩ (.slice a4 n4 c4)).setCell ⟨w.heap.size + 1, 1, none⟩ (.slice a5 n5 c5)).cell? ⟨w.heap.size + 1, 1, none⟩ = some (.slice a5 n5 c5) := ((I5.out.set 0 _).set 1 _).cell (j := 1) rfl
      generalize (w5.setCell ⟨w.heap.size + 1, 0, none⟩ (.slice a4 n4 c4)).setCell ⟨w.heap.size + 1, 1, none⟩ (.slice a5 n5 c5) = V at *
      go_wp2
      try simp only [Exit.inBlock, Exit.then]
      refine bodyPost_ret (v := .agg #[.slice a4 n4 c4, .slice a5 n5 c5]) ?_ rfl ?_
      · exact results_locks rfl _ _ (w.heap.size + 1) rfl q0 q1
      · exact ⟨a4, n4, c4, a5, n5, c5, rfl, HF.out.1, HF.out.2⟩
    · go_simp
      try go_wp2_with fail
      have hb := below_new (o := .cells #[] 31) (w := v1) (Below.refl _ _)
      have Kq2 := hid (Kq1.out.below hb)
      have I2 := hid (I1.out.below hb)
      have E1_2 := hid (E1_1.out.below hb)
      have B2 := hid (B1.out.trans (hb.mono B1.out.size))
      have E2_2 := hid (Bk.new v1 31 [])
      have G2 : Hid (w.heap.size + 1 < v1.heap.size) := I1.out.lt
      have N12 : Hid (g1 < v1.heap.size) := E1_1.out.lt
      clear hb Kq1 I1 E1_1 B1
      refine hK.out _ _ ?_ (fun hHeld => ?_)
      · exact ⟨Kq2.out.cell (j := 0) rfl, Kq2.out.cell (j := 1) rfl⟩
      clear hK K1
      try simp only [List.getElem_toArray]
      try simp only [List.getElem_cons_succ]
      try simp only [List.getElem_cons_zero]
      try simp only [Act.put]
      try simp only [List.setIfInBounds_toArray]
      try simp only [List.set_cons_succ]
      try simp only [List.set_cons_zero]
      generalize v1.alloc (.cells #[] 31) = v2 at *
      generalize v1.heap.size = g2 at *
      refine wpAnyH_ready (rs := [3]) (by kernel_rfl) (by simp) ?_
      refine AllReadyH.cons rfl (fun K1 hK => ?_) AllReadyH.nil
      refine step_append_lr rfl _ _ rfl w.heap.size _ [] rfl (lw_empty E1_2.out (by have := G1.out; omega)) S (.slice ha hn hc) hl rfl (H1.out.below B2.out) (by simp; omega) (B2.out.size) ?_
      intro a4 n4 c4 v3 hO4 hg4 ha4
      rw [List.nil_append] at hO4
      have o4 : Only (fun y => y = g1) v2 v3 := only_of_grown hg4 (fun k e => (Option.some.inj e).symm)
      have Kq3 := hid (Kq2.out.to o4 (by have := G1.out; omega))
      have I3 := hid (I2.out.to o4 (by have := G1.out; omega))
      have P1_3 := hid hO4
      have E2_3 := hid (E2_2.out.to o4 (by have := N12.out; omega))
      have N4 : Hid (∀ y, (Value.slice a4 n4 c4).ownBlock = some y → y ≠ g2) := fun y e => by
        rcases ha4 with h1 | h1
        · rw [h1] at e
          have e3 : g1 = y := Option.some.inj e
          have := N12.out
          omega
        · rw [h1] at e
          have e3 : v2.heap.size = y := Option.some.inj e
          have := E2_2.out.lt
          omega
      have B3 := hid (B2.out.trans (o4.below B2.out.size (fun b hb e => by have := G1.out; omega)))
      have A4 : Hid (∀ y, (Value.slice a4 n4 c4).ownBlock = some y → w.heap.size + 1 < y) := fun y e => by
        rcases ha4 with h1 | h1
        · rw [h1] at e
          have e3 : g1 = y := Option.some.inj e
          have := G1.out
          omega
        · rw [h1] at e
          have e3 : v2.heap.size = y := Option.some.inj e
          have := I2.out.lt
          omega
      clear hO4 hg4 ha4 o4 Kq2 I2 B2 E1_2 E2_2
      refine hK.out _ _ ?_ (fun hHeld => ?_)
      · exact ⟨Kq3.out.cell (j := 0) rfl, Kq3.out.cell (j := 1) rfl⟩
      clear hK K1
      try simp only [List.getElem_toArray]
      try simp only [List.getElem_cons_succ]
      try simp only [List.getElem_cons_zero]
      try simp only [Act.put]
      try simp only [List.setIfInBounds_toArray]
      try simp only [List.set_cons_succ]
      try simp only [List.set_cons_zero]
      refine wpAnyH_ready (rs := [7]) (by kernel_rfl) (by simp) ?_
      refine AllReadyH.cons rfl (fun K1 hK => ?_) AllReadyH.nil
      refine step_append_lr rfl _ _ rfl w.heap.size _ [] rfl (lw_empty E2_3.out (by have := G2.out; omega)) S' (.slice wa wn wc) wl rfl (H2.out.below B3.out) (by simp; omega) (B3.out.size) ?_
      intro a5 n5 c5 w5 hO5 hg5 ha5
      rw [List.nil_append] at hO5
      have P5 : Hid (LO w5 w.heap.size (.slice a4 n4 c4) (.slice a5 n5 c5) hl wl) := (show LO v3 w.heap.size (.slice a4 n4 c4) (.slice (some ⟨g2, 0, none⟩) 0 0) hl [] from ⟨P1_3.out, lw_empty E2_3.out (by have := G2.out; omega), fun y h e => by have e3 : g2 = y := Option.some.inj e; have := N4.out y h; omega⟩).pushW hO5 hg5 ha5
      have o5 : Only (fun y => y = g2) v3 w5 := only_of_grown hg5 (fun k e => (Option.some.inj e).symm)
      have B5 := hid (B3.out.trans (o5.below B3.out.size (fun b hb e => by have := G2.out; omega)))
      have Kq5 := hid (Kq3.out.to o5 (by have := G2.out; omega))
      have I5 := hid (I3.out.to o5 (by have := G2.out; omega))
      have A5 : Hid (∀ y, lbl (.slice a4 n4 c4) (.slice a5 n5 c5) y → w.heap.size + 1 < y) := fun y e => by
        rcases e with e | e
        · exact A4.out y e
        · rcases ha5 with h1 | h1
          · rw [h1] at e
            have e3 : g2 = y := Option.some.inj e
            have := G2.out
            omega
          · rw [h1] at e
            have e3 : v3.heap.size = y := Option.some.inj e
            have := I3.out.lt
            omega
      clear hO5 hg5 ha5 o5
      refine hK.out _ _ ?_ (fun hHeld => ?_)
      · exact ⟨Kq5.out.cell (j := 0) rfl, Kq5.out.cell (j := 1) rfl⟩
      clear hK K1
      try simp only [List.getElem_toArray]
      try simp only [List.getElem_cons_succ]
      try simp only [List.getElem_cons_zero]
      try simp only [Act.put]
      try simp only [List.setIfInBounds_toArray]
      try simp only [List.set_cons_succ]
      try simp only [List.set_cons_zero]
      refine wpAnyH_take (i := 8) (v := (.agg #[.slice a4 n4 c4, .slice a5 n5 c5])) rfl (by kernel_rfl) (by kernel_rfl) (by kernel_rfl) (fun _ _ _ h => h) (Or.inl ⟨by rfl, ?_⟩) (by assumption) ?_
      · intro w hSw
        (try dsimp only at hSw)
        go_simp
      try simp only [List.getElem_toArray]
      try simp only [List.getElem_cons_succ]
      try simp only [List.getElem_cons_zero]
      try simp only [Act.put]
      try simp only [List.setIfInBounds_toArray]
      try simp only [List.set_cons_succ]
      try simp only [List.set_cons_zero]
      have z0 := I5.out.cell (j := 0) rfl
      have z1 := I5.out.cell (j := 1) rfl
      have e0 := I5.out.free 0
      have e1 := I5.out.free 1
      have Kq6 : Hid (Bk ((w5.setCell ⟨w.heap.size + 1, 0, none⟩ (.slice a4 n4 c4)).setCell ⟨w.heap.size + 1, 1, none⟩ (.slice a5 n5 c5)) w.heap.size 25 [.slice ha hn hc, .slice wa wn wc]) := (Kq5.out.setOther (by omega) 0 _).setOther (by omega) 1 _
      have HF : Hid (LO ((w5.setCell ⟨w.heap.size + 1, 0, none⟩ (.slice a4 n4 c4)).setCell ⟨w.heap.size + 1, 1, none⟩ (.slice a5 n5 c5)) w.heap.size (.slice a4 n4 c4) (.slice a5 n5 c5) hl wl ∧ Below w.heap.size w ((w5.setCell ⟨w.heap.size + 1, 0, none⟩ (.slice a4 n4 c4)).setCell ⟨w.heap.size + 1, 1, none⟩ (.slice a5 n5 c5))) := by
        have ow : Only (fun y => y = w.heap.size + 1) w5 ((w5.setCell ⟨w.heap.size + 1, 0, none⟩ (.slice a4 n4 c4)).setCell ⟨w.heap.size + 1, 1, none⟩ (.slice a5 n5 c5)) := (only_set (R := fun y => y = w.heap.size + 1) (p := ⟨w.heap.size + 1, 0, none⟩) rfl _).trans (only_set (R := fun y => y = w.heap.size + 1) (p := ⟨w.heap.size + 1, 1, none⟩) rfl _)
        exact ⟨P5.out.to ow (fun y hy e => by have := A5.out y hy; omega), B5.out.trans (ow.below B5.out.size (fun b hb e => by omega))⟩
      refine wpAnyH_ready (rs := [9]) (by kernel_rfl) (by simp) ?_
      refine AllReadyH.cons rfl (fun K1 hK => ?_) AllReadyH.nil
      go_simp
      try go_wp2_with fail
      refine hK.out _ _ ?_ (fun hHeld => ?_)
      · exact ⟨Kq6.out.cell (j := 0) rfl, Kq6.out.cell (j := 1) rfl⟩
      clear hK K1
      try simp only [List.getElem_toArray]
      try simp only [List.getElem_cons_succ]
      try simp only [List.getElem_cons_zero]
      try simp only [Act.put]
      try simp only [List.setIfInBounds_toArray]
      try simp only [List.set_cons_succ]
      try simp only [List.set_cons_zero]
      refine wpAnyH_done (by kernel_rfl) ?_ _
      refine NoPanic.normal ?_
      clear z0 z1 e0 e1
      have q0 : ((w5.setCell ⟨w.heap.size + 1, 0, none⟩ (.slice a4 n4 c4)).setCell ⟨w.heap.size + 1, 1, none⟩ (.slice a5 n5 c5)).cell? ⟨w.heap.size + 1, 0, none⟩ = some (.slice a4 n4 c4) := ((I5.out.set 0 _).set 1 _).cell (j := 0) rfl
      have q1 : ((w5.setCell ⟨w.heap.size + 1, 0, none⟩ (.slice a4 n4 c4)).setCell ⟨w.heap.size + 1, 1, none⟩ (.slice a5 n5 c5)).cell? ⟨w.heap.size + 1, 1, none⟩ = some (.slice a5 n5 c5) := ((I5.out.set 0 _).set 1 _).cell (j := 1) rfl
      generalize (w5.setCell ⟨w.heap.size + 1, 0, none⟩ (.slice a4 n4 c4)).setCell ⟨w.heap.size + 1, 1, none⟩ (.slice a5 n5 c5) = V at *
      go_wp2
      try simp only [Exit.inBlock, Exit.then]
      refine bodyPost_ret (v := .agg #[.slice a4 n4 c4, .slice a5 n5 c5]) ?_ rfl ?_
      · exact results_locks rfl _ _ (w.heap.size + 1) rfl q0 q1
      · exact ⟨a4, n4, c4, a5, n5, c5, rfl, HF.out.1, HF.out.2⟩
  · go_simp
    try go_wp2_with fail
    have hb := below_new (o := .cells #[] 31) (w := v0) (Below.refl _ _)
    have Kq1 := hid (Kq0.out.below hb)
    have I1 := hid (I0.out.below hb)
    have B1 := hid (B0.out.trans (hb.mono B0.out.size))
    have E2_1 := hid (Bk.new v0 31 [])
    have G2 : Hid (w.heap.size + 1 < v0.heap.size) := I0.out.lt
    clear hb Kq0 I0 B0
    refine hK.out _ _ ?_ (fun hHeld => ?_)
    · exact ⟨Kq1.out.cell (j := 0) rfl, Kq1.out.cell (j := 1) rfl⟩
    clear hK K1
    try simp only [List.getElem_toArray]
    try simp only [List.getElem_cons_succ]
    try simp only [List.getElem_cons_zero]
    try simp only [Act.put]
    try simp only [List.setIfInBounds_toArray]
    try simp only [List.set_cons_succ]
    try simp only [List.set_cons_zero]
    generalize v0.alloc (.cells #[] 31) = v1 at *
    generalize v0.heap.size = g2 at *
    refine wpAnyH_ready (rs := [0]) (by kernel_rfl) (by simp) ?_
    refine AllReadyH.cons rfl (fun K1 hK => ?_) AllReadyH.nil
    go_simp
    try go_wp2_with fail
    have hb := below_new (o := .cells #[] 31) (w := v1) (Below.refl _ _)
    have Kq2 := hid (Kq1.out.below hb)
    have I2 := hid (I1.out.below hb)
    have E2_2 := hid (E2_1.out.below hb)
    have B2 := hid (B1.out.trans (hb.mono B1.out.size))
    have E1_2 := hid (Bk.new v1 31 [])
    have G1 : Hid (w.heap.size + 1 < v1.heap.size) := I1.out.lt
    have N12 : Hid (g2 < v1.heap.size) := E2_1.out.lt
    clear hb Kq1 I1 E2_1 B1
    refine hK.out _ _ ?_ (fun hHeld => ?_)
    · exact ⟨Kq2.out.cell (j := 0) rfl, Kq2.out.cell (j := 1) rfl⟩
    clear hK K1
    try simp only [List.getElem_toArray]
    try simp only [List.getElem_cons_succ]
    try simp only [List.getElem_cons_zero]
    try simp only [Act.put]
    try simp only [List.setIfInBounds_toArray]
    try simp only [List.set_cons_succ]
    try simp only [List.set_cons_zero]
    generalize v1.alloc (.cells #[] 31) = v2 at *
    generalize v1.heap.size = g1 at *
    refine wpAnyH_ready (rs := [3]) (by kernel_rfl) (by simp) ?_
    refine AllReadyH.cons rfl (fun K1 hK => ?_) AllReadyH.nil
    refine step_append_lr rfl _ _ rfl w.heap.size _ [] rfl (lw_empty E1_2.out (by have := G1.out; omega)) S (.slice ha hn hc) hl rfl (H1.out.below B2.out) (by simp; omega) (B2.out.size) ?_
    intro a4 n4 c4 v3 hO4 hg4 ha4
    rw [List.nil_append] at hO4
    have o4 : Only (fun y => y = g1) v2 v3 := only_of_grown hg4 (fun k e => (Option.some.inj e).symm)
    have Kq3 := hid (Kq2.out.to o4 (by have := G1.out; omega))
    have I3 := hid (I2.out.to o4 (by have := G1.out; omega))
    have P1_3 := hid hO4
    have E2_3 := hid (E2_2.out.to o4 (by have := N12.out; omega))
    have N4 : Hid (∀ y, (Value.slice a4 n4 c4).ownBlock = some y → y ≠ g2) := fun y e => by
      rcases ha4 with h1 | h1
      · rw [h1] at e
        have e3 : g1 = y := Option.some.inj e
        have := N12.out
        omega
      · rw [h1] at e
        have e3 : v2.heap.size = y := Option.some.inj e
        have := E2_2.out.lt
        omega
    have B3 := hid (B2.out.trans (o4.below B2.out.size (fun b hb e => by have := G1.out; omega)))
    have A4 : Hid (∀ y, (Value.slice a4 n4 c4).ownBlock = some y → w.heap.size + 1 < y) := fun y e => by
      rcases ha4 with h1 | h1
      · rw [h1] at e
        have e3 : g1 = y := Option.some.inj e
        have := G1.out
        omega
      · rw [h1] at e
        have e3 : v2.heap.size = y := Option.some.inj e
        have := I2.out.lt
        omega
    clear hO4 hg4 ha4 o4 Kq2 I2 B2 E1_2 E2_2
    refine hK.out _ _ ?_ (fun hHeld => ?_)
    · exact ⟨Kq3.out.cell (j := 0) rfl, Kq3.out.cell (j := 1) rfl⟩
    clear hK K1
    try simp only [List.getElem_toArray]
    try simp only [List.getElem_cons_succ]
    try simp only [List.getElem_cons_zero]
    try simp only [Act.put]
    try simp only [List.setIfInBounds_toArray]
    try simp only [List.set_cons_succ]
    try simp only [List.set_cons_zero]
    refine wpAnyH_ready (rs := [7]) (by kernel_rfl) (by simp) ?_
    refine AllReadyH.cons rfl (fun K1 hK => ?_) AllReadyH.nil
    refine step_append_lr rfl _ _ rfl w.heap.size _ [] rfl (lw_empty E2_3.out (by have := G2.out; omega)) S' (.slice wa wn wc) wl rfl (H2.out.below B3.out) (by simp; omega) (B3.out.size) ?_
    intro a5 n5 c5 w5 hO5 hg5 ha5
    rw [List.nil_append] at hO5
    have P5 : Hid (LO w5 w.heap.size (.slice a4 n4 c4) (.slice a5 n5 c5) hl wl) := (show LO v3 w.heap.size (.slice a4 n4 c4) (.slice (some ⟨g2, 0, none⟩) 0 0) hl [] from ⟨P1_3.out, lw_empty E2_3.out (by have := G2.out; omega), fun y h e => by have e3 : g2 = y := Option.some.inj e; have := N4.out y h; omega⟩).pushW hO5 hg5 ha5
    have o5 : Only (fun y => y = g2) v3 w5 := only_of_grown hg5 (fun k e => (Option.some.inj e).symm)
    have B5 := hid (B3.out.trans (o5.below B3.out.size (fun b hb e => by have := G2.out; omega)))
    have Kq5 := hid (Kq3.out.to o5 (by have := G2.out; omega))
    have I5 := hid (I3.out.to o5 (by have := G2.out; omega))
    have A5 : Hid (∀ y, lbl (.slice a4 n4 c4) (.slice a5 n5 c5) y → w.heap.size + 1 < y) := fun y e => by
      rcases e with e | e
      · exact A4.out y e
      · rcases ha5 with h1 | h1
        · rw [h1] at e
          have e3 : g2 = y := Option.some.inj e
          have := G2.out
          omega
        · rw [h1] at e
          have e3 : v3.heap.size = y := Option.some.inj e
          have := I3.out.lt
          omega
    clear hO5 hg5 ha5 o5
    refine hK.out _ _ ?_ (fun hHeld => ?_)
    · exact ⟨Kq5.out.cell (j := 0) rfl, Kq5.out.cell (j := 1) rfl⟩
    clear hK K1
    try simp only [List.getElem_toArray]
    try simp only [List.getElem_cons_succ]
    try simp only [List.getElem_cons_zero]
    try simp only [Act.put]
    try simp only [List.setIfInBounds_toArray]
    try simp only [List.set_cons_succ]
    try simp only [List.set_cons_zero]
    refine wpAnyH_take (i := 8) (v := (.agg #[.slice a4 n4 c4, .slice a5 n5 c5])) rfl (by kernel_rfl) (by kernel_rfl) (by kernel_rfl) (fun _ _ _ h => h) (Or.inl ⟨by rfl, ?_⟩) (by assumption) ?_
    · intro w hSw
      (try dsimp only at hSw)
      go_simp
    try simp only [List.getElem_toArray]
    try simp only [List.getElem_cons_succ]
    try simp only [List.getElem_cons_zero]
    try simp only [Act.put]
    try simp only [List.setIfInBounds_toArray]
    try simp only [List.set_cons_succ]
    try simp only [List.set_cons_zero]
    have z0 := I5.out.cell (j := 0) rfl
    have z1 := I5.out.cell (j := 1) rfl
    have e0 := I5.out.free 0
    have e1 := I5.out.free 1
    have Kq6 : Hid (Bk ((w5.setCell ⟨w.heap.size + 1, 0, none⟩ (.slice a4 n4 c4)).setCell ⟨w.heap.size + 1, 1, none⟩ (.slice a5 n5 c5)) w.heap.size 25 [.slice ha hn hc, .slice wa wn wc]) := (Kq5.out.setOther (by omega) 0 _).setOther (by omega) 1 _
    have HF : Hid (LO ((w5.setCell ⟨w.heap.size + 1, 0, none⟩ (.slice a4 n4 c4)).setCell ⟨w.heap.size + 1, 1, none⟩ (.slice a5 n5 c5)) w.heap.size (.slice a4 n4 c4) (.slice a5 n5 c5) hl wl ∧ Below w.heap.size w ((w5.setCell ⟨w.heap.size + 1, 0, none⟩ (.slice a4 n4 c4)).setCell ⟨w.heap.size + 1, 1, none⟩ (.slice a5 n5 c5))) := by
      have ow : Only (fun y => y = w.heap.size + 1) w5 ((w5.setCell ⟨w.heap.size + 1, 0, none⟩ (.slice a4 n4 c4)).setCell ⟨w.heap.size + 1, 1, none⟩ (.slice a5 n5 c5)) := (only_set (R := fun y => y = w.heap.size + 1) (p := ⟨w.heap.size + 1, 0, none⟩) rfl _).trans (only_set (R := fun y => y = w.heap.size + 1) (p := ⟨w.heap.size + 1, 1, none⟩) rfl _)
      exact ⟨P5.out.to ow (fun y hy e => by have := A5.out y hy; omega), B5.out.trans (ow.below B5.out.size (fun b hb e => by omega))⟩
    refine wpAnyH_ready (rs := [9]) (by kernel_rfl) (by simp) ?_
    refine AllReadyH.cons rfl (fun K1 hK => ?_) AllReadyH.nil
    go_simp
    try go_wp2_with fail
    refine hK.out _ _ ?_ (fun hHeld => ?_)
    · exact ⟨Kq6.out.cell (j := 0) rfl, Kq6.out.cell (j := 1) rfl⟩
    clear hK K1
    try simp only [List.getElem_toArray]
    try simp only [List.getElem_cons_succ]
    try simp only [List.getElem_cons_zero]
    try simp only [Act.put]
    try simp only [List.setIfInBounds_toArray]
    try simp only [List.set_cons_succ]
    try simp only [List.set_cons_zero]
    refine wpAnyH_done (by kernel_rfl) ?_ _
    refine NoPanic.normal ?_
    clear z0 z1 e0 e1
    have q0 : ((w5.setCell ⟨w.heap.size + 1, 0, none⟩ (.slice a4 n4 c4)).setCell ⟨w.heap.size + 1, 1, none⟩ (.slice a5 n5 c5)).cell? ⟨w.heap.size + 1, 0, none⟩ = some (.slice a4 n4 c4) := ((I5.out.set 0 _).set 1 _).cell (j := 0) rfl
    have q1 : ((w5.setCell ⟨w.heap.size + 1, 0, none⟩ (.slice a4 n4 c4)).setCell ⟨w.heap.size + 1, 1, none⟩ (.slice a5 n5 c5)).cell? ⟨w.heap.size + 1, 1, none⟩ = some (.slice a5 n5 c5) := ((I5.out.set 0 _).set 1 _).cell (j := 1) rfl
    generalize (w5.setCell ⟨w.heap.size + 1, 0, none⟩ (.slice a4 n4 c4)).setCell ⟨w.heap.size + 1, 1, none⟩ (.slice a5 n5 c5) = V at *
    go_wp2
    try simp only [Exit.inBlock, Exit.then]
    refine bodyPost_ret (v := .agg #[.slice a4 n4 c4, .slice a5 n5 c5]) ?_ rfl ?_
    · exact results_locks rfl _ _ (w.heap.size + 1) rfl q0 q1
    · exact ⟨a4, n4, c4, a5, n5, c5, rfl, HF.out.1, HF.out.2⟩
end Go.Proofs.Ytbaggkfgnjenoaa

