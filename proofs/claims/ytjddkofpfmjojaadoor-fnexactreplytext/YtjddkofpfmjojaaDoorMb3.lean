/-
  The words of asks and calls, as the program writes them.
-/
import Derived.Test.YtjddkofpfmjojaaDoorMb2
import Derived.Deep.RegionHeld3
import Derived.Test.YtjddkofpfmjojaaDoorMb1
namespace Go.Proofs.YtjddkofpfmjojaaDoor
open Go.RowKit
set_option linter.unusedVariables false
/-- What the writers of words want of the world. -/
structure GW (w : World) : Prop where
  tab : Tab w
  e : Err w 0
  g : 2 < w.heap.size
  l : 0 < w.heap.size
theorem GW.to {w w' : World} (h : GW w) (hb : Below w.heap.size w w') : GW w' := ⟨h.tab.below hb h.g, h.e.below hb h.l, Nat.lt_of_lt_of_le h.g hb.size, Nat.lt_of_lt_of_le h.l hb.size⟩
set_option maxHeartbeats 8000000 in
set_option maxRecDepth 20000 in
theorem askWords_any (k : Int) (ky vl lo hi : ByteArray) (mo : Int) (bk : Bool) (w : World) (hs : ky.size ≤ 1048576 ∧ vl.size ≤ 1048576 ∧ lo.size ≤ 1048576 ∧ hi.size ≤ 1048576) (hw : GW w) :
    Calls Tryd.prog 66 #[.agg #[.int .i64 k, .string ky, .string vl, .string lo, .string hi, .int .i64 mo, .bool bk]] w fun e w' => WsP (akW k ky vl lo hi mo bk) w e w' := by
  unfold WsP akW
  have B0 := hid (below_new (o := .cells #[.int .i64 k, .string ky, .string vl, .string lo, .string hi, .int .i64 mo, .bool bk] 35) (w := w) (Below.refl _ _))
  have K0 := hid (Bk.new w 35 [.int .i64 k, .string ky, .string vl, .string lo, .string hi, .int .i64 mo, .bool bk])
  have G0 := hid (hw.to B0.out)
  have CQ := hid (fun (s : ByteArray) (w : World) (hs : s.size ≤ 1048576) (hw : GW w) => implQuote_any s w hs hw.e hw.l)
  have CN := hid (fun (n : Int) (w : World) (hw : GW w) => implNumText_any n w hw.tab)
  have HS := hid hs
  clear hs hw
  generalize hU : w.alloc (.cells #[.int .i64 k, .string ky, .string vl, .string lo, .string hi, .int .i64 mo, .bool bk] 35) = U at *
  have HU := hid hU
  clear hU
  by_cases h1 : k = 1
  · subst h1
    rw [if_pos rfl]
    go_enter Tryd.func66, Tryd.ntmps66
    go_wp2_with fail
    rw [HU.out]
    have c0 := K0.out.cell (j := 0) rfl
    have c1 := K0.out.cell (j := 1) rfl
    go_wp2_with fail
    refine (CQ.out ky _ HS.out.1 G0.out).mono ?_
    rintro r v1 ⟨rfl, hb⟩
    have B1 := hid (B0.out.trans (hb.mono B0.out.size))
    have O2 := hid (bk_own (n := 2) (size := 1) (B := w.heap.size) (Bk.new v1 9 [.string wGet, .string (qt ky)]) rfl (by decide) B1.out.size)
    have B2 := hid (B1.out.alloc B1.out.size (.cells #[.string wGet, .string (qt ky)] 9))
    clear hb c0 c1 B0 K0 G0 B1
    go_wp2
    go_ret
    exact ⟨_, _, _, rfl, O2.out, B2.out⟩
  rw [if_neg h1]
  by_cases h2 : k = 2
  · subst h2
    rw [if_pos rfl]
    go_enter Tryd.func66, Tryd.ntmps66
    go_wp2_with fail
    rw [HU.out]
    have c0 := K0.out.cell (j := 0) rfl
    go_wp2_with fail
    clear c0
    refine wp_region_noPanic ?_
    refine wp_region_held_drew (S := fun v => v.cell? ⟨w.heap.size, 1, none⟩ = some (.string ky) ∧ v.cell? ⟨w.heap.size, 2, none⟩ = some (.string vl) ∧ v.cell? ⟨w.heap.size, 3, none⟩ = some (.string lo) ∧ v.cell? ⟨w.heap.size, 4, none⟩ = some (.string hi) ∧ v.cell? ⟨w.heap.size, 5, none⟩ = some (.int .i64 mo)) (by kernel_rfl) (⟨(K0.out.below (below_drew _)).cell (j := 1) rfl, (K0.out.below (below_drew _)).cell (j := 2) rfl, (K0.out.below (below_drew _)).cell (j := 3) rfl, (K0.out.below (below_drew _)).cell (j := 4) rfl, (K0.out.below (below_drew _)).cell (j := 5) rfl⟩) (fun hHeld => ?_)
    simp only [List.size_toArray, List.length_cons, List.length_nil, Array.replicate_succ, Array.replicate_zero, Nat.reduceAdd, List.push_toArray, List.nil_append, List.cons_append]
    refine wpAnyH_take (i := 0) (v := (.pointer (some ⟨w.heap.size, 1, none⟩))) rfl (by kernel_rfl) (by kernel_rfl) (by kernel_rfl) (fun _ _ _ h => h) (Or.inl ⟨by rfl, ?_⟩) (by assumption) ?_
    · intro w hSw
      (try dsimp only at hSw)
      go_simp
    try simp only [List.getElem_toArray]
    try simp only [List.getElem_cons_succ]
    try simp only [List.getElem_cons_zero]
    try simp only [Act.put]
    try simp only [List.setIfInBounds_toArray]
    try simp only [List.set_cons_succ]
    try simp only [List.set_cons_zero]
    refine wpAnyH_take (i := 1) (v := (.string ky)) rfl (by kernel_rfl) (by kernel_rfl) (by kernel_rfl) (fun _ _ _ h => h) (Or.inl ⟨by rfl, ?_⟩) (by assumption) ?_
    · intro w hSw
      (try dsimp only at hSw)
      go_simp
    try simp only [List.getElem_toArray]
    try simp only [List.getElem_cons_succ]
    try simp only [List.getElem_cons_zero]
    try simp only [Act.put]
    try simp only [List.setIfInBounds_toArray]
    try simp only [List.set_cons_succ]
    try simp only [List.set_cons_zero]
    refine wpAnyH_take (i := 3) (v := (.pointer (some ⟨w.heap.size, 2, none⟩))) rfl (by kernel_rfl) (by kernel_rfl) (by kernel_rfl) (fun _ _ _ h => h) (Or.inl ⟨by rfl, ?_⟩) (by assumption) ?_
    · intro w hSw
      (try dsimp only at hSw)
      go_simp
    try simp only [List.getElem_toArray]
    try simp only [List.getElem_cons_succ]
    try simp only [List.getElem_cons_zero]
    try simp only [Act.put]
    try simp only [List.setIfInBounds_toArray]
    try simp only [List.set_cons_succ]
    try simp only [List.set_cons_zero]
    refine wpAnyH_take (i := 4) (v := (.string vl)) rfl (by kernel_rfl) (by kernel_rfl) (by kernel_rfl) (fun _ _ _ h => h) (Or.inl ⟨by rfl, ?_⟩) (by assumption) ?_
    · intro w hSw
      (try dsimp only at hSw)
      go_simp
    try simp only [List.getElem_toArray]
    try simp only [List.getElem_cons_succ]
    try simp only [List.getElem_cons_zero]
    try simp only [Act.put]
    try simp only [List.setIfInBounds_toArray]
    try simp only [List.set_cons_succ]
    try simp only [List.set_cons_zero]
    have BD := hid (B0.out.trans ((below_drew U).mono B0.out.size))
    have KD := hid (K0.out.below (below_drew _))
    have GD0 := hid (G0.out.to (below_drew _))
    clear B0 K0 G0
    generalize U.drew = v0 at *
    have B0 := BD
    have Kq0 := KD
    have G0 := GD0
    clear BD KD GD0
    refine wpAnyH_ready (rs := [2]) (by kernel_rfl) (by simp) ?_
    refine AllReadyH.cons rfl (fun K1 hK => ?_) (AllReadyH.nil)
    go_simp
    refine (CQ.out ky v0 HS.out.1 G0.out).mono ?_
    rintro r v1 ⟨rfl, hb⟩
    go_wp2_with fail
    have Kq1 := hid (Kq0.out.below hb)
    have B1 := hid (B0.out.trans (hb.mono B0.out.size))
    have G1 := hid (G0.out.to hb)
    clear hb Kq0 B0 G0
    refine hK.out _ _ ?_ (fun hHeld => ?_)
    · exact ⟨Kq1.out.cell (j := 1) rfl, Kq1.out.cell (j := 2) rfl, Kq1.out.cell (j := 3) rfl, Kq1.out.cell (j := 4) rfl, Kq1.out.cell (j := 5) rfl⟩
    clear hK K1
    try simp only [List.getElem_toArray]
    try simp only [List.getElem_cons_succ]
    try simp only [List.getElem_cons_zero]
    try simp only [Act.put]
    try simp only [List.setIfInBounds_toArray]
    try simp only [List.set_cons_succ]
    try simp only [List.set_cons_zero]
    refine wpAnyH_ready (rs := [5]) (by kernel_rfl) (by simp) ?_
    refine AllReadyH.cons rfl (fun K1 hK => ?_) (AllReadyH.nil)
    go_simp
    refine (CQ.out vl v1 HS.out.2.1 G1.out).mono ?_
    rintro r v2 ⟨rfl, hb⟩
    go_wp2_with fail
    have Kq2 := hid (Kq1.out.below hb)
    have B2 := hid (B1.out.trans (hb.mono B1.out.size))
    have G2 := hid (G1.out.to hb)
    clear hb Kq1 B1 G1
    refine hK.out _ _ ?_ (fun hHeld => ?_)
    · exact ⟨Kq2.out.cell (j := 1) rfl, Kq2.out.cell (j := 2) rfl, Kq2.out.cell (j := 3) rfl, Kq2.out.cell (j := 4) rfl, Kq2.out.cell (j := 5) rfl⟩
    clear hK K1
    try simp only [List.getElem_toArray]
    try simp only [List.getElem_cons_succ]
    try simp only [List.getElem_cons_zero]
    try simp only [Act.put]
    try simp only [List.setIfInBounds_toArray]
    try simp only [List.set_cons_succ]
    try simp only [List.set_cons_zero]
    refine wpAnyH_ready (rs := [6]) (by kernel_rfl) (by simp) ?_
    refine AllReadyH.cons rfl (fun K1 hK => ?_) AllReadyH.nil
    go_simp
    try go_wp2_with fail
    have hb := below_new (o := .cells #[.string ⟨#[112, 117, 116]⟩, .string (qt ky), .string (qt vl)] 9) (w := v2) (Below.refl _ _)
    have Kq3 := hid (Kq2.out.below hb)
    have B3 := hid (B2.out.trans (hb.mono B2.out.size))
    have O3 := hid (bk_own (n := 3) (size := 1) (Bk.new v2 9 [.string ⟨#[112, 117, 116]⟩, .string (qt ky), .string (qt vl)]) rfl (by decide) B2.out.size)
    clear hb Kq2 B2 G2
    refine hK.out _ _ ?_ (fun hHeld => ?_)
    · exact ⟨Kq3.out.cell (j := 1) rfl, Kq3.out.cell (j := 2) rfl, Kq3.out.cell (j := 3) rfl, Kq3.out.cell (j := 4) rfl, Kq3.out.cell (j := 5) rfl⟩
    clear hK K1
    try simp only [List.getElem_toArray]
    try simp only [List.getElem_cons_succ]
    try simp only [List.getElem_cons_zero]
    try simp only [Act.put]
    try simp only [List.setIfInBounds_toArray]
    try simp only [List.set_cons_succ]
    try simp only [List.set_cons_zero]
    refine wpAnyH_take (i := 7) (v := (.slice (some ⟨v2.heap.size, 0, none⟩) 3 3)) rfl (by kernel_rfl) (by kernel_rfl) (by kernel_rfl) (fun _ _ _ h => h) (Or.inl ⟨by rfl, ?_⟩) (by assumption) ?_
    · intro w hSw
      (try dsimp only at hSw)
      go_simp
    try simp only [List.getElem_toArray]
    try simp only [List.getElem_cons_succ]
    try simp only [List.getElem_cons_zero]
    try simp only [Act.put]
    try simp only [List.setIfInBounds_toArray]
    try simp only [List.set_cons_succ]
    try simp only [List.set_cons_zero]
    refine wpAnyH_done (by kernel_rfl) ?_ _
    refine NoPanic.normal ?_
    go_wp2
    go_ret
    exact ⟨_, _, _, rfl, O3.out, B3.out⟩
  rw [if_neg h2]
  by_cases h3 : k = 3
  · subst h3
    rw [if_pos rfl]
    go_enter Tryd.func66, Tryd.ntmps66
    go_wp2_with fail
    rw [HU.out]
    have c0 := K0.out.cell (j := 0) rfl
    have c1 := K0.out.cell (j := 1) rfl
    go_wp2_with fail
    refine (CQ.out ky _ HS.out.1 G0.out).mono ?_
    rintro r v1 ⟨rfl, hb⟩
    have B1 := hid (B0.out.trans (hb.mono B0.out.size))
    have O2 := hid (bk_own (n := 2) (size := 1) (B := w.heap.size) (Bk.new v1 9 [.string wDel, .string (qt ky)]) rfl (by decide) B1.out.size)
    have B2 := hid (B1.out.alloc B1.out.size (.cells #[.string wDel, .string (qt ky)] 9))
    clear hb c0 c1 B0 K0 G0 B1
    go_wp2
    go_ret
    exact ⟨_, _, _, rfl, O2.out, B2.out⟩
  rw [if_neg h3]
  cases bk with
  | false =>
    · go_enter Tryd.func66, Tryd.ntmps66
      · go_wp2_with fail
        rw [HU.out]
        have c0 := K0.out.cell (j := 0) rfl
        have c6 := K0.out.cell (j := 6) rfl
        go_wp2_with fail
        clear c0 c6
        refine wp_region_noPanic ?_
        refine wp_region_held_drew (S := fun v => v.cell? ⟨w.heap.size, 1, none⟩ = some (.string ky) ∧ v.cell? ⟨w.heap.size, 2, none⟩ = some (.string vl) ∧ v.cell? ⟨w.heap.size, 3, none⟩ = some (.string lo) ∧ v.cell? ⟨w.heap.size, 4, none⟩ = some (.string hi) ∧ v.cell? ⟨w.heap.size, 5, none⟩ = some (.int .i64 mo)) (by kernel_rfl) (⟨(K0.out.below (below_drew _)).cell (j := 1) rfl, (K0.out.below (below_drew _)).cell (j := 2) rfl, (K0.out.below (below_drew _)).cell (j := 3) rfl, (K0.out.below (below_drew _)).cell (j := 4) rfl, (K0.out.below (below_drew _)).cell (j := 5) rfl⟩) (fun hHeld => ?_)
        simp only [List.size_toArray, List.length_cons, List.length_nil, Array.replicate_succ, Array.replicate_zero, Nat.reduceAdd, List.push_toArray, List.nil_append, List.cons_append]
        refine wpAnyH_take (i := 0) (v := (.string ⟨#[115, 99, 97, 110]⟩)) rfl (by kernel_rfl) (by kernel_rfl) (by kernel_rfl) (fun _ _ _ h => h) (Or.inl ⟨by rfl, ?_⟩) (by assumption) ?_
        · intro w hSw
          (try dsimp only at hSw)
          go_simp
        try simp only [List.getElem_toArray]
        try simp only [List.getElem_cons_succ]
        try simp only [List.getElem_cons_zero]
        try simp only [Act.put]
        try simp only [List.setIfInBounds_toArray]
        try simp only [List.set_cons_succ]
        try simp only [List.set_cons_zero]
        refine wpAnyH_take (i := 1) (v := (.pointer (some ⟨w.heap.size, 3, none⟩))) rfl (by kernel_rfl) (by kernel_rfl) (by kernel_rfl) (fun _ _ _ h => h) (Or.inl ⟨by rfl, ?_⟩) (by assumption) ?_
        · intro w hSw
          (try dsimp only at hSw)
          go_simp
        try simp only [List.getElem_toArray]
        try simp only [List.getElem_cons_succ]
        try simp only [List.getElem_cons_zero]
        try simp only [Act.put]
        try simp only [List.setIfInBounds_toArray]
        try simp only [List.set_cons_succ]
        try simp only [List.set_cons_zero]
        refine wpAnyH_take (i := 2) (v := (.pointer (some ⟨w.heap.size, 3, none⟩))) rfl (by kernel_rfl) (by kernel_rfl) (by kernel_rfl) (fun _ _ _ h => h) (Or.inl ⟨by rfl, ?_⟩) (by assumption) ?_
        · intro w hSw
          (try dsimp only at hSw)
          go_simp
        try simp only [List.getElem_toArray]
        try simp only [List.getElem_cons_succ]
        try simp only [List.getElem_cons_zero]
        try simp only [Act.put]
        try simp only [List.setIfInBounds_toArray]
        try simp only [List.set_cons_succ]
        try simp only [List.set_cons_zero]
        refine wpAnyH_take (i := 3) (v := (.string lo)) rfl (by kernel_rfl) (by kernel_rfl) (by kernel_rfl) (fun _ _ _ h => h) (Or.inl ⟨by rfl, ?_⟩) (by assumption) ?_
        · intro w hSw
          (try dsimp only at hSw)
          go_simp
        try simp only [List.getElem_toArray]
        try simp only [List.getElem_cons_succ]
        try simp only [List.getElem_cons_zero]
        try simp only [Act.put]
        try simp only [List.setIfInBounds_toArray]
        try simp only [List.set_cons_succ]
        try simp only [List.set_cons_zero]
        refine wpAnyH_take (i := 5) (v := (.pointer (some ⟨w.heap.size, 3, none⟩))) rfl (by kernel_rfl) (by kernel_rfl) (by kernel_rfl) (fun _ _ _ h => h) (Or.inl ⟨by rfl, ?_⟩) (by assumption) ?_
        · intro w hSw
          (try dsimp only at hSw)
          go_simp
        try simp only [List.getElem_toArray]
        try simp only [List.getElem_cons_succ]
        try simp only [List.getElem_cons_zero]
        try simp only [Act.put]
        try simp only [List.setIfInBounds_toArray]
        try simp only [List.set_cons_succ]
        try simp only [List.set_cons_zero]
        refine wpAnyH_take (i := 6) (v := (.pointer (some ⟨w.heap.size, 4, none⟩))) rfl (by kernel_rfl) (by kernel_rfl) (by kernel_rfl) (fun _ _ _ h => h) (Or.inl ⟨by rfl, ?_⟩) (by assumption) ?_
        · intro w hSw
          (try dsimp only at hSw)
          go_simp
        try simp only [List.getElem_toArray]
        try simp only [List.getElem_cons_succ]
        try simp only [List.getElem_cons_zero]
        try simp only [Act.put]
        try simp only [List.setIfInBounds_toArray]
        try simp only [List.set_cons_succ]
        try simp only [List.set_cons_zero]
        refine wpAnyH_take (i := 7) (v := (.string hi)) rfl (by kernel_rfl) (by kernel_rfl) (by kernel_rfl) (fun _ _ _ h => h) (Or.inl ⟨by rfl, ?_⟩) (by assumption) ?_
        · intro w hSw
          (try dsimp only at hSw)
          go_simp
        try simp only [List.getElem_toArray]
        try simp only [List.getElem_cons_succ]
        try simp only [List.getElem_cons_zero]
        try simp only [Act.put]
        try simp only [List.setIfInBounds_toArray]
        try simp only [List.set_cons_succ]
        try simp only [List.set_cons_zero]
        refine wpAnyH_take (i := 9) (v := (.pointer (some ⟨w.heap.size, 5, none⟩))) rfl (by kernel_rfl) (by kernel_rfl) (by kernel_rfl) (fun _ _ _ h => h) (Or.inl ⟨by rfl, ?_⟩) (by assumption) ?_
        · intro w hSw
          (try dsimp only at hSw)
          go_simp
        try simp only [List.getElem_toArray]
        try simp only [List.getElem_cons_succ]
        try simp only [List.getElem_cons_zero]
        try simp only [Act.put]
        try simp only [List.setIfInBounds_toArray]
        try simp only [List.set_cons_succ]
        try simp only [List.set_cons_zero]
        refine wpAnyH_take (i := 10) (v := (.int .i64 mo)) rfl (by kernel_rfl) (by kernel_rfl) (by kernel_rfl) (fun _ _ _ h => h) (Or.inl ⟨by rfl, ?_⟩) (by assumption) ?_
        · intro w hSw
          (try dsimp only at hSw)
          go_simp
        try simp only [List.getElem_toArray]
        try simp only [List.getElem_cons_succ]
        try simp only [List.getElem_cons_zero]
        try simp only [Act.put]
        try simp only [List.setIfInBounds_toArray]
        try simp only [List.set_cons_succ]
        try simp only [List.set_cons_zero]
        have BD := hid (B0.out.trans ((below_drew U).mono B0.out.size))
        have KD := hid (K0.out.below (below_drew _))
        have GD0 := hid (G0.out.to (below_drew _))
        clear B0 K0 G0
        generalize U.drew = v0 at *
        have B0 := BD
        have Kq0 := KD
        have G0 := GD0
        clear BD KD GD0
        refine wpAnyH_ready (rs := [4]) (by kernel_rfl) (by simp) ?_
        refine AllReadyH.cons rfl (fun K1 hK => ?_) (AllReadyH.nil)
        go_simp
        refine (CQ.out lo v0 HS.out.2.2.1 G0.out).mono ?_
        rintro r v1 ⟨rfl, hb⟩
        go_wp2_with fail
        have Kq1 := hid (Kq0.out.below hb)
        have B1 := hid (B0.out.trans (hb.mono B0.out.size))
        have G1 := hid (G0.out.to hb)
        clear hb Kq0 B0 G0
        refine hK.out _ _ ?_ (fun hHeld => ?_)
        · exact ⟨Kq1.out.cell (j := 1) rfl, Kq1.out.cell (j := 2) rfl, Kq1.out.cell (j := 3) rfl, Kq1.out.cell (j := 4) rfl, Kq1.out.cell (j := 5) rfl⟩
        clear hK K1
        try simp only [List.getElem_toArray]
        try simp only [List.getElem_cons_succ]
        try simp only [List.getElem_cons_zero]
        try simp only [Act.put]
        try simp only [List.setIfInBounds_toArray]
        try simp only [List.set_cons_succ]
        try simp only [List.set_cons_zero]
        refine wpAnyH_ready (rs := [8]) (by kernel_rfl) (by simp) ?_
        refine AllReadyH.cons rfl (fun K1 hK => ?_) (AllReadyH.nil)
        go_simp
        refine (CQ.out hi v1 HS.out.2.2.2 G1.out).mono ?_
        rintro r v2 ⟨rfl, hb⟩
        go_wp2_with fail
        have Kq2 := hid (Kq1.out.below hb)
        have B2 := hid (B1.out.trans (hb.mono B1.out.size))
        have G2 := hid (G1.out.to hb)
        clear hb Kq1 B1 G1
        refine hK.out _ _ ?_ (fun hHeld => ?_)
        · exact ⟨Kq2.out.cell (j := 1) rfl, Kq2.out.cell (j := 2) rfl, Kq2.out.cell (j := 3) rfl, Kq2.out.cell (j := 4) rfl, Kq2.out.cell (j := 5) rfl⟩
        clear hK K1
        try simp only [List.getElem_toArray]
        try simp only [List.getElem_cons_succ]
        try simp only [List.getElem_cons_zero]
        try simp only [Act.put]
        try simp only [List.setIfInBounds_toArray]
        try simp only [List.set_cons_succ]
        try simp only [List.set_cons_zero]
        refine wpAnyH_ready (rs := [11]) (by kernel_rfl) (by simp) ?_
        refine AllReadyH.cons rfl (fun K1 hK => ?_) (AllReadyH.nil)
        go_simp
        refine (CN.out mo v2 G2.out).mono ?_
        rintro r v3 ⟨rfl, hb⟩
        go_wp2_with fail
        have Kq3 := hid (Kq2.out.below hb)
        have B3 := hid (B2.out.trans (hb.mono B2.out.size))
        have G3 := hid (G2.out.to hb)
        clear hb Kq2 B2 G2
        refine hK.out _ _ ?_ (fun hHeld => ?_)
        · exact ⟨Kq3.out.cell (j := 1) rfl, Kq3.out.cell (j := 2) rfl, Kq3.out.cell (j := 3) rfl, Kq3.out.cell (j := 4) rfl, Kq3.out.cell (j := 5) rfl⟩
        clear hK K1
        try simp only [List.getElem_toArray]
        try simp only [List.getElem_cons_succ]
        try simp only [List.getElem_cons_zero]
        try simp only [Act.put]
        try simp only [List.setIfInBounds_toArray]
        try simp only [List.set_cons_succ]
        try simp only [List.set_cons_zero]
        refine wpAnyH_ready (rs := [12]) (by kernel_rfl) (by simp) ?_
        refine AllReadyH.cons rfl (fun K1 hK => ?_) AllReadyH.nil
        go_simp
        try go_wp2_with fail
        have hb := below_new (o := .cells #[.string ⟨#[115, 99, 97, 110]⟩, .string (qt lo), .string (qt hi), .string (numS mo)] 9) (w := v3) (Below.refl _ _)
        have Kq4 := hid (Kq3.out.below hb)
        have B4 := hid (B3.out.trans (hb.mono B3.out.size))
        have O4 := hid (bk_own (n := 4) (size := 1) (Bk.new v3 9 [.string ⟨#[115, 99, 97, 110]⟩, .string (qt lo), .string (qt hi), .string (numS mo)]) rfl (by decide) B3.out.size)
        clear hb Kq3 B3 G3
        refine hK.out _ _ ?_ (fun hHeld => ?_)
        · exact ⟨Kq4.out.cell (j := 1) rfl, Kq4.out.cell (j := 2) rfl, Kq4.out.cell (j := 3) rfl, Kq4.out.cell (j := 4) rfl, Kq4.out.cell (j := 5) rfl⟩
        clear hK K1
        try simp only [List.getElem_toArray]
        try simp only [List.getElem_cons_succ]
        try simp only [List.getElem_cons_zero]
        try simp only [Act.put]
        try simp only [List.setIfInBounds_toArray]
        try simp only [List.set_cons_succ]
        try simp only [List.set_cons_zero]
        refine wpAnyH_take (i := 13) (v := (.slice (some ⟨v3.heap.size, 0, none⟩) 4 4)) rfl (by kernel_rfl) (by kernel_rfl) (by kernel_rfl) (fun _ _ _ h => h) (Or.inl ⟨by rfl, ?_⟩) (by assumption) ?_
        · intro w hSw
          (try dsimp only at hSw)
          go_simp
        try simp only [List.getElem_toArray]
        try simp only [List.getElem_cons_succ]
        try simp only [List.getElem_cons_zero]
        try simp only [Act.put]
        try simp only [List.setIfInBounds_toArray]
        try simp only [List.set_cons_succ]
        try simp only [List.set_cons_zero]
        refine wpAnyH_done (by kernel_rfl) ?_ _
        refine NoPanic.normal ?_
        go_wp2
        go_ret
        exact ⟨_, _, _, rfl, O4.out, B4.out⟩
  | true =>
    · go_enter Tryd.func66, Tryd.ntmps66
      · go_wp2_with fail
        rw [HU.out]
        have c0 := K0.out.cell (j := 0) rfl
        have c6 := K0.out.cell (j := 6) rfl
        go_wp2_with fail
        clear c0 c6
        refine wp_region_noPanic ?_
        refine wp_region_held_drew (S := fun v => v.cell? ⟨w.heap.size, 1, none⟩ = some (.string ky) ∧ v.cell? ⟨w.heap.size, 2, none⟩ = some (.string vl) ∧ v.cell? ⟨w.heap.size, 3, none⟩ = some (.string lo) ∧ v.cell? ⟨w.heap.size, 4, none⟩ = some (.string hi) ∧ v.cell? ⟨w.heap.size, 5, none⟩ = some (.int .i64 mo)) (by kernel_rfl) (⟨(K0.out.below (below_drew _)).cell (j := 1) rfl, (K0.out.below (below_drew _)).cell (j := 2) rfl, (K0.out.below (below_drew _)).cell (j := 3) rfl, (K0.out.below (below_drew _)).cell (j := 4) rfl, (K0.out.below (below_drew _)).cell (j := 5) rfl⟩) (fun hHeld => ?_)
        simp only [List.size_toArray, List.length_cons, List.length_nil, Array.replicate_succ, Array.replicate_zero, Nat.reduceAdd, List.push_toArray, List.nil_append, List.cons_append]
        refine wpAnyH_take (i := 0) (v := (.string ⟨#[98, 97, 99, 107]⟩)) rfl (by kernel_rfl) (by kernel_rfl) (by kernel_rfl) (fun _ _ _ h => h) (Or.inl ⟨by rfl, ?_⟩) (by assumption) ?_
        · intro w hSw
          (try dsimp only at hSw)
          go_simp
        try simp only [List.getElem_toArray]
        try simp only [List.getElem_cons_succ]
        try simp only [List.getElem_cons_zero]
        try simp only [Act.put]
        try simp only [List.setIfInBounds_toArray]
        try simp only [List.set_cons_succ]
        try simp only [List.set_cons_zero]
        refine wpAnyH_take (i := 1) (v := (.pointer (some ⟨w.heap.size, 3, none⟩))) rfl (by kernel_rfl) (by kernel_rfl) (by kernel_rfl) (fun _ _ _ h => h) (Or.inl ⟨by rfl, ?_⟩) (by assumption) ?_
        · intro w hSw
          (try dsimp only at hSw)
          go_simp
        try simp only [List.getElem_toArray]
        try simp only [List.getElem_cons_succ]
        try simp only [List.getElem_cons_zero]
        try simp only [Act.put]
        try simp only [List.setIfInBounds_toArray]
        try simp only [List.set_cons_succ]
        try simp only [List.set_cons_zero]
        refine wpAnyH_take (i := 2) (v := (.pointer (some ⟨w.heap.size, 3, none⟩))) rfl (by kernel_rfl) (by kernel_rfl) (by kernel_rfl) (fun _ _ _ h => h) (Or.inl ⟨by rfl, ?_⟩) (by assumption) ?_
        · intro w hSw
          (try dsimp only at hSw)
          go_simp
        try simp only [List.getElem_toArray]
        try simp only [List.getElem_cons_succ]
        try simp only [List.getElem_cons_zero]
        try simp only [Act.put]
        try simp only [List.setIfInBounds_toArray]
        try simp only [List.set_cons_succ]
        try simp only [List.set_cons_zero]
        refine wpAnyH_take (i := 3) (v := (.string lo)) rfl (by kernel_rfl) (by kernel_rfl) (by kernel_rfl) (fun _ _ _ h => h) (Or.inl ⟨by rfl, ?_⟩) (by assumption) ?_
        · intro w hSw
          (try dsimp only at hSw)
          go_simp
        try simp only [List.getElem_toArray]
        try simp only [List.getElem_cons_succ]
        try simp only [List.getElem_cons_zero]
        try simp only [Act.put]
        try simp only [List.setIfInBounds_toArray]
        try simp only [List.set_cons_succ]
        try simp only [List.set_cons_zero]
        refine wpAnyH_take (i := 5) (v := (.pointer (some ⟨w.heap.size, 3, none⟩))) rfl (by kernel_rfl) (by kernel_rfl) (by kernel_rfl) (fun _ _ _ h => h) (Or.inl ⟨by rfl, ?_⟩) (by assumption) ?_
        · intro w hSw
          (try dsimp only at hSw)
          go_simp
        try simp only [List.getElem_toArray]
        try simp only [List.getElem_cons_succ]
        try simp only [List.getElem_cons_zero]
        try simp only [Act.put]
        try simp only [List.setIfInBounds_toArray]
        try simp only [List.set_cons_succ]
        try simp only [List.set_cons_zero]
        refine wpAnyH_take (i := 6) (v := (.pointer (some ⟨w.heap.size, 4, none⟩))) rfl (by kernel_rfl) (by kernel_rfl) (by kernel_rfl) (fun _ _ _ h => h) (Or.inl ⟨by rfl, ?_⟩) (by assumption) ?_
        · intro w hSw
          (try dsimp only at hSw)
          go_simp
        try simp only [List.getElem_toArray]
        try simp only [List.getElem_cons_succ]
        try simp only [List.getElem_cons_zero]
        try simp only [Act.put]
        try simp only [List.setIfInBounds_toArray]
        try simp only [List.set_cons_succ]
        try simp only [List.set_cons_zero]
        refine wpAnyH_take (i := 7) (v := (.string hi)) rfl (by kernel_rfl) (by kernel_rfl) (by kernel_rfl) (fun _ _ _ h => h) (Or.inl ⟨by rfl, ?_⟩) (by assumption) ?_
        · intro w hSw
          (try dsimp only at hSw)
          go_simp
        try simp only [List.getElem_toArray]
        try simp only [List.getElem_cons_succ]
        try simp only [List.getElem_cons_zero]
        try simp only [Act.put]
        try simp only [List.setIfInBounds_toArray]
        try simp only [List.set_cons_succ]
        try simp only [List.set_cons_zero]
        refine wpAnyH_take (i := 9) (v := (.pointer (some ⟨w.heap.size, 5, none⟩))) rfl (by kernel_rfl) (by kernel_rfl) (by kernel_rfl) (fun _ _ _ h => h) (Or.inl ⟨by rfl, ?_⟩) (by assumption) ?_
        · intro w hSw
          (try dsimp only at hSw)
          go_simp
        try simp only [List.getElem_toArray]
        try simp only [List.getElem_cons_succ]
        try simp only [List.getElem_cons_zero]
        try simp only [Act.put]
        try simp only [List.setIfInBounds_toArray]
        try simp only [List.set_cons_succ]
        try simp only [List.set_cons_zero]
        refine wpAnyH_take (i := 10) (v := (.int .i64 mo)) rfl (by kernel_rfl) (by kernel_rfl) (by kernel_rfl) (fun _ _ _ h => h) (Or.inl ⟨by rfl, ?_⟩) (by assumption) ?_
        · intro w hSw
          (try dsimp only at hSw)
          go_simp
        try simp only [List.getElem_toArray]
        try simp only [List.getElem_cons_succ]
        try simp only [List.getElem_cons_zero]
        try simp only [Act.put]
        try simp only [List.setIfInBounds_toArray]
        try simp only [List.set_cons_succ]
        try simp only [List.set_cons_zero]
        have BD := hid (B0.out.trans ((below_drew U).mono B0.out.size))
        have KD := hid (K0.out.below (below_drew _))
        have GD0 := hid (G0.out.to (below_drew _))
        clear B0 K0 G0
        generalize U.drew = v0 at *
        have B0 := BD
        have Kq0 := KD
        have G0 := GD0
        clear BD KD GD0
        refine wpAnyH_ready (rs := [4]) (by kernel_rfl) (by simp) ?_
        refine AllReadyH.cons rfl (fun K1 hK => ?_) (AllReadyH.nil)
        go_simp
        refine (CQ.out lo v0 HS.out.2.2.1 G0.out).mono ?_
        rintro r v1 ⟨rfl, hb⟩
        go_wp2_with fail
        have Kq1 := hid (Kq0.out.below hb)
        have B1 := hid (B0.out.trans (hb.mono B0.out.size))
        have G1 := hid (G0.out.to hb)
        clear hb Kq0 B0 G0
        refine hK.out _ _ ?_ (fun hHeld => ?_)
        · exact ⟨Kq1.out.cell (j := 1) rfl, Kq1.out.cell (j := 2) rfl, Kq1.out.cell (j := 3) rfl, Kq1.out.cell (j := 4) rfl, Kq1.out.cell (j := 5) rfl⟩
        clear hK K1
        try simp only [List.getElem_toArray]
        try simp only [List.getElem_cons_succ]
        try simp only [List.getElem_cons_zero]
        try simp only [Act.put]
        try simp only [List.setIfInBounds_toArray]
        try simp only [List.set_cons_succ]
        try simp only [List.set_cons_zero]
        refine wpAnyH_ready (rs := [8]) (by kernel_rfl) (by simp) ?_
        refine AllReadyH.cons rfl (fun K1 hK => ?_) (AllReadyH.nil)
        go_simp
        refine (CQ.out hi v1 HS.out.2.2.2 G1.out).mono ?_
        rintro r v2 ⟨rfl, hb⟩
        go_wp2_with fail
        have Kq2 := hid (Kq1.out.below hb)
        have B2 := hid (B1.out.trans (hb.mono B1.out.size))
        have G2 := hid (G1.out.to hb)
        clear hb Kq1 B1 G1
        refine hK.out _ _ ?_ (fun hHeld => ?_)
        · exact ⟨Kq2.out.cell (j := 1) rfl, Kq2.out.cell (j := 2) rfl, Kq2.out.cell (j := 3) rfl, Kq2.out.cell (j := 4) rfl, Kq2.out.cell (j := 5) rfl⟩
        clear hK K1
        try simp only [List.getElem_toArray]
        try simp only [List.getElem_cons_succ]
        try simp only [List.getElem_cons_zero]
        try simp only [Act.put]
        try simp only [List.setIfInBounds_toArray]
        try simp only [List.set_cons_succ]
        try simp only [List.set_cons_zero]
        refine wpAnyH_ready (rs := [11]) (by kernel_rfl) (by simp) ?_
        refine AllReadyH.cons rfl (fun K1 hK => ?_) (AllReadyH.nil)
        go_simp
        refine (CN.out mo v2 G2.out).mono ?_
        rintro r v3 ⟨rfl, hb⟩
        go_wp2_with fail
        have Kq3 := hid (Kq2.out.below hb)
        have B3 := hid (B2.out.trans (hb.mono B2.out.size))
        have G3 := hid (G2.out.to hb)
        clear hb Kq2 B2 G2
        refine hK.out _ _ ?_ (fun hHeld => ?_)
        · exact ⟨Kq3.out.cell (j := 1) rfl, Kq3.out.cell (j := 2) rfl, Kq3.out.cell (j := 3) rfl, Kq3.out.cell (j := 4) rfl, Kq3.out.cell (j := 5) rfl⟩
        clear hK K1
        try simp only [List.getElem_toArray]
        try simp only [List.getElem_cons_succ]
        try simp only [List.getElem_cons_zero]
        try simp only [Act.put]
        try simp only [List.setIfInBounds_toArray]
        try simp only [List.set_cons_succ]
        try simp only [List.set_cons_zero]
        refine wpAnyH_ready (rs := [12]) (by kernel_rfl) (by simp) ?_
        refine AllReadyH.cons rfl (fun K1 hK => ?_) AllReadyH.nil
        go_simp
        try go_wp2_with fail
        have hb := below_new (o := .cells #[.string ⟨#[98, 97, 99, 107]⟩, .string (qt lo), .string (qt hi), .string (numS mo)] 9) (w := v3) (Below.refl _ _)
        have Kq4 := hid (Kq3.out.below hb)
        have B4 := hid (B3.out.trans (hb.mono B3.out.size))
        have O4 := hid (bk_own (n := 4) (size := 1) (Bk.new v3 9 [.string ⟨#[98, 97, 99, 107]⟩, .string (qt lo), .string (qt hi), .string (numS mo)]) rfl (by decide) B3.out.size)
        clear hb Kq3 B3 G3
        refine hK.out _ _ ?_ (fun hHeld => ?_)
        · exact ⟨Kq4.out.cell (j := 1) rfl, Kq4.out.cell (j := 2) rfl, Kq4.out.cell (j := 3) rfl, Kq4.out.cell (j := 4) rfl, Kq4.out.cell (j := 5) rfl⟩
        clear hK K1
        try simp only [List.getElem_toArray]
        try simp only [List.getElem_cons_succ]
        try simp only [List.getElem_cons_zero]
        try simp only [Act.put]
        try simp only [List.setIfInBounds_toArray]
        try simp only [List.set_cons_succ]
        try simp only [List.set_cons_zero]
        refine wpAnyH_take (i := 13) (v := (.slice (some ⟨v3.heap.size, 0, none⟩) 4 4)) rfl (by kernel_rfl) (by kernel_rfl) (by kernel_rfl) (fun _ _ _ h => h) (Or.inl ⟨by rfl, ?_⟩) (by assumption) ?_
        · intro w hSw
          (try dsimp only at hSw)
          go_simp
        try simp only [List.getElem_toArray]
        try simp only [List.getElem_cons_succ]
        try simp only [List.getElem_cons_zero]
        try simp only [Act.put]
        try simp only [List.setIfInBounds_toArray]
        try simp only [List.set_cons_succ]
        try simp only [List.set_cons_zero]
        refine wpAnyH_done (by kernel_rfl) ?_ _
        refine NoPanic.normal ?_
        go_wp2
        go_ret
        exact ⟨_, _, _, rfl, O4.out, B4.out⟩
end Go.Proofs.YtjddkofpfmjojaaDoor
/-
  The words of calls and of steps, and StepText, of the program.
-/
namespace Go.Proofs.YtjddkofpfmjojaaDoor
open Go.RowKit
set_option linter.unusedVariables false
theorem clW_len (kd ak : Int) (ky vl lo hi : ByteArray) (mo : Int) (bk : Bool) : (clW kd ak ky vl lo hi mo bk).length ≤ 4 := by
  unfold clW akW
  split <;> (try split) <;> (try split) <;> (try split) <;> simp
set_option maxHeartbeats 4000000 in
theorem callWords_any (kd ak : Int) (ky vl lo hi : ByteArray) (mo : Int) (bk : Bool) (w : World) (hs : ky.size ≤ 1048576 ∧ vl.size ≤ 1048576 ∧ lo.size ≤ 1048576 ∧ hi.size ≤ 1048576) (hw : GW w) :
    Calls Tryd.prog 47 #[.agg #[.int .i64 kd, .int .i64 ak, .string ky, .string vl, .string lo, .string hi, .int .i64 mo, .bool bk]] w fun e w' => WsP (clW kd ak ky vl lo hi mo bk) w e w' := by
  unfold WsP clW
  have B0 := hid (below_new (o := .cells #[.int .i64 kd, .int .i64 ak, .string ky, .string vl, .string lo, .string hi, .int .i64 mo, .bool bk] 37) (w := w) (Below.refl _ _))
  have K0 := hid (Bk.new w 37 [.int .i64 kd, .int .i64 ak, .string ky, .string vl, .string lo, .string hi, .int .i64 mo, .bool bk])
  have G0 := hid (hw.to B0.out)
  have CA := hid (fun w hw => askWords_any ak ky vl lo hi mo bk w hs hw)
  have CW := hid (fun w => callWord_any kd w)
  clear hs hw
  generalize hU : w.alloc (.cells #[.int .i64 kd, .int .i64 ak, .string ky, .string vl, .string lo, .string hi, .int .i64 mo, .bool bk] 37) = U at *
  have HU := hid hU
  clear hU
  have c0 := K0.out.cell (j := 0) rfl
  by_cases h2 : kd = 2
  · subst h2
    rw [if_pos rfl]
    have c1 := K0.out.cell (j := 1) rfl
    have c2 := K0.out.cell (j := 2) rfl
    have c3 := K0.out.cell (j := 3) rfl
    have c4 := K0.out.cell (j := 4) rfl
    have c5 := K0.out.cell (j := 5) rfl
    have c6 := K0.out.cell (j := 6) rfl
    have c7 := K0.out.cell (j := 7) rfl
    go_enter Tryd.func47, Tryd.ntmps47
    go_wp2_with fail
    rw [HU.out]
    go_wp2_with fail
    refine (CA.out _ G0.out).mono ?_
    rintro r v1 ⟨xa, xn, xc, rfl, hO, hb⟩
    have O1 := hid (hO.lower B0.out.size)
    have B1 := hid (B0.out.trans (hb.mono B0.out.size))
    clear hO hb c0 c1 c2 c3 c4 c5 c6 c7 B0 K0 G0
    go_wp2
    go_ret
    exact ⟨_, _, _, rfl, O1.out, B1.out⟩
  · rw [if_neg h2]
    go_enter Tryd.func47, Tryd.ntmps47
    go_wp2_with fail
    rw [HU.out]
    go_wp2_with fail
    refine (CW.out _).mono ?_
    rintro r v1 ⟨rfl, rfl⟩
    have O1 := hid (OW.one (B := w.heap.size) (Bk.new _ 9 [.string (cwd kd)]) B0.out.size)
    have B1 := hid (B0.out.alloc B0.out.size (.cells #[.string (cwd kd)] 9))
    clear c0 B0 K0 G0
    go_wp2
    go_ret
    exact ⟨_, _, _, rfl, O1.out, B1.out⟩
set_option maxHeartbeats 4000000 in
theorem wordsOfStep_any (S : Nat → Prop) (k a b : Int) (ka : Option Addr) (kn kc : Nat) (kp : List Int) (kd ak : Int) (ky vl lo hi : ByteArray) (mo : Int) (bk : Bool) (w : World) (hp : Ir w S (.slice ka kn kc) kp) (hn : kn ≤ 1048576) (hs : k = 1 → ky.size ≤ 1048576 ∧ vl.size ≤ 1048576 ∧ lo.size ≤ 1048576 ∧ hi.size ≤ 1048576) (hw : GW w) :
    Calls Tryd.prog 24 #[.agg #[.int .i64 k, .int .i64 a, .int .i64 b, .slice ka kn kc, .int .i64 kd, .int .i64 ak, .string ky, .string vl, .string lo, .string hi, .int .i64 mo, .bool bk]] w fun e w' => WsP (stW ⟨k, a, b, kp, kd, ak, ky, vl, lo, hi, mo, bk⟩) w e w' := by
  unfold WsP stW
  dsimp only
  have K0 := hid (Bk.new w 39 [.int .i64 k, .int .i64 a, .int .i64 b, .slice ka kn kc, .int .i64 kd, .int .i64 ak, .string ky, .string vl, .string lo, .string hi, .int .i64 mo, .bool bk])
  have HUS : Hid (w.heap.size ≤ (w.alloc (.cells #[.int .i64 k, .int .i64 a, .int .i64 b, .slice ka kn kc, .int .i64 kd, .int .i64 ak, .string ky, .string vl, .string lo, .string hi, .int .i64 mo, .bool bk] 39)).heap.size) := by show _ ≤ _; simp
  have G0 := hid (hw.to ((Below.refl w.heap.size w).alloc (Nat.le_refl _) (.cells #[.int .i64 k, .int .i64 a, .int .i64 b, .slice ka kn kc, .int .i64 kd, .int .i64 ak, .string ky, .string vl, .string lo, .string hi, .int .i64 mo, .bool bk] 39)))
  have H0 := hid (hp.below ((Below.refl w.heap.size w).alloc (Nat.le_refl _) (.cells #[.int .i64 k, .int .i64 a, .int .i64 b, .slice ka kn kc, .int .i64 kd, .int .i64 ak, .string ky, .string vl, .string lo, .string hi, .int .i64 mo, .bool bk] 39)))
  have HL : Hid (kp.length ≤ 1048576) := by have := (Rw.len hp).1; show _ ≤ _; omega
  have CS := hid (fun k w => stepWord_any k w)
  have CN := hid (fun (n : Int) (w : World) (hw : GW w) => implNumText_any n w hw.tab)
  have CC := hid (fun w (hk : k = 1) hw => callWords_any kd ak ky vl lo hi mo bk w (hs hk) hw)
  have CW := hid (fun w h (hw : GW w) => wordsOfInt_any S ka kn kc kp w h hn hw.tab hw.g)
  clear hs hw hp
  generalize hU : w.alloc (.cells #[.int .i64 k, .int .i64 a, .int .i64 b, .slice ka kn kc, .int .i64 kd, .int .i64 ak, .string ky, .string vl, .string lo, .string hi, .int .i64 mo, .bool bk] 39) = U at *
  have HU := hid hU
  clear hU
  by_cases h5 : k = 5
  · subst h5
    rw [if_pos rfl, if_neg (show ¬ (5 : Int) = 1 by decide), if_neg (show ¬ (5 : Int) = 7 by decide)]
    try rw [List.append_nil]
    go_enter Tryd.func24, Tryd.ntmps24
    go_wp2_with fail
    rw [HU.out]
    have c0 := K0.out.cell (j := 0) rfl
    go_wp2_with fail
    refine (CS.out _ _).mono ?_
    rintro r v1 ⟨rfl, hb⟩
    clear c0
    have Bv1 := hid hb
    clear hb
    have Ba1 := hid (Bv1.out.alloc Bv1.out.size (.cells #[.string (sw 5)] 9))
    have Na1 := hid (OW.one (Bk.new v1 9 [.string (sw 5)]) Bv1.out.size)
    have Oa1 := hid Na1.out
    clear Na1
    have c0 := (K0.out.below Ba1.out).cell (j := 0) rfl
    go_wp2_with fail
    clear c0
    go_ret
    exact ⟨_, _, _, rfl, by have := Oa1.out.lower HUS.out; exact this, by have := Ba1.out; rw [← HU.out] at this; exact below_new this⟩
  by_cases h1 : k = 1
  · subst h1
    rw [if_neg h5, if_pos rfl]
    go_enter Tryd.func24, Tryd.ntmps24
    go_wp2_with fail
    rw [HU.out]
    have c0 := K0.out.cell (j := 0) rfl
    go_wp2_with fail
    refine (CS.out _ _).mono ?_
    rintro r v1 ⟨rfl, hb⟩
    clear c0
    have Bv1 := hid hb
    clear hb
    have Ba1 := hid (Bv1.out.alloc Bv1.out.size (.cells #[.string (sw 1)] 9))
    have Na1 := hid (OW.one (Bk.new v1 9 [.string (sw 1)]) Bv1.out.size)
    have Oa1 := hid Na1.out
    clear Na1
    have c0 := (K0.out.below Ba1.out).cell (j := 0) rfl
    have c1 := (K0.out.below Ba1.out).cell (j := 1) rfl
    go_wp2_with fail
    generalize v1.alloc (.cells #[.string (sw 1)] 9) = a1 at *
    generalize v1.heap.size = h1 at *
    refine (CN.out a _ (G0.out.to Ba1.out)).mono ?_
    rintro r v2 ⟨rfl, hb⟩
    clear c0 c1
    have Bv2 := hid (Ba1.out.trans (hb.mono Ba1.out.size))
    have Ov2 := hid (Oa1.out.below hb)
    clear hb
    have Ba2 := hid (Bv2.out.alloc Bv2.out.size (.cells #[.string (numS a)] 9))
    have Oa2 := hid (Ov2.out.below ((Below.refl v2.heap.size v2).alloc (Nat.le_refl _) (.cells #[.string (numS a)] 9)))
    have Na2 := hid (OW.one (Bk.new v2 9 [.string (numS a)]) Bv2.out.size)
    have hl : ([(sw 1)] : List ByteArray).length + [numS a].length ≤ 4194304 := by simp
    go_wp2_with (at_builtin; refine wpList_append_ws rfl _ _ rfl U.heap.size _ _ _ rfl Oa2.out _ _ rfl Na2.out hl Ba2.out.size ?_)
    intro av3 nv3 cv3 v3 hO hg _
    have Bv3 := hid (Ba2.out.trans ((only_of_grown hg (R := fun y => (Value.slice (some ⟨h1, 0, none⟩) 1 1).ownBlock = some y) (fun k q => q)).below Ba2.out.size (fun b hb q => by have := (World.ownsRow.lt Oa2.out b q).1; omega)))
    have Ov3 := hid hO
    clear hO hg hl Oa2
    have c0 := (K0.out.below Bv3.out).cell (j := 0) rfl
    have c4 := (K0.out.below Bv3.out).cell (j := 4) rfl
    have c5 := (K0.out.below Bv3.out).cell (j := 5) rfl
    have c6 := (K0.out.below Bv3.out).cell (j := 6) rfl
    have c7 := (K0.out.below Bv3.out).cell (j := 7) rfl
    have c8 := (K0.out.below Bv3.out).cell (j := 8) rfl
    have c9 := (K0.out.below Bv3.out).cell (j := 9) rfl
    have c10 := (K0.out.below Bv3.out).cell (j := 10) rfl
    have c11 := (K0.out.below Bv3.out).cell (j := 11) rfl
    go_wp2_with fail
    refine (CC.out _ (by first | trivial | rfl) (G0.out.to Bv3.out)).mono ?_
    rintro r v4 ⟨xa, xn, xc, rfl, hO1, hb⟩
    clear c0 c4 c5 c6 c7 c8 c9 c10 c11
    have Bv4 := hid (Bv3.out.trans (hb.mono Bv3.out.size))
    have Ov4 := hid (Ov3.out.below hb)
    clear hb
    have Nv4 := hid hO1
    clear hO1
    have hl : ([sw 1] ++ [numS a] : List ByteArray).length + (clW kd ak ky vl lo hi mo bk).length ≤ 4194304 := by have := clW_len kd ak ky vl lo hi mo bk; simp; omega
    go_wp2_with (at_builtin; refine wpList_append_ws rfl _ _ rfl U.heap.size _ _ _ rfl Ov4.out _ _ rfl Nv4.out hl Bv4.out.size ?_)
    intro av5 nv5 cv5 v5 hO hg _
    have Bv5 := hid (Bv4.out.trans ((only_of_grown hg (R := fun y => (Value.slice av3 nv3 cv3).ownBlock = some y) (fun k q => q)).below Bv4.out.size (fun b hb q => by have := (World.ownsRow.lt Ov4.out b q).1; omega)))
    have Ov5 := hid hO
    clear hO hg hl Ov4
    go_wp2
    go_ret
    exact ⟨_, _, _, rfl, by have := Ov5.out.lower HUS.out; simpa using this, by have := Bv5.out; rw [← HU.out] at this; exact below_new this⟩
  by_cases h7 : k = 7
  · subst h7
    rw [if_neg h5, if_neg h1, if_pos rfl]
    go_enter Tryd.func24, Tryd.ntmps24
    go_wp2_with fail
    rw [HU.out]
    have c0 := K0.out.cell (j := 0) rfl
    go_wp2_with fail
    refine (CS.out _ _).mono ?_
    rintro r v1 ⟨rfl, hb⟩
    clear c0
    have Bv1 := hid hb
    clear hb
    have Ba1 := hid (Bv1.out.alloc Bv1.out.size (.cells #[.string (sw 7)] 9))
    have Na1 := hid (OW.one (Bk.new v1 9 [.string (sw 7)]) Bv1.out.size)
    have Oa1 := hid Na1.out
    clear Na1
    have c0 := (K0.out.below Ba1.out).cell (j := 0) rfl
    have c1 := (K0.out.below Ba1.out).cell (j := 1) rfl
    go_wp2_with fail
    generalize v1.alloc (.cells #[.string (sw 7)] 9) = a1 at *
    generalize v1.heap.size = h1 at *
    refine (CN.out a _ (G0.out.to Ba1.out)).mono ?_
    rintro r v2 ⟨rfl, hb⟩
    clear c0 c1
    have Bv2 := hid (Ba1.out.trans (hb.mono Ba1.out.size))
    have Ov2 := hid (Oa1.out.below hb)
    clear hb
    have Ba2 := hid (Bv2.out.alloc Bv2.out.size (.cells #[.string (numS a)] 9))
    have Oa2 := hid (Ov2.out.below ((Below.refl v2.heap.size v2).alloc (Nat.le_refl _) (.cells #[.string (numS a)] 9)))
    have Na2 := hid (OW.one (Bk.new v2 9 [.string (numS a)]) Bv2.out.size)
    have hl : ([(sw 7)] : List ByteArray).length + [numS a].length ≤ 4194304 := by simp
    go_wp2_with (at_builtin; refine wpList_append_ws rfl _ _ rfl U.heap.size _ _ _ rfl Oa2.out _ _ rfl Na2.out hl Ba2.out.size ?_)
    intro av3 nv3 cv3 v3 hO hg _
    have Bv3 := hid (Ba2.out.trans ((only_of_grown hg (R := fun y => (Value.slice (some ⟨h1, 0, none⟩) 1 1).ownBlock = some y) (fun k q => q)).below Ba2.out.size (fun b hb q => by have := (World.ownsRow.lt Oa2.out b q).1; omega)))
    have Ov3 := hid hO
    clear hO hg hl Oa2
    have c0 := (K0.out.below Bv3.out).cell (j := 0) rfl
    have c2 := (K0.out.below Bv3.out).cell (j := 2) rfl
    go_wp2_with fail
    refine (CN.out b _ (G0.out.to Bv3.out)).mono ?_
    rintro r v4 ⟨rfl, hb⟩
    clear c0 c2
    have Bv4 := hid (Bv3.out.trans (hb.mono Bv3.out.size))
    have Ov4 := hid (Ov3.out.below hb)
    clear hb
    have Ba4 := hid (Bv4.out.alloc Bv4.out.size (.cells #[.string (numS b)] 9))
    have Oa4 := hid (Ov4.out.below ((Below.refl v4.heap.size v4).alloc (Nat.le_refl _) (.cells #[.string (numS b)] 9)))
    have Na4 := hid (OW.one (Bk.new v4 9 [.string (numS b)]) Bv4.out.size)
    have hl : ([sw 7] ++ [numS a] : List ByteArray).length + [numS b].length ≤ 4194304 := by simp
    go_wp2_with (at_builtin; refine wpList_append_ws rfl _ _ rfl U.heap.size _ _ _ rfl Oa4.out _ _ rfl Na4.out hl Ba4.out.size ?_)
    intro av5 nv5 cv5 v5 hO hg _
    have Bv5 := hid (Ba4.out.trans ((only_of_grown hg (R := fun y => (Value.slice av3 nv3 cv3).ownBlock = some y) (fun k q => q)).below Ba4.out.size (fun b hb q => by have := (World.ownsRow.lt Oa4.out b q).1; omega)))
    have Ov5 := hid hO
    clear hO hg hl Oa4
    have c3 := (K0.out.below Bv5.out).cell (j := 3) rfl
    go_wp2_with fail
    refine (CW.out _ (H0.out.below Bv5.out) (G0.out.to Bv5.out)).mono ?_
    rintro r v6 ⟨xa, xn, xc, rfl, hO1, hb⟩
    clear c3
    have Bv6 := hid (Bv5.out.trans (hb.mono Bv5.out.size))
    have Ov6 := hid (Ov5.out.below hb)
    clear hb
    have Nv6 := hid hO1
    clear hO1
    have hl : ([sw 7] ++ [numS a] ++ [numS b] : List ByteArray).length + (kp.map numS).length ≤ 4194304 := by have := HL.out; simp; omega
    go_wp2_with (at_builtin; refine wpList_append_ws rfl _ _ rfl U.heap.size _ _ _ rfl Ov6.out _ _ rfl Nv6.out hl Bv6.out.size ?_)
    intro av7 nv7 cv7 v7 hO hg _
    have Bv7 := hid (Bv6.out.trans ((only_of_grown hg (R := fun y => (Value.slice av5 nv5 cv5).ownBlock = some y) (fun k q => q)).below Bv6.out.size (fun b hb q => by have := (World.ownsRow.lt Ov6.out b q).1; omega)))
    have Ov7 := hid hO
    clear hO hg hl Ov6
    go_wp2
    go_ret
    exact ⟨_, _, _, rfl, by have := Ov7.out.lower HUS.out; simpa using this, by have := Bv7.out; rw [← HU.out] at this; exact below_new this⟩
  · rw [if_neg h5, if_neg h1, if_neg h7]
    go_enter Tryd.func24, Tryd.ntmps24
    go_wp2_with fail
    rw [HU.out]
    have c0 := K0.out.cell (j := 0) rfl
    go_wp2_with fail
    refine (CS.out _ _).mono ?_
    rintro r v1 ⟨rfl, hb⟩
    clear c0
    have Bv1 := hid hb
    clear hb
    have Ba1 := hid (Bv1.out.alloc Bv1.out.size (.cells #[.string (sw k)] 9))
    have Na1 := hid (OW.one (Bk.new v1 9 [.string (sw k)]) Bv1.out.size)
    have Oa1 := hid Na1.out
    clear Na1
    have c0 := (K0.out.below Ba1.out).cell (j := 0) rfl
    have c1 := (K0.out.below Ba1.out).cell (j := 1) rfl
    go_wp2_with fail
    generalize v1.alloc (.cells #[.string (sw k)] 9) = a1 at *
    generalize v1.heap.size = h1 at *
    refine (CN.out a _ (G0.out.to Ba1.out)).mono ?_
    rintro r v2 ⟨rfl, hb⟩
    clear c0 c1
    have Bv2 := hid (Ba1.out.trans (hb.mono Ba1.out.size))
    have Ov2 := hid (Oa1.out.below hb)
    clear hb
    have Ba2 := hid (Bv2.out.alloc Bv2.out.size (.cells #[.string (numS a)] 9))
    have Oa2 := hid (Ov2.out.below ((Below.refl v2.heap.size v2).alloc (Nat.le_refl _) (.cells #[.string (numS a)] 9)))
    have Na2 := hid (OW.one (Bk.new v2 9 [.string (numS a)]) Bv2.out.size)
    have hl : ([(sw k)] : List ByteArray).length + [numS a].length ≤ 4194304 := by simp
    go_wp2_with (at_builtin; refine wpList_append_ws rfl _ _ rfl U.heap.size _ _ _ rfl Oa2.out _ _ rfl Na2.out hl Ba2.out.size ?_)
    intro av3 nv3 cv3 v3 hO hg _
    have Bv3 := hid (Ba2.out.trans ((only_of_grown hg (R := fun y => (Value.slice (some ⟨h1, 0, none⟩) 1 1).ownBlock = some y) (fun k q => q)).below Ba2.out.size (fun b hb q => by have := (World.ownsRow.lt Oa2.out b q).1; omega)))
    have Ov3 := hid hO
    clear hO hg hl Oa2
    have c0 := (K0.out.below Bv3.out).cell (j := 0) rfl
    go_wp2_with fail
    clear c0
    go_ret
    exact ⟨_, _, _, rfl, by have := Ov3.out.lower HUS.out; exact this, by have := Bv3.out; rw [← HU.out] at this; exact below_new this⟩
end Go.Proofs.YtjddkofpfmjojaaDoor
/-
  == of calls; isWritten, lineOf and StepText of the program.
-/
namespace Go.Proofs.YtjddkofpfmjojaaDoor
open Go.RowKit
set_option linter.unusedVariables false
theorem eqIn_rngF (n : Nat) (lo hi lo' hi' : ByteArray) (w : World) : (Op.equalIn (n + 2) 33 (.agg #[.string lo, .string hi]) (.agg #[.string lo', .string hi'])).run Tryd.prog w = .ok (lo.toList == lo'.toList && hi.toList == hi'.toList) w := by
  rw [run_equalIn_struct w (n + 1) 33 _ _ (by kernel_rfl) (by kernel_rfl)]
  obtain ⟨f0, f1, hu, n0, n1, t0, t1, o0, o1⟩ : ∃ f0 f1 : Field, Tryd.prog.underlying 33 = some (.struct #[f0, f1]) ∧ f0.name = "Lo" ∧ f1.name = "Hi" ∧ f0.type = 9 ∧ f1.type = 9 ∧ f0.offset = 0 ∧ f1.offset = 1 := ⟨_, _, Tryd.underlying33, rfl, rfl, rfl, rfl, rfl, rfl⟩
  have hl : (Tryd.prog.fieldsOf 33).toList = [f0, f1] := by simp [Program.fieldsOf, hu]
  rw [hl]
  have p0 : ∀ (x y : Value) (w : World), (Go.part 9 #[x, y] 0).run Tryd.prog w = .ok x w := fun x y w => by kernel_rfl
  have p1 : ∀ (x y : Value) (w : World), (Go.part 9 #[x, y] 1).run Tryd.prog w = .ok y w := fun x y w => by kernel_rfl
  have hs : ∀ (a b : ByteArray) (w : World), (Op.equalIn (n + 1) 9 (.string a) (.string b)).run Tryd.prog w = .ok (a.toList == b.toList) w := fun a b w => run_equalIn_string w n 9 a b (by kernel_rfl)
  have q0 : ("Lo" : String) ≠ "_" := by decide
  have q1 : ("Hi" : String) ≠ "_" := by decide
  simp only [Op.eqFields, n0, n1, t0, t1, o0, o1, if_pos q0, if_pos q1, Sem.run_bind, p0, p1, hs, Result.andThen_ok, Sem.run_ite, Sem.run_pure]
  cases h0 : (lo.toList == lo'.toList)
  · simp
  · cases h1 : (hi.toList == hi'.toList) <;> simp
theorem eqIn_askF (n : Nat) (k : Int) (ky vl lo hi : ByteArray) (mo : Int) (bk : Bool) (k' : Int) (ky' : ByteArray) (vl' : ByteArray) (lo' : ByteArray) (hi' : ByteArray) (mo' : Int) (bk' : Bool) (w : World) : (Op.equalIn (n + 3) 35 (.agg #[.int .i64 k, .string ky, .string vl, .string lo, .string hi, .int .i64 mo, .bool bk]) (.agg #[.int .i64 k', .string ky', .string vl', .string lo', .string hi', .int .i64 mo', .bool bk'])).run Tryd.prog w = .ok ((k == k') && (ky.toList == ky'.toList && (vl.toList == vl'.toList && ((lo.toList == lo'.toList && hi.toList == hi'.toList) && (mo == mo' && bk == bk'))))) w := by
  rw [run_equalIn_struct w (n + 2) 35 _ _ (by kernel_rfl) (by kernel_rfl)]
  obtain ⟨f0, f1, f2, f3, f4, f5, hu, n0, n1, n2, n3, n4, n5, t0, t1, t2, t3, t4, t5, o0, o1, o2, o3, o4, o5⟩ : ∃ f0 f1 f2 f3 f4 f5 : Field, Tryd.prog.underlying 35 = some (.struct #[f0, f1, f2, f3, f4, f5]) ∧ f0.name = "Kind" ∧ f1.name = "Key" ∧ f2.name = "Val" ∧ f3.name = "Range" ∧ f4.name = "Most" ∧ f5.name = "Back" ∧ f0.type = 3 ∧ f1.type = 9 ∧ f2.type = 9 ∧ f3.type = 33 ∧ f4.type = 3 ∧ f5.type = 4 ∧ f0.offset = 0 ∧ f1.offset = 1 ∧ f2.offset = 2 ∧ f3.offset = 3 ∧ f4.offset = 5 ∧ f5.offset = 6 := ⟨_, _, _, _, _, _, Tryd.underlying35, rfl, rfl, rfl, rfl, rfl, rfl, rfl, rfl, rfl, rfl, rfl, rfl, rfl, rfl, rfl, rfl, rfl, rfl⟩
  have hl : (Tryd.prog.fieldsOf 35).toList = [f0, f1, f2, f3, f4, f5] := by simp [Program.fieldsOf, hu]
  rw [hl]
  have p0 : ∀ (x0 x1 x2 x3 x4 x5 x6 : Value) (w : World), (Go.part 3 #[x0, x1, x2, x3, x4, x5, x6] 0).run Tryd.prog w = .ok x0 w := fun x0 x1 x2 x3 x4 x5 x6 w => by kernel_rfl
  have p1 : ∀ (x0 x1 x2 x3 x4 x5 x6 : Value) (w : World), (Go.part 9 #[x0, x1, x2, x3, x4, x5, x6] 1).run Tryd.prog w = .ok x1 w := fun x0 x1 x2 x3 x4 x5 x6 w => by kernel_rfl
  have p2 : ∀ (x0 x1 x2 x3 x4 x5 x6 : Value) (w : World), (Go.part 9 #[x0, x1, x2, x3, x4, x5, x6] 2).run Tryd.prog w = .ok x2 w := fun x0 x1 x2 x3 x4 x5 x6 w => by kernel_rfl
  have p3 : ∀ (x0 x1 x2 x3 x4 x5 x6 : Value) (w : World), (Go.part 33 #[x0, x1, x2, x3, x4, x5, x6] 3).run Tryd.prog w = .ok (.agg #[x3, x4]) w := fun x0 x1 x2 x3 x4 x5 x6 w => by kernel_rfl
  have p4 : ∀ (x0 x1 x2 x3 x4 x5 x6 : Value) (w : World), (Go.part 3 #[x0, x1, x2, x3, x4, x5, x6] 5).run Tryd.prog w = .ok x5 w := fun x0 x1 x2 x3 x4 x5 x6 w => by kernel_rfl
  have p5 : ∀ (x0 x1 x2 x3 x4 x5 x6 : Value) (w : World), (Go.part 4 #[x0, x1, x2, x3, x4, x5, x6] 6).run Tryd.prog w = .ok x6 w := fun x0 x1 x2 x3 x4 x5 x6 w => by kernel_rfl
  have hin : ∀ (a b : Int) (w : World), (Op.equalIn (n + 2) 3 (.int .i64 a) (.int .i64 b)).run Tryd.prog w = .ok (a == b) w := fun a b w => run_equalIn_int w (n + 1) 3 .i64 .i64 a b (by kernel_rfl)
  have hs : ∀ (a b : ByteArray) (w : World), (Op.equalIn (n + 2) 9 (.string a) (.string b)).run Tryd.prog w = .ok (a.toList == b.toList) w := fun a b w => run_equalIn_string w (n + 1) 9 a b (by kernel_rfl)
  have hbo : ∀ (a b : Bool) (w : World), (Op.equalIn (n + 2) 4 (.bool a) (.bool b)).run Tryd.prog w = .ok (a == b) w := fun a b w => run_equalIn_bool' w (n + 1) 4 a b (by kernel_rfl)
  have q0 : ("Kind" : String) ≠ "_" := by decide
  have q1 : ("Key" : String) ≠ "_" := by decide
  have q2 : ("Val" : String) ≠ "_" := by decide
  have q3 : ("Range" : String) ≠ "_" := by decide
  have q4 : ("Most" : String) ≠ "_" := by decide
  have q5 : ("Back" : String) ≠ "_" := by decide
  simp only [Op.eqFields, n0, t0, o0, if_pos q0, n1, t1, o1, if_pos q1, n2, t2, o2, if_pos q2, n3, t3, o3, if_pos q3, n4, t4, o4, if_pos q4, n5, t5, o5, if_pos q5, Sem.run_bind, p0, p1, p2, p3, p4, p5, hin, hs, hbo, eqIn_rngF, Result.andThen_ok, Sem.run_ite, Sem.run_pure]
  generalize (k == k') = b0
  generalize (ky.toList == ky'.toList) = b1
  generalize (vl.toList == vl'.toList) = b2
  generalize (lo.toList == lo'.toList && hi.toList == hi'.toList) = b3
  generalize (mo == mo') = b4
  generalize (bk == bk') = b5
  cases b0 <;> cases b1 <;> cases b2 <;> cases b3 <;> cases b4 <;> cases b5 <;> first | rfl | simp
theorem eqIn_call (kd ak : Int) (ky vl lo hi : ByteArray) (mo : Int) (bk : Bool) (kd' ak' : Int) (ky' vl' lo' hi' : ByteArray) (mo' : Int) (bk' : Bool) (w : World) : (Op.equalIn 10000 37 (.agg #[.int .i64 kd, .int .i64 ak, .string ky, .string vl, .string lo, .string hi, .int .i64 mo, .bool bk]) (.agg #[.int .i64 kd', .int .i64 ak', .string ky', .string vl', .string lo', .string hi', .int .i64 mo', .bool bk'])).run Tryd.prog w = .ok ((kd == kd') && ((ak == ak') && (ky.toList == ky'.toList && (vl.toList == vl'.toList && ((lo.toList == lo'.toList && hi.toList == hi'.toList) && (mo == mo' && bk == bk')))))) w := by
  rw [run_equalIn_struct w 9999 37 _ _ (by kernel_rfl) (by kernel_rfl)]
  obtain ⟨f0, f1, hu, n0, n1, t0, t1, o0, o1⟩ : ∃ f0 f1 : Field, Tryd.prog.underlying 37 = some (.struct #[f0, f1]) ∧ f0.name = "Kind" ∧ f1.name = "Ask" ∧ f0.type = 3 ∧ f1.type = 35 ∧ f0.offset = 0 ∧ f1.offset = 1 := ⟨_, _, Tryd.underlying37, rfl, rfl, rfl, rfl, rfl, rfl⟩
  have hl : (Tryd.prog.fieldsOf 37).toList = [f0, f1] := by simp [Program.fieldsOf, hu]
  rw [hl]
  have p0 : ∀ (x0 x1 x2 x3 x4 x5 x6 x7 : Value) (w : World), (Go.part 3 #[x0, x1, x2, x3, x4, x5, x6, x7] 0).run Tryd.prog w = .ok x0 w := fun x0 x1 x2 x3 x4 x5 x6 x7 w => by kernel_rfl
  have p1 : ∀ (x0 x1 x2 x3 x4 x5 x6 x7 : Value) (w : World), (Go.part 35 #[x0, x1, x2, x3, x4, x5, x6, x7] 1).run Tryd.prog w = .ok (.agg #[x1, x2, x3, x4, x5, x6, x7]) w := fun x0 x1 x2 x3 x4 x5 x6 x7 w => by kernel_rfl
  have hin : ∀ (a b : Int) (w : World), (Op.equalIn 9999 3 (.int .i64 a) (.int .i64 b)).run Tryd.prog w = .ok (a == b) w := fun a b w => run_equalIn_int w 9998 3 .i64 .i64 a b (by kernel_rfl)
  have q0 : ("Kind" : String) ≠ "_" := by decide
  have q1 : ("Ask" : String) ≠ "_" := by decide
  have ha := fun (k : Int) (ky vl lo hi : ByteArray) (mo : Int) (bk : Bool) (k' : Int) (ky' vl' lo' hi' : ByteArray) (mo' : Int) (bk' : Bool) (w : World) => eqIn_askF 9996 k ky vl lo hi mo bk k' ky' vl' lo' hi' mo' bk' w
  simp only [Nat.reduceAdd] at ha
  simp only [Op.eqFields, n0, t0, o0, if_pos q0, n1, t1, o1, if_pos q1, Sem.run_bind, p0, p1, hin, ha, Result.andThen_ok, Sem.run_ite, Sem.run_pure]
  generalize (kd == kd') = b0
  generalize ((ak == ak') && (ky.toList == ky'.toList && (vl.toList == vl'.toList && ((lo.toList == lo'.toList && hi.toList == hi'.toList) && (mo == mo' && bk == bk'))))) = b1
  cases b0 <;> cases b1 <;> first | rfl | simp
theorem eql_callZ (kd ak : Int) (ky vl lo hi : ByteArray) (mo : Int) (bk : Bool) (w : World) : (binOp .eql 37 (.agg #[.int .i64 kd, .int .i64 ak, .string ky, .string vl, .string lo, .string hi, .int .i64 mo, .bool bk]) (.agg #[.int .i64 0, .int .i64 0, .string ⟨#[]⟩, .string ⟨#[]⟩, .string ⟨#[]⟩, .string ⟨#[]⟩, .int .i64 0, .bool false])).run Tryd.prog w = .ok (.bool (clZ kd ak ky vl lo hi mo bk)) w := by
  rw [run_eql_struct, eqIn_call, isE_beq, isE_beq, isE_beq, isE_beq]
  unfold clZ akZ
  cases bk <;> rfl
theorem guard_call (op : BinOp) (x y : Operand) (xs ys : Array Value) (w : World) : (eqGuard op 37 x y (.agg xs) (.agg ys)).run Tryd.prog w = .ok () w := run_eqGuard_agg w op 37 x y xs ys (by kernel_rfl)
theorem wr_1 (a b : Int) (kp : List Int) (kd ak : Int) (ky vl lo hi : ByteArray) (mo : Int) (bk : Bool) : stWr ⟨1, a, b, kp, kd, ak, ky, vl, lo, hi, mo, bk⟩ = (decide (b = 0) && (decide (kp = []) && clOk kd ak ky vl lo hi mo bk)) := rfl
theorem wr_7 (a b : Int) (kp : List Int) (kd ak : Int) (ky vl lo hi : ByteArray) (mo : Int) (bk : Bool) : stWr ⟨7, a, b, kp, kd, ak, ky, vl, lo, hi, mo, bk⟩ = clZ kd ak ky vl lo hi mo bk := rfl
theorem wr_e {k : Int} (h1 : ¬ k = 1) (h7 : ¬ k = 7) (a b : Int) (kp : List Int) (kd ak : Int) (ky vl lo hi : ByteArray) (mo : Int) (bk : Bool) : stWr ⟨k, a, b, kp, kd, ak, ky, vl, lo, hi, mo, bk⟩ = ((decide (k ≠ 5) || decide (a = 0)) && (decide (b = 0) && (decide (kp = []) && clZ kd ak ky vl lo hi mo bk))) := by
  unfold stWr
  dsimp only
  rw [if_neg h1, if_neg h7]
set_option maxHeartbeats 4000000 in
theorem isWritten_any (S : Nat → Prop) (k a b : Int) (ka : Option Addr) (kn kc : Nat) (kp : List Int) (kd ak : Int) (ky vl lo hi : ByteArray) (mo : Int) (bk : Bool) (w : World) (hp : Ir w S (.slice ka kn kc) kp) :
    Calls Tryd.prog 23 #[.agg #[.int .i64 k, .int .i64 a, .int .i64 b, .slice ka kn kc, .int .i64 kd, .int .i64 ak, .string ky, .string vl, .string lo, .string hi, .int .i64 mo, .bool bk]] w fun e w' => e = .returned (.bool (stWr ⟨k, a, b, kp, kd, ak, ky, vl, lo, hi, mo, bk⟩)) ∧ Below w.heap.size w w' := by
  have B0 := hid (below_new (o := .cells #[.int .i64 k, .int .i64 a, .int .i64 b, .slice ka kn kc, .int .i64 kd, .int .i64 ak, .string ky, .string vl, .string lo, .string hi, .int .i64 mo, .bool bk] 39) (w := w) (Below.refl _ _))
  have K0 := hid (Bk.new w 39 [.int .i64 k, .int .i64 a, .int .i64 b, .slice ka kn kc, .int .i64 kd, .int .i64 ak, .string ky, .string vl, .string lo, .string hi, .int .i64 mo, .bool bk])
  have hkn : (kp = []) ↔ kn = 0 := by rw [(Rw.len hp).1]; exact List.length_eq_zero_iff.symm
  have C1 := hid (fun w => implCallOk_any kd ak ky vl lo hi mo bk w)
  have HE := hid (fun w => eql_callZ kd ak ky vl lo hi mo bk w)
  have hg := guard_call .eql
  have KN := hid hkn
  clear hp hkn
  generalize hU : w.alloc (.cells #[.int .i64 k, .int .i64 a, .int .i64 b, .slice ka kn kc, .int .i64 kd, .int .i64 ak, .string ky, .string vl, .string lo, .string hi, .int .i64 mo, .bool bk] 39) = U at *
  have HU := hid hU
  clear hU
  by_cases h1 : k = 1
  · subst h1
    have HV := hid (wr_1 a b kp kd ak ky vl lo hi mo bk)
    generalize stWr ⟨1, a, b, kp, kd, ak, ky, vl, lo, hi, mo, bk⟩ = z0 at *
    by_cases hb : b = 0
    · by_cases hk : kn = 0
      · subst hb hk
        have HP := hid (KN.out.2 rfl)
        generalize clOk kd ak ky vl lo hi mo bk = z1 at *
        have c0 := K0.out.cell (j := 0) rfl
        have c2 := K0.out.cell (j := 2) rfl
        have c3 := K0.out.cell (j := 3) rfl
        have c4 := K0.out.cell (j := 4) rfl
        have c5 := K0.out.cell (j := 5) rfl
        have c6 := K0.out.cell (j := 6) rfl
        have c7 := K0.out.cell (j := 7) rfl
        have c8 := K0.out.cell (j := 8) rfl
        have c9 := K0.out.cell (j := 9) rfl
        have c10 := K0.out.cell (j := 10) rfl
        have c11 := K0.out.cell (j := 11) rfl
        go_enter Tryd.func23, Tryd.ntmps23
        go_wp2_with fail
        rw [HU.out]
        go_wp2_with fail
        refine (C1.out _).mono ?_
        rintro r w1 ⟨rfl, hb⟩
        have B1 := hid (B0.out.trans (hb.mono B0.out.size))
        clear hb
        go_wp2
        go_ret
        exact ⟨by rw [HV.out, HP.out]; rfl, B1.out⟩
      · have HP : Hid (decide (kp = []) = false) := decide_eq_false (fun e => hk (KN.out.1 e))
        have hk' : ¬ (kn : Int) = 0 := by omega
        subst hb
        have c0 := K0.out.cell (j := 0) rfl
        have c2 := K0.out.cell (j := 2) rfl
        have c3 := K0.out.cell (j := 3) rfl
        have c4 := K0.out.cell (j := 4) rfl
        have c5 := K0.out.cell (j := 5) rfl
        have c6 := K0.out.cell (j := 6) rfl
        have c7 := K0.out.cell (j := 7) rfl
        have c8 := K0.out.cell (j := 8) rfl
        have c9 := K0.out.cell (j := 9) rfl
        have c10 := K0.out.cell (j := 10) rfl
        have c11 := K0.out.cell (j := 11) rfl
        go_enter Tryd.func23, Tryd.ntmps23
        go_wp2_with fail
        rw [HU.out]
        go_wp2
        go_ret
        exact ⟨by rw [HV.out, HP.out]; simp, B0.out⟩
    · have HP : Hid (decide (b = 0) = false) := decide_eq_false hb
      have c0 := K0.out.cell (j := 0) rfl
      have c2 := K0.out.cell (j := 2) rfl
      have c3 := K0.out.cell (j := 3) rfl
      have c4 := K0.out.cell (j := 4) rfl
      have c5 := K0.out.cell (j := 5) rfl
      have c6 := K0.out.cell (j := 6) rfl
      have c7 := K0.out.cell (j := 7) rfl
      have c8 := K0.out.cell (j := 8) rfl
      have c9 := K0.out.cell (j := 9) rfl
      have c10 := K0.out.cell (j := 10) rfl
      have c11 := K0.out.cell (j := 11) rfl
      go_enter Tryd.func23, Tryd.ntmps23
      go_wp2_with fail
      rw [HU.out]
      go_wp2
      go_ret
      exact ⟨by rw [HV.out, HP.out]; rfl, B0.out⟩
  by_cases h7 : k = 7
  · subst h7
    have HV := hid (wr_7 a b kp kd ak ky vl lo hi mo bk)
    generalize stWr ⟨7, a, b, kp, kd, ak, ky, vl, lo, hi, mo, bk⟩ = z0 at *
    have hq := HE.out
    generalize clZ kd ak ky vl lo hi mo bk = z1 at *
    have c0 := K0.out.cell (j := 0) rfl
    have c4 := K0.out.cell (j := 4) rfl
    have c5 := K0.out.cell (j := 5) rfl
    have c6 := K0.out.cell (j := 6) rfl
    have c7 := K0.out.cell (j := 7) rfl
    have c8 := K0.out.cell (j := 8) rfl
    have c9 := K0.out.cell (j := 9) rfl
    have c10 := K0.out.cell (j := 10) rfl
    have c11 := K0.out.cell (j := 11) rfl
    go_enter Tryd.func23, Tryd.ntmps23
    go_wp2_with fail
    rw [HU.out]
    go_wp2
    go_ret
    exact ⟨by rw [HV.out]; rfl, B0.out⟩
  have HV := hid (wr_e h1 h7 a b kp kd ak ky vl lo hi mo bk)
  generalize stWr ⟨k, a, b, kp, kd, ak, ky, vl, lo, hi, mo, bk⟩ = z0 at *
  by_cases h5 : k = 5 ∧ ¬ a = 0
  · obtain ⟨rfl, ha⟩ := h5
    have HP : Hid (decide (a = 0) = false) := decide_eq_false ha
    have c0 := K0.out.cell (j := 0) rfl
    have c1 := K0.out.cell (j := 1) rfl
    go_enter Tryd.func23, Tryd.ntmps23
    go_wp2_with fail
    rw [HU.out]
    go_wp2
    go_ret
    exact ⟨by rw [HV.out]; rw [HP.out]; rfl, B0.out⟩
  have H5 : Hid ((decide (k ≠ 5) || decide (a = 0)) = true) := by
    show _ = true
    simp only [Bool.or_eq_true, decide_eq_true_eq]
    by_cases q : k = 5
    · exact .inr (Classical.byContradiction fun r => h5 ⟨q, r⟩)
    · exact .inl q
  have h5' : k = 5 → a = 0 := fun q => Classical.byContradiction fun r => h5 ⟨q, r⟩
  have hq := HE.out
  by_cases hb : b = 0
  · by_cases hk : kn = 0
    · subst hb hk
      have HP := hid (KN.out.2 rfl)
      generalize clZ kd ak ky vl lo hi mo bk = z1 at *
      by_cases hk5 : k = 5
      · obtain rfl := h5' hk5
        subst hk5
        have c0 := K0.out.cell (j := 0) rfl
        have c1 := K0.out.cell (j := 1) rfl
        have c2 := K0.out.cell (j := 2) rfl
        have c3 := K0.out.cell (j := 3) rfl
        have c4 := K0.out.cell (j := 4) rfl
        have c5 := K0.out.cell (j := 5) rfl
        have c6 := K0.out.cell (j := 6) rfl
        have c7 := K0.out.cell (j := 7) rfl
        have c8 := K0.out.cell (j := 8) rfl
        have c9 := K0.out.cell (j := 9) rfl
        have c10 := K0.out.cell (j := 10) rfl
        have c11 := K0.out.cell (j := 11) rfl
        go_enter Tryd.func23, Tryd.ntmps23
        go_wp2_with fail
        rw [HU.out]
        go_wp2
        go_ret
        exact ⟨by rw [HV.out, HP.out]; rfl, B0.out⟩
      · clear h5 h5'
        have c0 := K0.out.cell (j := 0) rfl
        have c1 := K0.out.cell (j := 1) rfl
        have c2 := K0.out.cell (j := 2) rfl
        have c3 := K0.out.cell (j := 3) rfl
        have c4 := K0.out.cell (j := 4) rfl
        have c5 := K0.out.cell (j := 5) rfl
        have c6 := K0.out.cell (j := 6) rfl
        have c7 := K0.out.cell (j := 7) rfl
        have c8 := K0.out.cell (j := 8) rfl
        have c9 := K0.out.cell (j := 9) rfl
        have c10 := K0.out.cell (j := 10) rfl
        have c11 := K0.out.cell (j := 11) rfl
        go_enter Tryd.func23, Tryd.ntmps23
        go_wp2_with fail
        rw [HU.out]
        go_wp2
        go_ret
        exact ⟨by rw [HV.out, H5.out, HP.out]; rfl, B0.out⟩
    · have HP : Hid (decide (kp = []) = false) := decide_eq_false (fun e => hk (KN.out.1 e))
      have hk' : ¬ (kn : Int) = 0 := by omega
      subst hb
      clear hq
      by_cases hk5 : k = 5
      · obtain rfl := h5' hk5
        subst hk5
        have c0 := K0.out.cell (j := 0) rfl
        have c1 := K0.out.cell (j := 1) rfl
        have c2 := K0.out.cell (j := 2) rfl
        have c3 := K0.out.cell (j := 3) rfl
        have c4 := K0.out.cell (j := 4) rfl
        have c5 := K0.out.cell (j := 5) rfl
        have c6 := K0.out.cell (j := 6) rfl
        have c7 := K0.out.cell (j := 7) rfl
        have c8 := K0.out.cell (j := 8) rfl
        have c9 := K0.out.cell (j := 9) rfl
        have c10 := K0.out.cell (j := 10) rfl
        have c11 := K0.out.cell (j := 11) rfl
        go_enter Tryd.func23, Tryd.ntmps23
        go_wp2_with fail
        rw [HU.out]
        go_wp2
        go_ret
        exact ⟨by rw [HV.out, HP.out]; simp, B0.out⟩
      · clear h5 h5'
        have c0 := K0.out.cell (j := 0) rfl
        have c1 := K0.out.cell (j := 1) rfl
        have c2 := K0.out.cell (j := 2) rfl
        have c3 := K0.out.cell (j := 3) rfl
        have c4 := K0.out.cell (j := 4) rfl
        have c5 := K0.out.cell (j := 5) rfl
        have c6 := K0.out.cell (j := 6) rfl
        have c7 := K0.out.cell (j := 7) rfl
        have c8 := K0.out.cell (j := 8) rfl
        have c9 := K0.out.cell (j := 9) rfl
        have c10 := K0.out.cell (j := 10) rfl
        have c11 := K0.out.cell (j := 11) rfl
        go_enter Tryd.func23, Tryd.ntmps23
        go_wp2_with fail
        rw [HU.out]
        go_wp2
        go_ret
        exact ⟨by rw [HV.out, HP.out]; simp, B0.out⟩
  · have HP : Hid (decide (b = 0) = false) := decide_eq_false hb
    clear hq
    by_cases hk5 : k = 5
    · obtain rfl := h5' hk5
      subst hk5
      have c0 := K0.out.cell (j := 0) rfl
      have c1 := K0.out.cell (j := 1) rfl
      have c2 := K0.out.cell (j := 2) rfl
      have c3 := K0.out.cell (j := 3) rfl
      have c4 := K0.out.cell (j := 4) rfl
      have c5 := K0.out.cell (j := 5) rfl
      have c6 := K0.out.cell (j := 6) rfl
      have c7 := K0.out.cell (j := 7) rfl
      have c8 := K0.out.cell (j := 8) rfl
      have c9 := K0.out.cell (j := 9) rfl
      have c10 := K0.out.cell (j := 10) rfl
      have c11 := K0.out.cell (j := 11) rfl
      go_enter Tryd.func23, Tryd.ntmps23
      go_wp2_with fail
      rw [HU.out]
      go_wp2
      go_ret
      exact ⟨by rw [HV.out, HP.out]; simp, B0.out⟩
    · clear h5 h5'
      have c0 := K0.out.cell (j := 0) rfl
      have c1 := K0.out.cell (j := 1) rfl
      have c2 := K0.out.cell (j := 2) rfl
      have c3 := K0.out.cell (j := 3) rfl
      have c4 := K0.out.cell (j := 4) rfl
      have c5 := K0.out.cell (j := 5) rfl
      have c6 := K0.out.cell (j := 6) rfl
      have c7 := K0.out.cell (j := 7) rfl
      have c8 := K0.out.cell (j := 8) rfl
      have c9 := K0.out.cell (j := 9) rfl
      have c10 := K0.out.cell (j := 10) rfl
      have c11 := K0.out.cell (j := 11) rfl
      go_enter Tryd.func23, Tryd.ntmps23
      go_wp2_with fail
      rw [HU.out]
      go_wp2
      go_ret
      exact ⟨by rw [HV.out, HP.out]; simp, B0.out⟩
theorem join_bound : ∀ (ws : List ByteArray), (∀ w ∈ ws, w.size ≤ 1048576) → ws.length ≤ 4194304 → (Lib.join (ws.map (·.data.toList)) [32]).length ≤ 140737488355328
  | [], _, _ => by simp [Lib.join, List.intercalate]
  | x :: r, h, hl => by
    rw [List.map_cons, Lib.join_length]
    have hb : ∀ (l : List ByteArray), (∀ w ∈ l, w.size ≤ 1048576) → Lib.lens (l.map (·.data.toList)) ≤ 1048576 * l.length := by
      intro l
      induction l with
      | nil => intro _; simp [Lib.lens]
      | cons y l ih =>
        intro h
        have h1 := ih (fun w hw => h w (List.mem_cons_of_mem _ hw))
        have h2 : y.data.toList.length ≤ 1048576 := by have := h y (List.mem_cons_self ..); rw [Array.length_toList]; exact this
        simp only [Lib.lens, List.map_cons, List.sum_cons, List.length_cons] at h1 ⊢
        omega
    have := hb (x :: r) h
    rw [List.map_cons] at this
    simp only [List.length_cons, List.length_map, List.length_nil] at this hl ⊢
    omega
set_option maxHeartbeats 1600000 in
theorem lineOf_any (B : Nat) (a : Option Addr) (n c : Nat) (ws : List ByteArray) (w : World) (h : OW w B (.slice a n c) ws) (hz : ∀ x ∈ ws, x.size ≤ 1048576) (hl : ws.length ≤ 4194304) :
    Calls Tryd.prog 26 #[.slice a n c] w fun e w' => e = .returned (.string (joinW ws)) ∧ Below w.heap.size w w' := by
  have CJ : Hid (Calls Tryd.prog 50 #[.slice a n c, .string ⟨#[32]⟩] w fun e w' => e = .returned (.string (joinW ws)) ∧ Below w.heap.size w w') := by
    rw [joinW_lib]
    obtain ⟨h1, h2⟩ := h
    rcases h2 with ⟨h2, h3⟩ | ⟨g, cap, cur, e, hB, hg, hc, hm, hs, ht⟩
    · have hw : ws = [] := List.length_eq_zero_iff.1 h3
      subst hw
      cases h2
      exact (Any.strings_Join_none Tryd.lays156 Tryd.Builder_Extra_156 none 0 ⟨#[32]⟩ w).mono fun e w' ⟨he, hw⟩ => ⟨by rw [he]; rfl, hw ▸ Below.refl _ _⟩
    · cases e
      refine Any.strings_Join Tryd.lays156 Tryd.Builder_Extra_156 g 0 c ws ⟨#[32]⟩ w ?_ ?_ (by omega) (by omega) (join_bound ws hz hl)
      · intro j x hx
        have hj : (ws.map Value.string)[j]? = some (.string x) := by rw [List.getElem?_map, hx]; rfl
        have := World.ownsRow.cells (w := w) (base := B) (e := 9) (size := 1) (v := .slice (some ⟨g, 0, none⟩) ws.length c) (n := ws.length) (xs := ws.map Value.string) ⟨h1, .inr ⟨g, c, cur, rfl, hB, hg, hc, hm, hs, ht⟩⟩ rfl j _ hj
        rw [Addr.add_lit] at this
        exact this
      · exact (Array.getElem?_eq_some_iff.1 hg).1
  clear h
  go_enter Tryd.func26, Tryd.ntmps26
  go_wp2_with fail
  refine CJ.out.mono ?_
  rintro r w1 ⟨rfl, hb⟩
  have HB := hid hb
  clear hb
  go_wp2
  go_ret
  exact ⟨rfl, HB.out⟩
end Go.Proofs.YtjddkofpfmjojaaDoor
/-
  Replies as texts, in plain; how great the pairs are that the law lets through.
-/
namespace Go.Proofs.YtjddkofpfmjojaaDoor
open Go.RowKit
set_option linter.unusedVariables false
/-- A pair's text. -/
def pairT (p : PB) : ByteArray := qt p.1 ++ ⟨#[61]⟩ ++ qt p.2
/-- What stands for a name. -/
def nmT (c e n : Int) : ByteArray := if txOk (c, e, n) then txT (c, e, n) else wDash
/-- A reply's words. -/
def rpW (kd c e n co : Int) (ps : List PB) : List ByteArray := [nmT c e n, cwd kd, numS co] ++ ps.map pairT
/-- A reply's text. -/
def rpT (kd c e n co : Int) (ps : List PB) : ByteArray := joinW (rpW kd c e n co ps)
def szB (l : List PB) : Prop := ∀ p ∈ l, p.1.size ≤ 1048576 ∧ p.2.size ≤ 1048576
theorem nmT_size (c e n : Int) : (nmT c e n).size ≤ 41 := by
  unfold nmT
  split
  · rename_i h
    rw [txT_yes h]
    have a := numS_size c
    have b := numS_size e
    have d := numS_size n
    have hd := dot_size
    simp only [ByteArray.size_append]
    omega
  · decide
theorem pairT_size (p : PB) : (pairT p).size ≤ 24581 := by
  have a := wq_size p.1
  have b := wq_size p.2
  unfold pairT
  simp only [ByteArray.size_append, show (⟨#[61]⟩ : ByteArray).size = 1 from rfl]
  omega
theorem cwd_size (kd : Int) : (cwd kd).size ≤ 7 := by
  unfold cwd
  split <;> (try split) <;> (try split) <;> (try split) <;> decide
theorem rpW_size (kd c e n co : Int) (ps : List PB) : ∀ x ∈ rpW kd c e n co ps, x.size ≤ 1048576 := by
  intro x hx
  unfold rpW at hx
  simp only [List.cons_append, List.nil_append, List.mem_cons, List.mem_map] at hx
  rcases hx with rfl | rfl | rfl | ⟨p, _, rfl⟩
  · have := nmT_size c e n; omega
  · have := cwd_size kd; omega
  · have := numS_size co; omega
  · have := pairT_size p; omega
theorem rpT_fold (kd c e n co : Int) (ps : List PB) : rpT kd c e n co ps = (ps.map pairT).foldl (fun o y => o ++ blk ++ y) (nmT c e n ++ ⟨#[32]⟩ ++ cwd kd ++ ⟨#[32]⟩ ++ numS co) := rfl
theorem nm_no {c e n : Int} (h : txOk (c, e, n) = false) : txT (c, e, n) = ⟨#[]⟩ ∧ nmT c e n = wDash := ⟨txT_no h, by unfold nmT; rw [h]; rfl⟩
theorem nm_yes {c e n : Int} (h : txOk (c, e, n) = true) : txT (c, e, n) = nmT c e n ∧ ¬ ((nmT c e n).toList = []) ∧ (nmT c e n).toList.isEmpty = false := by
  have e1 : nmT c e n = txT (c, e, n) := by unfold nmT; rw [h]; rfl
  have hz : ¬ ((txT (c, e, n)).toList = []) := fun q => by
    have := wb_nil.1 q
    rw [txT_yes h] at this
    have hd := dot_size
    simp only [ByteArray.size_append] at this
    omega
  rw [e1]
  refine ⟨rfl, hz, ?_⟩
  cases q : (txT (c, e, n)).toList with
  | nil => exact absurd q hz
  | cons _ _ => rfl
theorem szPair_big (k v : ByteArray) (left : Int) (w : World) (h0 : 0 ≤ left) (h1 : left ≤ 1048576) (hk : k.size ≤ 9223372036854775807) (hv : v.size ≤ 9223372036854775807) :
    Calls Tryd.prog 52 #[.agg #[.string k, .string v], .int .i64 left] w fun e w' => (∃ x : Int, e = .returned (.int .i64 x) ∧ x ≤ left ∧ -1 ≤ x ∧ (0 ≤ x → k.size ≤ 1048576 ∧ v.size ≤ 1048576)) ∧ Below w.heap.size w w' := by
  go_enter Tryd.func52, Tryd.ntmps52
  go_wp2
  all_goals (go_ret; exact ⟨⟨_, rfl, by omega, by omega, fun h => by omega⟩, below_new (Below.refl _ _)⟩)
set_option maxHeartbeats 2000000 in
theorem szPairS_big (S : Nat → Prop) (a : Option Addr) (n c : Nat) (l : List PB) (left : Int) (w : World) (h : Pr w S (.slice a n c) l) (hsz : szOkP l) (h0 : 0 ≤ left) (h1 : left ≤ 1048576) :
    Calls Tryd.prog 30 #[.slice a n c, .int .i64 left] w fun e w' => (∃ x : Int, e = .returned (.int .i64 x) ∧ x ≤ left ∧ -1 ≤ x ∧ (0 ≤ x → n ≤ 1048576 ∧ szB l)) ∧ Below w.heap.size w w' := by
  obtain ⟨hn, hnc, hcc⟩ := Rw.len h
  have HN := hid hn
  have H0 := hid h
  have HZ := hid hsz
  clear h hsz hn
  by_cases hbig : left - (n : Int) < 0
  · go_enter Tryd.func30, Tryd.ntmps30
    go_wp2
    go_ret
    exact ⟨⟨_, rfl, by omega, by omega, fun h => by omega⟩, Below.refl _ _⟩
  · have hn2 : n ≤ 1048576 := by omega
    go_enter Tryd.func30, Tryd.ntmps30
    go_wp2
    go_loopw [1, 5] (fun x i wr => ∃ (k : Nat) (y : Int), k ≤ n ∧ i = .int .i64 k ∧ x = .int .i64 y ∧ 0 ≤ y ∧ y ≤ left ∧ Hid (∀ j, j < k → (pAtB l j).1.size ≤ 1048576 ∧ (pAtB l j).2.size ≤ 1048576) ∧ Hid (Below w.heap.size w wr)) (fun _ i _ => n - (intOf i).toNat)
    case atStart => exact ⟨0, _, Nat.zero_le _, rfl, rfl, by omega, by omega, fun j hj => absurd hj (Nat.not_lt_zero _), Below.refl _ _⟩
    case round =>
      obtain ⟨k, y, hk, rfl, rfl, hy0, hy1, HJ, HB⟩ := hrel
      by_cases hlt : k < n
      · have hlt' : (k : Int) < (n : Int) := by omega
        have HP := hid (H0.out.below HB.out)
        obtain ⟨b, off, rfl, _, hbw, hcell⟩ := HP.out.at (by omega)
        have hck := (hcell k hlt).1
        have hck1 := (hcell k hlt).2
        have hs := HZ.out k
        clear hcell hbw HP
        generalize hcur : pAtB l k = cur at hck hck1 hs
        have HCU := hid hcur
        clear hcur
        obtain ⟨ck, cv⟩ := cur
        obtain ⟨hs1, hs2⟩ := hs
        go_wp2_with fail
        refine (szPair_big ck cv y wr hy0 (by omega) hs1 hs2).mono ?_
        rintro e w1 ⟨⟨x, rfl, hx1, hx2, hx3⟩, hb1⟩
        have HX3 := hid hx3
        clear hx3
        have HB1 := hid (HB.out.trans (hb1.mono HB.out.size))
        clear hb1 hs1 hs2 hck hck1
        by_cases hneg : x < 0
        · go_wp2
          go_ret
          exact ⟨⟨_, rfl, by omega, by omega, fun h => by omega⟩, HB1.out⟩
        · go_wp2
          go_roundw
          case rel => exact ⟨k + 1, x, by omega, by go_num, rfl, by omega, by omega, fun j hj => (by
            by_cases hjk : j < k
            · exact HJ.out j hjk
            · obtain rfl : j = k := by omega
              rw [HCU.out]
              exact HX3.out (by omega)), HB1.out⟩
          case measure => simp [intOf]; omega
      · go_wp2
        go_ret
        exact ⟨⟨_, rfl, by omega, by omega, fun _ => ⟨hn2, fun p hp => by
          obtain ⟨i, hi, rfl⟩ := List.getElem_of_mem hp
          have := HJ.out i (by rw [show k = n by omega, HN.out]; exact hi)
          simpa [pAtB, hi] using this⟩⟩, HB.out⟩
set_option maxHeartbeats 3200000 in
theorem szReply_big (S : Nat → Prop) (ps : List PB) (kd c e n k : Int) (ky vl lo hi : ByteArray) (mo : Int) (bk : Bool) (co : Int) (pa : Option Addr) (pn pc : Nat) (left : Int) (w : World) (h1 : Pr w S (.slice pa pn pc) ps) (s1 : szOkP ps) (h0 : 0 ≤ left) (hle : left ≤ 1048576) (hl : (ky.size ≤ 9223372036854775807 ∧ vl.size ≤ 9223372036854775807 ∧ lo.size ≤ 9223372036854775807 ∧ hi.size ≤ 9223372036854775807)) :
    Calls Tryd.prog 10 #[.agg #[.int .i64 kd, .int .i64 c, .int .i64 e, .int .i64 n, .int .i64 k, .string ky, .string vl, .string lo, .string hi, .int .i64 mo, .bool bk, .int .i64 co, .slice pa pn pc], .int .i64 left] w fun e w' => (∃ x : Int, e = .returned (.int .i64 x) ∧ x ≤ left ∧ -1 ≤ x ∧ (0 ≤ x → pn ≤ 1048576 ∧ szB ps)) ∧ Below w.heap.size w w' := by
  have B0 := hid (below_new (o := .cells #[.int .i64 kd, .int .i64 c, .int .i64 e, .int .i64 n, .int .i64 k, .string ky, .string vl, .string lo, .string hi, .int .i64 mo, .bool bk, .int .i64 co, .slice pa pn pc] 47) (w := w) (Below.refl _ _))
  have K0 := hid (Bk.new w 47 [.int .i64 kd, .int .i64 c, .int .i64 e, .int .i64 n, .int .i64 k, .string ky, .string vl, .string lo, .string hi, .int .i64 mo, .bool bk, .int .i64 co, .slice pa pn pc])
  have H1 := hid h1
  have S1 := hid s1
  have C1 := hid (fun w => szAsk_any k ky vl lo hi mo bk left w h0 hle hl)
  have x4 := K0.out.cell (j := 4) rfl
  have x5 := K0.out.cell (j := 5) rfl
  have x6 := K0.out.cell (j := 6) rfl
  have x7 := K0.out.cell (j := 7) rfl
  have x8 := K0.out.cell (j := 8) rfl
  have x9 := K0.out.cell (j := 9) rfl
  have xa := K0.out.cell (j := 10) rfl
  clear h1 s1 hl
  go_enter Tryd.func10, Tryd.ntmps10
  go_wp2_with fail
  refine (C1.out _).mono ?_
  generalize w.alloc (.cells #[.int .i64 kd, .int .i64 c, .int .i64 e, .int .i64 n, .int .i64 k, .string ky, .string vl, .string lo, .string hi, .int .i64 mo, .bool bk, .int .i64 co, .slice pa pn pc] 47) = U at *
  rintro r w1 ⟨⟨x, rfl, hx1, hx2⟩, hb⟩
  have B1 := hid (btR B0.out hb)
  have K1 := hid (K0.out.below hb)
  clear hb B0 K0 x4 x5 x6 x7 x8 x9 xa
  have x12 := K1.out.cell (j := 12) rfl
  by_cases hneg : x < 0
  · go_wp2
    go_ret
    exact ⟨⟨_, rfl, by omega, by omega, fun h => by omega⟩, B1.out⟩
  · go_wp2_with fail
    refine (szPairS_big S pa pn pc ps x _ (H1.out.below B1.out) S1.out (by omega) (by omega)).mono ?_
    rintro r w2 ⟨⟨y, rfl, hy1, hy2, hy3⟩, hb⟩
    have B2 := hid (btR B1.out hb)
    have HY := hid hy3
    clear hb B1 K1 x12 hy3
    by_cases hneg2 : y < 0
    · go_wp2
      go_ret
      exact ⟨⟨_, rfl, by omega, by omega, fun h => by omega⟩, B2.out⟩
    · go_wp2
      go_ret
      exact ⟨⟨_, rfl, by omega, by omega, HY.out⟩, B2.out⟩
end Go.Proofs.YtjddkofpfmjojaaDoor
/-
  ReplyText of the program.
-/
namespace Go.Proofs.YtjddkofpfmjojaaDoor
open Go.RowKit
set_option linter.unusedVariables false
set_option maxHeartbeats 4000000 in
set_option maxRecDepth 20000 in
theorem pairText_any (k v' : ByteArray) (w : World) (hs : k.size ≤ 1048576 ∧ v'.size ≤ 1048576) (hw : GW w) : Calls Tryd.prog 40 #[.agg #[.string k, .string v']] w fun e w' => e = .returned (.string (pairT (k, v'))) ∧ Below w.heap.size w w' := by
  have B0 := hid (below_new (o := .cells #[.string k, .string v'] 76) (w := w) (Below.refl _ _))
  have K0 := hid (Bk.new w 76 [.string k, .string v'])
  have G0 := hid (hw.to B0.out)
  have CQ := hid (fun (s : ByteArray) (w : World) (hs : s.size ≤ 1048576) (hw : GW w) => implQuote_any s w hs hw.e hw.l)
  have z1 := wq_size k
  have z2 := wq_size v'
  clear hw
  generalize hU : w.alloc (.cells #[.string k, .string v'] 76) = U at *
  have HU := hid hU
  clear hU
  go_enter Tryd.func40, Tryd.ntmps40
  go_wp2_with fail
  rw [HU.out]
  refine wp_region_noPanic ?_
  refine wp_region_held_drew (S := fun v => v.cell? ⟨w.heap.size, 0, none⟩ = some (.string k) ∧ v.cell? ⟨w.heap.size, 1, none⟩ = some (.string v')) (by kernel_rfl) (⟨(K0.out.below (below_drew _)).cell (j := 0) rfl, (K0.out.below (below_drew _)).cell (j := 1) rfl⟩) (fun hHeld => ?_)
  simp only [List.size_toArray, List.length_cons, List.length_nil, Array.replicate_succ, Array.replicate_zero, Nat.reduceAdd, List.push_toArray, List.nil_append, List.cons_append]
  refine wpAnyH_take (i := 0) (v := (.pointer (some ⟨w.heap.size, 0, none⟩))) rfl (by kernel_rfl) (by kernel_rfl) (by kernel_rfl) (fun _ _ _ h => h) (Or.inl ⟨by rfl, ?_⟩) (by assumption) ?_
  · intro w hSw
    (try dsimp only at hSw)
    go_simp
  try simp only [List.getElem_toArray]
  try simp only [List.getElem_cons_succ]
  try simp only [List.getElem_cons_zero]
  try simp only [Act.put]
  try simp only [List.setIfInBounds_toArray]
  try simp only [List.set_cons_succ]
  try simp only [List.set_cons_zero]
  refine wpAnyH_take (i := 1) (v := (.string k)) rfl (by kernel_rfl) (by kernel_rfl) (by kernel_rfl) (fun _ _ _ h => h) (Or.inl ⟨by rfl, ?_⟩) (by assumption) ?_
  · intro w hSw
    (try dsimp only at hSw)
    go_simp
  try simp only [List.getElem_toArray]
  try simp only [List.getElem_cons_succ]
  try simp only [List.getElem_cons_zero]
  try simp only [Act.put]
  try simp only [List.setIfInBounds_toArray]
  try simp only [List.set_cons_succ]
  try simp only [List.set_cons_zero]
  refine wpAnyH_take (i := 4) (v := (.pointer (some ⟨w.heap.size, 1, none⟩))) rfl (by kernel_rfl) (by kernel_rfl) (by kernel_rfl) (fun _ _ _ h => h) (Or.inl ⟨by rfl, ?_⟩) (by assumption) ?_
  · intro w hSw
    (try dsimp only at hSw)
    go_simp
  try simp only [List.getElem_toArray]
  try simp only [List.getElem_cons_succ]
  try simp only [List.getElem_cons_zero]
  try simp only [Act.put]
  try simp only [List.setIfInBounds_toArray]
  try simp only [List.set_cons_succ]
  try simp only [List.set_cons_zero]
  refine wpAnyH_take (i := 5) (v := (.string v')) rfl (by kernel_rfl) (by kernel_rfl) (by kernel_rfl) (fun _ _ _ h => h) (Or.inl ⟨by rfl, ?_⟩) (by assumption) ?_
  · intro w hSw
    (try dsimp only at hSw)
    go_simp
  try simp only [List.getElem_toArray]
  try simp only [List.getElem_cons_succ]
  try simp only [List.getElem_cons_zero]
  try simp only [Act.put]
  try simp only [List.setIfInBounds_toArray]
  try simp only [List.set_cons_succ]
  try simp only [List.set_cons_zero]
  have B1 := hid (B0.out.trans ((below_drew U).mono B0.out.size))
  have Kq1 := hid (K0.out.below (below_drew _))
  have G1 := hid (G0.out.to (below_drew _))
  clear B0 K0 G0
  generalize U.drew = v1 at *
  refine wpAnyH_ready (rs := [2]) (by kernel_rfl) (by simp) ?_
  refine AllReadyH.cons rfl (fun K1 hK => ?_) AllReadyH.nil
  go_simp
  refine (CQ.out k _ hs.1 G1.out).mono ?_
  rintro r v2 ⟨rfl, hb⟩
  go_wp2_with fail
  have Kq2 := hid (Kq1.out.below hb)
  have B2 := hid (B1.out.trans (hb.mono B1.out.size))
  have G2 := hid (G1.out.to hb)
  clear hb Kq1 B1 G1
  refine hK.out _ _ ?_ (fun hHeld => ?_)
  · exact ⟨Kq2.out.cell (j := 0) rfl, Kq2.out.cell (j := 1) rfl⟩
  clear hK K1
  try simp only [List.getElem_toArray]
  try simp only [List.getElem_cons_succ]
  try simp only [List.getElem_cons_zero]
  try simp only [Act.put]
  try simp only [List.setIfInBounds_toArray]
  try simp only [List.set_cons_succ]
  try simp only [List.set_cons_zero]
  refine wpAnyH_take (i := 3) (v := (.string (qt k ++ ⟨#[61]⟩))) rfl (by kernel_rfl) (by kernel_rfl) (by kernel_rfl) (fun _ _ _ h => h) (Or.inl ⟨by rfl, ?_⟩) (by assumption) ?_
  · intro w hSw
    (try dsimp only at hSw)
    go_simp
    try omega
  try simp only [List.getElem_toArray]
  try simp only [List.getElem_cons_succ]
  try simp only [List.getElem_cons_zero]
  try simp only [Act.put]
  try simp only [List.setIfInBounds_toArray]
  try simp only [List.set_cons_succ]
  try simp only [List.set_cons_zero]
  refine wpAnyH_ready (rs := [6]) (by kernel_rfl) (by simp) ?_
  refine AllReadyH.cons rfl (fun K1 hK => ?_) AllReadyH.nil
  go_simp
  refine (CQ.out v' _ hs.2 G2.out).mono ?_
  rintro r v3 ⟨rfl, hb⟩
  go_wp2_with fail
  have Kq3 := hid (Kq2.out.below hb)
  have B3 := hid (B2.out.trans (hb.mono B2.out.size))
  have G3 := hid (G2.out.to hb)
  clear hb Kq2 B2 G2
  refine hK.out _ _ ?_ (fun hHeld => ?_)
  · exact ⟨Kq3.out.cell (j := 0) rfl, Kq3.out.cell (j := 1) rfl⟩
  clear hK K1
  try simp only [List.getElem_toArray]
  try simp only [List.getElem_cons_succ]
  try simp only [List.getElem_cons_zero]
  try simp only [Act.put]
  try simp only [List.setIfInBounds_toArray]
  try simp only [List.set_cons_succ]
  try simp only [List.set_cons_zero]
  refine wpAnyH_take (i := 7) (v := (.string (qt k ++ ⟨#[61]⟩ ++ qt v'))) rfl (by kernel_rfl) (by kernel_rfl) (by kernel_rfl) (fun _ _ _ h => h) (Or.inl ⟨by rfl, ?_⟩) (by assumption) ?_
  · intro w hSw
    (try dsimp only at hSw)
    go_simp
    try omega
  try simp only [List.getElem_toArray]
  try simp only [List.getElem_cons_succ]
  try simp only [List.getElem_cons_zero]
  try simp only [Act.put]
  try simp only [List.setIfInBounds_toArray]
  try simp only [List.set_cons_succ]
  try simp only [List.set_cons_zero]
  refine wpAnyH_take (i := 8) (v := (.string (qt k ++ ⟨#[61]⟩ ++ qt v'))) rfl (by kernel_rfl) (by kernel_rfl) (by kernel_rfl) (fun _ _ _ h => h) (Or.inl ⟨by rfl, ?_⟩) (by assumption) ?_
  · intro w hSw
    (try dsimp only at hSw)
    go_simp
    try omega
  try simp only [List.getElem_toArray]
  try simp only [List.getElem_cons_succ]
  try simp only [List.getElem_cons_zero]
  try simp only [Act.put]
  try simp only [List.setIfInBounds_toArray]
  try simp only [List.set_cons_succ]
  try simp only [List.set_cons_zero]
  refine wpAnyH_done (by kernel_rfl) ?_ _
  refine NoPanic.normal ?_
  go_wp2
  go_ret
  exact ⟨rfl, B3.out⟩
theorem take_pairT (l : List PB) (k : Nat) (h : k < l.length) : (l.map pairT).take (k + 1) = (l.map pairT).take k ++ [pairT (pAtB l k)] := by
  rw [List.take_succ_eq_append_getElem (by rw [List.length_map]; exact h)]
  congr 1
  simp [pAtB, h]
set_option maxHeartbeats 3200000 in
theorem wordsOfPair_any (S : Nat → Prop) (a : Option Addr) (n c : Nat) (l : List PB) (w : World) (h : Pr w S (.slice a n c) l) (hn : n ≤ 1048576) (hz : szB l) (hw : GW w) :
    Calls Tryd.prog 39 #[.slice a n c, .func (.func 40) #[] #[]] w fun e w' => WsP (l.map pairT) w e w' := by
  unfold WsP
  have HN : Hid (n = l.length) := (Rw.len h).1
  have H0 := hid h
  have HZ := hid hz
  have G0 := hid hw
  have CP := hid (fun k v w hs hw => pairText_any k v w hs hw)
  have hmk : ∀ w : World, (Instr.makeSlice 60 (.int .i64 0) (.int .i64 (n : Int))).run Tryd.prog w = .ok (.slice (some ⟨w.heap.size, 0, none⟩) 0 n) (w.alloc (.cells (madeCells #[Value.string ⟨#[]⟩] n) 9)) := fun w => by
    have := run_make_0 (P := Tryd.prog) 60 9 (.string ⟨#[]⟩) 1 16 Tryd.underlying60 infoStr' n (by omega) (by omega) w
    rwa [Nat.mul_one] at this
  have O0 : Hid (OW (w.alloc (.cells (madeCells #[Value.string ⟨#[]⟩] n) 9)) w.heap.size (.slice (some ⟨w.heap.size, 0, none⟩) 0 n) []) := World.ownsRow_made w _ n (Nat.le_refl _) (by unfold maxLen; omega) (by simp [madeCells])
  have B0 : Hid (Below w.heap.size w (w.alloc (.cells (madeCells #[Value.string ⟨#[]⟩] n) 9))) := below_new (Below.refl _ _)
  clear h hz hw
  go_enter Tryd.func39, Tryd.ntmps39
  go_wp2_with fail
  go_loopw [5, 7, 13] (fun x _ i v => ∃ (k : Nat) (xa : Option Addr) (xn xc : Nat), x = .slice xa xn xc ∧ i = .int .i64 k ∧ k ≤ n ∧ Hid (Below w.heap.size w v) ∧ Hid (OW v w.heap.size (.slice xa xn xc) ((l.map pairT).take k))) (fun _ _ i _ => n - (intOf i).toNat)
  case atStart => exact ⟨0, _, _, _, rfl, rfl, Nat.zero_le _, B0.out, O0.out⟩
  case round =>
    clear O0 B0 hmk
    obtain ⟨k, xa, xn, xc, rfl, rfl, hk, HB, HO⟩ := hrel
    by_cases hlt : k < n
    · have hlt' : (k : Int) < (n : Int) := by omega
      obtain ⟨b, off, rfl, -, -, hcell⟩ := (H0.out.below HB.out).at (by omega : 0 < n)
      have hck := (hcell k hlt).1
      have hck1 := (hcell k hlt).2
      have hkl : k < l.length := by rw [← HN.out]; exact hlt
      have HS := hid (take_pairT l k hkl)
      have HP : Hid ((pAtB l k).1.size ≤ 1048576 ∧ (pAtB l k).2.size ≤ 1048576) := HZ.out _ (by simp [pAtB, hkl])
      clear hcell
      generalize pAtB l k = cur at *
      obtain ⟨ck, cv⟩ := cur
      have HB0 := hid (HB.out.alloc HB.out.size (.cells #[.string ck, .string cv] 76))
      have hb0 : Below wr.heap.size wr (wr.alloc (.cells #[.string ck, .string cv] 76)) := below_new (Below.refl _ _)
      have HO0 := hid (HO.out.below hb0)
      have GA := hid (G0.out.to HB0.out)
      clear hb0 HB HO
      go_wp2_with fail
      refine (CP.out ck cv _ HP.out GA.out).mono ?_
      generalize wr.alloc (.cells #[.string ck, .string cv] 76) = V at *
      rintro e w1 ⟨rfl, hb⟩
      have hb2 := hb.alloc hb.size (.cells #[.string (pairT (ck, cv))] 9)
      have HB1 := hid (HB0.out.trans (hb2.mono HB0.out.size))
      have HO1 := hid (HO0.out.below hb2)
      have N1 := hid (OW.one (Bk.new w1 9 [.string (pairT (ck, cv))]) (Nat.le_refl _))
      have hl1 : ((l.map pairT).take k).length + [pairT (ck, cv)].length ≤ 4194304 := by simp; omega
      clear hb hb2 HB0 HO0 hck hck1 GA
      go_wp2_with (at_builtin; refine wpList_append_ws rfl _ _ rfl w.heap.size _ _ _ rfl HO1.out _ _ rfl N1.out hl1 HB1.out.size ?_)
      intro a' n' c' w4 hO4 hg4 _
      have HB4 : Hid (Below w.heap.size w w4) := HB1.out.trans ((only_of_grown hg4 (R := fun y => (Value.slice xa xn xc).ownBlock = some y) (fun k q => q)).below HB1.out.size (fun b hb q => by have := (World.ownsRow.lt HO1.out b q).1; omega))
      have HO4 : Hid (OW w4 w.heap.size (.slice a' n' c') ((l.map pairT).take (k + 1))) := by
        show OW _ _ _ _
        rw [HS.out]; exact hO4
      clear hO4 hg4 HO1 HB1 N1 hl1
      go_wp2
      go_roundw
      case rel => exact ⟨k + 1, a', n', c', rfl, by go_num, by omega, HB4.out, HO4.out⟩
      case measure => simp [intOf]; omega
    · have HE : Hid ((l.map pairT).take k = l.map pairT) := List.take_of_length_le (by rw [List.length_map, ← HN.out]; omega)
      go_wp2
      go_ret
      exact ⟨xa, xn, xc, rfl, by have := HO.out; rwa [HE.out] at this, HB.out⟩
set_option maxHeartbeats 8000000 in
set_option maxRecDepth 20000 in
theorem implReplyText_any (S : Nat → Prop) (kd c e n k : Int) (ky vl lo hi : ByteArray) (mo : Int) (bk : Bool) (co : Int) (pa : Option Addr) (pn pc : Nat) (ps : List PB) (w : World) (h : Pr w S (.slice pa pn pc) ps) (hn : pn ≤ 1048576) (hz : szB ps) (hw : GW w) :
    Calls Tryd.prog 13 #[.agg #[.int .i64 kd, .int .i64 c, .int .i64 e, .int .i64 n, .int .i64 k, .string ky, .string vl, .string lo, .string hi, .int .i64 mo, .bool bk, .int .i64 co, .slice pa pn pc]] w fun r w' => r = .returned (.string (rpT kd c e n co ps)) ∧ Below w.heap.size w w' := by
  have K0 := hid (Bk.new w 53 [.int .i64 kd, .int .i64 c, .int .i64 e, .int .i64 n, .int .i64 k, .string ky, .string vl, .string lo, .string hi, .int .i64 mo, .bool bk, .int .i64 co, .slice pa pn pc])
  have B0 := hid (below_new (o := .cells #[.int .i64 kd, .int .i64 c, .int .i64 e, .int .i64 n, .int .i64 k, .string ky, .string vl, .string lo, .string hi, .int .i64 mo, .bool bk, .int .i64 co, .slice pa pn pc] 53) (w := w) (Below.refl _ _))
  have G0 := hid (hw.to B0.out)
  have H0 := hid (h.below B0.out)
  have HL : Hid (ps.length ≤ 1048576) := by have := (Rw.len h).1; show _ ≤ _; omega
  have CT := hid (fun w (hw : GW w) => implTxText_any c e n w hw.tab hw.g)
  have CW := hid (fun w => callWord_any kd w)
  have CN := hid (fun w (hw : GW w) => implNumText_any co w hw.tab)
  have CP := hid (fun w h hw => wordsOfPair_any S pa pn pc ps w h hn hz hw)
  have Z1 := hid (rpW_size kd c e n co ps)
  have Z2 : Hid ((rpW kd c e n co ps).length ≤ 4194304) := by show _ ≤ _; have := HL.out; simp [rpW]; omega
  have HRW : Hid (rpW kd c e n co ps = [nmT c e n, cwd kd, numS co] ++ ps.map pairT) := rfl
  have HRT : Hid (rpT kd c e n co ps = joinW (rpW kd c e n co ps)) := rfl
  clear h hz hw
  generalize hU : w.alloc (.cells #[.int .i64 kd, .int .i64 c, .int .i64 e, .int .i64 n, .int .i64 k, .string ky, .string vl, .string lo, .string hi, .int .i64 mo, .bool bk, .int .i64 co, .slice pa pn pc] 53) = U at *
  have HU := hid hU
  clear hU
  have x0 := K0.out.cell (j := 0) rfl
  have x1 := K0.out.cell (j := 1) rfl
  have x2 := K0.out.cell (j := 2) rfl
  have x3 := K0.out.cell (j := 3) rfl
  have x11 := K0.out.cell (j := 11) rfl
  cases hz : txOk (c, e, n) with
  | false =>
    have HN1 := hid (nm_no hz)
    go_enter Tryd.func13, Tryd.ntmps13
    go_wp2_with fail
    rw [HU.out]
    go_wp2_with fail
    refine (CT.out _ G0.out).mono ?_
    rintro r w1 ⟨rfl, hb⟩
    have B1 := hid (B0.out.trans (hb.mono B0.out.size))
    have K1 := hid (K0.out.below hb)
    have G1 := hid (G0.out.to hb)
    have H1 := hid (H0.out.below hb)
    clear hb K0 G0 H0 B0 hz CT x0 x1 x2 x3 x11
    rw [HN1.out.1]
    go_wp2_with fail
    refine wp_region_noPanic ?_
    refine wp_region_held_drew (S := fun v => v.cell? ⟨w.heap.size, 0, none⟩ = some (.int .i64 kd) ∧ v.cell? ⟨w.heap.size, 11, none⟩ = some (.int .i64 co)) (by kernel_rfl) (⟨(K1.out.below (below_drew _)).cell (j := 0) rfl, (K1.out.below (below_drew _)).cell (j := 11) rfl⟩) (fun hHeld => ?_)
    simp only [List.size_toArray, List.length_cons, List.length_nil, Array.replicate_succ, Array.replicate_zero, Nat.reduceAdd, List.push_toArray, List.nil_append, List.cons_append]
    refine wpAnyH_take (i := 0) (v := (.string ⟨#[45]⟩)) rfl (by kernel_rfl) (by kernel_rfl) (by kernel_rfl) (fun _ _ _ h => h) (Or.inl ⟨by rfl, ?_⟩) (by assumption) ?_
    · intro w hSw
      (try dsimp only at hSw)
      go_simp
    try simp only [List.getElem_toArray]
    try simp only [List.getElem_cons_succ]
    try simp only [List.getElem_cons_zero]
    try simp only [Act.put]
    try simp only [List.setIfInBounds_toArray]
    try simp only [List.set_cons_succ]
    try simp only [List.set_cons_zero]
    refine wpAnyH_take (i := 1) (v := (.pointer (some ⟨w.heap.size, 0, none⟩))) rfl (by kernel_rfl) (by kernel_rfl) (by kernel_rfl) (fun _ _ _ h => h) (Or.inl ⟨by rfl, ?_⟩) (by assumption) ?_
    · intro w hSw
      (try dsimp only at hSw)
      go_simp
    try simp only [List.getElem_toArray]
    try simp only [List.getElem_cons_succ]
    try simp only [List.getElem_cons_zero]
    try simp only [Act.put]
    try simp only [List.setIfInBounds_toArray]
    try simp only [List.set_cons_succ]
    try simp only [List.set_cons_zero]
    refine wpAnyH_take (i := 2) (v := (.int .i64 kd)) rfl (by kernel_rfl) (by kernel_rfl) (by kernel_rfl) (fun _ _ _ h => h) (Or.inl ⟨by rfl, ?_⟩) (by assumption) ?_
    · intro w hSw
      (try dsimp only at hSw)
      go_simp
    try simp only [List.getElem_toArray]
    try simp only [List.getElem_cons_succ]
    try simp only [List.getElem_cons_zero]
    try simp only [Act.put]
    try simp only [List.setIfInBounds_toArray]
    try simp only [List.set_cons_succ]
    try simp only [List.set_cons_zero]
    refine wpAnyH_take (i := 4) (v := (.pointer (some ⟨w.heap.size, 11, none⟩))) rfl (by kernel_rfl) (by kernel_rfl) (by kernel_rfl) (fun _ _ _ h => h) (Or.inl ⟨by rfl, ?_⟩) (by assumption) ?_
    · intro w hSw
      (try dsimp only at hSw)
      go_simp
    try simp only [List.getElem_toArray]
    try simp only [List.getElem_cons_succ]
    try simp only [List.getElem_cons_zero]
    try simp only [Act.put]
    try simp only [List.setIfInBounds_toArray]
    try simp only [List.set_cons_succ]
    try simp only [List.set_cons_zero]
    refine wpAnyH_take (i := 5) (v := (.int .i64 co)) rfl (by kernel_rfl) (by kernel_rfl) (by kernel_rfl) (fun _ _ _ h => h) (Or.inl ⟨by rfl, ?_⟩) (by assumption) ?_
    · intro w hSw
      (try dsimp only at hSw)
      go_simp
    try simp only [List.getElem_toArray]
    try simp only [List.getElem_cons_succ]
    try simp only [List.getElem_cons_zero]
    try simp only [Act.put]
    try simp only [List.setIfInBounds_toArray]
    try simp only [List.set_cons_succ]
    try simp only [List.set_cons_zero]
    have Bq2 := hid (B1.out.trans ((below_drew w1).mono B1.out.size))
    have Kq2 := hid (K1.out.below (below_drew _))
    have Gq2 := hid (G1.out.to (below_drew _))
    have Hq2 := hid (H1.out.below (below_drew _))
    clear B1 K1 G1 H1
    generalize w1.drew = w2 at *
    refine wpAnyH_ready (rs := [3]) (by kernel_rfl) (by simp) ?_
    refine AllReadyH.cons rfl (fun K1 hK => ?_) AllReadyH.nil
    go_simp
    refine (CW.out _).mono ?_
    rintro r w3 ⟨rfl, rfl⟩
    go_wp2_with fail
    refine hK.out _ _ ?_ (fun hHeld => ?_)
    · exact ⟨Kq2.out.cell (j := 0) rfl, Kq2.out.cell (j := 11) rfl⟩
    clear hK K1
    try simp only [List.getElem_toArray]
    try simp only [List.getElem_cons_succ]
    try simp only [List.getElem_cons_zero]
    try simp only [Act.put]
    try simp only [List.setIfInBounds_toArray]
    try simp only [List.set_cons_succ]
    try simp only [List.set_cons_zero]
    refine wpAnyH_ready (rs := [6]) (by kernel_rfl) (by simp) ?_
    refine AllReadyH.cons rfl (fun K1 hK => ?_) AllReadyH.nil
    go_simp
    refine (CN.out _ Gq2.out).mono ?_
    rintro r w4 ⟨rfl, hb⟩
    go_wp2_with fail
    have Kq3 := hid (Kq2.out.below hb)
    have Bq3 := hid (Bq2.out.trans (hb.mono Bq2.out.size))
    have Gq3 := hid (Gq2.out.to hb)
    have Hq3 := hid (Hq2.out.below hb)
    clear Kq2 Bq2 Gq2 Hq2
    clear hb
    refine hK.out _ _ ?_ (fun hHeld => ?_)
    · exact ⟨Kq3.out.cell (j := 0) rfl, Kq3.out.cell (j := 11) rfl⟩
    clear hK K1
    try simp only [List.getElem_toArray]
    try simp only [List.getElem_cons_succ]
    try simp only [List.getElem_cons_zero]
    try simp only [Act.put]
    try simp only [List.setIfInBounds_toArray]
    try simp only [List.set_cons_succ]
    try simp only [List.set_cons_zero]
    refine wpAnyH_ready (rs := [7]) (by kernel_rfl) (by simp) ?_
    refine AllReadyH.cons rfl (fun K1 hK => ?_) AllReadyH.nil
    go_simp
    try go_wp2_with fail
    have hb := below_new (o := .cells #[.string ⟨#[45]⟩, .string (cwd kd), .string (numS co)] 9) (w := w4) (Below.refl _ _)
    have O4 := hid (show OW _ w.heap.size (.slice (some ⟨w4.heap.size, 0, none⟩) 3 3) [nmT c e n, cwd kd, numS co] from by rw [HN1.out.2]; exact bk_own (n := 3) (size := 1) (Bk.new w4 9 [.string ⟨#[45]⟩, .string (cwd kd), .string (numS co)]) rfl (by decide) Bq3.out.size)
    have Kq4 := hid (Kq3.out.below hb)
    have Bq4 := hid (Bq3.out.trans (hb.mono Bq3.out.size))
    have Gq4 := hid (Gq3.out.to hb)
    have Hq4 := hid (Hq3.out.below hb)
    clear Kq3 Bq3 Gq3 Hq3
    clear hb
    refine hK.out _ _ ?_ (fun hHeld => ?_)
    · exact ⟨Kq4.out.cell (j := 0) rfl, Kq4.out.cell (j := 11) rfl⟩
    clear hK K1
    try simp only [List.getElem_toArray]
    try simp only [List.getElem_cons_succ]
    try simp only [List.getElem_cons_zero]
    try simp only [Act.put]
    try simp only [List.setIfInBounds_toArray]
    try simp only [List.set_cons_succ]
    try simp only [List.set_cons_zero]
    refine wpAnyH_take (i := 8) (v := (.slice (some ⟨w4.heap.size, 0, none⟩) 3 3)) rfl (by kernel_rfl) (by kernel_rfl) (by kernel_rfl) (fun _ _ _ h => h) (Or.inl ⟨by rfl, ?_⟩) (by assumption) ?_
    · intro w hSw
      (try dsimp only at hSw)
      go_simp
    try simp only [List.getElem_toArray]
    try simp only [List.getElem_cons_succ]
    try simp only [List.getElem_cons_zero]
    try simp only [Act.put]
    try simp only [List.setIfInBounds_toArray]
    try simp only [List.set_cons_succ]
    try simp only [List.set_cons_zero]
    refine wpAnyH_done (by kernel_rfl) ?_ _
    refine NoPanic.normal ?_
    have x12 := Kq4.out.cell (j := 12) rfl
    go_wp2_with fail
    refine (CP.out _ Hq4.out Gq4.out).mono ?_
    generalize w4.alloc (.cells #[.string ⟨#[45]⟩, .string (cwd kd), .string (numS co)] 9) = w5 at *
    generalize w4.heap.size = g4 at *
    rintro r w6 ⟨xa, xn, xc, rfl, hO, hb⟩
    have B6 := hid (Bq4.out.trans (hb.mono Bq4.out.size))
    have O6 := hid (O4.out.below hb)
    have P6 := hid (hO.lower Bq4.out.size)
    have hl : ([nmT c e n, cwd kd, numS co] : List ByteArray).length + (ps.map pairT).length ≤ 4194304 := by have := HL.out; simp; omega
    clear hb hO x12 Kq4 Gq4 Hq4 Bq4 O4
    go_wp2_with (at_builtin; refine wpList_append_ws rfl _ _ rfl w.heap.size _ _ _ rfl O6.out _ _ rfl P6.out hl B6.out.size ?_)
    intro a7 n7 c7 w7 hO hg _
    have B7 := hid (B6.out.trans ((only_of_grown hg (R := fun y => (Value.slice (some ⟨g4, 0, none⟩) 3 3).ownBlock = some y) (fun k q => q)).below B6.out.size (fun b hb q => by have := (World.ownsRow.lt O6.out b q).1; omega)))
    have O7 : Hid (OW w7 w.heap.size (.slice a7 n7 c7) (rpW kd c e n co ps)) := by show OW _ _ _ _; rw [HRW.out]; simpa using hO
    clear hO hg hl O6 P6 B6
    go_wp2_with fail
    refine (lineOf_any _ _ _ _ _ _ O7.out Z1.out Z2.out).mono ?_
    rintro r w8 ⟨rfl, hb⟩
    have B8 := hid (B7.out.trans (hb.mono B7.out.size))
    clear hb
    go_wp2
    go_ret
    exact ⟨by rw [HRT.out]; rfl, B8.out⟩
  | true =>
    have HN1 := hid (nm_yes hz)
    go_enter Tryd.func13, Tryd.ntmps13
    go_wp2_with fail
    rw [HU.out]
    go_wp2_with fail
    refine (CT.out _ G0.out).mono ?_
    rintro r w1 ⟨rfl, hb⟩
    have B1 := hid (B0.out.trans (hb.mono B0.out.size))
    have K1 := hid (K0.out.below hb)
    have G1 := hid (G0.out.to hb)
    have H1 := hid (H0.out.below hb)
    clear hb K0 G0 H0 B0 hz CT x0 x1 x2 x3 x11
    rw [HN1.out.1]
    have hne := HN1.out.2.1
    have hne2 := HN1.out.2.2
    go_wp2_with fail
    clear hne hne2
    refine wp_region_noPanic ?_
    refine wp_region_held_drew (S := fun v => v.cell? ⟨w.heap.size, 0, none⟩ = some (.int .i64 kd) ∧ v.cell? ⟨w.heap.size, 11, none⟩ = some (.int .i64 co)) (by kernel_rfl) (⟨(K1.out.below (below_drew _)).cell (j := 0) rfl, (K1.out.below (below_drew _)).cell (j := 11) rfl⟩) (fun hHeld => ?_)
    simp only [List.size_toArray, List.length_cons, List.length_nil, Array.replicate_succ, Array.replicate_zero, Nat.reduceAdd, List.push_toArray, List.nil_append, List.cons_append]
    refine wpAnyH_take (i := 0) (v := (.string (nmT c e n))) rfl (by kernel_rfl) (by kernel_rfl) (by kernel_rfl) (fun _ _ _ h => h) (Or.inl ⟨by rfl, ?_⟩) (by assumption) ?_
    · intro w hSw
      (try dsimp only at hSw)
      go_simp
    try simp only [List.getElem_toArray]
    try simp only [List.getElem_cons_succ]
    try simp only [List.getElem_cons_zero]
    try simp only [Act.put]
    try simp only [List.setIfInBounds_toArray]
    try simp only [List.set_cons_succ]
    try simp only [List.set_cons_zero]
    refine wpAnyH_take (i := 1) (v := (.pointer (some ⟨w.heap.size, 0, none⟩))) rfl (by kernel_rfl) (by kernel_rfl) (by kernel_rfl) (fun _ _ _ h => h) (Or.inl ⟨by rfl, ?_⟩) (by assumption) ?_
    · intro w hSw
      (try dsimp only at hSw)
      go_simp
    try simp only [List.getElem_toArray]
    try simp only [List.getElem_cons_succ]
    try simp only [List.getElem_cons_zero]
    try simp only [Act.put]
    try simp only [List.setIfInBounds_toArray]
    try simp only [List.set_cons_succ]
    try simp only [List.set_cons_zero]
    refine wpAnyH_take (i := 2) (v := (.int .i64 kd)) rfl (by kernel_rfl) (by kernel_rfl) (by kernel_rfl) (fun _ _ _ h => h) (Or.inl ⟨by rfl, ?_⟩) (by assumption) ?_
    · intro w hSw
      (try dsimp only at hSw)
      go_simp
    try simp only [List.getElem_toArray]
    try simp only [List.getElem_cons_succ]
    try simp only [List.getElem_cons_zero]
    try simp only [Act.put]
    try simp only [List.setIfInBounds_toArray]
    try simp only [List.set_cons_succ]
    try simp only [List.set_cons_zero]
    refine wpAnyH_take (i := 4) (v := (.pointer (some ⟨w.heap.size, 11, none⟩))) rfl (by kernel_rfl) (by kernel_rfl) (by kernel_rfl) (fun _ _ _ h => h) (Or.inl ⟨by rfl, ?_⟩) (by assumption) ?_
    · intro w hSw
      (try dsimp only at hSw)
      go_simp
    try simp only [List.getElem_toArray]
    try simp only [List.getElem_cons_succ]
    try simp only [List.getElem_cons_zero]
    try simp only [Act.put]
    try simp only [List.setIfInBounds_toArray]
    try simp only [List.set_cons_succ]
    try simp only [List.set_cons_zero]
    refine wpAnyH_take (i := 5) (v := (.int .i64 co)) rfl (by kernel_rfl) (by kernel_rfl) (by kernel_rfl) (fun _ _ _ h => h) (Or.inl ⟨by rfl, ?_⟩) (by assumption) ?_
    · intro w hSw
      (try dsimp only at hSw)
      go_simp
    try simp only [List.getElem_toArray]
    try simp only [List.getElem_cons_succ]
    try simp only [List.getElem_cons_zero]
    try simp only [Act.put]
    try simp only [List.setIfInBounds_toArray]
    try simp only [List.set_cons_succ]
    try simp only [List.set_cons_zero]
    have Bq2 := hid (B1.out.trans ((below_drew w1).mono B1.out.size))
    have Kq2 := hid (K1.out.below (below_drew _))
    have Gq2 := hid (G1.out.to (below_drew _))
    have Hq2 := hid (H1.out.below (below_drew _))
    clear B1 K1 G1 H1
    generalize w1.drew = w2 at *
    refine wpAnyH_ready (rs := [3]) (by kernel_rfl) (by simp) ?_
    refine AllReadyH.cons rfl (fun K1 hK => ?_) AllReadyH.nil
    go_simp
    refine (CW.out _).mono ?_
    rintro r w3 ⟨rfl, rfl⟩
    go_wp2_with fail
    refine hK.out _ _ ?_ (fun hHeld => ?_)
    · exact ⟨Kq2.out.cell (j := 0) rfl, Kq2.out.cell (j := 11) rfl⟩
    clear hK K1
    try simp only [List.getElem_toArray]
    try simp only [List.getElem_cons_succ]
    try simp only [List.getElem_cons_zero]
    try simp only [Act.put]
    try simp only [List.setIfInBounds_toArray]
    try simp only [List.set_cons_succ]
    try simp only [List.set_cons_zero]
    refine wpAnyH_ready (rs := [6]) (by kernel_rfl) (by simp) ?_
    refine AllReadyH.cons rfl (fun K1 hK => ?_) AllReadyH.nil
    go_simp
    refine (CN.out _ Gq2.out).mono ?_
    rintro r w4 ⟨rfl, hb⟩
    go_wp2_with fail
    have Kq3 := hid (Kq2.out.below hb)
    have Bq3 := hid (Bq2.out.trans (hb.mono Bq2.out.size))
    have Gq3 := hid (Gq2.out.to hb)
    have Hq3 := hid (Hq2.out.below hb)
    clear Kq2 Bq2 Gq2 Hq2
    clear hb
    refine hK.out _ _ ?_ (fun hHeld => ?_)
    · exact ⟨Kq3.out.cell (j := 0) rfl, Kq3.out.cell (j := 11) rfl⟩
    clear hK K1
    try simp only [List.getElem_toArray]
    try simp only [List.getElem_cons_succ]
    try simp only [List.getElem_cons_zero]
    try simp only [Act.put]
    try simp only [List.setIfInBounds_toArray]
    try simp only [List.set_cons_succ]
    try simp only [List.set_cons_zero]
    refine wpAnyH_ready (rs := [7]) (by kernel_rfl) (by simp) ?_
    refine AllReadyH.cons rfl (fun K1 hK => ?_) AllReadyH.nil
    go_simp
    try go_wp2_with fail
    have hb := below_new (o := .cells #[.string (nmT c e n), .string (cwd kd), .string (numS co)] 9) (w := w4) (Below.refl _ _)
    have O4 := hid (show OW _ w.heap.size (.slice (some ⟨w4.heap.size, 0, none⟩) 3 3) [nmT c e n, cwd kd, numS co] from bk_own (n := 3) (size := 1) (Bk.new w4 9 [.string (nmT c e n), .string (cwd kd), .string (numS co)]) rfl (by decide) Bq3.out.size)
    have Kq4 := hid (Kq3.out.below hb)
    have Bq4 := hid (Bq3.out.trans (hb.mono Bq3.out.size))
    have Gq4 := hid (Gq3.out.to hb)
    have Hq4 := hid (Hq3.out.below hb)
    clear Kq3 Bq3 Gq3 Hq3
    clear hb
    refine hK.out _ _ ?_ (fun hHeld => ?_)
    · exact ⟨Kq4.out.cell (j := 0) rfl, Kq4.out.cell (j := 11) rfl⟩
    clear hK K1
    try simp only [List.getElem_toArray]
    try simp only [List.getElem_cons_succ]
    try simp only [List.getElem_cons_zero]
    try simp only [Act.put]
    try simp only [List.setIfInBounds_toArray]
    try simp only [List.set_cons_succ]
    try simp only [List.set_cons_zero]
    refine wpAnyH_take (i := 8) (v := (.slice (some ⟨w4.heap.size, 0, none⟩) 3 3)) rfl (by kernel_rfl) (by kernel_rfl) (by kernel_rfl) (fun _ _ _ h => h) (Or.inl ⟨by rfl, ?_⟩) (by assumption) ?_
    · intro w hSw
      (try dsimp only at hSw)
      go_simp
    try simp only [List.getElem_toArray]
    try simp only [List.getElem_cons_succ]
    try simp only [List.getElem_cons_zero]
    try simp only [Act.put]
    try simp only [List.setIfInBounds_toArray]
    try simp only [List.set_cons_succ]
    try simp only [List.set_cons_zero]
    refine wpAnyH_done (by kernel_rfl) ?_ _
    refine NoPanic.normal ?_
    have x12 := Kq4.out.cell (j := 12) rfl
    go_wp2_with fail
    refine (CP.out _ Hq4.out Gq4.out).mono ?_
    generalize w4.alloc (.cells #[.string (nmT c e n), .string (cwd kd), .string (numS co)] 9) = w5 at *
    generalize w4.heap.size = g4 at *
    rintro r w6 ⟨xa, xn, xc, rfl, hO, hb⟩
    have B6 := hid (Bq4.out.trans (hb.mono Bq4.out.size))
    have O6 := hid (O4.out.below hb)
    have P6 := hid (hO.lower Bq4.out.size)
    have hl : ([nmT c e n, cwd kd, numS co] : List ByteArray).length + (ps.map pairT).length ≤ 4194304 := by have := HL.out; simp; omega
    clear hb hO x12 Kq4 Gq4 Hq4 Bq4 O4
    go_wp2_with (at_builtin; refine wpList_append_ws rfl _ _ rfl w.heap.size _ _ _ rfl O6.out _ _ rfl P6.out hl B6.out.size ?_)
    intro a7 n7 c7 w7 hO hg _
    have B7 := hid (B6.out.trans ((only_of_grown hg (R := fun y => (Value.slice (some ⟨g4, 0, none⟩) 3 3).ownBlock = some y) (fun k q => q)).below B6.out.size (fun b hb q => by have := (World.ownsRow.lt O6.out b q).1; omega)))
    have O7 : Hid (OW w7 w.heap.size (.slice a7 n7 c7) (rpW kd c e n co ps)) := by show OW _ _ _ _; rw [HRW.out]; simpa using hO
    clear hO hg hl O6 P6 B6
    go_wp2_with fail
    refine (lineOf_any _ _ _ _ _ _ O7.out Z1.out Z2.out).mono ?_
    rintro r w8 ⟨rfl, hb⟩
    have B8 := hid (B7.out.trans (hb.mono B7.out.size))
    clear hb
    go_wp2
    go_ret
    exact ⟨by rw [HRT.out]; rfl, B8.out⟩
end Go.Proofs.YtjddkofpfmjojaaDoor
/-
  ReplyText of the specification.
-/
namespace Go.Proofs.YtjddkofpfmjojaaDoor
open Go.RowKit
set_option linter.unusedVariables false
set_option maxHeartbeats 16000000 in
set_option maxRecDepth 20000 in
theorem specReplyText_any (S : Nat → Prop) (kd c e n k : Int) (ky vl lo hi : ByteArray) (mo : Int) (bk : Bool) (co : Int) (pa : Option Addr) (pn pc : Nat) (ps : List PB) (w : World) (h : Pr w S (.slice pa pn pc) ps) (hn : pn ≤ 1048576) (hz : szB ps) :
    Calls Tryd.prog 11 #[.agg #[.int .i64 kd, .int .i64 c, .int .i64 e, .int .i64 n, .int .i64 k, .string ky, .string vl, .string lo, .string hi, .int .i64 mo, .bool bk, .int .i64 co, .slice pa pn pc]] w fun r w' => r = .returned (.string (rpT kd c e n co ps)) ∧ Below w.heap.size w w' := by
  have K0 := hid (Bk.new w 53 [.int .i64 kd, .int .i64 c, .int .i64 e, .int .i64 n, .int .i64 k, .string ky, .string vl, .string lo, .string hi, .int .i64 mo, .bool bk, .int .i64 co, .slice pa pn pc])
  have B0 := hid (below_new (o := .cells #[.int .i64 kd, .int .i64 c, .int .i64 e, .int .i64 n, .int .i64 k, .string ky, .string vl, .string lo, .string hi, .int .i64 mo, .bool bk, .int .i64 co, .slice pa pn pc] 53) (w := w) (Below.refl _ _))
  have H0 := hid (h.below B0.out)
  have HHB : Hid (∀ {v : World}, Below w.heap.size w v → Pr v S (.slice pa pn pc) ps) := fun hb => h.below hb
  have HPN : Hid (pn = ps.length) := (Rw.len h).1
  have HZ := hid hz
  have CT := hid (fun w => specTxText_any c e n w)
  have CN := hid (fun w => specNumText_any co w)
  have CQ := hid (fun (s : ByteArray) (w : World) (hs : s.size ≤ 1048576) => specQuote_any s w hs)
  have sb : (⟨#[32]⟩ : ByteArray).size = 1 := rfl
  have se : (⟨#[61]⟩ : ByteArray).size = 1 := rfl
  clear h hz
  generalize hU : w.alloc (.cells #[.int .i64 kd, .int .i64 c, .int .i64 e, .int .i64 n, .int .i64 k, .string ky, .string vl, .string lo, .string hi, .int .i64 mo, .bool bk, .int .i64 co, .slice pa pn pc] 53) = U at *
  have HU := hid hU
  clear hU
  cases hz : txOk (c, e, n) with
  | false =>
    have HN1 := hid (nm_no hz)
    clear hz
    by_cases hlo : 1 ≤ kd
    · by_cases hhi : kd ≤ 4
      · obtain ⟨nk, rfl⟩ : ∃ nk : Nat, kd = nk := ⟨kd.toNat, by omega⟩
        have hn1 : 1 ≤ nk := by omega
        have hn4 : nk ≤ 4 := by omega
        go_enter Tryd.func11, Tryd.ntmps11
        go_wp2_with fail
        rw [HU.out]
        have x0 := K0.out.cell (j := 0) rfl
        have x1 := K0.out.cell (j := 1) rfl
        have x2 := K0.out.cell (j := 2) rfl
        have x3 := K0.out.cell (j := 3) rfl
        have x11 := K0.out.cell (j := 11) rfl
        have x12 := K0.out.cell (j := 12) rfl
        go_wp2_with fail
        refine (CT.out _).mono ?_
        rintro r w1 ⟨rfl, hb⟩
        have K1 := hid (K0.out.below hb)
        have B1 := hid (B0.out.trans (hb.mono B0.out.size))
        have H1 := hid (H0.out.below hb)
        clear hb K0 B0 H0 x0 x1 x2 x3 x11 x12
        rw [HN1.out.1]
        have x0 := K1.out.cell (j := 0) rfl
        have x1 := K1.out.cell (j := 1) rfl
        have x2 := K1.out.cell (j := 2) rfl
        have x3 := K1.out.cell (j := 3) rfl
        have x11 := K1.out.cell (j := 11) rfl
        have x12 := K1.out.cell (j := 12) rfl
        have T2 : (w1.alloc (.cells #[.string ⟨#[]⟩, .string ⟨#[98, 101, 103, 105, 110]⟩, .string ⟨#[97, 115, 107]⟩, .string ⟨#[99, 111, 109, 109, 105, 116]⟩, .string ⟨#[97, 98, 111, 114, 116]⟩] 9)).cell? ⟨w1.heap.size, nk, none⟩ = some (.string (cwd (nk : Int))) := (Bk.new w1 9 [.string ⟨#[]⟩, .string ⟨#[98, 101, 103, 105, 110]⟩, .string ⟨#[97, 115, 107]⟩, .string ⟨#[99, 111, 109, 109, 105, 116]⟩, .string ⟨#[97, 98, 111, 114, 116]⟩]).cell (j := nk) (by rcases (show nk = 1 ∨ nk = 2 ∨ nk = 3 ∨ nk = 4 by omega) with rfl | rfl | rfl | rfl <;> rfl)
        have hb : Below w1.heap.size w1 (w1.alloc (.cells #[.string ⟨#[]⟩, .string ⟨#[98, 101, 103, 105, 110]⟩, .string ⟨#[97, 115, 107]⟩, .string ⟨#[99, 111, 109, 109, 105, 116]⟩, .string ⟨#[97, 98, 111, 114, 116]⟩] 9)) := below_new (Below.refl _ _)
        have K2 := hid (K1.out.below hb)
        have B2 := hid (B1.out.trans (hb.mono B1.out.size))
        have H2 := hid (H1.out.below hb)
        clear hb K1 B1 H1
        have z0 := K2.out.cell (j := 0) rfl
        have z1 := K2.out.cell (j := 1) rfl
        have z2 := K2.out.cell (j := 2) rfl
        have z3 := K2.out.cell (j := 3) rfl
        have z11 := K2.out.cell (j := 11) rfl
        have z12 := K2.out.cell (j := 12) rfl
        have sn := nmT_size c e n
        have sb : (⟨#[32]⟩ : ByteArray).size = 1 := rfl
        have se : (⟨#[61]⟩ : ByteArray).size = 1 := rfl
        have sl : (cwd (nk : Int) : ByteArray).size ≤ 7 := cwd_size _
        have sc := numS_size co
        have s0 : (⟨#[45]⟩ : ByteArray).size = 1 := rfl
        have q1 : ¬ (9223372036854775807 < (⟨#[45]⟩ : ByteArray).size + (⟨#[32]⟩ : ByteArray).size) := by omega
        have q2 : ¬ (9223372036854775807 < (⟨#[45]⟩ ++ ⟨#[32]⟩ : ByteArray).size + (cwd (nk : Int) : ByteArray).size) := by rw [ByteArray.size_append]; omega
        have q3 : ¬ (9223372036854775807 < (⟨#[45]⟩ ++ ⟨#[32]⟩ ++ cwd (nk : Int) : ByteArray).size + (⟨#[32]⟩ : ByteArray).size) := by rw [ByteArray.size_append, ByteArray.size_append]; omega
        have q4 : ¬ (9223372036854775807 < (⟨#[45]⟩ ++ ⟨#[32]⟩ ++ cwd (nk : Int) ++ ⟨#[32]⟩ : ByteArray).size + (numS co : ByteArray).size) := by rw [ByteArray.size_append, ByteArray.size_append, ByteArray.size_append]; omega
        go_wp2_with fail
        refine (CN.out _).mono ?_
        generalize w1.alloc (.cells #[.string ⟨#[]⟩, .string ⟨#[98, 101, 103, 105, 110]⟩, .string ⟨#[97, 115, 107]⟩, .string ⟨#[99, 111, 109, 109, 105, 116]⟩, .string ⟨#[97, 98, 111, 114, 116]⟩] 9) = w2 at *
        generalize w1.heap.size = h2 at *
        rintro r w3 ⟨rfl, hb⟩
        have K3 := hid (K2.out.below hb)
        have B3 := hid (B2.out.trans (hb.mono B2.out.size))
        have H3 := hid (H2.out.below hb)
        clear hb K2 B2 H2 x0 x1 x2 x3 x11 x12 z0 z1 z2 z3 z11 z12 T2
        have x12 := K3.out.cell (j := 12) rfl
        go_wp2_with fail
        have HO : Hid (rpT (nk : Int) c e n co ps = (ps.map pairT).foldl (fun o y => o ++ blk ++ y) (⟨#[45]⟩ ++ ⟨#[32]⟩ ++ cwd (nk : Int) ++ ⟨#[32]⟩ ++ numS co)) := by show _ = _; rw [rpT_fold, HN1.out.2]; try rfl
        have so4 : Hid ((⟨#[45]⟩ ++ ⟨#[32]⟩ ++ cwd (nk : Int) ++ ⟨#[32]⟩ ++ numS co : ByteArray).size ≤ 100) := by show _ ≤ _; rw [ByteArray.size_append, ByteArray.size_append, ByteArray.size_append, ByteArray.size_append]; omega
        clear q1 q2 q3 q4 sn sl sc s0
        generalize ⟨#[45]⟩ ++ ⟨#[32]⟩ ++ cwd (nk : Int) ++ ⟨#[32]⟩ ++ numS co = o4 at *
        clear x12
        go_loopw [3, 6, 37] (fun x _ i v => ∃ (m : Nat) (o : ByteArray), x = .string o ∧ i = .int .i64 m ∧ m ≤ pn ∧ Hid (Below w.heap.size w v) ∧ Hid (o = ((ps.map pairT).take m).foldl (fun o y => o ++ blk ++ y) o4) ∧ Hid (o.size ≤ 100 + 24600 * m)) (fun _ _ i _ => pn - (intOf i).toNat)
        case atStart => exact ⟨0, _, rfl, rfl, Nat.zero_le _, B3.out, rfl, so4.out⟩
        case round =>
          have HB30 := B3
          clear B3
          obtain ⟨m, o, rfl, rfl, hm, HB, HQ, HZO⟩ := hrel
          by_cases hlt : m < pn
          · have hlt' : (m : Int) < (pn : Int) := by omega
            have HP0 := hid (H3.out)
            obtain ⟨b, off, rfl, -, -, hcell⟩ := (HHB.out HB.out).at (by omega : 0 < pn)
            have hck := (hcell m hlt).1
            have hck1 := (hcell m hlt).2
            have hkl : m < ps.length := by rw [← HPN.out]; exact hlt
            have HS := hid (take_pairT ps m hkl)
            have HP : Hid ((pAtB ps m).1.size ≤ 1048576 ∧ (pAtB ps m).2.size ≤ 1048576) := HZ.out _ (by simp [pAtB, hkl])
            clear hcell HP0
            generalize pAtB ps m = cur at *
            obtain ⟨ck, cv⟩ := cur
            have KP := hid (Bk.new wr 76 [.string ck, .string cv])
            have HB0 := hid (HB.out.alloc HB.out.size (.cells #[.string ck, .string cv] 76))
            clear HB
            have zo := HZO.out
            have z1 := wq_size ck
            have z2 := wq_size cv
            go_wp2_with fail
            generalize wr.alloc (.cells #[.string ck, .string cv] 76) = V at *
            generalize wr.heap.size = gP at *
            clear hck hck1
            refine wp_region_noPanic ?_
            refine wp_region_held_drew (S := fun v => v.cell? ⟨gP, 0, none⟩ = some (.string ck) ∧ v.cell? ⟨gP, 1, none⟩ = some (.string cv)) (by kernel_rfl) (⟨(KP.out.below (below_drew _)).cell (j := 0) rfl, (KP.out.below (below_drew _)).cell (j := 1) rfl⟩) (fun hHeld => ?_)
            simp only [List.size_toArray, List.length_cons, List.length_nil, Array.replicate_succ, Array.replicate_zero, Nat.reduceAdd, List.push_toArray, List.nil_append, List.cons_append]
            refine wpAnyH_take (i := 0) (v := (.string o)) rfl (by kernel_rfl) (by kernel_rfl) (by kernel_rfl) (fun _ _ _ h => h) (Or.inl ⟨by rfl, ?_⟩) (by assumption) ?_
            · intro w hSw
              (try dsimp only at hSw)
              go_simp
            try simp only [List.getElem_toArray]
            try simp only [List.getElem_cons_succ]
            try simp only [List.getElem_cons_zero]
            try simp only [Act.put]
            try simp only [List.setIfInBounds_toArray]
            try simp only [List.set_cons_succ]
            try simp only [List.set_cons_zero]
            refine wpAnyH_take (i := 1) (v := (.string (o ++ ⟨#[32]⟩))) rfl (by kernel_rfl) (by kernel_rfl) (by kernel_rfl) (fun _ _ _ h => h) (Or.inl ⟨by rfl, ?_⟩) (by assumption) ?_
            · intro w hSw
              (try dsimp only at hSw)
              go_simp
              try omega
            try simp only [List.getElem_toArray]
            try simp only [List.getElem_cons_succ]
            try simp only [List.getElem_cons_zero]
            try simp only [Act.put]
            try simp only [List.setIfInBounds_toArray]
            try simp only [List.set_cons_succ]
            try simp only [List.set_cons_zero]
            refine wpAnyH_take (i := 2) (v := (.pointer (some ⟨gP, 0, none⟩))) rfl (by kernel_rfl) (by kernel_rfl) (by kernel_rfl) (fun _ _ _ h => h) (Or.inl ⟨by rfl, ?_⟩) (by assumption) ?_
            · intro w hSw
              (try dsimp only at hSw)
              go_simp
            try simp only [List.getElem_toArray]
            try simp only [List.getElem_cons_succ]
            try simp only [List.getElem_cons_zero]
            try simp only [Act.put]
            try simp only [List.setIfInBounds_toArray]
            try simp only [List.set_cons_succ]
            try simp only [List.set_cons_zero]
            refine wpAnyH_take (i := 3) (v := (.string ck)) rfl (by kernel_rfl) (by kernel_rfl) (by kernel_rfl) (fun _ _ _ h => h) (Or.inl ⟨by rfl, ?_⟩) (by assumption) ?_
            · intro w hSw
              (try dsimp only at hSw)
              go_simp
            try simp only [List.getElem_toArray]
            try simp only [List.getElem_cons_succ]
            try simp only [List.getElem_cons_zero]
            try simp only [Act.put]
            try simp only [List.setIfInBounds_toArray]
            try simp only [List.set_cons_succ]
            try simp only [List.set_cons_zero]
            refine wpAnyH_take (i := 7) (v := (.pointer (some ⟨gP, 1, none⟩))) rfl (by kernel_rfl) (by kernel_rfl) (by kernel_rfl) (fun _ _ _ h => h) (Or.inl ⟨by rfl, ?_⟩) (by assumption) ?_
            · intro w hSw
              (try dsimp only at hSw)
              go_simp
            try simp only [List.getElem_toArray]
            try simp only [List.getElem_cons_succ]
            try simp only [List.getElem_cons_zero]
            try simp only [Act.put]
            try simp only [List.setIfInBounds_toArray]
            try simp only [List.set_cons_succ]
            try simp only [List.set_cons_zero]
            refine wpAnyH_take (i := 8) (v := (.string cv)) rfl (by kernel_rfl) (by kernel_rfl) (by kernel_rfl) (fun _ _ _ h => h) (Or.inl ⟨by rfl, ?_⟩) (by assumption) ?_
            · intro w hSw
              (try dsimp only at hSw)
              go_simp
            try simp only [List.getElem_toArray]
            try simp only [List.getElem_cons_succ]
            try simp only [List.getElem_cons_zero]
            try simp only [Act.put]
            try simp only [List.setIfInBounds_toArray]
            try simp only [List.set_cons_succ]
            try simp only [List.set_cons_zero]
            have Kp1 := hid (KP.out.below (below_drew _))
            have HB1 := hid (HB0.out.trans ((below_drew V).mono HB0.out.size))
            clear KP HB0
            generalize V.drew = v1 at *
            refine wpAnyH_ready (rs := [4]) (by kernel_rfl) (by simp) ?_
            refine AllReadyH.cons rfl (fun K1 hK => ?_) AllReadyH.nil
            go_simp
            refine (CQ.out ck _ HP.out.1).mono ?_
            rintro r v2 ⟨rfl, hb⟩
            go_wp2_with fail
            have Kp2 := hid (Kp1.out.below hb)
            have HB2 := hid (HB1.out.trans (hb.mono HB1.out.size))
            clear hb Kp1 HB1
            refine hK.out _ _ ?_ (fun hHeld => ?_)
            · exact ⟨Kp2.out.cell (j := 0) rfl, Kp2.out.cell (j := 1) rfl⟩
            clear hK K1
            try simp only [List.getElem_toArray]
            try simp only [List.getElem_cons_succ]
            try simp only [List.getElem_cons_zero]
            try simp only [Act.put]
            try simp only [List.setIfInBounds_toArray]
            try simp only [List.set_cons_succ]
            try simp only [List.set_cons_zero]
            refine wpAnyH_take (i := 5) (v := (.string (o ++ ⟨#[32]⟩ ++ qt ck))) rfl (by kernel_rfl) (by kernel_rfl) (by kernel_rfl) (fun _ _ _ h => h) (Or.inl ⟨by rfl, ?_⟩) (by assumption) ?_
            · intro w hSw
              (try dsimp only at hSw)
              go_simp
              try omega
            try simp only [List.getElem_toArray]
            try simp only [List.getElem_cons_succ]
            try simp only [List.getElem_cons_zero]
            try simp only [Act.put]
            try simp only [List.setIfInBounds_toArray]
            try simp only [List.set_cons_succ]
            try simp only [List.set_cons_zero]
            refine wpAnyH_take (i := 6) (v := (.string (o ++ ⟨#[32]⟩ ++ qt ck ++ ⟨#[61]⟩))) rfl (by kernel_rfl) (by kernel_rfl) (by kernel_rfl) (fun _ _ _ h => h) (Or.inl ⟨by rfl, ?_⟩) (by assumption) ?_
            · intro w hSw
              (try dsimp only at hSw)
              go_simp
              try omega
            try simp only [List.getElem_toArray]
            try simp only [List.getElem_cons_succ]
            try simp only [List.getElem_cons_zero]
            try simp only [Act.put]
            try simp only [List.setIfInBounds_toArray]
            try simp only [List.set_cons_succ]
            try simp only [List.set_cons_zero]
            refine wpAnyH_ready (rs := [9]) (by kernel_rfl) (by simp) ?_
            refine AllReadyH.cons rfl (fun K1 hK => ?_) AllReadyH.nil
            go_simp
            refine (CQ.out cv _ HP.out.2).mono ?_
            rintro r v3 ⟨rfl, hb⟩
            go_wp2_with fail
            have Kp3 := hid (Kp2.out.below hb)
            have HB3 := hid (HB2.out.trans (hb.mono HB2.out.size))
            clear hb Kp2 HB2
            refine hK.out _ _ ?_ (fun hHeld => ?_)
            · exact ⟨Kp3.out.cell (j := 0) rfl, Kp3.out.cell (j := 1) rfl⟩
            clear hK K1
            try simp only [List.getElem_toArray]
            try simp only [List.getElem_cons_succ]
            try simp only [List.getElem_cons_zero]
            try simp only [Act.put]
            try simp only [List.setIfInBounds_toArray]
            try simp only [List.set_cons_succ]
            try simp only [List.set_cons_zero]
            refine wpAnyH_take (i := 10) (v := (.string (o ++ ⟨#[32]⟩ ++ qt ck ++ ⟨#[61]⟩ ++ qt cv))) rfl (by kernel_rfl) (by kernel_rfl) (by kernel_rfl) (fun _ _ _ h => h) (Or.inl ⟨by rfl, ?_⟩) (by assumption) ?_
            · intro w hSw
              (try dsimp only at hSw)
              go_simp
              try omega
            try simp only [List.getElem_toArray]
            try simp only [List.getElem_cons_succ]
            try simp only [List.getElem_cons_zero]
            try simp only [Act.put]
            try simp only [List.setIfInBounds_toArray]
            try simp only [List.set_cons_succ]
            try simp only [List.set_cons_zero]
            refine wpAnyH_take (i := 11) (v := (.string (o ++ ⟨#[32]⟩ ++ qt ck ++ ⟨#[61]⟩ ++ qt cv))) rfl (by kernel_rfl) (by kernel_rfl) (by kernel_rfl) (fun _ _ _ h => h) (Or.inl ⟨by rfl, ?_⟩) (by assumption) ?_
            · intro w hSw
              (try dsimp only at hSw)
              go_simp
              try omega
            try simp only [List.getElem_toArray]
            try simp only [List.getElem_cons_succ]
            try simp only [List.getElem_cons_zero]
            try simp only [Act.put]
            try simp only [List.setIfInBounds_toArray]
            try simp only [List.set_cons_succ]
            try simp only [List.set_cons_zero]
            refine wpAnyH_done (by kernel_rfl) ?_ _
            refine NoPanic.normal ?_
            have HQ9 : Hid (o ++ ⟨#[32]⟩ ++ qt ck ++ ⟨#[61]⟩ ++ qt cv = ((ps.map pairT).take (m + 1)).foldl (fun o y => o ++ blk ++ y) o4) := by
              show _ = _
              rw [HS.out, List.foldl_append, ← HQ.out]
              show _ = o ++ blk ++ (qt ck ++ ⟨#[61]⟩ ++ qt cv)
              simp only [ByteArray.append_assoc, blk]
            have HZ9 : Hid ((o ++ ⟨#[32]⟩ ++ qt ck ++ ⟨#[61]⟩ ++ qt cv : ByteArray).size ≤ 100 + 24600 * (m + 1)) := by
              show _ ≤ _
              simp only [ByteArray.size_append, sb, se]
              omega
            clear HQ HZO HS zo z1 z2
            go_wp2
            go_roundw
            case rel => exact ⟨m + 1, _, rfl, by go_num, by omega, HB3.out, HQ9.out, HZ9.out⟩
            case measure => simp [intOf]; omega
          · have HE : Hid ((ps.map pairT).take m = ps.map pairT) := List.take_of_length_le (by rw [List.length_map, ← HPN.out]; omega)
            rw [HE.out] at HQ
            go_wp2
            go_ret
            exact ⟨by rw [HO.out, HQ.out]; try rfl, HB.out⟩
      · have HC : Hid (cwd kd = wDash) := by show _ = _; unfold cwd; rw [if_neg (by omega), if_neg (by omega), if_neg (by omega), if_neg (by omega)]
        go_enter Tryd.func11, Tryd.ntmps11
        go_wp2_with fail
        rw [HU.out]
        have x0 := K0.out.cell (j := 0) rfl
        have x1 := K0.out.cell (j := 1) rfl
        have x2 := K0.out.cell (j := 2) rfl
        have x3 := K0.out.cell (j := 3) rfl
        have x11 := K0.out.cell (j := 11) rfl
        have x12 := K0.out.cell (j := 12) rfl
        go_wp2_with fail
        refine (CT.out _).mono ?_
        rintro r w1 ⟨rfl, hb⟩
        have K1 := hid (K0.out.below hb)
        have B1 := hid (B0.out.trans (hb.mono B0.out.size))
        have H1 := hid (H0.out.below hb)
        clear hb K0 B0 H0 x0 x1 x2 x3 x11 x12
        rw [HN1.out.1]
        have x0 := K1.out.cell (j := 0) rfl
        have x1 := K1.out.cell (j := 1) rfl
        have x2 := K1.out.cell (j := 2) rfl
        have x3 := K1.out.cell (j := 3) rfl
        have x11 := K1.out.cell (j := 11) rfl
        have x12 := K1.out.cell (j := 12) rfl
        have K2 := K1
        have B2 := B1
        have H2 := H1
        have sn := nmT_size c e n
        have sb : (⟨#[32]⟩ : ByteArray).size = 1 := rfl
        have se : (⟨#[61]⟩ : ByteArray).size = 1 := rfl
        have sl : (⟨#[45]⟩ : ByteArray).size ≤ 7 := by decide
        have sc := numS_size co
        have s0 : (⟨#[45]⟩ : ByteArray).size = 1 := rfl
        have q1 : ¬ (9223372036854775807 < (⟨#[45]⟩ : ByteArray).size + (⟨#[32]⟩ : ByteArray).size) := by omega
        have q2 : ¬ (9223372036854775807 < (⟨#[45]⟩ ++ ⟨#[32]⟩ : ByteArray).size + (⟨#[45]⟩ : ByteArray).size) := by rw [ByteArray.size_append]; omega
        have q3 : ¬ (9223372036854775807 < (⟨#[45]⟩ ++ ⟨#[32]⟩ ++ ⟨#[45]⟩ : ByteArray).size + (⟨#[32]⟩ : ByteArray).size) := by rw [ByteArray.size_append, ByteArray.size_append]; omega
        have q4 : ¬ (9223372036854775807 < (⟨#[45]⟩ ++ ⟨#[32]⟩ ++ ⟨#[45]⟩ ++ ⟨#[32]⟩ : ByteArray).size + (numS co : ByteArray).size) := by rw [ByteArray.size_append, ByteArray.size_append, ByteArray.size_append]; omega
        go_wp2_with fail
        refine (CN.out _).mono ?_
        rintro r w3 ⟨rfl, hb⟩
        have K3 := hid (K2.out.below hb)
        have B3 := hid (B2.out.trans (hb.mono B2.out.size))
        have H3 := hid (H2.out.below hb)
        clear hb K2 B2 H2 x0 x1 x2 x3 x11 x12 K1 B1 H1
        have x12 := K3.out.cell (j := 12) rfl
        go_wp2_with fail
        have HO : Hid (rpT kd c e n co ps = (ps.map pairT).foldl (fun o y => o ++ blk ++ y) (⟨#[45]⟩ ++ ⟨#[32]⟩ ++ ⟨#[45]⟩ ++ ⟨#[32]⟩ ++ numS co)) := by show _ = _; rw [rpT_fold, HN1.out.2]; rw [HC.out]; try rfl
        have so4 : Hid ((⟨#[45]⟩ ++ ⟨#[32]⟩ ++ ⟨#[45]⟩ ++ ⟨#[32]⟩ ++ numS co : ByteArray).size ≤ 100) := by show _ ≤ _; rw [ByteArray.size_append, ByteArray.size_append, ByteArray.size_append, ByteArray.size_append]; omega
        clear q1 q2 q3 q4 sn sl sc s0
        generalize ⟨#[45]⟩ ++ ⟨#[32]⟩ ++ ⟨#[45]⟩ ++ ⟨#[32]⟩ ++ numS co = o4 at *
        clear x12
        go_loopw [3, 6, 37] (fun x _ i v => ∃ (m : Nat) (o : ByteArray), x = .string o ∧ i = .int .i64 m ∧ m ≤ pn ∧ Hid (Below w.heap.size w v) ∧ Hid (o = ((ps.map pairT).take m).foldl (fun o y => o ++ blk ++ y) o4) ∧ Hid (o.size ≤ 100 + 24600 * m)) (fun _ _ i _ => pn - (intOf i).toNat)
        case atStart => exact ⟨0, _, rfl, rfl, Nat.zero_le _, B3.out, rfl, so4.out⟩
        case round =>
          have HB30 := B3
          clear B3
          obtain ⟨m, o, rfl, rfl, hm, HB, HQ, HZO⟩ := hrel
          by_cases hlt : m < pn
          · have hlt' : (m : Int) < (pn : Int) := by omega
            have HP0 := hid (H3.out)
            obtain ⟨b, off, rfl, -, -, hcell⟩ := (HHB.out HB.out).at (by omega : 0 < pn)
            have hck := (hcell m hlt).1
            have hck1 := (hcell m hlt).2
            have hkl : m < ps.length := by rw [← HPN.out]; exact hlt
            have HS := hid (take_pairT ps m hkl)
            have HP : Hid ((pAtB ps m).1.size ≤ 1048576 ∧ (pAtB ps m).2.size ≤ 1048576) := HZ.out _ (by simp [pAtB, hkl])
            clear hcell HP0
            generalize pAtB ps m = cur at *
            obtain ⟨ck, cv⟩ := cur
            have KP := hid (Bk.new wr 76 [.string ck, .string cv])
            have HB0 := hid (HB.out.alloc HB.out.size (.cells #[.string ck, .string cv] 76))
            clear HB
            have zo := HZO.out
            have z1 := wq_size ck
            have z2 := wq_size cv
            go_wp2_with fail
            generalize wr.alloc (.cells #[.string ck, .string cv] 76) = V at *
            generalize wr.heap.size = gP at *
            clear hck hck1
            refine wp_region_noPanic ?_
            refine wp_region_held_drew (S := fun v => v.cell? ⟨gP, 0, none⟩ = some (.string ck) ∧ v.cell? ⟨gP, 1, none⟩ = some (.string cv)) (by kernel_rfl) (⟨(KP.out.below (below_drew _)).cell (j := 0) rfl, (KP.out.below (below_drew _)).cell (j := 1) rfl⟩) (fun hHeld => ?_)
            simp only [List.size_toArray, List.length_cons, List.length_nil, Array.replicate_succ, Array.replicate_zero, Nat.reduceAdd, List.push_toArray, List.nil_append, List.cons_append]
            refine wpAnyH_take (i := 0) (v := (.string o)) rfl (by kernel_rfl) (by kernel_rfl) (by kernel_rfl) (fun _ _ _ h => h) (Or.inl ⟨by rfl, ?_⟩) (by assumption) ?_
            · intro w hSw
              (try dsimp only at hSw)
              go_simp
            try simp only [List.getElem_toArray]
            try simp only [List.getElem_cons_succ]
            try simp only [List.getElem_cons_zero]
            try simp only [Act.put]
            try simp only [List.setIfInBounds_toArray]
            try simp only [List.set_cons_succ]
            try simp only [List.set_cons_zero]
            refine wpAnyH_take (i := 1) (v := (.string (o ++ ⟨#[32]⟩))) rfl (by kernel_rfl) (by kernel_rfl) (by kernel_rfl) (fun _ _ _ h => h) (Or.inl ⟨by rfl, ?_⟩) (by assumption) ?_
            · intro w hSw
              (try dsimp only at hSw)
              go_simp
              try omega
            try simp only [List.getElem_toArray]
            try simp only [List.getElem_cons_succ]
            try simp only [List.getElem_cons_zero]
            try simp only [Act.put]
            try simp only [List.setIfInBounds_toArray]
            try simp only [List.set_cons_succ]
            try simp only [List.set_cons_zero]
            refine wpAnyH_take (i := 2) (v := (.pointer (some ⟨gP, 0, none⟩))) rfl (by kernel_rfl) (by kernel_rfl) (by kernel_rfl) (fun _ _ _ h => h) (Or.inl ⟨by rfl, ?_⟩) (by assumption) ?_
            · intro w hSw
              (try dsimp only at hSw)
              go_simp
            try simp only [List.getElem_toArray]
            try simp only [List.getElem_cons_succ]
            try simp only [List.getElem_cons_zero]
            try simp only [Act.put]
            try simp only [List.setIfInBounds_toArray]
            try simp only [List.set_cons_succ]
            try simp only [List.set_cons_zero]
            refine wpAnyH_take (i := 3) (v := (.string ck)) rfl (by kernel_rfl) (by kernel_rfl) (by kernel_rfl) (fun _ _ _ h => h) (Or.inl ⟨by rfl, ?_⟩) (by assumption) ?_
            · intro w hSw
              (try dsimp only at hSw)
              go_simp
            try simp only [List.getElem_toArray]
            try simp only [List.getElem_cons_succ]
            try simp only [List.getElem_cons_zero]
            try simp only [Act.put]
            try simp only [List.setIfInBounds_toArray]
            try simp only [List.set_cons_succ]
            try simp only [List.set_cons_zero]
            refine wpAnyH_take (i := 7) (v := (.pointer (some ⟨gP, 1, none⟩))) rfl (by kernel_rfl) (by kernel_rfl) (by kernel_rfl) (fun _ _ _ h => h) (Or.inl ⟨by rfl, ?_⟩) (by assumption) ?_
            · intro w hSw
              (try dsimp only at hSw)
              go_simp
            try simp only [List.getElem_toArray]
            try simp only [List.getElem_cons_succ]
            try simp only [List.getElem_cons_zero]
            try simp only [Act.put]
            try simp only [List.setIfInBounds_toArray]
            try simp only [List.set_cons_succ]
            try simp only [List.set_cons_zero]
            refine wpAnyH_take (i := 8) (v := (.string cv)) rfl (by kernel_rfl) (by kernel_rfl) (by kernel_rfl) (fun _ _ _ h => h) (Or.inl ⟨by rfl, ?_⟩) (by assumption) ?_
            · intro w hSw
              (try dsimp only at hSw)
              go_simp
            try simp only [List.getElem_toArray]
            try simp only [List.getElem_cons_succ]
            try simp only [List.getElem_cons_zero]
            try simp only [Act.put]
            try simp only [List.setIfInBounds_toArray]
            try simp only [List.set_cons_succ]
            try simp only [List.set_cons_zero]
            have Kp1 := hid (KP.out.below (below_drew _))
            have HB1 := hid (HB0.out.trans ((below_drew V).mono HB0.out.size))
            clear KP HB0
            generalize V.drew = v1 at *
            refine wpAnyH_ready (rs := [4]) (by kernel_rfl) (by simp) ?_
            refine AllReadyH.cons rfl (fun K1 hK => ?_) AllReadyH.nil
            go_simp
            refine (CQ.out ck _ HP.out.1).mono ?_
            rintro r v2 ⟨rfl, hb⟩
            go_wp2_with fail
            have Kp2 := hid (Kp1.out.below hb)
            have HB2 := hid (HB1.out.trans (hb.mono HB1.out.size))
            clear hb Kp1 HB1
            refine hK.out _ _ ?_ (fun hHeld => ?_)
            · exact ⟨Kp2.out.cell (j := 0) rfl, Kp2.out.cell (j := 1) rfl⟩
            clear hK K1
            try simp only [List.getElem_toArray]
            try simp only [List.getElem_cons_succ]
            try simp only [List.getElem_cons_zero]
            try simp only [Act.put]
            try simp only [List.setIfInBounds_toArray]
            try simp only [List.set_cons_succ]
            try simp only [List.set_cons_zero]
            refine wpAnyH_take (i := 5) (v := (.string (o ++ ⟨#[32]⟩ ++ qt ck))) rfl (by kernel_rfl) (by kernel_rfl) (by kernel_rfl) (fun _ _ _ h => h) (Or.inl ⟨by rfl, ?_⟩) (by assumption) ?_
            · intro w hSw
              (try dsimp only at hSw)
              go_simp
              try omega
            try simp only [List.getElem_toArray]
            try simp only [List.getElem_cons_succ]
            try simp only [List.getElem_cons_zero]
            try simp only [Act.put]
            try simp only [List.setIfInBounds_toArray]
            try simp only [List.set_cons_succ]
            try simp only [List.set_cons_zero]
            refine wpAnyH_take (i := 6) (v := (.string (o ++ ⟨#[32]⟩ ++ qt ck ++ ⟨#[61]⟩))) rfl (by kernel_rfl) (by kernel_rfl) (by kernel_rfl) (fun _ _ _ h => h) (Or.inl ⟨by rfl, ?_⟩) (by assumption) ?_
            · intro w hSw
              (try dsimp only at hSw)
              go_simp
              try omega
            try simp only [List.getElem_toArray]
            try simp only [List.getElem_cons_succ]
            try simp only [List.getElem_cons_zero]
            try simp only [Act.put]
            try simp only [List.setIfInBounds_toArray]
            try simp only [List.set_cons_succ]
            try simp only [List.set_cons_zero]
            refine wpAnyH_ready (rs := [9]) (by kernel_rfl) (by simp) ?_
            refine AllReadyH.cons rfl (fun K1 hK => ?_) AllReadyH.nil
            go_simp
            refine (CQ.out cv _ HP.out.2).mono ?_
            rintro r v3 ⟨rfl, hb⟩
            go_wp2_with fail
            have Kp3 := hid (Kp2.out.below hb)
            have HB3 := hid (HB2.out.trans (hb.mono HB2.out.size))
            clear hb Kp2 HB2
            refine hK.out _ _ ?_ (fun hHeld => ?_)
            · exact ⟨Kp3.out.cell (j := 0) rfl, Kp3.out.cell (j := 1) rfl⟩
            clear hK K1
            try simp only [List.getElem_toArray]
            try simp only [List.getElem_cons_succ]
            try simp only [List.getElem_cons_zero]
            try simp only [Act.put]
            try simp only [List.setIfInBounds_toArray]
            try simp only [List.set_cons_succ]
            try simp only [List.set_cons_zero]
            refine wpAnyH_take (i := 10) (v := (.string (o ++ ⟨#[32]⟩ ++ qt ck ++ ⟨#[61]⟩ ++ qt cv))) rfl (by kernel_rfl) (by kernel_rfl) (by kernel_rfl) (fun _ _ _ h => h) (Or.inl ⟨by rfl, ?_⟩) (by assumption) ?_
            · intro w hSw
              (try dsimp only at hSw)
              go_simp
              try omega
            try simp only [List.getElem_toArray]
            try simp only [List.getElem_cons_succ]
            try simp only [List.getElem_cons_zero]
            try simp only [Act.put]
            try simp only [List.setIfInBounds_toArray]
            try simp only [List.set_cons_succ]
            try simp only [List.set_cons_zero]
            refine wpAnyH_take (i := 11) (v := (.string (o ++ ⟨#[32]⟩ ++ qt ck ++ ⟨#[61]⟩ ++ qt cv))) rfl (by kernel_rfl) (by kernel_rfl) (by kernel_rfl) (fun _ _ _ h => h) (Or.inl ⟨by rfl, ?_⟩) (by assumption) ?_
            · intro w hSw
              (try dsimp only at hSw)
              go_simp
              try omega
            try simp only [List.getElem_toArray]
            try simp only [List.getElem_cons_succ]
            try simp only [List.getElem_cons_zero]
            try simp only [Act.put]
            try simp only [List.setIfInBounds_toArray]
            try simp only [List.set_cons_succ]
            try simp only [List.set_cons_zero]
            refine wpAnyH_done (by kernel_rfl) ?_ _
            refine NoPanic.normal ?_
            have HQ9 : Hid (o ++ ⟨#[32]⟩ ++ qt ck ++ ⟨#[61]⟩ ++ qt cv = ((ps.map pairT).take (m + 1)).foldl (fun o y => o ++ blk ++ y) o4) := by
              show _ = _
              rw [HS.out, List.foldl_append, ← HQ.out]
              show _ = o ++ blk ++ (qt ck ++ ⟨#[61]⟩ ++ qt cv)
              simp only [ByteArray.append_assoc, blk]
            have HZ9 : Hid ((o ++ ⟨#[32]⟩ ++ qt ck ++ ⟨#[61]⟩ ++ qt cv : ByteArray).size ≤ 100 + 24600 * (m + 1)) := by
              show _ ≤ _
              simp only [ByteArray.size_append, sb, se]
              omega
            clear HQ HZO HS zo z1 z2
            go_wp2
            go_roundw
            case rel => exact ⟨m + 1, _, rfl, by go_num, by omega, HB3.out, HQ9.out, HZ9.out⟩
            case measure => simp [intOf]; omega
          · have HE : Hid ((ps.map pairT).take m = ps.map pairT) := List.take_of_length_le (by rw [List.length_map, ← HPN.out]; omega)
            rw [HE.out] at HQ
            go_wp2
            go_ret
            exact ⟨by rw [HO.out, HQ.out]; try rfl, HB.out⟩
    · have HC : Hid (cwd kd = wDash) := by show _ = _; unfold cwd; rw [if_neg (by omega), if_neg (by omega), if_neg (by omega), if_neg (by omega)]
      go_enter Tryd.func11, Tryd.ntmps11
      go_wp2_with fail
      rw [HU.out]
      have x0 := K0.out.cell (j := 0) rfl
      have x1 := K0.out.cell (j := 1) rfl
      have x2 := K0.out.cell (j := 2) rfl
      have x3 := K0.out.cell (j := 3) rfl
      have x11 := K0.out.cell (j := 11) rfl
      have x12 := K0.out.cell (j := 12) rfl
      go_wp2_with fail
      refine (CT.out _).mono ?_
      rintro r w1 ⟨rfl, hb⟩
      have K1 := hid (K0.out.below hb)
      have B1 := hid (B0.out.trans (hb.mono B0.out.size))
      have H1 := hid (H0.out.below hb)
      clear hb K0 B0 H0 x0 x1 x2 x3 x11 x12
      rw [HN1.out.1]
      have x0 := K1.out.cell (j := 0) rfl
      have x1 := K1.out.cell (j := 1) rfl
      have x2 := K1.out.cell (j := 2) rfl
      have x3 := K1.out.cell (j := 3) rfl
      have x11 := K1.out.cell (j := 11) rfl
      have x12 := K1.out.cell (j := 12) rfl
      have K2 := K1
      have B2 := B1
      have H2 := H1
      have sn := nmT_size c e n
      have sb : (⟨#[32]⟩ : ByteArray).size = 1 := rfl
      have se : (⟨#[61]⟩ : ByteArray).size = 1 := rfl
      have sl : (⟨#[45]⟩ : ByteArray).size ≤ 7 := by decide
      have sc := numS_size co
      have s0 : (⟨#[45]⟩ : ByteArray).size = 1 := rfl
      have q1 : ¬ (9223372036854775807 < (⟨#[45]⟩ : ByteArray).size + (⟨#[32]⟩ : ByteArray).size) := by omega
      have q2 : ¬ (9223372036854775807 < (⟨#[45]⟩ ++ ⟨#[32]⟩ : ByteArray).size + (⟨#[45]⟩ : ByteArray).size) := by rw [ByteArray.size_append]; omega
      have q3 : ¬ (9223372036854775807 < (⟨#[45]⟩ ++ ⟨#[32]⟩ ++ ⟨#[45]⟩ : ByteArray).size + (⟨#[32]⟩ : ByteArray).size) := by rw [ByteArray.size_append, ByteArray.size_append]; omega
      have q4 : ¬ (9223372036854775807 < (⟨#[45]⟩ ++ ⟨#[32]⟩ ++ ⟨#[45]⟩ ++ ⟨#[32]⟩ : ByteArray).size + (numS co : ByteArray).size) := by rw [ByteArray.size_append, ByteArray.size_append, ByteArray.size_append]; omega
      go_wp2_with fail
      refine (CN.out _).mono ?_
      rintro r w3 ⟨rfl, hb⟩
      have K3 := hid (K2.out.below hb)
      have B3 := hid (B2.out.trans (hb.mono B2.out.size))
      have H3 := hid (H2.out.below hb)
      clear hb K2 B2 H2 x0 x1 x2 x3 x11 x12 K1 B1 H1
      have x12 := K3.out.cell (j := 12) rfl
      go_wp2_with fail
      have HO : Hid (rpT kd c e n co ps = (ps.map pairT).foldl (fun o y => o ++ blk ++ y) (⟨#[45]⟩ ++ ⟨#[32]⟩ ++ ⟨#[45]⟩ ++ ⟨#[32]⟩ ++ numS co)) := by show _ = _; rw [rpT_fold, HN1.out.2]; rw [HC.out]; try rfl
      have so4 : Hid ((⟨#[45]⟩ ++ ⟨#[32]⟩ ++ ⟨#[45]⟩ ++ ⟨#[32]⟩ ++ numS co : ByteArray).size ≤ 100) := by show _ ≤ _; rw [ByteArray.size_append, ByteArray.size_append, ByteArray.size_append, ByteArray.size_append]; omega
      clear q1 q2 q3 q4 sn sl sc s0
      generalize ⟨#[45]⟩ ++ ⟨#[32]⟩ ++ ⟨#[45]⟩ ++ ⟨#[32]⟩ ++ numS co = o4 at *
      clear x12
      go_loopw [3, 6, 37] (fun x _ i v => ∃ (m : Nat) (o : ByteArray), x = .string o ∧ i = .int .i64 m ∧ m ≤ pn ∧ Hid (Below w.heap.size w v) ∧ Hid (o = ((ps.map pairT).take m).foldl (fun o y => o ++ blk ++ y) o4) ∧ Hid (o.size ≤ 100 + 24600 * m)) (fun _ _ i _ => pn - (intOf i).toNat)
      case atStart => exact ⟨0, _, rfl, rfl, Nat.zero_le _, B3.out, rfl, so4.out⟩
      case round =>
        have HB30 := B3
        clear B3
        obtain ⟨m, o, rfl, rfl, hm, HB, HQ, HZO⟩ := hrel
        by_cases hlt : m < pn
        · have hlt' : (m : Int) < (pn : Int) := by omega
          have HP0 := hid (H3.out)
          obtain ⟨b, off, rfl, -, -, hcell⟩ := (HHB.out HB.out).at (by omega : 0 < pn)
          have hck := (hcell m hlt).1
          have hck1 := (hcell m hlt).2
          have hkl : m < ps.length := by rw [← HPN.out]; exact hlt
          have HS := hid (take_pairT ps m hkl)
          have HP : Hid ((pAtB ps m).1.size ≤ 1048576 ∧ (pAtB ps m).2.size ≤ 1048576) := HZ.out _ (by simp [pAtB, hkl])
          clear hcell HP0
          generalize pAtB ps m = cur at *
          obtain ⟨ck, cv⟩ := cur
          have KP := hid (Bk.new wr 76 [.string ck, .string cv])
          have HB0 := hid (HB.out.alloc HB.out.size (.cells #[.string ck, .string cv] 76))
          clear HB
          have zo := HZO.out
          have z1 := wq_size ck
          have z2 := wq_size cv
          go_wp2_with fail
          generalize wr.alloc (.cells #[.string ck, .string cv] 76) = V at *
          generalize wr.heap.size = gP at *
          clear hck hck1
          refine wp_region_noPanic ?_
          refine wp_region_held_drew (S := fun v => v.cell? ⟨gP, 0, none⟩ = some (.string ck) ∧ v.cell? ⟨gP, 1, none⟩ = some (.string cv)) (by kernel_rfl) (⟨(KP.out.below (below_drew _)).cell (j := 0) rfl, (KP.out.below (below_drew _)).cell (j := 1) rfl⟩) (fun hHeld => ?_)
          simp only [List.size_toArray, List.length_cons, List.length_nil, Array.replicate_succ, Array.replicate_zero, Nat.reduceAdd, List.push_toArray, List.nil_append, List.cons_append]
          refine wpAnyH_take (i := 0) (v := (.string o)) rfl (by kernel_rfl) (by kernel_rfl) (by kernel_rfl) (fun _ _ _ h => h) (Or.inl ⟨by rfl, ?_⟩) (by assumption) ?_
          · intro w hSw
            (try dsimp only at hSw)
            go_simp
          try simp only [List.getElem_toArray]
          try simp only [List.getElem_cons_succ]
          try simp only [List.getElem_cons_zero]
          try simp only [Act.put]
          try simp only [List.setIfInBounds_toArray]
          try simp only [List.set_cons_succ]
          try simp only [List.set_cons_zero]
          refine wpAnyH_take (i := 1) (v := (.string (o ++ ⟨#[32]⟩))) rfl (by kernel_rfl) (by kernel_rfl) (by kernel_rfl) (fun _ _ _ h => h) (Or.inl ⟨by rfl, ?_⟩) (by assumption) ?_
          · intro w hSw
            (try dsimp only at hSw)
            go_simp
            try omega
          try simp only [List.getElem_toArray]
          try simp only [List.getElem_cons_succ]
          try simp only [List.getElem_cons_zero]
          try simp only [Act.put]
          try simp only [List.setIfInBounds_toArray]
          try simp only [List.set_cons_succ]
          try simp only [List.set_cons_zero]
          refine wpAnyH_take (i := 2) (v := (.pointer (some ⟨gP, 0, none⟩))) rfl (by kernel_rfl) (by kernel_rfl) (by kernel_rfl) (fun _ _ _ h => h) (Or.inl ⟨by rfl, ?_⟩) (by assumption) ?_
          · intro w hSw
            (try dsimp only at hSw)
            go_simp
          try simp only [List.getElem_toArray]
          try simp only [List.getElem_cons_succ]
          try simp only [List.getElem_cons_zero]
          try simp only [Act.put]
          try simp only [List.setIfInBounds_toArray]
          try simp only [List.set_cons_succ]
          try simp only [List.set_cons_zero]
          refine wpAnyH_take (i := 3) (v := (.string ck)) rfl (by kernel_rfl) (by kernel_rfl) (by kernel_rfl) (fun _ _ _ h => h) (Or.inl ⟨by rfl, ?_⟩) (by assumption) ?_
          · intro w hSw
            (try dsimp only at hSw)
            go_simp
          try simp only [List.getElem_toArray]
          try simp only [List.getElem_cons_succ]
          try simp only [List.getElem_cons_zero]
          try simp only [Act.put]
          try simp only [List.setIfInBounds_toArray]
          try simp only [List.set_cons_succ]
          try simp only [List.set_cons_zero]
          refine wpAnyH_take (i := 7) (v := (.pointer (some ⟨gP, 1, none⟩))) rfl (by kernel_rfl) (by kernel_rfl) (by kernel_rfl) (fun _ _ _ h => h) (Or.inl ⟨by rfl, ?_⟩) (by assumption) ?_
          · intro w hSw
            (try dsimp only at hSw)
            go_simp
          try simp only [List.getElem_toArray]
          try simp only [List.getElem_cons_succ]
          try simp only [List.getElem_cons_zero]
          try simp only [Act.put]
          try simp only [List.setIfInBounds_toArray]
          try simp only [List.set_cons_succ]
          try simp only [List.set_cons_zero]
          refine wpAnyH_take (i := 8) (v := (.string cv)) rfl (by kernel_rfl) (by kernel_rfl) (by kernel_rfl) (fun _ _ _ h => h) (Or.inl ⟨by rfl, ?_⟩) (by assumption) ?_
          · intro w hSw
            (try dsimp only at hSw)
            go_simp
          try simp only [List.getElem_toArray]
          try simp only [List.getElem_cons_succ]
          try simp only [List.getElem_cons_zero]
          try simp only [Act.put]
          try simp only [List.setIfInBounds_toArray]
          try simp only [List.set_cons_succ]
          try simp only [List.set_cons_zero]
          have Kp1 := hid (KP.out.below (below_drew _))
          have HB1 := hid (HB0.out.trans ((below_drew V).mono HB0.out.size))
          clear KP HB0
          generalize V.drew = v1 at *
          refine wpAnyH_ready (rs := [4]) (by kernel_rfl) (by simp) ?_
          refine AllReadyH.cons rfl (fun K1 hK => ?_) AllReadyH.nil
          go_simp
          refine (CQ.out ck _ HP.out.1).mono ?_
          rintro r v2 ⟨rfl, hb⟩
          go_wp2_with fail
          have Kp2 := hid (Kp1.out.below hb)
          have HB2 := hid (HB1.out.trans (hb.mono HB1.out.size))
          clear hb Kp1 HB1
          refine hK.out _ _ ?_ (fun hHeld => ?_)
          · exact ⟨Kp2.out.cell (j := 0) rfl, Kp2.out.cell (j := 1) rfl⟩
          clear hK K1
          try simp only [List.getElem_toArray]
          try simp only [List.getElem_cons_succ]
          try simp only [List.getElem_cons_zero]
          try simp only [Act.put]
          try simp only [List.setIfInBounds_toArray]
          try simp only [List.set_cons_succ]
          try simp only [List.set_cons_zero]
          refine wpAnyH_take (i := 5) (v := (.string (o ++ ⟨#[32]⟩ ++ qt ck))) rfl (by kernel_rfl) (by kernel_rfl) (by kernel_rfl) (fun _ _ _ h => h) (Or.inl ⟨by rfl, ?_⟩) (by assumption) ?_
          · intro w hSw
            (try dsimp only at hSw)
            go_simp
            try omega
          try simp only [List.getElem_toArray]
          try simp only [List.getElem_cons_succ]
          try simp only [List.getElem_cons_zero]
          try simp only [Act.put]
          try simp only [List.setIfInBounds_toArray]
          try simp only [List.set_cons_succ]
          try simp only [List.set_cons_zero]
          refine wpAnyH_take (i := 6) (v := (.string (o ++ ⟨#[32]⟩ ++ qt ck ++ ⟨#[61]⟩))) rfl (by kernel_rfl) (by kernel_rfl) (by kernel_rfl) (fun _ _ _ h => h) (Or.inl ⟨by rfl, ?_⟩) (by assumption) ?_
          · intro w hSw
            (try dsimp only at hSw)
            go_simp
            try omega
          try simp only [List.getElem_toArray]
          try simp only [List.getElem_cons_succ]
          try simp only [List.getElem_cons_zero]
          try simp only [Act.put]
          try simp only [List.setIfInBounds_toArray]
          try simp only [List.set_cons_succ]
          try simp only [List.set_cons_zero]
          refine wpAnyH_ready (rs := [9]) (by kernel_rfl) (by simp) ?_
          refine AllReadyH.cons rfl (fun K1 hK => ?_) AllReadyH.nil
          go_simp
          refine (CQ.out cv _ HP.out.2).mono ?_
          rintro r v3 ⟨rfl, hb⟩
          go_wp2_with fail
          have Kp3 := hid (Kp2.out.below hb)
          have HB3 := hid (HB2.out.trans (hb.mono HB2.out.size))
          clear hb Kp2 HB2
          refine hK.out _ _ ?_ (fun hHeld => ?_)
          · exact ⟨Kp3.out.cell (j := 0) rfl, Kp3.out.cell (j := 1) rfl⟩
          clear hK K1
          try simp only [List.getElem_toArray]
          try simp only [List.getElem_cons_succ]
          try simp only [List.getElem_cons_zero]
          try simp only [Act.put]
          try simp only [List.setIfInBounds_toArray]
          try simp only [List.set_cons_succ]
          try simp only [List.set_cons_zero]
          refine wpAnyH_take (i := 10) (v := (.string (o ++ ⟨#[32]⟩ ++ qt ck ++ ⟨#[61]⟩ ++ qt cv))) rfl (by kernel_rfl) (by kernel_rfl) (by kernel_rfl) (fun _ _ _ h => h) (Or.inl ⟨by rfl, ?_⟩) (by assumption) ?_
          · intro w hSw
            (try dsimp only at hSw)
            go_simp
            try omega
          try simp only [List.getElem_toArray]
          try simp only [List.getElem_cons_succ]
          try simp only [List.getElem_cons_zero]
          try simp only [Act.put]
          try simp only [List.setIfInBounds_toArray]
          try simp only [List.set_cons_succ]
          try simp only [List.set_cons_zero]
          refine wpAnyH_take (i := 11) (v := (.string (o ++ ⟨#[32]⟩ ++ qt ck ++ ⟨#[61]⟩ ++ qt cv))) rfl (by kernel_rfl) (by kernel_rfl) (by kernel_rfl) (fun _ _ _ h => h) (Or.inl ⟨by rfl, ?_⟩) (by assumption) ?_
          · intro w hSw
            (try dsimp only at hSw)
            go_simp
            try omega
          try simp only [List.getElem_toArray]
          try simp only [List.getElem_cons_succ]
          try simp only [List.getElem_cons_zero]
          try simp only [Act.put]
          try simp only [List.setIfInBounds_toArray]
          try simp only [List.set_cons_succ]
          try simp only [List.set_cons_zero]
          refine wpAnyH_done (by kernel_rfl) ?_ _
          refine NoPanic.normal ?_
          have HQ9 : Hid (o ++ ⟨#[32]⟩ ++ qt ck ++ ⟨#[61]⟩ ++ qt cv = ((ps.map pairT).take (m + 1)).foldl (fun o y => o ++ blk ++ y) o4) := by
            show _ = _
            rw [HS.out, List.foldl_append, ← HQ.out]
            show _ = o ++ blk ++ (qt ck ++ ⟨#[61]⟩ ++ qt cv)
            simp only [ByteArray.append_assoc, blk]
          have HZ9 : Hid ((o ++ ⟨#[32]⟩ ++ qt ck ++ ⟨#[61]⟩ ++ qt cv : ByteArray).size ≤ 100 + 24600 * (m + 1)) := by
            show _ ≤ _
            simp only [ByteArray.size_append, sb, se]
            omega
          clear HQ HZO HS zo z1 z2
          go_wp2
          go_roundw
          case rel => exact ⟨m + 1, _, rfl, by go_num, by omega, HB3.out, HQ9.out, HZ9.out⟩
          case measure => simp [intOf]; omega
        · have HE : Hid ((ps.map pairT).take m = ps.map pairT) := List.take_of_length_le (by rw [List.length_map, ← HPN.out]; omega)
          rw [HE.out] at HQ
          go_wp2
          go_ret
          exact ⟨by rw [HO.out, HQ.out]; try rfl, HB.out⟩
  | true =>
    have HN1 := hid (nm_yes hz)
    clear hz
    by_cases hlo : 1 ≤ kd
    · by_cases hhi : kd ≤ 4
      · obtain ⟨nk, rfl⟩ : ∃ nk : Nat, kd = nk := ⟨kd.toNat, by omega⟩
        have hn1 : 1 ≤ nk := by omega
        have hn4 : nk ≤ 4 := by omega
        go_enter Tryd.func11, Tryd.ntmps11
        go_wp2_with fail
        rw [HU.out]
        have x0 := K0.out.cell (j := 0) rfl
        have x1 := K0.out.cell (j := 1) rfl
        have x2 := K0.out.cell (j := 2) rfl
        have x3 := K0.out.cell (j := 3) rfl
        have x11 := K0.out.cell (j := 11) rfl
        have x12 := K0.out.cell (j := 12) rfl
        go_wp2_with fail
        refine (CT.out _).mono ?_
        rintro r w1 ⟨rfl, hb⟩
        have K1 := hid (K0.out.below hb)
        have B1 := hid (B0.out.trans (hb.mono B0.out.size))
        have H1 := hid (H0.out.below hb)
        clear hb K0 B0 H0 x0 x1 x2 x3 x11 x12
        rw [HN1.out.1]
        have x0 := K1.out.cell (j := 0) rfl
        have x1 := K1.out.cell (j := 1) rfl
        have x2 := K1.out.cell (j := 2) rfl
        have x3 := K1.out.cell (j := 3) rfl
        have x11 := K1.out.cell (j := 11) rfl
        have x12 := K1.out.cell (j := 12) rfl
        have hne := HN1.out.2.1
        have hne2 := HN1.out.2.2
        have T2 : (w1.alloc (.cells #[.string ⟨#[]⟩, .string ⟨#[98, 101, 103, 105, 110]⟩, .string ⟨#[97, 115, 107]⟩, .string ⟨#[99, 111, 109, 109, 105, 116]⟩, .string ⟨#[97, 98, 111, 114, 116]⟩] 9)).cell? ⟨w1.heap.size, nk, none⟩ = some (.string (cwd (nk : Int))) := (Bk.new w1 9 [.string ⟨#[]⟩, .string ⟨#[98, 101, 103, 105, 110]⟩, .string ⟨#[97, 115, 107]⟩, .string ⟨#[99, 111, 109, 109, 105, 116]⟩, .string ⟨#[97, 98, 111, 114, 116]⟩]).cell (j := nk) (by rcases (show nk = 1 ∨ nk = 2 ∨ nk = 3 ∨ nk = 4 by omega) with rfl | rfl | rfl | rfl <;> rfl)
        have hb : Below w1.heap.size w1 (w1.alloc (.cells #[.string ⟨#[]⟩, .string ⟨#[98, 101, 103, 105, 110]⟩, .string ⟨#[97, 115, 107]⟩, .string ⟨#[99, 111, 109, 109, 105, 116]⟩, .string ⟨#[97, 98, 111, 114, 116]⟩] 9)) := below_new (Below.refl _ _)
        have K2 := hid (K1.out.below hb)
        have B2 := hid (B1.out.trans (hb.mono B1.out.size))
        have H2 := hid (H1.out.below hb)
        clear hb K1 B1 H1
        have z0 := K2.out.cell (j := 0) rfl
        have z1 := K2.out.cell (j := 1) rfl
        have z2 := K2.out.cell (j := 2) rfl
        have z3 := K2.out.cell (j := 3) rfl
        have z11 := K2.out.cell (j := 11) rfl
        have z12 := K2.out.cell (j := 12) rfl
        have sn := nmT_size c e n
        have sb : (⟨#[32]⟩ : ByteArray).size = 1 := rfl
        have se : (⟨#[61]⟩ : ByteArray).size = 1 := rfl
        have sl : (cwd (nk : Int) : ByteArray).size ≤ 7 := cwd_size _
        have sc := numS_size co
        have q1 : ¬ (9223372036854775807 < (nmT c e n : ByteArray).size + (⟨#[32]⟩ : ByteArray).size) := by omega
        have q2 : ¬ (9223372036854775807 < (nmT c e n ++ ⟨#[32]⟩ : ByteArray).size + (cwd (nk : Int) : ByteArray).size) := by rw [ByteArray.size_append]; omega
        have q3 : ¬ (9223372036854775807 < (nmT c e n ++ ⟨#[32]⟩ ++ cwd (nk : Int) : ByteArray).size + (⟨#[32]⟩ : ByteArray).size) := by rw [ByteArray.size_append, ByteArray.size_append]; omega
        have q4 : ¬ (9223372036854775807 < (nmT c e n ++ ⟨#[32]⟩ ++ cwd (nk : Int) ++ ⟨#[32]⟩ : ByteArray).size + (numS co : ByteArray).size) := by rw [ByteArray.size_append, ByteArray.size_append, ByteArray.size_append]; omega
        go_wp2_with fail
        refine (CN.out _).mono ?_
        generalize w1.alloc (.cells #[.string ⟨#[]⟩, .string ⟨#[98, 101, 103, 105, 110]⟩, .string ⟨#[97, 115, 107]⟩, .string ⟨#[99, 111, 109, 109, 105, 116]⟩, .string ⟨#[97, 98, 111, 114, 116]⟩] 9) = w2 at *
        generalize w1.heap.size = h2 at *
        rintro r w3 ⟨rfl, hb⟩
        have K3 := hid (K2.out.below hb)
        have B3 := hid (B2.out.trans (hb.mono B2.out.size))
        have H3 := hid (H2.out.below hb)
        clear hb K2 B2 H2 x0 x1 x2 x3 x11 x12 z0 z1 z2 z3 z11 z12 T2
        have x12 := K3.out.cell (j := 12) rfl
        go_wp2_with fail
        have HO : Hid (rpT (nk : Int) c e n co ps = (ps.map pairT).foldl (fun o y => o ++ blk ++ y) (nmT c e n ++ ⟨#[32]⟩ ++ cwd (nk : Int) ++ ⟨#[32]⟩ ++ numS co)) := by show _ = _; rw [rpT_fold]; try rfl
        have so4 : Hid ((nmT c e n ++ ⟨#[32]⟩ ++ cwd (nk : Int) ++ ⟨#[32]⟩ ++ numS co : ByteArray).size ≤ 100) := by show _ ≤ _; rw [ByteArray.size_append, ByteArray.size_append, ByteArray.size_append, ByteArray.size_append]; omega
        clear q1 q2 q3 q4 sn sl sc hne hne2
        generalize nmT c e n ++ ⟨#[32]⟩ ++ cwd (nk : Int) ++ ⟨#[32]⟩ ++ numS co = o4 at *
        clear x12
        go_loopw [3, 6, 37] (fun x _ i v => ∃ (m : Nat) (o : ByteArray), x = .string o ∧ i = .int .i64 m ∧ m ≤ pn ∧ Hid (Below w.heap.size w v) ∧ Hid (o = ((ps.map pairT).take m).foldl (fun o y => o ++ blk ++ y) o4) ∧ Hid (o.size ≤ 100 + 24600 * m)) (fun _ _ i _ => pn - (intOf i).toNat)
        case atStart => exact ⟨0, _, rfl, rfl, Nat.zero_le _, B3.out, rfl, so4.out⟩
        case round =>
          have HB30 := B3
          clear B3
          obtain ⟨m, o, rfl, rfl, hm, HB, HQ, HZO⟩ := hrel
          by_cases hlt : m < pn
          · have hlt' : (m : Int) < (pn : Int) := by omega
            have HP0 := hid (H3.out)
            obtain ⟨b, off, rfl, -, -, hcell⟩ := (HHB.out HB.out).at (by omega : 0 < pn)
            have hck := (hcell m hlt).1
            have hck1 := (hcell m hlt).2
            have hkl : m < ps.length := by rw [← HPN.out]; exact hlt
            have HS := hid (take_pairT ps m hkl)
            have HP : Hid ((pAtB ps m).1.size ≤ 1048576 ∧ (pAtB ps m).2.size ≤ 1048576) := HZ.out _ (by simp [pAtB, hkl])
            clear hcell HP0
            generalize pAtB ps m = cur at *
            obtain ⟨ck, cv⟩ := cur
            have KP := hid (Bk.new wr 76 [.string ck, .string cv])
            have HB0 := hid (HB.out.alloc HB.out.size (.cells #[.string ck, .string cv] 76))
            clear HB
            have zo := HZO.out
            have z1 := wq_size ck
            have z2 := wq_size cv
            go_wp2_with fail
            generalize wr.alloc (.cells #[.string ck, .string cv] 76) = V at *
            generalize wr.heap.size = gP at *
            clear hck hck1
            refine wp_region_noPanic ?_
            refine wp_region_held_drew (S := fun v => v.cell? ⟨gP, 0, none⟩ = some (.string ck) ∧ v.cell? ⟨gP, 1, none⟩ = some (.string cv)) (by kernel_rfl) (⟨(KP.out.below (below_drew _)).cell (j := 0) rfl, (KP.out.below (below_drew _)).cell (j := 1) rfl⟩) (fun hHeld => ?_)
            simp only [List.size_toArray, List.length_cons, List.length_nil, Array.replicate_succ, Array.replicate_zero, Nat.reduceAdd, List.push_toArray, List.nil_append, List.cons_append]
            refine wpAnyH_take (i := 0) (v := (.string o)) rfl (by kernel_rfl) (by kernel_rfl) (by kernel_rfl) (fun _ _ _ h => h) (Or.inl ⟨by rfl, ?_⟩) (by assumption) ?_
            · intro w hSw
              (try dsimp only at hSw)
              go_simp
            try simp only [List.getElem_toArray]
            try simp only [List.getElem_cons_succ]
            try simp only [List.getElem_cons_zero]
            try simp only [Act.put]
            try simp only [List.setIfInBounds_toArray]
            try simp only [List.set_cons_succ]
            try simp only [List.set_cons_zero]
            refine wpAnyH_take (i := 1) (v := (.string (o ++ ⟨#[32]⟩))) rfl (by kernel_rfl) (by kernel_rfl) (by kernel_rfl) (fun _ _ _ h => h) (Or.inl ⟨by rfl, ?_⟩) (by assumption) ?_
            · intro w hSw
              (try dsimp only at hSw)
              go_simp
              try omega
            try simp only [List.getElem_toArray]
            try simp only [List.getElem_cons_succ]
            try simp only [List.getElem_cons_zero]
            try simp only [Act.put]
            try simp only [List.setIfInBounds_toArray]
            try simp only [List.set_cons_succ]
            try simp only [List.set_cons_zero]
            refine wpAnyH_take (i := 2) (v := (.pointer (some ⟨gP, 0, none⟩))) rfl (by kernel_rfl) (by kernel_rfl) (by kernel_rfl) (fun _ _ _ h => h) (Or.inl ⟨by rfl, ?_⟩) (by assumption) ?_
            · intro w hSw
              (try dsimp only at hSw)
              go_simp
            try simp only [List.getElem_toArray]
            try simp only [List.getElem_cons_succ]
            try simp only [List.getElem_cons_zero]
            try simp only [Act.put]
            try simp only [List.setIfInBounds_toArray]
            try simp only [List.set_cons_succ]
            try simp only [List.set_cons_zero]
            refine wpAnyH_take (i := 3) (v := (.string ck)) rfl (by kernel_rfl) (by kernel_rfl) (by kernel_rfl) (fun _ _ _ h => h) (Or.inl ⟨by rfl, ?_⟩) (by assumption) ?_
            · intro w hSw
              (try dsimp only at hSw)
              go_simp
            try simp only [List.getElem_toArray]
            try simp only [List.getElem_cons_succ]
            try simp only [List.getElem_cons_zero]
            try simp only [Act.put]
            try simp only [List.setIfInBounds_toArray]
            try simp only [List.set_cons_succ]
            try simp only [List.set_cons_zero]
            refine wpAnyH_take (i := 7) (v := (.pointer (some ⟨gP, 1, none⟩))) rfl (by kernel_rfl) (by kernel_rfl) (by kernel_rfl) (fun _ _ _ h => h) (Or.inl ⟨by rfl, ?_⟩) (by assumption) ?_
            · intro w hSw
              (try dsimp only at hSw)
              go_simp
            try simp only [List.getElem_toArray]
            try simp only [List.getElem_cons_succ]
            try simp only [List.getElem_cons_zero]
            try simp only [Act.put]
            try simp only [List.setIfInBounds_toArray]
            try simp only [List.set_cons_succ]
            try simp only [List.set_cons_zero]
            refine wpAnyH_take (i := 8) (v := (.string cv)) rfl (by kernel_rfl) (by kernel_rfl) (by kernel_rfl) (fun _ _ _ h => h) (Or.inl ⟨by rfl, ?_⟩) (by assumption) ?_
            · intro w hSw
              (try dsimp only at hSw)
              go_simp
            try simp only [List.getElem_toArray]
            try simp only [List.getElem_cons_succ]
            try simp only [List.getElem_cons_zero]
            try simp only [Act.put]
            try simp only [List.setIfInBounds_toArray]
            try simp only [List.set_cons_succ]
            try simp only [List.set_cons_zero]
            have Kp1 := hid (KP.out.below (below_drew _))
            have HB1 := hid (HB0.out.trans ((below_drew V).mono HB0.out.size))
            clear KP HB0
            generalize V.drew = v1 at *
            refine wpAnyH_ready (rs := [4]) (by kernel_rfl) (by simp) ?_
            refine AllReadyH.cons rfl (fun K1 hK => ?_) AllReadyH.nil
            go_simp
            refine (CQ.out ck _ HP.out.1).mono ?_
            rintro r v2 ⟨rfl, hb⟩
            go_wp2_with fail
            have Kp2 := hid (Kp1.out.below hb)
            have HB2 := hid (HB1.out.trans (hb.mono HB1.out.size))
            clear hb Kp1 HB1
            refine hK.out _ _ ?_ (fun hHeld => ?_)
            · exact ⟨Kp2.out.cell (j := 0) rfl, Kp2.out.cell (j := 1) rfl⟩
            clear hK K1
            try simp only [List.getElem_toArray]
            try simp only [List.getElem_cons_succ]
            try simp only [List.getElem_cons_zero]
            try simp only [Act.put]
            try simp only [List.setIfInBounds_toArray]
            try simp only [List.set_cons_succ]
            try simp only [List.set_cons_zero]
            refine wpAnyH_take (i := 5) (v := (.string (o ++ ⟨#[32]⟩ ++ qt ck))) rfl (by kernel_rfl) (by kernel_rfl) (by kernel_rfl) (fun _ _ _ h => h) (Or.inl ⟨by rfl, ?_⟩) (by assumption) ?_
            · intro w hSw
              (try dsimp only at hSw)
              go_simp
              try omega
            try simp only [List.getElem_toArray]
            try simp only [List.getElem_cons_succ]
            try simp only [List.getElem_cons_zero]
            try simp only [Act.put]
            try simp only [List.setIfInBounds_toArray]
            try simp only [List.set_cons_succ]
            try simp only [List.set_cons_zero]
            refine wpAnyH_take (i := 6) (v := (.string (o ++ ⟨#[32]⟩ ++ qt ck ++ ⟨#[61]⟩))) rfl (by kernel_rfl) (by kernel_rfl) (by kernel_rfl) (fun _ _ _ h => h) (Or.inl ⟨by rfl, ?_⟩) (by assumption) ?_
            · intro w hSw
              (try dsimp only at hSw)
              go_simp
              try omega
            try simp only [List.getElem_toArray]
            try simp only [List.getElem_cons_succ]
            try simp only [List.getElem_cons_zero]
            try simp only [Act.put]
            try simp only [List.setIfInBounds_toArray]
            try simp only [List.set_cons_succ]
            try simp only [List.set_cons_zero]
            refine wpAnyH_ready (rs := [9]) (by kernel_rfl) (by simp) ?_
            refine AllReadyH.cons rfl (fun K1 hK => ?_) AllReadyH.nil
            go_simp
            refine (CQ.out cv _ HP.out.2).mono ?_
            rintro r v3 ⟨rfl, hb⟩
            go_wp2_with fail
            have Kp3 := hid (Kp2.out.below hb)
            have HB3 := hid (HB2.out.trans (hb.mono HB2.out.size))
            clear hb Kp2 HB2
            refine hK.out _ _ ?_ (fun hHeld => ?_)
            · exact ⟨Kp3.out.cell (j := 0) rfl, Kp3.out.cell (j := 1) rfl⟩
            clear hK K1
            try simp only [List.getElem_toArray]
            try simp only [List.getElem_cons_succ]
            try simp only [List.getElem_cons_zero]
            try simp only [Act.put]
            try simp only [List.setIfInBounds_toArray]
            try simp only [List.set_cons_succ]
            try simp only [List.set_cons_zero]
            refine wpAnyH_take (i := 10) (v := (.string (o ++ ⟨#[32]⟩ ++ qt ck ++ ⟨#[61]⟩ ++ qt cv))) rfl (by kernel_rfl) (by kernel_rfl) (by kernel_rfl) (fun _ _ _ h => h) (Or.inl ⟨by rfl, ?_⟩) (by assumption) ?_
            · intro w hSw
              (try dsimp only at hSw)
              go_simp
              try omega
            try simp only [List.getElem_toArray]
            try simp only [List.getElem_cons_succ]
            try simp only [List.getElem_cons_zero]
            try simp only [Act.put]
            try simp only [List.setIfInBounds_toArray]
            try simp only [List.set_cons_succ]
            try simp only [List.set_cons_zero]
            refine wpAnyH_take (i := 11) (v := (.string (o ++ ⟨#[32]⟩ ++ qt ck ++ ⟨#[61]⟩ ++ qt cv))) rfl (by kernel_rfl) (by kernel_rfl) (by kernel_rfl) (fun _ _ _ h => h) (Or.inl ⟨by rfl, ?_⟩) (by assumption) ?_
            · intro w hSw
              (try dsimp only at hSw)
              go_simp
              try omega
            try simp only [List.getElem_toArray]
            try simp only [List.getElem_cons_succ]
            try simp only [List.getElem_cons_zero]
            try simp only [Act.put]
            try simp only [List.setIfInBounds_toArray]
            try simp only [List.set_cons_succ]
            try simp only [List.set_cons_zero]
            refine wpAnyH_done (by kernel_rfl) ?_ _
            refine NoPanic.normal ?_
            have HQ9 : Hid (o ++ ⟨#[32]⟩ ++ qt ck ++ ⟨#[61]⟩ ++ qt cv = ((ps.map pairT).take (m + 1)).foldl (fun o y => o ++ blk ++ y) o4) := by
              show _ = _
              rw [HS.out, List.foldl_append, ← HQ.out]
              show _ = o ++ blk ++ (qt ck ++ ⟨#[61]⟩ ++ qt cv)
              simp only [ByteArray.append_assoc, blk]
            have HZ9 : Hid ((o ++ ⟨#[32]⟩ ++ qt ck ++ ⟨#[61]⟩ ++ qt cv : ByteArray).size ≤ 100 + 24600 * (m + 1)) := by
              show _ ≤ _
              simp only [ByteArray.size_append, sb, se]
              omega
            clear HQ HZO HS zo z1 z2
            go_wp2
            go_roundw
            case rel => exact ⟨m + 1, _, rfl, by go_num, by omega, HB3.out, HQ9.out, HZ9.out⟩
            case measure => simp [intOf]; omega
          · have HE : Hid ((ps.map pairT).take m = ps.map pairT) := List.take_of_length_le (by rw [List.length_map, ← HPN.out]; omega)
            rw [HE.out] at HQ
            go_wp2
            go_ret
            exact ⟨by rw [HO.out, HQ.out]; try rfl, HB.out⟩
      · have HC : Hid (cwd kd = wDash) := by show _ = _; unfold cwd; rw [if_neg (by omega), if_neg (by omega), if_neg (by omega), if_neg (by omega)]
        go_enter Tryd.func11, Tryd.ntmps11
        go_wp2_with fail
        rw [HU.out]
        have x0 := K0.out.cell (j := 0) rfl
        have x1 := K0.out.cell (j := 1) rfl
        have x2 := K0.out.cell (j := 2) rfl
        have x3 := K0.out.cell (j := 3) rfl
        have x11 := K0.out.cell (j := 11) rfl
        have x12 := K0.out.cell (j := 12) rfl
        go_wp2_with fail
        refine (CT.out _).mono ?_
        rintro r w1 ⟨rfl, hb⟩
        have K1 := hid (K0.out.below hb)
        have B1 := hid (B0.out.trans (hb.mono B0.out.size))
        have H1 := hid (H0.out.below hb)
        clear hb K0 B0 H0 x0 x1 x2 x3 x11 x12
        rw [HN1.out.1]
        have x0 := K1.out.cell (j := 0) rfl
        have x1 := K1.out.cell (j := 1) rfl
        have x2 := K1.out.cell (j := 2) rfl
        have x3 := K1.out.cell (j := 3) rfl
        have x11 := K1.out.cell (j := 11) rfl
        have x12 := K1.out.cell (j := 12) rfl
        have hne := HN1.out.2.1
        have hne2 := HN1.out.2.2
        have K2 := K1
        have B2 := B1
        have H2 := H1
        have sn := nmT_size c e n
        have sb : (⟨#[32]⟩ : ByteArray).size = 1 := rfl
        have se : (⟨#[61]⟩ : ByteArray).size = 1 := rfl
        have sl : (⟨#[45]⟩ : ByteArray).size ≤ 7 := by decide
        have sc := numS_size co
        have q1 : ¬ (9223372036854775807 < (nmT c e n : ByteArray).size + (⟨#[32]⟩ : ByteArray).size) := by omega
        have q2 : ¬ (9223372036854775807 < (nmT c e n ++ ⟨#[32]⟩ : ByteArray).size + (⟨#[45]⟩ : ByteArray).size) := by rw [ByteArray.size_append]; omega
        have q3 : ¬ (9223372036854775807 < (nmT c e n ++ ⟨#[32]⟩ ++ ⟨#[45]⟩ : ByteArray).size + (⟨#[32]⟩ : ByteArray).size) := by rw [ByteArray.size_append, ByteArray.size_append]; omega
        have q4 : ¬ (9223372036854775807 < (nmT c e n ++ ⟨#[32]⟩ ++ ⟨#[45]⟩ ++ ⟨#[32]⟩ : ByteArray).size + (numS co : ByteArray).size) := by rw [ByteArray.size_append, ByteArray.size_append, ByteArray.size_append]; omega
        go_wp2_with fail
        refine (CN.out _).mono ?_
        rintro r w3 ⟨rfl, hb⟩
        have K3 := hid (K2.out.below hb)
        have B3 := hid (B2.out.trans (hb.mono B2.out.size))
        have H3 := hid (H2.out.below hb)
        clear hb K2 B2 H2 x0 x1 x2 x3 x11 x12 K1 B1 H1
        have x12 := K3.out.cell (j := 12) rfl
        go_wp2_with fail
        have HO : Hid (rpT kd c e n co ps = (ps.map pairT).foldl (fun o y => o ++ blk ++ y) (nmT c e n ++ ⟨#[32]⟩ ++ ⟨#[45]⟩ ++ ⟨#[32]⟩ ++ numS co)) := by show _ = _; rw [rpT_fold]; rw [HC.out]; try rfl
        have so4 : Hid ((nmT c e n ++ ⟨#[32]⟩ ++ ⟨#[45]⟩ ++ ⟨#[32]⟩ ++ numS co : ByteArray).size ≤ 100) := by show _ ≤ _; rw [ByteArray.size_append, ByteArray.size_append, ByteArray.size_append, ByteArray.size_append]; omega
        clear q1 q2 q3 q4 sn sl sc hne hne2
        generalize nmT c e n ++ ⟨#[32]⟩ ++ ⟨#[45]⟩ ++ ⟨#[32]⟩ ++ numS co = o4 at *
        clear x12
        go_loopw [3, 6, 37] (fun x _ i v => ∃ (m : Nat) (o : ByteArray), x = .string o ∧ i = .int .i64 m ∧ m ≤ pn ∧ Hid (Below w.heap.size w v) ∧ Hid (o = ((ps.map pairT).take m).foldl (fun o y => o ++ blk ++ y) o4) ∧ Hid (o.size ≤ 100 + 24600 * m)) (fun _ _ i _ => pn - (intOf i).toNat)
        case atStart => exact ⟨0, _, rfl, rfl, Nat.zero_le _, B3.out, rfl, so4.out⟩
        case round =>
          have HB30 := B3
          clear B3
          obtain ⟨m, o, rfl, rfl, hm, HB, HQ, HZO⟩ := hrel
          by_cases hlt : m < pn
          · have hlt' : (m : Int) < (pn : Int) := by omega
            have HP0 := hid (H3.out)
            obtain ⟨b, off, rfl, -, -, hcell⟩ := (HHB.out HB.out).at (by omega : 0 < pn)
            have hck := (hcell m hlt).1
            have hck1 := (hcell m hlt).2
            have hkl : m < ps.length := by rw [← HPN.out]; exact hlt
            have HS := hid (take_pairT ps m hkl)
            have HP : Hid ((pAtB ps m).1.size ≤ 1048576 ∧ (pAtB ps m).2.size ≤ 1048576) := HZ.out _ (by simp [pAtB, hkl])
            clear hcell HP0
            generalize pAtB ps m = cur at *
            obtain ⟨ck, cv⟩ := cur
            have KP := hid (Bk.new wr 76 [.string ck, .string cv])
            have HB0 := hid (HB.out.alloc HB.out.size (.cells #[.string ck, .string cv] 76))
            clear HB
            have zo := HZO.out
            have z1 := wq_size ck
            have z2 := wq_size cv
            go_wp2_with fail
            generalize wr.alloc (.cells #[.string ck, .string cv] 76) = V at *
            generalize wr.heap.size = gP at *
            clear hck hck1
            refine wp_region_noPanic ?_
            refine wp_region_held_drew (S := fun v => v.cell? ⟨gP, 0, none⟩ = some (.string ck) ∧ v.cell? ⟨gP, 1, none⟩ = some (.string cv)) (by kernel_rfl) (⟨(KP.out.below (below_drew _)).cell (j := 0) rfl, (KP.out.below (below_drew _)).cell (j := 1) rfl⟩) (fun hHeld => ?_)
            simp only [List.size_toArray, List.length_cons, List.length_nil, Array.replicate_succ, Array.replicate_zero, Nat.reduceAdd, List.push_toArray, List.nil_append, List.cons_append]
            refine wpAnyH_take (i := 0) (v := (.string o)) rfl (by kernel_rfl) (by kernel_rfl) (by kernel_rfl) (fun _ _ _ h => h) (Or.inl ⟨by rfl, ?_⟩) (by assumption) ?_
            · intro w hSw
              (try dsimp only at hSw)
              go_simp
            try simp only [List.getElem_toArray]
            try simp only [List.getElem_cons_succ]
            try simp only [List.getElem_cons_zero]
            try simp only [Act.put]
            try simp only [List.setIfInBounds_toArray]
            try simp only [List.set_cons_succ]
            try simp only [List.set_cons_zero]
            refine wpAnyH_take (i := 1) (v := (.string (o ++ ⟨#[32]⟩))) rfl (by kernel_rfl) (by kernel_rfl) (by kernel_rfl) (fun _ _ _ h => h) (Or.inl ⟨by rfl, ?_⟩) (by assumption) ?_
            · intro w hSw
              (try dsimp only at hSw)
              go_simp
              try omega
            try simp only [List.getElem_toArray]
            try simp only [List.getElem_cons_succ]
            try simp only [List.getElem_cons_zero]
            try simp only [Act.put]
            try simp only [List.setIfInBounds_toArray]
            try simp only [List.set_cons_succ]
            try simp only [List.set_cons_zero]
            refine wpAnyH_take (i := 2) (v := (.pointer (some ⟨gP, 0, none⟩))) rfl (by kernel_rfl) (by kernel_rfl) (by kernel_rfl) (fun _ _ _ h => h) (Or.inl ⟨by rfl, ?_⟩) (by assumption) ?_
            · intro w hSw
              (try dsimp only at hSw)
              go_simp
            try simp only [List.getElem_toArray]
            try simp only [List.getElem_cons_succ]
            try simp only [List.getElem_cons_zero]
            try simp only [Act.put]
            try simp only [List.setIfInBounds_toArray]
            try simp only [List.set_cons_succ]
            try simp only [List.set_cons_zero]
            refine wpAnyH_take (i := 3) (v := (.string ck)) rfl (by kernel_rfl) (by kernel_rfl) (by kernel_rfl) (fun _ _ _ h => h) (Or.inl ⟨by rfl, ?_⟩) (by assumption) ?_
            · intro w hSw
              (try dsimp only at hSw)
              go_simp
            try simp only [List.getElem_toArray]
            try simp only [List.getElem_cons_succ]
            try simp only [List.getElem_cons_zero]
            try simp only [Act.put]
            try simp only [List.setIfInBounds_toArray]
            try simp only [List.set_cons_succ]
            try simp only [List.set_cons_zero]
            refine wpAnyH_take (i := 7) (v := (.pointer (some ⟨gP, 1, none⟩))) rfl (by kernel_rfl) (by kernel_rfl) (by kernel_rfl) (fun _ _ _ h => h) (Or.inl ⟨by rfl, ?_⟩) (by assumption) ?_
            · intro w hSw
              (try dsimp only at hSw)
              go_simp
            try simp only [List.getElem_toArray]
            try simp only [List.getElem_cons_succ]
            try simp only [List.getElem_cons_zero]
            try simp only [Act.put]
            try simp only [List.setIfInBounds_toArray]
            try simp only [List.set_cons_succ]
            try simp only [List.set_cons_zero]
            refine wpAnyH_take (i := 8) (v := (.string cv)) rfl (by kernel_rfl) (by kernel_rfl) (by kernel_rfl) (fun _ _ _ h => h) (Or.inl ⟨by rfl, ?_⟩) (by assumption) ?_
            · intro w hSw
              (try dsimp only at hSw)
              go_simp
            try simp only [List.getElem_toArray]
            try simp only [List.getElem_cons_succ]
            try simp only [List.getElem_cons_zero]
            try simp only [Act.put]
            try simp only [List.setIfInBounds_toArray]
            try simp only [List.set_cons_succ]
            try simp only [List.set_cons_zero]
            have Kp1 := hid (KP.out.below (below_drew _))
            have HB1 := hid (HB0.out.trans ((below_drew V).mono HB0.out.size))
            clear KP HB0
            generalize V.drew = v1 at *
            refine wpAnyH_ready (rs := [4]) (by kernel_rfl) (by simp) ?_
            refine AllReadyH.cons rfl (fun K1 hK => ?_) AllReadyH.nil
            go_simp
            refine (CQ.out ck _ HP.out.1).mono ?_
            rintro r v2 ⟨rfl, hb⟩
            go_wp2_with fail
            have Kp2 := hid (Kp1.out.below hb)
            have HB2 := hid (HB1.out.trans (hb.mono HB1.out.size))
            clear hb Kp1 HB1
            refine hK.out _ _ ?_ (fun hHeld => ?_)
            · exact ⟨Kp2.out.cell (j := 0) rfl, Kp2.out.cell (j := 1) rfl⟩
            clear hK K1
            try simp only [List.getElem_toArray]
            try simp only [List.getElem_cons_succ]
            try simp only [List.getElem_cons_zero]
            try simp only [Act.put]
            try simp only [List.setIfInBounds_toArray]
            try simp only [List.set_cons_succ]
            try simp only [List.set_cons_zero]
            refine wpAnyH_take (i := 5) (v := (.string (o ++ ⟨#[32]⟩ ++ qt ck))) rfl (by kernel_rfl) (by kernel_rfl) (by kernel_rfl) (fun _ _ _ h => h) (Or.inl ⟨by rfl, ?_⟩) (by assumption) ?_
            · intro w hSw
              (try dsimp only at hSw)
              go_simp
              try omega
            try simp only [List.getElem_toArray]
            try simp only [List.getElem_cons_succ]
            try simp only [List.getElem_cons_zero]
            try simp only [Act.put]
            try simp only [List.setIfInBounds_toArray]
            try simp only [List.set_cons_succ]
            try simp only [List.set_cons_zero]
            refine wpAnyH_take (i := 6) (v := (.string (o ++ ⟨#[32]⟩ ++ qt ck ++ ⟨#[61]⟩))) rfl (by kernel_rfl) (by kernel_rfl) (by kernel_rfl) (fun _ _ _ h => h) (Or.inl ⟨by rfl, ?_⟩) (by assumption) ?_
            · intro w hSw
              (try dsimp only at hSw)
              go_simp
              try omega
            try simp only [List.getElem_toArray]
            try simp only [List.getElem_cons_succ]
            try simp only [List.getElem_cons_zero]
            try simp only [Act.put]
            try simp only [List.setIfInBounds_toArray]
            try simp only [List.set_cons_succ]
            try simp only [List.set_cons_zero]
            refine wpAnyH_ready (rs := [9]) (by kernel_rfl) (by simp) ?_
            refine AllReadyH.cons rfl (fun K1 hK => ?_) AllReadyH.nil
            go_simp
            refine (CQ.out cv _ HP.out.2).mono ?_
            rintro r v3 ⟨rfl, hb⟩
            go_wp2_with fail
            have Kp3 := hid (Kp2.out.below hb)
            have HB3 := hid (HB2.out.trans (hb.mono HB2.out.size))
            clear hb Kp2 HB2
            refine hK.out _ _ ?_ (fun hHeld => ?_)
            · exact ⟨Kp3.out.cell (j := 0) rfl, Kp3.out.cell (j := 1) rfl⟩
            clear hK K1
            try simp only [List.getElem_toArray]
            try simp only [List.getElem_cons_succ]
            try simp only [List.getElem_cons_zero]
            try simp only [Act.put]
            try simp only [List.setIfInBounds_toArray]
            try simp only [List.set_cons_succ]
            try simp only [List.set_cons_zero]
            refine wpAnyH_take (i := 10) (v := (.string (o ++ ⟨#[32]⟩ ++ qt ck ++ ⟨#[61]⟩ ++ qt cv))) rfl (by kernel_rfl) (by kernel_rfl) (by kernel_rfl) (fun _ _ _ h => h) (Or.inl ⟨by rfl, ?_⟩) (by assumption) ?_
            · intro w hSw
              (try dsimp only at hSw)
              go_simp
              try omega
            try simp only [List.getElem_toArray]
            try simp only [List.getElem_cons_succ]
            try simp only [List.getElem_cons_zero]
            try simp only [Act.put]
            try simp only [List.setIfInBounds_toArray]
            try simp only [List.set_cons_succ]
            try simp only [List.set_cons_zero]
            refine wpAnyH_take (i := 11) (v := (.string (o ++ ⟨#[32]⟩ ++ qt ck ++ ⟨#[61]⟩ ++ qt cv))) rfl (by kernel_rfl) (by kernel_rfl) (by kernel_rfl) (fun _ _ _ h => h) (Or.inl ⟨by rfl, ?_⟩) (by assumption) ?_
            · intro w hSw
              (try dsimp only at hSw)
              go_simp
              try omega
            try simp only [List.getElem_toArray]
            try simp only [List.getElem_cons_succ]
            try simp only [List.getElem_cons_zero]
            try simp only [Act.put]
            try simp only [List.setIfInBounds_toArray]
            try simp only [List.set_cons_succ]
            try simp only [List.set_cons_zero]
            refine wpAnyH_done (by kernel_rfl) ?_ _
            refine NoPanic.normal ?_
            have HQ9 : Hid (o ++ ⟨#[32]⟩ ++ qt ck ++ ⟨#[61]⟩ ++ qt cv = ((ps.map pairT).take (m + 1)).foldl (fun o y => o ++ blk ++ y) o4) := by
              show _ = _
              rw [HS.out, List.foldl_append, ← HQ.out]
              show _ = o ++ blk ++ (qt ck ++ ⟨#[61]⟩ ++ qt cv)
              simp only [ByteArray.append_assoc, blk]
            have HZ9 : Hid ((o ++ ⟨#[32]⟩ ++ qt ck ++ ⟨#[61]⟩ ++ qt cv : ByteArray).size ≤ 100 + 24600 * (m + 1)) := by
              show _ ≤ _
              simp only [ByteArray.size_append, sb, se]
              omega
            clear HQ HZO HS zo z1 z2
            go_wp2
            go_roundw
            case rel => exact ⟨m + 1, _, rfl, by go_num, by omega, HB3.out, HQ9.out, HZ9.out⟩
            case measure => simp [intOf]; omega
          · have HE : Hid ((ps.map pairT).take m = ps.map pairT) := List.take_of_length_le (by rw [List.length_map, ← HPN.out]; omega)
            rw [HE.out] at HQ
            go_wp2
            go_ret
            exact ⟨by rw [HO.out, HQ.out]; try rfl, HB.out⟩
    · have HC : Hid (cwd kd = wDash) := by show _ = _; unfold cwd; rw [if_neg (by omega), if_neg (by omega), if_neg (by omega), if_neg (by omega)]
      go_enter Tryd.func11, Tryd.ntmps11
      go_wp2_with fail
      rw [HU.out]
      have x0 := K0.out.cell (j := 0) rfl
      have x1 := K0.out.cell (j := 1) rfl
      have x2 := K0.out.cell (j := 2) rfl
      have x3 := K0.out.cell (j := 3) rfl
      have x11 := K0.out.cell (j := 11) rfl
      have x12 := K0.out.cell (j := 12) rfl
      go_wp2_with fail
      refine (CT.out _).mono ?_
      rintro r w1 ⟨rfl, hb⟩
      have K1 := hid (K0.out.below hb)
      have B1 := hid (B0.out.trans (hb.mono B0.out.size))
      have H1 := hid (H0.out.below hb)
      clear hb K0 B0 H0 x0 x1 x2 x3 x11 x12
      rw [HN1.out.1]
      have x0 := K1.out.cell (j := 0) rfl
      have x1 := K1.out.cell (j := 1) rfl
      have x2 := K1.out.cell (j := 2) rfl
      have x3 := K1.out.cell (j := 3) rfl
      have x11 := K1.out.cell (j := 11) rfl
      have x12 := K1.out.cell (j := 12) rfl
      have hne := HN1.out.2.1
      have hne2 := HN1.out.2.2
      have K2 := K1
      have B2 := B1
      have H2 := H1
      have sn := nmT_size c e n
      have sb : (⟨#[32]⟩ : ByteArray).size = 1 := rfl
      have se : (⟨#[61]⟩ : ByteArray).size = 1 := rfl
      have sl : (⟨#[45]⟩ : ByteArray).size ≤ 7 := by decide
      have sc := numS_size co
      have q1 : ¬ (9223372036854775807 < (nmT c e n : ByteArray).size + (⟨#[32]⟩ : ByteArray).size) := by omega
      have q2 : ¬ (9223372036854775807 < (nmT c e n ++ ⟨#[32]⟩ : ByteArray).size + (⟨#[45]⟩ : ByteArray).size) := by rw [ByteArray.size_append]; omega
      have q3 : ¬ (9223372036854775807 < (nmT c e n ++ ⟨#[32]⟩ ++ ⟨#[45]⟩ : ByteArray).size + (⟨#[32]⟩ : ByteArray).size) := by rw [ByteArray.size_append, ByteArray.size_append]; omega
      have q4 : ¬ (9223372036854775807 < (nmT c e n ++ ⟨#[32]⟩ ++ ⟨#[45]⟩ ++ ⟨#[32]⟩ : ByteArray).size + (numS co : ByteArray).size) := by rw [ByteArray.size_append, ByteArray.size_append, ByteArray.size_append]; omega
      go_wp2_with fail
      refine (CN.out _).mono ?_
      rintro r w3 ⟨rfl, hb⟩
      have K3 := hid (K2.out.below hb)
      have B3 := hid (B2.out.trans (hb.mono B2.out.size))
      have H3 := hid (H2.out.below hb)
      clear hb K2 B2 H2 x0 x1 x2 x3 x11 x12 K1 B1 H1
      have x12 := K3.out.cell (j := 12) rfl
      go_wp2_with fail
      have HO : Hid (rpT kd c e n co ps = (ps.map pairT).foldl (fun o y => o ++ blk ++ y) (nmT c e n ++ ⟨#[32]⟩ ++ ⟨#[45]⟩ ++ ⟨#[32]⟩ ++ numS co)) := by show _ = _; rw [rpT_fold]; rw [HC.out]; try rfl
      have so4 : Hid ((nmT c e n ++ ⟨#[32]⟩ ++ ⟨#[45]⟩ ++ ⟨#[32]⟩ ++ numS co : ByteArray).size ≤ 100) := by show _ ≤ _; rw [ByteArray.size_append, ByteArray.size_append, ByteArray.size_append, ByteArray.size_append]; omega
      clear q1 q2 q3 q4 sn sl sc hne hne2
      generalize nmT c e n ++ ⟨#[32]⟩ ++ ⟨#[45]⟩ ++ ⟨#[32]⟩ ++ numS co = o4 at *
      clear x12
      go_loopw [3, 6, 37] (fun x _ i v => ∃ (m : Nat) (o : ByteArray), x = .string o ∧ i = .int .i64 m ∧ m ≤ pn ∧ Hid (Below w.heap.size w v) ∧ Hid (o = ((ps.map pairT).take m).foldl (fun o y => o ++ blk ++ y) o4) ∧ Hid (o.size ≤ 100 + 24600 * m)) (fun _ _ i _ => pn - (intOf i).toNat)
      case atStart => exact ⟨0, _, rfl, rfl, Nat.zero_le _, B3.out, rfl, so4.out⟩
      case round =>
        have HB30 := B3
        clear B3
        obtain ⟨m, o, rfl, rfl, hm, HB, HQ, HZO⟩ := hrel
        by_cases hlt : m < pn
        · have hlt' : (m : Int) < (pn : Int) := by omega
          have HP0 := hid (H3.out)
          obtain ⟨b, off, rfl, -, -, hcell⟩ := (HHB.out HB.out).at (by omega : 0 < pn)
          have hck := (hcell m hlt).1
          have hck1 := (hcell m hlt).2
          have hkl : m < ps.length := by rw [← HPN.out]; exact hlt
          have HS := hid (take_pairT ps m hkl)
          have HP : Hid ((pAtB ps m).1.size ≤ 1048576 ∧ (pAtB ps m).2.size ≤ 1048576) := HZ.out _ (by simp [pAtB, hkl])
          clear hcell HP0
          generalize pAtB ps m = cur at *
          obtain ⟨ck, cv⟩ := cur
          have KP := hid (Bk.new wr 76 [.string ck, .string cv])
          have HB0 := hid (HB.out.alloc HB.out.size (.cells #[.string ck, .string cv] 76))
          clear HB
          have zo := HZO.out
          have z1 := wq_size ck
          have z2 := wq_size cv
          go_wp2_with fail
          generalize wr.alloc (.cells #[.string ck, .string cv] 76) = V at *
          generalize wr.heap.size = gP at *
          clear hck hck1
          refine wp_region_noPanic ?_
          refine wp_region_held_drew (S := fun v => v.cell? ⟨gP, 0, none⟩ = some (.string ck) ∧ v.cell? ⟨gP, 1, none⟩ = some (.string cv)) (by kernel_rfl) (⟨(KP.out.below (below_drew _)).cell (j := 0) rfl, (KP.out.below (below_drew _)).cell (j := 1) rfl⟩) (fun hHeld => ?_)
          simp only [List.size_toArray, List.length_cons, List.length_nil, Array.replicate_succ, Array.replicate_zero, Nat.reduceAdd, List.push_toArray, List.nil_append, List.cons_append]
          refine wpAnyH_take (i := 0) (v := (.string o)) rfl (by kernel_rfl) (by kernel_rfl) (by kernel_rfl) (fun _ _ _ h => h) (Or.inl ⟨by rfl, ?_⟩) (by assumption) ?_
          · intro w hSw
            (try dsimp only at hSw)
            go_simp
          try simp only [List.getElem_toArray]
          try simp only [List.getElem_cons_succ]
          try simp only [List.getElem_cons_zero]
          try simp only [Act.put]
          try simp only [List.setIfInBounds_toArray]
          try simp only [List.set_cons_succ]
          try simp only [List.set_cons_zero]
          refine wpAnyH_take (i := 1) (v := (.string (o ++ ⟨#[32]⟩))) rfl (by kernel_rfl) (by kernel_rfl) (by kernel_rfl) (fun _ _ _ h => h) (Or.inl ⟨by rfl, ?_⟩) (by assumption) ?_
          · intro w hSw
            (try dsimp only at hSw)
            go_simp
            try omega
          try simp only [List.getElem_toArray]
          try simp only [List.getElem_cons_succ]
          try simp only [List.getElem_cons_zero]
          try simp only [Act.put]
          try simp only [List.setIfInBounds_toArray]
          try simp only [List.set_cons_succ]
          try simp only [List.set_cons_zero]
          refine wpAnyH_take (i := 2) (v := (.pointer (some ⟨gP, 0, none⟩))) rfl (by kernel_rfl) (by kernel_rfl) (by kernel_rfl) (fun _ _ _ h => h) (Or.inl ⟨by rfl, ?_⟩) (by assumption) ?_
          · intro w hSw
            (try dsimp only at hSw)
            go_simp
          try simp only [List.getElem_toArray]
          try simp only [List.getElem_cons_succ]
          try simp only [List.getElem_cons_zero]
          try simp only [Act.put]
          try simp only [List.setIfInBounds_toArray]
          try simp only [List.set_cons_succ]
          try simp only [List.set_cons_zero]
          refine wpAnyH_take (i := 3) (v := (.string ck)) rfl (by kernel_rfl) (by kernel_rfl) (by kernel_rfl) (fun _ _ _ h => h) (Or.inl ⟨by rfl, ?_⟩) (by assumption) ?_
          · intro w hSw
            (try dsimp only at hSw)
            go_simp
          try simp only [List.getElem_toArray]
          try simp only [List.getElem_cons_succ]
          try simp only [List.getElem_cons_zero]
          try simp only [Act.put]
          try simp only [List.setIfInBounds_toArray]
          try simp only [List.set_cons_succ]
          try simp only [List.set_cons_zero]
          refine wpAnyH_take (i := 7) (v := (.pointer (some ⟨gP, 1, none⟩))) rfl (by kernel_rfl) (by kernel_rfl) (by kernel_rfl) (fun _ _ _ h => h) (Or.inl ⟨by rfl, ?_⟩) (by assumption) ?_
          · intro w hSw
            (try dsimp only at hSw)
            go_simp
          try simp only [List.getElem_toArray]
          try simp only [List.getElem_cons_succ]
          try simp only [List.getElem_cons_zero]
          try simp only [Act.put]
          try simp only [List.setIfInBounds_toArray]
          try simp only [List.set_cons_succ]
          try simp only [List.set_cons_zero]
          refine wpAnyH_take (i := 8) (v := (.string cv)) rfl (by kernel_rfl) (by kernel_rfl) (by kernel_rfl) (fun _ _ _ h => h) (Or.inl ⟨by rfl, ?_⟩) (by assumption) ?_
          · intro w hSw
            (try dsimp only at hSw)
            go_simp
          try simp only [List.getElem_toArray]
          try simp only [List.getElem_cons_succ]
          try simp only [List.getElem_cons_zero]
          try simp only [Act.put]
          try simp only [List.setIfInBounds_toArray]
          try simp only [List.set_cons_succ]
          try simp only [List.set_cons_zero]
          have Kp1 := hid (KP.out.below (below_drew _))
          have HB1 := hid (HB0.out.trans ((below_drew V).mono HB0.out.size))
          clear KP HB0
          generalize V.drew = v1 at *
          refine wpAnyH_ready (rs := [4]) (by kernel_rfl) (by simp) ?_
          refine AllReadyH.cons rfl (fun K1 hK => ?_) AllReadyH.nil
          go_simp
          refine (CQ.out ck _ HP.out.1).mono ?_
          rintro r v2 ⟨rfl, hb⟩
          go_wp2_with fail
          have Kp2 := hid (Kp1.out.below hb)
          have HB2 := hid (HB1.out.trans (hb.mono HB1.out.size))
          clear hb Kp1 HB1
          refine hK.out _ _ ?_ (fun hHeld => ?_)
          · exact ⟨Kp2.out.cell (j := 0) rfl, Kp2.out.cell (j := 1) rfl⟩
          clear hK K1
          try simp only [List.getElem_toArray]
          try simp only [List.getElem_cons_succ]
          try simp only [List.getElem_cons_zero]
          try simp only [Act.put]
          try simp only [List.setIfInBounds_toArray]
          try simp only [List.set_cons_succ]
          try simp only [List.set_cons_zero]
          refine wpAnyH_take (i := 5) (v := (.string (o ++ ⟨#[32]⟩ ++ qt ck))) rfl (by kernel_rfl) (by kernel_rfl) (by kernel_rfl) (fun _ _ _ h => h) (Or.inl ⟨by rfl, ?_⟩) (by assumption) ?_
          · intro w hSw
            (try dsimp only at hSw)
            go_simp
            try omega
          try simp only [List.getElem_toArray]
          try simp only [List.getElem_cons_succ]
          try simp only [List.getElem_cons_zero]
          try simp only [Act.put]
          try simp only [List.setIfInBounds_toArray]
          try simp only [List.set_cons_succ]
          try simp only [List.set_cons_zero]
          refine wpAnyH_take (i := 6) (v := (.string (o ++ ⟨#[32]⟩ ++ qt ck ++ ⟨#[61]⟩))) rfl (by kernel_rfl) (by kernel_rfl) (by kernel_rfl) (fun _ _ _ h => h) (Or.inl ⟨by rfl, ?_⟩) (by assumption) ?_
          · intro w hSw
            (try dsimp only at hSw)
            go_simp
            try omega
          try simp only [List.getElem_toArray]
          try simp only [List.getElem_cons_succ]
          try simp only [List.getElem_cons_zero]
          try simp only [Act.put]
          try simp only [List.setIfInBounds_toArray]
          try simp only [List.set_cons_succ]
          try simp only [List.set_cons_zero]
          refine wpAnyH_ready (rs := [9]) (by kernel_rfl) (by simp) ?_
          refine AllReadyH.cons rfl (fun K1 hK => ?_) AllReadyH.nil
          go_simp
          refine (CQ.out cv _ HP.out.2).mono ?_
          rintro r v3 ⟨rfl, hb⟩
          go_wp2_with fail
          have Kp3 := hid (Kp2.out.below hb)
          have HB3 := hid (HB2.out.trans (hb.mono HB2.out.size))
          clear hb Kp2 HB2
          refine hK.out _ _ ?_ (fun hHeld => ?_)
          · exact ⟨Kp3.out.cell (j := 0) rfl, Kp3.out.cell (j := 1) rfl⟩
          clear hK K1
          try simp only [List.getElem_toArray]
          try simp only [List.getElem_cons_succ]
          try simp only [List.getElem_cons_zero]
          try simp only [Act.put]
          try simp only [List.setIfInBounds_toArray]
          try simp only [List.set_cons_succ]
          try simp only [List.set_cons_zero]
          refine wpAnyH_take (i := 10) (v := (.string (o ++ ⟨#[32]⟩ ++ qt ck ++ ⟨#[61]⟩ ++ qt cv))) rfl (by kernel_rfl) (by kernel_rfl) (by kernel_rfl) (fun _ _ _ h => h) (Or.inl ⟨by rfl, ?_⟩) (by assumption) ?_
          · intro w hSw
            (try dsimp only at hSw)
            go_simp
            try omega
          try simp only [List.getElem_toArray]
          try simp only [List.getElem_cons_succ]
          try simp only [List.getElem_cons_zero]
          try simp only [Act.put]
          try simp only [List.setIfInBounds_toArray]
          try simp only [List.set_cons_succ]
          try simp only [List.set_cons_zero]
          refine wpAnyH_take (i := 11) (v := (.string (o ++ ⟨#[32]⟩ ++ qt ck ++ ⟨#[61]⟩ ++ qt cv))) rfl (by kernel_rfl) (by kernel_rfl) (by kernel_rfl) (fun _ _ _ h => h) (Or.inl ⟨by rfl, ?_⟩) (by assumption) ?_
          · intro w hSw
            (try dsimp only at hSw)
            go_simp
            try omega
          try simp only [List.getElem_toArray]
          try simp only [List.getElem_cons_succ]
          try simp only [List.getElem_cons_zero]
          try simp only [Act.put]
          try simp only [List.setIfInBounds_toArray]
          try simp only [List.set_cons_succ]
          try simp only [List.set_cons_zero]
          refine wpAnyH_done (by kernel_rfl) ?_ _
          refine NoPanic.normal ?_
          have HQ9 : Hid (o ++ ⟨#[32]⟩ ++ qt ck ++ ⟨#[61]⟩ ++ qt cv = ((ps.map pairT).take (m + 1)).foldl (fun o y => o ++ blk ++ y) o4) := by
            show _ = _
            rw [HS.out, List.foldl_append, ← HQ.out]
            show _ = o ++ blk ++ (qt ck ++ ⟨#[61]⟩ ++ qt cv)
            simp only [ByteArray.append_assoc, blk]
          have HZ9 : Hid ((o ++ ⟨#[32]⟩ ++ qt ck ++ ⟨#[61]⟩ ++ qt cv : ByteArray).size ≤ 100 + 24600 * (m + 1)) := by
            show _ ≤ _
            simp only [ByteArray.size_append, sb, se]
            omega
          clear HQ HZO HS zo z1 z2
          go_wp2
          go_roundw
          case rel => exact ⟨m + 1, _, rfl, by go_num, by omega, HB3.out, HQ9.out, HZ9.out⟩
          case measure => simp [intOf]; omega
        · have HE : Hid ((ps.map pairT).take m = ps.map pairT) := List.take_of_length_le (by rw [List.length_map, ← HPN.out]; omega)
          rw [HE.out] at HQ
          go_wp2
          go_ret
          exact ⟨by rw [HO.out, HQ.out]; try rfl, HB.out⟩
end Go.Proofs.YtjddkofpfmjojaaDoor
/-
  Replies: what the law's helper makes of one.
-/
namespace Go.Proofs.YtjddkofpfmjojaaDoor
open Go.RowKit
set_option linter.unusedVariables false
theorem ry_sets {w : World} {g : Nat} {T : TypeId} {z0 z1 z2 z3 z4 z5 z6 z7 z8 z9 z10 z11 z12 : Value} (h : Bk w g T [z0, z1, z2, z3, z4, z5, z6, z7, z8, z9, z10, z11, z12]) (a0 a1 a2 a3 a4 a5 a6 a7 a8 a9 a10 a11 a12 : Value) : Bk (((((((((((((w.setCell ⟨g, 0, none⟩ (a0)).setCell ⟨g, 1, none⟩ (a1)).setCell ⟨g, 2, none⟩ (a2)).setCell ⟨g, 3, none⟩ (a3)).setCell ⟨g, 4, none⟩ (a4)).setCell ⟨g, 5, none⟩ (a5)).setCell ⟨g, 6, none⟩ (a6)).setCell ⟨g, 7, none⟩ (a7)).setCell ⟨g, 8, none⟩ (a8)).setCell ⟨g, 9, none⟩ (a9)).setCell ⟨g, 10, none⟩ (a10)).setCell ⟨g, 11, none⟩ (a11)).setCell ⟨g, 12, none⟩ (a12)) g T [a0, a1, a2, a3, a4, a5, a6, a7, a8, a9, a10, a11, a12] := (setE (setE (setE (setE (setE (setE (setE (setE (setE (setE (setE (setE (setE h 0 a0 (ys := [a0, z1, z2, z3, z4, z5, z6, z7, z8, z9, z10, z11, z12]) rfl) 1 a1 (ys := [a0, a1, z2, z3, z4, z5, z6, z7, z8, z9, z10, z11, z12]) rfl) 2 a2 (ys := [a0, a1, a2, z3, z4, z5, z6, z7, z8, z9, z10, z11, z12]) rfl) 3 a3 (ys := [a0, a1, a2, a3, z4, z5, z6, z7, z8, z9, z10, z11, z12]) rfl) 4 a4 (ys := [a0, a1, a2, a3, a4, z5, z6, z7, z8, z9, z10, z11, z12]) rfl) 5 a5 (ys := [a0, a1, a2, a3, a4, a5, z6, z7, z8, z9, z10, z11, z12]) rfl) 6 a6 (ys := [a0, a1, a2, a3, a4, a5, a6, z7, z8, z9, z10, z11, z12]) rfl) 7 a7 (ys := [a0, a1, a2, a3, a4, a5, a6, a7, z8, z9, z10, z11, z12]) rfl) 8 a8 (ys := [a0, a1, a2, a3, a4, a5, a6, a7, a8, z9, z10, z11, z12]) rfl) 9 a9 (ys := [a0, a1, a2, a3, a4, a5, a6, a7, a8, a9, z10, z11, z12]) rfl) 10 a10 (ys := [a0, a1, a2, a3, a4, a5, a6, a7, a8, a9, a10, z11, z12]) rfl) 11 a11 (ys := [a0, a1, a2, a3, a4, a5, a6, a7, a8, a9, a10, a11, z12]) rfl) 12 a12 (ys := [a0, a1, a2, a3, a4, a5, a6, a7, a8, a9, a10, a11, a12]) rfl)
theorem ry_only {w : World} {g : Nat} {R : Nat → Prop} (hR : R g) (a0 a1 a2 a3 a4 a5 a6 a7 a8 a9 a10 a11 a12 : Value) : Only R w (((((((((((((w.setCell ⟨g, 0, none⟩ (a0)).setCell ⟨g, 1, none⟩ (a1)).setCell ⟨g, 2, none⟩ (a2)).setCell ⟨g, 3, none⟩ (a3)).setCell ⟨g, 4, none⟩ (a4)).setCell ⟨g, 5, none⟩ (a5)).setCell ⟨g, 6, none⟩ (a6)).setCell ⟨g, 7, none⟩ (a7)).setCell ⟨g, 8, none⟩ (a8)).setCell ⟨g, 9, none⟩ (a9)).setCell ⟨g, 10, none⟩ (a10)).setCell ⟨g, 11, none⟩ (a11)).setCell ⟨g, 12, none⟩ (a12)) := (only_step (only_step (only_step (only_step (only_step (only_step (only_step (only_step (only_step (only_step (only_step (only_step (only_set (R := R) (p := ⟨g, 0, none⟩) hR a0) hR 1 a1) hR 2 a2) hR 3 a3) hR 4 a4) hR 5 a5) hR 6 a6) hR 7 a7) hR 8 a8) hR 9 a9) hR 10 a10) hR 11 a11) hR 12 a12)
theorem load_reply {w : World} {g : Nat} {kd c e n k : Int} {ky vl lo hi : ByteArray} {mo : Int} {bk : Bool} {co : Int} {pa : Option Addr} {pn pc : Nat} (c0 : w.cell? ⟨g, 0, none⟩ = some (.int .i64 kd)) (c1 : w.cell? ⟨g, 1, none⟩ = some (.int .i64 c)) (c2 : w.cell? ⟨g, 2, none⟩ = some (.int .i64 e)) (c3 : w.cell? ⟨g, 3, none⟩ = some (.int .i64 n)) (c4 : w.cell? ⟨g, 4, none⟩ = some (.int .i64 k)) (c5 : w.cell? ⟨g, 5, none⟩ = some (.string ky)) (c6 : w.cell? ⟨g, 6, none⟩ = some (.string vl)) (c7 : w.cell? ⟨g, 7, none⟩ = some (.string lo)) (c8 : w.cell? ⟨g, 8, none⟩ = some (.string hi)) (c9 : w.cell? ⟨g, 9, none⟩ = some (.int .i64 mo)) (c10 : w.cell? ⟨g, 10, none⟩ = some (.bool bk)) (c11 : w.cell? ⟨g, 11, none⟩ = some (.int .i64 co)) (c12 : w.cell? ⟨g, 12, none⟩ = some (.slice pa pn pc)) :
    (loadVar 53 ⟨g, 0, none⟩).run Tryd.prog w = .ok (.agg #[.int .i64 kd, .int .i64 c, .int .i64 e, .int .i64 n, .int .i64 k, .string ky, .string vl, .string lo, .string hi, .int .i64 mo, .bool bk, .int .i64 co, .slice pa pn pc]) w := by go_simp
theorem results_reply {fn : Func} {p : Tmp} (h : fn.results = #[.cell p 53]) (tmps : Array Value) (w : World) (g : Nat) {kd c e n k : Int} {ky vl lo hi : ByteArray} {mo : Int} {bk : Bool} {co : Int} {pa : Option Addr} {pn pc : Nat} (hp : tmps.getD p undef = .pointer (some ⟨g, 0, none⟩)) (c0 : w.cell? ⟨g, 0, none⟩ = some (.int .i64 kd)) (c1 : w.cell? ⟨g, 1, none⟩ = some (.int .i64 c)) (c2 : w.cell? ⟨g, 2, none⟩ = some (.int .i64 e)) (c3 : w.cell? ⟨g, 3, none⟩ = some (.int .i64 n)) (c4 : w.cell? ⟨g, 4, none⟩ = some (.int .i64 k)) (c5 : w.cell? ⟨g, 5, none⟩ = some (.string ky)) (c6 : w.cell? ⟨g, 6, none⟩ = some (.string vl)) (c7 : w.cell? ⟨g, 7, none⟩ = some (.string lo)) (c8 : w.cell? ⟨g, 8, none⟩ = some (.string hi)) (c9 : w.cell? ⟨g, 9, none⟩ = some (.int .i64 mo)) (c10 : w.cell? ⟨g, 10, none⟩ = some (.bool bk)) (c11 : w.cell? ⟨g, 11, none⟩ = some (.int .i64 co)) (c12 : w.cell? ⟨g, 12, none⟩ = some (.slice pa pn pc)) :
    (results fn tmps).run Tryd.prog w = .ok (.agg #[.int .i64 kd, .int .i64 c, .int .i64 e, .int .i64 n, .int .i64 k, .string ky, .string vl, .string lo, .string hi, .int .i64 mo, .bool bk, .int .i64 co, .slice pa pn pc]) w := by
  have hp' : tmps[p]?.getD undef = .pointer (some ⟨g, 0, none⟩) := by simpa using hp
  simp [results, h, hp', asAddr, load_reply c0 c1 c2 c3 c4 c5 c6 c7 c8 c9 c10 c11 c12]
set_option maxHeartbeats 8000000 in
set_option maxRecDepth 20000 in
theorem toReply_any (S : Nat → Prop) (ps : List PB) (kd c e n k : Int) (ky vl lo hi : ByteArray) (mo : Int) (bk : Bool) (co : Int) (pa : Option Addr) (pn pc : Nat) (w : World) (h1 : Pr w S (.slice pa pn pc) ps) (hh : pn ≤ 1048576) :
    Calls Tryd.prog 12 #[.agg #[.int .i64 kd, .int .i64 c, .int .i64 e, .int .i64 n, .int .i64 k, .string ky, .string vl, .string lo, .string hi, .int .i64 mo, .bool bk, .int .i64 co, .slice pa pn pc]] w fun r w' => ∃ g0, r = .returned (.agg #[.int .i64 kd, .int .i64 c, .int .i64 e, .int .i64 n, .int .i64 k, .string ky, .string vl, .string lo, .string hi, .int .i64 mo, .bool bk, .int .i64 co, .slice (some ⟨g0, 0, none⟩) pn pn]) ∧ (w.heap.size ≤ g0 ∧ Bk w' g0 76 (pcs ps)) ∧ Below w.heap.size w w' := by
  have HN := hid (Rw.len h1).1
  have B0 : Hid (Below w.heap.size w (((w.alloc (.cells #[.int .i64 kd, .int .i64 c, .int .i64 e, .int .i64 n, .int .i64 k, .string ky, .string vl, .string lo, .string hi, .int .i64 mo, .bool bk, .int .i64 co, .slice pa pn pc] 47)).alloc (.cells #[.int .i64 0, .int .i64 0, .int .i64 0, .int .i64 0, .int .i64 0, .string ⟨#[]⟩, .string ⟨#[]⟩, .string ⟨#[]⟩, .string ⟨#[]⟩, .int .i64 0, .bool false, .int .i64 0, .slice none 0 0] 53)).alloc (.cells #[.int .i64 kd, .int .i64 0, .int .i64 0, .int .i64 0, .int .i64 0, .string ⟨#[]⟩, .string ⟨#[]⟩, .string ⟨#[]⟩, .string ⟨#[]⟩, .int .i64 0, .bool false, .int .i64 0, .slice none 0 0] 53))) := below_new (below_new (below_new (Below.refl _ _)))
  have C1 := hid (fun w => toTx_any c e n w)
  have C2 := hid (fun w => toAsk_any k ky vl lo hi mo bk w)
  have K0 := hid (((Bk.new w 47 [.int .i64 kd, .int .i64 c, .int .i64 e, .int .i64 n, .int .i64 k, .string ky, .string vl, .string lo, .string hi, .int .i64 mo, .bool bk, .int .i64 co, .slice pa pn pc]).alloc (.cells #[.int .i64 0, .int .i64 0, .int .i64 0, .int .i64 0, .int .i64 0, .string ⟨#[]⟩, .string ⟨#[]⟩, .string ⟨#[]⟩, .string ⟨#[]⟩, .int .i64 0, .bool false, .int .i64 0, .slice none 0 0] 53)).alloc (.cells #[.int .i64 kd, .int .i64 0, .int .i64 0, .int .i64 0, .int .i64 0, .string ⟨#[]⟩, .string ⟨#[]⟩, .string ⟨#[]⟩, .string ⟨#[]⟩, .int .i64 0, .bool false, .int .i64 0, .slice none 0 0] 53))
  have J0 := hid ((Bk.new (w.alloc (.cells #[.int .i64 kd, .int .i64 c, .int .i64 e, .int .i64 n, .int .i64 k, .string ky, .string vl, .string lo, .string hi, .int .i64 mo, .bool bk, .int .i64 co, .slice pa pn pc] 47)) 53 [.int .i64 0, .int .i64 0, .int .i64 0, .int .i64 0, .int .i64 0, .string ⟨#[]⟩, .string ⟨#[]⟩, .string ⟨#[]⟩, .string ⟨#[]⟩, .int .i64 0, .bool false, .int .i64 0, .slice none 0 0]).alloc (.cells #[.int .i64 kd, .int .i64 0, .int .i64 0, .int .i64 0, .int .i64 0, .string ⟨#[]⟩, .string ⟨#[]⟩, .string ⟨#[]⟩, .string ⟨#[]⟩, .int .i64 0, .bool false, .int .i64 0, .slice none 0 0] 53))
  have I0 := hid (Bk.new ((w.alloc (.cells #[.int .i64 kd, .int .i64 c, .int .i64 e, .int .i64 n, .int .i64 k, .string ky, .string vl, .string lo, .string hi, .int .i64 mo, .bool bk, .int .i64 co, .slice pa pn pc] 47)).alloc (.cells #[.int .i64 0, .int .i64 0, .int .i64 0, .int .i64 0, .int .i64 0, .string ⟨#[]⟩, .string ⟨#[]⟩, .string ⟨#[]⟩, .string ⟨#[]⟩, .int .i64 0, .bool false, .int .i64 0, .slice none 0 0] 53)) 53 [.int .i64 kd, .int .i64 0, .int .i64 0, .int .i64 0, .int .i64 0, .string ⟨#[]⟩, .string ⟨#[]⟩, .string ⟨#[]⟩, .string ⟨#[]⟩, .int .i64 0, .bool false, .int .i64 0, .slice none 0 0])
  rw [show (w.alloc (.cells #[.int .i64 kd, .int .i64 c, .int .i64 e, .int .i64 n, .int .i64 k, .string ky, .string vl, .string lo, .string hi, .int .i64 mo, .bool bk, .int .i64 co, .slice pa pn pc] 47)).heap.size = w.heap.size + 1 by simp] at J0
  rw [show ((w.alloc (.cells #[.int .i64 kd, .int .i64 c, .int .i64 e, .int .i64 n, .int .i64 k, .string ky, .string vl, .string lo, .string hi, .int .i64 mo, .bool bk, .int .i64 co, .slice pa pn pc] 47)).alloc (.cells #[.int .i64 0, .int .i64 0, .int .i64 0, .int .i64 0, .int .i64 0, .string ⟨#[]⟩, .string ⟨#[]⟩, .string ⟨#[]⟩, .string ⟨#[]⟩, .int .i64 0, .bool false, .int .i64 0, .slice none 0 0] 53)).heap.size = w.heap.size + 1 + 1 by simp] at I0
  have d1 : ¬ w.heap.size = w.heap.size + 1 + 1 := by omega
  have d2 : ¬ w.heap.size + 1 = w.heap.size + 1 + 1 := by omega
  have d3 : ¬ w.heap.size + 1 + 1 = w.heap.size + 1 := by omega
  have d4 : ¬ w.heap.size = w.heap.size + 1 := by omega
  have H0 := hid h1
  clear h1
  go_enter Tryd.func12, Tryd.ntmps12
  go_wp2_with fail
  refine (C1.out _).mono ?_
  generalize ((w.alloc (.cells #[.int .i64 kd, .int .i64 c, .int .i64 e, .int .i64 n, .int .i64 k, .string ky, .string vl, .string lo, .string hi, .int .i64 mo, .bool bk, .int .i64 co, .slice pa pn pc] 47)).alloc (.cells #[.int .i64 0, .int .i64 0, .int .i64 0, .int .i64 0, .int .i64 0, .string ⟨#[]⟩, .string ⟨#[]⟩, .string ⟨#[]⟩, .string ⟨#[]⟩, .int .i64 0, .bool false, .int .i64 0, .slice none 0 0] 53)).alloc (.cells #[.int .i64 kd, .int .i64 0, .int .i64 0, .int .i64 0, .int .i64 0, .string ⟨#[]⟩, .string ⟨#[]⟩, .string ⟨#[]⟩, .string ⟨#[]⟩, .int .i64 0, .bool false, .int .i64 0, .slice none 0 0] 53) = U at *
  rintro r w1 ⟨rfl, hb⟩
  have K1 := hid (K0.out.below hb)
  have J1 := hid (J0.out.below hb)
  have I1 := hid (I0.out.below hb)
  have B1 := hid (btR B0.out hb)
  clear hb K0 J0 I0 B0
  have x4 := K1.out.cell (j := 4) rfl
  have x5 := K1.out.cell (j := 5) rfl
  have x6 := K1.out.cell (j := 6) rfl
  have x7 := K1.out.cell (j := 7) rfl
  have x8 := K1.out.cell (j := 8) rfl
  have x9 := K1.out.cell (j := 9) rfl
  have x10 := K1.out.cell (j := 10) rfl
  have y0 := I1.out.cell (j := 0) rfl
  have y1 := I1.out.cell (j := 1) rfl
  have y2 := I1.out.cell (j := 2) rfl
  have y3 := I1.out.cell (j := 3) rfl
  have f1 := I1.out.free 1
  have f2 := I1.out.free 2
  have f3 := I1.out.free 3
  have I2 : Hid (Bk (((w1.setCell ⟨w.heap.size + 1 + 1, 1, none⟩ (.int .i64 c)).setCell ⟨w.heap.size + 1 + 1, 2, none⟩ (.int .i64 e)).setCell ⟨w.heap.size + 1 + 1, 3, none⟩ (.int .i64 n)) (w.heap.size + 1 + 1) 53 [.int .i64 kd, .int .i64 c, .int .i64 e, .int .i64 n, .int .i64 0, .string ⟨#[]⟩, .string ⟨#[]⟩, .string ⟨#[]⟩, .string ⟨#[]⟩, .int .i64 0, .bool false, .int .i64 0, .slice none 0 0]) := (((I1.out.set 1 _).set 2 _).set 3 _)
  have J2 : Hid (Bk (((w1.setCell ⟨w.heap.size + 1 + 1, 1, none⟩ (.int .i64 c)).setCell ⟨w.heap.size + 1 + 1, 2, none⟩ (.int .i64 e)).setCell ⟨w.heap.size + 1 + 1, 3, none⟩ (.int .i64 n)) (w.heap.size + 1) 53 [.int .i64 0, .int .i64 0, .int .i64 0, .int .i64 0, .int .i64 0, .string ⟨#[]⟩, .string ⟨#[]⟩, .string ⟨#[]⟩, .string ⟨#[]⟩, .int .i64 0, .bool false, .int .i64 0, .slice none 0 0]) := (((J1.out.setOther (by omega) _ _).setOther (by omega) _ _).setOther (by omega) _ _)
  have K2 : Hid (Bk (((w1.setCell ⟨w.heap.size + 1 + 1, 1, none⟩ (.int .i64 c)).setCell ⟨w.heap.size + 1 + 1, 2, none⟩ (.int .i64 e)).setCell ⟨w.heap.size + 1 + 1, 3, none⟩ (.int .i64 n)) w.heap.size 47 [.int .i64 kd, .int .i64 c, .int .i64 e, .int .i64 n, .int .i64 k, .string ky, .string vl, .string lo, .string hi, .int .i64 mo, .bool bk, .int .i64 co, .slice pa pn pc]) := (((K1.out.setOther (by omega) _ _).setOther (by omega) _ _).setOther (by omega) _ _)
  have B2 : Hid (Below w.heap.size w (((w1.setCell ⟨w.heap.size + 1 + 1, 1, none⟩ (.int .i64 c)).setCell ⟨w.heap.size + 1 + 1, 2, none⟩ (.int .i64 e)).setCell ⟨w.heap.size + 1 + 1, 3, none⟩ (.int .i64 n))) := (((B1.out.setCell (p := ⟨w.heap.size + 1 + 1, 1, none⟩) (by simp; omega) _).setCell (p := ⟨w.heap.size + 1 + 1, 2, none⟩) (by simp; omega) _).setCell (p := ⟨w.heap.size + 1 + 1, 3, none⟩) (by simp; omega) _)
  go_wp2_with fail
  refine (C2.out _).mono ?_
  generalize (((w1.setCell ⟨w.heap.size + 1 + 1, 1, none⟩ (.int .i64 c)).setCell ⟨w.heap.size + 1 + 1, 2, none⟩ (.int .i64 e)).setCell ⟨w.heap.size + 1 + 1, 3, none⟩ (.int .i64 n)) = V at *
  rintro r w2 ⟨rfl, hb⟩
  have K3 := hid (K2.out.below hb)
  have J3 := hid (J2.out.below hb)
  have I3 := hid (I2.out.below hb)
  have B3 := hid (btR B2.out hb)
  clear hb K1 J1 I1 B1 K2 J2 I2 B2 x4 x5 x6 x7 x8 x9 x10 y0 y1 y2 y3 f1 f2 f3
  have x11 := K3.out.cell (j := 11) rfl
  have x12 := K3.out.cell (j := 12) rfl
  have y0 := I3.out.cell (j := 0) rfl
  have y1 := I3.out.cell (j := 1) rfl
  have y2 := I3.out.cell (j := 2) rfl
  have y3 := I3.out.cell (j := 3) rfl
  have y4 := I3.out.cell (j := 4) rfl
  have y5 := I3.out.cell (j := 5) rfl
  have y6 := I3.out.cell (j := 6) rfl
  have y7 := I3.out.cell (j := 7) rfl
  have y8 := I3.out.cell (j := 8) rfl
  have y9 := I3.out.cell (j := 9) rfl
  have y10 := I3.out.cell (j := 10) rfl
  have y11 := I3.out.cell (j := 11) rfl
  have f4 := I3.out.free 4
  have f5 := I3.out.free 5
  have f6 := I3.out.free 6
  have f7 := I3.out.free 7
  have f8 := I3.out.free 8
  have f9 := I3.out.free 9
  have f10 := I3.out.free 10
  have f11 := I3.out.free 11
  have I4 : Hid (Bk ((((((((w2.setCell ⟨w.heap.size + 1 + 1, 4, none⟩ (.int .i64 k)).setCell ⟨w.heap.size + 1 + 1, 5, none⟩ (.string ky)).setCell ⟨w.heap.size + 1 + 1, 6, none⟩ (.string vl)).setCell ⟨w.heap.size + 1 + 1, 7, none⟩ (.string lo)).setCell ⟨w.heap.size + 1 + 1, 8, none⟩ (.string hi)).setCell ⟨w.heap.size + 1 + 1, 9, none⟩ (.int .i64 mo)).setCell ⟨w.heap.size + 1 + 1, 10, none⟩ (.bool bk)).setCell ⟨w.heap.size + 1 + 1, 11, none⟩ (.int .i64 co)) (w.heap.size + 1 + 1) 53 [.int .i64 kd, .int .i64 c, .int .i64 e, .int .i64 n, .int .i64 k, .string ky, .string vl, .string lo, .string hi, .int .i64 mo, .bool bk, .int .i64 co, .slice none 0 0]) := ((((((((I3.out.set 4 _).set 5 _).set 6 _).set 7 _).set 8 _).set 9 _).set 10 _).set 11 _)
  have J4 : Hid (Bk ((((((((w2.setCell ⟨w.heap.size + 1 + 1, 4, none⟩ (.int .i64 k)).setCell ⟨w.heap.size + 1 + 1, 5, none⟩ (.string ky)).setCell ⟨w.heap.size + 1 + 1, 6, none⟩ (.string vl)).setCell ⟨w.heap.size + 1 + 1, 7, none⟩ (.string lo)).setCell ⟨w.heap.size + 1 + 1, 8, none⟩ (.string hi)).setCell ⟨w.heap.size + 1 + 1, 9, none⟩ (.int .i64 mo)).setCell ⟨w.heap.size + 1 + 1, 10, none⟩ (.bool bk)).setCell ⟨w.heap.size + 1 + 1, 11, none⟩ (.int .i64 co)) (w.heap.size + 1) 53 [.int .i64 0, .int .i64 0, .int .i64 0, .int .i64 0, .int .i64 0, .string ⟨#[]⟩, .string ⟨#[]⟩, .string ⟨#[]⟩, .string ⟨#[]⟩, .int .i64 0, .bool false, .int .i64 0, .slice none 0 0]) := ((((((((J3.out.setOther (by omega) _ _).setOther (by omega) _ _).setOther (by omega) _ _).setOther (by omega) _ _).setOther (by omega) _ _).setOther (by omega) _ _).setOther (by omega) _ _).setOther (by omega) _ _)
  have K4 : Hid (Bk ((((((((w2.setCell ⟨w.heap.size + 1 + 1, 4, none⟩ (.int .i64 k)).setCell ⟨w.heap.size + 1 + 1, 5, none⟩ (.string ky)).setCell ⟨w.heap.size + 1 + 1, 6, none⟩ (.string vl)).setCell ⟨w.heap.size + 1 + 1, 7, none⟩ (.string lo)).setCell ⟨w.heap.size + 1 + 1, 8, none⟩ (.string hi)).setCell ⟨w.heap.size + 1 + 1, 9, none⟩ (.int .i64 mo)).setCell ⟨w.heap.size + 1 + 1, 10, none⟩ (.bool bk)).setCell ⟨w.heap.size + 1 + 1, 11, none⟩ (.int .i64 co)) w.heap.size 47 [.int .i64 kd, .int .i64 c, .int .i64 e, .int .i64 n, .int .i64 k, .string ky, .string vl, .string lo, .string hi, .int .i64 mo, .bool bk, .int .i64 co, .slice pa pn pc]) := ((((((((K3.out.setOther (by omega) _ _).setOther (by omega) _ _).setOther (by omega) _ _).setOther (by omega) _ _).setOther (by omega) _ _).setOther (by omega) _ _).setOther (by omega) _ _).setOther (by omega) _ _)
  have B4 : Hid (Below w.heap.size w ((((((((w2.setCell ⟨w.heap.size + 1 + 1, 4, none⟩ (.int .i64 k)).setCell ⟨w.heap.size + 1 + 1, 5, none⟩ (.string ky)).setCell ⟨w.heap.size + 1 + 1, 6, none⟩ (.string vl)).setCell ⟨w.heap.size + 1 + 1, 7, none⟩ (.string lo)).setCell ⟨w.heap.size + 1 + 1, 8, none⟩ (.string hi)).setCell ⟨w.heap.size + 1 + 1, 9, none⟩ (.int .i64 mo)).setCell ⟨w.heap.size + 1 + 1, 10, none⟩ (.bool bk)).setCell ⟨w.heap.size + 1 + 1, 11, none⟩ (.int .i64 co))) := ((((((((B3.out.setCell (p := ⟨w.heap.size + 1 + 1, 4, none⟩) (by simp; omega) _).setCell (p := ⟨w.heap.size + 1 + 1, 5, none⟩) (by simp; omega) _).setCell (p := ⟨w.heap.size + 1 + 1, 6, none⟩) (by simp; omega) _).setCell (p := ⟨w.heap.size + 1 + 1, 7, none⟩) (by simp; omega) _).setCell (p := ⟨w.heap.size + 1 + 1, 8, none⟩) (by simp; omega) _).setCell (p := ⟨w.heap.size + 1 + 1, 9, none⟩) (by simp; omega) _).setCell (p := ⟨w.heap.size + 1 + 1, 10, none⟩) (by simp; omega) _).setCell (p := ⟨w.heap.size + 1 + 1, 11, none⟩) (by simp; omega) _)
  go_wp2_with fail
  refine (toPairS_at S pa pn pc ps _ (H0.out.below B4.out) hh).mono ?_
  generalize ((((((((w2.setCell ⟨w.heap.size + 1 + 1, 4, none⟩ (.int .i64 k)).setCell ⟨w.heap.size + 1 + 1, 5, none⟩ (.string ky)).setCell ⟨w.heap.size + 1 + 1, 6, none⟩ (.string vl)).setCell ⟨w.heap.size + 1 + 1, 7, none⟩ (.string lo)).setCell ⟨w.heap.size + 1 + 1, 8, none⟩ (.string hi)).setCell ⟨w.heap.size + 1 + 1, 9, none⟩ (.int .i64 mo)).setCell ⟨w.heap.size + 1 + 1, 10, none⟩ (.bool bk)).setCell ⟨w.heap.size + 1 + 1, 11, none⟩ (.int .i64 co)) = V2 at *
  have SV : Hid (w.heap.size + 1 + 1 < V2.heap.size) := I4.out.lt
  generalize hg1 : V2.heap.size = g1 at *
  have HG1 := hid hg1
  clear hg1
  rintro r w3 ⟨rfl, hk, hb⟩
  rw [← HG1.out] at hb
  have E5 := hid hk
  have K5 := hid (K4.out.below hb)
  have J5 := hid (J4.out.below hb)
  have I5 := hid (I4.out.below hb)
  have B5 := hid (B4.out.trans (hb.mono B4.out.size))
  clear hb hk K3 J3 I3 B3 K4 J4 I4 B4 x11 x12 y0 y1 y2 y3 y4 y5 y6 y7 y8 y9 y10 y11 f4 f5 f6 f7 f8 f9 f10 f11
  have y0 := I5.out.cell (j := 0) rfl
  have y1 := I5.out.cell (j := 1) rfl
  have y2 := I5.out.cell (j := 2) rfl
  have y3 := I5.out.cell (j := 3) rfl
  have y4 := I5.out.cell (j := 4) rfl
  have y5 := I5.out.cell (j := 5) rfl
  have y6 := I5.out.cell (j := 6) rfl
  have y7 := I5.out.cell (j := 7) rfl
  have y8 := I5.out.cell (j := 8) rfl
  have y9 := I5.out.cell (j := 9) rfl
  have y10 := I5.out.cell (j := 10) rfl
  have y11 := I5.out.cell (j := 11) rfl
  have y12 := I5.out.cell (j := 12) rfl
  have f12 := I5.out.free 12
  have z0 := J5.out.cell (j := 0) rfl
  have z1 := J5.out.cell (j := 1) rfl
  have z2 := J5.out.cell (j := 2) rfl
  have z3 := J5.out.cell (j := 3) rfl
  have z4 := J5.out.cell (j := 4) rfl
  have z5 := J5.out.cell (j := 5) rfl
  have z6 := J5.out.cell (j := 6) rfl
  have z7 := J5.out.cell (j := 7) rfl
  have z8 := J5.out.cell (j := 8) rfl
  have z9 := J5.out.cell (j := 9) rfl
  have z10 := J5.out.cell (j := 10) rfl
  have z11 := J5.out.cell (j := 11) rfl
  have z12 := J5.out.cell (j := 12) rfl
  have e0 := J5.out.free 0
  have e1 := J5.out.free 1
  have e2 := J5.out.free 2
  have e3 := J5.out.free 3
  have e4 := J5.out.free 4
  have e5 := J5.out.free 5
  have e6 := J5.out.free 6
  have e7 := J5.out.free 7
  have e8 := J5.out.free 8
  have e9 := J5.out.free 9
  have e10 := J5.out.free 10
  have e11 := J5.out.free 11
  have e12 := J5.out.free 12
  have HF : Hid (∀ W, Only (fun y => y = w.heap.size + 1 ∨ y = w.heap.size + 1 + 1) w3 W → (w.heap.size ≤ g1 ∧ Bk W g1 76 (pcs ps)) ∧ Below w.heap.size w W) := fun W hW => by
    have s2 := SV.out
    refine ⟨⟨by omega, E5.out.to hW (fun e => by omega)⟩, B5.out.trans (hW.below B5.out.size (fun b hb e => by omega))⟩
  clear E5 B5
  have J6 : Hid (Bk (w3.setCell ⟨w.heap.size + 1 + 1, 12, none⟩ (.slice (some ⟨g1, 0, none⟩) pn pn)) (w.heap.size + 1) 53 [.int .i64 0, .int .i64 0, .int .i64 0, .int .i64 0, .int .i64 0, .string ⟨#[]⟩, .string ⟨#[]⟩, .string ⟨#[]⟩, .string ⟨#[]⟩, .int .i64 0, .bool false, .int .i64 0, .slice none 0 0]) := J5.out.setOther (by omega) _ _
  have J7 : Hid (Bk ((((((((((((((w3.setCell ⟨w.heap.size + 1 + 1, 12, none⟩ (.slice (some ⟨g1, 0, none⟩) pn pn)).setCell ⟨w.heap.size + 1, 0, none⟩ (.int .i64 kd)).setCell ⟨w.heap.size + 1, 1, none⟩ (.int .i64 c)).setCell ⟨w.heap.size + 1, 2, none⟩ (.int .i64 e)).setCell ⟨w.heap.size + 1, 3, none⟩ (.int .i64 n)).setCell ⟨w.heap.size + 1, 4, none⟩ (.int .i64 k)).setCell ⟨w.heap.size + 1, 5, none⟩ (.string ky)).setCell ⟨w.heap.size + 1, 6, none⟩ (.string vl)).setCell ⟨w.heap.size + 1, 7, none⟩ (.string lo)).setCell ⟨w.heap.size + 1, 8, none⟩ (.string hi)).setCell ⟨w.heap.size + 1, 9, none⟩ (.int .i64 mo)).setCell ⟨w.heap.size + 1, 10, none⟩ (.bool bk)).setCell ⟨w.heap.size + 1, 11, none⟩ (.int .i64 co)).setCell ⟨w.heap.size + 1, 12, none⟩ (.slice (some ⟨g1, 0, none⟩) pn pn)) (w.heap.size + 1) 53 [.int .i64 kd, .int .i64 c, .int .i64 e, .int .i64 n, .int .i64 k, .string ky, .string vl, .string lo, .string hi, .int .i64 mo, .bool bk, .int .i64 co, .slice (some ⟨g1, 0, none⟩) pn pn]) := ry_sets J6.out _ _ _ _ _ _ _ _ _ _ _ _ _
  have O7 : Hid (Only (fun y => y = w.heap.size + 1 ∨ y = w.heap.size + 1 + 1) w3 ((((((((((((((w3.setCell ⟨w.heap.size + 1 + 1, 12, none⟩ (.slice (some ⟨g1, 0, none⟩) pn pn)).setCell ⟨w.heap.size + 1, 0, none⟩ (.int .i64 kd)).setCell ⟨w.heap.size + 1, 1, none⟩ (.int .i64 c)).setCell ⟨w.heap.size + 1, 2, none⟩ (.int .i64 e)).setCell ⟨w.heap.size + 1, 3, none⟩ (.int .i64 n)).setCell ⟨w.heap.size + 1, 4, none⟩ (.int .i64 k)).setCell ⟨w.heap.size + 1, 5, none⟩ (.string ky)).setCell ⟨w.heap.size + 1, 6, none⟩ (.string vl)).setCell ⟨w.heap.size + 1, 7, none⟩ (.string lo)).setCell ⟨w.heap.size + 1, 8, none⟩ (.string hi)).setCell ⟨w.heap.size + 1, 9, none⟩ (.int .i64 mo)).setCell ⟨w.heap.size + 1, 10, none⟩ (.bool bk)).setCell ⟨w.heap.size + 1, 11, none⟩ (.int .i64 co)).setCell ⟨w.heap.size + 1, 12, none⟩ (.slice (some ⟨g1, 0, none⟩) pn pn))) := (only_set (R := fun y => y = w.heap.size + 1 ∨ y = w.heap.size + 1 + 1) (p := ⟨w.heap.size + 1 + 1, 12, none⟩) (.inr rfl) _).trans (ry_only (R := fun y => y = w.heap.size + 1 ∨ y = w.heap.size + 1 + 1) (.inl rfl) _ _ _ _ _ _ _ _ _ _ _ _ _)
  clear J5 J6 K5 I5
  go_wp2
  try simp only [Exit.inBlock, Exit.then]
  generalize ((((((((((((((w3.setCell ⟨w.heap.size + 1 + 1, 12, none⟩ (.slice (some ⟨g1, 0, none⟩) pn pn)).setCell ⟨w.heap.size + 1, 0, none⟩ (.int .i64 kd)).setCell ⟨w.heap.size + 1, 1, none⟩ (.int .i64 c)).setCell ⟨w.heap.size + 1, 2, none⟩ (.int .i64 e)).setCell ⟨w.heap.size + 1, 3, none⟩ (.int .i64 n)).setCell ⟨w.heap.size + 1, 4, none⟩ (.int .i64 k)).setCell ⟨w.heap.size + 1, 5, none⟩ (.string ky)).setCell ⟨w.heap.size + 1, 6, none⟩ (.string vl)).setCell ⟨w.heap.size + 1, 7, none⟩ (.string lo)).setCell ⟨w.heap.size + 1, 8, none⟩ (.string hi)).setCell ⟨w.heap.size + 1, 9, none⟩ (.int .i64 mo)).setCell ⟨w.heap.size + 1, 10, none⟩ (.bool bk)).setCell ⟨w.heap.size + 1, 11, none⟩ (.int .i64 co)).setCell ⟨w.heap.size + 1, 12, none⟩ (.slice (some ⟨g1, 0, none⟩) pn pn)) = W9 at *
  clear y0 y1 y2 y3 y4 y5 y6 y7 y8 y9 y10 y11 y12 z0 z1 z2 z3 z4 z5 z6 z7 z8 z9 z10 z11 z12 e0 e1 e2 e3 e4 e5 e6 e7 e8 e9 e10 e11 e12
  refine bodyPost_ret (v := .agg #[.int .i64 kd, .int .i64 c, .int .i64 e, .int .i64 n, .int .i64 k, .string ky, .string vl, .string lo, .string hi, .int .i64 mo, .bool bk, .int .i64 co, .slice (some ⟨g1, 0, none⟩) pn pn]) ?_ rfl ?_
  · exact results_reply rfl _ _ _ rfl (J7.out.cell (j := 0) rfl) (J7.out.cell (j := 1) rfl) (J7.out.cell (j := 2) rfl) (J7.out.cell (j := 3) rfl) (J7.out.cell (j := 4) rfl) (J7.out.cell (j := 5) rfl) (J7.out.cell (j := 6) rfl) (J7.out.cell (j := 7) rfl) (J7.out.cell (j := 8) rfl) (J7.out.cell (j := 9) rfl) (J7.out.cell (j := 10) rfl) (J7.out.cell (j := 11) rfl) (J7.out.cell (j := 12) rfl)
  · exact ⟨g1, rfl, HF.out _ O7.out⟩
end Go.Proofs.YtjddkofpfmjojaaDoor
