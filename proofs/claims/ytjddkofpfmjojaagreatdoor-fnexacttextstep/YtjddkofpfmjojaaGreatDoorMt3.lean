/-
  The words of asks and calls, as the program writes them.
-/
import Derived.Test.YtjddkofpfmjojaaGreatDoorMt2
import Derived.Test.YtjddkofpfmjojaaGreatDoorMt1
import Derived.Deep.RegionHeld3
import Derived.Deep.RegionLaw
import Derived.Deep.Cut
namespace Go.Proofs.YtjddkofpfmjojaaGreatDoor
open Go.RowKit
set_option linter.unusedVariables false
/-- What the writers of words want of the world. -/
structure GW (w : World) : Prop where
  tab : Tab w
  e : Err w 3
  g : 5 < w.heap.size
  l : 3 < w.heap.size
theorem GW.to {w w' : World} (h : GW w) (hb : Below w.heap.size w w') : GW w' := ⟨h.tab.below hb h.g, h.e.below hb h.l, Nat.lt_of_lt_of_le h.g hb.size, Nat.lt_of_lt_of_le h.l hb.size⟩
set_option maxHeartbeats 8000000 in
set_option maxRecDepth 20000 in
theorem askWords_any (k : Int) (ky vl lo hi : ByteArray) (mo : Int) (bk : Bool) (w : World) (hs : ky.size ≤ 1048576 ∧ vl.size ≤ 1048576 ∧ lo.size ≤ 1048576 ∧ hi.size ≤ 1048576) (hw : GW w) :
    Calls Tryz.prog 70 #[.agg #[.int .i64 k, .string ky, .string vl, .string lo, .string hi, .int .i64 mo, .bool bk]] w fun e w' => WsP (akW k ky vl lo hi mo bk) w e w' := by
  unfold WsP akW
  have B0 := hid (below_new (o := .cells #[.int .i64 k, .string ky, .string vl, .string lo, .string hi, .int .i64 mo, .bool bk] 26) (w := w) (Below.refl _ _))
  have K0 := hid (Bk.new w 26 [.int .i64 k, .string ky, .string vl, .string lo, .string hi, .int .i64 mo, .bool bk])
  have G0 := hid (hw.to B0.out)
  have CQ := hid (fun (s : ByteArray) (w : World) (hs : s.size ≤ 1048576) (hw : GW w) => implQuote_any s w hs hw.e hw.l)
  have CN := hid (fun (n : Int) (w : World) (hw : GW w) => implNumText_any n w hw.tab)
  have HS := hid hs
  clear hs hw
  generalize hU : w.alloc (.cells #[.int .i64 k, .string ky, .string vl, .string lo, .string hi, .int .i64 mo, .bool bk] 26) = U at *
  have HU := hid hU
  clear hU
  by_cases h1 : k = 1
  · subst h1
    rw [if_pos rfl]
    go_enter Tryz.func70, Tryz.ntmps70
    go_wp2_with fail
    rw [HU.out]
    have c0 := K0.out.cell (j := 0) rfl
    have c1 := K0.out.cell (j := 1) rfl
    go_wp2_with fail
    refine (CQ.out ky _ HS.out.1 G0.out).mono ?_
    rintro r v1 ⟨rfl, hb⟩
    have B1 := hid (B0.out.trans (hb.mono B0.out.size))
    have O2 := hid (bk_own (n := 2) (size := 1) (B := w.heap.size) (Bk.new v1 9 [.string wGet, .string (qt ky)]) rfl (by decide) B1.out.size)
    have B2 := hid (B1.out.alloc B1.out.size (.cells #[.string wGet, .string (qt ky)] 9))
    clear hb c0 c1 B0 K0 G0 B1
    go_wp2
    go_ret
    exact ⟨_, _, _, rfl, O2.out, B2.out⟩
  rw [if_neg h1]
  by_cases h2 : k = 2
  · subst h2
    rw [if_pos rfl]
    go_enter Tryz.func70, Tryz.ntmps70
    go_wp2_with fail
    rw [HU.out]
    have c0 := K0.out.cell (j := 0) rfl
    go_wp2_with fail
    clear c0
    refine wp_region_noPanic ?_
    refine wp_region_held_drew (S := fun v => v.cell? ⟨w.heap.size, 1, none⟩ = some (.string ky) ∧ v.cell? ⟨w.heap.size, 2, none⟩ = some (.string vl) ∧ v.cell? ⟨w.heap.size, 3, none⟩ = some (.string lo) ∧ v.cell? ⟨w.heap.size, 4, none⟩ = some (.string hi) ∧ v.cell? ⟨w.heap.size, 5, none⟩ = some (.int .i64 mo)) (by kernel_rfl) (⟨(K0.out.below (below_drew _)).cell (j := 1) rfl, (K0.out.below (below_drew _)).cell (j := 2) rfl, (K0.out.below (below_drew _)).cell (j := 3) rfl, (K0.out.below (below_drew _)).cell (j := 4) rfl, (K0.out.below (below_drew _)).cell (j := 5) rfl⟩) (fun hHeld => ?_)
    simp only [List.size_toArray, List.length_cons, List.length_nil, Array.replicate_succ, Array.replicate_zero, Nat.reduceAdd, List.push_toArray, List.nil_append, List.cons_append]
    refine wpAnyH_take (i := 0) (v := (.pointer (some ⟨w.heap.size, 1, none⟩))) rfl (by kernel_rfl) (by kernel_rfl) (by kernel_rfl) (fun _ _ _ h => h) (Or.inl ⟨by rfl, ?_⟩) (by assumption) ?_
    · intro w hSw
      (try dsimp only at hSw)
      go_simp
    try simp only [List.getElem_toArray]
    try simp only [List.getElem_cons_succ]
    try simp only [List.getElem_cons_zero]
    try simp only [Act.put]
    try simp only [List.setIfInBounds_toArray]
    try simp only [List.set_cons_succ]
    try simp only [List.set_cons_zero]
    refine wpAnyH_take (i := 1) (v := (.string ky)) rfl (by kernel_rfl) (by kernel_rfl) (by kernel_rfl) (fun _ _ _ h => h) (Or.inl ⟨by rfl, ?_⟩) (by assumption) ?_
    · intro w hSw
      (try dsimp only at hSw)
      go_simp
    try simp only [List.getElem_toArray]
    try simp only [List.getElem_cons_succ]
    try simp only [List.getElem_cons_zero]
    try simp only [Act.put]
    try simp only [List.setIfInBounds_toArray]
    try simp only [List.set_cons_succ]
    try simp only [List.set_cons_zero]
    refine wpAnyH_take (i := 3) (v := (.pointer (some ⟨w.heap.size, 2, none⟩))) rfl (by kernel_rfl) (by kernel_rfl) (by kernel_rfl) (fun _ _ _ h => h) (Or.inl ⟨by rfl, ?_⟩) (by assumption) ?_
    · intro w hSw
      (try dsimp only at hSw)
      go_simp
    try simp only [List.getElem_toArray]
    try simp only [List.getElem_cons_succ]
    try simp only [List.getElem_cons_zero]
    try simp only [Act.put]
    try simp only [List.setIfInBounds_toArray]
    try simp only [List.set_cons_succ]
    try simp only [List.set_cons_zero]
    refine wpAnyH_take (i := 4) (v := (.string vl)) rfl (by kernel_rfl) (by kernel_rfl) (by kernel_rfl) (fun _ _ _ h => h) (Or.inl ⟨by rfl, ?_⟩) (by assumption) ?_
    · intro w hSw
      (try dsimp only at hSw)
      go_simp
    try simp only [List.getElem_toArray]
    try simp only [List.getElem_cons_succ]
    try simp only [List.getElem_cons_zero]
    try simp only [Act.put]
    try simp only [List.setIfInBounds_toArray]
    try simp only [List.set_cons_succ]
    try simp only [List.set_cons_zero]
    have BD := hid (B0.out.trans ((below_drew U).mono B0.out.size))
    have KD := hid (K0.out.below (below_drew _))
    have GD0 := hid (G0.out.to (below_drew _))
    clear B0 K0 G0
    generalize U.drew = v0 at *
    have B0 := BD
    have Kq0 := KD
    have G0 := GD0
    clear BD KD GD0
    refine wpAnyH_ready (rs := [2]) (by kernel_rfl) (by simp) ?_
    refine AllReadyH.cons rfl (fun K1 hK => ?_) (AllReadyH.nil)
    go_simp
    refine (CQ.out ky v0 HS.out.1 G0.out).mono ?_
    rintro r v1 ⟨rfl, hb⟩
    go_wp2_with fail
    have Kq1 := hid (Kq0.out.below hb)
    have B1 := hid (B0.out.trans (hb.mono B0.out.size))
    have G1 := hid (G0.out.to hb)
    clear hb Kq0 B0 G0
    refine hK.out _ _ ?_ (fun hHeld => ?_)
    · exact ⟨Kq1.out.cell (j := 1) rfl, Kq1.out.cell (j := 2) rfl, Kq1.out.cell (j := 3) rfl, Kq1.out.cell (j := 4) rfl, Kq1.out.cell (j := 5) rfl⟩
    clear hK K1
    try simp only [List.getElem_toArray]
    try simp only [List.getElem_cons_succ]
    try simp only [List.getElem_cons_zero]
    try simp only [Act.put]
    try simp only [List.setIfInBounds_toArray]
    try simp only [List.set_cons_succ]
    try simp only [List.set_cons_zero]
    refine wpAnyH_ready (rs := [5]) (by kernel_rfl) (by simp) ?_
    refine AllReadyH.cons rfl (fun K1 hK => ?_) (AllReadyH.nil)
    go_simp
    refine (CQ.out vl v1 HS.out.2.1 G1.out).mono ?_
    rintro r v2 ⟨rfl, hb⟩
    go_wp2_with fail
    have Kq2 := hid (Kq1.out.below hb)
    have B2 := hid (B1.out.trans (hb.mono B1.out.size))
    have G2 := hid (G1.out.to hb)
    clear hb Kq1 B1 G1
    refine hK.out _ _ ?_ (fun hHeld => ?_)
    · exact ⟨Kq2.out.cell (j := 1) rfl, Kq2.out.cell (j := 2) rfl, Kq2.out.cell (j := 3) rfl, Kq2.out.cell (j := 4) rfl, Kq2.out.cell (j := 5) rfl⟩
    clear hK K1
    try simp only [List.getElem_toArray]
    try simp only [List.getElem_cons_succ]
    try simp only [List.getElem_cons_zero]
    try simp only [Act.put]
    try simp only [List.setIfInBounds_toArray]
    try simp only [List.set_cons_succ]
    try simp only [List.set_cons_zero]
    refine wpAnyH_ready (rs := [6]) (by kernel_rfl) (by simp) ?_
    refine AllReadyH.cons rfl (fun K1 hK => ?_) AllReadyH.nil
    go_simp
    try go_wp2_with fail
    have hb := below_new (o := .cells #[.string ⟨#[112, 117, 116]⟩, .string (qt ky), .string (qt vl)] 9) (w := v2) (Below.refl _ _)
    have Kq3 := hid (Kq2.out.below hb)
    have B3 := hid (B2.out.trans (hb.mono B2.out.size))
    have O3 := hid (bk_own (n := 3) (size := 1) (Bk.new v2 9 [.string ⟨#[112, 117, 116]⟩, .string (qt ky), .string (qt vl)]) rfl (by decide) B2.out.size)
    clear hb Kq2 B2 G2
    refine hK.out _ _ ?_ (fun hHeld => ?_)
    · exact ⟨Kq3.out.cell (j := 1) rfl, Kq3.out.cell (j := 2) rfl, Kq3.out.cell (j := 3) rfl, Kq3.out.cell (j := 4) rfl, Kq3.out.cell (j := 5) rfl⟩
    clear hK K1
    try simp only [List.getElem_toArray]
    try simp only [List.getElem_cons_succ]
    try simp only [List.getElem_cons_zero]
    try simp only [Act.put]
    try simp only [List.setIfInBounds_toArray]
    try simp only [List.set_cons_succ]
    try simp only [List.set_cons_zero]
    refine wpAnyH_take (i := 7) (v := (.slice (some ⟨v2.heap.size, 0, none⟩) 3 3)) rfl (by kernel_rfl) (by kernel_rfl) (by kernel_rfl) (fun _ _ _ h => h) (Or.inl ⟨by rfl, ?_⟩) (by assumption) ?_
    · intro w hSw
      (try dsimp only at hSw)
      go_simp
    try simp only [List.getElem_toArray]
    try simp only [List.getElem_cons_succ]
    try simp only [List.getElem_cons_zero]
    try simp only [Act.put]
    try simp only [List.setIfInBounds_toArray]
    try simp only [List.set_cons_succ]
    try simp only [List.set_cons_zero]
    refine wpAnyH_done (by kernel_rfl) ?_ _
    refine NoPanic.normal ?_
    go_wp2
    go_ret
    exact ⟨_, _, _, rfl, O3.out, B3.out⟩
  rw [if_neg h2]
  by_cases h3 : k = 3
  · subst h3
    rw [if_pos rfl]
    go_enter Tryz.func70, Tryz.ntmps70
    go_wp2_with fail
    rw [HU.out]
    have c0 := K0.out.cell (j := 0) rfl
    have c1 := K0.out.cell (j := 1) rfl
    go_wp2_with fail
    refine (CQ.out ky _ HS.out.1 G0.out).mono ?_
    rintro r v1 ⟨rfl, hb⟩
    have B1 := hid (B0.out.trans (hb.mono B0.out.size))
    have O2 := hid (bk_own (n := 2) (size := 1) (B := w.heap.size) (Bk.new v1 9 [.string wDel, .string (qt ky)]) rfl (by decide) B1.out.size)
    have B2 := hid (B1.out.alloc B1.out.size (.cells #[.string wDel, .string (qt ky)] 9))
    clear hb c0 c1 B0 K0 G0 B1
    go_wp2
    go_ret
    exact ⟨_, _, _, rfl, O2.out, B2.out⟩
  rw [if_neg h3]
  cases bk with
  | false =>
    · go_enter Tryz.func70, Tryz.ntmps70
      · go_wp2_with fail
        rw [HU.out]
        have c0 := K0.out.cell (j := 0) rfl
        have c6 := K0.out.cell (j := 6) rfl
        go_wp2_with fail
        clear c0 c6
        refine wp_region_noPanic ?_
        refine wp_region_held_drew (S := fun v => v.cell? ⟨w.heap.size, 1, none⟩ = some (.string ky) ∧ v.cell? ⟨w.heap.size, 2, none⟩ = some (.string vl) ∧ v.cell? ⟨w.heap.size, 3, none⟩ = some (.string lo) ∧ v.cell? ⟨w.heap.size, 4, none⟩ = some (.string hi) ∧ v.cell? ⟨w.heap.size, 5, none⟩ = some (.int .i64 mo)) (by kernel_rfl) (⟨(K0.out.below (below_drew _)).cell (j := 1) rfl, (K0.out.below (below_drew _)).cell (j := 2) rfl, (K0.out.below (below_drew _)).cell (j := 3) rfl, (K0.out.below (below_drew _)).cell (j := 4) rfl, (K0.out.below (below_drew _)).cell (j := 5) rfl⟩) (fun hHeld => ?_)
        simp only [List.size_toArray, List.length_cons, List.length_nil, Array.replicate_succ, Array.replicate_zero, Nat.reduceAdd, List.push_toArray, List.nil_append, List.cons_append]
        refine wpAnyH_take (i := 0) (v := (.string ⟨#[115, 99, 97, 110]⟩)) rfl (by kernel_rfl) (by kernel_rfl) (by kernel_rfl) (fun _ _ _ h => h) (Or.inl ⟨by rfl, ?_⟩) (by assumption) ?_
        · intro w hSw
          (try dsimp only at hSw)
          go_simp
        try simp only [List.getElem_toArray]
        try simp only [List.getElem_cons_succ]
        try simp only [List.getElem_cons_zero]
        try simp only [Act.put]
        try simp only [List.setIfInBounds_toArray]
        try simp only [List.set_cons_succ]
        try simp only [List.set_cons_zero]
        refine wpAnyH_take (i := 1) (v := (.pointer (some ⟨w.heap.size, 3, none⟩))) rfl (by kernel_rfl) (by kernel_rfl) (by kernel_rfl) (fun _ _ _ h => h) (Or.inl ⟨by rfl, ?_⟩) (by assumption) ?_
        · intro w hSw
          (try dsimp only at hSw)
          go_simp
        try simp only [List.getElem_toArray]
        try simp only [List.getElem_cons_succ]
        try simp only [List.getElem_cons_zero]
        try simp only [Act.put]
        try simp only [List.setIfInBounds_toArray]
        try simp only [List.set_cons_succ]
        try simp only [List.set_cons_zero]
        refine wpAnyH_take (i := 2) (v := (.pointer (some ⟨w.heap.size, 3, none⟩))) rfl (by kernel_rfl) (by kernel_rfl) (by kernel_rfl) (fun _ _ _ h => h) (Or.inl ⟨by rfl, ?_⟩) (by assumption) ?_
        · intro w hSw
          (try dsimp only at hSw)
          go_simp
        try simp only [List.getElem_toArray]
        try simp only [List.getElem_cons_succ]
        try simp only [List.getElem_cons_zero]
        try simp only [Act.put]
        try simp only [List.setIfInBounds_toArray]
        try simp only [List.set_cons_succ]
        try simp only [List.set_cons_zero]
        refine wpAnyH_take (i := 3) (v := (.string lo)) rfl (by kernel_rfl) (by kernel_rfl) (by kernel_rfl) (fun _ _ _ h => h) (Or.inl ⟨by rfl, ?_⟩) (by assumption) ?_
        · intro w hSw
          (try dsimp only at hSw)
          go_simp
        try simp only [List.getElem_toArray]
        try simp only [List.getElem_cons_succ]
        try simp only [List.getElem_cons_zero]
        try simp only [Act.put]
        try simp only [List.setIfInBounds_toArray]
        try simp only [List.set_cons_succ]
        try simp only [List.set_cons_zero]
        refine wpAnyH_take (i := 5) (v := (.pointer (some ⟨w.heap.size, 3, none⟩))) rfl (by kernel_rfl) (by kernel_rfl) (by kernel_rfl) (fun _ _ _ h => h) (Or.inl ⟨by rfl, ?_⟩) (by assumption) ?_
        · intro w hSw
          (try dsimp only at hSw)
          go_simp
        try simp only [List.getElem_toArray]
        try simp only [List.getElem_cons_succ]
        try simp only [List.getElem_cons_zero]
        try simp only [Act.put]
        try simp only [List.setIfInBounds_toArray]
        try simp only [List.set_cons_succ]
        try simp only [List.set_cons_zero]
        refine wpAnyH_take (i := 6) (v := (.pointer (some ⟨w.heap.size, 4, none⟩))) rfl (by kernel_rfl) (by kernel_rfl) (by kernel_rfl) (fun _ _ _ h => h) (Or.inl ⟨by rfl, ?_⟩) (by assumption) ?_
        · intro w hSw
          (try dsimp only at hSw)
          go_simp
        try simp only [List.getElem_toArray]
        try simp only [List.getElem_cons_succ]
        try simp only [List.getElem_cons_zero]
        try simp only [Act.put]
        try simp only [List.setIfInBounds_toArray]
        try simp only [List.set_cons_succ]
        try simp only [List.set_cons_zero]
        refine wpAnyH_take (i := 7) (v := (.string hi)) rfl (by kernel_rfl) (by kernel_rfl) (by kernel_rfl) (fun _ _ _ h => h) (Or.inl ⟨by rfl, ?_⟩) (by assumption) ?_
        · intro w hSw
          (try dsimp only at hSw)
          go_simp
        try simp only [List.getElem_toArray]
        try simp only [List.getElem_cons_succ]
        try simp only [List.getElem_cons_zero]
        try simp only [Act.put]
        try simp only [List.setIfInBounds_toArray]
        try simp only [List.set_cons_succ]
        try simp only [List.set_cons_zero]
        refine wpAnyH_take (i := 9) (v := (.pointer (some ⟨w.heap.size, 5, none⟩))) rfl (by kernel_rfl) (by kernel_rfl) (by kernel_rfl) (fun _ _ _ h => h) (Or.inl ⟨by rfl, ?_⟩) (by assumption) ?_
        · intro w hSw
          (try dsimp only at hSw)
          go_simp
        try simp only [List.getElem_toArray]
        try simp only [List.getElem_cons_succ]
        try simp only [List.getElem_cons_zero]
        try simp only [Act.put]
        try simp only [List.setIfInBounds_toArray]
        try simp only [List.set_cons_succ]
        try simp only [List.set_cons_zero]
        refine wpAnyH_take (i := 10) (v := (.int .i64 mo)) rfl (by kernel_rfl) (by kernel_rfl) (by kernel_rfl) (fun _ _ _ h => h) (Or.inl ⟨by rfl, ?_⟩) (by assumption) ?_
        · intro w hSw
          (try dsimp only at hSw)
          go_simp
        try simp only [List.getElem_toArray]
        try simp only [List.getElem_cons_succ]
        try simp only [List.getElem_cons_zero]
        try simp only [Act.put]
        try simp only [List.setIfInBounds_toArray]
        try simp only [List.set_cons_succ]
        try simp only [List.set_cons_zero]
        have BD := hid (B0.out.trans ((below_drew U).mono B0.out.size))
        have KD := hid (K0.out.below (below_drew _))
        have GD0 := hid (G0.out.to (below_drew _))
        clear B0 K0 G0
        generalize U.drew = v0 at *
        have B0 := BD
        have Kq0 := KD
        have G0 := GD0
        clear BD KD GD0
        refine wpAnyH_ready (rs := [4]) (by kernel_rfl) (by simp) ?_
        refine AllReadyH.cons rfl (fun K1 hK => ?_) (AllReadyH.nil)
        go_simp
        refine (CQ.out lo v0 HS.out.2.2.1 G0.out).mono ?_
        rintro r v1 ⟨rfl, hb⟩
        go_wp2_with fail
        have Kq1 := hid (Kq0.out.below hb)
        have B1 := hid (B0.out.trans (hb.mono B0.out.size))
        have G1 := hid (G0.out.to hb)
        clear hb Kq0 B0 G0
        refine hK.out _ _ ?_ (fun hHeld => ?_)
        · exact ⟨Kq1.out.cell (j := 1) rfl, Kq1.out.cell (j := 2) rfl, Kq1.out.cell (j := 3) rfl, Kq1.out.cell (j := 4) rfl, Kq1.out.cell (j := 5) rfl⟩
        clear hK K1
        try simp only [List.getElem_toArray]
        try simp only [List.getElem_cons_succ]
        try simp only [List.getElem_cons_zero]
        try simp only [Act.put]
        try simp only [List.setIfInBounds_toArray]
        try simp only [List.set_cons_succ]
        try simp only [List.set_cons_zero]
        refine wpAnyH_ready (rs := [8]) (by kernel_rfl) (by simp) ?_
        refine AllReadyH.cons rfl (fun K1 hK => ?_) (AllReadyH.nil)
        go_simp
        refine (CQ.out hi v1 HS.out.2.2.2 G1.out).mono ?_
        rintro r v2 ⟨rfl, hb⟩
        go_wp2_with fail
        have Kq2 := hid (Kq1.out.below hb)
        have B2 := hid (B1.out.trans (hb.mono B1.out.size))
        have G2 := hid (G1.out.to hb)
        clear hb Kq1 B1 G1
        refine hK.out _ _ ?_ (fun hHeld => ?_)
        · exact ⟨Kq2.out.cell (j := 1) rfl, Kq2.out.cell (j := 2) rfl, Kq2.out.cell (j := 3) rfl, Kq2.out.cell (j := 4) rfl, Kq2.out.cell (j := 5) rfl⟩
        clear hK K1
        try simp only [List.getElem_toArray]
        try simp only [List.getElem_cons_succ]
        try simp only [List.getElem_cons_zero]
        try simp only [Act.put]
        try simp only [List.setIfInBounds_toArray]
        try simp only [List.set_cons_succ]
        try simp only [List.set_cons_zero]
        refine wpAnyH_ready (rs := [11]) (by kernel_rfl) (by simp) ?_
        refine AllReadyH.cons rfl (fun K1 hK => ?_) (AllReadyH.nil)
        go_simp
        refine (CN.out mo v2 G2.out).mono ?_
        rintro r v3 ⟨rfl, hb⟩
        go_wp2_with fail
        have Kq3 := hid (Kq2.out.below hb)
        have B3 := hid (B2.out.trans (hb.mono B2.out.size))
        have G3 := hid (G2.out.to hb)
        clear hb Kq2 B2 G2
        refine hK.out _ _ ?_ (fun hHeld => ?_)
        · exact ⟨Kq3.out.cell (j := 1) rfl, Kq3.out.cell (j := 2) rfl, Kq3.out.cell (j := 3) rfl, Kq3.out.cell (j := 4) rfl, Kq3.out.cell (j := 5) rfl⟩
        clear hK K1
        try simp only [List.getElem_toArray]
        try simp only [List.getElem_cons_succ]
        try simp only [List.getElem_cons_zero]
        try simp only [Act.put]
        try simp only [List.setIfInBounds_toArray]
        try simp only [List.set_cons_succ]
        try simp only [List.set_cons_zero]
        refine wpAnyH_ready (rs := [12]) (by kernel_rfl) (by simp) ?_
        refine AllReadyH.cons rfl (fun K1 hK => ?_) AllReadyH.nil
        go_simp
        try go_wp2_with fail
        have hb := below_new (o := .cells #[.string ⟨#[115, 99, 97, 110]⟩, .string (qt lo), .string (qt hi), .string (numS mo)] 9) (w := v3) (Below.refl _ _)
        have Kq4 := hid (Kq3.out.below hb)
        have B4 := hid (B3.out.trans (hb.mono B3.out.size))
        have O4 := hid (bk_own (n := 4) (size := 1) (Bk.new v3 9 [.string ⟨#[115, 99, 97, 110]⟩, .string (qt lo), .string (qt hi), .string (numS mo)]) rfl (by decide) B3.out.size)
        clear hb Kq3 B3 G3
        refine hK.out _ _ ?_ (fun hHeld => ?_)
        · exact ⟨Kq4.out.cell (j := 1) rfl, Kq4.out.cell (j := 2) rfl, Kq4.out.cell (j := 3) rfl, Kq4.out.cell (j := 4) rfl, Kq4.out.cell (j := 5) rfl⟩
        clear hK K1
        try simp only [List.getElem_toArray]
        try simp only [List.getElem_cons_succ]
        try simp only [List.getElem_cons_zero]
        try simp only [Act.put]
        try simp only [List.setIfInBounds_toArray]
        try simp only [List.set_cons_succ]
        try simp only [List.set_cons_zero]
        refine wpAnyH_take (i := 13) (v := (.slice (some ⟨v3.heap.size, 0, none⟩) 4 4)) rfl (by kernel_rfl) (by kernel_rfl) (by kernel_rfl) (fun _ _ _ h => h) (Or.inl ⟨by rfl, ?_⟩) (by assumption) ?_
        · intro w hSw
          (try dsimp only at hSw)
          go_simp
        try simp only [List.getElem_toArray]
        try simp only [List.getElem_cons_succ]
        try simp only [List.getElem_cons_zero]
        try simp only [Act.put]
        try simp only [List.setIfInBounds_toArray]
        try simp only [List.set_cons_succ]
        try simp only [List.set_cons_zero]
        refine wpAnyH_done (by kernel_rfl) ?_ _
        refine NoPanic.normal ?_
        go_wp2
        go_ret
        exact ⟨_, _, _, rfl, O4.out, B4.out⟩
  | true =>
    · go_enter Tryz.func70, Tryz.ntmps70
      · go_wp2_with fail
        rw [HU.out]
        have c0 := K0.out.cell (j := 0) rfl
        have c6 := K0.out.cell (j := 6) rfl
        go_wp2_with fail
        clear c0 c6
        refine wp_region_noPanic ?_
        refine wp_region_held_drew (S := fun v => v.cell? ⟨w.heap.size, 1, none⟩ = some (.string ky) ∧ v.cell? ⟨w.heap.size, 2, none⟩ = some (.string vl) ∧ v.cell? ⟨w.heap.size, 3, none⟩ = some (.string lo) ∧ v.cell? ⟨w.heap.size, 4, none⟩ = some (.string hi) ∧ v.cell? ⟨w.heap.size, 5, none⟩ = some (.int .i64 mo)) (by kernel_rfl) (⟨(K0.out.below (below_drew _)).cell (j := 1) rfl, (K0.out.below (below_drew _)).cell (j := 2) rfl, (K0.out.below (below_drew _)).cell (j := 3) rfl, (K0.out.below (below_drew _)).cell (j := 4) rfl, (K0.out.below (below_drew _)).cell (j := 5) rfl⟩) (fun hHeld => ?_)
        simp only [List.size_toArray, List.length_cons, List.length_nil, Array.replicate_succ, Array.replicate_zero, Nat.reduceAdd, List.push_toArray, List.nil_append, List.cons_append]
        refine wpAnyH_take (i := 0) (v := (.string ⟨#[98, 97, 99, 107]⟩)) rfl (by kernel_rfl) (by kernel_rfl) (by kernel_rfl) (fun _ _ _ h => h) (Or.inl ⟨by rfl, ?_⟩) (by assumption) ?_
        · intro w hSw
          (try dsimp only at hSw)
          go_simp
        try simp only [List.getElem_toArray]
        try simp only [List.getElem_cons_succ]
        try simp only [List.getElem_cons_zero]
        try simp only [Act.put]
        try simp only [List.setIfInBounds_toArray]
        try simp only [List.set_cons_succ]
        try simp only [List.set_cons_zero]
        refine wpAnyH_take (i := 1) (v := (.pointer (some ⟨w.heap.size, 3, none⟩))) rfl (by kernel_rfl) (by kernel_rfl) (by kernel_rfl) (fun _ _ _ h => h) (Or.inl ⟨by rfl, ?_⟩) (by assumption) ?_
        · intro w hSw
          (try dsimp only at hSw)
          go_simp
        try simp only [List.getElem_toArray]
        try simp only [List.getElem_cons_succ]
        try simp only [List.getElem_cons_zero]
        try simp only [Act.put]
        try simp only [List.setIfInBounds_toArray]
        try simp only [List.set_cons_succ]
        try simp only [List.set_cons_zero]
        refine wpAnyH_take (i := 2) (v := (.pointer (some ⟨w.heap.size, 3, none⟩))) rfl (by kernel_rfl) (by kernel_rfl) (by kernel_rfl) (fun _ _ _ h => h) (Or.inl ⟨by rfl, ?_⟩) (by assumption) ?_
        · intro w hSw
          (try dsimp only at hSw)
          go_simp
        try simp only [List.getElem_toArray]
        try simp only [List.getElem_cons_succ]
        try simp only [List.getElem_cons_zero]
        try simp only [Act.put]
        try simp only [List.setIfInBounds_toArray]
        try simp only [List.set_cons_succ]
        try simp only [List.set_cons_zero]
        refine wpAnyH_take (i := 3) (v := (.string lo)) rfl (by kernel_rfl) (by kernel_rfl) (by kernel_rfl) (fun _ _ _ h => h) (Or.inl ⟨by rfl, ?_⟩) (by assumption) ?_
        · intro w hSw
          (try dsimp only at hSw)
          go_simp
        try simp only [List.getElem_toArray]
        try simp only [List.getElem_cons_succ]
        try simp only [List.getElem_cons_zero]
        try simp only [Act.put]
        try simp only [List.setIfInBounds_toArray]
        try simp only [List.set_cons_succ]
        try simp only [List.set_cons_zero]
        refine wpAnyH_take (i := 5) (v := (.pointer (some ⟨w.heap.size, 3, none⟩))) rfl (by kernel_rfl) (by kernel_rfl) (by kernel_rfl) (fun _ _ _ h => h) (Or.inl ⟨by rfl, ?_⟩) (by assumption) ?_
        · intro w hSw
          (try dsimp only at hSw)
          go_simp
        try simp only [List.getElem_toArray]
        try simp only [List.getElem_cons_succ]
        try simp only [List.getElem_cons_zero]
        try simp only [Act.put]
        try simp only [List.setIfInBounds_toArray]
        try simp only [List.set_cons_succ]
        try simp only [List.set_cons_zero]
        refine wpAnyH_take (i := 6) (v := (.pointer (some ⟨w.heap.size, 4, none⟩))) rfl (by kernel_rfl) (by kernel_rfl) (by kernel_rfl) (fun _ _ _ h => h) (Or.inl ⟨by rfl, ?_⟩) (by assumption) ?_
        · intro w hSw
          (try dsimp only at hSw)
          go_simp
        try simp only [List.getElem_toArray]
        try simp only [List.getElem_cons_succ]
        try simp only [List.getElem_cons_zero]
        try simp only [Act.put]
        try simp only [List.setIfInBounds_toArray]
        try simp only [List.set_cons_succ]
        try simp only [List.set_cons_zero]
        refine wpAnyH_take (i := 7) (v := (.string hi)) rfl (by kernel_rfl) (by kernel_rfl) (by kernel_rfl) (fun _ _ _ h => h) (Or.inl ⟨by rfl, ?_⟩) (by assumption) ?_
        · intro w hSw
          (try dsimp only at hSw)
          go_simp
        try simp only [List.getElem_toArray]
        try simp only [List.getElem_cons_succ]
        try simp only [List.getElem_cons_zero]
        try simp only [Act.put]
        try simp only [List.setIfInBounds_toArray]
        try simp only [List.set_cons_succ]
        try simp only [List.set_cons_zero]
        refine wpAnyH_take (i := 9) (v := (.pointer (some ⟨w.heap.size, 5, none⟩))) rfl (by kernel_rfl) (by kernel_rfl) (by kernel_rfl) (fun _ _ _ h => h) (Or.inl ⟨by rfl, ?_⟩) (by assumption) ?_
        · intro w hSw
          (try dsimp only at hSw)
          go_simp
        try simp only [List.getElem_toArray]
        try simp only [List.getElem_cons_succ]
        try simp only [List.getElem_cons_zero]
        try simp only [Act.put]
        try simp only [List.setIfInBounds_toArray]
        try simp only [List.set_cons_succ]
        try simp only [List.set_cons_zero]
        refine wpAnyH_take (i := 10) (v := (.int .i64 mo)) rfl (by kernel_rfl) (by kernel_rfl) (by kernel_rfl) (fun _ _ _ h => h) (Or.inl ⟨by rfl, ?_⟩) (by assumption) ?_
        · intro w hSw
          (try dsimp only at hSw)
          go_simp
        try simp only [List.getElem_toArray]
        try simp only [List.getElem_cons_succ]
        try simp only [List.getElem_cons_zero]
        try simp only [Act.put]
        try simp only [List.setIfInBounds_toArray]
        try simp only [List.set_cons_succ]
        try simp only [List.set_cons_zero]
        have BD := hid (B0.out.trans ((below_drew U).mono B0.out.size))
        have KD := hid (K0.out.below (below_drew _))
        have GD0 := hid (G0.out.to (below_drew _))
        clear B0 K0 G0
        generalize U.drew = v0 at *
        have B0 := BD
        have Kq0 := KD
        have G0 := GD0
        clear BD KD GD0
        refine wpAnyH_ready (rs := [4]) (by kernel_rfl) (by simp) ?_
        refine AllReadyH.cons rfl (fun K1 hK => ?_) (AllReadyH.nil)
        go_simp
        refine (CQ.out lo v0 HS.out.2.2.1 G0.out).mono ?_
        rintro r v1 ⟨rfl, hb⟩
        go_wp2_with fail
        have Kq1 := hid (Kq0.out.below hb)
        have B1 := hid (B0.out.trans (hb.mono B0.out.size))
        have G1 := hid (G0.out.to hb)
        clear hb Kq0 B0 G0
        refine hK.out _ _ ?_ (fun hHeld => ?_)
        · exact ⟨Kq1.out.cell (j := 1) rfl, Kq1.out.cell (j := 2) rfl, Kq1.out.cell (j := 3) rfl, Kq1.out.cell (j := 4) rfl, Kq1.out.cell (j := 5) rfl⟩
        clear hK K1
        try simp only [List.getElem_toArray]
        try simp only [List.getElem_cons_succ]
        try simp only [List.getElem_cons_zero]
        try simp only [Act.put]
        try simp only [List.setIfInBounds_toArray]
        try simp only [List.set_cons_succ]
        try simp only [List.set_cons_zero]
        refine wpAnyH_ready (rs := [8]) (by kernel_rfl) (by simp) ?_
        refine AllReadyH.cons rfl (fun K1 hK => ?_) (AllReadyH.nil)
        go_simp
        refine (CQ.out hi v1 HS.out.2.2.2 G1.out).mono ?_
        rintro r v2 ⟨rfl, hb⟩
        go_wp2_with fail
        have Kq2 := hid (Kq1.out.below hb)
        have B2 := hid (B1.out.trans (hb.mono B1.out.size))
        have G2 := hid (G1.out.to hb)
        clear hb Kq1 B1 G1
        refine hK.out _ _ ?_ (fun hHeld => ?_)
        · exact ⟨Kq2.out.cell (j := 1) rfl, Kq2.out.cell (j := 2) rfl, Kq2.out.cell (j := 3) rfl, Kq2.out.cell (j := 4) rfl, Kq2.out.cell (j := 5) rfl⟩
        clear hK K1
        try simp only [List.getElem_toArray]
        try simp only [List.getElem_cons_succ]
        try simp only [List.getElem_cons_zero]
        try simp only [Act.put]
        try simp only [List.setIfInBounds_toArray]
        try simp only [List.set_cons_succ]
        try simp only [List.set_cons_zero]
        refine wpAnyH_ready (rs := [11]) (by kernel_rfl) (by simp) ?_
        refine AllReadyH.cons rfl (fun K1 hK => ?_) (AllReadyH.nil)
        go_simp
        refine (CN.out mo v2 G2.out).mono ?_
        rintro r v3 ⟨rfl, hb⟩
        go_wp2_with fail
        have Kq3 := hid (Kq2.out.below hb)
        have B3 := hid (B2.out.trans (hb.mono B2.out.size))
        have G3 := hid (G2.out.to hb)
        clear hb Kq2 B2 G2
        refine hK.out _ _ ?_ (fun hHeld => ?_)
        · exact ⟨Kq3.out.cell (j := 1) rfl, Kq3.out.cell (j := 2) rfl, Kq3.out.cell (j := 3) rfl, Kq3.out.cell (j := 4) rfl, Kq3.out.cell (j := 5) rfl⟩
        clear hK K1
        try simp only [List.getElem_toArray]
        try simp only [List.getElem_cons_succ]
        try simp only [List.getElem_cons_zero]
        try simp only [Act.put]
        try simp only [List.setIfInBounds_toArray]
        try simp only [List.set_cons_succ]
        try simp only [List.set_cons_zero]
        refine wpAnyH_ready (rs := [12]) (by kernel_rfl) (by simp) ?_
        refine AllReadyH.cons rfl (fun K1 hK => ?_) AllReadyH.nil
        go_simp
        try go_wp2_with fail
        have hb := below_new (o := .cells #[.string ⟨#[98, 97, 99, 107]⟩, .string (qt lo), .string (qt hi), .string (numS mo)] 9) (w := v3) (Below.refl _ _)
        have Kq4 := hid (Kq3.out.below hb)
        have B4 := hid (B3.out.trans (hb.mono B3.out.size))
        have O4 := hid (bk_own (n := 4) (size := 1) (Bk.new v3 9 [.string ⟨#[98, 97, 99, 107]⟩, .string (qt lo), .string (qt hi), .string (numS mo)]) rfl (by decide) B3.out.size)
        clear hb Kq3 B3 G3
        refine hK.out _ _ ?_ (fun hHeld => ?_)
        · exact ⟨Kq4.out.cell (j := 1) rfl, Kq4.out.cell (j := 2) rfl, Kq4.out.cell (j := 3) rfl, Kq4.out.cell (j := 4) rfl, Kq4.out.cell (j := 5) rfl⟩
        clear hK K1
        try simp only [List.getElem_toArray]
        try simp only [List.getElem_cons_succ]
        try simp only [List.getElem_cons_zero]
        try simp only [Act.put]
        try simp only [List.setIfInBounds_toArray]
        try simp only [List.set_cons_succ]
        try simp only [List.set_cons_zero]
        refine wpAnyH_take (i := 13) (v := (.slice (some ⟨v3.heap.size, 0, none⟩) 4 4)) rfl (by kernel_rfl) (by kernel_rfl) (by kernel_rfl) (fun _ _ _ h => h) (Or.inl ⟨by rfl, ?_⟩) (by assumption) ?_
        · intro w hSw
          (try dsimp only at hSw)
          go_simp
        try simp only [List.getElem_toArray]
        try simp only [List.getElem_cons_succ]
        try simp only [List.getElem_cons_zero]
        try simp only [Act.put]
        try simp only [List.setIfInBounds_toArray]
        try simp only [List.set_cons_succ]
        try simp only [List.set_cons_zero]
        refine wpAnyH_done (by kernel_rfl) ?_ _
        refine NoPanic.normal ?_
        go_wp2
        go_ret
        exact ⟨_, _, _, rfl, O4.out, B4.out⟩
end Go.Proofs.YtjddkofpfmjojaaGreatDoor
/-
  one and rest of the program; what the readers want of the world.
-/
namespace Go.Proofs.YtjddkofpfmjojaaGreatDoor
open Go.RowKit
set_option linter.unusedVariables false
theorem cutE_mem : ∀ (l : List (List UInt8)) (x : List UInt8), x ∈ cutE l → x ∈ l
  | [], x, h => by cases h
  | [y], x, h => by
    unfold cutE at h
    split at h
    · cases h
    · exact h
  | y :: z :: r, x, h => by
    rw [cutE_cons _ (by simp)] at h
    rcases List.mem_cons.1 h with rfl | h
    · exact List.mem_cons_self ..
    · exact List.mem_cons_of_mem _ (cutE_mem (z :: r) x h)
theorem pcK_size (d : UInt8) (s : ByteArray) (k : Nat) : ∀ p ∈ pcK d s k, p.size ≤ s.size := by
  intro p hp
  obtain ⟨l, hl, rfl⟩ := List.mem_map.1 hp
  have h1 := splD_len d _ _ l (cutE_mem _ _ hl)
  have h2 : s.data.toList.length = s.size := Array.length_toList
  rw [List.length_drop, h2] at h1
  show l.toArray.size ≤ _
  simp only [List.length_nil, List.size_toArray] at h1 ⊢
  omega
theorem rdW_mem {L : List ByteArray} {c : Nat} (h : ∀ p ∈ L, p.size ≤ c) (i : Nat) : (rdW L i).size ≤ c := by
  unfold rdW
  cases e : L[i]? with
  | none => exact Nat.zero_le _
  | some x => exact h x (List.mem_of_getElem? e)
theorem rdW_drop (L : List ByteArray) (k i : Nat) : rdW (L.drop k) i = rdW L (k + i) := by
  unfold rdW
  rw [List.getElem?_drop]
theorem PS.sz {w : World} {g : Nat} {s : ByteArray} {d : UInt8} {L : List ByteArray} (h : PS w g s d L) : ∀ p ∈ L, p.size ≤ s.size := by
  obtain ⟨k, a, b, c, e, rfl⟩ := h
  exact pcK_size d s k
/-- What the readers want of the world: the package's variables, all below B. -/
structure GZ (w : World) (B : Nat) : Prop where
  tab : Tab w
  e1 : Err w 0
  e2 : Err w 1
  e3 : Err w 3
  e4 : Err w 2
  g0 : 5 < B
  g1 : 0 < B
  g2 : 1 < B
  g3 : 3 < B
  g4 : 2 < B
theorem GZ.to {w w' : World} {B : Nat} (h : GZ w B) (hb : Below B w w') : GZ w' B := ⟨h.tab.below hb h.g0, h.e1.below hb h.g1, h.e2.below hb h.g2, h.e3.below hb h.g3, h.e4.below hb h.g4, h.g0, h.g1, h.g2, h.g3, h.g4⟩
theorem GZ.only {w w' : World} {B : Nat} {R : Nat → Prop} (h : GZ w B) (ho : Only R w w') (hB : B ≤ w.heap.size) (hR : ∀ b, b < B → ¬ R b) : GZ w' B := h.to (ho.below hB hR)
theorem GZ.gw {w : World} {B : Nat} (h : GZ w B) (hB : B ≤ w.heap.size) : GW w := ⟨h.tab, h.e3, Nat.lt_of_lt_of_le h.g0 hB, Nat.lt_of_lt_of_le h.g3 hB⟩
abbrev At (g : Nat) : Nat → Prop := fun y => y = g + 2
set_option maxHeartbeats 4000000 in
theorem oneInt_any (g : Nat) (s : ByteArray) (d : UInt8) (L : List ByteArray) (w : World) (h : PS w g s d L) (hs : s.size ≤ 1048576) (hG : GZ w g) :
    Calls Tryz.prog 38 #[nextV g, .func (.func 39) #[] #[]] w fun e w' => e = .returned (.int .i64 (tgN (rdW L 0))) ∧ PS w' g s d (L.drop 1) ∧ Only (At g) w w' := by
  have HL := hid h.lt
  have CN := hid (next_any g s d L w h hs)
  have HZ : Hid ((rdW L 0).size ≤ 1048576) := Nat.le_trans (rdW_mem h.sz 0) hs
  have HG := hid hG
  clear h hG
  unfold nextV
  go_enter Tryz.func38, Tryz.ntmps38
  go_wp2_with fail
  refine CN.out.mono ?_
  rintro e w1 ⟨rfl, hP, hO⟩
  have P1 := hid hP
  have O1 := hid hO
  have G1 := hid (HG.out.only hO (by have := HL.out; omega) (fun b hb q => by have q' : b = g + 2 := q; omega))
  clear hP hO HG
  go_wp2_with fail
  refine (implTextNum_any (rdW L 0) w1 HZ.out G1.out.tab G1.out.e1 G1.out.e2 (Nat.lt_of_lt_of_le G1.out.g0 (by have := P1.out.lt; omega))).mono ?_
  rintro e w2 ⟨rfl, hb⟩
  have P2 := hid (P1.out.below hb)
  have O2 := hid (O1.out.trans (only_of_below hb (At g)))
  clear hb P1 O1 G1
  go_wp2
  go_ret
  exact ⟨rfl, P2.out, O2.out⟩
set_option maxHeartbeats 4000000 in
theorem oneStr_any (g : Nat) (s : ByteArray) (d : UInt8) (L : List ByteArray) (w : World) (h : PS w g s d L) (hs : s.size ≤ 1048576) (hG : GZ w g) :
    Calls Tryz.prog 67 #[nextV g, .func (.func 68) #[] #[]] w fun e w' => e = .returned (.string (uqS (rdW L 0))) ∧ PS w' g s d (L.drop 1) ∧ Only (At g) w w' := by
  have HL := hid h.lt
  have CN := hid (next_any g s d L w h hs)
  have HZ : Hid ((rdW L 0).size ≤ 1048576) := Nat.le_trans (rdW_mem h.sz 0) hs
  have HG := hid hG
  clear h hG
  unfold nextV
  go_enter Tryz.func67, Tryz.ntmps67
  go_wp2_with fail
  refine CN.out.mono ?_
  rintro e w1 ⟨rfl, hP, hO⟩
  have P1 := hid hP
  have O1 := hid hO
  have G1 := hid (HG.out.only hO (by have := HL.out; omega) (fun b hb q => by have q' : b = g + 2 := q; omega))
  clear hP hO HG
  go_wp2_with fail
  refine (implUnquote_any (rdW L 0) w1 HZ.out G1.out.e3 G1.out.e4 (Nat.lt_of_lt_of_le G1.out.g3 (by have := P1.out.lt; omega)) (Nat.lt_of_lt_of_le G1.out.g4 (by have := P1.out.lt; omega))).mono ?_
  rintro e w2 ⟨rfl, hb⟩
  have P2 := hid (P1.out.below hb)
  have O2 := hid (O1.out.trans (only_of_below hb (At g)))
  clear hb P1 O1 G1
  go_wp2
  go_ret
  exact ⟨rfl, P2.out, O2.out⟩
/-- An owned row of numbers. -/
def IW (w : World) (B : Nat) (v : Value) (l : List Int) : Prop := w.ownsRow B 3 1 v l.length (l.map (Value.int .i64))
theorem IW.to {w w' : World} {R : Nat → Prop} {B : Nat} {v : Value} {l : List Int} (h : IW w B v l) (ho : Only R w w') (hR : ∀ k, v.ownBlock = some k → ¬ R k) : IW w' B v l := own_kept h ho hR
theorem IW.below {w w' : World} {B : Nat} {v : Value} {l : List Int} (h : IW w B v l) (hb : Below w.heap.size w w') : IW w' B v l := h.to (only_of_below hb (fun _ => False)) (fun _ _ h => h)
theorem IW.lt {w : World} {B : Nat} {v : Value} {l : List Int} (h : IW w B v l) {y : Nat} (e : v.ownBlock = some y) : B ≤ y ∧ y < w.heap.size := World.ownsRow.lt h y e
theorem IW.ir {w : World} {B : Nat} {v : Value} {l : List Int} (h : IW w B v l) : Ir w (fun b => B ≤ b) v l := rw_own h (fun _ _ h _ => h)
theorem wpList_append_iw {w : World} {ops : Array Oper} {rest : List Oper} {o : Oper} {a : Act} {Q : Exit → Act → World → Prop} (hgd : o.guard = none) (s x : Operand)
    (ho : o.op = .call { callee := .builtin .append, args := #[s, x], argTypes := #[22, 22] }) (B : Nat) (v : Value) (l : List Int) (hs : a.eval s = v) (hown : IW w B v l)
    (g : Nat) (z : Int) (hx : a.eval x = .slice (some ⟨g, 0, none⟩) 1 1) (hB : Bk w g 3 [.int .i64 z]) (hb : l.length ≤ 4194304) (hbase : B ≤ w.heap.size)
    (h : ∀ a' n' c' w', IW w' B (.slice a' n' c') (l ++ [z]) → w.grownBy w' v.ownBlock → ((Value.slice a' n' c').ownBlock = v.ownBlock ∨ (Value.slice a' n' c').ownBlock = some w.heap.size) → wpList Tryz.prog ops Q rest (a.put o.dst (.slice a' n' c')) w') : wpList Tryz.prog ops Q (o :: rest) a w := by
  obtain ⟨i, hi, hz, hsz, hby⟩ := info_of infoInt'
  refine wpList_append_row_at hgd s x 22 ho B 3 i _ 1 8 Tryz.underlying22 hi hz hsz hby rfl (by decide) v l.length (l.map (Value.int .i64)) hs hown (fun _ => True) _ 1 [.int .i64 z] hx (hB.rw (Nat.le_refl _) (by omega) (fun h => by omega) _ trivial) rfl
    (by intro u hu; simp at hu; subst hu; rfl) (by unfold maxLen; omega) (by omega) hbase ?_
  intro v' w' k1 k2 k3
  obtain ⟨a', c', rfl⟩ := own_shape k1
  refine h a' _ c' w' ?_ k2 k3
  show World.ownsRow _ _ _ _ _ _ _
  rw [List.length_append, List.map_append]
  exact k1
theorem pcK_len (d : UInt8) (s : ByteArray) : ∀ (f k : Nat), s.size - k ≤ f → (pcK d s k).length ≤ s.size - k := by
  intro f
  induction f with
  | zero => intro k h; rw [pcK_end d s k (by omega)]; exact Nat.zero_le _
  | succ f ih =>
    intro k h
    by_cases hk : k < s.size
    · have hl : s.data.toList.length = s.size := Array.length_toList
      unfold pcK
      rw [List.length_map]
      rcases span_split d (s.data.toList.drop k) with q | ⟨xs, ys, e, q⟩
      · rw [pcD_end d _ q (by intro e; have := congrArg List.length e; simp only [List.length_drop, hl, List.length_nil] at this; omega)]
        simp; omega
      · rw [e, pcD_cut d xs ys q]
        have e2 : ys = s.data.toList.drop (k + xs.length + 1) := by
          have h1 := congrArg (List.drop (xs.length + 1)) e
          rw [List.drop_drop, show k + (xs.length + 1) = k + xs.length + 1 by omega] at h1
          rw [h1]; simp
        have hlen := congrArg List.length e
        simp only [List.length_drop, hl, List.length_append, List.length_cons] at hlen
        have h3 := ih (k + xs.length + 1) (by omega)
        unfold pcK at h3
        rw [List.length_map, ← e2] at h3
        simp only [List.length_cons]
        omega
    · rw [pcK_end d s k (by omega)]; exact Nat.zero_le _
theorem PS.ln {w : World} {g : Nat} {s : ByteArray} {d : UInt8} {L : List ByteArray} (h : PS w g s d L) : L.length ≤ s.size := by
  obtain ⟨k, a, b, c, e, rfl⟩ := h
  have := pcK_len d s _ k (Nat.le_refl _)
  omega
/-- How much is left, by the place that stands. -/
def plN (g : Nat) (s : ByteArray) (d : UInt8) (w : World) : Nat := match w.cell? ⟨g + 2, 0, none⟩ with | some (.int _ z) => (pcK d s z.toNat).length | _ => 0
theorem PS.pl {w : World} {g : Nat} {s : ByteArray} {d : UInt8} {L : List ByteArray} (h : PS w g s d L) : plN g s d w = L.length := by
  obtain ⟨k, a, b, c, e, rfl⟩ := h
  unfold plN
  rw [e.cell (j := 0) rfl]
  rfl
abbrev AtN (g h : Nat) : Nat → Prop := fun y => y = g + 2 ∨ h ≤ y
set_option maxHeartbeats 8000000 in
theorem restInt_any (g : Nat) (s : ByteArray) (d : UInt8) (L : List ByteArray) (w : World) (h : PS w g s d L) (hs : s.size ≤ 1048576) (hG : GZ w g) :
    Calls Tryz.prog 41 #[nextV g, .func (.func 39) #[] #[]] w fun e w' => ∃ a n c, e = .returned (.slice a n c) ∧ IW w' w.heap.size (.slice a n c) (L.map tgN) ∧ Only (AtN g w.heap.size) w w' := by
  have HL := hid h.lt
  have CN := hid (fun L w h => next_any g s d L w h hs)
  have HS := hid hs
  have HLN := hid h.ln
  have P0 := hid h
  have G0 := hid hG
  clear h hG
  unfold nextV
  go_enter Tryz.func41, Tryz.ntmps41
  go_wp2_with fail
  refine (CN.out L w P0.out).mono ?_
  rintro e w1 ⟨rfl, hP, hO⟩
  have P1 := hid hP
  have O1 := hid hO
  have G1 := hid (G0.out.only hO (by have := HL.out; omega) (fun b hb q => by have q' : b = g + 2 := q; omega))
  have SZ := hid P0.out.sz
  clear hP hO P0 G0
  go_wp2_with fail
  go_loopw [5, 6, 7] (fun x y z v => ∃ (M N : List ByteArray) (xa : Option Addr) (xn xc : Nat), x = .slice xa xn xc ∧ y = .string (rdW N 0) ∧ z = .bool (!decide (N = [])) ∧ Hid (L = M ++ N) ∧ Hid (PS v g s d (N.drop 1)) ∧ Hid (GZ v g) ∧ Hid (IW v w.heap.size (.slice xa xn xc) (M.map tgN)) ∧ Hid (Only (AtN g w.heap.size) w v)) (fun _ _ z v => 2 * plN g s d v + (match z with | .bool true => 1 | _ => 0))
  case atStart => exact ⟨[], L, none, 0, 0, rfl, rfl, rfl, rfl, P1.out, G1.out, World.ownsRow_nil _ _ _ _, O1.out.mono (fun b _ h => .inl h)⟩
  case round =>
    clear P1 O1 G1
    obtain ⟨M, N, xa, xn, xc, rfl, rfl, rfl, HMN, HP, HG, HI, HO⟩ := hrel
    cases N with
    | nil =>
      go_wp2
      go_ret
      exact ⟨xa, xn, xc, rfl, by have := HI.out; rw [HMN.out, List.append_nil]; exact this, HO.out⟩
    | cons y N =>
      have HY : Hid ((rdW (y :: N) 0).size ≤ 1048576) := Nat.le_trans (SZ.out _ (by rw [HMN.out]; simp [rdW])) HS.out
      have HML : Hid ((M.map tgN).length ≤ 1048576) := by
        have h1 := HLN.out
        rw [HMN.out] at h1
        have h2 := HS.out
        show _ ≤ _
        simp only [List.length_map, List.length_append, List.length_cons] at h1 ⊢
        omega
      have HPL := hid HP.out.pl
      have HB : Hid (g < wr.heap.size) := by have := HP.out.lt; show _ < _; omega
      have CT := implTextNum_any (rdW (y :: N) 0) wr HY.out HG.out.tab HG.out.e1 HG.out.e2 (Nat.lt_trans HG.out.g0 HB.out)
      obtain ⟨z, hz⟩ : ∃ z, z = (tn (rdW (y :: N) 0)).getD 0 := ⟨_, rfl⟩
      rw [← hz] at CT
      have HZZ : Hid (z = tgN y) := hz
      clear hz
      have CT2 := hid CT
      clear CT
      go_wp2_with fail
      refine CT2.out.mono ?_
      rintro e w2 ⟨rfl, hb⟩
      clear CT2
      have hb2 := hb.alloc hb.size (.cells #[.int .i64 z] 3)
      have HP2 := hid (HP.out.below hb2)
      have HG2 := hid (HG.out.to (hb2.mono (Nat.le_of_lt HB.out)))
      have HI2 := hid (HI.out.below hb2)
      have HO2 := hid (HO.out.trans (only_of_below hb2 (AtN g w.heap.size)))
      have N2 := hid (Bk.new w2 3 [.int .i64 z])
      have HSZ : Hid (w.heap.size ≤ (w2.alloc (.cells #[.int .i64 z] 3)).heap.size) := HO2.out.size
      have hml := HML.out
      clear hb hb2 HP HG HI HO
      go_wp2_with (at_builtin; refine wpList_append_iw rfl _ _ rfl w.heap.size _ _ rfl HI2.out _ z rfl N2.out (by omega) HSZ.out ?_)
      generalize w2.alloc (.cells #[.int .i64 z] 3) = V2 at *
      intro a' n' c' w4 hO4 hg4 hw4
      have hon := only_of_grown hg4 (R := fun y => (Value.slice xa xn xc).ownBlock = some y) (fun k q => q)
      have hgl := HP2.out.lt
      have hgw := HL.out
      have HP4 := hid (HP2.out.to hon (fun q => by have := (HI2.out.lt q).1; omega) (fun q => by have := (HI2.out.lt q).1; omega) (fun q => by have := (HI2.out.lt q).1; omega))
      have HG4 := hid (HG2.out.only hon (by omega) (fun b hb q => by have := (HI2.out.lt q).1; omega))
      have HO4 := hid (HO2.out.trans (hon.mono (fun b _ q => .inr (HI2.out.lt q).1)))
      have HI4 : Hid (IW w4 w.heap.size (.slice a' n' c') ((M ++ [y]).map tgN)) := by
        show IW _ _ _ _
        rw [List.map_append, List.map_cons, List.map_nil, ← HZZ.out]
        exact hO4
      clear hO4 hg4 hw4 hon hml HI2 HO2 HG2 HP2 N2 HSZ HML
      go_wp2_with fail
      refine (CN.out _ w4 HP4.out).mono ?_
      rintro e w5 ⟨rfl, hP, hO⟩
      have hgl := HP4.out.lt
      have P5 := hid hP
      have G5 := hid (HG4.out.only hO (by omega) (fun b hb q => by have q' : b = g + 2 := q; omega))
      have I5 := hid (HI4.out.to hO (fun k q r => by have := (HI4.out.lt q).1; have r' : k = g + 2 := r; omega))
      have O5 := hid (HO4.out.trans (hO.mono (fun b _ q => .inl q)))
      have HMN5 : Hid (L = (M ++ [y]) ++ N) := by show _ = _; rw [HMN.out]; simp
      clear hP hO HP4 HG4 HI4 HO4 HMN
      simp only [List.drop_succ_cons, List.drop_zero] at P5
      go_wp2
      go_roundw
      case rel => exact ⟨M ++ [y], N, a', n', c', rfl, by simp [rdW], by simp, HMN5.out, P5.out, G5.out, I5.out, O5.out⟩
      case measure =>
        rw [P5.out.pl, HPL.out]
        cases N with
        | nil => simp
        | cons a N => simp
end Go.Proofs.YtjddkofpfmjojaaGreatDoor
/-
  Messages: when one is right, in plain; MsgOk of the program.
-/
namespace Go.Proofs.YtjddkofpfmjojaaGreatDoor
open Go.RowKit
set_option linter.unusedVariables false
def nuOk (nu : Int) : Bool := decide (1 ≤ nu) && decide (nu ≤ 16)
def stN (st : Int) : Bool := decide (0 < st) && decide (st ≤ 1099511627775)
def stC (cd st : Int) : Bool := if cd = 0 then stN st else decide (st = 0)
def noT (st cd : Int) (pn : Nat) : Bool := decide (st = 0) && (decide (cd = 0) && decide (pn = 0))
def upOk (p : PB) : Bool := uOk p.1 && uvOk p.2
def prsOk (ps : List PB) : Bool := decide (ps.length ≤ 8) && ps.all upOk
def tel (st cd : Int) (ps : List PB) : Bool := (decide (0 ≤ cd) && decide (cd ≤ 9)) && (stC cd st && prsOk ps)
def prtOk (kd nu st : Int) (ak az : Bool) (cd : Int) (ps : List PB) (ys : Bool) : Bool :=
  if kd = 1 then nuOk nu && (ak && (noT st cd ps.length && !ys))
  else if kd = 2 then nuOk nu && (tel st cd ps && (az && !ys))
  else if kd = 3 then (decide (cd = 0) && decide (ps.length = 0)) && (nuOk nu && (tel st cd ps && (az && !ys)))
  else if kd = 4 ∨ kd = 5 then decide (nu = 0) && (az && noT st cd ps.length)
  else if kd = 6 ∨ kd = 7 then !ys && (decide (nu = 0) && (az && noT st cd ps.length))
  else false
def mgOk (kd c e n sh nu st : Int) (ak az : Bool) (cd : Int) (ps : List PB) (ys : Bool) : Bool := txOk (c, e, n) && (decide (0 ≤ sh) && (decide (sh < 4) && prtOk kd nu st ak az cd ps ys))
theorem prtOk_1 (nu st : Int) (ak az : Bool) (cd : Int) (ps : List PB) (ys : Bool) : prtOk 1 nu st ak az cd ps ys = (nuOk nu && (ak && (noT st cd ps.length && !ys))) := rfl
theorem prtOk_2 (nu st : Int) (ak az : Bool) (cd : Int) (ps : List PB) (ys : Bool) : prtOk 2 nu st ak az cd ps ys = (nuOk nu && (tel st cd ps && (az && !ys))) := rfl
theorem prtOk_3 (nu st : Int) (ak az : Bool) (cd : Int) (ps : List PB) (ys : Bool) : prtOk 3 nu st ak az cd ps ys = ((decide (cd = 0) && decide (ps.length = 0)) && (nuOk nu && (tel st cd ps && (az && !ys)))) := rfl
theorem prtOk_4 (nu st : Int) (ak az : Bool) (cd : Int) (ps : List PB) (ys : Bool) : prtOk 4 nu st ak az cd ps ys = (decide (nu = 0) && (az && noT st cd ps.length)) := rfl
theorem prtOk_5 (nu st : Int) (ak az : Bool) (cd : Int) (ps : List PB) (ys : Bool) : prtOk 5 nu st ak az cd ps ys = (decide (nu = 0) && (az && noT st cd ps.length)) := rfl
theorem prtOk_6 (nu st : Int) (ak az : Bool) (cd : Int) (ps : List PB) (ys : Bool) : prtOk 6 nu st ak az cd ps ys = (!ys && (decide (nu = 0) && (az && noT st cd ps.length))) := rfl
theorem prtOk_7 (nu st : Int) (ak az : Bool) (cd : Int) (ps : List PB) (ys : Bool) : prtOk 7 nu st ak az cd ps ys = (!ys && (decide (nu = 0) && (az && noT st cd ps.length))) := rfl
theorem prtOk_no {kd : Int} (h : ¬ (1 ≤ kd ∧ kd ≤ 7)) (nu st : Int) (ak az : Bool) (cd : Int) (ps : List PB) (ys : Bool) : prtOk kd nu st ak az cd ps ys = false := by
  unfold prtOk
  rw [if_neg (by omega), if_neg (by omega), if_neg (by omega), if_neg (by omega), if_neg (by omega)]
theorem isNumberM_any (m : Int) (w : World) : Calls Tryz.prog 65 #[.int .i64 m] w fun e w' => e = .returned (.bool (decide (0 ≤ m) && decide (m ≤ 1099511627775))) ∧ w = w' := by
  by_cases h : 0 ≤ m
  · have HE : Hid ((decide (0 ≤ m) && decide (m ≤ 1099511627775)) = decide (m ≤ 1099511627775)) := by show _ = _; simp [h]
    go_enter Tryz.func65, Tryz.ntmps65
    go_wp2
    go_ret
    exact ⟨by rw [HE.out]; rfl, rfl⟩
  · have HE : Hid ((decide (0 ≤ m) && decide (m ≤ 1099511627775)) = false) := by show _ = false; simp [h]
    go_enter Tryz.func65, Tryz.ntmps65
    go_wp2
    go_ret
    exact ⟨by rw [HE.out]; rfl, rfl⟩
theorem all_take_succ {α : Type} (l : List α) (f : α → Bool) (d : α) {m : Nat} (h : m < l.length) : (l.take (m + 1)).all f = ((l.take m).all f && f (l[m]?.getD d)) := by
  rw [List.take_succ_eq_append_getElem h, List.all_append]
  simp [h]
theorem all_no {α : Type} (l : List α) (f : α → Bool) (d : α) {m : Nat} (h : m < l.length) (hf : f (l[m]?.getD d) = false) : l.all f = false := by
  rw [List.all_eq_false]
  refine ⟨l[m], List.getElem_mem h, ?_⟩
  simp [h] at hf
  simp [hf]
theorem pAtB_get (l : List PB) (m : Nat) : pAtB l m = l[m]?.getD (⟨#[]⟩, ⟨#[]⟩) := rfl
end Go.Proofs.YtjddkofpfmjojaaGreatDoor
/-
  Messages: what the law's helpers do with one; rows of pairs of one's own.
-/
namespace Go.Proofs.YtjddkofpfmjojaaGreatDoor
open Go.RowKit
set_option linter.unusedVariables false
theorem setE {w : World} {g : Nat} {T : TypeId} {xs ys : List Value} (h : Bk w g T xs) (o : Nat) (x : Value) (e : xs.set o x = ys) : Bk (w.setCell ⟨g, o, none⟩ x) g T ys := by
  rw [← e]; exact h.set o x
theorem msg_sets {w : World} {g : Nat} {T : TypeId} {z0 z1 z2 z3 z4 z5 z6 z7 z8 z9 z10 z11 z12 z13 z14 z15 z16 : Value} (h : Bk w g T [z0, z1, z2, z3, z4, z5, z6, z7, z8, z9, z10, z11, z12, z13, z14, z15, z16]) (a0 a1 a2 a3 a4 a5 a6 a7 a8 a9 a10 a11 a12 a13 a14 a15 a16 : Value) : Bk (((((((((((((((((w.setCell ⟨g, 0, none⟩ (a0)).setCell ⟨g, 1, none⟩ (a1)).setCell ⟨g, 2, none⟩ (a2)).setCell ⟨g, 3, none⟩ (a3)).setCell ⟨g, 4, none⟩ (a4)).setCell ⟨g, 5, none⟩ (a5)).setCell ⟨g, 6, none⟩ (a6)).setCell ⟨g, 7, none⟩ (a7)).setCell ⟨g, 8, none⟩ (a8)).setCell ⟨g, 9, none⟩ (a9)).setCell ⟨g, 10, none⟩ (a10)).setCell ⟨g, 11, none⟩ (a11)).setCell ⟨g, 12, none⟩ (a12)).setCell ⟨g, 13, none⟩ (a13)).setCell ⟨g, 14, none⟩ (a14)).setCell ⟨g, 15, none⟩ (a15)).setCell ⟨g, 16, none⟩ (a16)) g T [a0, a1, a2, a3, a4, a5, a6, a7, a8, a9, a10, a11, a12, a13, a14, a15, a16] := (setE (setE (setE (setE (setE (setE (setE (setE (setE (setE (setE (setE (setE (setE (setE (setE (setE h 0 a0 (ys := [a0, z1, z2, z3, z4, z5, z6, z7, z8, z9, z10, z11, z12, z13, z14, z15, z16]) rfl) 1 a1 (ys := [a0, a1, z2, z3, z4, z5, z6, z7, z8, z9, z10, z11, z12, z13, z14, z15, z16]) rfl) 2 a2 (ys := [a0, a1, a2, z3, z4, z5, z6, z7, z8, z9, z10, z11, z12, z13, z14, z15, z16]) rfl) 3 a3 (ys := [a0, a1, a2, a3, z4, z5, z6, z7, z8, z9, z10, z11, z12, z13, z14, z15, z16]) rfl) 4 a4 (ys := [a0, a1, a2, a3, a4, z5, z6, z7, z8, z9, z10, z11, z12, z13, z14, z15, z16]) rfl) 5 a5 (ys := [a0, a1, a2, a3, a4, a5, z6, z7, z8, z9, z10, z11, z12, z13, z14, z15, z16]) rfl) 6 a6 (ys := [a0, a1, a2, a3, a4, a5, a6, z7, z8, z9, z10, z11, z12, z13, z14, z15, z16]) rfl) 7 a7 (ys := [a0, a1, a2, a3, a4, a5, a6, a7, z8, z9, z10, z11, z12, z13, z14, z15, z16]) rfl) 8 a8 (ys := [a0, a1, a2, a3, a4, a5, a6, a7, a8, z9, z10, z11, z12, z13, z14, z15, z16]) rfl) 9 a9 (ys := [a0, a1, a2, a3, a4, a5, a6, a7, a8, a9, z10, z11, z12, z13, z14, z15, z16]) rfl) 10 a10 (ys := [a0, a1, a2, a3, a4, a5, a6, a7, a8, a9, a10, z11, z12, z13, z14, z15, z16]) rfl) 11 a11 (ys := [a0, a1, a2, a3, a4, a5, a6, a7, a8, a9, a10, a11, z12, z13, z14, z15, z16]) rfl) 12 a12 (ys := [a0, a1, a2, a3, a4, a5, a6, a7, a8, a9, a10, a11, a12, z13, z14, z15, z16]) rfl) 13 a13 (ys := [a0, a1, a2, a3, a4, a5, a6, a7, a8, a9, a10, a11, a12, a13, z14, z15, z16]) rfl) 14 a14 (ys := [a0, a1, a2, a3, a4, a5, a6, a7, a8, a9, a10, a11, a12, a13, a14, z15, z16]) rfl) 15 a15 (ys := [a0, a1, a2, a3, a4, a5, a6, a7, a8, a9, a10, a11, a12, a13, a14, a15, z16]) rfl) 16 a16 (ys := [a0, a1, a2, a3, a4, a5, a6, a7, a8, a9, a10, a11, a12, a13, a14, a15, a16]) rfl)
theorem only_step {R : Nat → Prop} {w w' : World} {g : Nat} (h : Only R w w') (hR : R g) (o : Nat) (v : Value) : Only R w (w'.setCell ⟨g, o, none⟩ v) := h.trans (only_set (R := R) (p := ⟨g, o, none⟩) hR v)
theorem msg_only {w : World} {g : Nat} {R : Nat → Prop} (hR : R g) (a0 a1 a2 a3 a4 a5 a6 a7 a8 a9 a10 a11 a12 a13 a14 a15 a16 : Value) : Only R w (((((((((((((((((w.setCell ⟨g, 0, none⟩ (a0)).setCell ⟨g, 1, none⟩ (a1)).setCell ⟨g, 2, none⟩ (a2)).setCell ⟨g, 3, none⟩ (a3)).setCell ⟨g, 4, none⟩ (a4)).setCell ⟨g, 5, none⟩ (a5)).setCell ⟨g, 6, none⟩ (a6)).setCell ⟨g, 7, none⟩ (a7)).setCell ⟨g, 8, none⟩ (a8)).setCell ⟨g, 9, none⟩ (a9)).setCell ⟨g, 10, none⟩ (a10)).setCell ⟨g, 11, none⟩ (a11)).setCell ⟨g, 12, none⟩ (a12)).setCell ⟨g, 13, none⟩ (a13)).setCell ⟨g, 14, none⟩ (a14)).setCell ⟨g, 15, none⟩ (a15)).setCell ⟨g, 16, none⟩ (a16)) := (only_step (only_step (only_step (only_step (only_step (only_step (only_step (only_step (only_step (only_step (only_step (only_step (only_step (only_step (only_step (only_step (only_set (R := R) (p := ⟨g, 0, none⟩) hR a0) hR 1 a1) hR 2 a2) hR 3 a3) hR 4 a4) hR 5 a5) hR 6 a6) hR 7 a7) hR 8 a8) hR 9 a9) hR 10 a10) hR 11 a11) hR 12 a12) hR 13 a13) hR 14 a14) hR 15 a15) hR 16 a16)
end Go.Proofs.YtjddkofpfmjojaaGreatDoor
/-
  What the model's Unquote answers, for every string.
-/
namespace Go.Proofs.YtjddkofpfmjojaaGreatDoor
open Go.RowKit

/-- append as one step of a region that draws. -/
theorem step_append_rd {w : World} {ops : Array Oper} {o : Oper} {a : Act} {K : Act → World → Prop} {Q : Exit → Act → World → Prop} {E : Prop} (hgd : o.guard = none) (s x : Operand)
    (ho : o.op = .call { callee := .builtin .append, args := #[s, x], argTypes := #[71, 71] }) (base : Nat) (v : Value) (zs : List Int) (hs : a.eval s = v) (hown : Ob w base v zs)
    (ao : Option Addr) (m c : Nat) (ys : List Int) (hx : a.eval x = .slice ao m c) (hsrc : Rd w ao m c ys) (hb : zs.length + ys.length ≤ 70368744177664) (hbase : base ≤ w.heap.size)
    (h : ∀ v' w', Ob w' base v' (zs ++ ys) → w.grownBy w' v.ownBlock → K (a.put o.dst v') w') :
    if Region.wanted o (yielded ops a.tmps) = true then Oper.wp Tryz.prog o a w K Q else E := by
  have hw : Region.wanted o (yielded ops a.tmps) = true := by simp [Region.wanted, hgd]
  rw [if_pos hw]
  obtain ⟨v', w', hr, h2, h3⟩ := run_append_rd (w := w) o.type base v zs hown ao m c ys hsrc hb hbase
  unfold Oper.wp execOp
  simp only [ho, resolve, invoke, builtin, Sem.run_bind, Sem.run_pure, Result.andThen_ok, List.map_toArray, List.map_cons, List.map_nil, hs, hx, hr]
  exact h v' w' h2 h3

theorem half_unique (z : Int) (k : Nat) (hk : k ≤ 16) (h : ∀ j : Nat, j < k → hexD j ≠ z) (h2 : k < 16 → hexD k = z) : halfV z = k := by
  unfold halfV
  by_cases a : 48 ≤ z ∧ z ≤ 57
  · rw [if_pos a]
    by_cases hl : k < 16
    · have := h2 hl
      unfold hexD at this
      split at this <;> omega
    · have := h (z - 48).toNat (by omega)
      exfalso; apply this
      unfold hexD; rw [if_pos (by omega)]; omega
  · rw [if_neg a]
    by_cases b : 65 ≤ z ∧ z ≤ 70
    · rw [if_pos b]
      by_cases hl : k < 16
      · have := h2 hl
        unfold hexD at this
        split at this <;> omega
      · have := h (z - 55).toNat (by omega)
        exfalso; apply this
        unfold hexD; rw [if_neg (by omega)]; omega
    · rw [if_neg b]
      by_cases hl : k < 16
      · have := h2 hl
        unfold hexD at this
        split at this <;> omega
      · omega

set_option maxHeartbeats 400000 in
theorem half_any (z : Int) (w : World) : Calls Tryz.prog 60 #[.int .u8 z] w fun e w' => e = .returned (.int .i64 (halfV z)) ∧ w = w' := by
  go_enter Tryz.func60, Tryz.ntmps60
  go_wp2
  go_loop [3] (fun i => ∃ k : Nat, k ≤ 16 ∧ i = .int .i64 k ∧ ∀ j : Nat, j < k → hexD j ≠ z) (fun i => 16 - (intOf i).toNat)
  case atStart => exact ⟨0, by omega, rfl, fun j hj => by omega⟩
  case round =>
    obtain ⟨k, hk, rfl, hne⟩ := hrel
    have HN := hid hne
    clear hne
    by_cases hlt : k < 16
    · have hlt' : (k : Int) < 16 := by omega
      by_cases he : hexD k = z
      · have hq : (hexD (k : Int) != z) = false := by simp [he]
        have HV := hid (half_unique z k hk HN.out (fun _ => he))
        clear he
        go_wp2_with (go_at_call 62; refine (digit_any (k : Int) _ (by omega) (by omega)).mono ?_; rintro e w' ⟨rfl, rfl⟩)
        go_ret
        exact ⟨by rw [HV.out]; rfl, rfl⟩
      · have hq : (hexD (k : Int) != z) = true := by simp [he]
        have HM : Hid (∀ j : Nat, j < k + 1 → hexD j ≠ z) := by
          intro j hj
          by_cases e : j = k
          · subst e; exact he
          · exact HN.out j (by omega)
        clear he
        go_wp2_with (go_at_call 62; refine (digit_any (k : Int) _ (by omega) (by omega)).mono ?_; rintro e w' ⟨rfl, rfl⟩)
        go_round
        case rel => exact ⟨k + 1, by omega, by go_num, HM.out⟩
        case measure => simp [intOf]; omega
    · have hlt' : ¬ (k : Int) < 16 := by omega
      have HV := hid (half_unique z k hk HN.out (fun h => absurd h hlt))
      go_wp2
      go_ret
      exact ⟨by rw [HV.out]; rfl, rfl⟩

theorem sd_end (L : List Int) (h : L.length ≤ 1) : sd L = [] := by
  match L, h with
  | [], _ => rfl
  | [_], _ => rfl
  | _ :: _ :: _, h => simp at h
theorem sd_pct (L : List Int) (h : 3 ≤ L.length) (hz : L[0]?.getD 0 = 37) : sd L = (halfV (L[1]?.getD 0) % 16 * 16 + halfV (L[2]?.getD 0) % 16) :: sd (L.drop 3) := by
  match L, h with
  | z :: x :: y :: r, _ =>
    have : z = 37 := hz
    simp only [sd]
    rw [if_pos this]
    rfl
theorem sd_else (L : List Int) (h : 2 ≤ L.length) (hz : L[0]?.getD 0 ≠ 37 ∨ L.length < 3) : sd L = L[0]?.getD 0 :: sd (L.drop 1) := by
  match L, h with
  | [z, x], _ => rfl
  | z :: x :: y :: r, _ =>
    have : z ≠ 37 := by
      rcases hz with h | h
      · exact h
      · simp at h; omega
    simp only [sd]
    rw [if_neg this]
    rfl
theorem at_drop (s : ByteArray) (k j : Nat) (h : k + j < s.size) : ((bytesOf s).drop k)[j]?.getD 0 = (s[k + j].toNat : Int) := by
  rw [List.getElem?_drop]
  have h' : k + j < (bytesOf s).length := by rw [bytesOf_len]; exact h
  rw [List.getElem?_eq_getElem h']
  simp [bytesOf]
  rfl

set_option maxRecDepth 100000 in
set_option maxHeartbeats 1000000 in
theorem specUnquote_any (s : ByteArray) (w : World) (hs : s.size ≤ 1048576) :
    Calls Tryz.prog 48 #[.string s] w fun e w' => e = .returned (.tuple #[.string (strOf ((uq s).getD [])), .bool (uq s).isSome]) ∧ Below w.heap.size w w' := by
  by_cases h2 : s.size < 2
  · have HU := hid (uq_short s h2)
    have h2' : (s.size : Int) < 2 := by omega
    go_enter Tryz.func48, Tryz.ntmps48
    go_wp2
    go_ret2
    exact ⟨by rw [HU.out]; rfl, Below.refl _ _⟩
  · have h2' : ¬ (s.size : Int) < 2 := by omega
    by_cases h3 : 12290 < s.size
    · have HU := hid (uq_long s h3)
      have h3' : (12290 : Int) < (s.size : Int) := by omega
      go_enter Tryz.func48, Tryz.ntmps48
      go_wp2
      go_ret2
      exact ⟨by rw [HU.out]; rfl, Below.refl _ _⟩
    · have h3' : ¬ (12290 : Int) < (s.size : Int) := by omega
      have HM := hid (uq_model s (by omega))
      have HO0 := hid (ob_new w w.heap.size (Nat.le_refl _))
      go_enter Tryz.func48, Tryz.ntmps48
      go_wp2
      go_loopw [4, 5] (fun v i wr => ∃ (k : Nat) (o : List Int), k ≤ s.size ∧ 1 ≤ k ∧ i = .int .i64 k ∧ o.length ≤ k ∧ (∀ z ∈ o, 0 ≤ z ∧ z ≤ 255) ∧ o ++ sd ((bytesOf s).drop k) = sd ((bytesOf s).drop 1) ∧ Ob wr w.heap.size v o ∧ Below w.heap.size w wr) (fun _ i _ => s.size - (intOf i).toNat)
      case atStart => exact ⟨1, [], by omega, by omega, rfl, by simp, by simp, rfl, HO0.out, (Below.refl _ _).alloc (Nat.le_refl _) _⟩
      case round =>
        obtain ⟨k, o, hk, hk1, rfl, hol, hob, hso, hown, hbel⟩ := hrel
        have HO := hid hown
        have HB := hid hbel
        have HOB := hid hob
        have HS := hid hso
        have hsz := hbel.size
        clear hown hbel hob hso
        by_cases hlt : k < s.size - 1
        · have hlt' : (k : Int) < (s.size : Int) - 1 := by omega
          have hkl : (k : Int) < (s.size : Int) := by omega
          have hkk : k < s.size := by omega
          have e0 := at_drop s k 0 (by omega)
          have hz1 : (s[k].toNat : Int) ≤ 255 := by have := s[k].toNat_lt; omega
          have hdl : ((bytesOf s).drop k).length = s.size - k := by rw [List.length_drop, bytesOf_len]
          by_cases hp : (s[k].toNat : Int) = 37 ∧ k + 2 < s.size
          · obtain ⟨hp1, hp2⟩ := hp
            have e1 := at_drop s k 1 (by omega)
            have e2 := at_drop s k 2 (by omega)
            have HP := hid (sd_pct ((bytesOf s).drop k) (by omega) (by rw [e0]; exact hp1))
            rw [e1, e2] at HP
            have hq : ((s[k].toNat : Int) == 37) = true := by simp [hp1]
            have hq2 : (k : Int) + 2 < (s.size : Int) := by omega
            have hq3 : (k : Int) + 1 < (s.size : Int) := by omega
            have r1 := half_range (s[k + 1].toNat : Int)
            have r2 := half_range (s[k + 2].toNat : Int)
            clear e0 e1 e2 hp1 hdl
            have m1 : IntKind.i64.wrap ((k : Int) + 1) = (k : Int) + 1 := by rw [IntKind.wrap_i64]; omega
            have m2 : IntKind.i64.wrap ((k : Int) + 2) = (k : Int) + 2 := by rw [IntKind.wrap_i64]; omega
            have t1 : ((k : Int) + 1).toNat = k + 1 := by omega
            have t2 : ((k : Int) + 2).toNat = k + 2 := by omega
            have p1 : 0 ≤ (k : Int) + 1 := by omega
            have p2 : 0 ≤ (k : Int) + 2 := by omega
            have m3 : (halfV (s[k + 1].toNat : Int)).tmod 16 = halfV (s[k + 1].toNat : Int) % 16 := Int.tmod_eq_emod_of_nonneg r1.1
            have m4 : (halfV (s[k + 2].toNat : Int)).tmod 16 = halfV (s[k + 2].toNat : Int) % 16 := Int.tmod_eq_emod_of_nonneg r2.1
            have m5 : IntKind.i64.wrap (halfV (s[k + 1].toNat : Int) % 16 * 16) = halfV (s[k + 1].toNat : Int) % 16 * 16 := by rw [IntKind.wrap_i64]; omega
            have m6 : IntKind.i64.wrap (halfV (s[k + 1].toNat : Int) % 16 * 16 + halfV (s[k + 2].toNat : Int) % 16) = halfV (s[k + 1].toNat : Int) % 16 * 16 + halfV (s[k + 2].toNat : Int) % 16 := by rw [IntKind.wrap_i64]; omega
            have m7 : IntKind.u8.wrap (halfV (s[k + 1].toNat : Int) % 16 * 16 + halfV (s[k + 2].toNat : Int) % 16) = halfV (s[k + 1].toNat : Int) % 16 * 16 + halfV (s[k + 2].toNat : Int) % 16 := by simp [IntKind.wrap, IntKind.signed, IntKind.bits]; omega
            have HO1 := hid (show Ob (wr.alloc (.cells #[.int .u8 (halfV (s[k + 1].toNat : Int) % 16 * 16 + halfV (s[k + 2].toNat : Int) % 16)] 5)).drew w.heap.size u4 o from HO.out.alloc _)
            have HR1 := hid (show Rd (wr.alloc (.cells #[.int .u8 (halfV (s[k + 1].toNat : Int) % 16 * 16 + halfV (s[k + 2].toNat : Int) % 16)] 5)).drew (some ⟨wr.heap.size, 0, none⟩) 1 1 [halfV (s[k + 1].toNat : Int) % 16 * 16 + halfV (s[k + 2].toNat : Int) % 16] from rd_one wr _ (by omega) (by omega))
            go_wp2_with fail
            go_region_law (first
              | (refine step_append_rd rfl _ _ rfl w.heap.size _ o rfl HO1.out _ _ _ [halfV (s[k + 1].toNat : Int) % 16 * 16 + halfV (s[k + 2].toNat : Int) % 16] rfl HR1.out (by simp; omega) (by simp; omega) ?_; intro v2 w2 hown2 hg2)
              | (go_simp; go_wp2_with (go_at_call 60; refine (half_any _ _).mono ?_; rintro e w' ⟨rfl, rfl⟩)))
            all_goals
              have hb2 : Below w.heap.size w w2 := Ob.below HO1.out ((HB.out.alloc hsz _).drew) (by simp; omega) hg2
              have HO2 := hid hown2
              have HS2 : Hid (o ++ [halfV (s[k + 1].toNat : Int) % 16 * 16 + halfV (s[k + 2].toNat : Int) % 16] ++ sd ((bytesOf s).drop (k + 3)) = sd ((bytesOf s).drop 1)) := by
                show o ++ [halfV (s[k + 1].toNat : Int) % 16 * 16 + halfV (s[k + 2].toNat : Int) % 16] ++ sd ((bytesOf s).drop (k + 3)) = sd ((bytesOf s).drop 1)
                rw [← HS.out, HP.out, List.drop_drop]
                simp
              clear hown2 hg2 m3 m4 m5 m6 m7
              go_wp2
              go_roundw
              case rel => exact ⟨k + 3, _, by omega, by omega, by go_num, by simp; omega, byte_append HOB.out (by intro z hz; simp at hz; omega), HS2.out, HO2.out, hb2⟩
              case measure => simp [intOf]; omega
          · have HP := hid (sd_else ((bytesOf s).drop k) (by omega) (by rw [e0]; simp only [Nat.add_zero]; omega))
            rw [e0] at HP
            simp only [Nat.add_zero] at HP
            have hz0 : (0 : Int) ≤ (s[k].toNat : Int) := by omega
            rcases (by simp only [beq_eq_false_iff_ne, beq_iff_eq]; omega : ((s[k].toNat : Int) == 37) = false ∨ (((s[k].toNat : Int) == 37) = true ∧ ¬ (k : Int) + 2 < (s.size : Int))) with hq | ⟨hq, hq2⟩
            all_goals
              clear hp e0 hdl
              go_wp2_with (at_builtin; refine wpList_append_rd rfl _ _ rfl w.heap.size _ o rfl (HO.out.alloc _) _ _ _ [(s[k].toNat : Int)] rfl ?src ?b ?base ?_)
              case src => exact rd_one wr _ hz0 hz1
              case b => first | omega | (simp; omega)
              case base => first | omega | (simp; omega)
              intro v2 w2 hown2 hg2
              have hb2 : Below w.heap.size w w2 := Ob.below (HO.out.alloc _) (HB.out.alloc hsz _) (by simp; omega) hg2
              have HO2 := hid hown2
              have HS2 : Hid (o ++ [(s[k].toNat : Int)] ++ sd ((bytesOf s).drop (k + 1)) = sd ((bytesOf s).drop 1)) := by
                show o ++ [(s[k].toNat : Int)] ++ sd ((bytesOf s).drop (k + 1)) = sd ((bytesOf s).drop 1)
                rw [← HS.out, HP.out, List.drop_drop]
                simp
              clear hown2 hg2
              go_wp2
              go_roundw
              case rel => exact ⟨k + 1, _, by omega, by omega, by go_num, by simp; omega, byte_append HOB.out (by intro z hz; simp at hz; omega), HS2.out, HO2.out, hb2⟩
              case measure => simp [intOf]; omega
        · have hlt' : ¬ (k : Int) < (s.size : Int) - 1 := by omega
          have HE : Hid (o = sd ((bytesOf s).drop 1)) := by
            show o = sd ((bytesOf s).drop 1)
            rw [← HS.out, sd_end ((bytesOf s).drop k) (by rw [List.length_drop, bytesOf_len]; omega)]
            simp
          obtain ⟨a3, c3, hv3, hrd3, _⟩ := HO.out.rd (byte_at HOB.out) (by omega)
          have hst := run_str hrd3
          have HR3 := hid hrd3
          generalize hL3 : o.length = L3 at hv3 hst hol
          have HL3 := hid hL3
          clear hrd3 hL3
          have hv3' := hid hv3
          rw [hv3]
          clear hv3
          go_wp2_with fail
          refine (specQuote_any (strOf o) wr (by rw [str_size, HL3.out]; omega)).mono ?_
          rintro e w3 ⟨rfl, hb3⟩
          have HB3 := hid (HB.out.trans (hb3.mono hsz))
          have hst3 : (convert 71 9 (.slice a3 L3 c3)).run Tryz.prog w3 = .ok (.string (strOf o)) w3 := by
            rw [← HL3.out]
            exact run_str (HR3.out.kept hb3)
          clear hb3 hst
          by_cases hqq : qt (strOf o) = s
          · have HU : Hid (uq s = some o) := by
              show uq s = some o
              rw [HE.out]; rw [HE.out] at hqq
              exact HM.out.1 hqq
            rw [hqq]
            clear hqq
            go_wp2
            go_ret2
            exact ⟨by rw [HU.out]; rfl, HB3.out⟩
          · have HU : Hid (uq s = none) := by
              show uq s = none
              rw [HE.out] at hqq
              exact HM.out.2 hqq
            have hq1 := str_ne hqq
            clear hqq
            go_wp2
            go_ret2
            exact ⟨by rw [HU.out]; rfl, HB3.out⟩
end Go.Proofs.YtjddkofpfmjojaaGreatDoor
/-
  readAsk of the program.
-/
namespace Go.Proofs.YtjddkofpfmjojaaGreatDoor
open Go.RowKit
set_option linter.unusedVariables false
/-- What is new, and what is changed of the new, changes nothing that was there. -/
theorem only_new {R : Nat → Prop} {w v u : World} {h : Nat} (a : Only R w v) (b : Only (fun y => y = h) v u) (hh : w.heap.size ≤ h) : Only R w u :=
  ⟨b.os.trans a.os, b.tape.trans a.tape, b.output.trans a.output, Nat.le_trans a.size b.size, fun i hi hn => (b.block i (by have := a.size; omega) (by omega)).trans (a.block i hi hn)⟩
set_option maxHeartbeats 16000000 in
set_option maxRecDepth 20000 in
theorem readAsk_any (g : Nat) (s : ByteArray) (d : UInt8) (word : ByteArray) (L : List ByteArray) (w : World) (h : PS w g s d L) (hs : s.size ≤ 1048576) (hG : GZ w g) :
    Calls Tryz.prog 53 #[.string word, nextV g] w fun e w' => e = .returned (.agg #[.int .i64 (caI word L).2.1, .string (caI word L).2.2.1, .string (caI word L).2.2.2.1, .string (caI word L).2.2.2.2.1, .string (caI word L).2.2.2.2.2.1, .int .i64 (caI word L).2.2.2.2.2.2.1, .bool (caI word L).2.2.2.2.2.2.2]) ∧ Only (At g) w w' := by
  have hgl := h.lt
  have C1 := hid (fun L w h hG => oneStr_any g s d L w h hs hG)
  have C2 := hid (fun L w h hG => oneInt_any g s d L w h hs hG)
  have hb0 : Below w.heap.size w (w.alloc (.cells #[.int .i64 0, .string ⟨#[]⟩, .string ⟨#[]⟩, .string ⟨#[]⟩, .string ⟨#[]⟩, .int .i64 0, .bool false] 26)) := below_new (Below.refl _ _)
  have P0 := hid (h.below hb0)
  have G0 := hid (hG.to (hb0.mono (by omega)))
  have O0 := hid (only_of_below hb0 (At g))
  have K0 := hid (Bk.new w 26 [.int .i64 0, .string ⟨#[]⟩, .string ⟨#[]⟩, .string ⟨#[]⟩, .string ⟨#[]⟩, .int .i64 0, .bool false])
  clear h hG hb0
  unfold nextV
  by_cases hget : word = wGet
  · have HV : Hid (caI word L = (2, 1, uqS (rdW L 0), ⟨#[]⟩, ⟨#[]⟩, ⟨#[]⟩, 0, false)) := if_pos hget
    have eget : (word.toList == [103, 101, 116]) = true := by rw [hget, ByteArray.toList_eq]; rfl
    clear hget
    go_enter Tryz.func53, Tryz.ntmps53
    go_wp2_with fail
    refine (C1.out L _ P0.out G0.out).mono ?_
    generalize w.alloc (.cells #[.int .i64 0, .string ⟨#[]⟩, .string ⟨#[]⟩, .string ⟨#[]⟩, .string ⟨#[]⟩, .int .i64 0, .bool false] 26) = U at *
    rintro r w1 ⟨rfl, hP, hO⟩
    have P1 := hid hP
    have O1 := hid (O0.out.trans hO)
    have G1 := hid (G0.out.only hO (by have := P0.out.lt; omega) (fun b hb q => by have q' : b = g + 2 := q; omega))
    have K1 := hid (K0.out.to hO (fun q => by have q' : w.heap.size = g + 2 := q; omega))
    clear hP hO P0 O0 G0 K0
    have r0 := K1.out.cell (j := 0) rfl
    have f0 := K1.out.free 0
    have r1 := K1.out.cell (j := 1) rfl
    have f1 := K1.out.free 1
    have r2 := K1.out.cell (j := 2) rfl
    have f2 := K1.out.free 2
    have r3 := K1.out.cell (j := 3) rfl
    have f3 := K1.out.free 3
    have r4 := K1.out.cell (j := 4) rfl
    have f4 := K1.out.free 4
    have r5 := K1.out.cell (j := 5) rfl
    have f5 := K1.out.free 5
    have r6 := K1.out.cell (j := 6) rfl
    have f6 := K1.out.free 6
    have KF : Hid (Bk (((((((w1.setCell ⟨w.heap.size, 0, none⟩ (.int .i64 1)).setCell ⟨w.heap.size, 1, none⟩ (.string (uqS (rdW L 0)))).setCell ⟨w.heap.size, 2, none⟩ (.string ⟨#[]⟩)).setCell ⟨w.heap.size, 3, none⟩ (.string ⟨#[]⟩)).setCell ⟨w.heap.size, 4, none⟩ (.string ⟨#[]⟩)).setCell ⟨w.heap.size, 5, none⟩ (.int .i64 0)).setCell ⟨w.heap.size, 6, none⟩ (.bool false)) w.heap.size 26 [.int .i64 1, .string (uqS (rdW L 0)), .string ⟨#[]⟩, .string ⟨#[]⟩, .string ⟨#[]⟩, .int .i64 0, .bool false]) := (((((((K1.out.set 0 _).set 1 _).set 2 _).set 3 _).set 4 _).set 5 _).set 6 _)
    have OS : Hid (Only (fun y => y = w.heap.size) w1 (((((((w1.setCell ⟨w.heap.size, 0, none⟩ (.int .i64 1)).setCell ⟨w.heap.size, 1, none⟩ (.string (uqS (rdW L 0)))).setCell ⟨w.heap.size, 2, none⟩ (.string ⟨#[]⟩)).setCell ⟨w.heap.size, 3, none⟩ (.string ⟨#[]⟩)).setCell ⟨w.heap.size, 4, none⟩ (.string ⟨#[]⟩)).setCell ⟨w.heap.size, 5, none⟩ (.int .i64 0)).setCell ⟨w.heap.size, 6, none⟩ (.bool false))) := (only_step (only_step (only_step (only_step (only_step (only_step (only_set (R := fun y => y = w.heap.size) (p := ⟨w.heap.size, 0, none⟩) rfl _) rfl 1 _) rfl 2 _) rfl 3 _) rfl 4 _) rfl 5 _) rfl 6 _)
    have OF : Hid (Only (At g) w (((((((w1.setCell ⟨w.heap.size, 0, none⟩ (.int .i64 1)).setCell ⟨w.heap.size, 1, none⟩ (.string (uqS (rdW L 0)))).setCell ⟨w.heap.size, 2, none⟩ (.string ⟨#[]⟩)).setCell ⟨w.heap.size, 3, none⟩ (.string ⟨#[]⟩)).setCell ⟨w.heap.size, 4, none⟩ (.string ⟨#[]⟩)).setCell ⟨w.heap.size, 5, none⟩ (.int .i64 0)).setCell ⟨w.heap.size, 6, none⟩ (.bool false))) := only_new O1.out OS.out (by omega)
    go_wp2
    try simp only [Exit.inBlock, Exit.then]
    refine bodyPost_ret (v := .agg #[.int .i64 1, .string (uqS (rdW L 0)), .string ⟨#[]⟩, .string ⟨#[]⟩, .string ⟨#[]⟩, .int .i64 0, .bool false]) ?_ rfl ?_
    · exact results_ask rfl _ _ _ rfl (KF.out.cell (j := 0) rfl) (KF.out.cell (j := 1) rfl) (KF.out.cell (j := 2) rfl) (KF.out.cell (j := 3) rfl) (KF.out.cell (j := 4) rfl) (KF.out.cell (j := 5) rfl) (KF.out.cell (j := 6) rfl)
    · exact ⟨by rw [HV.out]; try rfl, OF.out⟩
  by_cases hput : word = wPut
  · have HV : Hid (caI word L = (2, 2, uqS (rdW L 0), uqS (rdW L 1), ⟨#[]⟩, ⟨#[]⟩, 0, false)) := (if_neg hget).trans (if_pos hput)
    have eget : (word.toList == [103, 101, 116]) = false := by have := str_ne hget; rwa [show ByteArray.toList wGet = [103, 101, 116] from by rw [ByteArray.toList_eq]; rfl] at this
    have eput : (word.toList == [112, 117, 116]) = true := by rw [hput, ByteArray.toList_eq]; rfl
    clear hget hput
    go_enter Tryz.func53, Tryz.ntmps53
    go_wp2_with fail
    refine (C1.out L _ P0.out G0.out).mono ?_
    generalize w.alloc (.cells #[.int .i64 0, .string ⟨#[]⟩, .string ⟨#[]⟩, .string ⟨#[]⟩, .string ⟨#[]⟩, .int .i64 0, .bool false] 26) = U at *
    rintro r w1 ⟨rfl, hP, hO⟩
    have P1 := hid hP
    have O1 := hid (O0.out.trans hO)
    have G1 := hid (G0.out.only hO (by have := P0.out.lt; omega) (fun b hb q => by have q' : b = g + 2 := q; omega))
    have K1 := hid (K0.out.to hO (fun q => by have q' : w.heap.size = g + 2 := q; omega))
    clear hP hO P0 O0 G0 K0
    go_wp2_with fail
    refine (C1.out (L.drop 1) _ P1.out G1.out).mono ?_
    rintro r w2 ⟨rfl, hP, hO⟩
    rw [rdW_drop]
    have O2 := hid (O1.out.trans hO)
    have K2 := hid (K1.out.to hO (fun q => by have q' : w.heap.size = g + 2 := q; omega))
    clear hP hO P1 O1 G1 K1
    have r0 := K2.out.cell (j := 0) rfl
    have f0 := K2.out.free 0
    have r1 := K2.out.cell (j := 1) rfl
    have f1 := K2.out.free 1
    have r2 := K2.out.cell (j := 2) rfl
    have f2 := K2.out.free 2
    have r3 := K2.out.cell (j := 3) rfl
    have f3 := K2.out.free 3
    have r4 := K2.out.cell (j := 4) rfl
    have f4 := K2.out.free 4
    have r5 := K2.out.cell (j := 5) rfl
    have f5 := K2.out.free 5
    have r6 := K2.out.cell (j := 6) rfl
    have f6 := K2.out.free 6
    have KF : Hid (Bk (((((((w2.setCell ⟨w.heap.size, 0, none⟩ (.int .i64 2)).setCell ⟨w.heap.size, 1, none⟩ (.string (uqS (rdW L 0)))).setCell ⟨w.heap.size, 2, none⟩ (.string (uqS (rdW L 1)))).setCell ⟨w.heap.size, 3, none⟩ (.string ⟨#[]⟩)).setCell ⟨w.heap.size, 4, none⟩ (.string ⟨#[]⟩)).setCell ⟨w.heap.size, 5, none⟩ (.int .i64 0)).setCell ⟨w.heap.size, 6, none⟩ (.bool false)) w.heap.size 26 [.int .i64 2, .string (uqS (rdW L 0)), .string (uqS (rdW L 1)), .string ⟨#[]⟩, .string ⟨#[]⟩, .int .i64 0, .bool false]) := (((((((K2.out.set 0 _).set 1 _).set 2 _).set 3 _).set 4 _).set 5 _).set 6 _)
    have OS : Hid (Only (fun y => y = w.heap.size) w2 (((((((w2.setCell ⟨w.heap.size, 0, none⟩ (.int .i64 2)).setCell ⟨w.heap.size, 1, none⟩ (.string (uqS (rdW L 0)))).setCell ⟨w.heap.size, 2, none⟩ (.string (uqS (rdW L 1)))).setCell ⟨w.heap.size, 3, none⟩ (.string ⟨#[]⟩)).setCell ⟨w.heap.size, 4, none⟩ (.string ⟨#[]⟩)).setCell ⟨w.heap.size, 5, none⟩ (.int .i64 0)).setCell ⟨w.heap.size, 6, none⟩ (.bool false))) := (only_step (only_step (only_step (only_step (only_step (only_step (only_set (R := fun y => y = w.heap.size) (p := ⟨w.heap.size, 0, none⟩) rfl _) rfl 1 _) rfl 2 _) rfl 3 _) rfl 4 _) rfl 5 _) rfl 6 _)
    have OF : Hid (Only (At g) w (((((((w2.setCell ⟨w.heap.size, 0, none⟩ (.int .i64 2)).setCell ⟨w.heap.size, 1, none⟩ (.string (uqS (rdW L 0)))).setCell ⟨w.heap.size, 2, none⟩ (.string (uqS (rdW L 1)))).setCell ⟨w.heap.size, 3, none⟩ (.string ⟨#[]⟩)).setCell ⟨w.heap.size, 4, none⟩ (.string ⟨#[]⟩)).setCell ⟨w.heap.size, 5, none⟩ (.int .i64 0)).setCell ⟨w.heap.size, 6, none⟩ (.bool false))) := only_new O2.out OS.out (by omega)
    go_wp2
    try simp only [Exit.inBlock, Exit.then]
    refine bodyPost_ret (v := .agg #[.int .i64 2, .string (uqS (rdW L 0)), .string (uqS (rdW L 1)), .string ⟨#[]⟩, .string ⟨#[]⟩, .int .i64 0, .bool false]) ?_ rfl ?_
    · exact results_ask rfl _ _ _ rfl (KF.out.cell (j := 0) rfl) (KF.out.cell (j := 1) rfl) (KF.out.cell (j := 2) rfl) (KF.out.cell (j := 3) rfl) (KF.out.cell (j := 4) rfl) (KF.out.cell (j := 5) rfl) (KF.out.cell (j := 6) rfl)
    · exact ⟨by rw [HV.out]; try rfl, OF.out⟩
  by_cases hdel : word = wDel
  · have HV : Hid (caI word L = (2, 3, uqS (rdW L 0), ⟨#[]⟩, ⟨#[]⟩, ⟨#[]⟩, 0, false)) := (if_neg hget).trans ((if_neg hput).trans (if_pos hdel))
    have eget : (word.toList == [103, 101, 116]) = false := by have := str_ne hget; rwa [show ByteArray.toList wGet = [103, 101, 116] from by rw [ByteArray.toList_eq]; rfl] at this
    have eput : (word.toList == [112, 117, 116]) = false := by have := str_ne hput; rwa [show ByteArray.toList wPut = [112, 117, 116] from by rw [ByteArray.toList_eq]; rfl] at this
    have edel : (word.toList == [100, 101, 108]) = true := by rw [hdel, ByteArray.toList_eq]; rfl
    clear hget hput hdel
    go_enter Tryz.func53, Tryz.ntmps53
    go_wp2_with fail
    refine (C1.out L _ P0.out G0.out).mono ?_
    generalize w.alloc (.cells #[.int .i64 0, .string ⟨#[]⟩, .string ⟨#[]⟩, .string ⟨#[]⟩, .string ⟨#[]⟩, .int .i64 0, .bool false] 26) = U at *
    rintro r w1 ⟨rfl, hP, hO⟩
    have P1 := hid hP
    have O1 := hid (O0.out.trans hO)
    have G1 := hid (G0.out.only hO (by have := P0.out.lt; omega) (fun b hb q => by have q' : b = g + 2 := q; omega))
    have K1 := hid (K0.out.to hO (fun q => by have q' : w.heap.size = g + 2 := q; omega))
    clear hP hO P0 O0 G0 K0
    have r0 := K1.out.cell (j := 0) rfl
    have f0 := K1.out.free 0
    have r1 := K1.out.cell (j := 1) rfl
    have f1 := K1.out.free 1
    have r2 := K1.out.cell (j := 2) rfl
    have f2 := K1.out.free 2
    have r3 := K1.out.cell (j := 3) rfl
    have f3 := K1.out.free 3
    have r4 := K1.out.cell (j := 4) rfl
    have f4 := K1.out.free 4
    have r5 := K1.out.cell (j := 5) rfl
    have f5 := K1.out.free 5
    have r6 := K1.out.cell (j := 6) rfl
    have f6 := K1.out.free 6
    have KF : Hid (Bk (((((((w1.setCell ⟨w.heap.size, 0, none⟩ (.int .i64 3)).setCell ⟨w.heap.size, 1, none⟩ (.string (uqS (rdW L 0)))).setCell ⟨w.heap.size, 2, none⟩ (.string ⟨#[]⟩)).setCell ⟨w.heap.size, 3, none⟩ (.string ⟨#[]⟩)).setCell ⟨w.heap.size, 4, none⟩ (.string ⟨#[]⟩)).setCell ⟨w.heap.size, 5, none⟩ (.int .i64 0)).setCell ⟨w.heap.size, 6, none⟩ (.bool false)) w.heap.size 26 [.int .i64 3, .string (uqS (rdW L 0)), .string ⟨#[]⟩, .string ⟨#[]⟩, .string ⟨#[]⟩, .int .i64 0, .bool false]) := (((((((K1.out.set 0 _).set 1 _).set 2 _).set 3 _).set 4 _).set 5 _).set 6 _)
    have OS : Hid (Only (fun y => y = w.heap.size) w1 (((((((w1.setCell ⟨w.heap.size, 0, none⟩ (.int .i64 3)).setCell ⟨w.heap.size, 1, none⟩ (.string (uqS (rdW L 0)))).setCell ⟨w.heap.size, 2, none⟩ (.string ⟨#[]⟩)).setCell ⟨w.heap.size, 3, none⟩ (.string ⟨#[]⟩)).setCell ⟨w.heap.size, 4, none⟩ (.string ⟨#[]⟩)).setCell ⟨w.heap.size, 5, none⟩ (.int .i64 0)).setCell ⟨w.heap.size, 6, none⟩ (.bool false))) := (only_step (only_step (only_step (only_step (only_step (only_step (only_set (R := fun y => y = w.heap.size) (p := ⟨w.heap.size, 0, none⟩) rfl _) rfl 1 _) rfl 2 _) rfl 3 _) rfl 4 _) rfl 5 _) rfl 6 _)
    have OF : Hid (Only (At g) w (((((((w1.setCell ⟨w.heap.size, 0, none⟩ (.int .i64 3)).setCell ⟨w.heap.size, 1, none⟩ (.string (uqS (rdW L 0)))).setCell ⟨w.heap.size, 2, none⟩ (.string ⟨#[]⟩)).setCell ⟨w.heap.size, 3, none⟩ (.string ⟨#[]⟩)).setCell ⟨w.heap.size, 4, none⟩ (.string ⟨#[]⟩)).setCell ⟨w.heap.size, 5, none⟩ (.int .i64 0)).setCell ⟨w.heap.size, 6, none⟩ (.bool false))) := only_new O1.out OS.out (by omega)
    go_wp2
    try simp only [Exit.inBlock, Exit.then]
    refine bodyPost_ret (v := .agg #[.int .i64 3, .string (uqS (rdW L 0)), .string ⟨#[]⟩, .string ⟨#[]⟩, .string ⟨#[]⟩, .int .i64 0, .bool false]) ?_ rfl ?_
    · exact results_ask rfl _ _ _ rfl (KF.out.cell (j := 0) rfl) (KF.out.cell (j := 1) rfl) (KF.out.cell (j := 2) rfl) (KF.out.cell (j := 3) rfl) (KF.out.cell (j := 4) rfl) (KF.out.cell (j := 5) rfl) (KF.out.cell (j := 6) rfl)
    · exact ⟨by rw [HV.out]; try rfl, OF.out⟩
  by_cases hback : word = wBack
  · have hscan : ¬ word = wScan := by rw [hback]; decide
    have HV : Hid (caI word L = (2, 4, ⟨#[]⟩, ⟨#[]⟩, uqS (rdW L 0), uqS (rdW L 1), tgN (rdW L 2), true)) := by rw [← decide_eq_true hback]; exact (if_neg hget).trans ((if_neg hput).trans ((if_neg hdel).trans (if_pos (.inr hback))))
    have eget : (word.toList == [103, 101, 116]) = false := by have := str_ne hget; rwa [show ByteArray.toList wGet = [103, 101, 116] from by rw [ByteArray.toList_eq]; rfl] at this
    have eput : (word.toList == [112, 117, 116]) = false := by have := str_ne hput; rwa [show ByteArray.toList wPut = [112, 117, 116] from by rw [ByteArray.toList_eq]; rfl] at this
    have edel : (word.toList == [100, 101, 108]) = false := by have := str_ne hdel; rwa [show ByteArray.toList wDel = [100, 101, 108] from by rw [ByteArray.toList_eq]; rfl] at this
    have escan : (word.toList == [115, 99, 97, 110]) = false := by have := str_ne hscan; rwa [show ByteArray.toList wScan = [115, 99, 97, 110] from by rw [ByteArray.toList_eq]; rfl] at this
    have eback : (word.toList == [98, 97, 99, 107]) = true := by rw [hback, ByteArray.toList_eq]; rfl
    clear hget hput hdel hscan hback
    go_enter Tryz.func53, Tryz.ntmps53
    go_wp2_with fail
    refine (C1.out L _ P0.out G0.out).mono ?_
    generalize w.alloc (.cells #[.int .i64 0, .string ⟨#[]⟩, .string ⟨#[]⟩, .string ⟨#[]⟩, .string ⟨#[]⟩, .int .i64 0, .bool false] 26) = U at *
    rintro r w1 ⟨rfl, hP, hO⟩
    have P1 := hid hP
    have O1 := hid (O0.out.trans hO)
    have G1 := hid (G0.out.only hO (by have := P0.out.lt; omega) (fun b hb q => by have q' : b = g + 2 := q; omega))
    have K1 := hid (K0.out.to hO (fun q => by have q' : w.heap.size = g + 2 := q; omega))
    clear hP hO P0 O0 G0 K0
    go_wp2_with fail
    refine (C1.out (L.drop 1) _ P1.out G1.out).mono ?_
    rintro r w2 ⟨rfl, hP, hO⟩
    rw [rdW_drop]
    rw [List.drop_drop] at hP
    have P2 := hid hP
    have O2 := hid (O1.out.trans hO)
    have G2 := hid (G1.out.only hO (by have := P1.out.lt; omega) (fun b hb q => by have q' : b = g + 2 := q; omega))
    have K2 := hid (K1.out.to hO (fun q => by have q' : w.heap.size = g + 2 := q; omega))
    clear hP hO P1 O1 G1 K1
    have hb := below_new (o := .cells #[.string (uqS (rdW L 0)), .string (uqS (rdW L (1 + 0)))] 24) (w := w2) (Below.refl _ _)
    have R3 := hid (Bk.new w2 24 [.string (uqS (rdW L 0)), .string (uqS (rdW L (1 + 0)))])
    have P3 := hid (P2.out.below hb)
    have O3 := hid (O2.out.trans (only_of_below hb (At g)))
    have G3 := hid (G2.out.to (hb.mono (by have := P2.out.lt; omega)))
    have K3 := hid (K2.out.below hb)
    have HW : Hid (g + 2 < w2.heap.size ∧ w.heap.size < w2.heap.size) := ⟨P2.out.lt, K2.out.lt⟩
    clear hb P2 O2 G2 K2
    go_wp2_with fail
    generalize w2.alloc (.cells #[.string (uqS (rdW L 0)), .string (uqS (rdW L (1 + 0)))] 24) = w3 at *
    generalize w2.heap.size = gr at *
    refine wp_region_noPanic ?_
    refine wp_region_held_drew (S := fun v => v.cell? ⟨gr, 0, none⟩ = some (.string (uqS (rdW L 0))) ∧ v.cell? ⟨gr, 1, none⟩ = some (.string (uqS (rdW L (1 + 0))))) (by kernel_rfl) (⟨(R3.out.below (below_drew _)).cell (j := 0) rfl, (R3.out.below (below_drew _)).cell (j := 1) rfl⟩) (fun hHeld => ?_)
    simp only [List.size_toArray, List.length_cons, List.length_nil, Array.replicate_succ, Array.replicate_zero, Nat.reduceAdd, List.push_toArray, List.nil_append, List.cons_append]
    refine wpAnyH_take (i := 0) (v := (.agg #[.string (uqS (rdW L 0)), .string (uqS (rdW L (1 + 0)))])) rfl (by kernel_rfl) (by kernel_rfl) (by kernel_rfl) (fun _ _ _ h => h) (Or.inl ⟨by rfl, ?_⟩) (by assumption) ?_
    · intro w hSw
      (try dsimp only at hSw)
      go_simp
    try simp only [List.getElem_toArray]
    try simp only [List.getElem_cons_succ]
    try simp only [List.getElem_cons_zero]
    try simp only [Act.put]
    try simp only [List.setIfInBounds_toArray]
    try simp only [List.set_cons_succ]
    try simp only [List.set_cons_zero]
    refine wpAnyH_take (i := 1) (v := (.func (.func 42) #[] #[.pointer (some ⟨g + 2, 0, none⟩), .pointer (some ⟨g, 0, none⟩), .pointer (some ⟨g + 1, 0, none⟩)])) rfl (by kernel_rfl) (by kernel_rfl) (by kernel_rfl) (fun _ _ _ h => h) (Or.inl ⟨by rfl, ?_⟩) (by assumption) ?_
    · intro w hSw
      (try dsimp only at hSw)
      go_simp
    try simp only [List.getElem_toArray]
    try simp only [List.getElem_cons_succ]
    try simp only [List.getElem_cons_zero]
    try simp only [Act.put]
    try simp only [List.setIfInBounds_toArray]
    try simp only [List.set_cons_succ]
    try simp only [List.set_cons_zero]
    refine wpAnyH_take (i := 3) (v := (.string word)) rfl (by kernel_rfl) (by kernel_rfl) (by kernel_rfl) (fun _ _ _ h => h) (Or.inl ⟨by rfl, ?_⟩) (by assumption) ?_
    · intro w hSw
      (try dsimp only at hSw)
      go_simp
    try simp only [List.getElem_toArray]
    try simp only [List.getElem_cons_succ]
    try simp only [List.getElem_cons_zero]
    try simp only [Act.put]
    try simp only [List.setIfInBounds_toArray]
    try simp only [List.set_cons_succ]
    try simp only [List.set_cons_zero]
    refine wpAnyH_take (i := 4) (v := (.bool true)) rfl (by kernel_rfl) (by kernel_rfl) (by kernel_rfl) (fun _ _ _ h => h) (Or.inl ⟨by rfl, ?_⟩) (by assumption) ?_
    · intro w hSw
      (try dsimp only at hSw)
      go_simp
    try simp only [List.getElem_toArray]
    try simp only [List.getElem_cons_succ]
    try simp only [List.getElem_cons_zero]
    try simp only [Act.put]
    try simp only [List.setIfInBounds_toArray]
    try simp only [List.set_cons_succ]
    try simp only [List.set_cons_zero]
    have R4 := hid (R3.out.below (below_drew _))
    have P4 := hid (P3.out.below (below_drew _))
    have O4 := hid (O3.out.trans (only_of_below (below_drew _) (At g)))
    have G4 := hid (G3.out.to ((below_drew w3).mono (by have := P3.out.lt; omega)))
    have K4 := hid (K3.out.below (below_drew _))
    clear R3 P3 O3 G3 K3
    generalize w3.drew = w4 at *
    refine wpAnyH_ready (rs := [2]) (by kernel_rfl) (by simp) ?_
    refine AllReadyH.cons rfl (fun K1 hK => ?_) AllReadyH.nil
    go_simp
    refine (C2.out (L.drop 2) _ P4.out G4.out).mono ?_
    rintro r w5 ⟨rfl, hP, hO⟩
    rw [rdW_drop]
    go_wp2_with fail
    have hgr := HW.out
    have R5 := hid (R4.out.to hO (fun q => by have q' : gr = g + 2 := q; omega))
    have O5 := hid (O4.out.trans hO)
    have K5 := hid (K4.out.to hO (fun q => by have q' : w.heap.size = g + 2 := q; omega))
    clear hP hO R4 P4 O4 G4 K4
    refine hK.out _ _ ?_ (fun hHeld => ?_)
    · exact ⟨R5.out.cell (j := 0) rfl, R5.out.cell (j := 1) rfl⟩
    clear hK K1
    try simp only [List.getElem_toArray]
    try simp only [List.getElem_cons_succ]
    try simp only [List.getElem_cons_zero]
    try simp only [Act.put]
    try simp only [List.setIfInBounds_toArray]
    try simp only [List.set_cons_succ]
    try simp only [List.set_cons_zero]
    refine wpAnyH_take (i := 5) (v := (.agg #[.int .i64 4, .string ⟨#[]⟩, .string ⟨#[]⟩, .string (uqS (rdW L 0)), .string (uqS (rdW L (1 + 0))), .int .i64 (tgN (rdW L (2 + 0))), .bool true])) rfl (by kernel_rfl) (by kernel_rfl) (by kernel_rfl) (fun _ _ _ h => h) (Or.inl ⟨by rfl, ?_⟩) (by assumption) ?_
    · intro w hSw
      (try dsimp only at hSw)
      go_simp
    try simp only [List.getElem_toArray]
    try simp only [List.getElem_cons_succ]
    try simp only [List.getElem_cons_zero]
    try simp only [Act.put]
    try simp only [List.setIfInBounds_toArray]
    try simp only [List.set_cons_succ]
    try simp only [List.set_cons_zero]
    refine wpAnyH_ready (rs := [6]) (by kernel_rfl) (by simp) ?_
    refine AllReadyH.cons rfl (fun K1 hK => ?_) AllReadyH.nil
    have r0 := K5.out.cell (j := 0) rfl
    have f0 := K5.out.free 0
    have r1 := K5.out.cell (j := 1) rfl
    have f1 := K5.out.free 1
    have r2 := K5.out.cell (j := 2) rfl
    have f2 := K5.out.free 2
    have r3 := K5.out.cell (j := 3) rfl
    have f3 := K5.out.free 3
    have r4 := K5.out.cell (j := 4) rfl
    have f4 := K5.out.free 4
    have r5 := K5.out.cell (j := 5) rfl
    have f5 := K5.out.free 5
    have r6 := K5.out.cell (j := 6) rfl
    have f6 := K5.out.free 6
    have KF : Hid (Bk (((((((w5.setCell ⟨w.heap.size, 0, none⟩ (.int .i64 4)).setCell ⟨w.heap.size, 1, none⟩ (.string ⟨#[]⟩)).setCell ⟨w.heap.size, 2, none⟩ (.string ⟨#[]⟩)).setCell ⟨w.heap.size, 3, none⟩ (.string (uqS (rdW L 0)))).setCell ⟨w.heap.size, 4, none⟩ (.string (uqS (rdW L (1 + 0))))).setCell ⟨w.heap.size, 5, none⟩ (.int .i64 (tgN (rdW L (2 + 0))))).setCell ⟨w.heap.size, 6, none⟩ (.bool true)) w.heap.size 26 [.int .i64 4, .string ⟨#[]⟩, .string ⟨#[]⟩, .string (uqS (rdW L 0)), .string (uqS (rdW L (1 + 0))), .int .i64 (tgN (rdW L (2 + 0))), .bool true]) := (((((((K5.out.set 0 _).set 1 _).set 2 _).set 3 _).set 4 _).set 5 _).set 6 _)
    have OS : Hid (Only (fun y => y = w.heap.size) w5 (((((((w5.setCell ⟨w.heap.size, 0, none⟩ (.int .i64 4)).setCell ⟨w.heap.size, 1, none⟩ (.string ⟨#[]⟩)).setCell ⟨w.heap.size, 2, none⟩ (.string ⟨#[]⟩)).setCell ⟨w.heap.size, 3, none⟩ (.string (uqS (rdW L 0)))).setCell ⟨w.heap.size, 4, none⟩ (.string (uqS (rdW L (1 + 0))))).setCell ⟨w.heap.size, 5, none⟩ (.int .i64 (tgN (rdW L (2 + 0))))).setCell ⟨w.heap.size, 6, none⟩ (.bool true))) := (only_step (only_step (only_step (only_step (only_step (only_step (only_set (R := fun y => y = w.heap.size) (p := ⟨w.heap.size, 0, none⟩) rfl _) rfl 1 _) rfl 2 _) rfl 3 _) rfl 4 _) rfl 5 _) rfl 6 _)
    have OF : Hid (Only (At g) w (((((((w5.setCell ⟨w.heap.size, 0, none⟩ (.int .i64 4)).setCell ⟨w.heap.size, 1, none⟩ (.string ⟨#[]⟩)).setCell ⟨w.heap.size, 2, none⟩ (.string ⟨#[]⟩)).setCell ⟨w.heap.size, 3, none⟩ (.string (uqS (rdW L 0)))).setCell ⟨w.heap.size, 4, none⟩ (.string (uqS (rdW L (1 + 0))))).setCell ⟨w.heap.size, 5, none⟩ (.int .i64 (tgN (rdW L (2 + 0))))).setCell ⟨w.heap.size, 6, none⟩ (.bool true))) := only_new O5.out OS.out (by omega)
    have R6 : Hid (Bk (((((((w5.setCell ⟨w.heap.size, 0, none⟩ (.int .i64 4)).setCell ⟨w.heap.size, 1, none⟩ (.string ⟨#[]⟩)).setCell ⟨w.heap.size, 2, none⟩ (.string ⟨#[]⟩)).setCell ⟨w.heap.size, 3, none⟩ (.string (uqS (rdW L 0)))).setCell ⟨w.heap.size, 4, none⟩ (.string (uqS (rdW L (1 + 0))))).setCell ⟨w.heap.size, 5, none⟩ (.int .i64 (tgN (rdW L (2 + 0))))).setCell ⟨w.heap.size, 6, none⟩ (.bool true)) gr 24 [.string (uqS (rdW L 0)), .string (uqS (rdW L (1 + 0)))]) := R5.out.to OS.out (by omega)
    go_simp
    try go_wp2_with fail
    refine hK.out _ _ ?_ (fun hHeld => ?_)
    · exact ⟨R6.out.cell (j := 0) rfl, R6.out.cell (j := 1) rfl⟩
    clear hK K1
    try simp only [List.getElem_toArray]
    try simp only [List.getElem_cons_succ]
    try simp only [List.getElem_cons_zero]
    try simp only [Act.put]
    try simp only [List.setIfInBounds_toArray]
    try simp only [List.set_cons_succ]
    try simp only [List.set_cons_zero]
    refine wpAnyH_done (by kernel_rfl) ?_ _
    refine NoPanic.normal ?_
    clear r0 f0 r1 f1 r2 f2 r3 f3 r4 f4 r5 f5 r6 f6
    generalize (((((((w5.setCell ⟨w.heap.size, 0, none⟩ (.int .i64 4)).setCell ⟨w.heap.size, 1, none⟩ (.string ⟨#[]⟩)).setCell ⟨w.heap.size, 2, none⟩ (.string ⟨#[]⟩)).setCell ⟨w.heap.size, 3, none⟩ (.string (uqS (rdW L 0)))).setCell ⟨w.heap.size, 4, none⟩ (.string (uqS (rdW L (1 + 0))))).setCell ⟨w.heap.size, 5, none⟩ (.int .i64 (tgN (rdW L (2 + 0))))).setCell ⟨w.heap.size, 6, none⟩ (.bool true)) = W9 at *
    go_wp2
    try simp only [Exit.inBlock, Exit.then]
    refine bodyPost_ret (v := .agg #[.int .i64 4, .string ⟨#[]⟩, .string ⟨#[]⟩, .string (uqS (rdW L 0)), .string (uqS (rdW L (1 + 0))), .int .i64 (tgN (rdW L (2 + 0))), .bool true]) ?_ rfl ?_
    · exact results_ask rfl _ _ _ rfl (KF.out.cell (j := 0) rfl) (KF.out.cell (j := 1) rfl) (KF.out.cell (j := 2) rfl) (KF.out.cell (j := 3) rfl) (KF.out.cell (j := 4) rfl) (KF.out.cell (j := 5) rfl) (KF.out.cell (j := 6) rfl)
    · exact ⟨by rw [HV.out]; try rfl, OF.out⟩
  by_cases hscan : word = wScan
  · have HV : Hid (caI word L = (2, 4, ⟨#[]⟩, ⟨#[]⟩, uqS (rdW L 0), uqS (rdW L 1), tgN (rdW L 2), false)) := by rw [← decide_eq_false hback]; exact (if_neg hget).trans ((if_neg hput).trans ((if_neg hdel).trans (if_pos (.inl hscan))))
    have eget : (word.toList == [103, 101, 116]) = false := by have := str_ne hget; rwa [show ByteArray.toList wGet = [103, 101, 116] from by rw [ByteArray.toList_eq]; rfl] at this
    have eput : (word.toList == [112, 117, 116]) = false := by have := str_ne hput; rwa [show ByteArray.toList wPut = [112, 117, 116] from by rw [ByteArray.toList_eq]; rfl] at this
    have edel : (word.toList == [100, 101, 108]) = false := by have := str_ne hdel; rwa [show ByteArray.toList wDel = [100, 101, 108] from by rw [ByteArray.toList_eq]; rfl] at this
    have escan : (word.toList == [115, 99, 97, 110]) = true := by rw [hscan, ByteArray.toList_eq]; rfl
    have eback : (word.toList == [98, 97, 99, 107]) = false := by have := str_ne hback; rwa [show ByteArray.toList wBack = [98, 97, 99, 107] from by rw [ByteArray.toList_eq]; rfl] at this
    clear hget hput hdel hscan hback
    go_enter Tryz.func53, Tryz.ntmps53
    go_wp2_with fail
    refine (C1.out L _ P0.out G0.out).mono ?_
    generalize w.alloc (.cells #[.int .i64 0, .string ⟨#[]⟩, .string ⟨#[]⟩, .string ⟨#[]⟩, .string ⟨#[]⟩, .int .i64 0, .bool false] 26) = U at *
    rintro r w1 ⟨rfl, hP, hO⟩
    have P1 := hid hP
    have O1 := hid (O0.out.trans hO)
    have G1 := hid (G0.out.only hO (by have := P0.out.lt; omega) (fun b hb q => by have q' : b = g + 2 := q; omega))
    have K1 := hid (K0.out.to hO (fun q => by have q' : w.heap.size = g + 2 := q; omega))
    clear hP hO P0 O0 G0 K0
    go_wp2_with fail
    refine (C1.out (L.drop 1) _ P1.out G1.out).mono ?_
    rintro r w2 ⟨rfl, hP, hO⟩
    rw [rdW_drop]
    rw [List.drop_drop] at hP
    have P2 := hid hP
    have O2 := hid (O1.out.trans hO)
    have G2 := hid (G1.out.only hO (by have := P1.out.lt; omega) (fun b hb q => by have q' : b = g + 2 := q; omega))
    have K2 := hid (K1.out.to hO (fun q => by have q' : w.heap.size = g + 2 := q; omega))
    clear hP hO P1 O1 G1 K1
    have hb := below_new (o := .cells #[.string (uqS (rdW L 0)), .string (uqS (rdW L (1 + 0)))] 24) (w := w2) (Below.refl _ _)
    have R3 := hid (Bk.new w2 24 [.string (uqS (rdW L 0)), .string (uqS (rdW L (1 + 0)))])
    have P3 := hid (P2.out.below hb)
    have O3 := hid (O2.out.trans (only_of_below hb (At g)))
    have G3 := hid (G2.out.to (hb.mono (by have := P2.out.lt; omega)))
    have K3 := hid (K2.out.below hb)
    have HW : Hid (g + 2 < w2.heap.size ∧ w.heap.size < w2.heap.size) := ⟨P2.out.lt, K2.out.lt⟩
    clear hb P2 O2 G2 K2
    go_wp2_with fail
    generalize w2.alloc (.cells #[.string (uqS (rdW L 0)), .string (uqS (rdW L (1 + 0)))] 24) = w3 at *
    generalize w2.heap.size = gr at *
    refine wp_region_noPanic ?_
    refine wp_region_held_drew (S := fun v => v.cell? ⟨gr, 0, none⟩ = some (.string (uqS (rdW L 0))) ∧ v.cell? ⟨gr, 1, none⟩ = some (.string (uqS (rdW L (1 + 0))))) (by kernel_rfl) (⟨(R3.out.below (below_drew _)).cell (j := 0) rfl, (R3.out.below (below_drew _)).cell (j := 1) rfl⟩) (fun hHeld => ?_)
    simp only [List.size_toArray, List.length_cons, List.length_nil, Array.replicate_succ, Array.replicate_zero, Nat.reduceAdd, List.push_toArray, List.nil_append, List.cons_append]
    refine wpAnyH_take (i := 0) (v := (.agg #[.string (uqS (rdW L 0)), .string (uqS (rdW L (1 + 0)))])) rfl (by kernel_rfl) (by kernel_rfl) (by kernel_rfl) (fun _ _ _ h => h) (Or.inl ⟨by rfl, ?_⟩) (by assumption) ?_
    · intro w hSw
      (try dsimp only at hSw)
      go_simp
    try simp only [List.getElem_toArray]
    try simp only [List.getElem_cons_succ]
    try simp only [List.getElem_cons_zero]
    try simp only [Act.put]
    try simp only [List.setIfInBounds_toArray]
    try simp only [List.set_cons_succ]
    try simp only [List.set_cons_zero]
    refine wpAnyH_take (i := 1) (v := (.func (.func 42) #[] #[.pointer (some ⟨g + 2, 0, none⟩), .pointer (some ⟨g, 0, none⟩), .pointer (some ⟨g + 1, 0, none⟩)])) rfl (by kernel_rfl) (by kernel_rfl) (by kernel_rfl) (fun _ _ _ h => h) (Or.inl ⟨by rfl, ?_⟩) (by assumption) ?_
    · intro w hSw
      (try dsimp only at hSw)
      go_simp
    try simp only [List.getElem_toArray]
    try simp only [List.getElem_cons_succ]
    try simp only [List.getElem_cons_zero]
    try simp only [Act.put]
    try simp only [List.setIfInBounds_toArray]
    try simp only [List.set_cons_succ]
    try simp only [List.set_cons_zero]
    refine wpAnyH_take (i := 3) (v := (.string word)) rfl (by kernel_rfl) (by kernel_rfl) (by kernel_rfl) (fun _ _ _ h => h) (Or.inl ⟨by rfl, ?_⟩) (by assumption) ?_
    · intro w hSw
      (try dsimp only at hSw)
      go_simp
    try simp only [List.getElem_toArray]
    try simp only [List.getElem_cons_succ]
    try simp only [List.getElem_cons_zero]
    try simp only [Act.put]
    try simp only [List.setIfInBounds_toArray]
    try simp only [List.set_cons_succ]
    try simp only [List.set_cons_zero]
    refine wpAnyH_take (i := 4) (v := (.bool false)) rfl (by kernel_rfl) (by kernel_rfl) (by kernel_rfl) (fun _ _ _ h => h) (Or.inl ⟨by rfl, ?_⟩) (by assumption) ?_
    · intro w hSw
      (try dsimp only at hSw)
      go_simp
    try simp only [List.getElem_toArray]
    try simp only [List.getElem_cons_succ]
    try simp only [List.getElem_cons_zero]
    try simp only [Act.put]
    try simp only [List.setIfInBounds_toArray]
    try simp only [List.set_cons_succ]
    try simp only [List.set_cons_zero]
    have R4 := hid (R3.out.below (below_drew _))
    have P4 := hid (P3.out.below (below_drew _))
    have O4 := hid (O3.out.trans (only_of_below (below_drew _) (At g)))
    have G4 := hid (G3.out.to ((below_drew w3).mono (by have := P3.out.lt; omega)))
    have K4 := hid (K3.out.below (below_drew _))
    clear R3 P3 O3 G3 K3
    generalize w3.drew = w4 at *
    refine wpAnyH_ready (rs := [2]) (by kernel_rfl) (by simp) ?_
    refine AllReadyH.cons rfl (fun K1 hK => ?_) AllReadyH.nil
    go_simp
    refine (C2.out (L.drop 2) _ P4.out G4.out).mono ?_
    rintro r w5 ⟨rfl, hP, hO⟩
    rw [rdW_drop]
    go_wp2_with fail
    have hgr := HW.out
    have R5 := hid (R4.out.to hO (fun q => by have q' : gr = g + 2 := q; omega))
    have O5 := hid (O4.out.trans hO)
    have K5 := hid (K4.out.to hO (fun q => by have q' : w.heap.size = g + 2 := q; omega))
    clear hP hO R4 P4 O4 G4 K4
    refine hK.out _ _ ?_ (fun hHeld => ?_)
    · exact ⟨R5.out.cell (j := 0) rfl, R5.out.cell (j := 1) rfl⟩
    clear hK K1
    try simp only [List.getElem_toArray]
    try simp only [List.getElem_cons_succ]
    try simp only [List.getElem_cons_zero]
    try simp only [Act.put]
    try simp only [List.setIfInBounds_toArray]
    try simp only [List.set_cons_succ]
    try simp only [List.set_cons_zero]
    refine wpAnyH_take (i := 5) (v := (.agg #[.int .i64 4, .string ⟨#[]⟩, .string ⟨#[]⟩, .string (uqS (rdW L 0)), .string (uqS (rdW L (1 + 0))), .int .i64 (tgN (rdW L (2 + 0))), .bool false])) rfl (by kernel_rfl) (by kernel_rfl) (by kernel_rfl) (fun _ _ _ h => h) (Or.inl ⟨by rfl, ?_⟩) (by assumption) ?_
    · intro w hSw
      (try dsimp only at hSw)
      go_simp
    try simp only [List.getElem_toArray]
    try simp only [List.getElem_cons_succ]
    try simp only [List.getElem_cons_zero]
    try simp only [Act.put]
    try simp only [List.setIfInBounds_toArray]
    try simp only [List.set_cons_succ]
    try simp only [List.set_cons_zero]
    refine wpAnyH_ready (rs := [6]) (by kernel_rfl) (by simp) ?_
    refine AllReadyH.cons rfl (fun K1 hK => ?_) AllReadyH.nil
    have r0 := K5.out.cell (j := 0) rfl
    have f0 := K5.out.free 0
    have r1 := K5.out.cell (j := 1) rfl
    have f1 := K5.out.free 1
    have r2 := K5.out.cell (j := 2) rfl
    have f2 := K5.out.free 2
    have r3 := K5.out.cell (j := 3) rfl
    have f3 := K5.out.free 3
    have r4 := K5.out.cell (j := 4) rfl
    have f4 := K5.out.free 4
    have r5 := K5.out.cell (j := 5) rfl
    have f5 := K5.out.free 5
    have r6 := K5.out.cell (j := 6) rfl
    have f6 := K5.out.free 6
    have KF : Hid (Bk (((((((w5.setCell ⟨w.heap.size, 0, none⟩ (.int .i64 4)).setCell ⟨w.heap.size, 1, none⟩ (.string ⟨#[]⟩)).setCell ⟨w.heap.size, 2, none⟩ (.string ⟨#[]⟩)).setCell ⟨w.heap.size, 3, none⟩ (.string (uqS (rdW L 0)))).setCell ⟨w.heap.size, 4, none⟩ (.string (uqS (rdW L (1 + 0))))).setCell ⟨w.heap.size, 5, none⟩ (.int .i64 (tgN (rdW L (2 + 0))))).setCell ⟨w.heap.size, 6, none⟩ (.bool false)) w.heap.size 26 [.int .i64 4, .string ⟨#[]⟩, .string ⟨#[]⟩, .string (uqS (rdW L 0)), .string (uqS (rdW L (1 + 0))), .int .i64 (tgN (rdW L (2 + 0))), .bool false]) := (((((((K5.out.set 0 _).set 1 _).set 2 _).set 3 _).set 4 _).set 5 _).set 6 _)
    have OS : Hid (Only (fun y => y = w.heap.size) w5 (((((((w5.setCell ⟨w.heap.size, 0, none⟩ (.int .i64 4)).setCell ⟨w.heap.size, 1, none⟩ (.string ⟨#[]⟩)).setCell ⟨w.heap.size, 2, none⟩ (.string ⟨#[]⟩)).setCell ⟨w.heap.size, 3, none⟩ (.string (uqS (rdW L 0)))).setCell ⟨w.heap.size, 4, none⟩ (.string (uqS (rdW L (1 + 0))))).setCell ⟨w.heap.size, 5, none⟩ (.int .i64 (tgN (rdW L (2 + 0))))).setCell ⟨w.heap.size, 6, none⟩ (.bool false))) := (only_step (only_step (only_step (only_step (only_step (only_step (only_set (R := fun y => y = w.heap.size) (p := ⟨w.heap.size, 0, none⟩) rfl _) rfl 1 _) rfl 2 _) rfl 3 _) rfl 4 _) rfl 5 _) rfl 6 _)
    have OF : Hid (Only (At g) w (((((((w5.setCell ⟨w.heap.size, 0, none⟩ (.int .i64 4)).setCell ⟨w.heap.size, 1, none⟩ (.string ⟨#[]⟩)).setCell ⟨w.heap.size, 2, none⟩ (.string ⟨#[]⟩)).setCell ⟨w.heap.size, 3, none⟩ (.string (uqS (rdW L 0)))).setCell ⟨w.heap.size, 4, none⟩ (.string (uqS (rdW L (1 + 0))))).setCell ⟨w.heap.size, 5, none⟩ (.int .i64 (tgN (rdW L (2 + 0))))).setCell ⟨w.heap.size, 6, none⟩ (.bool false))) := only_new O5.out OS.out (by omega)
    have R6 : Hid (Bk (((((((w5.setCell ⟨w.heap.size, 0, none⟩ (.int .i64 4)).setCell ⟨w.heap.size, 1, none⟩ (.string ⟨#[]⟩)).setCell ⟨w.heap.size, 2, none⟩ (.string ⟨#[]⟩)).setCell ⟨w.heap.size, 3, none⟩ (.string (uqS (rdW L 0)))).setCell ⟨w.heap.size, 4, none⟩ (.string (uqS (rdW L (1 + 0))))).setCell ⟨w.heap.size, 5, none⟩ (.int .i64 (tgN (rdW L (2 + 0))))).setCell ⟨w.heap.size, 6, none⟩ (.bool false)) gr 24 [.string (uqS (rdW L 0)), .string (uqS (rdW L (1 + 0)))]) := R5.out.to OS.out (by omega)
    go_simp
    try go_wp2_with fail
    refine hK.out _ _ ?_ (fun hHeld => ?_)
    · exact ⟨R6.out.cell (j := 0) rfl, R6.out.cell (j := 1) rfl⟩
    clear hK K1
    try simp only [List.getElem_toArray]
    try simp only [List.getElem_cons_succ]
    try simp only [List.getElem_cons_zero]
    try simp only [Act.put]
    try simp only [List.setIfInBounds_toArray]
    try simp only [List.set_cons_succ]
    try simp only [List.set_cons_zero]
    refine wpAnyH_done (by kernel_rfl) ?_ _
    refine NoPanic.normal ?_
    clear r0 f0 r1 f1 r2 f2 r3 f3 r4 f4 r5 f5 r6 f6
    generalize (((((((w5.setCell ⟨w.heap.size, 0, none⟩ (.int .i64 4)).setCell ⟨w.heap.size, 1, none⟩ (.string ⟨#[]⟩)).setCell ⟨w.heap.size, 2, none⟩ (.string ⟨#[]⟩)).setCell ⟨w.heap.size, 3, none⟩ (.string (uqS (rdW L 0)))).setCell ⟨w.heap.size, 4, none⟩ (.string (uqS (rdW L (1 + 0))))).setCell ⟨w.heap.size, 5, none⟩ (.int .i64 (tgN (rdW L (2 + 0))))).setCell ⟨w.heap.size, 6, none⟩ (.bool false)) = W9 at *
    go_wp2
    try simp only [Exit.inBlock, Exit.then]
    refine bodyPost_ret (v := .agg #[.int .i64 4, .string ⟨#[]⟩, .string ⟨#[]⟩, .string (uqS (rdW L 0)), .string (uqS (rdW L (1 + 0))), .int .i64 (tgN (rdW L (2 + 0))), .bool false]) ?_ rfl ?_
    · exact results_ask rfl _ _ _ rfl (KF.out.cell (j := 0) rfl) (KF.out.cell (j := 1) rfl) (KF.out.cell (j := 2) rfl) (KF.out.cell (j := 3) rfl) (KF.out.cell (j := 4) rfl) (KF.out.cell (j := 5) rfl) (KF.out.cell (j := 6) rfl)
    · exact ⟨by rw [HV.out]; try rfl, OF.out⟩
  have HV : Hid (caI word L = (2, 0, ⟨#[]⟩, ⟨#[]⟩, ⟨#[]⟩, ⟨#[]⟩, 0, false)) := (if_neg hget).trans ((if_neg hput).trans ((if_neg hdel).trans (if_neg (by intro q; rcases q with q | q; exact hscan q; exact hback q))))
  have eget : (word.toList == [103, 101, 116]) = false := by have := str_ne hget; rwa [show ByteArray.toList wGet = [103, 101, 116] from by rw [ByteArray.toList_eq]; rfl] at this
  have eput : (word.toList == [112, 117, 116]) = false := by have := str_ne hput; rwa [show ByteArray.toList wPut = [112, 117, 116] from by rw [ByteArray.toList_eq]; rfl] at this
  have edel : (word.toList == [100, 101, 108]) = false := by have := str_ne hdel; rwa [show ByteArray.toList wDel = [100, 101, 108] from by rw [ByteArray.toList_eq]; rfl] at this
  have escan : (word.toList == [115, 99, 97, 110]) = false := by have := str_ne hscan; rwa [show ByteArray.toList wScan = [115, 99, 97, 110] from by rw [ByteArray.toList_eq]; rfl] at this
  have eback : (word.toList == [98, 97, 99, 107]) = false := by have := str_ne hback; rwa [show ByteArray.toList wBack = [98, 97, 99, 107] from by rw [ByteArray.toList_eq]; rfl] at this
  clear hget hput hdel hscan hback
  go_enter Tryz.func53, Tryz.ntmps53
  go_wp2
  try simp only [Exit.inBlock, Exit.then]
  refine bodyPost_ret (v := .agg #[.int .i64 0, .string ⟨#[]⟩, .string ⟨#[]⟩, .string ⟨#[]⟩, .string ⟨#[]⟩, .int .i64 0, .bool false]) ?_ rfl ?_
  · exact results_ask rfl _ _ _ rfl (K0.out.cell (j := 0) rfl) (K0.out.cell (j := 1) rfl) (K0.out.cell (j := 2) rfl) (K0.out.cell (j := 3) rfl) (K0.out.cell (j := 4) rfl) (K0.out.cell (j := 5) rfl) (K0.out.cell (j := 6) rfl)
  · exact ⟨by rw [HV.out]; try rfl, O0.out⟩
end Go.Proofs.YtjddkofpfmjojaaGreatDoor
/-
  readCall of the program.
-/
namespace Go.Proofs.YtjddkofpfmjojaaGreatDoor
open Go.RowKit
set_option linter.unusedVariables false
theorem caI_two (word : ByteArray) (L : List ByteArray) : (caI word L).1 = 2 := by
  by_cases h1 : word = wGet
  · rw [show caI word L = (2, 1, uqS (rdW L 0), ⟨#[]⟩, ⟨#[]⟩, ⟨#[]⟩, 0, false) from if_pos h1]
  by_cases h2 : word = wPut
  · rw [show caI word L = (2, 2, uqS (rdW L 0), uqS (rdW L 1), ⟨#[]⟩, ⟨#[]⟩, 0, false) from (if_neg h1).trans (if_pos h2)]
  by_cases h3 : word = wDel
  · rw [show caI word L = (2, 3, uqS (rdW L 0), ⟨#[]⟩, ⟨#[]⟩, ⟨#[]⟩, 0, false) from (if_neg h1).trans ((if_neg h2).trans (if_pos h3))]
  by_cases h4 : word = wScan ∨ word = wBack
  · rw [show caI word L = (2, 4, ⟨#[]⟩, ⟨#[]⟩, uqS (rdW L 0), uqS (rdW L 1), tgN (rdW L 2), decide (word = wBack)) from (if_neg h1).trans ((if_neg h2).trans ((if_neg h3).trans (if_pos h4)))]
  · rw [show caI word L = (2, 0, ⟨#[]⟩, ⟨#[]⟩, ⟨#[]⟩, ⟨#[]⟩, 0, false) from (if_neg h1).trans ((if_neg h2).trans ((if_neg h3).trans (if_neg h4)))]
set_option maxHeartbeats 16000000 in
set_option maxRecDepth 20000 in
theorem readCall_any (g : Nat) (s : ByteArray) (d : UInt8) (L : List ByteArray) (w : World) (h : PS w g s d L) (hs : s.size ≤ 1048576) (hG : GZ w g) :
    Calls Tryz.prog 40 #[nextV g] w fun e w' => e = .returned (.agg #[.int .i64 (ccI L).1, .int .i64 (ccI L).2.1, .string (ccI L).2.2.1, .string (ccI L).2.2.2.1, .string (ccI L).2.2.2.2.1, .string (ccI L).2.2.2.2.2.1, .int .i64 (ccI L).2.2.2.2.2.2.1, .bool (ccI L).2.2.2.2.2.2.2]) ∧ Only (At g) w w' := by
  have hgl := h.lt
  have C1 := hid (fun w h => next_any g s d L w h hs)
  have C2 := hid (fun word w h hG => readAsk_any g s d word (L.drop 1) w h hs hG)
  have hb0 : Below w.heap.size w (w.alloc (.cells #[.int .i64 0, .int .i64 0, .string ⟨#[]⟩, .string ⟨#[]⟩, .string ⟨#[]⟩, .string ⟨#[]⟩, .int .i64 0, .bool false] 28)) := below_new (Below.refl _ _)
  have P0 := hid (h.below hb0)
  have G0 := hid (hG.to (hb0.mono (by omega)))
  have O0 := hid (only_of_below hb0 (At g))
  have K0 := hid (Bk.new w 28 [.int .i64 0, .int .i64 0, .string ⟨#[]⟩, .string ⟨#[]⟩, .string ⟨#[]⟩, .string ⟨#[]⟩, .int .i64 0, .bool false])
  clear h hG hb0
  unfold nextV
  go_enter Tryz.func40, Tryz.ntmps40
  go_wp2_with fail
  refine (C1.out _ P0.out).mono ?_
  generalize w.alloc (.cells #[.int .i64 0, .int .i64 0, .string ⟨#[]⟩, .string ⟨#[]⟩, .string ⟨#[]⟩, .string ⟨#[]⟩, .int .i64 0, .bool false] 28) = U at *
  rintro r w1 ⟨rfl, hP, hO⟩
  have P1 := hid hP
  have O1 := hid (O0.out.trans hO)
  have G1 := hid (G0.out.only hO (by have := P0.out.lt; omega) (fun b hb q => by have q' : b = g + 2 := q; omega))
  have K1 := hid (K0.out.to hO (fun q => by have q' : w.heap.size = g + 2 := q; omega))
  clear hP hO P0 O0 G0 K0
  obtain ⟨word, hwd⟩ : ∃ x, rdW L 0 = x := ⟨_, rfl⟩
  rw [hwd]
  by_cases hbegin : rdW L 0 = wBegin
  · have HV : Hid (ccI L = (1, 0, ⟨#[]⟩, ⟨#[]⟩, ⟨#[]⟩, ⟨#[]⟩, 0, false)) := if_pos hbegin
    have ebegin : (word.toList == [98, 101, 103, 105, 110]) = true := by rw [← hwd, hbegin, ByteArray.toList_eq]; rfl
    clear hbegin
    clear hwd
    have r0 := K1.out.cell (j := 0) rfl
    have f0 := K1.out.free 0
    have r1 := K1.out.cell (j := 1) rfl
    have f1 := K1.out.free 1
    have r2 := K1.out.cell (j := 2) rfl
    have f2 := K1.out.free 2
    have r3 := K1.out.cell (j := 3) rfl
    have f3 := K1.out.free 3
    have r4 := K1.out.cell (j := 4) rfl
    have f4 := K1.out.free 4
    have r5 := K1.out.cell (j := 5) rfl
    have f5 := K1.out.free 5
    have r6 := K1.out.cell (j := 6) rfl
    have f6 := K1.out.free 6
    have r7 := K1.out.cell (j := 7) rfl
    have f7 := K1.out.free 7
    have KF : Hid (Bk ((((((((w1.setCell ⟨w.heap.size, 0, none⟩ (.int .i64 1)).setCell ⟨w.heap.size, 1, none⟩ (.int .i64 0)).setCell ⟨w.heap.size, 2, none⟩ (.string ⟨#[]⟩)).setCell ⟨w.heap.size, 3, none⟩ (.string ⟨#[]⟩)).setCell ⟨w.heap.size, 4, none⟩ (.string ⟨#[]⟩)).setCell ⟨w.heap.size, 5, none⟩ (.string ⟨#[]⟩)).setCell ⟨w.heap.size, 6, none⟩ (.int .i64 0)).setCell ⟨w.heap.size, 7, none⟩ (.bool false)) w.heap.size 28 [.int .i64 1, .int .i64 0, .string ⟨#[]⟩, .string ⟨#[]⟩, .string ⟨#[]⟩, .string ⟨#[]⟩, .int .i64 0, .bool false]) := ((((((((K1.out.set 0 _).set 1 _).set 2 _).set 3 _).set 4 _).set 5 _).set 6 _).set 7 _)
    have OS : Hid (Only (fun y => y = w.heap.size) w1 ((((((((w1.setCell ⟨w.heap.size, 0, none⟩ (.int .i64 1)).setCell ⟨w.heap.size, 1, none⟩ (.int .i64 0)).setCell ⟨w.heap.size, 2, none⟩ (.string ⟨#[]⟩)).setCell ⟨w.heap.size, 3, none⟩ (.string ⟨#[]⟩)).setCell ⟨w.heap.size, 4, none⟩ (.string ⟨#[]⟩)).setCell ⟨w.heap.size, 5, none⟩ (.string ⟨#[]⟩)).setCell ⟨w.heap.size, 6, none⟩ (.int .i64 0)).setCell ⟨w.heap.size, 7, none⟩ (.bool false))) := (only_step (only_step (only_step (only_step (only_step (only_step (only_step (only_set (R := fun y => y = w.heap.size) (p := ⟨w.heap.size, 0, none⟩) rfl _) rfl 1 _) rfl 2 _) rfl 3 _) rfl 4 _) rfl 5 _) rfl 6 _) rfl 7 _)
    have OF : Hid (Only (At g) w ((((((((w1.setCell ⟨w.heap.size, 0, none⟩ (.int .i64 1)).setCell ⟨w.heap.size, 1, none⟩ (.int .i64 0)).setCell ⟨w.heap.size, 2, none⟩ (.string ⟨#[]⟩)).setCell ⟨w.heap.size, 3, none⟩ (.string ⟨#[]⟩)).setCell ⟨w.heap.size, 4, none⟩ (.string ⟨#[]⟩)).setCell ⟨w.heap.size, 5, none⟩ (.string ⟨#[]⟩)).setCell ⟨w.heap.size, 6, none⟩ (.int .i64 0)).setCell ⟨w.heap.size, 7, none⟩ (.bool false))) := only_new O1.out OS.out (by omega)
    go_wp2
    try simp only [Exit.inBlock, Exit.then]
    refine bodyPost_ret (v := .agg #[.int .i64 1, .int .i64 0, .string ⟨#[]⟩, .string ⟨#[]⟩, .string ⟨#[]⟩, .string ⟨#[]⟩, .int .i64 0, .bool false]) ?_ rfl ?_
    · exact results_call rfl _ _ _ rfl (KF.out.cell (j := 0) rfl) (KF.out.cell (j := 1) rfl) (KF.out.cell (j := 2) rfl) (KF.out.cell (j := 3) rfl) (KF.out.cell (j := 4) rfl) (KF.out.cell (j := 5) rfl) (KF.out.cell (j := 6) rfl) (KF.out.cell (j := 7) rfl)
    · exact ⟨by rw [HV.out]; try rfl, OF.out⟩
  by_cases hcommit : rdW L 0 = wCommit
  · have HV : Hid (ccI L = (3, 0, ⟨#[]⟩, ⟨#[]⟩, ⟨#[]⟩, ⟨#[]⟩, 0, false)) := (if_neg hbegin).trans (if_pos hcommit)
    have ebegin : (word.toList == [98, 101, 103, 105, 110]) = false := by have := str_ne (show ¬ word = wBegin from hwd ▸ hbegin); rwa [show ByteArray.toList wBegin = [98, 101, 103, 105, 110] from by rw [ByteArray.toList_eq]; rfl] at this
    have ecommit : (word.toList == [99, 111, 109, 109, 105, 116]) = true := by rw [← hwd, hcommit, ByteArray.toList_eq]; rfl
    clear hbegin hcommit
    clear hwd
    have r0 := K1.out.cell (j := 0) rfl
    have f0 := K1.out.free 0
    have r1 := K1.out.cell (j := 1) rfl
    have f1 := K1.out.free 1
    have r2 := K1.out.cell (j := 2) rfl
    have f2 := K1.out.free 2
    have r3 := K1.out.cell (j := 3) rfl
    have f3 := K1.out.free 3
    have r4 := K1.out.cell (j := 4) rfl
    have f4 := K1.out.free 4
    have r5 := K1.out.cell (j := 5) rfl
    have f5 := K1.out.free 5
    have r6 := K1.out.cell (j := 6) rfl
    have f6 := K1.out.free 6
    have r7 := K1.out.cell (j := 7) rfl
    have f7 := K1.out.free 7
    have KF : Hid (Bk ((((((((w1.setCell ⟨w.heap.size, 0, none⟩ (.int .i64 3)).setCell ⟨w.heap.size, 1, none⟩ (.int .i64 0)).setCell ⟨w.heap.size, 2, none⟩ (.string ⟨#[]⟩)).setCell ⟨w.heap.size, 3, none⟩ (.string ⟨#[]⟩)).setCell ⟨w.heap.size, 4, none⟩ (.string ⟨#[]⟩)).setCell ⟨w.heap.size, 5, none⟩ (.string ⟨#[]⟩)).setCell ⟨w.heap.size, 6, none⟩ (.int .i64 0)).setCell ⟨w.heap.size, 7, none⟩ (.bool false)) w.heap.size 28 [.int .i64 3, .int .i64 0, .string ⟨#[]⟩, .string ⟨#[]⟩, .string ⟨#[]⟩, .string ⟨#[]⟩, .int .i64 0, .bool false]) := ((((((((K1.out.set 0 _).set 1 _).set 2 _).set 3 _).set 4 _).set 5 _).set 6 _).set 7 _)
    have OS : Hid (Only (fun y => y = w.heap.size) w1 ((((((((w1.setCell ⟨w.heap.size, 0, none⟩ (.int .i64 3)).setCell ⟨w.heap.size, 1, none⟩ (.int .i64 0)).setCell ⟨w.heap.size, 2, none⟩ (.string ⟨#[]⟩)).setCell ⟨w.heap.size, 3, none⟩ (.string ⟨#[]⟩)).setCell ⟨w.heap.size, 4, none⟩ (.string ⟨#[]⟩)).setCell ⟨w.heap.size, 5, none⟩ (.string ⟨#[]⟩)).setCell ⟨w.heap.size, 6, none⟩ (.int .i64 0)).setCell ⟨w.heap.size, 7, none⟩ (.bool false))) := (only_step (only_step (only_step (only_step (only_step (only_step (only_step (only_set (R := fun y => y = w.heap.size) (p := ⟨w.heap.size, 0, none⟩) rfl _) rfl 1 _) rfl 2 _) rfl 3 _) rfl 4 _) rfl 5 _) rfl 6 _) rfl 7 _)
    have OF : Hid (Only (At g) w ((((((((w1.setCell ⟨w.heap.size, 0, none⟩ (.int .i64 3)).setCell ⟨w.heap.size, 1, none⟩ (.int .i64 0)).setCell ⟨w.heap.size, 2, none⟩ (.string ⟨#[]⟩)).setCell ⟨w.heap.size, 3, none⟩ (.string ⟨#[]⟩)).setCell ⟨w.heap.size, 4, none⟩ (.string ⟨#[]⟩)).setCell ⟨w.heap.size, 5, none⟩ (.string ⟨#[]⟩)).setCell ⟨w.heap.size, 6, none⟩ (.int .i64 0)).setCell ⟨w.heap.size, 7, none⟩ (.bool false))) := only_new O1.out OS.out (by omega)
    go_wp2
    try simp only [Exit.inBlock, Exit.then]
    refine bodyPost_ret (v := .agg #[.int .i64 3, .int .i64 0, .string ⟨#[]⟩, .string ⟨#[]⟩, .string ⟨#[]⟩, .string ⟨#[]⟩, .int .i64 0, .bool false]) ?_ rfl ?_
    · exact results_call rfl _ _ _ rfl (KF.out.cell (j := 0) rfl) (KF.out.cell (j := 1) rfl) (KF.out.cell (j := 2) rfl) (KF.out.cell (j := 3) rfl) (KF.out.cell (j := 4) rfl) (KF.out.cell (j := 5) rfl) (KF.out.cell (j := 6) rfl) (KF.out.cell (j := 7) rfl)
    · exact ⟨by rw [HV.out]; try rfl, OF.out⟩
  by_cases habort : rdW L 0 = wAbort
  · have HV : Hid (ccI L = (4, 0, ⟨#[]⟩, ⟨#[]⟩, ⟨#[]⟩, ⟨#[]⟩, 0, false)) := (if_neg hbegin).trans ((if_neg hcommit).trans (if_pos habort))
    have ebegin : (word.toList == [98, 101, 103, 105, 110]) = false := by have := str_ne (show ¬ word = wBegin from hwd ▸ hbegin); rwa [show ByteArray.toList wBegin = [98, 101, 103, 105, 110] from by rw [ByteArray.toList_eq]; rfl] at this
    have ecommit : (word.toList == [99, 111, 109, 109, 105, 116]) = false := by have := str_ne (show ¬ word = wCommit from hwd ▸ hcommit); rwa [show ByteArray.toList wCommit = [99, 111, 109, 109, 105, 116] from by rw [ByteArray.toList_eq]; rfl] at this
    have eabort : (word.toList == [97, 98, 111, 114, 116]) = true := by rw [← hwd, habort, ByteArray.toList_eq]; rfl
    clear hbegin hcommit habort
    clear hwd
    have r0 := K1.out.cell (j := 0) rfl
    have f0 := K1.out.free 0
    have r1 := K1.out.cell (j := 1) rfl
    have f1 := K1.out.free 1
    have r2 := K1.out.cell (j := 2) rfl
    have f2 := K1.out.free 2
    have r3 := K1.out.cell (j := 3) rfl
    have f3 := K1.out.free 3
    have r4 := K1.out.cell (j := 4) rfl
    have f4 := K1.out.free 4
    have r5 := K1.out.cell (j := 5) rfl
    have f5 := K1.out.free 5
    have r6 := K1.out.cell (j := 6) rfl
    have f6 := K1.out.free 6
    have r7 := K1.out.cell (j := 7) rfl
    have f7 := K1.out.free 7
    have KF : Hid (Bk ((((((((w1.setCell ⟨w.heap.size, 0, none⟩ (.int .i64 4)).setCell ⟨w.heap.size, 1, none⟩ (.int .i64 0)).setCell ⟨w.heap.size, 2, none⟩ (.string ⟨#[]⟩)).setCell ⟨w.heap.size, 3, none⟩ (.string ⟨#[]⟩)).setCell ⟨w.heap.size, 4, none⟩ (.string ⟨#[]⟩)).setCell ⟨w.heap.size, 5, none⟩ (.string ⟨#[]⟩)).setCell ⟨w.heap.size, 6, none⟩ (.int .i64 0)).setCell ⟨w.heap.size, 7, none⟩ (.bool false)) w.heap.size 28 [.int .i64 4, .int .i64 0, .string ⟨#[]⟩, .string ⟨#[]⟩, .string ⟨#[]⟩, .string ⟨#[]⟩, .int .i64 0, .bool false]) := ((((((((K1.out.set 0 _).set 1 _).set 2 _).set 3 _).set 4 _).set 5 _).set 6 _).set 7 _)
    have OS : Hid (Only (fun y => y = w.heap.size) w1 ((((((((w1.setCell ⟨w.heap.size, 0, none⟩ (.int .i64 4)).setCell ⟨w.heap.size, 1, none⟩ (.int .i64 0)).setCell ⟨w.heap.size, 2, none⟩ (.string ⟨#[]⟩)).setCell ⟨w.heap.size, 3, none⟩ (.string ⟨#[]⟩)).setCell ⟨w.heap.size, 4, none⟩ (.string ⟨#[]⟩)).setCell ⟨w.heap.size, 5, none⟩ (.string ⟨#[]⟩)).setCell ⟨w.heap.size, 6, none⟩ (.int .i64 0)).setCell ⟨w.heap.size, 7, none⟩ (.bool false))) := (only_step (only_step (only_step (only_step (only_step (only_step (only_step (only_set (R := fun y => y = w.heap.size) (p := ⟨w.heap.size, 0, none⟩) rfl _) rfl 1 _) rfl 2 _) rfl 3 _) rfl 4 _) rfl 5 _) rfl 6 _) rfl 7 _)
    have OF : Hid (Only (At g) w ((((((((w1.setCell ⟨w.heap.size, 0, none⟩ (.int .i64 4)).setCell ⟨w.heap.size, 1, none⟩ (.int .i64 0)).setCell ⟨w.heap.size, 2, none⟩ (.string ⟨#[]⟩)).setCell ⟨w.heap.size, 3, none⟩ (.string ⟨#[]⟩)).setCell ⟨w.heap.size, 4, none⟩ (.string ⟨#[]⟩)).setCell ⟨w.heap.size, 5, none⟩ (.string ⟨#[]⟩)).setCell ⟨w.heap.size, 6, none⟩ (.int .i64 0)).setCell ⟨w.heap.size, 7, none⟩ (.bool false))) := only_new O1.out OS.out (by omega)
    go_wp2
    try simp only [Exit.inBlock, Exit.then]
    refine bodyPost_ret (v := .agg #[.int .i64 4, .int .i64 0, .string ⟨#[]⟩, .string ⟨#[]⟩, .string ⟨#[]⟩, .string ⟨#[]⟩, .int .i64 0, .bool false]) ?_ rfl ?_
    · exact results_call rfl _ _ _ rfl (KF.out.cell (j := 0) rfl) (KF.out.cell (j := 1) rfl) (KF.out.cell (j := 2) rfl) (KF.out.cell (j := 3) rfl) (KF.out.cell (j := 4) rfl) (KF.out.cell (j := 5) rfl) (KF.out.cell (j := 6) rfl) (KF.out.cell (j := 7) rfl)
    · exact ⟨by rw [HV.out]; try rfl, OF.out⟩
  have HV : Hid (ccI L = caI word (L.drop 1)) := by rw [← hwd]; exact (if_neg hbegin).trans ((if_neg hcommit).trans (if_neg habort))
  have HK := caI_two word (L.drop 1)
  have ebegin : (word.toList == [98, 101, 103, 105, 110]) = false := by have := str_ne (show ¬ word = wBegin from hwd ▸ hbegin); rwa [show ByteArray.toList wBegin = [98, 101, 103, 105, 110] from by rw [ByteArray.toList_eq]; rfl] at this
  have ecommit : (word.toList == [99, 111, 109, 109, 105, 116]) = false := by have := str_ne (show ¬ word = wCommit from hwd ▸ hcommit); rwa [show ByteArray.toList wCommit = [99, 111, 109, 109, 105, 116] from by rw [ByteArray.toList_eq]; rfl] at this
  have eabort : (word.toList == [97, 98, 111, 114, 116]) = false := by have := str_ne (show ¬ word = wAbort from hwd ▸ habort); rwa [show ByteArray.toList wAbort = [97, 98, 111, 114, 116] from by rw [ByteArray.toList_eq]; rfl] at this
  clear hbegin hcommit habort hwd
  have CA := C2.out word _ P1.out G1.out
  unfold nextV at CA
  have HV1 := HV.out
  clear HV
  generalize caI word (L.drop 1) = cv at *
  obtain ⟨c0, c1, c2, c3, c4, c5, c6, c7⟩ := cv
  have HK2 : c0 = 2 := HK
  subst HK2
  dsimp only at CA
  have HV := hid HV1
  have CB := hid CA
  clear HV1 CA HK
  go_wp2_with fail
  refine CB.out.mono ?_
  rintro r w2 ⟨rfl, hO⟩
  have O2 := hid (O1.out.trans hO)
  have K2 := hid (K1.out.to hO (fun q => by have q' : w.heap.size = g + 2 := q; omega))
  clear hO CB C2 K1 O1 P1 G1
  have r0 := K2.out.cell (j := 0) rfl
  have f0 := K2.out.free 0
  have r1 := K2.out.cell (j := 1) rfl
  have f1 := K2.out.free 1
  have r2 := K2.out.cell (j := 2) rfl
  have f2 := K2.out.free 2
  have r3 := K2.out.cell (j := 3) rfl
  have f3 := K2.out.free 3
  have r4 := K2.out.cell (j := 4) rfl
  have f4 := K2.out.free 4
  have r5 := K2.out.cell (j := 5) rfl
  have f5 := K2.out.free 5
  have r6 := K2.out.cell (j := 6) rfl
  have f6 := K2.out.free 6
  have r7 := K2.out.cell (j := 7) rfl
  have f7 := K2.out.free 7
  have KF : Hid (Bk ((((((((w2.setCell ⟨w.heap.size, 0, none⟩ (.int .i64 2)).setCell ⟨w.heap.size, 1, none⟩ (.int .i64 c1)).setCell ⟨w.heap.size, 2, none⟩ (.string c2)).setCell ⟨w.heap.size, 3, none⟩ (.string c3)).setCell ⟨w.heap.size, 4, none⟩ (.string c4)).setCell ⟨w.heap.size, 5, none⟩ (.string c5)).setCell ⟨w.heap.size, 6, none⟩ (.int .i64 c6)).setCell ⟨w.heap.size, 7, none⟩ (.bool c7)) w.heap.size 28 [.int .i64 2, .int .i64 c1, .string c2, .string c3, .string c4, .string c5, .int .i64 c6, .bool c7]) := ((((((((K2.out.set 0 _).set 1 _).set 2 _).set 3 _).set 4 _).set 5 _).set 6 _).set 7 _)
  have OS : Hid (Only (fun y => y = w.heap.size) w2 ((((((((w2.setCell ⟨w.heap.size, 0, none⟩ (.int .i64 2)).setCell ⟨w.heap.size, 1, none⟩ (.int .i64 c1)).setCell ⟨w.heap.size, 2, none⟩ (.string c2)).setCell ⟨w.heap.size, 3, none⟩ (.string c3)).setCell ⟨w.heap.size, 4, none⟩ (.string c4)).setCell ⟨w.heap.size, 5, none⟩ (.string c5)).setCell ⟨w.heap.size, 6, none⟩ (.int .i64 c6)).setCell ⟨w.heap.size, 7, none⟩ (.bool c7))) := (only_step (only_step (only_step (only_step (only_step (only_step (only_step (only_set (R := fun y => y = w.heap.size) (p := ⟨w.heap.size, 0, none⟩) rfl _) rfl 1 _) rfl 2 _) rfl 3 _) rfl 4 _) rfl 5 _) rfl 6 _) rfl 7 _)
  have OF : Hid (Only (At g) w ((((((((w2.setCell ⟨w.heap.size, 0, none⟩ (.int .i64 2)).setCell ⟨w.heap.size, 1, none⟩ (.int .i64 c1)).setCell ⟨w.heap.size, 2, none⟩ (.string c2)).setCell ⟨w.heap.size, 3, none⟩ (.string c3)).setCell ⟨w.heap.size, 4, none⟩ (.string c4)).setCell ⟨w.heap.size, 5, none⟩ (.string c5)).setCell ⟨w.heap.size, 6, none⟩ (.int .i64 c6)).setCell ⟨w.heap.size, 7, none⟩ (.bool c7))) := only_new O2.out OS.out (by omega)
  go_wp2
  try simp only [Exit.inBlock, Exit.then]
  refine bodyPost_ret (v := .agg #[.int .i64 2, .int .i64 c1, .string c2, .string c3, .string c4, .string c5, .int .i64 c6, .bool c7]) ?_ rfl ?_
  · exact results_call rfl _ _ _ rfl (KF.out.cell (j := 0) rfl) (KF.out.cell (j := 1) rfl) (KF.out.cell (j := 2) rfl) (KF.out.cell (j := 3) rfl) (KF.out.cell (j := 4) rfl) (KF.out.cell (j := 5) rfl) (KF.out.cell (j := 6) rfl) (KF.out.cell (j := 7) rfl)
  · exact ⟨by rw [HV.out]; try rfl, OF.out⟩
end Go.Proofs.YtjddkofpfmjojaaGreatDoor
/-
  The words of calls and of steps, and StepText, of the program.
-/
namespace Go.Proofs.YtjddkofpfmjojaaGreatDoor
open Go.RowKit
set_option linter.unusedVariables false
theorem clW_len (kd ak : Int) (ky vl lo hi : ByteArray) (mo : Int) (bk : Bool) : (clW kd ak ky vl lo hi mo bk).length ≤ 4 := by
  unfold clW akW
  split <;> (try split) <;> (try split) <;> (try split) <;> simp
set_option maxHeartbeats 4000000 in
theorem callWords_any (kd ak : Int) (ky vl lo hi : ByteArray) (mo : Int) (bk : Bool) (w : World) (hs : ky.size ≤ 1048576 ∧ vl.size ≤ 1048576 ∧ lo.size ≤ 1048576 ∧ hi.size ≤ 1048576) (hw : GW w) :
    Calls Tryz.prog 56 #[.agg #[.int .i64 kd, .int .i64 ak, .string ky, .string vl, .string lo, .string hi, .int .i64 mo, .bool bk]] w fun e w' => WsP (clW kd ak ky vl lo hi mo bk) w e w' := by
  unfold WsP clW
  have B0 := hid (below_new (o := .cells #[.int .i64 kd, .int .i64 ak, .string ky, .string vl, .string lo, .string hi, .int .i64 mo, .bool bk] 28) (w := w) (Below.refl _ _))
  have K0 := hid (Bk.new w 28 [.int .i64 kd, .int .i64 ak, .string ky, .string vl, .string lo, .string hi, .int .i64 mo, .bool bk])
  have G0 := hid (hw.to B0.out)
  have CA := hid (fun w hw => askWords_any ak ky vl lo hi mo bk w hs hw)
  have CW := hid (fun w => callWord_any kd w)
  clear hs hw
  generalize hU : w.alloc (.cells #[.int .i64 kd, .int .i64 ak, .string ky, .string vl, .string lo, .string hi, .int .i64 mo, .bool bk] 28) = U at *
  have HU := hid hU
  clear hU
  have c0 := K0.out.cell (j := 0) rfl
  by_cases h2 : kd = 2
  · subst h2
    rw [if_pos rfl]
    have c1 := K0.out.cell (j := 1) rfl
    have c2 := K0.out.cell (j := 2) rfl
    have c3 := K0.out.cell (j := 3) rfl
    have c4 := K0.out.cell (j := 4) rfl
    have c5 := K0.out.cell (j := 5) rfl
    have c6 := K0.out.cell (j := 6) rfl
    have c7 := K0.out.cell (j := 7) rfl
    go_enter Tryz.func56, Tryz.ntmps56
    go_wp2_with fail
    rw [HU.out]
    go_wp2_with fail
    refine (CA.out _ G0.out).mono ?_
    rintro r v1 ⟨xa, xn, xc, rfl, hO, hb⟩
    have O1 := hid (hO.lower B0.out.size)
    have B1 := hid (B0.out.trans (hb.mono B0.out.size))
    clear hO hb c0 c1 c2 c3 c4 c5 c6 c7 B0 K0 G0
    go_wp2
    go_ret
    exact ⟨_, _, _, rfl, O1.out, B1.out⟩
  · rw [if_neg h2]
    go_enter Tryz.func56, Tryz.ntmps56
    go_wp2_with fail
    rw [HU.out]
    go_wp2_with fail
    refine (CW.out _).mono ?_
    rintro r v1 ⟨rfl, rfl⟩
    have O1 := hid (OW.one (B := w.heap.size) (Bk.new _ 9 [.string (cwd kd)]) B0.out.size)
    have B1 := hid (B0.out.alloc B0.out.size (.cells #[.string (cwd kd)] 9))
    clear c0 B0 K0 G0
    go_wp2
    go_ret
    exact ⟨_, _, _, rfl, O1.out, B1.out⟩
set_option maxHeartbeats 4000000 in
theorem wordsOfStep_any (S : Nat → Prop) (k a b : Int) (ka : Option Addr) (kn kc : Nat) (kp : List Int) (kd ak : Int) (ky vl lo hi : ByteArray) (mo : Int) (bk : Bool) (w : World) (hp : Ir w S (.slice ka kn kc) kp) (hn : kn ≤ 1048576) (hs : k = 1 → ky.size ≤ 1048576 ∧ vl.size ≤ 1048576 ∧ lo.size ≤ 1048576 ∧ hi.size ≤ 1048576) (hw : GW w) :
    Calls Tryz.prog 44 #[.agg #[.int .i64 k, .int .i64 a, .int .i64 b, .slice ka kn kc, .int .i64 kd, .int .i64 ak, .string ky, .string vl, .string lo, .string hi, .int .i64 mo, .bool bk]] w fun e w' => WsP (stW ⟨k, a, b, kp, kd, ak, ky, vl, lo, hi, mo, bk⟩) w e w' := by
  unfold WsP stW
  dsimp only
  have K0 := hid (Bk.new w 30 [.int .i64 k, .int .i64 a, .int .i64 b, .slice ka kn kc, .int .i64 kd, .int .i64 ak, .string ky, .string vl, .string lo, .string hi, .int .i64 mo, .bool bk])
  have HUS : Hid (w.heap.size ≤ (w.alloc (.cells #[.int .i64 k, .int .i64 a, .int .i64 b, .slice ka kn kc, .int .i64 kd, .int .i64 ak, .string ky, .string vl, .string lo, .string hi, .int .i64 mo, .bool bk] 30)).heap.size) := by show _ ≤ _; simp
  have G0 := hid (hw.to ((Below.refl w.heap.size w).alloc (Nat.le_refl _) (.cells #[.int .i64 k, .int .i64 a, .int .i64 b, .slice ka kn kc, .int .i64 kd, .int .i64 ak, .string ky, .string vl, .string lo, .string hi, .int .i64 mo, .bool bk] 30)))
  have H0 := hid (hp.below ((Below.refl w.heap.size w).alloc (Nat.le_refl _) (.cells #[.int .i64 k, .int .i64 a, .int .i64 b, .slice ka kn kc, .int .i64 kd, .int .i64 ak, .string ky, .string vl, .string lo, .string hi, .int .i64 mo, .bool bk] 30)))
  have HL : Hid (kp.length ≤ 1048576) := by have := (Rw.len hp).1; show _ ≤ _; omega
  have CS := hid (fun k w => stepWord_any k w)
  have CN := hid (fun (n : Int) (w : World) (hw : GW w) => implNumText_any n w hw.tab)
  have CC := hid (fun w (hk : k = 1) hw => callWords_any kd ak ky vl lo hi mo bk w (hs hk) hw)
  have CW := hid (fun w h (hw : GW w) => wordsOfInt_any S ka kn kc kp w h hn hw.tab hw.g)
  clear hs hw hp
  generalize hU : w.alloc (.cells #[.int .i64 k, .int .i64 a, .int .i64 b, .slice ka kn kc, .int .i64 kd, .int .i64 ak, .string ky, .string vl, .string lo, .string hi, .int .i64 mo, .bool bk] 30) = U at *
  have HU := hid hU
  clear hU
  by_cases h5 : k = 5
  · subst h5
    rw [if_pos rfl, if_neg (show ¬ (5 : Int) = 1 by decide), if_neg (show ¬ (5 : Int) = 7 by decide)]
    try rw [List.append_nil]
    go_enter Tryz.func44, Tryz.ntmps44
    go_wp2_with fail
    rw [HU.out]
    have c0 := K0.out.cell (j := 0) rfl
    go_wp2_with fail
    refine (CS.out _ _).mono ?_
    rintro r v1 ⟨rfl, hb⟩
    clear c0
    have Bv1 := hid hb
    clear hb
    have Ba1 := hid (Bv1.out.alloc Bv1.out.size (.cells #[.string (sw 5)] 9))
    have Na1 := hid (OW.one (Bk.new v1 9 [.string (sw 5)]) Bv1.out.size)
    have Oa1 := hid Na1.out
    clear Na1
    have c0 := (K0.out.below Ba1.out).cell (j := 0) rfl
    go_wp2_with fail
    clear c0
    go_ret
    exact ⟨_, _, _, rfl, by have := Oa1.out.lower HUS.out; exact this, by have := Ba1.out; rw [← HU.out] at this; exact below_new this⟩
  by_cases h1 : k = 1
  · subst h1
    rw [if_neg h5, if_pos rfl]
    go_enter Tryz.func44, Tryz.ntmps44
    go_wp2_with fail
    rw [HU.out]
    have c0 := K0.out.cell (j := 0) rfl
    go_wp2_with fail
    refine (CS.out _ _).mono ?_
    rintro r v1 ⟨rfl, hb⟩
    clear c0
    have Bv1 := hid hb
    clear hb
    have Ba1 := hid (Bv1.out.alloc Bv1.out.size (.cells #[.string (sw 1)] 9))
    have Na1 := hid (OW.one (Bk.new v1 9 [.string (sw 1)]) Bv1.out.size)
    have Oa1 := hid Na1.out
    clear Na1
    have c0 := (K0.out.below Ba1.out).cell (j := 0) rfl
    have c1 := (K0.out.below Ba1.out).cell (j := 1) rfl
    go_wp2_with fail
    generalize v1.alloc (.cells #[.string (sw 1)] 9) = a1 at *
    generalize v1.heap.size = h1 at *
    refine (CN.out a _ (G0.out.to Ba1.out)).mono ?_
    rintro r v2 ⟨rfl, hb⟩
    clear c0 c1
    have Bv2 := hid (Ba1.out.trans (hb.mono Ba1.out.size))
    have Ov2 := hid (Oa1.out.below hb)
    clear hb
    have Ba2 := hid (Bv2.out.alloc Bv2.out.size (.cells #[.string (numS a)] 9))
    have Oa2 := hid (Ov2.out.below ((Below.refl v2.heap.size v2).alloc (Nat.le_refl _) (.cells #[.string (numS a)] 9)))
    have Na2 := hid (OW.one (Bk.new v2 9 [.string (numS a)]) Bv2.out.size)
    have hl : ([(sw 1)] : List ByteArray).length + [numS a].length ≤ 4194304 := by simp
    go_wp2_with (at_builtin; refine wpList_append_ws rfl _ _ rfl U.heap.size _ _ _ rfl Oa2.out _ _ rfl Na2.out hl Ba2.out.size ?_)
    intro av3 nv3 cv3 v3 hO hg _
    have Bv3 := hid (Ba2.out.trans ((only_of_grown hg (R := fun y => (Value.slice (some ⟨h1, 0, none⟩) 1 1).ownBlock = some y) (fun k q => q)).below Ba2.out.size (fun b hb q => by have := (World.ownsRow.lt Oa2.out b q).1; omega)))
    have Ov3 := hid hO
    clear hO hg hl Oa2
    have c0 := (K0.out.below Bv3.out).cell (j := 0) rfl
    have c4 := (K0.out.below Bv3.out).cell (j := 4) rfl
    have c5 := (K0.out.below Bv3.out).cell (j := 5) rfl
    have c6 := (K0.out.below Bv3.out).cell (j := 6) rfl
    have c7 := (K0.out.below Bv3.out).cell (j := 7) rfl
    have c8 := (K0.out.below Bv3.out).cell (j := 8) rfl
    have c9 := (K0.out.below Bv3.out).cell (j := 9) rfl
    have c10 := (K0.out.below Bv3.out).cell (j := 10) rfl
    have c11 := (K0.out.below Bv3.out).cell (j := 11) rfl
    go_wp2_with fail
    refine (CC.out _ (by first | trivial | rfl) (G0.out.to Bv3.out)).mono ?_
    rintro r v4 ⟨xa, xn, xc, rfl, hO1, hb⟩
    clear c0 c4 c5 c6 c7 c8 c9 c10 c11
    have Bv4 := hid (Bv3.out.trans (hb.mono Bv3.out.size))
    have Ov4 := hid (Ov3.out.below hb)
    clear hb
    have Nv4 := hid hO1
    clear hO1
    have hl : ([sw 1] ++ [numS a] : List ByteArray).length + (clW kd ak ky vl lo hi mo bk).length ≤ 4194304 := by have := clW_len kd ak ky vl lo hi mo bk; simp; omega
    go_wp2_with (at_builtin; refine wpList_append_ws rfl _ _ rfl U.heap.size _ _ _ rfl Ov4.out _ _ rfl Nv4.out hl Bv4.out.size ?_)
    intro av5 nv5 cv5 v5 hO hg _
    have Bv5 := hid (Bv4.out.trans ((only_of_grown hg (R := fun y => (Value.slice av3 nv3 cv3).ownBlock = some y) (fun k q => q)).below Bv4.out.size (fun b hb q => by have := (World.ownsRow.lt Ov4.out b q).1; omega)))
    have Ov5 := hid hO
    clear hO hg hl Ov4
    go_wp2
    go_ret
    exact ⟨_, _, _, rfl, by have := Ov5.out.lower HUS.out; simpa using this, by have := Bv5.out; rw [← HU.out] at this; exact below_new this⟩
  by_cases h7 : k = 7
  · subst h7
    rw [if_neg h5, if_neg h1, if_pos rfl]
    go_enter Tryz.func44, Tryz.ntmps44
    go_wp2_with fail
    rw [HU.out]
    have c0 := K0.out.cell (j := 0) rfl
    go_wp2_with fail
    refine (CS.out _ _).mono ?_
    rintro r v1 ⟨rfl, hb⟩
    clear c0
    have Bv1 := hid hb
    clear hb
    have Ba1 := hid (Bv1.out.alloc Bv1.out.size (.cells #[.string (sw 7)] 9))
    have Na1 := hid (OW.one (Bk.new v1 9 [.string (sw 7)]) Bv1.out.size)
    have Oa1 := hid Na1.out
    clear Na1
    have c0 := (K0.out.below Ba1.out).cell (j := 0) rfl
    have c1 := (K0.out.below Ba1.out).cell (j := 1) rfl
    go_wp2_with fail
    generalize v1.alloc (.cells #[.string (sw 7)] 9) = a1 at *
    generalize v1.heap.size = h1 at *
    refine (CN.out a _ (G0.out.to Ba1.out)).mono ?_
    rintro r v2 ⟨rfl, hb⟩
    clear c0 c1
    have Bv2 := hid (Ba1.out.trans (hb.mono Ba1.out.size))
    have Ov2 := hid (Oa1.out.below hb)
    clear hb
    have Ba2 := hid (Bv2.out.alloc Bv2.out.size (.cells #[.string (numS a)] 9))
    have Oa2 := hid (Ov2.out.below ((Below.refl v2.heap.size v2).alloc (Nat.le_refl _) (.cells #[.string (numS a)] 9)))
    have Na2 := hid (OW.one (Bk.new v2 9 [.string (numS a)]) Bv2.out.size)
    have hl : ([(sw 7)] : List ByteArray).length + [numS a].length ≤ 4194304 := by simp
    go_wp2_with (at_builtin; refine wpList_append_ws rfl _ _ rfl U.heap.size _ _ _ rfl Oa2.out _ _ rfl Na2.out hl Ba2.out.size ?_)
    intro av3 nv3 cv3 v3 hO hg _
    have Bv3 := hid (Ba2.out.trans ((only_of_grown hg (R := fun y => (Value.slice (some ⟨h1, 0, none⟩) 1 1).ownBlock = some y) (fun k q => q)).below Ba2.out.size (fun b hb q => by have := (World.ownsRow.lt Oa2.out b q).1; omega)))
    have Ov3 := hid hO
    clear hO hg hl Oa2
    have c0 := (K0.out.below Bv3.out).cell (j := 0) rfl
    have c2 := (K0.out.below Bv3.out).cell (j := 2) rfl
    go_wp2_with fail
    refine (CN.out b _ (G0.out.to Bv3.out)).mono ?_
    rintro r v4 ⟨rfl, hb⟩
    clear c0 c2
    have Bv4 := hid (Bv3.out.trans (hb.mono Bv3.out.size))
    have Ov4 := hid (Ov3.out.below hb)
    clear hb
    have Ba4 := hid (Bv4.out.alloc Bv4.out.size (.cells #[.string (numS b)] 9))
    have Oa4 := hid (Ov4.out.below ((Below.refl v4.heap.size v4).alloc (Nat.le_refl _) (.cells #[.string (numS b)] 9)))
    have Na4 := hid (OW.one (Bk.new v4 9 [.string (numS b)]) Bv4.out.size)
    have hl : ([sw 7] ++ [numS a] : List ByteArray).length + [numS b].length ≤ 4194304 := by simp
    go_wp2_with (at_builtin; refine wpList_append_ws rfl _ _ rfl U.heap.size _ _ _ rfl Oa4.out _ _ rfl Na4.out hl Ba4.out.size ?_)
    intro av5 nv5 cv5 v5 hO hg _
    have Bv5 := hid (Ba4.out.trans ((only_of_grown hg (R := fun y => (Value.slice av3 nv3 cv3).ownBlock = some y) (fun k q => q)).below Ba4.out.size (fun b hb q => by have := (World.ownsRow.lt Oa4.out b q).1; omega)))
    have Ov5 := hid hO
    clear hO hg hl Oa4
    have c3 := (K0.out.below Bv5.out).cell (j := 3) rfl
    go_wp2_with fail
    refine (CW.out _ (H0.out.below Bv5.out) (G0.out.to Bv5.out)).mono ?_
    rintro r v6 ⟨xa, xn, xc, rfl, hO1, hb⟩
    clear c3
    have Bv6 := hid (Bv5.out.trans (hb.mono Bv5.out.size))
    have Ov6 := hid (Ov5.out.below hb)
    clear hb
    have Nv6 := hid hO1
    clear hO1
    have hl : ([sw 7] ++ [numS a] ++ [numS b] : List ByteArray).length + (kp.map numS).length ≤ 4194304 := by have := HL.out; simp; omega
    go_wp2_with (at_builtin; refine wpList_append_ws rfl _ _ rfl U.heap.size _ _ _ rfl Ov6.out _ _ rfl Nv6.out hl Bv6.out.size ?_)
    intro av7 nv7 cv7 v7 hO hg _
    have Bv7 := hid (Bv6.out.trans ((only_of_grown hg (R := fun y => (Value.slice av5 nv5 cv5).ownBlock = some y) (fun k q => q)).below Bv6.out.size (fun b hb q => by have := (World.ownsRow.lt Ov6.out b q).1; omega)))
    have Ov7 := hid hO
    clear hO hg hl Ov6
    go_wp2
    go_ret
    exact ⟨_, _, _, rfl, by have := Ov7.out.lower HUS.out; simpa using this, by have := Bv7.out; rw [← HU.out] at this; exact below_new this⟩
  · rw [if_neg h5, if_neg h1, if_neg h7]
    go_enter Tryz.func44, Tryz.ntmps44
    go_wp2_with fail
    rw [HU.out]
    have c0 := K0.out.cell (j := 0) rfl
    go_wp2_with fail
    refine (CS.out _ _).mono ?_
    rintro r v1 ⟨rfl, hb⟩
    clear c0
    have Bv1 := hid hb
    clear hb
    have Ba1 := hid (Bv1.out.alloc Bv1.out.size (.cells #[.string (sw k)] 9))
    have Na1 := hid (OW.one (Bk.new v1 9 [.string (sw k)]) Bv1.out.size)
    have Oa1 := hid Na1.out
    clear Na1
    have c0 := (K0.out.below Ba1.out).cell (j := 0) rfl
    have c1 := (K0.out.below Ba1.out).cell (j := 1) rfl
    go_wp2_with fail
    generalize v1.alloc (.cells #[.string (sw k)] 9) = a1 at *
    generalize v1.heap.size = h1 at *
    refine (CN.out a _ (G0.out.to Ba1.out)).mono ?_
    rintro r v2 ⟨rfl, hb⟩
    clear c0 c1
    have Bv2 := hid (Ba1.out.trans (hb.mono Ba1.out.size))
    have Ov2 := hid (Oa1.out.below hb)
    clear hb
    have Ba2 := hid (Bv2.out.alloc Bv2.out.size (.cells #[.string (numS a)] 9))
    have Oa2 := hid (Ov2.out.below ((Below.refl v2.heap.size v2).alloc (Nat.le_refl _) (.cells #[.string (numS a)] 9)))
    have Na2 := hid (OW.one (Bk.new v2 9 [.string (numS a)]) Bv2.out.size)
    have hl : ([(sw k)] : List ByteArray).length + [numS a].length ≤ 4194304 := by simp
    go_wp2_with (at_builtin; refine wpList_append_ws rfl _ _ rfl U.heap.size _ _ _ rfl Oa2.out _ _ rfl Na2.out hl Ba2.out.size ?_)
    intro av3 nv3 cv3 v3 hO hg _
    have Bv3 := hid (Ba2.out.trans ((only_of_grown hg (R := fun y => (Value.slice (some ⟨h1, 0, none⟩) 1 1).ownBlock = some y) (fun k q => q)).below Ba2.out.size (fun b hb q => by have := (World.ownsRow.lt Oa2.out b q).1; omega)))
    have Ov3 := hid hO
    clear hO hg hl Oa2
    have c0 := (K0.out.below Bv3.out).cell (j := 0) rfl
    go_wp2_with fail
    clear c0
    go_ret
    exact ⟨_, _, _, rfl, by have := Ov3.out.lower HUS.out; exact this, by have := Bv3.out; rw [← HU.out] at this; exact below_new this⟩
end Go.Proofs.YtjddkofpfmjojaaGreatDoor
/-
  What the law's helpers do with slices of strings and of numbers: copied, held against each other, sizes summed.
-/
namespace Go.Proofs.YtjddkofpfmjojaaGreatDoor
open Go.RowKit

set_option maxHeartbeats 2000000 in
theorem eqIntS_at (S S' : Nat → Prop) (a a' : Option Addr) (n n' c c' : Nat) (l l' : List Int) (w : World) (h : Ir w S (.slice a n c) l) (h' : Ir w S' (.slice a' n' c') l') :
    Calls Tryz.prog 23 #[.slice a n c, .slice a' n' c'] w fun e w' => e = .returned (.bool (decide (l = l'))) ∧ Below w.heap.size w w' := by
  obtain ⟨hn, hnc, hcc⟩ := Rw.len h
  obtain ⟨hn', hnc', hcc'⟩ := Rw.len h'
  have HN := hid hn
  have HN' := hid hn'
  have H0 := hid h
  have H0' := hid h'
  clear h h' hn hn'
  by_cases hne : n = n'
  · subst hne
    have hz : ((n : Int) != (n : Int)) = false := by simp
    go_enter Tryz.func23, Tryz.ntmps23
    go_wp2
    go_loopw [5] (fun i wr => ∃ k : Nat, k ≤ n ∧ i = .int .i64 k ∧ Hid (Below w.heap.size w wr) ∧ Hid (l.take k = l'.take k)) (fun i _ => n - (intOf i).toNat)
    case atStart => exact ⟨0, Nat.zero_le _, rfl, Below.refl _ _, rfl⟩
    case round =>
      obtain ⟨k, hk, rfl, HB, HT⟩ := hrel
      by_cases hlt : k < n
      · have hlt' : (k : Int) < (n : Int) := by omega
        have HP := hid (H0.out.below HB.out)
        have HP' := hid (H0'.out.below HB.out)
        obtain ⟨b, off, rfl, _, hbw, hcell⟩ := HP.out.at (by omega)
        obtain ⟨b', off', rfl, _, hbw', hcell'⟩ := HP'.out.at (by omega)
        have hck := hcell k hlt
        have hck' := hcell' k hlt
        have HS : Hid (iAt l k = iAt l' k → l.take (k + 1) = l'.take (k + 1)) := by
          intro e
          have hl : k < l.length := by rw [← HN.out]; exact hlt
          have hl' : k < l'.length := by rw [← HN'.out]; exact hlt
          rw [List.take_succ_eq_append_getElem hl, List.take_succ_eq_append_getElem hl', HT.out]
          simp [iAt, hl, hl'] at e
          rw [e]
        have HF : Hid (iAt l k ≠ iAt l' k → decide (l = l') = false) := by
          intro e
          rw [decide_eq_false_iff_not]
          intro e'
          exact e (by rw [e'])
        clear hcell hcell' hbw hbw' HP HP' HT
        generalize iAt l k = ck at *
        generalize iAt l' k = ck' at *
        by_cases he : ck = ck'
        · have HS1 := hid (HS.out he)
          subst he
          have t : (ck != ck) = false := by simp
          clear HS HF
          go_wp2
          go_quiet (fail)
          go_wp2
          go_roundw
          case rel => exact ⟨k + 1, by omega, by go_num, Below.drewN' HB.out _, HS1.out⟩
          case measure => simp [intOf]; omega
        · have HF1 := hid (HF.out he)
          have t : (ck != ck') = true := by simp [he]
          clear he HS HF
          go_wp2
          go_quiet (fail)
          go_wp2
          go_ret
          exact ⟨by rw [HF1.out]; rfl, Below.drewN' HB.out _⟩
      · have HF : Hid (decide (l = l') = true) := by
          show decide (l = l') = true
          have hk' : k = n := by omega
          have e := HT.out
          have e1 : l.length ≤ k := by rw [← HN.out]; omega
          have e2 : l'.length ≤ k := by rw [← HN'.out]; omega
          rw [List.take_of_length_le e1, List.take_of_length_le e2] at e
          simp [e]
        clear HT
        go_wp2
        go_ret
        exact ⟨by rw [HF.out]; rfl, HB.out⟩
  · have hz : ((n : Int) != (n' : Int)) = true := by simp; omega
    have HF : Hid (decide (l = l') = false) := by
      show decide (l = l') = false
      rw [decide_eq_false_iff_not]
      intro e
      exact hne (by rw [HN.out, HN'.out, e])
    clear hne
    go_enter Tryz.func23, Tryz.ntmps23
    go_wp2
    go_ret
    exact ⟨by rw [HF.out]; rfl, Below.refl _ _⟩
def szOkS (l : List ByteArray) : Prop := ∀ i, (sAt l i).size ≤ 9223372036854775807
end Go.Proofs.YtjddkofpfmjojaaGreatDoor
/-
  Steps: what the law's helper makes of one.
-/
namespace Go.Proofs.YtjddkofpfmjojaaGreatDoor
open Go.RowKit
set_option linter.unusedVariables false
theorem st_sets {w : World} {g : Nat} {T : TypeId} {z0 z1 z2 z3 z4 z5 z6 z7 z8 z9 z10 z11 : Value} (h : Bk w g T [z0, z1, z2, z3, z4, z5, z6, z7, z8, z9, z10, z11]) (a0 a1 a2 a3 a4 a5 a6 a7 a8 a9 a10 a11 : Value) : Bk ((((((((((((w.setCell ⟨g, 0, none⟩ (a0)).setCell ⟨g, 1, none⟩ (a1)).setCell ⟨g, 2, none⟩ (a2)).setCell ⟨g, 3, none⟩ (a3)).setCell ⟨g, 4, none⟩ (a4)).setCell ⟨g, 5, none⟩ (a5)).setCell ⟨g, 6, none⟩ (a6)).setCell ⟨g, 7, none⟩ (a7)).setCell ⟨g, 8, none⟩ (a8)).setCell ⟨g, 9, none⟩ (a9)).setCell ⟨g, 10, none⟩ (a10)).setCell ⟨g, 11, none⟩ (a11)) g T [a0, a1, a2, a3, a4, a5, a6, a7, a8, a9, a10, a11] := (setE (setE (setE (setE (setE (setE (setE (setE (setE (setE (setE (setE h 0 a0 (ys := [a0, z1, z2, z3, z4, z5, z6, z7, z8, z9, z10, z11]) rfl) 1 a1 (ys := [a0, a1, z2, z3, z4, z5, z6, z7, z8, z9, z10, z11]) rfl) 2 a2 (ys := [a0, a1, a2, z3, z4, z5, z6, z7, z8, z9, z10, z11]) rfl) 3 a3 (ys := [a0, a1, a2, a3, z4, z5, z6, z7, z8, z9, z10, z11]) rfl) 4 a4 (ys := [a0, a1, a2, a3, a4, z5, z6, z7, z8, z9, z10, z11]) rfl) 5 a5 (ys := [a0, a1, a2, a3, a4, a5, z6, z7, z8, z9, z10, z11]) rfl) 6 a6 (ys := [a0, a1, a2, a3, a4, a5, a6, z7, z8, z9, z10, z11]) rfl) 7 a7 (ys := [a0, a1, a2, a3, a4, a5, a6, a7, z8, z9, z10, z11]) rfl) 8 a8 (ys := [a0, a1, a2, a3, a4, a5, a6, a7, a8, z9, z10, z11]) rfl) 9 a9 (ys := [a0, a1, a2, a3, a4, a5, a6, a7, a8, a9, z10, z11]) rfl) 10 a10 (ys := [a0, a1, a2, a3, a4, a5, a6, a7, a8, a9, a10, z11]) rfl) 11 a11 (ys := [a0, a1, a2, a3, a4, a5, a6, a7, a8, a9, a10, a11]) rfl)
theorem st_only {w : World} {g : Nat} {R : Nat → Prop} (hR : R g) (a0 a1 a2 a3 a4 a5 a6 a7 a8 a9 a10 a11 : Value) : Only R w ((((((((((((w.setCell ⟨g, 0, none⟩ (a0)).setCell ⟨g, 1, none⟩ (a1)).setCell ⟨g, 2, none⟩ (a2)).setCell ⟨g, 3, none⟩ (a3)).setCell ⟨g, 4, none⟩ (a4)).setCell ⟨g, 5, none⟩ (a5)).setCell ⟨g, 6, none⟩ (a6)).setCell ⟨g, 7, none⟩ (a7)).setCell ⟨g, 8, none⟩ (a8)).setCell ⟨g, 9, none⟩ (a9)).setCell ⟨g, 10, none⟩ (a10)).setCell ⟨g, 11, none⟩ (a11)) := (only_step (only_step (only_step (only_step (only_step (only_step (only_step (only_step (only_step (only_step (only_step (only_set (R := R) (p := ⟨g, 0, none⟩) hR a0) hR 1 a1) hR 2 a2) hR 3 a3) hR 4 a4) hR 5 a5) hR 6 a6) hR 7 a7) hR 8 a8) hR 9 a9) hR 10 a10) hR 11 a11)
theorem load_step {w : World} {g : Nat} {k a b : Int} {ka : Option Addr} {kn kc : Nat} {kd ak : Int} {ky vl lo hi : ByteArray} {mo : Int} {bk : Bool} (c0 : w.cell? ⟨g, 0, none⟩ = some (.int .i64 k)) (c1 : w.cell? ⟨g, 1, none⟩ = some (.int .i64 a)) (c2 : w.cell? ⟨g, 2, none⟩ = some (.int .i64 b)) (c3 : w.cell? ⟨g, 3, none⟩ = some (.slice ka kn kc)) (c4 : w.cell? ⟨g, 4, none⟩ = some (.int .i64 kd)) (c5 : w.cell? ⟨g, 5, none⟩ = some (.int .i64 ak)) (c6 : w.cell? ⟨g, 6, none⟩ = some (.string ky)) (c7 : w.cell? ⟨g, 7, none⟩ = some (.string vl)) (c8 : w.cell? ⟨g, 8, none⟩ = some (.string lo)) (c9 : w.cell? ⟨g, 9, none⟩ = some (.string hi)) (c10 : w.cell? ⟨g, 10, none⟩ = some (.int .i64 mo)) (c11 : w.cell? ⟨g, 11, none⟩ = some (.bool bk)) :
    (loadVar 30 ⟨g, 0, none⟩).run Tryz.prog w = .ok (.agg #[.int .i64 k, .int .i64 a, .int .i64 b, .slice ka kn kc, .int .i64 kd, .int .i64 ak, .string ky, .string vl, .string lo, .string hi, .int .i64 mo, .bool bk]) w := by go_simp
theorem results_step {fn : Func} {p : Tmp} (h : fn.results = #[.cell p 30]) (tmps : Array Value) (w : World) (g : Nat) {k a b : Int} {ka : Option Addr} {kn kc : Nat} {kd ak : Int} {ky vl lo hi : ByteArray} {mo : Int} {bk : Bool} (hp : tmps.getD p undef = .pointer (some ⟨g, 0, none⟩)) (c0 : w.cell? ⟨g, 0, none⟩ = some (.int .i64 k)) (c1 : w.cell? ⟨g, 1, none⟩ = some (.int .i64 a)) (c2 : w.cell? ⟨g, 2, none⟩ = some (.int .i64 b)) (c3 : w.cell? ⟨g, 3, none⟩ = some (.slice ka kn kc)) (c4 : w.cell? ⟨g, 4, none⟩ = some (.int .i64 kd)) (c5 : w.cell? ⟨g, 5, none⟩ = some (.int .i64 ak)) (c6 : w.cell? ⟨g, 6, none⟩ = some (.string ky)) (c7 : w.cell? ⟨g, 7, none⟩ = some (.string vl)) (c8 : w.cell? ⟨g, 8, none⟩ = some (.string lo)) (c9 : w.cell? ⟨g, 9, none⟩ = some (.string hi)) (c10 : w.cell? ⟨g, 10, none⟩ = some (.int .i64 mo)) (c11 : w.cell? ⟨g, 11, none⟩ = some (.bool bk)) :
    (results fn tmps).run Tryz.prog w = .ok (.agg #[.int .i64 k, .int .i64 a, .int .i64 b, .slice ka kn kc, .int .i64 kd, .int .i64 ak, .string ky, .string vl, .string lo, .string hi, .int .i64 mo, .bool bk]) w := by
  have hp' : tmps[p]?.getD undef = .pointer (some ⟨g, 0, none⟩) := by simpa using hp
  simp [results, h, hp', asAddr, load_step c0 c1 c2 c3 c4 c5 c6 c7 c8 c9 c10 c11]
end Go.Proofs.YtjddkofpfmjojaaGreatDoor
/-
  readStep of the program.
-/
namespace Go.Proofs.YtjddkofpfmjojaaGreatDoor
open Go.RowKit
set_option linter.unusedVariables false
theorem IW.base {w : World} {B C : Nat} {v : Value} {l : List Int} (h : IW w B v l) (hC : C ≤ B) : IW w C v l := by
  obtain ⟨h1, h2⟩ := h
  refine ⟨h1, ?_⟩
  rcases h2 with h2 | ⟨g, cap, cur, a, b, c⟩
  · exact .inl h2
  · exact .inr ⟨g, cap, cur, a, Nat.le_trans hC b, c⟩
theorem idx_kI (w : ByteArray) : Lib.idxOfS stWs w = kI w := by
  by_cases h0 : w = ⟨#[]⟩
  · subst h0; decide
  by_cases h1 : w = wCall
  · subst h1; decide
  by_cases h2 : w = wDeliver
  · subst h2; decide
  by_cases h3 : w = wLose
  · subst h3; decide
  by_cases h4 : w = wDouble
  · subst h4; decide
  by_cases h5 : w = wTick
  · subst h5; decide
  by_cases h6 : w = wDown
  · subst h6; decide
  by_cases h7 : w = wTorn
  · subst h7; decide
  by_cases h8 : w = wUp
  · subst h8; decide
  by_cases h9 : w = wCalm
  · subst h9; decide
  have hk : kS w = 0 := by
    unfold kS
    rw [if_neg h1, if_neg h2, if_neg h3, if_neg h4, if_neg h5, if_neg h6, if_neg h7, if_neg h8, if_neg h9]
  unfold kI
  rw [if_pos ⟨hk, h0⟩]
  unfold Lib.idxOfS
  refine Lib.idxFromS_miss w stWs 0 (fun j hj => ?_)
  have hj10 : j < 10 := hj
  have : j = 0 ∨ j = 1 ∨ j = 2 ∨ j = 3 ∨ j = 4 ∨ j = 5 ∨ j = 6 ∨ j = 7 ∨ j = 8 ∨ j = 9 := by omega
  rcases this with rfl | rfl | rfl | rfl | rfl | rfl | rfl | rfl | rfl | rfl
  · exact fun e => h0 e.symm
  · exact fun e => h1 e.symm
  · exact fun e => h2 e.symm
  · exact fun e => h3 e.symm
  · exact fun e => h4 e.symm
  · exact fun e => h5 e.symm
  · exact fun e => h6 e.symm
  · exact fun e => h7 e.symm
  · exact fun e => h8 e.symm
  · exact fun e => h9 e.symm
theorem stI_1 {L : List ByteArray} (h : kI (rdW L 0) = 1) : stI L = mkST 1 (tgN (rdW L 1)) 0 [] (ccI (L.drop 2)) := by unfold stI; rw [h]; rfl
theorem stI_7 {L : List ByteArray} (h : kI (rdW L 0) = 7) : stI L = mkST 7 (tgN (rdW L 1)) (tgN (rdW L 2)) ((L.drop 3).map tgN) ccZ := by unfold stI; rw [h]; rfl
theorem stI_e {L : List ByteArray} {k : Int} (h : kI (rdW L 0) = k) (h1 : ¬ k = 1) (h7 : ¬ k = 7) : stI L = mkST k (tgN (rdW L 1)) 0 [] ccZ := by unfold stI; rw [h, if_neg h7, if_neg h7, if_neg h1]
set_option maxHeartbeats 16000000 in
set_option maxRecDepth 20000 in
theorem readStep_any (g : Nat) (s : ByteArray) (d : UInt8) (L : List ByteArray) (w : World) (h : PS w g s d L) (hs : s.size ≤ 1048576) (hG : GZ w g) :
    Calls Tryz.prog 20 #[nextV g] w fun e w' => ∃ xa xn xc, e = .returned (.agg #[.int .i64 (stI L).k, .int .i64 (stI L).a, .int .i64 (stI L).b, .slice xa xn xc, .int .i64 (stI L).kd, .int .i64 (stI L).ak, .string (stI L).ky, .string (stI L).vl, .string (stI L).lo, .string (stI L).hi, .int .i64 (stI L).mo, .bool (stI L).bk]) ∧ IW w' w.heap.size (.slice xa xn xc) (stI L).kp ∧ Only (At g) w w' := by
  have hgl := h.lt
  have C1 := hid (fun w h => next_any g s d L w h hs)
  have C2 := hid (fun L w h hG => oneInt_any g s d L w h hs hG)
  have C3 := hid (fun w => stepWords_any w)
  have C4 := hid (fun L w h hG => readCall_any g s d L w h hs hG)
  have C5 := hid (fun L w h hG => restInt_any g s d L w h hs hG)
  have hb0 : Below w.heap.size w (w.alloc (.cells #[.int .i64 0, .int .i64 0, .int .i64 0, .slice none 0 0, .int .i64 0, .int .i64 0, .string ⟨#[]⟩, .string ⟨#[]⟩, .string ⟨#[]⟩, .string ⟨#[]⟩, .int .i64 0, .bool false] 30)) := below_new (Below.refl _ _)
  have P0 := hid (h.below hb0)
  have G0 := hid (hG.to (hb0.mono (by omega)))
  have O0 := hid (only_of_below hb0 (At g))
  have K0 := hid (Bk.new w 30 [.int .i64 0, .int .i64 0, .int .i64 0, .slice none 0 0, .int .i64 0, .int .i64 0, .string ⟨#[]⟩, .string ⟨#[]⟩, .string ⟨#[]⟩, .string ⟨#[]⟩, .int .i64 0, .bool false])
  clear h hG hb0
  unfold nextV
  obtain ⟨kk, hkk⟩ : ∃ x, kI (rdW L 0) = x := ⟨_, rfl⟩
  by_cases h1 : kk = 1
  · subst h1
    have HV := hid (stI_1 hkk)
    have HKI := hid hkk
    clear hkk
    go_enter Tryz.func20, Tryz.ntmps20
    go_wp2_with fail
    refine (C1.out _ P0.out).mono ?_
    generalize w.alloc (.cells #[.int .i64 0, .int .i64 0, .int .i64 0, .slice none 0 0, .int .i64 0, .int .i64 0, .string ⟨#[]⟩, .string ⟨#[]⟩, .string ⟨#[]⟩, .string ⟨#[]⟩, .int .i64 0, .bool false] 30) = U at *
    rintro r w1 ⟨rfl, hP, hO⟩
    have P1 := hid hP
    have O1 := hid (O0.out.trans hO)
    have G1 := hid (G0.out.only hO (by have := P0.out.lt; omega) (fun b hb q => by have q' : b = g + 2 := q; omega))
    have K1 := hid (K0.out.to hO (fun q => by have q' : w.heap.size = g + 2 := q; omega))
    clear hP hO P0 O0 G0 K0
    go_wp2_with fail
    refine (C3.out _).mono ?_
    rintro r w2 ⟨rfl, hk, hb⟩
    have TW := hid hk
    have P2 := hid (P1.out.below hb)
    have O2 := hid (O1.out.trans (only_of_below hb (At g)))
    have G2 := hid (G1.out.to (hb.mono (by have := P1.out.lt; omega)))
    have K2 := hid (K1.out.below hb)
    clear hk hb P1 O1 G1 K1
    have CI := Any.slices_Index_string Tryz.lays109 w1.heap.size 0 10 10 stWs (rdW L 0) w2 (by decide) (by decide) (fun j hj => by
      have e0 : (stWs.map Value.string)[j]? = some (.string (stWs.getD j ByteArray.empty)) := by rw [List.getElem?_map, List.getElem?_eq_getElem hj, List.getD_eq_getElem?_getD, List.getElem?_eq_getElem hj]; rfl
      rw [Nat.zero_add]
      exact TW.out.cell e0)
    rw [show stWs.take 10 = stWs from rfl, idx_kI, HKI.out] at CI
    have CJ := hid CI
    clear CI
    go_wp2_with fail
    refine CJ.out.mono ?_
    rintro r w2' ⟨rfl, rfl⟩
    clear CJ TW
    have CO := C2.out (L.drop 1) _ P2.out G2.out
    unfold nextV at CO
    rw [rdW_drop, List.drop_drop] at CO
    have CP := hid CO
    clear CO
    go_wp2_with fail
    refine CP.out.mono ?_
    rintro r w3 ⟨rfl, hP, hO⟩
    have P3 := hid hP
    have O3 := hid (O2.out.trans hO)
    have G3 := hid (G2.out.only hO (by have := P2.out.lt; omega) (fun b hb q => by have q' : b = g + 2 := q; omega))
    have K3 := hid (K2.out.to hO (fun q => by have q' : w.heap.size = g + 2 := q; omega))
    clear hP hO P2 O2 G2 K2 CP
    have hb := below_new (o := .cells #[.int .i64 1, .int .i64 (tgN (rdW L (1 + 0))), .int .i64 0, .slice none 0 0, .int .i64 0, .int .i64 0, .string ⟨#[]⟩, .string ⟨#[]⟩, .string ⟨#[]⟩, .string ⟨#[]⟩, .int .i64 0, .bool false] 30) (w := w3) (Below.refl _ _)
    have X4 := hid (Bk.new w3 30 [.int .i64 1, .int .i64 (tgN (rdW L (1 + 0))), .int .i64 0, .slice none 0 0, .int .i64 0, .int .i64 0, .string ⟨#[]⟩, .string ⟨#[]⟩, .string ⟨#[]⟩, .string ⟨#[]⟩, .int .i64 0, .bool false])
    have P4 := hid (P3.out.below hb)
    have O4 := hid (O3.out.trans (only_of_below hb (At g)))
    have G4 := hid (G3.out.to (hb.mono (by have := P3.out.lt; omega)))
    have K4 := hid (K3.out.below hb)
    have HX : Hid (g + 2 < w3.heap.size ∧ w.heap.size < w3.heap.size) := ⟨P3.out.lt, K3.out.lt⟩
    clear hb P3 O3 G3 K3
    have x0 := X4.out.cell (j := 0) rfl
    have CC := C4.out (L.drop 2) _ P4.out G4.out
    unfold nextV at CC
    generalize ccI (L.drop 2) = cv at *
    obtain ⟨c0, c1, c2, c3, c4, c5, c6, c7⟩ := cv
    dsimp only at CC
    have CD := hid CC
    clear CC
    go_wp2_with fail
    refine CD.out.mono ?_
    generalize w3.alloc (.cells #[.int .i64 1, .int .i64 (tgN (rdW L (1 + 0))), .int .i64 0, .slice none 0 0, .int .i64 0, .int .i64 0, .string ⟨#[]⟩, .string ⟨#[]⟩, .string ⟨#[]⟩, .string ⟨#[]⟩, .int .i64 0, .bool false] 30) = w4 at *
    generalize w3.heap.size = gx at *
    rintro r w5 ⟨rfl, hO⟩
    have hxl := HX.out
    have O5 := hid (O4.out.trans hO)
    have K5 := hid (K4.out.to hO (fun q => by have q' : w.heap.size = g + 2 := q; omega))
    have X5 := hid (X4.out.to hO (fun q => by have q' : gx = g + 2 := q; omega))
    clear hO CD P4 O4 G4 K4 X4 x0
    have x0 := X5.out.cell (j := 0) rfl
    have f0 := X5.out.free 0
    have x1 := X5.out.cell (j := 1) rfl
    have f1 := X5.out.free 1
    have x2 := X5.out.cell (j := 2) rfl
    have f2 := X5.out.free 2
    have x3 := X5.out.cell (j := 3) rfl
    have f3 := X5.out.free 3
    have x4 := X5.out.cell (j := 4) rfl
    have f4 := X5.out.free 4
    have x5 := X5.out.cell (j := 5) rfl
    have f5 := X5.out.free 5
    have x6 := X5.out.cell (j := 6) rfl
    have f6 := X5.out.free 6
    have x7 := X5.out.cell (j := 7) rfl
    have f7 := X5.out.free 7
    have x8 := X5.out.cell (j := 8) rfl
    have f8 := X5.out.free 8
    have x9 := X5.out.cell (j := 9) rfl
    have f9 := X5.out.free 9
    have x10 := X5.out.cell (j := 10) rfl
    have f10 := X5.out.free 10
    have x11 := X5.out.cell (j := 11) rfl
    have f11 := X5.out.free 11
    have X6 : Hid (Bk ((((((((w5.setCell ⟨gx, 4, none⟩ (.int .i64 c0)).setCell ⟨gx, 5, none⟩ (.int .i64 c1)).setCell ⟨gx, 6, none⟩ (.string c2)).setCell ⟨gx, 7, none⟩ (.string c3)).setCell ⟨gx, 8, none⟩ (.string c4)).setCell ⟨gx, 9, none⟩ (.string c5)).setCell ⟨gx, 10, none⟩ (.int .i64 c6)).setCell ⟨gx, 11, none⟩ (.bool c7)) gx 30 [.int .i64 1, .int .i64 (tgN (rdW L (1 + 0))), .int .i64 0, .slice none 0 0, .int .i64 c0, .int .i64 c1, .string c2, .string c3, .string c4, .string c5, .int .i64 c6, .bool c7]) := ((((((((X5.out.set 4 _).set 5 _).set 6 _).set 7 _).set 8 _).set 9 _).set 10 _).set 11 _)
    have OX : Hid (Only (fun y => y = gx) w5 ((((((((w5.setCell ⟨gx, 4, none⟩ (.int .i64 c0)).setCell ⟨gx, 5, none⟩ (.int .i64 c1)).setCell ⟨gx, 6, none⟩ (.string c2)).setCell ⟨gx, 7, none⟩ (.string c3)).setCell ⟨gx, 8, none⟩ (.string c4)).setCell ⟨gx, 9, none⟩ (.string c5)).setCell ⟨gx, 10, none⟩ (.int .i64 c6)).setCell ⟨gx, 11, none⟩ (.bool c7))) := (only_step (only_step (only_step (only_step (only_step (only_step (only_step (only_set (R := fun y => y = gx) (p := ⟨gx, 4, none⟩) rfl _) rfl 5 _) rfl 6 _) rfl 7 _) rfl 8 _) rfl 9 _) rfl 10 _) rfl 11 _)
    have O6 := hid (only_new O5.out OX.out (by omega))
    have K6 := hid (K5.out.to OX.out (by omega))
    clear OX X5 K5 O5
    have hne1 : ¬ w.heap.size = gx := by omega
    have hne2 : ¬ gx = w.heap.size := by omega
    go_upto_region 9 with (fail)
    generalize (((((((w5.setCell ⟨gx, 4, none⟩ (.int .i64 c0)).setCell ⟨gx, 5, none⟩ (.int .i64 c1)).setCell ⟨gx, 6, none⟩ (.string c2)).setCell ⟨gx, 7, none⟩ (.string c3)).setCell ⟨gx, 8, none⟩ (.string c4)).setCell ⟨gx, 9, none⟩ (.string c5)).setCell ⟨gx, 10, none⟩ (.int .i64 c6)).setCell ⟨gx, 11, none⟩ (.bool c7) = w6 at *
    clear x0 f0 x1 f1 x2 f2 x3 f3 x4 f4 x5 f5 x6 f6 x7 f7 x8 f8 x9 f9 x10 f10 x11 f11
    have x0 := X6.out.cell (j := 0) rfl
    have x1 := X6.out.cell (j := 1) rfl
    have x2 := X6.out.cell (j := 2) rfl
    have x3 := X6.out.cell (j := 3) rfl
    have x4 := X6.out.cell (j := 4) rfl
    have x5 := X6.out.cell (j := 5) rfl
    have x6 := X6.out.cell (j := 6) rfl
    have x7 := X6.out.cell (j := 7) rfl
    have x8 := X6.out.cell (j := 8) rfl
    have x9 := X6.out.cell (j := 9) rfl
    have x10 := X6.out.cell (j := 10) rfl
    have x11 := X6.out.cell (j := 11) rfl
    have r0 := K6.out.cell (j := 0) rfl
    have rf0 := K6.out.free 0
    have r1 := K6.out.cell (j := 1) rfl
    have rf1 := K6.out.free 1
    have r2 := K6.out.cell (j := 2) rfl
    have rf2 := K6.out.free 2
    have r3 := K6.out.cell (j := 3) rfl
    have rf3 := K6.out.free 3
    have r4 := K6.out.cell (j := 4) rfl
    have rf4 := K6.out.free 4
    have r5 := K6.out.cell (j := 5) rfl
    have rf5 := K6.out.free 5
    have r6 := K6.out.cell (j := 6) rfl
    have rf6 := K6.out.free 6
    have r7 := K6.out.cell (j := 7) rfl
    have rf7 := K6.out.free 7
    have r8 := K6.out.cell (j := 8) rfl
    have rf8 := K6.out.free 8
    have r9 := K6.out.cell (j := 9) rfl
    have rf9 := K6.out.free 9
    have r10 := K6.out.cell (j := 10) rfl
    have rf10 := K6.out.free 10
    have r11 := K6.out.cell (j := 11) rfl
    have rf11 := K6.out.free 11
    have KF : Hid (Bk ((((((((((((w6.setCell ⟨w.heap.size, 0, none⟩ (.int .i64 1)).setCell ⟨w.heap.size, 1, none⟩ (.int .i64 (tgN (rdW L (1 + 0))))).setCell ⟨w.heap.size, 2, none⟩ (.int .i64 0)).setCell ⟨w.heap.size, 3, none⟩ (.slice none 0 0)).setCell ⟨w.heap.size, 4, none⟩ (.int .i64 c0)).setCell ⟨w.heap.size, 5, none⟩ (.int .i64 c1)).setCell ⟨w.heap.size, 6, none⟩ (.string c2)).setCell ⟨w.heap.size, 7, none⟩ (.string c3)).setCell ⟨w.heap.size, 8, none⟩ (.string c4)).setCell ⟨w.heap.size, 9, none⟩ (.string c5)).setCell ⟨w.heap.size, 10, none⟩ (.int .i64 c6)).setCell ⟨w.heap.size, 11, none⟩ (.bool c7)) w.heap.size 30 [.int .i64 1, .int .i64 (tgN (rdW L (1 + 0))), .int .i64 0, .slice none 0 0, .int .i64 c0, .int .i64 c1, .string c2, .string c3, .string c4, .string c5, .int .i64 c6, .bool c7]) := ((((((((((((K6.out.set 0 _).set 1 _).set 2 _).set 3 _).set 4 _).set 5 _).set 6 _).set 7 _).set 8 _).set 9 _).set 10 _).set 11 _)
    have OS : Hid (Only (fun y => y = w.heap.size) w6 ((((((((((((w6.setCell ⟨w.heap.size, 0, none⟩ (.int .i64 1)).setCell ⟨w.heap.size, 1, none⟩ (.int .i64 (tgN (rdW L (1 + 0))))).setCell ⟨w.heap.size, 2, none⟩ (.int .i64 0)).setCell ⟨w.heap.size, 3, none⟩ (.slice none 0 0)).setCell ⟨w.heap.size, 4, none⟩ (.int .i64 c0)).setCell ⟨w.heap.size, 5, none⟩ (.int .i64 c1)).setCell ⟨w.heap.size, 6, none⟩ (.string c2)).setCell ⟨w.heap.size, 7, none⟩ (.string c3)).setCell ⟨w.heap.size, 8, none⟩ (.string c4)).setCell ⟨w.heap.size, 9, none⟩ (.string c5)).setCell ⟨w.heap.size, 10, none⟩ (.int .i64 c6)).setCell ⟨w.heap.size, 11, none⟩ (.bool c7))) := (only_step (only_step (only_step (only_step (only_step (only_step (only_step (only_step (only_step (only_step (only_step (only_set (R := fun y => y = w.heap.size) (p := ⟨w.heap.size, 0, none⟩) rfl _) rfl 1 _) rfl 2 _) rfl 3 _) rfl 4 _) rfl 5 _) rfl 6 _) rfl 7 _) rfl 8 _) rfl 9 _) rfl 10 _) rfl 11 _)
    have OF : Hid (Only (At g) w ((((((((((((w6.setCell ⟨w.heap.size, 0, none⟩ (.int .i64 1)).setCell ⟨w.heap.size, 1, none⟩ (.int .i64 (tgN (rdW L (1 + 0))))).setCell ⟨w.heap.size, 2, none⟩ (.int .i64 0)).setCell ⟨w.heap.size, 3, none⟩ (.slice none 0 0)).setCell ⟨w.heap.size, 4, none⟩ (.int .i64 c0)).setCell ⟨w.heap.size, 5, none⟩ (.int .i64 c1)).setCell ⟨w.heap.size, 6, none⟩ (.string c2)).setCell ⟨w.heap.size, 7, none⟩ (.string c3)).setCell ⟨w.heap.size, 8, none⟩ (.string c4)).setCell ⟨w.heap.size, 9, none⟩ (.string c5)).setCell ⟨w.heap.size, 10, none⟩ (.int .i64 c6)).setCell ⟨w.heap.size, 11, none⟩ (.bool c7))) := only_new O6.out OS.out (Nat.le_refl _)
    go_wp2
    try simp only [Exit.inBlock, Exit.then]
    refine bodyPost_ret (v := .agg #[.int .i64 1, .int .i64 (tgN (rdW L (1 + 0))), .int .i64 0, .slice none 0 0, .int .i64 c0, .int .i64 c1, .string c2, .string c3, .string c4, .string c5, .int .i64 c6, .bool c7]) ?_ rfl ?_
    · exact results_step rfl _ _ _ rfl (KF.out.cell (j := 0) rfl) (KF.out.cell (j := 1) rfl) (KF.out.cell (j := 2) rfl) (KF.out.cell (j := 3) rfl) (KF.out.cell (j := 4) rfl) (KF.out.cell (j := 5) rfl) (KF.out.cell (j := 6) rfl) (KF.out.cell (j := 7) rfl) (KF.out.cell (j := 8) rfl) (KF.out.cell (j := 9) rfl) (KF.out.cell (j := 10) rfl) (KF.out.cell (j := 11) rfl)
    · exact ⟨none, 0, 0, by rw [HV.out]; rfl, by rw [HV.out]; exact World.ownsRow_nil _ _ _ _, OF.out⟩
  by_cases h7 : kk = 7
  · subst h7
    have HV := hid (stI_7 hkk)
    have HKI := hid hkk
    clear hkk h1
    go_enter Tryz.func20, Tryz.ntmps20
    go_wp2_with fail
    refine (C1.out _ P0.out).mono ?_
    generalize w.alloc (.cells #[.int .i64 0, .int .i64 0, .int .i64 0, .slice none 0 0, .int .i64 0, .int .i64 0, .string ⟨#[]⟩, .string ⟨#[]⟩, .string ⟨#[]⟩, .string ⟨#[]⟩, .int .i64 0, .bool false] 30) = U at *
    rintro r w1 ⟨rfl, hP, hO⟩
    have P1 := hid hP
    have O1 := hid (O0.out.trans hO)
    have G1 := hid (G0.out.only hO (by have := P0.out.lt; omega) (fun b hb q => by have q' : b = g + 2 := q; omega))
    have K1 := hid (K0.out.to hO (fun q => by have q' : w.heap.size = g + 2 := q; omega))
    clear hP hO P0 O0 G0 K0
    go_wp2_with fail
    refine (C3.out _).mono ?_
    rintro r w2 ⟨rfl, hk, hb⟩
    have TW := hid hk
    have P2 := hid (P1.out.below hb)
    have O2 := hid (O1.out.trans (only_of_below hb (At g)))
    have G2 := hid (G1.out.to (hb.mono (by have := P1.out.lt; omega)))
    have K2 := hid (K1.out.below hb)
    clear hk hb P1 O1 G1 K1
    have CI := Any.slices_Index_string Tryz.lays109 w1.heap.size 0 10 10 stWs (rdW L 0) w2 (by decide) (by decide) (fun j hj => by
      have e0 : (stWs.map Value.string)[j]? = some (.string (stWs.getD j ByteArray.empty)) := by rw [List.getElem?_map, List.getElem?_eq_getElem hj, List.getD_eq_getElem?_getD, List.getElem?_eq_getElem hj]; rfl
      rw [Nat.zero_add]
      exact TW.out.cell e0)
    rw [show stWs.take 10 = stWs from rfl, idx_kI, HKI.out] at CI
    have CJ := hid CI
    clear CI
    go_wp2_with fail
    refine CJ.out.mono ?_
    rintro r w2' ⟨rfl, rfl⟩
    clear CJ TW
    have CO := C2.out (L.drop 1) _ P2.out G2.out
    unfold nextV at CO
    rw [rdW_drop, List.drop_drop] at CO
    have CP := hid CO
    clear CO
    go_wp2_with fail
    refine CP.out.mono ?_
    rintro r w3 ⟨rfl, hP, hO⟩
    have P3 := hid hP
    have O3 := hid (O2.out.trans hO)
    have G3 := hid (G2.out.only hO (by have := P2.out.lt; omega) (fun b hb q => by have q' : b = g + 2 := q; omega))
    have K3 := hid (K2.out.to hO (fun q => by have q' : w.heap.size = g + 2 := q; omega))
    clear hP hO P2 O2 G2 K2 CP
    have hb := below_new (o := .cells #[.int .i64 7, .int .i64 (tgN (rdW L (1 + 0))), .int .i64 0, .slice none 0 0, .int .i64 0, .int .i64 0, .string ⟨#[]⟩, .string ⟨#[]⟩, .string ⟨#[]⟩, .string ⟨#[]⟩, .int .i64 0, .bool false] 30) (w := w3) (Below.refl _ _)
    have X4 := hid (Bk.new w3 30 [.int .i64 7, .int .i64 (tgN (rdW L (1 + 0))), .int .i64 0, .slice none 0 0, .int .i64 0, .int .i64 0, .string ⟨#[]⟩, .string ⟨#[]⟩, .string ⟨#[]⟩, .string ⟨#[]⟩, .int .i64 0, .bool false])
    have P4 := hid (P3.out.below hb)
    have O4 := hid (O3.out.trans (only_of_below hb (At g)))
    have G4 := hid (G3.out.to (hb.mono (by have := P3.out.lt; omega)))
    have K4 := hid (K3.out.below hb)
    have HX : Hid (g + 2 < w3.heap.size ∧ w.heap.size < w3.heap.size) := ⟨P3.out.lt, K3.out.lt⟩
    clear hb P3 O3 G3 K3
    have x0 := X4.out.cell (j := 0) rfl
    have CC := C2.out (L.drop 2) _ P4.out G4.out
    unfold nextV at CC
    rw [rdW_drop, List.drop_drop] at CC
    have CD := hid CC
    clear CC
    go_wp2_with fail
    refine CD.out.mono ?_
    generalize w3.alloc (.cells #[.int .i64 7, .int .i64 (tgN (rdW L (1 + 0))), .int .i64 0, .slice none 0 0, .int .i64 0, .int .i64 0, .string ⟨#[]⟩, .string ⟨#[]⟩, .string ⟨#[]⟩, .string ⟨#[]⟩, .int .i64 0, .bool false] 30) = w4 at *
    generalize w3.heap.size = gx at *
    rintro r w5 ⟨rfl, hP, hO⟩
    have hxl := HX.out
    have P5 := hid hP
    have O5 := hid (O4.out.trans hO)
    have G5 := hid (G4.out.only hO (by have := P4.out.lt; omega) (fun b hb q => by have q' : b = g + 2 := q; omega))
    have K5 := hid (K4.out.to hO (fun q => by have q' : w.heap.size = g + 2 := q; omega))
    have X5 := hid (X4.out.to hO (fun q => by have q' : gx = g + 2 := q; omega))
    clear hP hO CD P4 O4 G4 K4 X4 x0
    have x2 := X5.out.cell (j := 2) rfl
    have f2 := X5.out.free 2
    have X6 : Hid (Bk (w5.setCell ⟨gx, 2, none⟩ (.int .i64 (tgN (rdW L (2 + 0))))) gx 30 [.int .i64 7, .int .i64 (tgN (rdW L (1 + 0))), .int .i64 (tgN (rdW L (2 + 0))), .slice none 0 0, .int .i64 0, .int .i64 0, .string ⟨#[]⟩, .string ⟨#[]⟩, .string ⟨#[]⟩, .string ⟨#[]⟩, .int .i64 0, .bool false]) := X5.out.set 2 _
    have OX : Hid (Only (fun y => y = gx) w5 (w5.setCell ⟨gx, 2, none⟩ (.int .i64 (tgN (rdW L (2 + 0)))))) := only_set (R := fun y => y = gx) (p := ⟨gx, 2, none⟩) rfl _
    have O6 := hid (only_new O5.out OX.out (by omega))
    have K6 := hid (K5.out.to OX.out (by omega))
    have P6 := hid (P5.out.to OX.out (by omega) (by omega) (by omega))
    have G6 := hid (G5.out.only OX.out (by have := P5.out.lt; omega) (fun b hb q => by have q' : b = gx := q; omega))
    clear OX X5 K5 O5 P5 G5
    have CC := C5.out (L.drop (2 + 1)) _ P6.out G6.out
    unfold nextV at CC
    have CD := hid CC
    clear CC
    go_wp2_with fail
    refine CD.out.mono ?_
    generalize w5.setCell ⟨gx, 2, none⟩ (.int .i64 (tgN (rdW L (2 + 0)))) = w6 at *
    rintro r w7 ⟨xa, xn, xc, rfl, hI, hO⟩
    have hOA : Only (At g) w6 w7 := hO.mono (fun i hi q => by rcases q with q | q; exact q; omega)
    have hsz : gx < w6.heap.size := X6.out.lt
    have I7 := hid hI
    have O7 := hid (O6.out.trans hOA)
    have K7 := hid (K6.out.to hOA (fun q => by have q' : w.heap.size = g + 2 := q; omega))
    have X7 := hid (X6.out.to hOA (fun q => by have q' : gx = g + 2 := q; omega))
    clear hI hO hOA CD P6 O6 G6 K6 X6 x2 f2
    have x0 := X7.out.cell (j := 0) rfl
    have f0 := X7.out.free 0
    have x1 := X7.out.cell (j := 1) rfl
    have f1 := X7.out.free 1
    have x2 := X7.out.cell (j := 2) rfl
    have f2 := X7.out.free 2
    have x3 := X7.out.cell (j := 3) rfl
    have f3 := X7.out.free 3
    have x4 := X7.out.cell (j := 4) rfl
    have f4 := X7.out.free 4
    have x5 := X7.out.cell (j := 5) rfl
    have f5 := X7.out.free 5
    have x6 := X7.out.cell (j := 6) rfl
    have f6 := X7.out.free 6
    have x7 := X7.out.cell (j := 7) rfl
    have f7 := X7.out.free 7
    have x8 := X7.out.cell (j := 8) rfl
    have f8 := X7.out.free 8
    have x9 := X7.out.cell (j := 9) rfl
    have f9 := X7.out.free 9
    have x10 := X7.out.cell (j := 10) rfl
    have f10 := X7.out.free 10
    have x11 := X7.out.cell (j := 11) rfl
    have f11 := X7.out.free 11
    have X8 : Hid (Bk (w7.setCell ⟨gx, 3, none⟩ (.slice xa xn xc)) gx 30 [.int .i64 7, .int .i64 (tgN (rdW L (1 + 0))), .int .i64 (tgN (rdW L (2 + 0))), .slice xa xn xc, .int .i64 0, .int .i64 0, .string ⟨#[]⟩, .string ⟨#[]⟩, .string ⟨#[]⟩, .string ⟨#[]⟩, .int .i64 0, .bool false]) := X7.out.set 3 _
    have OX : Hid (Only (fun y => y = gx) w7 (w7.setCell ⟨gx, 3, none⟩ (.slice xa xn xc))) := only_set (R := fun y => y = gx) (p := ⟨gx, 3, none⟩) rfl _
    have O8 := hid (only_new O7.out OX.out (by omega))
    have K8 := hid (K7.out.to OX.out (by omega))
    have I8 := hid (I7.out.to OX.out (fun q e r => by have := (I7.out.lt e).1; omega))
    clear OX X7 K7 O7
    have hne1 : ¬ w.heap.size = gx := by omega
    have hne2 : ¬ gx = w.heap.size := by omega
    go_upto_region 9 with (fail)
    generalize w7.setCell ⟨gx, 3, none⟩ (.slice xa xn xc) = w8 at *
    clear x0 f0 x1 f1 x2 f2 x3 f3 x4 f4 x5 f5 x6 f6 x7 f7 x8 f8 x9 f9 x10 f10 x11 f11
    have x0 := X8.out.cell (j := 0) rfl
    have x1 := X8.out.cell (j := 1) rfl
    have x2 := X8.out.cell (j := 2) rfl
    have x3 := X8.out.cell (j := 3) rfl
    have x4 := X8.out.cell (j := 4) rfl
    have x5 := X8.out.cell (j := 5) rfl
    have x6 := X8.out.cell (j := 6) rfl
    have x7 := X8.out.cell (j := 7) rfl
    have x8 := X8.out.cell (j := 8) rfl
    have x9 := X8.out.cell (j := 9) rfl
    have x10 := X8.out.cell (j := 10) rfl
    have x11 := X8.out.cell (j := 11) rfl
    have r0 := K8.out.cell (j := 0) rfl
    have rf0 := K8.out.free 0
    have r1 := K8.out.cell (j := 1) rfl
    have rf1 := K8.out.free 1
    have r2 := K8.out.cell (j := 2) rfl
    have rf2 := K8.out.free 2
    have r3 := K8.out.cell (j := 3) rfl
    have rf3 := K8.out.free 3
    have r4 := K8.out.cell (j := 4) rfl
    have rf4 := K8.out.free 4
    have r5 := K8.out.cell (j := 5) rfl
    have rf5 := K8.out.free 5
    have r6 := K8.out.cell (j := 6) rfl
    have rf6 := K8.out.free 6
    have r7 := K8.out.cell (j := 7) rfl
    have rf7 := K8.out.free 7
    have r8 := K8.out.cell (j := 8) rfl
    have rf8 := K8.out.free 8
    have r9 := K8.out.cell (j := 9) rfl
    have rf9 := K8.out.free 9
    have r10 := K8.out.cell (j := 10) rfl
    have rf10 := K8.out.free 10
    have r11 := K8.out.cell (j := 11) rfl
    have rf11 := K8.out.free 11
    have KF : Hid (Bk ((((((((((((w8.setCell ⟨w.heap.size, 0, none⟩ (.int .i64 7)).setCell ⟨w.heap.size, 1, none⟩ (.int .i64 (tgN (rdW L (1 + 0))))).setCell ⟨w.heap.size, 2, none⟩ (.int .i64 (tgN (rdW L (2 + 0))))).setCell ⟨w.heap.size, 3, none⟩ (.slice xa xn xc)).setCell ⟨w.heap.size, 4, none⟩ (.int .i64 0)).setCell ⟨w.heap.size, 5, none⟩ (.int .i64 0)).setCell ⟨w.heap.size, 6, none⟩ (.string ⟨#[]⟩)).setCell ⟨w.heap.size, 7, none⟩ (.string ⟨#[]⟩)).setCell ⟨w.heap.size, 8, none⟩ (.string ⟨#[]⟩)).setCell ⟨w.heap.size, 9, none⟩ (.string ⟨#[]⟩)).setCell ⟨w.heap.size, 10, none⟩ (.int .i64 0)).setCell ⟨w.heap.size, 11, none⟩ (.bool false)) w.heap.size 30 [.int .i64 7, .int .i64 (tgN (rdW L (1 + 0))), .int .i64 (tgN (rdW L (2 + 0))), .slice xa xn xc, .int .i64 0, .int .i64 0, .string ⟨#[]⟩, .string ⟨#[]⟩, .string ⟨#[]⟩, .string ⟨#[]⟩, .int .i64 0, .bool false]) := ((((((((((((K8.out.set 0 _).set 1 _).set 2 _).set 3 _).set 4 _).set 5 _).set 6 _).set 7 _).set 8 _).set 9 _).set 10 _).set 11 _)
    have OS : Hid (Only (fun y => y = w.heap.size) w8 ((((((((((((w8.setCell ⟨w.heap.size, 0, none⟩ (.int .i64 7)).setCell ⟨w.heap.size, 1, none⟩ (.int .i64 (tgN (rdW L (1 + 0))))).setCell ⟨w.heap.size, 2, none⟩ (.int .i64 (tgN (rdW L (2 + 0))))).setCell ⟨w.heap.size, 3, none⟩ (.slice xa xn xc)).setCell ⟨w.heap.size, 4, none⟩ (.int .i64 0)).setCell ⟨w.heap.size, 5, none⟩ (.int .i64 0)).setCell ⟨w.heap.size, 6, none⟩ (.string ⟨#[]⟩)).setCell ⟨w.heap.size, 7, none⟩ (.string ⟨#[]⟩)).setCell ⟨w.heap.size, 8, none⟩ (.string ⟨#[]⟩)).setCell ⟨w.heap.size, 9, none⟩ (.string ⟨#[]⟩)).setCell ⟨w.heap.size, 10, none⟩ (.int .i64 0)).setCell ⟨w.heap.size, 11, none⟩ (.bool false))) := (only_step (only_step (only_step (only_step (only_step (only_step (only_step (only_step (only_step (only_step (only_step (only_set (R := fun y => y = w.heap.size) (p := ⟨w.heap.size, 0, none⟩) rfl _) rfl 1 _) rfl 2 _) rfl 3 _) rfl 4 _) rfl 5 _) rfl 6 _) rfl 7 _) rfl 8 _) rfl 9 _) rfl 10 _) rfl 11 _)
    have OF : Hid (Only (At g) w ((((((((((((w8.setCell ⟨w.heap.size, 0, none⟩ (.int .i64 7)).setCell ⟨w.heap.size, 1, none⟩ (.int .i64 (tgN (rdW L (1 + 0))))).setCell ⟨w.heap.size, 2, none⟩ (.int .i64 (tgN (rdW L (2 + 0))))).setCell ⟨w.heap.size, 3, none⟩ (.slice xa xn xc)).setCell ⟨w.heap.size, 4, none⟩ (.int .i64 0)).setCell ⟨w.heap.size, 5, none⟩ (.int .i64 0)).setCell ⟨w.heap.size, 6, none⟩ (.string ⟨#[]⟩)).setCell ⟨w.heap.size, 7, none⟩ (.string ⟨#[]⟩)).setCell ⟨w.heap.size, 8, none⟩ (.string ⟨#[]⟩)).setCell ⟨w.heap.size, 9, none⟩ (.string ⟨#[]⟩)).setCell ⟨w.heap.size, 10, none⟩ (.int .i64 0)).setCell ⟨w.heap.size, 11, none⟩ (.bool false))) := only_new O8.out OS.out (Nat.le_refl _)
    have IF : Hid (IW ((((((((((((w8.setCell ⟨w.heap.size, 0, none⟩ (.int .i64 7)).setCell ⟨w.heap.size, 1, none⟩ (.int .i64 (tgN (rdW L (1 + 0))))).setCell ⟨w.heap.size, 2, none⟩ (.int .i64 (tgN (rdW L (2 + 0))))).setCell ⟨w.heap.size, 3, none⟩ (.slice xa xn xc)).setCell ⟨w.heap.size, 4, none⟩ (.int .i64 0)).setCell ⟨w.heap.size, 5, none⟩ (.int .i64 0)).setCell ⟨w.heap.size, 6, none⟩ (.string ⟨#[]⟩)).setCell ⟨w.heap.size, 7, none⟩ (.string ⟨#[]⟩)).setCell ⟨w.heap.size, 8, none⟩ (.string ⟨#[]⟩)).setCell ⟨w.heap.size, 9, none⟩ (.string ⟨#[]⟩)).setCell ⟨w.heap.size, 10, none⟩ (.int .i64 0)).setCell ⟨w.heap.size, 11, none⟩ (.bool false)) w.heap.size (.slice xa xn xc) ((L.drop 3).map tgN)) := (I8.out.to OS.out (fun q e r => by have := (I8.out.lt e).1; omega)).base (by omega)
    go_wp2
    try simp only [Exit.inBlock, Exit.then]
    refine bodyPost_ret (v := .agg #[.int .i64 7, .int .i64 (tgN (rdW L (1 + 0))), .int .i64 (tgN (rdW L (2 + 0))), .slice xa xn xc, .int .i64 0, .int .i64 0, .string ⟨#[]⟩, .string ⟨#[]⟩, .string ⟨#[]⟩, .string ⟨#[]⟩, .int .i64 0, .bool false]) ?_ rfl ?_
    · exact results_step rfl _ _ _ rfl (KF.out.cell (j := 0) rfl) (KF.out.cell (j := 1) rfl) (KF.out.cell (j := 2) rfl) (KF.out.cell (j := 3) rfl) (KF.out.cell (j := 4) rfl) (KF.out.cell (j := 5) rfl) (KF.out.cell (j := 6) rfl) (KF.out.cell (j := 7) rfl) (KF.out.cell (j := 8) rfl) (KF.out.cell (j := 9) rfl) (KF.out.cell (j := 10) rfl) (KF.out.cell (j := 11) rfl)
    · exact ⟨xa, xn, xc, by rw [HV.out]; rfl, by rw [HV.out]; exact IF.out, OF.out⟩
  have HV := hid (stI_e hkk h1 h7)
  have HKI := hid hkk
  clear hkk
  go_enter Tryz.func20, Tryz.ntmps20
  go_wp2_with fail
  refine (C1.out _ P0.out).mono ?_
  generalize w.alloc (.cells #[.int .i64 0, .int .i64 0, .int .i64 0, .slice none 0 0, .int .i64 0, .int .i64 0, .string ⟨#[]⟩, .string ⟨#[]⟩, .string ⟨#[]⟩, .string ⟨#[]⟩, .int .i64 0, .bool false] 30) = U at *
  rintro r w1 ⟨rfl, hP, hO⟩
  have P1 := hid hP
  have O1 := hid (O0.out.trans hO)
  have G1 := hid (G0.out.only hO (by have := P0.out.lt; omega) (fun b hb q => by have q' : b = g + 2 := q; omega))
  have K1 := hid (K0.out.to hO (fun q => by have q' : w.heap.size = g + 2 := q; omega))
  clear hP hO P0 O0 G0 K0
  go_wp2_with fail
  refine (C3.out _).mono ?_
  rintro r w2 ⟨rfl, hk, hb⟩
  have TW := hid hk
  have P2 := hid (P1.out.below hb)
  have O2 := hid (O1.out.trans (only_of_below hb (At g)))
  have G2 := hid (G1.out.to (hb.mono (by have := P1.out.lt; omega)))
  have K2 := hid (K1.out.below hb)
  clear hk hb P1 O1 G1 K1
  have CI := Any.slices_Index_string Tryz.lays109 w1.heap.size 0 10 10 stWs (rdW L 0) w2 (by decide) (by decide) (fun j hj => by
    have e0 : (stWs.map Value.string)[j]? = some (.string (stWs.getD j ByteArray.empty)) := by rw [List.getElem?_map, List.getElem?_eq_getElem hj, List.getD_eq_getElem?_getD, List.getElem?_eq_getElem hj]; rfl
    rw [Nat.zero_add]
    exact TW.out.cell e0)
  rw [show stWs.take 10 = stWs from rfl, idx_kI, HKI.out] at CI
  have CJ := hid CI
  clear CI
  go_wp2_with fail
  refine CJ.out.mono ?_
  rintro r w2' ⟨rfl, rfl⟩
  clear CJ TW
  have CO := C2.out (L.drop 1) _ P2.out G2.out
  unfold nextV at CO
  rw [rdW_drop, List.drop_drop] at CO
  have CP := hid CO
  clear CO
  go_wp2_with fail
  refine CP.out.mono ?_
  rintro r w3 ⟨rfl, hP, hO⟩
  have P3 := hid hP
  have O3 := hid (O2.out.trans hO)
  have G3 := hid (G2.out.only hO (by have := P2.out.lt; omega) (fun b hb q => by have q' : b = g + 2 := q; omega))
  have K3 := hid (K2.out.to hO (fun q => by have q' : w.heap.size = g + 2 := q; omega))
  clear hP hO P2 O2 G2 K2 CP
  have hb := below_new (o := .cells #[.int .i64 kk, .int .i64 (tgN (rdW L (1 + 0))), .int .i64 0, .slice none 0 0, .int .i64 0, .int .i64 0, .string ⟨#[]⟩, .string ⟨#[]⟩, .string ⟨#[]⟩, .string ⟨#[]⟩, .int .i64 0, .bool false] 30) (w := w3) (Below.refl _ _)
  have X4 := hid (Bk.new w3 30 [.int .i64 kk, .int .i64 (tgN (rdW L (1 + 0))), .int .i64 0, .slice none 0 0, .int .i64 0, .int .i64 0, .string ⟨#[]⟩, .string ⟨#[]⟩, .string ⟨#[]⟩, .string ⟨#[]⟩, .int .i64 0, .bool false])
  have P4 := hid (P3.out.below hb)
  have O4 := hid (O3.out.trans (only_of_below hb (At g)))
  have G4 := hid (G3.out.to (hb.mono (by have := P3.out.lt; omega)))
  have K4 := hid (K3.out.below hb)
  have HX : Hid (g + 2 < w3.heap.size ∧ w.heap.size < w3.heap.size) := ⟨P3.out.lt, K3.out.lt⟩
  clear hb P3 O3 G3 K3
  have x0 := X4.out.cell (j := 0) rfl
  go_upto_region 9 with (fail)
  generalize w3.alloc (.cells #[.int .i64 kk, .int .i64 (tgN (rdW L (1 + 0))), .int .i64 0, .slice none 0 0, .int .i64 0, .int .i64 0, .string ⟨#[]⟩, .string ⟨#[]⟩, .string ⟨#[]⟩, .string ⟨#[]⟩, .int .i64 0, .bool false] 30) = w4 at *
  generalize w3.heap.size = gx at *
  have hxl := HX.out
  have hne1 : ¬ w.heap.size = gx := by omega
  have hne2 : ¬ gx = w.heap.size := by omega
  have x1 := X4.out.cell (j := 1) rfl
  have x2 := X4.out.cell (j := 2) rfl
  have x3 := X4.out.cell (j := 3) rfl
  have x4 := X4.out.cell (j := 4) rfl
  have x5 := X4.out.cell (j := 5) rfl
  have x6 := X4.out.cell (j := 6) rfl
  have x7 := X4.out.cell (j := 7) rfl
  have x8 := X4.out.cell (j := 8) rfl
  have x9 := X4.out.cell (j := 9) rfl
  have x10 := X4.out.cell (j := 10) rfl
  have x11 := X4.out.cell (j := 11) rfl
  have r0 := K4.out.cell (j := 0) rfl
  have rf0 := K4.out.free 0
  have r1 := K4.out.cell (j := 1) rfl
  have rf1 := K4.out.free 1
  have r2 := K4.out.cell (j := 2) rfl
  have rf2 := K4.out.free 2
  have r3 := K4.out.cell (j := 3) rfl
  have rf3 := K4.out.free 3
  have r4 := K4.out.cell (j := 4) rfl
  have rf4 := K4.out.free 4
  have r5 := K4.out.cell (j := 5) rfl
  have rf5 := K4.out.free 5
  have r6 := K4.out.cell (j := 6) rfl
  have rf6 := K4.out.free 6
  have r7 := K4.out.cell (j := 7) rfl
  have rf7 := K4.out.free 7
  have r8 := K4.out.cell (j := 8) rfl
  have rf8 := K4.out.free 8
  have r9 := K4.out.cell (j := 9) rfl
  have rf9 := K4.out.free 9
  have r10 := K4.out.cell (j := 10) rfl
  have rf10 := K4.out.free 10
  have r11 := K4.out.cell (j := 11) rfl
  have rf11 := K4.out.free 11
  have KF : Hid (Bk ((((((((((((w4.setCell ⟨w.heap.size, 0, none⟩ (.int .i64 kk)).setCell ⟨w.heap.size, 1, none⟩ (.int .i64 (tgN (rdW L (1 + 0))))).setCell ⟨w.heap.size, 2, none⟩ (.int .i64 0)).setCell ⟨w.heap.size, 3, none⟩ (.slice none 0 0)).setCell ⟨w.heap.size, 4, none⟩ (.int .i64 0)).setCell ⟨w.heap.size, 5, none⟩ (.int .i64 0)).setCell ⟨w.heap.size, 6, none⟩ (.string ⟨#[]⟩)).setCell ⟨w.heap.size, 7, none⟩ (.string ⟨#[]⟩)).setCell ⟨w.heap.size, 8, none⟩ (.string ⟨#[]⟩)).setCell ⟨w.heap.size, 9, none⟩ (.string ⟨#[]⟩)).setCell ⟨w.heap.size, 10, none⟩ (.int .i64 0)).setCell ⟨w.heap.size, 11, none⟩ (.bool false)) w.heap.size 30 [.int .i64 kk, .int .i64 (tgN (rdW L (1 + 0))), .int .i64 0, .slice none 0 0, .int .i64 0, .int .i64 0, .string ⟨#[]⟩, .string ⟨#[]⟩, .string ⟨#[]⟩, .string ⟨#[]⟩, .int .i64 0, .bool false]) := ((((((((((((K4.out.set 0 _).set 1 _).set 2 _).set 3 _).set 4 _).set 5 _).set 6 _).set 7 _).set 8 _).set 9 _).set 10 _).set 11 _)
  have OS : Hid (Only (fun y => y = w.heap.size) w4 ((((((((((((w4.setCell ⟨w.heap.size, 0, none⟩ (.int .i64 kk)).setCell ⟨w.heap.size, 1, none⟩ (.int .i64 (tgN (rdW L (1 + 0))))).setCell ⟨w.heap.size, 2, none⟩ (.int .i64 0)).setCell ⟨w.heap.size, 3, none⟩ (.slice none 0 0)).setCell ⟨w.heap.size, 4, none⟩ (.int .i64 0)).setCell ⟨w.heap.size, 5, none⟩ (.int .i64 0)).setCell ⟨w.heap.size, 6, none⟩ (.string ⟨#[]⟩)).setCell ⟨w.heap.size, 7, none⟩ (.string ⟨#[]⟩)).setCell ⟨w.heap.size, 8, none⟩ (.string ⟨#[]⟩)).setCell ⟨w.heap.size, 9, none⟩ (.string ⟨#[]⟩)).setCell ⟨w.heap.size, 10, none⟩ (.int .i64 0)).setCell ⟨w.heap.size, 11, none⟩ (.bool false))) := (only_step (only_step (only_step (only_step (only_step (only_step (only_step (only_step (only_step (only_step (only_step (only_set (R := fun y => y = w.heap.size) (p := ⟨w.heap.size, 0, none⟩) rfl _) rfl 1 _) rfl 2 _) rfl 3 _) rfl 4 _) rfl 5 _) rfl 6 _) rfl 7 _) rfl 8 _) rfl 9 _) rfl 10 _) rfl 11 _)
  have OF : Hid (Only (At g) w ((((((((((((w4.setCell ⟨w.heap.size, 0, none⟩ (.int .i64 kk)).setCell ⟨w.heap.size, 1, none⟩ (.int .i64 (tgN (rdW L (1 + 0))))).setCell ⟨w.heap.size, 2, none⟩ (.int .i64 0)).setCell ⟨w.heap.size, 3, none⟩ (.slice none 0 0)).setCell ⟨w.heap.size, 4, none⟩ (.int .i64 0)).setCell ⟨w.heap.size, 5, none⟩ (.int .i64 0)).setCell ⟨w.heap.size, 6, none⟩ (.string ⟨#[]⟩)).setCell ⟨w.heap.size, 7, none⟩ (.string ⟨#[]⟩)).setCell ⟨w.heap.size, 8, none⟩ (.string ⟨#[]⟩)).setCell ⟨w.heap.size, 9, none⟩ (.string ⟨#[]⟩)).setCell ⟨w.heap.size, 10, none⟩ (.int .i64 0)).setCell ⟨w.heap.size, 11, none⟩ (.bool false))) := only_new O4.out OS.out (Nat.le_refl _)
  go_wp2
  try simp only [Exit.inBlock, Exit.then]
  refine bodyPost_ret (v := .agg #[.int .i64 kk, .int .i64 (tgN (rdW L (1 + 0))), .int .i64 0, .slice none 0 0, .int .i64 0, .int .i64 0, .string ⟨#[]⟩, .string ⟨#[]⟩, .string ⟨#[]⟩, .string ⟨#[]⟩, .int .i64 0, .bool false]) ?_ rfl ?_
  · exact results_step rfl _ _ _ rfl (KF.out.cell (j := 0) rfl) (KF.out.cell (j := 1) rfl) (KF.out.cell (j := 2) rfl) (KF.out.cell (j := 3) rfl) (KF.out.cell (j := 4) rfl) (KF.out.cell (j := 5) rfl) (KF.out.cell (j := 6) rfl) (KF.out.cell (j := 7) rfl) (KF.out.cell (j := 8) rfl) (KF.out.cell (j := 9) rfl) (KF.out.cell (j := 10) rfl) (KF.out.cell (j := 11) rfl)
  · exact ⟨none, 0, 0, by rw [HV.out]; rfl, by rw [HV.out]; exact World.ownsRow_nil _ _ _ _, OF.out⟩
end Go.Proofs.YtjddkofpfmjojaaGreatDoor
/-
  == of calls; isWritten, lineOf and StepText of the program.
-/
namespace Go.Proofs.YtjddkofpfmjojaaGreatDoor
open Go.RowKit
set_option linter.unusedVariables false
theorem eqIn_rngF (n : Nat) (lo hi lo' hi' : ByteArray) (w : World) : (Op.equalIn (n + 2) 24 (.agg #[.string lo, .string hi]) (.agg #[.string lo', .string hi'])).run Tryz.prog w = .ok (lo.toList == lo'.toList && hi.toList == hi'.toList) w := by
  rw [run_equalIn_struct w (n + 1) 24 _ _ (by kernel_rfl) (by kernel_rfl)]
  obtain ⟨f0, f1, hu, n0, n1, t0, t1, o0, o1⟩ : ∃ f0 f1 : Field, Tryz.prog.underlying 24 = some (.struct #[f0, f1]) ∧ f0.name = "Lo" ∧ f1.name = "Hi" ∧ f0.type = 9 ∧ f1.type = 9 ∧ f0.offset = 0 ∧ f1.offset = 1 := ⟨_, _, Tryz.underlying24, rfl, rfl, rfl, rfl, rfl, rfl⟩
  have hl : (Tryz.prog.fieldsOf 24).toList = [f0, f1] := by simp [Program.fieldsOf, hu]
  rw [hl]
  have p0 : ∀ (x y : Value) (w : World), (Go.part 9 #[x, y] 0).run Tryz.prog w = .ok x w := fun x y w => by kernel_rfl
  have p1 : ∀ (x y : Value) (w : World), (Go.part 9 #[x, y] 1).run Tryz.prog w = .ok y w := fun x y w => by kernel_rfl
  have hs : ∀ (a b : ByteArray) (w : World), (Op.equalIn (n + 1) 9 (.string a) (.string b)).run Tryz.prog w = .ok (a.toList == b.toList) w := fun a b w => run_equalIn_string w n 9 a b (by kernel_rfl)
  have q0 : ("Lo" : String) ≠ "_" := by decide
  have q1 : ("Hi" : String) ≠ "_" := by decide
  simp only [Op.eqFields, n0, n1, t0, t1, o0, o1, if_pos q0, if_pos q1, Sem.run_bind, p0, p1, hs, Result.andThen_ok, Sem.run_ite, Sem.run_pure]
  cases h0 : (lo.toList == lo'.toList)
  · simp
  · cases h1 : (hi.toList == hi'.toList) <;> simp
theorem eqIn_askF (n : Nat) (k : Int) (ky vl lo hi : ByteArray) (mo : Int) (bk : Bool) (k' : Int) (ky' : ByteArray) (vl' : ByteArray) (lo' : ByteArray) (hi' : ByteArray) (mo' : Int) (bk' : Bool) (w : World) : (Op.equalIn (n + 3) 26 (.agg #[.int .i64 k, .string ky, .string vl, .string lo, .string hi, .int .i64 mo, .bool bk]) (.agg #[.int .i64 k', .string ky', .string vl', .string lo', .string hi', .int .i64 mo', .bool bk'])).run Tryz.prog w = .ok ((k == k') && (ky.toList == ky'.toList && (vl.toList == vl'.toList && ((lo.toList == lo'.toList && hi.toList == hi'.toList) && (mo == mo' && bk == bk'))))) w := by
  rw [run_equalIn_struct w (n + 2) 26 _ _ (by kernel_rfl) (by kernel_rfl)]
  obtain ⟨f0, f1, f2, f3, f4, f5, hu, n0, n1, n2, n3, n4, n5, t0, t1, t2, t3, t4, t5, o0, o1, o2, o3, o4, o5⟩ : ∃ f0 f1 f2 f3 f4 f5 : Field, Tryz.prog.underlying 26 = some (.struct #[f0, f1, f2, f3, f4, f5]) ∧ f0.name = "Kind" ∧ f1.name = "Key" ∧ f2.name = "Val" ∧ f3.name = "Range" ∧ f4.name = "Most" ∧ f5.name = "Back" ∧ f0.type = 3 ∧ f1.type = 9 ∧ f2.type = 9 ∧ f3.type = 24 ∧ f4.type = 3 ∧ f5.type = 4 ∧ f0.offset = 0 ∧ f1.offset = 1 ∧ f2.offset = 2 ∧ f3.offset = 3 ∧ f4.offset = 5 ∧ f5.offset = 6 := ⟨_, _, _, _, _, _, Tryz.underlying26, rfl, rfl, rfl, rfl, rfl, rfl, rfl, rfl, rfl, rfl, rfl, rfl, rfl, rfl, rfl, rfl, rfl, rfl⟩
  have hl : (Tryz.prog.fieldsOf 26).toList = [f0, f1, f2, f3, f4, f5] := by simp [Program.fieldsOf, hu]
  rw [hl]
  have p0 : ∀ (x0 x1 x2 x3 x4 x5 x6 : Value) (w : World), (Go.part 3 #[x0, x1, x2, x3, x4, x5, x6] 0).run Tryz.prog w = .ok x0 w := fun x0 x1 x2 x3 x4 x5 x6 w => by kernel_rfl
  have p1 : ∀ (x0 x1 x2 x3 x4 x5 x6 : Value) (w : World), (Go.part 9 #[x0, x1, x2, x3, x4, x5, x6] 1).run Tryz.prog w = .ok x1 w := fun x0 x1 x2 x3 x4 x5 x6 w => by kernel_rfl
  have p2 : ∀ (x0 x1 x2 x3 x4 x5 x6 : Value) (w : World), (Go.part 9 #[x0, x1, x2, x3, x4, x5, x6] 2).run Tryz.prog w = .ok x2 w := fun x0 x1 x2 x3 x4 x5 x6 w => by kernel_rfl
  have p3 : ∀ (x0 x1 x2 x3 x4 x5 x6 : Value) (w : World), (Go.part 24 #[x0, x1, x2, x3, x4, x5, x6] 3).run Tryz.prog w = .ok (.agg #[x3, x4]) w := fun x0 x1 x2 x3 x4 x5 x6 w => by kernel_rfl
  have p4 : ∀ (x0 x1 x2 x3 x4 x5 x6 : Value) (w : World), (Go.part 3 #[x0, x1, x2, x3, x4, x5, x6] 5).run Tryz.prog w = .ok x5 w := fun x0 x1 x2 x3 x4 x5 x6 w => by kernel_rfl
  have p5 : ∀ (x0 x1 x2 x3 x4 x5 x6 : Value) (w : World), (Go.part 4 #[x0, x1, x2, x3, x4, x5, x6] 6).run Tryz.prog w = .ok x6 w := fun x0 x1 x2 x3 x4 x5 x6 w => by kernel_rfl
  have hin : ∀ (a b : Int) (w : World), (Op.equalIn (n + 2) 3 (.int .i64 a) (.int .i64 b)).run Tryz.prog w = .ok (a == b) w := fun a b w => run_equalIn_int w (n + 1) 3 .i64 .i64 a b (by kernel_rfl)
  have hs : ∀ (a b : ByteArray) (w : World), (Op.equalIn (n + 2) 9 (.string a) (.string b)).run Tryz.prog w = .ok (a.toList == b.toList) w := fun a b w => run_equalIn_string w (n + 1) 9 a b (by kernel_rfl)
  have hbo : ∀ (a b : Bool) (w : World), (Op.equalIn (n + 2) 4 (.bool a) (.bool b)).run Tryz.prog w = .ok (a == b) w := fun a b w => run_equalIn_bool' w (n + 1) 4 a b (by kernel_rfl)
  have q0 : ("Kind" : String) ≠ "_" := by decide
  have q1 : ("Key" : String) ≠ "_" := by decide
  have q2 : ("Val" : String) ≠ "_" := by decide
  have q3 : ("Range" : String) ≠ "_" := by decide
  have q4 : ("Most" : String) ≠ "_" := by decide
  have q5 : ("Back" : String) ≠ "_" := by decide
  simp only [Op.eqFields, n0, t0, o0, if_pos q0, n1, t1, o1, if_pos q1, n2, t2, o2, if_pos q2, n3, t3, o3, if_pos q3, n4, t4, o4, if_pos q4, n5, t5, o5, if_pos q5, Sem.run_bind, p0, p1, p2, p3, p4, p5, hin, hs, hbo, eqIn_rngF, Result.andThen_ok, Sem.run_ite, Sem.run_pure]
  generalize (k == k') = b0
  generalize (ky.toList == ky'.toList) = b1
  generalize (vl.toList == vl'.toList) = b2
  generalize (lo.toList == lo'.toList && hi.toList == hi'.toList) = b3
  generalize (mo == mo') = b4
  generalize (bk == bk') = b5
  cases b0 <;> cases b1 <;> cases b2 <;> cases b3 <;> cases b4 <;> cases b5 <;> first | rfl | simp
theorem eqIn_call (kd ak : Int) (ky vl lo hi : ByteArray) (mo : Int) (bk : Bool) (kd' ak' : Int) (ky' vl' lo' hi' : ByteArray) (mo' : Int) (bk' : Bool) (w : World) : (Op.equalIn 10000 28 (.agg #[.int .i64 kd, .int .i64 ak, .string ky, .string vl, .string lo, .string hi, .int .i64 mo, .bool bk]) (.agg #[.int .i64 kd', .int .i64 ak', .string ky', .string vl', .string lo', .string hi', .int .i64 mo', .bool bk'])).run Tryz.prog w = .ok ((kd == kd') && ((ak == ak') && (ky.toList == ky'.toList && (vl.toList == vl'.toList && ((lo.toList == lo'.toList && hi.toList == hi'.toList) && (mo == mo' && bk == bk')))))) w := by
  rw [run_equalIn_struct w 9999 28 _ _ (by kernel_rfl) (by kernel_rfl)]
  obtain ⟨f0, f1, hu, n0, n1, t0, t1, o0, o1⟩ : ∃ f0 f1 : Field, Tryz.prog.underlying 28 = some (.struct #[f0, f1]) ∧ f0.name = "Kind" ∧ f1.name = "Ask" ∧ f0.type = 3 ∧ f1.type = 26 ∧ f0.offset = 0 ∧ f1.offset = 1 := ⟨_, _, Tryz.underlying28, rfl, rfl, rfl, rfl, rfl, rfl⟩
  have hl : (Tryz.prog.fieldsOf 28).toList = [f0, f1] := by simp [Program.fieldsOf, hu]
  rw [hl]
  have p0 : ∀ (x0 x1 x2 x3 x4 x5 x6 x7 : Value) (w : World), (Go.part 3 #[x0, x1, x2, x3, x4, x5, x6, x7] 0).run Tryz.prog w = .ok x0 w := fun x0 x1 x2 x3 x4 x5 x6 x7 w => by kernel_rfl
  have p1 : ∀ (x0 x1 x2 x3 x4 x5 x6 x7 : Value) (w : World), (Go.part 26 #[x0, x1, x2, x3, x4, x5, x6, x7] 1).run Tryz.prog w = .ok (.agg #[x1, x2, x3, x4, x5, x6, x7]) w := fun x0 x1 x2 x3 x4 x5 x6 x7 w => by kernel_rfl
  have hin : ∀ (a b : Int) (w : World), (Op.equalIn 9999 3 (.int .i64 a) (.int .i64 b)).run Tryz.prog w = .ok (a == b) w := fun a b w => run_equalIn_int w 9998 3 .i64 .i64 a b (by kernel_rfl)
  have q0 : ("Kind" : String) ≠ "_" := by decide
  have q1 : ("Ask" : String) ≠ "_" := by decide
  have ha := fun (k : Int) (ky vl lo hi : ByteArray) (mo : Int) (bk : Bool) (k' : Int) (ky' vl' lo' hi' : ByteArray) (mo' : Int) (bk' : Bool) (w : World) => eqIn_askF 9996 k ky vl lo hi mo bk k' ky' vl' lo' hi' mo' bk' w
  simp only [Nat.reduceAdd] at ha
  simp only [Op.eqFields, n0, t0, o0, if_pos q0, n1, t1, o1, if_pos q1, Sem.run_bind, p0, p1, hin, ha, Result.andThen_ok, Sem.run_ite, Sem.run_pure]
  generalize (kd == kd') = b0
  generalize ((ak == ak') && (ky.toList == ky'.toList && (vl.toList == vl'.toList && ((lo.toList == lo'.toList && hi.toList == hi'.toList) && (mo == mo' && bk == bk'))))) = b1
  cases b0 <;> cases b1 <;> first | rfl | simp
theorem eql_callZ (kd ak : Int) (ky vl lo hi : ByteArray) (mo : Int) (bk : Bool) (w : World) : (binOp .eql 28 (.agg #[.int .i64 kd, .int .i64 ak, .string ky, .string vl, .string lo, .string hi, .int .i64 mo, .bool bk]) (.agg #[.int .i64 0, .int .i64 0, .string ⟨#[]⟩, .string ⟨#[]⟩, .string ⟨#[]⟩, .string ⟨#[]⟩, .int .i64 0, .bool false])).run Tryz.prog w = .ok (.bool (clZ kd ak ky vl lo hi mo bk)) w := by
  rw [run_eql_struct, eqIn_call, isE_beq, isE_beq, isE_beq, isE_beq]
  unfold clZ akZ
  cases bk <;> rfl
theorem guard_call (op : BinOp) (x y : Operand) (xs ys : Array Value) (w : World) : (eqGuard op 28 x y (.agg xs) (.agg ys)).run Tryz.prog w = .ok () w := run_eqGuard_agg w op 28 x y xs ys (by kernel_rfl)
theorem wr_1 (a b : Int) (kp : List Int) (kd ak : Int) (ky vl lo hi : ByteArray) (mo : Int) (bk : Bool) : stWr ⟨1, a, b, kp, kd, ak, ky, vl, lo, hi, mo, bk⟩ = (decide (b = 0) && (decide (kp = []) && clOk kd ak ky vl lo hi mo bk)) := rfl
theorem wr_7 (a b : Int) (kp : List Int) (kd ak : Int) (ky vl lo hi : ByteArray) (mo : Int) (bk : Bool) : stWr ⟨7, a, b, kp, kd, ak, ky, vl, lo, hi, mo, bk⟩ = clZ kd ak ky vl lo hi mo bk := rfl
theorem wr_e {k : Int} (h1 : ¬ k = 1) (h7 : ¬ k = 7) (a b : Int) (kp : List Int) (kd ak : Int) (ky vl lo hi : ByteArray) (mo : Int) (bk : Bool) : stWr ⟨k, a, b, kp, kd, ak, ky, vl, lo, hi, mo, bk⟩ = ((decide (k ≠ 5) || decide (a = 0)) && (decide (b = 0) && (decide (kp = []) && clZ kd ak ky vl lo hi mo bk))) := by
  unfold stWr
  dsimp only
  rw [if_neg h1, if_neg h7]
set_option maxHeartbeats 4000000 in
theorem isWritten_any (S : Nat → Prop) (k a b : Int) (ka : Option Addr) (kn kc : Nat) (kp : List Int) (kd ak : Int) (ky vl lo hi : ByteArray) (mo : Int) (bk : Bool) (w : World) (hp : Ir w S (.slice ka kn kc) kp) :
    Calls Tryz.prog 43 #[.agg #[.int .i64 k, .int .i64 a, .int .i64 b, .slice ka kn kc, .int .i64 kd, .int .i64 ak, .string ky, .string vl, .string lo, .string hi, .int .i64 mo, .bool bk]] w fun e w' => e = .returned (.bool (stWr ⟨k, a, b, kp, kd, ak, ky, vl, lo, hi, mo, bk⟩)) ∧ Below w.heap.size w w' := by
  have B0 := hid (below_new (o := .cells #[.int .i64 k, .int .i64 a, .int .i64 b, .slice ka kn kc, .int .i64 kd, .int .i64 ak, .string ky, .string vl, .string lo, .string hi, .int .i64 mo, .bool bk] 30) (w := w) (Below.refl _ _))
  have K0 := hid (Bk.new w 30 [.int .i64 k, .int .i64 a, .int .i64 b, .slice ka kn kc, .int .i64 kd, .int .i64 ak, .string ky, .string vl, .string lo, .string hi, .int .i64 mo, .bool bk])
  have hkn : (kp = []) ↔ kn = 0 := by rw [(Rw.len hp).1]; exact List.length_eq_zero_iff.symm
  have C1 := hid (fun w => implCallOk_any kd ak ky vl lo hi mo bk w)
  have HE := hid (fun w => eql_callZ kd ak ky vl lo hi mo bk w)
  have hg := guard_call .eql
  have KN := hid hkn
  clear hp hkn
  generalize hU : w.alloc (.cells #[.int .i64 k, .int .i64 a, .int .i64 b, .slice ka kn kc, .int .i64 kd, .int .i64 ak, .string ky, .string vl, .string lo, .string hi, .int .i64 mo, .bool bk] 30) = U at *
  have HU := hid hU
  clear hU
  by_cases h1 : k = 1
  · subst h1
    have HV := hid (wr_1 a b kp kd ak ky vl lo hi mo bk)
    generalize stWr ⟨1, a, b, kp, kd, ak, ky, vl, lo, hi, mo, bk⟩ = z0 at *
    by_cases hb : b = 0
    · by_cases hk : kn = 0
      · subst hb hk
        have HP := hid (KN.out.2 rfl)
        generalize clOk kd ak ky vl lo hi mo bk = z1 at *
        have c0 := K0.out.cell (j := 0) rfl
        have c2 := K0.out.cell (j := 2) rfl
        have c3 := K0.out.cell (j := 3) rfl
        have c4 := K0.out.cell (j := 4) rfl
        have c5 := K0.out.cell (j := 5) rfl
        have c6 := K0.out.cell (j := 6) rfl
        have c7 := K0.out.cell (j := 7) rfl
        have c8 := K0.out.cell (j := 8) rfl
        have c9 := K0.out.cell (j := 9) rfl
        have c10 := K0.out.cell (j := 10) rfl
        have c11 := K0.out.cell (j := 11) rfl
        go_enter Tryz.func43, Tryz.ntmps43
        go_wp2_with fail
        rw [HU.out]
        go_wp2_with fail
        refine (C1.out _).mono ?_
        rintro r w1 ⟨rfl, hb⟩
        have B1 := hid (B0.out.trans (hb.mono B0.out.size))
        clear hb
        go_wp2
        go_ret
        exact ⟨by rw [HV.out, HP.out]; rfl, B1.out⟩
      · have HP : Hid (decide (kp = []) = false) := decide_eq_false (fun e => hk (KN.out.1 e))
        have hk' : ¬ (kn : Int) = 0 := by omega
        subst hb
        have c0 := K0.out.cell (j := 0) rfl
        have c2 := K0.out.cell (j := 2) rfl
        have c3 := K0.out.cell (j := 3) rfl
        have c4 := K0.out.cell (j := 4) rfl
        have c5 := K0.out.cell (j := 5) rfl
        have c6 := K0.out.cell (j := 6) rfl
        have c7 := K0.out.cell (j := 7) rfl
        have c8 := K0.out.cell (j := 8) rfl
        have c9 := K0.out.cell (j := 9) rfl
        have c10 := K0.out.cell (j := 10) rfl
        have c11 := K0.out.cell (j := 11) rfl
        go_enter Tryz.func43, Tryz.ntmps43
        go_wp2_with fail
        rw [HU.out]
        go_wp2
        go_ret
        exact ⟨by rw [HV.out, HP.out]; simp, B0.out⟩
    · have HP : Hid (decide (b = 0) = false) := decide_eq_false hb
      have c0 := K0.out.cell (j := 0) rfl
      have c2 := K0.out.cell (j := 2) rfl
      have c3 := K0.out.cell (j := 3) rfl
      have c4 := K0.out.cell (j := 4) rfl
      have c5 := K0.out.cell (j := 5) rfl
      have c6 := K0.out.cell (j := 6) rfl
      have c7 := K0.out.cell (j := 7) rfl
      have c8 := K0.out.cell (j := 8) rfl
      have c9 := K0.out.cell (j := 9) rfl
      have c10 := K0.out.cell (j := 10) rfl
      have c11 := K0.out.cell (j := 11) rfl
      go_enter Tryz.func43, Tryz.ntmps43
      go_wp2_with fail
      rw [HU.out]
      go_wp2
      go_ret
      exact ⟨by rw [HV.out, HP.out]; rfl, B0.out⟩
  by_cases h7 : k = 7
  · subst h7
    have HV := hid (wr_7 a b kp kd ak ky vl lo hi mo bk)
    generalize stWr ⟨7, a, b, kp, kd, ak, ky, vl, lo, hi, mo, bk⟩ = z0 at *
    have hq := HE.out
    generalize clZ kd ak ky vl lo hi mo bk = z1 at *
    have c0 := K0.out.cell (j := 0) rfl
    have c4 := K0.out.cell (j := 4) rfl
    have c5 := K0.out.cell (j := 5) rfl
    have c6 := K0.out.cell (j := 6) rfl
    have c7 := K0.out.cell (j := 7) rfl
    have c8 := K0.out.cell (j := 8) rfl
    have c9 := K0.out.cell (j := 9) rfl
    have c10 := K0.out.cell (j := 10) rfl
    have c11 := K0.out.cell (j := 11) rfl
    go_enter Tryz.func43, Tryz.ntmps43
    go_wp2_with fail
    rw [HU.out]
    go_wp2
    go_ret
    exact ⟨by rw [HV.out]; rfl, B0.out⟩
  have HV := hid (wr_e h1 h7 a b kp kd ak ky vl lo hi mo bk)
  generalize stWr ⟨k, a, b, kp, kd, ak, ky, vl, lo, hi, mo, bk⟩ = z0 at *
  by_cases h5 : k = 5 ∧ ¬ a = 0
  · obtain ⟨rfl, ha⟩ := h5
    have HP : Hid (decide (a = 0) = false) := decide_eq_false ha
    have c0 := K0.out.cell (j := 0) rfl
    have c1 := K0.out.cell (j := 1) rfl
    go_enter Tryz.func43, Tryz.ntmps43
    go_wp2_with fail
    rw [HU.out]
    go_wp2
    go_ret
    exact ⟨by rw [HV.out]; rw [HP.out]; rfl, B0.out⟩
  have H5 : Hid ((decide (k ≠ 5) || decide (a = 0)) = true) := by
    show _ = true
    simp only [Bool.or_eq_true, decide_eq_true_eq]
    by_cases q : k = 5
    · exact .inr (Classical.byContradiction fun r => h5 ⟨q, r⟩)
    · exact .inl q
  have h5' : k = 5 → a = 0 := fun q => Classical.byContradiction fun r => h5 ⟨q, r⟩
  have hq := HE.out
  by_cases hb : b = 0
  · by_cases hk : kn = 0
    · subst hb hk
      have HP := hid (KN.out.2 rfl)
      generalize clZ kd ak ky vl lo hi mo bk = z1 at *
      by_cases hk5 : k = 5
      · obtain rfl := h5' hk5
        subst hk5
        have c0 := K0.out.cell (j := 0) rfl
        have c1 := K0.out.cell (j := 1) rfl
        have c2 := K0.out.cell (j := 2) rfl
        have c3 := K0.out.cell (j := 3) rfl
        have c4 := K0.out.cell (j := 4) rfl
        have c5 := K0.out.cell (j := 5) rfl
        have c6 := K0.out.cell (j := 6) rfl
        have c7 := K0.out.cell (j := 7) rfl
        have c8 := K0.out.cell (j := 8) rfl
        have c9 := K0.out.cell (j := 9) rfl
        have c10 := K0.out.cell (j := 10) rfl
        have c11 := K0.out.cell (j := 11) rfl
        go_enter Tryz.func43, Tryz.ntmps43
        go_wp2_with fail
        rw [HU.out]
        go_wp2
        go_ret
        exact ⟨by rw [HV.out, HP.out]; rfl, B0.out⟩
      · clear h5 h5'
        have c0 := K0.out.cell (j := 0) rfl
        have c1 := K0.out.cell (j := 1) rfl
        have c2 := K0.out.cell (j := 2) rfl
        have c3 := K0.out.cell (j := 3) rfl
        have c4 := K0.out.cell (j := 4) rfl
        have c5 := K0.out.cell (j := 5) rfl
        have c6 := K0.out.cell (j := 6) rfl
        have c7 := K0.out.cell (j := 7) rfl
        have c8 := K0.out.cell (j := 8) rfl
        have c9 := K0.out.cell (j := 9) rfl
        have c10 := K0.out.cell (j := 10) rfl
        have c11 := K0.out.cell (j := 11) rfl
        go_enter Tryz.func43, Tryz.ntmps43
        go_wp2_with fail
        rw [HU.out]
        go_wp2
        go_ret
        exact ⟨by rw [HV.out, H5.out, HP.out]; rfl, B0.out⟩
    · have HP : Hid (decide (kp = []) = false) := decide_eq_false (fun e => hk (KN.out.1 e))
      have hk' : ¬ (kn : Int) = 0 := by omega
      subst hb
      clear hq
      by_cases hk5 : k = 5
      · obtain rfl := h5' hk5
        subst hk5
        have c0 := K0.out.cell (j := 0) rfl
        have c1 := K0.out.cell (j := 1) rfl
        have c2 := K0.out.cell (j := 2) rfl
        have c3 := K0.out.cell (j := 3) rfl
        have c4 := K0.out.cell (j := 4) rfl
        have c5 := K0.out.cell (j := 5) rfl
        have c6 := K0.out.cell (j := 6) rfl
        have c7 := K0.out.cell (j := 7) rfl
        have c8 := K0.out.cell (j := 8) rfl
        have c9 := K0.out.cell (j := 9) rfl
        have c10 := K0.out.cell (j := 10) rfl
        have c11 := K0.out.cell (j := 11) rfl
        go_enter Tryz.func43, Tryz.ntmps43
        go_wp2_with fail
        rw [HU.out]
        go_wp2
        go_ret
        exact ⟨by rw [HV.out, HP.out]; simp, B0.out⟩
      · clear h5 h5'
        have c0 := K0.out.cell (j := 0) rfl
        have c1 := K0.out.cell (j := 1) rfl
        have c2 := K0.out.cell (j := 2) rfl
        have c3 := K0.out.cell (j := 3) rfl
        have c4 := K0.out.cell (j := 4) rfl
        have c5 := K0.out.cell (j := 5) rfl
        have c6 := K0.out.cell (j := 6) rfl
        have c7 := K0.out.cell (j := 7) rfl
        have c8 := K0.out.cell (j := 8) rfl
        have c9 := K0.out.cell (j := 9) rfl
        have c10 := K0.out.cell (j := 10) rfl
        have c11 := K0.out.cell (j := 11) rfl
        go_enter Tryz.func43, Tryz.ntmps43
        go_wp2_with fail
        rw [HU.out]
        go_wp2
        go_ret
        exact ⟨by rw [HV.out, HP.out]; simp, B0.out⟩
  · have HP : Hid (decide (b = 0) = false) := decide_eq_false hb
    clear hq
    by_cases hk5 : k = 5
    · obtain rfl := h5' hk5
      subst hk5
      have c0 := K0.out.cell (j := 0) rfl
      have c1 := K0.out.cell (j := 1) rfl
      have c2 := K0.out.cell (j := 2) rfl
      have c3 := K0.out.cell (j := 3) rfl
      have c4 := K0.out.cell (j := 4) rfl
      have c5 := K0.out.cell (j := 5) rfl
      have c6 := K0.out.cell (j := 6) rfl
      have c7 := K0.out.cell (j := 7) rfl
      have c8 := K0.out.cell (j := 8) rfl
      have c9 := K0.out.cell (j := 9) rfl
      have c10 := K0.out.cell (j := 10) rfl
      have c11 := K0.out.cell (j := 11) rfl
      go_enter Tryz.func43, Tryz.ntmps43
      go_wp2_with fail
      rw [HU.out]
      go_wp2
      go_ret
      exact ⟨by rw [HV.out, HP.out]; simp, B0.out⟩
    · clear h5 h5'
      have c0 := K0.out.cell (j := 0) rfl
      have c1 := K0.out.cell (j := 1) rfl
      have c2 := K0.out.cell (j := 2) rfl
      have c3 := K0.out.cell (j := 3) rfl
      have c4 := K0.out.cell (j := 4) rfl
      have c5 := K0.out.cell (j := 5) rfl
      have c6 := K0.out.cell (j := 6) rfl
      have c7 := K0.out.cell (j := 7) rfl
      have c8 := K0.out.cell (j := 8) rfl
      have c9 := K0.out.cell (j := 9) rfl
      have c10 := K0.out.cell (j := 10) rfl
      have c11 := K0.out.cell (j := 11) rfl
      go_enter Tryz.func43, Tryz.ntmps43
      go_wp2_with fail
      rw [HU.out]
      go_wp2
      go_ret
      exact ⟨by rw [HV.out, HP.out]; simp, B0.out⟩
theorem join_bound : ∀ (ws : List ByteArray), (∀ w ∈ ws, w.size ≤ 1048576) → ws.length ≤ 4194304 → (Lib.join (ws.map (·.data.toList)) [32]).length ≤ 140737488355328
  | [], _, _ => by simp [Lib.join, List.intercalate]
  | x :: r, h, hl => by
    rw [List.map_cons, Lib.join_length]
    have hb : ∀ (l : List ByteArray), (∀ w ∈ l, w.size ≤ 1048576) → Lib.lens (l.map (·.data.toList)) ≤ 1048576 * l.length := by
      intro l
      induction l with
      | nil => intro _; simp [Lib.lens]
      | cons y l ih =>
        intro h
        have h1 := ih (fun w hw => h w (List.mem_cons_of_mem _ hw))
        have h2 : y.data.toList.length ≤ 1048576 := by have := h y (List.mem_cons_self ..); rw [Array.length_toList]; exact this
        simp only [Lib.lens, List.map_cons, List.sum_cons, List.length_cons] at h1 ⊢
        omega
    have := hb (x :: r) h
    rw [List.map_cons] at this
    simp only [List.length_cons, List.length_map, List.length_nil] at this hl ⊢
    omega
set_option maxHeartbeats 1600000 in
theorem lineOf_any (B : Nat) (a : Option Addr) (n c : Nat) (ws : List ByteArray) (w : World) (h : OW w B (.slice a n c) ws) (hz : ∀ x ∈ ws, x.size ≤ 1048576) (hl : ws.length ≤ 4194304) :
    Calls Tryz.prog 46 #[.slice a n c] w fun e w' => e = .returned (.string (joinW ws)) ∧ Below w.heap.size w w' := by
  have CJ : Hid (Calls Tryz.prog 58 #[.slice a n c, .string ⟨#[32]⟩] w fun e w' => e = .returned (.string (joinW ws)) ∧ Below w.heap.size w w') := by
    rw [joinW_lib]
    obtain ⟨h1, h2⟩ := h
    rcases h2 with ⟨h2, h3⟩ | ⟨g, cap, cur, e, hB, hg, hc, hm, hs, ht⟩
    · have hw : ws = [] := List.length_eq_zero_iff.1 h3
      subst hw
      cases h2
      exact (Any.strings_Join_none Tryz.lays156 Tryz.Builder_Extra_156 none 0 ⟨#[32]⟩ w).mono fun e w' ⟨he, hw⟩ => ⟨by rw [he]; rfl, hw ▸ Below.refl _ _⟩
    · cases e
      refine Any.strings_Join Tryz.lays156 Tryz.Builder_Extra_156 g 0 c ws ⟨#[32]⟩ w ?_ ?_ (by omega) (by omega) (join_bound ws hz hl)
      · intro j x hx
        have hj : (ws.map Value.string)[j]? = some (.string x) := by rw [List.getElem?_map, hx]; rfl
        have := World.ownsRow.cells (w := w) (base := B) (e := 9) (size := 1) (v := .slice (some ⟨g, 0, none⟩) ws.length c) (n := ws.length) (xs := ws.map Value.string) ⟨h1, .inr ⟨g, c, cur, rfl, hB, hg, hc, hm, hs, ht⟩⟩ rfl j _ hj
        rw [Addr.add_lit] at this
        exact this
      · exact (Array.getElem?_eq_some_iff.1 hg).1
  clear h
  go_enter Tryz.func46, Tryz.ntmps46
  go_wp2_with fail
  refine CJ.out.mono ?_
  rintro r w1 ⟨rfl, hb⟩
  have HB := hid hb
  clear hb
  go_wp2
  go_ret
  exact ⟨rfl, HB.out⟩
end Go.Proofs.YtjddkofpfmjojaaGreatDoor
/-
  StepText of the program.
-/
namespace Go.Proofs.YtjddkofpfmjojaaGreatDoor
open Go.RowKit
set_option linter.unusedVariables false
theorem stW_size (S : ST) : ∀ x ∈ stW S, x.size ≤ 1048576 := by
  have hsw : ∀ k, (sw k).size ≤ 7 := by
    intro k
    by_cases h : 0 ≤ k ∧ k < 10
    · have : k = 0 ∨ k = 1 ∨ k = 2 ∨ k = 3 ∨ k = 4 ∨ k = 5 ∨ k = 6 ∨ k = 7 ∨ k = 8 ∨ k = 9 := by omega
      rcases this with rfl | rfl | rfl | rfl | rfl | rfl | rfl | rfl | rfl | rfl <;> decide
    · rw [sw_no (by omega)]; decide
  have hcw : ∀ kd, (cwd kd).size ≤ 7 := by
    intro kd
    unfold cwd
    split <;> (try split) <;> (try split) <;> (try split) <;> decide
  have hq := wq_size
  have hn := numS_size
  intro x hx
  unfold stW at hx
  rcases List.mem_cons.1 hx with rfl | hx
  · have := hsw S.k; omega
  · rcases List.mem_append.1 hx with hx | hx
    · split at hx
      · cases hx
      · simp only [List.mem_cons, List.not_mem_nil, or_false] at hx; subst hx; have := hn S.a; omega
    · split at hx
      · unfold clW at hx
        split at hx
        · unfold akW at hx
          split at hx
          · simp only [List.mem_cons, List.not_mem_nil, or_false] at hx
            rcases hx with rfl | rfl
            · decide
            · have := hq S.ky; omega
          · split at hx
            · simp only [List.mem_cons, List.not_mem_nil, or_false] at hx
              rcases hx with rfl | rfl | rfl
              · decide
              · have := hq S.ky; omega
              · have := hq S.vl; omega
            · split at hx
              · simp only [List.mem_cons, List.not_mem_nil, or_false] at hx
                rcases hx with rfl | rfl
                · decide
                · have := hq S.ky; omega
              · simp only [List.mem_cons, List.not_mem_nil, or_false] at hx
                rcases hx with rfl | rfl | rfl | rfl
                · cases S.bk <;> decide
                · have := hq S.lo; omega
                · have := hq S.hi; omega
                · have := hn S.mo; omega
        · simp only [List.mem_cons, List.not_mem_nil, or_false] at hx; subst hx; have := hcw S.kd; omega
      · split at hx
        · rcases List.mem_cons.1 hx with rfl | hx
          · have := hn S.b; omega
          · obtain ⟨n, _, rfl⟩ := List.mem_map.1 hx; have := hn n; omega
        · cases hx
theorem stW_len (S : ST) (h : S.kp.length ≤ 1048576) : (stW S).length ≤ 4194304 := by
  unfold stW
  have := clW_len S.kd S.ak S.ky S.vl S.lo S.hi S.mo S.bk
  simp only [List.length_cons, List.length_append]
  split <;> split <;> (try split) <;> simp <;> omega
theorem wr_sizes {k a b : Int} {kp : List Int} {kd ak : Int} {ky vl lo hi : ByteArray} {mo : Int} {bk : Bool} (h : stWr ⟨k, a, b, kp, kd, ak, ky, vl, lo, hi, mo, bk⟩ = true) (hk : k = 1) : ky.size ≤ 1048576 ∧ vl.size ≤ 1048576 ∧ lo.size ≤ 1048576 ∧ hi.size ≤ 1048576 := by
  subst hk
  rw [wr_1] at h
  simp only [Bool.and_eq_true] at h
  exact clOk_sizes h.2.2
theorem stT_no1 {S : ST} (h : stWr S = false) : stT S = ⟨#[]⟩ := by unfold stT; rw [h]; rfl
theorem stT_no2 {S : ST} (h : noE (stW S) = false) : stT S = ⟨#[]⟩ := by unfold stT; rw [h, Bool.and_false]; rfl
theorem stT_is {S : ST} (h : stWr S = true) (k : noE (stW S) = true) : stT S = joinW (stW S) := by unfold stT; rw [h, k]; rfl
theorem cont_noE (ws : List ByteArray) : Lib.containsS ws ⟨#[]⟩ = !noE ws := by
  have h1 := Lib.containsS_iff ws ⟨#[]⟩
  cases h : noE ws with
  | true =>
    cases k : Lib.containsS ws ⟨#[]⟩ with
    | false => rfl
    | true => exact absurd rfl (noE_mem h (h1.1 k))
  | false =>
    have : ∃ w ∈ ws, w = ByteArray.empty := by
      unfold noE at h
      obtain ⟨w, hw, hz⟩ := List.all_eq_false.1 h
      exact ⟨w, hw, by simpa using hz⟩
    obtain ⟨w, hw, rfl⟩ := this
    rw [h1.2 hw]; rfl
theorem contains_any (B : Nat) (a : Option Addr) (n c : Nat) (ws : List ByteArray) (w : World) (h : OW w B (.slice a n c) ws) (hl : ws.length ≤ 4194304) :
    Calls Tryz.prog 45 #[.slice a n c, .string ⟨#[]⟩] w fun e w' => e = .returned (.bool (!noE ws)) ∧ w' = w := by
  rw [← cont_noE]
  obtain ⟨h1, h2⟩ := h
  rcases h2 with ⟨h2, h3⟩ | ⟨g, cap, cur, e, hB, hg, hc, hm, hs, ht⟩
  · have hw : ws = [] := List.length_eq_zero_iff.1 h3
    subst hw
    cases h2
    exact Any.slices_Contains_string_empty Tryz.lays110 none 0 ⟨#[]⟩ w
  · cases e
    have := Any.slices_Contains_string Tryz.lays110 g 0 ws.length c ws ⟨#[]⟩ w (Nat.le_refl _) (by omega) (fun j hj => by
      have hjj : (ws.map Value.string)[j]? = some (.string (ws.getD j ByteArray.empty)) := by rw [List.getElem?_map, List.getElem?_eq_getElem hj, List.getD_eq_getElem?_getD, List.getElem?_eq_getElem hj]; rfl
      have := World.ownsRow.cells (w := w) (base := B) (e := 9) (size := 1) (v := .slice (some ⟨g, 0, none⟩) ws.length c) (n := ws.length) (xs := ws.map Value.string) ⟨h1, .inr ⟨g, c, cur, rfl, hB, hg, hc, hm, hs, ht⟩⟩ rfl j _ hjj
      rw [Addr.add_lit] at this
      exact this)
    rwa [List.take_length] at this
set_option maxHeartbeats 4000000 in
theorem implStepText_any (S : Nat → Prop) (k a b : Int) (ka : Option Addr) (kn kc : Nat) (kp : List Int) (kd ak : Int) (ky vl lo hi : ByteArray) (mo : Int) (bk : Bool) (w : World) (hp : Ir w S (.slice ka kn kc) kp) (hn : kn ≤ 1048576) (hw : GW w) :
    Calls Tryz.prog 22 #[.agg #[.int .i64 k, .int .i64 a, .int .i64 b, .slice ka kn kc, .int .i64 kd, .int .i64 ak, .string ky, .string vl, .string lo, .string hi, .int .i64 mo, .bool bk]] w fun e w' => e = .returned (.string (stT ⟨k, a, b, kp, kd, ak, ky, vl, lo, hi, mo, bk⟩)) ∧ Below w.heap.size w w' := by
  have K0 := hid (Bk.new w 30 [.int .i64 k, .int .i64 a, .int .i64 b, .slice ka kn kc, .int .i64 kd, .int .i64 ak, .string ky, .string vl, .string lo, .string hi, .int .i64 mo, .bool bk])
  have HUS : Hid (Below w.heap.size w (w.alloc (.cells #[.int .i64 k, .int .i64 a, .int .i64 b, .slice ka kn kc, .int .i64 kd, .int .i64 ak, .string ky, .string vl, .string lo, .string hi, .int .i64 mo, .bool bk] 30))) := (Below.refl w.heap.size w).alloc (Nat.le_refl _) _
  have G0 := hid (hw.to HUS.out)
  have H0 := hid (hp.below HUS.out)
  have HL : Hid (kp.length ≤ 1048576) := by have := (Rw.len hp).1; show _ ≤ _; omega
  have C1 := hid (fun w h => isWritten_any S k a b ka kn kc kp kd ak ky vl lo hi mo bk w h)
  have C2 := hid (fun w h hw (hz : stWr ⟨k, a, b, kp, kd, ak, ky, vl, lo, hi, mo, bk⟩ = true) => wordsOfStep_any S k a b ka kn kc kp kd ak ky vl lo hi mo bk w h hn (fun hk => wr_sizes hz hk) hw)
  have V1 := hid (fun h => stT_no1 (S := ⟨k, a, b, kp, kd, ak, ky, vl, lo, hi, mo, bk⟩) h)
  have V2 := hid (fun h => stT_no2 (S := ⟨k, a, b, kp, kd, ak, ky, vl, lo, hi, mo, bk⟩) h)
  have V3 := hid (fun h hh => stT_is (S := ⟨k, a, b, kp, kd, ak, ky, vl, lo, hi, mo, bk⟩) h hh)
  have Z1 := hid (stW_size ⟨k, a, b, kp, kd, ak, ky, vl, lo, hi, mo, bk⟩)
  have Z2 := hid (stW_len ⟨k, a, b, kp, kd, ak, ky, vl, lo, hi, mo, bk⟩ HL.out)
  clear hw hp
  generalize stT ⟨k, a, b, kp, kd, ak, ky, vl, lo, hi, mo, bk⟩ = t0 at *
  generalize stW ⟨k, a, b, kp, kd, ak, ky, vl, lo, hi, mo, bk⟩ = ws at *
  generalize stWr ⟨k, a, b, kp, kd, ak, ky, vl, lo, hi, mo, bk⟩ = z at *
  generalize hU : w.alloc (.cells #[.int .i64 k, .int .i64 a, .int .i64 b, .slice ka kn kc, .int .i64 kd, .int .i64 ak, .string ky, .string vl, .string lo, .string hi, .int .i64 mo, .bool bk] 30) = U at *
  have HU := hid hU
  clear hU
  have B0 : Hid (Below U.heap.size U U) := Below.refl _ _
  have c0 := (K0.out.below B0.out).cell (j := 0) rfl
  have c1 := (K0.out.below B0.out).cell (j := 1) rfl
  have c2 := (K0.out.below B0.out).cell (j := 2) rfl
  have c3 := (K0.out.below B0.out).cell (j := 3) rfl
  have c4 := (K0.out.below B0.out).cell (j := 4) rfl
  have c5 := (K0.out.below B0.out).cell (j := 5) rfl
  have c6 := (K0.out.below B0.out).cell (j := 6) rfl
  have c7 := (K0.out.below B0.out).cell (j := 7) rfl
  have c8 := (K0.out.below B0.out).cell (j := 8) rfl
  have c9 := (K0.out.below B0.out).cell (j := 9) rfl
  have c10 := (K0.out.below B0.out).cell (j := 10) rfl
  have c11 := (K0.out.below B0.out).cell (j := 11) rfl
  go_enter Tryz.func22, Tryz.ntmps22
  go_wp2_with fail
  rw [HU.out]
  go_wp2_with fail
  refine (C1.out _ H0.out).mono ?_
  rintro r w1 ⟨rfl, hb⟩
  have B1 := hid hb
  clear c0 c1 c2 c3 c4 c5 c6 c7 c8 c9 c10 c11 hb
  cases z with
  | false =>
    have V := hid (V1.out rfl)
    have BW : Hid (Below w.heap.size w w1) := HUS.out.trans (B1.out.mono HUS.out.size)
    clear V1 V2 V3
    go_wp2
    go_ret
    exact ⟨by rw [V.out]; rfl, BW.out⟩
  | true =>
    have c0 := (K0.out.below B1.out).cell (j := 0) rfl
    have c1 := (K0.out.below B1.out).cell (j := 1) rfl
    have c2 := (K0.out.below B1.out).cell (j := 2) rfl
    have c3 := (K0.out.below B1.out).cell (j := 3) rfl
    have c4 := (K0.out.below B1.out).cell (j := 4) rfl
    have c5 := (K0.out.below B1.out).cell (j := 5) rfl
    have c6 := (K0.out.below B1.out).cell (j := 6) rfl
    have c7 := (K0.out.below B1.out).cell (j := 7) rfl
    have c8 := (K0.out.below B1.out).cell (j := 8) rfl
    have c9 := (K0.out.below B1.out).cell (j := 9) rfl
    have c10 := (K0.out.below B1.out).cell (j := 10) rfl
    have c11 := (K0.out.below B1.out).cell (j := 11) rfl
    go_wp2_with fail
    refine (C2.out _ (H0.out.below B1.out) (G0.out.to B1.out) trivial).mono ?_
    rintro r w2 ⟨xa, xn, xc, rfl, hO, hb⟩
    have O2 := hid hO
    have BW : Hid (Below w.heap.size w w2) := HUS.out.trans ((B1.out.trans (hb.mono B1.out.size)).mono HUS.out.size)
    clear c0 c1 c2 c3 c4 c5 c6 c7 c8 c9 c10 c11 hO hb
    go_wp2_with fail
    refine (contains_any _ _ _ _ _ _ O2.out Z2.out).mono ?_
    rintro r w3 ⟨rfl, rfl⟩
    cases hz : noE ws with
    | false =>
      have V := hid (V2.out hz)
      clear V1 V2 V3 hz
      go_wp2
      go_ret
      exact ⟨by rw [V.out]; rfl, BW.out⟩
    | true =>
      have V := hid (V3.out trivial hz)
      clear V1 V2 V3 hz
      go_wp2_with fail
      refine (lineOf_any _ _ _ _ _ _ O2.out Z1.out Z2.out).mono ?_
      rintro r w4 ⟨rfl, hb⟩
      have B4 := hid (BW.out.trans (hb.mono BW.out.size))
      clear hb
      go_wp2
      go_ret
      exact ⟨by rw [V.out]; rfl, B4.out⟩
end Go.Proofs.YtjddkofpfmjojaaGreatDoor
