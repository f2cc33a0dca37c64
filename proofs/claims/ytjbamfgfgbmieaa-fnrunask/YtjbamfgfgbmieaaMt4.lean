/-
  RunAsk of the specification: put and del.
-/
import Derived.Test.YtjbamfgfgbmieaaMt3
import Derived.Test.YtjbamfgfgbmieaaMt2
namespace Go.Proofs.Ytjbamfgfgbmieaa
open Go.RowKit
set_option maxHeartbeats 8000000 in
set_option maxRecDepth 20000 in
theorem specRunAsk_2 (S : Nat → Prop) (a : Option Addr) (n c : Nat) (l : List PB) (ky vl lo hi : ByteArray) (mo : Int) (bk : Bool) (w : World) (h : Pr w S (.slice a n c) l) (hs : n ≤ 1048576) (hd : daOk l = true) (hk : akOk 2 ky vl lo hi mo bk = true) :
    Calls Try.prog 8 #[.slice a n c, .agg #[.int .i64 2, .string ky, .string vl, .string lo, .string hi, .int .i64 mo, .bool bk]] w fun e w' => RsPost true (raD l 2 ky vl) (raT l 2 ky lo hi mo bk) w e w' := by
  have hb := below_new (o := .cells #[.int .i64 2, .string ky, .string vl, .string lo, .string hi, .int .i64 mo, .bool bk] 27) (w := w) (Below.refl _ _)
  have HBU := hid hb
  have K0 := hid (Bk.new w 27 [.int .i64 2, .string ky, .string vl, .string lo, .string hi, .int .i64 mo, .bool bk])
  have P0 := hid (h.below' hb)
  have HN := hid (Rw.len h).1
  have HD := hid hd
  have HK := hid hk
  clear hb h hd hk
  have k0 := K0.out.cell (j := 0) rfl
  have k1 := K0.out.cell (j := 1) rfl
  have k2 := K0.out.cell (j := 2) rfl
  have k3 := K0.out.cell (j := 3) rfl
  have k4 := K0.out.cell (j := 4) rfl
  have k5 := K0.out.cell (j := 5) rfl
  have k6 := K0.out.cell (j := 6) rfl
  go_enter Try.func8, Try.ntmps8
  go_wp2_with fail
  refine (specDataOk_at S a n c l _ P0.out (by omega)).mono ?_
  have HUZ : Hid ((w.alloc (.cells #[.int .i64 2, .string ky, .string vl, .string lo, .string hi, .int .i64 mo, .bool bk] 27)).heap.size = w.heap.size + 1) := by show _ = _; simp
  generalize hU : w.alloc (.cells #[.int .i64 2, .string ky, .string vl, .string lo, .string hi, .int .i64 mo, .bool bk] 27) = U at *
  clear hU
  rintro e w1 ⟨rfl, hb⟩
  have HB1 := hid hb
  clear hb k0 k1 k2 k3 k4 k5 k6
  rw [HD.out]
  have k0 := (K0.out.below HB1.out).cell (j := 0) rfl
  have k1 := (K0.out.below HB1.out).cell (j := 1) rfl
  have k2 := (K0.out.below HB1.out).cell (j := 2) rfl
  have k3 := (K0.out.below HB1.out).cell (j := 3) rfl
  have k4 := (K0.out.below HB1.out).cell (j := 4) rfl
  have k5 := (K0.out.below HB1.out).cell (j := 5) rfl
  have k6 := (K0.out.below HB1.out).cell (j := 6) rfl
  go_wp2_with fail
  refine (specAskOk_any 2 ky vl lo hi mo bk _).mono ?_
  rintro e w2 ⟨rfl, hb⟩
  have HB2 := hid (HB1.out.trans (hb.mono HB1.out.size))
  clear hb HB1 k0 k1 k2 k3 k4 k5 k6
  rw [HK.out]
  have k0 := (K0.out.below HB2.out).cell (j := 0) rfl
  have k1 := (K0.out.below HB2.out).cell (j := 1) rfl
  have k2 := (K0.out.below HB2.out).cell (j := 2) rfl
  have k3 := (K0.out.below HB2.out).cell (j := 3) rfl
  have k4 := (K0.out.below HB2.out).cell (j := 4) rfl
  have k5 := (K0.out.below HB2.out).cell (j := 5) rfl
  have k6 := (K0.out.below HB2.out).cell (j := 6) rfl
  have HT : Hid (raT l 2 ky lo hi mo bk = []) := rfl
  have HDD : Hid (raD l 2 ky vl = lpV l ky vl false) := (lpV_put (daOk_asc HD.out) ky vl).symm
  have T0 := hid (kl3_0 k0 k1 k2)
  go_wp2_with fail
  refine wp_region_noPanic ?_
  refine wp_region_held_drew (S := fun v => v.cell? ⟨w.heap.size, 0, none⟩ = some (.int .i64 2) ∧ v.cell? ⟨w.heap.size, 1, none⟩ = some (.string ky) ∧ v.cell? ⟨w.heap.size, 2, none⟩ = some (.string vl) ∧ KL w2 v [(⟨w.heap.size, 0, none⟩, .int .i64 2), (⟨w.heap.size, 1, none⟩, .string ky), (⟨w.heap.size, 2, none⟩, .string vl)]) (by kernel_rfl) (kl3 (T0.out.call (below_drew _))) (fun hHeld => ?_)
  simp only [List.size_toArray, List.length_cons, List.length_nil, Array.replicate_succ, Array.replicate_zero, Nat.reduceAdd, List.push_toArray, List.nil_append, List.cons_append]
  refine wpAnyH_take (i := 1) (v := (.slice a n c)) rfl (by kernel_rfl) (by kernel_rfl) (by kernel_rfl) (fun _ _ _ h => h) (Or.inl ⟨by rfl, ?_⟩) (by assumption) ?_
  · intro w hSw
    (try dsimp only at hSw)
    go_simp
  try simp only [List.getElem_toArray]
  try simp only [List.getElem_cons_succ]
  try simp only [List.getElem_cons_zero]
  try simp only [Act.put]
  try simp only [List.setIfInBounds_toArray]
  try simp only [List.set_cons_succ]
  try simp only [List.set_cons_zero]
  refine wpAnyH_take (i := 3) (v := (.pointer (some ⟨w.heap.size, 1, none⟩))) rfl (by kernel_rfl) (by kernel_rfl) (by kernel_rfl) (fun _ _ _ h => h) (Or.inl ⟨by rfl, ?_⟩) (by assumption) ?_
  · intro w hSw
    (try dsimp only at hSw)
    go_simp
  try simp only [List.getElem_toArray]
  try simp only [List.getElem_cons_succ]
  try simp only [List.getElem_cons_zero]
  try simp only [Act.put]
  try simp only [List.setIfInBounds_toArray]
  try simp only [List.set_cons_succ]
  try simp only [List.set_cons_zero]
  refine wpAnyH_take (i := 4) (v := (.string ky)) rfl (by kernel_rfl) (by kernel_rfl) (by kernel_rfl) (fun _ _ _ h => h) (Or.inl ⟨by rfl, ?_⟩) (by assumption) ?_
  · intro w hSw
    (try dsimp only at hSw)
    go_simp
  try simp only [List.getElem_toArray]
  try simp only [List.getElem_cons_succ]
  try simp only [List.getElem_cons_zero]
  try simp only [Act.put]
  try simp only [List.setIfInBounds_toArray]
  try simp only [List.set_cons_succ]
  try simp only [List.set_cons_zero]
  refine wpAnyH_take (i := 5) (v := (.pointer (some ⟨w.heap.size, 2, none⟩))) rfl (by kernel_rfl) (by kernel_rfl) (by kernel_rfl) (fun _ _ _ h => h) (Or.inl ⟨by rfl, ?_⟩) (by assumption) ?_
  · intro w hSw
    (try dsimp only at hSw)
    go_simp
  try simp only [List.getElem_toArray]
  try simp only [List.getElem_cons_succ]
  try simp only [List.getElem_cons_zero]
  try simp only [Act.put]
  try simp only [List.setIfInBounds_toArray]
  try simp only [List.set_cons_succ]
  try simp only [List.set_cons_zero]
  refine wpAnyH_take (i := 6) (v := (.string vl)) rfl (by kernel_rfl) (by kernel_rfl) (by kernel_rfl) (fun _ _ _ h => h) (Or.inl ⟨by rfl, ?_⟩) (by assumption) ?_
  · intro w hSw
    (try dsimp only at hSw)
    go_simp
  try simp only [List.getElem_toArray]
  try simp only [List.getElem_cons_succ]
  try simp only [List.getElem_cons_zero]
  try simp only [Act.put]
  try simp only [List.setIfInBounds_toArray]
  try simp only [List.set_cons_succ]
  try simp only [List.set_cons_zero]
  refine wpAnyH_take (i := 7) (v := (.pointer (some ⟨w.heap.size, 0, none⟩))) rfl (by kernel_rfl) (by kernel_rfl) (by kernel_rfl) (fun _ _ _ h => h) (Or.inl ⟨by rfl, ?_⟩) (by assumption) ?_
  · intro w hSw
    (try dsimp only at hSw)
    go_simp
  try simp only [List.getElem_toArray]
  try simp only [List.getElem_cons_succ]
  try simp only [List.getElem_cons_zero]
  try simp only [Act.put]
  try simp only [List.setIfInBounds_toArray]
  try simp only [List.set_cons_succ]
  try simp only [List.set_cons_zero]
  refine wpAnyH_take (i := 8) (v := (.int .i64 2)) rfl (by kernel_rfl) (by kernel_rfl) (by kernel_rfl) (fun _ _ _ h => h) (Or.inl ⟨by rfl, ?_⟩) (by assumption) ?_
  · intro w hSw
    (try dsimp only at hSw)
    go_simp
  try simp only [List.getElem_toArray]
  try simp only [List.getElem_cons_succ]
  try simp only [List.getElem_cons_zero]
  try simp only [Act.put]
  try simp only [List.setIfInBounds_toArray]
  try simp only [List.set_cons_succ]
  try simp only [List.set_cons_zero]
  refine wpAnyH_take (i := 9) (v := (.bool false)) rfl (by kernel_rfl) (by kernel_rfl) (by kernel_rfl) (fun _ _ _ h => h) (Or.inl ⟨by rfl, ?_⟩) (by assumption) ?_
  · intro w hSw
    (try dsimp only at hSw)
    go_simp
  try simp only [List.getElem_toArray]
  try simp only [List.getElem_cons_succ]
  try simp only [List.getElem_cons_zero]
  try simp only [Act.put]
  try simp only [List.setIfInBounds_toArray]
  try simp only [List.set_cons_succ]
  try simp only [List.set_cons_zero]
  refine wpAnyH_take (i := 10) (v := (.agg #[.string ky, .string vl, .bool false])) rfl (by kernel_rfl) (by kernel_rfl) (by kernel_rfl) (fun _ _ _ h => h) (Or.inl ⟨by rfl, ?_⟩) (by assumption) ?_
  · intro w hSw
    (try dsimp only at hSw)
    go_simp
  try simp only [List.getElem_toArray]
  try simp only [List.getElem_cons_succ]
  try simp only [List.getElem_cons_zero]
  try simp only [Act.put]
  try simp only [List.setIfInBounds_toArray]
  try simp only [List.set_cons_succ]
  try simp only [List.set_cons_zero]
  refine wpAnyH_ready (rs := [0]) (by kernel_rfl) (by simp) ?_
  refine AllReadyH.cons rfl (fun K1 hK => ?_) AllReadyH.nil
  go_simp
  try go_wp2_with fail
  have hbA := (below_drew w2).trans ((below_new (o := .cells #[] 34) (w := w2.drew) (Below.refl _ _)).mono (below_drew w2).size)
  have HOA := hid (ow_new w2.drew w2.heap.size (Nat.le_refl _))
  have hbA2 := below_new (o := .cells #[] 34) (w := w2.drew) (Below.refl _ _)
  refine hK.out _ _ ?_ (fun hHeld => ?_)
  · exact kl3c hbA2 (by assumption)
  clear hK K1
  try simp only [List.getElem_toArray]
  try simp only [List.getElem_cons_succ]
  try simp only [List.getElem_cons_zero]
  try simp only [Act.put]
  try simp only [List.setIfInBounds_toArray]
  try simp only [List.set_cons_succ]
  try simp only [List.set_cons_zero]
  obtain ⟨a9, n9, c9, w9, hrun, hO9, hG9⟩ := run_append_prs (w := w2.drew.alloc (.cells #[] 34)) 23 w2.heap.size _ [] HOA.out S a n c l (P0.out.below' ((HB2.out.trans (hbA.mono HB2.out.size)))) (by simp; omega) hbA.size
  have hb9 : Below w2.heap.size w2 w9 := hbA.trans ((Below.refl _ _).grown hG9 hbA.size (fun q hq => (World.ownsRow.lt HOA.out q hq).1))
  have HB9 := hid (HB2.out.trans (hb9.mono HB2.out.size))
  refine wpAnyH_ready (rs := [2]) (by kernel_rfl) (by simp) ?_
  refine AllReadyH.cons rfl (fun K1 hK => ?_) AllReadyH.nil
  refine step_append_prs _ _ rfl _ _ _ rfl rfl hrun ?_
  refine hK.out _ _ ?_ (fun hHeld => ?_)
  · exact kl3 ⟨T0.out.cells, hb9⟩
  clear hK K1
  try simp only [List.getElem_toArray]
  try simp only [List.getElem_cons_succ]
  try simp only [List.getElem_cons_zero]
  try simp only [Act.put]
  try simp only [List.setIfInBounds_toArray]
  try simp only [List.set_cons_succ]
  try simp only [List.set_cons_zero]
  have hO9' : Ow w9 w2.heap.size (.slice a9 n9 c9) l := by simpa using hO9
  have HO9 := hid hO9'
  have hn9 : n9 = n := by rw [(Rw.len (hO9'.pr (S := fun _ => True) (fun _ _ _ _ => trivial))).1, HN.out]
  have HN9 := hid hn9
  clear hO9 hO9' hn9 hG9 hrun HOA hbA hbA2
  refine wpAnyH_ready (rs := [11]) (by kernel_rfl) (by simp) ?_
  refine AllReadyH.cons rfl (fun K1 hK => ?_) AllReadyH.nil
  go_simp
  refine (l10Put_any (fun _ => True) a9 n9 c9 l ky vl false _ (HO9.out.pr (fun _ _ _ _ => trivial)) (by have := HN9.out; omega)).mono ?_
  rintro r w10 ⟨a7, n7, c7, rfl, hO7, hbC⟩
  have HB7 := hid (HB9.out.trans (hbC.mono HB9.out.size))
  have HO7 := hid (ow_mono hO7 (Nat.le_trans HBU.out.size HB9.out.size))
  clear hO7
  go_wp2_with fail
  refine hK.out _ _ ?_ (fun hHeld => ?_)
  · exact kl3c hbC (by assumption)
  clear hK K1
  try simp only [List.getElem_toArray]
  try simp only [List.getElem_cons_succ]
  try simp only [List.getElem_cons_zero]
  try simp only [Act.put]
  try simp only [List.setIfInBounds_toArray]
  try simp only [List.set_cons_succ]
  try simp only [List.set_cons_zero]
  clear hbC hb9
  refine wpAnyH_take (i := 12) (v := (.slice a7 n7 c7)) rfl (by kernel_rfl) (by kernel_rfl) (by kernel_rfl) (fun _ _ _ h => h) (Or.inl ⟨by rfl, ?_⟩) (by assumption) ?_
  · intro w hSw
    (try dsimp only at hSw)
    go_simp
  try simp only [List.getElem_toArray]
  try simp only [List.getElem_cons_succ]
  try simp only [List.getElem_cons_zero]
  try simp only [Act.put]
  try simp only [List.setIfInBounds_toArray]
  try simp only [List.set_cons_succ]
  try simp only [List.set_cons_zero]
  refine wpAnyH_take (i := 13) (v := (.slice none 0 0)) rfl (by kernel_rfl) (by kernel_rfl) (by kernel_rfl) (fun _ _ _ h => h) (Or.inl ⟨by rfl, ?_⟩) (by assumption) ?_
  · intro w hSw
    (try dsimp only at hSw)
    go_simp
  try simp only [List.getElem_toArray]
  try simp only [List.getElem_cons_succ]
  try simp only [List.getElem_cons_zero]
  try simp only [Act.put]
  try simp only [List.setIfInBounds_toArray]
  try simp only [List.set_cons_succ]
  try simp only [List.set_cons_zero]
  refine wpAnyH_take (i := 14) (v := (.bool true)) rfl (by kernel_rfl) (by kernel_rfl) (by kernel_rfl) (fun _ _ _ h => h) (Or.inl ⟨by rfl, ?_⟩) (by assumption) ?_
  · intro w hSw
    (try dsimp only at hSw)
    go_simp
  try simp only [List.getElem_toArray]
  try simp only [List.getElem_cons_succ]
  try simp only [List.getElem_cons_zero]
  try simp only [Act.put]
  try simp only [List.setIfInBounds_toArray]
  try simp only [List.set_cons_succ]
  try simp only [List.set_cons_zero]
  refine wpAnyH_done (by kernel_rfl) ?_ _
  refine NoPanic.normal ?_
  go_wp2
  go_ret3
  rw [HT.out, HDD.out]
  exact ⟨_, _, _, _, _, _, rfl, HO7.out, ow_nil _ _, HBU.out.trans (HB7.out.mono HBU.out.size)⟩
set_option maxHeartbeats 8000000 in
set_option maxRecDepth 20000 in
theorem specRunAsk_3 (S : Nat → Prop) (a : Option Addr) (n c : Nat) (l : List PB) (ky vl lo hi : ByteArray) (mo : Int) (bk : Bool) (w : World) (h : Pr w S (.slice a n c) l) (hs : n ≤ 1048576) (hd : daOk l = true) (hk : akOk 3 ky vl lo hi mo bk = true) :
    Calls Try.prog 8 #[.slice a n c, .agg #[.int .i64 3, .string ky, .string vl, .string lo, .string hi, .int .i64 mo, .bool bk]] w fun e w' => RsPost true (raD l 3 ky vl) (raT l 3 ky lo hi mo bk) w e w' := by
  have hb := below_new (o := .cells #[.int .i64 3, .string ky, .string vl, .string lo, .string hi, .int .i64 mo, .bool bk] 27) (w := w) (Below.refl _ _)
  have HBU := hid hb
  have K0 := hid (Bk.new w 27 [.int .i64 3, .string ky, .string vl, .string lo, .string hi, .int .i64 mo, .bool bk])
  have P0 := hid (h.below' hb)
  have HN := hid (Rw.len h).1
  have HD := hid hd
  have HK := hid hk
  clear hb h hd hk
  have k0 := K0.out.cell (j := 0) rfl
  have k1 := K0.out.cell (j := 1) rfl
  have k2 := K0.out.cell (j := 2) rfl
  have k3 := K0.out.cell (j := 3) rfl
  have k4 := K0.out.cell (j := 4) rfl
  have k5 := K0.out.cell (j := 5) rfl
  have k6 := K0.out.cell (j := 6) rfl
  go_enter Try.func8, Try.ntmps8
  go_wp2_with fail
  refine (specDataOk_at S a n c l _ P0.out (by omega)).mono ?_
  have HUZ : Hid ((w.alloc (.cells #[.int .i64 3, .string ky, .string vl, .string lo, .string hi, .int .i64 mo, .bool bk] 27)).heap.size = w.heap.size + 1) := by show _ = _; simp
  generalize hU : w.alloc (.cells #[.int .i64 3, .string ky, .string vl, .string lo, .string hi, .int .i64 mo, .bool bk] 27) = U at *
  clear hU
  rintro e w1 ⟨rfl, hb⟩
  have HB1 := hid hb
  clear hb k0 k1 k2 k3 k4 k5 k6
  rw [HD.out]
  have k0 := (K0.out.below HB1.out).cell (j := 0) rfl
  have k1 := (K0.out.below HB1.out).cell (j := 1) rfl
  have k2 := (K0.out.below HB1.out).cell (j := 2) rfl
  have k3 := (K0.out.below HB1.out).cell (j := 3) rfl
  have k4 := (K0.out.below HB1.out).cell (j := 4) rfl
  have k5 := (K0.out.below HB1.out).cell (j := 5) rfl
  have k6 := (K0.out.below HB1.out).cell (j := 6) rfl
  go_wp2_with fail
  refine (specAskOk_any 3 ky vl lo hi mo bk _).mono ?_
  rintro e w2 ⟨rfl, hb⟩
  have HB2 := hid (HB1.out.trans (hb.mono HB1.out.size))
  clear hb HB1 k0 k1 k2 k3 k4 k5 k6
  rw [HK.out]
  have k0 := (K0.out.below HB2.out).cell (j := 0) rfl
  have k1 := (K0.out.below HB2.out).cell (j := 1) rfl
  have k2 := (K0.out.below HB2.out).cell (j := 2) rfl
  have k3 := (K0.out.below HB2.out).cell (j := 3) rfl
  have k4 := (K0.out.below HB2.out).cell (j := 4) rfl
  have k5 := (K0.out.below HB2.out).cell (j := 5) rfl
  have k6 := (K0.out.below HB2.out).cell (j := 6) rfl
  have HT : Hid (raT l 3 ky lo hi mo bk = []) := rfl
  have HDD : Hid (raD l 3 ky vl = lpV l ky vl true) := (lpV_del (daOk_asc HD.out) ky vl).symm
  have T0 := hid (kl3_0 k0 k1 k2)
  go_wp2_with fail
  refine wp_region_noPanic ?_
  refine wp_region_held_drew (S := fun v => v.cell? ⟨w.heap.size, 0, none⟩ = some (.int .i64 3) ∧ v.cell? ⟨w.heap.size, 1, none⟩ = some (.string ky) ∧ v.cell? ⟨w.heap.size, 2, none⟩ = some (.string vl) ∧ KL w2 v [(⟨w.heap.size, 0, none⟩, .int .i64 3), (⟨w.heap.size, 1, none⟩, .string ky), (⟨w.heap.size, 2, none⟩, .string vl)]) (by kernel_rfl) (kl3 (T0.out.call (below_drew _))) (fun hHeld => ?_)
  simp only [List.size_toArray, List.length_cons, List.length_nil, Array.replicate_succ, Array.replicate_zero, Nat.reduceAdd, List.push_toArray, List.nil_append, List.cons_append]
  refine wpAnyH_take (i := 1) (v := (.slice a n c)) rfl (by kernel_rfl) (by kernel_rfl) (by kernel_rfl) (fun _ _ _ h => h) (Or.inl ⟨by rfl, ?_⟩) (by assumption) ?_
  · intro w hSw
    (try dsimp only at hSw)
    go_simp
  try simp only [List.getElem_toArray]
  try simp only [List.getElem_cons_succ]
  try simp only [List.getElem_cons_zero]
  try simp only [Act.put]
  try simp only [List.setIfInBounds_toArray]
  try simp only [List.set_cons_succ]
  try simp only [List.set_cons_zero]
  refine wpAnyH_take (i := 3) (v := (.pointer (some ⟨w.heap.size, 1, none⟩))) rfl (by kernel_rfl) (by kernel_rfl) (by kernel_rfl) (fun _ _ _ h => h) (Or.inl ⟨by rfl, ?_⟩) (by assumption) ?_
  · intro w hSw
    (try dsimp only at hSw)
    go_simp
  try simp only [List.getElem_toArray]
  try simp only [List.getElem_cons_succ]
  try simp only [List.getElem_cons_zero]
  try simp only [Act.put]
  try simp only [List.setIfInBounds_toArray]
  try simp only [List.set_cons_succ]
  try simp only [List.set_cons_zero]
  refine wpAnyH_take (i := 4) (v := (.string ky)) rfl (by kernel_rfl) (by kernel_rfl) (by kernel_rfl) (fun _ _ _ h => h) (Or.inl ⟨by rfl, ?_⟩) (by assumption) ?_
  · intro w hSw
    (try dsimp only at hSw)
    go_simp
  try simp only [List.getElem_toArray]
  try simp only [List.getElem_cons_succ]
  try simp only [List.getElem_cons_zero]
  try simp only [Act.put]
  try simp only [List.setIfInBounds_toArray]
  try simp only [List.set_cons_succ]
  try simp only [List.set_cons_zero]
  refine wpAnyH_take (i := 5) (v := (.pointer (some ⟨w.heap.size, 2, none⟩))) rfl (by kernel_rfl) (by kernel_rfl) (by kernel_rfl) (fun _ _ _ h => h) (Or.inl ⟨by rfl, ?_⟩) (by assumption) ?_
  · intro w hSw
    (try dsimp only at hSw)
    go_simp
  try simp only [List.getElem_toArray]
  try simp only [List.getElem_cons_succ]
  try simp only [List.getElem_cons_zero]
  try simp only [Act.put]
  try simp only [List.setIfInBounds_toArray]
  try simp only [List.set_cons_succ]
  try simp only [List.set_cons_zero]
  refine wpAnyH_take (i := 6) (v := (.string vl)) rfl (by kernel_rfl) (by kernel_rfl) (by kernel_rfl) (fun _ _ _ h => h) (Or.inl ⟨by rfl, ?_⟩) (by assumption) ?_
  · intro w hSw
    (try dsimp only at hSw)
    go_simp
  try simp only [List.getElem_toArray]
  try simp only [List.getElem_cons_succ]
  try simp only [List.getElem_cons_zero]
  try simp only [Act.put]
  try simp only [List.setIfInBounds_toArray]
  try simp only [List.set_cons_succ]
  try simp only [List.set_cons_zero]
  refine wpAnyH_take (i := 7) (v := (.pointer (some ⟨w.heap.size, 0, none⟩))) rfl (by kernel_rfl) (by kernel_rfl) (by kernel_rfl) (fun _ _ _ h => h) (Or.inl ⟨by rfl, ?_⟩) (by assumption) ?_
  · intro w hSw
    (try dsimp only at hSw)
    go_simp
  try simp only [List.getElem_toArray]
  try simp only [List.getElem_cons_succ]
  try simp only [List.getElem_cons_zero]
  try simp only [Act.put]
  try simp only [List.setIfInBounds_toArray]
  try simp only [List.set_cons_succ]
  try simp only [List.set_cons_zero]
  refine wpAnyH_take (i := 8) (v := (.int .i64 3)) rfl (by kernel_rfl) (by kernel_rfl) (by kernel_rfl) (fun _ _ _ h => h) (Or.inl ⟨by rfl, ?_⟩) (by assumption) ?_
  · intro w hSw
    (try dsimp only at hSw)
    go_simp
  try simp only [List.getElem_toArray]
  try simp only [List.getElem_cons_succ]
  try simp only [List.getElem_cons_zero]
  try simp only [Act.put]
  try simp only [List.setIfInBounds_toArray]
  try simp only [List.set_cons_succ]
  try simp only [List.set_cons_zero]
  refine wpAnyH_take (i := 9) (v := (.bool true)) rfl (by kernel_rfl) (by kernel_rfl) (by kernel_rfl) (fun _ _ _ h => h) (Or.inl ⟨by rfl, ?_⟩) (by assumption) ?_
  · intro w hSw
    (try dsimp only at hSw)
    go_simp
  try simp only [List.getElem_toArray]
  try simp only [List.getElem_cons_succ]
  try simp only [List.getElem_cons_zero]
  try simp only [Act.put]
  try simp only [List.setIfInBounds_toArray]
  try simp only [List.set_cons_succ]
  try simp only [List.set_cons_zero]
  refine wpAnyH_take (i := 10) (v := (.agg #[.string ky, .string vl, .bool true])) rfl (by kernel_rfl) (by kernel_rfl) (by kernel_rfl) (fun _ _ _ h => h) (Or.inl ⟨by rfl, ?_⟩) (by assumption) ?_
  · intro w hSw
    (try dsimp only at hSw)
    go_simp
  try simp only [List.getElem_toArray]
  try simp only [List.getElem_cons_succ]
  try simp only [List.getElem_cons_zero]
  try simp only [Act.put]
  try simp only [List.setIfInBounds_toArray]
  try simp only [List.set_cons_succ]
  try simp only [List.set_cons_zero]
  refine wpAnyH_ready (rs := [0]) (by kernel_rfl) (by simp) ?_
  refine AllReadyH.cons rfl (fun K1 hK => ?_) AllReadyH.nil
  go_simp
  try go_wp2_with fail
  have hbA := (below_drew w2).trans ((below_new (o := .cells #[] 34) (w := w2.drew) (Below.refl _ _)).mono (below_drew w2).size)
  have HOA := hid (ow_new w2.drew w2.heap.size (Nat.le_refl _))
  have hbA2 := below_new (o := .cells #[] 34) (w := w2.drew) (Below.refl _ _)
  refine hK.out _ _ ?_ (fun hHeld => ?_)
  · exact kl3c hbA2 (by assumption)
  clear hK K1
  try simp only [List.getElem_toArray]
  try simp only [List.getElem_cons_succ]
  try simp only [List.getElem_cons_zero]
  try simp only [Act.put]
  try simp only [List.setIfInBounds_toArray]
  try simp only [List.set_cons_succ]
  try simp only [List.set_cons_zero]
  obtain ⟨a9, n9, c9, w9, hrun, hO9, hG9⟩ := run_append_prs (w := w2.drew.alloc (.cells #[] 34)) 23 w2.heap.size _ [] HOA.out S a n c l (P0.out.below' ((HB2.out.trans (hbA.mono HB2.out.size)))) (by simp; omega) hbA.size
  have hb9 : Below w2.heap.size w2 w9 := hbA.trans ((Below.refl _ _).grown hG9 hbA.size (fun q hq => (World.ownsRow.lt HOA.out q hq).1))
  have HB9 := hid (HB2.out.trans (hb9.mono HB2.out.size))
  refine wpAnyH_ready (rs := [2]) (by kernel_rfl) (by simp) ?_
  refine AllReadyH.cons rfl (fun K1 hK => ?_) AllReadyH.nil
  refine step_append_prs _ _ rfl _ _ _ rfl rfl hrun ?_
  refine hK.out _ _ ?_ (fun hHeld => ?_)
  · exact kl3 ⟨T0.out.cells, hb9⟩
  clear hK K1
  try simp only [List.getElem_toArray]
  try simp only [List.getElem_cons_succ]
  try simp only [List.getElem_cons_zero]
  try simp only [Act.put]
  try simp only [List.setIfInBounds_toArray]
  try simp only [List.set_cons_succ]
  try simp only [List.set_cons_zero]
  have hO9' : Ow w9 w2.heap.size (.slice a9 n9 c9) l := by simpa using hO9
  have HO9 := hid hO9'
  have hn9 : n9 = n := by rw [(Rw.len (hO9'.pr (S := fun _ => True) (fun _ _ _ _ => trivial))).1, HN.out]
  have HN9 := hid hn9
  clear hO9 hO9' hn9 hG9 hrun HOA hbA hbA2
  refine wpAnyH_ready (rs := [11]) (by kernel_rfl) (by simp) ?_
  refine AllReadyH.cons rfl (fun K1 hK => ?_) AllReadyH.nil
  go_simp
  refine (l10Put_any (fun _ => True) a9 n9 c9 l ky vl true _ (HO9.out.pr (fun _ _ _ _ => trivial)) (by have := HN9.out; omega)).mono ?_
  rintro r w10 ⟨a7, n7, c7, rfl, hO7, hbC⟩
  have HB7 := hid (HB9.out.trans (hbC.mono HB9.out.size))
  have HO7 := hid (ow_mono hO7 (Nat.le_trans HBU.out.size HB9.out.size))
  clear hO7
  go_wp2_with fail
  refine hK.out _ _ ?_ (fun hHeld => ?_)
  · exact kl3c hbC (by assumption)
  clear hK K1
  try simp only [List.getElem_toArray]
  try simp only [List.getElem_cons_succ]
  try simp only [List.getElem_cons_zero]
  try simp only [Act.put]
  try simp only [List.setIfInBounds_toArray]
  try simp only [List.set_cons_succ]
  try simp only [List.set_cons_zero]
  clear hbC hb9
  refine wpAnyH_take (i := 12) (v := (.slice a7 n7 c7)) rfl (by kernel_rfl) (by kernel_rfl) (by kernel_rfl) (fun _ _ _ h => h) (Or.inl ⟨by rfl, ?_⟩) (by assumption) ?_
  · intro w hSw
    (try dsimp only at hSw)
    go_simp
  try simp only [List.getElem_toArray]
  try simp only [List.getElem_cons_succ]
  try simp only [List.getElem_cons_zero]
  try simp only [Act.put]
  try simp only [List.setIfInBounds_toArray]
  try simp only [List.set_cons_succ]
  try simp only [List.set_cons_zero]
  refine wpAnyH_take (i := 13) (v := (.slice none 0 0)) rfl (by kernel_rfl) (by kernel_rfl) (by kernel_rfl) (fun _ _ _ h => h) (Or.inl ⟨by rfl, ?_⟩) (by assumption) ?_
  · intro w hSw
    (try dsimp only at hSw)
    go_simp
  try simp only [List.getElem_toArray]
  try simp only [List.getElem_cons_succ]
  try simp only [List.getElem_cons_zero]
  try simp only [Act.put]
  try simp only [List.setIfInBounds_toArray]
  try simp only [List.set_cons_succ]
  try simp only [List.set_cons_zero]
  refine wpAnyH_take (i := 14) (v := (.bool true)) rfl (by kernel_rfl) (by kernel_rfl) (by kernel_rfl) (fun _ _ _ h => h) (Or.inl ⟨by rfl, ?_⟩) (by assumption) ?_
  · intro w hSw
    (try dsimp only at hSw)
    go_simp
  try simp only [List.getElem_toArray]
  try simp only [List.getElem_cons_succ]
  try simp only [List.getElem_cons_zero]
  try simp only [Act.put]
  try simp only [List.setIfInBounds_toArray]
  try simp only [List.set_cons_succ]
  try simp only [List.set_cons_zero]
  refine wpAnyH_done (by kernel_rfl) ?_ _
  refine NoPanic.normal ?_
  go_wp2
  go_ret3
  rw [HT.out, HDD.out]
  exact ⟨_, _, _, _, _, _, rfl, HO7.out, ow_nil _ _, HBU.out.trans (HB7.out.mono HBU.out.size)⟩
end Go.Proofs.Ytjbamfgfgbmieaa
/-
  RunAsk of the specification: a scan.
-/
namespace Go.Proofs.Ytjbamfgfgbmieaa
open Go.RowKit
set_option maxHeartbeats 8000000 in
set_option maxRecDepth 20000 in
theorem specRunAsk_4f (S : Nat → Prop) (a : Option Addr) (n c : Nat) (l : List PB) (ky vl lo hi : ByteArray) (mo : Int) (w : World) (h : Pr w S (.slice a n c) l) (hs : n ≤ 1048576) (hd : daOk l = true) (hk : akOk 4 ky vl lo hi mo false = true) :
    Calls Try.prog 8 #[.slice a n c, .agg #[.int .i64 4, .string ky, .string vl, .string lo, .string hi, .int .i64 mo, .bool false]] w fun e w' => RsPost true (raD l 4 ky vl) (raT l 4 ky lo hi mo false) w e w' := by
  have hb := below_new (o := .cells #[.int .i64 4, .string ky, .string vl, .string lo, .string hi, .int .i64 mo, .bool false] 27) (w := w) (Below.refl _ _)
  have HBU := hid hb
  have K0 := hid (Bk.new w 27 [.int .i64 4, .string ky, .string vl, .string lo, .string hi, .int .i64 mo, .bool false])
  have P0 := hid (h.below' hb)
  have HN := hid (Rw.len h).1
  have HD := hid hd
  have HK := hid hk
  clear hb h hd hk
  have k0 := K0.out.cell (j := 0) rfl
  have k1 := K0.out.cell (j := 1) rfl
  have k2 := K0.out.cell (j := 2) rfl
  have k3 := K0.out.cell (j := 3) rfl
  have k4 := K0.out.cell (j := 4) rfl
  have k5 := K0.out.cell (j := 5) rfl
  have k6 := K0.out.cell (j := 6) rfl
  go_enter Try.func8, Try.ntmps8
  go_wp2_with fail
  refine (specDataOk_at S a n c l _ P0.out (by omega)).mono ?_
  have HUZ : Hid ((w.alloc (.cells #[.int .i64 4, .string ky, .string vl, .string lo, .string hi, .int .i64 mo, .bool false] 27)).heap.size = w.heap.size + 1) := by show _ = _; simp
  generalize hU : w.alloc (.cells #[.int .i64 4, .string ky, .string vl, .string lo, .string hi, .int .i64 mo, .bool false] 27) = U at *
  clear hU
  rintro e w1 ⟨rfl, hb⟩
  have HB1 := hid hb
  clear hb k0 k1 k2 k3 k4 k5 k6
  rw [HD.out]
  have k0 := (K0.out.below HB1.out).cell (j := 0) rfl
  have k1 := (K0.out.below HB1.out).cell (j := 1) rfl
  have k2 := (K0.out.below HB1.out).cell (j := 2) rfl
  have k3 := (K0.out.below HB1.out).cell (j := 3) rfl
  have k4 := (K0.out.below HB1.out).cell (j := 4) rfl
  have k5 := (K0.out.below HB1.out).cell (j := 5) rfl
  have k6 := (K0.out.below HB1.out).cell (j := 6) rfl
  go_wp2_with fail
  refine (specAskOk_any 4 ky vl lo hi mo false _).mono ?_
  rintro e w2 ⟨rfl, hb⟩
  have HB2 := hid (HB1.out.trans (hb.mono HB1.out.size))
  clear hb HB1 k0 k1 k2 k3 k4 k5 k6
  rw [HK.out]
  have k0 := (K0.out.below HB2.out).cell (j := 0) rfl
  have k1 := (K0.out.below HB2.out).cell (j := 1) rfl
  have k2 := (K0.out.below HB2.out).cell (j := 2) rfl
  have k3 := (K0.out.below HB2.out).cell (j := 3) rfl
  have k4 := (K0.out.below HB2.out).cell (j := 4) rfl
  have k5 := (K0.out.below HB2.out).cell (j := 5) rfl
  have k6 := (K0.out.below HB2.out).cell (j := 6) rfl
  have HDD : Hid (raD l 4 ky vl = l) := rfl
  have HT : Hid (raT l 4 ky lo hi mo false = (scJ l lo hi mo false n)) := by show _ = _; rw [HN.out, scJ_end]; rfl
  have hbn := below_new (o := .cells #[] 34) (w := w2) (Below.refl _ _)
  have HO3 := hid (ow_new w2 w2.heap.size (Nat.le_refl _))
  have HBV := hid hbn
  clear hbn
  go_wp2_with fail
  go_loopw [7, 8, 9, 41] (fun x z y i wr => ∃ (j : Nat) (av : Option Addr) (nv cv : Nat), j ≤ n ∧ i = .int .i64 j ∧ x = .slice av nv cv ∧ Hid (nv = (scJ l lo hi mo false j).length) ∧ Hid (Ow wr w2.heap.size (.slice av nv cv) (scJ l lo hi mo false j)) ∧ Hid (Below w2.heap.size w2 wr)) (fun _ _ _ i _ => n - (intOf i).toNat)
  case atStart => exact ⟨0, _, 0, 0, Nat.zero_le _, rfl, rfl, by show _ = _; simp [scJ], by show Ow _ _ _ _; simpa [scJ] using HO3.out, HBV.out⟩
  case round =>
    obtain ⟨j, av, nv, cv, hj, rfl, rfl, HNV, HO, HBW⟩ := hrel
    clear HO3 HBV k0 k1 k2 k3 k4 k5 k6
    have HB := hid (HB2.out.trans (HBW.out.mono HB2.out.size))
    by_cases hlt : j < n
    · have hlt' : (j : Int) < (n : Int) := by omega
      have hj0 : (0 : Int) ≤ (j : Int) := by omega
      have HLE : Hid ((scJ l lo hi mo false j).length ≤ 1048576) := by show _ ≤ _; have h1 := scJ_le l lo hi mo false j; have h2 := HN.out; omega
      have PJ := hid (P0.out.below' HB.out)
      obtain ⟨b, off, rfl, _, hbw, hcell⟩ := PJ.out.at (by omega)
      obtain ⟨d0, d1⟩ := hcell j hlt
      have hcv := (Rw.len (HO.out.pr (S := fun _ => True) (fun _ _ _ _ => trivial))).2
      have HPJ : Hid (pAtB (dirL false l) j = pAtB l j) := rfl
      have HSD := hid (scJ_step l lo hi mo false j (by rw [← HN.out]; exact hlt))
      rw [HPJ.out] at HSD
      clear hcell hbw PJ HPJ
      generalize hcur : pAtB l j = cur at *
      obtain ⟨kk, vv⟩ := cur
      have HSD2 := hid HSD.out
      clear HSD hcur
      simp only at d0 d1
      have hbp := below_new (o := .cells #[.string kk, .string vv] 34) (w := wr) (Below.refl _ _)
      have KP := hid (Bk.new wr 34 [.string kk, .string vv])
      have HOP := hid (HO.out.kept hbp)
      have HBP := hid (HBW.out.trans (hbp.mono HBW.out.size))
      have HB4 := hid (HB2.out.trans (HBP.out.mono HB2.out.size))
      clear hbp
      have k0 := (K0.out.below HB4.out).cell (j := 0) rfl
      have k1 := (K0.out.below HB4.out).cell (j := 1) rfl
      have k2 := (K0.out.below HB4.out).cell (j := 2) rfl
      have k3 := (K0.out.below HB4.out).cell (j := 3) rfl
      have k4 := (K0.out.below HB4.out).cell (j := 4) rfl
      have k5 := (K0.out.below HB4.out).cell (j := 5) rfl
      have k6 := (K0.out.below HB4.out).cell (j := 6) rfl
      have q0 := KP.out.cell (j := 0) rfl
      have q1 := KP.out.cell (j := 1) rfl
      have HRH := hid (fun v => specRangeHas_any lo hi kk v)
      simp only [rng] at HRH
      go_wp2_with fail
      refine (HRH.out _).mono ?_
      rintro e w5 ⟨rfl, hb⟩
      have KP5 := hid (KP.out.below hb)
      have HO5 := hid (HOP.out.kept hb)
      have HB5 := hid (HBP.out.trans (hb.mono HBP.out.size))
      have HB6 := hid (HB2.out.trans (HB5.out.mono HB2.out.size))
      clear hb KP HOP HBP HB4 HRH k0 k1 k2 k3 k4 k5 k6 q0 q1
      have k0 := (K0.out.below HB6.out).cell (j := 0) rfl
      have k1 := (K0.out.below HB6.out).cell (j := 1) rfl
      have k2 := (K0.out.below HB6.out).cell (j := 2) rfl
      have k3 := (K0.out.below HB6.out).cell (j := 3) rfl
      have k4 := (K0.out.below HB6.out).cell (j := 4) rfl
      have k5 := (K0.out.below HB6.out).cell (j := 5) rfl
      have k6 := (K0.out.below HB6.out).cell (j := 6) rfl
      have q0 := KP5.out.cell (j := 0) rfl
      have q1 := KP5.out.cell (j := 1) rfl
      cases hh : rHas lo hi kk with
      | false =>
        have HC : Hid (¬ (((scJ l lo hi mo false j).length : Int) < mo ∧ rHas lo hi kk = true)) := fun h => by rw [hh] at h; cases h.2
        clear hh
        have HSF : Hid ((scJ l lo hi mo false (j + 1)) = (scJ l lo hi mo false j)) := by show _ = _; rw [HSD2.out, if_neg HC.out]
        clear HSD2 HC
        go_wp2
        go_roundw
        case rel => exact ⟨j + 1, av, nv, cv, by omega, by go_num, rfl, by rw [HSF.out]; exact HNV.out, by rw [HSF.out]; exact HO5.out, HB5.out⟩
        case measure => simp [intOf]; omega
      | true =>
        by_cases hm : (nv : Int) < mo
        · have HC : Hid (((scJ l lo hi mo false j).length : Int) < mo ∧ rHas lo hi kk = true) := ⟨by rw [← HNV.out]; exact hm, hh⟩
          clear hh
          have hb := below_new (o := .cells #[.string kk, .string vv] 34) (w := w5) (Below.refl _ _)
          have KS : Hid (Bk (w5.alloc (.cells #[.string kk, .string vv] 34)) (w5.heap.size) 34 [.string kk, .string vv]) := by have := Bk.new w5 34 [.string kk, .string vv]; show Bk _ _ _ _; simpa using this
          have HOa := hid (HO5.out.kept hb)
          have HBa := hid (HB5.out.trans (hb.mono HB5.out.size))
          clear hb
          have HSF : Hid ((scJ l lo hi mo false (j + 1)) = (scJ l lo hi mo false j) ++ [(kk, vv)]) := by show _ = _; rw [HSD2.out, if_pos HC.out]
          clear HSD2 HC
          go_wp2_with (at_builtin; refine wpList_append_pair1 rfl _ _ rfl w2.heap.size _ (scJ l lo hi mo false j) rfl HOa.out (w5.heap.size) kk vv rfl KS.out ?q1 ?q2 ?_)
          case q1 => exact HLE.out
          case q2 => first | exact HBa.out.size | (have h := HBa.out.size; simp at h; omega)
          intro a7 n7 c7 w7 hO hg hown
          have HO7 : Hid (Ow w7 w2.heap.size (.slice a7 n7 c7) ((scJ l lo hi mo false j) ++ [(kk, vv)])) := hO
          have HB7 : Hid (Below w2.heap.size w2 w7) := HBa.out.trans (grown_belowB HOa.out hg HBa.out.size)
          obtain ⟨_, _, _, hsh, hn7⟩ := hO.shape'
          cases hsh
          have HN7 := hid hn7.out
          clear hO hg hown hn7 HOa HBa KS k0 k1 k2 k3 k4 k5 k6 q0 q1
          rw [← HSF.out] at HO7 HN7
          generalize hg9 : (scJ l lo hi mo false (j + 1)) = Z at *
          have HG9 := hid hg9
          clear hg9
          go_wp2
          go_roundw
          case rel => exact ⟨j + 1, a7, n7, c7, by omega, by go_num, rfl, by rw [HG9.out]; exact HN7.out, by rw [HG9.out]; exact HO7.out, HB7.out⟩
          case measure => simp [intOf]; omega
        · have HC : Hid (¬ (((scJ l lo hi mo false j).length : Int) < mo ∧ rHas lo hi kk = true)) := fun h => hm (by rw [HNV.out]; exact h.1)
          clear hh
          have HSF : Hid ((scJ l lo hi mo false (j + 1)) = (scJ l lo hi mo false j)) := by show _ = _; rw [HSD2.out, if_neg HC.out]
          clear HSD2 HC
          go_wp2
          go_roundw
          case rel => exact ⟨j + 1, av, nv, cv, by omega, by go_num, rfl, by rw [HSF.out]; exact HNV.out, by rw [HSF.out]; exact HO5.out, HB5.out⟩
          case measure => simp [intOf]; omega
    · have hlt' : ¬ (j : Int) < (n : Int) := by omega
      obtain rfl : j = n := by omega
      have hb := below_new (o := .cells #[] 34) (w := wr) (Below.refl _ _)
      have HSE : Hid (∀ q, (Value.slice av nv cv).ownBlock = some q → q < wr.heap.size) := fun q hq => (World.ownsRow.lt HO.out q hq).2
      have HN1 := hid (ow_new wr w2.heap.size HBW.out.size)
      have HO1 := hid (HO.out.kept hb)
      have HBa := hid (HBW.out.trans (hb.mono HBW.out.size))
      have PA := hid (P0.out.below' (HB2.out.trans (HBa.out.mono HB2.out.size)))
      have hcv := (Rw.len (HO.out.pr (S := fun _ => True) (fun _ _ _ _ => trivial))).2
      clear hb HO HBW HB
      go_wp2_with (at_builtin; refine wpList_append_prs rfl _ _ rfl w2.heap.size _ [] rfl HN1.out S a j c l rfl PA.out (by simp; omega) ?q2 ?_)
      case q2 => first | exact HBa.out.size | (have h := HBa.out.size; simp at h; omega)
      intro a7 n7 c7 w7 hO hg
      have HO7 : Hid (Ow w7 w2.heap.size (.slice a7 n7 c7) l) := by show Ow _ _ _ _; first | exact hO | simpa using hO
      have HB7 : Hid (Below w2.heap.size w2 w7) := HBa.out.trans (grown_belowB HN1.out hg HBa.out.size)
      have HT7 : Hid (Ow w7 w2.heap.size (.slice av nv cv) (scJ l lo hi mo false j)) := HO1.out.to (only_of_grown hg (R := fun y => y = wr.heap.size) (fun q hq => by cases hq; rfl)) (fun q hq e => by have := HSE.out q hq; omega)
      clear hO hg HN1 HO1 HBa PA
      go_wp2
      go_ret3
      rw [HT.out, HDD.out]
      exact ⟨_, _, _, _, _, _, rfl, ow_mono HO7.out (Nat.le_trans HBU.out.size HB2.out.size), ow_mono HT7.out (Nat.le_trans HBU.out.size HB2.out.size), HBU.out.trans ((HB2.out.trans (HB7.out.mono HB2.out.size)).mono HBU.out.size)⟩
end Go.Proofs.Ytjbamfgfgbmieaa
/-
  RunAsk of the specification: a scan.
-/
namespace Go.Proofs.Ytjbamfgfgbmieaa
open Go.RowKit
set_option maxHeartbeats 8000000 in
set_option maxRecDepth 20000 in
theorem specRunAsk_4t (S : Nat → Prop) (a : Option Addr) (n c : Nat) (l : List PB) (ky vl lo hi : ByteArray) (mo : Int) (w : World) (h : Pr w S (.slice a n c) l) (hs : n ≤ 1048576) (hd : daOk l = true) (hk : akOk 4 ky vl lo hi mo true = true) :
    Calls Try.prog 8 #[.slice a n c, .agg #[.int .i64 4, .string ky, .string vl, .string lo, .string hi, .int .i64 mo, .bool true]] w fun e w' => RsPost true (raD l 4 ky vl) (raT l 4 ky lo hi mo true) w e w' := by
  have hb := below_new (o := .cells #[.int .i64 4, .string ky, .string vl, .string lo, .string hi, .int .i64 mo, .bool true] 27) (w := w) (Below.refl _ _)
  have HBU := hid hb
  have K0 := hid (Bk.new w 27 [.int .i64 4, .string ky, .string vl, .string lo, .string hi, .int .i64 mo, .bool true])
  have P0 := hid (h.below' hb)
  have HN := hid (Rw.len h).1
  have HD := hid hd
  have HK := hid hk
  clear hb h hd hk
  have k0 := K0.out.cell (j := 0) rfl
  have k1 := K0.out.cell (j := 1) rfl
  have k2 := K0.out.cell (j := 2) rfl
  have k3 := K0.out.cell (j := 3) rfl
  have k4 := K0.out.cell (j := 4) rfl
  have k5 := K0.out.cell (j := 5) rfl
  have k6 := K0.out.cell (j := 6) rfl
  go_enter Try.func8, Try.ntmps8
  go_wp2_with fail
  refine (specDataOk_at S a n c l _ P0.out (by omega)).mono ?_
  have HUZ : Hid ((w.alloc (.cells #[.int .i64 4, .string ky, .string vl, .string lo, .string hi, .int .i64 mo, .bool true] 27)).heap.size = w.heap.size + 1) := by show _ = _; simp
  generalize hU : w.alloc (.cells #[.int .i64 4, .string ky, .string vl, .string lo, .string hi, .int .i64 mo, .bool true] 27) = U at *
  clear hU
  rintro e w1 ⟨rfl, hb⟩
  have HB1 := hid hb
  clear hb k0 k1 k2 k3 k4 k5 k6
  rw [HD.out]
  have k0 := (K0.out.below HB1.out).cell (j := 0) rfl
  have k1 := (K0.out.below HB1.out).cell (j := 1) rfl
  have k2 := (K0.out.below HB1.out).cell (j := 2) rfl
  have k3 := (K0.out.below HB1.out).cell (j := 3) rfl
  have k4 := (K0.out.below HB1.out).cell (j := 4) rfl
  have k5 := (K0.out.below HB1.out).cell (j := 5) rfl
  have k6 := (K0.out.below HB1.out).cell (j := 6) rfl
  go_wp2_with fail
  refine (specAskOk_any 4 ky vl lo hi mo true _).mono ?_
  rintro e w2 ⟨rfl, hb⟩
  have HB2 := hid (HB1.out.trans (hb.mono HB1.out.size))
  clear hb HB1 k0 k1 k2 k3 k4 k5 k6
  rw [HK.out]
  have k0 := (K0.out.below HB2.out).cell (j := 0) rfl
  have k1 := (K0.out.below HB2.out).cell (j := 1) rfl
  have k2 := (K0.out.below HB2.out).cell (j := 2) rfl
  have k3 := (K0.out.below HB2.out).cell (j := 3) rfl
  have k4 := (K0.out.below HB2.out).cell (j := 4) rfl
  have k5 := (K0.out.below HB2.out).cell (j := 5) rfl
  have k6 := (K0.out.below HB2.out).cell (j := 6) rfl
  have HDD : Hid (raD l 4 ky vl = l) := rfl
  have HT : Hid (raT l 4 ky lo hi mo true = (scJ l lo hi mo true n)) := by show _ = _; rw [HN.out, scJ_end]; rfl
  have hbn := below_new (o := .cells #[] 34) (w := w2) (Below.refl _ _)
  have HO3 := hid (ow_new w2 w2.heap.size (Nat.le_refl _))
  have HBV := hid hbn
  clear hbn
  go_wp2_with fail
  go_loopw [7, 8, 9, 41] (fun x z y i wr => ∃ (j : Nat) (av : Option Addr) (nv cv : Nat), j ≤ n ∧ i = .int .i64 j ∧ x = .slice av nv cv ∧ Hid (nv = (scJ l lo hi mo true j).length) ∧ Hid (Ow wr w2.heap.size (.slice av nv cv) (scJ l lo hi mo true j)) ∧ Hid (Below w2.heap.size w2 wr)) (fun _ _ _ i _ => n - (intOf i).toNat)
  case atStart => exact ⟨0, _, 0, 0, Nat.zero_le _, rfl, rfl, by show _ = _; simp [scJ], by show Ow _ _ _ _; simpa [scJ] using HO3.out, HBV.out⟩
  case round =>
    obtain ⟨j, av, nv, cv, hj, rfl, rfl, HNV, HO, HBW⟩ := hrel
    clear HO3 HBV k0 k1 k2 k3 k4 k5 k6
    have HB := hid (HB2.out.trans (HBW.out.mono HB2.out.size))
    by_cases hlt : j < n
    · have hlt' : (j : Int) < (n : Int) := by omega
      have hj0 : (0 : Int) ≤ (j : Int) := by omega
      have HLE : Hid ((scJ l lo hi mo true j).length ≤ 1048576) := by show _ ≤ _; have h1 := scJ_le l lo hi mo true j; have h2 := HN.out; omega
      have PJ := hid (P0.out.below' HB.out)
      obtain ⟨b, off, rfl, _, hbw, hcell⟩ := PJ.out.at (by omega)
      obtain ⟨d0, d1⟩ := hcell j hlt
      have hcv := (Rw.len (HO.out.pr (S := fun _ => True) (fun _ _ _ _ => trivial))).2
      obtain ⟨f0, f1⟩ := hcell (n - 1 - j) (by omega)
      have hjn : (n : Int) - 1 - (j : Int) = ((n - 1 - j : Nat) : Int) := by omega
      have hq : ((n - 1 - j : Nat) : Int) < (n : Int) := by omega
      have HPJ : Hid (pAtB (dirL true l) j = pAtB l (n - 1 - j)) := by show _ = _; rw [dirL_at l j (by rw [← HN.out]; exact hlt), HN.out]
      have HSD := hid (scJ_step l lo hi mo true j (by rw [← HN.out]; exact hlt))
      rw [HPJ.out] at HSD
      clear hcell hbw PJ HPJ
      generalize n - 1 - j = q at *
      generalize pAtB l j = pre at *
      obtain ⟨k0, v0⟩ := pre
      simp only at d0 d1
      generalize hcur : pAtB l q = cur at *
      obtain ⟨kk, vv⟩ := cur
      have HSD2 := hid HSD.out
      clear HSD hcur
      simp only at f0 f1
      have hbx := below_new (o := .cells #[.string k0, .string v0] 34) (w := wr) (Below.refl _ _)
      have KX := hid (Bk.new wr 34 [.string k0, .string v0])
      have g0 : (wr.alloc (.cells #[.string k0, .string v0] 34)).cell? ⟨b, off + q * 2, none⟩ = some (.string kk) := by rw [hbx.cell (p := ⟨b, off + q * 2, none⟩) (block_lt f0)]; exact f0
      have g1 : (wr.alloc (.cells #[.string k0, .string v0] 34)).cell? ⟨b, off + q * 2 + 1, none⟩ = some (.string vv) := by rw [hbx.cell (p := ⟨b, off + q * 2 + 1, none⟩) (block_lt f1)]; exact f1
      have x0 := KX.out.cell (j := 0) rfl
      have x1 := KX.out.cell (j := 1) rfl
      have z0 := KX.out.free 0
      have z1 := KX.out.free 1
      have hbx2 := HB.out.trans (hbx.mono HB.out.size)
      have m0 := (K0.out.below hbx2).cell (j := 0) rfl
      have m1 := (K0.out.below hbx2).cell (j := 1) rfl
      have m2 := (K0.out.below hbx2).cell (j := 2) rfl
      have m3 := (K0.out.below hbx2).cell (j := 3) rfl
      have m4 := (K0.out.below hbx2).cell (j := 4) rfl
      have m5 := (K0.out.below hbx2).cell (j := 5) rfl
      have m6 := (K0.out.below hbx2).cell (j := 6) rfl
      clear hbx hbx2 f0 f1
      have hbp := below_new (o := .cells #[.string kk, .string vv] 34) (w := wr) (Below.refl _ _)
      have KP := hid (Bk.new wr 34 [.string kk, .string vv])
      have HOP := hid (HO.out.kept hbp)
      have HBP := hid (HBW.out.trans (hbp.mono HBW.out.size))
      have HB4 := hid (HB2.out.trans (HBP.out.mono HB2.out.size))
      clear hbp
      have k0 := (K0.out.below HB4.out).cell (j := 0) rfl
      have k1 := (K0.out.below HB4.out).cell (j := 1) rfl
      have k2 := (K0.out.below HB4.out).cell (j := 2) rfl
      have k3 := (K0.out.below HB4.out).cell (j := 3) rfl
      have k4 := (K0.out.below HB4.out).cell (j := 4) rfl
      have k5 := (K0.out.below HB4.out).cell (j := 5) rfl
      have k6 := (K0.out.below HB4.out).cell (j := 6) rfl
      have q0 := KP.out.cell (j := 0) rfl
      have q1 := KP.out.cell (j := 1) rfl
      have HRH := hid (fun v => specRangeHas_any lo hi kk v)
      simp only [rng] at HRH
      go_wp2_with fail
      refine (HRH.out _).mono ?_
      rintro e w5 ⟨rfl, hb⟩
      have KP5 := hid (KP.out.below hb)
      have HO5 := hid (HOP.out.kept hb)
      have HB5 := hid (HBP.out.trans (hb.mono HBP.out.size))
      have HB6 := hid (HB2.out.trans (HB5.out.mono HB2.out.size))
      clear hb KP HOP HBP HB4 HRH k0 k1 k2 k3 k4 k5 k6 q0 q1 m0 m1 m2 m3 m4 m5 m6 g0 g1 x0 x1 z0 z1
      have k0 := (K0.out.below HB6.out).cell (j := 0) rfl
      have k1 := (K0.out.below HB6.out).cell (j := 1) rfl
      have k2 := (K0.out.below HB6.out).cell (j := 2) rfl
      have k3 := (K0.out.below HB6.out).cell (j := 3) rfl
      have k4 := (K0.out.below HB6.out).cell (j := 4) rfl
      have k5 := (K0.out.below HB6.out).cell (j := 5) rfl
      have k6 := (K0.out.below HB6.out).cell (j := 6) rfl
      have q0 := KP5.out.cell (j := 0) rfl
      have q1 := KP5.out.cell (j := 1) rfl
      cases hh : rHas lo hi kk with
      | false =>
        have HC : Hid (¬ (((scJ l lo hi mo true j).length : Int) < mo ∧ rHas lo hi kk = true)) := fun h => by rw [hh] at h; cases h.2
        clear hh
        have HSF : Hid ((scJ l lo hi mo true (j + 1)) = (scJ l lo hi mo true j)) := by show _ = _; rw [HSD2.out, if_neg HC.out]
        clear HSD2 HC
        go_wp2
        go_roundw
        case rel => exact ⟨j + 1, av, nv, cv, by omega, by go_num, rfl, by rw [HSF.out]; exact HNV.out, by rw [HSF.out]; exact HO5.out, HB5.out⟩
        case measure => simp [intOf]; omega
      | true =>
        by_cases hm : (nv : Int) < mo
        · have HC : Hid (((scJ l lo hi mo true j).length : Int) < mo ∧ rHas lo hi kk = true) := ⟨by rw [← HNV.out]; exact hm, hh⟩
          clear hh
          have hb := below_new (o := .cells #[.string kk, .string vv] 34) (w := w5) (Below.refl _ _)
          have KS : Hid (Bk (w5.alloc (.cells #[.string kk, .string vv] 34)) (w5.heap.size) 34 [.string kk, .string vv]) := by have := Bk.new w5 34 [.string kk, .string vv]; show Bk _ _ _ _; simpa using this
          have HOa := hid (HO5.out.kept hb)
          have HBa := hid (HB5.out.trans (hb.mono HB5.out.size))
          clear hb
          have HSF : Hid ((scJ l lo hi mo true (j + 1)) = (scJ l lo hi mo true j) ++ [(kk, vv)]) := by show _ = _; rw [HSD2.out, if_pos HC.out]
          clear HSD2 HC
          go_wp2_with (at_builtin; refine wpList_append_pair1 rfl _ _ rfl w2.heap.size _ (scJ l lo hi mo true j) rfl HOa.out (w5.heap.size) kk vv rfl KS.out ?q1 ?q2 ?_)
          case q1 => exact HLE.out
          case q2 => first | exact HBa.out.size | (have h := HBa.out.size; simp at h; omega)
          intro a7 n7 c7 w7 hO hg hown
          have HO7 : Hid (Ow w7 w2.heap.size (.slice a7 n7 c7) ((scJ l lo hi mo true j) ++ [(kk, vv)])) := hO
          have HB7 : Hid (Below w2.heap.size w2 w7) := HBa.out.trans (grown_belowB HOa.out hg HBa.out.size)
          obtain ⟨_, _, _, hsh, hn7⟩ := hO.shape'
          cases hsh
          have HN7 := hid hn7.out
          clear hO hg hown hn7 HOa HBa KS k0 k1 k2 k3 k4 k5 k6 q0 q1
          rw [← HSF.out] at HO7 HN7
          generalize hg9 : (scJ l lo hi mo true (j + 1)) = Z at *
          have HG9 := hid hg9
          clear hg9
          go_wp2
          go_roundw
          case rel => exact ⟨j + 1, a7, n7, c7, by omega, by go_num, rfl, by rw [HG9.out]; exact HN7.out, by rw [HG9.out]; exact HO7.out, HB7.out⟩
          case measure => simp [intOf]; omega
        · have HC : Hid (¬ (((scJ l lo hi mo true j).length : Int) < mo ∧ rHas lo hi kk = true)) := fun h => hm (by rw [HNV.out]; exact h.1)
          clear hh
          have HSF : Hid ((scJ l lo hi mo true (j + 1)) = (scJ l lo hi mo true j)) := by show _ = _; rw [HSD2.out, if_neg HC.out]
          clear HSD2 HC
          go_wp2
          go_roundw
          case rel => exact ⟨j + 1, av, nv, cv, by omega, by go_num, rfl, by rw [HSF.out]; exact HNV.out, by rw [HSF.out]; exact HO5.out, HB5.out⟩
          case measure => simp [intOf]; omega
    · have hlt' : ¬ (j : Int) < (n : Int) := by omega
      obtain rfl : j = n := by omega
      have hb := below_new (o := .cells #[] 34) (w := wr) (Below.refl _ _)
      have HSE : Hid (∀ q, (Value.slice av nv cv).ownBlock = some q → q < wr.heap.size) := fun q hq => (World.ownsRow.lt HO.out q hq).2
      have HN1 := hid (ow_new wr w2.heap.size HBW.out.size)
      have HO1 := hid (HO.out.kept hb)
      have HBa := hid (HBW.out.trans (hb.mono HBW.out.size))
      have PA := hid (P0.out.below' (HB2.out.trans (HBa.out.mono HB2.out.size)))
      have hcv := (Rw.len (HO.out.pr (S := fun _ => True) (fun _ _ _ _ => trivial))).2
      clear hb HO HBW HB
      go_wp2_with (at_builtin; refine wpList_append_prs rfl _ _ rfl w2.heap.size _ [] rfl HN1.out S a j c l rfl PA.out (by simp; omega) ?q2 ?_)
      case q2 => first | exact HBa.out.size | (have h := HBa.out.size; simp at h; omega)
      intro a7 n7 c7 w7 hO hg
      have HO7 : Hid (Ow w7 w2.heap.size (.slice a7 n7 c7) l) := by show Ow _ _ _ _; first | exact hO | simpa using hO
      have HB7 : Hid (Below w2.heap.size w2 w7) := HBa.out.trans (grown_belowB HN1.out hg HBa.out.size)
      have HT7 : Hid (Ow w7 w2.heap.size (.slice av nv cv) (scJ l lo hi mo true j)) := HO1.out.to (only_of_grown hg (R := fun y => y = wr.heap.size) (fun q hq => by cases hq; rfl)) (fun q hq e => by have := HSE.out q hq; omega)
      clear hO hg HN1 HO1 HBa PA
      go_wp2
      go_ret3
      rw [HT.out, HDD.out]
      exact ⟨_, _, _, _, _, _, rfl, ow_mono HO7.out (Nat.le_trans HBU.out.size HB2.out.size), ow_mono HT7.out (Nat.le_trans HBU.out.size HB2.out.size), HBU.out.trans ((HB2.out.trans (HB7.out.mono HB2.out.size)).mono HBU.out.size)⟩
end Go.Proofs.Ytjbamfgfgbmieaa
/-
  RunAsk of the specification, for all data and asks.
-/
namespace Go.Proofs.Ytjbamfgfgbmieaa
open Go.RowKit
set_option maxHeartbeats 4000000 in
set_option maxRecDepth 20000 in
theorem specRunAsk_no (S : Nat → Prop) (a : Option Addr) (n c : Nat) (l : List PB) (k : Int) (ky vl lo hi : ByteArray) (mo : Int) (bk : Bool) (w : World) (h : Pr w S (.slice a n c) l) (hs : n ≤ 1048576) (hn : raK l k ky vl lo hi mo bk = false) :
    Calls Try.prog 8 #[.slice a n c, .agg #[.int .i64 k, .string ky, .string vl, .string lo, .string hi, .int .i64 mo, .bool bk]] w fun e w' => RsPost false [] [] w e w' := by
  have hb := below_new (o := .cells #[.int .i64 k, .string ky, .string vl, .string lo, .string hi, .int .i64 mo, .bool bk] 27) (w := w) (Below.refl _ _)
  have HBU := hid hb
  have K0 := hid (Bk.new w 27 [.int .i64 k, .string ky, .string vl, .string lo, .string hi, .int .i64 mo, .bool bk])
  have P0 := hid (h.below' hb)
  have HR := hid hn
  clear hb h hn
  have k0 := K0.out.cell (j := 0) rfl
  have k1 := K0.out.cell (j := 1) rfl
  have k2 := K0.out.cell (j := 2) rfl
  have k3 := K0.out.cell (j := 3) rfl
  have k4 := K0.out.cell (j := 4) rfl
  have k5 := K0.out.cell (j := 5) rfl
  have k6 := K0.out.cell (j := 6) rfl
  go_enter Try.func8, Try.ntmps8
  go_wp2_with fail
  refine (specDataOk_at S a n c l _ P0.out (by omega)).mono ?_
  generalize hU : w.alloc (.cells #[.int .i64 k, .string ky, .string vl, .string lo, .string hi, .int .i64 mo, .bool bk] 27) = U at *
  clear hU
  rintro e w1 ⟨rfl, hb⟩
  have HB1 := hid hb
  clear hb k0 k1 k2 k3 k4 k5 k6
  have k0 := (K0.out.below HB1.out).cell (j := 0) rfl
  have k1 := (K0.out.below HB1.out).cell (j := 1) rfl
  have k2 := (K0.out.below HB1.out).cell (j := 2) rfl
  have k3 := (K0.out.below HB1.out).cell (j := 3) rfl
  have k4 := (K0.out.below HB1.out).cell (j := 4) rfl
  have k5 := (K0.out.below HB1.out).cell (j := 5) rfl
  have k6 := (K0.out.below HB1.out).cell (j := 6) rfl
  cases hd : daOk l with
  | false =>
    clear hd
    go_wp2
    go_ret3
    exact rs_no (HBU.out.trans (HB1.out.mono HBU.out.size))
  | true =>
    have HK : Hid (akOk k ky vl lo hi mo bk = false) := by have := HR.out; show _ = _; simpa [raK, hd] using this
    clear hd
    go_wp2_with fail
    refine (specAskOk_any k ky vl lo hi mo bk _).mono ?_
    rintro e w2 ⟨rfl, hb⟩
    have HB2 := hid (HB1.out.trans (hb.mono HB1.out.size))
    clear hb HB1 k0 k1 k2 k3 k4 k5 k6
    rw [HK.out]
    go_wp2
    go_ret3
    exact rs_no (HBU.out.trans (HB2.out.mono HBU.out.size))
theorem specRunAsk_any (S : Nat → Prop) (a : Option Addr) (n c : Nat) (l : List PB) (k : Int) (ky vl lo hi : ByteArray) (mo : Int) (bk : Bool) (w : World) (h : Pr w S (.slice a n c) l) (hs : n ≤ 1048576) :
    Calls Try.prog 8 #[.slice a n c, .agg #[.int .i64 k, .string ky, .string vl, .string lo, .string hi, .int .i64 mo, .bool bk]] w fun e w' => RsPost (raK l k ky vl lo hi mo bk) (raDo l k ky vl lo hi mo bk) (raTo l k ky vl lo hi mo bk) w e w' := by
  cases hr : raK l k ky vl lo hi mo bk with
  | false =>
    have e1 : raDo l k ky vl lo hi mo bk = [] := by simp [raDo, hr]
    have e2 : raTo l k ky vl lo hi mo bk = [] := by simp [raTo, hr]
    rw [e1, e2]
    exact specRunAsk_no S a n c l k ky vl lo hi mo bk w h hs hr
  | true =>
    have e1 : raDo l k ky vl lo hi mo bk = raD l k ky vl := by simp [raDo, hr]
    have e2 : raTo l k ky vl lo hi mo bk = raT l k ky lo hi mo bk := by simp [raTo, hr]
    rw [e1, e2]
    obtain ⟨hd, hk⟩ : daOk l = true ∧ akOk k ky vl lo hi mo bk = true := by simpa [raK] using hr
    rcases ak_kind hk with rfl | rfl | rfl | rfl
    · obtain ⟨_, _, rfl⟩ := ak_get hk (.inl rfl)
      exact specRunAsk_1 S a n c l ky vl lo hi mo w h hs hd hk
    · exact specRunAsk_2 S a n c l ky vl lo hi mo bk w h hs hd hk
    · exact specRunAsk_3 S a n c l ky vl lo hi mo bk w h hs hd hk
    · cases bk with
      | false => exact specRunAsk_4f S a n c l ky vl lo hi mo w h hs hd hk
      | true => exact specRunAsk_4t S a n c l ky vl lo hi mo w h hs hd hk
end Go.Proofs.Ytjbamfgfgbmieaa
/-
  samePairs of the laws: whether two slices of pairs hold the same.
-/
namespace Go.Proofs.Ytjbamfgfgbmieaa
open Go.RowKit
set_option maxHeartbeats 4000000 in
theorem samePairs_any (S S' : Nat → Prop) (a a' : Option Addr) (n n' c c' : Nat) (l l' : List PB) (w : World) (hP : Pr w S (.slice a n c) l) (hP' : Pr w S' (.slice a' n' c') l') :
    Calls Try.prog 9 #[.slice a n c, .slice a' n' c'] w fun e w' => e = .returned (.bool (decide (l = l'))) ∧ Below w.heap.size w w' := by
  have HP := hid hP
  have HP' := hid hP'
  have lp := hid (Rw.len hP).1
  have lp' := hid (Rw.len hP').1
  have b1 := (Rw.len hP).2
  have b1' := (Rw.len hP').2
  clear hP hP'
  by_cases h1 : n = n'
  · have e1 : ((n : Int) != (n' : Int)) = false := by simp [h1]
    subst h1
    go_enter Try.func9, Try.ntmps9
    go_wp2_with fail
    go_loopw [13] (fun i wr => ∃ k q : Nat, k ≤ n ∧ i = .int .i64 k ∧ wr = w.drewN q ∧ Hid (l.take k = l'.take k)) (fun i _ => n - (intOf i).toNat)
    case atStart => exact ⟨0, 0, Nat.zero_le _, rfl, rfl, rfl⟩
    case round =>
      obtain ⟨k, q, hk, rfl, rfl, HT⟩ := hrel
      by_cases hlt : k < n
      · have hlt' : (k : Int) < (n : Int) := by omega
        obtain ⟨g, off, hap, _, _, hc⟩ := HP.out.at (by omega)
        obtain ⟨g', off', hap', _, _, hc'⟩ := HP'.out.at (by omega)
        subst hap hap'
        have m0 := (hc k hlt).1
        have m1 := (hc k hlt).2
        have m0' := (hc' k hlt).1
        have m1' := (hc' k hlt).2
        have HSS : Hid (pAtB l k = pAtB l' k → l.take (k + 1) = l'.take (k + 1)) := by
          intro e
          have hl : k < l.length := by rw [← lp.out]; exact hlt
          have hl' : k < l'.length := by rw [← lp'.out]; exact hlt
          rw [List.take_succ_eq_append_getElem hl, List.take_succ_eq_append_getElem hl', HT.out]
          simp [pAtB, hl, hl'] at e
          rw [e]
        have HFF : Hid (pAtB l k ≠ pAtB l' k → decide (l = l') = false) := fun e => decide_eq_false (fun q => e (by rw [q]))
        clear hc hc'
        generalize pAtB l k = cx1 at *
        generalize pAtB l' k = cx2 at *
        obtain ⟨k1, v1⟩ := cx1
        obtain ⟨k2, v2⟩ := cx2
        have hnq := neq_pair k1 v1 k2 v2
        by_cases he : (k1, v1) = (k2, v2)
        · have HS1 := hid (HSS.out he)
          rw [decide_eq_true he] at hnq
          clear he HSS HFF
          go_wp2_with fail
          go_quiet (fail)
          go_wp2
          go_roundw
          case rel => exact ⟨k + 1, q + nq, by omega, by go_num, rfl, HS1.out⟩
          case measure => simp [intOf]; omega
        · have HF1 := hid (HFF.out he)
          rw [decide_eq_false he] at hnq
          clear he HSS HFF
          go_wp2_with fail
          go_quiet (fail)
          go_wp2
          go_ret
          exact ⟨by rw [HF1.out]; rfl, Below.drewN' (Below.drewN' (Below.refl _ _) _) _⟩
      · have hlt' : ¬ (k : Int) < (n : Int) := by omega
        have HE : Hid (decide (l = l') = true) := by
          have e : k = n := by omega
          have := HT.out
          rw [List.take_of_length_le (by rw [← lp.out]; omega), List.take_of_length_le (by rw [← lp'.out]; omega)] at this
          exact decide_eq_true this
        clear HT
        go_wp2
        go_ret
        exact ⟨by rw [HE.out]; rfl, Below.drewN' (Below.refl _ _) _⟩
  · have e1 : ((n : Int) != (n' : Int)) = true := by simp; omega
    have HE : Hid (decide (l = l') = false) := decide_eq_false (fun q => h1 (by rw [lp.out, lp'.out, q]))
    clear h1
    go_enter Try.func9, Try.ntmps9
    go_wp2
    go_ret
    exact ⟨by rw [HE.out]; rfl, Below.refl _ _⟩
end Go.Proofs.Ytjbamfgfgbmieaa
