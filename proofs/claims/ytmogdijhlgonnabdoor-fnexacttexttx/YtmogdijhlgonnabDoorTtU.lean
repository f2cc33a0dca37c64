/-
  TextTx of the specification: the walk.
-/
import Derived.Test.YtmogdijhlgonnabDoorTtR
namespace Go.Proofs.YtmogdijhlgonnabDoor
open Go.RowKit
set_option linter.unusedVariables false
theorem bnil {s : ByteArray} : s.toList = [] ↔ s.size = 0 := by
  rw [ByteArray.toList_eq, ← List.length_eq_zero_iff, Array.length_toList]; rfl
theorem tt_none {s : ByteArray} (h : ttV s = none) : ttA s = (0, 0, 0) ∧ (ttV s).isSome = false := by unfold ttA; rw [h]; exact ⟨rfl, rfl⟩
theorem tt_some {s : ByteArray} {x : TX} (h : ttV s = some x) : ttA s = x ∧ (ttV s).isSome = true := by unfold ttA; rw [h]; exact ⟨rfl, rfl⟩
set_option maxHeartbeats 8000000 in
set_option maxRecDepth 20000 in
theorem specTextTx_any (s : ByteArray) (w : World) (hs : s.size ≤ 1048576) :
    Calls Tryd.prog 4 #[.string s] w fun r w' => r = .returned (.tuple #[.agg #[.int .i64 (ttA s).1, .int .i64 (ttA s).2.1, .int .i64 (ttA s).2.2], .bool (ttV s).isSome]) ∧ Below w.heap.size w w' := by
  have HST := hid (spec_tt s)
  have hb0 := below_new (o := .cells #[.int .i64 0, .int .i64 0, .int .i64 0] 23) (w := w) (Below.refl _ _)
  have B1 := hid hb0
  have R1 := hid (Bk.new w 23 [.int .i64 0, .int .i64 0, .int .i64 0])
  by_cases h9 : 9 < s.size
  · have h9' : (9 : Int) < (s.size : Int) := by omega
    have HA := hid (tt_none (HST.out.2 (fun q => by omega)))
    clear hb0
    go_enter Tryd.func4, Tryd.ntmps4
    go_wp2
    try simp only [Exit.inBlock, Exit.then]
    refine bodyPost_ret (v := .tuple #[.agg #[.int .i64 0, .int .i64 0, .int .i64 0], .bool false]) ?_ rfl ?_
    · exact results_txb rfl _ _ w.heap.size rfl rfl (by go_simp) (by go_simp) (by go_simp)
    · rw [HA.out.1, HA.out.2]
      exact ⟨rfl, by first | exact B1.out | exact ((B1.out.setCell (p := ⟨w.heap.size, 0, none⟩) (Nat.le_refl _) _).setCell (p := ⟨w.heap.size, 1, none⟩) (Nat.le_refl _) _).setCell (p := ⟨w.heap.size, 2, none⟩) (Nat.le_refl _) _⟩
  · have h9' : ¬ (9 : Int) < (s.size : Int) := by omega
    clear hb0
    have hbv := below_new (o := .cells #[.int .i64 0, .int .i64 0, .int .i64 0] 3) (w := w.alloc (.cells #[.int .i64 0, .int .i64 0, .int .i64 0] 23)) (Below.refl _ _)
    have R2 := hid (R1.out.below hbv)
    have B2 := hid (B1.out.trans (hbv.mono B1.out.size))
    have V2 : Hid (Bk ((w.alloc (.cells #[.int .i64 0, .int .i64 0, .int .i64 0] 23)).alloc (.cells #[.int .i64 0, .int .i64 0, .int .i64 0] 3)) (w.heap.size + 1) 3 (vrow s 0)) := by
      have := Bk.new (w.alloc (.cells #[.int .i64 0, .int .i64 0, .int .i64 0] 23)) 3 [.int .i64 0, .int .i64 0, .int .i64 0]
      rw [show (w.alloc (.cells #[.int .i64 0, .int .i64 0, .int .i64 0] 23)).heap.size = w.heap.size + 1 by simp] at this
      exact this
    have CP := hid (fun v => l07Parts_any s v hs)
    unfold PrPost at CP
    clear hbv R1 B1
    go_enter Tryd.func4, Tryd.ntmps4
    go_wp2_with fail
    refine (CP.out _).mono ?_
    generalize (w.alloc (.cells #[.int .i64 0, .int .i64 0, .int .i64 0] 23)).alloc (.cells #[.int .i64 0, .int .i64 0, .int .i64 0] 3) = U at *
    generalize hgv : w.heap.size + 1 = gv at *
    have HGV := hid hgv
    clear hgv
    rintro r w3 ⟨a, n, c, rfl, hO, hb⟩
    have R3 := hid (R2.out.below hb)
    have V3 := hid (V2.out.below hb)
    have B3 := hid (B2.out.trans (hb.mono B2.out.size))
    have P3 : Hid (Rw w3 (fun y => y ≠ gv ∧ y ≠ w.heap.size) (.slice a n c) (prt s).length ((prt s).map Value.string)) := rw_own hO (fun k q h1 h2 => by have := V2.out.lt; have := HGV.out; omega)
    have HN := hid (Rw.len P3.out).1
    have bk := (Rw.len P3.out).2
    clear hO hb R2 V2 B2 CP
    go_wp2_with fail
    go_loopw [16] (fun i wr => ∃ k : Nat, k ≤ n ∧ i = .int .i64 k ∧ Hid (Below w.heap.size w wr) ∧ Hid (Bk wr w.heap.size 23 [.int .i64 0, .int .i64 0, .int .i64 0]) ∧ Hid (Bk wr gv 3 (vrow s k)) ∧ Hid (Rw wr (fun y => y ≠ gv ∧ y ≠ w.heap.size) (.slice a n c) (prt s).length ((prt s).map Value.string))) (fun i _ => n - (intOf i).toNat)
    case atStart => exact ⟨0, Nat.zero_le _, rfl, B3.out, R3.out, V3.out, P3.out⟩
    case round =>
      clear R3 V3 B3 P3
      obtain ⟨k, hk, rfl, HB, HR, HV, HP⟩ := hrel
      by_cases hlt : k < n
      · have hlt' : (k : Int) < (n : Int) := by omega
        have hkl : k < (prt s).length := by rw [← HN.out]; exact hlt
        obtain ⟨b, off, ha', -, -, hcell⟩ := Rw.at HP.out (by omega)
        subst ha'
        have hc0 := hcell k (.string ((prt s)[k]?.getD ⟨#[]⟩)) (by rw [List.getElem?_map]; simp [hkl])
        have hps := prt_size s k
        clear hcell
        by_cases h3 : k < 3
        · have h3' : (k : Int) < 3 := by omega
          have CN : Hid (∀ v, Calls Tryd.prog 8 #[.string ((prt s)[k]?.getD ⟨#[]⟩)] v fun e w' => e = .returned (.tuple #[.int .i64 (tgN ((prt s)[k]?.getD ⟨#[]⟩)), .bool (tn ((prt s)[k]?.getD ⟨#[]⟩)).isSome]) ∧ Below v.heap.size v w') := fun v => specTextNum_any _ v (by omega)
          have HSET := hid (vrow_set s k h3 hkl)
          generalize tgN ((prt s)[k]?.getD ⟨#[]⟩) = z at *
          generalize (tn ((prt s)[k]?.getD ⟨#[]⟩)).isSome = zb at *
          generalize (prt s)[k]?.getD ⟨#[]⟩ = pp at *
          clear hps
          go_wp2_with fail
          refine (CN.out _).mono ?_
          rintro r w5 ⟨rfl, hb⟩
          have B5 := hid (HB.out.trans (hb.mono HB.out.size))
          have R5 := hid (HR.out.below hb)
          have V5 := hid (HV.out.below hb)
          have P5 := hid (HP.out.below hb)
          clear hb HB HR HV HP hc0
          obtain ⟨old, hold⟩ := vrow_some s k k h3
          have v0 := V5.out.cell hold
          have f0 := V5.out.free k
          have ow : Only (fun y => y = gv) w5 (w5.setCell ⟨gv, k, none⟩ (.int .i64 z)) := only_set (R := fun y => y = gv) (p := ⟨gv, k, none⟩) rfl _
          have V6 : Hid (Bk (w5.setCell ⟨gv, k, none⟩ (.int .i64 z)) gv 3 (vrow s (k + 1))) := by show Bk _ _ _ _; rw [← HSET.out]; exact V5.out.set k _
          have R6 := hid (R5.out.to ow (by have := HGV.out; omega))
          have B6 := hid (B5.out.trans (ow.below B5.out.size (fun b hb q => by have := HGV.out; omega)))
          have P6 := hid (Rw.to P5.out ow (fun b hb _ q => hb.1 q))
          clear ow V5 R5 B5 P5 HSET hold
          go_wp2
          go_roundw
          case rel => exact ⟨k + 1, by omega, by go_num, B6.out, R6.out, V6.out, P6.out⟩
          case measure => simp [intOf]; omega
        · have h3' : ¬ (k : Int) < 3 := by omega
          have HSK := hid (vrow_skip s k (by omega))
          go_wp2
          go_roundw
          case rel => exact ⟨k + 1, by omega, by go_num, HB.out, HR.out, by rw [HSK.out]; exact HV.out, HP.out⟩
          case measure => simp [intOf]; omega
      · have HVA : Hid (vrow s k = [.int .i64 (qtx s).1, .int .i64 (qtx s).2.1, .int .i64 (qtx s).2.2]) := by
          show _ = _
          rw [show k = (prt s).length by rw [← HN.out]; omega]
          unfold vrow qtx
          rw [vk_all, vk_all, vk_all]
        rw [HVA.out] at HV
        have HQ : Hid (qtx s = ((qtx s).1, (qtx s).2.1, (qtx s).2.2)) := rfl
        generalize hq0 : (qtx s).1 = c0 at *
        generalize hq1 : (qtx s).2.1 = e0 at *
        generalize hq2 : (qtx s).2.2 = n0 at *
        clear hq0 hq1 hq2 HVA
        have v0 := HV.out.cell (j := 0) rfl
        have v1 := HV.out.cell (j := 1) rfl
        have v2 := HV.out.cell (j := 2) rfl
        go_wp2_with fail
        go_cut [7] (fun x v => ∃ gx, x = .pointer (some ⟨gx, 0, none⟩) ∧ Below wr.heap.size wr v ∧ Bk v gx 23 [.int .i64 c0, .int .i64 e0, .int .i64 n0] ∧ wr.heap.size ≤ gx)
        case first =>
          have T0 := hid (kl3_0 v0 v1 v2)
          refine wp_region_noPanic ?_
          refine wp_region_held_drew (S := fun v => v.cell? ⟨gv, 0, none⟩ = some (.int .i64 c0) ∧ v.cell? ⟨gv, 1, none⟩ = some (.int .i64 e0) ∧ v.cell? ⟨gv, 2, none⟩ = some (.int .i64 n0) ∧ KL wr v [(⟨gv, 0, none⟩, .int .i64 c0), (⟨gv, 1, none⟩, .int .i64 e0), (⟨gv, 2, none⟩, .int .i64 n0)]) (by kernel_rfl) (kl3 (T0.out.call (below_drew _))) (fun hHeld => ?_)
          simp only [List.size_toArray, List.length_cons, List.length_nil, Array.replicate_succ, Array.replicate_zero, Nat.reduceAdd, List.push_toArray, List.nil_append, List.cons_append]
          refine wpAnyH_take (i := 0) (v := (.slice (some ⟨gv, 0, none⟩) 3 3)) rfl (by kernel_rfl) (by kernel_rfl) (by kernel_rfl) (fun _ _ _ h => h) (Or.inl ⟨by rfl, ?_⟩) (by assumption) ?_
          · intro w hSw
            (try dsimp only at hSw)
            go_simp
          try simp only [List.getElem_toArray]
          try simp only [List.getElem_cons_succ]
          try simp only [List.getElem_cons_zero]
          try simp only [Act.put]
          try simp only [List.setIfInBounds_toArray]
          try simp only [List.set_cons_succ]
          try simp only [List.set_cons_zero]
          refine wpAnyH_take (i := 1) (v := (.pointer (some ⟨gv, 0, none⟩))) rfl (by kernel_rfl) (by kernel_rfl) (by kernel_rfl) (fun _ _ _ h => h) (Or.inl ⟨by rfl, ?_⟩) (by assumption) ?_
          · intro w hSw
            (try dsimp only at hSw)
            go_simp
          try simp only [List.getElem_toArray]
          try simp only [List.getElem_cons_succ]
          try simp only [List.getElem_cons_zero]
          try simp only [Act.put]
          try simp only [List.setIfInBounds_toArray]
          try simp only [List.set_cons_succ]
          try simp only [List.set_cons_zero]
          refine wpAnyH_take (i := 2) (v := (.int .i64 c0)) rfl (by kernel_rfl) (by kernel_rfl) (by kernel_rfl) (fun _ _ _ h => h) (Or.inl ⟨by rfl, ?_⟩) (by assumption) ?_
          · intro w hSw
            (try dsimp only at hSw)
            go_simp
          try simp only [List.getElem_toArray]
          try simp only [List.getElem_cons_succ]
          try simp only [List.getElem_cons_zero]
          try simp only [Act.put]
          try simp only [List.setIfInBounds_toArray]
          try simp only [List.set_cons_succ]
          try simp only [List.set_cons_zero]
          refine wpAnyH_take (i := 3) (v := (.slice (some ⟨gv, 0, none⟩) 3 3)) rfl (by kernel_rfl) (by kernel_rfl) (by kernel_rfl) (fun _ _ _ h => h) (Or.inl ⟨by rfl, ?_⟩) (by assumption) ?_
          · intro w hSw
            (try dsimp only at hSw)
            go_simp
          try simp only [List.getElem_toArray]
          try simp only [List.getElem_cons_succ]
          try simp only [List.getElem_cons_zero]
          try simp only [Act.put]
          try simp only [List.setIfInBounds_toArray]
          try simp only [List.set_cons_succ]
          try simp only [List.set_cons_zero]
          refine wpAnyH_take (i := 4) (v := (.pointer (some ⟨gv, 1, none⟩))) rfl (by kernel_rfl) (by kernel_rfl) (by kernel_rfl) (fun _ _ _ h => h) (Or.inl ⟨by rfl, ?_⟩) (by assumption) ?_
          · intro w hSw
            (try dsimp only at hSw)
            go_simp
          try simp only [List.getElem_toArray]
          try simp only [List.getElem_cons_succ]
          try simp only [List.getElem_cons_zero]
          try simp only [Act.put]
          try simp only [List.setIfInBounds_toArray]
          try simp only [List.set_cons_succ]
          try simp only [List.set_cons_zero]
          refine wpAnyH_take (i := 5) (v := (.int .i64 e0)) rfl (by kernel_rfl) (by kernel_rfl) (by kernel_rfl) (fun _ _ _ h => h) (Or.inl ⟨by rfl, ?_⟩) (by assumption) ?_
          · intro w hSw
            (try dsimp only at hSw)
            go_simp
          try simp only [List.getElem_toArray]
          try simp only [List.getElem_cons_succ]
          try simp only [List.getElem_cons_zero]
          try simp only [Act.put]
          try simp only [List.setIfInBounds_toArray]
          try simp only [List.set_cons_succ]
          try simp only [List.set_cons_zero]
          refine wpAnyH_take (i := 6) (v := (.slice (some ⟨gv, 0, none⟩) 3 3)) rfl (by kernel_rfl) (by kernel_rfl) (by kernel_rfl) (fun _ _ _ h => h) (Or.inl ⟨by rfl, ?_⟩) (by assumption) ?_
          · intro w hSw
            (try dsimp only at hSw)
            go_simp
          try simp only [List.getElem_toArray]
          try simp only [List.getElem_cons_succ]
          try simp only [List.getElem_cons_zero]
          try simp only [Act.put]
          try simp only [List.setIfInBounds_toArray]
          try simp only [List.set_cons_succ]
          try simp only [List.set_cons_zero]
          refine wpAnyH_take (i := 7) (v := (.pointer (some ⟨gv, 2, none⟩))) rfl (by kernel_rfl) (by kernel_rfl) (by kernel_rfl) (fun _ _ _ h => h) (Or.inl ⟨by rfl, ?_⟩) (by assumption) ?_
          · intro w hSw
            (try dsimp only at hSw)
            go_simp
          try simp only [List.getElem_toArray]
          try simp only [List.getElem_cons_succ]
          try simp only [List.getElem_cons_zero]
          try simp only [Act.put]
          try simp only [List.setIfInBounds_toArray]
          try simp only [List.set_cons_succ]
          try simp only [List.set_cons_zero]
          refine wpAnyH_take (i := 8) (v := (.int .i64 n0)) rfl (by kernel_rfl) (by kernel_rfl) (by kernel_rfl) (fun _ _ _ h => h) (Or.inl ⟨by rfl, ?_⟩) (by assumption) ?_
          · intro w hSw
            (try dsimp only at hSw)
            go_simp
          try simp only [List.getElem_toArray]
          try simp only [List.getElem_cons_succ]
          try simp only [List.getElem_cons_zero]
          try simp only [Act.put]
          try simp only [List.setIfInBounds_toArray]
          try simp only [List.set_cons_succ]
          try simp only [List.set_cons_zero]
          refine wpAnyH_take (i := 9) (v := (.agg #[.int .i64 c0, .int .i64 e0, .int .i64 n0])) rfl (by kernel_rfl) (by kernel_rfl) (by kernel_rfl) (fun _ _ _ h => h) (Or.inl ⟨by rfl, ?_⟩) (by assumption) ?_
          · intro w hSw
            (try dsimp only at hSw)
            go_simp
          try simp only [List.getElem_toArray]
          try simp only [List.getElem_cons_succ]
          try simp only [List.getElem_cons_zero]
          try simp only [Act.put]
          try simp only [List.setIfInBounds_toArray]
          try simp only [List.set_cons_succ]
          try simp only [List.set_cons_zero]
          refine wpAnyH_ready (rs := [10]) (by kernel_rfl) (by simp) ?_
          refine AllReadyH.cons rfl (fun K1 hK => ?_) AllReadyH.nil
          go_simp
          try go_wp2_with fail
          have h0 := below_new (o := .cells #[.int .i64 0, .int .i64 0, .int .i64 0] 23) (w := wr) (below_drew _)
          have hbC : Below wr.drew.heap.size wr.drew (wr.alloc (.cells #[.int .i64 0, .int .i64 0, .int .i64 0] 23)).drew := ⟨h0.os, h0.tape, h0.output, h0.size, h0.block⟩
          have E0 : Hid (Bk (wr.alloc (.cells #[.int .i64 0, .int .i64 0, .int .i64 0] 23)).drew wr.heap.size 23 [.int .i64 0, .int .i64 0, .int .i64 0]) := (Bk.new wr 23 [.int .i64 0, .int .i64 0, .int .i64 0]).below (below_drew _)
          have BW := hid h0
          refine hK.out _ _ ?_ (fun hHeld => ?_)
          · exact kl3c hbC (by assumption)
          clear hK K1
          try simp only [List.getElem_toArray]
          try simp only [List.getElem_cons_succ]
          try simp only [List.getElem_cons_zero]
          try simp only [Act.put]
          try simp only [List.setIfInBounds_toArray]
          try simp only [List.set_cons_succ]
          try simp only [List.set_cons_zero]
          clear hbC h0
          generalize (wr.alloc (.cells #[.int .i64 0, .int .i64 0, .int .i64 0] 23)).drew = v6 at *
          have z0 := E0.out.cell (j := 0) rfl
          have z1 := E0.out.cell (j := 1) rfl
          have z2 := E0.out.cell (j := 2) rfl
          have e0' := E0.out.free 0
          have e1' := E0.out.free 1
          have e2' := E0.out.free 2
          have X9 : Hid (Bk (((v6.setCell ⟨wr.heap.size, 0, none⟩ (.int .i64 c0)).setCell ⟨wr.heap.size, 1, none⟩ (.int .i64 e0)).setCell ⟨wr.heap.size, 2, none⟩ (.int .i64 n0)) wr.heap.size 23 [.int .i64 c0, .int .i64 e0, .int .i64 n0]) := ((E0.out.set 0 _).set 1 _).set 2 _
          have B9 : Hid (Below wr.heap.size wr (((v6.setCell ⟨wr.heap.size, 0, none⟩ (.int .i64 c0)).setCell ⟨wr.heap.size, 1, none⟩ (.int .i64 e0)).setCell ⟨wr.heap.size, 2, none⟩ (.int .i64 n0))) := ((BW.out.setCell (p := ⟨wr.heap.size, 0, none⟩) (Nat.le_refl _) _).setCell (p := ⟨wr.heap.size, 1, none⟩) (Nat.le_refl _) _).setCell (p := ⟨wr.heap.size, 2, none⟩) (Nat.le_refl _) _
          have s9 := kl3 (KL.mk T0.out.cells B9.out)
          refine wpAnyH_ready (rs := [11]) (by kernel_rfl) (by simp) ?_
          refine AllReadyH.cons rfl (fun K1 hK => ?_) AllReadyH.nil
          go_simp
          try go_wp2_with fail
          refine hK.out _ _ ?_ (fun hHeld => ?_)
          · exact s9
          clear hK K1
          try simp only [List.getElem_toArray]
          try simp only [List.getElem_cons_succ]
          try simp only [List.getElem_cons_zero]
          try simp only [Act.put]
          try simp only [List.setIfInBounds_toArray]
          try simp only [List.set_cons_succ]
          try simp only [List.set_cons_zero]
          refine wpAnyH_done (by kernel_rfl) ?_ _
          refine NoPanic.normal ?_
          go_wp2_with fail
          go_meet
          exact ⟨_, by simp, B9.out, X9.out, Nat.le_refl _⟩
        case rest =>
          obtain ⟨gx, rfl, hb, hbk, hgx⟩ := hcut
          have X7 := hid hbk
          have R7 := hid (HR.out.below hb)
          have B7 := hid (HB.out.trans (hb.mono HB.out.size))
          have SX : Hid (w.heap.size < gx) := by have := HR.out.lt; show _ < _; omega
          clear hb hbk hgx v0 v1 v2 HV HP HB HR
          have CT := hid (fun v => specTxText_any c0 e0 n0 v)
          by_cases hse : s.size = 0
          · have hse1 : s.toList = [] := bnil.2 hse
            have HA := hid (tt_none (HST.out.2 (fun q => by omega)))
            have z0 := R7.out.cell (j := 0) rfl
            have z1 := R7.out.cell (j := 1) rfl
            have z2 := R7.out.cell (j := 2) rfl
            have e0 := R7.out.free 0
            have e1 := R7.out.free 1
            have e2 := R7.out.free 2
            go_wp2
            try simp only [Exit.inBlock, Exit.then]
            refine bodyPost_ret (v := .tuple #[.agg #[.int .i64 0, .int .i64 0, .int .i64 0], .bool false]) ?_ rfl ?_
            · exact results_txb rfl _ _ w.heap.size rfl rfl (by go_simp) (by go_simp) (by go_simp)
            · rw [HA.out.1, HA.out.2]
              exact ⟨rfl, ((B7.out.setCell (p := ⟨w.heap.size, 0, none⟩) (Nat.le_refl _) _).setCell (p := ⟨w.heap.size, 1, none⟩) (Nat.le_refl _) _).setCell (p := ⟨w.heap.size, 2, none⟩) (Nat.le_refl _) _⟩
          · have hne : ¬ s.toList = [] := fun q => hse (bnil.1 q)
            have hne2 : s.toList.isEmpty = false := by simpa using hne
            have y0 := X7.out.cell (j := 0) rfl
            have y1 := X7.out.cell (j := 1) rfl
            have y2 := X7.out.cell (j := 2) rfl
            go_wp2_with fail
            refine (CT.out _).mono ?_
            rintro r w8 ⟨rfl, hb⟩
            have R8 := hid (R7.out.below hb)
            have X8 := hid (X7.out.below hb)
            have B8 := hid (B7.out.trans (hb.mono B7.out.size))
            clear hb y0 y1 y2 R7 X7 B7
            by_cases ht : txT (c0, e0, n0) = s
            · have HA := hid (tt_some (HST.out.1 ⟨by omega, by omega, by rw [HQ.out]; exact ht⟩))
              rw [HQ.out] at HA
              rw [ht]
              have hss : (s.toList != s.toList) = false := by simp
              clear ht
              have y0 := X8.out.cell (j := 0) rfl
              have y1 := X8.out.cell (j := 1) rfl
              have y2 := X8.out.cell (j := 2) rfl
              have z0 := R8.out.cell (j := 0) rfl
              have z1 := R8.out.cell (j := 1) rfl
              have z2 := R8.out.cell (j := 2) rfl
              have f0 := R8.out.free 0
              have f1 := R8.out.free 1
              have f2 := R8.out.free 2
              have d1 : ¬ gx = w.heap.size := by have := SX.out; omega
              have d2 : ¬ w.heap.size = gx := by have := SX.out; omega
              go_wp2
              try simp only [Exit.inBlock, Exit.then]
              refine bodyPost_ret (v := .tuple #[.agg #[.int .i64 c0, .int .i64 e0, .int .i64 n0], .bool true]) ?_ rfl ?_
              · exact results_txb rfl _ _ w.heap.size rfl rfl (by go_simp) (by go_simp) (by go_simp)
              · rw [HA.out.1, HA.out.2]
                exact ⟨rfl, ((B8.out.setCell (p := ⟨w.heap.size, 0, none⟩) (Nat.le_refl _) _).setCell (p := ⟨w.heap.size, 1, none⟩) (Nat.le_refl _) _).setCell (p := ⟨w.heap.size, 2, none⟩) (Nat.le_refl _) _⟩
            · have HA := hid (tt_none (HST.out.2 (fun q => ht (by have := q.2.2; rw [HQ.out] at this; exact this))))
              have hss := str_ne ht
              have hs2 : (((txT (c0, e0, n0)).toList != s.toList)) = true := by rw [bne, hss]; rfl
              generalize txT (c0, e0, n0) = tt at *
              have z0 := R8.out.cell (j := 0) rfl
              have z1 := R8.out.cell (j := 1) rfl
              have z2 := R8.out.cell (j := 2) rfl
              have e0 := R8.out.free 0
              have e1 := R8.out.free 1
              have e2 := R8.out.free 2
              go_wp2
              try simp only [Exit.inBlock, Exit.then]
              refine bodyPost_ret (v := .tuple #[.agg #[.int .i64 0, .int .i64 0, .int .i64 0], .bool false]) ?_ rfl ?_
              · exact results_txb rfl _ _ w.heap.size rfl rfl (by go_simp) (by go_simp) (by go_simp)
              · rw [HA.out.1, HA.out.2]
                exact ⟨rfl, ((B8.out.setCell (p := ⟨w.heap.size, 0, none⟩) (Nat.le_refl _) _).setCell (p := ⟨w.heap.size, 1, none⟩) (Nat.le_refl _) _).setCell (p := ⟨w.heap.size, 2, none⟩) (Nat.le_refl _) _⟩
end Go.Proofs.YtmogdijhlgonnabDoor

