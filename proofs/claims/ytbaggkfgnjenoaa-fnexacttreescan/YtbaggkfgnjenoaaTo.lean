/-
  TreeOk of the specification.
-/
import Derived.Test.YtbaggkfgnjenoaaSb5
import Derived.Test.YtbaggkfgnjenoaaLy3
import Derived.Test.YtbaggkfgnjenoaaSm
import Derived.Test.YtbaggkfgnjenoaaPk
import Derived.Test.YtbaggkfgnjenoaaRd5
namespace Go.Proofs.Ytbaggkfgnjenoaa
open Go.RowKit
theorem rdSL_info (f : Nat) (rd : Int → Option (T × Nat)) (hrd : ∀ a t n, rd a = some (t, n) → 0 ≤ a ∧ (n : Int) = a + t.size ∧ t.ht ≤ f) : ∀ (kids : List Int) (nx : Nat) (ts : List T) (n : Nat), rdSL rd kids nx = some (ts, n) → n = nx + szL ts ∧ htL ts ≤ f
  | [], nx, ts, n, h => by
    simp only [rdSL, Option.some.injEq, Prod.mk.injEq] at h
    obtain ⟨rfl, rfl⟩ := h
    simp [szL, htL]
  | k :: kids, nx, ts, n, h => by
    simp only [rdSL] at h
    split at h
    · cases h
    · rename_i he
      cases hr : rd k with
      | none => simp [hr] at h
      | some x =>
        obtain ⟨t, n1⟩ := x
        simp only [hr] at h
        cases hs : rdSL rd kids n1 with
        | none => simp [hs] at h
        | some y =>
          obtain ⟨ts', n2⟩ := y
          simp only [hs, Option.some.injEq, Prod.mk.injEq] at h
          obtain ⟨rfl, rfl⟩ := h
          have h1 := hrd k t n1 hr
          have h2 := rdSL_info f rd hrd kids n1 ts' n2 hs
          have he' : k = (nx : Int) := by
            by_cases q : k = (nx : Int)
            · exact q
            · exact absurd q he
          simp only [szL, htL]
          omega
theorem rdS_info (ns : List NB) : ∀ (f : Nat) (a : Int) (t : T) (n : Nat), rdS ns f a = some (t, n) → 0 ≤ a ∧ (n : Int) = a + t.size ∧ t.ht ≤ f
  | 0, a, t, n, h => by simp [rdS] at h
  | f + 1, a, t, n, h => by
    rw [rdS] at h
    split at h
    · cases h
    · rename_i hc
      cases hs : rdSL (rdS ns f) (nAt ns a.toNat).kids (a.toNat + 1) with
      | none => simp [hs] at h
      | some x =>
        obtain ⟨ts, n1⟩ := x
        simp only [hs, Option.some.injEq, Prod.mk.injEq] at h
        obtain ⟨rfl, rfl⟩ := h
        have := rdSL_info f (rdS ns f) (rdS_info ns f) _ _ _ _ hs
        simp only [T.size, T.ht]
        omega
theorem kc7 {u v : World} {a0 a1 a2 a3 a4 a5 a6 : Addr} {x0 x1 x2 x3 x4 x5 x6 : Value} (h : KC u v [(a0, x0), (a1, x1), (a2, x2), (a3, x3), (a4, x4), (a5, x5), (a6, x6)]) : v.cell? a0 = some x0 ∧ v.cell? a1 = some x1 ∧ v.cell? a2 = some x2 ∧ v.cell? a3 = some x3 ∧ v.cell? a4 = some x4 ∧ v.cell? a5 = some x5 ∧ v.cell? a6 = some x6 ∧ KC u v [(a0, x0), (a1, x1), (a2, x2), (a3, x3), (a4, x4), (a5, x5), (a6, x6)] := ⟨h.at (by simp), h.at (by simp), h.at (by simp), h.at (by simp), h.at (by simp), h.at (by simp), h.at (by simp), h⟩
theorem kc7c {u v v' : World} {a0 a1 a2 a3 a4 a5 a6 : Addr} {x0 x1 x2 x3 x4 x5 x6 : Value} (k : Below v.heap.size v v') (h : v.cell? a0 = some x0 ∧ v.cell? a1 = some x1 ∧ v.cell? a2 = some x2 ∧ v.cell? a3 = some x3 ∧ v.cell? a4 = some x4 ∧ v.cell? a5 = some x5 ∧ v.cell? a6 = some x6 ∧ KC u v [(a0, x0), (a1, x1), (a2, x2), (a3, x3), (a4, x4), (a5, x5), (a6, x6)]) : v'.cell? a0 = some x0 ∧ v'.cell? a1 = some x1 ∧ v'.cell? a2 = some x2 ∧ v'.cell? a3 = some x3 ∧ v'.cell? a4 = some x4 ∧ v'.cell? a5 = some x5 ∧ v'.cell? a6 = some x6 ∧ KC u v' [(a0, x0), (a1, x1), (a2, x2), (a3, x3), (a4, x4), (a5, x5), (a6, x6)] := kc7 (KC.call h.2.2.2.2.2.2.2 k)
set_option maxHeartbeats 8000000 in
theorem specTreeOk_any (ns : List NB) (hlen : ns.length ≤ 1048576) (hsm : smallN ns) (S : Nat → Prop) (an : Option Addr) (nn cn : Nat) (w : World) (hN : Nr w S (.slice an nn cn) ns) :
    Calls Try.prog 109 #[.agg #[.slice an nn cn]] w fun e w' => e = .returned (.bool (spOk ns)) ∧ Below w.heap.size w w' := by
  have hnn := hid hN.len.1
  have hnn2 := hN.len.2.1
  have hnn3 := hN.len.2.2
  have HN := hid hN
  clear hN
  have HB0 := hid (below_new (o := .cells #[.slice an nn cn] 63) (w := w) (Below.refl _ _))
  have KT := hid (Bk.new w 63 [.slice an nn cn])
  by_cases h0 : nn = 0
  · have HR : Hid (spOk ns = true) := by show _ = _; rw [spOk, if_pos]; rw [← hnn.out]; exact h0
    clear HN hnn
    subst h0
    go_enter Try.func109, Try.ntmps109
    go_wp2
    go_ret
    exact ⟨by rw [HR.out]; rfl, HB0.out⟩
  · have e1 : ((nn : Int) == 0) = false := by simp; omega
    by_cases h4 : 400 < nn
    · have e2 : (400 : Int) < (nn : Int) := by omega
      have HR : Hid (spOk ns = false) := by show _ = _; rw [spOk, if_neg, if_pos] <;> rw [← hnn.out] <;> assumption
      clear h0 h4
      go_enter Try.func109, Try.ntmps109
      go_wp2
      go_ret
      exact ⟨by rw [HR.out]; rfl, HB0.out⟩
    · have e2 : ¬ (400 : Int) < (nn : Int) := by omega
      have HRS : Hid (spOk ns = match rdS ns 13 0 with
          | none => false
          | some (t, n) => decide (n = ns.length) && t.full true && decide (0 ≤ t.dp) && pOk t.all && decide (lay 0 t = ns)) := by
        show _ = _
        rw [spOk, if_neg (by rw [← hnn.out]; exact h0), if_neg (by rw [← hnn.out]; exact h4)]
        try (cases rdS ns 13 0 <;> rfl)
      have HRT : Hid (rootS ns = match rdS ns 13 0 with
          | none => none
          | some (t, n) => if n = ns.length then some t else none) := by
        show _ = _
        rw [rootS, if_neg (by rw [← hnn.out]; exact h0)]
        try (cases rdS ns 13 0 <;> rfl)
      have hnl : nn ≤ 400 := by omega
      clear h0 h4
      go_enter Try.func109, Try.ntmps109
      go_wp2_with fail
      refine (specRoot_any ns hlen hsm S an nn cn _ (HN.out.below HB0.out)).mono ?_
      generalize w.alloc (.cells #[.slice an nn cn] 63) = U at *
      rintro e w1 ⟨hpost, hb1⟩
      have HB1 := hid (HB0.out.trans (hb1.mono HB0.out.size))
      have KT1 := hid (KT.out.below hb1)
      cases hr : rootS ns with
      | none =>
        rw [hr] at hpost
        obtain ⟨lf, ap, np, cp, ak, nk, ck, he⟩ := hpost
        subst he
        have HR : Hid (spOk ns = false) := by
          show _ = _
          rw [HRS.out]
          have h1 := HRT.out
          rw [hr] at h1
          cases hx : rdS ns 13 0 with
          | none => rfl
          | some x =>
            obtain ⟨t, n⟩ := x
            rw [hx] at h1
            simp only at h1 ⊢
            split at h1
            · cases h1
            · rename_i hn
              simp [hn]
        clear hb1 hr
        go_wp2
        go_ret
        exact ⟨by rw [HR.out]; rfl, HB1.out.alloc HB1.out.size _⟩
      | some t =>
        rw [hr] at hpost
        obtain ⟨lf, ap, np, cp, ak, nk, ck, he, hsub⟩ := hpost
        subst he
        have HRD : Hid (rdS ns 13 0 = some (t, ns.length)) := by
          show _ = _
          have h1 := HRT.out
          rw [hr] at h1
          cases hx : rdS ns 13 0 with
          | none => rw [hx] at h1; cases h1
          | some x =>
            obtain ⟨t', n⟩ := x
            rw [hx] at h1
            simp only at h1
            split at h1
            · rename_i hn; cases h1; rw [hn]
            · cases h1
        have HSP : Hid (spOk ns = (t.full true && decide (0 ≤ t.dp) && pOk t.all && decide (lay 0 t = ns))) := by
          show _ = _
          rw [HRS.out, HRD.out]
          simp
        have HTI := hid (rdS_info ns 13 0 t ns.length HRD.out)
        have HB2 := hid (HB1.out.alloc HB1.out.size (.cells #[.bool lf, .slice ap np cp, .slice ak nk ck] 146))
        have KT2 := hid (KT1.out.alloc (.cells #[.bool lf, .slice ap np cp, .slice ak nk ck] 146))
        have KS2 := hid (Bk.new w1 146 [.bool lf, .slice ap np cp, .slice ak nk ck])
        have HS2 : Hid (Sub (w1.alloc (.cells #[.bool lf, .slice ap np cp, .slice ak nk ck] 146)) (fun y => U.heap.size ≤ y ∧ y < w1.heap.size) lf (.slice ap np cp) (.slice ak nk ck) t) := hsub.kept (below_new (Below.refl _ _))
        clear hb1 hr hsub KT KT1 HB0 HB1 HRS HRT
        go_wp2_with fail
        refine (specFull_any t _ true lf ap ak np cp nk ck _ HS2.out).mono ?_
        generalize hgw : w1.heap.size = sb at *
        clear hgw
        generalize w1.alloc (.cells #[.bool lf, .slice ap np cp, .slice ak nk ck] 146) = w2 at *
        rintro e w3 ⟨rfl, hb3⟩
        have HB3 := hid (HB2.out.trans (hb3.mono HB2.out.size))
        have KT3 := hid (KT2.out.below hb3)
        have KS3 := hid (KS2.out.below hb3)
        have HS3 := hid (HS2.out.kept hb3)
        clear hb3 HB2 KT2 KS2 HS2
        cases hfu : t.full true
        · have HR : Hid (spOk ns = false) := by show _ = _; rw [HSP.out, hfu]; rfl
          clear hfu
          go_wp2
          go_ret
          exact ⟨by rw [HR.out]; rfl, HB3.out⟩
        · have HFU := hid hfu
          clear hfu
          have s0 := KS3.out.cell (j := 0) rfl
          have s1 := KS3.out.cell (j := 1) rfl
          have s2 := KS3.out.cell (j := 2) rfl
          go_wp2_with fail
          refine (specDeep_any t _ lf ap ak np cp nk ck w3 HS3.out (by have := HTI.out.2.2; omega)).mono ?_
          rintro e w4 ⟨rfl, hb4⟩
          have HB4 := hid (HB3.out.trans (hb4.mono HB3.out.size))
          have KT4 := hid (KT3.out.below hb4)
          have KS4 := hid (KS3.out.below hb4)
          have HS4 := hid (HS3.out.kept hb4)
          clear hb4 HB3 KT3 KS3 HS3 s0 s1 s2
          by_cases hdp : t.dp < 0
          · have HR : Hid (spOk ns = false) := by show _ = _; rw [HSP.out, decide_eq_false (by omega : ¬ 0 ≤ t.dp)]; simp
            generalize t.dp = dd at *
            go_wp2
            go_ret
            exact ⟨by rw [HR.out]; rfl, HB4.out⟩
          · have HDP := hid hdp
            have hal : t.all.length ≤ 1048576 := by
              have h1 := full_all_le t true HFU.out
              have h2 := HTI.out.2.1
              have h3 := hnn.out
              omega
            have s0 := KS4.out.cell (j := 0) rfl
            have s1 := KS4.out.cell (j := 1) rfl
            have s2 := KS4.out.cell (j := 2) rfl
            have HAL := hid hal
            clear hal
            generalize hdd : t.dp = dd at hdp
            clear hdd
            go_wp2_with fail
            refine (specPairs_any t _ lf ap ak np cp nk ck w4 HS4.out HAL.out).mono ?_
            rintro e w5 ⟨v5, rfl, hO5, hb5⟩
            obtain ⟨a5, n5, c5, hv5, HN5⟩ := hO5.shape'
            subst hv5
            have HO5 := hid hO5
            have HB5 := hid (HB4.out.trans (hb5.mono HB4.out.size))
            have KT5 := hid (KT4.out.below hb5)
            have KS5 := hid (KS4.out.below hb5)
            have HS5 := hid (HS4.out.kept hb5)
            clear hb5 hO5 HB4 KT4 KS4 HS4 s0 s1 s2
            go_wp2_with fail
            refine (specPairsOk_any (fun _ => True) _ t.all w5 (HO5.out.pr (fun _ _ _ _ => trivial))).mono ?_
            rintro e w6 ⟨rfl, hb6⟩
            have HB6 := hid (HB5.out.trans (hb6.mono HB5.out.size))
            have KT6 := hid (KT5.out.below hb6)
            have KS6 := hid (KS5.out.below hb6)
            have HS6 := hid (HS5.out.kept hb6)
            clear hb6 HB5 KT5 KS5 HS5 HO5 HN5
            cases hpk : pOk t.all
            · have HR : Hid (spOk ns = false) := by show _ = _; rw [HSP.out, hpk]; simp
              clear hpk
              go_wp2
              go_ret
              exact ⟨by rw [HR.out]; rfl, HB6.out⟩
            · have HRV : Hid (spOk ns = decide (lay 0 t = ns)) := by show _ = _; rw [HSP.out, hpk, HFU.out, decide_eq_true (by have := HDP.out; omega : 0 ≤ t.dp)]; simp
              have s0 := KS6.out.cell (j := 0) rfl
              have s1 := KS6.out.cell (j := 1) rfl
              have s2 := KS6.out.cell (j := 2) rfl
              clear hpk HSP
              go_wp2_with fail
              refine (specLay_any t _ lf ap ak np cp nk ck w6 (fun _ => False) none 0 0 [] true HS6.out (fun y _ => by simp [Value.ownBlock]) (no_nil w6) (by have h2 := HTI.out.2.1; have h3 := hnn.out; simp; omega) HFU.out).mono ?_
              rintro e w7 ⟨v7, rfl, hN7, ho7, _⟩
              have hb7 : Below w6.heap.size w6 w7 := ho7.below (Nat.le_refl _) (fun b _ => by simp [Value.ownBlock])
              obtain ⟨a7, n7, c7, hv7, HN7L⟩ := hN7.shape
              subst hv7
              have HNR : Hid (Nr w7 (fun _ => True) (.slice a7 n7 c7) (lay 0 t)) := hN7.nr (fun _ _ => trivial)
              have HB7 := hid (HB6.out.trans (hb7.mono HB6.out.size))
              have KT7 := hid (KT6.out.below hb7)
              have HLL : Hid (n7 = nn) := by
                have h1 := HN7L.out
                have h2 := HTI.out.2.1
                have h3 := hnn.out
                simp [lay_length] at h1
                show _ = _
                omega
              have hn7 : n7 = nn := HLL.out
              clear hN7 ho7 hb7 HB6 KT6 KS6 HS6 HN7L s0 s1 s2
              subst hn7
              have t0 := KT7.out.cell (j := 0) rfl
              have hz : ((n7 : Int) != (n7 : Int)) = false := by simp
              have HTN : Hid (n7 = (lay 0 t).length) := HNR.out.len.1
              go_wp2_with fail
              go_loopw [48] (fun i wr => ∃ k : Nat, k ≤ n7 ∧ i = .int .i64 k ∧ Hid (Below w7.heap.size w7 wr) ∧ Hid ((lay 0 t).take k = ns.take k)) (fun i _ => n7 - (intOf i).toNat)
              case atStart => exact ⟨0, Nat.zero_le _, rfl, Below.refl _ _, rfl⟩
              case round =>
                obtain ⟨k, hk, rfl, HB, HT⟩ := hrel
                have HBB := hid (HB7.out.trans (HB.out.mono HB7.out.size))
                by_cases hlt : k < n7
                · have hlt' : (k : Int) < (n7 : Int) := by omega
                  have HP := hid (HNR.out.below HB.out)
                  have HP' := hid (HN.out.below HBB.out)
                  obtain ⟨bA, oA, hA, _, _, hcell⟩ := HP.out.at (by omega)
                  obtain ⟨bT, oT, hT, _, _, hcell'⟩ := HP'.out.at (by omega)
                  subst hA hT
                  obtain ⟨ap1, np1, cp1, ax1, nx1, cx1, ai1, ni1, ci1, x0, x1, x2, hp, hx, hi⟩ := hcell k hlt
                  obtain ⟨ap2, np2, cp2, ax2, nx2, cx2, ai2, ni2, ci2, y0, y1, y2, hp', hx', hi'⟩ := hcell' k hlt
                  have tt := (KT7.out.below HB.out).cell (j := 0) rfl
                  have HC : Hid (∀ v, Below wr.heap.size wr v → Calls Try.prog 134 #[.agg #[.slice ap1 np1 cp1, .slice ax1 nx1 cx1, .slice ai1 ni1 ci1], .agg #[.slice ap2 np2 cp2, .slice ax2 nx2 cx2, .slice ai2 ni2 ci2]] v fun e w' => e = .returned (.bool (decide (nAt (lay 0 t) k = nAt ns k))) ∧ Below v.heap.size v w') := fun v hv =>
                    sameNode_any _ _ ap1 ax1 ai1 ap2 ax2 ai2 np1 cp1 nx1 cx1 ni1 ci1 np2 cp2 nx2 cx2 ni2 ci2 (nAt (lay 0 t) k) (nAt ns k) v (hp.below hv) (hx.below hv) (hi.below hv) (hp'.below hv) (hx'.below hv) (hi'.below hv)
                  have HSS : Hid (nAt (lay 0 t) k = nAt ns k → (lay 0 t).take (k + 1) = ns.take (k + 1)) := by
                    intro e
                    have hl : k < (lay 0 t).length := by rw [← HTN.out]; exact hlt
                    have hl' : k < ns.length := by rw [← hnn.out]; exact hlt
                    rw [List.take_succ_eq_append_getElem hl, List.take_succ_eq_append_getElem hl', HT.out]
                    simp [nAt, hl, hl'] at e
                    rw [e]
                  have HFF : Hid (nAt (lay 0 t) k ≠ nAt ns k → spOk ns = false) := by
                    intro e
                    rw [HRV.out, decide_eq_false_iff_not]
                    intro e'
                    exact e (by rw [e'])
                  have T0 : Hid (KC wr wr [(⟨bA, oA + k * 3, none⟩, .slice ap1 np1 cp1), (⟨bA, oA + k * 3 + 1, none⟩, .slice ax1 nx1 cx1), (⟨bA, oA + k * 3 + 2, none⟩, .slice ai1 ni1 ci1), (⟨bT, oT + k * 3, none⟩, .slice ap2 np2 cp2), (⟨bT, oT + k * 3 + 1, none⟩, .slice ax2 nx2 cx2), (⟨bT, oT + k * 3 + 2, none⟩, .slice ai2 ni2 ci2), (⟨w.heap.size, 0, none⟩, .slice (some ⟨bT, oT, none⟩) n7 cn)]) := ⟨fun p hp => by simp at hp; rcases hp with rfl | rfl | rfl | rfl | rfl | rfl | rfl <;> assumption, Below.refl _ _⟩
                  clear hcell hcell' HP HP' HT hp hx hi hp' hx' hi' x0 x1 x2 y0 y1 y2 tt t0
                  generalize nAt (lay 0 t) k = cx1' at *
                  generalize nAt ns k = cx2' at *
                  by_cases he : cx1' = cx2'
                  · have HS1 := hid (HSS.out he)
                    rw [decide_eq_true he] at HC
                    clear he HSS HFF
                    go_wp2_with fail
                    go_region_held3 (fun v => v.cell? ⟨bA, oA + k * 3, none⟩ = some (.slice ap1 np1 cp1) ∧ v.cell? ⟨bA, oA + k * 3 + 1, none⟩ = some (.slice ax1 nx1 cx1) ∧ v.cell? ⟨bA, oA + k * 3 + 2, none⟩ = some (.slice ai1 ni1 ci1) ∧ v.cell? ⟨bT, oT + k * 3, none⟩ = some (.slice ap2 np2 cp2) ∧ v.cell? ⟨bT, oT + k * 3 + 1, none⟩ = some (.slice ax2 nx2 cx2) ∧ v.cell? ⟨bT, oT + k * 3 + 2, none⟩ = some (.slice ai2 ni2 ci2) ∧ v.cell? ⟨w.heap.size, 0, none⟩ = some (.slice (some ⟨bT, oT, none⟩) n7 cn) ∧ KC wr v [(⟨bA, oA + k * 3, none⟩, .slice ap1 np1 cp1), (⟨bA, oA + k * 3 + 1, none⟩, .slice ax1 nx1 cx1), (⟨bA, oA + k * 3 + 2, none⟩, .slice ai1 ni1 ci1), (⟨bT, oT + k * 3, none⟩, .slice ap2 np2 cp2), (⟨bT, oT + k * 3 + 1, none⟩, .slice ax2 nx2 cx2), (⟨bT, oT + k * 3 + 2, none⟩, .slice ai2 ni2 ci2), (⟨w.heap.size, 0, none⟩, .slice (some ⟨bT, oT, none⟩) n7 cn)])
                      (first | assumption | exact kc7 (T0.out.call (below_drew _)) | exact kc7c hbC (by assumption))
                      (first | (go_at_call 134; refine (HC.out _ (KC.bel (by first | exact (by assumption : _ ∧ _ ∧ _ ∧ _ ∧ _ ∧ _ ∧ _ ∧ _).2.2.2.2.2.2.2))).mono ?_; rintro e w' ⟨rfl, hbC⟩))
                    all_goals (rename_i hS; have HB8 := hid (Below.then' HB.out hS.2.2.2.2.2.2.2.bel (Nat.le_refl _)); clear hS; go_wp2)
                    go_roundw
                    case rel => exact ⟨k + 1, by omega, by go_num, HB8.out, HS1.out⟩
                    case measure => simp [intOf]; omega
                  · have HF1 := hid (HFF.out he)
                    rw [decide_eq_false he] at HC
                    clear he HSS HFF
                    go_wp2_with fail
                    go_region_held3 (fun v => v.cell? ⟨bA, oA + k * 3, none⟩ = some (.slice ap1 np1 cp1) ∧ v.cell? ⟨bA, oA + k * 3 + 1, none⟩ = some (.slice ax1 nx1 cx1) ∧ v.cell? ⟨bA, oA + k * 3 + 2, none⟩ = some (.slice ai1 ni1 ci1) ∧ v.cell? ⟨bT, oT + k * 3, none⟩ = some (.slice ap2 np2 cp2) ∧ v.cell? ⟨bT, oT + k * 3 + 1, none⟩ = some (.slice ax2 nx2 cx2) ∧ v.cell? ⟨bT, oT + k * 3 + 2, none⟩ = some (.slice ai2 ni2 ci2) ∧ v.cell? ⟨w.heap.size, 0, none⟩ = some (.slice (some ⟨bT, oT, none⟩) n7 cn) ∧ KC wr v [(⟨bA, oA + k * 3, none⟩, .slice ap1 np1 cp1), (⟨bA, oA + k * 3 + 1, none⟩, .slice ax1 nx1 cx1), (⟨bA, oA + k * 3 + 2, none⟩, .slice ai1 ni1 ci1), (⟨bT, oT + k * 3, none⟩, .slice ap2 np2 cp2), (⟨bT, oT + k * 3 + 1, none⟩, .slice ax2 nx2 cx2), (⟨bT, oT + k * 3 + 2, none⟩, .slice ai2 ni2 ci2), (⟨w.heap.size, 0, none⟩, .slice (some ⟨bT, oT, none⟩) n7 cn)])
                      (first | assumption | exact kc7 (T0.out.call (below_drew _)) | exact kc7c hbC (by assumption))
                      (first | (go_at_call 134; refine (HC.out _ (KC.bel (by first | exact (by assumption : _ ∧ _ ∧ _ ∧ _ ∧ _ ∧ _ ∧ _ ∧ _).2.2.2.2.2.2.2))).mono ?_; rintro e w' ⟨rfl, hbC⟩))
                    all_goals (rename_i hS; have HB8 := hid (Below.then' HBB.out hS.2.2.2.2.2.2.2.bel (Nat.le_refl _)); clear hS; go_wp2)
                    go_ret
                    exact ⟨by rw [HF1.out]; rfl, HB8.out⟩
                · have HF : Hid (spOk ns = true) := by
                    show _ = _
                    rw [HRV.out, decide_eq_true_eq]
                    have e := HT.out
                    rwa [List.take_of_length_le (by rw [← HTN.out]; omega), List.take_of_length_le (by rw [← hnn.out]; omega)] at e
                  clear HT
                  go_wp2
                  go_ret
                  exact ⟨by rw [HF.out]; rfl, HBB.out⟩
end Go.Proofs.Ytbaggkfgnjenoaa

