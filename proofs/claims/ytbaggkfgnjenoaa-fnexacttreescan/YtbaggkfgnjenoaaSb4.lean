/-
  l03Read of the specification: it reads what the plain function reads.
-/
import Derived.Test.YtbaggkfgnjenoaaSb3
import Derived.Deep.DeepCutAuto
namespace Go.Proofs.Ytbaggkfgnjenoaa
open Go.RowKit
set_option maxHeartbeats 8000000 in
theorem specRead_any (ns : List NB) (hlen : ns.length ≤ 1048576) (hsm : smallN ns) : ∀ f : Nat, f ≤ 13 → ∀ (S : Nat → Prop) (an : Option Addr) (nn cn : Nat) (a d : Int) (w : World), Nr w S (.slice an nn cn) ns → d = 13 - (f : Int) →
    Calls Try.prog 135 #[.agg #[.slice an nn cn], .int .i64 a, .int .i64 d] w fun e w' => SubPost (rdS ns f a) w e w' ∧ Below w.heap.size w w' := by
  intro f
  induction f with
  | zero =>
    intro _ S an nn cn a d w hN hd
    have hd' : d = 13 := by omega
    have HR : Hid (rdS ns 0 a = none) := rfl
    clear hN hd
    subst hd'
    by_cases h1 : a < 0
    · go_enter Try.func135, Try.ntmps135
      go_wp2
      try simp only [Exit.inBlock, Exit.then]
      refine bodyPost_ret (v := .tuple #[.agg #[.bool false, .slice none 0 0, .slice none 0 0], .int .i64 0, .bool false]) ?_ rfl ?_
      · refine results_sub3 rfl _ _ _ rfl rfl rfl ?_ ?_ ?_
        · go_simp
        · go_simp
        · go_simp
      · exact ⟨by rw [HR.out]; rfl, below_new (below_new (Below.refl _ _))⟩
    · by_cases h2 : (nn : Int) ≤ a
      · go_enter Try.func135, Try.ntmps135
        go_wp2
        try simp only [Exit.inBlock, Exit.then]
        refine bodyPost_ret (v := .tuple #[.agg #[.bool false, .slice none 0 0, .slice none 0 0], .int .i64 0, .bool false]) ?_ rfl ?_
        · refine results_sub3 rfl _ _ _ rfl rfl rfl ?_ ?_ ?_
          · go_simp
          · go_simp
          · go_simp
        · exact ⟨by rw [HR.out]; rfl, below_new (below_new (Below.refl _ _))⟩
      · go_enter Try.func135, Try.ntmps135
        go_wp2
        try simp only [Exit.inBlock, Exit.then]
        refine bodyPost_ret (v := .tuple #[.agg #[.bool false, .slice none 0 0, .slice none 0 0], .int .i64 0, .bool false]) ?_ rfl ?_
        · refine results_sub3 rfl _ _ _ rfl rfl rfl ?_ ?_ ?_
          · go_simp
          · go_simp
          · go_simp
        · exact ⟨by rw [HR.out]; rfl, below_new (below_new (Below.refl _ _))⟩
  | succ f ih =>
    intro hf13 S an nn cn a d w hN hd
    have hnn := hid hN.len.1
    have hnn2 := hN.len.2.1
    have hnn3 := hN.len.2.2
    by_cases h1 : a < 0
    · have HR : Hid (rdS ns (f + 1) a = none) := by show _ = _; rw [rdS, if_pos (.inl h1)]
      clear hN hd
      go_enter Try.func135, Try.ntmps135
      go_wp2
      try simp only [Exit.inBlock, Exit.then]
      refine bodyPost_ret (v := .tuple #[.agg #[.bool false, .slice none 0 0, .slice none 0 0], .int .i64 0, .bool false]) ?_ rfl ?_
      · refine results_sub3 rfl _ _ _ rfl rfl rfl ?_ ?_ ?_
        · go_simp
        · go_simp
        · go_simp
      · exact ⟨by rw [HR.out]; rfl, below_new (below_new (Below.refl _ _))⟩
    · by_cases h2 : (nn : Int) ≤ a
      · have HR : Hid (rdS ns (f + 1) a = none) := by show _ = _; rw [rdS, if_pos (.inr (by rw [← hnn.out]; exact h2))]
        clear hN hd
        go_enter Try.func135, Try.ntmps135
        go_wp2
        try simp only [Exit.inBlock, Exit.then]
        refine bodyPost_ret (v := .tuple #[.agg #[.bool false, .slice none 0 0, .slice none 0 0], .int .i64 0, .bool false]) ?_ rfl ?_
        · refine results_sub3 rfl _ _ _ rfl rfl rfl ?_ ?_ ?_
          · go_simp
          · go_simp
          · go_simp
        · exact ⟨by rw [HR.out]; rfl, below_new (below_new (Below.refl _ _))⟩
      · obtain ⟨p, hp⟩ : ∃ p : Nat, a = p := ⟨a.toNat, by omega⟩
        subst hp
        have hd12 : d ≤ 12 := by omega
        have hd0 : 0 ≤ d := by omega
        have HD := hid hd
        have hpn : p < nn := by omega
        have hpn' : (p : Int) < (nn : Int) := by omega
        have HN := hid hN
        have HIH := hid ih
        have hlen2 : nn ≤ 1048576 := by rw [hnn.out]; exact hlen
        clear hN hd ih
        obtain ⟨b, off, han, hSb, hbw, hcell⟩ := HN.out.at (by omega)
        subst han
        obtain ⟨ap, np, cp, ax, nk, cx, ai, ni, ci, d0, d1, d2, hp, hx, hi⟩ := hcell p hpn
        have lp := hid (Rw.len hp).1
        have li := hid (Rw.len hi).1
        have HP := hid hp
        have HI := hid hi
        have b5 := (Rw.len hi).2.1
        have b6 := (Rw.len hi).2.2
        obtain ⟨s1, _, _⟩ := hsm p (by rw [← hnn.out]; exact hpn)
        have hnp : np ≤ 1048576 := by rw [lp.out]; exact s1
        have hni : ni ≤ 1048576 := by rw [li.out]; exact (hsm p (by rw [← hnn.out]; exact hpn)).2.2
        have HR0 : Hid (rdS ns (f + 1) (p : Int) = match rdSL (rdS ns f) (nAt ns p).kids (p + 1) with
            | none => none
            | some (ts, n) => some (.mk (nAt ns p).ps ts, n)) := by
          show _ = _
          rw [rdS, if_neg (by rw [← hnn.out]; omega)]
          rfl
        clear hcell hp hx hi s1
        generalize hX : nAt ns p = x at *
        clear hX
        have HBU : Hid (Below w.heap.size w (((w.alloc (.cells #[.slice (some ⟨b, off, none⟩) nn cn] 63)).alloc (.cells #[.bool false, .slice none 0 0, .slice none 0 0] 146)).alloc (.cells #[.slice ap np cp, .slice ax nk cx, .slice ai ni ci] 135))) := below_new (below_new (below_new (Below.refl _ _)))
        have KT : Hid (Bk (((w.alloc (.cells #[.slice (some ⟨b, off, none⟩) nn cn] 63)).alloc (.cells #[.bool false, .slice none 0 0, .slice none 0 0] 146)).alloc (.cells #[.slice ap np cp, .slice ax nk cx, .slice ai ni ci] 135)) w.heap.size 63 [.slice (some ⟨b, off, none⟩) nn cn]) := ((Bk.new w 63 [.slice (some ⟨b, off, none⟩) nn cn]).alloc _).alloc _
        have KR : Hid (Bk (((w.alloc (.cells #[.slice (some ⟨b, off, none⟩) nn cn] 63)).alloc (.cells #[.bool false, .slice none 0 0, .slice none 0 0] 146)).alloc (.cells #[.slice ap np cp, .slice ax nk cx, .slice ai ni ci] 135)) (w.heap.size + 1) 146 [.bool false, .slice none 0 0, .slice none 0 0]) := by
          have := (Bk.new (w.alloc (.cells #[.slice (some ⟨b, off, none⟩) nn cn] 63)) 146 [.bool false, .slice none 0 0, .slice none 0 0]).alloc (.cells #[.slice ap np cp, .slice ax nk cx, .slice ai ni ci] 135)
          show Bk _ _ _ _
          simpa using this
        have KN : Hid (Bk (((w.alloc (.cells #[.slice (some ⟨b, off, none⟩) nn cn] 63)).alloc (.cells #[.bool false, .slice none 0 0, .slice none 0 0] 146)).alloc (.cells #[.slice ap np cp, .slice ax nk cx, .slice ai ni ci] 135)) (w.heap.size + 1 + 1) 135 [.slice ap np cp, .slice ax nk cx, .slice ai ni ci]) := by
          have := Bk.new ((w.alloc (.cells #[.slice (some ⟨b, off, none⟩) nn cn] 63)).alloc (.cells #[.bool false, .slice none 0 0, .slice none 0 0] 146)) 135 [.slice ap np cp, .slice ax nk cx, .slice ai ni ci]
          show Bk _ _ _ _
          simpa using this
        have HZ : Hid ((((w.alloc (.cells #[.slice (some ⟨b, off, none⟩) nn cn] 63)).alloc (.cells #[.bool false, .slice none 0 0, .slice none 0 0] 146)).alloc (.cells #[.slice ap np cp, .slice ax nk cx, .slice ai ni ci] 135)).heap.size = w.heap.size + 3) := by show _ = _; simp
        go_enter Try.func135, Try.ntmps135
        have c0 := KN.out.cell (j := 0) rfl
        have c2 := KN.out.cell (j := 2) rfl
        have T0 := hid (kc0_2 c0 c2)
        have HXL : Hid (x.ps.length ≤ 1048576) := by show _ ≤ _; rw [← lp.out]; exact hnp
        have HSRC : Hid (∀ v, KC (((w.alloc (.cells #[.slice (some ⟨b, off, none⟩) nn cn] 63)).alloc (.cells #[.bool false, .slice none 0 0, .slice none 0 0] 146)).alloc (.cells #[.slice ap np cp, .slice ax nk cx, .slice ai ni ci] 135)) v [(⟨w.heap.size + 1 + 1, 0, none⟩, .slice ap np cp), (⟨w.heap.size + 1 + 1, 2, none⟩, .slice ai ni ci)] → Pr v S (.slice ap np cp) x.ps) := fun v hv => (HP.out.below HBU.out).below hv.bel
        have hlf : ((ni : Int) == 0) = decide (ni = 0) := by
          by_cases h : ni = 0
          · subst h; rfl
          · simp [h]
        generalize hLF : decide (ni = 0) = lf at *
        go_wp2_with fail
        generalize (((w.alloc (.cells #[.slice (some ⟨b, off, none⟩) nn cn] 63)).alloc (.cells #[.bool false, .slice none 0 0, .slice none 0 0] 146)).alloc (.cells #[.slice ap np cp, .slice ax nk cx, .slice ai ni ci] 135)) = U at *
        have k1 : (U.alloc (.cells #[] 69)).drew.heap[U.heap.size]? = some (.cells #[] 69 (0, 0)) := heap_alloc_new U _
        have k2 : ((U.alloc (.cells #[.bool false, .slice none 0 0, .slice none 0 0] 146)).alloc (.cells #[] 69)).drew.heap[U.heap.size + 1]? = some (.cells #[] 69 (0, 0)) := by
          have := heap_alloc_new (U.alloc (.cells #[.bool false, .slice none 0 0, .slice none 0 0] 146)) (.cells #[] 69)
          have e : (U.alloc (.cells #[.bool false, .slice none 0 0, .slice none 0 0] 146)).heap.size = U.heap.size + 1 := by simp
          rw [e] at this
          exact this
        have k3 : ((U.alloc (.cells #[] 69)).alloc (.cells #[.bool false, .slice none 0 0, .slice none 0 0] 146)).drew.heap[U.heap.size]? = some (.cells #[] 69 (0, 0)) := (Below.heap_alloc _ _ _ (by simp)).trans (heap_alloc_new U _)
        have k4 : Hid (((U.alloc (.cells #[] 69)).alloc (.cells #[.bool false, .slice none 0 0, .slice none 0 0] 146)).drew.heap[U.heap.size + 1]? = some (.cells #[.bool false, .slice none 0 0, .slice none 0 0] 146 (0, 0))) := by
          have := heap_alloc_new (U.alloc (.cells #[] 69)) (.cells #[.bool false, .slice none 0 0, .slice none 0 0] 146)
          have e : (U.alloc (.cells #[] 69)).heap.size = U.heap.size + 1 := by simp
          rw [e] at this
          exact this
        have k5 : Hid (((U.alloc (.cells #[.bool false, .slice none 0 0, .slice none 0 0] 146)).alloc (.cells #[] 69)).drew.heap[U.heap.size]? = some (.cells #[.bool false, .slice none 0 0, .slice none 0 0] 146 (0, 0))) := (Below.heap_alloc _ _ _ (by simp)).trans (heap_alloc_new U _)
        go_cut [10] (fun q v => ∃ (sb bs : Nat) (pv : Value), q = .pointer (some ⟨sb, 0, none⟩) ∧ Below U.heap.size U v ∧ U.heap.size ≤ sb ∧ sb < bs ∧ bs ≤ v.heap.size ∧ Bk v sb 146 [.bool lf, pv, .slice none 0 0] ∧ Pr v (fun y => U.heap.size ≤ y ∧ y < bs ∧ y ≠ sb) pv x.ps)
        case first =>
          go_region_held3 (fun v => v.cell? ⟨w.heap.size + 1 + 1, 0, none⟩ = some (.slice ap np cp) ∧ v.cell? ⟨w.heap.size + 1 + 1, 2, none⟩ = some (.slice ai ni ci) ∧ KC U v [(⟨w.heap.size + 1 + 1, 0, none⟩, .slice ap np cp), (⟨w.heap.size + 1 + 1, 2, none⟩, .slice ai ni ci)])
            (first | assumption | exact kc2 (T0.out.call (below_drew _)) | exact kc2c (below_new (Below.refl _ _)) (by assumption) | exact kc2g hg2 (by intro k e; cases e; simp) (by assumption) | exact kc2w (Nat.le_trans (by simp) hg2.size) (by assumption) | exact kc2s (by simp) (by assumption))
            (first
              | (refine step_clone rfl _ _ rfl U.heap.size _ rfl (by assumption) (by simp) S _ x.ps rfl (HSRC.out _ (And.right (And.right (by assumption)))) (Nat.le_trans HXL.out (by decide)) ?_; intro a2 n2 c2 w2 hO2 hg2 hat2 hc2 hf2))
          all_goals (go_wp2_with fail; go_meet; first
            | exact ⟨_, _, _, rfl, meet_new (W := (U.alloc (.cells #[] 69)).drew) ((below_new (Below.refl _ _)).drew) (by simp) hO2 hg2 (Nat.le_refl _)⟩
            | exact ⟨_, _, _, rfl, meet_set (W := ((U.alloc (.cells #[] 69)).alloc (.cells #[.bool false, .slice none 0 0, .slice none 0 0] 146)).drew) ((below_new (below_new (Below.refl _ _))).drew) (by simp; omega) hO2 hg2 (by simpa using hat2) k4.out (by omega) (by omega) (Nat.le_refl _)⟩
            | exact ⟨_, _, _, rfl, meet_set (W := ((U.alloc (.cells #[.bool false, .slice none 0 0, .slice none 0 0] 146)).alloc (.cells #[] 69)).drew) ((below_new (below_new (Below.refl _ _))).drew) (by simp; omega) hO2 hg2 (by simpa using hat2) k5.out (by omega) (Nat.le_refl _) (by omega)⟩)
        case rest =>
          rename_i q
          obtain ⟨sb, bs, pv, hq, hbel, hsb, hsb2, hbs, hBK, hPR⟩ := hcut
          subst hq
          obtain ⟨a3, c3, hpv, _⟩ := hPR.shape
          generalize hl3 : x.ps.length = n3 at hpv
          have HL3 := hid hl3
          clear hl3
          subst hpv
          have HZ' := HZ.out
          have HS0 : Hid (SpI w wc sb bs lf (.slice (some ⟨b, off, none⟩) nn cn) (.slice a3 n3 c3) x.ps [] (.slice none 0 0) (fun _ => false) (fun _ => .slice none 0 0) (fun _ => .slice none 0 0)) :=
            ⟨⟨by omega, hsb2⟩, hbs, KT.out.below hbel, KR.out.below hbel, hBK, Rw.mono hPR (fun y hy _ => ⟨by omega, hy.2⟩), World.ownsRow_nil _ _ _ _, fun i hi => by (simp at hi), HBU.out.trans (hbel.mono HBU.out.size)⟩
          have HNB := hid (KN.out.below hbel)
          have c2' := HNB.out.cell (j := 2) rfl
          clear hbel hsb hsb2 hbs hBK hPR c0 c2 T0 HSRC k1 k2 k3 k4 k5 KT KR KN HZ' hlf
          go_wp2_with fail
          go_loopw [11, 50] (fun y i wr => ∃ (ts : List T) (nx : Nat) (kv : Value) (L : Nat → Bool) (P K : Nat → Value), i = .int .i64 (ts.length : Int) ∧ y = .int .i64 (nx : Int) ∧ Hid (ts.length ≤ ni) ∧ Hid (SpI w wr sb bs lf (.slice (some ⟨b, off, none⟩) nn cn) (.slice a3 n3 c3) x.ps ts kv L P K) ∧ Hid (rdJ (rdS ns f) ts (x.kids.drop ts.length) nx = rdSL (rdS ns f) x.kids (p + 1))) (fun _ i _ => ni - (intOf i).toNat)
          case atStart => exact ⟨[], p + 1, _, _, _, _, rfl, by go_num, Nat.zero_le _, HS0.out, by show _ = _; rw [rdJ_nil]; rfl⟩
          case round =>
            obtain ⟨ts, nx, kv, L, P, K, rfl, rfl, HTL, HSP, HRD⟩ := hrel
            generalize hk : ts.length = k at *
            have HKL := hid hk
            clear hk
            have HBL := hid HSP.out.bel
            have r0 := HSP.out.res.cell (j := 0) rfl
            have r1 := HSP.out.res.cell (j := 1) rfl
            have r2 := HSP.out.res.cell (j := 2) rfl
            have q0 := HSP.out.res.free 0
            have q1 := HSP.out.res.free 1
            have q2 := HSP.out.res.free 2
            by_cases hlt : k < ni
            · have hlt' : (k : Int) < (ni : Int) := by omega
              obtain ⟨bi, offi, hai, _, _, hci⟩ := (HI.out.below HBL.out).at (by omega)
              subst hai
              have hck := hci k hlt
              have HKD : Hid (x.kids.drop k = iAt x.kids k :: x.kids.drop (k + 1)) := by
                show _ = _
                have hl : k < x.kids.length := by rw [← li.out]; exact hlt
                rw [List.drop_eq_getElem_cons hl]
                simp [iAt, hl]
              clear hci
              generalize hkd : iAt x.kids k = kd at hck HKD
              clear hkd
              by_cases hne : kd = (nx : Int)
              · have e1 : (kd != (nx : Int)) = false := by simp [hne]
                have HEQ := hid hne
                clear hne
                have t0 := HSP.out.tre.cell (j := 0) rfl
                have HNr := hid (HN.out.below HBL.out)
                have hw1 : IntKind.i64.wrap (d + 1) = d + 1 := by rw [IntKind.wrap_i64]; omega
                go_wp2_with fail
                refine (HIH.out (by omega) S (some ⟨b, off, none⟩) nn cn kd (d + 1) wr HNr.out (by have := HD.out; omega)).mono ?_
                rintro e w1 ⟨hpost, hb1⟩
                have HSP1 := hid (HSP.out.keep hb1)
                cases hr : rdS ns f kd with
                | none =>
                  rw [hr] at hpost
                  have he : e = .returned (.tuple #[.agg #[.bool false, .slice none 0 0, .slice none 0 0], .int .i64 0, .bool false]) := hpost
                  subst he
                  have HR : Hid (rdS ns (f + 1) (p : Int) = none) := by
                    show _ = _
                    have h1 := HRD.out
                    rw [HKD.out, rdJ_no _ _ _ _ _ (.inr hr)] at h1
                    rw [HR0.out, ← h1]
                  have HSP2 := hid (HSP1.out.keep (below_new (o := .cells #[.bool false, .slice none 0 0, .slice none 0 0] 146) (Below.refl _ _)))
                  clear hpost hb1 hr r0 r1 r2 q0 q1 q2 t0 HSP HSP1 HBL
                  have HBL := hid HSP2.out.bel
                  have r0 := HSP2.out.res.cell (j := 0) rfl
                  have r1 := HSP2.out.res.cell (j := 1) rfl
                  have r2 := HSP2.out.res.cell (j := 2) rfl
                  have q0 := HSP2.out.res.free 0
                  have q1 := HSP2.out.res.free 1
                  have q2 := HSP2.out.res.free 2
                  have HR' := HR
                  go_wp2
                  try simp only [Exit.inBlock, Exit.then]
                  refine bodyPost_ret (v := .tuple #[.agg #[.bool false, .slice none 0 0, .slice none 0 0], .int .i64 0, .bool false]) ?_ rfl ?_
                  · refine results_sub3 rfl _ _ _ rfl rfl rfl ?_ ?_ ?_
                    · go_simp
                    · go_simp
                    · go_simp
                  · exact ⟨by rw [HR.out]; rfl, ((HBL.out.setCell (by show w.heap.size ≤ w.heap.size + 1; omega) _).setCell (by show w.heap.size ≤ w.heap.size + 1; omega) _).setCell (by show w.heap.size ≤ w.heap.size + 1; omega) _⟩
                | some tn =>
                  obtain ⟨t, n1⟩ := tn
                  rw [hr] at hpost
                  obtain ⟨l1, ap1, np1, cp1, ak1, nk1, ck1, he, hsub⟩ := hpost
                  subst he
                  have HSP2 := hid (HSP1.out.keep (below_new (o := .cells #[.bool l1, .slice ap1 np1 cp1, .slice ak1 nk1 ck1] 146) (Below.refl _ _)))
                  have HSP3 := hid (HSP2.out.keep (below_new (o := .cells #[.bool l1, .slice ap1 np1 cp1, .slice ak1 nk1 ck1] 146) (Below.refl _ _)))
                  have HSB : Hid (Sub ((w1.alloc (.cells #[.bool l1, .slice ap1 np1 cp1, .slice ak1 nk1 ck1] 146)).alloc (.cells #[.bool l1, .slice ap1 np1 cp1, .slice ak1 nk1 ck1] 146)) (fun y => bs ≤ y ∧ y < ((w1.alloc (.cells #[.bool l1, .slice ap1 np1 cp1, .slice ak1 nk1 ck1] 146)).alloc (.cells #[.bool l1, .slice ap1 np1 cp1, .slice ak1 nk1 ck1] 146)).heap.size ∧ kv.ownBlock ≠ some y) l1 (.slice ap1 np1 cp1) (.slice ak1 nk1 ck1) t) := by
                    refine ((hsub.kept (below_new (Below.refl _ _))).kept (below_new (Below.refl _ _))).mono (fun y hy hlt => ⟨?_, hlt, fun e => ?_⟩)
                    · have := HSP.out.hi; have := hy.1; omega
                    · have := (World.ownsRow.lt HSP.out.row y e).2; have := hy.1; omega
                  have HBN : Hid (Bk ((w1.alloc (.cells #[.bool l1, .slice ap1 np1 cp1, .slice ak1 nk1 ck1] 146)).alloc (.cells #[.bool l1, .slice ap1 np1 cp1, .slice ak1 nk1 ck1] 146)) (w1.heap.size + 1) 146 [.bool l1, .slice ap1 np1 cp1, .slice ak1 nk1 ck1]) := by
                    have := Bk.new (w1.alloc (.cells #[.bool l1, .slice ap1 np1 cp1, .slice ak1 nk1 ck1] 146)) 146 [.bool l1, .slice ap1 np1 cp1, .slice ak1 nk1 ck1]
                    show Bk _ _ _ _
                    simpa using this
                  have HRD2 : Hid (rdJ (rdS ns f) (ts ++ [t]) (x.kids.drop (ts ++ [t]).length) n1 = rdSL (rdS ns f) x.kids (p + 1)) := by
                    show _ = _
                    rw [← HRD.out, HKD.out, rdJ_step _ _ _ _ _ _ _ HEQ.out hr, List.length_append, HKL.out]
                    rfl
                  have HTL2 : Hid ((ts ++ [t]).length = k + 1) := by show _ = _; rw [List.length_append, HKL.out]; rfl
                  obtain ⟨ak, ck, hkv⟩ := own_shape HSP3.out.row
                  rw [HKL.out] at hkv
                  subst hkv
                  have HOW : Hid (World.ownsRow ((w1.alloc (.cells #[.bool l1, .slice ap1 np1 cp1, .slice ak1 nk1 ck1] 146)).alloc (.cells #[.bool l1, .slice ap1 np1 cp1, .slice ak1 nk1 ck1] 146)) bs 146 3 (.slice ak k ck) k (ncs (mkV L P K k))) := by
                    have := HSP3.out.row
                    rw [HKL.out] at this
                    exact this
                  have hki : k ≤ 1048576 := by omega
                  have s2 := HSP2.out.sub.cell (j := 2) rfl
                  have HHI := hid HSP3.out.hi
                  clear hb1 hr r0 r1 r2 q0 q1 q2 t0 HSP HSP1 HSP2 HBL hsub HRD
                  go_wp2_with (at_builtin; refine wpList_append_sub rfl _ _ rfl bs _ k (mkV L P K k) rfl HOW.out (w1.heap.size + 1) l1 ap1 np1 cp1 ak1 nk1 ck1 rfl HBN.out hki HHI.out ?_)
                  intro v4 w4 hO4 hg4 ha4
                  obtain ⟨a4, c4, hv4⟩ := own_shape hO4
                  subst hv4
                  have HSP4 := hid (HSP3.out.push HSB.out (by rw [HKL.out]; exact hO4) hg4 (by simpa using ha4))
                  have K4 := HSP3.out.sub.to (only_of_grown (R := fun y => bs ≤ y) hg4 (fun y e => (World.ownsRow.lt HSP3.out.row y e).1)) (by have := HSP3.out.lo; omega)
                  have s4 := K4.cell (j := 2) rfl
                  have f4 := K4.free 2
                  clear hO4 hg4 ha4 K4 HOW HBN HSB HSP3 s2 HHI
                  go_wp2
                  go_roundw
                  case rel => exact ⟨ts ++ [t], n1, _, _, _, _, by rw [HTL2.out]; go_num, rfl, by show _ ≤ _; rw [HTL2.out]; omega, HSP4.out, HRD2.out⟩
                  case measure => simp [intOf]; omega
              · have e1 : (kd != (nx : Int)) = true := by simp [hne]
                have HR : Hid (rdS ns (f + 1) (p : Int) = none) := by
                  show _ = _
                  have h1 := HRD.out
                  rw [HKD.out, rdJ_no _ _ _ _ _ (.inl hne)] at h1
                  rw [HR0.out, ← h1]
                clear hne
                go_wp2
                try simp only [Exit.inBlock, Exit.then]
                refine bodyPost_ret (v := .tuple #[.agg #[.bool false, .slice none 0 0, .slice none 0 0], .int .i64 0, .bool false]) ?_ rfl ?_
                · refine results_sub3 rfl _ _ _ rfl rfl rfl ?_ ?_ ?_
                  · go_simp
                  · go_simp
                  · go_simp
                · exact ⟨by rw [HR.out]; rfl, ((HBL.out.setCell (by show w.heap.size ≤ w.heap.size + 1; omega) _).setCell (by show w.heap.size ≤ w.heap.size + 1; omega) _).setCell (by show w.heap.size ≤ w.heap.size + 1; omega) _⟩
            · have hk' : k = ni := by have := HTL.out; omega
              have HR : Hid (rdS ns (f + 1) (p : Int) = some (.mk x.ps ts, nx)) := by
                show _ = _
                have h1 := HRD.out
                rw [hk', li.out, List.drop_length, rdJ_end] at h1
                rw [HR0.out, ← h1]
              obtain ⟨ak, ck, hkv⟩ := own_shape HSP.out.row
              rw [HKL.out] at hkv
              subst hkv
              have HDN := hid (HSP.out.done (by rw [HKL.out, hk', hLF]))
              have s0 := HSP.out.sub.cell (j := 0) rfl
              have s1 := HSP.out.sub.cell (j := 1) rfl
              have s2 := HSP.out.sub.cell (j := 2) rfl
              have HWL : Hid (w.heap.size + 1 < wr.heap.size) := HSP.out.res.lt
              clear hk' HSP HRD hLF
              go_wp2
              try simp only [Exit.inBlock, Exit.then]
              refine bodyPost_ret (v := .tuple #[.agg #[.bool lf, .slice a3 n3 c3, .slice ak k ck], .int .i64 nx, .bool true]) ?_ rfl ?_
              · refine results_sub3 rfl _ _ _ rfl rfl rfl ?_ ?_ ?_
                · go_simp
                · go_simp
                · go_simp
              · refine ⟨?_, ((HBL.out.setCell (by show w.heap.size ≤ w.heap.size + 1; omega) _).setCell (by show w.heap.size ≤ w.heap.size + 1; omega) _).setCell (by show w.heap.size ≤ w.heap.size + 1; omega) _⟩
                rw [HR.out]
                refine ⟨lf, a3, n3, c3, ak, k, ck, rfl, ?_⟩
                have o : Only (fun y => y = w.heap.size + 1) wr (((wr.setCell ⟨w.heap.size + 1, 0, none⟩ (.bool lf)).setCell ⟨w.heap.size + 1, 1, none⟩ (.slice a3 n3 c3)).setCell ⟨w.heap.size + 1, 2, none⟩ (.slice ak k ck)) := ((only_set (R := fun y => y = w.heap.size + 1) rfl _).trans (only_set (R := fun y => y = w.heap.size + 1) rfl _)).trans (only_set (R := fun y => y = w.heap.size + 1) rfl _)
                exact (HDN.out.to o (fun y hy _ e => hy.2 e)).mono (fun y hy hlt => ⟨hy.1.1, hlt⟩)
end Go.Proofs.Ytbaggkfgnjenoaa

