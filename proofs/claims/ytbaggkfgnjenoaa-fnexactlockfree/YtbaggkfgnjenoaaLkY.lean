/-
  LockFree of the specification.
-/
import Derived.Test.YtbaggkfgnjenoaaLkX
import Derived.Test.YtbaggkfgnjenoaaLkS
import Derived.Test.YtbaggkfgnjenoaaLkR
namespace Go.Proofs.Ytbaggkfgnjenoaa
open Go.RowKit
set_option linter.unusedVariables false
set_option maxHeartbeats 16000000 in
set_option maxRecDepth 20000 in
theorem specLockFree_any (S S' : Nat → Prop) (ha : Option Addr) (hn hc : Nat) (wa : Option Addr) (wn wc : Nat) (hl wl : List LK) (c e n : Int) (w : World) (h1 : Lr w S (.slice ha hn hc) hl) (h2 : Lr w S' (.slice wa wn wc) wl) (hh : hn ≤ 1048576) (hw : wn ≤ 1048576) :
    Calls Try.prog 17 #[.agg #[.slice ha hn hc, .slice wa wn wc], .agg #[.int .i64 c, .int .i64 e, .int .i64 n]] w fun r w' => FreePost w hl wl (c, e, n) r w' := by
  have HNH := hid (Rw.len h1).1
  have HNW := hid (Rw.len h2).1
  have bh := (Rw.len h1).2
  have bw := (Rw.len h2).2
  have B0 : Hid (Below w.heap.size w (((w.alloc (.cells #[.slice ha hn hc, .slice wa wn wc] 25)).alloc (.cells #[.int .i64 c, .int .i64 e, .int .i64 n] 27)).alloc (.cells #[.slice none 0 0, .slice none 0 0] 25))) := below_new (below_new (below_new (Below.refl _ _)))
  have K0 := hid (((Bk.new w 25 [.slice ha hn hc, .slice wa wn wc]).alloc (.cells #[.int .i64 c, .int .i64 e, .int .i64 n] 27)).alloc (.cells #[.slice none 0 0, .slice none 0 0] 25))
  have J0 := hid ((Bk.new (w.alloc (.cells #[.slice ha hn hc, .slice wa wn wc] 25)) 27 [.int .i64 c, .int .i64 e, .int .i64 n]).alloc (.cells #[.slice none 0 0, .slice none 0 0] 25))
  have I0 := hid (Bk.new ((w.alloc (.cells #[.slice ha hn hc, .slice wa wn wc] 25)).alloc (.cells #[.int .i64 c, .int .i64 e, .int .i64 n] 27)) 25 [.slice none 0 0, .slice none 0 0])
  rw [show (w.alloc (.cells #[.slice ha hn hc, .slice wa wn wc] 25)).heap.size = w.heap.size + 1 by simp] at J0
  rw [show ((w.alloc (.cells #[.slice ha hn hc, .slice wa wn wc] 25)).alloc (.cells #[.int .i64 c, .int .i64 e, .int .i64 n] 27)).heap.size = w.heap.size + 1 + 1 by simp] at I0
  have H1 := hid h1
  have H2 := hid h2
  have C1 := hid (fun v h1 h2 => specLocksOk_any S S' ha hn hc wa wn wc hl wl v h1 h2 (by omega) (by omega))
  have hnot : ∀ (x : Bool) (w : World), (Op.unary .not (.bool x)).run Try.prog w = .ok (.bool (!x)) w := fun _ _ => rfl
  clear h1 h2
  generalize hz : lksOk hl wl = z1 at C1
  have HZ1 := hid hz
  clear hz
  unfold FreePost
  go_enter Try.func17, Try.ntmps17
  go_wp2_with fail
  refine (C1.out _ (H1.out.below B0.out) (H2.out.below B0.out)).mono ?_
  generalize ((w.alloc (.cells #[.slice ha hn hc, .slice wa wn wc] 25)).alloc (.cells #[.int .i64 c, .int .i64 e, .int .i64 n] 27)).alloc (.cells #[.slice none 0 0, .slice none 0 0] 25) = U0 at *
  rintro r w1 ⟨rfl, hb⟩
  have K1 := hid (K0.out.below hb)
  have J1 := hid (J0.out.below hb)
  have I1 := hid (I0.out.below hb)
  have B1 := hid (B0.out.trans (hb.mono B0.out.size))
  have S1 : Hid (w.heap.size + 1 + 1 < w1.heap.size) := I1.out.lt
  clear hb K0 J0 I0 B0
  cases z1 with
  | false =>
    have HF := hid (freeV_no (t := (c, e, n)) HZ1.out)
    have z0 := I1.out.cell (j := 0) rfl
    have z1 := I1.out.cell (j := 1) rfl
    have e0 := I1.out.free 0
    have e1 := I1.out.free 1
    go_wp2
    try simp only [Exit.inBlock, Exit.then]
    refine bodyPost_ret (v := .tuple #[.agg #[.slice none 0 0, .slice none 0 0], .slice none 0 0]) ?_ rfl ?_
    · exact results_locks2 rfl _ _ (w.heap.size + 1 + 1) rfl rfl (by go_simp) (by go_simp)
    · rw [HF.out]
      exact ⟨none, 0, 0, none, 0, 0, none, 0, 0, rfl, lo_nil _ _, lw_nil _ _, fun y hy e => (by cases e), (B1.out.setCell (p := ⟨w.heap.size + 1 + 1, 0, none⟩) (by simp <;> omega) _).setCell (p := ⟨w.heap.size + 1 + 1, 1, none⟩) (by simp <;> omega) _⟩
  | true =>
    have HF := hid (freeV_yes (t := (c, e, n)) HZ1.out)
    have H60 := hid (lksOk_len HZ1.out)
    have h60 : hn + wn ≤ 60 := by rw [HNH.out, HNW.out]; exact H60.out
    have hb0 := below_new (o := .cells #[.slice none 0 0, .slice none 0 0] 25) (w := w1) (Below.refl _ _)
    have E0 := hid (Bk.new w1 25 [.slice none 0 0, .slice none 0 0])
    have F0 : Hid (FR w1 (w1.alloc (.cells #[.slice none 0 0, .slice none 0 0] 25)) w1.heap.size (.slice none 0 0) (.slice none 0 0) (.slice none 0 0) (.slice none 0 0) [] [] [] []) := ⟨hb0, lo_nil _ _, lw_nil _ _, lw_nil _ _, Nat.le_refl _, E0.out.lt, fun y hy => (by rcases hy with q | q <;> cases q), fun y q => (by cases q), fun y q => (by cases q)⟩
    have y0 := K1.out.cell (j := 0) rfl
    have kl := K1.out.lt
    clear hb0
    go_wp2_with fail
    generalize w1.alloc (.cells #[.slice none 0 0, .slice none 0 0] 25) = V1 at *
    generalize hgb : w1.heap.size = gb at E0 F0 ⊢
    have HGB := hid hgb
    clear hgb
    go_loopw [20] (fun i wr => ∃ (j : Nat) (a5 : Option Addr) (n5 c5 : Nat), i = .int .i64 j ∧ j ≤ hn ∧ Hid (Bk wr gb 25 [.slice a5 n5 c5, .slice none 0 0]) ∧ Hid (FR w1 wr gb (.slice a5 n5 c5) (.slice none 0 0) (.slice none 0 0) (.slice none 0 0) (others (hl.take j) (c, e, n)) [] [] [])) (fun i _ => hn - (intOf i).toNat)
    case atStart => exact ⟨0, none, 0, 0, rfl, Nat.zero_le _, E0.out, F0.out⟩
    case round =>
      clear E0 F0 y0 kl
      obtain ⟨j, a5, n5, c5, rfl, hj, EB, FF⟩ := hrel
      by_cases hlt : j < hn
      · skip
        have hlt' : (j : Int) < (hn : Int) := by omega
        have hml : j < hl.length := by rw [← HNH.out]; exact hlt
        obtain ⟨b, off, ha', -, -, hcell⟩ := (H1.out.below (B1.out.trans (FF.out.bel.mono B1.out.size))).at (by omega)
        obtain ⟨hc0, hc1, hc2, hc3, hc4, hc5⟩ := hcell j hlt
        clear hcell
        subst ha'
        have HT := hid (others_take hl (c, e, n) hml)
        have HLN := hid (others_len (hl.take j) (c, e, n))
        generalize lAt hl j = cur at hc0 hc1 hc2 hc3 hc4 hc5 HT
        obtain ⟨⟨cc, ce, cn⟩, ⟨clo, chi⟩, cex⟩ := cur
        have J2 := hid (J1.out.below FF.out.bel)
        have t0 := J2.out.cell (j := 0) rfl
        have t1 := J2.out.cell (j := 1) rfl
        have t2 := J2.out.cell (j := 2) rfl
        have tl := J2.out.lt
        have hb := below_new (o := .cells #[.int .i64 cc, .int .i64 ce, .int .i64 cn, .string clo, .string chi, .bool cex] 31) (w := wr) (Below.refl _ _)
        have F1 := hid (FF.out.below hb)
        have E1 := hid (EB.out.below hb)
        have N1 := hid (Bk.new wr 31 [.int .i64 cc, .int .i64 ce, .int .i64 cn, .string clo, .string chi, .bool cex])
        have el := EB.out.lt
        have NY : Hid (∀ y, lbl (.slice a5 n5 c5) (.slice none 0 0) y → y ≠ wr.heap.size) := fun y q => by have := (FF.out.own.lt q).2; omega
        have hq := neq_tx cc ce cn c e n
        have hg := guard_tx .neq
        clear hb EB FF
        by_cases hd : (cc, ce, cn) = (c, e, n)
        · have HO : Hid (others (hl.take (j + 1)) (c, e, n) = others (hl.take j) (c, e, n)) := by show _ = _; rw [HT.out, if_pos hd, List.append_nil]
          rw [decide_eq_true hd] at hq
          clear hd HT NY N1
          go_wp2
          go_roundw
          case rel => exact ⟨j + 1, a5, n5, c5, by go_num, by omega, E1.out, by rw [HO.out]; exact F1.out⟩
          case measure => simp [intOf]; omega
        · have HO : Hid (others (hl.take (j + 1)) (c, e, n) = others (hl.take j) (c, e, n) ++ [((cc, ce, cn), (clo, chi), cex)]) := by show _ = _; rw [HT.out, if_neg hd]
          rw [decide_eq_false hd] at hq
          have hsr : (others (hl.take j) (c, e, n)).length ≤ 1048576 := by have := HLN.out; simp at this; omega
          clear hd HT
          have p0 : (wr.alloc (.cells #[.int .i64 cc, .int .i64 ce, .int .i64 cn, .string clo, .string chi, .bool cex] 31)).cell? ⟨gb, 0, none⟩ = some (.slice a5 n5 c5) := E1.out.cell (j := 0) rfl
          have hb := below_new (o := .cells #[.int .i64 cc, .int .i64 ce, .int .i64 cn, .string clo, .string chi, .bool cex] 31) (w := wr.alloc (.cells #[.int .i64 cc, .int .i64 ce, .int .i64 cn, .string clo, .string chi, .bool cex] 31)) (Below.refl _ _)
          have F2 := hid (F1.out.below hb)
          have E2 := hid (E1.out.below hb)
          have NB : Hid (Bk ((wr.alloc (.cells #[.int .i64 cc, .int .i64 ce, .int .i64 cn, .string clo, .string chi, .bool cex] 31)).alloc (.cells #[.int .i64 cc, .int .i64 ce, .int .i64 cn, .string clo, .string chi, .bool cex] 31)) (wr.heap.size + 1) 31 (lcs [((cc, ce, cn), (clo, chi), cex)])) := by
            have := Bk.new (wr.alloc (.cells #[.int .i64 cc, .int .i64 ce, .int .i64 cn, .string clo, .string chi, .bool cex] 31)) 31 [.int .i64 cc, .int .i64 ce, .int .i64 cn, .string clo, .string chi, .bool cex]
            rw [show (wr.alloc (.cells #[.int .i64 cc, .int .i64 ce, .int .i64 cn, .string clo, .string chi, .bool cex] 31)).heap.size = wr.heap.size + 1 by simp] at this
            exact this
          have p0' : wr.cell? ⟨gb, 0, none⟩ = some (.slice a5 n5 c5) := by rw [← p0]; exact ((Below.refl wr.heap.size wr).alloc (Nat.le_refl _) _ |>.cell (p := ⟨gb, 0, none⟩) el).symm
          clear hb F1 E1 N1 NY p0
          go_wp2_with (at_builtin; refine wpList_append_lk rfl _ _ rfl w1.heap.size _ _ rfl F2.out.own.hh (wr.heap.size + 1) ((cc, ce, cn), (clo, chi), cex) rfl NB.out hsr F2.out.bel.size ?_)
          intro a' n' c' w4 hO hg4 ha
          have ow : Only (lbl (.slice a5 n5 c5) (.slice none 0 0)) ((wr.alloc (.cells #[.int .i64 cc, .int .i64 ce, .int .i64 cn, .string clo, .string chi, .bool cex] 31)).alloc (.cells #[.int .i64 cc, .int .i64 ce, .int .i64 cn, .string clo, .string chi, .bool cex] 31)) w4 := (only_of_grown hg4 (R := fun y => (Value.slice a5 n5 c5).ownBlock = some y) (fun k q => q)).mono (fun y _ q => .inl q)
          have hn2 : ∀ y, lbl (.slice a' n' c') (.slice none 0 0) y → lbl (.slice a5 n5 c5) (.slice none 0 0) y ∨ ((wr.alloc (.cells #[.int .i64 cc, .int .i64 ce, .int .i64 cn, .string clo, .string chi, .bool cex] 31)).alloc (.cells #[.int .i64 cc, .int .i64 ce, .int .i64 cn, .string clo, .string chi, .bool cex] 31)).heap.size ≤ y := fun y hy => by
            rcases hy with q | q
            · rcases ha with h1 | h1
              · rw [h1] at q; exact .inl (.inl q)
              · rw [h1] at q; have e3 : wr.heap.size + 1 + 1 = y := Option.some.inj q; exact .inr (by simp; omega)
            · cases q
          have G4 := hid (F2.out.step ow (F2.out.own.pushH hO hg4 (by simpa using ha)) hn2)
          have D4 := hid (E2.out.to ow (fun q => (F2.out.s1 _ q).1 rfl))
          have ob : Only (fun y => y = gb) w4 (w4.setCell ⟨gb, 0, none⟩ (.slice a' n' c')) := only_set (R := fun y => y = gb) (p := ⟨gb, 0, none⟩) rfl _
          have F4 := hid (G4.out.box ob)
          have E4 := hid (D4.out.set 0 (.slice a' n' c'))
          have q0 := D4.out.cell (j := 0) rfl
          have f0 := D4.out.free 0
          clear hO hg4 ha ow hn2 ob G4 F2 E2 NB p0' t0 t1 t2
          go_wp2
          go_roundw
          case rel => exact ⟨j + 1, a', n', c', by go_num, by omega, E4.out, by rw [HO.out]; exact F4.out⟩
          case measure => simp [intOf]; omega
      · have HA : Hid (others (hl.take j) (c, e, n) = others hl (c, e, n)) := by
          show _ = _
          rw [List.take_of_length_le (by rw [← HNH.out]; omega)]
        rw [HA.out] at FF
        have HOL := hid (others_len hl (c, e, n))
        have K2 := hid (K1.out.below FF.out.bel)
        have y1 := K2.out.cell (j := 1) rfl
        have kl := K2.out.lt
        have hb := below_new (o := .cells #[] 31) (w := wr) (Below.refl _ _)
        have E5 := hid (EB.out.below hb)
        have F5 : Hid (FR w1 (wr.alloc (.cells #[] 31)) gb (.slice a5 n5 c5) (.slice none 0 0) (.slice (some ⟨wr.heap.size, 0, none⟩) 0 0) (.slice none 0 0) (others hl (c, e, n)) [] [] []) := by
          have h0 := FF.out.below hb
          refine ⟨h0.bel, h0.own, lw_empty (Bk.new wr 31 []) FF.out.bel.size, h0.row, h0.lo, h0.hi, fun y hy => ⟨(FF.out.s1 y hy).1, fun q => ?_, (FF.out.s1 y hy).2.2⟩, fun y q => ⟨?_, fun q2 => (by cases q2)⟩, h0.s3⟩
          · have e3 : wr.heap.size = y := Option.some.inj q
            have := (FF.out.own.lt hy).2
            omega
          · have e3 : wr.heap.size = y := Option.some.inj q
            have := FF.out.hi
            omega
        clear hb FF EB HA
        generalize others hl (c, e, n) = ol at *
        go_wp2_with fail
        generalize wr.alloc (.cells #[] 31) = V5 at *
        generalize wr.heap.size = g1 at *
        go_loopw [9, 39] (fun x i wr => ∃ (j : Nat) (ga : Option Addr) (gn gc : Nat) (a5 : Option Addr) (n5 c5 : Nat) (a6 : Option Addr) (n6 c6 : Nat), x = .slice ga gn gc ∧ i = .int .i64 j ∧ j ≤ wn ∧ Hid (Bk wr gb 25 [.slice a5 n5 c5, .slice a6 n6 c6]) ∧ Hid (FR w1 wr gb (.slice a5 n5 c5) (.slice a6 n6 c6) (.slice ga gn gc) (.slice none 0 0) (grant (others (wl.take j) (c, e, n)) (ol, [], [])).1 (grant (others (wl.take j) (c, e, n)) (ol, [], [])).2.1 (grant (others (wl.take j) (c, e, n)) (ol, [], [])).2.2 [])) (fun _ i _ => wn - (intOf i).toNat)
        case atStart => exact ⟨0, some ⟨g1, 0, none⟩, 0, 0, a5, n5, c5, none, 0, 0, rfl, rfl, Nat.zero_le _, E5.out, F5.out⟩
        case round =>
          clear E5 F5 y1 kl hlt hj K2
          obtain ⟨j, ga, gn, gc, a5, n5, c5, a6, n6, c6, rfl, rfl, hj, EB, FF⟩ := hrel
          by_cases hlt : j < wn
          · skip
            have hlt' : (j : Int) < (wn : Int) := by omega
            have hml : j < wl.length := by rw [← HNW.out]; exact hlt
            obtain ⟨b, off, ha', -, -, hcell⟩ := (H2.out.below (B1.out.trans (FF.out.bel.mono B1.out.size))).at (by omega)
            obtain ⟨hc0, hc1, hc2, hc3, hc4, hc5⟩ := hcell j hlt
            clear hcell
            subst ha'
            have HT := hid (others_take wl (c, e, n) hml)
            have HLN := hid (others_len (wl.take j) (c, e, n))
            generalize lAt wl j = cur at hc0 hc1 hc2 hc3 hc4 hc5 HT
            obtain ⟨⟨cc, ce, cn⟩, ⟨clo, chi⟩, cex⟩ := cur
            have J2 := hid (J1.out.below FF.out.bel)
            have t0 := J2.out.cell (j := 0) rfl
            have t1 := J2.out.cell (j := 1) rfl
            have t2 := J2.out.cell (j := 2) rfl
            have tl := J2.out.lt
            have hb := below_new (o := .cells #[.int .i64 cc, .int .i64 ce, .int .i64 cn, .string clo, .string chi, .bool cex] 31) (w := wr) (Below.refl _ _)
            have F1 := hid (FF.out.below hb)
            have E1 := hid (EB.out.below hb)
            have N1 := hid (Bk.new wr 31 [.int .i64 cc, .int .i64 ce, .int .i64 cn, .string clo, .string chi, .bool cex])
            have el := EB.out.lt
            have NY : Hid (∀ y, lbl (.slice a5 n5 c5) (.slice a6 n6 c6) y → y ≠ wr.heap.size) := fun y q => by have := (FF.out.own.lt q).2; omega
            have hq := eql_tx cc ce cn c e n
            have hg := guard_tx .eql
            have HGS : Hid (¬ (cc, ce, cn) = (c, e, n) → grant (others (wl.take (j + 1)) (c, e, n)) (ol, [], []) = gstep (grant (others (wl.take j) (c, e, n)) (ol, [], [])) ((cc, ce, cn), (clo, chi), cex)) := fun hd => by rw [HT.out, if_neg hd, grant_snoc]
            have HGE : Hid ((cc, ce, cn) = (c, e, n) → grant (others (wl.take (j + 1)) (c, e, n)) (ol, [], []) = grant (others (wl.take j) (c, e, n)) (ol, [], [])) := fun hd => by rw [HT.out, if_pos hd, List.append_nil]
            have HGL : Hid ((grant (others (wl.take j) (c, e, n)) (ol, [], [])).1.length ≤ 1048576 ∧ (grant (others (wl.take j) (c, e, n)) (ol, [], [])).2.1.length ≤ 1048576 ∧ (grant (others (wl.take j) (c, e, n)) (ol, [], [])).2.2.length ≤ 1048576) := by
              have h1 := grant_len (others (wl.take j) (c, e, n)) (ol, [], [])
              have h2 := HLN.out
              have h3 := HOL.out
              have h4 := H60.out
              simp at h1 h2
              show _ ∧ _ ∧ _
              omega
            clear hb EB FF HT HLN
            generalize grant (others (wl.take j) (c, e, n)) (ol, [], []) = gs at *
            obtain ⟨gh, gw, gg⟩ := gs
            simp only at F1 HGL
            by_cases hd : (cc, ce, cn) = (c, e, n)
            · have HO := hid (HGE.out hd)
              rw [decide_eq_true hd] at hq
              clear hd NY N1 HGS HGE
              go_wp2
              go_roundw
              case rel => exact ⟨j + 1, ga, gn, gc, a5, n5, c5, a6, n6, c6, rfl, by go_num, by omega, E1.out, by rw [HO.out]; exact F1.out⟩
              case measure => simp [intOf]; omega
            · have HO := hid (HGS.out hd)
              rw [decide_eq_false hd] at hq
              clear hd HGS HGE
              have CH := hid (fun v h1 => l07Any_any cc ce cn clo chi cex (fun _ => True) a5 n5 c5 gh v h1)
              have CW := hid (fun v h2 => l07Any_any cc ce cn clo chi cex (fun _ => True) a6 n6 c6 gw v h2)
              have HM := hid (mustW_def gh gw ((cc, ce, cn), (clo, chi), cex))
              generalize anyC gh ((cc, ce, cn), (clo, chi), cex) = q1 at *
              generalize anyC gw ((cc, ce, cn), (clo, chi), cex) = q2 at *
              have p0 : (wr.alloc (.cells #[.int .i64 cc, .int .i64 ce, .int .i64 cn, .string clo, .string chi, .bool cex] 31)).cell? ⟨gb, 0, none⟩ = some (.slice a5 n5 c5) := E1.out.cell (j := 0) rfl
              have p0' : wr.cell? ⟨gb, 0, none⟩ = some (.slice a5 n5 c5) := by rw [← p0]; exact ((Below.refl wr.heap.size wr).alloc (Nat.le_refl _) _ |>.cell (p := ⟨gb, 0, none⟩) el).symm
              clear p0
              go_wp2_with fail
              refine (CH.out _ F1.out.own.hh.lr).mono ?_
              generalize wr.alloc (.cells #[.int .i64 cc, .int .i64 ce, .int .i64 cn, .string clo, .string chi, .bool cex] 31) = Y at *
              generalize wr.heap.size = gy at *
              rintro r w3 ⟨rfl, hb⟩
              have F3 := hid (F1.out.below hb)
              have E3 := hid (E1.out.below hb)
              have N3 := hid (N1.out.below hb)
              clear hb F1 E1 N1 p0' hc0 hc1 hc2 hc3 hc4 hc5 t0 t1 t2 J2
              have d1 : ¬ gy = gb := by omega
              have d2 : ¬ gb = gy := by omega
              cases q1 with
              | true =>
                have HG := hid (HO.out.trans (gstep_yes (HM.out.trans rfl)))
                have x0 := N3.out.cell (j := 0) rfl
                have x1 := N3.out.cell (j := 1) rfl
                have x2 := N3.out.cell (j := 2) rfl
                have x3 := N3.out.cell (j := 3) rfl
                have x4 := N3.out.cell (j := 4) rfl
                have x5 := N3.out.cell (j := 5) rfl
                have p1 := E3.out.cell (j := 1) rfl
                have pl := E3.out.lt
                have nl := N3.out.lt
                have hb := below_new (o := .cells #[.int .i64 cc, .int .i64 ce, .int .i64 cn, .string clo, .string chi, .bool cex] 31) (w := w3) (Below.refl _ _)
                have F4 := hid (F3.out.below hb)
                have E4 := hid (E3.out.below hb)
                have N4 := hid (N3.out.below hb)
                have NB : Hid (Bk (w3.alloc (.cells #[.int .i64 cc, .int .i64 ce, .int .i64 cn, .string clo, .string chi, .bool cex] 31)) w3.heap.size 31 (lcs [((cc, ce, cn), (clo, chi), cex)])) := Bk.new w3 31 [.int .i64 cc, .int .i64 ce, .int .i64 cn, .string clo, .string chi, .bool cex]
                clear hb
                go_wp2_with (at_builtin; refine wpList_append_lk rfl _ _ rfl w1.heap.size _ gw rfl F4.out.own.hw w3.heap.size ((cc, ce, cn), (clo, chi), cex) rfl NB.out HGL.out.2.1 F4.out.bel.size ?_)
                intro va5 vn5 vc5 w5 hO hg ha
                have ow : Only (lbl (.slice a5 n5 c5) (.slice a6 n6 c6)) (w3.alloc (.cells #[.int .i64 cc, .int .i64 ce, .int .i64 cn, .string clo, .string chi, .bool cex] 31)) w5 := (only_of_grown hg (R := fun y => (Value.slice a6 n6 c6).ownBlock = some y) (fun k q => q)).mono (fun y _ q => .inr q)
                have hn2 : ∀ y, lbl (.slice a5 n5 c5) (.slice va5 vn5 vc5) y → lbl (.slice a5 n5 c5) (.slice a6 n6 c6) y ∨ (w3.alloc (.cells #[.int .i64 cc, .int .i64 ce, .int .i64 cn, .string clo, .string chi, .bool cex] 31)).heap.size ≤ y := fun y hy => by
                  have key : (Value.slice va5 vn5 vc5).ownBlock = some y → lbl (.slice a5 n5 c5) (.slice a6 n6 c6) y ∨ (w3.alloc (.cells #[.int .i64 cc, .int .i64 ce, .int .i64 cn, .string clo, .string chi, .bool cex] 31)).heap.size ≤ y := fun q => by
                    rcases ha with h1 | h1
                    · rw [h1] at q; exact .inl (.inr q)
                    · rw [h1] at q; have e3 : w3.heap.size + 1 = y := Option.some.inj q; exact .inr (by simp; omega)
                  rcases hy with q | q
                  · exact .inl (.inl q)
                  · exact key q
                have G5 := hid (F4.out.step ow (F4.out.own.pushW hO hg (by simpa using ha)) hn2)
                have D5 := hid (E4.out.to ow (fun q => (F4.out.s1 _ q).1 rfl))
                have N5 : Hid (Bk w5 gy 31 [.int .i64 cc, .int .i64 ce, .int .i64 cn, .string clo, .string chi, .bool cex]) := N4.out.to ow (fun q => NY.out _ q rfl)
                have ob : Only (fun y => y = gb) w5 (w5.setCell ⟨gb, 1, none⟩ (.slice va5 vn5 vc5)) := only_set (R := fun y => y = gb) (p := ⟨gb, 1, none⟩) rfl _
                have F5 := hid (G5.out.box ob)
                have E5 := hid (D5.out.set 1 (.slice va5 vn5 vc5))
                have q1 := D5.out.cell (j := 1) rfl
                have f1 := D5.out.free 1
                clear hO hg ha ow hn2 ob G5 F3 E3 F4 E4 N3 N4 x0 x1 x2 x3 x4 x5 p1 NB pl nl
                go_wp2
                go_roundw
                case rel => exact ⟨j + 1, ga, gn, gc, a5, n5, c5, va5, vn5, vc5, rfl, by go_num, by omega, E5.out, by rw [HG.out]; exact F5.out⟩
                case measure => simp [intOf]; omega
              | false =>
                have x0 := N3.out.cell (j := 0) rfl
                have x1 := N3.out.cell (j := 1) rfl
                have x2 := N3.out.cell (j := 2) rfl
                have x3 := N3.out.cell (j := 3) rfl
                have x4 := N3.out.cell (j := 4) rfl
                have x5 := N3.out.cell (j := 5) rfl
                have p1 := E3.out.cell (j := 1) rfl
                go_wp2_with fail
                refine (CW.out _ F3.out.own.hw.lr).mono ?_
                rintro r w4 ⟨rfl, hb⟩
                have F4 := hid (F3.out.below hb)
                have E4 := hid (E3.out.below hb)
                have N4 := hid (N3.out.below hb)
                clear hb F3 E3 N3 x0 x1 x2 x3 x4 x5 p1
                cases q2 with
                | true =>
                  have HG := hid (HO.out.trans (gstep_yes (HM.out.trans rfl)))
                  have x0 := N4.out.cell (j := 0) rfl
                  have x1 := N4.out.cell (j := 1) rfl
                  have x2 := N4.out.cell (j := 2) rfl
                  have x3 := N4.out.cell (j := 3) rfl
                  have x4 := N4.out.cell (j := 4) rfl
                  have x5 := N4.out.cell (j := 5) rfl
                  have p1 := E4.out.cell (j := 1) rfl
                  have pl := E4.out.lt
                  have nl := N4.out.lt
                  have hb := below_new (o := .cells #[.int .i64 cc, .int .i64 ce, .int .i64 cn, .string clo, .string chi, .bool cex] 31) (w := w4) (Below.refl _ _)
                  have F5 := hid (F4.out.below hb)
                  have E5 := hid (E4.out.below hb)
                  have N5 := hid (N4.out.below hb)
                  have NB : Hid (Bk (w4.alloc (.cells #[.int .i64 cc, .int .i64 ce, .int .i64 cn, .string clo, .string chi, .bool cex] 31)) w4.heap.size 31 (lcs [((cc, ce, cn), (clo, chi), cex)])) := Bk.new w4 31 [.int .i64 cc, .int .i64 ce, .int .i64 cn, .string clo, .string chi, .bool cex]
                  clear hb
                  go_wp2_with (at_builtin; refine wpList_append_lk rfl _ _ rfl w1.heap.size _ gw rfl F5.out.own.hw w4.heap.size ((cc, ce, cn), (clo, chi), cex) rfl NB.out HGL.out.2.1 F5.out.bel.size ?_)
                  intro va6 vn6 vc6 w6 hO hg ha
                  have ow : Only (lbl (.slice a5 n5 c5) (.slice a6 n6 c6)) (w4.alloc (.cells #[.int .i64 cc, .int .i64 ce, .int .i64 cn, .string clo, .string chi, .bool cex] 31)) w6 := (only_of_grown hg (R := fun y => (Value.slice a6 n6 c6).ownBlock = some y) (fun k q => q)).mono (fun y _ q => .inr q)
                  have hn2 : ∀ y, lbl (.slice a5 n5 c5) (.slice va6 vn6 vc6) y → lbl (.slice a5 n5 c5) (.slice a6 n6 c6) y ∨ (w4.alloc (.cells #[.int .i64 cc, .int .i64 ce, .int .i64 cn, .string clo, .string chi, .bool cex] 31)).heap.size ≤ y := fun y hy => by
                    have key : (Value.slice va6 vn6 vc6).ownBlock = some y → lbl (.slice a5 n5 c5) (.slice a6 n6 c6) y ∨ (w4.alloc (.cells #[.int .i64 cc, .int .i64 ce, .int .i64 cn, .string clo, .string chi, .bool cex] 31)).heap.size ≤ y := fun q => by
                      rcases ha with h1 | h1
                      · rw [h1] at q; exact .inl (.inr q)
                      · rw [h1] at q; have e3 : w4.heap.size + 1 = y := Option.some.inj q; exact .inr (by simp; omega)
                    rcases hy with q | q
                    · exact .inl (.inl q)
                    · exact key q
                  have G6 := hid (F5.out.step ow (F5.out.own.pushW hO hg (by simpa using ha)) hn2)
                  have D6 := hid (E5.out.to ow (fun q => (F5.out.s1 _ q).1 rfl))
                  have N6 : Hid (Bk w6 gy 31 [.int .i64 cc, .int .i64 ce, .int .i64 cn, .string clo, .string chi, .bool cex]) := N5.out.to ow (fun q => NY.out _ q rfl)
                  have ob : Only (fun y => y = gb) w6 (w6.setCell ⟨gb, 1, none⟩ (.slice va6 vn6 vc6)) := only_set (R := fun y => y = gb) (p := ⟨gb, 1, none⟩) rfl _
                  have F6 := hid (G6.out.box ob)
                  have E6 := hid (D6.out.set 1 (.slice va6 vn6 vc6))
                  have q1 := D6.out.cell (j := 1) rfl
                  have f1 := D6.out.free 1
                  clear hO hg ha ow hn2 ob G6 F4 E4 F5 E5 N4 N5 x0 x1 x2 x3 x4 x5 p1 NB pl nl
                  go_wp2
                  go_roundw
                  case rel => exact ⟨j + 1, ga, gn, gc, a5, n5, c5, va6, vn6, vc6, rfl, by go_num, by omega, E6.out, by rw [HG.out]; exact F6.out⟩
                  case measure => simp [intOf]; omega
                | false =>
                  have HG := hid (HO.out.trans (gstep_no (HM.out.trans rfl)))
                  have x0 := N4.out.cell (j := 0) rfl
                  have x1 := N4.out.cell (j := 1) rfl
                  have x2 := N4.out.cell (j := 2) rfl
                  have x3 := N4.out.cell (j := 3) rfl
                  have x4 := N4.out.cell (j := 4) rfl
                  have x5 := N4.out.cell (j := 5) rfl
                  have p0 := E4.out.cell (j := 0) rfl
                  have pl := E4.out.lt
                  have nl := N4.out.lt
                  have hb := below_new (o := .cells #[.int .i64 cc, .int .i64 ce, .int .i64 cn, .string clo, .string chi, .bool cex] 31) (w := w4) (Below.refl _ _)
                  have F5 := hid (F4.out.below hb)
                  have E5 := hid (E4.out.below hb)
                  have N5 := hid (N4.out.below hb)
                  have NB : Hid (Bk (w4.alloc (.cells #[.int .i64 cc, .int .i64 ce, .int .i64 cn, .string clo, .string chi, .bool cex] 31)) w4.heap.size 31 (lcs [((cc, ce, cn), (clo, chi), cex)])) := Bk.new w4 31 [.int .i64 cc, .int .i64 ce, .int .i64 cn, .string clo, .string chi, .bool cex]
                  clear hb
                  go_wp2_with (at_builtin; refine wpList_append_lk rfl _ _ rfl w1.heap.size _ gh rfl F5.out.own.hh w4.heap.size ((cc, ce, cn), (clo, chi), cex) rfl NB.out HGL.out.1 F5.out.bel.size ?_)
                  intro va6 vn6 vc6 w6 hO hg ha
                  have ow : Only (lbl (.slice a5 n5 c5) (.slice a6 n6 c6)) (w4.alloc (.cells #[.int .i64 cc, .int .i64 ce, .int .i64 cn, .string clo, .string chi, .bool cex] 31)) w6 := (only_of_grown hg (R := fun y => (Value.slice a5 n5 c5).ownBlock = some y) (fun k q => q)).mono (fun y _ q => .inl q)
                  have hn2 : ∀ y, lbl (.slice va6 vn6 vc6) (.slice a6 n6 c6) y → lbl (.slice a5 n5 c5) (.slice a6 n6 c6) y ∨ (w4.alloc (.cells #[.int .i64 cc, .int .i64 ce, .int .i64 cn, .string clo, .string chi, .bool cex] 31)).heap.size ≤ y := fun y hy => by
                    have key : (Value.slice va6 vn6 vc6).ownBlock = some y → lbl (.slice a5 n5 c5) (.slice a6 n6 c6) y ∨ (w4.alloc (.cells #[.int .i64 cc, .int .i64 ce, .int .i64 cn, .string clo, .string chi, .bool cex] 31)).heap.size ≤ y := fun q => by
                      rcases ha with h1 | h1
                      · rw [h1] at q; exact .inl (.inl q)
                      · rw [h1] at q; have e3 : w4.heap.size + 1 = y := Option.some.inj q; exact .inr (by simp; omega)
                    rcases hy with q | q
                    · exact key q
                    · exact .inl (.inr q)
                  have G6 := hid (F5.out.step ow (F5.out.own.pushH hO hg (by simpa using ha)) hn2)
                  have D6 := hid (E5.out.to ow (fun q => (F5.out.s1 _ q).1 rfl))
                  have N6 : Hid (Bk w6 gy 31 [.int .i64 cc, .int .i64 ce, .int .i64 cn, .string clo, .string chi, .bool cex]) := N5.out.to ow (fun q => NY.out _ q rfl)
                  have ob : Only (fun y => y = gb) w6 (w6.setCell ⟨gb, 0, none⟩ (.slice va6 vn6 vc6)) := only_set (R := fun y => y = gb) (p := ⟨gb, 0, none⟩) rfl _
                  have F6 := hid (G6.out.box ob)
                  have E6 := hid (D6.out.set 0 (.slice va6 vn6 vc6))
                  have q0 := D6.out.cell (j := 0) rfl
                  have f0 := D6.out.free 0
                  clear hO hg ha ow hn2 ob G6 F4 E4 F5 E5 N4 N5 x0 x1 x2 x3 x4 x5 p0 NB pl nl
                  have x0 := N6.out.cell (j := 0) rfl
                  have x1 := N6.out.cell (j := 1) rfl
                  have x2 := N6.out.cell (j := 2) rfl
                  have x3 := N6.out.cell (j := 3) rfl
                  have x4 := N6.out.cell (j := 4) rfl
                  have x5 := N6.out.cell (j := 5) rfl
                  have hb := below_new (o := .cells #[.int .i64 cc, .int .i64 ce, .int .i64 cn, .string clo, .string chi, .bool cex] 31) (w := (w6.setCell ⟨gb, 0, none⟩ (.slice va6 vn6 vc6))) (Below.refl _ _)
                  have F7 := hid (F6.out.below hb)
                  have E7 := hid (E6.out.below hb)
                  have NB : Hid (Bk ((w6.setCell ⟨gb, 0, none⟩ (.slice va6 vn6 vc6)).alloc (.cells #[.int .i64 cc, .int .i64 ce, .int .i64 cn, .string clo, .string chi, .bool cex] 31)) w6.heap.size 31 (lcs [((cc, ce, cn), (clo, chi), cex)])) := by
                    have := Bk.new (w6.setCell ⟨gb, 0, none⟩ (.slice va6 vn6 vc6)) 31 [.int .i64 cc, .int .i64 ce, .int .i64 cn, .string clo, .string chi, .bool cex]
                    rw [show (w6.setCell ⟨gb, 0, none⟩ (.slice va6 vn6 vc6)).heap.size = w6.heap.size by simp [World.setCell]] at this
                    exact this
                  clear hb F6 E6
                  go_wp2_with (at_builtin; refine wpList_append_lk rfl _ _ rfl w1.heap.size _ gg rfl F7.out.gr w6.heap.size ((cc, ce, cn), (clo, chi), cex) rfl NB.out HGL.out.2.2 F7.out.bel.size ?_)
                  intro a' n' c' w12 hO12 hg12 ha12
                  have F12 := hid (F7.out.stepG hO12 hg12 (by simpa [World.setCell] using ha12))
                  have E12 := hid (E7.out.to (only_of_grown hg12 (R := fun y => (Value.slice ga gn gc).ownBlock = some y) (fun k q => q)) (fun q => (F7.out.s2 _ q).1 rfl))
                  clear hO12 hg12 ha12 F7 E7 NB N6 x0 x1 x2 x3 x4 x5 q0 f0
                  go_wp2
                  go_roundw
                  case rel => exact ⟨j + 1, a', n', c', va6, vn6, vc6, a6, n6, c6, rfl, by go_num, by omega, E12.out, by rw [HG.out]; exact F12.out⟩
                  case measure => simp [intOf]; omega
          · have HG : Hid (grant (others (wl.take j) (c, e, n)) (ol, [], []) = freeV hl wl (c, e, n)) := by
              show _ = _
              rw [HF.out, List.take_of_length_le (by rw [← HNW.out]; omega)]
            rw [HG.out] at FF
            have I9 := hid (I1.out.below FF.out.bel)
            have g0 := EB.out.cell (j := 0) rfl
            have g1 := EB.out.cell (j := 1) rfl
            have z0 := I9.out.cell (j := 0) rfl
            have z1 := I9.out.cell (j := 1) rfl
            have e0 := I9.out.free 0
            have e1 := I9.out.free 1
            have d1 : ¬ gb = w.heap.size + 1 + 1 := by have h1 := FF.out.lo; have h2 := S1.out; omega
            have d2 : ¬ w.heap.size + 1 + 1 = gb := by have h1 := FF.out.lo; have h2 := S1.out; omega
            have HFI : Hid (∀ W, Only (fun y => y = w.heap.size + 1 + 1) wr W → LO W w.heap.size (.slice a5 n5 c5) (.slice a6 n6 c6) (freeV hl wl (c, e, n)).1 (freeV hl wl (c, e, n)).2.1 ∧ LW W w.heap.size (.slice ga gn gc) (freeV hl wl (c, e, n)).2.2 ∧ (∀ y, lbl (.slice a5 n5 c5) (.slice a6 n6 c6) y → (Value.slice ga gn gc).ownBlock ≠ some y) ∧ Below w.heap.size w W) := fun W hW => by
              have h1 := S1.out
              have h2 := B1.out.size
              have hb := B1.out.trans (FF.out.bel.mono B1.out.size)
              exact ⟨(FF.out.own.to hW (fun y hy q => by have := (FF.out.own.lt hy).1; omega)).base (by omega), (FF.out.gr.to hW (fun y hy q => by have := (FF.out.gr.lt hy).1; omega)).base (by omega), fun y hy => (FF.out.s1 y hy).2.1, hb.trans (hW.below hb.size (fun b hb q => by omega))⟩
            clear FF HG
            go_wp2
            try simp only [Exit.inBlock, Exit.then]
            refine bodyPost_ret (v := .tuple #[.agg #[.slice a5 n5 c5, .slice a6 n6 c6], .slice ga gn gc]) ?_ rfl ?_
            · exact results_locks2 rfl _ _ (w.heap.size + 1 + 1) rfl rfl (by go_simp) (by go_simp)
            · exact ⟨a5, n5, c5, a6, n6, c6, ga, gn, gc, rfl, HFI.out _ ((only_set (R := fun y => y = w.heap.size + 1 + 1) (p := ⟨w.heap.size + 1 + 1, 0, none⟩) rfl _).trans (only_set (R := fun y => y = w.heap.size + 1 + 1) (p := ⟨w.heap.size + 1 + 1, 1, none⟩) rfl _))⟩
end Go.Proofs.Ytbaggkfgnjenoaa

