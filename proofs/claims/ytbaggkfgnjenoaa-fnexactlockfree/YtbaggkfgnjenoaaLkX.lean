/-
  LockFree of the program.
-/
import Derived.Test.YtbaggkfgnjenoaaLkW
namespace Go.Proofs.Ytbaggkfgnjenoaa
open Go.RowKit
set_option linter.unusedVariables false
theorem freeV_no {h l : List LK} {t : TX} (e : lksOk h l = false) : freeV h l t = ([], [], []) := by unfold freeV; rw [e]; rfl
theorem freeV_yes {h l : List LK} {t : TX} (e : lksOk h l = true) : freeV h l t = grant (others l t) (others h t, [], []) := by unfold freeV; rw [e]; rfl
theorem btF {u v w : World} (h : Below u.heap.size u v) (k : Below v.heap.size v w) : Below u.heap.size u w := h.trans (k.mono h.size)
set_option maxHeartbeats 16000000 in
set_option maxRecDepth 20000 in
theorem implLockFree_any (S S' : Nat → Prop) (ha : Option Addr) (hn hc : Nat) (wa : Option Addr) (wn wc : Nat) (hl wl : List LK) (c e n : Int) (w : World) (h1 : Lr w S (.slice ha hn hc) hl) (h2 : Lr w S' (.slice wa wn wc) wl) (hh : hn ≤ 1048576) (hw : wn ≤ 1048576) :
    Calls Try.prog 12 #[.agg #[.slice ha hn hc, .slice wa wn wc], .agg #[.int .i64 c, .int .i64 e, .int .i64 n]] w fun r w' => FreePost w hl wl (c, e, n) r w' := by
  have HNH := hid (Rw.len h1).1
  have HNW := hid (Rw.len h2).1
  have B0 : Hid (Below w.heap.size w (((w.alloc (.cells #[.slice ha hn hc, .slice wa wn wc] 25)).alloc (.cells #[.int .i64 c, .int .i64 e, .int .i64 n] 27)).alloc (.cells #[.slice none 0 0, .slice none 0 0] 25))) := below_new (below_new (below_new (Below.refl _ _)))
  have K0 := hid (((Bk.new w 25 [.slice ha hn hc, .slice wa wn wc]).alloc (.cells #[.int .i64 c, .int .i64 e, .int .i64 n] 27)).alloc (.cells #[.slice none 0 0, .slice none 0 0] 25))
  have J0 := hid ((Bk.new (w.alloc (.cells #[.slice ha hn hc, .slice wa wn wc] 25)) 27 [.int .i64 c, .int .i64 e, .int .i64 n]).alloc (.cells #[.slice none 0 0, .slice none 0 0] 25))
  have I0 := hid (Bk.new ((w.alloc (.cells #[.slice ha hn hc, .slice wa wn wc] 25)).alloc (.cells #[.int .i64 c, .int .i64 e, .int .i64 n] 27)) 25 [.slice none 0 0, .slice none 0 0])
  rw [show (w.alloc (.cells #[.slice ha hn hc, .slice wa wn wc] 25)).heap.size = w.heap.size + 1 by simp] at J0
  rw [show ((w.alloc (.cells #[.slice ha hn hc, .slice wa wn wc] 25)).alloc (.cells #[.int .i64 c, .int .i64 e, .int .i64 n] 27)).heap.size = w.heap.size + 1 + 1 by simp] at I0
  have H1 := hid h1
  have H2 := hid h2
  have hll : hl.length ≤ 1048576 := by rw [← HNH.out]; exact hh
  have hlw : wl.length ≤ 1048576 := by rw [← HNW.out]; exact hw
  have C1 := hid (fun v h1 h2 => implLocksOk_any S S' ha hn hc wa wn wc hl wl v h1 h2 (by omega) (by omega))
  have C2 := hid (fun v h1 => locksOfOthers_any S ha hn hc hl c e n v h1 hll)
  have C3 := hid (fun v h2 => locksOfOthers_any S' wa wn wc wl c e n v h2 hlw)
  have hnot : ∀ (x : Bool) (w : World), (Op.unary .not (.bool x)).run Try.prog w = .ok (.bool (!x)) w := fun _ _ => rfl
  clear h1 h2
  have HZ : Hid (lksOk hl wl = lksOk hl wl) := rfl
  generalize hz : lksOk hl wl = z1 at C1
  have HZ1 := hid hz
  clear hz HZ
  unfold FreePost
  go_enter Try.func12, Try.ntmps12
  go_wp2_with fail
  refine (C1.out _ (H1.out.below B0.out) (H2.out.below B0.out)).mono ?_
  generalize ((w.alloc (.cells #[.slice ha hn hc, .slice wa wn wc] 25)).alloc (.cells #[.int .i64 c, .int .i64 e, .int .i64 n] 27)).alloc (.cells #[.slice none 0 0, .slice none 0 0] 25) = U0 at *
  rintro r w1 ⟨rfl, hb⟩
  have K1 := hid (K0.out.below hb)
  have J1 := hid (J0.out.below hb)
  have I1 := hid (I0.out.below hb)
  have B1 := hid (B0.out.trans (hb.mono B0.out.size))
  have S1 : Hid (w.heap.size + 1 + 1 < w1.heap.size) := I1.out.lt
  clear hb K0 J0 I0 B0
  cases z1 with
  | false =>
    have HF := hid (freeV_no (t := (c, e, n)) HZ1.out)
    have z0 := I1.out.cell (j := 0) rfl
    have z1 := I1.out.cell (j := 1) rfl
    have e0 := I1.out.free 0
    have e1 := I1.out.free 1
    go_wp2
    try simp only [Exit.inBlock, Exit.then]
    refine bodyPost_ret (v := .tuple #[.agg #[.slice none 0 0, .slice none 0 0], .slice none 0 0]) ?_ rfl ?_
    · exact results_locks2 rfl _ _ (w.heap.size + 1 + 1) rfl rfl (by go_simp) (by go_simp)
    · rw [HF.out]
      exact ⟨none, 0, 0, none, 0, 0, none, 0, 0, rfl, lo_nil _ _, lw_nil _ _, fun y hy e => (by cases e), (B1.out.setCell (p := ⟨w.heap.size + 1 + 1, 0, none⟩) (by simp <;> omega) _).setCell (p := ⟨w.heap.size + 1 + 1, 1, none⟩) (by simp <;> omega) _⟩
  | true =>
    have HF := hid (freeV_yes (t := (c, e, n)) HZ1.out)
    have H60 := hid (lksOk_len HZ1.out)
    have HOL := hid (others_len hl (c, e, n))
    have HOW := hid (others_len wl (c, e, n))
    have y0 := K1.out.cell (j := 0) rfl
    have x0 := J1.out.cell (j := 0) rfl
    have x1 := J1.out.cell (j := 1) rfl
    have x2 := J1.out.cell (j := 2) rfl
    go_wp2_with fail
    refine (C2.out _ (H1.out.below B1.out)).mono ?_
    rintro r w2 ⟨a1, n1, c1, rfl, hO, hb2⟩
    have hb := btF hb2 (below_new (o := .cells #[.slice a1 n1 c1, .slice none 0 0] 25) (w := w2) (Below.refl _ _))
    have K3 := hid (K1.out.below hb)
    have J3 := hid (J1.out.below hb)
    have I3 := hid (I1.out.below hb)
    have B3 : Hid (Below w1.heap.size w1 (w2.alloc (.cells #[.slice a1 n1 c1, .slice none 0 0] 25))) := hb
    have R3 := hid (hO.below (below_new (o := .cells #[.slice a1 n1 c1, .slice none 0 0] 25) (w := w2) (Below.refl _ _)))
    have E3 := hid (Bk.new w2 25 [.slice a1 n1 c1, .slice none 0 0])
    have RL : Hid (∀ y, (Value.slice a1 n1 c1).ownBlock = some y → y < w2.heap.size) := fun y hy => (hO.lt hy).2
    have GL : Hid (w1.heap.size ≤ w2.heap.size) := hb2.size
    clear hb hb2 hO y0 x0 x1 x2
    have y1 := K3.out.cell (j := 1) rfl
    have x0 := J3.out.cell (j := 0) rfl
    have x1 := J3.out.cell (j := 1) rfl
    have x2 := J3.out.cell (j := 2) rfl
    have l1 := K3.out.lt
    have l2 := J3.out.lt
    go_wp2_with fail
    refine (C3.out _ (H2.out.below (btF B1.out B3.out))).mono ?_
    generalize w2.alloc (.cells #[.slice a1 n1 c1, .slice none 0 0] 25) = V3 at *
    generalize w2.heap.size = gb at *
    rintro r w4 ⟨ra, rn, rc, rfl, hO, hb⟩
    have K4 := hid (K3.out.below hb)
    have I4 := hid (I3.out.below hb)
    have E4 := hid (E3.out.below hb)
    have hrn := (ownL_at hO).1
    have hrc := (ownL_at hO).2.1
    have hrm := (ownL_at hO).2.2.1
    have HRN := hid hrn
    have F4 : Hid (FR w1 w4 gb (.slice a1 n1 c1) (.slice none 0 0) (.slice none 0 0) (.slice ra rn rc) (others hl (c, e, n)) [] [] (others wl (c, e, n))) := by
      have hg3 := E3.out.lt
      refine ⟨btF B3.out hb, ⟨R3.out.below hb, lw_nil _ _, fun y _ q => by cases q⟩, lw_nil _ _, hO.base B3.out.size, GL.out, E4.out.lt, fun y hy => ⟨?_, fun q => (by cases q), fun q => ?_⟩, fun y q => (by cases q), fun y q => ?_⟩
      · rcases hy with q | q
        · have := RL.out y q; omega
        · cases q
      · have h1 := (hO.lt q).1
        rcases hy with q2 | q2
        · have := RL.out y q2; omega
        · cases q2
      · have := (hO.lt q).1; omega
    have HR60 : Hid (rn ≤ 60 ∧ (others hl (c, e, n)).length ≤ 60) := by have h1 := H60.out; have h2 := HOL.out; have h3 := HOW.out; show _ ∧ _; omega
    have hrn60 : rn ≤ 60 := HR60.out.1
    clear hb hO hrn K3 J3 I3 B3 R3 E3 y1 x0 x1 x2 l1 l2 RL GL HOL HOW H60 C1 C2 C3
    generalize others wl (c, e, n) = rl at *
    generalize others hl (c, e, n) = ol at *
    go_wp2_with fail
    go_loopw [7, 25] (fun x i wr => ∃ (j : Nat) (ga : Option Addr) (gn gc : Nat) (a5 : Option Addr) (n5 c5 : Nat) (a6 : Option Addr) (n6 c6 : Nat), x = .slice ga gn gc ∧ i = .int .i64 j ∧ j ≤ rn ∧ Hid (Bk wr gb 25 [.slice a5 n5 c5, .slice a6 n6 c6]) ∧ Hid (FR w1 wr gb (.slice a5 n5 c5) (.slice a6 n6 c6) (.slice ga gn gc) (.slice ra rn rc) (grant (rl.take j) (ol, [], [])).1 (grant (rl.take j) (ol, [], [])).2.1 (grant (rl.take j) (ol, [], [])).2.2 rl)) (fun _ i _ => rn - (intOf i).toNat)
    case atStart => exact ⟨0, none, 0, 0, a1, n1, c1, none, 0, 0, rfl, rfl, Nat.zero_le _, E4.out, F4.out⟩
    case round =>
      clear E4 F4 K4 I4
      obtain ⟨j, ga, gn, gc, a5, n5, c5, a6, n6, c6, rfl, rfl, hj, EB, FF⟩ := hrel
      by_cases hlt : j < rn
      · have hlt' : (j : Int) < (rn : Int) := by omega
        have hml : j < rl.length := by rw [← HRN.out]; exact hlt
        obtain ⟨b, off, ha', -, -, hcell⟩ := FF.out.row.lr.at (by omega)
        obtain ⟨hc0, hc1, hc2, hc3, hc4, hc5⟩ := hcell j hlt
        clear hcell
        subst ha'
        have HGS : Hid (grant (rl.take (j + 1)) (ol, [], []) = gstep (grant (rl.take j) (ol, [], [])) (lAt rl j)) := by
          show _ = _
          rw [List.take_succ_eq_append_getElem hml, grant_snoc]
          simp [lAt, hml]
        have HLN : Hid ((grant (rl.take j) (ol, [], [])).1.length ≤ 1048576 ∧ (grant (rl.take j) (ol, [], [])).2.1.length ≤ 1048576 ∧ (grant (rl.take j) (ol, [], [])).2.2.length ≤ 1048576) := by
          have := grant_len (rl.take j) (ol, [], [])
          simp at this
          have h2 := HR60.out.2
          show _ ∧ _ ∧ _
          omega
        generalize lAt rl j = cur at hc0 hc1 hc2 hc3 hc4 hc5 HGS
        obtain ⟨⟨cc, ce, cn⟩, ⟨clo, chi⟩, cex⟩ := cur
        generalize grant (rl.take j) (ol, [], []) = gs at *
        obtain ⟨gh, gw, gg⟩ := gs
        simp only at FF HLN
        have CW := hid (fun (v : World) hO hB => withLock_any w1.heap.size a5 n5 c5 a6 n6 c6 gh gw cc ce cn clo chi cex v hO hB HLN.out.1 HLN.out.2.1)
        unfold WlPost at CW
        have hb := below_new (o := .cells #[.int .i64 cc, .int .i64 ce, .int .i64 cn, .string clo, .string chi, .bool cex] 31) (w := wr) (Below.refl _ _)
        have F1 := hid (FF.out.below hb)
        have E1 := hid (EB.out.below hb)
        have N1 := hid (Bk.new wr 31 [.int .i64 cc, .int .i64 ce, .int .i64 cn, .string clo, .string chi, .bool cex])
        have p0 := EB.out.cell (j := 0) rfl
        have p1 := EB.out.cell (j := 1) rfl
        have pl := EB.out.lt
        have NY : Hid (¬ lbl (.slice a5 n5 c5) (.slice a6 n6 c6) wr.heap.size) := fun q => by have := (FF.out.own.lt q).2; omega
        clear hb FF EB
        go_wp2_with fail
        refine (CW.out _ F1.out.own F1.out.bel.size).mono ?_
        generalize wr.alloc (.cells #[.int .i64 cc, .int .i64 ce, .int .i64 cn, .string clo, .string chi, .bool cex] 31) = Y at *
        generalize wr.heap.size = gy at *
        generalize hzz : mustW gh gw ((cc, ce, cn), (clo, chi), cex) = z at *
        have HM := hid hzz
        clear hzz
        rintro r w9 ⟨a9, n9, c9, b9, m9, d9, rfl, hO9, ho9, hn9⟩
        have E9 := hid (E1.out.to ho9 (fun q => (F1.out.s1 _ q).1 rfl))
        have N9 : Hid (Bk w9 gy 31 [.int .i64 cc, .int .i64 ce, .int .i64 cn, .string clo, .string chi, .bool cex]) := N1.out.to ho9 (fun q => NY.out q)
        have F9 := hid (F1.out.step ho9 hO9 hn9)
        clear hO9 ho9 hn9 F1 E1 N1 NY p0 p1 hc0 hc1 hc2 hc3 hc4 hc5 CW
        have q0 := E9.out.cell (j := 0) rfl
        have q1 := E9.out.cell (j := 1) rfl
        have f0 := E9.out.free 0
        have f1 := E9.out.free 1
        have d1 : ¬ gy = gb := by omega
        have d2 : ¬ gb = gy := by omega
        have ow : Only (fun y => y = gb) w9 ((w9.setCell ⟨gb, 0, none⟩ (.slice a9 n9 c9)).setCell ⟨gb, 1, none⟩ (.slice b9 m9 d9)) := (only_set (R := fun y => y = gb) (p := ⟨gb, 0, none⟩) rfl _).trans (only_set (R := fun y => y = gb) (p := ⟨gb, 1, none⟩) rfl _)
        have F10 := hid (F9.out.box ow)
        have E10 : Hid (Bk ((w9.setCell ⟨gb, 0, none⟩ (.slice a9 n9 c9)).setCell ⟨gb, 1, none⟩ (.slice b9 m9 d9)) gb 25 [.slice a9 n9 c9, .slice b9 m9 d9]) := (E9.out.set 0 _).set 1 _
        clear ow F9 E9
        cases z with
        | true =>
          rw [putL_yes HM.out] at F10
          rw [gstep_yes HM.out] at HGS
          clear N9
          go_wp2
          go_roundw
          case rel => exact ⟨j + 1, ga, gn, gc, a9, n9, c9, b9, m9, d9, rfl, by go_num, by omega, E10.out, by rw [HGS.out]; exact F10.out⟩
          case measure => simp [intOf]; omega
        | false =>
          rw [putL_no HM.out] at F10
          rw [gstep_no HM.out] at HGS
          have x0 := N9.out.cell (j := 0) rfl
          have x1 := N9.out.cell (j := 1) rfl
          have x2 := N9.out.cell (j := 2) rfl
          have x3 := N9.out.cell (j := 3) rfl
          have x4 := N9.out.cell (j := 4) rfl
          have x5 := N9.out.cell (j := 5) rfl
          have hb := below_new (o := .cells #[.int .i64 cc, .int .i64 ce, .int .i64 cn, .string clo, .string chi, .bool cex] 31) (w := ((w9.setCell ⟨gb, 0, none⟩ (.slice a9 n9 c9)).setCell ⟨gb, 1, none⟩ (.slice b9 m9 d9))) (Below.refl _ _)
          have F11 := hid (F10.out.below hb)
          have E11 := hid (E10.out.below hb)
          have HNB : Hid (Bk (((w9.setCell ⟨gb, 0, none⟩ (.slice a9 n9 c9)).setCell ⟨gb, 1, none⟩ (.slice b9 m9 d9)).alloc (.cells #[.int .i64 cc, .int .i64 ce, .int .i64 cn, .string clo, .string chi, .bool cex] 31)) w9.heap.size 31 (lcs [((cc, ce, cn), (clo, chi), cex)])) := by
            have := Bk.new ((w9.setCell ⟨gb, 0, none⟩ (.slice a9 n9 c9)).setCell ⟨gb, 1, none⟩ (.slice b9 m9 d9)) 31 [.int .i64 cc, .int .i64 ce, .int .i64 cn, .string clo, .string chi, .bool cex]
            rw [show ((w9.setCell ⟨gb, 0, none⟩ (.slice a9 n9 c9)).setCell ⟨gb, 1, none⟩ (.slice b9 m9 d9)).heap.size = w9.heap.size by simp [World.setCell]] at this
            exact this
          clear hb F10 E10
          go_wp2_with (at_builtin; refine wpList_append_lk rfl _ _ rfl w1.heap.size _ gg rfl F11.out.gr w9.heap.size ((cc, ce, cn), (clo, chi), cex) rfl HNB.out HLN.out.2.2 F11.out.bel.size ?_)
          intro a' n' c' w12 hO12 hg12 ha12
          have F12 := hid (F11.out.stepG hO12 hg12 (by simpa [World.setCell] using ha12))
          have E12 := hid (E11.out.to (only_of_grown hg12 (R := fun y => (Value.slice ga gn gc).ownBlock = some y) (fun k q => q)) (fun q => (F11.out.s2 _ q).1 rfl))
          clear hO12 hg12 ha12 F11 E11 HNB N9 x0 x1 x2 x3 x4 x5 q0 q1 f0 f1
          go_wp2
          go_roundw
          case rel => exact ⟨j + 1, a', n', c', a9, n9, c9, b9, m9, d9, rfl, by go_num, by omega, E12.out, by rw [HGS.out]; exact F12.out⟩
          case measure => simp [intOf]; omega
      · have HG : Hid (grant (rl.take j) (ol, [], []) = freeV hl wl (c, e, n)) := by
          show _ = _
          rw [HF.out, List.take_of_length_le (by rw [← HRN.out]; omega)]
        rw [HG.out] at FF
        have I9 := hid (I1.out.below FF.out.bel)
        have g0 := EB.out.cell (j := 0) rfl
        have g1 := EB.out.cell (j := 1) rfl
        have z0 := I9.out.cell (j := 0) rfl
        have z1 := I9.out.cell (j := 1) rfl
        have e0 := I9.out.free 0
        have e1 := I9.out.free 1
        have d1 : ¬ gb = w.heap.size + 1 + 1 := by have h1 := FF.out.lo; have h2 := S1.out; omega
        have d2 : ¬ w.heap.size + 1 + 1 = gb := by have h1 := FF.out.lo; have h2 := S1.out; omega
        have HFI : Hid (∀ W, Only (fun y => y = w.heap.size + 1 + 1) wr W → LO W w.heap.size (.slice a5 n5 c5) (.slice a6 n6 c6) (freeV hl wl (c, e, n)).1 (freeV hl wl (c, e, n)).2.1 ∧ LW W w.heap.size (.slice ga gn gc) (freeV hl wl (c, e, n)).2.2 ∧ (∀ y, lbl (.slice a5 n5 c5) (.slice a6 n6 c6) y → (Value.slice ga gn gc).ownBlock ≠ some y) ∧ Below w.heap.size w W) := fun W hW => by
          have h1 := S1.out
          have h2 := B1.out.size
          have hb := B1.out.trans (FF.out.bel.mono B1.out.size)
          exact ⟨(FF.out.own.to hW (fun y hy q => by have := (FF.out.own.lt hy).1; omega)).base (by omega), (FF.out.gr.to hW (fun y hy q => by have := (FF.out.gr.lt hy).1; omega)).base (by omega), fun y hy => (FF.out.s1 y hy).2.1, hb.trans (hW.below hb.size (fun b hb q => by omega))⟩
        clear FF HG
        go_wp2
        try simp only [Exit.inBlock, Exit.then]
        refine bodyPost_ret (v := .tuple #[.agg #[.slice a5 n5 c5, .slice a6 n6 c6], .slice ga gn gc]) ?_ rfl ?_
        · exact results_locks2 rfl _ _ (w.heap.size + 1 + 1) rfl rfl (by go_simp) (by go_simp)
        · exact ⟨a5, n5, c5, a6, n6, c6, ga, gn, gc, rfl, HFI.out _ ((only_set (R := fun y => y = w.heap.size + 1 + 1) (p := ⟨w.heap.size + 1 + 1, 0, none⟩) rfl _).trans (only_set (R := fun y => y = w.heap.size + 1 + 1) (p := ⟨w.heap.size + 1 + 1, 1, none⟩) rfl _))⟩
end Go.Proofs.Ytbaggkfgnjenoaa

