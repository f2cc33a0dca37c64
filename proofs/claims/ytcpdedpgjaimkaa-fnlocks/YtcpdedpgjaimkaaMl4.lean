/-
  LockFree of the program.
-/
import Derived.Test.YtcpdedpgjaimkaaMl3
import Derived.Test.YtcpdedpgjaimkaaMl2
import Derived.Test.YtcpdedpgjaimkaaMl1
namespace Go.Proofs.Ytcpdedpgjaimkaa
open Go.RowKit
set_option linter.unusedVariables false
theorem freeV_no {h l : List LK} {t : TX} (e : lksOk h l = false) : freeV h l t = ([], [], []) := by unfold freeV; rw [e]; rfl
theorem freeV_yes {h l : List LK} {t : TX} (e : lksOk h l = true) : freeV h l t = grant (others l t) (others h t, [], []) := by unfold freeV; rw [e]; rfl
theorem btF {u v w : World} (h : Below u.heap.size u v) (k : Below v.heap.size v w) : Below u.heap.size u w := h.trans (k.mono h.size)
set_option maxHeartbeats 16000000 in
set_option maxRecDepth 20000 in
theorem implLockFree_any (S S' : Nat → Prop) (ha : Option Addr) (hn hc : Nat) (wa : Option Addr) (wn wc : Nat) (hl wl : List LK) (c e n : Int) (w : World) (h1 : Lr w S (.slice ha hn hc) hl) (h2 : Lr w S' (.slice wa wn wc) wl) (hh : hn ≤ 1048576) (hw : wn ≤ 1048576) :
    Calls Try.prog 30 #[.agg #[.slice ha hn hc, .slice wa wn wc], .agg #[.int .i64 c, .int .i64 e, .int .i64 n]] w fun r w' => FreePost w hl wl (c, e, n) r w' := by
  have HNH := hid (Rw.len h1).1
  have HNW := hid (Rw.len h2).1
  have B0 : Hid (Below w.heap.size w (((w.alloc (.cells #[.slice ha hn hc, .slice wa wn wc] 71)).alloc (.cells #[.int .i64 c, .int .i64 e, .int .i64 n] 73)).alloc (.cells #[.slice none 0 0, .slice none 0 0] 71))) := below_new (below_new (below_new (Below.refl _ _)))
  have K0 := hid (((Bk.new w 71 [.slice ha hn hc, .slice wa wn wc]).alloc (.cells #[.int .i64 c, .int .i64 e, .int .i64 n] 73)).alloc (.cells #[.slice none 0 0, .slice none 0 0] 71))
  have J0 := hid ((Bk.new (w.alloc (.cells #[.slice ha hn hc, .slice wa wn wc] 71)) 73 [.int .i64 c, .int .i64 e, .int .i64 n]).alloc (.cells #[.slice none 0 0, .slice none 0 0] 71))
  have I0 := hid (Bk.new ((w.alloc (.cells #[.slice ha hn hc, .slice wa wn wc] 71)).alloc (.cells #[.int .i64 c, .int .i64 e, .int .i64 n] 73)) 71 [.slice none 0 0, .slice none 0 0])
  rw [show (w.alloc (.cells #[.slice ha hn hc, .slice wa wn wc] 71)).heap.size = w.heap.size + 1 by simp] at J0
  rw [show ((w.alloc (.cells #[.slice ha hn hc, .slice wa wn wc] 71)).alloc (.cells #[.int .i64 c, .int .i64 e, .int .i64 n] 73)).heap.size = w.heap.size + 1 + 1 by simp] at I0
  have H1 := hid h1
  have H2 := hid h2
  have hll : hl.length ≤ 1048576 := by rw [← HNH.out]; exact hh
  have hlw : wl.length ≤ 1048576 := by rw [← HNW.out]; exact hw
  have C1 := hid (fun v h1 h2 => implLocksOk_any S S' ha hn hc wa wn wc hl wl v h1 h2 (by omega) (by omega))
  have C2 := hid (fun v h1 => locksOfOthers_any S ha hn hc hl c e n v h1 hll)
  have C3 := hid (fun v h2 => locksOfOthers_any S' wa wn wc wl c e n v h2 hlw)
  have hnot : ∀ (x : Bool) (w : World), (Op.unary .not (.bool x)).run Try.prog w = .ok (.bool (!x)) w := fun _ _ => rfl
  clear h1 h2
  have HZ : Hid (lksOk hl wl = lksOk hl wl) := rfl
  generalize hz : lksOk hl wl = z1 at C1
  have HZ1 := hid hz
  clear hz HZ
  unfold FreePost
  go_enter Try.func30, Try.ntmps30
  go_wp2_with fail
  refine (C1.out _ (H1.out.below B0.out) (H2.out.below B0.out)).mono ?_
  generalize ((w.alloc (.cells #[.slice ha hn hc, .slice wa wn wc] 71)).alloc (.cells #[.int .i64 c, .int .i64 e, .int .i64 n] 73)).alloc (.cells #[.slice none 0 0, .slice none 0 0] 71) = U0 at *
  rintro r w1 ⟨rfl, hb⟩
  have K1 := hid (K0.out.below hb)
  have J1 := hid (J0.out.below hb)
  have I1 := hid (I0.out.below hb)
  have B1 := hid (B0.out.trans (hb.mono B0.out.size))
  have S1 : Hid (w.heap.size + 1 + 1 < w1.heap.size) := I1.out.lt
  clear hb K0 J0 I0 B0
  cases z1 with
  | false =>
    have HF := hid (freeV_no (t := (c, e, n)) HZ1.out)
    have z0 := I1.out.cell (j := 0) rfl
    have z1 := I1.out.cell (j := 1) rfl
    have e0 := I1.out.free 0
    have e1 := I1.out.free 1
    go_wp2
    try simp only [Exit.inBlock, Exit.then]
    refine bodyPost_ret (v := .tuple #[.agg #[.slice none 0 0, .slice none 0 0], .slice none 0 0]) ?_ rfl ?_
    · exact results_locks2 rfl _ _ (w.heap.size + 1 + 1) rfl rfl (by go_simp) (by go_simp)
    · rw [HF.out]
      exact ⟨none, 0, 0, none, 0, 0, none, 0, 0, rfl, lo_nil _ _, lw_nil _ _, fun y hy e => (by cases e), (B1.out.setCell (p := ⟨w.heap.size + 1 + 1, 0, none⟩) (by simp <;> omega) _).setCell (p := ⟨w.heap.size + 1 + 1, 1, none⟩) (by simp <;> omega) _⟩
  | true =>
    have HF := hid (freeV_yes (t := (c, e, n)) HZ1.out)
    have H60 := hid (lksOk_len HZ1.out)
    have HOL := hid (others_len hl (c, e, n))
    have HOW := hid (others_len wl (c, e, n))
    have y0 := K1.out.cell (j := 0) rfl
    have x0 := J1.out.cell (j := 0) rfl
    have x1 := J1.out.cell (j := 1) rfl
    have x2 := J1.out.cell (j := 2) rfl
    go_wp2_with fail
    refine (C2.out _ (H1.out.below B1.out)).mono ?_
    rintro r w2 ⟨a1, n1, c1, rfl, hO, hb2⟩
    have hb := btF hb2 (below_new (o := .cells #[.slice a1 n1 c1, .slice none 0 0] 71) (w := w2) (Below.refl _ _))
    have K3 := hid (K1.out.below hb)
    have J3 := hid (J1.out.below hb)
    have I3 := hid (I1.out.below hb)
    have B3 : Hid (Below w1.heap.size w1 (w2.alloc (.cells #[.slice a1 n1 c1, .slice none 0 0] 71))) := hb
    have R3 := hid (hO.below (below_new (o := .cells #[.slice a1 n1 c1, .slice none 0 0] 71) (w := w2) (Below.refl _ _)))
    have E3 := hid (Bk.new w2 71 [.slice a1 n1 c1, .slice none 0 0])
    have RL : Hid (∀ y, (Value.slice a1 n1 c1).ownBlock = some y → y < w2.heap.size) := fun y hy => (hO.lt hy).2
    have GL : Hid (w1.heap.size ≤ w2.heap.size) := hb2.size
    clear hb hb2 hO y0 x0 x1 x2
    have y1 := K3.out.cell (j := 1) rfl
    have x0 := J3.out.cell (j := 0) rfl
    have x1 := J3.out.cell (j := 1) rfl
    have x2 := J3.out.cell (j := 2) rfl
    have l1 := K3.out.lt
    have l2 := J3.out.lt
    go_wp2_with fail
    refine (C3.out _ (H2.out.below (btF B1.out B3.out))).mono ?_
    generalize w2.alloc (.cells #[.slice a1 n1 c1, .slice none 0 0] 71) = V3 at *
    generalize w2.heap.size = gb at *
    rintro r w4 ⟨ra, rn, rc, rfl, hO, hb⟩
    have K4 := hid (K3.out.below hb)
    have I4 := hid (I3.out.below hb)
    have E4 := hid (E3.out.below hb)
    have hrn := (ownL_at hO).1
    have hrc := (ownL_at hO).2.1
    have hrm := (ownL_at hO).2.2.1
    have HRN := hid hrn
    have F4 : Hid (FR w1 w4 gb (.slice a1 n1 c1) (.slice none 0 0) (.slice none 0 0) (.slice ra rn rc) (others hl (c, e, n)) [] [] (others wl (c, e, n))) := by
      have hg3 := E3.out.lt
      refine ⟨btF B3.out hb, ⟨R3.out.below hb, lw_nil _ _, fun y _ q => by cases q⟩, lw_nil _ _, hO.base B3.out.size, GL.out, E4.out.lt, fun y hy => ⟨?_, fun q => (by cases q), fun q => ?_⟩, fun y q => (by cases q), fun y q => ?_⟩
      · rcases hy with q | q
        · have := RL.out y q; omega
        · cases q
      · have h1 := (hO.lt q).1
        rcases hy with q2 | q2
        · have := RL.out y q2; omega
        · cases q2
      · have := (hO.lt q).1; omega
    have HR60 : Hid (rn ≤ 60 ∧ (others hl (c, e, n)).length ≤ 60) := by have h1 := H60.out; have h2 := HOL.out; have h3 := HOW.out; show _ ∧ _; omega
    have hrn60 : rn ≤ 60 := HR60.out.1
    clear hb hO hrn K3 J3 I3 B3 R3 E3 y1 x0 x1 x2 l1 l2 RL GL HOL HOW H60 C1 C2 C3
    generalize others wl (c, e, n) = rl at *
    generalize others hl (c, e, n) = ol at *
    go_wp2_with fail
    go_loopw [7, 25] (fun x i wr => ∃ (j : Nat) (ga : Option Addr) (gn gc : Nat) (a5 : Option Addr) (n5 c5 : Nat) (a6 : Option Addr) (n6 c6 : Nat), x = .slice ga gn gc ∧ i = .int .i64 j ∧ j ≤ rn ∧ Hid (Bk wr gb 71 [.slice a5 n5 c5, .slice a6 n6 c6]) ∧ Hid (FR w1 wr gb (.slice a5 n5 c5) (.slice a6 n6 c6) (.slice ga gn gc) (.slice ra rn rc) (grant (rl.take j) (ol, [], [])).1 (grant (rl.take j) (ol, [], [])).2.1 (grant (rl.take j) (ol, [], [])).2.2 rl)) (fun _ i _ => rn - (intOf i).toNat)
    case atStart => exact ⟨0, none, 0, 0, a1, n1, c1, none, 0, 0, rfl, rfl, Nat.zero_le _, E4.out, F4.out⟩
    case round =>
      clear E4 F4 K4 I4
      obtain ⟨j, ga, gn, gc, a5, n5, c5, a6, n6, c6, rfl, rfl, hj, EB, FF⟩ := hrel
      by_cases hlt : j < rn
      · have hlt' : (j : Int) < (rn : Int) := by omega
        have hml : j < rl.length := by rw [← HRN.out]; exact hlt
        obtain ⟨b, off, ha', -, -, hcell⟩ := FF.out.row.lr.at (by omega)
        obtain ⟨hc0, hc1, hc2, hc3, hc4, hc5⟩ := hcell j hlt
        clear hcell
        subst ha'
        have HGS : Hid (grant (rl.take (j + 1)) (ol, [], []) = gstep (grant (rl.take j) (ol, [], [])) (lAt rl j)) := by
          show _ = _
          rw [List.take_succ_eq_append_getElem hml, grant_snoc]
          simp [lAt, hml]
        have HLN : Hid ((grant (rl.take j) (ol, [], [])).1.length ≤ 1048576 ∧ (grant (rl.take j) (ol, [], [])).2.1.length ≤ 1048576 ∧ (grant (rl.take j) (ol, [], [])).2.2.length ≤ 1048576) := by
          have := grant_len (rl.take j) (ol, [], [])
          simp at this
          have h2 := HR60.out.2
          show _ ∧ _ ∧ _
          omega
        generalize lAt rl j = cur at hc0 hc1 hc2 hc3 hc4 hc5 HGS
        obtain ⟨⟨cc, ce, cn⟩, ⟨clo, chi⟩, cex⟩ := cur
        generalize grant (rl.take j) (ol, [], []) = gs at *
        obtain ⟨gh, gw, gg⟩ := gs
        simp only at FF HLN
        have CW := hid (fun (v : World) hO hB => withLock_any w1.heap.size a5 n5 c5 a6 n6 c6 gh gw cc ce cn clo chi cex v hO hB HLN.out.1 HLN.out.2.1)
        unfold WlPost at CW
        have hb := below_new (o := .cells #[.int .i64 cc, .int .i64 ce, .int .i64 cn, .string clo, .string chi, .bool cex] 75) (w := wr) (Below.refl _ _)
        have F1 := hid (FF.out.below hb)
        have E1 := hid (EB.out.below hb)
        have N1 := hid (Bk.new wr 75 [.int .i64 cc, .int .i64 ce, .int .i64 cn, .string clo, .string chi, .bool cex])
        have p0 := EB.out.cell (j := 0) rfl
        have p1 := EB.out.cell (j := 1) rfl
        have pl := EB.out.lt
        have NY : Hid (¬ lbl (.slice a5 n5 c5) (.slice a6 n6 c6) wr.heap.size) := fun q => by have := (FF.out.own.lt q).2; omega
        clear hb FF EB
        go_wp2_with fail
        refine (CW.out _ F1.out.own F1.out.bel.size).mono ?_
        generalize wr.alloc (.cells #[.int .i64 cc, .int .i64 ce, .int .i64 cn, .string clo, .string chi, .bool cex] 75) = Y at *
        generalize wr.heap.size = gy at *
        generalize hzz : mustW gh gw ((cc, ce, cn), (clo, chi), cex) = z at *
        have HM := hid hzz
        clear hzz
        rintro r w9 ⟨a9, n9, c9, b9, m9, d9, rfl, hO9, ho9, hn9⟩
        have E9 := hid (E1.out.to ho9 (fun q => (F1.out.s1 _ q).1 rfl))
        have N9 : Hid (Bk w9 gy 75 [.int .i64 cc, .int .i64 ce, .int .i64 cn, .string clo, .string chi, .bool cex]) := N1.out.to ho9 (fun q => NY.out q)
        have F9 := hid (F1.out.step ho9 hO9 hn9)
        clear hO9 ho9 hn9 F1 E1 N1 NY p0 p1 hc0 hc1 hc2 hc3 hc4 hc5 CW
        have q0 := E9.out.cell (j := 0) rfl
        have q1 := E9.out.cell (j := 1) rfl
        have f0 := E9.out.free 0
        have f1 := E9.out.free 1
        have d1 : ¬ gy = gb := by omega
        have d2 : ¬ gb = gy := by omega
        have ow : Only (fun y => y = gb) w9 ((w9.setCell ⟨gb, 0, none⟩ (.slice a9 n9 c9)).setCell ⟨gb, 1, none⟩ (.slice b9 m9 d9)) := (only_set (R := fun y => y = gb) (p := ⟨gb, 0, none⟩) rfl _).trans (only_set (R := fun y => y = gb) (p := ⟨gb, 1, none⟩) rfl _)
        have F10 := hid (F9.out.box ow)
        have E10 : Hid (Bk ((w9.setCell ⟨gb, 0, none⟩ (.slice a9 n9 c9)).setCell ⟨gb, 1, none⟩ (.slice b9 m9 d9)) gb 71 [.slice a9 n9 c9, .slice b9 m9 d9]) := (E9.out.set 0 _).set 1 _
        clear ow F9 E9
        cases z with
        | true =>
          rw [putL_yes HM.out] at F10
          rw [gstep_yes HM.out] at HGS
          clear N9
          go_wp2
          go_roundw
          case rel => exact ⟨j + 1, ga, gn, gc, a9, n9, c9, b9, m9, d9, rfl, by go_num, by omega, E10.out, by rw [HGS.out]; exact F10.out⟩
          case measure => simp [intOf]; omega
        | false =>
          rw [putL_no HM.out] at F10
          rw [gstep_no HM.out] at HGS
          have x0 := N9.out.cell (j := 0) rfl
          have x1 := N9.out.cell (j := 1) rfl
          have x2 := N9.out.cell (j := 2) rfl
          have x3 := N9.out.cell (j := 3) rfl
          have x4 := N9.out.cell (j := 4) rfl
          have x5 := N9.out.cell (j := 5) rfl
          have hb := below_new (o := .cells #[.int .i64 cc, .int .i64 ce, .int .i64 cn, .string clo, .string chi, .bool cex] 75) (w := ((w9.setCell ⟨gb, 0, none⟩ (.slice a9 n9 c9)).setCell ⟨gb, 1, none⟩ (.slice b9 m9 d9))) (Below.refl _ _)
          have F11 := hid (F10.out.below hb)
          have E11 := hid (E10.out.below hb)
          have HNB : Hid (Bk (((w9.setCell ⟨gb, 0, none⟩ (.slice a9 n9 c9)).setCell ⟨gb, 1, none⟩ (.slice b9 m9 d9)).alloc (.cells #[.int .i64 cc, .int .i64 ce, .int .i64 cn, .string clo, .string chi, .bool cex] 75)) w9.heap.size 75 (lcs [((cc, ce, cn), (clo, chi), cex)])) := by
            have := Bk.new ((w9.setCell ⟨gb, 0, none⟩ (.slice a9 n9 c9)).setCell ⟨gb, 1, none⟩ (.slice b9 m9 d9)) 75 [.int .i64 cc, .int .i64 ce, .int .i64 cn, .string clo, .string chi, .bool cex]
            rw [show ((w9.setCell ⟨gb, 0, none⟩ (.slice a9 n9 c9)).setCell ⟨gb, 1, none⟩ (.slice b9 m9 d9)).heap.size = w9.heap.size by simp [World.setCell]] at this
            exact this
          clear hb F10 E10
          go_wp2_with (at_builtin; refine wpList_append_lk rfl _ _ rfl w1.heap.size _ gg rfl F11.out.gr w9.heap.size ((cc, ce, cn), (clo, chi), cex) rfl HNB.out HLN.out.2.2 F11.out.bel.size ?_)
          intro a' n' c' w12 hO12 hg12 ha12
          have F12 := hid (F11.out.stepG hO12 hg12 (by simpa [World.setCell] using ha12))
          have E12 := hid (E11.out.to (only_of_grown hg12 (R := fun y => (Value.slice ga gn gc).ownBlock = some y) (fun k q => q)) (fun q => (F11.out.s2 _ q).1 rfl))
          clear hO12 hg12 ha12 F11 E11 HNB N9 x0 x1 x2 x3 x4 x5 q0 q1 f0 f1
          go_wp2
          go_roundw
          case rel => exact ⟨j + 1, a', n', c', a9, n9, c9, b9, m9, d9, rfl, by go_num, by omega, E12.out, by rw [HGS.out]; exact F12.out⟩
          case measure => simp [intOf]; omega
      · have HG : Hid (grant (rl.take j) (ol, [], []) = freeV hl wl (c, e, n)) := by
          show _ = _
          rw [HF.out, List.take_of_length_le (by rw [← HRN.out]; omega)]
        rw [HG.out] at FF
        have I9 := hid (I1.out.below FF.out.bel)
        have g0 := EB.out.cell (j := 0) rfl
        have g1 := EB.out.cell (j := 1) rfl
        have z0 := I9.out.cell (j := 0) rfl
        have z1 := I9.out.cell (j := 1) rfl
        have e0 := I9.out.free 0
        have e1 := I9.out.free 1
        have d1 : ¬ gb = w.heap.size + 1 + 1 := by have h1 := FF.out.lo; have h2 := S1.out; omega
        have d2 : ¬ w.heap.size + 1 + 1 = gb := by have h1 := FF.out.lo; have h2 := S1.out; omega
        have HFI : Hid (∀ W, Only (fun y => y = w.heap.size + 1 + 1) wr W → LO W w.heap.size (.slice a5 n5 c5) (.slice a6 n6 c6) (freeV hl wl (c, e, n)).1 (freeV hl wl (c, e, n)).2.1 ∧ LW W w.heap.size (.slice ga gn gc) (freeV hl wl (c, e, n)).2.2 ∧ (∀ y, lbl (.slice a5 n5 c5) (.slice a6 n6 c6) y → (Value.slice ga gn gc).ownBlock ≠ some y) ∧ Below w.heap.size w W) := fun W hW => by
          have h1 := S1.out
          have h2 := B1.out.size
          have hb := B1.out.trans (FF.out.bel.mono B1.out.size)
          exact ⟨(FF.out.own.to hW (fun y hy q => by have := (FF.out.own.lt hy).1; omega)).base (by omega), (FF.out.gr.to hW (fun y hy q => by have := (FF.out.gr.lt hy).1; omega)).base (by omega), fun y hy => (FF.out.s1 y hy).2.1, hb.trans (hW.below hb.size (fun b hb q => by omega))⟩
        clear FF HG
        go_wp2
        try simp only [Exit.inBlock, Exit.then]
        refine bodyPost_ret (v := .tuple #[.agg #[.slice a5 n5 c5, .slice a6 n6 c6], .slice ga gn gc]) ?_ rfl ?_
        · exact results_locks2 rfl _ _ (w.heap.size + 1 + 1) rfl rfl (by go_simp) (by go_simp)
        · exact ⟨a5, n5, c5, a6, n6, c6, ga, gn, gc, rfl, HFI.out _ ((only_set (R := fun y => y = w.heap.size + 1 + 1) (p := ⟨w.heap.size + 1 + 1, 0, none⟩) rfl _).trans (only_set (R := fun y => y = w.heap.size + 1 + 1) (p := ⟨w.heap.size + 1 + 1, 1, none⟩) rfl _))⟩
end Go.Proofs.Ytcpdedpgjaimkaa
/-
  LockFree of the specification.
-/
namespace Go.Proofs.Ytcpdedpgjaimkaa
open Go.RowKit
set_option linter.unusedVariables false
set_option maxHeartbeats 16000000 in
set_option maxRecDepth 20000 in
theorem specLockFree_any (S S' : Nat → Prop) (ha : Option Addr) (hn hc : Nat) (wa : Option Addr) (wn wc : Nat) (hl wl : List LK) (c e n : Int) (w : World) (h1 : Lr w S (.slice ha hn hc) hl) (h2 : Lr w S' (.slice wa wn wc) wl) (hh : hn ≤ 1048576) (hw : wn ≤ 1048576) :
    Calls Try.prog 35 #[.agg #[.slice ha hn hc, .slice wa wn wc], .agg #[.int .i64 c, .int .i64 e, .int .i64 n]] w fun r w' => FreePost w hl wl (c, e, n) r w' := by
  have HNH := hid (Rw.len h1).1
  have HNW := hid (Rw.len h2).1
  have bh := (Rw.len h1).2
  have bw := (Rw.len h2).2
  have B0 : Hid (Below w.heap.size w (((w.alloc (.cells #[.slice ha hn hc, .slice wa wn wc] 71)).alloc (.cells #[.int .i64 c, .int .i64 e, .int .i64 n] 73)).alloc (.cells #[.slice none 0 0, .slice none 0 0] 71))) := below_new (below_new (below_new (Below.refl _ _)))
  have K0 := hid (((Bk.new w 71 [.slice ha hn hc, .slice wa wn wc]).alloc (.cells #[.int .i64 c, .int .i64 e, .int .i64 n] 73)).alloc (.cells #[.slice none 0 0, .slice none 0 0] 71))
  have J0 := hid ((Bk.new (w.alloc (.cells #[.slice ha hn hc, .slice wa wn wc] 71)) 73 [.int .i64 c, .int .i64 e, .int .i64 n]).alloc (.cells #[.slice none 0 0, .slice none 0 0] 71))
  have I0 := hid (Bk.new ((w.alloc (.cells #[.slice ha hn hc, .slice wa wn wc] 71)).alloc (.cells #[.int .i64 c, .int .i64 e, .int .i64 n] 73)) 71 [.slice none 0 0, .slice none 0 0])
  rw [show (w.alloc (.cells #[.slice ha hn hc, .slice wa wn wc] 71)).heap.size = w.heap.size + 1 by simp] at J0
  rw [show ((w.alloc (.cells #[.slice ha hn hc, .slice wa wn wc] 71)).alloc (.cells #[.int .i64 c, .int .i64 e, .int .i64 n] 73)).heap.size = w.heap.size + 1 + 1 by simp] at I0
  have H1 := hid h1
  have H2 := hid h2
  have C1 := hid (fun v h1 h2 => specLocksOk_any S S' ha hn hc wa wn wc hl wl v h1 h2 (by omega) (by omega))
  have hnot : ∀ (x : Bool) (w : World), (Op.unary .not (.bool x)).run Try.prog w = .ok (.bool (!x)) w := fun _ _ => rfl
  clear h1 h2
  generalize hz : lksOk hl wl = z1 at C1
  have HZ1 := hid hz
  clear hz
  unfold FreePost
  go_enter Try.func35, Try.ntmps35
  go_wp2_with fail
  refine (C1.out _ (H1.out.below B0.out) (H2.out.below B0.out)).mono ?_
  generalize ((w.alloc (.cells #[.slice ha hn hc, .slice wa wn wc] 71)).alloc (.cells #[.int .i64 c, .int .i64 e, .int .i64 n] 73)).alloc (.cells #[.slice none 0 0, .slice none 0 0] 71) = U0 at *
  rintro r w1 ⟨rfl, hb⟩
  have K1 := hid (K0.out.below hb)
  have J1 := hid (J0.out.below hb)
  have I1 := hid (I0.out.below hb)
  have B1 := hid (B0.out.trans (hb.mono B0.out.size))
  have S1 : Hid (w.heap.size + 1 + 1 < w1.heap.size) := I1.out.lt
  clear hb K0 J0 I0 B0
  cases z1 with
  | false =>
    have HF := hid (freeV_no (t := (c, e, n)) HZ1.out)
    have z0 := I1.out.cell (j := 0) rfl
    have z1 := I1.out.cell (j := 1) rfl
    have e0 := I1.out.free 0
    have e1 := I1.out.free 1
    go_wp2
    try simp only [Exit.inBlock, Exit.then]
    refine bodyPost_ret (v := .tuple #[.agg #[.slice none 0 0, .slice none 0 0], .slice none 0 0]) ?_ rfl ?_
    · exact results_locks2 rfl _ _ (w.heap.size + 1 + 1) rfl rfl (by go_simp) (by go_simp)
    · rw [HF.out]
      exact ⟨none, 0, 0, none, 0, 0, none, 0, 0, rfl, lo_nil _ _, lw_nil _ _, fun y hy e => (by cases e), (B1.out.setCell (p := ⟨w.heap.size + 1 + 1, 0, none⟩) (by simp <;> omega) _).setCell (p := ⟨w.heap.size + 1 + 1, 1, none⟩) (by simp <;> omega) _⟩
  | true =>
    have HF := hid (freeV_yes (t := (c, e, n)) HZ1.out)
    have H60 := hid (lksOk_len HZ1.out)
    have h60 : hn + wn ≤ 60 := by rw [HNH.out, HNW.out]; exact H60.out
    have hb0 := below_new (o := .cells #[.slice none 0 0, .slice none 0 0] 71) (w := w1) (Below.refl _ _)
    have E0 := hid (Bk.new w1 71 [.slice none 0 0, .slice none 0 0])
    have F0 : Hid (FR w1 (w1.alloc (.cells #[.slice none 0 0, .slice none 0 0] 71)) w1.heap.size (.slice none 0 0) (.slice none 0 0) (.slice none 0 0) (.slice none 0 0) [] [] [] []) := ⟨hb0, lo_nil _ _, lw_nil _ _, lw_nil _ _, Nat.le_refl _, E0.out.lt, fun y hy => (by rcases hy with q | q <;> cases q), fun y q => (by cases q), fun y q => (by cases q)⟩
    have y0 := K1.out.cell (j := 0) rfl
    have kl := K1.out.lt
    clear hb0
    go_wp2_with fail
    generalize w1.alloc (.cells #[.slice none 0 0, .slice none 0 0] 71) = V1 at *
    generalize hgb : w1.heap.size = gb at E0 F0 ⊢
    have HGB := hid hgb
    clear hgb
    go_loopw [20] (fun i wr => ∃ (j : Nat) (a5 : Option Addr) (n5 c5 : Nat), i = .int .i64 j ∧ j ≤ hn ∧ Hid (Bk wr gb 71 [.slice a5 n5 c5, .slice none 0 0]) ∧ Hid (FR w1 wr gb (.slice a5 n5 c5) (.slice none 0 0) (.slice none 0 0) (.slice none 0 0) (others (hl.take j) (c, e, n)) [] [] [])) (fun i _ => hn - (intOf i).toNat)
    case atStart => exact ⟨0, none, 0, 0, rfl, Nat.zero_le _, E0.out, F0.out⟩
    case round =>
      clear E0 F0 y0 kl
      obtain ⟨j, a5, n5, c5, rfl, hj, EB, FF⟩ := hrel
      by_cases hlt : j < hn
      · skip
        have hlt' : (j : Int) < (hn : Int) := by omega
        have hml : j < hl.length := by rw [← HNH.out]; exact hlt
        obtain ⟨b, off, ha', -, -, hcell⟩ := (H1.out.below (B1.out.trans (FF.out.bel.mono B1.out.size))).at (by omega)
        obtain ⟨hc0, hc1, hc2, hc3, hc4, hc5⟩ := hcell j hlt
        clear hcell
        subst ha'
        have HT := hid (others_take hl (c, e, n) hml)
        have HLN := hid (others_len (hl.take j) (c, e, n))
        generalize lAt hl j = cur at hc0 hc1 hc2 hc3 hc4 hc5 HT
        obtain ⟨⟨cc, ce, cn⟩, ⟨clo, chi⟩, cex⟩ := cur
        have J2 := hid (J1.out.below FF.out.bel)
        have t0 := J2.out.cell (j := 0) rfl
        have t1 := J2.out.cell (j := 1) rfl
        have t2 := J2.out.cell (j := 2) rfl
        have tl := J2.out.lt
        have hb := below_new (o := .cells #[.int .i64 cc, .int .i64 ce, .int .i64 cn, .string clo, .string chi, .bool cex] 75) (w := wr) (Below.refl _ _)
        have F1 := hid (FF.out.below hb)
        have E1 := hid (EB.out.below hb)
        have N1 := hid (Bk.new wr 75 [.int .i64 cc, .int .i64 ce, .int .i64 cn, .string clo, .string chi, .bool cex])
        have el := EB.out.lt
        have NY : Hid (∀ y, lbl (.slice a5 n5 c5) (.slice none 0 0) y → y ≠ wr.heap.size) := fun y q => by have := (FF.out.own.lt q).2; omega
        have hq := neq_tx cc ce cn c e n
        have hg := guard_tx .neq
        clear hb EB FF
        by_cases hd : (cc, ce, cn) = (c, e, n)
        · have HO : Hid (others (hl.take (j + 1)) (c, e, n) = others (hl.take j) (c, e, n)) := by show _ = _; rw [HT.out, if_pos hd, List.append_nil]
          rw [decide_eq_true hd] at hq
          clear hd HT NY N1
          go_wp2
          go_roundw
          case rel => exact ⟨j + 1, a5, n5, c5, by go_num, by omega, E1.out, by rw [HO.out]; exact F1.out⟩
          case measure => simp [intOf]; omega
        · have HO : Hid (others (hl.take (j + 1)) (c, e, n) = others (hl.take j) (c, e, n) ++ [((cc, ce, cn), (clo, chi), cex)]) := by show _ = _; rw [HT.out, if_neg hd]
          rw [decide_eq_false hd] at hq
          have hsr : (others (hl.take j) (c, e, n)).length ≤ 1048576 := by have := HLN.out; simp at this; omega
          clear hd HT
          have p0 : (wr.alloc (.cells #[.int .i64 cc, .int .i64 ce, .int .i64 cn, .string clo, .string chi, .bool cex] 75)).cell? ⟨gb, 0, none⟩ = some (.slice a5 n5 c5) := E1.out.cell (j := 0) rfl
          have hb := below_new (o := .cells #[.int .i64 cc, .int .i64 ce, .int .i64 cn, .string clo, .string chi, .bool cex] 75) (w := wr.alloc (.cells #[.int .i64 cc, .int .i64 ce, .int .i64 cn, .string clo, .string chi, .bool cex] 75)) (Below.refl _ _)
          have F2 := hid (F1.out.below hb)
          have E2 := hid (E1.out.below hb)
          have NB : Hid (Bk ((wr.alloc (.cells #[.int .i64 cc, .int .i64 ce, .int .i64 cn, .string clo, .string chi, .bool cex] 75)).alloc (.cells #[.int .i64 cc, .int .i64 ce, .int .i64 cn, .string clo, .string chi, .bool cex] 75)) (wr.heap.size + 1) 75 (lcs [((cc, ce, cn), (clo, chi), cex)])) := by
            have := Bk.new (wr.alloc (.cells #[.int .i64 cc, .int .i64 ce, .int .i64 cn, .string clo, .string chi, .bool cex] 75)) 75 [.int .i64 cc, .int .i64 ce, .int .i64 cn, .string clo, .string chi, .bool cex]
            rw [show (wr.alloc (.cells #[.int .i64 cc, .int .i64 ce, .int .i64 cn, .string clo, .string chi, .bool cex] 75)).heap.size = wr.heap.size + 1 by simp] at this
            exact this
          have p0' : wr.cell? ⟨gb, 0, none⟩ = some (.slice a5 n5 c5) := by rw [← p0]; exact ((Below.refl wr.heap.size wr).alloc (Nat.le_refl _) _ |>.cell (p := ⟨gb, 0, none⟩) el).symm
          clear hb F1 E1 N1 NY p0
          go_wp2_with (at_builtin; refine wpList_append_lk rfl _ _ rfl w1.heap.size _ _ rfl F2.out.own.hh (wr.heap.size + 1) ((cc, ce, cn), (clo, chi), cex) rfl NB.out hsr F2.out.bel.size ?_)
          intro a' n' c' w4 hO hg4 ha
          have ow : Only (lbl (.slice a5 n5 c5) (.slice none 0 0)) ((wr.alloc (.cells #[.int .i64 cc, .int .i64 ce, .int .i64 cn, .string clo, .string chi, .bool cex] 75)).alloc (.cells #[.int .i64 cc, .int .i64 ce, .int .i64 cn, .string clo, .string chi, .bool cex] 75)) w4 := (only_of_grown hg4 (R := fun y => (Value.slice a5 n5 c5).ownBlock = some y) (fun k q => q)).mono (fun y _ q => .inl q)
          have hn2 : ∀ y, lbl (.slice a' n' c') (.slice none 0 0) y → lbl (.slice a5 n5 c5) (.slice none 0 0) y ∨ ((wr.alloc (.cells #[.int .i64 cc, .int .i64 ce, .int .i64 cn, .string clo, .string chi, .bool cex] 75)).alloc (.cells #[.int .i64 cc, .int .i64 ce, .int .i64 cn, .string clo, .string chi, .bool cex] 75)).heap.size ≤ y := fun y hy => by
            rcases hy with q | q
            · rcases ha with h1 | h1
              · rw [h1] at q; exact .inl (.inl q)
              · rw [h1] at q; have e3 : wr.heap.size + 1 + 1 = y := Option.some.inj q; exact .inr (by simp; omega)
            · cases q
          have G4 := hid (F2.out.step ow (F2.out.own.pushH hO hg4 (by simpa using ha)) hn2)
          have D4 := hid (E2.out.to ow (fun q => (F2.out.s1 _ q).1 rfl))
          have ob : Only (fun y => y = gb) w4 (w4.setCell ⟨gb, 0, none⟩ (.slice a' n' c')) := only_set (R := fun y => y = gb) (p := ⟨gb, 0, none⟩) rfl _
          have F4 := hid (G4.out.box ob)
          have E4 := hid (D4.out.set 0 (.slice a' n' c'))
          have q0 := D4.out.cell (j := 0) rfl
          have f0 := D4.out.free 0
          clear hO hg4 ha ow hn2 ob G4 F2 E2 NB p0' t0 t1 t2
          go_wp2
          go_roundw
          case rel => exact ⟨j + 1, a', n', c', by go_num, by omega, E4.out, by rw [HO.out]; exact F4.out⟩
          case measure => simp [intOf]; omega
      · have HA : Hid (others (hl.take j) (c, e, n) = others hl (c, e, n)) := by
          show _ = _
          rw [List.take_of_length_le (by rw [← HNH.out]; omega)]
        rw [HA.out] at FF
        have HOL := hid (others_len hl (c, e, n))
        have K2 := hid (K1.out.below FF.out.bel)
        have y1 := K2.out.cell (j := 1) rfl
        have kl := K2.out.lt
        have hb := below_new (o := .cells #[] 75) (w := wr) (Below.refl _ _)
        have E5 := hid (EB.out.below hb)
        have F5 : Hid (FR w1 (wr.alloc (.cells #[] 75)) gb (.slice a5 n5 c5) (.slice none 0 0) (.slice (some ⟨wr.heap.size, 0, none⟩) 0 0) (.slice none 0 0) (others hl (c, e, n)) [] [] []) := by
          have h0 := FF.out.below hb
          refine ⟨h0.bel, h0.own, lw_empty (Bk.new wr 75 []) FF.out.bel.size, h0.row, h0.lo, h0.hi, fun y hy => ⟨(FF.out.s1 y hy).1, fun q => ?_, (FF.out.s1 y hy).2.2⟩, fun y q => ⟨?_, fun q2 => (by cases q2)⟩, h0.s3⟩
          · have e3 : wr.heap.size = y := Option.some.inj q
            have := (FF.out.own.lt hy).2
            omega
          · have e3 : wr.heap.size = y := Option.some.inj q
            have := FF.out.hi
            omega
        clear hb FF EB HA
        generalize others hl (c, e, n) = ol at *
        go_wp2_with fail
        generalize wr.alloc (.cells #[] 75) = V5 at *
        generalize wr.heap.size = g1 at *
        go_loopw [9, 39] (fun x i wr => ∃ (j : Nat) (ga : Option Addr) (gn gc : Nat) (a5 : Option Addr) (n5 c5 : Nat) (a6 : Option Addr) (n6 c6 : Nat), x = .slice ga gn gc ∧ i = .int .i64 j ∧ j ≤ wn ∧ Hid (Bk wr gb 71 [.slice a5 n5 c5, .slice a6 n6 c6]) ∧ Hid (FR w1 wr gb (.slice a5 n5 c5) (.slice a6 n6 c6) (.slice ga gn gc) (.slice none 0 0) (grant (others (wl.take j) (c, e, n)) (ol, [], [])).1 (grant (others (wl.take j) (c, e, n)) (ol, [], [])).2.1 (grant (others (wl.take j) (c, e, n)) (ol, [], [])).2.2 [])) (fun _ i _ => wn - (intOf i).toNat)
        case atStart => exact ⟨0, some ⟨g1, 0, none⟩, 0, 0, a5, n5, c5, none, 0, 0, rfl, rfl, Nat.zero_le _, E5.out, F5.out⟩
        case round =>
          clear E5 F5 y1 kl hlt hj K2
          obtain ⟨j, ga, gn, gc, a5, n5, c5, a6, n6, c6, rfl, rfl, hj, EB, FF⟩ := hrel
          by_cases hlt : j < wn
          · skip
            have hlt' : (j : Int) < (wn : Int) := by omega
            have hml : j < wl.length := by rw [← HNW.out]; exact hlt
            obtain ⟨b, off, ha', -, -, hcell⟩ := (H2.out.below (B1.out.trans (FF.out.bel.mono B1.out.size))).at (by omega)
            obtain ⟨hc0, hc1, hc2, hc3, hc4, hc5⟩ := hcell j hlt
            clear hcell
            subst ha'
            have HT := hid (others_take wl (c, e, n) hml)
            have HLN := hid (others_len (wl.take j) (c, e, n))
            generalize lAt wl j = cur at hc0 hc1 hc2 hc3 hc4 hc5 HT
            obtain ⟨⟨cc, ce, cn⟩, ⟨clo, chi⟩, cex⟩ := cur
            have J2 := hid (J1.out.below FF.out.bel)
            have t0 := J2.out.cell (j := 0) rfl
            have t1 := J2.out.cell (j := 1) rfl
            have t2 := J2.out.cell (j := 2) rfl
            have tl := J2.out.lt
            have hb := below_new (o := .cells #[.int .i64 cc, .int .i64 ce, .int .i64 cn, .string clo, .string chi, .bool cex] 75) (w := wr) (Below.refl _ _)
            have F1 := hid (FF.out.below hb)
            have E1 := hid (EB.out.below hb)
            have N1 := hid (Bk.new wr 75 [.int .i64 cc, .int .i64 ce, .int .i64 cn, .string clo, .string chi, .bool cex])
            have el := EB.out.lt
            have NY : Hid (∀ y, lbl (.slice a5 n5 c5) (.slice a6 n6 c6) y → y ≠ wr.heap.size) := fun y q => by have := (FF.out.own.lt q).2; omega
            have hq := eql_tx cc ce cn c e n
            have hg := guard_tx .eql
            have HGS : Hid (¬ (cc, ce, cn) = (c, e, n) → grant (others (wl.take (j + 1)) (c, e, n)) (ol, [], []) = gstep (grant (others (wl.take j) (c, e, n)) (ol, [], [])) ((cc, ce, cn), (clo, chi), cex)) := fun hd => by rw [HT.out, if_neg hd, grant_snoc]
            have HGE : Hid ((cc, ce, cn) = (c, e, n) → grant (others (wl.take (j + 1)) (c, e, n)) (ol, [], []) = grant (others (wl.take j) (c, e, n)) (ol, [], [])) := fun hd => by rw [HT.out, if_pos hd, List.append_nil]
            have HGL : Hid ((grant (others (wl.take j) (c, e, n)) (ol, [], [])).1.length ≤ 1048576 ∧ (grant (others (wl.take j) (c, e, n)) (ol, [], [])).2.1.length ≤ 1048576 ∧ (grant (others (wl.take j) (c, e, n)) (ol, [], [])).2.2.length ≤ 1048576) := by
              have h1 := grant_len (others (wl.take j) (c, e, n)) (ol, [], [])
              have h2 := HLN.out
              have h3 := HOL.out
              have h4 := H60.out
              simp at h1 h2
              show _ ∧ _ ∧ _
              omega
            clear hb EB FF HT HLN
            generalize grant (others (wl.take j) (c, e, n)) (ol, [], []) = gs at *
            obtain ⟨gh, gw, gg⟩ := gs
            simp only at F1 HGL
            by_cases hd : (cc, ce, cn) = (c, e, n)
            · have HO := hid (HGE.out hd)
              rw [decide_eq_true hd] at hq
              clear hd NY N1 HGS HGE
              go_wp2
              go_roundw
              case rel => exact ⟨j + 1, ga, gn, gc, a5, n5, c5, a6, n6, c6, rfl, by go_num, by omega, E1.out, by rw [HO.out]; exact F1.out⟩
              case measure => simp [intOf]; omega
            · have HO := hid (HGS.out hd)
              rw [decide_eq_false hd] at hq
              clear hd HGS HGE
              have CH := hid (fun v h1 => l07Any_any cc ce cn clo chi cex (fun _ => True) a5 n5 c5 gh v h1)
              have CW := hid (fun v h2 => l07Any_any cc ce cn clo chi cex (fun _ => True) a6 n6 c6 gw v h2)
              have HM := hid (mustW_def gh gw ((cc, ce, cn), (clo, chi), cex))
              generalize anyC gh ((cc, ce, cn), (clo, chi), cex) = q1 at *
              generalize anyC gw ((cc, ce, cn), (clo, chi), cex) = q2 at *
              have p0 : (wr.alloc (.cells #[.int .i64 cc, .int .i64 ce, .int .i64 cn, .string clo, .string chi, .bool cex] 75)).cell? ⟨gb, 0, none⟩ = some (.slice a5 n5 c5) := E1.out.cell (j := 0) rfl
              have p0' : wr.cell? ⟨gb, 0, none⟩ = some (.slice a5 n5 c5) := by rw [← p0]; exact ((Below.refl wr.heap.size wr).alloc (Nat.le_refl _) _ |>.cell (p := ⟨gb, 0, none⟩) el).symm
              clear p0
              go_wp2_with fail
              refine (CH.out _ F1.out.own.hh.lr).mono ?_
              generalize wr.alloc (.cells #[.int .i64 cc, .int .i64 ce, .int .i64 cn, .string clo, .string chi, .bool cex] 75) = Y at *
              generalize wr.heap.size = gy at *
              rintro r w3 ⟨rfl, hb⟩
              have F3 := hid (F1.out.below hb)
              have E3 := hid (E1.out.below hb)
              have N3 := hid (N1.out.below hb)
              clear hb F1 E1 N1 p0' hc0 hc1 hc2 hc3 hc4 hc5 t0 t1 t2 J2
              have d1 : ¬ gy = gb := by omega
              have d2 : ¬ gb = gy := by omega
              cases q1 with
              | true =>
                have HG := hid (HO.out.trans (gstep_yes (HM.out.trans rfl)))
                have x0 := N3.out.cell (j := 0) rfl
                have x1 := N3.out.cell (j := 1) rfl
                have x2 := N3.out.cell (j := 2) rfl
                have x3 := N3.out.cell (j := 3) rfl
                have x4 := N3.out.cell (j := 4) rfl
                have x5 := N3.out.cell (j := 5) rfl
                have p1 := E3.out.cell (j := 1) rfl
                have pl := E3.out.lt
                have nl := N3.out.lt
                have hb := below_new (o := .cells #[.int .i64 cc, .int .i64 ce, .int .i64 cn, .string clo, .string chi, .bool cex] 75) (w := w3) (Below.refl _ _)
                have F4 := hid (F3.out.below hb)
                have E4 := hid (E3.out.below hb)
                have N4 := hid (N3.out.below hb)
                have NB : Hid (Bk (w3.alloc (.cells #[.int .i64 cc, .int .i64 ce, .int .i64 cn, .string clo, .string chi, .bool cex] 75)) w3.heap.size 75 (lcs [((cc, ce, cn), (clo, chi), cex)])) := Bk.new w3 75 [.int .i64 cc, .int .i64 ce, .int .i64 cn, .string clo, .string chi, .bool cex]
                clear hb
                go_wp2_with (at_builtin; refine wpList_append_lk rfl _ _ rfl w1.heap.size _ gw rfl F4.out.own.hw w3.heap.size ((cc, ce, cn), (clo, chi), cex) rfl NB.out HGL.out.2.1 F4.out.bel.size ?_)
                intro va5 vn5 vc5 w5 hO hg ha
                have ow : Only (lbl (.slice a5 n5 c5) (.slice a6 n6 c6)) (w3.alloc (.cells #[.int .i64 cc, .int .i64 ce, .int .i64 cn, .string clo, .string chi, .bool cex] 75)) w5 := (only_of_grown hg (R := fun y => (Value.slice a6 n6 c6).ownBlock = some y) (fun k q => q)).mono (fun y _ q => .inr q)
                have hn2 : ∀ y, lbl (.slice a5 n5 c5) (.slice va5 vn5 vc5) y → lbl (.slice a5 n5 c5) (.slice a6 n6 c6) y ∨ (w3.alloc (.cells #[.int .i64 cc, .int .i64 ce, .int .i64 cn, .string clo, .string chi, .bool cex] 75)).heap.size ≤ y := fun y hy => by
                  have key : (Value.slice va5 vn5 vc5).ownBlock = some y → lbl (.slice a5 n5 c5) (.slice a6 n6 c6) y ∨ (w3.alloc (.cells #[.int .i64 cc, .int .i64 ce, .int .i64 cn, .string clo, .string chi, .bool cex] 75)).heap.size ≤ y := fun q => by
                    rcases ha with h1 | h1
                    · rw [h1] at q; exact .inl (.inr q)
                    · rw [h1] at q; have e3 : w3.heap.size + 1 = y := Option.some.inj q; exact .inr (by simp; omega)
                  rcases hy with q | q
                  · exact .inl (.inl q)
                  · exact key q
                have G5 := hid (F4.out.step ow (F4.out.own.pushW hO hg (by simpa using ha)) hn2)
                have D5 := hid (E4.out.to ow (fun q => (F4.out.s1 _ q).1 rfl))
                have N5 : Hid (Bk w5 gy 75 [.int .i64 cc, .int .i64 ce, .int .i64 cn, .string clo, .string chi, .bool cex]) := N4.out.to ow (fun q => NY.out _ q rfl)
                have ob : Only (fun y => y = gb) w5 (w5.setCell ⟨gb, 1, none⟩ (.slice va5 vn5 vc5)) := only_set (R := fun y => y = gb) (p := ⟨gb, 1, none⟩) rfl _
                have F5 := hid (G5.out.box ob)
                have E5 := hid (D5.out.set 1 (.slice va5 vn5 vc5))
                have q1 := D5.out.cell (j := 1) rfl
                have f1 := D5.out.free 1
                clear hO hg ha ow hn2 ob G5 F3 E3 F4 E4 N3 N4 x0 x1 x2 x3 x4 x5 p1 NB pl nl
                go_wp2
                go_roundw
                case rel => exact ⟨j + 1, ga, gn, gc, a5, n5, c5, va5, vn5, vc5, rfl, by go_num, by omega, E5.out, by rw [HG.out]; exact F5.out⟩
                case measure => simp [intOf]; omega
              | false =>
                have x0 := N3.out.cell (j := 0) rfl
                have x1 := N3.out.cell (j := 1) rfl
                have x2 := N3.out.cell (j := 2) rfl
                have x3 := N3.out.cell (j := 3) rfl
                have x4 := N3.out.cell (j := 4) rfl
                have x5 := N3.out.cell (j := 5) rfl
                have p1 := E3.out.cell (j := 1) rfl
                go_wp2_with fail
                refine (CW.out _ F3.out.own.hw.lr).mono ?_
                rintro r w4 ⟨rfl, hb⟩
                have F4 := hid (F3.out.below hb)
                have E4 := hid (E3.out.below hb)
                have N4 := hid (N3.out.below hb)
                clear hb F3 E3 N3 x0 x1 x2 x3 x4 x5 p1
                cases q2 with
                | true =>
                  have HG := hid (HO.out.trans (gstep_yes (HM.out.trans rfl)))
                  have x0 := N4.out.cell (j := 0) rfl
                  have x1 := N4.out.cell (j := 1) rfl
                  have x2 := N4.out.cell (j := 2) rfl
                  have x3 := N4.out.cell (j := 3) rfl
                  have x4 := N4.out.cell (j := 4) rfl
                  have x5 := N4.out.cell (j := 5) rfl
                  have p1 := E4.out.cell (j := 1) rfl
                  have pl := E4.out.lt
                  have nl := N4.out.lt
                  have hb := below_new (o := .cells #[.int .i64 cc, .int .i64 ce, .int .i64 cn, .string clo, .string chi, .bool cex] 75) (w := w4) (Below.refl _ _)
                  have F5 := hid (F4.out.below hb)
                  have E5 := hid (E4.out.below hb)
                  have N5 := hid (N4.out.below hb)
                  have NB : Hid (Bk (w4.alloc (.cells #[.int .i64 cc, .int .i64 ce, .int .i64 cn, .string clo, .string chi, .bool cex] 75)) w4.heap.size 75 (lcs [((cc, ce, cn), (clo, chi), cex)])) := Bk.new w4 75 [.int .i64 cc, .int .i64 ce, .int .i64 cn, .string clo, .string chi, .bool cex]
                  clear hb
                  go_wp2_with (at_builtin; refine wpList_append_lk rfl _ _ rfl w1.heap.size _ gw rfl F5.out.own.hw w4.heap.size ((cc, ce, cn), (clo, chi), cex) rfl NB.out HGL.out.2.1 F5.out.bel.size ?_)
                  intro va6 vn6 vc6 w6 hO hg ha
                  have ow : Only (lbl (.slice a5 n5 c5) (.slice a6 n6 c6)) (w4.alloc (.cells #[.int .i64 cc, .int .i64 ce, .int .i64 cn, .string clo, .string chi, .bool cex] 75)) w6 := (only_of_grown hg (R := fun y => (Value.slice a6 n6 c6).ownBlock = some y) (fun k q => q)).mono (fun y _ q => .inr q)
                  have hn2 : ∀ y, lbl (.slice a5 n5 c5) (.slice va6 vn6 vc6) y → lbl (.slice a5 n5 c5) (.slice a6 n6 c6) y ∨ (w4.alloc (.cells #[.int .i64 cc, .int .i64 ce, .int .i64 cn, .string clo, .string chi, .bool cex] 75)).heap.size ≤ y := fun y hy => by
                    have key : (Value.slice va6 vn6 vc6).ownBlock = some y → lbl (.slice a5 n5 c5) (.slice a6 n6 c6) y ∨ (w4.alloc (.cells #[.int .i64 cc, .int .i64 ce, .int .i64 cn, .string clo, .string chi, .bool cex] 75)).heap.size ≤ y := fun q => by
                      rcases ha with h1 | h1
                      · rw [h1] at q; exact .inl (.inr q)
                      · rw [h1] at q; have e3 : w4.heap.size + 1 = y := Option.some.inj q; exact .inr (by simp; omega)
                    rcases hy with q | q
                    · exact .inl (.inl q)
                    · exact key q
                  have G6 := hid (F5.out.step ow (F5.out.own.pushW hO hg (by simpa using ha)) hn2)
                  have D6 := hid (E5.out.to ow (fun q => (F5.out.s1 _ q).1 rfl))
                  have N6 : Hid (Bk w6 gy 75 [.int .i64 cc, .int .i64 ce, .int .i64 cn, .string clo, .string chi, .bool cex]) := N5.out.to ow (fun q => NY.out _ q rfl)
                  have ob : Only (fun y => y = gb) w6 (w6.setCell ⟨gb, 1, none⟩ (.slice va6 vn6 vc6)) := only_set (R := fun y => y = gb) (p := ⟨gb, 1, none⟩) rfl _
                  have F6 := hid (G6.out.box ob)
                  have E6 := hid (D6.out.set 1 (.slice va6 vn6 vc6))
                  have q1 := D6.out.cell (j := 1) rfl
                  have f1 := D6.out.free 1
                  clear hO hg ha ow hn2 ob G6 F4 E4 F5 E5 N4 N5 x0 x1 x2 x3 x4 x5 p1 NB pl nl
                  go_wp2
                  go_roundw
                  case rel => exact ⟨j + 1, ga, gn, gc, a5, n5, c5, va6, vn6, vc6, rfl, by go_num, by omega, E6.out, by rw [HG.out]; exact F6.out⟩
                  case measure => simp [intOf]; omega
                | false =>
                  have HG := hid (HO.out.trans (gstep_no (HM.out.trans rfl)))
                  have x0 := N4.out.cell (j := 0) rfl
                  have x1 := N4.out.cell (j := 1) rfl
                  have x2 := N4.out.cell (j := 2) rfl
                  have x3 := N4.out.cell (j := 3) rfl
                  have x4 := N4.out.cell (j := 4) rfl
                  have x5 := N4.out.cell (j := 5) rfl
                  have p0 := E4.out.cell (j := 0) rfl
                  have pl := E4.out.lt
                  have nl := N4.out.lt
                  have hb := below_new (o := .cells #[.int .i64 cc, .int .i64 ce, .int .i64 cn, .string clo, .string chi, .bool cex] 75) (w := w4) (Below.refl _ _)
                  have F5 := hid (F4.out.below hb)
                  have E5 := hid (E4.out.below hb)
                  have N5 := hid (N4.out.below hb)
                  have NB : Hid (Bk (w4.alloc (.cells #[.int .i64 cc, .int .i64 ce, .int .i64 cn, .string clo, .string chi, .bool cex] 75)) w4.heap.size 75 (lcs [((cc, ce, cn), (clo, chi), cex)])) := Bk.new w4 75 [.int .i64 cc, .int .i64 ce, .int .i64 cn, .string clo, .string chi, .bool cex]
                  clear hb
                  go_wp2_with (at_builtin; refine wpList_append_lk rfl _ _ rfl w1.heap.size _ gh rfl F5.out.own.hh w4.heap.size ((cc, ce, cn), (clo, chi), cex) rfl NB.out HGL.out.1 F5.out.bel.size ?_)
                  intro va6 vn6 vc6 w6 hO hg ha
                  have ow : Only (lbl (.slice a5 n5 c5) (.slice a6 n6 c6)) (w4.alloc (.cells #[.int .i64 cc, .int .i64 ce, .int .i64 cn, .string clo, .string chi, .bool cex] 75)) w6 := (only_of_grown hg (R := fun y => (Value.slice a5 n5 c5).ownBlock = some y) (fun k q => q)).mono (fun y _ q => .inl q)
                  have hn2 : ∀ y, lbl (.slice va6 vn6 vc6) (.slice a6 n6 c6) y → lbl (.slice a5 n5 c5) (.slice a6 n6 c6) y ∨ (w4.alloc (.cells #[.int .i64 cc, .int .i64 ce, .int .i64 cn, .string clo, .string chi, .bool cex] 75)).heap.size ≤ y := fun y hy => by
                    have key : (Value.slice va6 vn6 vc6).ownBlock = some y → lbl (.slice a5 n5 c5) (.slice a6 n6 c6) y ∨ (w4.alloc (.cells #[.int .i64 cc, .int .i64 ce, .int .i64 cn, .string clo, .string chi, .bool cex] 75)).heap.size ≤ y := fun q => by
                      rcases ha with h1 | h1
                      · rw [h1] at q; exact .inl (.inl q)
                      · rw [h1] at q; have e3 : w4.heap.size + 1 = y := Option.some.inj q; exact .inr (by simp; omega)
                    rcases hy with q | q
                    · exact key q
                    · exact .inl (.inr q)
                  have G6 := hid (F5.out.step ow (F5.out.own.pushH hO hg (by simpa using ha)) hn2)
                  have D6 := hid (E5.out.to ow (fun q => (F5.out.s1 _ q).1 rfl))
                  have N6 : Hid (Bk w6 gy 75 [.int .i64 cc, .int .i64 ce, .int .i64 cn, .string clo, .string chi, .bool cex]) := N5.out.to ow (fun q => NY.out _ q rfl)
                  have ob : Only (fun y => y = gb) w6 (w6.setCell ⟨gb, 0, none⟩ (.slice va6 vn6 vc6)) := only_set (R := fun y => y = gb) (p := ⟨gb, 0, none⟩) rfl _
                  have F6 := hid (G6.out.box ob)
                  have E6 := hid (D6.out.set 0 (.slice va6 vn6 vc6))
                  have q0 := D6.out.cell (j := 0) rfl
                  have f0 := D6.out.free 0
                  clear hO hg ha ow hn2 ob G6 F4 E4 F5 E5 N4 N5 x0 x1 x2 x3 x4 x5 p0 NB pl nl
                  have x0 := N6.out.cell (j := 0) rfl
                  have x1 := N6.out.cell (j := 1) rfl
                  have x2 := N6.out.cell (j := 2) rfl
                  have x3 := N6.out.cell (j := 3) rfl
                  have x4 := N6.out.cell (j := 4) rfl
                  have x5 := N6.out.cell (j := 5) rfl
                  have hb := below_new (o := .cells #[.int .i64 cc, .int .i64 ce, .int .i64 cn, .string clo, .string chi, .bool cex] 75) (w := (w6.setCell ⟨gb, 0, none⟩ (.slice va6 vn6 vc6))) (Below.refl _ _)
                  have F7 := hid (F6.out.below hb)
                  have E7 := hid (E6.out.below hb)
                  have NB : Hid (Bk ((w6.setCell ⟨gb, 0, none⟩ (.slice va6 vn6 vc6)).alloc (.cells #[.int .i64 cc, .int .i64 ce, .int .i64 cn, .string clo, .string chi, .bool cex] 75)) w6.heap.size 75 (lcs [((cc, ce, cn), (clo, chi), cex)])) := by
                    have := Bk.new (w6.setCell ⟨gb, 0, none⟩ (.slice va6 vn6 vc6)) 75 [.int .i64 cc, .int .i64 ce, .int .i64 cn, .string clo, .string chi, .bool cex]
                    rw [show (w6.setCell ⟨gb, 0, none⟩ (.slice va6 vn6 vc6)).heap.size = w6.heap.size by simp [World.setCell]] at this
                    exact this
                  clear hb F6 E6
                  go_wp2_with (at_builtin; refine wpList_append_lk rfl _ _ rfl w1.heap.size _ gg rfl F7.out.gr w6.heap.size ((cc, ce, cn), (clo, chi), cex) rfl NB.out HGL.out.2.2 F7.out.bel.size ?_)
                  intro a' n' c' w12 hO12 hg12 ha12
                  have F12 := hid (F7.out.stepG hO12 hg12 (by simpa [World.setCell] using ha12))
                  have E12 := hid (E7.out.to (only_of_grown hg12 (R := fun y => (Value.slice ga gn gc).ownBlock = some y) (fun k q => q)) (fun q => (F7.out.s2 _ q).1 rfl))
                  clear hO12 hg12 ha12 F7 E7 NB N6 x0 x1 x2 x3 x4 x5 q0 f0
                  go_wp2
                  go_roundw
                  case rel => exact ⟨j + 1, a', n', c', va6, vn6, vc6, a6, n6, c6, rfl, by go_num, by omega, E12.out, by rw [HG.out]; exact F12.out⟩
                  case measure => simp [intOf]; omega
          · have HG : Hid (grant (others (wl.take j) (c, e, n)) (ol, [], []) = freeV hl wl (c, e, n)) := by
              show _ = _
              rw [HF.out, List.take_of_length_le (by rw [← HNW.out]; omega)]
            rw [HG.out] at FF
            have I9 := hid (I1.out.below FF.out.bel)
            have g0 := EB.out.cell (j := 0) rfl
            have g1 := EB.out.cell (j := 1) rfl
            have z0 := I9.out.cell (j := 0) rfl
            have z1 := I9.out.cell (j := 1) rfl
            have e0 := I9.out.free 0
            have e1 := I9.out.free 1
            have d1 : ¬ gb = w.heap.size + 1 + 1 := by have h1 := FF.out.lo; have h2 := S1.out; omega
            have d2 : ¬ w.heap.size + 1 + 1 = gb := by have h1 := FF.out.lo; have h2 := S1.out; omega
            have HFI : Hid (∀ W, Only (fun y => y = w.heap.size + 1 + 1) wr W → LO W w.heap.size (.slice a5 n5 c5) (.slice a6 n6 c6) (freeV hl wl (c, e, n)).1 (freeV hl wl (c, e, n)).2.1 ∧ LW W w.heap.size (.slice ga gn gc) (freeV hl wl (c, e, n)).2.2 ∧ (∀ y, lbl (.slice a5 n5 c5) (.slice a6 n6 c6) y → (Value.slice ga gn gc).ownBlock ≠ some y) ∧ Below w.heap.size w W) := fun W hW => by
              have h1 := S1.out
              have h2 := B1.out.size
              have hb := B1.out.trans (FF.out.bel.mono B1.out.size)
              exact ⟨(FF.out.own.to hW (fun y hy q => by have := (FF.out.own.lt hy).1; omega)).base (by omega), (FF.out.gr.to hW (fun y hy q => by have := (FF.out.gr.lt hy).1; omega)).base (by omega), fun y hy => (FF.out.s1 y hy).2.1, hb.trans (hW.below hb.size (fun b hb q => by omega))⟩
            clear FF HG
            go_wp2
            try simp only [Exit.inBlock, Exit.then]
            refine bodyPost_ret (v := .tuple #[.agg #[.slice a5 n5 c5, .slice a6 n6 c6], .slice ga gn gc]) ?_ rfl ?_
            · exact results_locks2 rfl _ _ (w.heap.size + 1 + 1) rfl rfl (by go_simp) (by go_simp)
            · exact ⟨a5, n5, c5, a6, n6, c6, ga, gn, gc, rfl, HFI.out _ ((only_set (R := fun y => y = w.heap.size + 1 + 1) (p := ⟨w.heap.size + 1 + 1, 0, none⟩) rfl _).trans (only_set (R := fun y => y = w.heap.size + 1 + 1) (p := ⟨w.heap.size + 1 + 1, 1, none⟩) rfl _))⟩
end Go.Proofs.Ytcpdedpgjaimkaa
/-
  Tables of locks that are drawn: what is kept.
-/
namespace Go.Proofs.Ytcpdedpgjaimkaa
open Go.RowKit
set_option linter.unusedVariables false
theorem DGX.call {w v v' : World} {g : Nat} (h : DGX w v g) (hb : Below v.heap.size v v') : DGX w v' g := h.step (grownX_of hb _) (CuX_below h.cu hb)
/-- A table that is drawn, in its box b, beside the result's box; w the world ahead. -/
structure LD (w v : World) (g b : Nat) (h k : Value) (hl wl : List LK) : Prop where
  dg : DGX w v g
  k1 : Bk v w.heap.size 71 [.slice none 0 0, .slice none 0 0]
  kb : Bk v b 71 [h, k]
  lt : w.heap.size < b
  ow : LO v (w.heap.size + 1) h k hl wl
  nb : ∀ y, lbl h k y → y ≠ b
theorem LD.step {w v v' : World} {g b : Nat} {h k : Value} {hl wl : List LK} (H : LD w v g b h k hl wl) (hg : v.grownBy v' (some g)) (hc : Cu v' g) : LD w v' g b h k hl wl :=
  ⟨H.dg.step hg hc, H.k1.grownX hg (by have := H.dg.ng; omega), H.kb.grownX hg (by have := H.dg.ng; have := H.lt; omega), H.lt, H.ow.to (only_of_grown hg (R := fun y => y = g) (fun k e => (Option.some.inj e).symm)) (fun y hy e => by have := H.ow.lt hy; have := H.dg.ng; omega), H.nb⟩
theorem LD.call {w v v' : World} {g b : Nat} {h k : Value} {hl wl : List LK} (H : LD w v g b h k hl wl) (hb : Below v.heap.size v v') : LD w v' g b h k hl wl :=
  ⟨H.dg.call hb, H.k1.below hb, H.kb.below hb, H.lt, H.ow.below hb, H.nb⟩
theorem LD.put {w v : World} {g b : Nat} {h k h' k' : Value} {hl wl hl' wl' : List LK} (H : LD w v g b h k hl wl) (hO : LO v (w.heap.size + 1) h' k' hl' wl') (hn : ∀ y, lbl h' k' y → y ≠ b) : LD w ((v.setCell ⟨b, 0, none⟩ h').setCell ⟨b, 1, none⟩ k') g b h' k' hl' wl' := by
  have hlt := H.lt
  refine ⟨(H.dg.set (b := b) (by omega) 0 h').set (b := b) (by omega) 1 k', (H.k1.setOther (by omega) 0 h').setOther (by omega) 1 k', (H.kb.set 0 h').set 1 k', hlt, hO.to ((only_set (R := fun y => y = b) (p := ⟨b, 0, none⟩) rfl _).trans (only_set (R := fun y => y = b) (p := ⟨b, 1, none⟩) rfl _)) (fun y hy e => hn y hy e), hn⟩
theorem LD.cells {w v : World} {g b : Nat} {h k : Value} {hl wl : List LK} (H : LD w v g b h k hl wl) : v.cell? ⟨b, 0, none⟩ = some h ∧ v.cell? ⟨b, 1, none⟩ = some k := ⟨H.kb.cell (j := 0) rfl, H.kb.cell (j := 1) rfl⟩
theorem LD.lens {w v : World} {g b : Nat} {ya : Option Addr} {yn yc : Nat} {za : Option Addr} {zn zc : Nat} {hl wl : List LK} (H : LD w v g b (.slice ya yn yc) (.slice za zn zc) hl wl) : yn = hl.length ∧ zn = wl.length := ⟨(ownL_at H.ow.hh).1, (ownL_at H.ow.hw).1⟩
theorem lks_len {hl wl : List LK} (h : lksOk hl wl = true) : hl.length + wl.length ≤ 60 := ((lksOk_iff _ _).1 h).1
/-- The table asked for, in its box, beside the old one. -/
structure NX (w v : World) (g b gb : Nat) (h k : Value) (hl wl : List LK) (h' k' : Value) (hl' wl' : List LK) : Prop where
  old : LD w v g b h k hl wl
  box : Bk v gb 71 [h', k']
  own : LO v (w.heap.size + 1) h' k' hl' wl'
  far : ∀ y, lbl h' k' y → y ≠ b ∧ y ≠ gb
  gl : gb ≠ b ∧ gb ≠ w.heap.size ∧ gb ≠ g ∧ w.heap.size ≤ gb
theorem NX.mk' {w v : World} {g b gb : Nat} {h k : Value} {hl wl : List LK} {h' k' : Value} {hl' wl' : List LK} {x y : Value} (H : LD w v g b h k hl wl) (hb : Bk v gb 71 [x, y]) (hO : LO v (w.heap.size + 1) h' k' hl' wl') (far : ∀ y, lbl h' k' y → y ≠ b ∧ y ≠ gb) (hgl : gb ≠ b ∧ gb ≠ w.heap.size ∧ gb ≠ g ∧ w.heap.size ≤ gb) (hd : ∀ y, lbl h k y → y ≠ gb) :
    NX w ((v.setCell ⟨gb, 0, none⟩ h').setCell ⟨gb, 1, none⟩ k') g b gb h k hl wl h' k' hl' wl' := by
  have ho : Only (fun y => y = gb) v ((v.setCell ⟨gb, 0, none⟩ h').setCell ⟨gb, 1, none⟩ k') := (only_set (R := fun y => y = gb) (p := ⟨gb, 0, none⟩) rfl _).trans (only_set (R := fun y => y = gb) (p := ⟨gb, 1, none⟩) rfl _)
  obtain ⟨g1, g2, g3, g4⟩ := hgl
  exact ⟨⟨(H.dg.set (b := gb) g4 0 h').set (b := gb) g4 1 k', (H.k1.setOther (by omega) 0 h').setOther (by omega) 1 k', (H.kb.setOther (by omega) 0 h').setOther (by omega) 1 k', H.lt, H.ow.to ho (fun y hy e => hd y hy e), H.nb⟩, (hb.set 0 h').set 1 k', hO.to ho (fun y hy e => (far y hy).2 e), far, ⟨g1, g2, g3, g4⟩⟩
end Go.Proofs.Ytcpdedpgjaimkaa
/-
  Tables of locks that are drawn: l07Draw.
-/
namespace Go.Proofs.Ytcpdedpgjaimkaa
open Go.RowKit
set_option linter.unusedVariables false
set_option maxHeartbeats 16000000 in
set_option maxRecDepth 20000 in
theorem l07Draw_any (g : Nat) (w : World) (h : Cu w g) : Calls Try.prog 135 #[.pointer (some ⟨g, 0, none⟩)] w fun r w' => (∃ (ha : Option Addr) (hn hc : Nat) (wa : Option Addr) (wn wc : Nat) (hl wl : List LK), r = .returned (.agg #[.slice ha hn hc, .slice wa wn wc]) ∧ LO w' (w.heap.size + 1) (.slice ha hn hc) (.slice wa wn wc) hl wl ∧ lksOk hl wl = true) ∧ w.grownBy w' (some g) ∧ Cu w' g := by
  have X0 : Hid (LD w ((w.alloc (.cells #[.slice none 0 0, .slice none 0 0] 71)).alloc (.cells #[.slice none 0 0, .slice none 0 0] 71)) g (w.heap.size + 1) (.slice none 0 0) (.slice none 0 0) [] []) := by
    refine ⟨((DGX.start h).alloc _).alloc _, (Bk.new w 71 [.slice none 0 0, .slice none 0 0]).alloc _, ?_, by omega, ⟨lw_nil _ _, lw_nil _ _, fun y e => by cases e⟩, fun y hy => by rcases hy with e | e <;> cases e⟩
    have := Bk.new (w.alloc (.cells #[.slice none 0 0, .slice none 0 0] 71)) 71 [.slice none 0 0, .slice none 0 0]
    simpa using this
  clear h
  go_enter Try.func135, Try.ntmps135
  go_wp2_with fail
  refine (below_any g 9 _ X0.out.dg.cu (by omega) (by omega)).mono ?_
  generalize (w.alloc (.cells #[.slice none 0 0, .slice none 0 0] 71)).alloc (.cells #[.slice none 0 0, .slice none 0 0] 71) = U at *
  obtain ⟨b, HB⟩ : ∃ b, w.heap.size + 1 = b := ⟨_, rfl⟩
  rw [HB] at X0
  rw [HB]
  have HB0 : Hid (w.heap.size + 1 = b) := HB
  clear HB
  rintro r w1 ⟨⟨t, rfl, ht0, ht1⟩, hg, hc⟩
  have X1 := hid (X0.out.step hg hc)
  clear X0 hg hc
  obtain ⟨j0, hj0⟩ : ∃ j0 : Nat, t = (j0 : Int) := ⟨t.toNat, by omega⟩
  subst hj0
  go_wp2_with fail
  go_loopw [4] (fun i wr => ∃ (j : Nat) (ha : Option Addr) (hn hc : Nat) (wa : Option Addr) (wn wc : Nat) (hl wl : List LK), i = .int .i64 j ∧ j ≤ 9 ∧ Hid (LD w wr g b (.slice ha hn hc) (.slice wa wn wc) hl wl) ∧ Hid (lksOk hl wl = true)) (fun i _ => (intOf i).toNat)
  case atStart => exact ⟨j0, none, 0, 0, none, 0, 0, [], [], rfl, by omega, X1.out, (show lksOk [] [] = true by rfl)⟩
  case round =>
    obtain ⟨j, ha, hn, hc, wa, wn, wc, hl, wl, rfl, hj9, HX, HK⟩ := hrel
    clear X1
    by_cases hj : 0 < j
    · have hj' : (0 : Int) < (j : Int) := by omega
      have hsz : hn ≤ 1048576 ∧ wn ≤ 1048576 := by
        have h1 := HX.out.lens
        have h2 := lks_len HK.out
        omega
      obtain ⟨m0, m1⟩ := hsz
      go_wp2_with fail
      refine (below_any g 5 _ HX.out.dg.cu (by omega) (by omega)).mono ?_
      rintro r w4 ⟨⟨q, rfl, hq0, hq1⟩, hg, hcu⟩
      have X4 := hid (HX.out.step hg hcu)
      clear HX hg hcu
      have XD0 : Hid (LD w w4.drew g b (.slice ha hn hc) (.slice wa wn wc) hl wl) := X4.out.call (below_drew _)
      by_cases hq : q = 0
      · subst hq
        clear X4
        go_wp2_with fail
        refine wp_region_noPanic ?_
        refine wp_region_held_drew (S := fun _ => True) (by kernel_rfl) (trivial) (fun hHeld => ?_)
        simp only [List.size_toArray, List.length_cons, List.length_nil, Array.replicate_succ, Array.replicate_zero, Nat.reduceAdd, List.push_toArray, List.nil_append, List.cons_append]
        refine wpAnyH_take (i := 1) (v := (.pointer (some ⟨g, 0, none⟩))) rfl (by kernel_rfl) (by kernel_rfl) (by kernel_rfl) (fun _ _ _ h => h) (Or.inl ⟨by rfl, ?_⟩) (by assumption) ?_
        · intro w hSw
          (try dsimp only at hSw)
          go_simp
        try simp only [List.getElem_toArray]
        try simp only [List.getElem_cons_succ]
        try simp only [List.getElem_cons_zero]
        try simp only [Act.put]
        try simp only [List.setIfInBounds_toArray]
        try simp only [List.set_cons_succ]
        try simp only [List.set_cons_zero]
        refine wpAnyH_ready (rs := [0, 2]) (by kernel_rfl) (by simp) ?_
        refine AllReadyH.cons rfl (fun K1 hK => ?_) (AllReadyH.cons rfl (fun K1 hK => ?_) AllReadyH.nil)
        · skip
          have c0 := XD0.out.kb.cell (j := 0) rfl
          have c1 := XD0.out.kb.cell (j := 1) rfl
          go_simp
          refine hK.out _ _ ?_ (fun hHeld => ?_)
          · trivial
          clear hK K1
          try simp only [List.getElem_toArray]
          try simp only [List.getElem_cons_succ]
          try simp only [List.getElem_cons_zero]
          try simp only [Act.put]
          try simp only [List.setIfInBounds_toArray]
          try simp only [List.set_cons_succ]
          try simp only [List.set_cons_zero]
          clear c0 c1
          refine wpAnyH_ready (rs := [2]) (by kernel_rfl) (by simp) ?_
          refine AllReadyH.cons rfl (fun K1 hK => ?_) AllReadyH.nil
          go_simp
          refine (l07Tx_any g _ XD0.out.dg.cu).mono ?_
          rintro r u1 ⟨⟨xc, xe, xn, rfl⟩, hg, hcu⟩
          have XD1 := hid (XD0.out.step hg hcu)
          clear XD0 hg hcu
          go_wp2_with fail
          refine hK.out _ _ ?_ (fun hHeld => ?_)
          · trivial
          clear hK K1
          try simp only [List.getElem_toArray]
          try simp only [List.getElem_cons_succ]
          try simp only [List.getElem_cons_zero]
          try simp only [Act.put]
          try simp only [List.setIfInBounds_toArray]
          try simp only [List.set_cons_succ]
          try simp only [List.set_cons_zero]
          refine wpAnyH_ready (rs := [3]) (by kernel_rfl) (by simp) ?_
          refine AllReadyH.cons rfl (fun K1 hK => ?_) AllReadyH.nil
          go_simp
          refine (specLockFree_any (fun _ => True) (fun _ => True) ha hn hc wa wn wc hl wl xc xe xn _ XD1.out.ow.hh.lr XD1.out.ow.hw.lr m0 m1).mono ?_
          rintro r u9 ⟨a9, n9, c9, b9, m9, d9, ga, gm, gd, rfl, hO, -, -, hbC⟩
          have XD9 := hid (XD1.out.call hbC)
          have O9 : Hid (LO u9 (w.heap.size + 1) (.slice a9 n9 c9) (.slice b9 m9 d9) (freeV hl wl (xc, xe, xn)).1 (freeV hl wl (xc, xe, xn)).2.1) := hO.base (by have := XD1.out.kb.lt; have := XD1.out.lt; omega)
          have F9 : Hid (∀ y, lbl (.slice a9 n9 c9) (.slice b9 m9 d9) y → y ≠ b) := fun y hy => by have h1 := (hO.lt hy).1; have h2 := XD1.out.kb.lt; omega
          clear hO hbC XD1
          go_wp2_with fail
          refine hK.out _ _ ?_ (fun hHeld => ?_)
          · trivial
          clear hK K1
          try simp only [List.getElem_toArray]
          try simp only [List.getElem_cons_succ]
          try simp only [List.getElem_cons_zero]
          try simp only [Act.put]
          try simp only [List.setIfInBounds_toArray]
          try simp only [List.set_cons_succ]
          try simp only [List.set_cons_zero]
          refine wpAnyH_take (i := 4) (v := (.tuple #[.agg #[.slice a9 n9 c9, .slice b9 m9 d9], .slice ga gm gd])) rfl (by kernel_rfl) (by kernel_rfl) (by kernel_rfl) (fun _ _ _ h => h) (Or.inl ⟨by rfl, ?_⟩) (by assumption) ?_
          · intro w hSw
            (try dsimp only at hSw)
            go_simp
          try simp only [List.getElem_toArray]
          try simp only [List.getElem_cons_succ]
          try simp only [List.getElem_cons_zero]
          try simp only [Act.put]
          try simp only [List.setIfInBounds_toArray]
          try simp only [List.set_cons_succ]
          try simp only [List.set_cons_zero]
          refine wpAnyH_take (i := 5) (v := (.agg #[.slice a9 n9 c9, .slice b9 m9 d9])) rfl (by kernel_rfl) (by kernel_rfl) (by kernel_rfl) (fun _ _ _ h => h) (Or.inl ⟨by rfl, ?_⟩) (by assumption) ?_
          · intro w hSw
            (try dsimp only at hSw)
            go_simp
          try simp only [List.getElem_toArray]
          try simp only [List.getElem_cons_succ]
          try simp only [List.getElem_cons_zero]
          try simp only [Act.put]
          try simp only [List.setIfInBounds_toArray]
          try simp only [List.set_cons_succ]
          try simp only [List.set_cons_zero]
          refine wpAnyH_take (i := 6) (v := (.slice ga gm gd)) rfl (by kernel_rfl) (by kernel_rfl) (by kernel_rfl) (fun _ _ _ h => h) (Or.inl ⟨by rfl, ?_⟩) (by assumption) ?_
          · intro w hSw
            (try dsimp only at hSw)
            go_simp
          try simp only [List.getElem_toArray]
          try simp only [List.getElem_cons_succ]
          try simp only [List.getElem_cons_zero]
          try simp only [Act.put]
          try simp only [List.setIfInBounds_toArray]
          try simp only [List.set_cons_succ]
          try simp only [List.set_cons_zero]
          have c0 := XD9.out.kb.cell (j := 0) rfl
          have c1 := XD9.out.kb.cell (j := 1) rfl
          have f0 := XD9.out.kb.free 0
          have f1 := XD9.out.kb.free 1
          have X9 : Hid (LD w ((u9.setCell ⟨b, 0, none⟩ (.slice a9 n9 c9)).setCell ⟨b, 1, none⟩ (.slice b9 m9 d9)) g b (.slice a9 n9 c9) (.slice b9 m9 d9) (freeV hl wl (xc, xe, xn)).1 (freeV hl wl (xc, xe, xn)).2.1) := XD9.out.put O9.out F9.out
          refine wpAnyH_ready (rs := [7]) (by kernel_rfl) (by simp) ?_
          refine AllReadyH.cons rfl (fun K1 hK => ?_) AllReadyH.nil
          go_simp
          try go_wp2_with fail
          refine hK.out _ _ ?_ (fun hHeld => ?_)
          · trivial
          clear hK K1
          try simp only [List.getElem_toArray]
          try simp only [List.getElem_cons_succ]
          try simp only [List.getElem_cons_zero]
          try simp only [Act.put]
          try simp only [List.setIfInBounds_toArray]
          try simp only [List.set_cons_succ]
          try simp only [List.set_cons_zero]
          refine wpAnyH_done (by kernel_rfl) ?_ _
          refine NoPanic.normal ?_
          clear c0 c1 f0 f1 XD9 O9 F9
          generalize ((u9.setCell ⟨b, 0, none⟩ (.slice a9 n9 c9)).setCell ⟨b, 1, none⟩ (.slice b9 m9 d9)) = V9 at *
          have K9 := hid (freeV_ok (xc, xe, xn) HK.out).1
          go_wp2
          go_roundw
          case rel => exact ⟨j - 1, _, _, _, _, _, _, _, _, by first | rfl | (congr 1; omega) | go_num, by omega, X9.out, K9.out⟩
          case measure => simp [intOf]; omega
        · skip
          go_simp
          refine (l07Tx_any g _ XD0.out.dg.cu).mono ?_
          rintro r u1 ⟨⟨xc, xe, xn, rfl⟩, hg, hcu⟩
          have XD1 := hid (XD0.out.step hg hcu)
          clear XD0 hg hcu
          go_wp2_with fail
          refine hK.out _ _ ?_ (fun hHeld => ?_)
          · trivial
          clear hK K1
          try simp only [List.getElem_toArray]
          try simp only [List.getElem_cons_succ]
          try simp only [List.getElem_cons_zero]
          try simp only [Act.put]
          try simp only [List.setIfInBounds_toArray]
          try simp only [List.set_cons_succ]
          try simp only [List.set_cons_zero]
          refine wpAnyH_ready (rs := [0]) (by kernel_rfl) (by simp) ?_
          refine AllReadyH.cons rfl (fun K1 hK => ?_) AllReadyH.nil
          have c0 := XD1.out.kb.cell (j := 0) rfl
          have c1 := XD1.out.kb.cell (j := 1) rfl
          go_simp
          refine hK.out _ _ ?_ (fun hHeld => ?_)
          · trivial
          clear hK K1
          try simp only [List.getElem_toArray]
          try simp only [List.getElem_cons_succ]
          try simp only [List.getElem_cons_zero]
          try simp only [Act.put]
          try simp only [List.setIfInBounds_toArray]
          try simp only [List.set_cons_succ]
          try simp only [List.set_cons_zero]
          clear c0 c1
          refine wpAnyH_ready (rs := [3]) (by kernel_rfl) (by simp) ?_
          refine AllReadyH.cons rfl (fun K1 hK => ?_) AllReadyH.nil
          go_simp
          refine (specLockFree_any (fun _ => True) (fun _ => True) ha hn hc wa wn wc hl wl xc xe xn _ XD1.out.ow.hh.lr XD1.out.ow.hw.lr m0 m1).mono ?_
          rintro r u9 ⟨a9, n9, c9, b9, m9, d9, ga, gm, gd, rfl, hO, -, -, hbC⟩
          have XD9 := hid (XD1.out.call hbC)
          have O9 : Hid (LO u9 (w.heap.size + 1) (.slice a9 n9 c9) (.slice b9 m9 d9) (freeV hl wl (xc, xe, xn)).1 (freeV hl wl (xc, xe, xn)).2.1) := hO.base (by have := XD1.out.kb.lt; have := XD1.out.lt; omega)
          have F9 : Hid (∀ y, lbl (.slice a9 n9 c9) (.slice b9 m9 d9) y → y ≠ b) := fun y hy => by have h1 := (hO.lt hy).1; have h2 := XD1.out.kb.lt; omega
          clear hO hbC XD1
          go_wp2_with fail
          refine hK.out _ _ ?_ (fun hHeld => ?_)
          · trivial
          clear hK K1
          try simp only [List.getElem_toArray]
          try simp only [List.getElem_cons_succ]
          try simp only [List.getElem_cons_zero]
          try simp only [Act.put]
          try simp only [List.setIfInBounds_toArray]
          try simp only [List.set_cons_succ]
          try simp only [List.set_cons_zero]
          refine wpAnyH_take (i := 4) (v := (.tuple #[.agg #[.slice a9 n9 c9, .slice b9 m9 d9], .slice ga gm gd])) rfl (by kernel_rfl) (by kernel_rfl) (by kernel_rfl) (fun _ _ _ h => h) (Or.inl ⟨by rfl, ?_⟩) (by assumption) ?_
          · intro w hSw
            (try dsimp only at hSw)
            go_simp
          try simp only [List.getElem_toArray]
          try simp only [List.getElem_cons_succ]
          try simp only [List.getElem_cons_zero]
          try simp only [Act.put]
          try simp only [List.setIfInBounds_toArray]
          try simp only [List.set_cons_succ]
          try simp only [List.set_cons_zero]
          refine wpAnyH_take (i := 5) (v := (.agg #[.slice a9 n9 c9, .slice b9 m9 d9])) rfl (by kernel_rfl) (by kernel_rfl) (by kernel_rfl) (fun _ _ _ h => h) (Or.inl ⟨by rfl, ?_⟩) (by assumption) ?_
          · intro w hSw
            (try dsimp only at hSw)
            go_simp
          try simp only [List.getElem_toArray]
          try simp only [List.getElem_cons_succ]
          try simp only [List.getElem_cons_zero]
          try simp only [Act.put]
          try simp only [List.setIfInBounds_toArray]
          try simp only [List.set_cons_succ]
          try simp only [List.set_cons_zero]
          refine wpAnyH_take (i := 6) (v := (.slice ga gm gd)) rfl (by kernel_rfl) (by kernel_rfl) (by kernel_rfl) (fun _ _ _ h => h) (Or.inl ⟨by rfl, ?_⟩) (by assumption) ?_
          · intro w hSw
            (try dsimp only at hSw)
            go_simp
          try simp only [List.getElem_toArray]
          try simp only [List.getElem_cons_succ]
          try simp only [List.getElem_cons_zero]
          try simp only [Act.put]
          try simp only [List.setIfInBounds_toArray]
          try simp only [List.set_cons_succ]
          try simp only [List.set_cons_zero]
          have c0 := XD9.out.kb.cell (j := 0) rfl
          have c1 := XD9.out.kb.cell (j := 1) rfl
          have f0 := XD9.out.kb.free 0
          have f1 := XD9.out.kb.free 1
          have X9 : Hid (LD w ((u9.setCell ⟨b, 0, none⟩ (.slice a9 n9 c9)).setCell ⟨b, 1, none⟩ (.slice b9 m9 d9)) g b (.slice a9 n9 c9) (.slice b9 m9 d9) (freeV hl wl (xc, xe, xn)).1 (freeV hl wl (xc, xe, xn)).2.1) := XD9.out.put O9.out F9.out
          refine wpAnyH_ready (rs := [7]) (by kernel_rfl) (by simp) ?_
          refine AllReadyH.cons rfl (fun K1 hK => ?_) AllReadyH.nil
          go_simp
          try go_wp2_with fail
          refine hK.out _ _ ?_ (fun hHeld => ?_)
          · trivial
          clear hK K1
          try simp only [List.getElem_toArray]
          try simp only [List.getElem_cons_succ]
          try simp only [List.getElem_cons_zero]
          try simp only [Act.put]
          try simp only [List.setIfInBounds_toArray]
          try simp only [List.set_cons_succ]
          try simp only [List.set_cons_zero]
          refine wpAnyH_done (by kernel_rfl) ?_ _
          refine NoPanic.normal ?_
          clear c0 c1 f0 f1 XD9 O9 F9
          generalize ((u9.setCell ⟨b, 0, none⟩ (.slice a9 n9 c9)).setCell ⟨b, 1, none⟩ (.slice b9 m9 d9)) = V9 at *
          have K9 := hid (freeV_ok (xc, xe, xn) HK.out).1
          go_wp2
          go_roundw
          case rel => exact ⟨j - 1, _, _, _, _, _, _, _, _, by first | rfl | (congr 1; omega) | go_num, by omega, X9.out, K9.out⟩
          case measure => simp [intOf]; omega
      · have hq2 : (q == 0) = false := by simpa using hq
        go_wp2_with fail
        go_cut [5, 6] (fun x y v => ∃ V gb ya yn yc za zn zc xl, V = v ∧ x = .pointer (some ⟨gb, 0, none⟩) ∧ y = .int .i64 (askC hl wl xl) ∧ NX w V g b gb (.slice ha hn hc) (.slice wa wn wc) hl wl (.slice ya yn yc) (.slice za zn zc) (askT hl wl xl).1 (askT hl wl xl).2)
        case first =>
          refine wp_region_noPanic ?_
          refine wp_region_held_drew (S := fun v => v.cell? ⟨b, 0, none⟩ = some (.slice ha hn hc) ∧ v.cell? ⟨b, 1, none⟩ = some (.slice wa wn wc)) (by kernel_rfl) (XD0.out.cells) (fun hHeld => ?_)
          simp only [List.size_toArray, List.length_cons, List.length_nil, Array.replicate_succ, Array.replicate_zero, Nat.reduceAdd, List.push_toArray, List.nil_append, List.cons_append]
          refine wpAnyH_take (i := 0) (v := (.agg #[.slice ha hn hc, .slice wa wn wc])) rfl (by kernel_rfl) (by kernel_rfl) (by kernel_rfl) (fun _ _ _ h => h) (Or.inl ⟨by rfl, ?_⟩) (by assumption) ?_
          · intro w hSw
            (try dsimp only at hSw)
            go_simp
          try simp only [List.getElem_toArray]
          try simp only [List.getElem_cons_succ]
          try simp only [List.getElem_cons_zero]
          try simp only [Act.put]
          try simp only [List.setIfInBounds_toArray]
          try simp only [List.set_cons_succ]
          try simp only [List.set_cons_zero]
          refine wpAnyH_take (i := 1) (v := (.pointer (some ⟨g, 0, none⟩))) rfl (by kernel_rfl) (by kernel_rfl) (by kernel_rfl) (fun _ _ _ h => h) (Or.inl ⟨by rfl, ?_⟩) (by assumption) ?_
          · intro w hSw
            (try dsimp only at hSw)
            go_simp
          try simp only [List.getElem_toArray]
          try simp only [List.getElem_cons_succ]
          try simp only [List.getElem_cons_zero]
          try simp only [Act.put]
          try simp only [List.setIfInBounds_toArray]
          try simp only [List.set_cons_succ]
          try simp only [List.set_cons_zero]
          refine wpAnyH_ready (rs := [2, 7]) (by kernel_rfl) (by simp) ?_
          refine AllReadyH.cons rfl (fun K1 hK => ?_) (AllReadyH.cons rfl (fun K1 hK => ?_) AllReadyH.nil)
          · skip
            go_simp
            refine (l07Lock_any g _ XD0.out.dg.cu).mono ?_
            rintro r q1 ⟨⟨xc, xe, xn, lo, hi, ex, rfl⟩, hg, hcu⟩
            have XD1 := hid (XD0.out.step hg hcu)
            clear hg hcu XD0
            go_wp2_with fail
            refine hK.out _ _ ?_ (fun hHeld => ?_)
            · exact XD1.out.cells
            clear hK K1
            try simp only [List.getElem_toArray]
            try simp only [List.getElem_cons_succ]
            try simp only [List.getElem_cons_zero]
            try simp only [Act.put]
            try simp only [List.setIfInBounds_toArray]
            try simp only [List.set_cons_succ]
            try simp only [List.set_cons_zero]
            refine wpAnyH_ready (rs := [3, 7]) (by kernel_rfl) (by simp) ?_
            refine AllReadyH.cons rfl (fun K1 hK => ?_) (AllReadyH.cons rfl (fun K1 hK => ?_) AllReadyH.nil)
            · skip
              go_simp
              refine (specLockAsk_any (fun _ => True) (fun _ => True) ha hn hc wa wn wc hl wl xc xe xn lo hi ex _ XD1.out.ow.hh.lr XD1.out.ow.hw.lr m0 m1).mono ?_
              rintro r q2 ⟨a9, n9, c9, b9, m9, d9, rfl, hO, hbC⟩
              have XD2 := hid (XD1.out.call hbC)
              have O9 : Hid (LO q2 (w.heap.size + 1) (.slice a9 n9 c9) (.slice b9 m9 d9) (askT hl wl ((xc, xe, xn), (lo, hi), ex)).1 (askT hl wl ((xc, xe, xn), (lo, hi), ex)).2) := hO.base (by have := XD1.out.kb.lt; have := XD1.out.lt; omega)
              have F8 : Hid (∀ y, lbl (.slice a9 n9 c9) (.slice b9 m9 d9) y → y ≠ b) := fun y hy => by have h1 := (hO.lt hy).1; have h2 := XD1.out.kb.lt; omega
              clear hO hbC XD1
              go_wp2_with fail
              refine hK.out _ _ ?_ (fun hHeld => ?_)
              · exact XD2.out.cells
              clear hK K1
              try simp only [List.getElem_toArray]
              try simp only [List.getElem_cons_succ]
              try simp only [List.getElem_cons_zero]
              try simp only [Act.put]
              try simp only [List.setIfInBounds_toArray]
              try simp only [List.set_cons_succ]
              try simp only [List.set_cons_zero]
              refine wpAnyH_take (i := 4) (v := (.tuple #[.agg #[.slice a9 n9 c9, .slice b9 m9 d9], .int .i64 (askC hl wl ((xc, xe, xn), (lo, hi), ex))])) rfl (by kernel_rfl) (by kernel_rfl) (by kernel_rfl) (fun _ _ _ h => h) (Or.inl ⟨by rfl, ?_⟩) (by assumption) ?_
              · intro w hSw
                (try dsimp only at hSw)
                go_simp
              try simp only [List.getElem_toArray]
              try simp only [List.getElem_cons_succ]
              try simp only [List.getElem_cons_zero]
              try simp only [Act.put]
              try simp only [List.setIfInBounds_toArray]
              try simp only [List.set_cons_succ]
              try simp only [List.set_cons_zero]
              refine wpAnyH_take (i := 5) (v := (.agg #[.slice a9 n9 c9, .slice b9 m9 d9])) rfl (by kernel_rfl) (by kernel_rfl) (by kernel_rfl) (fun _ _ _ h => h) (Or.inl ⟨by rfl, ?_⟩) (by assumption) ?_
              · intro w hSw
                (try dsimp only at hSw)
                go_simp
              try simp only [List.getElem_toArray]
              try simp only [List.getElem_cons_succ]
              try simp only [List.getElem_cons_zero]
              try simp only [Act.put]
              try simp only [List.setIfInBounds_toArray]
              try simp only [List.set_cons_succ]
              try simp only [List.set_cons_zero]
              refine wpAnyH_take (i := 6) (v := (.int .i64 (askC hl wl ((xc, xe, xn), (lo, hi), ex)))) rfl (by kernel_rfl) (by kernel_rfl) (by kernel_rfl) (fun _ _ _ h => h) (Or.inl ⟨by rfl, ?_⟩) (by assumption) ?_
              · intro w hSw
                (try dsimp only at hSw)
                go_simp
              try simp only [List.getElem_toArray]
              try simp only [List.getElem_cons_succ]
              try simp only [List.getElem_cons_zero]
              try simp only [Act.put]
              try simp only [List.setIfInBounds_toArray]
              try simp only [List.set_cons_succ]
              try simp only [List.set_cons_zero]
              refine wpAnyH_ready (rs := [7]) (by kernel_rfl) (by simp) ?_
              refine AllReadyH.cons rfl (fun K1 hK => ?_) AllReadyH.nil
              go_simp
              try go_wp2_with fail
              have G9 : Hid (q2.heap.size ≠ b ∧ q2.heap.size ≠ w.heap.size ∧ q2.heap.size ≠ g ∧ w.heap.size ≤ q2.heap.size) := by have h1 : b < q2.heap.size := XD2.out.kb.lt; have h2 := XD2.out.lt; have h3 := XD2.out.dg.ng; refine ⟨?_, ?_, ?_, ?_⟩ <;> omega
              have H9 : Hid (∀ y, lbl (.slice ha hn hc) (.slice wa wn wc) y → y ≠ q2.heap.size) := fun y hy => by have h1 : y < q2.heap.size := (XD2.out.ow.lt hy).2; omega
              have hbA := below_new (o := .cells #[.slice none 0 0, .slice none 0 0] 71) (w := q2) (Below.refl _ _)
              have XD3 : Hid (LD w (q2.alloc (.cells #[.slice none 0 0, .slice none 0 0] 71)) g b (.slice ha hn hc) (.slice wa wn wc) hl wl) := XD2.out.call hbA
              have E3 := hid (Bk.new q2 71 [.slice none 0 0, .slice none 0 0])
              have F9 : Hid (∀ y, lbl (.slice a9 n9 c9) (.slice b9 m9 d9) y → y ≠ b ∧ y ≠ q2.heap.size) := fun y hy => ⟨F8.out y hy, by have h1 := (O9.out.lt hy).2; omega⟩
              have OX := hid (O9.out.below hbA)
              clear O9
              have O9 := OX
              clear OX
              clear hbA XD2
              refine hK.out _ _ ?_ (fun hHeld => ?_)
              · exact XD3.out.cells
              clear hK K1
              try simp only [List.getElem_toArray]
              try simp only [List.getElem_cons_succ]
              try simp only [List.getElem_cons_zero]
              try simp only [Act.put]
              try simp only [List.setIfInBounds_toArray]
              try simp only [List.set_cons_succ]
              try simp only [List.set_cons_zero]
              generalize q2.alloc (.cells #[.slice none 0 0, .slice none 0 0] 71) = v8 at *
              generalize q2.heap.size = gb at *
              have z0 := E3.out.cell (j := 0) rfl
              have z1 := E3.out.cell (j := 1) rfl
              have e0 := E3.out.free 0
              have e1 := E3.out.free 1
              have NF : Hid (NX w ((v8.setCell ⟨gb, 0, none⟩ (.slice a9 n9 c9)).setCell ⟨gb, 1, none⟩ (.slice b9 m9 d9)) g b gb (.slice ha hn hc) (.slice wa wn wc) hl wl (.slice a9 n9 c9) (.slice b9 m9 d9) (askT hl wl ((xc, xe, xn), (lo, hi), ex)).1 (askT hl wl ((xc, xe, xn), (lo, hi), ex)).2) := NX.mk' XD3.out E3.out O9.out F9.out G9.out H9.out
              refine wpAnyH_ready (rs := [8]) (by kernel_rfl) (by simp) ?_
              refine AllReadyH.cons rfl (fun K1 hK => ?_) AllReadyH.nil
              go_simp
              try go_wp2_with fail
              refine hK.out _ _ ?_ (fun hHeld => ?_)
              · exact NF.out.old.cells
              clear hK K1
              try simp only [List.getElem_toArray]
              try simp only [List.getElem_cons_succ]
              try simp only [List.getElem_cons_zero]
              try simp only [Act.put]
              try simp only [List.setIfInBounds_toArray]
              try simp only [List.set_cons_succ]
              try simp only [List.set_cons_zero]
              clear z0 z1 e0 e1
              refine wpAnyH_take (i := 9) (v := (.int .i64 (askC hl wl ((xc, xe, xn), (lo, hi), ex)))) rfl (by kernel_rfl) (by kernel_rfl) (by kernel_rfl) (fun _ _ _ h => h) (Or.inl ⟨by rfl, ?_⟩) (by assumption) ?_
              · intro w hSw
                (try dsimp only at hSw)
                go_simp
              try simp only [List.getElem_toArray]
              try simp only [List.getElem_cons_succ]
              try simp only [List.getElem_cons_zero]
              try simp only [Act.put]
              try simp only [List.setIfInBounds_toArray]
              try simp only [List.set_cons_succ]
              try simp only [List.set_cons_zero]
              refine wpAnyH_done (by kernel_rfl) ?_ _
              refine NoPanic.normal ?_
              go_wp2_with fail
              go_meet
              exact ⟨_, _, _, _, _, _, _, _, ((xc, xe, xn), (lo, hi), ex), rfl, by simp, by simp, NF.out⟩
            · skip
              go_simp
              try go_wp2_with fail
              have G9 : Hid (q1.heap.size ≠ b ∧ q1.heap.size ≠ w.heap.size ∧ q1.heap.size ≠ g ∧ w.heap.size ≤ q1.heap.size) := by have h1 : b < q1.heap.size := XD1.out.kb.lt; have h2 := XD1.out.lt; have h3 := XD1.out.dg.ng; refine ⟨?_, ?_, ?_, ?_⟩ <;> omega
              have H9 : Hid (∀ y, lbl (.slice ha hn hc) (.slice wa wn wc) y → y ≠ q1.heap.size) := fun y hy => by have h1 : y < q1.heap.size := (XD1.out.ow.lt hy).2; omega
              have hbA := below_new (o := .cells #[.slice none 0 0, .slice none 0 0] 71) (w := q1) (Below.refl _ _)
              have XD2 : Hid (LD w (q1.alloc (.cells #[.slice none 0 0, .slice none 0 0] 71)) g b (.slice ha hn hc) (.slice wa wn wc) hl wl) := XD1.out.call hbA
              have E2 := hid (Bk.new q1 71 [.slice none 0 0, .slice none 0 0])
              clear hbA XD1
              refine hK.out _ _ ?_ (fun hHeld => ?_)
              · exact XD2.out.cells
              clear hK K1
              try simp only [List.getElem_toArray]
              try simp only [List.getElem_cons_succ]
              try simp only [List.getElem_cons_zero]
              try simp only [Act.put]
              try simp only [List.setIfInBounds_toArray]
              try simp only [List.set_cons_succ]
              try simp only [List.set_cons_zero]
              generalize q1.alloc (.cells #[.slice none 0 0, .slice none 0 0] 71) = v8 at *
              generalize q1.heap.size = gb at *
              refine wpAnyH_ready (rs := [3]) (by kernel_rfl) (by simp) ?_
              refine AllReadyH.cons rfl (fun K1 hK => ?_) AllReadyH.nil
              go_simp
              refine (specLockAsk_any (fun _ => True) (fun _ => True) ha hn hc wa wn wc hl wl xc xe xn lo hi ex _ XD2.out.ow.hh.lr XD2.out.ow.hw.lr m0 m1).mono ?_
              rintro r q2 ⟨a9, n9, c9, b9, m9, d9, rfl, hO, hbC⟩
              have XD3 := hid (XD2.out.call hbC)
              have O9 : Hid (LO q2 (w.heap.size + 1) (.slice a9 n9 c9) (.slice b9 m9 d9) (askT hl wl ((xc, xe, xn), (lo, hi), ex)).1 (askT hl wl ((xc, xe, xn), (lo, hi), ex)).2) := hO.base (by have := XD2.out.kb.lt; have := XD2.out.lt; omega)
              have F8 : Hid (∀ y, lbl (.slice a9 n9 c9) (.slice b9 m9 d9) y → y ≠ b) := fun y hy => by have h1 := (hO.lt hy).1; have h2 := XD2.out.kb.lt; omega
              have E3 := hid (E2.out.below hbC)
              have F9 : Hid (∀ y, lbl (.slice a9 n9 c9) (.slice b9 m9 d9) y → y ≠ b ∧ y ≠ gb) := fun y hy => ⟨F8.out y hy, by have h1 := (hO.lt hy).1; have h2 := E2.out.lt; omega⟩
              clear hO hbC XD2 E2
              go_wp2_with fail
              refine hK.out _ _ ?_ (fun hHeld => ?_)
              · exact XD3.out.cells
              clear hK K1
              try simp only [List.getElem_toArray]
              try simp only [List.getElem_cons_succ]
              try simp only [List.getElem_cons_zero]
              try simp only [Act.put]
              try simp only [List.setIfInBounds_toArray]
              try simp only [List.set_cons_succ]
              try simp only [List.set_cons_zero]
              refine wpAnyH_take (i := 4) (v := (.tuple #[.agg #[.slice a9 n9 c9, .slice b9 m9 d9], .int .i64 (askC hl wl ((xc, xe, xn), (lo, hi), ex))])) rfl (by kernel_rfl) (by kernel_rfl) (by kernel_rfl) (fun _ _ _ h => h) (Or.inl ⟨by rfl, ?_⟩) (by assumption) ?_
              · intro w hSw
                (try dsimp only at hSw)
                go_simp
              try simp only [List.getElem_toArray]
              try simp only [List.getElem_cons_succ]
              try simp only [List.getElem_cons_zero]
              try simp only [Act.put]
              try simp only [List.setIfInBounds_toArray]
              try simp only [List.set_cons_succ]
              try simp only [List.set_cons_zero]
              refine wpAnyH_take (i := 5) (v := (.agg #[.slice a9 n9 c9, .slice b9 m9 d9])) rfl (by kernel_rfl) (by kernel_rfl) (by kernel_rfl) (fun _ _ _ h => h) (Or.inl ⟨by rfl, ?_⟩) (by assumption) ?_
              · intro w hSw
                (try dsimp only at hSw)
                go_simp
              try simp only [List.getElem_toArray]
              try simp only [List.getElem_cons_succ]
              try simp only [List.getElem_cons_zero]
              try simp only [Act.put]
              try simp only [List.setIfInBounds_toArray]
              try simp only [List.set_cons_succ]
              try simp only [List.set_cons_zero]
              refine wpAnyH_take (i := 6) (v := (.int .i64 (askC hl wl ((xc, xe, xn), (lo, hi), ex)))) rfl (by kernel_rfl) (by kernel_rfl) (by kernel_rfl) (fun _ _ _ h => h) (Or.inl ⟨by rfl, ?_⟩) (by assumption) ?_
              · intro w hSw
                (try dsimp only at hSw)
                go_simp
              try simp only [List.getElem_toArray]
              try simp only [List.getElem_cons_succ]
              try simp only [List.getElem_cons_zero]
              try simp only [Act.put]
              try simp only [List.setIfInBounds_toArray]
              try simp only [List.set_cons_succ]
              try simp only [List.set_cons_zero]
              have z0 := E3.out.cell (j := 0) rfl
              have z1 := E3.out.cell (j := 1) rfl
              have e0 := E3.out.free 0
              have e1 := E3.out.free 1
              have NF : Hid (NX w ((q2.setCell ⟨gb, 0, none⟩ (.slice a9 n9 c9)).setCell ⟨gb, 1, none⟩ (.slice b9 m9 d9)) g b gb (.slice ha hn hc) (.slice wa wn wc) hl wl (.slice a9 n9 c9) (.slice b9 m9 d9) (askT hl wl ((xc, xe, xn), (lo, hi), ex)).1 (askT hl wl ((xc, xe, xn), (lo, hi), ex)).2) := NX.mk' XD3.out E3.out O9.out F9.out G9.out H9.out
              refine wpAnyH_ready (rs := [8]) (by kernel_rfl) (by simp) ?_
              refine AllReadyH.cons rfl (fun K1 hK => ?_) AllReadyH.nil
              go_simp
              try go_wp2_with fail
              refine hK.out _ _ ?_ (fun hHeld => ?_)
              · exact NF.out.old.cells
              clear hK K1
              try simp only [List.getElem_toArray]
              try simp only [List.getElem_cons_succ]
              try simp only [List.getElem_cons_zero]
              try simp only [Act.put]
              try simp only [List.setIfInBounds_toArray]
              try simp only [List.set_cons_succ]
              try simp only [List.set_cons_zero]
              clear z0 z1 e0 e1
              refine wpAnyH_take (i := 9) (v := (.int .i64 (askC hl wl ((xc, xe, xn), (lo, hi), ex)))) rfl (by kernel_rfl) (by kernel_rfl) (by kernel_rfl) (fun _ _ _ h => h) (Or.inl ⟨by rfl, ?_⟩) (by assumption) ?_
              · intro w hSw
                (try dsimp only at hSw)
                go_simp
              try simp only [List.getElem_toArray]
              try simp only [List.getElem_cons_succ]
              try simp only [List.getElem_cons_zero]
              try simp only [Act.put]
              try simp only [List.setIfInBounds_toArray]
              try simp only [List.set_cons_succ]
              try simp only [List.set_cons_zero]
              refine wpAnyH_done (by kernel_rfl) ?_ _
              refine NoPanic.normal ?_
              go_wp2_with fail
              go_meet
              exact ⟨_, _, _, _, _, _, _, _, ((xc, xe, xn), (lo, hi), ex), rfl, by simp, by simp, NF.out⟩
          · skip
            go_simp
            try go_wp2_with fail
            have G9 : Hid (w4.heap.size ≠ b ∧ w4.heap.size ≠ w.heap.size ∧ w4.heap.size ≠ g ∧ w.heap.size ≤ w4.heap.size) := by have h1 : b < w4.heap.size := XD0.out.kb.lt; have h2 := XD0.out.lt; have h3 := XD0.out.dg.ng; refine ⟨?_, ?_, ?_, ?_⟩ <;> omega
            have H9 : Hid (∀ y, lbl (.slice ha hn hc) (.slice wa wn wc) y → y ≠ w4.heap.size) := fun y hy => by have h1 : y < w4.heap.size := (XD0.out.ow.lt hy).2; omega
            have XD1 : Hid (LD w (w4.alloc (.cells #[.slice none 0 0, .slice none 0 0] 71)).drew g b (.slice ha hn hc) (.slice wa wn wc) hl wl) := (X4.out.call (below_new (o := .cells #[.slice none 0 0, .slice none 0 0] 71) (w := w4) (Below.refl _ _))).call (below_drew _)
            have E1 : Hid (Bk (w4.alloc (.cells #[.slice none 0 0, .slice none 0 0] 71)).drew w4.heap.size 71 [.slice none 0 0, .slice none 0 0]) := (Bk.new w4 71 [.slice none 0 0, .slice none 0 0]).below (below_drew _)
            clear XD0
            refine hK.out _ _ ?_ (fun hHeld => ?_)
            · exact XD1.out.cells
            clear hK K1
            try simp only [List.getElem_toArray]
            try simp only [List.getElem_cons_succ]
            try simp only [List.getElem_cons_zero]
            try simp only [Act.put]
            try simp only [List.setIfInBounds_toArray]
            try simp only [List.set_cons_succ]
            try simp only [List.set_cons_zero]
            generalize (w4.alloc (.cells #[.slice none 0 0, .slice none 0 0] 71)).drew = v6 at *
            refine wpAnyH_ready (rs := [2]) (by kernel_rfl) (by simp) ?_
            refine AllReadyH.cons rfl (fun K1 hK => ?_) AllReadyH.nil
            go_simp
            refine (l07Lock_any g _ XD1.out.dg.cu).mono ?_
            rintro r q1 ⟨⟨xc, xe, xn, lo, hi, ex, rfl⟩, hg, hcu⟩
            have XD2 := hid (XD1.out.step hg hcu)
            have E2 := hid (E1.out.grownX hg G9.out.2.2.1)
            clear hg hcu XD1 E1
            go_wp2_with fail
            refine hK.out _ _ ?_ (fun hHeld => ?_)
            · exact XD2.out.cells
            clear hK K1
            try simp only [List.getElem_toArray]
            try simp only [List.getElem_cons_succ]
            try simp only [List.getElem_cons_zero]
            try simp only [Act.put]
            try simp only [List.setIfInBounds_toArray]
            try simp only [List.set_cons_succ]
            try simp only [List.set_cons_zero]
            refine wpAnyH_ready (rs := [3]) (by kernel_rfl) (by simp) ?_
            refine AllReadyH.cons rfl (fun K1 hK => ?_) AllReadyH.nil
            go_simp
            refine (specLockAsk_any (fun _ => True) (fun _ => True) ha hn hc wa wn wc hl wl xc xe xn lo hi ex _ XD2.out.ow.hh.lr XD2.out.ow.hw.lr m0 m1).mono ?_
            rintro r q2 ⟨a9, n9, c9, b9, m9, d9, rfl, hO, hbC⟩
            have XD3 := hid (XD2.out.call hbC)
            have O9 : Hid (LO q2 (w.heap.size + 1) (.slice a9 n9 c9) (.slice b9 m9 d9) (askT hl wl ((xc, xe, xn), (lo, hi), ex)).1 (askT hl wl ((xc, xe, xn), (lo, hi), ex)).2) := hO.base (by have := XD2.out.kb.lt; have := XD2.out.lt; omega)
            have F8 : Hid (∀ y, lbl (.slice a9 n9 c9) (.slice b9 m9 d9) y → y ≠ b) := fun y hy => by have h1 := (hO.lt hy).1; have h2 := XD2.out.kb.lt; omega
            have E3 := hid (E2.out.below hbC)
            have F9 : Hid (∀ y, lbl (.slice a9 n9 c9) (.slice b9 m9 d9) y → y ≠ b ∧ y ≠ w4.heap.size) := fun y hy => ⟨F8.out y hy, by have h1 := (hO.lt hy).1; have h2 := E2.out.lt; omega⟩
            clear hO hbC XD2 E2
            go_wp2_with fail
            refine hK.out _ _ ?_ (fun hHeld => ?_)
            · exact XD3.out.cells
            clear hK K1
            try simp only [List.getElem_toArray]
            try simp only [List.getElem_cons_succ]
            try simp only [List.getElem_cons_zero]
            try simp only [Act.put]
            try simp only [List.setIfInBounds_toArray]
            try simp only [List.set_cons_succ]
            try simp only [List.set_cons_zero]
            refine wpAnyH_take (i := 4) (v := (.tuple #[.agg #[.slice a9 n9 c9, .slice b9 m9 d9], .int .i64 (askC hl wl ((xc, xe, xn), (lo, hi), ex))])) rfl (by kernel_rfl) (by kernel_rfl) (by kernel_rfl) (fun _ _ _ h => h) (Or.inl ⟨by rfl, ?_⟩) (by assumption) ?_
            · intro w hSw
              (try dsimp only at hSw)
              go_simp
            try simp only [List.getElem_toArray]
            try simp only [List.getElem_cons_succ]
            try simp only [List.getElem_cons_zero]
            try simp only [Act.put]
            try simp only [List.setIfInBounds_toArray]
            try simp only [List.set_cons_succ]
            try simp only [List.set_cons_zero]
            refine wpAnyH_take (i := 5) (v := (.agg #[.slice a9 n9 c9, .slice b9 m9 d9])) rfl (by kernel_rfl) (by kernel_rfl) (by kernel_rfl) (fun _ _ _ h => h) (Or.inl ⟨by rfl, ?_⟩) (by assumption) ?_
            · intro w hSw
              (try dsimp only at hSw)
              go_simp
            try simp only [List.getElem_toArray]
            try simp only [List.getElem_cons_succ]
            try simp only [List.getElem_cons_zero]
            try simp only [Act.put]
            try simp only [List.setIfInBounds_toArray]
            try simp only [List.set_cons_succ]
            try simp only [List.set_cons_zero]
            refine wpAnyH_take (i := 6) (v := (.int .i64 (askC hl wl ((xc, xe, xn), (lo, hi), ex)))) rfl (by kernel_rfl) (by kernel_rfl) (by kernel_rfl) (fun _ _ _ h => h) (Or.inl ⟨by rfl, ?_⟩) (by assumption) ?_
            · intro w hSw
              (try dsimp only at hSw)
              go_simp
            try simp only [List.getElem_toArray]
            try simp only [List.getElem_cons_succ]
            try simp only [List.getElem_cons_zero]
            try simp only [Act.put]
            try simp only [List.setIfInBounds_toArray]
            try simp only [List.set_cons_succ]
            try simp only [List.set_cons_zero]
            have z0 := E3.out.cell (j := 0) rfl
            have z1 := E3.out.cell (j := 1) rfl
            have e0 := E3.out.free 0
            have e1 := E3.out.free 1
            have NF : Hid (NX w ((q2.setCell ⟨w4.heap.size, 0, none⟩ (.slice a9 n9 c9)).setCell ⟨w4.heap.size, 1, none⟩ (.slice b9 m9 d9)) g b w4.heap.size (.slice ha hn hc) (.slice wa wn wc) hl wl (.slice a9 n9 c9) (.slice b9 m9 d9) (askT hl wl ((xc, xe, xn), (lo, hi), ex)).1 (askT hl wl ((xc, xe, xn), (lo, hi), ex)).2) := NX.mk' XD3.out E3.out O9.out F9.out G9.out H9.out
            refine wpAnyH_ready (rs := [8]) (by kernel_rfl) (by simp) ?_
            refine AllReadyH.cons rfl (fun K1 hK => ?_) AllReadyH.nil
            go_simp
            try go_wp2_with fail
            refine hK.out _ _ ?_ (fun hHeld => ?_)
            · exact NF.out.old.cells
            clear hK K1
            try simp only [List.getElem_toArray]
            try simp only [List.getElem_cons_succ]
            try simp only [List.getElem_cons_zero]
            try simp only [Act.put]
            try simp only [List.setIfInBounds_toArray]
            try simp only [List.set_cons_succ]
            try simp only [List.set_cons_zero]
            clear z0 z1 e0 e1
            refine wpAnyH_take (i := 9) (v := (.int .i64 (askC hl wl ((xc, xe, xn), (lo, hi), ex)))) rfl (by kernel_rfl) (by kernel_rfl) (by kernel_rfl) (fun _ _ _ h => h) (Or.inl ⟨by rfl, ?_⟩) (by assumption) ?_
            · intro w hSw
              (try dsimp only at hSw)
              go_simp
            try simp only [List.getElem_toArray]
            try simp only [List.getElem_cons_succ]
            try simp only [List.getElem_cons_zero]
            try simp only [Act.put]
            try simp only [List.setIfInBounds_toArray]
            try simp only [List.set_cons_succ]
            try simp only [List.set_cons_zero]
            refine wpAnyH_done (by kernel_rfl) ?_ _
            refine NoPanic.normal ?_
            go_wp2_with fail
            go_meet
            exact ⟨_, _, _, _, _, _, _, _, ((xc, xe, xn), (lo, hi), ex), rfl, by simp, by simp, NF.out⟩
        case rest =>
          obtain ⟨V, gb, ya, yn, yc, za, zn, zc, xl, rfl, rfl, rfl, hN⟩ := hcut
          have N5 := hid hN
          clear hN X4 XD0
          have ZZ : Hid (∀ (cd : Int), askC hl wl xl = cd → (cd = 0 ∨ cd = 3) → lksOk (askT hl wl xl).1 (askT hl wl xl).2 = true) := fun cd e h => askT_ok (by rw [e]; exact h)
          generalize hcd : askC hl wl xl = cd at *
          have HCD := hid hcd
          clear hcd
          have XP : Hid (LD w ((V.setCell ⟨b, 0, none⟩ (.slice ya yn yc)).setCell ⟨b, 1, none⟩ (.slice za zn zc)) g b (.slice ya yn yc) (.slice za zn zc) (askT hl wl xl).1 (askT hl wl xl).2) := N5.out.old.put N5.out.own (fun y hy => (N5.out.far y hy).1)
          by_cases hcd : cd = 0
          · skip
            subst hcd
            have KP := hid (ZZ.out _ rfl (by omega))
            have z0 := N5.out.box.cell (j := 0) rfl
            have z1 := N5.out.box.cell (j := 1) rfl
            have c0 := N5.out.old.kb.cell (j := 0) rfl
            have c1 := N5.out.old.kb.cell (j := 1) rfl
            have f0 := N5.out.old.kb.free 0
            have f1 := N5.out.old.kb.free 1
            obtain ⟨g1, g2, g3, g4⟩ := N5.out.gl
            have g1' : ¬ b = gb := fun e => g1 e.symm
            clear N5 ZZ HCD g2 g3 g4
            go_upto_region 4 with (fail)
            generalize ((V.setCell ⟨b, 0, none⟩ (.slice ya yn yc)).setCell ⟨b, 1, none⟩ (.slice za zn zc)) = VP at *
            clear z0 z1 c0 c1 f0 f1
            go_wp2
            go_roundw
            case rel => exact ⟨j - 1, _, _, _, _, _, _, _, _, by first | rfl | (congr 1; omega) | go_num, by omega, XP.out, KP.out⟩
            case measure => simp [intOf]; omega
          · by_cases hcd3 : cd = 3
            · have hcd := hcd3
              clear hcd3
              subst hcd
              have KP := hid (ZZ.out _ rfl (by omega))
              have z0 := N5.out.box.cell (j := 0) rfl
              have z1 := N5.out.box.cell (j := 1) rfl
              have c0 := N5.out.old.kb.cell (j := 0) rfl
              have c1 := N5.out.old.kb.cell (j := 1) rfl
              have f0 := N5.out.old.kb.free 0
              have f1 := N5.out.old.kb.free 1
              obtain ⟨g1, g2, g3, g4⟩ := N5.out.gl
              have g1' : ¬ b = gb := fun e => g1 e.symm
              clear N5 ZZ HCD g2 g3 g4
              go_upto_region 4 with (fail)
              generalize ((V.setCell ⟨b, 0, none⟩ (.slice ya yn yc)).setCell ⟨b, 1, none⟩ (.slice za zn zc)) = VP at *
              clear z0 z1 c0 c1 f0 f1
              go_wp2
              go_roundw
              case rel => exact ⟨j - 1, _, _, _, _, _, _, _, _, by first | rfl | (congr 1; omega) | go_num, by omega, XP.out, KP.out⟩
              case measure => simp [intOf]; omega
            · have h0 : (cd == 0) = false := by simpa using hcd
              have h3 : (cd == 3) = false := by simpa using hcd3
              have XO := hid N5.out.old
              clear N5 ZZ HCD XP
              go_wp2
              go_roundw
              case rel => exact ⟨j - 1, _, _, _, _, _, _, _, _, by first | rfl | (congr 1; omega) | go_num, by omega, XO.out, HK.out⟩
              case measure => simp [intOf]; omega
    · have hj' : ¬ (0 : Int) < (j : Int) := by omega
      have c0 := HX.out.kb.cell (j := 0) rfl
      have c1 := HX.out.kb.cell (j := 1) rfl
      have z0 := HX.out.k1.cell (j := 0) rfl
      have z1 := HX.out.k1.cell (j := 1) rfl
      have f0 := HX.out.k1.free 0
      have f1 := HX.out.k1.free 1
      have hlt := HX.out.lt
      have d1 : ¬ w.heap.size = b := by omega
      have d2 : ¬ b = w.heap.size := by omega
      have JE := hid ((HX.out.k1.set 0 (.slice ha hn hc)).set 1 (.slice wa wn wc))
      have GE := hid ((HX.out.dg.set (b := w.heap.size) (Nat.le_refl _) 0 (.slice ha hn hc)).set (b := w.heap.size) (Nat.le_refl _) 1 (.slice wa wn wc))
      have OE : Hid (LO ((wr.setCell ⟨w.heap.size, 0, none⟩ (.slice ha hn hc)).setCell ⟨w.heap.size, 1, none⟩ (.slice wa wn wc)) (w.heap.size + 1) (.slice ha hn hc) (.slice wa wn wc) hl wl) := HX.out.ow.to ((only_set (R := fun y => y = w.heap.size) (p := ⟨w.heap.size, 0, none⟩) rfl _).trans (only_set (R := fun y => y = w.heap.size) (p := ⟨w.heap.size, 1, none⟩) rfl _)) (fun y hy e => by have := (HX.out.ow.lt hy).1; omega)
      clear HX
      go_wp2_with fail
      try simp only [Exit.inBlock, Exit.then]
      generalize ((wr.setCell ⟨w.heap.size, 0, none⟩ (.slice ha hn hc)).setCell ⟨w.heap.size, 1, none⟩ (.slice wa wn wc)) = VR at *
      refine bodyPost_ret (v := .agg #[.slice ha hn hc, .slice wa wn wc]) ?_ rfl ?_
      · exact results_locks rfl _ _ w.heap.size rfl (JE.out.cell (j := 0) rfl) (JE.out.cell (j := 1) rfl)
      · exact ⟨⟨ha, hn, hc, wa, wn, wc, rfl, hl, wl, OE.out, HK.out⟩, GE.out.gr, GE.out.cu⟩
end Go.Proofs.Ytcpdedpgjaimkaa
/-
  The ranges that the laws draw, right or not: some ranges.
-/
namespace Go.Proofs.Ytcpdedpgjaimkaa
open Go.RowKit
theorem rd_made (w : World) (k : Nat) (hk : k ≤ 8192) : Rd (w.alloc (.cells (madeCells #[.int .u8 0] k) 5)) (some ⟨w.heap.size, 0, none⟩) k k (List.replicate k 0) := by
  refine ⟨by simp, Nat.le_refl _, by omega, by omega, fun i => ?_, fun _ => ⟨w.heap.size, 0, rfl, by simp, fun i hi => ?_⟩⟩
  · by_cases h : i < k
    · simp [h]
    · rw [List.getElem?_eq_none (by simp; omega)]; simp
  · rw [World.cell?_alloc_at (hn := rfl)]
    have h1 : i < (madeCells #[.int .u8 0] k).size := by simp [madeCells]; omega
    rw [show (0 : Nat) + i = i from Nat.zero_add i, Array.getElem?_eq_getElem h1]
    simp [madeCells, Nat.mod_one, hi]
theorem made_any (m : Int) (k : Nat) (hk : m = k) (h : k ≤ 8192) : ∀ w, (Instr.makeSlice 22 (.int .i64 m) (.int .i64 m)).run Try.prog w = .ok (.slice (some ⟨w.heap.size, 0, none⟩) k k) (w.alloc (.cells (madeCells #[.int .u8 0] k) 5)) := by
  intro w
  subst hk
  exact run_make_row' (P := Try.prog) 22 5 (.int .u8 0) 1 Try.underlying22 infoU8 rfl .i64 .i64 k (by omega) (by omega) w
theorem Dw.other {w v : World} {g b b' o : Nat} {lo hi : ByteArray} {x : Value} (h : Dw w v g b lo hi) (hne : b ≠ b') (hb : w.heap.size ≤ b') : Dw w (v.setCell ⟨b', o, none⟩ x) g b lo hi :=
  ⟨grown_new h.gr _ _ _ hb, h.cu.set _ _ _ (by have := h.ng; omega), h.bk.other hne, h.nb, h.ng⟩
theorem Dw.alloc {w v : World} {g b : Nat} {lo hi : ByteArray} (h : Dw w v g b lo hi) (o : Obj) : Dw w (v.alloc o) g b lo hi := h.call (below_alloc _ _)
theorem Dw.next {w v : World} {g b : Nat} {lo hi : ByteArray} (h : Dw w v g b lo hi) (lo' hi' : ByteArray) : Dw w (v.alloc (.cells #[.string lo', .string hi'] 27)) g v.heap.size lo' hi' :=
  ⟨grownBy_trans h.gr (grownBy_alloc _ _ _), h.cu.alloc _, Blk.new _ _ _, h.gr.size, h.ng⟩
set_option maxHeartbeats 4000000 in
theorem anyRange_any (g : Nat) (w : World) (h : Cu w g) : Calls Try.prog 38 #[.pointer (some ⟨g, 0, none⟩)] w fun e w' => (∃ lo hi : ByteArray, e = .returned (.agg #[.string lo, .string hi])) ∧ w.grownBy w' (some g) ∧ Cu w' g := by
  have D0 := hid (Dw.new h ⟨#[]⟩ ⟨#[]⟩)
  clear h
  go_enter Try.func38, Try.ntmps38
  go_wp2_with fail
  refine (range_any g _ D0.out.cu).mono ?_
  rintro e w1 ⟨⟨a, b, rfl⟩, hg1, hc1⟩
  have D1 := hid (D0.out.step hg1 hc1)
  clear hg1 hc1 D0
  have hlt := D1.out.bk.lt
  have hne : ¬ w.heap.size = w1.heap.size := by omega
  have hne' : ¬ w1.heap.size = w.heap.size := by omega
  have HN := hid (D1.out.gr.size)
  go_wp2_with fail
  refine (below_any g 14 _ (D1.out.alloc _).cu (by omega) (by omega)).mono ?_
  rintro e w2 ⟨⟨x, rfl, hx0, hx1⟩, hg1, hc1⟩
  have D2 := hid ((D1.out.alloc _).step hg1 hc1)
  have E2 := hid ((D1.out.next a b).step hg1 hc1)
  clear hg1 hc1 D1
  generalize w1.heap.size = b2 at *
  obtain ⟨r0, r1, r2, r3⟩ := D2.out.bk.facts
  obtain ⟨q0, q1, q2, q3⟩ := E2.out.bk.facts
  rcases (by omega : x = 0 ∨ x = 1 ∨ x = 2 ∨ x = 3 ∨ 4 ≤ x) with rfl | rfl | rfl | rfl | hx
  · clear hx0 hx1
    go_wp2
    try simp only [Exit.inBlock, Exit.then]
    refine bodyPost_ret (v := rng a a) ?_ rfl ?_
    · exact results_rng rfl _ _ _ rfl (by go_simp) (by go_simp)
    · exact ⟨⟨_, _, rfl⟩, ((D2.out.other hne HN.out).set0.set1).gr, ((D2.out.other hne HN.out).set0.set1).cu⟩
  · clear hx0 hx1
    go_wp2_with fail
    refine (below_any g 2 _ D2.out.cu (by omega) (by omega)).mono ?_
    rintro e w3 ⟨⟨y, rfl, hy0, hy1⟩, hg1, hc1⟩
    have D3 := hid (D2.out.step hg1 hc1)
    have E3 := hid (E2.out.step hg1 hc1)
    clear hg1 hc1 D2 E2 r0 r1 r2 r3 q0 q1 q2 q3
    obtain ⟨r0, r1, r2, r3⟩ := (D3.out.alloc (.cells (madeCells #[.int .u8 0] (17 + y.toNat)) 5)).bk.facts
    obtain ⟨q0, q1, q2, q3⟩ := (E3.out.alloc (.cells (madeCells #[.int .u8 0] (17 + y.toNat)) 5)).bk.facts
    obtain ⟨k, rfl⟩ := Int.eq_ofNat_of_zero_le hy0
    have hmk := made_any (17 + (k : Int)) (17 + k) (by omega) (by omega)
    have hst6 := run_str (rd_made w3 (17 + k) (by omega))
    generalize strOf (List.replicate (17 + k) 0) = s6 at hst6
    simp only [Int.toNat_natCast] at r0 r1 r2 r3 q0 q1 q2 q3
    go_wp2_with fail
    try simp only [Exit.inBlock, Exit.then]
    refine bodyPost_ret (v := rng s6 b) ?_ rfl ?_
    · exact results_rng rfl _ _ _ rfl (by go_simp) (by go_simp)
    · exact ⟨⟨_, _, rfl⟩, (((D3.out.alloc _).other hne HN.out).set0.set1).gr, (((D3.out.alloc _).other hne HN.out).set0.set1).cu⟩
  · clear hx0 hx1
    go_wp2_with fail
    refine (below_any g 2 _ (D2.out.alloc _).cu (by omega) (by omega)).mono ?_
    rintro e w3 ⟨⟨y, rfl, hy0, hy1⟩, hg1, hc1⟩
    have D3 := hid ((D2.out.alloc _).step hg1 hc1)
    have E3 := hid ((E2.out.alloc _).step hg1 hc1)
    have hcl := fun k => row_kept (b := w2.heap.size) (k := k) hg1 (by simp) (by have := D2.out.cu.lt; omega)
    clear hg1 hc1 D2 E2 r0 r1 r2 r3 q0 q1 q2 q3
    obtain ⟨r0, r1, r2, r3⟩ := D3.out.bk.facts
    obtain ⟨q0, q1, q2, q3⟩ := E3.out.bk.facts
    rcases (by omega : y = 0 ∨ y = 1) with rfl | rfl
    · have hc := (hcl 0).trans (by rw [World.cell?_alloc_at (hn := rfl)])
      clear hcl
      go_wp2
      try simp only [Exit.inBlock, Exit.then]
      refine bodyPost_ret (v := rng a (⟨#[122, 122, 122, 122, 122, 122, 122, 122, 122, 122, 122, 122, 122, 122, 122, 122, 122]⟩ ++ ⟨#[]⟩)) ?_ rfl ?_
      · exact results_rng rfl _ _ _ rfl (by go_simp) (by go_simp)
      · exact ⟨⟨_, _, rfl⟩, ((D3.out.other hne HN.out).set0.set1).gr, ((D3.out.other hne HN.out).set0.set1).cu⟩
    · have hc := (hcl 1).trans (by rw [World.cell?_alloc_at (hn := rfl)])
      clear hcl
      go_wp2
      try simp only [Exit.inBlock, Exit.then]
      refine bodyPost_ret (v := rng a (⟨#[122, 122, 122, 122, 122, 122, 122, 122, 122, 122, 122, 122, 122, 122, 122, 122, 122]⟩ ++ ⟨#[122]⟩)) ?_ rfl ?_
      · exact results_rng rfl _ _ _ rfl (by go_simp) (by go_simp)
      · exact ⟨⟨_, _, rfl⟩, ((D3.out.other hne HN.out).set0.set1).gr, ((D3.out.other hne HN.out).set0.set1).cu⟩
  · clear hx0 hx1
    go_wp2
    try simp only [Exit.inBlock, Exit.then]
    refine bodyPost_ret (v := rng b a) ?_ rfl ?_
    · exact results_rng rfl _ _ _ rfl (by go_simp) (by go_simp)
    · exact ⟨⟨_, _, rfl⟩, (((D2.out.other hne HN.out).other hne HN.out).set0.set1).gr, (((D2.out.other hne HN.out).other hne HN.out).set0.set1).cu⟩
  · have hx2 : (x == 2) = false := by simp; omega
    have hx3 : (x == 1) = false := by simp; omega
    have hx4 : (x == 0) = false := by simp; omega
    have hx5 : (x == 3) = false := by simp; omega
    go_wp2
    try simp only [Exit.inBlock, Exit.then]
    refine bodyPost_ret (v := rng a b) ?_ rfl ?_
    · exact results_rng rfl _ _ _ rfl (by go_simp) (by go_simp)
    · exact ⟨⟨_, _, rfl⟩, (D2.out.set0.set1).gr, (D2.out.set0.set1).cu⟩
theorem results_rng2 {fn : Func} {p u : Tmp} (h : fn.results = #[.cell p 27, .cell u 27]) (tmps : Array Value) (w : World) (g g' : Nat) {lo hi lo' hi' : ByteArray} (hp : tmps.getD p undef = .pointer (some ⟨g, 0, none⟩)) (hq : tmps.getD u undef = .pointer (some ⟨g', 0, none⟩))
    (c0 : w.cell? ⟨g, 0, none⟩ = some (.string lo)) (c1 : w.cell? ⟨g, 1, none⟩ = some (.string hi)) (d0 : w.cell? ⟨g', 0, none⟩ = some (.string lo')) (d1 : w.cell? ⟨g', 1, none⟩ = some (.string hi')) : (results fn tmps).run Try.prog w = .ok (.tuple #[rng lo hi, rng lo' hi']) w := by
  have hp' : tmps[p]?.getD undef = .pointer (some ⟨g, 0, none⟩) := by simpa using hp
  have hq' : tmps[u]?.getD undef = .pointer (some ⟨g', 0, none⟩) := by simpa using hq
  simp [results, h, hp', hq', asAddr, load_rng c0 c1, load_rng d0 d1]
/-- A draw from the code: its cursor g, and block b for a result, that holds nothing yet. -/
structure R1 (w v : World) (g b : Nat) : Prop where
  bel : Below w.heap.size w v
  cu : Cu v g
  bk : Blk v b ⟨#[]⟩ ⟨#[]⟩
  nb : w.heap.size ≤ b
  ng : b < g
theorem R1.step {w v v' : World} {g b : Nat} (h : R1 w v g b) (hg : v.grownBy v' (some g)) (hc : Cu v' g) : R1 w v' g b :=
  ⟨h.bel.trans ((below_of_grown hg h.cu.lt).mono (by have := h.nb; have := h.ng; omega)), hc, ((below_of_grown hg h.cu.lt).block b h.ng).trans h.bk, h.nb, h.ng⟩
theorem R1.new {w u v : World} {b : Nat} (hu : Below w.heap.size w u) (hk : Blk u b ⟨#[]⟩ ⟨#[]⟩) (hb : w.heap.size ≤ b) (h : Below u.heap.size u v) (hc : Cu v u.heap.size) : R1 w v u.heap.size b :=
  ⟨thn2 hu h, hc, hk.kept h, hb, hk.lt⟩
theorem R1.alloc {w v : World} {g b : Nat} (h : R1 w v g b) (o : Obj) : R1 w (v.alloc o) g b := h.step (grownBy_alloc _ _ _) (h.cu.alloc _)
end Go.Proofs.Ytcpdedpgjaimkaa
/-
  Tables of locks that are drawn, changed once more.
-/
namespace Go.Proofs.Ytcpdedpgjaimkaa
open Go.RowKit
set_option linter.unusedVariables false
theorem run_append_ll {w : World} (ty : TypeId) (B : Nat) (v : Value) (l : List LK) (hown : LW w B v l) (g : Nat) (x : LK) (hB : Bk w g 75 (lcs [x])) (hb : l.length ≤ 1048576) (hbase : B ≤ w.heap.size) :
    ∃ a' n' c' w', (Builtin.append_ #[69, 69] ty #[v, .slice (some ⟨g, 0, none⟩) 1 1]).run Try.prog w = .ok (.slice a' n' c') w' ∧ LW w' B (.slice a' n' c') (l ++ [x]) ∧ w.grownBy w' v.ownBlock ∧ ((Value.slice a' n' c').ownBlock = v.ownBlock ∨ (Value.slice a' n' c').ownBlock = some w.heap.size) := by
  obtain ⟨i, hi, hz, hsz, hby⟩ := info_of infoLockI
  obtain ⟨v', w', hr, h2, h3, h4⟩ := run_append_row_at (P := Try.prog) (w := w) B 69 ty 75 i _ 6 64 Try.underlying69 hi hz hsz hby rfl (by decide) v l.length (lcs l) hown (fun _ => True) _ 1 (lcs [x]) (hB.rw (Nat.le_refl _) (by omega) (fun h => by omega) _ trivial) rfl (lcs_one [x]) (by unfold maxLen; omega) (by omega) hbase
  obtain ⟨a', c', rfl⟩ := own_shape h2
  refine ⟨a', _, c', w', hr, ?_, h3, h4⟩
  unfold LW
  rw [List.length_append, lcs_append]
  exact h2
theorem step_append_ll {w w' : World} {o : Oper} {a : Act} {K : Act → World → Prop} {Q : Exit → Act → World → Prop} (s x : Operand)
    (ho : o.op = .call { callee := .builtin .append, args := #[s, x], argTypes := #[69, 69] }) (v src v' : Value) (hs : a.eval s = v) (hx : a.eval x = src)
    (hr : (Builtin.append_ #[69, 69] o.type #[v, src]).run Try.prog w = .ok v' w') (h : K (a.put o.dst v') w') : Oper.wp Try.prog o a w K Q := by
  unfold Oper.wp execOp
  simp only [ho, resolve, invoke, builtin, Sem.run_bind, Sem.run_pure, Result.andThen_ok, List.map_toArray, List.map_cons, List.map_nil, hs, hx, hr]
  exact h
theorem LD.gro {w v v' : World} {g b : Nat} {h k : Value} {hl wl : List LK} (H : LD w v g b h k hl wl) {z : Value} (hz : ∀ y, z.ownBlock = some y → lbl h k y) (hg : v.grownBy v' z.ownBlock) : DGX w v' g ∧ Bk v' w.heap.size 71 [.slice none 0 0, .slice none 0 0] ∧ Bk v' b 71 [h, k] := by
  have ho : Only (fun y => z.ownBlock = some y) v v' := only_of_grown hg (fun k e => e)
  have hown : ∀ y, z.ownBlock = some y → w.heap.size + 1 ≤ y := fun y hy => (H.ow.lt (hz y hy)).1
  have hng := H.dg.ng
  refine ⟨⟨⟨hg.os.trans H.dg.gr.os, hg.tape.trans H.dg.gr.tape, hg.output.trans H.dg.gr.output, Nat.le_trans H.dg.gr.size hg.size, fun k hk hne => (hg.block k (Nat.lt_of_lt_of_le hk H.dg.gr.size) (fun e => by have := hown k e.symm; omega)).trans (H.dg.gr.block k hk hne)⟩, H.dg.cu.kept hg (fun k e => by have := hown k e; omega), hng⟩, H.k1.to ho (fun e => by have := hown _ e; omega), H.kb.to ho (fun e => H.nb _ (hz _ e) rfl)⟩
theorem LD.pushH {w v v' : World} {g b : Nat} {h k h' : Value} {hl wl hl' : List LK} (H : LD w v g b h k hl wl) (hO : LW v' (w.heap.size + 1) h' hl') (hg : v.grownBy v' h.ownBlock) (ha : h'.ownBlock = h.ownBlock ∨ h'.ownBlock = some v.heap.size) : LD w (v'.setCell ⟨b, 0, none⟩ h') g b h' k hl' wl ∧ Bk v' b 71 [h, k] := by
  obtain ⟨d, k1, kb⟩ := H.gro (z := h) (fun y e => .inl e) hg
  have hlt := H.lt
  have hbl := H.kb.lt
  have hn : ∀ y, lbl h' k y → y ≠ b := fun y hy => by
    rcases hy with e | e
    · rcases ha with e2 | e2
      · rw [e2] at e; exact H.nb y (.inl e)
      · rw [e2] at e; have := Option.some.inj e; omega
    · exact H.nb y (.inr e)
  exact ⟨⟨d.set (b := b) (by omega) 0 h', k1.setOther (by omega) 0 h', kb.set 0 h', hlt, (H.ow.pushH hO hg ha).to (only_set (R := fun y => y = b) (p := ⟨b, 0, none⟩) rfl _) (fun y hy e => hn y hy e), hn⟩, kb⟩
theorem LD.pushW {w v v' : World} {g b : Nat} {h k k' : Value} {hl wl wl' : List LK} (H : LD w v g b h k hl wl) (hO : LW v' (w.heap.size + 1) k' wl') (hg : v.grownBy v' k.ownBlock) (ha : k'.ownBlock = k.ownBlock ∨ k'.ownBlock = some v.heap.size) : LD w (v'.setCell ⟨b, 1, none⟩ k') g b h k' hl wl' ∧ Bk v' b 71 [h, k] := by
  obtain ⟨d, k1, kb⟩ := H.gro (z := k) (fun y e => .inr e) hg
  have hlt := H.lt
  have hbl := H.kb.lt
  have hn : ∀ y, lbl h k' y → y ≠ b := fun y hy => by
    rcases hy with e | e
    · exact H.nb y (.inl e)
    · rcases ha with e2 | e2
      · rw [e2] at e; exact H.nb y (.inr e)
      · rw [e2] at e; have := Option.some.inj e; omega
  exact ⟨⟨d.set (b := b) (by omega) 1 k', k1.setOther (by omega) 1 k', kb.set 1 k', hlt, (H.ow.pushW hO hg ha).to (only_set (R := fun y => y = b) (p := ⟨b, 1, none⟩) rfl _) (fun y hy e => hn y hy e), hn⟩, kb⟩
theorem LD.pokeH {w v : World} {g b q n c : Nat} {k : Value} {y : LK} {l wl : List LK} (H : LD w v g b (.slice (some ⟨q, 0, none⟩) n c) k (y :: l) wl) (lo hi : ByteArray) : LD w ((v.setCell ⟨q, 3, none⟩ (.string lo)).setCell ⟨q, 4, none⟩ (.string hi)) g b (.slice (some ⟨q, 0, none⟩) n c) k ((y.1, (lo, hi), y.2.2) :: l) wl := by
  have hq : w.heap.size + 1 ≤ q := (H.ow.lt (y := q) (.inl rfl)).1
  have hb : q ≠ b := H.nb q (.inl rfl)
  have hlt := H.lt
  have ho : Only (fun y => y = q) v ((v.setCell ⟨q, 3, none⟩ (.string lo)).setCell ⟨q, 4, none⟩ (.string hi)) := ((only_set (R := fun y => y = q) (p := ⟨q, 3, none⟩) rfl _).trans (only_set (R := fun y => y = q) (p := ⟨q, 4, none⟩) rfl _))
  refine ⟨((H.dg.set (b := q) (by omega) 3 (.string lo)).set (b := q) (by omega) 4 (.string hi)), ((H.k1.setOther (by omega) 3 (.string lo)).setOther (by omega) 4 (.string hi)), ((H.kb.setOther (by omega) 3 (.string lo)).setOther (by omega) 4 (.string hi)), hlt, ⟨?_, ?_, H.ow.apart⟩, H.nb⟩
  · exact (ownL_set (ownL_set H.ow.hh 3 (.string lo)) 4 (.string hi))
  · exact H.ow.hw.to ho (fun y e e2 => H.ow.apart y (by rw [e2]; rfl) e)
theorem LD.pokeW {w v : World} {g b q n c : Nat} {h : Value} {y : LK} {l hl : List LK} (H : LD w v g b h (.slice (some ⟨q, 0, none⟩) n c) hl (y :: l)) (x0 x1 x2 : Int) : LD w (((v.setCell ⟨q, 0, none⟩ (.int .i64 x0)).setCell ⟨q, 1, none⟩ (.int .i64 x1)).setCell ⟨q, 2, none⟩ (.int .i64 x2)) g b h (.slice (some ⟨q, 0, none⟩) n c) hl (((x0, x1, x2), y.2) :: l) := by
  have hq : w.heap.size + 1 ≤ q := (H.ow.lt (y := q) (.inr rfl)).1
  have hb : q ≠ b := H.nb q (.inr rfl)
  have hlt := H.lt
  have ho : Only (fun y => y = q) v (((v.setCell ⟨q, 0, none⟩ (.int .i64 x0)).setCell ⟨q, 1, none⟩ (.int .i64 x1)).setCell ⟨q, 2, none⟩ (.int .i64 x2)) := (((only_set (R := fun y => y = q) (p := ⟨q, 0, none⟩) rfl _).trans (only_set (R := fun y => y = q) (p := ⟨q, 1, none⟩) rfl _)).trans (only_set (R := fun y => y = q) (p := ⟨q, 2, none⟩) rfl _))
  refine ⟨(((H.dg.set (b := q) (by omega) 0 (.int .i64 x0)).set (b := q) (by omega) 1 (.int .i64 x1)).set (b := q) (by omega) 2 (.int .i64 x2)), (((H.k1.setOther (by omega) 0 (.int .i64 x0)).setOther (by omega) 1 (.int .i64 x1)).setOther (by omega) 2 (.int .i64 x2)), (((H.kb.setOther (by omega) 0 (.int .i64 x0)).setOther (by omega) 1 (.int .i64 x1)).setOther (by omega) 2 (.int .i64 x2)), hlt, ⟨?_, ?_, H.ow.apart⟩, H.nb⟩
  · exact H.ow.hh.to ho (fun y e e2 => H.ow.apart y e (by rw [e2]; rfl))
  · exact (ownL_set (ownL_set (ownL_set H.ow.hw 0 (.int .i64 x0)) 1 (.int .i64 x1)) 2 (.int .i64 x2))
end Go.Proofs.Ytcpdedpgjaimkaa
/-
  Tables of locks that are drawn: l07AnyLocks.
-/
namespace Go.Proofs.Ytcpdedpgjaimkaa
open Go.RowKit
set_option linter.unusedVariables false
set_option maxHeartbeats 16000000 in
set_option maxRecDepth 20000 in
theorem l07AnyLocks_any (g : Nat) (w : World) (h : Cu w g) : Calls Try.prog 76 #[.pointer (some ⟨g, 0, none⟩)] w fun r w' => (∃ (ha : Option Addr) (hn hc : Nat) (wa : Option Addr) (wn wc : Nat) (hl wl : List LK), r = .returned (.agg #[.slice ha hn hc, .slice wa wn wc]) ∧ LO w' (w.heap.size + 1) (.slice ha hn hc) (.slice wa wn wc) hl wl ∧ hl.length + wl.length ≤ 100) ∧ w.grownBy w' (some g) ∧ Cu w' g := by
  have D0 := hid ((DGX.start h).alloc (.cells #[.slice none 0 0, .slice none 0 0] 71))
  have K0 := hid (Bk.new w 71 [.slice none 0 0, .slice none 0 0])
  have HU : Hid ((w.alloc (.cells #[.slice none 0 0, .slice none 0 0] 71)).heap.size = w.heap.size + 1) := by show _ = _; simp
  clear h
  go_enter Try.func76, Try.ntmps76
  go_wp2_with fail
  refine (l07Draw_any g _ D0.out.cu).mono ?_
  generalize w.alloc (.cells #[.slice none 0 0, .slice none 0 0] 71) = U at *
  rintro r w1 ⟨⟨ha, hn, hc, wa, wn, wc, hl, wl, rfl, hO, hK⟩, hg, hcu⟩
  have D1 := hid (D0.out.step hg hcu)
  have K1 := hid (K0.out.grownX hg (by have := D0.out.ng; omega))
  have hlt : w.heap.size < w1.heap.size := K1.out.lt
  have HL := hid (lks_len hK)
  rw [HU.out] at hO
  have XA : Hid (LD w (w1.alloc (.cells #[.slice ha hn hc, .slice wa wn wc] 71)) g w1.heap.size (.slice ha hn hc) (.slice wa wn wc) hl wl) := ⟨D1.out.alloc _, K1.out.alloc _, Bk.new w1 _ [_, _], hlt, (hO.base (by omega)).below (below_new (Below.refl _ _)), fun y hy e => by have := (hO.lt hy).2; omega⟩
  clear D0 K0 D1 K1 HU hO hK hg hcu
  go_wp2_with fail
  refine (below_any g 12 _ XA.out.dg.cu (by omega) (by omega)).mono ?_
  generalize w1.alloc (.cells #[.slice ha hn hc, .slice wa wn wc] 71) = VA at *
  generalize w1.heap.size = b at *
  rintro r V0 ⟨⟨x, rfl, hx0, hx1⟩, hg, hcu⟩
  have X0 := hid (XA.out.step hg hcu)
  clear XA hg hcu
  have hln := X0.out.lens
  obtain ⟨hn1, hn2⟩ := hln
  have HN1 := hid hn1
  have HN2 := hid hn2
  clear hn1 hn2
  by_cases e0 : x = 0
  · subst e0
    by_cases hp : 0 < hn
    · have hp' : (0 : Int) < (hn : Int) := by omega
      obtain ⟨y, l, hyl⟩ : ∃ y l, hl = y :: l := by
        cases hl with
        | nil => have := HN1.out; simp at this; omega
        | cons y l => exact ⟨y, l, rfl⟩
      subst hyl
      obtain ⟨q, hq, -⟩ := (ownL_at X0.out.ow.hh).2.2.2 hp
      subst hq
      have c0 := X0.out.kb.cell (j := 0) rfl
      have XD0 : Hid (LD w V0.drew g b (.slice (some ⟨q, 0, none⟩) hn hc) (.slice wa wn wc) (y :: l) wl) := X0.out.call (below_drew _)
      clear X0
      go_upto_region 4 with (fail)
      clear c0
      refine wp_region_noPanic ?_
      refine wp_region_held_drew (S := fun v => v.cell? ⟨b, 0, none⟩ = some (.slice (some ⟨q, 0, none⟩) hn hc)) (by kernel_rfl) (XD0.out.kb.cell (j := 0) rfl) (fun hHeld => ?_)
      simp only [List.size_toArray, List.length_cons, List.length_nil, Array.replicate_succ, Array.replicate_zero, Nat.reduceAdd, List.push_toArray, List.nil_append, List.cons_append]
      refine wpAnyH_take (i := 0) (v := (.pointer (some ⟨b, 0, none⟩))) rfl (by kernel_rfl) (by kernel_rfl) (by kernel_rfl) (fun _ _ _ h => h) (Or.inl ⟨by rfl, ?_⟩) (by assumption) ?_
      · intro w hSw
        (try dsimp only at hSw)
        go_simp
      try simp only [List.getElem_toArray]
      try simp only [List.getElem_cons_succ]
      try simp only [List.getElem_cons_zero]
      try simp only [Act.put]
      try simp only [List.setIfInBounds_toArray]
      try simp only [List.set_cons_succ]
      try simp only [List.set_cons_zero]
      refine wpAnyH_take (i := 1) (v := (.slice (some ⟨q, 0, none⟩) hn hc)) rfl (by kernel_rfl) (by kernel_rfl) (by kernel_rfl) (fun _ _ _ h => h) (Or.inl ⟨by rfl, ?_⟩) (by assumption) ?_
      · intro w hSw
        (try dsimp only at hSw)
        go_simp
      try simp only [List.getElem_toArray]
      try simp only [List.getElem_cons_succ]
      try simp only [List.getElem_cons_zero]
      try simp only [Act.put]
      try simp only [List.setIfInBounds_toArray]
      try simp only [List.set_cons_succ]
      try simp only [List.set_cons_zero]
      refine wpAnyH_take (i := 2) (v := (.pointer (some ⟨g, 0, none⟩))) rfl (by kernel_rfl) (by kernel_rfl) (by kernel_rfl) (fun _ _ _ h => h) (Or.inl ⟨by rfl, ?_⟩) (by assumption) ?_
      · intro w hSw
        (try dsimp only at hSw)
        go_simp
      try simp only [List.getElem_toArray]
      try simp only [List.getElem_cons_succ]
      try simp only [List.getElem_cons_zero]
      try simp only [Act.put]
      try simp only [List.setIfInBounds_toArray]
      try simp only [List.set_cons_succ]
      try simp only [List.set_cons_zero]
      refine wpAnyH_ready (rs := [3]) (by kernel_rfl) (by simp) ?_
      refine AllReadyH.cons rfl (fun K1 hK => ?_) AllReadyH.nil
      go_simp
      refine (anyRange_any g _ XD0.out.dg.cu).mono ?_
      rintro r u1 ⟨⟨lo, hi, rfl⟩, hg, hcu⟩
      have XD1 := hid (XD0.out.step hg hcu)
      clear XD0 hg hcu
      go_wp2_with fail
      refine hK.out _ _ ?_ (fun hHeld => ?_)
      · exact XD1.out.kb.cell (j := 0) rfl
      clear hK K1
      try simp only [List.getElem_toArray]
      try simp only [List.getElem_cons_succ]
      try simp only [List.getElem_cons_zero]
      try simp only [Act.put]
      try simp only [List.setIfInBounds_toArray]
      try simp only [List.set_cons_succ]
      try simp only [List.set_cons_zero]
      refine wpAnyH_take (i := 4) (v := (.pointer (some ⟨q, 0, none⟩))) rfl (by kernel_rfl) (by kernel_rfl) (by kernel_rfl) (fun _ _ _ h => h) (Or.inl ⟨by rfl, ?_⟩) (by assumption) ?_
      · intro w hSw
        (try dsimp only at hSw)
        go_simp
      try simp only [List.getElem_toArray]
      try simp only [List.getElem_cons_succ]
      try simp only [List.getElem_cons_zero]
      try simp only [Act.put]
      try simp only [List.setIfInBounds_toArray]
      try simp only [List.set_cons_succ]
      try simp only [List.set_cons_zero]
      refine wpAnyH_take (i := 5) (v := (.pointer (some ⟨q, 3, none⟩))) rfl (by kernel_rfl) (by kernel_rfl) (by kernel_rfl) (fun _ _ _ h => h) (Or.inl ⟨by rfl, ?_⟩) (by assumption) ?_
      · intro w hSw
        (try dsimp only at hSw)
        go_simp
      try simp only [List.getElem_toArray]
      try simp only [List.getElem_cons_succ]
      try simp only [List.getElem_cons_zero]
      try simp only [Act.put]
      try simp only [List.setIfInBounds_toArray]
      try simp only [List.set_cons_succ]
      try simp only [List.set_cons_zero]
      obtain ⟨q', hq', -, -, hfr, hce⟩ := (ownL_at XD1.out.ow.hh).2.2.2 hp
      cases hq'
      have e3 := hce 3 _ rfl
      have f3 := hfr 3
      have e4 := hce 4 _ rfl
      have f4 := hfr 4
      have X9 : Hid (LD w ((u1.setCell ⟨q, 3, none⟩ (.string lo)).setCell ⟨q, 4, none⟩ (.string hi)) g b (.slice (some ⟨q, 0, none⟩) hn hc) (.slice wa wn wc) ((y.1, (lo, hi), y.2.2) :: l) wl) := XD1.out.pokeH lo hi
      clear hfr hce
      refine wpAnyH_ready (rs := [6]) (by kernel_rfl) (by simp) ?_
      refine AllReadyH.cons rfl (fun K1 hK => ?_) AllReadyH.nil
      go_simp
      try go_wp2_with fail
      refine hK.out _ _ ?_ (fun hHeld => ?_)
      · exact X9.out.kb.cell (j := 0) rfl
      clear hK K1
      try simp only [List.getElem_toArray]
      try simp only [List.getElem_cons_succ]
      try simp only [List.getElem_cons_zero]
      try simp only [Act.put]
      try simp only [List.setIfInBounds_toArray]
      try simp only [List.set_cons_succ]
      try simp only [List.set_cons_zero]
      refine wpAnyH_done (by kernel_rfl) ?_ _
      refine NoPanic.normal ?_
      clear XD1 e3 f3 e4 f4
      generalize ((u1.setCell ⟨q, 3, none⟩ (.string lo)).setCell ⟨q, 4, none⟩ (.string hi)) = V9 at *
      go_upto_region 17 with (fail)
      have c0 := X9.out.kb.cell (j := 0) rfl
      have c1 := X9.out.kb.cell (j := 1) rfl
      have z0 := X9.out.k1.cell (j := 0) rfl
      have z1 := X9.out.k1.cell (j := 1) rfl
      have f0 := X9.out.k1.free 0
      have f1 := X9.out.k1.free 1
      have hltb := X9.out.lt
      have d1 : ¬ w.heap.size = b := by omega
      have d2 : ¬ b = w.heap.size := by omega
      have JE := hid ((X9.out.k1.set 0 (.slice (some ⟨q, 0, none⟩) hn hc)).set 1 (.slice wa wn wc))
      have GE := hid ((X9.out.dg.set (b := w.heap.size) (Nat.le_refl _) 0 (.slice (some ⟨q, 0, none⟩) hn hc)).set (b := w.heap.size) (Nat.le_refl _) 1 (.slice wa wn wc))
      have OE : Hid (LO ((V9.setCell ⟨w.heap.size, 0, none⟩ (.slice (some ⟨q, 0, none⟩) hn hc)).setCell ⟨w.heap.size, 1, none⟩ (.slice wa wn wc)) (w.heap.size + 1) (.slice (some ⟨q, 0, none⟩) hn hc) (.slice wa wn wc) ((y.1, (lo, hi), y.2.2) :: l) wl) := X9.out.ow.to ((only_set (R := fun y => y = w.heap.size) (p := ⟨w.heap.size, 0, none⟩) rfl _).trans (only_set (R := fun y => y = w.heap.size) (p := ⟨w.heap.size, 1, none⟩) rfl _)) (fun y hy e => by have := (X9.out.ow.lt hy).1; omega)
      clear X9
      go_wp2_with fail
      try simp only [Exit.inBlock, Exit.then]
      generalize ((V9.setCell ⟨w.heap.size, 0, none⟩ (.slice (some ⟨q, 0, none⟩) hn hc)).setCell ⟨w.heap.size, 1, none⟩ (.slice wa wn wc)) = VR at *
      refine bodyPost_ret (v := .agg #[.slice (some ⟨q, 0, none⟩) hn hc, .slice wa wn wc]) ?_ rfl ?_
      · exact results_locks rfl _ _ w.heap.size rfl (JE.out.cell (j := 0) rfl) (JE.out.cell (j := 1) rfl)
      · first
        | exact ⟨⟨_, _, _, _, _, _, ((y.1, (lo, hi), y.2.2) :: l), wl, rfl, OE.out, (by have := HL.out; simp at this ⊢; omega)⟩, GE.out.gr, GE.out.cu⟩
        | exact ⟨⟨_, _, _, _, _, _, rfl, ((y.1, (lo, hi), y.2.2) :: l), wl, OE.out, (by have := HL.out; simp at this ⊢; omega)⟩, GE.out.gr, GE.out.cu⟩
    · have hp' : ¬ (0 : Int) < (hn : Int) := by omega
      have c0 := X0.out.kb.cell (j := 0) rfl
      go_upto_region 17 with (fail)
      clear c0
      have c0 := X0.out.kb.cell (j := 0) rfl
      have c1 := X0.out.kb.cell (j := 1) rfl
      have z0 := X0.out.k1.cell (j := 0) rfl
      have z1 := X0.out.k1.cell (j := 1) rfl
      have f0 := X0.out.k1.free 0
      have f1 := X0.out.k1.free 1
      have hltb := X0.out.lt
      have d1 : ¬ w.heap.size = b := by omega
      have d2 : ¬ b = w.heap.size := by omega
      have JE := hid ((X0.out.k1.set 0 (.slice ha hn hc)).set 1 (.slice wa wn wc))
      have GE := hid ((X0.out.dg.set (b := w.heap.size) (Nat.le_refl _) 0 (.slice ha hn hc)).set (b := w.heap.size) (Nat.le_refl _) 1 (.slice wa wn wc))
      have OE : Hid (LO ((V0.setCell ⟨w.heap.size, 0, none⟩ (.slice ha hn hc)).setCell ⟨w.heap.size, 1, none⟩ (.slice wa wn wc)) (w.heap.size + 1) (.slice ha hn hc) (.slice wa wn wc) hl wl) := X0.out.ow.to ((only_set (R := fun y => y = w.heap.size) (p := ⟨w.heap.size, 0, none⟩) rfl _).trans (only_set (R := fun y => y = w.heap.size) (p := ⟨w.heap.size, 1, none⟩) rfl _)) (fun y hy e => by have := (X0.out.ow.lt hy).1; omega)
      clear X0
      go_wp2_with fail
      try simp only [Exit.inBlock, Exit.then]
      generalize ((V0.setCell ⟨w.heap.size, 0, none⟩ (.slice ha hn hc)).setCell ⟨w.heap.size, 1, none⟩ (.slice wa wn wc)) = VR at *
      refine bodyPost_ret (v := .agg #[.slice ha hn hc, .slice wa wn wc]) ?_ rfl ?_
      · exact results_locks rfl _ _ w.heap.size rfl (JE.out.cell (j := 0) rfl) (JE.out.cell (j := 1) rfl)
      · first
        | exact ⟨⟨_, _, _, _, _, _, hl, wl, rfl, OE.out, (by have := HL.out; omega)⟩, GE.out.gr, GE.out.cu⟩
        | exact ⟨⟨_, _, _, _, _, _, rfl, hl, wl, OE.out, (by have := HL.out; omega)⟩, GE.out.gr, GE.out.cu⟩
  · by_cases e1 : x = 1
    · subst e1
      have XD0 : Hid (LD w V0.drew g b (.slice ha hn hc) (.slice wa wn wc) hl wl) := X0.out.call (below_drew _)
      clear X0
      go_upto_region 6 with (fail)
      refine wp_region_noPanic ?_
      refine wp_region_held_drew (S := fun _ => True) (by kernel_rfl) (trivial) (fun hHeld => ?_)
      simp only [List.size_toArray, List.length_cons, List.length_nil, Array.replicate_succ, Array.replicate_zero, Nat.reduceAdd, List.push_toArray, List.nil_append, List.cons_append]
      refine wpAnyH_take (i := 0) (v := (.pointer (some ⟨b, 0, none⟩))) rfl (by kernel_rfl) (by kernel_rfl) (by kernel_rfl) (fun _ _ _ h => h) (Or.inl ⟨by rfl, ?_⟩) (by assumption) ?_
      · intro w hSw
        (try dsimp only at hSw)
        go_simp
      try simp only [List.getElem_toArray]
      try simp only [List.getElem_cons_succ]
      try simp only [List.getElem_cons_zero]
      try simp only [Act.put]
      try simp only [List.setIfInBounds_toArray]
      try simp only [List.set_cons_succ]
      try simp only [List.set_cons_zero]
      refine wpAnyH_take (i := 2) (v := (.pointer (some ⟨g, 0, none⟩))) rfl (by kernel_rfl) (by kernel_rfl) (by kernel_rfl) (fun _ _ _ h => h) (Or.inl ⟨by rfl, ?_⟩) (by assumption) ?_
      · intro w hSw
        (try dsimp only at hSw)
        go_simp
      try simp only [List.getElem_toArray]
      try simp only [List.getElem_cons_succ]
      try simp only [List.getElem_cons_zero]
      try simp only [Act.put]
      try simp only [List.setIfInBounds_toArray]
      try simp only [List.set_cons_succ]
      try simp only [List.set_cons_zero]
      refine wpAnyH_ready (rs := [1, 3]) (by kernel_rfl) (by simp) ?_
      refine AllReadyH.cons rfl (fun K1 hK => ?_) (AllReadyH.cons rfl (fun K1 hK => ?_) AllReadyH.nil)
      · skip
        have c0 := XD0.out.kb.cell (j := 0) rfl
        go_simp
        refine hK.out _ _ ?_ (fun hHeld => ?_)
        · trivial
        clear hK K1
        try simp only [List.getElem_toArray]
        try simp only [List.getElem_cons_succ]
        try simp only [List.getElem_cons_zero]
        try simp only [Act.put]
        try simp only [List.setIfInBounds_toArray]
        try simp only [List.set_cons_succ]
        try simp only [List.set_cons_zero]
        clear c0
        refine wpAnyH_ready (rs := [3]) (by kernel_rfl) (by simp) ?_
        refine AllReadyH.cons rfl (fun K1 hK => ?_) AllReadyH.nil
        go_simp
        refine (l07Lock_any g _ XD0.out.dg.cu).mono ?_
        rintro r u1 ⟨⟨xc, xe, xn, lo, hi, ex, rfl⟩, hg, hcu⟩
        have XD1 := hid (XD0.out.step hg hcu)
        clear XD0 hg hcu
        go_wp2_with fail
        refine hK.out _ _ ?_ (fun hHeld => ?_)
        · trivial
        clear hK K1
        try simp only [List.getElem_toArray]
        try simp only [List.getElem_cons_succ]
        try simp only [List.getElem_cons_zero]
        try simp only [Act.put]
        try simp only [List.setIfInBounds_toArray]
        try simp only [List.set_cons_succ]
        try simp only [List.set_cons_zero]
        refine wpAnyH_ready (rs := [4]) (by kernel_rfl) (by simp) ?_
        refine AllReadyH.cons rfl (fun K1 hK => ?_) AllReadyH.nil
        have hbA := below_new (o := .cells #[.int .i64 xc, .int .i64 xe, .int .i64 xn, .string lo, .string hi, .bool ex] 75) (w := u1) (Below.refl _ _)
        have XD2 : Hid (LD w (u1.alloc (.cells #[.int .i64 xc, .int .i64 xe, .int .i64 xn, .string lo, .string hi, .bool ex] 75)) g b (.slice ha hn hc) (.slice wa wn wc) hl wl) := XD1.out.call hbA
        have KB := hid (Bk.new u1 75 (lcs [((xc, xe, xn), (lo, hi), ex)]))
        have hgb : w.heap.size + 1 ≤ (u1.alloc (.cells #[.int .i64 xc, .int .i64 xe, .int .i64 xn, .string lo, .string hi, .bool ex] 75)).heap.size := by have := XD2.out.kb.lt; have := XD2.out.lt; omega
        clear hbA XD1
        go_simp
        refine hK.out _ _ ?_ (fun hHeld => ?_)
        · trivial
        clear hK K1
        try simp only [List.getElem_toArray]
        try simp only [List.getElem_cons_succ]
        try simp only [List.getElem_cons_zero]
        try simp only [Act.put]
        try simp only [List.setIfInBounds_toArray]
        try simp only [List.set_cons_succ]
        try simp only [List.set_cons_zero]
        obtain ⟨za, zn, zc, w5, hr5, hO5, hg5, ha5⟩ := run_append_ll 69 (w.heap.size + 1) _ hl XD2.out.ow.hh _ ((xc, xe, xn), (lo, hi), ex) KB.out (by have := HL.out; simp at this ⊢; omega) hgb
        refine wpAnyH_ready (rs := [5]) (by kernel_rfl) (by simp) ?_
        refine AllReadyH.cons rfl (fun K1 hK => ?_) AllReadyH.nil
        refine step_append_ll _ _ rfl _ _ _ rfl rfl hr5 ?_
        refine hK.out _ _ ?_ (fun hHeld => ?_)
        · trivial
        clear hK K1
        try simp only [List.getElem_toArray]
        try simp only [List.getElem_cons_succ]
        try simp only [List.getElem_cons_zero]
        try simp only [Act.put]
        try simp only [List.setIfInBounds_toArray]
        try simp only [List.set_cons_succ]
        try simp only [List.set_cons_zero]
        have hP := XD2.out.pushH hO5 hg5 ha5
        have c0 := hP.2.cell (j := 0) rfl
        have f0 := hP.2.free 0
        have X9 : Hid (LD w (w5.setCell ⟨b, 0, none⟩ (.slice za zn zc)) g b (.slice za zn zc) (.slice wa wn wc) (hl ++ [((xc, xe, xn), (lo, hi), ex)]) wl) := hP.1
        clear hP XD2 KB hgb hr5 hO5 hg5 ha5
        refine wpAnyH_take (i := 6) (v := (.pointer (some ⟨b, 0, none⟩))) rfl (by kernel_rfl) (by kernel_rfl) (by kernel_rfl) (fun _ _ _ h => h) (Or.inl ⟨by rfl, ?_⟩) (by assumption) ?_
        · intro w hSw
          (try dsimp only at hSw)
          go_simp
        try simp only [List.getElem_toArray]
        try simp only [List.getElem_cons_succ]
        try simp only [List.getElem_cons_zero]
        try simp only [Act.put]
        try simp only [List.setIfInBounds_toArray]
        try simp only [List.set_cons_succ]
        try simp only [List.set_cons_zero]
        refine wpAnyH_ready (rs := [7]) (by kernel_rfl) (by simp) ?_
        refine AllReadyH.cons rfl (fun K1 hK => ?_) AllReadyH.nil
        go_simp
        try go_wp2_with fail
        refine hK.out _ _ ?_ (fun hHeld => ?_)
        · trivial
        clear hK K1
        try simp only [List.getElem_toArray]
        try simp only [List.getElem_cons_succ]
        try simp only [List.getElem_cons_zero]
        try simp only [Act.put]
        try simp only [List.setIfInBounds_toArray]
        try simp only [List.set_cons_succ]
        try simp only [List.set_cons_zero]
        refine wpAnyH_done (by kernel_rfl) ?_ _
        refine NoPanic.normal ?_
        clear c0 f0
        generalize w5.setCell ⟨b, 0, none⟩ (.slice za zn zc) = V9 at *
        go_upto_region 17 with (fail)
        have c0 := X9.out.kb.cell (j := 0) rfl
        have c1 := X9.out.kb.cell (j := 1) rfl
        have z0 := X9.out.k1.cell (j := 0) rfl
        have z1 := X9.out.k1.cell (j := 1) rfl
        have f0 := X9.out.k1.free 0
        have f1 := X9.out.k1.free 1
        have hltb := X9.out.lt
        have d1 : ¬ w.heap.size = b := by omega
        have d2 : ¬ b = w.heap.size := by omega
        have JE := hid ((X9.out.k1.set 0 (.slice za zn zc)).set 1 (.slice wa wn wc))
        have GE := hid ((X9.out.dg.set (b := w.heap.size) (Nat.le_refl _) 0 (.slice za zn zc)).set (b := w.heap.size) (Nat.le_refl _) 1 (.slice wa wn wc))
        have OE : Hid (LO ((V9.setCell ⟨w.heap.size, 0, none⟩ (.slice za zn zc)).setCell ⟨w.heap.size, 1, none⟩ (.slice wa wn wc)) (w.heap.size + 1) (.slice za zn zc) (.slice wa wn wc) (hl ++ [((xc, xe, xn), (lo, hi), ex)]) wl) := X9.out.ow.to ((only_set (R := fun y => y = w.heap.size) (p := ⟨w.heap.size, 0, none⟩) rfl _).trans (only_set (R := fun y => y = w.heap.size) (p := ⟨w.heap.size, 1, none⟩) rfl _)) (fun y hy e => by have := (X9.out.ow.lt hy).1; omega)
        clear X9
        go_wp2_with fail
        try simp only [Exit.inBlock, Exit.then]
        generalize ((V9.setCell ⟨w.heap.size, 0, none⟩ (.slice za zn zc)).setCell ⟨w.heap.size, 1, none⟩ (.slice wa wn wc)) = VR at *
        refine bodyPost_ret (v := .agg #[.slice za zn zc, .slice wa wn wc]) ?_ rfl ?_
        · exact results_locks rfl _ _ w.heap.size rfl (JE.out.cell (j := 0) rfl) (JE.out.cell (j := 1) rfl)
        · first
          | exact ⟨⟨_, _, _, _, _, _, (hl ++ [((xc, xe, xn), (lo, hi), ex)]), wl, rfl, OE.out, (by have := HL.out; simp at this ⊢; omega)⟩, GE.out.gr, GE.out.cu⟩
          | exact ⟨⟨_, _, _, _, _, _, rfl, (hl ++ [((xc, xe, xn), (lo, hi), ex)]), wl, OE.out, (by have := HL.out; simp at this ⊢; omega)⟩, GE.out.gr, GE.out.cu⟩
      · skip
        go_simp
        refine (l07Lock_any g _ XD0.out.dg.cu).mono ?_
        rintro r u1 ⟨⟨xc, xe, xn, lo, hi, ex, rfl⟩, hg, hcu⟩
        have XD1 := hid (XD0.out.step hg hcu)
        clear XD0 hg hcu
        go_wp2_with fail
        refine hK.out _ _ ?_ (fun hHeld => ?_)
        · trivial
        clear hK K1
        try simp only [List.getElem_toArray]
        try simp only [List.getElem_cons_succ]
        try simp only [List.getElem_cons_zero]
        try simp only [Act.put]
        try simp only [List.setIfInBounds_toArray]
        try simp only [List.set_cons_succ]
        try simp only [List.set_cons_zero]
        refine wpAnyH_ready (rs := [1, 4]) (by kernel_rfl) (by simp) ?_
        refine AllReadyH.cons rfl (fun K1 hK => ?_) (AllReadyH.cons rfl (fun K1 hK => ?_) AllReadyH.nil)
        · skip
          have c0 := XD1.out.kb.cell (j := 0) rfl
          go_simp
          refine hK.out _ _ ?_ (fun hHeld => ?_)
          · trivial
          clear hK K1
          try simp only [List.getElem_toArray]
          try simp only [List.getElem_cons_succ]
          try simp only [List.getElem_cons_zero]
          try simp only [Act.put]
          try simp only [List.setIfInBounds_toArray]
          try simp only [List.set_cons_succ]
          try simp only [List.set_cons_zero]
          clear c0
          refine wpAnyH_ready (rs := [4]) (by kernel_rfl) (by simp) ?_
          refine AllReadyH.cons rfl (fun K1 hK => ?_) AllReadyH.nil
          have hbA := below_new (o := .cells #[.int .i64 xc, .int .i64 xe, .int .i64 xn, .string lo, .string hi, .bool ex] 75) (w := u1) (Below.refl _ _)
          have XD2 : Hid (LD w (u1.alloc (.cells #[.int .i64 xc, .int .i64 xe, .int .i64 xn, .string lo, .string hi, .bool ex] 75)) g b (.slice ha hn hc) (.slice wa wn wc) hl wl) := XD1.out.call hbA
          have KB := hid (Bk.new u1 75 (lcs [((xc, xe, xn), (lo, hi), ex)]))
          have hgb : w.heap.size + 1 ≤ (u1.alloc (.cells #[.int .i64 xc, .int .i64 xe, .int .i64 xn, .string lo, .string hi, .bool ex] 75)).heap.size := by have := XD2.out.kb.lt; have := XD2.out.lt; omega
          clear hbA XD1
          go_simp
          refine hK.out _ _ ?_ (fun hHeld => ?_)
          · trivial
          clear hK K1
          try simp only [List.getElem_toArray]
          try simp only [List.getElem_cons_succ]
          try simp only [List.getElem_cons_zero]
          try simp only [Act.put]
          try simp only [List.setIfInBounds_toArray]
          try simp only [List.set_cons_succ]
          try simp only [List.set_cons_zero]
          obtain ⟨za, zn, zc, w5, hr5, hO5, hg5, ha5⟩ := run_append_ll 69 (w.heap.size + 1) _ hl XD2.out.ow.hh _ ((xc, xe, xn), (lo, hi), ex) KB.out (by have := HL.out; simp at this ⊢; omega) hgb
          refine wpAnyH_ready (rs := [5]) (by kernel_rfl) (by simp) ?_
          refine AllReadyH.cons rfl (fun K1 hK => ?_) AllReadyH.nil
          refine step_append_ll _ _ rfl _ _ _ rfl rfl hr5 ?_
          refine hK.out _ _ ?_ (fun hHeld => ?_)
          · trivial
          clear hK K1
          try simp only [List.getElem_toArray]
          try simp only [List.getElem_cons_succ]
          try simp only [List.getElem_cons_zero]
          try simp only [Act.put]
          try simp only [List.setIfInBounds_toArray]
          try simp only [List.set_cons_succ]
          try simp only [List.set_cons_zero]
          have hP := XD2.out.pushH hO5 hg5 ha5
          have c0 := hP.2.cell (j := 0) rfl
          have f0 := hP.2.free 0
          have X9 : Hid (LD w (w5.setCell ⟨b, 0, none⟩ (.slice za zn zc)) g b (.slice za zn zc) (.slice wa wn wc) (hl ++ [((xc, xe, xn), (lo, hi), ex)]) wl) := hP.1
          clear hP XD2 KB hgb hr5 hO5 hg5 ha5
          refine wpAnyH_take (i := 6) (v := (.pointer (some ⟨b, 0, none⟩))) rfl (by kernel_rfl) (by kernel_rfl) (by kernel_rfl) (fun _ _ _ h => h) (Or.inl ⟨by rfl, ?_⟩) (by assumption) ?_
          · intro w hSw
            (try dsimp only at hSw)
            go_simp
          try simp only [List.getElem_toArray]
          try simp only [List.getElem_cons_succ]
          try simp only [List.getElem_cons_zero]
          try simp only [Act.put]
          try simp only [List.setIfInBounds_toArray]
          try simp only [List.set_cons_succ]
          try simp only [List.set_cons_zero]
          refine wpAnyH_ready (rs := [7]) (by kernel_rfl) (by simp) ?_
          refine AllReadyH.cons rfl (fun K1 hK => ?_) AllReadyH.nil
          go_simp
          try go_wp2_with fail
          refine hK.out _ _ ?_ (fun hHeld => ?_)
          · trivial
          clear hK K1
          try simp only [List.getElem_toArray]
          try simp only [List.getElem_cons_succ]
          try simp only [List.getElem_cons_zero]
          try simp only [Act.put]
          try simp only [List.setIfInBounds_toArray]
          try simp only [List.set_cons_succ]
          try simp only [List.set_cons_zero]
          refine wpAnyH_done (by kernel_rfl) ?_ _
          refine NoPanic.normal ?_
          clear c0 f0
          generalize w5.setCell ⟨b, 0, none⟩ (.slice za zn zc) = V9 at *
          go_upto_region 17 with (fail)
          have c0 := X9.out.kb.cell (j := 0) rfl
          have c1 := X9.out.kb.cell (j := 1) rfl
          have z0 := X9.out.k1.cell (j := 0) rfl
          have z1 := X9.out.k1.cell (j := 1) rfl
          have f0 := X9.out.k1.free 0
          have f1 := X9.out.k1.free 1
          have hltb := X9.out.lt
          have d1 : ¬ w.heap.size = b := by omega
          have d2 : ¬ b = w.heap.size := by omega
          have JE := hid ((X9.out.k1.set 0 (.slice za zn zc)).set 1 (.slice wa wn wc))
          have GE := hid ((X9.out.dg.set (b := w.heap.size) (Nat.le_refl _) 0 (.slice za zn zc)).set (b := w.heap.size) (Nat.le_refl _) 1 (.slice wa wn wc))
          have OE : Hid (LO ((V9.setCell ⟨w.heap.size, 0, none⟩ (.slice za zn zc)).setCell ⟨w.heap.size, 1, none⟩ (.slice wa wn wc)) (w.heap.size + 1) (.slice za zn zc) (.slice wa wn wc) (hl ++ [((xc, xe, xn), (lo, hi), ex)]) wl) := X9.out.ow.to ((only_set (R := fun y => y = w.heap.size) (p := ⟨w.heap.size, 0, none⟩) rfl _).trans (only_set (R := fun y => y = w.heap.size) (p := ⟨w.heap.size, 1, none⟩) rfl _)) (fun y hy e => by have := (X9.out.ow.lt hy).1; omega)
          clear X9
          go_wp2_with fail
          try simp only [Exit.inBlock, Exit.then]
          generalize ((V9.setCell ⟨w.heap.size, 0, none⟩ (.slice za zn zc)).setCell ⟨w.heap.size, 1, none⟩ (.slice wa wn wc)) = VR at *
          refine bodyPost_ret (v := .agg #[.slice za zn zc, .slice wa wn wc]) ?_ rfl ?_
          · exact results_locks rfl _ _ w.heap.size rfl (JE.out.cell (j := 0) rfl) (JE.out.cell (j := 1) rfl)
          · first
            | exact ⟨⟨_, _, _, _, _, _, (hl ++ [((xc, xe, xn), (lo, hi), ex)]), wl, rfl, OE.out, (by have := HL.out; simp at this ⊢; omega)⟩, GE.out.gr, GE.out.cu⟩
            | exact ⟨⟨_, _, _, _, _, _, rfl, (hl ++ [((xc, xe, xn), (lo, hi), ex)]), wl, OE.out, (by have := HL.out; simp at this ⊢; omega)⟩, GE.out.gr, GE.out.cu⟩
        · skip
          have hbA := below_new (o := .cells #[.int .i64 xc, .int .i64 xe, .int .i64 xn, .string lo, .string hi, .bool ex] 75) (w := u1) (Below.refl _ _)
          have XD2 : Hid (LD w (u1.alloc (.cells #[.int .i64 xc, .int .i64 xe, .int .i64 xn, .string lo, .string hi, .bool ex] 75)) g b (.slice ha hn hc) (.slice wa wn wc) hl wl) := XD1.out.call hbA
          have KB := hid (Bk.new u1 75 (lcs [((xc, xe, xn), (lo, hi), ex)]))
          have hgb : w.heap.size + 1 ≤ (u1.alloc (.cells #[.int .i64 xc, .int .i64 xe, .int .i64 xn, .string lo, .string hi, .bool ex] 75)).heap.size := by have := XD2.out.kb.lt; have := XD2.out.lt; omega
          clear hbA XD1
          go_simp
          refine hK.out _ _ ?_ (fun hHeld => ?_)
          · trivial
          clear hK K1
          try simp only [List.getElem_toArray]
          try simp only [List.getElem_cons_succ]
          try simp only [List.getElem_cons_zero]
          try simp only [Act.put]
          try simp only [List.setIfInBounds_toArray]
          try simp only [List.set_cons_succ]
          try simp only [List.set_cons_zero]
          refine wpAnyH_ready (rs := [1]) (by kernel_rfl) (by simp) ?_
          refine AllReadyH.cons rfl (fun K1 hK => ?_) AllReadyH.nil
          have c0 := XD2.out.kb.cell (j := 0) rfl
          go_simp
          refine hK.out _ _ ?_ (fun hHeld => ?_)
          · trivial
          clear hK K1
          try simp only [List.getElem_toArray]
          try simp only [List.getElem_cons_succ]
          try simp only [List.getElem_cons_zero]
          try simp only [Act.put]
          try simp only [List.setIfInBounds_toArray]
          try simp only [List.set_cons_succ]
          try simp only [List.set_cons_zero]
          clear c0
          obtain ⟨za, zn, zc, w5, hr5, hO5, hg5, ha5⟩ := run_append_ll 69 (w.heap.size + 1) _ hl XD2.out.ow.hh _ ((xc, xe, xn), (lo, hi), ex) KB.out (by have := HL.out; simp at this ⊢; omega) hgb
          refine wpAnyH_ready (rs := [5]) (by kernel_rfl) (by simp) ?_
          refine AllReadyH.cons rfl (fun K1 hK => ?_) AllReadyH.nil
          refine step_append_ll _ _ rfl _ _ _ rfl rfl hr5 ?_
          refine hK.out _ _ ?_ (fun hHeld => ?_)
          · trivial
          clear hK K1
          try simp only [List.getElem_toArray]
          try simp only [List.getElem_cons_succ]
          try simp only [List.getElem_cons_zero]
          try simp only [Act.put]
          try simp only [List.setIfInBounds_toArray]
          try simp only [List.set_cons_succ]
          try simp only [List.set_cons_zero]
          have hP := XD2.out.pushH hO5 hg5 ha5
          have c0 := hP.2.cell (j := 0) rfl
          have f0 := hP.2.free 0
          have X9 : Hid (LD w (w5.setCell ⟨b, 0, none⟩ (.slice za zn zc)) g b (.slice za zn zc) (.slice wa wn wc) (hl ++ [((xc, xe, xn), (lo, hi), ex)]) wl) := hP.1
          clear hP XD2 KB hgb hr5 hO5 hg5 ha5
          refine wpAnyH_take (i := 6) (v := (.pointer (some ⟨b, 0, none⟩))) rfl (by kernel_rfl) (by kernel_rfl) (by kernel_rfl) (fun _ _ _ h => h) (Or.inl ⟨by rfl, ?_⟩) (by assumption) ?_
          · intro w hSw
            (try dsimp only at hSw)
            go_simp
          try simp only [List.getElem_toArray]
          try simp only [List.getElem_cons_succ]
          try simp only [List.getElem_cons_zero]
          try simp only [Act.put]
          try simp only [List.setIfInBounds_toArray]
          try simp only [List.set_cons_succ]
          try simp only [List.set_cons_zero]
          refine wpAnyH_ready (rs := [7]) (by kernel_rfl) (by simp) ?_
          refine AllReadyH.cons rfl (fun K1 hK => ?_) AllReadyH.nil
          go_simp
          try go_wp2_with fail
          refine hK.out _ _ ?_ (fun hHeld => ?_)
          · trivial
          clear hK K1
          try simp only [List.getElem_toArray]
          try simp only [List.getElem_cons_succ]
          try simp only [List.getElem_cons_zero]
          try simp only [Act.put]
          try simp only [List.setIfInBounds_toArray]
          try simp only [List.set_cons_succ]
          try simp only [List.set_cons_zero]
          refine wpAnyH_done (by kernel_rfl) ?_ _
          refine NoPanic.normal ?_
          clear c0 f0
          generalize w5.setCell ⟨b, 0, none⟩ (.slice za zn zc) = V9 at *
          go_upto_region 17 with (fail)
          have c0 := X9.out.kb.cell (j := 0) rfl
          have c1 := X9.out.kb.cell (j := 1) rfl
          have z0 := X9.out.k1.cell (j := 0) rfl
          have z1 := X9.out.k1.cell (j := 1) rfl
          have f0 := X9.out.k1.free 0
          have f1 := X9.out.k1.free 1
          have hltb := X9.out.lt
          have d1 : ¬ w.heap.size = b := by omega
          have d2 : ¬ b = w.heap.size := by omega
          have JE := hid ((X9.out.k1.set 0 (.slice za zn zc)).set 1 (.slice wa wn wc))
          have GE := hid ((X9.out.dg.set (b := w.heap.size) (Nat.le_refl _) 0 (.slice za zn zc)).set (b := w.heap.size) (Nat.le_refl _) 1 (.slice wa wn wc))
          have OE : Hid (LO ((V9.setCell ⟨w.heap.size, 0, none⟩ (.slice za zn zc)).setCell ⟨w.heap.size, 1, none⟩ (.slice wa wn wc)) (w.heap.size + 1) (.slice za zn zc) (.slice wa wn wc) (hl ++ [((xc, xe, xn), (lo, hi), ex)]) wl) := X9.out.ow.to ((only_set (R := fun y => y = w.heap.size) (p := ⟨w.heap.size, 0, none⟩) rfl _).trans (only_set (R := fun y => y = w.heap.size) (p := ⟨w.heap.size, 1, none⟩) rfl _)) (fun y hy e => by have := (X9.out.ow.lt hy).1; omega)
          clear X9
          go_wp2_with fail
          try simp only [Exit.inBlock, Exit.then]
          generalize ((V9.setCell ⟨w.heap.size, 0, none⟩ (.slice za zn zc)).setCell ⟨w.heap.size, 1, none⟩ (.slice wa wn wc)) = VR at *
          refine bodyPost_ret (v := .agg #[.slice za zn zc, .slice wa wn wc]) ?_ rfl ?_
          · exact results_locks rfl _ _ w.heap.size rfl (JE.out.cell (j := 0) rfl) (JE.out.cell (j := 1) rfl)
          · first
            | exact ⟨⟨_, _, _, _, _, _, (hl ++ [((xc, xe, xn), (lo, hi), ex)]), wl, rfl, OE.out, (by have := HL.out; simp at this ⊢; omega)⟩, GE.out.gr, GE.out.cu⟩
            | exact ⟨⟨_, _, _, _, _, _, rfl, (hl ++ [((xc, xe, xn), (lo, hi), ex)]), wl, OE.out, (by have := HL.out; simp at this ⊢; omega)⟩, GE.out.gr, GE.out.cu⟩
    · by_cases e2 : x = 2
      · subst e2
        have XD0 : Hid (LD w V0.drew g b (.slice ha hn hc) (.slice wa wn wc) hl wl) := X0.out.call (below_drew _)
        clear X0
        go_upto_region 8 with (fail)
        refine wp_region_noPanic ?_
        refine wp_region_held_drew (S := fun _ => True) (by kernel_rfl) (trivial) (fun hHeld => ?_)
        simp only [List.size_toArray, List.length_cons, List.length_nil, Array.replicate_succ, Array.replicate_zero, Nat.reduceAdd, List.push_toArray, List.nil_append, List.cons_append]
        refine wpAnyH_take (i := 0) (v := (.pointer (some ⟨b, 1, none⟩))) rfl (by kernel_rfl) (by kernel_rfl) (by kernel_rfl) (fun _ _ _ h => h) (Or.inl ⟨by rfl, ?_⟩) (by assumption) ?_
        · intro w hSw
          (try dsimp only at hSw)
          go_simp
        try simp only [List.getElem_toArray]
        try simp only [List.getElem_cons_succ]
        try simp only [List.getElem_cons_zero]
        try simp only [Act.put]
        try simp only [List.setIfInBounds_toArray]
        try simp only [List.set_cons_succ]
        try simp only [List.set_cons_zero]
        refine wpAnyH_take (i := 2) (v := (.pointer (some ⟨g, 0, none⟩))) rfl (by kernel_rfl) (by kernel_rfl) (by kernel_rfl) (fun _ _ _ h => h) (Or.inl ⟨by rfl, ?_⟩) (by assumption) ?_
        · intro w hSw
          (try dsimp only at hSw)
          go_simp
        try simp only [List.getElem_toArray]
        try simp only [List.getElem_cons_succ]
        try simp only [List.getElem_cons_zero]
        try simp only [Act.put]
        try simp only [List.setIfInBounds_toArray]
        try simp only [List.set_cons_succ]
        try simp only [List.set_cons_zero]
        refine wpAnyH_ready (rs := [1, 3]) (by kernel_rfl) (by simp) ?_
        refine AllReadyH.cons rfl (fun K1 hK => ?_) (AllReadyH.cons rfl (fun K1 hK => ?_) AllReadyH.nil)
        · skip
          have c1 := XD0.out.kb.cell (j := 1) rfl
          go_simp
          refine hK.out _ _ ?_ (fun hHeld => ?_)
          · trivial
          clear hK K1
          try simp only [List.getElem_toArray]
          try simp only [List.getElem_cons_succ]
          try simp only [List.getElem_cons_zero]
          try simp only [Act.put]
          try simp only [List.setIfInBounds_toArray]
          try simp only [List.set_cons_succ]
          try simp only [List.set_cons_zero]
          clear c1
          refine wpAnyH_ready (rs := [3]) (by kernel_rfl) (by simp) ?_
          refine AllReadyH.cons rfl (fun K1 hK => ?_) AllReadyH.nil
          go_simp
          refine (l07Lock_any g _ XD0.out.dg.cu).mono ?_
          rintro r u1 ⟨⟨xc, xe, xn, lo, hi, ex, rfl⟩, hg, hcu⟩
          have XD1 := hid (XD0.out.step hg hcu)
          clear XD0 hg hcu
          go_wp2_with fail
          refine hK.out _ _ ?_ (fun hHeld => ?_)
          · trivial
          clear hK K1
          try simp only [List.getElem_toArray]
          try simp only [List.getElem_cons_succ]
          try simp only [List.getElem_cons_zero]
          try simp only [Act.put]
          try simp only [List.setIfInBounds_toArray]
          try simp only [List.set_cons_succ]
          try simp only [List.set_cons_zero]
          refine wpAnyH_ready (rs := [4]) (by kernel_rfl) (by simp) ?_
          refine AllReadyH.cons rfl (fun K1 hK => ?_) AllReadyH.nil
          have hbA := below_new (o := .cells #[.int .i64 xc, .int .i64 xe, .int .i64 xn, .string lo, .string hi, .bool ex] 75) (w := u1) (Below.refl _ _)
          have XD2 : Hid (LD w (u1.alloc (.cells #[.int .i64 xc, .int .i64 xe, .int .i64 xn, .string lo, .string hi, .bool ex] 75)) g b (.slice ha hn hc) (.slice wa wn wc) hl wl) := XD1.out.call hbA
          have KB := hid (Bk.new u1 75 (lcs [((xc, xe, xn), (lo, hi), ex)]))
          have hgb : w.heap.size + 1 ≤ (u1.alloc (.cells #[.int .i64 xc, .int .i64 xe, .int .i64 xn, .string lo, .string hi, .bool ex] 75)).heap.size := by have := XD2.out.kb.lt; have := XD2.out.lt; omega
          clear hbA XD1
          go_simp
          refine hK.out _ _ ?_ (fun hHeld => ?_)
          · trivial
          clear hK K1
          try simp only [List.getElem_toArray]
          try simp only [List.getElem_cons_succ]
          try simp only [List.getElem_cons_zero]
          try simp only [Act.put]
          try simp only [List.setIfInBounds_toArray]
          try simp only [List.set_cons_succ]
          try simp only [List.set_cons_zero]
          obtain ⟨za, zn, zc, w5, hr5, hO5, hg5, ha5⟩ := run_append_ll 69 (w.heap.size + 1) _ wl XD2.out.ow.hw _ ((xc, xe, xn), (lo, hi), ex) KB.out (by have := HL.out; simp at this ⊢; omega) hgb
          refine wpAnyH_ready (rs := [5]) (by kernel_rfl) (by simp) ?_
          refine AllReadyH.cons rfl (fun K1 hK => ?_) AllReadyH.nil
          refine step_append_ll _ _ rfl _ _ _ rfl rfl hr5 ?_
          refine hK.out _ _ ?_ (fun hHeld => ?_)
          · trivial
          clear hK K1
          try simp only [List.getElem_toArray]
          try simp only [List.getElem_cons_succ]
          try simp only [List.getElem_cons_zero]
          try simp only [Act.put]
          try simp only [List.setIfInBounds_toArray]
          try simp only [List.set_cons_succ]
          try simp only [List.set_cons_zero]
          have hP := XD2.out.pushW hO5 hg5 ha5
          have c1 := hP.2.cell (j := 1) rfl
          have f1 := hP.2.free 1
          have X9 : Hid (LD w (w5.setCell ⟨b, 1, none⟩ (.slice za zn zc)) g b (.slice ha hn hc) (.slice za zn zc) hl (wl ++ [((xc, xe, xn), (lo, hi), ex)])) := hP.1
          clear hP XD2 KB hgb hr5 hO5 hg5 ha5
          refine wpAnyH_take (i := 6) (v := (.pointer (some ⟨b, 1, none⟩))) rfl (by kernel_rfl) (by kernel_rfl) (by kernel_rfl) (fun _ _ _ h => h) (Or.inl ⟨by rfl, ?_⟩) (by assumption) ?_
          · intro w hSw
            (try dsimp only at hSw)
            go_simp
          try simp only [List.getElem_toArray]
          try simp only [List.getElem_cons_succ]
          try simp only [List.getElem_cons_zero]
          try simp only [Act.put]
          try simp only [List.setIfInBounds_toArray]
          try simp only [List.set_cons_succ]
          try simp only [List.set_cons_zero]
          refine wpAnyH_ready (rs := [7]) (by kernel_rfl) (by simp) ?_
          refine AllReadyH.cons rfl (fun K1 hK => ?_) AllReadyH.nil
          go_simp
          try go_wp2_with fail
          refine hK.out _ _ ?_ (fun hHeld => ?_)
          · trivial
          clear hK K1
          try simp only [List.getElem_toArray]
          try simp only [List.getElem_cons_succ]
          try simp only [List.getElem_cons_zero]
          try simp only [Act.put]
          try simp only [List.setIfInBounds_toArray]
          try simp only [List.set_cons_succ]
          try simp only [List.set_cons_zero]
          refine wpAnyH_done (by kernel_rfl) ?_ _
          refine NoPanic.normal ?_
          clear c1 f1
          generalize w5.setCell ⟨b, 1, none⟩ (.slice za zn zc) = V9 at *
          go_upto_region 17 with (fail)
          have c0 := X9.out.kb.cell (j := 0) rfl
          have c1 := X9.out.kb.cell (j := 1) rfl
          have z0 := X9.out.k1.cell (j := 0) rfl
          have z1 := X9.out.k1.cell (j := 1) rfl
          have f0 := X9.out.k1.free 0
          have f1 := X9.out.k1.free 1
          have hltb := X9.out.lt
          have d1 : ¬ w.heap.size = b := by omega
          have d2 : ¬ b = w.heap.size := by omega
          have JE := hid ((X9.out.k1.set 0 (.slice ha hn hc)).set 1 (.slice za zn zc))
          have GE := hid ((X9.out.dg.set (b := w.heap.size) (Nat.le_refl _) 0 (.slice ha hn hc)).set (b := w.heap.size) (Nat.le_refl _) 1 (.slice za zn zc))
          have OE : Hid (LO ((V9.setCell ⟨w.heap.size, 0, none⟩ (.slice ha hn hc)).setCell ⟨w.heap.size, 1, none⟩ (.slice za zn zc)) (w.heap.size + 1) (.slice ha hn hc) (.slice za zn zc) hl (wl ++ [((xc, xe, xn), (lo, hi), ex)])) := X9.out.ow.to ((only_set (R := fun y => y = w.heap.size) (p := ⟨w.heap.size, 0, none⟩) rfl _).trans (only_set (R := fun y => y = w.heap.size) (p := ⟨w.heap.size, 1, none⟩) rfl _)) (fun y hy e => by have := (X9.out.ow.lt hy).1; omega)
          clear X9
          go_wp2_with fail
          try simp only [Exit.inBlock, Exit.then]
          generalize ((V9.setCell ⟨w.heap.size, 0, none⟩ (.slice ha hn hc)).setCell ⟨w.heap.size, 1, none⟩ (.slice za zn zc)) = VR at *
          refine bodyPost_ret (v := .agg #[.slice ha hn hc, .slice za zn zc]) ?_ rfl ?_
          · exact results_locks rfl _ _ w.heap.size rfl (JE.out.cell (j := 0) rfl) (JE.out.cell (j := 1) rfl)
          · first
            | exact ⟨⟨_, _, _, _, _, _, hl, (wl ++ [((xc, xe, xn), (lo, hi), ex)]), rfl, OE.out, (by have := HL.out; simp at this ⊢; omega)⟩, GE.out.gr, GE.out.cu⟩
            | exact ⟨⟨_, _, _, _, _, _, rfl, hl, (wl ++ [((xc, xe, xn), (lo, hi), ex)]), OE.out, (by have := HL.out; simp at this ⊢; omega)⟩, GE.out.gr, GE.out.cu⟩
        · skip
          go_simp
          refine (l07Lock_any g _ XD0.out.dg.cu).mono ?_
          rintro r u1 ⟨⟨xc, xe, xn, lo, hi, ex, rfl⟩, hg, hcu⟩
          have XD1 := hid (XD0.out.step hg hcu)
          clear XD0 hg hcu
          go_wp2_with fail
          refine hK.out _ _ ?_ (fun hHeld => ?_)
          · trivial
          clear hK K1
          try simp only [List.getElem_toArray]
          try simp only [List.getElem_cons_succ]
          try simp only [List.getElem_cons_zero]
          try simp only [Act.put]
          try simp only [List.setIfInBounds_toArray]
          try simp only [List.set_cons_succ]
          try simp only [List.set_cons_zero]
          refine wpAnyH_ready (rs := [1, 4]) (by kernel_rfl) (by simp) ?_
          refine AllReadyH.cons rfl (fun K1 hK => ?_) (AllReadyH.cons rfl (fun K1 hK => ?_) AllReadyH.nil)
          · skip
            have c1 := XD1.out.kb.cell (j := 1) rfl
            go_simp
            refine hK.out _ _ ?_ (fun hHeld => ?_)
            · trivial
            clear hK K1
            try simp only [List.getElem_toArray]
            try simp only [List.getElem_cons_succ]
            try simp only [List.getElem_cons_zero]
            try simp only [Act.put]
            try simp only [List.setIfInBounds_toArray]
            try simp only [List.set_cons_succ]
            try simp only [List.set_cons_zero]
            clear c1
            refine wpAnyH_ready (rs := [4]) (by kernel_rfl) (by simp) ?_
            refine AllReadyH.cons rfl (fun K1 hK => ?_) AllReadyH.nil
            have hbA := below_new (o := .cells #[.int .i64 xc, .int .i64 xe, .int .i64 xn, .string lo, .string hi, .bool ex] 75) (w := u1) (Below.refl _ _)
            have XD2 : Hid (LD w (u1.alloc (.cells #[.int .i64 xc, .int .i64 xe, .int .i64 xn, .string lo, .string hi, .bool ex] 75)) g b (.slice ha hn hc) (.slice wa wn wc) hl wl) := XD1.out.call hbA
            have KB := hid (Bk.new u1 75 (lcs [((xc, xe, xn), (lo, hi), ex)]))
            have hgb : w.heap.size + 1 ≤ (u1.alloc (.cells #[.int .i64 xc, .int .i64 xe, .int .i64 xn, .string lo, .string hi, .bool ex] 75)).heap.size := by have := XD2.out.kb.lt; have := XD2.out.lt; omega
            clear hbA XD1
            go_simp
            refine hK.out _ _ ?_ (fun hHeld => ?_)
            · trivial
            clear hK K1
            try simp only [List.getElem_toArray]
            try simp only [List.getElem_cons_succ]
            try simp only [List.getElem_cons_zero]
            try simp only [Act.put]
            try simp only [List.setIfInBounds_toArray]
            try simp only [List.set_cons_succ]
            try simp only [List.set_cons_zero]
            obtain ⟨za, zn, zc, w5, hr5, hO5, hg5, ha5⟩ := run_append_ll 69 (w.heap.size + 1) _ wl XD2.out.ow.hw _ ((xc, xe, xn), (lo, hi), ex) KB.out (by have := HL.out; simp at this ⊢; omega) hgb
            refine wpAnyH_ready (rs := [5]) (by kernel_rfl) (by simp) ?_
            refine AllReadyH.cons rfl (fun K1 hK => ?_) AllReadyH.nil
            refine step_append_ll _ _ rfl _ _ _ rfl rfl hr5 ?_
            refine hK.out _ _ ?_ (fun hHeld => ?_)
            · trivial
            clear hK K1
            try simp only [List.getElem_toArray]
            try simp only [List.getElem_cons_succ]
            try simp only [List.getElem_cons_zero]
            try simp only [Act.put]
            try simp only [List.setIfInBounds_toArray]
            try simp only [List.set_cons_succ]
            try simp only [List.set_cons_zero]
            have hP := XD2.out.pushW hO5 hg5 ha5
            have c1 := hP.2.cell (j := 1) rfl
            have f1 := hP.2.free 1
            have X9 : Hid (LD w (w5.setCell ⟨b, 1, none⟩ (.slice za zn zc)) g b (.slice ha hn hc) (.slice za zn zc) hl (wl ++ [((xc, xe, xn), (lo, hi), ex)])) := hP.1
            clear hP XD2 KB hgb hr5 hO5 hg5 ha5
            refine wpAnyH_take (i := 6) (v := (.pointer (some ⟨b, 1, none⟩))) rfl (by kernel_rfl) (by kernel_rfl) (by kernel_rfl) (fun _ _ _ h => h) (Or.inl ⟨by rfl, ?_⟩) (by assumption) ?_
            · intro w hSw
              (try dsimp only at hSw)
              go_simp
            try simp only [List.getElem_toArray]
            try simp only [List.getElem_cons_succ]
            try simp only [List.getElem_cons_zero]
            try simp only [Act.put]
            try simp only [List.setIfInBounds_toArray]
            try simp only [List.set_cons_succ]
            try simp only [List.set_cons_zero]
            refine wpAnyH_ready (rs := [7]) (by kernel_rfl) (by simp) ?_
            refine AllReadyH.cons rfl (fun K1 hK => ?_) AllReadyH.nil
            go_simp
            try go_wp2_with fail
            refine hK.out _ _ ?_ (fun hHeld => ?_)
            · trivial
            clear hK K1
            try simp only [List.getElem_toArray]
            try simp only [List.getElem_cons_succ]
            try simp only [List.getElem_cons_zero]
            try simp only [Act.put]
            try simp only [List.setIfInBounds_toArray]
            try simp only [List.set_cons_succ]
            try simp only [List.set_cons_zero]
            refine wpAnyH_done (by kernel_rfl) ?_ _
            refine NoPanic.normal ?_
            clear c1 f1
            generalize w5.setCell ⟨b, 1, none⟩ (.slice za zn zc) = V9 at *
            go_upto_region 17 with (fail)
            have c0 := X9.out.kb.cell (j := 0) rfl
            have c1 := X9.out.kb.cell (j := 1) rfl
            have z0 := X9.out.k1.cell (j := 0) rfl
            have z1 := X9.out.k1.cell (j := 1) rfl
            have f0 := X9.out.k1.free 0
            have f1 := X9.out.k1.free 1
            have hltb := X9.out.lt
            have d1 : ¬ w.heap.size = b := by omega
            have d2 : ¬ b = w.heap.size := by omega
            have JE := hid ((X9.out.k1.set 0 (.slice ha hn hc)).set 1 (.slice za zn zc))
            have GE := hid ((X9.out.dg.set (b := w.heap.size) (Nat.le_refl _) 0 (.slice ha hn hc)).set (b := w.heap.size) (Nat.le_refl _) 1 (.slice za zn zc))
            have OE : Hid (LO ((V9.setCell ⟨w.heap.size, 0, none⟩ (.slice ha hn hc)).setCell ⟨w.heap.size, 1, none⟩ (.slice za zn zc)) (w.heap.size + 1) (.slice ha hn hc) (.slice za zn zc) hl (wl ++ [((xc, xe, xn), (lo, hi), ex)])) := X9.out.ow.to ((only_set (R := fun y => y = w.heap.size) (p := ⟨w.heap.size, 0, none⟩) rfl _).trans (only_set (R := fun y => y = w.heap.size) (p := ⟨w.heap.size, 1, none⟩) rfl _)) (fun y hy e => by have := (X9.out.ow.lt hy).1; omega)
            clear X9
            go_wp2_with fail
            try simp only [Exit.inBlock, Exit.then]
            generalize ((V9.setCell ⟨w.heap.size, 0, none⟩ (.slice ha hn hc)).setCell ⟨w.heap.size, 1, none⟩ (.slice za zn zc)) = VR at *
            refine bodyPost_ret (v := .agg #[.slice ha hn hc, .slice za zn zc]) ?_ rfl ?_
            · exact results_locks rfl _ _ w.heap.size rfl (JE.out.cell (j := 0) rfl) (JE.out.cell (j := 1) rfl)
            · first
              | exact ⟨⟨_, _, _, _, _, _, hl, (wl ++ [((xc, xe, xn), (lo, hi), ex)]), rfl, OE.out, (by have := HL.out; simp at this ⊢; omega)⟩, GE.out.gr, GE.out.cu⟩
              | exact ⟨⟨_, _, _, _, _, _, rfl, hl, (wl ++ [((xc, xe, xn), (lo, hi), ex)]), OE.out, (by have := HL.out; simp at this ⊢; omega)⟩, GE.out.gr, GE.out.cu⟩
          · skip
            have hbA := below_new (o := .cells #[.int .i64 xc, .int .i64 xe, .int .i64 xn, .string lo, .string hi, .bool ex] 75) (w := u1) (Below.refl _ _)
            have XD2 : Hid (LD w (u1.alloc (.cells #[.int .i64 xc, .int .i64 xe, .int .i64 xn, .string lo, .string hi, .bool ex] 75)) g b (.slice ha hn hc) (.slice wa wn wc) hl wl) := XD1.out.call hbA
            have KB := hid (Bk.new u1 75 (lcs [((xc, xe, xn), (lo, hi), ex)]))
            have hgb : w.heap.size + 1 ≤ (u1.alloc (.cells #[.int .i64 xc, .int .i64 xe, .int .i64 xn, .string lo, .string hi, .bool ex] 75)).heap.size := by have := XD2.out.kb.lt; have := XD2.out.lt; omega
            clear hbA XD1
            go_simp
            refine hK.out _ _ ?_ (fun hHeld => ?_)
            · trivial
            clear hK K1
            try simp only [List.getElem_toArray]
            try simp only [List.getElem_cons_succ]
            try simp only [List.getElem_cons_zero]
            try simp only [Act.put]
            try simp only [List.setIfInBounds_toArray]
            try simp only [List.set_cons_succ]
            try simp only [List.set_cons_zero]
            refine wpAnyH_ready (rs := [1]) (by kernel_rfl) (by simp) ?_
            refine AllReadyH.cons rfl (fun K1 hK => ?_) AllReadyH.nil
            have c1 := XD2.out.kb.cell (j := 1) rfl
            go_simp
            refine hK.out _ _ ?_ (fun hHeld => ?_)
            · trivial
            clear hK K1
            try simp only [List.getElem_toArray]
            try simp only [List.getElem_cons_succ]
            try simp only [List.getElem_cons_zero]
            try simp only [Act.put]
            try simp only [List.setIfInBounds_toArray]
            try simp only [List.set_cons_succ]
            try simp only [List.set_cons_zero]
            clear c1
            obtain ⟨za, zn, zc, w5, hr5, hO5, hg5, ha5⟩ := run_append_ll 69 (w.heap.size + 1) _ wl XD2.out.ow.hw _ ((xc, xe, xn), (lo, hi), ex) KB.out (by have := HL.out; simp at this ⊢; omega) hgb
            refine wpAnyH_ready (rs := [5]) (by kernel_rfl) (by simp) ?_
            refine AllReadyH.cons rfl (fun K1 hK => ?_) AllReadyH.nil
            refine step_append_ll _ _ rfl _ _ _ rfl rfl hr5 ?_
            refine hK.out _ _ ?_ (fun hHeld => ?_)
            · trivial
            clear hK K1
            try simp only [List.getElem_toArray]
            try simp only [List.getElem_cons_succ]
            try simp only [List.getElem_cons_zero]
            try simp only [Act.put]
            try simp only [List.setIfInBounds_toArray]
            try simp only [List.set_cons_succ]
            try simp only [List.set_cons_zero]
            have hP := XD2.out.pushW hO5 hg5 ha5
            have c1 := hP.2.cell (j := 1) rfl
            have f1 := hP.2.free 1
            have X9 : Hid (LD w (w5.setCell ⟨b, 1, none⟩ (.slice za zn zc)) g b (.slice ha hn hc) (.slice za zn zc) hl (wl ++ [((xc, xe, xn), (lo, hi), ex)])) := hP.1
            clear hP XD2 KB hgb hr5 hO5 hg5 ha5
            refine wpAnyH_take (i := 6) (v := (.pointer (some ⟨b, 1, none⟩))) rfl (by kernel_rfl) (by kernel_rfl) (by kernel_rfl) (fun _ _ _ h => h) (Or.inl ⟨by rfl, ?_⟩) (by assumption) ?_
            · intro w hSw
              (try dsimp only at hSw)
              go_simp
            try simp only [List.getElem_toArray]
            try simp only [List.getElem_cons_succ]
            try simp only [List.getElem_cons_zero]
            try simp only [Act.put]
            try simp only [List.setIfInBounds_toArray]
            try simp only [List.set_cons_succ]
            try simp only [List.set_cons_zero]
            refine wpAnyH_ready (rs := [7]) (by kernel_rfl) (by simp) ?_
            refine AllReadyH.cons rfl (fun K1 hK => ?_) AllReadyH.nil
            go_simp
            try go_wp2_with fail
            refine hK.out _ _ ?_ (fun hHeld => ?_)
            · trivial
            clear hK K1
            try simp only [List.getElem_toArray]
            try simp only [List.getElem_cons_succ]
            try simp only [List.getElem_cons_zero]
            try simp only [Act.put]
            try simp only [List.setIfInBounds_toArray]
            try simp only [List.set_cons_succ]
            try simp only [List.set_cons_zero]
            refine wpAnyH_done (by kernel_rfl) ?_ _
            refine NoPanic.normal ?_
            clear c1 f1
            generalize w5.setCell ⟨b, 1, none⟩ (.slice za zn zc) = V9 at *
            go_upto_region 17 with (fail)
            have c0 := X9.out.kb.cell (j := 0) rfl
            have c1 := X9.out.kb.cell (j := 1) rfl
            have z0 := X9.out.k1.cell (j := 0) rfl
            have z1 := X9.out.k1.cell (j := 1) rfl
            have f0 := X9.out.k1.free 0
            have f1 := X9.out.k1.free 1
            have hltb := X9.out.lt
            have d1 : ¬ w.heap.size = b := by omega
            have d2 : ¬ b = w.heap.size := by omega
            have JE := hid ((X9.out.k1.set 0 (.slice ha hn hc)).set 1 (.slice za zn zc))
            have GE := hid ((X9.out.dg.set (b := w.heap.size) (Nat.le_refl _) 0 (.slice ha hn hc)).set (b := w.heap.size) (Nat.le_refl _) 1 (.slice za zn zc))
            have OE : Hid (LO ((V9.setCell ⟨w.heap.size, 0, none⟩ (.slice ha hn hc)).setCell ⟨w.heap.size, 1, none⟩ (.slice za zn zc)) (w.heap.size + 1) (.slice ha hn hc) (.slice za zn zc) hl (wl ++ [((xc, xe, xn), (lo, hi), ex)])) := X9.out.ow.to ((only_set (R := fun y => y = w.heap.size) (p := ⟨w.heap.size, 0, none⟩) rfl _).trans (only_set (R := fun y => y = w.heap.size) (p := ⟨w.heap.size, 1, none⟩) rfl _)) (fun y hy e => by have := (X9.out.ow.lt hy).1; omega)
            clear X9
            go_wp2_with fail
            try simp only [Exit.inBlock, Exit.then]
            generalize ((V9.setCell ⟨w.heap.size, 0, none⟩ (.slice ha hn hc)).setCell ⟨w.heap.size, 1, none⟩ (.slice za zn zc)) = VR at *
            refine bodyPost_ret (v := .agg #[.slice ha hn hc, .slice za zn zc]) ?_ rfl ?_
            · exact results_locks rfl _ _ w.heap.size rfl (JE.out.cell (j := 0) rfl) (JE.out.cell (j := 1) rfl)
            · first
              | exact ⟨⟨_, _, _, _, _, _, hl, (wl ++ [((xc, xe, xn), (lo, hi), ex)]), rfl, OE.out, (by have := HL.out; simp at this ⊢; omega)⟩, GE.out.gr, GE.out.cu⟩
              | exact ⟨⟨_, _, _, _, _, _, rfl, hl, (wl ++ [((xc, xe, xn), (lo, hi), ex)]), OE.out, (by have := HL.out; simp at this ⊢; omega)⟩, GE.out.gr, GE.out.cu⟩
      · by_cases e3 : x = 3
        · subst e3
          by_cases hp : 0 < wn
          · have hp' : (0 : Int) < (wn : Int) := by omega
            obtain ⟨y, l, hyl⟩ : ∃ y l, wl = y :: l := by
              cases wl with
              | nil => have := HN2.out; simp at this; omega
              | cons y l => exact ⟨y, l, rfl⟩
            subst hyl
            obtain ⟨q, hq, -⟩ := (ownL_at X0.out.ow.hw).2.2.2 hp
            subst hq
            have c1 := X0.out.kb.cell (j := 1) rfl
            have XD0 : Hid (LD w V0.drew g b (.slice ha hn hc) (.slice (some ⟨q, 0, none⟩) wn wc) hl (y :: l)) := X0.out.call (below_drew _)
            clear X0
            go_upto_region 10 with (fail)
            clear c1
            refine wp_region_noPanic ?_
            refine wp_region_held_drew (S := fun v => v.cell? ⟨b, 1, none⟩ = some (.slice (some ⟨q, 0, none⟩) wn wc)) (by kernel_rfl) (XD0.out.kb.cell (j := 1) rfl) (fun hHeld => ?_)
            simp only [List.size_toArray, List.length_cons, List.length_nil, Array.replicate_succ, Array.replicate_zero, Nat.reduceAdd, List.push_toArray, List.nil_append, List.cons_append]
            refine wpAnyH_take (i := 0) (v := (.pointer (some ⟨b, 1, none⟩))) rfl (by kernel_rfl) (by kernel_rfl) (by kernel_rfl) (fun _ _ _ h => h) (Or.inl ⟨by rfl, ?_⟩) (by assumption) ?_
            · intro w hSw
              (try dsimp only at hSw)
              go_simp
            try simp only [List.getElem_toArray]
            try simp only [List.getElem_cons_succ]
            try simp only [List.getElem_cons_zero]
            try simp only [Act.put]
            try simp only [List.setIfInBounds_toArray]
            try simp only [List.set_cons_succ]
            try simp only [List.set_cons_zero]
            refine wpAnyH_take (i := 1) (v := (.slice (some ⟨q, 0, none⟩) wn wc)) rfl (by kernel_rfl) (by kernel_rfl) (by kernel_rfl) (fun _ _ _ h => h) (Or.inl ⟨by rfl, ?_⟩) (by assumption) ?_
            · intro w hSw
              (try dsimp only at hSw)
              go_simp
            try simp only [List.getElem_toArray]
            try simp only [List.getElem_cons_succ]
            try simp only [List.getElem_cons_zero]
            try simp only [Act.put]
            try simp only [List.setIfInBounds_toArray]
            try simp only [List.set_cons_succ]
            try simp only [List.set_cons_zero]
            refine wpAnyH_take (i := 2) (v := (.pointer (some ⟨g, 0, none⟩))) rfl (by kernel_rfl) (by kernel_rfl) (by kernel_rfl) (fun _ _ _ h => h) (Or.inl ⟨by rfl, ?_⟩) (by assumption) ?_
            · intro w hSw
              (try dsimp only at hSw)
              go_simp
            try simp only [List.getElem_toArray]
            try simp only [List.getElem_cons_succ]
            try simp only [List.getElem_cons_zero]
            try simp only [Act.put]
            try simp only [List.setIfInBounds_toArray]
            try simp only [List.set_cons_succ]
            try simp only [List.set_cons_zero]
            refine wpAnyH_ready (rs := [3]) (by kernel_rfl) (by simp) ?_
            refine AllReadyH.cons rfl (fun K1 hK => ?_) AllReadyH.nil
            go_simp
            refine (l07AnyTx_any g _ XD0.out.dg.cu).mono ?_
            rintro r u1 ⟨⟨x0, x1, x2, rfl⟩, hg, hcu⟩
            have XD1 := hid (XD0.out.step hg hcu)
            clear XD0 hg hcu
            go_wp2_with fail
            refine hK.out _ _ ?_ (fun hHeld => ?_)
            · exact XD1.out.kb.cell (j := 1) rfl
            clear hK K1
            try simp only [List.getElem_toArray]
            try simp only [List.getElem_cons_succ]
            try simp only [List.getElem_cons_zero]
            try simp only [Act.put]
            try simp only [List.setIfInBounds_toArray]
            try simp only [List.set_cons_succ]
            try simp only [List.set_cons_zero]
            refine wpAnyH_take (i := 4) (v := (.pointer (some ⟨q, 0, none⟩))) rfl (by kernel_rfl) (by kernel_rfl) (by kernel_rfl) (fun _ _ _ h => h) (Or.inl ⟨by rfl, ?_⟩) (by assumption) ?_
            · intro w hSw
              (try dsimp only at hSw)
              go_simp
            try simp only [List.getElem_toArray]
            try simp only [List.getElem_cons_succ]
            try simp only [List.getElem_cons_zero]
            try simp only [Act.put]
            try simp only [List.setIfInBounds_toArray]
            try simp only [List.set_cons_succ]
            try simp only [List.set_cons_zero]
            refine wpAnyH_take (i := 5) (v := (.pointer (some ⟨q, 0, none⟩))) rfl (by kernel_rfl) (by kernel_rfl) (by kernel_rfl) (fun _ _ _ h => h) (Or.inl ⟨by rfl, ?_⟩) (by assumption) ?_
            · intro w hSw
              (try dsimp only at hSw)
              go_simp
            try simp only [List.getElem_toArray]
            try simp only [List.getElem_cons_succ]
            try simp only [List.getElem_cons_zero]
            try simp only [Act.put]
            try simp only [List.setIfInBounds_toArray]
            try simp only [List.set_cons_succ]
            try simp only [List.set_cons_zero]
            obtain ⟨q', hq', -, -, hfr, hce⟩ := (ownL_at XD1.out.ow.hw).2.2.2 hp
            cases hq'
            have e0 := hce 0 _ rfl
            have f0 := hfr 0
            have e1 := hce 1 _ rfl
            have f1 := hfr 1
            have e2 := hce 2 _ rfl
            have f2 := hfr 2
            have X9 : Hid (LD w (((u1.setCell ⟨q, 0, none⟩ (.int .i64 x0)).setCell ⟨q, 1, none⟩ (.int .i64 x1)).setCell ⟨q, 2, none⟩ (.int .i64 x2)) g b (.slice ha hn hc) (.slice (some ⟨q, 0, none⟩) wn wc) hl (((x0, x1, x2), y.2) :: l)) := XD1.out.pokeW x0 x1 x2
            clear hfr hce
            refine wpAnyH_ready (rs := [6]) (by kernel_rfl) (by simp) ?_
            refine AllReadyH.cons rfl (fun K1 hK => ?_) AllReadyH.nil
            go_simp
            try go_wp2_with fail
            refine hK.out _ _ ?_ (fun hHeld => ?_)
            · exact X9.out.kb.cell (j := 1) rfl
            clear hK K1
            try simp only [List.getElem_toArray]
            try simp only [List.getElem_cons_succ]
            try simp only [List.getElem_cons_zero]
            try simp only [Act.put]
            try simp only [List.setIfInBounds_toArray]
            try simp only [List.set_cons_succ]
            try simp only [List.set_cons_zero]
            refine wpAnyH_done (by kernel_rfl) ?_ _
            refine NoPanic.normal ?_
            clear XD1 e0 f0 e1 f1 e2 f2
            generalize (((u1.setCell ⟨q, 0, none⟩ (.int .i64 x0)).setCell ⟨q, 1, none⟩ (.int .i64 x1)).setCell ⟨q, 2, none⟩ (.int .i64 x2)) = V9 at *
            go_upto_region 17 with (fail)
            have c0 := X9.out.kb.cell (j := 0) rfl
            have c1 := X9.out.kb.cell (j := 1) rfl
            have z0 := X9.out.k1.cell (j := 0) rfl
            have z1 := X9.out.k1.cell (j := 1) rfl
            have f0 := X9.out.k1.free 0
            have f1 := X9.out.k1.free 1
            have hltb := X9.out.lt
            have d1 : ¬ w.heap.size = b := by omega
            have d2 : ¬ b = w.heap.size := by omega
            have JE := hid ((X9.out.k1.set 0 (.slice ha hn hc)).set 1 (.slice (some ⟨q, 0, none⟩) wn wc))
            have GE := hid ((X9.out.dg.set (b := w.heap.size) (Nat.le_refl _) 0 (.slice ha hn hc)).set (b := w.heap.size) (Nat.le_refl _) 1 (.slice (some ⟨q, 0, none⟩) wn wc))
            have OE : Hid (LO ((V9.setCell ⟨w.heap.size, 0, none⟩ (.slice ha hn hc)).setCell ⟨w.heap.size, 1, none⟩ (.slice (some ⟨q, 0, none⟩) wn wc)) (w.heap.size + 1) (.slice ha hn hc) (.slice (some ⟨q, 0, none⟩) wn wc) hl (((x0, x1, x2), y.2) :: l)) := X9.out.ow.to ((only_set (R := fun y => y = w.heap.size) (p := ⟨w.heap.size, 0, none⟩) rfl _).trans (only_set (R := fun y => y = w.heap.size) (p := ⟨w.heap.size, 1, none⟩) rfl _)) (fun y hy e => by have := (X9.out.ow.lt hy).1; omega)
            clear X9
            go_wp2_with fail
            try simp only [Exit.inBlock, Exit.then]
            generalize ((V9.setCell ⟨w.heap.size, 0, none⟩ (.slice ha hn hc)).setCell ⟨w.heap.size, 1, none⟩ (.slice (some ⟨q, 0, none⟩) wn wc)) = VR at *
            refine bodyPost_ret (v := .agg #[.slice ha hn hc, .slice (some ⟨q, 0, none⟩) wn wc]) ?_ rfl ?_
            · exact results_locks rfl _ _ w.heap.size rfl (JE.out.cell (j := 0) rfl) (JE.out.cell (j := 1) rfl)
            · first
              | exact ⟨⟨_, _, _, _, _, _, hl, (((x0, x1, x2), y.2) :: l), rfl, OE.out, (by have := HL.out; simp at this ⊢; omega)⟩, GE.out.gr, GE.out.cu⟩
              | exact ⟨⟨_, _, _, _, _, _, rfl, hl, (((x0, x1, x2), y.2) :: l), OE.out, (by have := HL.out; simp at this ⊢; omega)⟩, GE.out.gr, GE.out.cu⟩
          · have hp' : ¬ (0 : Int) < (wn : Int) := by omega
            have c1 := X0.out.kb.cell (j := 1) rfl
            go_upto_region 17 with (fail)
            clear c1
            have c0 := X0.out.kb.cell (j := 0) rfl
            have c1 := X0.out.kb.cell (j := 1) rfl
            have z0 := X0.out.k1.cell (j := 0) rfl
            have z1 := X0.out.k1.cell (j := 1) rfl
            have f0 := X0.out.k1.free 0
            have f1 := X0.out.k1.free 1
            have hltb := X0.out.lt
            have d1 : ¬ w.heap.size = b := by omega
            have d2 : ¬ b = w.heap.size := by omega
            have JE := hid ((X0.out.k1.set 0 (.slice ha hn hc)).set 1 (.slice wa wn wc))
            have GE := hid ((X0.out.dg.set (b := w.heap.size) (Nat.le_refl _) 0 (.slice ha hn hc)).set (b := w.heap.size) (Nat.le_refl _) 1 (.slice wa wn wc))
            have OE : Hid (LO ((V0.setCell ⟨w.heap.size, 0, none⟩ (.slice ha hn hc)).setCell ⟨w.heap.size, 1, none⟩ (.slice wa wn wc)) (w.heap.size + 1) (.slice ha hn hc) (.slice wa wn wc) hl wl) := X0.out.ow.to ((only_set (R := fun y => y = w.heap.size) (p := ⟨w.heap.size, 0, none⟩) rfl _).trans (only_set (R := fun y => y = w.heap.size) (p := ⟨w.heap.size, 1, none⟩) rfl _)) (fun y hy e => by have := (X0.out.ow.lt hy).1; omega)
            clear X0
            go_wp2_with fail
            try simp only [Exit.inBlock, Exit.then]
            generalize ((V0.setCell ⟨w.heap.size, 0, none⟩ (.slice ha hn hc)).setCell ⟨w.heap.size, 1, none⟩ (.slice wa wn wc)) = VR at *
            refine bodyPost_ret (v := .agg #[.slice ha hn hc, .slice wa wn wc]) ?_ rfl ?_
            · exact results_locks rfl _ _ w.heap.size rfl (JE.out.cell (j := 0) rfl) (JE.out.cell (j := 1) rfl)
            · first
              | exact ⟨⟨_, _, _, _, _, _, hl, wl, rfl, OE.out, (by have := HL.out; omega)⟩, GE.out.gr, GE.out.cu⟩
              | exact ⟨⟨_, _, _, _, _, _, rfl, hl, wl, OE.out, (by have := HL.out; omega)⟩, GE.out.gr, GE.out.cu⟩
        · by_cases e4 : x = 4
          · subst e4
            have c0 := X0.out.kb.cell (j := 0) rfl
            have c1 := X0.out.kb.cell (j := 1) rfl
            have f0 := X0.out.kb.free 0
            have f1 := X0.out.kb.free 1
            have X1 : Hid (LD w ((V0.setCell ⟨b, 0, none⟩ (.slice none 0 0)).setCell ⟨b, 1, none⟩ (.slice none 0 0)) g b (.slice none 0 0) (.slice none 0 0) [] []) := X0.out.put ⟨lw_nil _ _, lw_nil _ _, fun y e => by cases e⟩ (fun y hy => by rcases hy with e | e <;> cases e)
            go_upto_region 13 with (fail)
            generalize ((V0.setCell ⟨b, 0, none⟩ (.slice none 0 0)).setCell ⟨b, 1, none⟩ (.slice none 0 0)) = V1 at *
            clear X0 c0 c1 f0 f1 HL HN1 HN2
            go_wp2_with fail
            go_loopw [5] (fun i wr => ∃ (j : Nat) (la : Option Addr) (ln lc : Nat) (l : List LK), i = .int .i64 j ∧ j ≤ 61 ∧ l.length = j ∧ Hid (LD w wr g b (.slice la ln lc) (.slice none 0 0) l [])) (fun i _ => 61 - (intOf i).toNat)
            case atStart => exact ⟨0, none, 0, 0, [], rfl, by omega, rfl, X1.out⟩
            case round =>
              obtain ⟨j, la, ln, lc, l, rfl, hj61, hlj, HX⟩ := hrel
              clear X1
              have HL : Hid (l.length ≤ 61) := by show _ ≤ _; omega
              have HLJ := hid hlj
              clear hlj
              go_wp2_with fail
              refine (below_any g 3 _ HX.out.dg.cu (by omega) (by omega)).mono ?_
              rintro r w4 ⟨⟨y, rfl, hy0, hy1⟩, hg, hcu⟩
              have X4 := hid (HX.out.step hg hcu)
              clear HX hg hcu
              by_cases hjy : (j : Int) < 59 + y
              · have hj2 : j < 61 := by omega
                have XD0 : Hid (LD w w4.drew g b (.slice la ln lc) (.slice none 0 0) l []) := X4.out.call (below_drew _)
                clear X4
                go_wp2_with fail
                refine wp_region_noPanic ?_
                refine wp_region_held_drew (S := fun _ => True) (by kernel_rfl) (trivial) (fun hHeld => ?_)
                simp only [List.size_toArray, List.length_cons, List.length_nil, Array.replicate_succ, Array.replicate_zero, Nat.reduceAdd, List.push_toArray, List.nil_append, List.cons_append]
                refine wpAnyH_take (i := 0) (v := (.pointer (some ⟨b, 0, none⟩))) rfl (by kernel_rfl) (by kernel_rfl) (by kernel_rfl) (fun _ _ _ h => h) (Or.inl ⟨by rfl, ?_⟩) (by assumption) ?_
                · intro w hSw
                  (try dsimp only at hSw)
                  go_simp
                try simp only [List.getElem_toArray]
                try simp only [List.getElem_cons_succ]
                try simp only [List.getElem_cons_zero]
                try simp only [Act.put]
                try simp only [List.setIfInBounds_toArray]
                try simp only [List.set_cons_succ]
                try simp only [List.set_cons_zero]
                refine wpAnyH_take (i := 2) (v := (.pointer (some ⟨g, 0, none⟩))) rfl (by kernel_rfl) (by kernel_rfl) (by kernel_rfl) (fun _ _ _ h => h) (Or.inl ⟨by rfl, ?_⟩) (by assumption) ?_
                · intro w hSw
                  (try dsimp only at hSw)
                  go_simp
                try simp only [List.getElem_toArray]
                try simp only [List.getElem_cons_succ]
                try simp only [List.getElem_cons_zero]
                try simp only [Act.put]
                try simp only [List.setIfInBounds_toArray]
                try simp only [List.set_cons_succ]
                try simp only [List.set_cons_zero]
                refine wpAnyH_take (i := 4) (v := (.pointer (some ⟨g, 0, none⟩))) rfl (by kernel_rfl) (by kernel_rfl) (by kernel_rfl) (fun _ _ _ h => h) (Or.inl ⟨by rfl, ?_⟩) (by assumption) ?_
                · intro w hSw
                  (try dsimp only at hSw)
                  go_simp
                try simp only [List.getElem_toArray]
                try simp only [List.getElem_cons_succ]
                try simp only [List.getElem_cons_zero]
                try simp only [Act.put]
                try simp only [List.setIfInBounds_toArray]
                try simp only [List.set_cons_succ]
                try simp only [List.set_cons_zero]
                refine wpAnyH_ready (rs := [1, 3]) (by kernel_rfl) (by simp) ?_
                refine AllReadyH.cons rfl (fun K1 hK => ?_) (AllReadyH.cons rfl (fun K1 hK => ?_) AllReadyH.nil)
                · skip
                  have c0 := XD0.out.kb.cell (j := 0) rfl
                  go_simp
                  refine hK.out _ _ ?_ (fun hHeld => ?_)
                  · trivial
                  clear hK K1
                  try simp only [List.getElem_toArray]
                  try simp only [List.getElem_cons_succ]
                  try simp only [List.getElem_cons_zero]
                  try simp only [Act.put]
                  try simp only [List.setIfInBounds_toArray]
                  try simp only [List.set_cons_succ]
                  try simp only [List.set_cons_zero]
                  clear c0
                  refine wpAnyH_ready (rs := [3]) (by kernel_rfl) (by simp) ?_
                  refine AllReadyH.cons rfl (fun K1 hK => ?_) AllReadyH.nil
                  go_simp
                  refine (l07Tx_any g _ XD0.out.dg.cu).mono ?_
                  rintro r u1 ⟨⟨xc, xe, xn, rfl⟩, hg, hcu⟩
                  have XD1 := hid (XD0.out.step hg hcu)
                  clear XD0 hg hcu
                  go_wp2_with fail
                  refine hK.out _ _ ?_ (fun hHeld => ?_)
                  · trivial
                  clear hK K1
                  try simp only [List.getElem_toArray]
                  try simp only [List.getElem_cons_succ]
                  try simp only [List.getElem_cons_zero]
                  try simp only [Act.put]
                  try simp only [List.setIfInBounds_toArray]
                  try simp only [List.set_cons_succ]
                  try simp only [List.set_cons_zero]
                  refine wpAnyH_ready (rs := [5]) (by kernel_rfl) (by simp) ?_
                  refine AllReadyH.cons rfl (fun K1 hK => ?_) AllReadyH.nil
                  go_simp
                  refine (range_any g _ XD1.out.dg.cu).mono ?_
                  rintro r u2 ⟨⟨lo, hi, rfl⟩, hg, hcu⟩
                  have XD2 := hid (XD1.out.step hg hcu)
                  clear XD1 hg hcu
                  go_wp2_with fail
                  refine hK.out _ _ ?_ (fun hHeld => ?_)
                  · trivial
                  clear hK K1
                  try simp only [List.getElem_toArray]
                  try simp only [List.getElem_cons_succ]
                  try simp only [List.getElem_cons_zero]
                  try simp only [Act.put]
                  try simp only [List.setIfInBounds_toArray]
                  try simp only [List.set_cons_succ]
                  try simp only [List.set_cons_zero]
                  refine wpAnyH_take (i := 6) (v := (.agg #[.int .i64 xc, .int .i64 xe, .int .i64 xn, .string lo, .string hi, .bool false])) rfl (by kernel_rfl) (by kernel_rfl) (by kernel_rfl) (fun _ _ _ h => h) (Or.inl ⟨by rfl, ?_⟩) (by assumption) ?_
                  · intro w hSw
                    (try dsimp only at hSw)
                    go_simp
                  try simp only [List.getElem_toArray]
                  try simp only [List.getElem_cons_succ]
                  try simp only [List.getElem_cons_zero]
                  try simp only [Act.put]
                  try simp only [List.setIfInBounds_toArray]
                  try simp only [List.set_cons_succ]
                  try simp only [List.set_cons_zero]
                  refine wpAnyH_ready (rs := [7]) (by kernel_rfl) (by simp) ?_
                  refine AllReadyH.cons rfl (fun K1 hK => ?_) AllReadyH.nil
                  have hbA := below_new (o := .cells #[.int .i64 xc, .int .i64 xe, .int .i64 xn, .string lo, .string hi, .bool false] 75) (w := u2) (Below.refl _ _)
                  have XD3 : Hid (LD w (u2.alloc (.cells #[.int .i64 xc, .int .i64 xe, .int .i64 xn, .string lo, .string hi, .bool false] 75)) g b (.slice la ln lc) (.slice none 0 0) l []) := XD2.out.call hbA
                  have KB := hid (Bk.new u2 75 (lcs [((xc, xe, xn), (lo, hi), false)]))
                  have hgb : w.heap.size + 1 ≤ (u2.alloc (.cells #[.int .i64 xc, .int .i64 xe, .int .i64 xn, .string lo, .string hi, .bool false] 75)).heap.size := by have := XD3.out.kb.lt; have := XD3.out.lt; omega
                  clear hbA XD2
                  go_simp
                  refine hK.out _ _ ?_ (fun hHeld => ?_)
                  · trivial
                  clear hK K1
                  try simp only [List.getElem_toArray]
                  try simp only [List.getElem_cons_succ]
                  try simp only [List.getElem_cons_zero]
                  try simp only [Act.put]
                  try simp only [List.setIfInBounds_toArray]
                  try simp only [List.set_cons_succ]
                  try simp only [List.set_cons_zero]
                  obtain ⟨za, zn, zc, w5, hr5, hO5, hg5, ha5⟩ := run_append_ll 69 (w.heap.size + 1) _ l XD3.out.ow.hh _ ((xc, xe, xn), (lo, hi), false) KB.out (by have := HL.out; simp at this ⊢; omega) hgb
                  refine wpAnyH_ready (rs := [8]) (by kernel_rfl) (by simp) ?_
                  refine AllReadyH.cons rfl (fun K1 hK => ?_) AllReadyH.nil
                  refine step_append_ll _ _ rfl _ _ _ rfl rfl hr5 ?_
                  refine hK.out _ _ ?_ (fun hHeld => ?_)
                  · trivial
                  clear hK K1
                  try simp only [List.getElem_toArray]
                  try simp only [List.getElem_cons_succ]
                  try simp only [List.getElem_cons_zero]
                  try simp only [Act.put]
                  try simp only [List.setIfInBounds_toArray]
                  try simp only [List.set_cons_succ]
                  try simp only [List.set_cons_zero]
                  have hP := XD3.out.pushH hO5 hg5 ha5
                  have c0 := hP.2.cell (j := 0) rfl
                  have f0 := hP.2.free 0
                  have X9 : Hid (LD w (w5.setCell ⟨b, 0, none⟩ (.slice za zn zc)) g b (.slice za zn zc) (.slice none 0 0) (l ++ [((xc, xe, xn), (lo, hi), false)]) []) := hP.1
                  clear hP XD3 KB hgb hr5 hO5 hg5 ha5
                  refine wpAnyH_take (i := 9) (v := (.pointer (some ⟨b, 0, none⟩))) rfl (by kernel_rfl) (by kernel_rfl) (by kernel_rfl) (fun _ _ _ h => h) (Or.inl ⟨by rfl, ?_⟩) (by assumption) ?_
                  · intro w hSw
                    (try dsimp only at hSw)
                    go_simp
                  try simp only [List.getElem_toArray]
                  try simp only [List.getElem_cons_succ]
                  try simp only [List.getElem_cons_zero]
                  try simp only [Act.put]
                  try simp only [List.setIfInBounds_toArray]
                  try simp only [List.set_cons_succ]
                  try simp only [List.set_cons_zero]
                  refine wpAnyH_ready (rs := [10]) (by kernel_rfl) (by simp) ?_
                  refine AllReadyH.cons rfl (fun K1 hK => ?_) AllReadyH.nil
                  go_simp
                  try go_wp2_with fail
                  refine hK.out _ _ ?_ (fun hHeld => ?_)
                  · trivial
                  clear hK K1
                  try simp only [List.getElem_toArray]
                  try simp only [List.getElem_cons_succ]
                  try simp only [List.getElem_cons_zero]
                  try simp only [Act.put]
                  try simp only [List.setIfInBounds_toArray]
                  try simp only [List.set_cons_succ]
                  try simp only [List.set_cons_zero]
                  refine wpAnyH_done (by kernel_rfl) ?_ _
                  refine NoPanic.normal ?_
                  clear c0 f0
                  generalize w5.setCell ⟨b, 0, none⟩ (.slice za zn zc) = V9 at *
                  go_wp2
                  go_roundw
                  case rel => exact ⟨j + 1, _, _, _, _, by first | rfl | go_num, by omega, by have := HLJ.out; simp; omega, X9.out⟩
                  case measure => simp [intOf]; omega
                · skip
                  go_simp
                  refine (l07Tx_any g _ XD0.out.dg.cu).mono ?_
                  rintro r u1 ⟨⟨xc, xe, xn, rfl⟩, hg, hcu⟩
                  have XD1 := hid (XD0.out.step hg hcu)
                  clear XD0 hg hcu
                  go_wp2_with fail
                  refine hK.out _ _ ?_ (fun hHeld => ?_)
                  · trivial
                  clear hK K1
                  try simp only [List.getElem_toArray]
                  try simp only [List.getElem_cons_succ]
                  try simp only [List.getElem_cons_zero]
                  try simp only [Act.put]
                  try simp only [List.setIfInBounds_toArray]
                  try simp only [List.set_cons_succ]
                  try simp only [List.set_cons_zero]
                  refine wpAnyH_ready (rs := [1, 5]) (by kernel_rfl) (by simp) ?_
                  refine AllReadyH.cons rfl (fun K1 hK => ?_) (AllReadyH.cons rfl (fun K1 hK => ?_) AllReadyH.nil)
                  · skip
                    have c0 := XD1.out.kb.cell (j := 0) rfl
                    go_simp
                    refine hK.out _ _ ?_ (fun hHeld => ?_)
                    · trivial
                    clear hK K1
                    try simp only [List.getElem_toArray]
                    try simp only [List.getElem_cons_succ]
                    try simp only [List.getElem_cons_zero]
                    try simp only [Act.put]
                    try simp only [List.setIfInBounds_toArray]
                    try simp only [List.set_cons_succ]
                    try simp only [List.set_cons_zero]
                    clear c0
                    refine wpAnyH_ready (rs := [5]) (by kernel_rfl) (by simp) ?_
                    refine AllReadyH.cons rfl (fun K1 hK => ?_) AllReadyH.nil
                    go_simp
                    refine (range_any g _ XD1.out.dg.cu).mono ?_
                    rintro r u2 ⟨⟨lo, hi, rfl⟩, hg, hcu⟩
                    have XD2 := hid (XD1.out.step hg hcu)
                    clear XD1 hg hcu
                    go_wp2_with fail
                    refine hK.out _ _ ?_ (fun hHeld => ?_)
                    · trivial
                    clear hK K1
                    try simp only [List.getElem_toArray]
                    try simp only [List.getElem_cons_succ]
                    try simp only [List.getElem_cons_zero]
                    try simp only [Act.put]
                    try simp only [List.setIfInBounds_toArray]
                    try simp only [List.set_cons_succ]
                    try simp only [List.set_cons_zero]
                    refine wpAnyH_take (i := 6) (v := (.agg #[.int .i64 xc, .int .i64 xe, .int .i64 xn, .string lo, .string hi, .bool false])) rfl (by kernel_rfl) (by kernel_rfl) (by kernel_rfl) (fun _ _ _ h => h) (Or.inl ⟨by rfl, ?_⟩) (by assumption) ?_
                    · intro w hSw
                      (try dsimp only at hSw)
                      go_simp
                    try simp only [List.getElem_toArray]
                    try simp only [List.getElem_cons_succ]
                    try simp only [List.getElem_cons_zero]
                    try simp only [Act.put]
                    try simp only [List.setIfInBounds_toArray]
                    try simp only [List.set_cons_succ]
                    try simp only [List.set_cons_zero]
                    refine wpAnyH_ready (rs := [7]) (by kernel_rfl) (by simp) ?_
                    refine AllReadyH.cons rfl (fun K1 hK => ?_) AllReadyH.nil
                    have hbA := below_new (o := .cells #[.int .i64 xc, .int .i64 xe, .int .i64 xn, .string lo, .string hi, .bool false] 75) (w := u2) (Below.refl _ _)
                    have XD3 : Hid (LD w (u2.alloc (.cells #[.int .i64 xc, .int .i64 xe, .int .i64 xn, .string lo, .string hi, .bool false] 75)) g b (.slice la ln lc) (.slice none 0 0) l []) := XD2.out.call hbA
                    have KB := hid (Bk.new u2 75 (lcs [((xc, xe, xn), (lo, hi), false)]))
                    have hgb : w.heap.size + 1 ≤ (u2.alloc (.cells #[.int .i64 xc, .int .i64 xe, .int .i64 xn, .string lo, .string hi, .bool false] 75)).heap.size := by have := XD3.out.kb.lt; have := XD3.out.lt; omega
                    clear hbA XD2
                    go_simp
                    refine hK.out _ _ ?_ (fun hHeld => ?_)
                    · trivial
                    clear hK K1
                    try simp only [List.getElem_toArray]
                    try simp only [List.getElem_cons_succ]
                    try simp only [List.getElem_cons_zero]
                    try simp only [Act.put]
                    try simp only [List.setIfInBounds_toArray]
                    try simp only [List.set_cons_succ]
                    try simp only [List.set_cons_zero]
                    obtain ⟨za, zn, zc, w5, hr5, hO5, hg5, ha5⟩ := run_append_ll 69 (w.heap.size + 1) _ l XD3.out.ow.hh _ ((xc, xe, xn), (lo, hi), false) KB.out (by have := HL.out; simp at this ⊢; omega) hgb
                    refine wpAnyH_ready (rs := [8]) (by kernel_rfl) (by simp) ?_
                    refine AllReadyH.cons rfl (fun K1 hK => ?_) AllReadyH.nil
                    refine step_append_ll _ _ rfl _ _ _ rfl rfl hr5 ?_
                    refine hK.out _ _ ?_ (fun hHeld => ?_)
                    · trivial
                    clear hK K1
                    try simp only [List.getElem_toArray]
                    try simp only [List.getElem_cons_succ]
                    try simp only [List.getElem_cons_zero]
                    try simp only [Act.put]
                    try simp only [List.setIfInBounds_toArray]
                    try simp only [List.set_cons_succ]
                    try simp only [List.set_cons_zero]
                    have hP := XD3.out.pushH hO5 hg5 ha5
                    have c0 := hP.2.cell (j := 0) rfl
                    have f0 := hP.2.free 0
                    have X9 : Hid (LD w (w5.setCell ⟨b, 0, none⟩ (.slice za zn zc)) g b (.slice za zn zc) (.slice none 0 0) (l ++ [((xc, xe, xn), (lo, hi), false)]) []) := hP.1
                    clear hP XD3 KB hgb hr5 hO5 hg5 ha5
                    refine wpAnyH_take (i := 9) (v := (.pointer (some ⟨b, 0, none⟩))) rfl (by kernel_rfl) (by kernel_rfl) (by kernel_rfl) (fun _ _ _ h => h) (Or.inl ⟨by rfl, ?_⟩) (by assumption) ?_
                    · intro w hSw
                      (try dsimp only at hSw)
                      go_simp
                    try simp only [List.getElem_toArray]
                    try simp only [List.getElem_cons_succ]
                    try simp only [List.getElem_cons_zero]
                    try simp only [Act.put]
                    try simp only [List.setIfInBounds_toArray]
                    try simp only [List.set_cons_succ]
                    try simp only [List.set_cons_zero]
                    refine wpAnyH_ready (rs := [10]) (by kernel_rfl) (by simp) ?_
                    refine AllReadyH.cons rfl (fun K1 hK => ?_) AllReadyH.nil
                    go_simp
                    try go_wp2_with fail
                    refine hK.out _ _ ?_ (fun hHeld => ?_)
                    · trivial
                    clear hK K1
                    try simp only [List.getElem_toArray]
                    try simp only [List.getElem_cons_succ]
                    try simp only [List.getElem_cons_zero]
                    try simp only [Act.put]
                    try simp only [List.setIfInBounds_toArray]
                    try simp only [List.set_cons_succ]
                    try simp only [List.set_cons_zero]
                    refine wpAnyH_done (by kernel_rfl) ?_ _
                    refine NoPanic.normal ?_
                    clear c0 f0
                    generalize w5.setCell ⟨b, 0, none⟩ (.slice za zn zc) = V9 at *
                    go_wp2
                    go_roundw
                    case rel => exact ⟨j + 1, _, _, _, _, by first | rfl | go_num, by omega, by have := HLJ.out; simp; omega, X9.out⟩
                    case measure => simp [intOf]; omega
                  · skip
                    go_simp
                    refine (range_any g _ XD1.out.dg.cu).mono ?_
                    rintro r u2 ⟨⟨lo, hi, rfl⟩, hg, hcu⟩
                    have XD2 := hid (XD1.out.step hg hcu)
                    clear XD1 hg hcu
                    go_wp2_with fail
                    refine hK.out _ _ ?_ (fun hHeld => ?_)
                    · trivial
                    clear hK K1
                    try simp only [List.getElem_toArray]
                    try simp only [List.getElem_cons_succ]
                    try simp only [List.getElem_cons_zero]
                    try simp only [Act.put]
                    try simp only [List.setIfInBounds_toArray]
                    try simp only [List.set_cons_succ]
                    try simp only [List.set_cons_zero]
                    refine wpAnyH_take (i := 6) (v := (.agg #[.int .i64 xc, .int .i64 xe, .int .i64 xn, .string lo, .string hi, .bool false])) rfl (by kernel_rfl) (by kernel_rfl) (by kernel_rfl) (fun _ _ _ h => h) (Or.inl ⟨by rfl, ?_⟩) (by assumption) ?_
                    · intro w hSw
                      (try dsimp only at hSw)
                      go_simp
                    try simp only [List.getElem_toArray]
                    try simp only [List.getElem_cons_succ]
                    try simp only [List.getElem_cons_zero]
                    try simp only [Act.put]
                    try simp only [List.setIfInBounds_toArray]
                    try simp only [List.set_cons_succ]
                    try simp only [List.set_cons_zero]
                    refine wpAnyH_ready (rs := [1, 7]) (by kernel_rfl) (by simp) ?_
                    refine AllReadyH.cons rfl (fun K1 hK => ?_) (AllReadyH.cons rfl (fun K1 hK => ?_) AllReadyH.nil)
                    · skip
                      have c0 := XD2.out.kb.cell (j := 0) rfl
                      go_simp
                      refine hK.out _ _ ?_ (fun hHeld => ?_)
                      · trivial
                      clear hK K1
                      try simp only [List.getElem_toArray]
                      try simp only [List.getElem_cons_succ]
                      try simp only [List.getElem_cons_zero]
                      try simp only [Act.put]
                      try simp only [List.setIfInBounds_toArray]
                      try simp only [List.set_cons_succ]
                      try simp only [List.set_cons_zero]
                      clear c0
                      refine wpAnyH_ready (rs := [7]) (by kernel_rfl) (by simp) ?_
                      refine AllReadyH.cons rfl (fun K1 hK => ?_) AllReadyH.nil
                      have hbA := below_new (o := .cells #[.int .i64 xc, .int .i64 xe, .int .i64 xn, .string lo, .string hi, .bool false] 75) (w := u2) (Below.refl _ _)
                      have XD3 : Hid (LD w (u2.alloc (.cells #[.int .i64 xc, .int .i64 xe, .int .i64 xn, .string lo, .string hi, .bool false] 75)) g b (.slice la ln lc) (.slice none 0 0) l []) := XD2.out.call hbA
                      have KB := hid (Bk.new u2 75 (lcs [((xc, xe, xn), (lo, hi), false)]))
                      have hgb : w.heap.size + 1 ≤ (u2.alloc (.cells #[.int .i64 xc, .int .i64 xe, .int .i64 xn, .string lo, .string hi, .bool false] 75)).heap.size := by have := XD3.out.kb.lt; have := XD3.out.lt; omega
                      clear hbA XD2
                      go_simp
                      refine hK.out _ _ ?_ (fun hHeld => ?_)
                      · trivial
                      clear hK K1
                      try simp only [List.getElem_toArray]
                      try simp only [List.getElem_cons_succ]
                      try simp only [List.getElem_cons_zero]
                      try simp only [Act.put]
                      try simp only [List.setIfInBounds_toArray]
                      try simp only [List.set_cons_succ]
                      try simp only [List.set_cons_zero]
                      obtain ⟨za, zn, zc, w5, hr5, hO5, hg5, ha5⟩ := run_append_ll 69 (w.heap.size + 1) _ l XD3.out.ow.hh _ ((xc, xe, xn), (lo, hi), false) KB.out (by have := HL.out; simp at this ⊢; omega) hgb
                      refine wpAnyH_ready (rs := [8]) (by kernel_rfl) (by simp) ?_
                      refine AllReadyH.cons rfl (fun K1 hK => ?_) AllReadyH.nil
                      refine step_append_ll _ _ rfl _ _ _ rfl rfl hr5 ?_
                      refine hK.out _ _ ?_ (fun hHeld => ?_)
                      · trivial
                      clear hK K1
                      try simp only [List.getElem_toArray]
                      try simp only [List.getElem_cons_succ]
                      try simp only [List.getElem_cons_zero]
                      try simp only [Act.put]
                      try simp only [List.setIfInBounds_toArray]
                      try simp only [List.set_cons_succ]
                      try simp only [List.set_cons_zero]
                      have hP := XD3.out.pushH hO5 hg5 ha5
                      have c0 := hP.2.cell (j := 0) rfl
                      have f0 := hP.2.free 0
                      have X9 : Hid (LD w (w5.setCell ⟨b, 0, none⟩ (.slice za zn zc)) g b (.slice za zn zc) (.slice none 0 0) (l ++ [((xc, xe, xn), (lo, hi), false)]) []) := hP.1
                      clear hP XD3 KB hgb hr5 hO5 hg5 ha5
                      refine wpAnyH_take (i := 9) (v := (.pointer (some ⟨b, 0, none⟩))) rfl (by kernel_rfl) (by kernel_rfl) (by kernel_rfl) (fun _ _ _ h => h) (Or.inl ⟨by rfl, ?_⟩) (by assumption) ?_
                      · intro w hSw
                        (try dsimp only at hSw)
                        go_simp
                      try simp only [List.getElem_toArray]
                      try simp only [List.getElem_cons_succ]
                      try simp only [List.getElem_cons_zero]
                      try simp only [Act.put]
                      try simp only [List.setIfInBounds_toArray]
                      try simp only [List.set_cons_succ]
                      try simp only [List.set_cons_zero]
                      refine wpAnyH_ready (rs := [10]) (by kernel_rfl) (by simp) ?_
                      refine AllReadyH.cons rfl (fun K1 hK => ?_) AllReadyH.nil
                      go_simp
                      try go_wp2_with fail
                      refine hK.out _ _ ?_ (fun hHeld => ?_)
                      · trivial
                      clear hK K1
                      try simp only [List.getElem_toArray]
                      try simp only [List.getElem_cons_succ]
                      try simp only [List.getElem_cons_zero]
                      try simp only [Act.put]
                      try simp only [List.setIfInBounds_toArray]
                      try simp only [List.set_cons_succ]
                      try simp only [List.set_cons_zero]
                      refine wpAnyH_done (by kernel_rfl) ?_ _
                      refine NoPanic.normal ?_
                      clear c0 f0
                      generalize w5.setCell ⟨b, 0, none⟩ (.slice za zn zc) = V9 at *
                      go_wp2
                      go_roundw
                      case rel => exact ⟨j + 1, _, _, _, _, by first | rfl | go_num, by omega, by have := HLJ.out; simp; omega, X9.out⟩
                      case measure => simp [intOf]; omega
                    · skip
                      have hbA := below_new (o := .cells #[.int .i64 xc, .int .i64 xe, .int .i64 xn, .string lo, .string hi, .bool false] 75) (w := u2) (Below.refl _ _)
                      have XD3 : Hid (LD w (u2.alloc (.cells #[.int .i64 xc, .int .i64 xe, .int .i64 xn, .string lo, .string hi, .bool false] 75)) g b (.slice la ln lc) (.slice none 0 0) l []) := XD2.out.call hbA
                      have KB := hid (Bk.new u2 75 (lcs [((xc, xe, xn), (lo, hi), false)]))
                      have hgb : w.heap.size + 1 ≤ (u2.alloc (.cells #[.int .i64 xc, .int .i64 xe, .int .i64 xn, .string lo, .string hi, .bool false] 75)).heap.size := by have := XD3.out.kb.lt; have := XD3.out.lt; omega
                      clear hbA XD2
                      go_simp
                      refine hK.out _ _ ?_ (fun hHeld => ?_)
                      · trivial
                      clear hK K1
                      try simp only [List.getElem_toArray]
                      try simp only [List.getElem_cons_succ]
                      try simp only [List.getElem_cons_zero]
                      try simp only [Act.put]
                      try simp only [List.setIfInBounds_toArray]
                      try simp only [List.set_cons_succ]
                      try simp only [List.set_cons_zero]
                      refine wpAnyH_ready (rs := [1]) (by kernel_rfl) (by simp) ?_
                      refine AllReadyH.cons rfl (fun K1 hK => ?_) AllReadyH.nil
                      have c0 := XD3.out.kb.cell (j := 0) rfl
                      go_simp
                      refine hK.out _ _ ?_ (fun hHeld => ?_)
                      · trivial
                      clear hK K1
                      try simp only [List.getElem_toArray]
                      try simp only [List.getElem_cons_succ]
                      try simp only [List.getElem_cons_zero]
                      try simp only [Act.put]
                      try simp only [List.setIfInBounds_toArray]
                      try simp only [List.set_cons_succ]
                      try simp only [List.set_cons_zero]
                      clear c0
                      obtain ⟨za, zn, zc, w5, hr5, hO5, hg5, ha5⟩ := run_append_ll 69 (w.heap.size + 1) _ l XD3.out.ow.hh _ ((xc, xe, xn), (lo, hi), false) KB.out (by have := HL.out; simp at this ⊢; omega) hgb
                      refine wpAnyH_ready (rs := [8]) (by kernel_rfl) (by simp) ?_
                      refine AllReadyH.cons rfl (fun K1 hK => ?_) AllReadyH.nil
                      refine step_append_ll _ _ rfl _ _ _ rfl rfl hr5 ?_
                      refine hK.out _ _ ?_ (fun hHeld => ?_)
                      · trivial
                      clear hK K1
                      try simp only [List.getElem_toArray]
                      try simp only [List.getElem_cons_succ]
                      try simp only [List.getElem_cons_zero]
                      try simp only [Act.put]
                      try simp only [List.setIfInBounds_toArray]
                      try simp only [List.set_cons_succ]
                      try simp only [List.set_cons_zero]
                      have hP := XD3.out.pushH hO5 hg5 ha5
                      have c0 := hP.2.cell (j := 0) rfl
                      have f0 := hP.2.free 0
                      have X9 : Hid (LD w (w5.setCell ⟨b, 0, none⟩ (.slice za zn zc)) g b (.slice za zn zc) (.slice none 0 0) (l ++ [((xc, xe, xn), (lo, hi), false)]) []) := hP.1
                      clear hP XD3 KB hgb hr5 hO5 hg5 ha5
                      refine wpAnyH_take (i := 9) (v := (.pointer (some ⟨b, 0, none⟩))) rfl (by kernel_rfl) (by kernel_rfl) (by kernel_rfl) (fun _ _ _ h => h) (Or.inl ⟨by rfl, ?_⟩) (by assumption) ?_
                      · intro w hSw
                        (try dsimp only at hSw)
                        go_simp
                      try simp only [List.getElem_toArray]
                      try simp only [List.getElem_cons_succ]
                      try simp only [List.getElem_cons_zero]
                      try simp only [Act.put]
                      try simp only [List.setIfInBounds_toArray]
                      try simp only [List.set_cons_succ]
                      try simp only [List.set_cons_zero]
                      refine wpAnyH_ready (rs := [10]) (by kernel_rfl) (by simp) ?_
                      refine AllReadyH.cons rfl (fun K1 hK => ?_) AllReadyH.nil
                      go_simp
                      try go_wp2_with fail
                      refine hK.out _ _ ?_ (fun hHeld => ?_)
                      · trivial
                      clear hK K1
                      try simp only [List.getElem_toArray]
                      try simp only [List.getElem_cons_succ]
                      try simp only [List.getElem_cons_zero]
                      try simp only [Act.put]
                      try simp only [List.setIfInBounds_toArray]
                      try simp only [List.set_cons_succ]
                      try simp only [List.set_cons_zero]
                      refine wpAnyH_done (by kernel_rfl) ?_ _
                      refine NoPanic.normal ?_
                      clear c0 f0
                      generalize w5.setCell ⟨b, 0, none⟩ (.slice za zn zc) = V9 at *
                      go_wp2
                      go_roundw
                      case rel => exact ⟨j + 1, _, _, _, _, by first | rfl | go_num, by omega, by have := HLJ.out; simp; omega, X9.out⟩
                      case measure => simp [intOf]; omega
              · have XE := hid X4.out
                clear X4
                go_upto_region 17 with (fail)
                have c0 := XE.out.kb.cell (j := 0) rfl
                have c1 := XE.out.kb.cell (j := 1) rfl
                have z0 := XE.out.k1.cell (j := 0) rfl
                have z1 := XE.out.k1.cell (j := 1) rfl
                have f0 := XE.out.k1.free 0
                have f1 := XE.out.k1.free 1
                have hltb := XE.out.lt
                have d1 : ¬ w.heap.size = b := by omega
                have d2 : ¬ b = w.heap.size := by omega
                have JE := hid ((XE.out.k1.set 0 (.slice la ln lc)).set 1 (.slice none 0 0))
                have GE := hid ((XE.out.dg.set (b := w.heap.size) (Nat.le_refl _) 0 (.slice la ln lc)).set (b := w.heap.size) (Nat.le_refl _) 1 (.slice none 0 0))
                have OE : Hid (LO ((w4.setCell ⟨w.heap.size, 0, none⟩ (.slice la ln lc)).setCell ⟨w.heap.size, 1, none⟩ (.slice none 0 0)) (w.heap.size + 1) (.slice la ln lc) (.slice none 0 0) l []) := XE.out.ow.to ((only_set (R := fun y => y = w.heap.size) (p := ⟨w.heap.size, 0, none⟩) rfl _).trans (only_set (R := fun y => y = w.heap.size) (p := ⟨w.heap.size, 1, none⟩) rfl _)) (fun y hy e => by have := (XE.out.ow.lt hy).1; omega)
                clear XE
                go_wp2_with fail
                try simp only [Exit.inBlock, Exit.then]
                generalize ((w4.setCell ⟨w.heap.size, 0, none⟩ (.slice la ln lc)).setCell ⟨w.heap.size, 1, none⟩ (.slice none 0 0)) = VR at *
                refine bodyPost_ret (v := .agg #[.slice la ln lc, .slice none 0 0]) ?_ rfl ?_
                · exact results_locks rfl _ _ w.heap.size rfl (JE.out.cell (j := 0) rfl) (JE.out.cell (j := 1) rfl)
                · first
                  | exact ⟨⟨_, _, _, _, _, _, l, [], rfl, OE.out, (by have := HL.out; simp; omega)⟩, GE.out.gr, GE.out.cu⟩
                  | exact ⟨⟨_, _, _, _, _, _, rfl, l, [], OE.out, (by have := HL.out; simp; omega)⟩, GE.out.gr, GE.out.cu⟩
          · skip
            go_upto_region 17 with (fail)
            have c0 := X0.out.kb.cell (j := 0) rfl
            have c1 := X0.out.kb.cell (j := 1) rfl
            have z0 := X0.out.k1.cell (j := 0) rfl
            have z1 := X0.out.k1.cell (j := 1) rfl
            have f0 := X0.out.k1.free 0
            have f1 := X0.out.k1.free 1
            have hltb := X0.out.lt
            have d1 : ¬ w.heap.size = b := by omega
            have d2 : ¬ b = w.heap.size := by omega
            have JE := hid ((X0.out.k1.set 0 (.slice ha hn hc)).set 1 (.slice wa wn wc))
            have GE := hid ((X0.out.dg.set (b := w.heap.size) (Nat.le_refl _) 0 (.slice ha hn hc)).set (b := w.heap.size) (Nat.le_refl _) 1 (.slice wa wn wc))
            have OE : Hid (LO ((V0.setCell ⟨w.heap.size, 0, none⟩ (.slice ha hn hc)).setCell ⟨w.heap.size, 1, none⟩ (.slice wa wn wc)) (w.heap.size + 1) (.slice ha hn hc) (.slice wa wn wc) hl wl) := X0.out.ow.to ((only_set (R := fun y => y = w.heap.size) (p := ⟨w.heap.size, 0, none⟩) rfl _).trans (only_set (R := fun y => y = w.heap.size) (p := ⟨w.heap.size, 1, none⟩) rfl _)) (fun y hy e => by have := (X0.out.ow.lt hy).1; omega)
            clear X0
            go_wp2_with fail
            try simp only [Exit.inBlock, Exit.then]
            generalize ((V0.setCell ⟨w.heap.size, 0, none⟩ (.slice ha hn hc)).setCell ⟨w.heap.size, 1, none⟩ (.slice wa wn wc)) = VR at *
            refine bodyPost_ret (v := .agg #[.slice ha hn hc, .slice wa wn wc]) ?_ rfl ?_
            · exact results_locks rfl _ _ w.heap.size rfl (JE.out.cell (j := 0) rfl) (JE.out.cell (j := 1) rfl)
            · first
              | exact ⟨⟨_, _, _, _, _, _, hl, wl, rfl, OE.out, (by have := HL.out; omega)⟩, GE.out.gr, GE.out.cu⟩
              | exact ⟨⟨_, _, _, _, _, _, rfl, hl, wl, OE.out, (by have := HL.out; omega)⟩, GE.out.gr, GE.out.cu⟩
end Go.Proofs.Ytcpdedpgjaimkaa
/-
  Tables of locks that are drawn with a lock or a name: what is kept.
-/
namespace Go.Proofs.Ytcpdedpgjaimkaa
open Go.RowKit
set_option linter.unusedVariables false
/-- Behind the table: the results' boxes, the cursor, the table's box b; its rows lie between the cursor and the box. -/
structure AS (w v : World) (g b : Nat) (T1 : TypeId) (zs : List Value) (h k : Value) (hl wl : List LK) : Prop where
  bel : Below w.heap.size w v
  cu : Cu v g
  ng : w.heap.size + 1 < g
  k0 : Bk v w.heap.size 71 [.slice none 0 0, .slice none 0 0]
  k1 : Bk v (w.heap.size + 1) T1 zs
  kb : Bk v b 71 [h, k]
  gb : g < b
  ow : LO v (g + 1) h k hl wl
  up : ∀ y, lbl h k y → y < b
theorem AS.step {w v v' : World} {g b : Nat} {T1 : TypeId} {zs : List Value} {h k : Value} {hl wl : List LK} (H : AS w v g b T1 zs h k hl wl) (hg : v.grownBy v' (some g)) (hc : Cu v' g) : AS w v' g b T1 zs h k hl wl := by
  have h1 := H.ng
  have h2 := H.gb
  refine ⟨H.bel.trans ((below_of_grown hg H.cu.lt).mono (by omega)), hc, h1, H.k0.grownX hg (by omega), H.k1.grownX hg (by omega), H.kb.grownX hg (by omega), h2, H.ow.to (only_of_grown hg (R := fun y => y = g) (fun k e => (Option.some.inj e).symm)) (fun y hy e => by have := (H.ow.lt hy).1; omega), H.up⟩
theorem AS.call {w v v' : World} {g b : Nat} {T1 : TypeId} {zs : List Value} {h k : Value} {hl wl : List LK} (H : AS w v g b T1 zs h k hl wl) (hb : Below v.heap.size v v') : AS w v' g b T1 zs h k hl wl :=
  ⟨H.bel.trans (hb.mono H.bel.size), CuX_below H.cu hb, H.ng, H.k0.below hb, H.k1.below hb, H.kb.below hb, H.gb, H.ow.below hb, H.up⟩
theorem AS.to {w v v' : World} {g b q : Nat} {T1 : TypeId} {zs : List Value} {h k : Value} {hl wl : List LK} (H : AS w v g b T1 zs h k hl wl) (ho : Only (fun y => y = q) v v') (hq : b < q) : AS w v' g b T1 zs h k hl wl := by
  have h1 := H.ng
  have h2 := H.gb
  have hg : v.grownBy v' (some q) := ⟨ho.os, ho.tape, ho.output, ho.size, fun k hk hne => ho.block k hk (fun e => hne (by rw [e]))⟩
  refine ⟨H.bel.trans (ho.below H.bel.size (fun y hy hr => by omega)), H.cu.kept hg (fun k e => by have := Option.some.inj e; omega), h1, H.k0.to ho (by omega), H.k1.to ho (by omega), H.kb.to ho (by omega), h2, H.ow.to ho (fun y hy hr => by have := H.up y hy; omega), H.up⟩
end Go.Proofs.Ytcpdedpgjaimkaa
/-
  Two ranges that lie in new blocks, kept.
-/
namespace Go.Proofs.Ytcpdedpgjaimkaa
open Go.RowKit
theorem below_alloc' (w : World) (o : Obj) : Below w.heap.size w (w.alloc o) := (Below.refl _ _).alloc (Nat.le_refl _) o
/-- Two ranges that lie in new blocks, kept. -/
theorem two_then {w w1 : World} {la ha lb hb : ByteArray} {T T' : TypeId} (h : Below ((w.alloc (.cells #[.string la, .string ha] T)).alloc (.cells #[.string lb, .string hb] T')).heap.size ((w.alloc (.cells #[.string la, .string ha] T)).alloc (.cells #[.string lb, .string hb] T')) w1) :
    w1.cell? ⟨w.heap.size, 0, none⟩ = some (.string la) ∧ w1.cell? ⟨w.heap.size, 1, none⟩ = some (.string ha) ∧ w1.cell? ⟨w.heap.size + 1, 0, none⟩ = some (.string lb) ∧ w1.cell? ⟨w.heap.size + 1, 1, none⟩ = some (.string hb) ∧ Below ((w.alloc (.cells #[.string la, .string ha] T)).alloc (.cells #[.string lb, .string hb] T')).heap.size ((w.alloc (.cells #[.string la, .string ha] T)).alloc (.cells #[.string lb, .string hb] T')) w1 := by
  have h1 := s2 ((below_alloc' _ _).trans (h.mono (by simp)))
  have h2 := s2 h
  refine ⟨h1.1, h1.2.1, ?_, ?_, h⟩
  · have := h2.1; simpa using this
  · have := h2.2.1; simpa using this

/-- Two blocks of two cells that a world u has are kept in v, with all else that u has. -/
structure Q4 (u v : World) (n m : Nat) (p0 p1 q0 q1 : Value) : Prop where
  a0 : u.cell? ⟨n, 0, none⟩ = some p0
  a1 : u.cell? ⟨n, 1, none⟩ = some p1
  b0 : u.cell? ⟨m, 0, none⟩ = some q0
  b1 : u.cell? ⟨m, 1, none⟩ = some q1
  bel : Below u.heap.size u v
variable {u v v' : World} {n m g : Nat} {p0 p1 q0 q1 x y : Value} {o o' : Obj}
theorem Q4.cells (T : Q4 u v n m p0 p1 q0 q1) : v.cell? ⟨n, 0, none⟩ = some p0 ∧ v.cell? ⟨n, 1, none⟩ = some p1 ∧ v.cell? ⟨m, 0, none⟩ = some q0 ∧ v.cell? ⟨m, 1, none⟩ = some q1 ∧ Q4 u v n m p0 p1 q0 q1 :=
  ⟨(T.bel.cell (p := ⟨n, 0, none⟩) (block_lt T.a0)).trans T.a0, (T.bel.cell (p := ⟨n, 1, none⟩) (block_lt T.a1)).trans T.a1, (T.bel.cell (p := ⟨m, 0, none⟩) (block_lt T.b0)).trans T.b0, (T.bel.cell (p := ⟨m, 1, none⟩) (block_lt T.b1)).trans T.b1, T⟩
theorem Q4.step (T : Q4 u v n m p0 p1 q0 q1) (k : Below v.heap.size v v') : Q4 u v' n m p0 p1 q0 q1 := { T with bel := T.bel.trans (k.mono T.bel.size) }
theorem Q4.call (k : Below v.heap.size v v') (h : v.cell? ⟨n, 0, none⟩ = some p0 ∧ v.cell? ⟨n, 1, none⟩ = some p1 ∧ v.cell? ⟨m, 0, none⟩ = some q0 ∧ v.cell? ⟨m, 1, none⟩ = some q1 ∧ Q4 u v n m p0 p1 q0 q1) : v'.cell? ⟨n, 0, none⟩ = some p0 ∧ v'.cell? ⟨n, 1, none⟩ = some p1 ∧ v'.cell? ⟨m, 0, none⟩ = some q0 ∧ v'.cell? ⟨m, 1, none⟩ = some q1 ∧ Q4 u v' n m p0 p1 q0 q1 := (h.2.2.2.2.step k).cells
theorem Q4.big (k : Below v.heap.size v v') (h : v.cell? ⟨n, 0, none⟩ = some p0 ∧ v.cell? ⟨n, 1, none⟩ = some p1 ∧ v.cell? ⟨m, 0, none⟩ = some q0 ∧ v.cell? ⟨m, 1, none⟩ = some q1 ∧ Q4 u v n m p0 p1 q0 q1) : u.heap.size ≤ v'.heap.size := Nat.le_trans h.2.2.2.2.bel.size k.size
theorem Q4.of (h : v.cell? ⟨n, 0, none⟩ = some p0 ∧ v.cell? ⟨n, 1, none⟩ = some p1 ∧ v.cell? ⟨m, 0, none⟩ = some q0 ∧ v.cell? ⟨m, 1, none⟩ = some q1 ∧ Q4 u v n m p0 p1 q0 q1) : Q4 u v n m p0 p1 q0 q1 := h.2.2.2.2
theorem Q4.swap (hz : u.heap.size ≤ v.heap.size) (h : (v.alloc o).cell? ⟨n, 0, none⟩ = some p0 ∧ (v.alloc o).cell? ⟨n, 1, none⟩ = some p1 ∧ (v.alloc o).cell? ⟨m, 0, none⟩ = some q0 ∧ (v.alloc o).cell? ⟨m, 1, none⟩ = some q1 ∧ Q4 u (v.alloc o) n m p0 p1 q0 q1) : (v.alloc o').cell? ⟨n, 0, none⟩ = some p0 ∧ (v.alloc o').cell? ⟨n, 1, none⟩ = some p1 ∧ (v.alloc o').cell? ⟨m, 0, none⟩ = some q0 ∧ (v.alloc o').cell? ⟨m, 1, none⟩ = some q1 ∧ Q4 u (v.alloc o') n m p0 p1 q0 q1 := by
  have T := h.2.2.2.2
  exact Q4.cells { T with bel := ⟨T.bel.os, T.bel.tape, T.bel.output, by simp; omega, fun k hk => by rw [heap_alloc_old v o' (by omega), ← heap_alloc_old v o (by omega)]; exact T.bel.block k hk⟩ }
theorem Q4.sets (hz : u.heap.size ≤ g) (h : v.cell? ⟨n, 0, none⟩ = some p0 ∧ v.cell? ⟨n, 1, none⟩ = some p1 ∧ v.cell? ⟨m, 0, none⟩ = some q0 ∧ v.cell? ⟨m, 1, none⟩ = some q1 ∧ Q4 u v n m p0 p1 q0 q1) : ((v.setCell ⟨g, 0, none⟩ x).setCell ⟨g, 1, none⟩ y).cell? ⟨n, 0, none⟩ = some p0 ∧ ((v.setCell ⟨g, 0, none⟩ x).setCell ⟨g, 1, none⟩ y).cell? ⟨n, 1, none⟩ = some p1 ∧ ((v.setCell ⟨g, 0, none⟩ x).setCell ⟨g, 1, none⟩ y).cell? ⟨m, 0, none⟩ = some q0 ∧ ((v.setCell ⟨g, 0, none⟩ x).setCell ⟨g, 1, none⟩ y).cell? ⟨m, 1, none⟩ = some q1 ∧ Q4 u ((v.setCell ⟨g, 0, none⟩ x).setCell ⟨g, 1, none⟩ y) n m p0 p1 q0 q1 :=
  Q4.cells { h.2.2.2.2 with bel := (h.2.2.2.2.bel.setCell (p := ⟨g, 0, none⟩) hz x).setCell (p := ⟨g, 1, none⟩) hz y }
end Go.Proofs.Ytcpdedpgjaimkaa
/-
  The law FnExactRangeIn answers true at every two ranges.
-/
namespace Go.Proofs.Ytcpdedpgjaimkaa
open Go.RowKit
set_option maxHeartbeats 4000000 in
theorem specRangeIn_any (la ha lb hb : ByteArray) (w : World) : Calls Try.prog 96 #[rng la ha, rng lb hb] w fun e w' => e = .returned (.bool (rIn la ha lb hb)) ∧ Below w.heap.size w w' := by
  show Calls Try.prog 96 #[.agg #[.string la, .string ha], .agg #[.string lb, .string hb]] w _
  have HD : Hid (rIn la ha lb hb = (rOk la ha && rOk lb hb && !Op.bytesLess la.toList lb.toList && (decide (hb.toList = []) || (!decide (ha.toList = []) && !Op.bytesLess hb.toList ha.toList)))) := rfl
  have T0 := hid (Duo.new w la ha lb hb)
  go_enter Try.func96, Try.ntmps96
  go_wp2_with fail
  refine (specRangeOk_any la ha _).mono ?_
  generalize (w.alloc (.cells #[.string la, .string ha] 27)).alloc (.cells #[.string lb, .string hb] 27) = v0 at T0 ⊢
  rintro e v1 ⟨rfl, hb1⟩
  have T1 := hid (T0.out.step hb1)
  clear T0 hb1 v0
  obtain ⟨a0, a1, _, _⟩ := T1.out.a.facts
  obtain ⟨b0, b1, _, _⟩ := T1.out.b.facts
  cases h1 : rOk la ha
  · rw [h1] at HD
    go_wp2
    go_ret
    exact ⟨by rw [HD.out]; rfl, T1.out.bel⟩
  · go_wp2_with fail
    refine (specRangeOk_any lb hb _).mono ?_
    rintro e v2 ⟨rfl, hb2⟩
    have T2 := hid (T1.out.step hb2)
    clear T1 hb2 a0 a1 b0 b1
    obtain ⟨a0, a1, _, _⟩ := T2.out.a.facts
    obtain ⟨b0, b1, _, _⟩ := T2.out.b.facts
    cases h2 : rOk lb hb
    · rw [h1, h2] at HD
      go_wp2
      go_ret
      exact ⟨by rw [HD.out]; rfl, T2.out.bel⟩
    · cases h3 : Op.bytesLess la.toList lb.toList
      · by_cases h4 : hb.toList = []
        · rw [h1, h2, h3, decide_eq_true h4] at HD
          go_wp2
          go_ret
          exact ⟨by rw [HD.out]; rfl, T2.out.bel⟩
        · have h4' : hb.toList.isEmpty = false := by simpa using h4
          by_cases h5 : ha.toList = []
          · rw [h1, h2, h3, decide_eq_false h4, decide_eq_true h5] at HD
            go_wp2
            go_ret
            exact ⟨by rw [HD.out]; rfl, T2.out.bel⟩
          · have h5' : ha.toList.isEmpty = false := by simpa using h5
            rw [h1, h2, h3, decide_eq_false h4, decide_eq_false h5] at HD
            rcases tri ha hb with ⟨t1, t2, t3, t4⟩ | rfl | ⟨t1, t2, t3, t4⟩
            · rw [t2] at HD
              go_wp2
              go_ret
              exact ⟨by rw [HD.out]; rfl, T2.out.bel⟩
            · have t1 := less_irrefl ha.toList
              rw [t1] at HD
              go_wp2
              go_ret
              exact ⟨by rw [HD.out]; rfl, T2.out.bel⟩
            · rw [t2] at HD
              go_wp2
              go_ret
              exact ⟨by rw [HD.out]; rfl, T2.out.bel⟩
      · rw [h1, h2, h3] at HD
        go_wp2
        go_ret
        exact ⟨by rw [HD.out]; rfl, T2.out.bel⟩
end Go.Proofs.Ytcpdedpgjaimkaa
