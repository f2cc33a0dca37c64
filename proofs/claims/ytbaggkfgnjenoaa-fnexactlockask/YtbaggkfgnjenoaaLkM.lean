/-
  What the law's helpers do with rows and tables of locks.
-/
import Derived.Test.YtbaggkfgnjenoaaLkL
import Derived.Test.YtbaggkfgnjenoaaRng3
import Derived.Test.YtbaggkfgnjenoaaKl
namespace Go.Proofs.Ytbaggkfgnjenoaa
open Go.RowKit
set_option linter.unusedVariables false
set_option maxHeartbeats 4000000 in
theorem toLockS_at (S : Nat → Prop) (a : Option Addr) (n c : Nat) (l : List LK) (w : World) (h : Lr w S (.slice a n c) l) (hnm : n ≤ 1048576) :
    Calls Try.prog 68 #[.slice a n c] w fun e w' => e = .returned (.slice (some ⟨w.heap.size, 0, none⟩) n n) ∧ Bk w' w.heap.size 31 (lcs l) ∧ Below w.heap.size w w' := by
  have HN := hid (Rw.len h).1
  have H0 := hid h
  clear h
  have hmk := run_make_n (P := Try.prog) 23 31 (.agg #[.int .i64 0, .int .i64 0, .int .i64 0, .string ⟨#[]⟩, .string ⟨#[]⟩, .bool false]) 6 64 Try.underlying23 infoLockI n (by omega) (by omega)
  rw [made_locks] at hmk
  have HM : Hid (lcs (List.replicate n lk0) = lcs (ptL l 0)) := by
    show _ = _
    rw [HN.out]; simp [ptL]
  rw [HM.out] at hmk
  have h63 : n ≤ 9223372036854775807 := by omega
  go_enter Try.func68, Try.ntmps68
  go_wp2
  go_loopw [4] (fun i wr => ∃ k : Nat, k ≤ n ∧ i = .int .i64 k ∧ Hid (Bk wr w.heap.size 31 (lcs (ptL l k))) ∧ Hid (Below w.heap.size w wr)) (fun i _ => n - (intOf i).toNat)
  case atStart => exact ⟨0, Nat.zero_le _, rfl, Bk.new _ _ _, (Below.refl _ _).alloc (Nat.le_refl _) _⟩
  case round =>
    obtain ⟨k, hk, rfl, HK, HB⟩ := hrel
    by_cases hlt : k < n
    · have hlt' : (k : Int) < (n : Int) := by omega
      have HP := hid (H0.out.below HB.out)
      obtain ⟨b, off, rfl, _, hbw, hcell⟩ := HP.out.at (by omega)
      obtain ⟨hc0, hc1, hc2, hc3, hc4, hc5⟩ := hcell k hlt
      have HW : Hid (w.heap.size < wr.heap.size) := HK.out.lt
      have HSET : Hid ((ptL l k).set k (lAt l k) = ptL l (k + 1)) := ptL_set l k (by rw [← HN.out]; exact hlt)
      have HLE : Hid ((ptL l k).length = n) := by show _ = _; rw [ptL_length l k (by rw [← HN.out]; exact hk), ← HN.out]
      clear hcell hbw
      generalize hcur : lAt l k = cur at hc0 hc1 hc2 hc3 hc4 hc5 HSET
      obtain ⟨⟨cc, ce, cn⟩, ⟨clo, chi⟩, cex⟩ := cur
      clear hcur HP
      go_wp2_with fail
      refine (toLock_any cc ce cn clo chi cex wr).mono ?_
      rintro e w1 ⟨rfl, hb1⟩
      have HK1 := hid (HK.out.below hb1)
      have HB1 := hid (HB.out.trans (hb1.mono HB.out.size))
      clear hb1
      obtain ⟨q0, q1, q2, q3, q4, q5⟩ := lcs_at (ptL l k) k (by rw [HLE.out]; exact hlt)
      have d0 := HK1.out.cell q0
      have d1 := HK1.out.cell q1
      have d2 := HK1.out.cell q2
      have d3 := HK1.out.cell q3
      have d4 := HK1.out.cell q4
      have d5 := HK1.out.cell q5
      clear q0 q1 q2 q3 q4 q5
      have hf0 := HK1.out.free (k * 6)
      have hf1 := HK1.out.free (k * 6 + 1)
      have hf2 := HK1.out.free (k * 6 + 2)
      have hf3 := HK1.out.free (k * 6 + 3)
      have hf4 := HK1.out.free (k * 6 + 4)
      have hf5 := HK1.out.free (k * 6 + 5)
      have HK2 : Hid (Bk ((((((w1.setCell ⟨w.heap.size, k * 6, none⟩ (.int .i64 cc)).setCell ⟨w.heap.size, k * 6 + 1, none⟩ (.int .i64 ce)).setCell ⟨w.heap.size, k * 6 + 2, none⟩ (.int .i64 cn)).setCell ⟨w.heap.size, k * 6 + 3, none⟩ (.string clo)).setCell ⟨w.heap.size, k * 6 + 4, none⟩ (.string chi)).setCell ⟨w.heap.size, k * 6 + 5, none⟩ (.bool cex)) w.heap.size 31 (lcs (ptL l (k + 1)))) := by
        show Bk _ _ _ _
        rw [← HSET.out, lcs_set _ _ _ (by rw [HLE.out]; exact hlt)]
        exact (((((HK1.out.set _ _).set _ _).set _ _).set _ _).set _ _).set _ _
      have HB2 : Hid (Below w.heap.size w ((((((w1.setCell ⟨w.heap.size, k * 6, none⟩ (.int .i64 cc)).setCell ⟨w.heap.size, k * 6 + 1, none⟩ (.int .i64 ce)).setCell ⟨w.heap.size, k * 6 + 2, none⟩ (.int .i64 cn)).setCell ⟨w.heap.size, k * 6 + 3, none⟩ (.string clo)).setCell ⟨w.heap.size, k * 6 + 4, none⟩ (.string chi)).setCell ⟨w.heap.size, k * 6 + 5, none⟩ (.bool cex))) := (((((HB1.out.setCell (Nat.le_refl _) _).setCell (Nat.le_refl _) _).setCell (Nat.le_refl _) _).setCell (Nat.le_refl _) _).setCell (Nat.le_refl _) _).setCell (Nat.le_refl _) _
      generalize lAt (ptL l k) k = old at d0 d1 d2 d3 d4 d5
      obtain ⟨⟨oc, oe, on⟩, ⟨olo, ohi⟩, oex⟩ := old
      go_wp2
      go_roundw
      case rel => exact ⟨k + 1, by omega, by go_num, HK2.out, HB2.out⟩
      case measure => simp [intOf]; omega
    · have hk' : k = n := by omega
      have HA : Hid (lcs (ptL l k) = lcs l) := by show _ = _; rw [hk', HN.out]; simp [ptL]
      clear hk'
      go_wp2
      go_ret
      refine ⟨rfl, ?_, HB.out⟩
      rw [← HA.out]; exact HK.out
set_option maxHeartbeats 4000000 in
theorem toLocks_any (S S' : Nat → Prop) (ha : Option Addr) (hn hc : Nat) (wa : Option Addr) (wn wc : Nat) (hl wl : List LK) (w : World) (h1 : Lr w S (.slice ha hn hc) hl) (h2 : Lr w S' (.slice wa wn wc) wl) (hh : hn ≤ 1048576) (hw : wn ≤ 1048576) :
    Calls Try.prog 20 #[.agg #[.slice ha hn hc, .slice wa wn wc]] w fun e w' => ∃ g0 g1, e = .returned (.agg #[.slice (some ⟨g0, 0, none⟩) hn hn, .slice (some ⟨g1, 0, none⟩) wn wn]) ∧ LO w' w.heap.size (.slice (some ⟨g0, 0, none⟩) hn hn) (.slice (some ⟨g1, 0, none⟩) wn wn) hl wl ∧ Below w.heap.size w w' := by
  have HNH := hid (Rw.len h1).1
  have HNW := hid (Rw.len h2).1
  have HE : Hid (Below w.heap.size w (((w.alloc (.cells #[.slice ha hn hc, .slice wa wn wc] 45)).alloc (.cells #[.slice none 0 0, .slice none 0 0] 25)).alloc (.cells #[.slice none 0 0, .slice none 0 0] 25))) := below_new (below_new (below_new (Below.refl _ _)))
  have K0 := hid (((Bk.new w 45 [.slice ha hn hc, .slice wa wn wc]).alloc (.cells #[.slice none 0 0, .slice none 0 0] 25)).alloc (.cells #[.slice none 0 0, .slice none 0 0] 25))
  have J0 := hid ((Bk.new (w.alloc (.cells #[.slice ha hn hc, .slice wa wn wc] 45)) 25 [.slice none 0 0, .slice none 0 0]).alloc (.cells #[.slice none 0 0, .slice none 0 0] 25))
  have I0 := hid (Bk.new ((w.alloc (.cells #[.slice ha hn hc, .slice wa wn wc] 45)).alloc (.cells #[.slice none 0 0, .slice none 0 0] 25)) 25 [.slice none 0 0, .slice none 0 0])
  rw [show (w.alloc (.cells #[.slice ha hn hc, .slice wa wn wc] 45)).heap.size = w.heap.size + 1 by simp] at J0
  rw [show ((w.alloc (.cells #[.slice ha hn hc, .slice wa wn wc] 45)).alloc (.cells #[.slice none 0 0, .slice none 0 0] 25)).heap.size = w.heap.size + 1 + 1 by simp] at I0
  have P0 := hid (h1.below HE.out)
  have H2 := hid h2
  clear h1 h2
  go_enter Try.func20, Try.ntmps20
  go_wp2_with fail
  refine (toLockS_at S ha hn hc hl _ P0.out hh).mono ?_
  generalize ((w.alloc (.cells #[.slice ha hn hc, .slice wa wn wc] 45)).alloc (.cells #[.slice none 0 0, .slice none 0 0] 25)).alloc (.cells #[.slice none 0 0, .slice none 0 0] 25) = U at *
  have SU : Hid (w.heap.size + 1 + 1 < U.heap.size) := I0.out.lt
  generalize hg0 : U.heap.size = g0 at *
  have HG0 := hid hg0
  clear hg0
  rintro r w1 ⟨rfl, hk, hb⟩
  rw [← HG0.out] at hb
  have G1 := hid hk
  have K1 := hid (K0.out.below hb)
  have J1 := hid (J0.out.below hb)
  have I1 := hid (I0.out.below hb)
  have B1 := hid (HE.out.trans (hb.mono HE.out.size))
  clear hb hk K0 J0 I0 P0 HE
  have x1 := K1.out.cell (j := 1) rfl
  have y0 := I1.out.cell (j := 0) rfl
  have f0 := I1.out.free 0
  have hne : g0 ≠ w.heap.size + 1 + 1 := by have := SU.out; omega
  have d1 : ¬ w.heap.size = w.heap.size + 1 + 1 := by omega
  have G2 : Hid (Bk (w1.setCell ⟨w.heap.size + 1 + 1, 0, none⟩ (.slice (some ⟨g0, 0, none⟩) hn hn)) g0 31 (lcs hl)) := G1.out.setOther hne 0 _
  have I2 : Hid (Bk (w1.setCell ⟨w.heap.size + 1 + 1, 0, none⟩ (.slice (some ⟨g0, 0, none⟩) hn hn)) (w.heap.size + 1 + 1) 25 [.slice (some ⟨g0, 0, none⟩) hn hn, .slice none 0 0]) := I1.out.set 0 _
  have J2 : Hid (Bk (w1.setCell ⟨w.heap.size + 1 + 1, 0, none⟩ (.slice (some ⟨g0, 0, none⟩) hn hn)) (w.heap.size + 1) 25 [.slice none 0 0, .slice none 0 0]) := J1.out.setOther (by omega) 0 _
  have B2 : Hid (Below w.heap.size w (w1.setCell ⟨w.heap.size + 1 + 1, 0, none⟩ (.slice (some ⟨g0, 0, none⟩) hn hn))) := B1.out.setCell (p := ⟨w.heap.size + 1 + 1, 0, none⟩) (by simp <;> omega) _
  go_wp2_with fail
  refine (toLockS_at S' wa wn wc wl _ (H2.out.below B2.out) hw).mono ?_
  generalize w1.setCell ⟨w.heap.size + 1 + 1, 0, none⟩ (.slice (some ⟨g0, 0, none⟩) hn hn) = V at *
  have SV : Hid (g0 < V.heap.size) := G2.out.lt
  generalize hg1 : V.heap.size = g1 at *
  have HG1 := hid hg1
  clear hg1
  rintro r w3 ⟨rfl, hk, hb⟩
  rw [← HG1.out] at hb
  have E3 := hid hk
  have G3 := hid (G2.out.below hb)
  have J3 := hid (J2.out.below hb)
  have I3 := hid (I2.out.below hb)
  have B3 := hid (B2.out.trans (hb.mono B2.out.size))
  clear hb hk J2 I2 G2 B2 K1 J1 I1 G1 B1 x1 y0 f0
  have y0 := I3.out.cell (j := 0) rfl
  have y1 := I3.out.cell (j := 1) rfl
  have f1 := I3.out.free 1
  have z0 := J3.out.cell (j := 0) rfl
  have z1 := J3.out.cell (j := 1) rfl
  have e0 := J3.out.free 0
  have e1 := J3.out.free 1
  have d2 : ¬ w.heap.size + 1 = w.heap.size + 1 + 1 := by omega
  have d3 : ¬ w.heap.size + 1 + 1 = w.heap.size + 1 := by omega
  have HL : Hid (LO w3 w.heap.size (.slice (some ⟨g0, 0, none⟩) hn hn) (.slice (some ⟨g1, 0, none⟩) wn wn) hl wl) := by
    have s1 := SU.out
    have s2 := SV.out
    have s3 := HG0.out
    refine ⟨?_, ?_, ?_⟩
    · show World.ownsRow _ _ _ _ _ _ _
      rw [← HNH.out]
      exact ownL_bk G3.out (by rw [lcs_length, HNH.out]) (by omega) (by omega)
    · show World.ownsRow _ _ _ _ _ _ _
      rw [← HNW.out]
      exact ownL_bk E3.out (by rw [lcs_length, HNW.out]) (by omega) (by omega)
    · intro y h1 h2
      have k1 : g0 = y := Option.some.inj h1
      have k2 : g1 = y := Option.some.inj h2
      omega
  have HF : Hid (∀ W, Only (fun y => y = w.heap.size + 1 ∨ y = w.heap.size + 1 + 1) w3 W → LO W w.heap.size (.slice (some ⟨g0, 0, none⟩) hn hn) (.slice (some ⟨g1, 0, none⟩) wn wn) hl wl ∧ Below w.heap.size w W) := fun W hW => by
    have s1 := SU.out
    have s2 := SV.out
    have s3 := HG0.out
    refine ⟨HL.out.to hW (fun y hy e => ?_), B3.out.trans (hW.below B3.out.size (fun b hb e => by omega))⟩
    rcases hy with h1 | h1
    · have k1 : g0 = y := Option.some.inj h1
      omega
    · have k1 : g1 = y := Option.some.inj h1
      omega
  clear HL G3 E3 B3
  go_wp2
  try simp only [Exit.inBlock, Exit.then]
  refine bodyPost_ret (v := .agg #[.slice (some ⟨g0, 0, none⟩) hn hn, .slice (some ⟨g1, 0, none⟩) wn wn]) ?_ rfl ?_
  · exact results_locks rfl _ _ (w.heap.size + 1) rfl (by go_simp) (by go_simp)
  · refine ⟨g0, g1, rfl, HF.out _ ?_⟩
    exact ((only_set (R := fun y => y = w.heap.size + 1 ∨ y = w.heap.size + 1 + 1) (.inr rfl) _).trans (only_set (R := fun y => y = w.heap.size + 1 ∨ y = w.heap.size + 1 + 1) (.inl rfl) _)).trans (only_set (R := fun y => y = w.heap.size + 1 ∨ y = w.heap.size + 1 + 1) (.inl rfl) _)
set_option maxHeartbeats 800000 in
theorem szLock_any (c e n : Int) (lo hi : ByteArray) (ex : Bool) (left : Int) (w : World) (h0 : 0 ≤ left) (h1 : left ≤ 1048576) (hk : lo.size ≤ 9223372036854775807) (hv : hi.size ≤ 9223372036854775807) :
    Calls Try.prog 19 #[.agg #[.int .i64 c, .int .i64 e, .int .i64 n, .string lo, .string hi, .bool ex], .int .i64 left] w fun e w' => (∃ x : Int, e = .returned (.int .i64 x) ∧ x ≤ left ∧ -1 ≤ x) ∧ Below w.heap.size w w' := by
  have C1 : Hid (∀ w, Calls Try.prog 34 #[.agg #[.string lo, .string hi], .int .i64 left] w fun e w' => (∃ x : Int, e = .returned (.int .i64 x) ∧ x ≤ left ∧ -1 ≤ x) ∧ Below w.heap.size w w') := fun w => szRange_any lo hi left w h0 h1 hk hv
  have B0 := hid (below_new (o := .cells #[.int .i64 c, .int .i64 e, .int .i64 n, .string lo, .string hi, .bool ex] 49) (w := w) (Below.refl _ _))
  go_enter Try.func19, Try.ntmps19
  go_wp2_with fail
  refine (C1.out _).mono ?_
  rintro r w1 ⟨⟨x, rfl, hx1, hx2⟩, hb⟩
  have B1 := hid (B0.out.trans (hb.mono B0.out.size))
  clear hb
  by_cases hneg : x < 0
  · go_wp2
    go_ret
    exact ⟨⟨_, rfl, by omega, by omega⟩, B1.out⟩
  · go_wp2
    go_ret
    exact ⟨⟨_, rfl, by omega, by omega⟩, B1.out⟩
set_option maxHeartbeats 2000000 in
theorem szLockS_at (S : Nat → Prop) (a : Option Addr) (n c : Nat) (l : List LK) (left : Int) (w : World) (h : Lr w S (.slice a n c) l) (hsz : szOkL l) (h0 : 0 ≤ left) (h1 : left ≤ 1048576) :
    Calls Try.prog 67 #[.slice a n c, .int .i64 left] w fun e w' => (∃ x : Int, e = .returned (.int .i64 x) ∧ x ≤ left ∧ -1 ≤ x ∧ (0 ≤ x → n ≤ 1048576)) ∧ Below w.heap.size w w' := by
  obtain ⟨hn, hnc, hcc⟩ := Rw.len h
  have HN := hid hn
  have H0 := hid h
  have HZ := hid hsz
  clear h hsz hn
  by_cases hbig : left - (n : Int) < 0
  · go_enter Try.func67, Try.ntmps67
    go_wp2
    go_ret
    exact ⟨⟨_, rfl, by omega, by omega, fun h => by omega⟩, Below.refl _ _⟩
  · have hn2 : n ≤ 1048576 := by omega
    go_enter Try.func67, Try.ntmps67
    go_wp2
    go_loopw [1, 5] (fun x i wr => ∃ (k : Nat) (y : Int), k ≤ n ∧ i = .int .i64 k ∧ x = .int .i64 y ∧ 0 ≤ y ∧ y ≤ left ∧ Hid (Below w.heap.size w wr)) (fun _ i _ => n - (intOf i).toNat)
    case atStart => exact ⟨0, _, Nat.zero_le _, rfl, rfl, by omega, by omega, Below.refl _ _⟩
    case round =>
      obtain ⟨k, y, hk, rfl, rfl, hy0, hy1, HB⟩ := hrel
      by_cases hlt : k < n
      · have hlt' : (k : Int) < (n : Int) := by omega
        have HP := hid (H0.out.below HB.out)
        obtain ⟨b, off, rfl, _, hbw, hcell⟩ := HP.out.at (by omega)
        obtain ⟨hc0, hc1, hc2, hc3, hc4, hc5⟩ := hcell k hlt
        have hs := HZ.out k
        clear hcell hbw HP
        generalize lAt l k = cur at hc0 hc1 hc2 hc3 hc4 hc5 hs
        obtain ⟨⟨cc, ce, cn⟩, ⟨clo, chi⟩, cex⟩ := cur
        obtain ⟨hs1, hs2⟩ := hs
        go_wp2_with fail
        refine (szLock_any cc ce cn clo chi cex y wr hy0 (by omega) hs1 hs2).mono ?_
        rintro e w1 ⟨⟨x, rfl, hx1, hx2⟩, hb1⟩
        have HB1 := hid (HB.out.trans (hb1.mono HB.out.size))
        clear hb1 hs1 hs2 hc0 hc1 hc2 hc3 hc4 hc5
        by_cases hneg : x < 0
        · go_wp2
          go_ret
          exact ⟨⟨_, rfl, by omega, by omega, fun h => by omega⟩, HB1.out⟩
        · go_wp2
          go_roundw
          case rel => exact ⟨k + 1, x, by omega, by go_num, rfl, by omega, by omega, HB1.out⟩
          case measure => simp [intOf]; omega
      · go_wp2
        go_ret
        exact ⟨⟨_, rfl, by omega, by omega, fun _ => hn2⟩, HB.out⟩
set_option maxHeartbeats 2000000 in
theorem szLocks_any (S S' : Nat → Prop) (ha : Option Addr) (hn hc : Nat) (wa : Option Addr) (wn wc : Nat) (hl wl : List LK) (w : World) (h1 : Lr w S (.slice ha hn hc) hl) (h2 : Lr w S' (.slice wa wn wc) wl) (s1 : szOkL hl) (s2 : szOkL wl) :
    Calls Try.prog 18 #[.agg #[.slice ha hn hc, .slice wa wn wc], .int .i64 1048576] w fun e w' => (∃ x : Int, e = .returned (.int .i64 x) ∧ x ≤ 1048576 ∧ -1 ≤ x ∧ (0 ≤ x → hn ≤ 1048576 ∧ wn ≤ 1048576)) ∧ Below w.heap.size w w' := by
  have B0 := hid (below_new (o := .cells #[.slice ha hn hc, .slice wa wn wc] 45) (w := w) (Below.refl _ _))
  have K0 := hid (Bk.new w 45 [.slice ha hn hc, .slice wa wn wc])
  have H1 := hid h1
  have H2 := hid h2
  have S1 := hid s1
  have S2 := hid s2
  clear h1 h2 s1 s2
  go_enter Try.func18, Try.ntmps18
  go_wp2_with fail
  refine (szLockS_at S ha hn hc hl 1048576 _ (H1.out.below B0.out) S1.out (by omega) (by omega)).mono ?_
  generalize w.alloc (.cells #[.slice ha hn hc, .slice wa wn wc] 45) = U at *
  rintro r w1 ⟨⟨x, rfl, hx1, hx2, hx3⟩, hb⟩
  have B1 := hid (B0.out.trans (hb.mono B0.out.size))
  have K1 := hid (K0.out.below hb)
  clear hb B0 K0
  by_cases hneg : x < 0
  · go_wp2
    go_ret
    exact ⟨⟨_, rfl, by omega, by omega, fun h => by omega⟩, B1.out⟩
  · have hx4 := hx3 (by omega)
    have y1 := K1.out.cell (j := 1) rfl
    clear hx3
    go_wp2_with fail
    refine (szLockS_at S' wa wn wc wl x _ (H2.out.below B1.out) S2.out (by omega) (by omega)).mono ?_
    rintro r w2 ⟨⟨y, rfl, hy1, hy2, hy3⟩, hb⟩
    have B2 := hid (B1.out.trans (hb.mono B1.out.size))
    have HY := hid hy3
    clear hb B1 K1 y1 hy3
    by_cases hneg2 : y < 0
    · go_wp2
      go_ret
      exact ⟨⟨_, rfl, by omega, by omega, fun h => by omega⟩, B2.out⟩
    · go_wp2
      go_ret
      exact ⟨⟨_, rfl, by omega, by omega, fun h => ⟨hx4, HY.out h⟩⟩, B2.out⟩
set_option maxHeartbeats 1600000 in
theorem eqLock_same (c e n : Int) (lo hi : ByteArray) (ex : Bool) (w : World) : Calls Try.prog 69 #[.agg #[.int .i64 c, .int .i64 e, .int .i64 n, .string lo, .string hi, .bool ex], .agg #[.int .i64 c, .int .i64 e, .int .i64 n, .string lo, .string hi, .bool ex]] w fun e w' => e = .returned (.bool true) ∧ Below w.heap.size w w' := by
  have C1 := hid (fun w => eqTx_same c e n w)
  have C2 : Hid (∀ w, Calls Try.prog 100 #[.agg #[.string lo, .string hi], .agg #[.string lo, .string hi]] w fun e w' => e = .returned (.bool true) ∧ Below w.heap.size w w') := fun w => eqRange_same lo hi w
  have t3 : (ex != ex) = false := by simp
  have B0 := hid (below_new (o := .cells #[.int .i64 c, .int .i64 e, .int .i64 n, .string lo, .string hi, .bool ex] 31) (w := w) (below_new (o := .cells #[.int .i64 c, .int .i64 e, .int .i64 n, .string lo, .string hi, .bool ex] 31) (w := w.alloc (.cells #[.int .i64 c, .int .i64 e, .int .i64 n, .string lo, .string hi, .bool ex] 31)) (Below.refl _ _)))
  have K0 := hid ((Bk.new w 31 [.int .i64 c, .int .i64 e, .int .i64 n, .string lo, .string hi, .bool ex]).alloc (.cells #[.int .i64 c, .int .i64 e, .int .i64 n, .string lo, .string hi, .bool ex] 31))
  have J0 := hid (Bk.new (w.alloc (.cells #[.int .i64 c, .int .i64 e, .int .i64 n, .string lo, .string hi, .bool ex] 31)) 31 [.int .i64 c, .int .i64 e, .int .i64 n, .string lo, .string hi, .bool ex])
  rw [show (w.alloc (.cells #[.int .i64 c, .int .i64 e, .int .i64 n, .string lo, .string hi, .bool ex] 31)).heap.size = w.heap.size + 1 by simp] at J0
  go_enter Try.func69, Try.ntmps69
  go_wp2_with fail
  refine (C1.out _).mono ?_
  generalize (w.alloc (.cells #[.int .i64 c, .int .i64 e, .int .i64 n, .string lo, .string hi, .bool ex] 31)).alloc (.cells #[.int .i64 c, .int .i64 e, .int .i64 n, .string lo, .string hi, .bool ex] 31) = U at *
  rintro r w1 ⟨rfl, hb⟩
  have K1 := hid (K0.out.below hb)
  have J1 := hid (J0.out.below hb)
  have B1 := hid (B0.out.trans (hb.mono B0.out.size))
  clear K0 J0 B0 hb
  have x3 := K1.out.cell (j := 3) rfl
  have x4 := K1.out.cell (j := 4) rfl
  have x5 := K1.out.cell (j := 5) rfl
  have y3 := J1.out.cell (j := 3) rfl
  have y4 := J1.out.cell (j := 4) rfl
  have y5 := J1.out.cell (j := 5) rfl
  go_wp2_with fail
  refine (C2.out _).mono ?_
  rintro r w2 ⟨rfl, hb⟩
  have K2 := hid (K1.out.below hb)
  have J2 := hid (J1.out.below hb)
  have B2 := hid (B1.out.trans (hb.mono B1.out.size))
  clear K1 J1 B1 hb x3 x4 x5 y3 y4 y5
  have x3 := K2.out.cell (j := 3) rfl
  have x4 := K2.out.cell (j := 4) rfl
  have x5 := K2.out.cell (j := 5) rfl
  have y3 := J2.out.cell (j := 3) rfl
  have y4 := J2.out.cell (j := 4) rfl
  have y5 := J2.out.cell (j := 5) rfl
  go_wp2
  go_ret
  exact ⟨rfl, B2.out⟩
set_option maxHeartbeats 2000000 in
theorem eqLockS_same (S S' : Nat → Prop) (a a' : Option Addr) (n n' c c' : Nat) (l : List LK) (w : World) (h : Lr w S (.slice a n c) l) (h' : Lr w S' (.slice a' n' c') l) :
    Calls Try.prog 26 #[.slice a n c, .slice a' n' c'] w fun e w' => e = .returned (.bool true) ∧ Below w.heap.size w w' := by
  obtain ⟨hn, hnc, hcc⟩ := Rw.len h
  obtain ⟨hn', hnc', hcc'⟩ := Rw.len h'
  obtain rfl : n' = n := by omega
  have H0 := hid h
  have H0' := hid h'
  clear h h' hn hn'
  have hz : ((n' : Int) != (n' : Int)) = false := by simp
  go_enter Try.func26, Try.ntmps26
  go_wp2
  go_loopw [5] (fun i wr => ∃ k : Nat, k ≤ n' ∧ i = .int .i64 k ∧ Hid (Below w.heap.size w wr)) (fun i _ => n' - (intOf i).toNat)
  case atStart => exact ⟨0, Nat.zero_le _, rfl, Below.refl _ _⟩
  case round =>
    obtain ⟨k, hk, rfl, HB⟩ := hrel
    by_cases hlt : k < n'
    · have hlt' : (k : Int) < (n' : Int) := by omega
      have HP := hid (H0.out.below HB.out)
      have HP' := hid (H0'.out.below HB.out)
      obtain ⟨b, off, rfl, _, hbw, hcell⟩ := HP.out.at (by omega)
      obtain ⟨b', off', rfl, _, hbw', hcell'⟩ := HP'.out.at (by omega)
      obtain ⟨hc0, hc1, hc2, hc3, hc4, hc5⟩ := hcell k hlt
      obtain ⟨gc0, gc1, gc2, gc3, gc4, gc5⟩ := hcell' k hlt
      clear hcell hcell' hbw hbw' HP HP'
      generalize lAt l k = cur at hc0 hc1 hc2 hc3 hc4 hc5 gc0 gc1 gc2 gc3 gc4 gc5
      obtain ⟨⟨cc, ce, cn⟩, ⟨clo, chi⟩, cex⟩ := cur
      have T0 := hid (kl12_0 hc0 hc1 hc2 hc3 hc4 hc5 gc0 gc1 gc2 gc3 gc4 gc5)
      have C1 := hid (fun w => eqLock_same cc ce cn clo chi cex w)
      clear hc0 hc1 hc2 hc3 hc4 hc5 gc0 gc1 gc2 gc3 gc4 gc5
      go_wp2_with fail
      go_region_held3 (fun v => v.cell? ⟨b, off + k * 6, none⟩ = some (.int .i64 cc) ∧ v.cell? ⟨b, off + k * 6 + 1, none⟩ = some (.int .i64 ce) ∧ v.cell? ⟨b, off + k * 6 + 2, none⟩ = some (.int .i64 cn) ∧ v.cell? ⟨b, off + k * 6 + 3, none⟩ = some (.string clo) ∧ v.cell? ⟨b, off + k * 6 + 4, none⟩ = some (.string chi) ∧ v.cell? ⟨b, off + k * 6 + 5, none⟩ = some (.bool cex) ∧ v.cell? ⟨b', off' + k * 6, none⟩ = some (.int .i64 cc) ∧ v.cell? ⟨b', off' + k * 6 + 1, none⟩ = some (.int .i64 ce) ∧ v.cell? ⟨b', off' + k * 6 + 2, none⟩ = some (.int .i64 cn) ∧ v.cell? ⟨b', off' + k * 6 + 3, none⟩ = some (.string clo) ∧ v.cell? ⟨b', off' + k * 6 + 4, none⟩ = some (.string chi) ∧ v.cell? ⟨b', off' + k * 6 + 5, none⟩ = some (.bool cex) ∧ KL wr v [(⟨b, off + k * 6, none⟩, .int .i64 cc), (⟨b, off + k * 6 + 1, none⟩, .int .i64 ce), (⟨b, off + k * 6 + 2, none⟩, .int .i64 cn), (⟨b, off + k * 6 + 3, none⟩, .string clo), (⟨b, off + k * 6 + 4, none⟩, .string chi), (⟨b, off + k * 6 + 5, none⟩, .bool cex), (⟨b', off' + k * 6, none⟩, .int .i64 cc), (⟨b', off' + k * 6 + 1, none⟩, .int .i64 ce), (⟨b', off' + k * 6 + 2, none⟩, .int .i64 cn), (⟨b', off' + k * 6 + 3, none⟩, .string clo), (⟨b', off' + k * 6 + 4, none⟩, .string chi), (⟨b', off' + k * 6 + 5, none⟩, .bool cex)])
        (first | assumption | exact kl12 (T0.out.call (below_drew _)) | exact kl12c hbC (by assumption))
        (first | (go_at_call 69; refine (C1.out _).mono ?_; rintro e w' ⟨rfl, hbC⟩))
      rename_i hS
      have HB1 := hid (HB.out.trans ((kl12_bel hS).mono HB.out.size))
      clear hS
      go_wp2
      go_roundw
      case rel => exact ⟨k + 1, by omega, by go_num, HB1.out⟩
      case measure => simp [intOf]; omega
    · go_wp2
      go_ret
      exact ⟨rfl, HB.out⟩
set_option maxHeartbeats 2000000 in
theorem eqLocks_same (S S' R R' : Nat → Prop) (ha : Option Addr) (hn hc : Nat) (wa : Option Addr) (wn wc : Nat) (ga : Option Addr) (gn gc : Nat) (ja : Option Addr) (jn jc : Nat) (hl wl : List LK) (w : World) (h1 : Lr w S (.slice ha hn hc) hl) (h2 : Lr w S' (.slice wa wn wc) wl) (h3 : Lr w R (.slice ga gn gc) hl) (h4 : Lr w R' (.slice ja jn jc) wl) :
    Calls Try.prog 22 #[.agg #[.slice ha hn hc, .slice wa wn wc], .agg #[.slice ga gn gc, .slice ja jn jc]] w fun e w' => e = .returned (.bool true) ∧ Below w.heap.size w w' := by
  have C1 := hid (fun v h3 h4 => eqLockS_same S R ha ga hn gn hc gc hl v h3 h4)
  have C2 := hid (fun v h3 h4 => eqLockS_same S' R' wa ja wn jn wc jc wl v h3 h4)
  have B0 := hid (below_new (o := .cells #[.slice ha hn hc, .slice wa wn wc] 25) (w := w) (below_new (o := .cells #[.slice ga gn gc, .slice ja jn jc] 25) (w := w.alloc (.cells #[.slice ha hn hc, .slice wa wn wc] 25)) (Below.refl _ _)))
  have K0 := hid ((Bk.new w 25 [.slice ha hn hc, .slice wa wn wc]).alloc (.cells #[.slice ga gn gc, .slice ja jn jc] 25))
  have J0 := hid (Bk.new (w.alloc (.cells #[.slice ha hn hc, .slice wa wn wc] 25)) 25 [.slice ga gn gc, .slice ja jn jc])
  rw [show (w.alloc (.cells #[.slice ha hn hc, .slice wa wn wc] 25)).heap.size = w.heap.size + 1 by simp] at J0
  have H1 := hid h1
  have H2 := hid h2
  have H3 := hid h3
  have H4 := hid h4
  clear h1 h2 h3 h4
  go_enter Try.func22, Try.ntmps22
  go_wp2_with fail
  refine (C1.out _ (H1.out.below B0.out) (H3.out.below B0.out)).mono ?_
  generalize (w.alloc (.cells #[.slice ha hn hc, .slice wa wn wc] 25)).alloc (.cells #[.slice ga gn gc, .slice ja jn jc] 25) = U at *
  rintro r w1 ⟨rfl, hb⟩
  have K1 := hid (K0.out.below hb)
  have J1 := hid (J0.out.below hb)
  have B1 := hid (B0.out.trans (hb.mono B0.out.size))
  clear K0 J0 B0 hb
  have x1 := K1.out.cell (j := 1) rfl
  have y1 := J1.out.cell (j := 1) rfl
  go_wp2_with fail
  refine (C2.out _ (H2.out.below B1.out) (H4.out.below B1.out)).mono ?_
  rintro r w2 ⟨rfl, hb⟩
  have K2 := hid (K1.out.below hb)
  have J2 := hid (J1.out.below hb)
  have B2 := hid (B1.out.trans (hb.mono B1.out.size))
  clear K1 J1 B1 hb x1 y1
  go_wp2
  go_ret
  exact ⟨rfl, B2.out⟩
end Go.Proofs.Ytbaggkfgnjenoaa

