/-
  The law FnExactDoOps answers true at every disk and list of operations.
-/
import Derived.Test.YtcpdedpgjaimkaaLwDN
import Derived.Test.YtcpdedpgjaimkaaDoK
import Derived.Test.YtcpdedpgjaimkaaOpK
namespace Go.Proofs.Ytcpdedpgjaimkaa
open Go.RowKit
set_option linter.unusedVariables false
theorem DB.hereP {v : World} {b B : Nat} {sa : Option Addr} {sn sc : Nat} {da : Option Addr} {dn dc : Nat} {V : List Value} {U : List (Int × Value)} {d : DK} (h : DB v b B sa sn sc da dn dc V U d) {y : Nat} (hy : dbl (.slice sa sn sc) V (.slice da dn dc) U y) : B ≤ y ∧ y < b := ⟨(h.own.lt hy).1, h.sep y hy⟩
theorem ok_smallP {d : DK} (hok : dkOk d = true) : smallD d ∧ dkTot d ≤ 4194304 := by
  have hk := (dkOk_iff d).1 hok
  have hl : ∀ i, (shAt d.sh i).length ≤ 512 := by
    intro i
    by_cases hi : i < d.sh.length
    · have := (shtOk_iff _).1 (hk.2.2.2.1 i hi)
      omega
    · simp [shAt, show d.sh.length ≤ i by omega]
  have hw : ∀ i, (dwAt d.dw i).2.length ≤ 512 := by
    intro i
    by_cases hi : i < d.dw.length
    · have := (wrtOk_iff _ _).1 (hk.2.2.2.2 i hi)
      omega
    · simp [dwAt, show d.dw.length ≤ i by omega]
  refine ⟨⟨fun i hi => by have := hl i; omega, fun i hi => by have := hw i; omega⟩, ?_⟩
  have ho : ∀ n, offS d.sh n ≤ n * 512 := by
    intro n
    induction n with
    | zero => simp [offS]
    | succ n ih => rw [offS]; have := hl n; omega
  have hq : ∀ n, offW d.dw n ≤ n * 513 := by
    intro n
    induction n with
    | zero => simp [offW]
    | succ n ih => rw [offW]; have := hw n; omega
  have h1 := ho d.sh.length
  have h2 := hq d.dw.length
  have h3 := hk.2.1
  have h4 := hk.2.2.1
  simp only [dkTot]
  omega
theorem opS_ok (l : List OW) : ∀ (k : Nat) (d d' : DK), k ≤ l.length → dkOk d = true → opS (l.drop (l.length - k)) d = some d' → dkOk d' = true
  | 0, d, d', _, h, e => by
    rw [Nat.sub_zero, List.drop_length] at e
    cases e
    exact h
  | k + 1, d, d', hk, h, e => by
    have hlt : l.length - (k + 1) < l.length := by omega
    rw [opS_step l hlt] at e
    cases ho : op1 d (oAt l (l.length - (k + 1))) with
    | none => rw [ho] at e; cases e
    | some d2 =>
      rw [ho, show l.length - (k + 1) + 1 = l.length - k by omega] at e
      exact opS_ok l k d2 d' (by omega) (op1_ok h ho) e
theorem doV_small (d : DK) (l : List OW) : smallD (doV d l) ∧ dkTot (doV d l) ≤ 4194304 := by
  have hem : smallD emD ∧ dkTot emD ≤ 4194304 := ⟨⟨fun i hi => by simp [emD] at hi, fun i hi => by simp [emD] at hi⟩, by decide⟩
  unfold doV
  by_cases h : dkOk d = true
  · rw [if_pos h]
    cases e : opS l d with
    | none => exact hem
    | some d' =>
      refine ok_smallP (opS_ok l l.length d d' (Nat.le_refl _) h ?_)
      rw [Nat.sub_self, List.drop_zero]
      exact e
  · rw [if_neg h]
    exact hem
theorem small_ops {l : List OW} {n : Nat} (hn : n = l.length) (h : offS (l.map sndO) n ≤ 1048576) : smallO l := by
  intro i
  by_cases hi : i < n
  · have h1 := offS_mono (l.map sndO) (show i + 1 ≤ n by omega)
    rw [offS, shAt_mapO] at h1
    omega
  · have : oAt l i = (false, 0, []) := by simp [oAt, show l.length ≤ i by omega]
    rw [this]; simp
set_option maxHeartbeats 16000000 in
set_option maxRecDepth 20000 in
theorem lawDoOps_walk (sa : Option Addr) (sn sc : Nat) (da : Option Addr) (dn dc : Nat) (d : DK) (oa : Option Addr) (on oc : Nat) (ol : List OW) (w : World) (h : Dk w (fun _ => True) sa sn sc da dn dc d) (ho : Opr w (fun _ => True) (.slice oa on oc) ol) :
    Calls Try.prog 4 #[.agg #[.slice sa sn sc, .slice da dn dc], .slice oa on oc] w fun e w' => e = .returned (.bool true) ∧ Below w.heap.size w w' := by
  have X0 := hid (DX.start h)
  have NS := hid h.hs.len.1
  have ND := hid h.hd.len.1
  have HAS := hid (doV_small d ol)
  have HER : Hid (∀ v, Below w.heap.size w v → Opr v (fun y => y < w.heap.size) (.slice oa on oc) ol) := fun v hb => (ho.mono (fun _ _ h => h)).below hb
  have NO := hid ho.len.1
  have hoc := ho.len.2
  clear h ho
  go_enter Try.func4, Try.ntmps4
  go_wp2_with fail
  refine (szDisk_any _ sa sn sc da dn dc d _ X0.out.hA).mono ?_
  generalize w.alloc (.cells #[.slice sa sn sc, .slice da dn dc] 39) = U at *
  rintro e w1 ⟨⟨x, rfl, hx1, hx2, hx3⟩, hb⟩
  have X1 := hid (X0.out.below hb)
  have HX := hid hx3
  clear hb hx3 X0
  by_cases hneg : x < 0
  · go_wp2
    go_ret
    exact ⟨rfl, X1.out.bel⟩
  · have HSM := hid (small_of_sum (HX.out (by omega))).1
    have HTO := hid (tot_of_sum (HX.out (by omega)))
    have m0 : sn ≤ 1048576 := by rw [NS.out]; exact (small_of_sum (HX.out (by omega))).2.1
    have m1 : dn ≤ 1048576 := by rw [ND.out]; exact (small_of_sum (HX.out (by omega))).2.2
    clear HX
    go_wp2_with fail
    refine (szOpS_at _ oa on oc ol x _ (HER.out _ X1.out.bel) (by omega) (by omega)).mono ?_
    rintro e w1b ⟨⟨x2, rfl, hy1, hy2, hy3⟩, hb⟩
    have X1b := hid (X1.out.below hb)
    have HX2 := hid hy3
    clear hb hy3 X1
    have X1 := hid X1b.out
    clear X1b
    by_cases hneg2 : x2 < 0
    · go_wp2
      go_ret
      exact ⟨rfl, X1.out.bel⟩
    have hsum := HX2.out (by omega)
    have hon : on ≤ 1048576 := by omega
    have HOT : Hid (offS (ol.map sndO) on ≤ 1048576) := by show _ ≤ _; omega
    have HSO : Hid (smallO ol) := small_ops NO.out HOT.out
    clear hsum HX2
    have HSP : Hid (∀ (v : World) g0 g1 V Uu B g2, DO v B (.slice (some ⟨g0, 0, none⟩) sn sn) V (.slice (some ⟨g1, 0, none⟩) dn dn) Uu d → Opr v (fun _ => True) (.slice g2 on on) ol → Calls Try.prog 14 #[.agg #[.slice (some ⟨g0, 0, none⟩) sn sn, .slice (some ⟨g1, 0, none⟩) dn dn], .slice g2 on on] v fun e w' => DkPost1 (doV d ol) v e w') := fun v g0 g1 V Uu B g2 hO hP => specDoOps_any (fun _ => True) (fun _ => True) _ _ _ _ _ _ d _ _ _ ol v (hO.dk (fun _ _ => trivial)) HSM.out m0 m1 hP HSO.out
    have HIM : Hid (∀ (v : World) g0 g1 V Uu B g2, DO v B (.slice (some ⟨g0, 0, none⟩) sn sn) V (.slice (some ⟨g1, 0, none⟩) dn dn) Uu d → Opr v (fun _ => True) (.slice g2 on on) ol → Calls Try.prog 17 #[.agg #[.slice (some ⟨g0, 0, none⟩) sn sn, .slice (some ⟨g1, 0, none⟩) dn dn], .slice g2 on on] v fun e w' => DkPost1 (doV d ol) v e w') := fun v g0 g1 V Uu B g2 hO hP => implDoOps_any (fun _ => True) (fun _ => True) _ _ _ _ _ _ d _ _ _ ol v (hO.dk (fun _ _ => trivial)) HSM.out m0 m1 hP
    generalize doV d ol = dd at *
    have HS2 := hid HAS.out.1
    have HT2 := hid HAS.out.2
    clear HAS
    obtain ⟨x0, x1⟩ := X1.out.cells
    go_wp2_with fail
    refine (toDisk_any _ sa sn sc da dn dc d _ X1.out.hA m0 m1 HSM.out).mono ?_
    rintro e w2 ⟨g0, g1, V, Uu, rfl, hO, hb⟩
    have X2 := hid (X1.out.below hb)
    have C2 := hid hO
    clear hb X1 hO x0 x1
    go_wp2_with fail
    refine (toOpS_at _ oa on oc ol _ (HER.out _ X2.out.bel) hon HSO.out).mono ?_
    rintro e w2b ⟨E2, rfl, hE, hb⟩
    have X2b := hid (X2.out.below hb)
    have C2b := hid (C2.out.below hb)
    have P2 := hid hE.opr
    have SW2 : Hid (w2.heap.size ≤ w2b.heap.size) := hb.size
    clear hb hE X2 C2
    go_wp2_with fail
    refine (HSP.out _ _ _ _ _ _ _ C2b.out P2.out).mono ?_
    rintro e w3 ⟨aa, an, ac, ba, bn, bc, VA, UA, rfl, hO, hb⟩
    have hb2 := bt5 hb (below_new (o := .cells #[.slice aa an ac, .slice ba bn bc] 46) (w := w3) (Below.refl _ _))
    have X3 := hid (X2b.out.below hb2)
    have A3 := hid (DB.new hO)
    clear hb hb2 X2b C2b P2 hO HSP
    obtain ⟨x0, x1⟩ := X3.out.cells
    go_wp2_with fail
    refine (toDisk_any _ sa sn sc da dn dc d _ X3.out.hA m0 m1 HSM.out).mono ?_
    generalize w3.alloc (.cells #[.slice aa an ac, .slice ba bn bc] 46) = u3 at *
    generalize w3.heap.size = bA at *
    rintro e w4 ⟨h0, h1, V4, U4, rfl, hO, hb⟩
    have hb2 := bt5 hb (below_new (o := .cells #[.slice (some ⟨h0, 0, none⟩) sn sn, .slice (some ⟨h1, 0, none⟩) dn dn] 46) (w := w4) (Below.refl _ _))
    have X5 := hid (X3.out.below hb2)
    have A5 := hid (A3.out.below hb2)
    have D5 := hid (DB.new hO)
    have SA : Hid (bA < u3.heap.size ∧ w.heap.size < u3.heap.size) := ⟨A3.out.box.lt, X3.out.kA.lt⟩
    clear hb hb2 hO X3 x0 x1 A3
    go_wp2_with fail
    refine (toOpS_at _ oa on oc ol _ (HER.out _ X5.out.bel) hon HSO.out).mono ?_
    generalize w4.alloc (.cells #[.slice (some ⟨h0, 0, none⟩) sn sn, .slice (some ⟨h1, 0, none⟩) dn dn] 46) = u5a at *
    generalize w4.heap.size = bX at *
    rintro e u5 ⟨EX, rfl, hE, hb⟩
    have X5b := hid (X5.out.below hb)
    have A5b := hid (A5.out.below hb)
    have D5b := hid (D5.out.below hb)
    have E5 := hid hE
    have SE : Hid (bX < u5a.heap.size ∧ u5a.heap.size < u5.heap.size) := ⟨D5.out.box.lt, hE.bk.lt⟩
    generalize u5a.heap.size = gE at *
    clear hb hE X5 A5 D5
    have X5 := hid X5b.out
    have A5 := hid A5b.out
    have D5 := hid D5b.out
    clear X5b A5b D5b
    obtain ⟨z0, z1⟩ := D5.out.cells
    go_wp2_with fail
    refine (HIM.out _ _ _ _ _ _ _ D5.out.own E5.out.opr).mono ?_
    rintro e w6 ⟨ga, gn, gc, ja, jn, jc, VG, UG, rfl, hO, hb⟩
    have hb2 := bt5 hb (below_new (o := .cells #[.slice ga gn gc, .slice ja jn jc] 46) (w := w6) (Below.refl _ _))
    have X6 := hid (X5.out.below hb2)
    have A6 := hid (A5.out.below hb2)
    have D6 := hid (D5.out.below hb2)
    have G6 := hid (DB.new hO)
    have E6 := hid (E5.out.below hb2)
    have SX : Hid (bX < u5.heap.size) := D5.out.box.lt
    have SU : Hid (u3.heap.size ≤ u5.heap.size) := by have h1 := D5.out.hereP (y := h0) (.inl (.inl rfl)); have h2 := D5.out.box.lt; show _ ≤ _; omega
    have SG : Hid (u5.heap.size ≤ w6.heap.size) := hb.size
    have SGB : Hid (u5.heap.size ≤ w6.heap.size) := hb.size
    have SXG : Hid (u3.heap.size ≤ bX ∧ bX < gE) := ⟨by have h1 := D5.out.hereP (y := h0) (.inl (.inl rfl)); omega, SE.out.1⟩
    clear hb hb2 hO X5 A5 D5 E5 z0 z1
    obtain ⟨x0, x1⟩ := A6.out.cells
    obtain ⟨y0, y1⟩ := G6.out.cells
    go_wp2_with fail
    refine (eqDisk_any (fun _ => True) (fun _ => True) _ _ _ _ _ _ dd _ _ _ _ _ _ dd _ G6.out.dk A6.out.dk HS2.out HS2.out).mono ?_
    generalize w6.alloc (.cells #[.slice ga gn gc, .slice ja jn jc] 46) = u6 at *
    generalize w6.heap.size = bG at *
    rw [decide_eq_true (rfl : dd = dd)]
    rintro e w7 ⟨rfl, hb⟩
    have X7 := hid (X6.out.below hb)
    have A7 := hid (A6.out.below hb)
    have D7 := hid (D6.out.below hb)
    have G7 := hid (G6.out.below hb)
    have E7 := hid (E6.out.below hb)
    clear hb X6 A6 D6 G6 E6 x0 x1 y0 y1
    obtain ⟨x0, x1⟩ := X7.out.cells
    obtain ⟨y0, y1⟩ := D7.out.cells
    have X8 := hid (X7.out.below (below_drew _))
    have A8 := hid (A7.out.below (below_drew _))
    have D8 := hid (D7.out.below (below_drew _))
    have G8 := hid (G7.out.below (below_drew _))
    have E8 := hid (E7.out.below (below_drew _))
    clear X7 A7 G7 E7
    go_wp2_with fail
    go_cut [44] (fun x v => x = .bool false ∧ DX w v sa sn sc da dn dc d ∧ DB v bA w2b.heap.size aa an ac ba bn bc VA UA dd ∧ DB v bX u3.heap.size (some ⟨h0, 0, none⟩) sn sn (some ⟨h1, 0, none⟩) dn dn V4 U4 d ∧ DB v bG u5.heap.size ga gn gc ja jn jc VG UG dd ∧ OO v gE u5.heap.size on EX ol)
    case first =>
      go_region_with (first
        | (go_at_call 15; refine (toDisk_any _ sa sn sc da dn dc d _ X8.out.hA m0 m1 HSM.out).mono ?_; rintro e w8 ⟨f0, f1, V8, U8, rfl, hO8, hb8⟩; have z0 := (D8.out.below hb8).cells.1; have z1 := (D8.out.below hb8).cells.2)
        | (go_at_call 18; refine (eqDisk_any (fun _ => True) (fun _ => True) _ _ _ _ _ _ d _ _ _ _ _ _ d _ (D8.out.below hb8).dk (hO8.dk (S := fun _ => True) (fun _ _ => trivial)) HSM.out HSM.out).mono ?_; rintro e w9 ⟨rfl, hb9⟩))
      all_goals (go_wp2_with fail; go_meet)
      all_goals exact ⟨by simp, (X8.out.below hb8).below hb9, (A8.out.below hb8).below hb9, (D8.out.below hb8).below hb9, (G8.out.below hb8).below hb9, (E8.out.below hb8).below hb9⟩
    case rest =>
      obtain ⟨rfl, hX, hA, hD, hG, hE⟩ := hcut
      have X9 := hid hX
      have A9 := hid hA
      have D9 := hid hD
      have G9 := hid hG
      have E9 := hid hE
      clear hX hA hD hG hE D7 X8 A8 D8 G8 E8 x0 x1 y0 y1
      go_wp2_with fail
      refine (toOpS_at _ oa on oc ol _ (HER.out _ X9.out.bel) hon HSO.out).mono ?_
      rintro e w9b ⟨EY, rfl, hE, hb⟩
      have X9b := hid (X9.out.below hb)
      have A9b := hid (A9.out.below hb)
      have D9b := hid (D9.out.below hb)
      have G9b := hid (G9.out.below hb)
      have E9b := hid (E9.out.below hb)
      have PY := hid hE.opr
      clear hb hE X9 A9 D9 G9 E9
      go_wp2_with fail
      refine (eqOpS_at _ _ _ _ on on on on ol ol _ E9b.out.opr PY.out (fun i _ => HSO.out i) (fun i _ => HSO.out i)).mono ?_
      rw [decide_eq_true (rfl : ol = ol)]
      rintro e w9c ⟨rfl, hb⟩
      have X9 := hid (X9b.out.below hb)
      have A9 := hid (A9b.out.below hb)
      have D9 := hid (D9b.out.below hb)
      have G9 := hid (G9b.out.below hb)
      have E9 := hid (E9b.out.below hb)
      clear hb X9b A9b D9b G9b E9b PY
      obtain ⟨y0, y1⟩ := D9.out.cells
      go_wp2_with fail
      refine (markDisk_ex _ _ _ _ _ _ _ 1 V4 U4 d _ D9.out.own HTO.out (by omega) (by omega)).mono ?_
      rintro e w10 ⟨rfl, -, ho⟩
      have hsx : ∀ y, dbl (.slice (some ⟨h0, 0, none⟩) sn sn) V4 (.slice (some ⟨h1, 0, none⟩) dn dn) U4 y → u3.heap.size ≤ y ∧ y < gE := fun y hy => by have h1 := D9.out.hereP hy; have h2 := SE.out; omega
      have X10 := hid (X9.out.only ho (fun b hb => by have h1 := hsx b hb; have h2 := SA.out; omega))
      have A10 := hid (A9.out.to ho (fun e => by have h1 := hsx _ e; have h2 := SA.out; omega) (fun y hy e => by have h1 := hsx y e; have h2 := A9.out.hereP hy; have h3 := SA.out; omega))
      have G10 := hid (G9.out.to ho (fun e => by have h1 := hsx _ e; have h2 := SG.out; have h3 := SE.out; omega) (fun y hy e => by have h1 := hsx y e; have h2 := G9.out.hereP hy; have h3 := SE.out; omega))
      have E10 := hid (E9.out.to ho (fun y h1 h2 e => by have h3 := hsx y e; omega))
      clear ho hsx X9 A9 D9 G9 E9 y0 y1
      have hkt : 1 + dkTot d ≤ 4194305 := by have := HTO.out; omega
      have hk1 : 0 < 1 + dkTot d := by omega
      generalize 1 + dkTot d = kk0 at *
      go_wp2_with fail
      refine (markOpS_any gE u5.heap.size on kk0 EX ol _ E10.out (by have := HOT.out; omega) hk1 (by omega)).mono ?_
      rintro e w10b ⟨⟨kk, rfl⟩, ho⟩
      have X10b := hid (X10.out.only ho (fun b hb => by have h2 := SA.out; have h3 := SE.out; have h4 := SU.out; have h5 := SXG.out; omega))
      have A10b := hid (A10.out.to ho (fun e => by have h2 := SA.out; have h5 := SXG.out; omega) (fun y hy e => by have h2 := A10.out.hereP hy; have h3 := SA.out; have h5 := SXG.out; omega))
      have G10b := hid (G10.out.to ho (fun e => by have h2 := SG.out; have h3 := SGB.out; omega) (fun y hy e => by have h2 := G10.out.hereP hy; omega))
      clear ho X10 A10 G10 E10
      have X10 := hid X10b.out
      have A10 := hid A10b.out
      have G10 := hid G10b.out
      clear X10b A10b G10b
      have hkn : ¬ (kk : Int) < 0 := by omega
      obtain ⟨x0, x1⟩ := A10.out.cells
      obtain ⟨y0, y1⟩ := G10.out.cells
      go_wp2_with fail
      refine (eqDisk_any (fun _ => True) (fun _ => True) _ _ _ _ _ _ dd _ _ _ _ _ _ dd _ G10.out.dk A10.out.dk HS2.out HS2.out).mono ?_
      rw [decide_eq_true (rfl : dd = dd)]
      rintro e w11 ⟨rfl, hb⟩
      have X11 := hid (X10.out.below hb)
      have A11 := hid (A10.out.below hb)
      have G11 := hid (G10.out.below hb)
      clear hb X10 A10 G10 x0 x1 y0 y1
      obtain ⟨y0, y1⟩ := G11.out.cells
      go_wp2_with fail
      refine (markDisk_ex _ _ _ _ _ _ _ 1 VG UG dd _ G11.out.own HT2.out (by omega) (by omega)).mono ?_
      rintro e w12 ⟨rfl, hm, ho⟩
      have hsg : ∀ y, dbl (.slice ga gn gc) VG (.slice ja jn jc) UG y → u5.heap.size ≤ y ∧ y < bG := fun y hy => G11.out.hereP hy
      have Q12 : Hid (DQ5 w12 bG ga gn gc ja jn jc VG UG dd 1) := ⟨G11.out.box.to ho (fun e => absurd (hsg _ e).2 (Nat.lt_irrefl _)), hm⟩
      have S35 : u3.heap.size ≤ u5.heap.size := SU.out
      have X12 := hid (X11.out.only ho (fun b hb => by have h1 := hsg b hb; have h2 := SA.out; omega))
      have A12 := hid (A11.out.to ho (fun e => by have h1 := hsg _ e; have h2 := SA.out; omega) (fun y hy e => by have h1 := hsg y e; have h2 := A11.out.hereP hy; have h3 := SA.out; omega))
      clear hm ho hsg X11 A11 G11 y0 y1 S35
      obtain ⟨y0, y1⟩ := Q12.out.cells
      have HTP : Hid (1 + dkTot dd ≤ 4194305) := by have := HT2.out; show _ ≤ _; omega
      generalize hq : 1 + dkTot dd = q at *
      have HQ := hid hq
      have hq0 : ¬ (q : Int) < 0 := by omega
      have hqq : ((q : Int) != (q : Int)) = false := by simp
      clear hq
      go_wp2_with fail
      refine (heldDisk_any _ _ _ _ _ _ 1 VG UG dd _ Q12.out.own HT2.out (by omega) (by omega)).mono ?_
      rw [HQ.out]
      rintro e w13 ⟨rfl, hb⟩
      have X13 := hid (X12.out.below hb)
      have A13 := hid (A12.out.below hb)
      have Q13 := hid (Q12.out.below hb)
      clear hb X12 A12 Q12 y0 y1
      obtain ⟨x0, x1⟩ := X13.out.cells
      go_wp2_with fail
      refine (toDisk_any _ sa sn sc da dn dc d _ X13.out.hA m0 m1 HSM.out).mono ?_
      rintro e w14 ⟨f0, f1, V14, U14, rfl, hO, hb⟩
      have X14 := hid (X13.out.below hb)
      have A14 := hid (A13.out.below hb)
      have Q14 := hid (Q13.out.below hb)
      have C14 := hid hO
      clear hO hb X13 A13 Q13 x0 x1
      go_wp2_with fail
      refine (toOpS_at _ oa on oc ol _ (HER.out _ X14.out.bel) hon HSO.out).mono ?_
      rintro e w14b ⟨EZ, rfl, hE, hb⟩
      have X14b := hid (X14.out.below hb)
      have A14b := hid (A14.out.below hb)
      have Q14b := hid (Q14.out.below hb)
      have C14b := hid (C14.out.below hb)
      have PZ := hid hE.opr
      clear hb hE X14 A14 Q14 C14
      have X14 := hid X14b.out
      have A14 := hid A14b.out
      have Q14 := hid Q14b.out
      have C14 := hid C14b.out
      clear X14b A14b Q14b C14b
      go_wp2_with fail
      refine (HIM.out _ _ _ _ _ _ _ C14.out PZ.out).mono ?_
      rintro e w15 ⟨ha, hn, hc, la, ln, lc, VH, UH, rfl, hO, hb⟩
      have hb2 := bt5 hb (below_new (o := .cells #[.slice ha hn hc, .slice la ln lc] 46) (w := w15) (Below.refl _ _))
      have X15 := hid (X14.out.below hb2)
      have A15 := hid (A14.out.below hb2)
      have Q15 := hid (Q14.out.below hb2)
      have H15 := hid (DB.new hO)
      clear hO hb hb2 X14 A14 Q14 C14
      obtain ⟨x0, x1⟩ := A15.out.cells
      obtain ⟨y0, y1⟩ := H15.out.cells
      go_wp2_with fail
      refine (eqDisk_any (fun _ => True) (fun _ => True) _ _ _ _ _ _ dd _ _ _ _ _ _ dd _ H15.out.dk A15.out.dk HS2.out HS2.out).mono ?_
      generalize w15.alloc (.cells #[.slice ha hn hc, .slice la ln lc] 46) = u15 at *
      generalize w15.heap.size = bH at *
      rw [decide_eq_true (rfl : dd = dd)]
      rintro e w16 ⟨rfl, hb⟩
      have X16 := hid (X15.out.below hb)
      have Q16 := hid (Q15.out.below hb)
      clear hb X15 A15 Q15 H15 x0 x1 y0 y1
      obtain ⟨y0, y1⟩ := Q16.out.cells
      go_wp2_with fail
      refine (heldDisk_any _ _ _ _ _ _ 1 VG UG dd _ Q16.out.own HT2.out (by omega) (by omega)).mono ?_
      rw [HQ.out]
      rintro e w17 ⟨rfl, hb⟩
      have X17 := hid (X16.out.below hb)
      clear hb X16 Q16 y0 y1
      go_wp2
      go_ret
      exact ⟨rfl, X17.out.bel⟩
end Go.Proofs.Ytcpdedpgjaimkaa

