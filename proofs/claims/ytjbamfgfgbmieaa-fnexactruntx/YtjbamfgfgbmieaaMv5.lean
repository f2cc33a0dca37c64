/-
  The law FnExactRunTx answers true at all data, logs and names.
-/
import Derived.Test.YtjbamfgfgbmieaaMv3
import Derived.Test.YtjbamfgfgbmieaaMv4
import Derived.Test.YtjbamfgfgbmieaaMv2
namespace Go.Proofs.Ytjbamfgfgbmieaa
open Go.RowKit
set_option linter.unusedVariables false
set_option maxHeartbeats 2000000 in
theorem szPairS_left (S : Nat → Prop) (a : Option Addr) (n c : Nat) (l : List PB) (left : Int) (w : World) (h : Pr w S (.slice a n c) l) (hsz : szOkP l) (h0 : 0 ≤ left) (h1 : left ≤ 1048576) :
    Calls Try.prog 11 #[.slice a n c, .int .i64 left] w fun e w' => (∃ x : Int, e = .returned (.int .i64 x) ∧ x ≤ left ∧ -1 ≤ x ∧ (0 ≤ x → n + x ≤ left)) ∧ Below w.heap.size w w' := by
  obtain ⟨hn, hnc, hcc⟩ := Rw.len h
  have HN := hid hn
  have H0 := hid h
  have HZ := hid hsz
  clear h hsz hn
  by_cases hbig : left - (n : Int) < 0
  · go_enter Try.func11, Try.ntmps11
    go_wp2
    go_ret
    exact ⟨⟨_, rfl, by omega, by omega, fun h => by omega⟩, Below.refl _ _⟩
  · have hn2 : n ≤ 1048576 := by omega
    go_enter Try.func11, Try.ntmps11
    go_wp2
    go_loopw [1, 5] (fun x i wr => ∃ (k : Nat) (y : Int), k ≤ n ∧ i = .int .i64 k ∧ x = .int .i64 y ∧ 0 ≤ y ∧ n + y ≤ left ∧ Hid (Below w.heap.size w wr)) (fun _ i _ => n - (intOf i).toNat)
    case atStart => exact ⟨0, _, Nat.zero_le _, rfl, rfl, by omega, by omega, Below.refl _ _⟩
    case round =>
      obtain ⟨k, y, hk, rfl, rfl, hy0, hy1, HB⟩ := hrel
      by_cases hlt : k < n
      · have hlt' : (k : Int) < (n : Int) := by omega
        have HP := hid (H0.out.below HB.out)
        obtain ⟨b, off, rfl, _, hbw, hcell⟩ := HP.out.at (by omega)
        have hck := (hcell k hlt).1
        have hck1 := (hcell k hlt).2
        have hs := HZ.out k
        clear hcell hbw HP
        generalize pAtB l k = cur at hck hck1 hs
        obtain ⟨ck, cv⟩ := cur
        obtain ⟨hs1, hs2⟩ := hs
        go_wp2_with fail
        refine (szPair_any ck cv y wr hy0 (by omega) hs1 hs2).mono ?_
        rintro e w1 ⟨⟨x, rfl, hx1, hx2⟩, hb1⟩
        have HB1 := hid (HB.out.trans (hb1.mono HB.out.size))
        clear hb1 hs1 hs2 hck hck1
        by_cases hneg : x < 0
        · go_wp2
          go_ret
          exact ⟨⟨_, rfl, by omega, by omega, fun h => by omega⟩, HB1.out⟩
        · go_wp2
          go_roundw
          case rel => exact ⟨k + 1, x, by omega, by go_num, rfl, by omega, by omega, HB1.out⟩
          case measure => simp [intOf]; omega
      · go_wp2
        go_ret
        exact ⟨⟨_, rfl, by omega, by omega, fun _ => by omega⟩, HB.out⟩
theorem yi_yrx {w : World} {g n : Nat} {V : List RV} {rs : List RY} (hV : V.map (·.1) = rs) (hB : Bk w g 87 (rycs V)) (hY : YI w g V) (hn : n = rs.length) (hnm : n ≤ 1048576) (hp : ∀ r ∈ rs, r.ps.length ≤ 1048576) : Yr w (fun _ => True) (.slice (some ⟨g, 0, none⟩) n n) rs := by
  have h1 : n = V.length := by rw [hn, ← hV, List.length_map]
  have h2 := hY.yr hB h1 (by omega) (fun p hm => hp _ (by rw [← hV]; exact List.mem_map_of_mem hm)) (fun _ => True) (fun _ _ => trivial)
  rw [hV] at h2
  exact h2
set_option maxHeartbeats 16000000 in
set_option maxRecDepth 20000 in
theorem lawRunTx_walk (a : Option Addr) (n c : Nat) (l : List PB) (ar : Option Addr) (nr cr : Nat) (rs : List RY) (tc te tn : Int) (w : World) (h : Pr w (fun _ => True) (.slice a n c) l ∧ szOkP l) (h' : Yr w (fun _ => True) (.slice ar nr cr) rs ∧ rySz rs) :
    Calls Try.prog 4 #[.slice a n c, .slice ar nr cr, .agg #[.int .i64 tc, .int .i64 te, .int .i64 tn]] w fun e w' => e = .returned (.bool true) ∧ Below w.heap.size w w' := by
  have hb := below_new (o := .cells #[.int .i64 tc, .int .i64 te, .int .i64 tn] 40) (w := w) (Below.refl _ _)
  have B0 := hid hb
  have K0 := hid (Bk.new w 40 [.int .i64 tc, .int .i64 te, .int .i64 tn])
  have H0 := hid (h.1.below' hb)
  have R0 := hid (h'.1.below hb)
  have HZ := hid h.2
  have HZR := hid h'.2
  have HN := hid (Rw.len h.1).1
  have HNR := hid h'.1.len.1
  clear h h' hb
  go_enter Try.func4, Try.ntmps4
  go_wp2_with fail
  refine (szPairS_left _ a n c l 1048576 _ H0.out HZ.out (by omega) (by omega)).mono ?_
  generalize hU : w.alloc (.cells #[.int .i64 tc, .int .i64 te, .int .i64 tn] 40) = U at *
  clear hU
  rintro e w1 ⟨⟨x, rfl, hx, hx1, hx2⟩, hb⟩
  have B1 := hid (B0.out.trans (hb.mono B0.out.size))
  have K1 := hid (K0.out.below hb)
  have H1 := hid (H0.out.below' hb)
  have R1 := hid (R0.out.below hb)
  have HX := hid hx2
  clear hb hx2 B0 K0 H0 R0 HZ
  by_cases hneg : x < 0
  · go_wp2
    go_ret
    exact ⟨rfl, B1.out⟩
  have HM := hid (HX.out (by omega))
  clear HX
  go_wp2_with fail
  refine (szReplyS_at _ ar nr cr rs x _ R1.out HZR.out (by omega) (by omega)).mono ?_
  rintro e w2 ⟨⟨y, rfl, hy, hy1, hy2⟩, hb⟩
  have B2 := hid (B1.out.trans (hb.mono B1.out.size))
  have K2 := hid (K1.out.below hb)
  have H2 := hid (H1.out.below' hb)
  have R2 := hid (R1.out.below hb)
  have HX := hid hy2
  clear hb hy2 B1 K1 H1 R1 HZR
  by_cases hneg2 : y < 0
  · go_wp2
    go_ret
    exact ⟨rfl, B2.out⟩
  have HM2 := hid (HX.out (by omega))
  have hsum : n + nr ≤ 1048576 := by have h1 := HM.out; have h2 := HM2.out.1; omega
  have HSU := hid hsum
  have HPL := hid HM2.out.2
  have hnm : n ≤ 1048576 := by omega
  have hnrm : nr ≤ 1048576 := by omega
  clear HX HM HM2 hsum
  obtain ⟨D, hD⟩ : ∃ D, (rxV (tc, te, tn) l rs).1 = D := ⟨_, rfl⟩
  obtain ⟨ok, hok⟩ : ∃ ok, (rxV (tc, te, tn) l rs).2 = ok := ⟨_, rfl⟩
  have HDL : Hid (D.length ≤ 1048576) := by
    show _ ≤ _
    have h1 := rxV_len (tc, te, tn) l rs
    rw [hD] at h1
    have h2 := HN.out
    have h3 := HNR.out
    have h4 := HSU.out
    omega
  have Cspec := hid (fun (u : World) b1 b2 (hP : Pr u (fun _ => True) (.slice b1 n n) l) (hY : Yr u (fun _ => True) (.slice b2 nr nr) rs) => by
    have h9 := specRunTx_any (fun _ => True) (fun _ => True) b1 n n l b2 nr nr rs tc te tn u hP hY HSU.out
    rw [hD, hok] at h9
    exact h9)
  have Cimpl := hid (fun (u : World) b1 b2 (hP : Pr u (fun _ => True) (.slice b1 n n) l) (hY : Yr u (fun _ => True) (.slice b2 nr nr) rs) => by
    have h9 := implRunTx_any (fun _ => True) (fun _ => True) b1 n n l b2 nr nr rs tc te tn u hP hY HSU.out
    rw [hD, hok] at h9
    exact h9)
  clear hD hok HSU
  have hoo : (ok != ok) = false := by simp
  have CT := hid (fun v => toTx_any tc te tn v)
  have CX := hid (fun (u : World) (b : Nat) (hK : Bk u b 34 (pcs l)) => hK.pr HN.out (by omega) (fun _ => True) trivial)
  have CY := hid (fun (u : World) (g : Nat) (V : List RV) hV hB hY => yi_yrx (w := u) (g := g) (V := V) hV hB hY HNR.out hnrm HPL.out)
  have CP := hid (fun u (hb : Below w2.heap.size w2 u) => toPairS_at _ a n c l u (H2.out.below' hb) hnm)
  have CR := hid (fun u (hb : Below w2.heap.size w2 u) => toReplyS_at _ ar nr cr rs u (R2.out.below hb) hnrm HPL.out)
  have k0 := K2.out.cell (j := 0) rfl
  have k1 := K2.out.cell (j := 1) rfl
  have k2 := K2.out.cell (j := 2) rfl
  have T2 := hid (kl3_0 k0 k1 k2)
  go_wp2_with fail
  go_region_held3 (fun v => v.cell? ⟨w.heap.size, 0, none⟩ = some (.int .i64 tc) ∧ v.cell? ⟨w.heap.size, 1, none⟩ = some (.int .i64 te) ∧ v.cell? ⟨w.heap.size, 2, none⟩ = some (.int .i64 tn) ∧ KL w2 v [(⟨w.heap.size, 0, none⟩, .int .i64 tc), (⟨w.heap.size, 1, none⟩, .int .i64 te), (⟨w.heap.size, 2, none⟩, .int .i64 tn)])
    (first | assumption | exact kl3 (T2.out.call (below_drew _)) | exact kl3c hbC (by assumption))
    (first
      | (go_at_call 14; have hz := kl3_bel (by assumption); refine (CP.out _ hz).mono ?_; rintro e wa ⟨rfl, hKa, hbC⟩; have hza := hz.trans (hbC.mono hz.size))
      | (go_at_call 15; refine (CR.out _ hza).mono ?_; rintro e wb ⟨rfl, ⟨Vb, hVb, hBb, hYb⟩, hbC⟩; have hKb := hKa.below hbC; have hYrb := CY.out _ _ _ hVb hBb hYb)
      | (go_at_call 16; refine (CT.out _).mono ?_; rintro e wc ⟨rfl, hbC⟩; have hKc := hKb.below hbC; have hYrc := hYrb.below hbC)
      | (go_at_call 13; refine (Cspec.out _ _ _ (CX.out _ _ hKc) hYrc).mono ?_; rintro e w3 ⟨a0, n0, c0, rfl, hO, hbC⟩))
  rename_i hS
  have hb := kl3_bel hS
  have B3 := hid (B2.out.trans (hb.mono B2.out.size))
  have K3 := hid (K2.out.below hb)
  have P3 : Hid (Pr w3 (fun y => y < w3.heap.size) (.slice a0 n0 c0) D) := hO.pr (fun _ _ _ hk => hk)
  have CP3 := hid (fun u (hb3 : Below w3.heap.size w3 u) => CP.out u (hb.trans (hb3.mono hb.size)))
  have CR3 := hid (fun u (hb3 : Below w3.heap.size w3 u) => CR.out u (hb.trans (hb3.mono hb.size)))
  clear CP CR
  have CP := CP3
  have CR := CR3
  clear CP3 CR3 Cspec hS hb hz hza hKa hVb hBb hYb hKb hYrb hKc hYrc hbC hO T2 H2 R2 K2 B2 k0 k1 k2
  go_wp2_with fail
  refine (CP.out _ (Below.refl _ _)).mono ?_
  rintro e w4 ⟨rfl, hK, hb⟩
  have B4 := hid (B3.out.trans (hb.mono B3.out.size))
  have K4 := hid (K3.out.below hb)
  have P4 := hid (P3.out.below' hb)
  have X4 := hid hK
  have SX4 := hid hK.lt
  have HB4 := hid hb
  have S13 := hid K3.out.lt
  clear hK hb B3 K3 P3
  go_wp2_with fail
  refine (CR.out _ HB4.out).mono ?_
  rintro e w5 ⟨rfl, ⟨V5, hV5, hBY, hYI⟩, hb⟩
  have HV5 := hid hV5
  have B5 := hid (B4.out.trans (hb.mono B4.out.size))
  have K5 := hid (K4.out.below hb)
  have P5 := hid (P4.out.below' hb)
  have X5 := hid (X4.out.below hb)
  have HB5 := hid (HB4.out.trans (hb.mono HB4.out.size))
  have Y5 := hid hBY
  have I5 := hid hYI
  have SY5 := hid hBY.lt
  have HVN : Hid (nr = V5.length) := by show _ = _; rw [HNR.out, ← hV5, List.length_map]
  have HYN : Hid (∀ i, i < nr → ∀ y, (rvAt V5 i).2.ownBlock = some y → y < w5.heap.size) := fun i hi y hy => by
    obtain ⟨y', e1, e2, e3⟩ := hYI.row i (by rw [← HVN.out]; exact hi)
    rw [e1] at hy
    cases hy
    exact e3.lt
  have HYP : Hid (∀ i, i < nr → (rvAt V5 i).1.ps.length ≤ 1048576) := fun i hi => HPL.out _ (by rw [← hV5]; exact List.mem_map_of_mem (by rw [HVN.out] at hi; simp [rvAt, hi]))
  clear hb B4 K4 P4 X4 HB4 hV5 hBY hYI HPL
  have k0 := K5.out.cell (j := 0) rfl
  have k1 := K5.out.cell (j := 1) rfl
  have k2 := K5.out.cell (j := 2) rfl
  go_wp2_with fail
  refine (CT.out _).mono ?_
  rintro e w6 ⟨rfl, hb⟩
  have S56 := hid hb.size
  have B6 := hid (B5.out.trans (hb.mono B5.out.size))
  have HB6 := hid (HB5.out.trans (hb.mono HB5.out.size))
  have K6 := hid (K5.out.below hb)
  have P6 := hid (P5.out.below' hb)
  have X6 := hid (X5.out.below hb)
  have Y6 := hid (Y5.out.below hb)
  have I6 := hid (I5.out.below hb)
  clear hb B5 HB5 K5 P5 X5 Y5 I5
  clear k0 k1 k2
  go_wp2_with fail
  refine (Cimpl.out _ _ _ (CX.out _ _ X6.out) (CY.out _ _ _ HV5.out Y6.out I6.out)).mono ?_
  rintro e w7 ⟨ag, ng, cg, rfl, hOg, hb⟩
  have G7 := hid hOg
  clear hOg
  have B7 := hid (B6.out.trans (hb.mono B6.out.size))
  have HB7 := hid (HB6.out.trans (hb.mono HB6.out.size))
  have K7 := hid (K6.out.below hb)
  have P7 := hid (P6.out.below' hb)
  have X7 := hid (X6.out.below hb)
  have Y7 := hid (Y6.out.below hb)
  have I7 := hid (I6.out.below hb)
  clear hb B6 HB6 K6 P6 X6 Y6 I6
  go_wp2_with fail
  refine (eqPairS_at (fun _ => True) _ ag a0 ng n0 cg c0 D D _ (G7.out.pr (fun _ _ _ _ => trivial)) P7.out).mono ?_
  rintro e w8 ⟨rfl, hb⟩
  rw [decide_eq_true rfl]
  have B8 := hid (B7.out.trans (hb.mono B7.out.size))
  have HB8 := hid (HB7.out.trans (hb.mono HB7.out.size))
  have K8 := hid (K7.out.below hb)
  have P8 := hid (P7.out.below' hb)
  have X8 := hid (X7.out.below hb)
  have Y8 := hid (Y7.out.below hb)
  have I8 := hid (I7.out.below hb)
  have G8 := hid (G7.out.kept hb)
  clear hb B7 HB7 K7 P7 X7 Y7 I7 G7
  go_wp2_with fail
  refine (CP.out _ HB8.out).mono ?_
  rintro e w9 ⟨rfl, hKy, hb⟩
  have B9 := hid (B8.out.trans (hb.mono B8.out.size))
  have HB9 := hid (HB8.out.trans (hb.mono HB8.out.size))
  have K9 := hid (K8.out.below hb)
  have P9 := hid (P8.out.below' hb)
  have X9 := hid (X8.out.below hb)
  have Y9 := hid (Y8.out.below hb)
  have I9 := hid (I8.out.below hb)
  have G9 := hid (G8.out.kept hb)
  clear hb B8 HB8 K8 P8 X8 Y8 I8 G8
  go_wp2_with fail
  refine (eqPairS_at (fun _ => True) _ _ _ n n n n l l _ (CX.out _ _ X9.out) (CX.out _ _ hKy)).mono ?_
  rintro e w10 ⟨rfl, hb⟩
  rw [decide_eq_true rfl]
  clear hKy
  have B10 := hid (B9.out.trans (hb.mono B9.out.size))
  have HB10 := hid (HB9.out.trans (hb.mono HB9.out.size))
  have K10 := hid (K9.out.below hb)
  have P10 := hid (P9.out.below' hb)
  have X10 := hid (X9.out.below hb)
  have Y10 := hid (Y9.out.below hb)
  have I10 := hid (I9.out.below hb)
  have G10 := hid (G9.out.kept hb)
  clear hb B9 HB9 K9 P9 X9 Y9 I9 G9
  go_wp2_with fail
  refine (CR.out _ HB10.out).mono ?_
  rintro e w11 ⟨rfl, ⟨Vz, hVz, hBz, hYz⟩, hb⟩
  have hYrz := CY.out _ _ _ hVz hBz hYz
  have B11 := hid (B10.out.trans (hb.mono B10.out.size))
  have HB11 := hid (HB10.out.trans (hb.mono HB10.out.size))
  have K11 := hid (K10.out.below hb)
  have P11 := hid (P10.out.below' hb)
  have X11 := hid (X10.out.below hb)
  have Y11 := hid (Y10.out.below hb)
  have I11 := hid (I10.out.below hb)
  have G11 := hid (G10.out.kept hb)
  clear hb B10 HB10 K10 P10 X10 Y10 I10 G10
  go_wp2_with fail
  refine (eqReplyS_same _ _ _ _ nr nr nr nr rs _ (CY.out _ _ _ HV5.out Y11.out I11.out) hYrz).mono ?_
  rintro e w12 ⟨rfl, hb⟩
  clear hYrz hVz hBz hYz
  have B12 := hid (B11.out.trans (hb.mono B11.out.size))
  have HB12 := hid (HB11.out.trans (hb.mono HB11.out.size))
  have K12 := hid (K11.out.below hb)
  have P12 := hid (P11.out.below' hb)
  have X12 := hid (X11.out.below hb)
  have Y12 := hid (Y11.out.below hb)
  have I12 := hid (I11.out.below hb)
  have G12 := hid (G11.out.kept hb)
  clear hb B11 HB11 K11 P11 X11 Y11 I11 G11
  have KK : Hid (Kw w12 (fun y => y = w3.heap.size) (.slice (some ⟨w3.heap.size, 0, none⟩) n n) n (n * 2) isStr) := by
    have h1 := X12.out.pr HN.out (by omega) (fun y => y = w3.heap.size) rfl
    have h2 := kw_of (S' := fun y => y = w3.heap.size) (K := isStr) h1 (fun u hu => pcs_strS _ u hu) (fun b hb _ => ⟨hb, by subst hb; exact ⟨_, _, X12.out⟩⟩)
    rw [pcs_length, ← HN.out] at h2
    exact h2
  go_wp2_with fail
  refine (markPairS_any _ _ n n 1 _ KK.out hnm (by omega) (by omega)).mono ?_
  rintro e w13 ⟨rfl, hm'⟩
  have hm := hm'.1.only
  have B13 : Hid (Below w.heap.size w w13) := B12.out.trans (hm.below B12.out.size (fun y h1 h2 => by have := S13.out; omega))
  have K13 : Hid (Bk w13 w.heap.size 40 [.int .i64 tc, .int .i64 te, .int .i64 tn]) := K12.out.to hm (fun h2 => by have := S13.out; omega)
  have P13 : Hid (Pr w13 (fun y => y < w3.heap.size) (.slice a0 n0 c0) D) := P12.out.to hm (fun y h1 _ h2 => by omega)
  have HB13 : Hid (Below w3.heap.size w3 w13) := HB12.out.trans (hm.below HB12.out.size (fun y h1 h2 => by omega))
  have G13 : Hid (Ow w13 w6.heap.size (.slice ag ng cg) D) := G12.out.to hm (fun y hy h2 => by have := (World.ownsRow.lt G12.out y hy).1; have := SX4.out; have := SY5.out; have := S56.out; omega)
  have Y13 : Hid (Bk w13 w4.heap.size 87 (rycs V5)) := Y12.out.to hm (fun e => by have := SX4.out; omega)
  have I13 : Hid (YI w13 w4.heap.size V5) := I12.out.to hm (fun y hy e => by have := SX4.out; omega)
  clear hm hm' KK B12 K12 P12 HB12 G12 X12 Y12 I12
  have hk13 : ((1 + n * 2 : Nat) : Int) = ((1 + n * 2 : Nat) : Int) := rfl
  clear hk13
  have hkn : 1 + n * 2 ≤ 1000000000 := by omega
  have hkn0 : 0 < 1 + n * 2 := by omega
  generalize 1 + n * 2 = kq at *
  go_wp2_with fail
  refine (markReplyS_any _ _ w5.heap.size nr kq V5 Y13.out I13.out HVN.out hnrm HYN.out SY5.out HYP.out hkn0 hkn).mono ?_
  rintro e w14 ⟨⟨q, rfl, hq0, hq1⟩, hm⟩
  have B14 : Hid (Below w.heap.size w w14) := B13.out.trans (hm.below B13.out.size (fun y h1 h2 => by have := S13.out; have := SX4.out; omega))
  have K14 : Hid (Bk w14 w.heap.size 40 [.int .i64 tc, .int .i64 te, .int .i64 tn]) := K13.out.to hm (fun h2 => by have := S13.out; have := SX4.out; omega)
  have P14 : Hid (Pr w14 (fun y => y < w3.heap.size) (.slice a0 n0 c0) D) := P13.out.to hm (fun y h1 _ h2 => by have := SX4.out; omega)
  have HB14 : Hid (Below w3.heap.size w3 w14) := HB13.out.trans (hm.below HB13.out.size (fun y h1 h2 => by have := SX4.out; omega))
  have G14 : Hid (Ow w14 w6.heap.size (.slice ag ng cg) D) := G13.out.to hm (fun y hy h2 => by have := (World.ownsRow.lt G13.out y hy).1; have := S56.out; omega)
  clear hm B13 K13 P13 HB13 G13 Y13 I13 HYN HYP HVN
  have hk14 : ¬ ((q : Nat) : Int) < 0 := by omega
  go_wp2_with fail
  refine (eqPairS_at (fun _ => True) _ ag a0 ng n0 cg c0 D D _ (G14.out.pr (fun _ _ _ _ => trivial)) P14.out).mono ?_
  rintro e w15 ⟨rfl, hb⟩
  rw [decide_eq_true rfl]
  have B15 := hid (B14.out.trans (hb.mono B14.out.size))
  have HB15 := hid (HB14.out.trans (hb.mono HB14.out.size))
  have K15 := hid (K14.out.below hb)
  have P15 := hid (P14.out.below' hb)
  have G15 := hid (G14.out.kept hb)
  clear hb B14 HB14 K14 P14 G14
  have HG15 := Rw.len (G15.out.pr (S := fun _ => True) (fun _ _ _ _ => trivial))
  have hng : ng ≤ 1048576 := by have := HDL.out; omega
  have hcg : ng ≤ cg := HG15.2.1
  have HNG := hid HG15.1
  clear HG15
  have KW : Hid (Kw w15 (fun y => (Value.slice ag ng cg).ownBlock = some y) (.slice ag ng cg) ng (ng * 2) isStr) := by have := ow_kwb G15.out; rw [← HNG.out] at this; exact this
  go_wp2_with fail
  refine (markPairS_big _ ag ng cg 1 _ KW.out (by omega) (by omega) (by omega)).mono ?_
  rintro e w16 ⟨rfl, hm'⟩
  have LG16 := hid hm'.lies
  have hm := hm'.1.only
  have HGO := hid (fun y hy => World.ownsRow.lt G15.out y hy)
  have B16 : Hid (Below w.heap.size w w16) := B15.out.trans (hm.below B15.out.size (fun y h1 h2 => by have := (HGO.out _ h2).1; have := S13.out; have := SX4.out; have := SY5.out; have := S56.out; omega))
  have K16 : Hid (Bk w16 w.heap.size 40 [.int .i64 tc, .int .i64 te, .int .i64 tn]) := K15.out.to hm (fun h2 => by have := (HGO.out _ h2).1; have := S13.out; have := SX4.out; have := SY5.out; have := S56.out; omega)
  have P16 : Hid (Pr w16 (fun y => y < w3.heap.size) (.slice a0 n0 c0) D) := P15.out.to hm (fun y h1 _ h2 => by have := (HGO.out _ h2).1; have := S13.out; have := SX4.out; have := SY5.out; have := S56.out; omega)
  have HB16 : Hid (Below w3.heap.size w3 w16) := HB15.out.trans (hm.below HB15.out.size (fun y h1 h2 => by have := (HGO.out _ h2).1; have := S13.out; have := SX4.out; have := SY5.out; have := S56.out; omega))
  clear hm hm' B15 K15 P15 HB15 G15 KW HGO
  have hk16 : ¬ ((1 + ng * 2 : Nat) : Int) < 0 := by omega
  have hqq : (((1 + ng * 2 : Nat) : Int) != ((1 + ng * 2 : Nat) : Int)) = false := by simp
  have HT1 := hid (fun v (h : Lies v ag ng (ng * 2) (mV 1)) => heldPairS_big ag ng cg 1 v h hcg (by omega) (by omega) (by omega))
  generalize 1 + ng * 2 = q1 at *
  go_wp2_with fail
  refine (HT1.out _ LG16.out).mono ?_
  rintro e w17 ⟨rfl, hb⟩
  have B17 := hid (B16.out.trans (hb.mono B16.out.size))
  have HB17 := hid (HB16.out.trans (hb.mono HB16.out.size))
  have K17 := hid (K16.out.below hb)
  have P17 := hid (P16.out.below' hb)
  have LG17 := hid (LG16.out.below hb)
  clear hb B16 HB16 K16 P16 LG16
  have k0 := K17.out.cell (j := 0) rfl
  have k1 := K17.out.cell (j := 1) rfl
  have k2 := K17.out.cell (j := 2) rfl
  have T17 := hid (kl3_0 k0 k1 k2)
  go_wp2_with fail
  go_region_held3 (fun v => v.cell? ⟨w.heap.size, 0, none⟩ = some (.int .i64 tc) ∧ v.cell? ⟨w.heap.size, 1, none⟩ = some (.int .i64 te) ∧ v.cell? ⟨w.heap.size, 2, none⟩ = some (.int .i64 tn) ∧ KL w17 v [(⟨w.heap.size, 0, none⟩, .int .i64 tc), (⟨w.heap.size, 1, none⟩, .int .i64 te), (⟨w.heap.size, 2, none⟩, .int .i64 tn)])
    (first | assumption | exact kl3 (T17.out.call (below_drew _)) | exact kl3c hbC (by assumption))
    (first
      | (go_at_call 14; have hz := kl3_bel (by assumption); refine (CP.out _ (HB17.out.trans (hz.mono HB17.out.size))).mono ?_; rintro e wa ⟨rfl, hKa, hbC⟩; have hza := hz.trans (hbC.mono hz.size))
      | (go_at_call 15; refine (CR.out _ (HB17.out.trans (hza.mono HB17.out.size))).mono ?_; rintro e wb ⟨rfl, ⟨Vb, hVb, hBb, hYb⟩, hbC⟩; have hKb := hKa.below hbC; have hYrb := CY.out _ _ _ hVb hBb hYb)
      | (go_at_call 16; refine (CT.out _).mono ?_; rintro e wc ⟨rfl, hbC⟩; have hKc := hKb.below hbC; have hYrc := hYrb.below hbC)
      | (go_at_call 17; refine (Cimpl.out _ _ _ (CX.out _ _ hKc) hYrc).mono ?_; rintro e w18 ⟨a2, n2, c2, rfl, hO, hbC⟩))
  rename_i hS
  have hb := kl3_bel hS
  have B18 := hid (B17.out.trans (hb.mono B17.out.size))
  have P18 := hid (P17.out.below' hb)
  have LG18 := hid (LG17.out.below hb)
  have G18 := hid hO
  clear T17 B17 K17 P17 LG17 HB17 CP CR hS hb hz hza hKa hVb hBb hYb hKb hYrb hKc hYrc hbC hO k0 k1 k2
  go_wp2_with fail
  refine (eqPairS_at (fun _ => True) _ a2 a0 n2 n0 c2 c0 D D _ (G18.out.pr (fun _ _ _ _ => trivial)) P18.out).mono ?_
  rintro e w19 ⟨rfl, hb⟩
  rw [decide_eq_true rfl]
  have B19 := hid (B18.out.trans (hb.mono B18.out.size))
  have LG19 := hid (LG18.out.below hb)
  clear hb B18 LG18
  go_wp2_with fail
  refine (HT1.out _ LG19.out).mono ?_
  rintro e w20 ⟨rfl, hb⟩
  have B20 := hid (B19.out.trans (hb.mono B19.out.size))
  clear hb B19
  go_wp2
  go_ret
  exact ⟨rfl, B20.out⟩
end Go.Proofs.Ytjbamfgfgbmieaa
