/-
  The law FnExactSerial answers true at all logs and orders.
-/
import Derived.Test.YtjbamfgfgbmieaaMw3
import Derived.Test.YtjbamfgfgbmieaaMw4
import Derived.Test.YtjbamfgfgbmieaaMw2
namespace Go.Proofs.Ytjbamfgfgbmieaa
open Go.RowKit
set_option linter.unusedVariables false
theorem yi_yrs {w : World} {g n : Nat} {V : List RV} {rs : List RY} (hV : V.map (·.1) = rs) (hB : Bk w g 87 (rycs V)) (hY : YI w g V) (hn : n = rs.length) (hnm : n ≤ 1048576) (hp : ∀ r ∈ rs, r.ps.length ≤ 1048576) : Yr w (fun _ => True) (.slice (some ⟨g, 0, none⟩) n n) rs := by
  have h1 : n = V.length := by rw [hn, ← hV, List.length_map]
  have h2 := hY.yr hB h1 (by omega) (fun p hm => hp _ (by rw [← hV]; exact List.mem_map_of_mem hm)) (fun _ => True) (fun _ _ => trivial)
  rw [hV] at h2
  exact h2
set_option maxHeartbeats 16000000 in
set_option maxRecDepth 20000 in
theorem lawSerial_walk (a : Option Addr) (n c : Nat) (rs : List RY) (b : Option Addr) (m d : Nat) (ts : List TQ) (w : World) (h : Yr w (fun _ => True) (.slice a n c) rs ∧ rySz rs) (h' : tqR w (fun _ => True) (.slice b m d) ts) :
    Calls Try.prog 5 #[.slice a n c, .slice b m d] w fun e w' => e = .returned (.bool true) ∧ Below w.heap.size w w' := by
  have R0 := hid h.1
  have Q0 := hid h'
  have HZR := hid h.2
  have HNR := hid h.1.len.1
  have HNQ := hid h'.len.1
  have hmd := h'.len.2.1
  have hdd := h'.len.2.2
  clear h h'
  go_enter Try.func5, Try.ntmps5
  go_wp2_with fail
  refine (szReplyS_at _ a n c rs 1048576 _ R0.out HZR.out (by omega) (by omega)).mono ?_
  rintro e w1 ⟨⟨x, rfl, hx, hx1, hx2⟩, hb⟩
  have B1 := hid hb
  have R1 := hid (R0.out.below hb)
  have Q1 := hid (Q0.out.below hb)
  have HX := hid hx2
  clear hb hx2 R0 Q0 HZR
  by_cases hneg : x < 0
  · go_wp2
    go_ret
    exact ⟨rfl, B1.out⟩
  have HM := hid (HX.out (by omega))
  have hnm : n ≤ 1048576 := by have := HM.out.1; omega
  have HPL := hid HM.out.2
  clear HX HM
  go_wp2_with fail
  refine (szTxS_at b m d x _ hmd hdd (by omega) (by omega)).mono ?_
  rintro e w2 ⟨⟨y, rfl, hy, hy1, hy2⟩, hb⟩
  have HX := hid hy2
  clear hy2
  have B2 := hid (B1.out.trans (hb.mono B1.out.size))
  have R2 := hid (R1.out.below hb)
  have Q2 := hid (Q1.out.below hb)
  clear hb B1 R1 Q1
  by_cases hneg2 : y < 0
  · go_wp2
    go_ret
    exact ⟨rfl, B2.out⟩
  have hmm : m ≤ 1048576 := by have := HX.out (by omega); omega
  clear HX
  obtain ⟨D, hD⟩ : ∃ D, (seF rs ts []).1 = D := ⟨_, rfl⟩
  obtain ⟨ok, hok⟩ : ∃ ok, (seF rs ts []).2 = ok := ⟨_, rfl⟩
  have HDL : Hid (D.length ≤ 1048576) := by
    show _ ≤ _
    have h1 := seF_len rs ts
    rw [hD] at h1
    have h3 := HNR.out
    omega
  have Cspec := hid (fun (u : World) b1 b2 (hY : Yr u (fun _ => True) (.slice b1 n n) rs) (hQ : tqR u (fun _ => True) (.slice b2 m m) ts) => by
    have h9 := specSerial_any (fun _ => True) (fun _ => True) b1 n n rs b2 m m ts u hY hQ hnm
    rw [hD, hok] at h9
    exact h9)
  have Cimpl := hid (fun (u : World) b1 b2 (hY : Yr u (fun _ => True) (.slice b1 n n) rs) (hQ : tqR u (fun _ => True) (.slice b2 m m) ts) => by
    have h9 := implSerial_any (fun _ => True) (fun _ => True) b1 n n rs b2 m m ts u hY hQ hnm
    rw [hD, hok] at h9
    exact h9)
  clear hD hok
  have hoo : (ok != ok) = false := by simp
  have CQ := hid (fun (u : World) (b : Nat) (hK : Bk u b 48 (tqcs ts)) => hK.tqr HNQ.out (by omega) (fun _ => True) trivial)
  have CY := hid (fun (u : World) (g : Nat) (V : List RV) hV hB hY => yi_yrs (w := u) (g := g) (V := V) hV hB hY HNR.out hnm HPL.out)
  have CT := hid (fun u (hb : Below w2.heap.size w2 u) => toTxS_at _ b m d ts u (Q2.out.below hb) hmm)
  have CR := hid (fun u (hb : Below w2.heap.size w2 u) => toReplyS_at _ a n c rs u (R2.out.below hb) hnm HPL.out)
  clear R2 Q2
  have A2 := hid (Below.refl w2.heap.size w2)
  go_wp2_with fail
  refine (CR.out _ A2.out).mono ?_
  rintro e w3 ⟨rfl, ⟨V3, hVV3, hBY, hYI⟩, hb⟩
  have HVV3 := hid hVV3
  have Y3 := hid hBY
  have I3 := hid hYI
  clear hVV3 hBY hYI
  have B3 := hid (B2.out.trans (hb.mono B2.out.size))
  have A3 := hid (A2.out.trans (hb.mono A2.out.size))
  clear hb B2 A2
  go_wp2_with fail
  refine (CT.out _ A3.out).mono ?_
  rintro e w4 ⟨rfl, hK, hb⟩
  have X4 := hid hK
  clear hK
  have B4 := hid (B3.out.trans (hb.mono B3.out.size))
  have A4 := hid (A3.out.trans (hb.mono A3.out.size))
  have Y4 := hid (Y3.out.below hb)
  have I4 := hid (I3.out.below hb)
  clear hb B3 A3 Y3 I3
  go_wp2_with fail
  refine (Cspec.out _ _ _ (CY.out _ _ _ HVV3.out Y4.out I4.out) (CQ.out _ _ X4.out)).mono ?_
  rintro e w5 ⟨a0, n0, c0, rfl, hO, hb⟩
  have P5 : Hid (Pr w5 (fun y => y < w5.heap.size) (.slice a0 n0 c0) D) := hO.pr (fun _ _ _ hk => hk)
  clear hO Y4 I4 X4 HVV3 Cspec
  have B5 := hid (B4.out.trans (hb.mono B4.out.size))
  have A5 := hid (A4.out.trans (hb.mono A4.out.size))
  clear hb B4 A4
  have HB5 := hid (Below.refl w5.heap.size w5)
  have S05 := hid B5.out.size
  have S25 := hid A5.out.size
  go_wp2_with fail
  refine (CR.out _ A5.out).mono ?_
  rintro e w6 ⟨rfl, ⟨V6, hVV6, hBY, hYI⟩, hb⟩
  have HVV6 := hid hVV6
  have Y6 := hid hBY
  have I6 := hid hYI
  have SY := hid hBY.lt
  have HVN : Hid (n = V6.length) := by show _ = _; rw [HNR.out, ← hVV6, List.length_map]
  have HYN : Hid (∀ i, i < n → ∀ y, (rvAt V6 i).2.ownBlock = some y → y < w6.heap.size) := fun i hi y hy => by
    obtain ⟨y', e1, e2, e3⟩ := hYI.row i (by rw [← HVN.out]; exact hi)
    rw [e1] at hy
    cases hy
    exact e3.lt
  have HYP : Hid (∀ i, i < n → (rvAt V6 i).1.ps.length ≤ 1048576) := fun i hi => HPL.out _ (by rw [← hVV6]; exact List.mem_map_of_mem (by rw [HVN.out] at hi; simp [rvAt, hi]))
  clear hVV6 hBY hYI
  have B6 := hid (B5.out.trans (hb.mono B5.out.size))
  have A6 := hid (A5.out.trans (hb.mono A5.out.size))
  have HB6 := hid (HB5.out.trans (hb.mono HB5.out.size))
  have P6 := hid (P5.out.below' hb)
  clear hb B5 A5 HB5 P5
  go_wp2_with fail
  refine (CT.out _ A6.out).mono ?_
  rintro e w7 ⟨rfl, hK, hb⟩
  have X7 := hid hK
  have SX := hid hK.lt
  have S56 := hid HB6.out.size
  clear hK
  have B7 := hid (B6.out.trans (hb.mono B6.out.size))
  have A7 := hid (A6.out.trans (hb.mono A6.out.size))
  have HB7 := hid (HB6.out.trans (hb.mono HB6.out.size))
  have P7 := hid (P6.out.below' hb)
  have Y7 := hid (Y6.out.below hb)
  have I7 := hid (I6.out.below hb)
  clear hb B6 A6 HB6 P6 Y6 I6
  go_wp2_with fail
  refine (Cimpl.out _ _ _ (CY.out _ _ _ HVV6.out Y7.out I7.out) (CQ.out _ _ X7.out)).mono ?_
  rintro e w8 ⟨ag, ng, cg, rfl, hOg, hb⟩
  have G8 := hid hOg
  clear hOg
  have B8 := hid (B7.out.trans (hb.mono B7.out.size))
  have A8 := hid (A7.out.trans (hb.mono A7.out.size))
  have HB8 := hid (HB7.out.trans (hb.mono HB7.out.size))
  have P8 := hid (P7.out.below' hb)
  have Y8 := hid (Y7.out.below hb)
  have I8 := hid (I7.out.below hb)
  have X8 := hid (X7.out.below hb)
  clear hb B7 A7 HB7 P7 Y7 I7 X7
  go_wp2_with fail
  refine (eqPairS_at (fun _ => True) _ ag a0 ng n0 cg c0 D D _ (G8.out.pr (fun _ _ _ _ => trivial)) P8.out).mono ?_
  rintro e w9 ⟨rfl, hb⟩
  rw [decide_eq_true rfl]
  have B9 := hid (B8.out.trans (hb.mono B8.out.size))
  have A9 := hid (A8.out.trans (hb.mono A8.out.size))
  have HB9 := hid (HB8.out.trans (hb.mono HB8.out.size))
  have P9 := hid (P8.out.below' hb)
  have Y9 := hid (Y8.out.below hb)
  have I9 := hid (I8.out.below hb)
  have X9 := hid (X8.out.below hb)
  have G9 := hid (G8.out.kept hb)
  clear hb B8 A8 HB8 P8 Y8 I8 X8 G8
  go_wp2_with fail
  refine (CR.out _ A9.out).mono ?_
  rintro e w10 ⟨rfl, ⟨Vz, hVz, hBz, hYz⟩, hb⟩
  have hYrz := CY.out _ _ _ hVz hBz hYz
  have B10 := hid (B9.out.trans (hb.mono B9.out.size))
  have A10 := hid (A9.out.trans (hb.mono A9.out.size))
  have HB10 := hid (HB9.out.trans (hb.mono HB9.out.size))
  have P10 := hid (P9.out.below' hb)
  have Y10 := hid (Y9.out.below hb)
  have I10 := hid (I9.out.below hb)
  have X10 := hid (X9.out.below hb)
  have G10 := hid (G9.out.kept hb)
  clear hb B9 A9 HB9 P9 Y9 I9 X9 G9
  go_wp2_with fail
  refine (eqReplyS_same _ _ _ _ n n n n rs _ (CY.out _ _ _ HVV6.out Y10.out I10.out) hYrz).mono ?_
  rintro e w11 ⟨rfl, hb⟩
  clear hYrz hVz hBz hYz
  have B11 := hid (B10.out.trans (hb.mono B10.out.size))
  have A11 := hid (A10.out.trans (hb.mono A10.out.size))
  have HB11 := hid (HB10.out.trans (hb.mono HB10.out.size))
  have P11 := hid (P10.out.below' hb)
  have Y11 := hid (Y10.out.below hb)
  have I11 := hid (I10.out.below hb)
  have X11 := hid (X10.out.below hb)
  have G11 := hid (G10.out.kept hb)
  clear hb B10 A10 HB10 P10 Y10 I10 X10 G10
  go_wp2_with fail
  refine (CT.out _ A11.out).mono ?_
  rintro e w12 ⟨rfl, hK, hb⟩
  have hKz := CQ.out _ _ hK
  have B12 := hid (B11.out.trans (hb.mono B11.out.size))
  have A12 := hid (A11.out.trans (hb.mono A11.out.size))
  have HB12 := hid (HB11.out.trans (hb.mono HB11.out.size))
  have P12 := hid (P11.out.below' hb)
  have Y12 := hid (Y11.out.below hb)
  have I12 := hid (I11.out.below hb)
  have X12 := hid (X11.out.below hb)
  have G12 := hid (G11.out.kept hb)
  clear hb B11 A11 HB11 P11 Y11 I11 X11 G11
  go_wp2_with fail
  refine (eqTxS_same _ _ _ _ m m m m ts _ (CQ.out _ _ X12.out) hKz).mono ?_
  rintro e w13 ⟨rfl, hb⟩
  clear hKz hK
  have B13 := hid (B12.out.trans (hb.mono B12.out.size))
  have A13 := hid (A12.out.trans (hb.mono A12.out.size))
  have HB13 := hid (HB12.out.trans (hb.mono HB12.out.size))
  have P13 := hid (P12.out.below' hb)
  have Y13 := hid (Y12.out.below hb)
  have I13 := hid (I12.out.below hb)
  have X13 := hid (X12.out.below hb)
  have G13 := hid (G12.out.kept hb)
  clear hb B12 A12 HB12 P12 Y12 I12 X12 G12
  go_wp2_with fail
  refine (markReplyS_any _ _ w6.heap.size n 1 V6 Y13.out I13.out HVN.out hnm HYN.out SY.out HYP.out (by omega) (by omega)).mono ?_
  rintro e w14 ⟨⟨q, rfl, hq0, hq1⟩, hm⟩
  have B14 : Hid (Below w.heap.size w w14) := B13.out.trans (hm.below B13.out.size (fun y h1 h2 => by have := S05.out; have := S25.out; omega))
  have P14 : Hid (Pr w14 (fun y => y < w5.heap.size) (.slice a0 n0 c0) D) := P13.out.to hm (fun y h1 _ h2 => by have := S05.out; have := S25.out; omega)
  have HB14 : Hid (Below w5.heap.size w5 w14) := HB13.out.trans (hm.below HB13.out.size (fun y h1 h2 => by have := S05.out; have := S25.out; omega))
  have A14 : Hid (Below w2.heap.size w2 w14) := A13.out.trans (hm.below A13.out.size (fun y h1 h2 => by have := S05.out; have := S25.out; omega))
  have G14 : Hid (Ow w14 w7.heap.size (.slice ag ng cg) D) := G13.out.to hm (fun y hy h2 => by have := (World.ownsRow.lt G13.out y hy).1; have := SX.out; omega)
  have X14 : Hid (Bk w14 w6.heap.size 48 (tqcs ts)) := X13.out.to hm (fun e => by omega)
  clear hm B13 P13 HB13 A13 G13 Y13 I13 X13 HYN HYP HVN
  go_wp2_with fail
  refine (markTxS_any _ _ m (q : Int) ts X14.out HNQ.out hmm (by omega) (by omega)).mono ?_
  rintro e w15 ⟨⟨q2, rfl, hq2⟩, hm⟩
  have B15 : Hid (Below w.heap.size w w15) := B14.out.trans (hm.below B14.out.size (fun y h1 h2 => by have := S05.out; have := S25.out; have := SY.out; omega))
  have P15 : Hid (Pr w15 (fun y => y < w5.heap.size) (.slice a0 n0 c0) D) := P14.out.to hm (fun y h1 _ h2 => by have := S05.out; have := S25.out; have := SY.out; omega)
  have HB15 : Hid (Below w5.heap.size w5 w15) := HB14.out.trans (hm.below HB14.out.size (fun y h1 h2 => by have := S05.out; have := S25.out; have := SY.out; omega))
  have A15 : Hid (Below w2.heap.size w2 w15) := A14.out.trans (hm.below A14.out.size (fun y h1 h2 => by have := S05.out; have := S25.out; have := SY.out; omega))
  have G15 : Hid (Ow w15 w7.heap.size (.slice ag ng cg) D) := G14.out.to hm (fun y hy h2 => by have := (World.ownsRow.lt G14.out y hy).1; have := SX.out; omega)
  clear hm B14 P14 HB14 A14 G14 X14
  have hk15 : ¬ q2 < 0 := by omega
  go_wp2_with fail
  refine (eqPairS_at (fun _ => True) _ ag a0 ng n0 cg c0 D D _ (G15.out.pr (fun _ _ _ _ => trivial)) P15.out).mono ?_
  rintro e w16 ⟨rfl, hb⟩
  rw [decide_eq_true rfl]
  have B16 := hid (B15.out.trans (hb.mono B15.out.size))
  have A16 := hid (A15.out.trans (hb.mono A15.out.size))
  have HB16 := hid (HB15.out.trans (hb.mono HB15.out.size))
  have P16 := hid (P15.out.below' hb)
  have G16 := hid (G15.out.kept hb)
  clear hb B15 A15 HB15 P15 G15
  have HG16 := Rw.len (G16.out.pr (S := fun _ => True) (fun _ _ _ _ => trivial))
  have hng : ng ≤ 1048576 := by have := HDL.out; omega
  have hcg : ng ≤ cg := HG16.2.1
  have HNG := hid HG16.1
  clear HG16
  have KW : Hid (Kw w16 (fun y => (Value.slice ag ng cg).ownBlock = some y) (.slice ag ng cg) ng (ng * 2) isStr) := by have := ow_kwb G16.out; rw [← HNG.out] at this; exact this
  go_wp2_with fail
  refine (markPairS_big _ ag ng cg 1 _ KW.out (by omega) (by omega) (by omega)).mono ?_
  rintro e w17 ⟨rfl, hm'⟩
  have LG17 := hid hm'.lies
  have hm := hm'.1.only
  have HGO := hid (fun y hy => World.ownsRow.lt G16.out y hy)
  have B17 : Hid (Below w.heap.size w w17) := B16.out.trans (hm.below B16.out.size (fun y h1 h2 => by have := (HGO.out _ h2).1; have := S05.out; have := S25.out; have := SX.out; have := SY.out; omega))
  have P17 : Hid (Pr w17 (fun y => y < w5.heap.size) (.slice a0 n0 c0) D) := P16.out.to hm (fun y h1 _ h2 => by have := (HGO.out _ h2).1; have := S05.out; have := S25.out; have := SX.out; have := SY.out; omega)
  have HB17 : Hid (Below w5.heap.size w5 w17) := HB16.out.trans (hm.below HB16.out.size (fun y h1 h2 => by have := (HGO.out _ h2).1; have := S05.out; have := S25.out; have := SX.out; have := SY.out; omega))
  have A17 : Hid (Below w2.heap.size w2 w17) := A16.out.trans (hm.below A16.out.size (fun y h1 h2 => by have := (HGO.out _ h2).1; have := S05.out; have := S25.out; have := SX.out; have := SY.out; omega))
  clear hm hm' B16 P16 HB16 A16 G16 KW HGO
  have hk17 : ¬ ((1 + ng * 2 : Nat) : Int) < 0 := by omega
  have hqq : (((1 + ng * 2 : Nat) : Int) != ((1 + ng * 2 : Nat) : Int)) = false := by simp
  have HT1 := hid (fun v (h : Lies v ag ng (ng * 2) (mV 1)) => heldPairS_big ag ng cg 1 v h hcg (by omega) (by omega) (by omega))
  generalize 1 + ng * 2 = q1 at *
  clear HB17
  go_wp2_with fail
  refine (HT1.out _ LG17.out).mono ?_
  rintro e w18 ⟨rfl, hb⟩
  have B18 := hid (B17.out.trans (hb.mono B17.out.size))
  have A18 := hid (A17.out.trans (hb.mono A17.out.size))
  have P18 := hid (P17.out.below' hb)
  have LG18 := hid (LG17.out.below hb)
  clear hb B17 A17 P17 LG17
  go_wp2_with fail
  refine (CR.out _ A18.out).mono ?_
  rintro e w19 ⟨rfl, ⟨V19, hVV19, hBY, hYI⟩, hb⟩
  have HVV19 := hid hVV19
  have Y19 := hid hBY
  have I19 := hid hYI
  clear hVV19 hBY hYI
  have B19 := hid (B18.out.trans (hb.mono B18.out.size))
  have A19 := hid (A18.out.trans (hb.mono A18.out.size))
  have P19 := hid (P18.out.below' hb)
  have LG19 := hid (LG18.out.below hb)
  clear hb B18 A18 P18 LG18
  go_wp2_with fail
  refine (CT.out _ A19.out).mono ?_
  rintro e w20 ⟨rfl, hK, hb⟩
  have X20 := hid hK
  clear hK
  have B20 := hid (B19.out.trans (hb.mono B19.out.size))
  have A20 := hid (A19.out.trans (hb.mono A19.out.size))
  have P20 := hid (P19.out.below' hb)
  have LG20 := hid (LG19.out.below hb)
  have Y20 := hid (Y19.out.below hb)
  have I20 := hid (I19.out.below hb)
  clear hb B19 A19 P19 LG19 Y19 I19
  go_wp2_with fail
  refine (Cimpl.out _ _ _ (CY.out _ _ _ HVV19.out Y20.out I20.out) (CQ.out _ _ X20.out)).mono ?_
  rintro e w21 ⟨a2, n2, c2, rfl, hO, hb⟩
  have G21 := hid hO
  clear hO Y20 I20 X20 HVV19
  have B21 := hid (B20.out.trans (hb.mono B20.out.size))
  have A21 := hid (A20.out.trans (hb.mono A20.out.size))
  have P21 := hid (P20.out.below' hb)
  have LG21 := hid (LG20.out.below hb)
  clear hb B20 A20 P20 LG20
  go_wp2_with fail
  refine (eqPairS_at (fun _ => True) _ a2 a0 n2 n0 c2 c0 D D _ (G21.out.pr (fun _ _ _ _ => trivial)) P21.out).mono ?_
  rintro e w22 ⟨rfl, hb⟩
  rw [decide_eq_true rfl]
  have B22 := hid (B21.out.trans (hb.mono B21.out.size))
  have LG22 := hid (LG21.out.below hb)
  clear hb B21 LG21
  go_wp2_with fail
  refine (HT1.out _ LG22.out).mono ?_
  rintro e w23 ⟨rfl, hb⟩
  have B23 := hid (B22.out.trans (hb.mono B22.out.size))
  clear hb B22
  go_wp2
  go_ret
  exact ⟨rfl, B23.out⟩
end Go.Proofs.Ytjbamfgfgbmieaa
