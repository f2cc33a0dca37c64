/-
  The law FnExactTreeScan answers true at every tree, range and number.
-/
import Derived.Test.YtbaggkfgnjenoaaScS
import Derived.Test.YtbaggkfgnjenoaaScI
import Derived.Test.YtbaggkfgnjenoaaNodeE
import Derived.Test.YtbaggkfgnjenoaaNodeN
import Derived.Test.YtbaggkfgnjenoaaLawTA
namespace Go.Proofs.Ytbaggkfgnjenoaa
open Go.RowKit
theorem kb3_nr {u v : World} {p0 p1 p2 : Addr} {x0 x1 x2 : Value} {S : Nat → Prop} {y : Value} {ns : List NB} (h : v.cell? p0 = some x0 ∧ v.cell? p1 = some x1 ∧ v.cell? p2 = some x2 ∧ KC u v [(p0, x0), (p1, x1), (p2, x2)]) (hN : Nr u S y ns) : Nr v S y ns := hN.below h.2.2.2.bel
theorem kb3_nr' {u v v' : World} {p0 p1 p2 : Addr} {x0 x1 x2 : Value} {S : Nat → Prop} {y : Value} {ns : List NB} (hb : Below v.heap.size v v') (h : v.cell? p0 = some x0 ∧ v.cell? p1 = some x1 ∧ v.cell? p2 = some x2 ∧ KC u v [(p0, x0), (p1, x1), (p2, x2)]) (hN : Nr u S y ns) : Nr v' S y ns := (kb3_nr h hN).below hb
theorem kb3_sz {u v v' : World} {p0 p1 p2 : Addr} {x0 x1 x2 : Value} (hb : Below v.heap.size v v') (h : v.cell? p0 = some x0 ∧ v.cell? p1 = some x1 ∧ v.cell? p2 = some x2 ∧ KC u v [(p0, x0), (p1, x1), (p2, x2)]) : u.heap.size ≤ v'.heap.size := Nat.le_trans h.2.2.2.bel.size hb.size
theorem scV_len (ns : List NB) (lo hi : ByteArray) (most : Int) (back : Bool) : (scV (alV ns) lo hi most back).length ≤ 200 := by
  have := scJ_le (alV ns) lo hi most back (alV ns).length
  rw [scJ_end] at this
  exact Nat.le_trans this (alV_len ns)
theorem wf_i64 {x : Int} (h : (Lit.int .i64 x).wf = true) : -9223372036854775808 ≤ x ∧ x ≤ 9223372036854775807 := by
  simp [Lit.wf] at h
  have h1 : IntKind.i64.min = -9223372036854775808 := by decide
  have h2 : IntKind.i64.max = 9223372036854775807 := by decide
  omega
theorem Rp.to {w w' : World} {base : Nat} {v : Value} {f : List PB} (h : Rp w base v f) {R : Nat → Prop} (ho : Only R w w') (hR : ∀ b, base ≤ b → ¬ R b) : Rp w' base v f := by
  obtain ⟨a, m, c, rfl, h1, h2, h3, h4, h5⟩ := h
  refine ⟨a, m, c, rfl, h1, h2, h3, h4, fun hp => ?_⟩
  obtain ⟨b, h6, h7, T, xs, h8, h9⟩ := h5 hp
  exact ⟨b, h6, h7, T, xs, h8.to ho (hR b h7), h9⟩
theorem Rp.kw {w : World} {base : Nat} {v : Value} {l : List PB} (h : Rp w base v l) : Kw w (fun b => base ≤ b) v l.length (l.length * 2) isStr := by
  have := kw_of (S' := fun b => base ≤ b) (K := isStr) h.pr (fun u hu => pcs_str _ u hu) (fun b hb _ => hb)
  rwa [pcs_length] at this
set_option maxHeartbeats 8000000 in
theorem lawTreeScan_walk (a : Option Addr) (n c : Nat) (ns : List NB) (lo hi : ByteArray) (most : Int) (back : Bool) (w : World) (h : Nr w (fun _ => True) (.slice a n c) ns ∧ szOkN ns) (hr : lo.size ≤ maxLen ∧ hi.size ≤ maxLen) (hmst : (Lit.int .i64 most).wf = true) :
    Calls Try.prog 8 #[.agg #[.slice a n c], .agg #[.string lo, .string hi], .int .i64 most, .bool back] w fun e w' => e = .returned (.bool true) ∧ Below w.heap.size w w' := by
  have HN := hid h.1.len.1
  have hbR := below_new (o := .cells #[.string lo, .string hi] 47) (w := w.alloc (.cells #[.slice a n c] 73)) (Below.refl _ _)
  have T0 := hid ((TB.start h.1).below hbR)
  have R0 : Hid (Bk ((w.alloc (.cells #[.slice a n c] 73)).alloc (.cells #[.string lo, .string hi] 47)) (w.heap.size + 1) 47 [.string lo, .string hi]) := by
    have := Bk.new (w.alloc (.cells #[.slice a n c] 73)) 47 [.string lo, .string hi]
    show Bk _ _ _ _
    simpa using this
  have HZ := hid h.2
  have hmm : -9223372036854775808 ≤ most ∧ most ≤ 9223372036854775807 := wf_i64 hmst
  unfold maxLen at hr
  have hr1 := hr.1
  have hr2 := hr.2
  clear h hbR hmst hr
  go_enter Try.func8, Try.ntmps8
  go_wp2_with fail
  refine (szTree_at _ a n c ns _ T0.out.hA HZ.out).mono ?_
  generalize (w.alloc (.cells #[.slice a n c] 73)).alloc (.cells #[.string lo, .string hi] 47) = U at *
  rintro e w1 ⟨⟨x, rfl, hx1, hx2, hx3⟩, hb⟩
  have T1 := hid (T0.out.below hb)
  have R1 := hid (R0.out.below hb)
  have HX := hid hx3
  clear hb hx3 T0 R0 HZ
  by_cases hneg : x < 0
  · go_wp2
    go_ret
    exact ⟨rfl, T1.out.bel⟩
  · have HM := hid (HX.out (by omega)).1
    have HS := hid (HX.out (by omega)).2
    have HL : Hid (ns.length ≤ 1048576) := by show _ ≤ _; rw [← HN.out]; exact HM.out
    have r0 := R1.out.cell (j := 0) rfl
    have r1 := R1.out.cell (j := 1) rfl
    have HSR := hid (fun v => szRange_any lo hi x v (by omega) hx1 hr1 hr2)
    simp only [rng] at HSR
    clear HX
    go_wp2_with fail
    refine (HSR.out _).mono ?_
    rintro e w0 ⟨⟨y, rfl, hy1, hy2⟩, hb⟩
    have T1' := hid (T1.out.below hb)
    have R1' := hid (R1.out.below hb)
    clear hb T1 R1 r0 r1 HSR
    by_cases hneg2 : y < 0
    · go_wp2
      go_ret
      exact ⟨rfl, T1'.out.bel⟩
    have hneg2' : ¬ y < 0 := hneg2
    have c1 := T1'.out.cell
    have r0 := R1'.out.cell (j := 0) rfl
    have r1 := R1'.out.cell (j := 1) rfl
    have HTR := hid (fun v => toRange_any lo hi v)
    simp only [rng] at HTR
    have TT := hid (kc0_3 c1 r0 r1)
    go_wp2_with fail
    go_region_held3 (fun v => v.cell? ⟨w.heap.size, 0, none⟩ = some (.slice a n c) ∧ v.cell? ⟨w.heap.size + 1, 0, none⟩ = some (.string lo) ∧ v.cell? ⟨w.heap.size + 1, 1, none⟩ = some (.string hi) ∧ KC w0 v [(⟨w.heap.size, 0, none⟩, .slice a n c), (⟨w.heap.size + 1, 0, none⟩, .string lo), (⟨w.heap.size + 1, 1, none⟩, .string hi)])
      (first | assumption | exact kc3 (TT.out.call (below_drew _)) | exact kc3c hbC (by assumption))
      (first
        | (go_at_call 35; refine (toTree_at _ a n c ns _ (kb3_nr (by assumption) T1'.out.hA) HM.out HS.out).mono ?_; rintro e wa ⟨ga, rfl, hNa, hbC⟩)
        | (go_at_call 36; refine (HTR.out _).mono ?_; rintro e wb ⟨rfl, hbC⟩; have hNb := Nr.below hNa hbC)
        | (go_at_call 31; refine (specTreeScan_any ns HL.out HS.out _ _ n n lo hi most back _ hNb).mono ?_; rintro e w3 ⟨v0, rfl, hO, hbC⟩))
    rename_i hS
    have hb := hS.2.2.2.bel
    obtain ⟨a0, n0, c0, hv0, hn0⟩ := hO.shape'
    subst hv0
    have T3 := hid (T1'.out.below hb)
    have R3 := hid (R1'.out.below hb)
    have P3 : Hid (Pr w3 (fun b => b < w3.heap.size) (.slice a0 n0 c0) (scV (alV ns) lo hi most back)) := hO.pr (fun k _ _ hk => hk)
    have c3 := T3.out.cell
    clear hb hS hO hn0 hNa hNb hbC TT c1 r0 r1 T1' R1'
    go_wp2_with fail
    refine (toTree_at _ a n c ns _ T3.out.hA HM.out HS.out).mono ?_
    rintro e w4 ⟨g4, rfl, hN4, hb⟩
    have T4 := hid (T3.out.below hb)
    have R4 := hid (R3.out.below hb)
    have P4 := hid (P3.out.below hb)
    obtain ⟨V, hV⟩ := nk_of (S' := fun b => w3.heap.size ≤ b ∧ b < w4.heap.size) hN4 HS.out (fun b h1 h2 => ⟨⟨h1.1, h2⟩, h1.2⟩)
    rw [← HN.out] at hV
    have HV4 := hid hV
    have HX4 : Hid (Nr w4 (fun b => w3.heap.size ≤ b ∧ b < w4.heap.size) (.slice (some ⟨g4, 0, none⟩) n n) ns) := hN4.mono (fun b h1 h2 => ⟨h1.1, h2⟩)
    have S34 := hid hb.size
    have S13 := hid T3.out.lt
    have S13' := hid R3.out.lt
    clear hb hN4 T3 R3 P3 c3 hV
    have hb := below_new (o := .cells #[.slice (some ⟨g4, 0, none⟩) n n] 63) (w := w4) (Below.refl _ _)
    have T5 := hid (T4.out.below hb)
    have R5 := hid (R4.out.below hb)
    have P5 := hid (P4.out.below hb)
    have HV5 := hid (HV4.out.below hb)
    have HX5 := hid (HX4.out.below hb)
    have KX5 := hid (Bk.new w4 63 [.slice (some ⟨g4, 0, none⟩) n n])
    have S45 : Hid (w4.heap.size < (w4.alloc (.cells #[.slice (some ⟨g4, 0, none⟩) n n] 63)).heap.size) := KX5.out.lt
    clear hb T4 R4 P4 HV4 HX4
    generalize hw5 : w4.alloc (.cells #[.slice (some ⟨g4, 0, none⟩) n n] 63) = w5 at *
    have x5 : w5.cell? ⟨w4.heap.size, 0, none⟩ = some (.slice (some ⟨g4, 0, none⟩) n n) := KX5.out.cell (j := 0) rfl
    have r0 := R5.out.cell (j := 0) rfl
    have r1 := R5.out.cell (j := 1) rfl
    have TT := hid (kc0_3 x5 r0 r1)
    go_wp2_with fail
    try rw [hw5]
    clear hw5
    go_region_held3 (fun v => v.cell? ⟨w4.heap.size, 0, none⟩ = some (.slice (some ⟨g4, 0, none⟩) n n) ∧ v.cell? ⟨w.heap.size + 1, 0, none⟩ = some (.string lo) ∧ v.cell? ⟨w.heap.size + 1, 1, none⟩ = some (.string hi) ∧ KC w5 v [(⟨w4.heap.size, 0, none⟩, .slice (some ⟨g4, 0, none⟩) n n), (⟨w.heap.size + 1, 0, none⟩, .string lo), (⟨w.heap.size + 1, 1, none⟩, .string hi)])
      (first | assumption | exact kc3 (TT.out.call (below_drew _)) | exact kc3c hbC (by assumption))
      (first
        | (go_at_call 36; refine (HTR.out _).mono ?_; rintro e wb ⟨rfl, hbC⟩; have hSb := kb3_nr' hbC (by assumption) HX5.out; have hzb := kb3_sz hbC (by assumption))
        | (go_at_call 30; refine (implTreeScan_any _ _ n n ns lo hi most back _ hSb hmm).mono ?_; rintro e w6 ⟨ag, ng, cg, rfl, hO, hbC0⟩; have hbC := hbC0))
    rename_i hS
    have hb := hS.2.2.2.bel
    have T6 := hid (T5.out.below hb)
    have R6 := hid (R5.out.below hb)
    have P6 := hid (P5.out.below hb)
    have HV6 := hid (HV5.out.below hb)
    have HX6 := hid (HX5.out.below hb)
    have KX6 := hid (KX5.out.below hb)
    have G6 : Hid (Rp w6 w5.heap.size (.slice ag ng cg) (scV (alV ns) lo hi most back)) := own_mono_rp hO hzb
    have hng : Hid (ng = (scV (alV ns) lo hi most back).length) := by obtain ⟨_, _, _, e, h1, _⟩ := hO; cases e; exact h1
    clear hS hSb hzb hbC hbC0 TT x5 r0 r1
    clear hb hO T5 R5 P5 HV5 HX5 KX5
    go_wp2_with fail
    refine (eqPairS_at (fun _ => True) _ ag a0 ng n0 cg c0 (scV (alV ns) lo hi most back) (scV (alV ns) lo hi most back) _ (Rw.mono G6.out.pr (fun _ _ _ => trivial)) P6.out).mono ?_
    rintro e w7 ⟨rfl, hb⟩
    have T7 := hid (T6.out.below hb)
    have R7 := hid (R6.out.below hb)
    have P7 := hid (P6.out.below hb)
    have HV7 := hid (HV6.out.below hb)
    have HX7 := hid (HX6.out.below hb)
    have KX7 := hid (KX6.out.below hb)
    have G7 := hid (G6.out.below hb)
    rw [decide_eq_true rfl]
    have c6 := T7.out.cell
    have c7 : w7.cell? ⟨w4.heap.size, 0, none⟩ = some (.slice (some ⟨g4, 0, none⟩) n n) := KX7.out.cell (j := 0) rfl
    have TT := hid (kc0_2 c6 c7)
    clear hb T6 R6 P6 HV6 HX6 KX6 G6
    go_wp2_with fail
    go_region_held3 (fun v => v.cell? ⟨w.heap.size, 0, none⟩ = some (.slice a n c) ∧ v.cell? ⟨w4.heap.size, 0, none⟩ = some (.slice (some ⟨g4, 0, none⟩) n n) ∧ KC w7 v [(⟨w.heap.size, 0, none⟩, .slice a n c), (⟨w4.heap.size, 0, none⟩, .slice (some ⟨g4, 0, none⟩) n n)])
      (first | assumption | exact kc2 (TT.out.call (below_drew _)) | exact kc2c hbC (by assumption))
      (first
        | (go_at_call 35; refine (toTree_at _ a n c ns _ (kb_nr (by assumption) T7.out.hA) HM.out HS.out).mono ?_; rintro e wa ⟨ga, rfl, hNa, hbC⟩; have hNb := kb_nr' hbC (by assumption) HX7.out)
        | (go_at_call 38; refine (eqTree_at _ _ _ _ n n n n ns ns _ hNb hNa).mono ?_; rintro e w8 ⟨rfl, hbC⟩))
    rename_i hS
    have hb := hS.2.2.bel
    have T8 := hid (T7.out.below hb)
    have R8 := hid (R7.out.below hb)
    have P8 := hid (P7.out.below hb)
    have HV8 := hid (HV7.out.below hb)
    have KX8 := hid (KX7.out.below hb)
    have G8 := hid (G7.out.below hb)
    have c8 : w8.cell? ⟨w4.heap.size, 0, none⟩ = some (.slice (some ⟨g4, 0, none⟩) n n) := KX8.out.cell (j := 0) rfl
    clear hS hNa hNb hbC hb T7 R7 P7 HV7 HX7 KX7 G7 TT c6 c7
    go_wp2_with fail
    refine (markTree_any _ _ n n 1 V _ HV8.out HM.out (by omega) (by omega)).mono ?_
    rintro e w9 ⟨k9, rfl, hk1, hk2, hm⟩
    have T9 := hid (T8.out.only hm.only (fun b hb => by have := S13.out; omega))
    have P9 : Hid (Pr w9 (fun b => b < w3.heap.size) (.slice a0 n0 c0) (scV (alV ns) lo hi most back)) := P8.out.to hm.only (fun b h1 _ h2 => by omega)
    have G9 : Hid (Rp w9 w5.heap.size (.slice ag ng cg) (scV (alV ns) lo hi most back)) := G8.out.to hm.only (fun b hb hr => by
      have := S45.out
      omega)
    have R9 : Hid (Bk w9 (w.heap.size + 1) 47 [.string lo, .string hi]) := R8.out.to hm.only (fun hr => by have := S13'.out; omega)
    have hk9 : ¬ (k9 : Int) < 0 := by omega
    clear hm hk1 hk2 T8 R8 P8 HV8 KX8 G8 c8
    go_wp2_with fail
    refine (eqPairS_at (fun _ => True) _ ag a0 ng n0 cg c0 (scV (alV ns) lo hi most back) (scV (alV ns) lo hi most back) _ (Rw.mono G9.out.pr (fun _ _ _ => trivial)) P9.out).mono ?_
    rintro e wA ⟨rfl, hb⟩
    have TA := hid (T9.out.below hb)
    have RA := hid (R9.out.below hb)
    have PA := hid (P9.out.below hb)
    have GA := hid (G9.out.below hb)
    rw [decide_eq_true rfl]
    clear hb T9 R9 P9 G9
    have hng2 : ng ≤ 200 := by rw [hng.out]; exact scV_len ns lo hi most back
    have KW : Hid (Kw wA (fun b => w5.heap.size ≤ b) (.slice ag ng cg) ng (ng * 2) isStr) := by have := GA.out.kw; rw [← hng.out] at this; exact this
    have hcg : ng ≤ cg := by obtain ⟨_, _, e, h1, _⟩ := KW.out; cases e; exact h1
    go_wp2_with fail
    refine (markPairS_any _ ag ng cg 1 _ KW.out (by omega) (by omega) (by omega)).mono ?_
    rintro e wB ⟨rfl, hm⟩
    have LB := hid hm.lies
    have TB' := hid (TA.out.only hm.1.only (fun b hb => by have := S13.out; have := S34.out; have := S45.out; omega))
    have PB' : Hid (Pr wB (fun b => b < w3.heap.size) (.slice a0 n0 c0) (scV (alV ns) lo hi most back)) := PA.out.to hm.1.only (fun b h1 _ h2 => by have := S34.out; have := S45.out; omega)
    have RB : Hid (Bk wB (w.heap.size + 1) 47 [.string lo, .string hi]) := RA.out.to hm.1.only (fun hr => by have := S13'.out; have := S34.out; have := S45.out; omega)
    clear hm TA RA PA GA KW
    have hq0 : ¬ ((1 + ng * 2 : Nat) : Int) < 0 := by omega
    have HT1 := hid (fun v (h : Lies v ag ng (ng * 2) (mV 1)) => heldPairS_any ag ng cg 1 v h hcg (by omega) (by omega) (by omega))
    generalize 1 + ng * 2 = q at *
    have hqq : ((q : Int) != (q : Int)) = false := by simp
    go_wp2_with fail
    refine (HT1.out _ LB.out).mono ?_
    rintro e wC ⟨rfl, hb⟩
    have TC := hid (TB'.out.below hb)
    have RC := hid (RB.out.below hb)
    have PC := hid (PB'.out.below hb)
    have LC := hid (LB.out.below hb)
    have cC := TC.out.cell
    clear hb TB' RB PB' LB
    have r0 := RC.out.cell (j := 0) rfl
    have r1 := RC.out.cell (j := 1) rfl
    have TT := hid (kc0_3 cC r0 r1)
    go_wp2_with fail
    go_region_held3 (fun v => v.cell? ⟨w.heap.size, 0, none⟩ = some (.slice a n c) ∧ v.cell? ⟨w.heap.size + 1, 0, none⟩ = some (.string lo) ∧ v.cell? ⟨w.heap.size + 1, 1, none⟩ = some (.string hi) ∧ KC wC v [(⟨w.heap.size, 0, none⟩, .slice a n c), (⟨w.heap.size + 1, 0, none⟩, .string lo), (⟨w.heap.size + 1, 1, none⟩, .string hi)])
      (first | assumption | exact kc3 (TT.out.call (below_drew _)) | exact kc3c hbC (by assumption))
      (first
        | (go_at_call 35; refine (toTree_at _ a n c ns _ (kb3_nr (by assumption) TC.out.hA) HM.out HS.out).mono ?_; rintro e wa ⟨ga, rfl, hNa, hbC⟩)
        | (go_at_call 36; refine (HTR.out _).mono ?_; rintro e wb ⟨rfl, hbC⟩; have hNb := Nr.below hNa hbC)
        | (go_at_call 30; refine (implTreeScan_any _ _ n n ns lo hi most back _ hNb hmm).mono ?_; rintro e wE ⟨ah, nh, ch, rfl, hO, hbC⟩))
    rename_i hS
    have hb := hS.2.2.2.bel
    have TE := hid (TC.out.below hb)
    have PE := hid (PC.out.below hb)
    have LE := hid (LC.out.below hb)
    have GE := hid hO
    clear hb hS hO hNa hNb hbC TT r0 r1 TC RC PC LC cC
    go_wp2_with fail
    refine (eqPairS_at (fun _ => True) _ ah a0 nh n0 ch c0 (scV (alV ns) lo hi most back) (scV (alV ns) lo hi most back) _ (Rw.mono GE.out.pr (fun _ _ _ => trivial)) PE.out).mono ?_
    rintro e wF ⟨rfl, hb⟩
    have TF := hid (TE.out.below hb)
    have LF := hid (LE.out.below hb)
    rw [decide_eq_true rfl]
    clear hb TE PE LE GE
    go_wp2_with fail
    refine (HT1.out _ LF.out).mono ?_
    rintro e wG ⟨rfl, hb⟩
    have TG := hid (TF.out.below hb)
    clear hb TF LF HT1
    go_wp2
    go_ret
    exact ⟨rfl, TG.out.bel⟩
end Go.Proofs.Ytbaggkfgnjenoaa

