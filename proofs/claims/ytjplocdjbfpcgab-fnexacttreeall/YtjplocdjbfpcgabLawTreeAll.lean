/-
  The law FnExactTreeAll answers true at every tree.
-/
import Derived.Test.YtjplocdjbfpcgabAllV
import Derived.Test.YtjplocdjbfpcgabNodeE
import Derived.Test.YtjplocdjbfpcgabNodeN
import Derived.Test.YtjplocdjbfpcgabLawTA
namespace Go.Proofs.Ytjplocdjbfpcgab
open Go.RowKit
set_option maxHeartbeats 8000000 in
theorem lawTreeAll_walk (a : Option Addr) (n c : Nat) (ns : List NB) (w : World) (h : Nr w (fun _ => True) (.slice a n c) ns ∧ szOkN ns) :
    Calls Try.prog 4 #[.agg #[.slice a n c]] w fun e w' => e = .returned (.bool true) ∧ Below w.heap.size w w' := by
  have HN := hid h.1.len.1
  have T0 := hid (TB.start h.1)
  have HZ := hid h.2
  clear h
  go_enter Try.func4, Try.ntmps4
  go_wp2_with fail
  refine (szTree_at _ a n c ns _ T0.out.hA HZ.out).mono ?_
  generalize w.alloc (.cells #[.slice a n c] 24) = U at *
  rintro e w1 ⟨⟨x, rfl, hx1, hx2, hx3⟩, hb⟩
  have T1 := hid (T0.out.below hb)
  have HX := hid hx3
  clear hb hx3 T0 HZ
  by_cases hneg : x < 0
  · go_wp2
    go_ret
    exact ⟨rfl, T1.out.bel⟩
  · have HM := hid (HX.out (by omega)).1
    have HS := hid (HX.out (by omega)).2
    have HL : Hid (ns.length ≤ 1048576) := by show _ ≤ _; rw [← HN.out]; exact HM.out
    have c1 := T1.out.cell
    clear HX
    go_wp2_with fail
    refine (toTree_at _ a n c ns _ T1.out.hA HM.out HS.out).mono ?_
    rintro e w2 ⟨g2, rfl, hN2, hb⟩
    have T2 := hid (T1.out.below hb)
    have HN2 := hid hN2
    clear hb hN2 T1 c1
    go_wp2_with fail
    refine (specTreeAll_any ns HL.out HS.out _ _ n n _ HN2.out).mono ?_
    rintro e w3 ⟨v0, rfl, hO, hb⟩
    obtain ⟨a0, n0, c0, hv0, hn0⟩ := hO.shape'
    subst hv0
    have T3 := hid (T2.out.below hb)
    have P3 : Hid (Pr w3 (fun b => b < w3.heap.size) (.slice a0 n0 c0) (alV ns)) := hO.pr (fun k _ _ hk => hk)
    have c3 := T3.out.cell
    clear hb T2 HN2 hO hn0
    go_wp2_with fail
    refine (toTree_at _ a n c ns _ T3.out.hA HM.out HS.out).mono ?_
    rintro e w4 ⟨g4, rfl, hN4, hb⟩
    have T4 := hid (T3.out.below hb)
    have P4 := hid (P3.out.below hb)
    obtain ⟨V, hV⟩ := nk_of (S' := fun b => w3.heap.size ≤ b ∧ b < w4.heap.size) hN4 HS.out (fun b h1 h2 => ⟨⟨h1.1, h2⟩, h1.2⟩)
    rw [← HN.out] at hV
    have HV4 := hid hV
    have HX4 : Hid (Nr w4 (fun b => w3.heap.size ≤ b ∧ b < w4.heap.size) (.slice (some ⟨g4, 0, none⟩) n n) ns) := hN4.mono (fun b h1 h2 => ⟨h1.1, h2⟩)
    have S34 := hid hb.size
    have S13 := hid T3.out.lt
    clear hb hN4 T3 P3 c3 hV
    have hb := below_new (o := .cells #[.slice (some ⟨g4, 0, none⟩) n n] 29) (w := w4) (Below.refl _ _)
    have T5 := hid (T4.out.below hb)
    have P5 := hid (P4.out.below hb)
    have HV5 := hid (HV4.out.below hb)
    have HX5 := hid (HX4.out.below hb)
    have KX5 := hid (Bk.new w4 29 [.slice (some ⟨g4, 0, none⟩) n n])
    have S45 : Hid (w4.heap.size < (w4.alloc (.cells #[.slice (some ⟨g4, 0, none⟩) n n] 29)).heap.size) := KX5.out.lt
    clear hb T4 P4 HV4 HX4
    go_wp2_with fail
    refine (implTreeAll_any _ _ n n ns _ HX5.out).mono ?_
    generalize w4.alloc (.cells #[.slice (some ⟨g4, 0, none⟩) n n] 29) = w5 at *
    rintro e w6 ⟨vg, rfl, hO, hb⟩
    obtain ⟨ag, ng, cg, hvg, hng⟩ := hO.shape'
    subst hvg
    have T6 := hid (T5.out.below hb)
    have P6 := hid (P5.out.below hb)
    have HV6 := hid (HV5.out.below hb)
    have HX6 := hid (HX5.out.below hb)
    have KX6 := hid (KX5.out.below hb)
    have G6 := hid hO
    clear hb hO T5 P5 HV5 HX5 KX5
    go_wp2_with fail
    refine (eqPairS_at (fun _ => True) _ ag a0 ng n0 cg c0 (alV ns) (alV ns) _ (G6.out.pr (fun _ _ _ _ => trivial)) P6.out).mono ?_
    rintro e w7 ⟨rfl, hb⟩
    have T7 := hid (T6.out.below hb)
    have P7 := hid (P6.out.below hb)
    have HV7 := hid (HV6.out.below hb)
    have HX7 := hid (HX6.out.below hb)
    have KX7 := hid (KX6.out.below hb)
    have G7 := hid (G6.out.kept hb)
    rw [decide_eq_true rfl]
    have c6 := T7.out.cell
    have c7 : w7.cell? ⟨w4.heap.size, 0, none⟩ = some (.slice (some ⟨g4, 0, none⟩) n n) := KX7.out.cell (j := 0) rfl
    have TT := hid (kc0_2 c6 c7)
    clear hb T6 P6 HV6 HX6 KX6 G6
    go_wp2_with fail
    go_region_held3 (fun v => v.cell? ⟨w.heap.size, 0, none⟩ = some (.slice a n c) ∧ v.cell? ⟨w4.heap.size, 0, none⟩ = some (.slice (some ⟨g4, 0, none⟩) n n) ∧ KC w7 v [(⟨w.heap.size, 0, none⟩, .slice a n c), (⟨w4.heap.size, 0, none⟩, .slice (some ⟨g4, 0, none⟩) n n)])
      (first | assumption | exact kc2 (TT.out.call (below_drew _)) | exact kc2c hbC (by assumption))
      (first
        | (go_at_call 11; refine (toTree_at _ a n c ns _ (kb_nr (by assumption) T7.out.hA) HM.out HS.out).mono ?_; rintro e wa ⟨ga, rfl, hNa, hbC⟩; have hNb := kb_nr' hbC (by assumption) HX7.out)
        | (go_at_call 13; refine (eqTree_at _ _ _ _ n n n n ns ns _ hNb hNa).mono ?_; rintro e w8 ⟨rfl, hbC⟩))
    rename_i hS
    have hb := hS.2.2.bel
    have T8 := hid (T7.out.below hb)
    have P8 := hid (P7.out.below hb)
    have HV8 := hid (HV7.out.below hb)
    have KX8 := hid (KX7.out.below hb)
    have G8 := hid (G7.out.kept hb)
    have c8 : w8.cell? ⟨w4.heap.size, 0, none⟩ = some (.slice (some ⟨g4, 0, none⟩) n n) := KX8.out.cell (j := 0) rfl
    clear hS hNa hNb hbC hb T7 P7 HV7 HX7 KX7 G7 TT c6 c7
    go_wp2_with fail
    refine (markTree_any _ _ n n 1 V _ HV8.out HM.out (by omega) (by omega)).mono ?_
    rintro e w9 ⟨k9, rfl, hk1, hk2, hm⟩
    have T9 := hid (T8.out.only hm.only (fun b hb => by have := S13.out; omega))
    have P9 : Hid (Pr w9 (fun b => b < w3.heap.size) (.slice a0 n0 c0) (alV ns)) := P8.out.to hm.only (fun b h1 _ h2 => by omega)
    have G9 : Hid (Ow w9 w5.heap.size (.slice ag ng cg) (alV ns)) := G8.out.to hm.only (fun k hk hr => by
      have := World.ownsRow.lt G8.out k hk
      have := S45.out
      omega)
    have hk9 : ¬ (k9 : Int) < 0 := by omega
    clear hm hk1 hk2 T8 P8 HV8 KX8 G8 c8
    go_wp2_with fail
    refine (eqPairS_at (fun _ => True) _ ag a0 ng n0 cg c0 (alV ns) (alV ns) _ (G9.out.pr (fun _ _ _ _ => trivial)) P9.out).mono ?_
    rintro e wA ⟨rfl, hb⟩
    have TA := hid (T9.out.below hb)
    have PA := hid (P9.out.below hb)
    have GA := hid (G9.out.kept hb)
    rw [decide_eq_true rfl]
    clear hb T9 P9 G9
    have hng2 : ng ≤ 200 := by rw [hng.out]; exact alV_len ns
    have KW : Hid (Kw wA (fun b => w5.heap.size ≤ b) (.slice ag ng cg) ng (ng * 2) isStr) := by have := GA.out.kw; rw [← hng.out] at this; exact this
    have hcg : ng ≤ cg := by obtain ⟨_, _, e, h1, _⟩ := KW.out; cases e; exact h1
    go_wp2_with fail
    refine (markPairS_any _ ag ng cg 1 _ KW.out (by omega) (by omega) (by omega)).mono ?_
    rintro e wB ⟨rfl, hm⟩
    have LB := hid hm.lies
    have TB' := hid (TA.out.only hm.1.only (fun b hb => by have := S13.out; have := S34.out; have := S45.out; omega))
    have PB' : Hid (Pr wB (fun b => b < w3.heap.size) (.slice a0 n0 c0) (alV ns)) := PA.out.to hm.1.only (fun b h1 _ h2 => by have := S34.out; have := S45.out; omega)
    clear hm TA PA GA KW
    have hq0 : ¬ ((1 + ng * 2 : Nat) : Int) < 0 := by omega
    have HT1 := hid (fun v (h : Lies v ag ng (ng * 2) (mV 1)) => heldPairS_any ag ng cg 1 v h hcg (by omega) (by omega) (by omega))
    generalize 1 + ng * 2 = q at *
    have hqq : ((q : Int) != (q : Int)) = false := by simp
    go_wp2_with fail
    refine (HT1.out _ LB.out).mono ?_
    rintro e wC ⟨rfl, hb⟩
    have TC := hid (TB'.out.below hb)
    have PC := hid (PB'.out.below hb)
    have LC := hid (LB.out.below hb)
    have cC := TC.out.cell
    clear hb TB' PB' LB
    go_wp2_with fail
    refine (toTree_at _ a n c ns _ TC.out.hA HM.out HS.out).mono ?_
    rintro e wD ⟨gD, rfl, hND, hb⟩
    have TD := hid (TC.out.below hb)
    have PD := hid (PC.out.below hb)
    have LD := hid (LC.out.below hb)
    have HND := hid hND
    clear hb hND TC PC LC cC
    go_wp2_with fail
    refine (implTreeAll_any _ _ n n ns _ HND.out).mono ?_
    rintro e wE ⟨vh, rfl, hO, hb⟩
    obtain ⟨ah, nh, ch, hvh, hnh⟩ := hO.shape'
    subst hvh
    have TE := hid (TD.out.below hb)
    have PE := hid (PD.out.below hb)
    have LE := hid (LD.out.below hb)
    have GE := hid hO
    clear hb hO TD PD LD HND hnh
    go_wp2_with fail
    refine (eqPairS_at (fun _ => True) _ ah a0 nh n0 ch c0 (alV ns) (alV ns) _ (GE.out.pr (fun _ _ _ _ => trivial)) PE.out).mono ?_
    rintro e wF ⟨rfl, hb⟩
    have TF := hid (TE.out.below hb)
    have LF := hid (LE.out.below hb)
    rw [decide_eq_true rfl]
    clear hb TE PE LE GE
    go_wp2_with fail
    refine (HT1.out _ LF.out).mono ?_
    rintro e wG ⟨rfl, hb⟩
    have TG := hid (TF.out.below hb)
    clear hb TF LF HT1
    go_wp2
    go_ret
    exact ⟨rfl, TG.out.bel⟩
end Go.Proofs.Ytjplocdjbfpcgab
