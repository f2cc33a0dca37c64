/-
  The law FnExactTreeEdit answers true at every tree and list of edits.
-/
import Derived.Test.YtkfeefaokghibabGreatMe5
import Derived.Test.YtkfeefaokghibabGreatMe1
import Derived.Deep.SlicePairs
import Derived.WideShapes
import Derived.ChangeSame
import Derived.ProofKit
import Derived.OpenShut
import Derived.Deep.Strs
import Derived.Deep.Slices
import Derived.ChangeSlices
namespace Go.Proofs.YtkfeefaokghibabGreat
open Go.RowKit
set_option maxHeartbeats 8000000 in
set_option maxRecDepth 20000 in
theorem lawTreeEdit_walk (a : Option Addr) (n c : Nat) (ns : List NB) (ea : Option Addr) (en ec : Nat) (el : List ED) (w : World) (h : Nr w (fun _ => True) (.slice a n c) ns ∧ szOkN ns) (he : Er w (fun _ => True) (.slice ea en ec) el ∧ szOkE el) :
    Calls Tryz.prog 3 #[.agg #[.slice a n c], .slice ea en ec] w fun e w' => e = .returned (.bool true) ∧ Below w.heap.size w w' := by
  have HN := hid h.1.len.1
  have T0 := hid (TB.start h.1)
  have HZ := hid h.2
  clear h
  have E0 : Hid (Er w (fun y => y < w.heap.size) (.slice ea en ec) el) := he.1.mono (fun _ _ h => h)
  have HEZ := hid he.2
  have HEN := hid he.1.len.1
  clear he
  go_enter Tryz.func3, Tryz.ntmps3
  go_wp2_with fail
  refine (szTree_at _ a n c ns _ T0.out.hA HZ.out).mono ?_
  generalize w.alloc (.cells #[.slice a n c] 24) = U at *
  rintro e w1 ⟨⟨x, rfl, hx1, hx2, hx3⟩, hb⟩
  have T1 := hid (T0.out.below hb)
  have HX := hid hx3
  clear hb hx3 T0 HZ
  by_cases hneg : x < 0
  · go_wp2
    go_ret
    exact ⟨rfl, T1.out.bel⟩
  · have c0 := T1.out.cell
    go_wp2_with fail
    refine (szEditS_at _ ea en ec el x _ (E0.out.below T1.out.bel) HEZ.out (by omega) (by omega)).mono ?_
    rintro e w1b ⟨⟨x2, rfl, hy1, hy2, hy3⟩, hb⟩
    have T1b := hid (T1.out.below hb)
    have HX2 := hid hy3
    clear hb hy3 T1 HEZ c0
    have T1 := hid T1b.out
    clear T1b
    by_cases hneg2 : x2 < 0
    · go_wp2
      go_ret
      exact ⟨rfl, T1.out.bel⟩
    have hen := HX2.out (by omega)
    have HER : Hid (∀ v, Below w.heap.size w v → Er v (fun y => y < w.heap.size) (.slice ea en ec) el) := fun v hb => E0.out.below hb
    have HM := hid (HX.out (by omega)).1
    have HS := hid (HX.out (by omega)).2
    have HL : Hid (ns.length ≤ 1048576) := by show _ ≤ _; rw [← HN.out]; exact HM.out
    have HPO := hid (edV_small ns el)
    have HSP := hid (fun (w' : World) (S E : Nat → Prop) (g g' : Option Addr) (h' : Nr w' S (.slice g n n) ns) (h2 : Er w' E (.slice g' en en) el) => specTreeEdit_any ns HL.out HS.out S E g n n g' en en el w' h' h2)
    have HIM := hid (fun (w' : World) (S E : Nat → Prop) (g g' : Option Addr) (h' : Nr w' S (.slice g n n) ns) (h2 : Er w' E (.slice g' en en) el) => implTreeEdit_any S E g n n ns g' en en el w' h' h2)
    generalize edV ns el = o at *
    have hbb : (o.isSome != o.isSome) = false := by cases o <;> rfl
    have HBB := hid hbb
    generalize hms : o.getD [] = ms at *
    have HMS := hid hms
    clear hms
    have c1 := T1.out.cell
    clear HX hbb
    go_wp2_with fail
    refine (toTree_at _ a n c ns _ T1.out.hA HM.out HS.out).mono ?_
    rintro e w2 ⟨g2, rfl, hN2, hb⟩
    have T2 := hid (T1.out.below hb)
    have HN2 := hid hN2
    clear hb hN2 T1 c1
    go_wp2_with fail
    refine (toEditS_at _ ea en ec el _ (HER.out _ T2.out.bel) hen).mono ?_
    rintro e w2b ⟨rfl, hK2, hb⟩
    have T2b := hid (T2.out.below hb)
    have HN2b := hid (HN2.out.below hb)
    have HE2 := hid (hK2.er HEN.out (by omega) (fun _ => True) trivial)
    clear hb hK2 T2 HN2
    have T2 := hid T2b.out
    clear T2b
    have HN2 := hid HN2b.out
    clear HN2b
    go_wp2_with fail
    refine (HSP.out _ _ _ _ _ HN2.out HE2.out).mono ?_
    rintro e w3 ⟨a0, n0, c0, rfl, hP, hb⟩
    rw [HMS.out] at hP
    have T3 := hid (T2.out.below hb)
    have P3 : Hid (Nr w3 (fun y => y < w3.heap.size) (.slice a0 n0 c0) ms) := Nr.mono (NewK.new hP) (fun y hy _ => hy.2)
    clear hb T2 HN2 HE2 hP HSP
    have hb := below_new (o := .cells #[.slice a0 n0 c0] 30) (w := w3) (Below.refl _ _)
    have T4 := hid (T3.out.below hb)
    have P4 := hid (P3.out.below hb)
    have KW4 := hid (Bk.new w3 30 [.slice a0 n0 c0])
    have c4 := T4.out.cell
    clear hb T3 P3
    go_wp2_with fail
    refine (toTree_at _ a n c ns _ T4.out.hA HM.out HS.out).mono ?_
    generalize w3.alloc (.cells #[.slice a0 n0 c0] 30) = w4 at *
    rintro e w5 ⟨g5, rfl, hN5, hb⟩
    have T5 := hid (T4.out.below hb)
    have P5 := hid (P4.out.below hb)
    have KW5 := hid (KW4.out.below hb)
    obtain ⟨V, hV⟩ := nk_of (S' := fun b => w4.heap.size ≤ b ∧ b < w5.heap.size) hN5 HS.out (fun b h1 h2 => ⟨⟨h1.1, h2⟩, h1.2⟩)
    rw [← HN.out] at hV
    have HV5 := hid hV
    have HX5 : Hid (Nr w5 (fun b => w4.heap.size ≤ b ∧ b < w5.heap.size) (.slice (some ⟨g5, 0, none⟩) n n) ns) := hN5.mono (fun b h1 h2 => ⟨h1.1, h2⟩)
    have S34 := hid KW4.out.lt
    have S45 := hid hb.size
    have S04 := hid T4.out.lt
    clear hb hN5 T4 P4 c4 hV KW4
    have hb := below_new (o := .cells #[.slice (some ⟨g5, 0, none⟩) n n] 30) (w := w5) (Below.refl _ _)
    have T6 := hid (T5.out.below hb)
    have P6 := hid (P5.out.below hb)
    have KW6 := hid (KW5.out.below hb)
    have HV6 := hid (HV5.out.below hb)
    have HX6 := hid (HX5.out.below hb)
    have KX6 := hid (Bk.new w5 30 [.slice (some ⟨g5, 0, none⟩) n n])
    have S56 : Hid (w5.heap.size < (w5.alloc (.cells #[.slice (some ⟨g5, 0, none⟩) n n] 30)).heap.size) := KX6.out.lt
    clear hb T5 P5 HV5 HX5 KW5
    go_wp2_with fail
    refine (toEditS_at _ ea en ec el _ (HER.out _ T6.out.bel) hen).mono ?_
    generalize w5.alloc (.cells #[.slice (some ⟨g5, 0, none⟩) n n] 30) = w6a at *
    rintro e w6 ⟨rfl, hK6, hb⟩
    have T6b := hid (T6.out.below hb)
    have P6b := hid (P6.out.below hb)
    have KW6b := hid (KW6.out.below hb)
    have HV6b := hid (HV6.out.below hb)
    have HX6b := hid (HX6.out.below hb)
    have KX6b := hid (KX6.out.below hb)
    have KE6 := hid hK6
    have HE6 := hid (hK6.er HEN.out (by omega) (fun _ => True) trivial)
    have S56b : Hid (w5.heap.size < w6.heap.size) := Nat.lt_of_lt_of_le S56.out hb.size
    have S66 : Hid (w6a.heap.size < w6.heap.size) := hK6.lt
    have S5a := hid S56.out
    generalize w6a.heap.size = gE at *
    clear hb hK6 T6 P6 KW6 HV6 HX6 KX6 S56
    have T6 := hid T6b.out
    clear T6b
    have P6 := hid P6b.out
    clear P6b
    have KW6 := hid KW6b.out
    clear KW6b
    have HV6 := hid HV6b.out
    clear HV6b
    have HX6 := hid HX6b.out
    clear HX6b
    have KX6 := hid KX6b.out
    clear KX6b
    have S56 := hid S56b.out
    clear S56b
    have x6 := KX6.out.cell (j := 0) rfl
    go_wp2_with fail
    refine (HIM.out _ _ _ _ _ HX6.out HE6.out).mono ?_
    rintro e w7 ⟨vg, rfl, hG, hb⟩
    have KE7 := hid (KE6.out.below hb)
    clear KE6 HE6
    rw [HMS.out] at hG
    obtain ⟨ag, ng, cg, hvg, -⟩ := hG.shape
    subst hvg
    obtain ⟨VG, hG1, hG2, hG3⟩ := hG
    have G7 := hid hG1
    have HGV := hid hG2
    have HGB := hid hG3
    have T7 := hid (T6.out.below hb)
    have P7 := hid (P6.out.below hb)
    have KW7 := hid (KW6.out.below hb)
    have HV7 := hid (HV6.out.below hb)
    have HX7 := hid (HX6.out.below hb)
    have KX7 := hid (KX6.out.below hb)
    have S67 := hid hb.size
    clear hb hG1 hG2 hG3 T6 P6 KW6 HV6 HX6 KX6 x6
    have hb := below_new (o := .cells #[.slice ag ng cg] 30) (w := w7) (Below.refl _ _)
    have T8 := hid (T7.out.below hb)
    have P8 := hid (P7.out.below hb)
    have KW8 := hid (KW7.out.below hb)
    have HV8 := hid (HV7.out.below hb)
    have HX8 := hid (HX7.out.below hb)
    have KX8 := hid (KX7.out.below hb)
    have KE8 := hid (KE7.out.below hb)
    have G8 := hid (G7.out.kept hb)
    have KG8 := hid (Bk.new w7 30 [.slice ag ng cg])
    have S78 : Hid (w7.heap.size < (w7.alloc (.cells #[.slice ag ng cg] 30)).heap.size) := KG8.out.lt
    have HGL : Hid (∀ i, i < ms.length → ∀ y, bl (vAt VG i) y → w6.heap.size ≤ y ∧ y < w7.heap.size) := fun i hi y hy => ⟨HGB.out i hi y hy, (G7.out.own i hi).1.lt hy⟩
    clear hb T7 P7 KW7 HV7 HX7 KX7 KE7 G7 HGB
    have y8 := KW8.out.cell (j := 0) rfl
    have z8 := KG8.out.cell (j := 0) rfl
    have NG8 := hid (G8.out.nr (S := fun _ => True) (fun _ _ => trivial))
    have hbb := HBB.out
    go_wp2_with fail
    refine (eqTree_at (fun _ => True) _ _ _ _ _ _ _ ms ms _ NG8.out P8.out).mono ?_
    generalize w7.alloc (.cells #[.slice ag ng cg] 30) = w8 at *
    rintro e w9 ⟨rfl, hb⟩
    rw [decide_eq_true rfl]
    have T9 := hid (T8.out.below hb)
    have P9 := hid (P8.out.below hb)
    have KW9 := hid (KW8.out.below hb)
    have HV9 := hid (HV8.out.below hb)
    have HX9 := hid (HX8.out.below hb)
    have KX9 := hid (KX8.out.below hb)
    have KE9 := hid (KE8.out.below hb)
    have G9 := hid (G8.out.kept hb)
    have KG9 := hid (KG8.out.below hb)
    clear hb T8 P8 KW8 HV8 HX8 KX8 KE8 G8 KG8 y8 z8 NG8
    have c6 := T9.out.cell
    have c7 : w9.cell? ⟨w5.heap.size, 0, none⟩ = some (.slice (some ⟨g5, 0, none⟩) n n) := KX9.out.cell (j := 0) rfl
    have TT := hid (kc0_2 c6 c7)
    go_wp2_with fail
    go_region_held3 (fun v => v.cell? ⟨w.heap.size, 0, none⟩ = some (.slice a n c) ∧ v.cell? ⟨w5.heap.size, 0, none⟩ = some (.slice (some ⟨g5, 0, none⟩) n n) ∧ KC w9 v [(⟨w.heap.size, 0, none⟩, .slice a n c), (⟨w5.heap.size, 0, none⟩, .slice (some ⟨g5, 0, none⟩) n n)])
      (first | assumption | exact kc2 (TT.out.call (below_drew _)) | exact kc2c hbC (by assumption))
      (first
        | (go_at_call 7; refine (toTree_at _ a n c ns _ (kb_nr (by assumption) T9.out.hA) HM.out HS.out).mono ?_; rintro e wa ⟨ga, rfl, hNa, hbC⟩; have hNb := kb_nr' hbC (by assumption) HX9.out)
        | (go_at_call 10; refine (eqTree_at _ _ _ _ n n n n ns ns _ hNb hNa).mono ?_; rintro e wA ⟨rfl, hbC⟩))
    rename_i hS
    have hb := hS.2.2.bel
    have TA := hid (T9.out.below hb)
    have PA := hid (P9.out.below hb)
    have KWA := hid (KW9.out.below hb)
    have HVA := hid (HV9.out.below hb)
    have KXA := hid (KX9.out.below hb)
    have KEA := hid (KE9.out.below hb)
    have GA := hid (G9.out.kept hb)
    have KGA := hid (KG9.out.below hb)
    clear hS hNa hNb hbC hb T9 P9 KW9 HV9 HX9 KX9 KE9 G9 KG9 TT c6 c7
    go_wp2_with fail
    refine (toEditS_at _ ea en ec el _ (HER.out _ TA.out.bel) hen).mono ?_
    rintro e wA1 ⟨rfl, hK1, hb⟩
    have TA1 := hid (TA.out.below hb)
    have PA1 := hid (PA.out.below hb)
    have KWA1 := hid (KWA.out.below hb)
    have HVA1 := hid (HVA.out.below hb)
    have KXA1 := hid (KXA.out.below hb)
    have KEA1 := hid (KEA.out.below hb)
    have GA1 := hid (GA.out.kept hb)
    have KGA1 := hid (KGA.out.below hb)
    have HE1 := hid (hK1.er HEN.out (by omega) (fun _ => True) trivial)
    have HE2 := hid (KEA1.out.er HEN.out (by omega) (fun _ => True) trivial)
    clear hb hK1 TA PA KWA HVA KXA KEA GA KGA
    go_wp2_with fail
    refine (eqEditS_at _ _ _ _ en en en en el el _ HE2.out HE1.out).mono ?_
    rintro e wA2 ⟨rfl, hb⟩
    rw [decide_eq_true rfl]
    have TA := hid (TA1.out.below hb)
    have PA := hid (PA1.out.below hb)
    have KWA := hid (KWA1.out.below hb)
    have HVA := hid (HVA1.out.below hb)
    have KXA := hid (KXA1.out.below hb)
    have KEA := hid (KEA1.out.below hb)
    have GA := hid (GA1.out.kept hb)
    have KGA := hid (KGA1.out.below hb)
    have xA : wA2.cell? ⟨w5.heap.size, 0, none⟩ = some (.slice (some ⟨g5, 0, none⟩) n n) := KXA.out.cell (j := 0) rfl
    clear hb TA1 PA1 KWA1 HVA1 KXA1 KEA1 GA1 KGA1 HE1 HE2
    go_wp2_with fail
    refine (markTree_any _ _ n n 1 V _ HVA.out HM.out (by omega) (by omega)).mono ?_
    rintro e wB ⟨k9, rfl, hk1, hk2, hm⟩
    have TB' := hid (TA.out.only hm.only (fun b hb => by have := S04.out; omega))
    have PB' : Hid (Nr wB (fun y => y < w3.heap.size) (.slice a0 n0 c0) ms) := PA.out.to hm.only (fun y h1 _ h2 => by have := S34.out; omega)
    have KWB := hid (KWA.out.to hm.only (fun h2 => by have := S34.out; omega))
    have KGB := hid (KGA.out.to hm.only (fun h2 => by have := S56.out; have := S67.out; omega))
    have GB : Hid (NA wB (.slice ag ng cg) VG ms) := GA.out.to hm.only (fun y hy h2 => by have := HGV.out y hy; have := S56.out; omega) (fun i hi y hy h2 => by have := (HGL.out i hi y hy).1; have := S56.out; omega)
    have KEB : Hid (Bk wB gE 54 (ecs el)) := KEA.out.to hm.only (fun h2 => by have := S5a.out; omega)
    clear hm TA PA KWA HVA KXA KEA GA KGA xA
    go_wp2_with fail
    refine (markEditS_any gE en k9 _ wB KEB.out (by rw [ecs_length, ← HEN.out]) hen (by omega) (by have := HM.out; omega)).mono ?_
    rintro e wB2 ⟨rfl, ho⟩
    have TB2 := hid (TB'.out.only ho (fun b hb => by have := S04.out; have := S45.out; have := S5a.out; omega))
    have PB2 : Hid (Nr wB2 (fun y => y < w3.heap.size) (.slice a0 n0 c0) ms) := PB'.out.to ho (fun y h1 _ h2 => by have := S34.out; have := S45.out; have := S5a.out; omega)
    have KWB2 := hid (KWB.out.to ho (fun h2 => by have := S34.out; have := S45.out; have := S5a.out; omega))
    have KGB2 := hid (KGB.out.to ho (fun h2 => by have := S66.out; have := S67.out; omega))
    have GB2 : Hid (NA wB2 (.slice ag ng cg) VG ms) := GB.out.to ho (fun y hy h2 => by have := HGV.out y hy; have := S66.out; omega) (fun i hi y hy h2 => by have := (HGL.out i hi y hy).1; have := S66.out; omega)
    have hk9 : ¬ ((k9 + en * 3 : Nat) : Int) < 0 := by omega
    clear ho hk1 hk2 TB' PB' KWB KGB GB KEB
    have TB' := hid TB2.out
    clear TB2
    have PB' := hid PB2.out
    clear PB2
    have KWB := hid KWB2.out
    clear KWB2
    have KGB := hid KGB2.out
    clear KGB2
    have GB := hid GB2.out
    clear GB2
    generalize k9 + en * 3 = k9b at *
    have yB := KWB.out.cell (j := 0) rfl
    have zB := KGB.out.cell (j := 0) rfl
    have NGB := hid (GB.out.nr (S := fun _ => True) (fun _ _ => trivial))
    go_wp2_with fail
    refine (eqTree_at (fun _ => True) _ _ _ _ _ _ _ ms ms _ NGB.out PB'.out).mono ?_
    rintro e wC ⟨rfl, hb⟩
    rw [decide_eq_true rfl]
    have TC := hid (TB'.out.below hb)
    have PC := hid (PB'.out.below hb)
    have KWC := hid (KWB.out.below hb)
    have GC := hid (GB.out.kept hb)
    have KGC := hid (KGB.out.below hb)
    clear hb TB' PB' KWB GB KGB yB zB NGB
    have zC := KGC.out.cell (j := 0) rfl
    go_wp2_with fail
    refine (markTree_ex ag ng cg 1 VG ms _ GC.out HPO.out.1 HPO.out.2 (by omega) (by omega)).mono ?_
    rintro e wD ⟨rfl, hm, ho⟩
    have MD := hid hm
    have TD := hid (TC.out.only ho (fun b ⟨i, hi, hb⟩ => by have := (HGL.out i hi b hb).1; have := S04.out; have := S45.out; have := S56.out; omega))
    have PD : Hid (Nr wD (fun y => y < w3.heap.size) (.slice a0 n0 c0) ms) := PC.out.to ho (fun y h1 _ ⟨i, hi, hb⟩ => by have := (HGL.out i hi y hb).1; have := S34.out; have := S45.out; have := S56.out; omega)
    have KWD := hid (KWC.out.to ho (fun ⟨i, hi, hb⟩ => by have := (HGL.out i hi _ hb).1; have := S34.out; have := S45.out; have := S56.out; omega))
    have KGD := hid (KGC.out.to ho (fun ⟨i, hi, hb⟩ => by have := (HGL.out i hi _ hb).2; omega))
    clear hm ho TC PC KWC GC KGC zC
    have HTH := hid (fun v (h : MkT v (.slice ag ng cg) VG ms 1) => heldTree_any ag ng cg 1 VG ms v h HPO.out.1 HPO.out.2 (by omega) (by omega))
    generalize 1 + offN ms ms.length = q at *
    have hq0 : ¬ (q : Int) < 0 := by omega
    have hqq : ((q : Int) != (q : Int)) = false := by simp
    have zD := KGD.out.cell (j := 0) rfl
    go_wp2_with fail
    refine (HTH.out _ MD.out).mono ?_
    rintro e wE ⟨rfl, hb⟩
    have TE := hid (TD.out.below hb)
    have PE := hid (PD.out.below hb)
    have KWE := hid (KWD.out.below hb)
    have KGE := hid (KGD.out.below hb)
    have ME := hid (MD.out.below hb)
    have cE := TE.out.cell
    clear hb TD PD KWD KGD MD zD
    go_wp2_with fail
    refine (toTree_at _ a n c ns _ TE.out.hA HM.out HS.out).mono ?_
    rintro e wF ⟨gF, rfl, hNF, hb⟩
    have TF := hid (TE.out.below hb)
    have PF := hid (PE.out.below hb)
    have KWF := hid (KWE.out.below hb)
    have KGF := hid (KGE.out.below hb)
    have MF := hid (ME.out.below hb)
    have HNF := hid hNF
    clear hb hNF TE PE KWE KGE ME cE
    go_wp2_with fail
    refine (toEditS_at _ ea en ec el _ (HER.out _ TF.out.bel) hen).mono ?_
    rintro e wF2 ⟨rfl, hKF, hb⟩
    have TF2 := hid (TF.out.below hb)
    have PF2 := hid (PF.out.below hb)
    have KWF2 := hid (KWF.out.below hb)
    have KGF2 := hid (KGF.out.below hb)
    have MF2 := hid (MF.out.below hb)
    have HNF2 := hid (HNF.out.below hb)
    have HEF := hid (hKF.er HEN.out (by omega) (fun _ => True) trivial)
    clear hb hKF TF PF KWF KGF MF HNF
    have TF := hid TF2.out
    clear TF2
    have PF := hid PF2.out
    clear PF2
    have KWF := hid KWF2.out
    clear KWF2
    have KGF := hid KGF2.out
    clear KGF2
    have MF := hid MF2.out
    clear MF2
    have HNF := hid HNF2.out
    clear HNF2
    go_wp2_with fail
    refine (HIM.out _ _ _ _ _ HNF.out HEF.out).mono ?_
    rintro e wG ⟨vh, rfl, hG, hb⟩
    rw [HMS.out] at hG
    obtain ⟨ah, nh, ch, hvh, -⟩ := hG.shape
    subst hvh
    obtain ⟨VH, hG1, -, -⟩ := hG
    have TG := hid (TF.out.below hb)
    have PG := hid (PF.out.below hb)
    have KWG := hid (KWF.out.below hb)
    have KGG := hid (KGF.out.below hb)
    have MG := hid (MF.out.below hb)
    have NH := hid (hG1.nr (S := fun _ => True) (fun _ _ => trivial))
    clear hb hG1 TF PF KWF KGF MF HNF
    have hb := below_new (o := .cells #[.slice ah nh ch] 30) (w := wG) (Below.refl _ _)
    have TI := hid (TG.out.below hb)
    have PI := hid (PG.out.below hb)
    have KWI := hid (KWG.out.below hb)
    have KGI := hid (KGG.out.below hb)
    have MI := hid (MG.out.below hb)
    have NHI := hid (NH.out.below hb)
    have KHI := hid (Bk.new wG 30 [.slice ah nh ch])
    have yI := KWI.out.cell (j := 0) rfl
    have zI := KHI.out.cell (j := 0) rfl
    clear hb TG PG KWG KGG MG NH
    go_wp2_with fail
    refine (eqTree_at (fun _ => True) _ _ _ _ _ _ _ ms ms _ NHI.out PI.out).mono ?_
    generalize wG.alloc (.cells #[.slice ah nh ch] 30) = wI at *
    rintro e wJ ⟨rfl, hb⟩
    rw [decide_eq_true rfl]
    have TJ := hid (TI.out.below hb)
    have KGJ := hid (KGI.out.below hb)
    have MJ := hid (MI.out.below hb)
    have zJ := KGJ.out.cell (j := 0) rfl
    clear hb TI PI KWI KGI MI NHI KHI yI zI
    go_wp2_with fail
    refine (HTH.out _ MJ.out).mono ?_
    rintro e wK ⟨rfl, hb⟩
    have TK := hid (TJ.out.below hb)
    clear hb TJ KGJ MJ zJ HTH
    go_wp2
    go_ret
    exact ⟨rfl, TK.out.bel⟩
end Go.Proofs.YtkfeefaokghibabGreat
/-
  What is known of slices of pairs that come in as arguments.
-/
namespace Go.Proofs.YtkfeefaokghibabGreat
open Go.ChangeShapes Go.WideShapes Go.ChangeAt Go.RowKit

theorem pair_two : ∃ f0 f1 : Field, Tryz.prog.underlying 134 = some (.struct #[f0, f1]) ∧ f0.type = 9 ∧ f1.type = 9 ∧ f0.offset = 0 ∧ f1.offset = 1 := ⟨_, _, Tryz.underlying134, rfl, rfl, rfl, rfl⟩
theorem open_pairs {H : Type} {enc : TypeId × Value → H} {w : World} {base : Nat} {spare : Nat → Bool} {held : Bool} {fuel : Nat} {v : Value} {x : DataW H × List MemPlace}
    (h : DataW.trod enc Tryz.prog w base spare held fuel 72 [v] = some x) : ∃ l : List PB, Pr w (fun _ => True) v l ∧ szOkP l := by
  obtain ⟨f0, f1, hs, t0, t1, o0, o1⟩ := pair_two
  have k : Tryz.prog.cellsOf 9 = 1 := by kernel_rfl
  rcases Go.Deep.open_slice_pairs Tryz.underlying72 hs (by kernel_rfl) o0 o1 (by rw [t0]; exact k) (by rw [t1]; exact k) h with ⟨hcs, _⟩ | ⟨a, len, cap, m, n, V0, V1, D0, D1, P0, P1, hcs, _, hl, hm, hmm, _, hc⟩
  · simp at hcs
    subst hcs
    exact ⟨[], rw_nil _ _, fun i => by simp [pAtB]; decide⟩
  · simp at hcs
    subst hcs
    have hlm : len ≤ m := by rw [hmm]; split <;> omega
    have ex : ∀ i, ∃ p : PB, i < m → w.cell? (a.add (i * 2)) = some (.string p.1) ∧ w.cell? (a.add (i * 2 + 1)) = some (.string p.2) ∧ p.1.size ≤ maxLen ∧ p.2.size ≤ maxLen := by
      intro i
      by_cases hi : i < m
      · obtain ⟨c0, c1, d0, d1⟩ := hc i hi
        rw [t0] at d0
        rw [t1] at d1
        obtain ⟨s0, e0, _, l0⟩ := DataW.trod_string Tryz.underlying9 d0
        obtain ⟨s1, e1, _, l1⟩ := DataW.trod_string Tryz.underlying9 d1
        simp at e0 e1
        exact ⟨(s0, s1), fun _ => ⟨by rw [c0, e0], by rw [c1, e1], l0, l1⟩⟩
      · exact ⟨(⟨#[]⟩, ⟨#[]⟩), fun h => absurd h hi⟩
    obtain ⟨f, hf⟩ := Classical.axiomOfChoice ex
    unfold maxLen at hm hf
    refine ⟨(List.range len).map f, ?_, fun i => ?_⟩
    · refine ⟨_, cap, by simp; rfl, by simpa using hl, by omega, fun h0 => ?_, fun h0 => (by cases h0), fun hp => ?_⟩
      · simp at h0; subst h0; rfl
      · simp at hp
        obtain ⟨b, off, spot⟩ := a
        have hc0 := (hf 0 (by omega)).1
        have hspot : spot = none := by simpa [Addr.add] using World.cell?_spot hc0
        subst hspot
        refine ⟨b, off, rfl, by simpa [Addr.add] using block_lt hc0, trivial, fun j u hu => ?_⟩
        have hj : j < len * 2 := by
          have := (List.getElem?_eq_some_iff.1 hu).1
          simpa [pcs_length] using this
        rcases Nat.mod_two_eq_zero_or_one j with e | e
        · have h1 := (pcs_at ((List.range len).map f) (j / 2) (by simp; omega)).1
          rw [show j / 2 * 2 = j by omega, hu] at h1
          have h2 := (hf (j / 2) (by omega)).1
          rw [Addr.add_lit, show j / 2 * 2 = j by omega] at h2
          rw [h2, h1]
          simp [pAtB, show j / 2 < len by omega]
        · have h1 := (pcs_at ((List.range len).map f) (j / 2) (by simp; omega)).2
          rw [show j / 2 * 2 + 1 = j by omega, hu] at h1
          have h2 := (hf (j / 2) (by omega)).2.1
          rw [Addr.add_lit, show j / 2 * 2 + 1 = j by omega] at h2
          rw [h2, h1]
          simp [pAtB, show j / 2 < len by omega]
    · by_cases hi : i < len
      · have := hf i (by omega)
        simp [pAtB, hi]
        omega
      · simp [pAtB, hi]
        decide
set_option maxRecDepth 100000 in
theorem open_pairS {H : Type} {enc : TypeId × Value → H} {w : World} {base : Nat} {spare : Nat → Bool} {held : Bool} {r : Reach} {b0 : Nat} {v : Value} {d : DataW H} {p : List MemPlace}
    (hv : Value.okWide Tryz.prog w r b0 72 v) (h : DataW.Trod enc Tryz.prog w base spare held 72 v d p) : ∃ (a : Option Addr) (n c : Nat) (l : List PB), v = .slice a n c ∧ Pr w (fun _ => True) (.slice a n c) l ∧ szOkP l := by
  obtain ⟨a, n, c, rfl⟩ := okWide_slice Tryz.underlying72 hv
  obtain ⟨fuel, hf⟩ := h
  simp [Value.cells] at hf
  obtain ⟨l, h1, h2⟩ := open_pairs hf
  exact ⟨a, n, c, l, rfl, h1, h2⟩
end Go.Proofs.YtkfeefaokghibabGreat
/-
  What is known of trees that come in as arguments.
-/
namespace Go.Proofs.YtkfeefaokghibabGreat
open Go.ChangeShapes Go.WideShapes Go.ChangeAt Go.RowKit

theorem rw_mk {w : World} {a : Addr} {n c : Nat} {xs : List Value} (hl : n ≤ c) (hc : c ≤ 9223372036854775807) (hx : n = 0 → xs = []) (h0 : 0 < n → 0 < xs.length) (h : ∀ j u, xs[j]? = some u → w.cell? (a.add j) = some u) : Rw w (fun _ => True) (.slice (some a) n c) n xs := by
  refine ⟨_, c, rfl, hl, hc, hx, fun h => by (cases h), fun hp => ?_⟩
  obtain ⟨b, off, spot⟩ := a
  obtain ⟨u, hu⟩ : ∃ u, xs[0]? = some u := ⟨xs[0]'(h0 hp), by simp [h0 hp]⟩
  have hc0 := h 0 u hu
  have hspot : spot = none := by simpa [Addr.add] using World.cell?_spot hc0
  subst hspot
  refine ⟨b, off, rfl, by simpa [Addr.add] using block_lt hc0, trivial, fun j v hv => ?_⟩
  have := h j v hv
  rwa [Addr.add_lit] at this
theorem open_sr {H : Type} {enc : TypeId × Value → H} {w : World} {base : Nat} {spare : Nat → Bool} {held : Bool} {fuel : Nat} {v : Value} {x : DataW H × List MemPlace}
    (h : DataW.trod enc Tryz.prog w base spare held fuel 73 [v] = some x) : ∃ l : List ByteArray, Sr w (fun _ => True) v l ∧ szOkS l := by
  rcases Go.Deep.open_strs Tryz.underlying73 Tryz.underlying9 (by kernel_rfl) h with ⟨hcs, _⟩ | ⟨a, len, cap, m, Sx, hcs, _, hl, hm, hmm, _, hc⟩
  · simp at hcs
    subst hcs
    exact ⟨[], rw_nil _ _, fun i => by simp [sAt]; decide⟩
  · simp at hcs
    subst hcs
    have hlm : len ≤ m := by rw [hmm]; split <;> omega
    unfold maxLen at hm hc
    refine ⟨(List.range len).map Sx, ?_, fun i => ?_⟩
    · unfold Sr
      rw [show ((List.range len).map Sx).length = len by simp]
      refine rw_mk hl (by omega) (fun h0 => by simp [h0]) (fun h0 => by simpa using h0) (fun j u hu => ?_)
      have hj : j < len := by
        have := (List.getElem?_eq_some_iff.1 hu).1
        simpa using this
      simp [hj] at hu
      rw [← hu]
      exact (hc j (by omega)).1
    · by_cases hi : i < len
      · have := (hc i (by omega)).2
        simp [sAt, hi]
        omega
      · simp [sAt, hi]
        decide
theorem open_ir {H : Type} {enc : TypeId × Value → H} {w : World} {base : Nat} {spare : Nat → Bool} {held : Bool} {fuel : Nat} {v : Value} {x : DataW H × List MemPlace}
    (h : DataW.trod enc Tryz.prog w base spare held fuel 74 [v] = some x) : ∃ l : List Int, Ir w (fun _ => True) v l := by
  rcases open_ints Tryz.underlying74 Tryz.underlying3 (by kernel_rfl) h with ⟨hcs, _⟩ | ⟨a, len, cap, zs, hcs, _, hl, hm, hz, _, hcell, _⟩
  · simp at hcs
    subst hcs
    exact ⟨[], rw_nil _ _⟩
  · simp at hcs
    subst hcs
    have hlm : len ≤ zs.length := by rw [hz]; split <;> omega
    unfold maxLen at hm
    refine ⟨zs.take len, ?_⟩
    unfold Ir
    rw [show (zs.take len).length = len by simp; omega]
    refine rw_mk hl (by omega) (fun h0 => by simp [h0]) (fun h0 => by simp; omega) (fun j u hu => ?_)
    have hj : j < len := by
      have := (List.getElem?_eq_some_iff.1 hu).1
      simp at this
      omega
    have := hcell j (by omega)
    rw [this]
    simp [hj, show j < zs.length by omega] at hu
    simp [show j < zs.length by omega, hu]
theorem node_three : ∃ f0 f1 f2 : Field, Tryz.prog.underlying 76 = some (.struct #[f0, f1, f2]) ∧ f0.type = 72 ∧ f1.type = 73 ∧ f2.type = 74 ∧ f0.offset = 0 ∧ f1.offset = 1 ∧ f2.offset = 2 := ⟨_, _, _, Tryz.underlying76, rfl, rfl, rfl, rfl, rfl, rfl⟩
theorem tree_one : ∃ f0 : Field, Tryz.prog.underlying 24 = some (.struct #[f0]) ∧ f0.type = 22 ∧ f0.offset = 0 := ⟨_, Tryz.underlying24, rfl, rfl⟩
theorem open_nodes {H : Type} {enc : TypeId × Value → H} {w : World} {base : Nat} {spare : Nat → Bool} {held : Bool} {fuel : Nat} {v : Value} {x : DataW H × List MemPlace}
    (h : DataW.trod enc Tryz.prog w base spare held fuel 22 [v] = some x) : ∃ ns : List NB, Nr w (fun _ => True) v ns ∧ szOkN ns := by
  obtain ⟨f0, f1, f2, hs, t0, t1, t2, o0, o1, o2⟩ := node_three
  have k0 : Tryz.prog.cellsOf 72 = 1 := by kernel_rfl
  have k1 : Tryz.prog.cellsOf 73 = 1 := by kernel_rfl
  have k2 : Tryz.prog.cellsOf 74 = 1 := by kernel_rfl
  have k3 : Tryz.prog.cellsOf 76 = 3 := by kernel_rfl
  rcases Go.Deep.open_slice Tryz.underlying22 h with ⟨hcs, _⟩ | ⟨a, len, cap, m, n, D, P, hcs, _, hl, hm, hmm, _, hc⟩
  · simp at hcs
    subst hcs
    exact ⟨[], ⟨[], rfl, rw_nil _ _, fun i hi => by simp at hi⟩, fun i hi => by simp at hi⟩
  · simp at hcs
    subst hcs
    have hlm : len ≤ m := by rw [hmm]; split <;> omega
    simp only [k3] at hc
    have ex : ∀ i, ∃ p : V3 × NB, i < m → w.cell? (a.add (i * 3)) = some p.1.1 ∧ w.cell? (a.add (i * 3 + 1)) = some p.1.2.1 ∧ w.cell? (a.add (i * 3 + 2)) = some p.1.2.2 ∧ N1 w (fun _ => True) p.1 p.2 ∧ szOkP p.2.ps ∧ szOkS p.2.keys := by
      intro i
      by_cases hi : i < m
      · obtain ⟨cs', hcs, hd⟩ := hc i hi
        obtain ⟨_, hcl, hcell⟩ := World.cells?_some hcs
        obtain ⟨y0, y1, y2, n', _, _, d0, d1, d2⟩ := Go.Deep.trod_struct3 hs hd
        rw [t0, o0, k0] at d0
        rw [t1, o1, k1] at d1
        rw [t2, o2, k2] at d2
        obtain ⟨v0, v1, v2, rfl⟩ : ∃ v0 v1 v2, cs' = [v0, v1, v2] := by
          match cs', hcl with
          | [v0, v1, v2], _ => exact ⟨v0, v1, v2, rfl⟩
        simp at d0 d1 d2
        obtain ⟨l0, p0, s0⟩ := open_pairs d0
        obtain ⟨l1, p1, s1⟩ := open_sr d1
        obtain ⟨l2, p2⟩ := open_ir d2
        have c0 := hcell 0 (by omega)
        have c1 := hcell 1 (by omega)
        have c2 := hcell 2 (by omega)
        obtain ⟨cs0, hcs0, _⟩ := hc 0 (by omega)
        have c00 := (World.cells?_some hcs0).2.2 0 (by omega)
        have hcl0 := (World.cells?_some hcs0).2.1
        obtain ⟨b, off, spot⟩ := a
        have hspot : spot = none := by
          have e0 : ∀ x : Addr, x.add 0 = x := fun _ => rfl
          rw [Nat.zero_mul, e0, e0] at c00
          obtain ⟨u0, hu0⟩ : ∃ u, cs0[0]? = some u := ⟨cs0[0]'(by omega), by simp⟩
          exact World.cell?_spot (c00.trans hu0)
        subst hspot
        simp only [Addr.add_lit] at c0 c1 c2
        refine ⟨((v0, v1, v2), ⟨l0, l1, l2⟩), fun _ => ⟨?_, ?_, ?_, ⟨p0, p1, p2⟩, s0, s1⟩⟩
        · simpa [Addr.add_lit] using c0
        · simpa [Addr.add_lit, Nat.add_assoc] using c1
        · simpa [Addr.add_lit, Nat.add_assoc] using c2
      · exact ⟨((.slice none 0 0, .slice none 0 0, .slice none 0 0), ⟨[], [], []⟩), fun h => absurd h hi⟩
    obtain ⟨f, hf⟩ := Classical.axiomOfChoice ex
    unfold maxLen at hm
    refine ⟨(List.range len).map fun i => (f i).2, ⟨(List.range len).map fun i => (f i).1, by simp, ?_, fun i hi => ?_⟩, fun i hi => ?_⟩
    · rw [show ((List.range len).map fun i => (f i).2).length = len by simp]
      refine rw_mk hl (by omega) (fun h0 => by simp [h0, ncs]) (fun h0 => by rw [ncs_length]; simp; omega) (fun j u hu => ?_)
      have hj : j < len * 3 := by
        have := (List.getElem?_eq_some_iff.1 hu).1
        simpa [ncs_length] using this
      have hq := ncs_at ((List.range len).map fun i => (f i).1) (j / 3) (by simp; omega)
      have hv : vAt ((List.range len).map fun i => (f i).1) (j / 3) = (f (j / 3)).1 := by simp [vAt, show j / 3 < len by omega]
      rw [hv] at hq
      have hc := hf (j / 3) (by omega)
      have h3 : j = j / 3 * 3 ∨ j = j / 3 * 3 + 1 ∨ j = j / 3 * 3 + 2 := by omega
      rcases h3 with e | e | e
      · rw [← e, hu] at hq
        rw [← e] at hc
        rw [hc.1, hq.1]
      · rw [← e, hu] at hq
        rw [← e] at hc
        rw [hc.2.1, hq.2.1]
      · rw [← e, hu] at hq
        rw [← e] at hc
        rw [hc.2.2.1, hq.2.2]
    · have hi' : i < len := by simpa using hi
      have := (hf i (by omega)).2.2.2.1
      simpa [vAt, nAt, hi'] using this
    · have hi' : i < len := by simpa using hi
      have := (hf i (by omega)).2.2.2.2
      simpa [nAt, hi'] using this
theorem arr1 {α : Type} {cs : Array α} (h : cs.size = 1) : ∃ a, cs = #[a] := by
  obtain ⟨l⟩ := cs
  match l, h with
  | [a], _ => exact ⟨a, rfl⟩
set_option maxRecDepth 100000 in
theorem open_tree {H : Type} {enc : TypeId × Value → H} {w : World} {base : Nat} {spare : Nat → Bool} {held : Bool} {r : Reach} {b0 : Nat} {v : Value} {d : DataW H} {p : List MemPlace}
    (hv : Value.okWide Tryz.prog w r b0 24 v) (h : DataW.Trod enc Tryz.prog w base spare held 24 v d p) : ∃ (a : Option Addr) (n c : Nat) (ns : List NB), v = .agg #[.slice a n c] ∧ Nr w (fun _ => True) (.slice a n c) ns ∧ szOkN ns := by
  obtain ⟨f0, hs, t0, o0⟩ := tree_one
  obtain ⟨cs, rfl, hsz⟩ := okWide_struct hs hv
  obtain ⟨c0, rfl⟩ := arr1 (hsz.trans (by kernel_rfl))
  obtain ⟨fuel, hf⟩ := h
  obtain ⟨xs, n, _, _, _, hxl, hd⟩ := DataW.trod_struct hs hf
  have k0 : Tryz.prog.cellsOf 22 = 1 := by kernel_rfl
  have h0 := hd 0 f0 rfl
  rw [t0, o0, k0] at h0
  obtain ⟨y, hy⟩ : ∃ y, xs[0]? = some y := ⟨xs[0]'(by rw [hxl]; simp), by simp [show 0 < xs.length by rw [hxl]; simp]⟩
  rw [hy] at h0
  simp [Value.cells] at h0
  obtain ⟨ns, h1, h2⟩ := open_nodes h0
  obtain ⟨a, c, rfl, _⟩ := h1.shape
  exact ⟨a, _, c, ns, rfl, h1, h2⟩
end Go.Proofs.YtkfeefaokghibabGreat
/-
  What is known of slices of edits that come in as arguments.
-/
namespace Go.Proofs.YtkfeefaokghibabGreat
open Go.ChangeShapes Go.WideShapes Go.ChangeAt Go.RowKit
theorem rw_mkE {w : World} {a : Addr} {n c : Nat} {xs : List Value} (hl : n ≤ c) (hc : c ≤ 9223372036854775807) (hx : n = 0 → xs = []) (h0 : 0 < n → 0 < xs.length) (h : ∀ j u, xs[j]? = some u → w.cell? (a.add j) = some u) : Rw w (fun _ => True) (.slice (some a) n c) n xs := by
  refine ⟨_, c, rfl, hl, hc, hx, fun h => by (cases h), fun hp => ?_⟩
  obtain ⟨b, off, spot⟩ := a
  obtain ⟨u, hu⟩ : ∃ u, xs[0]? = some u := ⟨xs[0]'(h0 hp), by simp [h0 hp]⟩
  have hc0 := h 0 u hu
  have hspot : spot = none := by simpa [Addr.add] using World.cell?_spot hc0
  subst hspot
  refine ⟨b, off, rfl, by simpa [Addr.add] using block_lt hc0, trivial, fun j v hv => ?_⟩
  have := h j v hv
  rwa [Addr.add_lit] at this
set_option maxRecDepth 100000 in
theorem edit_three : ∃ f0 f1 f2 : Field, Tryz.prog.underlying 44 = some (.struct #[f0, f1, f2]) ∧ f0.type = 9 ∧ f1.type = 9 ∧ f2.type = 4 ∧ f0.offset = 0 ∧ f1.offset = 1 ∧ f2.offset = 2 := ⟨_, _, _, Tryz.underlying44, rfl, rfl, rfl, rfl, rfl, rfl⟩
set_option maxRecDepth 100000 in
theorem open_edits {H : Type} {enc : TypeId × Value → H} {w : World} {base : Nat} {spare : Nat → Bool} {held : Bool} {fuel : Nat} {v : Value} {x : DataW H × List MemPlace}
    (h : DataW.trod enc Tryz.prog w base spare held fuel 25 [v] = some x) : ∃ l : List ED, Er w (fun _ => True) v l ∧ szOkE l := by
  obtain ⟨f0, f1, f2, hs, t0, t1, t2, o0, o1, o2⟩ := edit_three
  have k0 : Tryz.prog.cellsOf 9 = 1 := by kernel_rfl
  have k2 : Tryz.prog.cellsOf 4 = 1 := by kernel_rfl
  have k3 : Tryz.prog.cellsOf 44 = 3 := by kernel_rfl
  rcases Go.Deep.open_slice Tryz.underlying25 h with ⟨hcs, _⟩ | ⟨a, len, cap, m, n, D, P, hcs, _, hl, hm, hmm, _, hc⟩
  · simp at hcs
    subst hcs
    exact ⟨[], rw_nil _ _, fun i => by simp [eAt]; decide⟩
  · simp at hcs
    subst hcs
    have hlm : len ≤ m := by rw [hmm]; split <;> omega
    simp only [k3] at hc
    have ex : ∀ i, ∃ p : ED, i < m → w.cell? (a.add (i * 3)) = some (.string p.1) ∧ w.cell? (a.add (i * 3 + 1)) = some (.string p.2.1) ∧ w.cell? (a.add (i * 3 + 2)) = some (.bool p.2.2) ∧ p.1.size ≤ maxLen ∧ p.2.1.size ≤ maxLen := by
      intro i
      by_cases hi : i < m
      · obtain ⟨cs', hcs, hd⟩ := hc i hi
        obtain ⟨_, hcl, hcell⟩ := World.cells?_some hcs
        obtain ⟨y0, y1, y2, n', _, _, d0, d1, d2⟩ := Go.Deep.trod_struct3 hs hd
        rw [t0, o0, k0] at d0
        rw [t1, o1, k0] at d1
        rw [t2, o2, k2] at d2
        obtain ⟨v0, v1, v2, rfl⟩ : ∃ v0 v1 v2, cs' = [v0, v1, v2] := by
          match cs', hcl with
          | [v0, v1, v2], _ => exact ⟨v0, v1, v2, rfl⟩
        simp at d0 d1 d2
        obtain ⟨s0, e0, _, l0⟩ := DataW.trod_string Tryz.underlying9 d0
        obtain ⟨s1, e1, _, l1⟩ := DataW.trod_string Tryz.underlying9 d1
        obtain ⟨s2, e2, _⟩ := DataW.trod_bool Tryz.underlying4 d2
        simp at e0 e1 e2
        subst e0 e1 e2
        have c0 := hcell 0 (by omega)
        have c1 := hcell 1 (by omega)
        have c2 := hcell 2 (by omega)
        obtain ⟨cs0, hcs0, _⟩ := hc 0 (by omega)
        have c00 := (World.cells?_some hcs0).2.2 0 (by omega)
        have hcl0 := (World.cells?_some hcs0).2.1
        obtain ⟨b, off, spot⟩ := a
        have hspot : spot = none := by
          have e0 : ∀ x : Addr, x.add 0 = x := fun _ => rfl
          rw [Nat.zero_mul, e0, e0] at c00
          obtain ⟨u0, hu0⟩ : ∃ u, cs0[0]? = some u := ⟨cs0[0]'(by omega), by simp⟩
          exact World.cell?_spot (c00.trans hu0)
        subst hspot
        simp only [Addr.add_lit] at c0 c1 c2
        refine ⟨(s0, s1, s2), fun _ => ⟨?_, ?_, ?_, l0, l1⟩⟩
        · simpa [Addr.add_lit] using c0
        · simpa [Addr.add_lit, Nat.add_assoc] using c1
        · simpa [Addr.add_lit, Nat.add_assoc] using c2
      · exact ⟨(⟨#[]⟩, ⟨#[]⟩, false), fun h => absurd h hi⟩
    obtain ⟨f, hf⟩ := Classical.axiomOfChoice ex
    unfold maxLen at hm hf
    refine ⟨(List.range len).map f, ?_, fun i => ?_⟩
    · unfold Er
      rw [show ((List.range len).map f).length = len by simp]
      refine rw_mkE hl (by omega) (fun h0 => by simp [h0, ecs]) (fun h0 => by rw [ecs_length]; simp; omega) (fun j u hu => ?_)
      have hj : j < len * 3 := by
        have := (List.getElem?_eq_some_iff.1 hu).1
        simpa [ecs_length] using this
      have hq := ecs_at ((List.range len).map f) (j / 3) (by simp; omega)
      have hv : eAt ((List.range len).map f) (j / 3) = f (j / 3) := by simp [eAt, show j / 3 < len by omega]
      rw [hv] at hq
      have hc := hf (j / 3) (by omega)
      have h3 : j = j / 3 * 3 ∨ j = j / 3 * 3 + 1 ∨ j = j / 3 * 3 + 2 := by omega
      rcases h3 with e | e | e
      · rw [← e, hu] at hq
        rw [← e] at hc
        rw [hc.1, hq.1]
      · rw [← e, hu] at hq
        rw [← e] at hc
        rw [hc.2.1, hq.2.1]
      · rw [← e, hu] at hq
        rw [← e] at hc
        rw [hc.2.2.1, hq.2.2]
    · by_cases hi : i < len
      · have := (hf i (by omega)).2.2.2
        simpa [eAt, hi] using this
      · simp [eAt, hi]
        decide
set_option maxRecDepth 100000 in
theorem open_editS {H : Type} {enc : TypeId × Value → H} {w : World} {base : Nat} {spare : Nat → Bool} {held : Bool} {r : Reach} {b0 : Nat} {v : Value} {d : DataW H} {p : List MemPlace}
    (hv : Value.okWide Tryz.prog w r b0 25 v) (h : DataW.Trod enc Tryz.prog w base spare held 25 v d p) : ∃ (a : Option Addr) (n c : Nat) (l : List ED), v = .slice a n c ∧ Er w (fun _ => True) (.slice a n c) l ∧ szOkE l := by
  obtain ⟨a, n, c, rfl⟩ := okWide_slice Tryz.underlying25 hv
  obtain ⟨fuel, hf⟩ := h
  simp [Value.cells] at hf
  obtain ⟨l, h1, h2⟩ := open_edits hf
  exact ⟨a, n, c, l, rfl, h1, h2⟩
end Go.Proofs.YtkfeefaokghibabGreat
