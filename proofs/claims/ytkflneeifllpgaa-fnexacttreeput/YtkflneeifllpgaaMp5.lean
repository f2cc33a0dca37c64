/-
  The law FnExactTreePut answers true at every tree and text.
-/
import Derived.Test.YtkflneeifllpgaaMp4
import Derived.Test.YtkflneeifllpgaaMp1
import Derived.Deep.SlicePairs
import Derived.WideShapes
import Derived.ChangeSame
import Derived.ProofKit
import Derived.OpenShut
import Derived.Deep.Strs
import Derived.Deep.Slices
import Derived.ChangeSlices
namespace Go.Proofs.Ytkflneeifllpgaa
open Go.RowKit
set_option maxHeartbeats 8000000 in
set_option maxRecDepth 20000 in
theorem lawTreePut_walk (a : Option Addr) (n c : Nat) (ns : List NB) (k v : ByteArray) (w : World) (h : Nr w (fun _ => True) (.slice a n c) ns ∧ szOkN ns) (hk : k.size ≤ maxLen) (hv : v.size ≤ maxLen) :
    Calls Try.prog 4 #[.agg #[.slice a n c], .string k, .string v] w fun e w' => e = .returned (.bool true) ∧ Below w.heap.size w w' := by
  have HN := hid h.1.len.1
  have T0 := hid (TB.start h.1)
  have HZ := hid h.2
  clear h
  unfold maxLen at hk
  by_cases hbigk : 1048576 < k.size
  · have hbig' : (1048576 : Int) < (k.size : Int) := by omega
    go_enter Try.func4, Try.ntmps4
    go_wp2
    go_ret
    exact ⟨rfl, T0.out.bel⟩
  have hbigk' : ¬ (1048576 : Int) < (k.size : Int) := by omega
  unfold maxLen at hv
  by_cases hbigv : 1048576 < v.size
  · have hbig' : (1048576 : Int) < (v.size : Int) := by omega
    go_enter Try.func4, Try.ntmps4
    go_wp2
    go_ret
    exact ⟨rfl, T0.out.bel⟩
  have hbigv' : ¬ (1048576 : Int) < (v.size : Int) := by omega

  go_enter Try.func4, Try.ntmps4
  go_wp2_with fail
  refine (szTree_at _ a n c ns _ T0.out.hA HZ.out).mono ?_
  generalize w.alloc (.cells #[.slice a n c] 40) = U at *
  rintro e w1 ⟨⟨x, rfl, hx1, hx2, hx3⟩, hb⟩
  have T1 := hid (T0.out.below hb)
  have HX := hid hx3
  clear hb hx3 T0 HZ
  by_cases hneg : x < 0
  · go_wp2
    go_ret
    exact ⟨rfl, T1.out.bel⟩
  · have HM := hid (HX.out (by omega)).1
    have HS := hid (HX.out (by omega)).2
    have HL : Hid (ns.length ≤ 1048576) := by show _ ≤ _; rw [← HN.out]; exact HM.out
    have HPO := hid (putV_small ns k v)
    have HSP := hid (fun (w' : World) (S : Nat → Prop) (g : Option Addr) (h' : Nr w' S (.slice g n n) ns) => specTreePut_any ns HL.out HS.out S g n n k v w' h')
    have HIM := hid (fun (w' : World) (S : Nat → Prop) (g : Option Addr) (h' : Nr w' S (.slice g n n) ns) => implTreePut_any S g n n ns k v w' h')
    generalize putV ns k v = o at *
    have hbb : (o.isSome != o.isSome) = false := by cases o <;> rfl
    have HBB := hid hbb
    generalize hms : o.getD [] = ms at *
    have HMS := hid hms
    clear hms
    have c1 := T1.out.cell
    clear HX hbb
    go_wp2_with fail
    refine (toTree_at _ a n c ns _ T1.out.hA HM.out HS.out).mono ?_
    rintro e w2 ⟨g2, rfl, hN2, hb⟩
    have T2 := hid (T1.out.below hb)
    have HN2 := hid hN2
    clear hb hN2 T1 c1
    go_wp2_with fail
    refine (HSP.out _ _ _ HN2.out).mono ?_
    rintro e w3 ⟨a0, n0, c0, rfl, hP, hb⟩
    rw [HMS.out] at hP
    have T3 := hid (T2.out.below hb)
    have P3 : Hid (Nr w3 (fun y => y < w3.heap.size) (.slice a0 n0 c0) ms) := Nr.mono (NewK.new hP) (fun y hy _ => hy.2)
    clear hb T2 HN2 hP HSP
    have hb := below_new (o := .cells #[.slice a0 n0 c0] 25) (w := w3) (Below.refl _ _)
    have T4 := hid (T3.out.below hb)
    have P4 := hid (P3.out.below hb)
    have KW4 := hid (Bk.new w3 25 [.slice a0 n0 c0])
    have c4 := T4.out.cell
    clear hb T3 P3
    go_wp2_with fail
    refine (toTree_at _ a n c ns _ T4.out.hA HM.out HS.out).mono ?_
    generalize w3.alloc (.cells #[.slice a0 n0 c0] 25) = w4 at *
    rintro e w5 ⟨g5, rfl, hN5, hb⟩
    have T5 := hid (T4.out.below hb)
    have P5 := hid (P4.out.below hb)
    have KW5 := hid (KW4.out.below hb)
    obtain ⟨V, hV⟩ := nk_of (S' := fun b => w4.heap.size ≤ b ∧ b < w5.heap.size) hN5 HS.out (fun b h1 h2 => ⟨⟨h1.1, h2⟩, h1.2⟩)
    rw [← HN.out] at hV
    have HV5 := hid hV
    have HX5 : Hid (Nr w5 (fun b => w4.heap.size ≤ b ∧ b < w5.heap.size) (.slice (some ⟨g5, 0, none⟩) n n) ns) := hN5.mono (fun b h1 h2 => ⟨h1.1, h2⟩)
    have S34 := hid KW4.out.lt
    have S45 := hid hb.size
    have S04 := hid T4.out.lt
    clear hb hN5 T4 P4 c4 hV KW4
    have hb := below_new (o := .cells #[.slice (some ⟨g5, 0, none⟩) n n] 25) (w := w5) (Below.refl _ _)
    have T6 := hid (T5.out.below hb)
    have P6 := hid (P5.out.below hb)
    have KW6 := hid (KW5.out.below hb)
    have HV6 := hid (HV5.out.below hb)
    have HX6 := hid (HX5.out.below hb)
    have KX6 := hid (Bk.new w5 25 [.slice (some ⟨g5, 0, none⟩) n n])
    have S56 : Hid (w5.heap.size < (w5.alloc (.cells #[.slice (some ⟨g5, 0, none⟩) n n] 25)).heap.size) := KX6.out.lt
    clear hb T5 P5 HV5 HX5 KW5
    have x6 := KX6.out.cell (j := 0) rfl
    go_wp2_with fail
    refine (HIM.out _ _ _ HX6.out).mono ?_
    generalize w5.alloc (.cells #[.slice (some ⟨g5, 0, none⟩) n n] 25) = w6 at *
    rintro e w7 ⟨vg, rfl, hG, hb⟩
    rw [HMS.out] at hG
    obtain ⟨ag, ng, cg, hvg, -⟩ := hG.shape
    subst hvg
    obtain ⟨VG, hG1, hG2, hG3⟩ := hG
    have G7 := hid hG1
    have HGV := hid hG2
    have HGB := hid hG3
    have T7 := hid (T6.out.below hb)
    have P7 := hid (P6.out.below hb)
    have KW7 := hid (KW6.out.below hb)
    have HV7 := hid (HV6.out.below hb)
    have HX7 := hid (HX6.out.below hb)
    have KX7 := hid (KX6.out.below hb)
    have S67 := hid hb.size
    clear hb hG1 hG2 hG3 T6 P6 KW6 HV6 HX6 KX6 x6
    have hb := below_new (o := .cells #[.slice ag ng cg] 25) (w := w7) (Below.refl _ _)
    have T8 := hid (T7.out.below hb)
    have P8 := hid (P7.out.below hb)
    have KW8 := hid (KW7.out.below hb)
    have HV8 := hid (HV7.out.below hb)
    have HX8 := hid (HX7.out.below hb)
    have KX8 := hid (KX7.out.below hb)
    have G8 := hid (G7.out.kept hb)
    have KG8 := hid (Bk.new w7 25 [.slice ag ng cg])
    have S78 : Hid (w7.heap.size < (w7.alloc (.cells #[.slice ag ng cg] 25)).heap.size) := KG8.out.lt
    have HGL : Hid (∀ i, i < ms.length → ∀ y, bl (vAt VG i) y → w6.heap.size ≤ y ∧ y < w7.heap.size) := fun i hi y hy => ⟨HGB.out i hi y hy, (G7.out.own i hi).1.lt hy⟩
    clear hb T7 P7 KW7 HV7 HX7 KX7 G7 HGB
    have y8 := KW8.out.cell (j := 0) rfl
    have z8 := KG8.out.cell (j := 0) rfl
    have NG8 := hid (G8.out.nr (S := fun _ => True) (fun _ _ => trivial))
    have hbb := HBB.out
    go_wp2_with fail
    refine (eqTree_at (fun _ => True) _ _ _ _ _ _ _ ms ms _ NG8.out P8.out).mono ?_
    generalize w7.alloc (.cells #[.slice ag ng cg] 25) = w8 at *
    rintro e w9 ⟨rfl, hb⟩
    rw [decide_eq_true rfl]
    have T9 := hid (T8.out.below hb)
    have P9 := hid (P8.out.below hb)
    have KW9 := hid (KW8.out.below hb)
    have HV9 := hid (HV8.out.below hb)
    have HX9 := hid (HX8.out.below hb)
    have KX9 := hid (KX8.out.below hb)
    have G9 := hid (G8.out.kept hb)
    have KG9 := hid (KG8.out.below hb)
    clear hb T8 P8 KW8 HV8 HX8 KX8 G8 KG8 y8 z8 NG8
    have c6 := T9.out.cell
    have c7 : w9.cell? ⟨w5.heap.size, 0, none⟩ = some (.slice (some ⟨g5, 0, none⟩) n n) := KX9.out.cell (j := 0) rfl
    have TT := hid (kc0_2 c6 c7)
    go_wp2_with fail
    go_region_held3 (fun v => v.cell? ⟨w.heap.size, 0, none⟩ = some (.slice a n c) ∧ v.cell? ⟨w5.heap.size, 0, none⟩ = some (.slice (some ⟨g5, 0, none⟩) n n) ∧ KC w9 v [(⟨w.heap.size, 0, none⟩, .slice a n c), (⟨w5.heap.size, 0, none⟩, .slice (some ⟨g5, 0, none⟩) n n)])
      (first | assumption | exact kc2 (TT.out.call (below_drew _)) | exact kc2c hbC (by assumption))
      (first
        | (go_at_call 15; refine (toTree_at _ a n c ns _ (kb_nr (by assumption) T9.out.hA) HM.out HS.out).mono ?_; rintro e wa ⟨ga, rfl, hNa, hbC⟩; have hNb := kb_nr' hbC (by assumption) HX9.out)
        | (go_at_call 16; refine (eqTree_at _ _ _ _ n n n n ns ns _ hNb hNa).mono ?_; rintro e wA ⟨rfl, hbC⟩))
    rename_i hS
    have hb := hS.2.2.bel
    have TA := hid (T9.out.below hb)
    have PA := hid (P9.out.below hb)
    have KWA := hid (KW9.out.below hb)
    have HVA := hid (HV9.out.below hb)
    have KXA := hid (KX9.out.below hb)
    have GA := hid (G9.out.kept hb)
    have KGA := hid (KG9.out.below hb)
    have xA : wA.cell? ⟨w5.heap.size, 0, none⟩ = some (.slice (some ⟨g5, 0, none⟩) n n) := KXA.out.cell (j := 0) rfl
    clear hS hNa hNb hbC hb T9 P9 KW9 HV9 HX9 KX9 G9 KG9 TT c6 c7
    go_wp2_with fail
    refine (markTree_any _ _ n n 1 V _ HVA.out HM.out (by omega) (by omega)).mono ?_
    rintro e wB ⟨k9, rfl, hk1, hk2, hm⟩
    have TB' := hid (TA.out.only hm.only (fun b hb => by have := S04.out; omega))
    have PB' : Hid (Nr wB (fun y => y < w3.heap.size) (.slice a0 n0 c0) ms) := PA.out.to hm.only (fun y h1 _ h2 => by have := S34.out; omega)
    have KWB := hid (KWA.out.to hm.only (fun h2 => by have := S34.out; omega))
    have KGB := hid (KGA.out.to hm.only (fun h2 => by have := S56.out; have := S67.out; omega))
    have GB : Hid (NA wB (.slice ag ng cg) VG ms) := GA.out.to hm.only (fun y hy h2 => by have := HGV.out y hy; have := S56.out; omega) (fun i hi y hy h2 => by have := (HGL.out i hi y hy).1; have := S56.out; omega)
    have hk9 : ¬ (k9 : Int) < 0 := by omega
    clear hm hk1 hk2 TA PA KWA HVA KXA GA KGA xA
    have yB := KWB.out.cell (j := 0) rfl
    have zB := KGB.out.cell (j := 0) rfl
    have NGB := hid (GB.out.nr (S := fun _ => True) (fun _ _ => trivial))
    go_wp2_with fail
    refine (eqTree_at (fun _ => True) _ _ _ _ _ _ _ ms ms _ NGB.out PB'.out).mono ?_
    rintro e wC ⟨rfl, hb⟩
    rw [decide_eq_true rfl]
    have TC := hid (TB'.out.below hb)
    have PC := hid (PB'.out.below hb)
    have KWC := hid (KWB.out.below hb)
    have GC := hid (GB.out.kept hb)
    have KGC := hid (KGB.out.below hb)
    clear hb TB' PB' KWB GB KGB yB zB NGB
    have zC := KGC.out.cell (j := 0) rfl
    go_wp2_with fail
    refine (markTree_ex ag ng cg 1 VG ms _ GC.out HPO.out.1 HPO.out.2 (by omega) (by omega)).mono ?_
    rintro e wD ⟨rfl, hm, ho⟩
    have MD := hid hm
    have TD := hid (TC.out.only ho (fun b ⟨i, hi, hb⟩ => by have := (HGL.out i hi b hb).1; have := S04.out; have := S45.out; have := S56.out; omega))
    have PD : Hid (Nr wD (fun y => y < w3.heap.size) (.slice a0 n0 c0) ms) := PC.out.to ho (fun y h1 _ ⟨i, hi, hb⟩ => by have := (HGL.out i hi y hb).1; have := S34.out; have := S45.out; have := S56.out; omega)
    have KWD := hid (KWC.out.to ho (fun ⟨i, hi, hb⟩ => by have := (HGL.out i hi _ hb).1; have := S34.out; have := S45.out; have := S56.out; omega))
    have KGD := hid (KGC.out.to ho (fun ⟨i, hi, hb⟩ => by have := (HGL.out i hi _ hb).2; omega))
    clear hm ho TC PC KWC GC KGC zC
    have HTH := hid (fun v (h : MkT v (.slice ag ng cg) VG ms 1) => heldTree_any ag ng cg 1 VG ms v h HPO.out.1 HPO.out.2 (by omega) (by omega))
    generalize 1 + offN ms ms.length = q at *
    have hq0 : ¬ (q : Int) < 0 := by omega
    have hqq : ((q : Int) != (q : Int)) = false := by simp
    have zD := KGD.out.cell (j := 0) rfl
    go_wp2_with fail
    refine (HTH.out _ MD.out).mono ?_
    rintro e wE ⟨rfl, hb⟩
    have TE := hid (TD.out.below hb)
    have PE := hid (PD.out.below hb)
    have KWE := hid (KWD.out.below hb)
    have KGE := hid (KGD.out.below hb)
    have ME := hid (MD.out.below hb)
    have cE := TE.out.cell
    clear hb TD PD KWD KGD MD zD
    go_wp2_with fail
    refine (toTree_at _ a n c ns _ TE.out.hA HM.out HS.out).mono ?_
    rintro e wF ⟨gF, rfl, hNF, hb⟩
    have TF := hid (TE.out.below hb)
    have PF := hid (PE.out.below hb)
    have KWF := hid (KWE.out.below hb)
    have KGF := hid (KGE.out.below hb)
    have MF := hid (ME.out.below hb)
    have HNF := hid hNF
    clear hb hNF TE PE KWE KGE ME cE
    go_wp2_with fail
    refine (HIM.out _ _ _ HNF.out).mono ?_
    rintro e wG ⟨vh, rfl, hG, hb⟩
    rw [HMS.out] at hG
    obtain ⟨ah, nh, ch, hvh, -⟩ := hG.shape
    subst hvh
    obtain ⟨VH, hG1, -, -⟩ := hG
    have TG := hid (TF.out.below hb)
    have PG := hid (PF.out.below hb)
    have KWG := hid (KWF.out.below hb)
    have KGG := hid (KGF.out.below hb)
    have MG := hid (MF.out.below hb)
    have NH := hid (hG1.nr (S := fun _ => True) (fun _ _ => trivial))
    clear hb hG1 TF PF KWF KGF MF HNF
    have hb := below_new (o := .cells #[.slice ah nh ch] 25) (w := wG) (Below.refl _ _)
    have TI := hid (TG.out.below hb)
    have PI := hid (PG.out.below hb)
    have KWI := hid (KWG.out.below hb)
    have KGI := hid (KGG.out.below hb)
    have MI := hid (MG.out.below hb)
    have NHI := hid (NH.out.below hb)
    have KHI := hid (Bk.new wG 25 [.slice ah nh ch])
    have yI := KWI.out.cell (j := 0) rfl
    have zI := KHI.out.cell (j := 0) rfl
    clear hb TG PG KWG KGG MG NH
    go_wp2_with fail
    refine (eqTree_at (fun _ => True) _ _ _ _ _ _ _ ms ms _ NHI.out PI.out).mono ?_
    generalize wG.alloc (.cells #[.slice ah nh ch] 25) = wI at *
    rintro e wJ ⟨rfl, hb⟩
    rw [decide_eq_true rfl]
    have TJ := hid (TI.out.below hb)
    have KGJ := hid (KGI.out.below hb)
    have MJ := hid (MI.out.below hb)
    have zJ := KGJ.out.cell (j := 0) rfl
    clear hb TI PI KWI KGI MI NHI KHI yI zI
    go_wp2_with fail
    refine (HTH.out _ MJ.out).mono ?_
    rintro e wK ⟨rfl, hb⟩
    have TK := hid (TJ.out.below hb)
    clear hb TJ KGJ MJ zJ HTH
    go_wp2
    go_ret
    exact ⟨rfl, TK.out.bel⟩
end Go.Proofs.Ytkflneeifllpgaa
/-
  What is known of slices of pairs that come in as arguments.
-/
namespace Go.Proofs.Ytkflneeifllpgaa
open Go.ChangeShapes Go.WideShapes Go.ChangeAt Go.RowKit

theorem pair_two : ∃ f0 f1 : Field, Try.prog.underlying 187 = some (.struct #[f0, f1]) ∧ f0.type = 9 ∧ f1.type = 9 ∧ f0.offset = 0 ∧ f1.offset = 1 := ⟨_, _, Try.underlying187, rfl, rfl, rfl, rfl⟩
theorem open_pairs {H : Type} {enc : TypeId × Value → H} {w : World} {base : Nat} {spare : Nat → Bool} {held : Bool} {fuel : Nat} {v : Value} {x : DataW H × List MemPlace}
    (h : DataW.trod enc Try.prog w base spare held fuel 132 [v] = some x) : ∃ l : List PB, Pr w (fun _ => True) v l ∧ szOkP l := by
  obtain ⟨f0, f1, hs, t0, t1, o0, o1⟩ := pair_two
  have k : Try.prog.cellsOf 9 = 1 := by kernel_rfl
  rcases Go.Deep.open_slice_pairs Try.underlying132 hs (by kernel_rfl) o0 o1 (by rw [t0]; exact k) (by rw [t1]; exact k) h with ⟨hcs, _⟩ | ⟨a, len, cap, m, n, V0, V1, D0, D1, P0, P1, hcs, _, hl, hm, hmm, _, hc⟩
  · simp at hcs
    subst hcs
    exact ⟨[], rw_nil _ _, fun i => by simp [pAtB]; decide⟩
  · simp at hcs
    subst hcs
    have hlm : len ≤ m := by rw [hmm]; split <;> omega
    have ex : ∀ i, ∃ p : PB, i < m → w.cell? (a.add (i * 2)) = some (.string p.1) ∧ w.cell? (a.add (i * 2 + 1)) = some (.string p.2) ∧ p.1.size ≤ maxLen ∧ p.2.size ≤ maxLen := by
      intro i
      by_cases hi : i < m
      · obtain ⟨c0, c1, d0, d1⟩ := hc i hi
        rw [t0] at d0
        rw [t1] at d1
        obtain ⟨s0, e0, _, l0⟩ := DataW.trod_string Try.underlying9 d0
        obtain ⟨s1, e1, _, l1⟩ := DataW.trod_string Try.underlying9 d1
        simp at e0 e1
        exact ⟨(s0, s1), fun _ => ⟨by rw [c0, e0], by rw [c1, e1], l0, l1⟩⟩
      · exact ⟨(⟨#[]⟩, ⟨#[]⟩), fun h => absurd h hi⟩
    obtain ⟨f, hf⟩ := Classical.axiomOfChoice ex
    unfold maxLen at hm hf
    refine ⟨(List.range len).map f, ?_, fun i => ?_⟩
    · refine ⟨_, cap, by simp; rfl, by simpa using hl, by omega, fun h0 => ?_, fun h0 => (by cases h0), fun hp => ?_⟩
      · simp at h0; subst h0; rfl
      · simp at hp
        obtain ⟨b, off, spot⟩ := a
        have hc0 := (hf 0 (by omega)).1
        have hspot : spot = none := by simpa [Addr.add] using World.cell?_spot hc0
        subst hspot
        refine ⟨b, off, rfl, by simpa [Addr.add] using block_lt hc0, trivial, fun j u hu => ?_⟩
        have hj : j < len * 2 := by
          have := (List.getElem?_eq_some_iff.1 hu).1
          simpa [pcs_length] using this
        rcases Nat.mod_two_eq_zero_or_one j with e | e
        · have h1 := (pcs_at ((List.range len).map f) (j / 2) (by simp; omega)).1
          rw [show j / 2 * 2 = j by omega, hu] at h1
          have h2 := (hf (j / 2) (by omega)).1
          rw [Addr.add_lit, show j / 2 * 2 = j by omega] at h2
          rw [h2, h1]
          simp [pAtB, show j / 2 < len by omega]
        · have h1 := (pcs_at ((List.range len).map f) (j / 2) (by simp; omega)).2
          rw [show j / 2 * 2 + 1 = j by omega, hu] at h1
          have h2 := (hf (j / 2) (by omega)).2.1
          rw [Addr.add_lit, show j / 2 * 2 + 1 = j by omega] at h2
          rw [h2, h1]
          simp [pAtB, show j / 2 < len by omega]
    · by_cases hi : i < len
      · have := hf i (by omega)
        simp [pAtB, hi]
        omega
      · simp [pAtB, hi]
        decide
set_option maxRecDepth 100000 in
theorem open_pairS {H : Type} {enc : TypeId × Value → H} {w : World} {base : Nat} {spare : Nat → Bool} {held : Bool} {r : Reach} {b0 : Nat} {v : Value} {d : DataW H} {p : List MemPlace}
    (hv : Value.okWide Try.prog w r b0 132 v) (h : DataW.Trod enc Try.prog w base spare held 132 v d p) : ∃ (a : Option Addr) (n c : Nat) (l : List PB), v = .slice a n c ∧ Pr w (fun _ => True) (.slice a n c) l ∧ szOkP l := by
  obtain ⟨a, n, c, rfl⟩ := okWide_slice Try.underlying132 hv
  obtain ⟨fuel, hf⟩ := h
  simp [Value.cells] at hf
  obtain ⟨l, h1, h2⟩ := open_pairs hf
  exact ⟨a, n, c, l, rfl, h1, h2⟩
end Go.Proofs.Ytkflneeifllpgaa
/-
  What is known of trees that come in as arguments.
-/
namespace Go.Proofs.Ytkflneeifllpgaa
open Go.ChangeShapes Go.WideShapes Go.ChangeAt Go.RowKit

theorem rw_mk {w : World} {a : Addr} {n c : Nat} {xs : List Value} (hl : n ≤ c) (hc : c ≤ 9223372036854775807) (hx : n = 0 → xs = []) (h0 : 0 < n → 0 < xs.length) (h : ∀ j u, xs[j]? = some u → w.cell? (a.add j) = some u) : Rw w (fun _ => True) (.slice (some a) n c) n xs := by
  refine ⟨_, c, rfl, hl, hc, hx, fun h => by (cases h), fun hp => ?_⟩
  obtain ⟨b, off, spot⟩ := a
  obtain ⟨u, hu⟩ : ∃ u, xs[0]? = some u := ⟨xs[0]'(h0 hp), by simp [h0 hp]⟩
  have hc0 := h 0 u hu
  have hspot : spot = none := by simpa [Addr.add] using World.cell?_spot hc0
  subst hspot
  refine ⟨b, off, rfl, by simpa [Addr.add] using block_lt hc0, trivial, fun j v hv => ?_⟩
  have := h j v hv
  rwa [Addr.add_lit] at this
theorem open_sr {H : Type} {enc : TypeId × Value → H} {w : World} {base : Nat} {spare : Nat → Bool} {held : Bool} {fuel : Nat} {v : Value} {x : DataW H × List MemPlace}
    (h : DataW.trod enc Try.prog w base spare held fuel 104 [v] = some x) : ∃ l : List ByteArray, Sr w (fun _ => True) v l ∧ szOkS l := by
  rcases Go.Deep.open_strs Try.underlying104 Try.underlying9 (by kernel_rfl) h with ⟨hcs, _⟩ | ⟨a, len, cap, m, Sx, hcs, _, hl, hm, hmm, _, hc⟩
  · simp at hcs
    subst hcs
    exact ⟨[], rw_nil _ _, fun i => by simp [sAt]; decide⟩
  · simp at hcs
    subst hcs
    have hlm : len ≤ m := by rw [hmm]; split <;> omega
    unfold maxLen at hm hc
    refine ⟨(List.range len).map Sx, ?_, fun i => ?_⟩
    · unfold Sr
      rw [show ((List.range len).map Sx).length = len by simp]
      refine rw_mk hl (by omega) (fun h0 => by simp [h0]) (fun h0 => by simpa using h0) (fun j u hu => ?_)
      have hj : j < len := by
        have := (List.getElem?_eq_some_iff.1 hu).1
        simpa using this
      simp [hj] at hu
      rw [← hu]
      exact (hc j (by omega)).1
    · by_cases hi : i < len
      · have := (hc i (by omega)).2
        simp [sAt, hi]
        omega
      · simp [sAt, hi]
        decide
theorem open_ir {H : Type} {enc : TypeId × Value → H} {w : World} {base : Nat} {spare : Nat → Bool} {held : Bool} {fuel : Nat} {v : Value} {x : DataW H × List MemPlace}
    (h : DataW.trod enc Try.prog w base spare held fuel 88 [v] = some x) : ∃ l : List Int, Ir w (fun _ => True) v l := by
  rcases open_ints Try.underlying88 Try.underlying3 (by kernel_rfl) h with ⟨hcs, _⟩ | ⟨a, len, cap, zs, hcs, _, hl, hm, hz, _, hcell, _⟩
  · simp at hcs
    subst hcs
    exact ⟨[], rw_nil _ _⟩
  · simp at hcs
    subst hcs
    have hlm : len ≤ zs.length := by rw [hz]; split <;> omega
    unfold maxLen at hm
    refine ⟨zs.take len, ?_⟩
    unfold Ir
    rw [show (zs.take len).length = len by simp; omega]
    refine rw_mk hl (by omega) (fun h0 => by simp [h0]) (fun h0 => by simp; omega) (fun j u hu => ?_)
    have hj : j < len := by
      have := (List.getElem?_eq_some_iff.1 hu).1
      simp at this
      omega
    have := hcell j (by omega)
    rw [this]
    simp [hj, show j < zs.length by omega] at hu
    simp [show j < zs.length by omega, hu]
theorem node_three : ∃ f0 f1 f2 : Field, Try.prog.underlying 134 = some (.struct #[f0, f1, f2]) ∧ f0.type = 132 ∧ f1.type = 104 ∧ f2.type = 88 ∧ f0.offset = 0 ∧ f1.offset = 1 ∧ f2.offset = 2 := ⟨_, _, _, Try.underlying134, rfl, rfl, rfl, rfl, rfl, rfl⟩
theorem tree_one : ∃ f0 : Field, Try.prog.underlying 40 = some (.struct #[f0]) ∧ f0.type = 38 ∧ f0.offset = 0 := ⟨_, Try.underlying40, rfl, rfl⟩
theorem open_nodes {H : Type} {enc : TypeId × Value → H} {w : World} {base : Nat} {spare : Nat → Bool} {held : Bool} {fuel : Nat} {v : Value} {x : DataW H × List MemPlace}
    (h : DataW.trod enc Try.prog w base spare held fuel 38 [v] = some x) : ∃ ns : List NB, Nr w (fun _ => True) v ns ∧ szOkN ns := by
  obtain ⟨f0, f1, f2, hs, t0, t1, t2, o0, o1, o2⟩ := node_three
  have k0 : Try.prog.cellsOf 132 = 1 := by kernel_rfl
  have k1 : Try.prog.cellsOf 104 = 1 := by kernel_rfl
  have k2 : Try.prog.cellsOf 88 = 1 := by kernel_rfl
  have k3 : Try.prog.cellsOf 134 = 3 := by kernel_rfl
  rcases Go.Deep.open_slice Try.underlying38 h with ⟨hcs, _⟩ | ⟨a, len, cap, m, n, D, P, hcs, _, hl, hm, hmm, _, hc⟩
  · simp at hcs
    subst hcs
    exact ⟨[], ⟨[], rfl, rw_nil _ _, fun i hi => by simp at hi⟩, fun i hi => by simp at hi⟩
  · simp at hcs
    subst hcs
    have hlm : len ≤ m := by rw [hmm]; split <;> omega
    simp only [k3] at hc
    have ex : ∀ i, ∃ p : V3 × NB, i < m → w.cell? (a.add (i * 3)) = some p.1.1 ∧ w.cell? (a.add (i * 3 + 1)) = some p.1.2.1 ∧ w.cell? (a.add (i * 3 + 2)) = some p.1.2.2 ∧ N1 w (fun _ => True) p.1 p.2 ∧ szOkP p.2.ps ∧ szOkS p.2.keys := by
      intro i
      by_cases hi : i < m
      · obtain ⟨cs', hcs, hd⟩ := hc i hi
        obtain ⟨_, hcl, hcell⟩ := World.cells?_some hcs
        obtain ⟨y0, y1, y2, n', _, _, d0, d1, d2⟩ := Go.Deep.trod_struct3 hs hd
        rw [t0, o0, k0] at d0
        rw [t1, o1, k1] at d1
        rw [t2, o2, k2] at d2
        obtain ⟨v0, v1, v2, rfl⟩ : ∃ v0 v1 v2, cs' = [v0, v1, v2] := by
          match cs', hcl with
          | [v0, v1, v2], _ => exact ⟨v0, v1, v2, rfl⟩
        simp at d0 d1 d2
        obtain ⟨l0, p0, s0⟩ := open_pairs d0
        obtain ⟨l1, p1, s1⟩ := open_sr d1
        obtain ⟨l2, p2⟩ := open_ir d2
        have c0 := hcell 0 (by omega)
        have c1 := hcell 1 (by omega)
        have c2 := hcell 2 (by omega)
        obtain ⟨cs0, hcs0, _⟩ := hc 0 (by omega)
        have c00 := (World.cells?_some hcs0).2.2 0 (by omega)
        have hcl0 := (World.cells?_some hcs0).2.1
        obtain ⟨b, off, spot⟩ := a
        have hspot : spot = none := by
          have e0 : ∀ x : Addr, x.add 0 = x := fun _ => rfl
          rw [Nat.zero_mul, e0, e0] at c00
          obtain ⟨u0, hu0⟩ : ∃ u, cs0[0]? = some u := ⟨cs0[0]'(by omega), by simp⟩
          exact World.cell?_spot (c00.trans hu0)
        subst hspot
        simp only [Addr.add_lit] at c0 c1 c2
        refine ⟨((v0, v1, v2), ⟨l0, l1, l2⟩), fun _ => ⟨?_, ?_, ?_, ⟨p0, p1, p2⟩, s0, s1⟩⟩
        · simpa [Addr.add_lit] using c0
        · simpa [Addr.add_lit, Nat.add_assoc] using c1
        · simpa [Addr.add_lit, Nat.add_assoc] using c2
      · exact ⟨((.slice none 0 0, .slice none 0 0, .slice none 0 0), ⟨[], [], []⟩), fun h => absurd h hi⟩
    obtain ⟨f, hf⟩ := Classical.axiomOfChoice ex
    unfold maxLen at hm
    refine ⟨(List.range len).map fun i => (f i).2, ⟨(List.range len).map fun i => (f i).1, by simp, ?_, fun i hi => ?_⟩, fun i hi => ?_⟩
    · rw [show ((List.range len).map fun i => (f i).2).length = len by simp]
      refine rw_mk hl (by omega) (fun h0 => by simp [h0, ncs]) (fun h0 => by rw [ncs_length]; simp; omega) (fun j u hu => ?_)
      have hj : j < len * 3 := by
        have := (List.getElem?_eq_some_iff.1 hu).1
        simpa [ncs_length] using this
      have hq := ncs_at ((List.range len).map fun i => (f i).1) (j / 3) (by simp; omega)
      have hv : vAt ((List.range len).map fun i => (f i).1) (j / 3) = (f (j / 3)).1 := by simp [vAt, show j / 3 < len by omega]
      rw [hv] at hq
      have hc := hf (j / 3) (by omega)
      have h3 : j = j / 3 * 3 ∨ j = j / 3 * 3 + 1 ∨ j = j / 3 * 3 + 2 := by omega
      rcases h3 with e | e | e
      · rw [← e, hu] at hq
        rw [← e] at hc
        rw [hc.1, hq.1]
      · rw [← e, hu] at hq
        rw [← e] at hc
        rw [hc.2.1, hq.2.1]
      · rw [← e, hu] at hq
        rw [← e] at hc
        rw [hc.2.2.1, hq.2.2]
    · have hi' : i < len := by simpa using hi
      have := (hf i (by omega)).2.2.2.1
      simpa [vAt, nAt, hi'] using this
    · have hi' : i < len := by simpa using hi
      have := (hf i (by omega)).2.2.2.2
      simpa [nAt, hi'] using this
theorem arr1 {α : Type} {cs : Array α} (h : cs.size = 1) : ∃ a, cs = #[a] := by
  obtain ⟨l⟩ := cs
  match l, h with
  | [a], _ => exact ⟨a, rfl⟩
set_option maxRecDepth 100000 in
theorem open_tree {H : Type} {enc : TypeId × Value → H} {w : World} {base : Nat} {spare : Nat → Bool} {held : Bool} {r : Reach} {b0 : Nat} {v : Value} {d : DataW H} {p : List MemPlace}
    (hv : Value.okWide Try.prog w r b0 40 v) (h : DataW.Trod enc Try.prog w base spare held 40 v d p) : ∃ (a : Option Addr) (n c : Nat) (ns : List NB), v = .agg #[.slice a n c] ∧ Nr w (fun _ => True) (.slice a n c) ns ∧ szOkN ns := by
  obtain ⟨f0, hs, t0, o0⟩ := tree_one
  obtain ⟨cs, rfl, hsz⟩ := okWide_struct hs hv
  obtain ⟨c0, rfl⟩ := arr1 (hsz.trans (by kernel_rfl))
  obtain ⟨fuel, hf⟩ := h
  obtain ⟨xs, n, _, _, _, hxl, hd⟩ := DataW.trod_struct hs hf
  have k0 : Try.prog.cellsOf 38 = 1 := by kernel_rfl
  have h0 := hd 0 f0 rfl
  rw [t0, o0, k0] at h0
  obtain ⟨y, hy⟩ : ∃ y, xs[0]? = some y := ⟨xs[0]'(by rw [hxl]; simp), by simp [show 0 < xs.length by rw [hxl]; simp]⟩
  rw [hy] at h0
  simp [Value.cells] at h0
  obtain ⟨ns, h1, h2⟩ := open_nodes h0
  obtain ⟨a, c, rfl, _⟩ := h1.shape
  exact ⟨a, _, c, ns, rfl, h1, h2⟩
end Go.Proofs.Ytkflneeifllpgaa
