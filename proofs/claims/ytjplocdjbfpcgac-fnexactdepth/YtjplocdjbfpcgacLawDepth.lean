/-
  The law FnExactDepth answers true at every tree.
-/
import Derived.Test.YtjplocdjbfpcgacDpV
import Derived.Test.YtjplocdjbfpcgacNodeE
import Derived.Test.YtjplocdjbfpcgacNodeN
namespace Go.Proofs.Ytjplocdjbfpcgac
open Go.RowKit
theorem kb_nr {u v : World} {p0 p1 : Addr} {x0 x1 : Value} {S : Nat → Prop} {y : Value} {ns : List NB} (h : v.cell? p0 = some x0 ∧ v.cell? p1 = some x1 ∧ KC u v [(p0, x0), (p1, x1)]) (hN : Nr u S y ns) : Nr v S y ns := hN.below h.2.2.bel
theorem kb_nr' {u v v' : World} {p0 p1 : Addr} {x0 x1 : Value} {S : Nat → Prop} {y : Value} {ns : List NB} (hb : Below v.heap.size v v') (h : v.cell? p0 = some x0 ∧ v.cell? p1 = some x1 ∧ KC u v [(p0, x0), (p1, x1)]) (hN : Nr u S y ns) : Nr v' S y ns := (kb_nr h hN).below hb
set_option maxHeartbeats 4000000 in
theorem lawDepth_walk (a : Option Addr) (n c : Nat) (ns : List NB) (w : World) (h : Nr w (fun _ => True) (.slice a n c) ns ∧ szOkN ns) :
    Calls Try.prog 4 #[.agg #[.slice a n c]] w fun e w' => e = .returned (.bool true) ∧ Below w.heap.size w w' := by
  have HN := hid h.1.len.1
  have HB0 := hid (below_new (o := .cells #[.slice a n c] 38) (w := w) (Below.refl _ _))
  have K0 := hid (Bk.new w 38 [.slice a n c])
  have H0 := hid (h.1.below HB0.out)
  have HZ := hid h.2
  clear h
  go_enter Try.func4, Try.ntmps4
  go_wp2_with fail
  refine (szTree_at _ a n c ns _ H0.out HZ.out).mono ?_
  generalize w.alloc (.cells #[.slice a n c] 38) = U at *
  rintro e w1 ⟨⟨x, rfl, hx1, hx2, hx3⟩, hb⟩
  have HB1 := hid (HB0.out.trans (hb.mono HB0.out.size))
  have K1 := hid (K0.out.below hb)
  have H1 := hid (H0.out.below hb)
  have HX := hid hx3
  clear hb hx3 HB0 K0 H0 HZ
  by_cases hneg : x < 0
  · go_wp2
    go_ret
    exact ⟨rfl, HB1.out⟩
  · have HM := hid (HX.out (by omega)).1
    have HS := hid (HX.out (by omega)).2
    have HL : Hid (ns.length ≤ 1048576) := by show _ ≤ _; rw [← HN.out]; exact HM.out
    have c1 : w1.cell? ⟨w.heap.size, 0, none⟩ = some (.slice a n c) := K1.out.cell (j := 0) rfl
    clear HX
    go_wp2_with fail
    refine (toTree_at _ a n c ns _ H1.out HM.out HS.out).mono ?_
    rintro e w2 ⟨g2, rfl, hN2, hb⟩
    have HB2 := hid (HB1.out.trans (hb.mono HB1.out.size))
    have K2 := hid (K1.out.below hb)
    have H2 := hid (H1.out.below hb)
    have HN2 := hid hN2
    clear hb hN2 HB1 K1 H1 c1
    go_wp2_with fail
    refine (specDepth_any ns HL.out HS.out _ _ n n _ HN2.out).mono ?_
    rintro e w3 ⟨rfl, hb⟩
    have HB3 := hid (HB2.out.trans (hb.mono HB2.out.size))
    have K3 := hid (K2.out.below hb)
    have H3 := hid (H2.out.below hb)
    have c3 : w3.cell? ⟨w.heap.size, 0, none⟩ = some (.slice a n c) := K3.out.cell (j := 0) rfl
    clear hb HB2 K2 H2 HN2
    generalize hZ : dpV ns = Z at *
    have HQ := hid hZ
    have HO : Hid (dpV ns = Z) := hZ
    clear hZ
    go_wp2_with fail
    refine (toTree_at _ a n c ns _ H3.out HM.out HS.out).mono ?_
    rintro e w4 ⟨g4, rfl, hN4, hb⟩
    have HB4 := hid (HB3.out.trans (hb.mono HB3.out.size))
    have K4 := hid (K3.out.below hb)
    have H4 := hid (H3.out.below hb)
    have HN4 := hid hN4
    clear hb hN4 HB3 K3 H3 c3
    have hb := below_new (o := .cells #[.slice (some ⟨g4, 0, none⟩) n n] 26) (w := w4) (Below.refl _ _)
    have HB5 := hid (HB4.out.trans (hb.mono HB4.out.size))
    have K5 := hid (K4.out.below hb)
    have H5 := hid (H4.out.below hb)
    have HN5 := hid (HN4.out.below hb)
    have KX5 := hid (Bk.new w4 26 [.slice (some ⟨g4, 0, none⟩) n n])
    clear hb HB4 K4 H4 HN4
    go_wp2_with fail
    refine (implDepth_any _ _ n n ns _ HN5.out).mono ?_
    generalize w4.alloc (.cells #[.slice (some ⟨g4, 0, none⟩) n n] 26) = w5 at *
    rintro e w6 ⟨rfl, hb⟩
    rw [HO.out]
    have HB6 := hid (HB5.out.trans (hb.mono HB5.out.size))
    have K6 := hid (K5.out.below hb)
    have H6 := hid (H5.out.below hb)
    have HN6 := hid (HN5.out.below hb)
    have KX6 := hid (KX5.out.below hb)
    have c6 : w6.cell? ⟨w.heap.size, 0, none⟩ = some (.slice a n c) := K6.out.cell (j := 0) rfl
    have c7 : w6.cell? ⟨w4.heap.size, 0, none⟩ = some (.slice (some ⟨g4, 0, none⟩) n n) := KX6.out.cell (j := 0) rfl
    have hne : (Z != Z) = false := by simp
    have T0 := hid (kc0_2 c6 c7)
    clear hb HB5 K5 H5 HN5 KX5 K6 KX6 HQ HO
    go_wp2_with fail
    go_region_held3 (fun v => v.cell? ⟨w.heap.size, 0, none⟩ = some (.slice a n c) ∧ v.cell? ⟨w4.heap.size, 0, none⟩ = some (.slice (some ⟨g4, 0, none⟩) n n) ∧ KC w6 v [(⟨w.heap.size, 0, none⟩, .slice a n c), (⟨w4.heap.size, 0, none⟩, .slice (some ⟨g4, 0, none⟩) n n)])
      (first | assumption | exact kc2 (T0.out.call (below_drew _)) | exact kc2c hbC (by assumption))
      (first
        | (go_at_call 16; refine (toTree_at _ a n c ns _ (kb_nr (by assumption) H6.out) HM.out HS.out).mono ?_; rintro e w7 ⟨g7, rfl, hN7, hbC⟩; have hN8 := kb_nr' hbC (by assumption) HN6.out)
        | (go_at_call 9; refine (eqTree_at _ _ _ _ n n n n ns ns _ hN8 hN7).mono ?_; rintro e w8 ⟨rfl, hbC⟩))
    rename_i hS
    have HB8 := hid (Below.then' HB6.out hS.2.2.bel (Nat.le_refl _))
    clear hS hN7 hN8 hbC
    go_wp2
    go_ret
    exact ⟨rfl, HB8.out⟩
end Go.Proofs.Ytjplocdjbfpcgac
