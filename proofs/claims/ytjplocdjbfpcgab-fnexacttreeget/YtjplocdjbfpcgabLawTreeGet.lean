/-
  The law FnExactTreeGet answers true at every tree and key.
-/
import Derived.Test.YtjplocdjbfpcgabGetV
import Derived.Test.YtjplocdjbfpcgabNodeE
import Derived.Test.YtjplocdjbfpcgabNodeN
import Derived.Test.YtjplocdjbfpcgabLawTA
namespace Go.Proofs.Ytjplocdjbfpcgab
open Go.RowKit
set_option maxHeartbeats 8000000 in
theorem lawTreeGet_walk (a : Option Addr) (n c : Nat) (ns : List NB) (k : ByteArray) (w : World) (h : Nr w (fun _ => True) (.slice a n c) ns ∧ szOkN ns) (hk : k.size ≤ maxLen) :
    Calls Try.prog 5 #[.agg #[.slice a n c], .string k] w fun e w' => e = .returned (.bool true) ∧ Below w.heap.size w w' := by
  have HN := hid h.1.len.1
  have T0 := hid (TB.start h.1)
  have HZ := hid h.2
  clear h
  unfold maxLen at hk
  by_cases hbig : 1048576 < k.size
  · have hbig' : (1048576 : Int) < (k.size : Int) := by omega
    go_enter Try.func5, Try.ntmps5
    go_wp2
    go_ret
    exact ⟨rfl, T0.out.bel⟩
  have hbig' : ¬ (1048576 : Int) < (k.size : Int) := by omega
  go_enter Try.func5, Try.ntmps5
  go_wp2_with fail
  refine (szTree_at _ a n c ns _ T0.out.hA HZ.out).mono ?_
  generalize w.alloc (.cells #[.slice a n c] 24) = U at *
  rintro e w1 ⟨⟨x, rfl, hx1, hx2, hx3⟩, hb⟩
  have T1 := hid (T0.out.below hb)
  have HX := hid hx3
  clear hb hx3 T0 HZ
  by_cases hneg : x < 0
  · go_wp2
    go_ret
    exact ⟨rfl, T1.out.bel⟩
  · have HM := hid (HX.out (by omega)).1
    have HS := hid (HX.out (by omega)).2
    have HL : Hid (ns.length ≤ 1048576) := by show _ ≤ _; rw [← HN.out]; exact HM.out
    have c1 := T1.out.cell
    clear HX
    go_wp2_with fail
    refine (toTree_at _ a n c ns _ T1.out.hA HM.out HS.out).mono ?_
    rintro e w2 ⟨g2, rfl, hN2, hb⟩
    have T2 := hid (T1.out.below hb)
    have HN2 := hid hN2
    clear hb hN2 T1 c1
    go_wp2_with fail
    refine (specTreeGet_any ns HL.out HS.out _ _ n n k _ HN2.out).mono ?_
    rintro e w3 ⟨rfl, hb⟩
    have T3 := hid (T2.out.below hb)
    have c3 := T3.out.cell
    have HI := hid (fun (S : Nat → Prop) an nn cn w hN => implTreeGet_any S an nn cn ns k w hN)
    clear hb T2 HN2
    generalize getV ns k = o at *
    obtain ⟨s, z, ho⟩ : ∃ s z, gotV o = .tuple #[.string s, .bool z] := by cases o <;> exact ⟨_, _, rfl⟩
    rw [ho]
    rw [ho] at HI
    clear ho
    go_wp2_with fail
    refine (toTree_at _ a n c ns _ T3.out.hA HM.out HS.out).mono ?_
    rintro e w4 ⟨g4, rfl, hN4, hb⟩
    have T4 := hid (T3.out.below hb)
    have HX4 := hid hN4
    clear hb hN4 T3 c3
    have hb := below_new (o := .cells #[.slice (some ⟨g4, 0, none⟩) n n] 29) (w := w4) (Below.refl _ _)
    have T5 := hid (T4.out.below hb)
    have HX5 := hid (HX4.out.below hb)
    have KX5 := hid (Bk.new w4 29 [.slice (some ⟨g4, 0, none⟩) n n])
    clear hb T4 HX4
    go_wp2_with fail
    refine (HI.out _ _ n n _ HX5.out).mono ?_
    generalize w4.alloc (.cells #[.slice (some ⟨g4, 0, none⟩) n n] 29) = w5 at *
    rintro e w7 ⟨rfl, hb⟩
    have T7 := hid (T5.out.below hb)
    have HX7 := hid (HX5.out.below hb)
    have KX7 := hid (KX5.out.below hb)
    have c6 := T7.out.cell
    have c7 : w7.cell? ⟨w4.heap.size, 0, none⟩ = some (.slice (some ⟨g4, 0, none⟩) n n) := KX7.out.cell (j := 0) rfl
    have TT := hid (kc0_2 c6 c7)
    have hzz : (z != z) = false := by simp
    have hss : (s.toList == s.toList) = true := by simp
    clear hb T5 HX5 KX5 HI
    go_wp2_with fail
    go_region_held3 (fun v => v.cell? ⟨w.heap.size, 0, none⟩ = some (.slice a n c) ∧ v.cell? ⟨w4.heap.size, 0, none⟩ = some (.slice (some ⟨g4, 0, none⟩) n n) ∧ KC w7 v [(⟨w.heap.size, 0, none⟩, .slice a n c), (⟨w4.heap.size, 0, none⟩, .slice (some ⟨g4, 0, none⟩) n n)])
      (first | assumption | exact kc2 (TT.out.call (below_drew _)) | exact kc2c hbC (by assumption))
      (first
        | (go_at_call 11; refine (toTree_at _ a n c ns _ (kb_nr (by assumption) T7.out.hA) HM.out HS.out).mono ?_; rintro e wa ⟨ga, rfl, hNa, hbC⟩; have hNb := kb_nr' hbC (by assumption) HX7.out)
        | (go_at_call 13; refine (eqTree_at _ _ _ _ n n n n ns ns _ hNb hNa).mono ?_; rintro e w8 ⟨rfl, hbC⟩))
    rename_i hS
    have hb := hS.2.2.bel
    have T8 := hid (T7.out.below hb)
    clear hS hNa hNb hbC hb T7 HX7 KX7 TT c6 c7
    go_wp2
    go_ret
    exact ⟨rfl, T8.out.bel⟩
end Go.Proofs.Ytjplocdjbfpcgab
