/-
  The law FnExactDataOk answers true at every slice of pairs.
-/
import Derived.Test.YtnbafoennnhppaaPairL
import Derived.Test.YtnbafoennnhppaaSeB
namespace Go.Proofs.Ytnbafoennnhppaa
open Go.RowKit
set_option maxHeartbeats 2000000 in
theorem lawDataOk_walk (a : Option Addr) (n c : Nat) (l : List PB) (w : World) (h : Pr w (fun _ => True) (.slice a n c) l ∧ szOkP l) :
    Calls Try.prog 4 #[.slice a n c] w fun e w' => e = .returned (.bool true) ∧ Below w.heap.size w w' := by
  have H0 := hid h.1
  have HZ := hid h.2
  have HN := hid (Rw.len h.1).1
  clear h
  go_enter Try.func4, Try.ntmps4
  go_wp2_with fail
  refine (szPairS_at _ a n c l 1048576 _ H0.out HZ.out (by omega) (by omega)).mono ?_
  rintro e w' ⟨⟨x, rfl, hx, hx1, hx2⟩, hb0⟩
  by_cases hneg : x < 0
  · have HB := hid hb0
    clear hb0
    go_wp2
    go_ret
    exact ⟨rfl, HB.out⟩
  · have hn : n ≤ 1048576 := hx2 (by omega)
    have hb1 := hb0
    have H1 := hid (H0.out.below hb1)
    clear hx hx2 hb0
    go_wp2_with fail
    refine (toPairS_at _ a n c l _ H1.out hn).mono ?_
    rintro e w1 ⟨rfl, K1, hb2⟩
    have hb2' := hb1.trans (hb2.mono hb1.size)
    have H2 := hid (K1.pr HN.out (by omega) (fun _ => True) trivial)
    clear hb1 hb2 K1 H1
    go_wp2_with fail
    refine (specDataOk_at _ _ n n l _ H2.out hn).mono ?_
    rintro e w2 ⟨rfl, hb3⟩
    have hb3' := hb2'.trans (hb3.mono hb2'.size)
    have H3 := hid (H0.out.below hb3')
    clear hb3 hb2' H2
    go_wp2_with fail
    refine (toPairS_at _ a n c l _ H3.out hn).mono ?_
    rintro e w3 ⟨rfl, K4, hb4⟩
    have hb4' := hb3'.trans (hb4.mono hb3'.size)
    have H4 := hid (K4.pr HN.out (by omega) (fun _ => True) trivial)
    clear hb4 hb3' H3 K4
    go_wp2_with fail
    refine (implDataOk_at _ _ n n l _ H4.out hn).mono ?_
    rintro e w4 ⟨rfl, hb5⟩
    have hb5' := hb4'.trans (hb5.mono hb4'.size)
    have H5 := hid (H4.out.below hb5)
    have H6 := hid (H0.out.below hb5')
    clear hb5 hb4' H4
    have hne : (daOk l != daOk l) = false := by simp
    generalize daOk l = Z at *
    go_wp2_with fail
    refine (toPairS_at _ a n c l _ H6.out hn).mono ?_
    rintro e w5 ⟨rfl, K7, hb6⟩
    have hb6' := hb5'.trans (hb6.mono hb5'.size)
    have H7 := hid (K7.pr HN.out (by omega) (fun _ => True) trivial)
    have H8 := hid (H5.out.below hb6)
    clear hb6 hb5' H5 H6 K7
    go_wp2_with fail
    refine (eqPairS_at _ _ _ _ n n n n l l _ H8.out H7.out).mono ?_
    rintro e w6 ⟨rfl, hb7⟩
    have hb7' := hb6'.trans (hb7.mono hb6'.size)
    clear hb7 hb6'
    rw [decide_eq_true rfl]
    go_wp2
    go_ret
    exact ⟨rfl, hb7'⟩
end Go.Proofs.Ytnbafoennnhppaa

