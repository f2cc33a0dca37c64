/-
  The law FnExactSplitsOk answers true at every slice of strings.
-/
import Derived.Test.YtbfgjadonilonaaStrL
namespace Go.Proofs.Ytbfgjadonilonaa
open Go.RowKit
set_option maxHeartbeats 2000000 in
theorem lawSplitsOk_walk (a : Option Addr) (n c : Nat) (ss : List ByteArray) (w : World) (h : Sd w a n c ss) :
    Calls Try.prog 3 #[.slice a n c] w fun e w' => e = .returned (.bool true) ∧ Below w.heap.size w w' := by
  have H0 := hid h
  clear h
  go_enter Try.func3, Try.ntmps3
  go_wp2_with fail
  refine (szStringS_any a n c ss _ H0.out).mono ?_
  rintro e w' ⟨⟨x, rfl, hx, hx1, hx2⟩, rfl⟩
  by_cases hneg : x < 0
  · go_wp2
    go_ret
    exact ⟨rfl, Below.refl _ _⟩
  · have hn : n ≤ 1048576 := by omega
    clear hx
    go_wp2_with fail
    refine (toStringS_any a n c ss _ H0.out hn).mono ?_
    rintro e w1 ⟨rfl, S1, hb1, hz1⟩
    have H1 := hid S1
    clear S1 hz1
    go_wp2_with fail
    refine (specSplitsOk_any _ n n ss _ H1.out).mono ?_
    rintro e w2 ⟨rfl, hb2⟩
    have hb2' := hb1.trans (hb2.mono hb1.size)
    have H2 := hid (H0.out.kept hb2')
    clear hb1 hb2 H1
    go_wp2_with fail
    refine (toStringS_any a n c ss _ H2.out hn).mono ?_
    rintro e w3 ⟨rfl, S3, hb3, hz3⟩
    have hb3' := hb2'.trans (hb3.mono hb2'.size)
    have H3 := hid S3
    clear S3 hb3 hb2' hz3 H2
    go_wp2_with fail
    refine (implSplitsOk_any _ n n ss _ H3.out).mono ?_
    rintro e w4 ⟨rfl, hb4⟩
    have hb4' := hb3'.trans (hb4.mono hb3'.size)
    have H4 := hid (H3.out.kept hb4)
    have H5 := hid (H0.out.kept hb4')
    clear hb4 hb3' H3
    have hne : (sOk ss != sOk ss) = false := by simp
    generalize sOk ss = Z at *
    go_wp2_with fail
    refine (toStringS_any a n c ss _ H5.out hn).mono ?_
    rintro e w5 ⟨rfl, S5, hb5, hz5⟩
    have hb5' := hb4'.trans (hb5.mono hb4'.size)
    have H6 := hid S5
    have H7 := hid (H4.out.kept hb5)
    clear S5 hb5 hb4' hz5 H4 H5
    go_wp2_with fail
    refine (eqStringS_same _ _ n n n ss _ H7.out H6.out).mono ?_
    rintro e w6 ⟨rfl, hb6⟩
    have hb6' := hb5'.trans (hb6.mono hb5'.size)
    clear hb6 hb5'
    go_wp2
    go_ret
    exact ⟨rfl, hb6'⟩
end Go.Proofs.Ytbfgjadonilonaa
