/-
  impl.TreeOk: just the trees that are read.
-/
import Derived.Test.YtjplocdjbfpcgabRd5
namespace Go.Proofs.Ytjplocdjbfpcgab
open Go.RowKit
set_option maxHeartbeats 2000000 in
theorem implTreeOk_any (S : Nat → Prop) (an : Option Addr) (nn cn : Nat) (ns : List NB) (w : World) (hN : Nr w S (.slice an nn cn) ns) :
    Calls Try.prog 12 #[.agg #[.slice an nn cn]] w fun e w' => e = .returned (.bool (okT ns).isSome) ∧ Below w.heap.size w w' := by
  have HN := hid hN
  have h1 := hN.len.2.1
  have h2 := hN.len.2.2
  clear hN
  have HB0 := hid (below_new (o := .cells #[.slice an nn cn] 29) (w := w) (Below.refl _ _))
  go_enter Try.func12, Try.ntmps12
  go_wp2_with fail
  refine (rootOf_any S an nn cn ns _ (HN.out.below HB0.out)).mono ?_
  generalize w.alloc (.cells #[.slice an nn cn] 29) = U at *
  rintro e w1 ⟨hpost, hb1⟩
  have HB1 : Hid (Below w.heap.size w w1) := HB0.out.trans (hb1.mono HB0.out.size)
  clear hb1
  cases hr : okT ns with
  | none =>
    rw [hr] at hpost
    have he : e = .returned (.pointer none) := hpost
    subst he
    have HR := hid hr
    clear hpost hr
    go_wp2
    go_ret
    exact ⟨by rw [HR.out]; rfl, HB1.out⟩
  | some t =>
    rw [hr] at hpost
    obtain ⟨b, he, hL⟩ := hpost
    subst he
    have HR := hid hr
    clear hL hr
    go_wp2
    go_ret
    exact ⟨by rw [HR.out]; rfl, HB1.out⟩
end Go.Proofs.Ytjplocdjbfpcgab
