/-
  The keys that the laws draw: some strings that are not too long.
-/
import Derived.Test.YtbaggkfgnjenoacDoorMg1
namespace Go.Proofs.YtbaggkfgnjenoacDoor
open Go.RowKit
set_option maxHeartbeats 8000000 in
theorem key_any (g : Nat) (w : World) (h : Cu w g) : Calls Tryd.prog 54 #[.pointer (some ⟨g, 0, none⟩)] w fun e w' => (∃ s : ByteArray, e = .returned (.string s) ∧ s.size ≤ 17) ∧ w.grownBy w' (some g) ∧ Cu w' g := by
  have HC := hid h
  clear h
  go_enter Tryd.func54, Tryd.ntmps54
  go_wp2_with fail
  refine (below_any g 20 w HC.out (by omega) (by omega)).mono ?_
  rintro e w1 ⟨⟨x, rfl, hx0, hx1⟩, hg1, hc1⟩
  have HG1 := hid hg1
  have HC1 := hid hc1
  clear hg1 hc1 HC
  have hx : x = 0 ∨ x = 1 ∨ x = 2 ∨ x = 3 ∨ x = 4 ∨ x = 5 ∨ x = 6 ∨ x = 7 ∨ x = 8 ∨ x = 9 ∨ x = 10 ∨ x = 11 ∨ x = 12 ∨ x = 13 ∨ x = 14 ∨ x = 15 ∨ x = 16 ∨ x = 17 ∨ 18 ≤ x := by omega
  rcases hx with rfl | rfl | rfl | rfl | rfl | rfl | rfl | rfl | rfl | rfl | rfl | rfl | rfl | rfl | rfl | rfl | rfl | rfl | hx
  all_goals try clear hx0 hx1
  case inr.inr.inr.inr.inr.inr.inr.inr.inr.inr.inr.inr.inr.inr.inr.inr.inr.inr =>
    go_wp2_with fail
    refine (below_any g 30 w1 HC1.out (by omega) (by omega)).mono ?_
    rintro e w2 ⟨⟨y, rfl, hy0, hy1⟩, hg2, hc2⟩
    have HG2 := hid (grownBy_trans HG1.out hg2)
    have HC2 := hid hc2
    clear hg2 hc2 HG1 HC1
    go_wp2_with fail
    refine (numText_any y w2 hy0 (by omega)).mono ?_
    rintro e w3 ⟨⟨s, rfl, hs⟩, hb3⟩
    have HG3 := hid (grownBy_trans HG2.out (grown_of_below hb3 _))
    have HC3 := hid (HC2.out.below hb3)
    clear hb3 HG2 HC2
    have hcat : (⟨#[107]⟩ : ByteArray).size = 1 := rfl
    go_wp2
    go_ret
    exact ⟨⟨_, rfl, by simp [ByteArray.size_append]; omega⟩, HG3.out, HC3.out⟩
  case inr.inr.inr.inr.inr.inr.inr.inr.inr.inr.inr.inr.inr.inr.inr.inr.inl =>
    go_wp2
    go_ret
    exact ⟨⟨_, rfl, by decide⟩, HG1.out, HC1.out⟩
  case inr.inr.inr.inr.inr.inr.inr.inr.inr.inr.inr.inr.inr.inr.inr.inr.inr.inl =>
    go_wp2
    go_ret
    exact ⟨⟨_, rfl, by decide⟩, HG1.out, HC1.out⟩
  all_goals (go_wp2; go_ret; exact ⟨⟨_, rfl, by decide⟩, grownBy_trans HG1.out (grownBy_alloc _ _ _), HC1.out.alloc _⟩)
set_option maxHeartbeats 4000000 in
theorem anyKey_any (g : Nat) (w : World) (h : Cu w g) : Calls Tryd.prog 35 #[.pointer (some ⟨g, 0, none⟩)] w fun e w' => (∃ s : ByteArray, e = .returned (.string s) ∧ s.size ≤ 17) ∧ w.grownBy w' (some g) ∧ Cu w' g := by
  have HC := hid h
  clear h
  go_enter Tryd.func35, Tryd.ntmps35
  go_wp2_with fail
  refine (below_any g 8 w HC.out (by omega) (by omega)).mono ?_
  rintro e w1 ⟨⟨x, rfl, hx0, hx1⟩, hg1, hc1⟩
  have HG1 := hid hg1
  have HC1 := hid hc1
  clear hg1 hc1 HC
  by_cases hx : x = 0
  · subst hx
    clear hx0 hx1
    go_wp2_with fail
    refine (below_any g 4 _ (HC1.out.alloc _) (by omega) (by omega)).mono ?_
    rintro e w2 ⟨⟨y, rfl, hy0, hy1⟩, hg2, hc2⟩
    have HG2 := hid (grownBy_trans (grownBy_trans HG1.out (grownBy_alloc _ _ _)) hg2)
    have HC2 := hid hc2
    have hcl := fun k => row_kept (b := w1.heap.size) (k := k) hg2 (by simp) (by have := HC1.out.lt; omega)
    clear hg2 hc2
    rcases (by omega : y = 0 ∨ y = 1 ∨ y = 2 ∨ y = 3) with rfl | rfl | rfl | rfl
    · have hc := (hcl 0).trans (by rw [World.cell?_alloc_at (hn := rfl)])
      clear hcl
      go_wp2
      go_ret
      exact ⟨⟨_, rfl, by decide⟩, HG2.out, HC2.out⟩
    · have hc := (hcl 1).trans (by rw [World.cell?_alloc_at (hn := rfl)])
      clear hcl
      go_wp2
      go_ret
      exact ⟨⟨_, rfl, by decide⟩, HG2.out, HC2.out⟩
    · have hc := (hcl 2).trans (by rw [World.cell?_alloc_at (hn := rfl)])
      clear hcl
      go_wp2
      go_ret
      exact ⟨⟨_, rfl, by decide⟩, HG2.out, HC2.out⟩
    · have hc := (hcl 3).trans (by rw [World.cell?_alloc_at (hn := rfl)])
      clear hcl
      go_wp2
      go_ret
      exact ⟨⟨_, rfl, by decide⟩, HG2.out, HC2.out⟩
  · go_wp2_with fail
    refine (key_any g w1 HC1.out).mono ?_
    rintro e w2 ⟨⟨s, rfl, hs⟩, hg2, hc2⟩
    have HG2 := hid (grownBy_trans HG1.out hg2)
    have HC2 := hid hc2
    clear hg2 hc2 HG1 HC1
    go_wp2
    go_ret
    exact ⟨⟨_, rfl, hs⟩, HG2.out, HC2.out⟩
end Go.Proofs.YtbaggkfgnjenoacDoor
