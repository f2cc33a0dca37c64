/-
  l01Raw: the cursor stays one.
-/
import Derived.Test.YtgnjknbgahickaaDoorDraw
namespace Go.Proofs.YtgnjknbgahickaaDoor
open Go.RowKit
set_option maxHeartbeats 1600000 in
theorem raw_cu (g : Nat) (w : World) (h : Cu w g) :
    Calls Tryd.prog 30 #[.pointer (some ⟨g, 0, none⟩)] w fun e w' => (∃ x : Int, e = .returned (.int .i64 x) ∧ -9223372036854775808 ≤ x ∧ x ≤ 9223372036854775807) ∧ w.grownBy w' (some g) ∧ Cu w' g := by
  have HC := hid h
  clear h
  go_enter Tryd.func30, Tryd.ntmps30
  go_wp2_with fail
  refine (below_any g 10 w HC.out (by omega) (by omega)).mono ?_
  rintro e w1 ⟨⟨k, rfl, hk0, hk1⟩, hg1, hc1⟩
  have HG1 := hid hg1
  have HC1 := hid hc1
  clear hg1 hc1
  rcases (by omega : k < 4 ∨ k = 4 ∨ k = 5 ∨ k = 6 ∨ k = 7 ∨ k = 8 ∨ k = 9) with h | rfl | rfl | rfl | rfl | rfl | rfl
  · go_wp2_with fail
    refine (below_any g 20 w1 HC1.out (by omega) (by omega)).mono ?_
    rintro e w2 ⟨⟨x, rfl, hx0, hx1⟩, hg1, hc1⟩
    have HG2 := hid (grownBy_trans HG1.out hg1)
    have HC2 := hid hc1
    clear hg1 hc1
    go_wp2
    go_ret
    exact ⟨⟨_, rfl, by omega, by omega⟩, HG2.out, HC2.out⟩
  · go_wp2_with fail
    refine (below_any g 3 w1 HC1.out (by omega) (by omega)).mono ?_
    rintro e w2 ⟨⟨x, rfl, hx0, hx1⟩, hg1, hc1⟩
    have HG2 := hid (grownBy_trans HG1.out hg1)
    have HC2 := hid hc1
    clear hg1 hc1
    go_wp2
    go_ret
    exact ⟨⟨_, rfl, by omega, by omega⟩, HG2.out, HC2.out⟩
  · go_wp2_with fail
    refine (below_any g 2 w1 HC1.out (by omega) (by omega)).mono ?_
    rintro e w2 ⟨⟨x, rfl, hx0, hx1⟩, hg1, hc1⟩
    have HG2 := hid (grownBy_trans HG1.out hg1)
    have HC2 := hid hc1
    clear hg1 hc1
    go_wp2
    go_ret
    exact ⟨⟨_, rfl, by omega, by omega⟩, HG2.out, HC2.out⟩
  · go_wp2_with fail
    refine (below_any g 2 w1 HC1.out (by omega) (by omega)).mono ?_
    rintro e w2 ⟨⟨x, rfl, hx0, hx1⟩, hg1, hc1⟩
    have HG2 := hid (grownBy_trans HG1.out hg1)
    have HC2 := hid hc1
    clear hg1 hc1
    go_wp2
    go_ret
    exact ⟨⟨_, rfl, by omega, by omega⟩, HG2.out, HC2.out⟩
  · go_wp2_with fail
    refine (below_any g 2 w1 HC1.out (by omega) (by omega)).mono ?_
    rintro e w2 ⟨⟨x, rfl, hx0, hx1⟩, hg1, hc1⟩
    have HG2 := hid (grownBy_trans HG1.out hg1)
    have HC2 := hid hc1
    clear hg1 hc1
    go_wp2
    go_ret
    exact ⟨⟨_, rfl, by omega, by omega⟩, HG2.out, HC2.out⟩
  · go_wp2_with fail
    have hgl : w1.grownBy (w1.alloc (.cells #[.int .i64 127, .int .i64 128, .int .i64 16383, .int .i64 16384, .int .i64 255, .int .i64 256, .int .i64 4096, .int .i64 4097] 3)) (some g) := grownBy_alloc w1 _ _
    have HGL := hid hgl
    clear hgl
    refine (below_any g 8 _ (HC1.out.alloc _) (by omega) (by omega)).mono ?_
    rintro e w2 ⟨⟨x, rfl, hx0, hx1⟩, hg1, hc1⟩
    have HG2 := hid (grownBy_trans (grownBy_trans HG1.out HGL.out) hg1)
    have hcl := fun k => row_kept (b := w1.heap.size) (k := k) hg1 (by simp) (by have := HC1.out.lt; omega)
    have HC2 := hid hc1
    clear hg1 hc1
    rcases (by omega : x = 0 ∨ x = 1 ∨ x = 2 ∨ x = 3 ∨ x = 4 ∨ x = 5 ∨ x = 6 ∨ x = 7) with rfl | rfl | rfl | rfl | rfl | rfl | rfl | rfl
    · have hc := (hcl 0).trans (by rw [World.cell?_alloc_at (hn := rfl)])
      clear hcl
      go_wp2
      go_ret
      exact ⟨⟨_, rfl, by omega, by omega⟩, HG2.out, HC2.out⟩
    · have hc := (hcl 1).trans (by rw [World.cell?_alloc_at (hn := rfl)])
      clear hcl
      go_wp2
      go_ret
      exact ⟨⟨_, rfl, by omega, by omega⟩, HG2.out, HC2.out⟩
    · have hc := (hcl 2).trans (by rw [World.cell?_alloc_at (hn := rfl)])
      clear hcl
      go_wp2
      go_ret
      exact ⟨⟨_, rfl, by omega, by omega⟩, HG2.out, HC2.out⟩
    · have hc := (hcl 3).trans (by rw [World.cell?_alloc_at (hn := rfl)])
      clear hcl
      go_wp2
      go_ret
      exact ⟨⟨_, rfl, by omega, by omega⟩, HG2.out, HC2.out⟩
    · have hc := (hcl 4).trans (by rw [World.cell?_alloc_at (hn := rfl)])
      clear hcl
      go_wp2
      go_ret
      exact ⟨⟨_, rfl, by omega, by omega⟩, HG2.out, HC2.out⟩
    · have hc := (hcl 5).trans (by rw [World.cell?_alloc_at (hn := rfl)])
      clear hcl
      go_wp2
      go_ret
      exact ⟨⟨_, rfl, by omega, by omega⟩, HG2.out, HC2.out⟩
    · have hc := (hcl 6).trans (by rw [World.cell?_alloc_at (hn := rfl)])
      clear hcl
      go_wp2
      go_ret
      exact ⟨⟨_, rfl, by omega, by omega⟩, HG2.out, HC2.out⟩
    · have hc := (hcl 7).trans (by rw [World.cell?_alloc_at (hn := rfl)])
      clear hcl
      go_wp2
      go_ret
      exact ⟨⟨_, rfl, by omega, by omega⟩, HG2.out, HC2.out⟩
  · go_wp2_with fail
    refine (below_any g 65536 w1 HC1.out (by omega) (by omega)).mono ?_
    rintro e w2 ⟨⟨x, rfl, hx0, hx1⟩, hg1, hc1⟩
    have HG2 := hid (grownBy_trans HG1.out hg1)
    have HC2 := hid hc1
    clear hg1 hc1
    go_wp2
    go_ret
    exact ⟨⟨_, rfl, by omega, by omega⟩, HG2.out, HC2.out⟩
end Go.Proofs.YtgnjknbgahickaaDoor

