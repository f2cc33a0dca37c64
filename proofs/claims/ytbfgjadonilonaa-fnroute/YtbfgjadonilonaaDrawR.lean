/-
  The ranges that the laws draw: some ranges.
-/
import Derived.Test.YtbfgjadonilonaaDrawK
import Derived.Test.YtbfgjadonilonaaRngS
import Derived.Laws.Cover1
namespace Go.Proofs.Ytbfgjadonilonaa
open Go.RowKit
theorem Blk.grown {v v' : World} {g b : Nat} {lo hi : ByteArray} (h : Blk v b lo hi) (hg : v.grownBy v' (some g)) (hne : g < b) : Blk v' b lo hi := (hg.block b h.lt (fun e => by cases e; omega)).trans h
theorem grown_new {w v : World} {row : Option Nat} (h : w.grownBy v row) (b o : Nat) (x : Value) (hb : w.heap.size ≤ b) : w.grownBy (v.setCell ⟨b, o, none⟩ x) row :=
  ⟨h.os, h.tape, h.output, by simp [World.setCell]; exact h.size, fun k hk hne => by rw [Below.heap_setCell _ _ _ _ (fun e => by simp at e; omega)]; exact h.block k hk hne⟩
theorem Cu.set {v : World} {g : Nat} (h : Cu v g) (b o : Nat) (x : Value) (hb : g < b) : Cu (v.setCell ⟨b, o, none⟩ x) g :=
  h.kept (grownBy_set (grownBy_same v (some b)) o x) (fun k e => by cases e; exact hb)
theorem grown_below {w v v' : World} {row : Option Nat} (h : w.grownBy v row) (hb : Below v.heap.size v v') : w.grownBy v' row := grownBy_trans h (grown_of_below hb row)
/-- A draw so far: its cursor g, and a new block b that holds a range. -/
structure Dw (w v : World) (g b : Nat) (lo hi : ByteArray) : Prop where
  gr : w.grownBy v (some g)
  cu : Cu v g
  bk : Blk v b lo hi
  nb : w.heap.size ≤ b
  ng : g < w.heap.size
theorem Dw.new {w : World} {g : Nat} (h : Cu w g) (lo hi : ByteArray) : Dw w (w.alloc (.cells #[.string lo, .string hi] 30)) g w.heap.size lo hi :=
  ⟨grownBy_alloc _ _ _, h.alloc _, Blk.new _ _ _, Nat.le_refl _, h.lt⟩
theorem Dw.step {w v v' : World} {g b : Nat} {lo hi : ByteArray} (h : Dw w v g b lo hi) (hg : v.grownBy v' (some g)) (hc : Cu v' g) : Dw w v' g b lo hi :=
  ⟨grownBy_trans h.gr hg, hc, h.bk.grown hg (by have := h.nb; have := h.ng; omega), h.nb, h.ng⟩
theorem Dw.call {w v v' : World} {g b : Nat} {lo hi : ByteArray} (h : Dw w v g b lo hi) (hb : Below v.heap.size v v') : Dw w v' g b lo hi := h.step (grown_of_below hb _) (h.cu.below hb)
theorem Dw.set0 {w v : World} {g b : Nat} {lo hi x : ByteArray} (h : Dw w v g b lo hi) : Dw w (v.setCell ⟨b, 0, none⟩ (.string x)) g b x hi :=
  ⟨grown_new h.gr _ _ _ h.nb, h.cu.set _ _ _ (by have := h.nb; have := h.ng; omega), h.bk.set0, h.nb, h.ng⟩
theorem Dw.set1 {w v : World} {g b : Nat} {lo hi x : ByteArray} (h : Dw w v g b lo hi) : Dw w (v.setCell ⟨b, 1, none⟩ (.string x)) g b lo x :=
  ⟨grown_new h.gr _ _ _ h.nb, h.cu.set _ _ _ (by have := h.nb; have := h.ng; omega), h.bk.set1, h.nb, h.ng⟩
set_option maxHeartbeats 4000000 in
theorem range_any (g : Nat) (w : World) (h : Cu w g) : Calls Try.prog 50 #[.pointer (some ⟨g, 0, none⟩)] w fun e w' => (∃ lo hi : ByteArray, e = .returned (.agg #[.string lo, .string hi])) ∧ w.grownBy w' (some g) ∧ Cu w' g := by
  have D0 := hid (Dw.new h ⟨#[]⟩ ⟨#[]⟩)
  clear h
  go_enter Try.func50, Try.ntmps50
  go_wp2_with fail
  refine (key_any g _ D0.out.cu).mono ?_
  rintro e w1 ⟨⟨a, rfl, ha⟩, hg1, hc1⟩
  have D1 := hid (D0.out.step hg1 hc1)
  clear hg1 hc1 D0
  go_wp2_with fail
  refine (key_any g _ D1.out.cu).mono ?_
  rintro e w2 ⟨⟨b, rfl, hb⟩, hg1, hc1⟩
  have D2 := hid (D1.out.step hg1 hc1)
  clear hg1 hc1 D1
  go_wp2_with fail
  refine (below_any g 6 _ D2.out.cu (by omega) (by omega)).mono ?_
  rintro e w3 ⟨⟨x, rfl, hx0, hx1⟩, hg1, hc1⟩
  have D3 := hid (D2.out.step hg1 hc1)
  clear hg1 hc1 D2
  obtain ⟨r0, r1, r2, r3⟩ := D3.out.bk.facts
  rcases (by omega : x = 0 ∨ x = 1 ∨ x = 2 ∨ 3 ≤ x) with rfl | rfl | rfl | hx
  · clear hx0 hx1
    go_wp2
    try simp only [Exit.inBlock, Exit.then]
    refine bodyPost_ret (v := rng ⟨#[]⟩ ⟨#[]⟩) ?_ rfl ?_
    · exact results_rng rfl _ _ _ rfl (by go_simp) (by go_simp)
    · exact ⟨⟨_, _, rfl⟩, D3.out.set0.set1.gr, D3.out.set0.set1.cu⟩
  · clear hx0 hx1
    go_wp2
    try simp only [Exit.inBlock, Exit.then]
    refine bodyPost_ret (v := rng a ⟨#[]⟩) ?_ rfl ?_
    · exact results_rng rfl _ _ _ rfl (by go_simp) (by go_simp)
    · exact ⟨⟨_, _, rfl⟩, D3.out.set0.set1.gr, D3.out.set0.set1.cu⟩
  · clear hx0 hx1
    go_wp2_with fail
    refine (specPointOf_any a _).mono ?_
    rintro e w4 ⟨rfl, hb4⟩
    have D4 := hid (D3.out.call hb4)
    clear hb4 D3 r0 r1 r2 r3
    obtain ⟨r0, r1, r2, r3⟩ := D4.out.bk.facts
    simp only [rng]
    go_wp2
    try simp only [Exit.inBlock, Exit.then]
    refine bodyPost_ret (v := rng (ptLo a) (ptHi a)) ?_ rfl ?_
    · exact results_rng rfl _ _ _ rfl (by go_simp) (by go_simp)
    · exact ⟨⟨_, _, rfl⟩, D4.out.set0.set1.gr, D4.out.set0.set1.cu⟩
  · have hx2 : (x == 2) = false := by simp; omega
    have hx3 : (x == 1) = false := by simp; omega
    have hx4 : (x == 0) = false := by simp; omega
    rcases tri a b with ⟨t1, t2, t3, t4⟩ | rfl | ⟨t1, t2, t3, t4⟩
    · go_wp2
      try simp only [Exit.inBlock, Exit.then]
      refine bodyPost_ret (v := rng a b) ?_ rfl ?_
      · exact results_rng rfl _ _ _ rfl (by go_simp) (by go_simp)
      · exact ⟨⟨_, _, rfl⟩, D3.out.set0.set1.gr, D3.out.set0.set1.cu⟩
    · go_wp2_with fail
      refine (specPointOf_any a _).mono ?_
      rintro e w4 ⟨rfl, hb4⟩
      have D4 := hid (D3.out.call hb4)
      clear hb4 D3 r0 r1 r2 r3
      obtain ⟨r0, r1, r2, r3⟩ := D4.out.bk.facts
      simp only [rng]
      go_wp2
      try simp only [Exit.inBlock, Exit.then]
      refine bodyPost_ret (v := rng (ptLo a) (ptHi a)) ?_ rfl ?_
      · exact results_rng rfl _ _ _ rfl (by go_simp) (by go_simp)
      · exact ⟨⟨_, _, rfl⟩, D4.out.set0.set1.gr, D4.out.set0.set1.cu⟩
    · go_wp2
      try simp only [Exit.inBlock, Exit.then]
      refine bodyPost_ret (v := rng b a) ?_ rfl ?_
      · exact results_rng rfl _ _ _ rfl (by go_simp) (by go_simp)
      · exact ⟨⟨_, _, rfl⟩, D3.out.set0.set1.gr, D3.out.set0.set1.cu⟩
end Go.Proofs.Ytbfgjadonilonaa
