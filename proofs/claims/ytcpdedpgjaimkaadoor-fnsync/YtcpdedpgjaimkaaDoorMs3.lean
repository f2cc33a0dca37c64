/-
  The draws of the laws' inputs, as far as the laws turn on them: each ends, touches nothing but its own cursor, and answers within bounds.
-/
import Derived.Test.YtcpdedpgjaimkaaDoorMs1
import Derived.Test.YtcpdedpgjaimkaaDoorMs2
import Derived.Deep.RegionHeld3
import Derived.Laws.Cover1
import Derived.Deep.LoopGhost
import Derived.ArgAppend
import Derived.Deep.RegionLaw
import Derived.Deep.DeepCutAuto
namespace Go.Proofs.YtcpdedpgjaimkaaDoor
open Go.RowKit

/-- Block g is a cursor over some bytes. -/
def Cu (w : World) (g : Nat) : Prop :=
  ∃ a n c zs i h, w.cell? ⟨g, 0, none⟩ = some (.slice a n c) ∧ w.cell? ⟨g, 1, none⟩ = some (.int .i64 (i : Nat)) ∧ w.cell? ⟨g, 2, none⟩ = some (.int .i64 h) ∧
    w.frozen? ⟨g, 1, none⟩ = false ∧ w.frozen? ⟨g, 2, none⟩ = false ∧ Rd w a n c zs ∧ n ≤ 1048576 ∧ (∀ x, a = some x → 0 < n → x.block < g) ∧ i ≤ n
theorem and255 (x : Int) : 0 ≤ bits .and .i64 x 255 ∧ bits .and .i64 x 255 ≤ 255 := by
  have h : ((BitVec.ofInt 64 x) &&& (BitVec.ofInt 64 255)).toNat ≤ 255 := by
    rw [BitVec.toNat_and]
    exact Nat.le_trans Nat.and_le_right (by decide)
  have e : bits .and .i64 x 255 = IntKind.i64.wrap (((BitVec.ofInt 64 x) &&& (BitVec.ofInt 64 255)).toNat : Int) := rfl
  rw [e]
  generalize ((BitVec.ofInt 64 x) &&& (BitVec.ofInt 64 255)).toNat = m at h
  have : IntKind.i64.wrap (m : Int) = m := by simp [IntKind.wrap, IntKind.signed, IntKind.bits]; omega
  omega
theorem Cu.lt {w : World} {g : Nat} (h : Cu w g) : g < w.heap.size := by
  obtain ⟨a, n, c, zs, i, h, c0, _⟩ := h
  exact block_lt c0
/-- A cursor keeps in a world that has kept its block and all that lies below. -/
theorem Cu.kept {w w' : World} {g : Nat} {row : Option Nat} (h : Cu w g) (hg : w.grownBy w' row) (hr : ∀ k, row = some k → g < k) : Cu w' g := by
  have hlt := h.lt
  obtain ⟨a, n, c, zs, i, h, c0, c1, c2, f1, f2, hrd, hn, hag, hin⟩ := h
  have hne : some g ≠ row := fun e => by have := hr g e.symm; omega
  have hb := hg.block g hlt hne
  refine ⟨a, n, c, zs, i, h, ?_, ?_, ?_, ?_, ?_, ?_, hn, hag, hin⟩
  · rw [World.cell?_of_block (w := w) (a := ⟨g, 0, none⟩) hb]; exact c0
  · rw [World.cell?_of_block (w := w) (a := ⟨g, 1, none⟩) hb]; exact c1
  · rw [World.cell?_of_block (w := w) (a := ⟨g, 2, none⟩) hb]; exact c2
  · rw [World.frozen?_of_block (w := w) (a := ⟨g, 1, none⟩) hb]; exact f1
  · rw [World.frozen?_of_block (w := w) (a := ⟨g, 2, none⟩) hb]; exact f2
  · obtain ⟨h1, h2, h3, h30, h4, h5⟩ := hrd
    refine ⟨h1, h2, h3, h30, h4, fun hp => ?_⟩
    obtain ⟨b, off, rfl, hb, hc⟩ := h5 hp
    refine ⟨b, off, rfl, Nat.lt_of_lt_of_le hb hg.size, fun i hi => ?_⟩
    rw [World.cell?_of_block (w := w) (a := ⟨b, off + i, none⟩) (hg.block b hb (fun e => by have := hr b e.symm; have := hag _ rfl hp; simp at this; omega))]
    exact hc i hi
theorem grownBy_same (w : World) (row : Option Nat) : w.grownBy w row := ⟨rfl, rfl, rfl, Nat.le_refl _, fun _ _ _ => rfl⟩
theorem grownBy_set {w w' : World} {b : Nat} (h : w.grownBy w' (some b)) (o : Nat) (v : Value) : w.grownBy (w'.setCell ⟨b, o, none⟩ v) (some b) :=
  ⟨h.os, h.tape, h.output, by simp [World.setCell]; exact h.size, fun k hk hne => by rw [Below.heap_setCell _ _ _ _ (fun e => hne (by rw [e]))]; exact h.block k hk hne⟩
theorem grownBy_drewN {w w' : World} {row : Option Nat} (h : w.grownBy w' row) (q : Nat) : w.grownBy (w'.drewN q) row := ⟨h.os, h.tape, h.output, h.size, h.block⟩
theorem grownBy_trans {w w1 w2 : World} {row : Option Nat} (h : w.grownBy w1 row) (h2 : w1.grownBy w2 row) : w.grownBy w2 row :=
  ⟨h2.os.trans h.os, h2.tape.trans h.tape, h2.output.trans h.output, Nat.le_trans h.size h2.size, fun k hk hne => (h2.block k (Nat.lt_of_lt_of_le hk h.size) hne).trans (h.block k hk hne)⟩
/-- The numbers of a cursor may change. -/
theorem cu_set {w : World} {g n c i i' : Nat} {a : Option Addr} {zs : List Int} {h h' : Int} (c0 : w.cell? ⟨g, 0, none⟩ = some (.slice a n c)) (c1 : w.cell? ⟨g, 1, none⟩ = some (.int .i64 (i : Nat))) (c2 : w.cell? ⟨g, 2, none⟩ = some (.int .i64 h))
    (f1 : w.frozen? ⟨g, 1, none⟩ = false) (f2 : w.frozen? ⟨g, 2, none⟩ = false) (hr : Rd w a n c zs) (hn : n ≤ 1048576) (hag : ∀ x, a = some x → 0 < n → x.block < g) (hin : i ≤ n) (o : Nat) (v : Value)
    (hv : (o = 1 ∧ v = .int .i64 (i' : Nat) ∧ i' ≤ n) ∨ (o = 2 ∧ v = .int .i64 h')) : Cu (w.setCell ⟨g, o, none⟩ v) g := by
  have hrd : Rd (w.setCell ⟨g, o, none⟩ v) a n c zs := by
    obtain ⟨h1, h2, h3, h30, h4, h5⟩ := hr
    refine ⟨h1, h2, h3, h30, h4, fun hp => ?_⟩
    obtain ⟨b, off, rfl, hb, hc⟩ := h5 hp
    have := hag _ rfl hp
    simp at this
    refine ⟨b, off, rfl, by simpa [World.setCell] using hb, fun i hi => ?_⟩
    rw [World.cell?_setCell_other (h := by simp only [ne_eq, Addr.mk.injEq, not_and]; intro h; omega)]
    exact hc i hi
  rcases hv with ⟨rfl, rfl, hi'⟩ | ⟨rfl, rfl⟩
  · refine ⟨a, n, c, zs, i', h, ?_, World.cell?_setCell_same _ _ _ c1, ?_, by simp [f1], by simp [f2], hrd, hn, hag, hi'⟩
    · rw [World.cell?_setCell_other (h := by simp)]; exact c0
    · rw [World.cell?_setCell_other (h := by simp)]; exact c2
  · refine ⟨a, n, c, zs, i, h', ?_, ?_, World.cell?_setCell_same _ _ _ c2, by simp [f1], by simp [f2], hrd, hn, hag, hin⟩
    · rw [World.cell?_setCell_other (h := by simp)]; exact c0
    · rw [World.cell?_setCell_other (h := by simp)]; exact c1
theorem grownBy_alloc (w : World) (o : Obj) (row : Option Nat) : w.grownBy (w.alloc o) row :=
  ⟨rfl, rfl, rfl, by simp, fun k hk _ => heap_alloc_old w o hk⟩
theorem Cu.alloc {w : World} {g : Nat} (h : Cu w g) (o : Obj) : Cu (w.alloc o) g := h.kept (grownBy_alloc w o none) (fun k e => by cases e)
theorem row_kept {w w' : World} {g b k : Nat} (h : w.grownBy w' (some g)) (hb : b < w.heap.size) (hne : b ≠ g) : w'.cell? ⟨b, k, none⟩ = w.cell? ⟨b, k, none⟩ :=
  World.cell?_of_block (w := w) (a := ⟨b, k, none⟩) (h.block b hb (fun e => hne (by cases e; rfl)))
theorem below_of_grown {w w' : World} {g : Nat} (h : w.grownBy w' (some g)) (hg : g < w.heap.size) : Below g w w' :=
  ⟨h.os, h.tape, h.output, h.size, fun k hk => h.block k (by omega) (fun e => by cases e; omega)⟩
theorem Cu.drewN {w : World} {g : Nat} (h : Cu w g) (q : Nat) : Cu (w.drewN q) g := h

set_option maxHeartbeats 800000 in
theorem byte_any (g : Nat) (w : World) (h : Cu w g) :
    Calls Tryd.prog 32 #[.pointer (some ⟨g, 0, none⟩)] w fun e w' => (∃ x : Int, e = .returned (.int .i64 x) ∧ 0 ≤ x ∧ x ≤ 255) ∧ w.grownBy w' (some g) ∧ Cu w' g := by
  obtain ⟨a, n, c, zs, i, h, c0, c1, c2, f1, f2, hr, hn, hag, hin⟩ := h
  have HS := hid (fun h' => cu_set (i' := 0) (h' := h') c0 c1 c2 f1 f2 hr hn hag hin 2 _ (.inr ⟨rfl, rfl⟩))
  have HR := hid hr
  have HA := hid hag
  clear hr hag
  have HF : Hid (∀ h' : Int, w.grownBy (w.setCell ⟨g, 2, none⟩ (.int .i64 h')) (some g)) := fun h' => grownBy_set (grownBy_same w (some g)) 2 _
  by_cases hlt : i < n
  · have hlt' : (i : Int) < (n : Int) := by omega
    obtain ⟨b, off, ha, hbw, hcell⟩ := HR.out.2.2.2.2.2 (by omega)
    have hci := hcell i hlt
    have hb0 := (HR.out.2.2.2.2.1 i).1
    have hb1 := (HR.out.2.2.2.2.1 i).2
    have hbg : b < g := HA.out _ ha (by omega)
    clear hcell
    subst ha
    go_enter Tryd.func32, Tryd.ntmps32
    go_wp2
    generalize wrap64 (wrap64 (h * 6364136223846793005) + 1442695040888963407) = h2
    have d0 : (w.setCell ⟨g, 2, none⟩ (.int .i64 h2)).cell? ⟨g, 0, none⟩ = some (.slice (some ⟨b, off, none⟩) n c) := by rw [World.cell?_setCell_other (h := by simp)]; exact c0
    have d1 : (w.setCell ⟨g, 2, none⟩ (.int .i64 h2)).cell? ⟨g, 1, none⟩ = some (.int .i64 (i : Int)) := by rw [World.cell?_setCell_other (h := by simp)]; exact c1
    have d2 : (w.setCell ⟨g, 2, none⟩ (.int .i64 h2)).cell? ⟨g, 2, none⟩ = some (.int .i64 h2) := World.cell?_setCell_same _ _ _ c2
    have di : (w.setCell ⟨g, 2, none⟩ (.int .i64 h2)).cell? ⟨b, off + i, none⟩ = some (.int .u8 (zs[i]?.getD 0)) := by rw [World.cell?_setCell_other (h := by simp only [ne_eq, Addr.mk.injEq, not_and]; intro h; omega)]; exact hci
    have e1 : (w.setCell ⟨g, 2, none⟩ (.int .i64 h2)).frozen? ⟨g, 1, none⟩ = false := by simpa using f1
    have HS2 := hid (HS.out h2)
    have HF2 := hid (HF.out h2)
    generalize w.setCell ⟨g, 2, none⟩ (.int .i64 h2) = w1 at d0 d1 d2 di e1 HS2 HF2
    have HC : Hid (Cu (w1.setCell ⟨g, 1, none⟩ (.int .i64 ((i : Int) + 1))) g) := by
      obtain ⟨a', n', c', zs', i', h', c0', c1', c2', f1', f2', hr', hn', hag', hin'⟩ := HS2.out
      rw [d0] at c0'
      cases c0'
      exact cu_set (i' := i + 1) (h' := 0) d0 d1 c2' f1' f2' hr' hn' hag' hin 1 _ (.inl ⟨rfl, by simp, by omega⟩)
    have HF3 : Hid (w.grownBy (w1.setCell ⟨g, 1, none⟩ (.int .i64 ((i : Int) + 1))) (some g)) := grownBy_set HF2.out 1 _
    clear c0 c1 c2 hci f1 f2
    go_quiet (fail)
    go_wp2
    generalize hy : bits .and .i64 _ 255 = y
    have hy0 : 0 ≤ y := by rw [← hy]; exact (and255 _).1
    have hy1 : y ≤ 255 := by rw [← hy]; exact (and255 _).2
    clear hy
    go_quiet (fail)
    go_wp2
    go_quiet (fail)
    go_wp2
    go_ret
    exact ⟨⟨_, rfl, (and255 _).1, (and255 _).2⟩, grownBy_set (grownBy_drewN HF2.out _) 1 _, HC.out.drewN _⟩
  · have hlt' : ¬ (i : Int) < (n : Int) := by omega
    go_enter Tryd.func32, Tryd.ntmps32
    go_wp2
    go_quiet (fail)
    go_wp2
    go_quiet (fail)
    go_wp2
    go_ret
    refine ⟨⟨_, rfl, (and255 _).1, (and255 _).2⟩, grownBy_drewN (grownBy_drewN ?_ _) _, Cu.drewN (Cu.drewN ?_ _) _⟩
    · exact HF.out _
    · exact HS.out _

set_option maxHeartbeats 800000 in
theorem below_any (g : Nat) (m : Int) (w : World) (h : Cu w g) (hm1 : 1 ≤ m) (hm2 : m ≤ 1048576) :
    Calls Tryd.prog 23 #[.pointer (some ⟨g, 0, none⟩), .int .i64 m] w fun e w' => (∃ x : Int, e = .returned (.int .i64 x) ∧ 0 ≤ x ∧ x < m) ∧ w.grownBy w' (some g) ∧ Cu w' g := by
  have HC := hid h
  clear h
  by_cases hs : m ≤ 256
  · go_enter Tryd.func23, Tryd.ntmps23
    go_wp2_with fail
    refine (byte_any g w HC.out).mono ?_
    rintro e w1 ⟨⟨x, rfl, hx0, hx1⟩, hg1, hc1⟩
    have HG := hid hg1
    have HC1 := hid hc1
    clear hg1 hc1
    go_wp2
    go_ret
    refine ⟨⟨_, rfl, ?_, ?_⟩, HG.out, HC1.out⟩
    · exact Int.emod_nonneg _ (by omega)
    · exact Int.emod_lt_of_pos _ (by omega)
  · go_enter Tryd.func23, Tryd.ntmps23
    go_wp2_with fail
    refine (byte_any g w HC.out).mono ?_
    rintro e w1 ⟨⟨x, rfl, hx0, hx1⟩, hg1, hc1⟩
    have HG1 := hid hg1
    have HC1 := hid hc1
    clear hg1 hc1
    go_wp2_with fail
    refine (byte_any g w1 HC1.out).mono ?_
    rintro e w2 ⟨⟨y, rfl, hy0, hy1⟩, hg1, hc1⟩
    have HG2 := hid (grownBy_trans HG1.out hg1)
    have HC2 := hid hc1
    clear hg1 hc1
    go_wp2_with fail
    refine (byte_any g w2 HC2.out).mono ?_
    rintro e w3 ⟨⟨z, rfl, hz0, hz1⟩, hg1, hc1⟩
    have HG3 := hid (grownBy_trans HG2.out hg1)
    have HC3 := hid hc1
    clear hg1 hc1
    go_wp2_with fail
    refine (byte_any g w3 HC3.out).mono ?_
    rintro e w4 ⟨⟨u, rfl, hu0, hu1⟩, hg1, hc1⟩
    have HG4 := hid (grownBy_trans HG3.out hg1)
    have HC4 := hid hc1
    clear hg1 hc1
    go_wp2
    go_ret
    refine ⟨⟨_, rfl, ?_, ?_⟩, HG4.out, HC4.out⟩
    · exact Int.emod_nonneg _ (by omega)
    · exact Int.emod_lt_of_pos _ (by omega)

set_option maxHeartbeats 1600000 in
theorem raw_any (g : Nat) (w : World) (h : Cu w g) :
    Calls Tryd.prog 24 #[.pointer (some ⟨g, 0, none⟩)] w fun e w' => (∃ x : Int, e = .returned (.int .i64 x) ∧ -9223372036854775808 ≤ x ∧ x ≤ 9223372036854775807) ∧ w.grownBy w' (some g) := by
  have HC := hid h
  clear h
  go_enter Tryd.func24, Tryd.ntmps24
  go_wp2_with fail
  refine (below_any g 10 w HC.out (by omega) (by omega)).mono ?_
  rintro e w1 ⟨⟨k, rfl, hk0, hk1⟩, hg1, hc1⟩
  have HG1 := hid hg1
  have HC1 := hid hc1
  clear hg1 hc1
  rcases (by omega : k < 4 ∨ k = 4 ∨ k = 5 ∨ k = 6 ∨ k = 7 ∨ k = 8 ∨ k = 9) with h | rfl | rfl | rfl | rfl | rfl | rfl
  · go_wp2_with fail
    refine (below_any g 20 w1 HC1.out (by omega) (by omega)).mono ?_
    rintro e w2 ⟨⟨x, rfl, hx0, hx1⟩, hg1, hc1⟩
    have HG2 := hid (grownBy_trans HG1.out hg1)
    clear hg1 hc1
    go_wp2
    go_ret
    exact ⟨⟨_, rfl, by omega, by omega⟩, HG2.out⟩
  · go_wp2_with fail
    refine (below_any g 3 w1 HC1.out (by omega) (by omega)).mono ?_
    rintro e w2 ⟨⟨x, rfl, hx0, hx1⟩, hg1, hc1⟩
    have HG2 := hid (grownBy_trans HG1.out hg1)
    clear hg1 hc1
    go_wp2
    go_ret
    exact ⟨⟨_, rfl, by omega, by omega⟩, HG2.out⟩
  · go_wp2_with fail
    refine (below_any g 2 w1 HC1.out (by omega) (by omega)).mono ?_
    rintro e w2 ⟨⟨x, rfl, hx0, hx1⟩, hg1, hc1⟩
    have HG2 := hid (grownBy_trans HG1.out hg1)
    clear hg1 hc1
    go_wp2
    go_ret
    exact ⟨⟨_, rfl, by omega, by omega⟩, HG2.out⟩
  · go_wp2_with fail
    refine (below_any g 2 w1 HC1.out (by omega) (by omega)).mono ?_
    rintro e w2 ⟨⟨x, rfl, hx0, hx1⟩, hg1, hc1⟩
    have HG2 := hid (grownBy_trans HG1.out hg1)
    clear hg1 hc1
    go_wp2
    go_ret
    exact ⟨⟨_, rfl, by omega, by omega⟩, HG2.out⟩
  · go_wp2_with fail
    refine (below_any g 2 w1 HC1.out (by omega) (by omega)).mono ?_
    rintro e w2 ⟨⟨x, rfl, hx0, hx1⟩, hg1, hc1⟩
    have HG2 := hid (grownBy_trans HG1.out hg1)
    clear hg1 hc1
    go_wp2
    go_ret
    exact ⟨⟨_, rfl, by omega, by omega⟩, HG2.out⟩
  · go_wp2_with fail
    have hgl : w1.grownBy (w1.alloc (.cells #[.int .i64 127, .int .i64 128, .int .i64 16383, .int .i64 16384, .int .i64 255, .int .i64 256, .int .i64 4096, .int .i64 4097] 3)) (some g) := grownBy_alloc w1 _ _
    have HGL := hid hgl
    clear hgl
    refine (below_any g 8 _ (HC1.out.alloc _) (by omega) (by omega)).mono ?_
    rintro e w2 ⟨⟨x, rfl, hx0, hx1⟩, hg1, hc1⟩
    have HG2 := hid (grownBy_trans (grownBy_trans HG1.out HGL.out) hg1)
    have hcl := fun k => row_kept (b := w1.heap.size) (k := k) hg1 (by simp) (by have := HC1.out.lt; omega)
    clear hg1 hc1
    rcases (by omega : x = 0 ∨ x = 1 ∨ x = 2 ∨ x = 3 ∨ x = 4 ∨ x = 5 ∨ x = 6 ∨ x = 7) with rfl | rfl | rfl | rfl | rfl | rfl | rfl | rfl
    · have hc := (hcl 0).trans (by rw [World.cell?_alloc_at (hn := rfl)])
      clear hcl
      go_wp2
      go_ret
      exact ⟨⟨_, rfl, by omega, by omega⟩, HG2.out⟩
    · have hc := (hcl 1).trans (by rw [World.cell?_alloc_at (hn := rfl)])
      clear hcl
      go_wp2
      go_ret
      exact ⟨⟨_, rfl, by omega, by omega⟩, HG2.out⟩
    · have hc := (hcl 2).trans (by rw [World.cell?_alloc_at (hn := rfl)])
      clear hcl
      go_wp2
      go_ret
      exact ⟨⟨_, rfl, by omega, by omega⟩, HG2.out⟩
    · have hc := (hcl 3).trans (by rw [World.cell?_alloc_at (hn := rfl)])
      clear hcl
      go_wp2
      go_ret
      exact ⟨⟨_, rfl, by omega, by omega⟩, HG2.out⟩
    · have hc := (hcl 4).trans (by rw [World.cell?_alloc_at (hn := rfl)])
      clear hcl
      go_wp2
      go_ret
      exact ⟨⟨_, rfl, by omega, by omega⟩, HG2.out⟩
    · have hc := (hcl 5).trans (by rw [World.cell?_alloc_at (hn := rfl)])
      clear hcl
      go_wp2
      go_ret
      exact ⟨⟨_, rfl, by omega, by omega⟩, HG2.out⟩
    · have hc := (hcl 6).trans (by rw [World.cell?_alloc_at (hn := rfl)])
      clear hcl
      go_wp2
      go_ret
      exact ⟨⟨_, rfl, by omega, by omega⟩, HG2.out⟩
    · have hc := (hcl 7).trans (by rw [World.cell?_alloc_at (hn := rfl)])
      clear hcl
      go_wp2
      go_ret
      exact ⟨⟨_, rfl, by omega, by omega⟩, HG2.out⟩
  · go_wp2_with fail
    refine (below_any g 65536 w1 HC1.out (by omega) (by omega)).mono ?_
    rintro e w2 ⟨⟨x, rfl, hx0, hx1⟩, hg1, hc1⟩
    have HG2 := hid (grownBy_trans HG1.out hg1)
    clear hg1 hc1
    go_wp2
    go_ret
    exact ⟨⟨_, rfl, by omega, by omega⟩, HG2.out⟩

/-- A row keeps where another block is touched. -/
theorem Ob.kept {w w' : World} {B g : Nat} {v : Value} {zs : List Int} (h : Ob w B v zs) (hg : w.grownBy w' (some g)) (hB : g < B) : Ob w' B v zs := by
  have hlt := fun k hk => World.ownsRow.lt h k hk
  obtain ⟨h1, h2⟩ := h
  refine ⟨h1, ?_⟩
  rcases h2 with h | ⟨k, cap, cur, rfl, hbg, hk, hr⟩
  · exact .inl h
  · refine .inr ⟨k, cap, cur, rfl, hbg, ?_, hr⟩
    have := (hlt k rfl).2
    rw [hg.block k this (fun e => by cases e; omega)]
    exact hk
/-- What append onto a new row leaves of what was there. -/
theorem grown_append {w w1 w2 : World} {g : Nat} {v : Value} {zs : List Int} (h : w.grownBy w1 (some g)) (ho : Ob w1 w.heap.size v zs) (h2 : w1.grownBy w2 v.ownBlock) : w.grownBy w2 (some g) := by
  refine ⟨h2.os.trans h.os, h2.tape.trans h.tape, h2.output.trans h.output, Nat.le_trans h.size h2.size, fun k hk hne => ?_⟩
  rw [h2.block k (Nat.lt_of_lt_of_le hk h.size) (fun e => by have := (World.ownsRow.lt ho k e.symm).1; omega)]
  exact h.block k hk hne

theorem new_any (a : Option Addr) (n c : Nat) (zs : List Int) (w : World) (h : Rd w a n c zs) (hl : n ≤ 1048576) :
    Calls Tryd.prog 10 #[.slice a n c] w fun e w' => e = .returned (.pointer (some ⟨w.heap.size, 0, none⟩)) ∧ Below w.heap.size w w' ∧ Cu w' w.heap.size := by
  have HR := hid h
  obtain ⟨hn0, hc, hm, hnm, hb, hcell⟩ := h
  have HN := hid hn0
  clear hn0
  go_enter Tryd.func10, Tryd.ntmps10
  go_wp2
  go_loop [3, 4] (fun s i => ∃ (k : Nat) (x : Int), i = .int .i64 k ∧ k ≤ n ∧ s = .int .i64 x) (fun _ i => n - (intOf i).toNat)
  case atStart => exact ⟨0, _, rfl, Nat.zero_le _, rfl⟩
  case round =>
    obtain ⟨k, x, rfl, hk, rfl⟩ := hrel
    by_cases hkn : k < n ∧ k < 4000
    · obtain ⟨hkn, hk4⟩ := hkn
      have hkn' : (k : Int) < (n : Int) := by omega
      have hk4' : (k : Int) < 4000 := by omega
      obtain ⟨b, off, ha, hbw, hcell⟩ := hcell (by omega)
      have hck := hcell k hkn
      have hb0 := (hb k).1
      have hb1 := (hb k).2
      clear hcell hb
      rw [ha]
      go_wp2
      go_round
      case rel => exact ⟨k + 1, _, by go_num, by omega, rfl⟩
      case measure => simp [intOf]; omega
    · have HC : Hid (Cu (w.alloc (.cells #[.slice a n c, .int .i64 0, .int .i64 x] 53)) w.heap.size) := by
        refine ⟨a, n, c, zs, 0, x, ?_, ?_, ?_, World.frozen?_alloc_at (hn := rfl) .., World.frozen?_alloc_at (hn := rfl) .., HR.out.kept ((Below.refl _ _).alloc (Nat.le_refl _) _), hl, HR.out.lt, Nat.zero_le _⟩
        · rw [World.cell?_alloc_at (hn := rfl)]; rfl
        · rw [World.cell?_alloc_at (hn := rfl)]; rfl
        · rw [World.cell?_alloc_at (hn := rfl)]; rfl
      have HB : Hid (Below w.heap.size w (w.alloc (.cells #[.slice a n c, .int .i64 0, .int .i64 x] 53))) := (Below.refl _ _).alloc (Nat.le_refl _) _
      clear hcell hb
      rcases (by omega : ¬ (k : Int) < (n : Int) ∨ ((k : Int) < (n : Int) ∧ ¬ (k : Int) < 4000)) with h1 | ⟨h1, h2⟩
      all_goals
        clear hkn
        go_wp2
        go_ret
        exact ⟨rfl, HB.out, HC.out⟩
end Go.Proofs.YtcpdedpgjaimkaaDoor
/-
  The decimal texts of the draws: some strings that are not long.
-/
namespace Go.Proofs.YtcpdedpgjaimkaaDoor
open Go.RowKit
theorem below_allocN (w : World) (o : Obj) : Below w.heap.size w (w.alloc o) := (Below.refl _ _).alloc (Nat.le_refl _) o
theorem grown_of_below {w w' : World} (h : Below w.heap.size w w') (row : Option Nat) : w.grownBy w' row := ⟨h.os, h.tape, h.output, h.size, fun k hk _ => h.block k hk⟩
theorem Cu.below {w w' : World} {g : Nat} (h : Cu w g) (hb : Below w.heap.size w w') : Cu w' g := h.kept (grown_of_below hb none) (fun k e => by cases e)
theorem strOf_size (o : List Int) : (strOf o).size = o.length := by
  show (strOf o).data.size = o.length
  simp [strOf]
theorem rd_lit (w : World) (z : Int) (h0 : 0 ≤ z) (h1 : z ≤ 255) : Rd (w.alloc (.cells #[.int .u8 z] 5)) (some ⟨w.heap.size, 0, none⟩) 1 1 [z] := by
  have := rd_new w [z] (by simp) (fun i => by cases i <;> simp <;> omega)
  simpa [byteVals] using this
theorem thn2 {u v v' : World} (h : Below u.heap.size u v) (k : Below v.heap.size v v') : Below u.heap.size u v' := h.trans (k.mono h.size)
theorem specNumD_any (m : Int) (w : World) (h0 : 0 ≤ m) (h1 : m ≤ 100000) : Calls Tryd.prog 55 #[.int .i64 m] w fun e w' => e = .returned (.bool true) ∧ w = w' := by
  go_enter Tryd.func55, Tryd.ntmps55
  go_wp2
  go_ret
  exact ⟨by rw [show decide (m ≤ 1099511627775) = true from decide_eq_true (by omega)]; rfl, rfl⟩
set_option maxHeartbeats 2000000 in
theorem numText1 (m : Int) (w : World) (h0 : 0 ≤ m) (h1 : m < 10) : Calls Tryd.prog 71 #[.int .i64 m] w fun e w' => (∃ s : ByteArray, e = .returned (.string s) ∧ s.size ≤ 2) ∧ Below w.heap.size w w' := by
  have hst := run_str (rd_lit w (48 + m) (by omega) (by omega))
  have hss := strOf_size [48 + m]
  generalize strOf [48 + m] = s at hst hss
  go_enter Tryd.func71, Tryd.ntmps71
  go_wp2_with fail
  refine (specNumD_any m _ h0 (by omega)).mono ?_
  rintro e w1 ⟨rfl, rfl⟩
  go_wp2
  go_ret
  exact ⟨⟨_, rfl, by simp at hss; omega⟩, below_new (Below.refl _ _)⟩
set_option maxHeartbeats 2000000 in
set_option maxRecDepth 100000 in
theorem numStep (m : Int) (w : World) (c : Nat) (hc : c ≤ 100) (h0' : 10 ≤ m) (h1 : m < 100000) (HQ0 : Hid (∀ w, Calls Tryd.prog 71 #[.int .i64 (m.tdiv 10)] w fun e w' => (∃ s : ByteArray, e = .returned (.string s) ∧ s.size ≤ c) ∧ Below w.heap.size w w')) : Calls Tryd.prog 71 #[.int .i64 m] w fun e w' => (∃ s : ByteArray, e = .returned (.string s) ∧ s.size ≤ c + 1) ∧ Below w.heap.size w w' := by
  have h0 : 0 ≤ m := by omega
  have h2 : ¬ m < 10 := by omega
  go_enter Tryd.func71, Tryd.ntmps71
  go_wp2_with fail
  refine (specNumD_any m _ h0 (by omega)).mono ?_
  rintro e w1 ⟨rfl, rfl⟩
  obtain ⟨q, hq, hq0, hq1⟩ : ∃ q : Int, m.tdiv 10 = q ∧ 0 ≤ q ∧ q < 10000 := ⟨_, rfl, Int.tdiv_nonneg h0 (by omega), by have := Int.tdiv_eq_ediv_of_nonneg (b := 10) h0; omega⟩
  obtain ⟨z, hz, hz0, hz1⟩ : ∃ z : Int, m.tmod 10 = z ∧ 0 ≤ z ∧ z < 10 := ⟨_, rfl, Int.tmod_nonneg _ h0, by have := Int.tmod_eq_emod_of_nonneg (b := 10) h0; omega⟩
  have hwq : IntKind.i64.wrap q = q := by simp [IntKind.wrap, IntKind.signed, IntKind.bits]; omega
  have hwz : IntKind.i64.wrap (48 + z) = 48 + z := by simp [IntKind.wrap, IntKind.signed, IntKind.bits]; omega
  have hw8 : IntKind.u8.wrap (48 + z) = 48 + z := by simp [IntKind.wrap, IntKind.signed, IntKind.bits]; omega
  have hts : (strOf [48 + z]).size = 1 := strOf_size [48 + z]
  have hst : ∀ W : World, (convert 22 9 (.slice (some ⟨W.heap.size, 0, none⟩) 1 1)).run Tryd.prog (W.alloc (.cells #[.int .u8 (48 + z)] 5)) = .ok (.string (strOf [48 + z])) (W.alloc (.cells #[.int .u8 (48 + z)] 5)) := fun W => run_str (rd_lit W (48 + z) (by omega) (by omega))
  have HK : Hid (∀ W W' : World, Below (W.alloc (.cells #[.int .u8 (48 + z)] 5)).heap.size (W.alloc (.cells #[.int .u8 (48 + z)] 5)) W' → (convert 22 9 (.slice (some ⟨W.heap.size, 0, none⟩) 1 1)).run Tryd.prog W' = .ok (.string (strOf [48 + z])) W') := fun W W' hb => run_str ((rd_lit W (48 + z) (by omega) (by omega)).kept hb)
  have hst3 : (convert 22 9 (.slice (some ⟨w.heap.size, 0, none⟩) 1 1)).run Tryd.prog (w.alloc (.cells #[.int .u8 (48 + z)] 5)).drew = .ok (.string (strOf [48 + z])) (w.alloc (.cells #[.int .u8 (48 + z)] 5)).drew := hst w.drew
  have HQ : Hid (∀ w, Calls Tryd.prog 71 #[.int .i64 q] w fun e w' => (∃ s : ByteArray, e = .returned (.string s) ∧ s.size ≤ c) ∧ Below w.heap.size w w') := hq ▸ HQ0.out
  clear HQ0
  generalize strOf [48 + z] = t at *
  go_wp2_with fail
  refine wp_region_noPanic ?_
  refine wp_region_held_drew (S := fun v => Below w.heap.size w v) (by kernel_rfl) ?_ (fun hHeld => ?_)
  · exact below_drew _
  simp only [List.size_toArray, List.length_cons, List.length_nil, Array.replicate_succ, Array.replicate_zero, Nat.reduceAdd, List.push_toArray, List.nil_append, List.cons_append]
  refine wpAnyH_take (i := 0) (v := .int .i64 m) rfl (by kernel_rfl) (by kernel_rfl) (by kernel_rfl) (fun _ _ _ h => h) (Or.inl ⟨by rfl, ?_⟩) (by assumption) ?_
  · intro w hSw
    go_simp
  try simp only [List.getElem_toArray]
  try simp only [List.getElem_cons_succ]
  try simp only [List.getElem_cons_zero]
  try simp only [Act.put]
  try simp only [List.setIfInBounds_toArray]
  try simp only [List.set_cons_succ]
  try simp only [List.set_cons_zero]
  refine wpAnyH_take (i := 1) (v := .int .i64 q) rfl (by kernel_rfl) (by kernel_rfl) (by kernel_rfl) (fun _ _ _ h => h) (Or.inl ⟨by rfl, ?_⟩) (by assumption) ?_
  · intro w hSw
    go_simp
  try simp only [List.getElem_toArray]
  try simp only [List.getElem_cons_succ]
  try simp only [List.getElem_cons_zero]
  try simp only [Act.put]
  try simp only [List.setIfInBounds_toArray]
  try simp only [List.set_cons_succ]
  try simp only [List.set_cons_zero]
  refine wpAnyH_take (i := 3) (v := .int .i64 m) rfl (by kernel_rfl) (by kernel_rfl) (by kernel_rfl) (fun _ _ _ h => h) (Or.inl ⟨by rfl, ?_⟩) (by assumption) ?_
  · intro w hSw
    go_simp
  try simp only [List.getElem_toArray]
  try simp only [List.getElem_cons_succ]
  try simp only [List.getElem_cons_zero]
  try simp only [Act.put]
  try simp only [List.setIfInBounds_toArray]
  try simp only [List.set_cons_succ]
  try simp only [List.set_cons_zero]
  refine wpAnyH_take (i := 4) (v := .int .i64 z) rfl (by kernel_rfl) (by kernel_rfl) (by kernel_rfl) (fun _ _ _ h => h) (Or.inl ⟨by rfl, ?_⟩) (by assumption) ?_
  · intro w hSw
    go_simp
  try simp only [List.getElem_toArray]
  try simp only [List.getElem_cons_succ]
  try simp only [List.getElem_cons_zero]
  try simp only [Act.put]
  try simp only [List.setIfInBounds_toArray]
  try simp only [List.set_cons_succ]
  try simp only [List.set_cons_zero]
  refine wpAnyH_take (i := 5) (v := .int .i64 (48 + z)) rfl (by kernel_rfl) (by kernel_rfl) (by kernel_rfl) (fun _ _ _ h => h) (Or.inl ⟨by rfl, ?_⟩) (by assumption) ?_
  · intro w hSw
    go_simp
  try simp only [List.getElem_toArray]
  try simp only [List.getElem_cons_succ]
  try simp only [List.getElem_cons_zero]
  try simp only [Act.put]
  try simp only [List.setIfInBounds_toArray]
  try simp only [List.set_cons_succ]
  try simp only [List.set_cons_zero]
  refine wpAnyH_take (i := 6) (v := .int .u8 (48 + z)) rfl (by kernel_rfl) (by kernel_rfl) (by kernel_rfl) (fun _ _ _ h => h) (Or.inl ⟨by rfl, ?_⟩) (by assumption) ?_
  · intro w hSw
    go_simp
  try simp only [List.getElem_toArray]
  try simp only [List.getElem_cons_succ]
  try simp only [List.getElem_cons_zero]
  try simp only [Act.put]
  try simp only [List.setIfInBounds_toArray]
  try simp only [List.set_cons_succ]
  try simp only [List.set_cons_zero]
  refine wpAnyH_ready (rs := [2, 7]) (by kernel_rfl) (by simp) ?_
  refine AllReadyH.cons rfl (fun K1 hK => ?_) ?_
  · skip
    go_simp
    refine (HQ.out _).mono ?_
    rintro e w' ⟨⟨s, rfl, hs⟩, hbC⟩
    have hs100 : s.size ≤ 100 := by omega
    go_wp2_with fail
    refine hK.out _ _ ?_ (fun hHeld => ?_)
    · exact thn2 (by assumption) hbC
    clear hK K1
    try simp only [List.getElem_toArray]
    try simp only [List.getElem_cons_succ]
    try simp only [List.getElem_cons_zero]
    try simp only [Act.put]
    try simp only [List.setIfInBounds_toArray]
    try simp only [List.set_cons_succ]
    try simp only [List.set_cons_zero]
    refine wpAnyH_ready (rs := [7]) (by kernel_rfl) (by simp) ?_
    refine AllReadyH.cons rfl (fun K1 hK => ?_) AllReadyH.nil
    go_simp
    try go_wp2_with fail
    refine hK.out _ _ ?_ (fun hHeld => ?_)
    · exact thn2 (by assumption) (below_allocN _ _)
    clear hK K1
    try simp only [List.getElem_toArray]
    try simp only [List.getElem_cons_succ]
    try simp only [List.getElem_cons_zero]
    try simp only [Act.put]
    try simp only [List.setIfInBounds_toArray]
    try simp only [List.set_cons_succ]
    try simp only [List.set_cons_zero]
    refine wpAnyH_ready (rs := [8]) (by kernel_rfl) (by simp) ?_
    refine AllReadyH.cons rfl (fun K1 hK => ?_) AllReadyH.nil
    go_simp
    try go_wp2_with fail
    refine hK.out _ _ ?_ (fun hHeld => ?_)
    · assumption
    clear hK K1
    try simp only [List.getElem_toArray]
    try simp only [List.getElem_cons_succ]
    try simp only [List.getElem_cons_zero]
    try simp only [Act.put]
    try simp only [List.setIfInBounds_toArray]
    try simp only [List.set_cons_succ]
    try simp only [List.set_cons_zero]
    refine wpAnyH_ready (rs := [9]) (by kernel_rfl) (by simp) ?_
    refine AllReadyH.cons rfl (fun K1 hK => ?_) AllReadyH.nil
    go_simp
    try go_wp2_with fail
    refine hK.out _ _ ?_ (fun hHeld => ?_)
    · assumption
    clear hK K1
    try simp only [List.getElem_toArray]
    try simp only [List.getElem_cons_succ]
    try simp only [List.getElem_cons_zero]
    try simp only [Act.put]
    try simp only [List.setIfInBounds_toArray]
    try simp only [List.set_cons_succ]
    try simp only [List.set_cons_zero]
    refine wpAnyH_ready (rs := [10]) (by kernel_rfl) (by simp) ?_
    refine AllReadyH.cons rfl (fun K1 hK => ?_) AllReadyH.nil
    go_simp
    try go_wp2_with fail
    refine hK.out _ _ ?_ (fun hHeld => ?_)
    · assumption
    clear hK K1
    try simp only [List.getElem_toArray]
    try simp only [List.getElem_cons_succ]
    try simp only [List.getElem_cons_zero]
    try simp only [Act.put]
    try simp only [List.setIfInBounds_toArray]
    try simp only [List.set_cons_succ]
    try simp only [List.set_cons_zero]
    refine wpAnyH_done (by kernel_rfl) ?_ _
    refine NoPanic.normal ?_
    go_wp2
    go_ret
    exact ⟨⟨_, rfl, by rw [ByteArray.size_append]; omega⟩, by assumption⟩
  refine AllReadyH.cons rfl (fun K1 hK => ?_) AllReadyH.nil
  go_simp
  try go_wp2_with fail
  refine hK.out _ _ ?_ (fun hHeld => ?_)
  · exact thn2 (by assumption) (below_allocN _ _)
  clear hK K1
  try simp only [List.getElem_toArray]
  try simp only [List.getElem_cons_succ]
  try simp only [List.getElem_cons_zero]
  try simp only [Act.put]
  try simp only [List.setIfInBounds_toArray]
  try simp only [List.set_cons_succ]
  try simp only [List.set_cons_zero]
  refine wpAnyH_ready (rs := [2, 8]) (by kernel_rfl) (by simp) ?_
  refine AllReadyH.cons rfl (fun K1 hK => ?_) ?_
  · skip
    go_simp
    refine (HQ.out _).mono ?_
    rintro e w' ⟨⟨s, rfl, hs⟩, hbC⟩
    have hs100 : s.size ≤ 100 := by omega
    have hst2 : (convert 22 9 (.slice (some ⟨w.heap.size, 0, none⟩) 1 1)).run Tryd.prog w' = .ok (.string t) w' := HK.out w.drew w' hbC
    go_wp2_with fail
    refine hK.out _ _ ?_ (fun hHeld => ?_)
    · exact thn2 (by assumption) hbC
    clear hK K1
    try simp only [List.getElem_toArray]
    try simp only [List.getElem_cons_succ]
    try simp only [List.getElem_cons_zero]
    try simp only [Act.put]
    try simp only [List.setIfInBounds_toArray]
    try simp only [List.set_cons_succ]
    try simp only [List.set_cons_zero]
    refine wpAnyH_ready (rs := [8]) (by kernel_rfl) (by simp) ?_
    refine AllReadyH.cons rfl (fun K1 hK => ?_) AllReadyH.nil
    go_simp
    try go_wp2_with fail
    refine hK.out _ _ ?_ (fun hHeld => ?_)
    · assumption
    clear hK K1
    try simp only [List.getElem_toArray]
    try simp only [List.getElem_cons_succ]
    try simp only [List.getElem_cons_zero]
    try simp only [Act.put]
    try simp only [List.setIfInBounds_toArray]
    try simp only [List.set_cons_succ]
    try simp only [List.set_cons_zero]
    refine wpAnyH_ready (rs := [9]) (by kernel_rfl) (by simp) ?_
    refine AllReadyH.cons rfl (fun K1 hK => ?_) AllReadyH.nil
    go_simp
    try go_wp2_with fail
    refine hK.out _ _ ?_ (fun hHeld => ?_)
    · assumption
    clear hK K1
    try simp only [List.getElem_toArray]
    try simp only [List.getElem_cons_succ]
    try simp only [List.getElem_cons_zero]
    try simp only [Act.put]
    try simp only [List.setIfInBounds_toArray]
    try simp only [List.set_cons_succ]
    try simp only [List.set_cons_zero]
    refine wpAnyH_ready (rs := [10]) (by kernel_rfl) (by simp) ?_
    refine AllReadyH.cons rfl (fun K1 hK => ?_) AllReadyH.nil
    go_simp
    try go_wp2_with fail
    refine hK.out _ _ ?_ (fun hHeld => ?_)
    · assumption
    clear hK K1
    try simp only [List.getElem_toArray]
    try simp only [List.getElem_cons_succ]
    try simp only [List.getElem_cons_zero]
    try simp only [Act.put]
    try simp only [List.setIfInBounds_toArray]
    try simp only [List.set_cons_succ]
    try simp only [List.set_cons_zero]
    refine wpAnyH_done (by kernel_rfl) ?_ _
    refine NoPanic.normal ?_
    go_wp2
    go_ret
    exact ⟨⟨_, rfl, by rw [ByteArray.size_append]; omega⟩, by assumption⟩
  refine AllReadyH.cons rfl (fun K1 hK => ?_) AllReadyH.nil
  go_simp
  try go_wp2_with fail
  refine hK.out _ _ ?_ (fun hHeld => ?_)
  · assumption
  clear hK K1
  try simp only [List.getElem_toArray]
  try simp only [List.getElem_cons_succ]
  try simp only [List.getElem_cons_zero]
  try simp only [Act.put]
  try simp only [List.setIfInBounds_toArray]
  try simp only [List.set_cons_succ]
  try simp only [List.set_cons_zero]
  refine wpAnyH_ready (rs := [2]) (by kernel_rfl) (by simp) ?_
  refine AllReadyH.cons rfl (fun K1 hK => ?_) AllReadyH.nil
  go_simp
  refine (HQ.out _).mono ?_
  rintro e w' ⟨⟨s, rfl, hs⟩, hbC⟩
  have hs100 : s.size ≤ 100 := by omega
  go_wp2_with fail
  refine hK.out _ _ ?_ (fun hHeld => ?_)
  · exact thn2 (by assumption) hbC
  clear hK K1
  try simp only [List.getElem_toArray]
  try simp only [List.getElem_cons_succ]
  try simp only [List.getElem_cons_zero]
  try simp only [Act.put]
  try simp only [List.setIfInBounds_toArray]
  try simp only [List.set_cons_succ]
  try simp only [List.set_cons_zero]
  refine wpAnyH_ready (rs := [9]) (by kernel_rfl) (by simp) ?_
  refine AllReadyH.cons rfl (fun K1 hK => ?_) AllReadyH.nil
  go_simp
  try go_wp2_with fail
  refine hK.out _ _ ?_ (fun hHeld => ?_)
  · assumption
  clear hK K1
  try simp only [List.getElem_toArray]
  try simp only [List.getElem_cons_succ]
  try simp only [List.getElem_cons_zero]
  try simp only [Act.put]
  try simp only [List.setIfInBounds_toArray]
  try simp only [List.set_cons_succ]
  try simp only [List.set_cons_zero]
  refine wpAnyH_ready (rs := [10]) (by kernel_rfl) (by simp) ?_
  refine AllReadyH.cons rfl (fun K1 hK => ?_) AllReadyH.nil
  go_simp
  try go_wp2_with fail
  refine hK.out _ _ ?_ (fun hHeld => ?_)
  · assumption
  clear hK K1
  try simp only [List.getElem_toArray]
  try simp only [List.getElem_cons_succ]
  try simp only [List.getElem_cons_zero]
  try simp only [Act.put]
  try simp only [List.setIfInBounds_toArray]
  try simp only [List.set_cons_succ]
  try simp only [List.set_cons_zero]
  refine wpAnyH_done (by kernel_rfl) ?_ _
  refine NoPanic.normal ?_
  go_wp2
  go_ret
  exact ⟨⟨_, rfl, by rw [ByteArray.size_append]; omega⟩, by assumption⟩
theorem numText_any (m : Int) (w : World) (h0 : 0 ≤ m) (h1 : m < 100) : Calls Tryd.prog 71 #[.int .i64 m] w fun e w' => (∃ s : ByteArray, e = .returned (.string s) ∧ s.size ≤ 4) ∧ Below w.heap.size w w' := by
  by_cases h2 : m < 10
  · refine (numText1 m w h0 h2).mono ?_
    rintro e w' ⟨⟨s, rfl, hs⟩, hb⟩
    exact ⟨⟨s, rfl, by omega⟩, hb⟩
  · refine (numStep m w 2 (by omega) (by omega) (by omega) (hid fun w => numText1 _ w (Int.tdiv_nonneg h0 (by omega)) (by have := Int.tdiv_eq_ediv_of_nonneg (b := 10) h0; omega))).mono ?_
    rintro e w' ⟨⟨s, rfl, hs⟩, hb⟩
    exact ⟨⟨s, rfl, by omega⟩, hb⟩
theorem numText3 (m : Int) (w : World) (h0 : 0 ≤ m) (h1 : m < 1000) : Calls Tryd.prog 71 #[.int .i64 m] w fun e w' => (∃ s : ByteArray, e = .returned (.string s) ∧ s.size ≤ 5) ∧ Below w.heap.size w w' := by
  by_cases h2 : m < 100
  · refine (numText_any m w h0 h2).mono ?_
    rintro e w' ⟨⟨s, rfl, hs⟩, hb⟩
    exact ⟨⟨s, rfl, by omega⟩, hb⟩
  · exact numStep m w 4 (by omega) (by omega) (by omega) (hid fun w => numText_any _ w (Int.tdiv_nonneg h0 (by omega)) (by have := Int.tdiv_eq_ediv_of_nonneg (b := 10) h0; omega))
theorem numText4 (m : Int) (w : World) (h0 : 0 ≤ m) (h1 : m < 10000) : Calls Tryd.prog 71 #[.int .i64 m] w fun e w' => (∃ s : ByteArray, e = .returned (.string s) ∧ s.size ≤ 6) ∧ Below w.heap.size w w' := by
  by_cases h2 : m < 1000
  · refine (numText3 m w h0 h2).mono ?_
    rintro e w' ⟨⟨s, rfl, hs⟩, hb⟩
    exact ⟨⟨s, rfl, by omega⟩, hb⟩
  · exact numStep m w 5 (by omega) (by omega) (by omega) (hid fun w => numText3 _ w (Int.tdiv_nonneg h0 (by omega)) (by have := Int.tdiv_eq_ediv_of_nonneg (b := 10) h0; omega))
end Go.Proofs.YtcpdedpgjaimkaaDoor
/-
  DrawDiskSync, over what l05Any leaves (l05Any's contract is a premise here).
-/
namespace Go.Proofs.YtcpdedpgjaimkaaDoor
open Go.RowKit
set_option linter.unusedVariables false
/-- What a draw of a disk leaves. -/
def AnyD (w : World) (g : Nat) (e : Ending) (w' : World) : Prop := ∃ sa sn sc da dn dc d, e = .returned (.agg #[.slice sa sn sc, .slice da dn dc]) ∧ Dk w' (fun y => w.heap.size ≤ y) sa sn sc da dn dc d ∧ smallD d ∧ (d.sh.length ≤ 1048576 ∧ d.dw.length ≤ 1048576) ∧ w.grownBy w' (some g) ∧ Cu w' g
set_option maxHeartbeats 4000000 in
theorem drawSync_any (HAny : ∀ (g : Nat) (w : World), Cu w g → Calls Tryd.prog 11 #[.pointer (some ⟨g, 0, none⟩)] w fun e w' => AnyD w g e w')
    (a : Option Addr) (n c : Nat) (zs : List Int) (w : World) (h : Rd w a n c zs) (hl : n ≤ 1048576) :
    Calls Tryd.prog 4 #[.slice a n c] w fun e w' => SyDraw w e w' := by
  have HA := hid HAny
  have hb0 := below_new (o := .cells #[.slice none 0 0, .slice none 0 0] 26) (w := w) (Below.refl _ _)
  have HR := hid (h.kept hb0)
  have B0 := hid hb0
  have K0 := hid (Bk.new w 26 [.slice none 0 0, .slice none 0 0])
  clear h hb0 HAny
  go_enter Tryd.func4, Tryd.ntmps4
  go_wp2_with fail
  refine (new_any a n c zs _ HR.out hl).mono ?_
  generalize hU : w.alloc (.cells #[.slice none 0 0, .slice none 0 0] 26) = u0 at *
  clear hU
  rintro e w1 ⟨rfl, hb1, hc1⟩
  have HC := hid hc1
  have B1 := hid hb1
  have K1 := hid (K0.out.below hb1)
  have SK : Hid (w.heap.size < u0.heap.size) := K0.out.lt
  clear hb1 hc1 K0
  go_wp2_with fail
  refine (HA.out _ _ HC.out).mono ?_
  rintro e w2 ⟨sa, sn, sc, da, dn, dc, d, rfl, hO, hS, hB, hg, hc⟩
  have o : Only (fun y => y = u0.heap.size) w1 w2 := only_of_grown hg (fun k e => by cases e; rfl)
  have hbn := below_new (o := .cells #[.slice sa sn sc, .slice da dn dc] 26) (w := w2) (Below.refl _ _)
  have K2 := hid ((K1.out.to o (by have := SK.out; omega)).below hbn)
  have B2 : Hid (Below u0.heap.size u0 (w2.alloc (.cells #[.slice sa sn sc, .slice da dn dc] 26))) := (B1.out.trans (o.below B1.out.size (fun y hy e => by omega))).trans (hbn.mono (by have h1 := B1.out.size; have h2 := hg.size; omega))
  have D2 := hid (hO.below hbn)
  have SO : Hid (w.heap.size < w1.heap.size) := K1.out.lt
  have NS : Hid (sn = d.sh.length ∧ dn = d.dw.length) := ⟨hO.hs.len.1, hO.hd.len.1⟩
  have HS := hid hS
  have HB := hid hB
  clear hO hS hB hg hc o hbn K1 B1 HC HA
  have k0 := K2.out.cell (j := 0) rfl
  have k1 := K2.out.cell (j := 1) rfl
  have f0 := K2.out.free 0
  have f1 := K2.out.free 1
  go_wp2
  refine bodyPost_ret (v := .agg #[.slice sa sn sc, .slice da dn dc]) ?_ rfl ?_
  · exact results_dsk rfl _ _ _ rfl (by go_simp) (by go_simp)
  · have O1 : Only (fun y => y = w.heap.size) (w2.alloc (.cells #[.slice sa sn sc, .slice da dn dc] 26)) (((w2.alloc (.cells #[.slice sa sn sc, .slice da dn dc] 26)).setCell ⟨w.heap.size, 0, none⟩ (.slice sa sn sc)).setCell ⟨w.heap.size, 1, none⟩ (.slice da dn dc)) := (only_set (R := fun y => y = w.heap.size) rfl _).trans (only_set (R := fun y => y = w.heap.size) rfl _)
    refine ⟨sa, sn, sc, da, dn, dc, d, rfl, (D2.out.to O1 (fun y hy _ e => by have h2 := SO.out; omega)).mono (fun _ _ _ => trivial), HS.out, by rw [NS.out.1]; exact HB.out.1, by rw [NS.out.2]; exact HB.out.2, ?_⟩
    exact ((bt7 B0.out B2.out).setCell (p := ⟨w.heap.size, 0, none⟩) (Nat.le_refl _) _).setCell (p := ⟨w.heap.size, 1, none⟩) (Nat.le_refl _) _
end Go.Proofs.YtcpdedpgjaimkaaDoor
/-
  DiskWrite of the specification.
-/
namespace Go.Proofs.YtcpdedpgjaimkaaDoor
open Go.RowKit
set_option linter.unusedVariables false
def dwrD (d : DK) (t : Int) (bs : List Int) : DK := ⟨d.sh, d.dw ++ [(t, bs)]⟩
def dwrV (d : DK) (t : Int) (bs : List Int) : Option DK := if dkOk (dwrD d t bs) = true then some (dwrD d t bs) else none
theorem dwr_no {d : DK} {t : Int} {bs : List Int} (h : dkOk d = false) : dkOk (dwrD d t bs) = false := by
  cases e : dkOk (dwrD d t bs) with
  | false => rfl
  | true =>
    have k := (dkOk_iff _).1 e
    have hl : (dwrD d t bs).dw.length = d.dw.length + 1 := by simp [dwrD]
    have : dkOk d = true := (dkOk_iff d).2 ⟨k.1, k.2.1, by have := k.2.2.1; omega, k.2.2.2.1, fun i hi => by
      have := k.2.2.2.2 i (by omega)
      rwa [show dwAt (dwrD d t bs).dw i = dwAt d.dw i from wAt_left hi] at this⟩
    rw [this] at h
    cases h
/-- The boxes of DiskWrite: the result, what comes. -/
structure WX (w v : World) (bo B : Nat) (xa : Option Addr) (xn xc : Nat) (ya : Option Addr) (yn yc : Nat) (V : List Value) (Uu : List (Int × Value)) (d : DK) : Prop where
  bel : Below w.heap.size w v
  k1 : Bk v (w.heap.size + 1) 26 [.slice none 0 0, .slice none 0 0]
  k2 : Bk v bo 26 [.slice xa xn xc, .slice ya yn yc]
  own : DO v B (.slice xa xn xc) V (.slice ya yn yc) Uu d
  lo : w.heap.size + 1 < B
  lb : w.heap.size + 1 < bo
  nb : ∀ y, dbl (.slice xa xn xc) V (.slice ya yn yc) Uu y → y ≠ bo
theorem WX.below {w v v' : World} {bo B : Nat} {xa : Option Addr} {xn xc : Nat} {ya : Option Addr} {yn yc : Nat} {V : List Value} {Uu : List (Int × Value)} {d : DK} (h : WX w v bo B xa xn xc ya yn yc V Uu d) (hb : Below v.heap.size v v') : WX w v' bo B xa xn xc ya yn yc V Uu d :=
  ⟨bt7 h.bel hb, h.k1.below hb, h.k2.below hb, h.own.below hb, h.lo, h.lb, h.nb⟩
theorem WX.pushW {w v u w5 : World} {bo B : Nat} {xa : Option Addr} {xn xc : Nat} {ya : Option Addr} {yn yc : Nat} {V : List Value} {Uu : List (Int × Value)} {d : DK} (h : WX w v bo B xa xn xc ya yn yc V Uu d) (hb : Below v.heap.size v u) (t : Int) (x : List Int) (p : Value) (hx : Ob u v.heap.size p x) (hxb : byt x) (hBv : B ≤ v.heap.size)
    {a5 : Option Addr} {n5 c5 : Nat} (ho : w5.ownsRow B 43 2 (.slice a5 n5 c5) (d.dw.length + 1) (wcs Uu ++ [.int .i64 t, p])) (hg : u.grownBy w5 (Value.slice ya yn yc).ownBlock) (ha : (Value.slice a5 n5 c5).ownBlock = (Value.slice ya yn yc).ownBlock ∨ (Value.slice a5 n5 c5).ownBlock = some u.heap.size) :
    WX w (w5.setCell ⟨bo, 1, none⟩ (.slice a5 n5 c5)) bo B xa xn xc a5 n5 c5 V (Uu ++ [(t, p)]) (dwrD d t x) := by
  have hu := h.below hb
  have hlo := h.lo
  have hlb := h.lb
  have hbv : bo < v.heap.size := h.k2.lt
  have hlt := hb.size
  have o : Only (fun y => (Value.slice ya yn yc).ownBlock = some y) u w5 := only_of_grown hg (fun k e => e)
  have hxo : ∀ y, (Value.slice ya yn yc).ownBlock = some y → B ≤ y ∧ y < v.heap.size := fun y e => World.ownsRow.lt h.own.hd.row y e
  have hnew : ∀ y, p.ownBlock = some y → v.heap.size ≤ y ∧ y < u.heap.size := fun y e => World.ownsRow.lt hx y e
  have hW := hu.own.hd.push t x p (ownD_base hx hBv) hxb (fun y e e2 => by have h1 := hnew y e; have h2 := (h.own.hd.lt e2).2; omega) ho hg ha
  have hS := hu.own.hs.to o (fun y e e2 => hu.own.ap y e (.inl e2))
  have k1 := hu.k1.to o (fun e => by have := (hxo _ e).1; omega)
  have k2 := hu.k2.to o (fun e => h.nb bo (.inr (.inl e)) rfl)
  have b5 : Below w.heap.size w w5 := hu.bel.trans (o.below hu.bel.size (fun y hy e => by have := (hxo y e).1; omega))
  have o2 : Only (fun y => y = bo) w5 (w5.setCell ⟨bo, 1, none⟩ (.slice a5 n5 c5)) := only_set (R := fun y => y = bo) rfl _
  have hwn : ∀ y, wbl (.slice a5 n5 c5) (Uu ++ [(t, p)]) y → y ≠ bo ∧ ∀ z, sbl (.slice xa xn xc) V z → z ≠ y := by
    intro y hy
    rcases hy with e | ⟨i, hi, e⟩
    · rcases ha with ha | ha
      · rw [ha] at e
        exact ⟨h.nb y (.inr (.inl e)), fun z hz e2 => h.own.ap z hz (.inl (by rw [e2]; exact e))⟩
      · rw [ha] at e; cases e
        exact ⟨by omega, fun z hz => by have := (h.own.hs.lt hz).2; omega⟩
    · rw [List.length_append] at hi
      by_cases hi2 : i < Uu.length
      · rw [xAt_left hi2] at e
        exact ⟨h.nb y (.inr (.inr ⟨i, hi2, e⟩)), fun z hz e2 => h.own.ap z hz (.inr ⟨i, hi2, by rw [e2]; exact e⟩)⟩
      · obtain rfl : i = Uu.length := by simp at hi; omega
        rw [xAt_end] at e
        have := (hnew y e).1
        exact ⟨by omega, fun z hz => by have := (h.own.hs.lt hz).2; omega⟩
  refine ⟨b5.setCell (p := ⟨bo, 1, none⟩) (by show w.heap.size ≤ bo; omega) _, k1.setOther (by omega) _ _, k2.set 1 _, ⟨?_, ?_, ?_⟩, hlo, hlb, ?_⟩
  · exact hS.to o2 (fun y e e2 => h.nb y (.inl e) e2)
  · exact hW.to o2 (fun y e e2 => (hwn y e).1 e2)
  · exact fun y hy hz => (hwn y hz).2 y hy rfl
  · intro y hy
    rcases hy with hy | hy
    · exact h.nb y (.inl hy)
    · exact (hwn y hy).1
set_option maxHeartbeats 16000000 in
set_option maxRecDepth 20000 in
theorem specDiskWrite_any (S : Nat → Prop) (sa : Option Addr) (sn sc : Nat) (da : Option Addr) (dn dc : Nat) (d : DK) (t : Int) (ap : Option Addr) (np cp : Nat) (bs : List Int) (w : World) (h : Dk w S sa sn sc da dn dc d) (hsm : smallD d) (h1 : sn ≤ 1048576) (h2 : dn ≤ 1048576) (hp : Rd w ap np cp bs) (hnp : np ≤ 1048576) :
    Calls Tryd.prog 30 #[.agg #[.slice sa sn sc, .slice da dn dc], .int .i64 t, .slice ap np cp] w fun e w' => DkPo (dwrV d t bs) w e w' := by
  have HH := hid h
  have HSM := hid hsm
  have HP := hid hp
  have HND := hid h.hd.len.1
  have HB0 : Hid (Below w.heap.size w ((w.alloc (.cells #[.slice sa sn sc, .slice da dn dc] 26)).alloc (.cells #[.slice none 0 0, .slice none 0 0] 26))) := below_new (below_new (Below.refl _ _))
  have K0 := hid ((Bk.new w 26 [.slice sa sn sc, .slice da dn dc]).alloc (.cells #[.slice none 0 0, .slice none 0 0] 26))
  have K1 : Hid (Bk ((w.alloc (.cells #[.slice sa sn sc, .slice da dn dc] 26)).alloc (.cells #[.slice none 0 0, .slice none 0 0] 26)) (w.heap.size + 1) 26 [.slice none 0 0, .slice none 0 0]) := by
    have := Bk.new (w.alloc (.cells #[.slice sa sn sc, .slice da dn dc] 26)) 26 [.slice none 0 0, .slice none 0 0]
    show Bk _ _ _ _
    simpa using this
  have HOK := hid (specDiskOk_any S sa sn sc da dn dc d _ (h.below HB0.out))
  have HDV : Hid (dwrV d t bs = if dkOk (dwrD d t bs) = true then some (dwrD d t bs) else none) := rfl
  clear h hsm hp
  go_enter Tryd.func30, Tryd.ntmps30
  go_wp2_with fail
  refine HOK.out.mono ?_
  generalize (w.alloc (.cells #[.slice sa sn sc, .slice da dn dc] 26)).alloc (.cells #[.slice none 0 0, .slice none 0 0] 26) = W0 at *
  rintro e w1 ⟨rfl, hb⟩
  have J0 := hid (K0.out.below hb)
  have J1 := hid (K1.out.below hb)
  have B1 := hid (bt7 HB0.out hb)
  clear hb HB0 K0 K1 HOK
  cases hok : dkOk d with
  | false =>
    have HF : Hid (dwrV d t bs = none) := by show _ = _; rw [HDV.out, dwr_no hok]; rfl
    have r0 := J1.out.cell (j := 0) rfl
    have r1 := J1.out.cell (j := 1) rfl
    have f0 := J1.out.free 0
    have f1 := J1.out.free 1
    go_wp2
    try simp only [Exit.inBlock, Exit.then]
    refine bodyPost_ret (v := .tuple #[.agg #[.slice none 0 0, .slice none 0 0], .bool false]) (results_dsk2 rfl _ _ _ rfl rfl (by go_simp) (by go_simp)) rfl ?_
    rw [HF.out]
    exact ⟨_, _, _, _, _, _, _, _, rfl, do_nil _ _, (B1.out.setCell (p := ⟨w.heap.size + 1, 0, none⟩) (Nat.le_succ _) _).setCell (p := ⟨w.heap.size + 1, 1, none⟩) (Nat.le_succ _) _⟩
  | true =>
    have HOK := hid hok
    clear hok
    have d0 := J0.out.cell (j := 0) rfl
    have d1 := J0.out.cell (j := 1) rfl
    go_wp2_with fail
    refine (l05Copy_any S sa sn sc da dn dc d _ (HH.out.below B1.out) HSM.out h1 h2).mono ?_
    rintro e w2 ⟨xa, xn, xc, ya, yn, yc, V, Uu, rfl, hO, hb⟩
    have hbn := below_new (o := .cells #[.slice xa xn xc, .slice ya yn yc] 26) (w := w2) (Below.refl _ _)
    have XU : Hid (WX w (w2.alloc (.cells #[.slice xa xn xc, .slice ya yn yc] 26)) w2.heap.size w1.heap.size xa xn xc ya yn yc V Uu d) :=
      ⟨bt7 (bt7 B1.out hb) hbn, (J1.out.below hb).below hbn, Bk.new w2 _ [_, _], hO.below hbn, J1.out.lt, Nat.lt_of_lt_of_le J1.out.lt hb.size, fun y hy => by have := (hO.lt hy).2; omega⟩
    have SB : Hid (w1.heap.size ≤ w2.heap.size) := hb.size
    have HBW : Hid (Below w.heap.size w w2) := bt7 B1.out hb
    have HK6 : Hid (d.dw.length ≤ 1048576) := by show _ ≤ _; rw [← HND.out]; exact h2
    clear hb hbn hO J0 J1 B1 d0 d1
    generalize w1.heap.size = B at *
    have HBX : Hid (∀ z, Below (w2.alloc (.cells #[.slice xa xn xc, .slice ya yn yc] 26)).heap.size (w2.alloc (.cells #[.slice xa xn xc, .slice ya yn yc] 26)) z → z.cell? ⟨w2.heap.size, 1, none⟩ = some (.slice ya yn yc) ∧ z.frozen? ⟨w2.heap.size, 1, none⟩ = false ∧ z.ownsRow B 43 2 (.slice ya yn yc) d.dw.length (wcs Uu)) := fun z hz => by
      have c := XU.out.below hz
      exact ⟨c.k2.cell (j := 1) rfl, c.k2.free 1, c.own.hd.row⟩
    have HNE : Hid ((Value.slice ya yn yc).ownBlock ≠ some w2.heap.size) := fun e => XU.out.nb _ (.inr (.inl e)) rfl
    have HFIN : Hid (∀ (w4 : World) (a4 : Option Addr) (n4 c4 : Nat) (a5 : Option Addr) (n5 c5 : Nat) (w5 : World), Ob w4 (w2.alloc (.cells #[.slice xa xn xc, .slice ya yn yc] 26)).heap.size (.slice a4 n4 c4) bs → Below (w2.alloc (.cells #[.slice xa xn xc, .slice ya yn yc] 26)).heap.size (w2.alloc (.cells #[.slice xa xn xc, .slice ya yn yc] 26)) w4 → w5.ownsRow B 43 2 (.slice a5 n5 c5) (d.dw.length + 1) (wcs Uu ++ [.int .i64 t, .slice a4 n4 c4]) → (w4.alloc (.cells #[.int .i64 t, .slice a4 n4 c4] 43)).grownBy w5 (Value.slice ya yn yc).ownBlock → ((Value.slice a5 n5 c5).ownBlock = (Value.slice ya yn yc).ownBlock ∨ (Value.slice a5 n5 c5).ownBlock = some (w4.alloc (.cells #[.int .i64 t, .slice a4 n4 c4] 43)).heap.size) →
        WX w (w5.setCell ⟨w2.heap.size, 1, none⟩ (.slice a5 n5 c5)) w2.heap.size B xa xn xc a5 n5 c5 V (Uu ++ [(t, .slice a4 n4 c4)]) (dwrD d t bs)) := by
      intro w4 a4 n4 c4 a5 n5 c5 w5 hO4 hb4 hO5 hg5 ha5
      have hbn := below_new (o := .cells #[.int .i64 t, .slice a4 n4 c4] 43) (w := w4) (Below.refl _ _)
      exact XU.out.pushW (bt7 hb4 hbn) t _ _ (own_kept hO4 (only_of_below hbn (fun _ => False)) (fun _ _ h => h)) HP.out.2.2.2.2.1 (by have := SB.out; simp; omega) hO5 hg5 ha5
    have HS4 : Hid (∀ z, Below (w2.alloc (.cells #[.slice xa xn xc, .slice ya yn yc] 26)).heap.size (w2.alloc (.cells #[.slice xa xn xc, .slice ya yn yc] 26)) z → w2.heap.size < z.heap.size) := fun z hz => by have h1 := hz.size; simp at h1; omega
    have hbe : Below (w2.alloc (.cells #[.slice xa xn xc, .slice ya yn yc] 26)).heap.size (w2.alloc (.cells #[.slice xa xn xc, .slice ya yn yc] 26)) ((w2.alloc (.cells #[.slice xa xn xc, .slice ya yn yc] 26)).alloc (.cells #[] 5)).drew := bt7 (below_new (Below.refl _ _)) (below_drew _)
    have HUS : Hid ((w2.alloc (.cells #[.slice xa xn xc, .slice ya yn yc] 26)).heap.size = w2.heap.size + 1) := by show _ = _; simp
    have HOB : Hid (Ob ((w2.alloc (.cells #[.slice xa xn xc, .slice ya yn yc] 26)).alloc (.cells #[] 5)).drew (w2.heap.size + 1) (.slice (some ⟨w2.heap.size + 1, 0, none⟩) 0 0) []) := by
      have := ob_new (w2.alloc (.cells #[.slice xa xn xc, .slice ya yn yc] 26)) (w2.alloc (.cells #[.slice xa xn xc, .slice ya yn yc] 26)).heap.size (Nat.le_refl _)
      rw [HUS.out] at this
      exact own_kept this (only_of_below (below_drew _) (fun _ => False)) (fun _ _ h => h)
    have HRD2 : Hid (Rd ((w2.alloc (.cells #[.slice xa xn xc, .slice ya yn yc] 26)).alloc (.cells #[] 5)).drew ap np cp bs) := HP.out.kept (bt7 (bt7 HBW.out (below_new (Below.refl _ _))) hbe)
    have hzb : ([] : List Int).length + bs.length ≤ 70368744177664 := by rw [← HP.out.1]; simp; omega
    have HZ2 : Hid (w2.heap.size + 1 ≤ ((w2.alloc (.cells #[.slice xa xn xc, .slice ya yn yc] 26)).alloc (.cells #[] 5)).drew.heap.size) := by have := hbe.size; rw [HUS.out] at this; exact this
    have HB4 : Hid (∀ w4 : World, ((w2.alloc (.cells #[.slice xa xn xc, .slice ya yn yc] 26)).alloc (.cells #[] 5)).drew.grownBy w4 (Value.slice (some ⟨w2.heap.size + 1, 0, none⟩) 0 0).ownBlock → Below (w2.alloc (.cells #[.slice xa xn xc, .slice ya yn yc] 26)).heap.size (w2.alloc (.cells #[.slice xa xn xc, .slice ya yn yc] 26)) w4) := fun w4 hg => hbe.trans ((only_of_grown hg (R := fun y => (Value.slice (some ⟨w2.heap.size + 1, 0, none⟩) 0 0).ownBlock = some y) (fun k e => e)).below hbe.size (fun y hy e => by have e' : w2.heap.size + 1 = y := (by simpa [Value.ownBlock] using e); rw [HUS.out] at hy; omega))
    have HCV : Hid (∀ (w4 : World) (v4 : Value), Ob w4 (w2.heap.size + 1) v4 ([] ++ bs) → Ob w4 (w2.alloc (.cells #[.slice xa xn xc, .slice ya yn yc] 26)).heap.size v4 bs) := fun w4 v4 hO => by rw [HUS.out]; simpa using hO
    have HSZ : Hid (∀ z, Below (w2.alloc (.cells #[.slice xa xn xc, .slice ya yn yc] 26)).heap.size (w2.alloc (.cells #[.slice xa xn xc, .slice ya yn yc] 26)) z → B ≤ z.heap.size) := fun z hz => by have h1 := hz.size; have h2 := SB.out; simp at h1; omega
    have s1b : w2.heap.size < w2.heap.size + 1 := by omega
    clear hbe
    go_wp2_with fail
    go_cut [] (fun v => ∃ a5 n5 c5 V U5, Hid (WX w v w2.heap.size B xa xn xc a5 n5 c5 V U5 (dwrD d t bs)))
    case first =>
      go_region_law (first
        | (refine step_append_rd rfl _ _ rfl (w2.heap.size + 1) _ [] rfl HOB.out ap np cp bs rfl HRD2.out hzb HZ2.out ?_; intro a4 n4 c4 w4 hO4 hg4; have hb4 := HB4.out w4 hg4; have q1 := (HBX.out w4 hb4).1; have s4 := HS4.out w4 hb4)
        | (refine step_append_g rfl _ _ _ rfl B 43 (.agg #[.int .i64 0, .slice none 0 0]) 2 32 Tryd.underlying24 infoWriteI rfl (by decide) (by decide) (.slice ya yn yc) d.dw.length (wcs Uu) rfl (HBX.out _ (bt7 hb4 (below_new (Below.refl _ _)))).2.2 w4.heap.size [.int .i64 t, .slice a4 n4 c4] rfl (rw_two (Bk.new w4 _ [_, _])) rfl (by intro u hu; simp at hu; rcases hu with rfl | rfl <;> rfl) HK6.out (HSZ.out _ (bt7 hb4 (below_new (Below.refl _ _)))) w2.heap.size 1 _ (HBX.out _ (bt7 hb4 (below_new (Below.refl _ _)))).1 (HBX.out _ (bt7 hb4 (below_new (Below.refl _ _)))).2.1 HNE.out ?_; intro a5 n5 c5 w5 hO5 hg5 ha5 hc5 hf5))
      all_goals (go_wp2_with fail; go_meet)
      all_goals exact ⟨a5, n5, c5, _, _, HFIN.out w4 a4 n4 c4 a5 n5 c5 w5 (HCV.out _ _ hO4) hb4 hO5 hg5 ha5⟩
    case rest =>
      clear HSZ HCV HB4 HZ2 HRD2 HOB HUS HS4 HFIN HNE HBX XU HBW
      obtain ⟨a5, n5, c5, V5, U5, X5⟩ := hcut
      generalize w2.heap.size = bo at *
      have c0 := X5.out.k2.cell (j := 0) rfl
      have c1 := X5.out.k2.cell (j := 1) rfl
      go_wp2_with fail
      refine (specDiskOk_any (fun _ => True) xa xn xc a5 n5 c5 (dwrD d t bs) _ (X5.out.own.dk (fun _ _ => trivial))).mono ?_
      rintro e w6 ⟨rfl, hb⟩
      have X6 := hid (X5.out.below hb)
      clear hb X5 c0 c1
      have r0 := X6.out.k1.cell (j := 0) rfl
      have r1 := X6.out.k1.cell (j := 1) rfl
      have f0 := X6.out.k1.free 0
      have f1 := X6.out.k1.free 1
      have c0 := X6.out.k2.cell (j := 0) rfl
      have c1 := X6.out.k2.cell (j := 1) rfl
      cases hok : dkOk (dwrD d t bs) with
      | false =>
        have HF : Hid (dwrV d t bs = none) := by show _ = _; rw [HDV.out, hok]; rfl
        go_wp2
        try simp only [Exit.inBlock, Exit.then]
        refine bodyPost_ret (v := .tuple #[.agg #[.slice none 0 0, .slice none 0 0], .bool false]) (results_dsk2 rfl _ _ _ rfl rfl (by go_simp) (by go_simp)) rfl ?_
        rw [HF.out]
        exact ⟨_, _, _, _, _, _, _, _, rfl, do_nil _ _, (X6.out.bel.setCell (p := ⟨w.heap.size + 1, 0, none⟩) (Nat.le_succ _) _).setCell (p := ⟨w.heap.size + 1, 1, none⟩) (Nat.le_succ _) _⟩
      | true =>
        have HF : Hid (dwrV d t bs = some (dwrD d t bs)) := by show _ = _; rw [HDV.out, hok]; rfl
        go_wp2
        try simp only [Exit.inBlock, Exit.then]
        refine bodyPost_ret (v := .tuple #[.agg #[.slice xa xn xc, .slice a5 n5 c5], .bool true]) (results_dsk2 rfl _ _ _ rfl rfl (by go_simp) (by go_simp)) rfl ?_
        rw [HF.out]
        have O1 : Only (fun y => y = w.heap.size + 1) w6 ((w6.setCell ⟨w.heap.size + 1, 0, none⟩ (.slice xa xn xc)).setCell ⟨w.heap.size + 1, 1, none⟩ (.slice a5 n5 c5)) := (only_set (R := fun y => y = w.heap.size + 1) rfl _).trans (only_set (R := fun y => y = w.heap.size + 1) rfl _)
        exact ⟨_, _, _, _, _, _, _, _, rfl, (X6.out.own.to O1 (fun y e e2 => by have h1 := (X6.out.own.lt e).1; have h2 := X6.out.lo; omega)).base (by have := X6.out.lo; omega), (X6.out.bel.setCell (p := ⟨w.heap.size + 1, 0, none⟩) (Nat.le_succ _) _).setCell (p := ⟨w.heap.size + 1, 1, none⟩) (Nat.le_succ _) _⟩
end Go.Proofs.YtcpdedpgjaimkaaDoor
/-
  l05Draw, over what l05Bytes leaves (its contract is a premise here).
-/
namespace Go.Proofs.YtcpdedpgjaimkaaDoor
open Go.RowKit
set_option linter.unusedVariables false
def BytD (w : World) (g : Nat) (e : Ending) (w' : World) : Prop := ∃ a n c zs, e = .returned (.slice a n c) ∧ Ob w' w.heap.size (.slice a n c) zs ∧ zs.length = 512 ∧ byt zs ∧ w.grownBy w' (some g) ∧ Cu w' g
theorem grown_setHigh {w v : World} {g b : Nat} (h : w.grownBy v (some g)) (hb : w.heap.size ≤ b) (o : Nat) (x : Value) : w.grownBy (v.setCell ⟨b, o, none⟩ x) (some g) :=
  ⟨h.os, h.tape, h.output, by simp [World.setCell]; exact h.size, fun k hk hne => by rw [Below.heap_setCell _ _ _ _ (by show k ≠ b; omega)]; exact h.block k hk hne⟩
theorem Cu.setD {v : World} {g : Nat} (h : Cu v g) (b o : Nat) (x : Value) (hb : g < b) : Cu (v.setCell ⟨b, o, none⟩ x) g := h.kept (grownBy_set (grownBy_refl v (some b)) o x) (fun k e => by cases e; exact hb)
theorem dcV_ok {d : DK} (hok : dkOk d = true) (hb : (∀ i, byt (shAt d.sh i)) ∧ ∀ i, byt (dwAt d.dw i).2) (keep : List Int) : dkOk (dcV d keep) = true ∧ (dcV d keep).dw.length = 0 := by
  have hk := (dkOk_iff d).1 hok
  have he : dcV d keep = ⟨crS d.sh d.dw keep d.dw.length, []⟩ := by rw [dcV, if_pos hok]
  have hl : (crS d.sh d.dw keep d.dw.length).length = d.sh.length := crS_len _ _ _ _
  refine ⟨?_, by rw [he]; rfl⟩
  rw [he, dkOk_iff]
  refine ⟨by rw [hl]; exact hk.1, by rw [hl]; exact hk.2.1, Nat.zero_le _, fun i hi => ?_, fun i hi => by simp at hi⟩
  exact (crS_facts hok hb keep d.dw.length (Nat.le_refl _) i).2 (by simp only at hi; omega)
theorem dwr_ok {d : DK} (hok : dkOk d = true) (hl : d.dw.length < 500) {t : Int} (h0 : 0 ≤ t) (h1 : t < (d.sh.length : Int)) {bs : List Int} (hb : bs.length = 512) : dkOk (dwrD d t bs) = true := by
  have hk := (dkOk_iff d).1 hok
  rw [dkOk_iff]
  refine ⟨hk.1, hk.2.1, by simp [dwrD]; omega, hk.2.2.2.1, fun i hi => ?_⟩
  by_cases e : i < d.dw.length
  · rw [show dwAt (dwrD d t bs).dw i = dwAt d.dw i from wAt_left e]
    exact hk.2.2.2.2 i e
  · obtain rfl : i = d.dw.length := by simp [dwrD] at hi; omega
    rw [show dwAt (dwrD d t bs).dw d.dw.length = (t, bs) from wAt_end _ _, wrtOk_iff]
    exact ⟨h0, h1, hb⟩
/-- The boxes of l05Draw: the result, the disk at hand. -/
structure YD (w v : World) (g b : Nat) (xa : Option Addr) (xn xc : Nat) (ya : Option Addr) (yn yc : Nat) (V : List Value) (Uu : List (Int × Value)) (d : DK) (j : Nat) : Prop where
  gr : w.grownBy v (some g)
  cu : Cu v g
  k0 : Bk v w.heap.size 26 [.slice none 0 0, .slice none 0 0]
  k1 : Bk v b 26 [.slice xa xn xc, .slice ya yn yc]
  own : DO v (w.heap.size + 1) (.slice xa xn xc) V (.slice ya yn yc) Uu d
  nb : ∀ y, dbl (.slice xa xn xc) V (.slice ya yn yc) Uu y → y ≠ b
  ok : dkOk d = true
  few : d.dw.length + j ≤ 7
  gl : g < w.heap.size
  bl : w.heap.size < b
theorem YD.below {w v v' : World} {g b : Nat} {xa : Option Addr} {xn xc : Nat} {ya : Option Addr} {yn yc : Nat} {V : List Value} {Uu : List (Int × Value)} {d : DK} {j : Nat} (h : YD w v g b xa xn xc ya yn yc V Uu d j) (hb : Below v.heap.size v v') : YD w v' g b xa xn xc ya yn yc V Uu d j :=
  ⟨grownBy_trans h.gr (grown_of_below hb _), h.cu.below hb, h.k0.below hb, h.k1.below hb, h.own.below hb, h.nb, h.ok, h.few, h.gl, h.bl⟩
theorem YD.draw {w v v' : World} {g b : Nat} {xa : Option Addr} {xn xc : Nat} {ya : Option Addr} {yn yc : Nat} {V : List Value} {Uu : List (Int × Value)} {d : DK} {j : Nat} (h : YD w v g b xa xn xc ya yn yc V Uu d j) (hg : v.grownBy v' (some g)) (hc : Cu v' g) : YD w v' g b xa xn xc ya yn yc V Uu d j := by
  have o : Only (fun y => y = g) v v' := only_of_grown hg (fun k e => by cases e; rfl)
  have h1 := h.gl
  have h2 := h.bl
  exact ⟨grownBy_trans h.gr hg, hc, h.k0.to o (by omega), h.k1.to o (by omega), h.own.to o (fun y hy e => by have := (h.own.lt hy).1; omega), h.nb, h.ok, h.few, h.gl, h.bl⟩
theorem YD.put {w v v' : World} {g b B : Nat} {xa : Option Addr} {xn xc : Nat} {ya : Option Addr} {yn yc : Nat} {V : List Value} {Uu : List (Int × Value)} {d : DK} {j j' : Nat} (h : YD w v g b xa xn xc ya yn yc V Uu d j) (hb : Below v.heap.size v v') {xa' : Option Addr} {xn' xc' : Nat} {ya' : Option Addr} {yn' yc' : Nat} {V' : List Value} {U' : List (Int × Value)} {d' : DK} (hO : DO v' B (.slice xa' xn' xc') V' (.slice ya' yn' yc') U' d') (hB : b < B) (ho : dkOk d' = true) (hf : d'.dw.length + j' ≤ 7) :
    YD w ((v'.setCell ⟨b, 0, none⟩ (.slice xa' xn' xc')).setCell ⟨b, 1, none⟩ (.slice ya' yn' yc')) g b xa' xn' xc' ya' yn' yc' V' U' d' j' := by
  have hv := h.below hb
  have h1 := h.gl
  have h2 := h.bl
  have o : Only (fun y => y = b) v' ((v'.setCell ⟨b, 0, none⟩ (.slice xa' xn' xc')).setCell ⟨b, 1, none⟩ (.slice ya' yn' yc')) := (only_set (R := fun y => y = b) rfl _).trans (only_set (R := fun y => y = b) rfl _)
  exact ⟨grown_setHigh (grown_setHigh hv.gr (by omega) _ _) (by omega) _ _, (hv.cu.setD b 0 _ (by omega)).setD b 1 _ (by omega), hv.k0.to o (by omega), (hv.k1.set 0 _).set 1 _, (hO.to o (fun y hy e => by have := (hO.lt hy).1; omega)).base (by omega), fun y hy e => by have := (hO.lt hy).1; omega, ho, hf, h1, h2⟩
theorem YD.cells {w v : World} {g b : Nat} {xa : Option Addr} {xn xc : Nat} {ya : Option Addr} {yn yc : Nat} {V : List Value} {Uu : List (Int × Value)} {d : DK} {j : Nat} (h : YD w v g b xa xn xc ya yn yc V Uu d j) : v.cell? ⟨b, 0, none⟩ = some (.slice xa xn xc) ∧ v.cell? ⟨b, 1, none⟩ = some (.slice ya yn yc) := ⟨h.k1.cell (j := 0) rfl, h.k1.cell (j := 1) rfl⟩
theorem YD.frees {w v : World} {g b : Nat} {xa : Option Addr} {xn xc : Nat} {ya : Option Addr} {yn yc : Nat} {V : List Value} {Uu : List (Int × Value)} {d : DK} {j : Nat} (h : YD w v g b xa xn xc ya yn yc V Uu d j) : v.frozen? ⟨b, 0, none⟩ = false ∧ v.frozen? ⟨b, 1, none⟩ = false := ⟨h.k1.free 0, h.k1.free 1⟩
theorem YD.dk {w v : World} {g b : Nat} {xa : Option Addr} {xn xc : Nat} {ya : Option Addr} {yn yc : Nat} {V : List Value} {Uu : List (Int × Value)} {d : DK} {j : Nat} (h : YD w v g b xa xn xc ya yn yc V Uu d j) : Dk v (fun _ => True) xa xn xc ya yn yc d := h.own.dk (fun _ _ => trivial)
theorem YD.le {w v : World} {g b : Nat} {xa : Option Addr} {xn xc : Nat} {ya : Option Addr} {yn yc : Nat} {V : List Value} {Uu : List (Int × Value)} {d : DK} {j : Nat} (h : YD w v g b xa xn xc ya yn yc V Uu d j) : xn = d.sh.length ∧ xn ≤ 400 ∧ yn ≤ 500 ∧ xn ≤ xc ∧ xc ≤ 9223372036854775807 ∧ 2 ≤ xn := by
  have h1 := own_at h.own.hs.row
  have h2 := own_at h.own.hd.row
  have h3 := (dkOk_iff d).1 h.ok
  exact ⟨h1.1, by omega, by omega, h1.2.1, h1.2.2.1, by omega⟩
end Go.Proofs.YtcpdedpgjaimkaaDoor
/-
  l05Draw, over what l05Bytes leaves (its contract is a premise here).
-/
namespace Go.Proofs.YtcpdedpgjaimkaaDoor
open Go.RowKit
set_option linter.unusedVariables false
set_option maxHeartbeats 16000000 in
set_option maxRecDepth 20000 in
theorem l05Draw_any (HBy : ∀ (g : Nat) (w : World), Cu w g → Calls Tryd.prog 31 #[.pointer (some ⟨g, 0, none⟩)] w fun e w' => BytD w g e w') (g : Nat) (w : World) (h : Cu w g) :
    Calls Tryd.prog 22 #[.pointer (some ⟨g, 0, none⟩)] w fun e w' => ∃ sa sn sc da dn dc V U d, e = .returned (.agg #[.slice sa sn sc, .slice da dn dc]) ∧ DO w' w.heap.size (.slice sa sn sc) V (.slice da dn dc) U d ∧ dkOk d = true ∧ w.grownBy w' (some g) ∧ Cu w' g := by
  have HY := hid HBy
  have hgl := h.lt
  have C0 := hid (h.alloc (.cells #[.slice none 0 0, .slice none 0 0] 26))
  have K0 := hid (Bk.new w 26 [.slice none 0 0, .slice none 0 0])
  have G0 := hid (grownBy_alloc w (.cells #[.slice none 0 0, .slice none 0 0] 26) (some g))
  clear h HBy
  go_enter Tryd.func22, Tryd.ntmps22
  go_wp2_with fail
  refine (below_any g 6 _ C0.out (by omega) (by omega)).mono ?_
  generalize hU : w.alloc (.cells #[.slice none 0 0, .slice none 0 0] 26) = u0 at *
  clear hU
  rintro e w1 ⟨⟨x1, rfl, lo1, hi1⟩, hg1, hc1⟩
  have C1 := hid hc1
  have G1 := hid (grownBy_trans G0.out hg1)
  have K1 := hid (K0.out.to (only_of_grown hg1 (R := fun y => y = g) (fun k e => by cases e; rfl)) (by omega))
  clear hg1 hc1 C0 K0 G0
  have hwx : IntKind.i64.wrap (2 + x1) = 2 + x1 := by simp [IntKind.wrap, IntKind.signed, IntKind.bits]; omega
  have HDN : Hid (dnV (2 + x1) = some ⟨List.replicate (2 + x1).toNat [], []⟩) := by show _ = _; rw [dnV, if_pos (by omega)]
  have HDO : Hid (dkOk ⟨List.replicate (2 + x1).toNat [], []⟩ = true) := by
    show _ = _
    rw [dkOk_iff]
    refine ⟨by simp; omega, by simp; omega, by simp, fun i hi => ?_, fun i hi => by simp at hi⟩
    have : shAt (List.replicate (2 + x1).toNat ([] : List Int)) i = [] := by
      by_cases e : i < (2 + x1).toNat
      · simp [shAt, e]
      · simp [shAt, e]
    show shtOk (shAt (List.replicate (2 + x1).toNat ([] : List Int)) i) = true
    rw [this]
    rfl
  go_wp2_with fail
  refine (specDiskNew_any (2 + x1) _).mono ?_
  rw [HDN.out]
  rintro e w2 ⟨xa, xn, xc, ya, yn, yc, V, Uu, rfl, hO, hb⟩
  have hbn := below_new (o := .cells #[.slice xa xn xc, .slice ya yn yc] 26) (w := w2) (Below.refl _ _)
  have hb2 := bt7 hb hbn
  have Y2 : Hid (YD w (w2.alloc (.cells #[.slice xa xn xc, .slice ya yn yc] 26)) g w2.heap.size xa xn xc ya yn yc V Uu ⟨List.replicate (2 + x1).toNat [], []⟩ 6) :=
    ⟨grownBy_trans G1.out (grown_of_below hb2 _), C1.out.below hb2, K1.out.below hb2, Bk.new w2 _ [_, _], (hO.below hbn).base (by have := K1.out.lt; omega), fun y hy => by have := (hO.lt hy).2; omega, HDO.out, by simp, hgl, Nat.lt_of_lt_of_le K1.out.lt hb.size⟩
  generalize (⟨List.replicate (2 + x1).toNat [], []⟩ : DK) = d at *
  clear hb hbn hb2 hO C1 G1 K1 HDN HDO
  go_wp2_with fail
  refine (below_any g 7 _ Y2.out.cu (by omega) (by omega)).mono ?_
  generalize w2.alloc (.cells #[.slice xa xn xc, .slice ya yn yc] 26) = u2 at *
  generalize w2.heap.size = b at *
  rintro e w3 ⟨⟨x3, rfl, lo3, hi3⟩, hg3, hc3⟩
  have Y3 := hid (Y2.out.draw hg3 hc3)
  clear hg3 hc3 Y2
  obtain ⟨m, rfl⟩ : ∃ m : Nat, x3 = (m : Int) := ⟨x3.toNat, by omega⟩
  go_wp2_with fail
  go_loopw [5] (fun i wr => ∃ (j : Nat) (xa : Option Addr) (xn xc : Nat) (ya : Option Addr) (yn yc : Nat) (V : List Value) (Uu : List (Int × Value)) (d : DK), j ≤ 6 ∧ i = .int .i64 j ∧ Hid (YD w wr g b xa xn xc ya yn yc V Uu d j)) (fun i _ => (intOf i).toNat)
  case atStart => exact ⟨m, xa, xn, xc, ya, yn, yc, V, Uu, d, by omega, rfl, ⟨Y3.out.gr, Y3.out.cu, Y3.out.k0, Y3.out.k1, Y3.out.own, Y3.out.nb, Y3.out.ok, by have := Y3.out.few; omega, Y3.out.gl, Y3.out.bl⟩⟩
  case round =>
    clear Y3
    obtain ⟨j, xa, xn, xc, ya, yn, yc, V, Uu, d, hj, rfl, YY⟩ := hrel
    by_cases hpos : 0 < j
    · have hpos' : (0 : Int) < (j : Int) := by omega
      go_wp2_with fail
      refine (below_any g 6 _ YY.out.cu (by omega) (by omega)).mono ?_
      rintro e w4 ⟨⟨x4, rfl, lo4, hi4⟩, hg4, hc4⟩
      have Y4 := hid (YY.out.draw hg4 hc4)
      clear hg4 hc4 YY
      have HBY := hid Y4.out.dk.bytes'
      have HSM := hid (ok_small5 Y4.out.ok)
      have HLE := hid Y4.out.le
      have hx1 := Y4.out.le.2.1
      have hx2 := Y4.out.le.2.2.1
      have hx3 := Y4.out.le.2.2.2.1
      have hx4 := Y4.out.le.2.2.2.2.1
      have hx5 := Y4.out.le.2.2.2.2.2
      have SB : Hid (b < w4.heap.size) := Y4.out.k1.lt
      by_cases hk0 : x4 = 0
      · subst hk0
        obtain ⟨d0, d1⟩ := Y4.out.cells
        go_wp2_with fail
        refine (specDiskSync_any (fun _ => True) xa xn xc ya yn yc d _ Y4.out.dk HSM.out (by omega) (by omega)).mono ?_
        rintro e w5 ⟨pa, pn, pc, qa, qn, qc, V5, U5, rfl, hO, hb⟩
        have hf := dsV_facts Y4.out.ok HBY.out
        have Y5 := hid (Y4.out.put (j' := j - 1) hb hO SB.out hf.1 (by rw [hf.2.1]; simp; omega))
        have d0 := (Y4.out.below hb).cells.1
        have d1 := (Y4.out.below hb).cells.2
        have f0 := (Y4.out.below hb).frees.1
        have f1 := (Y4.out.below hb).frees.2
        clear hf hO hb Y4
        go_wp2
        go_roundw
        case rel => exact ⟨j - 1, pa, pn, pc, qa, qn, qc, V5, U5, _, by omega, by go_num, Y5.out⟩
        case measure => simp [intOf]; omega
      · by_cases hk1 : x4 = 1
        · subst hk1
          go_wp2_with fail
          refine wp_region_noPanic ?_
          refine wp_region_held_drew (S := (fun _ => True)) (by kernel_rfl) trivial (fun hHeld => ?_)
          simp only [List.size_toArray, List.length_cons, List.length_nil, Array.replicate_succ, Array.replicate_zero, Nat.reduceAdd, List.push_toArray, List.nil_append, List.cons_append]
          have Y5 := Y4.out.below (below_drew _)
          refine wpAnyH_take (i := 1) (v := (.pointer (some ⟨g, 0, none⟩))) rfl (by kernel_rfl) (by kernel_rfl) (by kernel_rfl) (fun _ _ _ h => h) (Or.inl ⟨by rfl, ?_⟩) (by assumption) ?_
          · intro w hSw
            (try dsimp only at hSw)
            go_simp
          try simp only [List.getElem_toArray]
          try simp only [List.getElem_cons_succ]
          try simp only [List.getElem_cons_zero]
          try simp only [Act.put]
          try simp only [List.setIfInBounds_toArray]
          try simp only [List.set_cons_succ]
          try simp only [List.set_cons_zero]
          refine wpAnyH_take (i := 3) (v := (.pointer (some ⟨g, 0, none⟩))) rfl (by kernel_rfl) (by kernel_rfl) (by kernel_rfl) (fun _ _ _ h => h) (Or.inl ⟨by rfl, ?_⟩) (by assumption) ?_
          · intro w hSw
            (try dsimp only at hSw)
            go_simp
          try simp only [List.getElem_toArray]
          try simp only [List.getElem_cons_succ]
          try simp only [List.getElem_cons_zero]
          try simp only [Act.put]
          try simp only [List.setIfInBounds_toArray]
          try simp only [List.set_cons_succ]
          try simp only [List.set_cons_zero]
          refine wpAnyH_ready (rs := [0, 2]) (by kernel_rfl) (by simp) ?_
          refine AllReadyH.cons rfl (fun K1 hK => ?_) (AllReadyH.cons rfl (fun K1 hK => ?_) AllReadyH.nil)
          · have d0 := Y5.cells.1
            have d1 := Y5.cells.2
            go_simp
            try go_wp2_with fail
            refine hK.out _ _ ?_ (fun hHeld => ?_)
            · trivial
            clear hK K1
            try simp only [List.getElem_toArray]
            try simp only [List.getElem_cons_succ]
            try simp only [List.getElem_cons_zero]
            try simp only [Act.put]
            try simp only [List.setIfInBounds_toArray]
            try simp only [List.set_cons_succ]
            try simp only [List.set_cons_zero]
            refine wpAnyH_ready (rs := [2]) (by kernel_rfl) (by simp) ?_
            refine AllReadyH.cons rfl (fun K1 hK => ?_) AllReadyH.nil
            go_simp
            refine (below_any g 600 _ Y5.cu (by omega) (by omega)).mono ?_
            rintro e w6 ⟨⟨x6, rfl, lo6, hi6⟩, hg6, hc6⟩
            have Y6 := Y5.draw hg6 hc6
            try go_wp2_with fail
            refine hK.out _ _ ?_ (fun hHeld => ?_)
            · trivial
            clear hK K1
            try simp only [List.getElem_toArray]
            try simp only [List.getElem_cons_succ]
            try simp only [List.getElem_cons_zero]
            try simp only [Act.put]
            try simp only [List.setIfInBounds_toArray]
            try simp only [List.set_cons_succ]
            try simp only [List.set_cons_zero]
            refine wpAnyH_ready (rs := [4]) (by kernel_rfl) (by simp) ?_
            refine AllReadyH.cons rfl (fun K1 hK => ?_) AllReadyH.nil
            go_simp
            refine (below_any g 600 _ Y6.cu (by omega) (by omega)).mono ?_
            rintro e w7 ⟨⟨x7, rfl, lo7, hi7⟩, hg7, hc7⟩
            have Y7 := Y6.draw hg7 hc7
            try go_wp2_with fail
            refine hK.out _ _ ?_ (fun hHeld => ?_)
            · trivial
            clear hK K1
            try simp only [List.getElem_toArray]
            try simp only [List.getElem_cons_succ]
            try simp only [List.getElem_cons_zero]
            try simp only [Act.put]
            try simp only [List.setIfInBounds_toArray]
            try simp only [List.set_cons_succ]
            try simp only [List.set_cons_zero]
            refine wpAnyH_ready (rs := [5]) (by kernel_rfl) (by simp) ?_
            refine AllReadyH.cons rfl (fun K1 hK => ?_) AllReadyH.nil
            go_simp
            have Y8 := Y7.below (below_new (o := .cells #[.int .i64 x6, .int .i64 x7] 3) (Below.refl _ _))
            try go_wp2_with fail
            refine hK.out _ _ ?_ (fun hHeld => ?_)
            · trivial
            clear hK K1
            try simp only [List.getElem_toArray]
            try simp only [List.getElem_cons_succ]
            try simp only [List.getElem_cons_zero]
            try simp only [Act.put]
            try simp only [List.setIfInBounds_toArray]
            try simp only [List.set_cons_succ]
            try simp only [List.set_cons_zero]
            refine wpAnyH_ready (rs := [6]) (by kernel_rfl) (by simp) ?_
            refine AllReadyH.cons rfl (fun K1 hK => ?_) AllReadyH.nil
            go_simp
            have hir : Ir (w7.alloc (.cells #[.int .i64 x6, .int .i64 x7] 3)) (fun _ => True) (.slice (some ⟨w7.heap.size, 0, none⟩) 2 2) [x6, x7] := (Bk.new w7 3 [.int .i64 x6, .int .i64 x7]).rw (Nat.le_refl _) (by omega) (fun h => by omega) _ trivial
            refine (specDiskCrash_any (fun _ => True) (fun _ => True) xa xn xc ya yn yc d _ _ _ [x6, x7] _ Y8.dk HSM.out (by omega) (by omega) hir).mono ?_
            rintro e w9 ⟨pa, pn, pc, qa, qn, qc, V5, U5, rfl, hO, hb⟩
            have hf := dcV_ok Y8.ok HBY.out [x6, x7]
            have Y9 := hid (Y8.put (j' := j - 1) hb hO Y8.k1.lt hf.1 (by omega))
            have d0 := (Y8.below hb).cells.1
            have d1 := (Y8.below hb).cells.2
            have f0 := (Y8.below hb).frees.1
            have f1 := (Y8.below hb).frees.2
            clear hO hf hir
            try go_wp2_with fail
            refine hK.out _ _ ?_ (fun hHeld => ?_)
            · trivial
            clear hK K1
            try simp only [List.getElem_toArray]
            try simp only [List.getElem_cons_succ]
            try simp only [List.getElem_cons_zero]
            try simp only [Act.put]
            try simp only [List.setIfInBounds_toArray]
            try simp only [List.set_cons_succ]
            try simp only [List.set_cons_zero]
            refine wpAnyH_ready (rs := [7]) (by kernel_rfl) (by simp) ?_
            refine AllReadyH.cons rfl (fun K1 hK => ?_) AllReadyH.nil
            go_simp
            try go_wp2_with fail
            refine hK.out _ _ ?_ (fun hHeld => ?_)
            · trivial
            clear hK K1
            try simp only [List.getElem_toArray]
            try simp only [List.getElem_cons_succ]
            try simp only [List.getElem_cons_zero]
            try simp only [Act.put]
            try simp only [List.setIfInBounds_toArray]
            try simp only [List.set_cons_succ]
            try simp only [List.set_cons_zero]
            refine wpAnyH_done (by kernel_rfl) ?_ _
            refine NoPanic.normal ?_
            clear d0 d1 f0 f1 hb
            go_wp2
            go_roundw
            case rel => exact ⟨j - 1, pa, pn, pc, qa, qn, qc, V5, U5, _, by omega, by go_num, Y9.out⟩
            case measure => simp [intOf]; omega
          · go_simp
            refine (below_any g 600 _ Y5.cu (by omega) (by omega)).mono ?_
            rintro e w6 ⟨⟨x6, rfl, lo6, hi6⟩, hg6, hc6⟩
            have Y6 := Y5.draw hg6 hc6
            try go_wp2_with fail
            refine hK.out _ _ ?_ (fun hHeld => ?_)
            · trivial
            clear hK K1
            try simp only [List.getElem_toArray]
            try simp only [List.getElem_cons_succ]
            try simp only [List.getElem_cons_zero]
            try simp only [Act.put]
            try simp only [List.setIfInBounds_toArray]
            try simp only [List.set_cons_succ]
            try simp only [List.set_cons_zero]
            refine wpAnyH_ready (rs := [0, 4]) (by kernel_rfl) (by simp) ?_
            refine AllReadyH.cons rfl (fun K1 hK => ?_) (AllReadyH.cons rfl (fun K1 hK => ?_) AllReadyH.nil)
            · have d0 := Y6.cells.1
              have d1 := Y6.cells.2
              go_simp
              try go_wp2_with fail
              refine hK.out _ _ ?_ (fun hHeld => ?_)
              · trivial
              clear hK K1
              try simp only [List.getElem_toArray]
              try simp only [List.getElem_cons_succ]
              try simp only [List.getElem_cons_zero]
              try simp only [Act.put]
              try simp only [List.setIfInBounds_toArray]
              try simp only [List.set_cons_succ]
              try simp only [List.set_cons_zero]
              refine wpAnyH_ready (rs := [4]) (by kernel_rfl) (by simp) ?_
              refine AllReadyH.cons rfl (fun K1 hK => ?_) AllReadyH.nil
              go_simp
              refine (below_any g 600 _ Y6.cu (by omega) (by omega)).mono ?_
              rintro e w7 ⟨⟨x7, rfl, lo7, hi7⟩, hg7, hc7⟩
              have Y7 := Y6.draw hg7 hc7
              try go_wp2_with fail
              refine hK.out _ _ ?_ (fun hHeld => ?_)
              · trivial
              clear hK K1
              try simp only [List.getElem_toArray]
              try simp only [List.getElem_cons_succ]
              try simp only [List.getElem_cons_zero]
              try simp only [Act.put]
              try simp only [List.setIfInBounds_toArray]
              try simp only [List.set_cons_succ]
              try simp only [List.set_cons_zero]
              refine wpAnyH_ready (rs := [5]) (by kernel_rfl) (by simp) ?_
              refine AllReadyH.cons rfl (fun K1 hK => ?_) AllReadyH.nil
              go_simp
              have Y8 := Y7.below (below_new (o := .cells #[.int .i64 x6, .int .i64 x7] 3) (Below.refl _ _))
              try go_wp2_with fail
              refine hK.out _ _ ?_ (fun hHeld => ?_)
              · trivial
              clear hK K1
              try simp only [List.getElem_toArray]
              try simp only [List.getElem_cons_succ]
              try simp only [List.getElem_cons_zero]
              try simp only [Act.put]
              try simp only [List.setIfInBounds_toArray]
              try simp only [List.set_cons_succ]
              try simp only [List.set_cons_zero]
              refine wpAnyH_ready (rs := [6]) (by kernel_rfl) (by simp) ?_
              refine AllReadyH.cons rfl (fun K1 hK => ?_) AllReadyH.nil
              go_simp
              have hir : Ir (w7.alloc (.cells #[.int .i64 x6, .int .i64 x7] 3)) (fun _ => True) (.slice (some ⟨w7.heap.size, 0, none⟩) 2 2) [x6, x7] := (Bk.new w7 3 [.int .i64 x6, .int .i64 x7]).rw (Nat.le_refl _) (by omega) (fun h => by omega) _ trivial
              refine (specDiskCrash_any (fun _ => True) (fun _ => True) xa xn xc ya yn yc d _ _ _ [x6, x7] _ Y8.dk HSM.out (by omega) (by omega) hir).mono ?_
              rintro e w9 ⟨pa, pn, pc, qa, qn, qc, V5, U5, rfl, hO, hb⟩
              have hf := dcV_ok Y8.ok HBY.out [x6, x7]
              have Y9 := hid (Y8.put (j' := j - 1) hb hO Y8.k1.lt hf.1 (by omega))
              have d0 := (Y8.below hb).cells.1
              have d1 := (Y8.below hb).cells.2
              have f0 := (Y8.below hb).frees.1
              have f1 := (Y8.below hb).frees.2
              clear hO hf hir
              try go_wp2_with fail
              refine hK.out _ _ ?_ (fun hHeld => ?_)
              · trivial
              clear hK K1
              try simp only [List.getElem_toArray]
              try simp only [List.getElem_cons_succ]
              try simp only [List.getElem_cons_zero]
              try simp only [Act.put]
              try simp only [List.setIfInBounds_toArray]
              try simp only [List.set_cons_succ]
              try simp only [List.set_cons_zero]
              refine wpAnyH_ready (rs := [7]) (by kernel_rfl) (by simp) ?_
              refine AllReadyH.cons rfl (fun K1 hK => ?_) AllReadyH.nil
              go_simp
              try go_wp2_with fail
              refine hK.out _ _ ?_ (fun hHeld => ?_)
              · trivial
              clear hK K1
              try simp only [List.getElem_toArray]
              try simp only [List.getElem_cons_succ]
              try simp only [List.getElem_cons_zero]
              try simp only [Act.put]
              try simp only [List.setIfInBounds_toArray]
              try simp only [List.set_cons_succ]
              try simp only [List.set_cons_zero]
              refine wpAnyH_done (by kernel_rfl) ?_ _
              refine NoPanic.normal ?_
              clear d0 d1 f0 f1 hb
              go_wp2
              go_roundw
              case rel => exact ⟨j - 1, pa, pn, pc, qa, qn, qc, V5, U5, _, by omega, by go_num, Y9.out⟩
              case measure => simp [intOf]; omega
            · go_simp
              refine (below_any g 600 _ Y6.cu (by omega) (by omega)).mono ?_
              rintro e w7 ⟨⟨x7, rfl, lo7, hi7⟩, hg7, hc7⟩
              have Y7 := Y6.draw hg7 hc7
              try go_wp2_with fail
              refine hK.out _ _ ?_ (fun hHeld => ?_)
              · trivial
              clear hK K1
              try simp only [List.getElem_toArray]
              try simp only [List.getElem_cons_succ]
              try simp only [List.getElem_cons_zero]
              try simp only [Act.put]
              try simp only [List.setIfInBounds_toArray]
              try simp only [List.set_cons_succ]
              try simp only [List.set_cons_zero]
              refine wpAnyH_ready (rs := [0, 5]) (by kernel_rfl) (by simp) ?_
              refine AllReadyH.cons rfl (fun K1 hK => ?_) (AllReadyH.cons rfl (fun K1 hK => ?_) AllReadyH.nil)
              · have d0 := Y7.cells.1
                have d1 := Y7.cells.2
                go_simp
                try go_wp2_with fail
                refine hK.out _ _ ?_ (fun hHeld => ?_)
                · trivial
                clear hK K1
                try simp only [List.getElem_toArray]
                try simp only [List.getElem_cons_succ]
                try simp only [List.getElem_cons_zero]
                try simp only [Act.put]
                try simp only [List.setIfInBounds_toArray]
                try simp only [List.set_cons_succ]
                try simp only [List.set_cons_zero]
                refine wpAnyH_ready (rs := [5]) (by kernel_rfl) (by simp) ?_
                refine AllReadyH.cons rfl (fun K1 hK => ?_) AllReadyH.nil
                go_simp
                have Y8 := Y7.below (below_new (o := .cells #[.int .i64 x6, .int .i64 x7] 3) (Below.refl _ _))
                try go_wp2_with fail
                refine hK.out _ _ ?_ (fun hHeld => ?_)
                · trivial
                clear hK K1
                try simp only [List.getElem_toArray]
                try simp only [List.getElem_cons_succ]
                try simp only [List.getElem_cons_zero]
                try simp only [Act.put]
                try simp only [List.setIfInBounds_toArray]
                try simp only [List.set_cons_succ]
                try simp only [List.set_cons_zero]
                refine wpAnyH_ready (rs := [6]) (by kernel_rfl) (by simp) ?_
                refine AllReadyH.cons rfl (fun K1 hK => ?_) AllReadyH.nil
                go_simp
                have hir : Ir (w7.alloc (.cells #[.int .i64 x6, .int .i64 x7] 3)) (fun _ => True) (.slice (some ⟨w7.heap.size, 0, none⟩) 2 2) [x6, x7] := (Bk.new w7 3 [.int .i64 x6, .int .i64 x7]).rw (Nat.le_refl _) (by omega) (fun h => by omega) _ trivial
                refine (specDiskCrash_any (fun _ => True) (fun _ => True) xa xn xc ya yn yc d _ _ _ [x6, x7] _ Y8.dk HSM.out (by omega) (by omega) hir).mono ?_
                rintro e w9 ⟨pa, pn, pc, qa, qn, qc, V5, U5, rfl, hO, hb⟩
                have hf := dcV_ok Y8.ok HBY.out [x6, x7]
                have Y9 := hid (Y8.put (j' := j - 1) hb hO Y8.k1.lt hf.1 (by omega))
                have d0 := (Y8.below hb).cells.1
                have d1 := (Y8.below hb).cells.2
                have f0 := (Y8.below hb).frees.1
                have f1 := (Y8.below hb).frees.2
                clear hO hf hir
                try go_wp2_with fail
                refine hK.out _ _ ?_ (fun hHeld => ?_)
                · trivial
                clear hK K1
                try simp only [List.getElem_toArray]
                try simp only [List.getElem_cons_succ]
                try simp only [List.getElem_cons_zero]
                try simp only [Act.put]
                try simp only [List.setIfInBounds_toArray]
                try simp only [List.set_cons_succ]
                try simp only [List.set_cons_zero]
                refine wpAnyH_ready (rs := [7]) (by kernel_rfl) (by simp) ?_
                refine AllReadyH.cons rfl (fun K1 hK => ?_) AllReadyH.nil
                go_simp
                try go_wp2_with fail
                refine hK.out _ _ ?_ (fun hHeld => ?_)
                · trivial
                clear hK K1
                try simp only [List.getElem_toArray]
                try simp only [List.getElem_cons_succ]
                try simp only [List.getElem_cons_zero]
                try simp only [Act.put]
                try simp only [List.setIfInBounds_toArray]
                try simp only [List.set_cons_succ]
                try simp only [List.set_cons_zero]
                refine wpAnyH_done (by kernel_rfl) ?_ _
                refine NoPanic.normal ?_
                clear d0 d1 f0 f1 hb
                go_wp2
                go_roundw
                case rel => exact ⟨j - 1, pa, pn, pc, qa, qn, qc, V5, U5, _, by omega, by go_num, Y9.out⟩
                case measure => simp [intOf]; omega
              · go_simp
                have Y8 := Y7.below (below_new (o := .cells #[.int .i64 x6, .int .i64 x7] 3) (Below.refl _ _))
                try go_wp2_with fail
                refine hK.out _ _ ?_ (fun hHeld => ?_)
                · trivial
                clear hK K1
                try simp only [List.getElem_toArray]
                try simp only [List.getElem_cons_succ]
                try simp only [List.getElem_cons_zero]
                try simp only [Act.put]
                try simp only [List.setIfInBounds_toArray]
                try simp only [List.set_cons_succ]
                try simp only [List.set_cons_zero]
                refine wpAnyH_ready (rs := [0]) (by kernel_rfl) (by simp) ?_
                refine AllReadyH.cons rfl (fun K1 hK => ?_) AllReadyH.nil
                have d0 := Y8.cells.1
                have d1 := Y8.cells.2
                go_simp
                try go_wp2_with fail
                refine hK.out _ _ ?_ (fun hHeld => ?_)
                · trivial
                clear hK K1
                try simp only [List.getElem_toArray]
                try simp only [List.getElem_cons_succ]
                try simp only [List.getElem_cons_zero]
                try simp only [Act.put]
                try simp only [List.setIfInBounds_toArray]
                try simp only [List.set_cons_succ]
                try simp only [List.set_cons_zero]
                refine wpAnyH_ready (rs := [6]) (by kernel_rfl) (by simp) ?_
                refine AllReadyH.cons rfl (fun K1 hK => ?_) AllReadyH.nil
                go_simp
                have hir : Ir (w7.alloc (.cells #[.int .i64 x6, .int .i64 x7] 3)) (fun _ => True) (.slice (some ⟨w7.heap.size, 0, none⟩) 2 2) [x6, x7] := (Bk.new w7 3 [.int .i64 x6, .int .i64 x7]).rw (Nat.le_refl _) (by omega) (fun h => by omega) _ trivial
                refine (specDiskCrash_any (fun _ => True) (fun _ => True) xa xn xc ya yn yc d _ _ _ [x6, x7] _ Y8.dk HSM.out (by omega) (by omega) hir).mono ?_
                rintro e w9 ⟨pa, pn, pc, qa, qn, qc, V5, U5, rfl, hO, hb⟩
                have hf := dcV_ok Y8.ok HBY.out [x6, x7]
                have Y9 := hid (Y8.put (j' := j - 1) hb hO Y8.k1.lt hf.1 (by omega))
                have d0 := (Y8.below hb).cells.1
                have d1 := (Y8.below hb).cells.2
                have f0 := (Y8.below hb).frees.1
                have f1 := (Y8.below hb).frees.2
                clear hO hf hir
                try go_wp2_with fail
                refine hK.out _ _ ?_ (fun hHeld => ?_)
                · trivial
                clear hK K1
                try simp only [List.getElem_toArray]
                try simp only [List.getElem_cons_succ]
                try simp only [List.getElem_cons_zero]
                try simp only [Act.put]
                try simp only [List.setIfInBounds_toArray]
                try simp only [List.set_cons_succ]
                try simp only [List.set_cons_zero]
                refine wpAnyH_ready (rs := [7]) (by kernel_rfl) (by simp) ?_
                refine AllReadyH.cons rfl (fun K1 hK => ?_) AllReadyH.nil
                go_simp
                try go_wp2_with fail
                refine hK.out _ _ ?_ (fun hHeld => ?_)
                · trivial
                clear hK K1
                try simp only [List.getElem_toArray]
                try simp only [List.getElem_cons_succ]
                try simp only [List.getElem_cons_zero]
                try simp only [Act.put]
                try simp only [List.setIfInBounds_toArray]
                try simp only [List.set_cons_succ]
                try simp only [List.set_cons_zero]
                refine wpAnyH_done (by kernel_rfl) ?_ _
                refine NoPanic.normal ?_
                clear d0 d1 f0 f1 hb
                go_wp2
                go_roundw
                case rel => exact ⟨j - 1, pa, pn, pc, qa, qn, qc, V5, U5, _, by omega, by go_num, Y9.out⟩
                case measure => simp [intOf]; omega
        · go_wp2_with fail
          refine wp_region_noPanic ?_
          refine wp_region_held_drew (S := (fun _ => True)) (by kernel_rfl) trivial (fun hHeld => ?_)
          simp only [List.size_toArray, List.length_cons, List.length_nil, Array.replicate_succ, Array.replicate_zero, Nat.reduceAdd, List.push_toArray, List.nil_append, List.cons_append]
          have Y5 := Y4.out.below (below_drew _)
          refine wpAnyH_take (i := 1) (v := (.pointer (some ⟨g, 0, none⟩))) rfl (by kernel_rfl) (by kernel_rfl) (by kernel_rfl) (fun _ _ _ h => h) (Or.inl ⟨by rfl, ?_⟩) (by assumption) ?_
          · intro w hSw
            (try dsimp only at hSw)
            go_simp
          try simp only [List.getElem_toArray]
          try simp only [List.getElem_cons_succ]
          try simp only [List.getElem_cons_zero]
          try simp only [Act.put]
          try simp only [List.setIfInBounds_toArray]
          try simp only [List.set_cons_succ]
          try simp only [List.set_cons_zero]
          refine wpAnyH_take (i := 2) (v := (.pointer (some ⟨b, 0, none⟩))) rfl (by kernel_rfl) (by kernel_rfl) (by kernel_rfl) (fun _ _ _ h => h) (Or.inl ⟨by rfl, ?_⟩) (by assumption) ?_
          · intro w hSw
            (try dsimp only at hSw)
            go_simp
          try simp only [List.getElem_toArray]
          try simp only [List.getElem_cons_succ]
          try simp only [List.getElem_cons_zero]
          try simp only [Act.put]
          try simp only [List.setIfInBounds_toArray]
          try simp only [List.set_cons_succ]
          try simp only [List.set_cons_zero]
          refine wpAnyH_take (i := 6) (v := (.pointer (some ⟨g, 0, none⟩))) rfl (by kernel_rfl) (by kernel_rfl) (by kernel_rfl) (fun _ _ _ h => h) (Or.inl ⟨by rfl, ?_⟩) (by assumption) ?_
          · intro w hSw
            (try dsimp only at hSw)
            go_simp
          try simp only [List.getElem_toArray]
          try simp only [List.getElem_cons_succ]
          try simp only [List.getElem_cons_zero]
          try simp only [Act.put]
          try simp only [List.setIfInBounds_toArray]
          try simp only [List.set_cons_succ]
          try simp only [List.set_cons_zero]
          refine wpAnyH_ready (rs := [0, 3]) (by kernel_rfl) (by simp) ?_
          refine AllReadyH.cons rfl (fun K1 hK => ?_) (AllReadyH.cons rfl (fun K1 hK => ?_) AllReadyH.nil)
          · have d0 := Y5.cells.1
            have d1 := Y5.cells.2
            go_simp
            try go_wp2_with fail
            refine hK.out _ _ ?_ (fun hHeld => ?_)
            · trivial
            clear hK K1
            try simp only [List.getElem_toArray]
            try simp only [List.getElem_cons_succ]
            try simp only [List.getElem_cons_zero]
            try simp only [Act.put]
            try simp only [List.setIfInBounds_toArray]
            try simp only [List.set_cons_succ]
            try simp only [List.set_cons_zero]
            refine wpAnyH_ready (rs := [3]) (by kernel_rfl) (by simp) ?_
            refine AllReadyH.cons rfl (fun K1 hK => ?_) AllReadyH.nil
            have d0 := Y5.cells.1
            have d1 := Y5.cells.2
            go_simp
            try go_wp2_with fail
            refine hK.out _ _ ?_ (fun hHeld => ?_)
            · trivial
            clear hK K1
            try simp only [List.getElem_toArray]
            try simp only [List.getElem_cons_succ]
            try simp only [List.getElem_cons_zero]
            try simp only [Act.put]
            try simp only [List.setIfInBounds_toArray]
            try simp only [List.set_cons_succ]
            try simp only [List.set_cons_zero]
            refine wpAnyH_take (i := 4) (v := (.int .i64 (xn : Int))) rfl (by kernel_rfl) (by kernel_rfl) (by kernel_rfl) (fun _ _ _ h => h) (Or.inl ⟨by rfl, ?_⟩) (by assumption) ?_
            · intro w hSw
              (try dsimp only at hSw)
              go_simp
            try simp only [List.getElem_toArray]
            try simp only [List.getElem_cons_succ]
            try simp only [List.getElem_cons_zero]
            try simp only [Act.put]
            try simp only [List.setIfInBounds_toArray]
            try simp only [List.set_cons_succ]
            try simp only [List.set_cons_zero]
            refine wpAnyH_ready (rs := [5]) (by kernel_rfl) (by simp) ?_
            refine AllReadyH.cons rfl (fun K1 hK => ?_) AllReadyH.nil
            go_simp
            refine (below_any g (xn : Int) _ Y5.cu (by omega) (by omega)).mono ?_
            rintro e w6 ⟨⟨x6, rfl, lo6, hi6⟩, hg6, hc6⟩
            have Y6 := Y5.draw hg6 hc6
            try go_wp2_with fail
            refine hK.out _ _ ?_ (fun hHeld => ?_)
            · trivial
            clear hK K1
            try simp only [List.getElem_toArray]
            try simp only [List.getElem_cons_succ]
            try simp only [List.getElem_cons_zero]
            try simp only [Act.put]
            try simp only [List.setIfInBounds_toArray]
            try simp only [List.set_cons_succ]
            try simp only [List.set_cons_zero]
            refine wpAnyH_ready (rs := [7]) (by kernel_rfl) (by simp) ?_
            refine AllReadyH.cons rfl (fun K1 hK => ?_) AllReadyH.nil
            go_simp
            refine (HY.out g _ Y6.cu).mono ?_
            rintro e w7 ⟨ra, rn, rc, zs, rfl, hOb, hzl, hzb, hg7, hc7⟩
            have Y7 := Y6.draw hg7 hc7
            try go_wp2_with fail
            refine hK.out _ _ ?_ (fun hHeld => ?_)
            · trivial
            clear hK K1
            try simp only [List.getElem_toArray]
            try simp only [List.getElem_cons_succ]
            try simp only [List.getElem_cons_zero]
            try simp only [Act.put]
            try simp only [List.setIfInBounds_toArray]
            try simp only [List.set_cons_succ]
            try simp only [List.set_cons_zero]
            refine wpAnyH_ready (rs := [8]) (by kernel_rfl) (by simp) ?_
            refine AllReadyH.cons rfl (fun K1 hK => ?_) AllReadyH.nil
            go_simp
            have hdk := dwr_ok Y7.ok (by have := Y7.few; omega) lo6 (by have := HLE.out.1; omega) hzl
            have hrd : Rd w7 ra rn rc zs := by
              obtain ⟨a', c', e', hr, _⟩ := Ob.rd hOb hzb (by omega)
              cases e'
              exact hr
            have hwv : dwrV d x6 zs = some (dwrD d x6 zs) := by rw [dwrV, if_pos hdk]
            have hrn : rn ≤ 1048576 := by have := hrd.1; omega
            have hpo := specDiskWrite_any (fun _ => True) xa xn xc ya yn yc d x6 ra rn rc zs w7 Y7.dk HSM.out (by omega) (by omega) hrd hrn
            rw [hwv] at hpo
            refine hpo.mono ?_
            rintro e w9 ⟨pa, pn, pc, qa, qn, qc, V5, U5, rfl, hO, hb⟩
            have Y9 := hid (Y7.put (j' := j - 1) hb hO Y7.k1.lt hdk (by have := Y7.few; simp [dwrD]; omega))
            have d0 := (Y7.below hb).cells.1
            have d1 := (Y7.below hb).cells.2
            have f0 := (Y7.below hb).frees.1
            have f1 := (Y7.below hb).frees.2
            clear hO hdk hrd hwv hpo hrn hzl hzb hOb
            try go_wp2_with fail
            refine hK.out _ _ ?_ (fun hHeld => ?_)
            · trivial
            clear hK K1
            try simp only [List.getElem_toArray]
            try simp only [List.getElem_cons_succ]
            try simp only [List.getElem_cons_zero]
            try simp only [Act.put]
            try simp only [List.setIfInBounds_toArray]
            try simp only [List.set_cons_succ]
            try simp only [List.set_cons_zero]
            refine wpAnyH_take (i := 9) (v := (.tuple #[.agg #[.slice pa pn pc, .slice qa qn qc], .bool true])) rfl (by kernel_rfl) (by kernel_rfl) (by kernel_rfl) (fun _ _ _ h => h) (Or.inl ⟨by rfl, ?_⟩) (by assumption) ?_
            · intro w hSw
              (try dsimp only at hSw)
              go_simp
            try simp only [List.getElem_toArray]
            try simp only [List.getElem_cons_succ]
            try simp only [List.getElem_cons_zero]
            try simp only [Act.put]
            try simp only [List.setIfInBounds_toArray]
            try simp only [List.set_cons_succ]
            try simp only [List.set_cons_zero]
            refine wpAnyH_take (i := 10) (v := (.agg #[.slice pa pn pc, .slice qa qn qc])) rfl (by kernel_rfl) (by kernel_rfl) (by kernel_rfl) (fun _ _ _ h => h) (Or.inl ⟨by rfl, ?_⟩) (by assumption) ?_
            · intro w hSw
              (try dsimp only at hSw)
              go_simp
            try simp only [List.getElem_toArray]
            try simp only [List.getElem_cons_succ]
            try simp only [List.getElem_cons_zero]
            try simp only [Act.put]
            try simp only [List.setIfInBounds_toArray]
            try simp only [List.set_cons_succ]
            try simp only [List.set_cons_zero]
            refine wpAnyH_take (i := 11) (v := (.bool true)) rfl (by kernel_rfl) (by kernel_rfl) (by kernel_rfl) (fun _ _ _ h => h) (Or.inl ⟨by rfl, ?_⟩) (by assumption) ?_
            · intro w hSw
              (try dsimp only at hSw)
              go_simp
            try simp only [List.getElem_toArray]
            try simp only [List.getElem_cons_succ]
            try simp only [List.getElem_cons_zero]
            try simp only [Act.put]
            try simp only [List.setIfInBounds_toArray]
            try simp only [List.set_cons_succ]
            try simp only [List.set_cons_zero]
            refine wpAnyH_ready (rs := [12]) (by kernel_rfl) (by simp) ?_
            refine AllReadyH.cons rfl (fun K1 hK => ?_) AllReadyH.nil
            go_simp
            try go_wp2_with fail
            refine hK.out _ _ ?_ (fun hHeld => ?_)
            · trivial
            clear hK K1
            try simp only [List.getElem_toArray]
            try simp only [List.getElem_cons_succ]
            try simp only [List.getElem_cons_zero]
            try simp only [Act.put]
            try simp only [List.setIfInBounds_toArray]
            try simp only [List.set_cons_succ]
            try simp only [List.set_cons_zero]
            refine wpAnyH_done (by kernel_rfl) ?_ _
            refine NoPanic.normal ?_
            clear d0 d1 f0 f1 hb
            go_wp2
            go_roundw
            case rel => exact ⟨j - 1, pa, pn, pc, qa, qn, qc, V5, U5, _, by omega, by go_num, Y9.out⟩
            case measure => simp [intOf]; omega
          · have d0 := Y5.cells.1
            have d1 := Y5.cells.2
            go_simp
            try go_wp2_with fail
            refine hK.out _ _ ?_ (fun hHeld => ?_)
            · trivial
            clear hK K1
            try simp only [List.getElem_toArray]
            try simp only [List.getElem_cons_succ]
            try simp only [List.getElem_cons_zero]
            try simp only [Act.put]
            try simp only [List.setIfInBounds_toArray]
            try simp only [List.set_cons_succ]
            try simp only [List.set_cons_zero]
            refine wpAnyH_take (i := 4) (v := (.int .i64 (xn : Int))) rfl (by kernel_rfl) (by kernel_rfl) (by kernel_rfl) (fun _ _ _ h => h) (Or.inl ⟨by rfl, ?_⟩) (by assumption) ?_
            · intro w hSw
              (try dsimp only at hSw)
              go_simp
            try simp only [List.getElem_toArray]
            try simp only [List.getElem_cons_succ]
            try simp only [List.getElem_cons_zero]
            try simp only [Act.put]
            try simp only [List.setIfInBounds_toArray]
            try simp only [List.set_cons_succ]
            try simp only [List.set_cons_zero]
            refine wpAnyH_ready (rs := [0, 5]) (by kernel_rfl) (by simp) ?_
            refine AllReadyH.cons rfl (fun K1 hK => ?_) (AllReadyH.cons rfl (fun K1 hK => ?_) AllReadyH.nil)
            · have d0 := Y5.cells.1
              have d1 := Y5.cells.2
              go_simp
              try go_wp2_with fail
              refine hK.out _ _ ?_ (fun hHeld => ?_)
              · trivial
              clear hK K1
              try simp only [List.getElem_toArray]
              try simp only [List.getElem_cons_succ]
              try simp only [List.getElem_cons_zero]
              try simp only [Act.put]
              try simp only [List.setIfInBounds_toArray]
              try simp only [List.set_cons_succ]
              try simp only [List.set_cons_zero]
              refine wpAnyH_ready (rs := [5]) (by kernel_rfl) (by simp) ?_
              refine AllReadyH.cons rfl (fun K1 hK => ?_) AllReadyH.nil
              go_simp
              refine (below_any g (xn : Int) _ Y5.cu (by omega) (by omega)).mono ?_
              rintro e w6 ⟨⟨x6, rfl, lo6, hi6⟩, hg6, hc6⟩
              have Y6 := Y5.draw hg6 hc6
              try go_wp2_with fail
              refine hK.out _ _ ?_ (fun hHeld => ?_)
              · trivial
              clear hK K1
              try simp only [List.getElem_toArray]
              try simp only [List.getElem_cons_succ]
              try simp only [List.getElem_cons_zero]
              try simp only [Act.put]
              try simp only [List.setIfInBounds_toArray]
              try simp only [List.set_cons_succ]
              try simp only [List.set_cons_zero]
              refine wpAnyH_ready (rs := [7]) (by kernel_rfl) (by simp) ?_
              refine AllReadyH.cons rfl (fun K1 hK => ?_) AllReadyH.nil
              go_simp
              refine (HY.out g _ Y6.cu).mono ?_
              rintro e w7 ⟨ra, rn, rc, zs, rfl, hOb, hzl, hzb, hg7, hc7⟩
              have Y7 := Y6.draw hg7 hc7
              try go_wp2_with fail
              refine hK.out _ _ ?_ (fun hHeld => ?_)
              · trivial
              clear hK K1
              try simp only [List.getElem_toArray]
              try simp only [List.getElem_cons_succ]
              try simp only [List.getElem_cons_zero]
              try simp only [Act.put]
              try simp only [List.setIfInBounds_toArray]
              try simp only [List.set_cons_succ]
              try simp only [List.set_cons_zero]
              refine wpAnyH_ready (rs := [8]) (by kernel_rfl) (by simp) ?_
              refine AllReadyH.cons rfl (fun K1 hK => ?_) AllReadyH.nil
              go_simp
              have hdk := dwr_ok Y7.ok (by have := Y7.few; omega) lo6 (by have := HLE.out.1; omega) hzl
              have hrd : Rd w7 ra rn rc zs := by
                obtain ⟨a', c', e', hr, _⟩ := Ob.rd hOb hzb (by omega)
                cases e'
                exact hr
              have hwv : dwrV d x6 zs = some (dwrD d x6 zs) := by rw [dwrV, if_pos hdk]
              have hrn : rn ≤ 1048576 := by have := hrd.1; omega
              have hpo := specDiskWrite_any (fun _ => True) xa xn xc ya yn yc d x6 ra rn rc zs w7 Y7.dk HSM.out (by omega) (by omega) hrd hrn
              rw [hwv] at hpo
              refine hpo.mono ?_
              rintro e w9 ⟨pa, pn, pc, qa, qn, qc, V5, U5, rfl, hO, hb⟩
              have Y9 := hid (Y7.put (j' := j - 1) hb hO Y7.k1.lt hdk (by have := Y7.few; simp [dwrD]; omega))
              have d0 := (Y7.below hb).cells.1
              have d1 := (Y7.below hb).cells.2
              have f0 := (Y7.below hb).frees.1
              have f1 := (Y7.below hb).frees.2
              clear hO hdk hrd hwv hpo hrn hzl hzb hOb
              try go_wp2_with fail
              refine hK.out _ _ ?_ (fun hHeld => ?_)
              · trivial
              clear hK K1
              try simp only [List.getElem_toArray]
              try simp only [List.getElem_cons_succ]
              try simp only [List.getElem_cons_zero]
              try simp only [Act.put]
              try simp only [List.setIfInBounds_toArray]
              try simp only [List.set_cons_succ]
              try simp only [List.set_cons_zero]
              refine wpAnyH_take (i := 9) (v := (.tuple #[.agg #[.slice pa pn pc, .slice qa qn qc], .bool true])) rfl (by kernel_rfl) (by kernel_rfl) (by kernel_rfl) (fun _ _ _ h => h) (Or.inl ⟨by rfl, ?_⟩) (by assumption) ?_
              · intro w hSw
                (try dsimp only at hSw)
                go_simp
              try simp only [List.getElem_toArray]
              try simp only [List.getElem_cons_succ]
              try simp only [List.getElem_cons_zero]
              try simp only [Act.put]
              try simp only [List.setIfInBounds_toArray]
              try simp only [List.set_cons_succ]
              try simp only [List.set_cons_zero]
              refine wpAnyH_take (i := 10) (v := (.agg #[.slice pa pn pc, .slice qa qn qc])) rfl (by kernel_rfl) (by kernel_rfl) (by kernel_rfl) (fun _ _ _ h => h) (Or.inl ⟨by rfl, ?_⟩) (by assumption) ?_
              · intro w hSw
                (try dsimp only at hSw)
                go_simp
              try simp only [List.getElem_toArray]
              try simp only [List.getElem_cons_succ]
              try simp only [List.getElem_cons_zero]
              try simp only [Act.put]
              try simp only [List.setIfInBounds_toArray]
              try simp only [List.set_cons_succ]
              try simp only [List.set_cons_zero]
              refine wpAnyH_take (i := 11) (v := (.bool true)) rfl (by kernel_rfl) (by kernel_rfl) (by kernel_rfl) (fun _ _ _ h => h) (Or.inl ⟨by rfl, ?_⟩) (by assumption) ?_
              · intro w hSw
                (try dsimp only at hSw)
                go_simp
              try simp only [List.getElem_toArray]
              try simp only [List.getElem_cons_succ]
              try simp only [List.getElem_cons_zero]
              try simp only [Act.put]
              try simp only [List.setIfInBounds_toArray]
              try simp only [List.set_cons_succ]
              try simp only [List.set_cons_zero]
              refine wpAnyH_ready (rs := [12]) (by kernel_rfl) (by simp) ?_
              refine AllReadyH.cons rfl (fun K1 hK => ?_) AllReadyH.nil
              go_simp
              try go_wp2_with fail
              refine hK.out _ _ ?_ (fun hHeld => ?_)
              · trivial
              clear hK K1
              try simp only [List.getElem_toArray]
              try simp only [List.getElem_cons_succ]
              try simp only [List.getElem_cons_zero]
              try simp only [Act.put]
              try simp only [List.setIfInBounds_toArray]
              try simp only [List.set_cons_succ]
              try simp only [List.set_cons_zero]
              refine wpAnyH_done (by kernel_rfl) ?_ _
              refine NoPanic.normal ?_
              clear d0 d1 f0 f1 hb
              go_wp2
              go_roundw
              case rel => exact ⟨j - 1, pa, pn, pc, qa, qn, qc, V5, U5, _, by omega, by go_num, Y9.out⟩
              case measure => simp [intOf]; omega
            · go_simp
              refine (below_any g (xn : Int) _ Y5.cu (by omega) (by omega)).mono ?_
              rintro e w6 ⟨⟨x6, rfl, lo6, hi6⟩, hg6, hc6⟩
              have Y6 := Y5.draw hg6 hc6
              try go_wp2_with fail
              refine hK.out _ _ ?_ (fun hHeld => ?_)
              · trivial
              clear hK K1
              try simp only [List.getElem_toArray]
              try simp only [List.getElem_cons_succ]
              try simp only [List.getElem_cons_zero]
              try simp only [Act.put]
              try simp only [List.setIfInBounds_toArray]
              try simp only [List.set_cons_succ]
              try simp only [List.set_cons_zero]
              refine wpAnyH_ready (rs := [0, 7]) (by kernel_rfl) (by simp) ?_
              refine AllReadyH.cons rfl (fun K1 hK => ?_) (AllReadyH.cons rfl (fun K1 hK => ?_) AllReadyH.nil)
              · have d0 := Y6.cells.1
                have d1 := Y6.cells.2
                go_simp
                try go_wp2_with fail
                refine hK.out _ _ ?_ (fun hHeld => ?_)
                · trivial
                clear hK K1
                try simp only [List.getElem_toArray]
                try simp only [List.getElem_cons_succ]
                try simp only [List.getElem_cons_zero]
                try simp only [Act.put]
                try simp only [List.setIfInBounds_toArray]
                try simp only [List.set_cons_succ]
                try simp only [List.set_cons_zero]
                refine wpAnyH_ready (rs := [7]) (by kernel_rfl) (by simp) ?_
                refine AllReadyH.cons rfl (fun K1 hK => ?_) AllReadyH.nil
                go_simp
                refine (HY.out g _ Y6.cu).mono ?_
                rintro e w7 ⟨ra, rn, rc, zs, rfl, hOb, hzl, hzb, hg7, hc7⟩
                have Y7 := Y6.draw hg7 hc7
                try go_wp2_with fail
                refine hK.out _ _ ?_ (fun hHeld => ?_)
                · trivial
                clear hK K1
                try simp only [List.getElem_toArray]
                try simp only [List.getElem_cons_succ]
                try simp only [List.getElem_cons_zero]
                try simp only [Act.put]
                try simp only [List.setIfInBounds_toArray]
                try simp only [List.set_cons_succ]
                try simp only [List.set_cons_zero]
                refine wpAnyH_ready (rs := [8]) (by kernel_rfl) (by simp) ?_
                refine AllReadyH.cons rfl (fun K1 hK => ?_) AllReadyH.nil
                go_simp
                have hdk := dwr_ok Y7.ok (by have := Y7.few; omega) lo6 (by have := HLE.out.1; omega) hzl
                have hrd : Rd w7 ra rn rc zs := by
                  obtain ⟨a', c', e', hr, _⟩ := Ob.rd hOb hzb (by omega)
                  cases e'
                  exact hr
                have hwv : dwrV d x6 zs = some (dwrD d x6 zs) := by rw [dwrV, if_pos hdk]
                have hrn : rn ≤ 1048576 := by have := hrd.1; omega
                have hpo := specDiskWrite_any (fun _ => True) xa xn xc ya yn yc d x6 ra rn rc zs w7 Y7.dk HSM.out (by omega) (by omega) hrd hrn
                rw [hwv] at hpo
                refine hpo.mono ?_
                rintro e w9 ⟨pa, pn, pc, qa, qn, qc, V5, U5, rfl, hO, hb⟩
                have Y9 := hid (Y7.put (j' := j - 1) hb hO Y7.k1.lt hdk (by have := Y7.few; simp [dwrD]; omega))
                have d0 := (Y7.below hb).cells.1
                have d1 := (Y7.below hb).cells.2
                have f0 := (Y7.below hb).frees.1
                have f1 := (Y7.below hb).frees.2
                clear hO hdk hrd hwv hpo hrn hzl hzb hOb
                try go_wp2_with fail
                refine hK.out _ _ ?_ (fun hHeld => ?_)
                · trivial
                clear hK K1
                try simp only [List.getElem_toArray]
                try simp only [List.getElem_cons_succ]
                try simp only [List.getElem_cons_zero]
                try simp only [Act.put]
                try simp only [List.setIfInBounds_toArray]
                try simp only [List.set_cons_succ]
                try simp only [List.set_cons_zero]
                refine wpAnyH_take (i := 9) (v := (.tuple #[.agg #[.slice pa pn pc, .slice qa qn qc], .bool true])) rfl (by kernel_rfl) (by kernel_rfl) (by kernel_rfl) (fun _ _ _ h => h) (Or.inl ⟨by rfl, ?_⟩) (by assumption) ?_
                · intro w hSw
                  (try dsimp only at hSw)
                  go_simp
                try simp only [List.getElem_toArray]
                try simp only [List.getElem_cons_succ]
                try simp only [List.getElem_cons_zero]
                try simp only [Act.put]
                try simp only [List.setIfInBounds_toArray]
                try simp only [List.set_cons_succ]
                try simp only [List.set_cons_zero]
                refine wpAnyH_take (i := 10) (v := (.agg #[.slice pa pn pc, .slice qa qn qc])) rfl (by kernel_rfl) (by kernel_rfl) (by kernel_rfl) (fun _ _ _ h => h) (Or.inl ⟨by rfl, ?_⟩) (by assumption) ?_
                · intro w hSw
                  (try dsimp only at hSw)
                  go_simp
                try simp only [List.getElem_toArray]
                try simp only [List.getElem_cons_succ]
                try simp only [List.getElem_cons_zero]
                try simp only [Act.put]
                try simp only [List.setIfInBounds_toArray]
                try simp only [List.set_cons_succ]
                try simp only [List.set_cons_zero]
                refine wpAnyH_take (i := 11) (v := (.bool true)) rfl (by kernel_rfl) (by kernel_rfl) (by kernel_rfl) (fun _ _ _ h => h) (Or.inl ⟨by rfl, ?_⟩) (by assumption) ?_
                · intro w hSw
                  (try dsimp only at hSw)
                  go_simp
                try simp only [List.getElem_toArray]
                try simp only [List.getElem_cons_succ]
                try simp only [List.getElem_cons_zero]
                try simp only [Act.put]
                try simp only [List.setIfInBounds_toArray]
                try simp only [List.set_cons_succ]
                try simp only [List.set_cons_zero]
                refine wpAnyH_ready (rs := [12]) (by kernel_rfl) (by simp) ?_
                refine AllReadyH.cons rfl (fun K1 hK => ?_) AllReadyH.nil
                go_simp
                try go_wp2_with fail
                refine hK.out _ _ ?_ (fun hHeld => ?_)
                · trivial
                clear hK K1
                try simp only [List.getElem_toArray]
                try simp only [List.getElem_cons_succ]
                try simp only [List.getElem_cons_zero]
                try simp only [Act.put]
                try simp only [List.setIfInBounds_toArray]
                try simp only [List.set_cons_succ]
                try simp only [List.set_cons_zero]
                refine wpAnyH_done (by kernel_rfl) ?_ _
                refine NoPanic.normal ?_
                clear d0 d1 f0 f1 hb
                go_wp2
                go_roundw
                case rel => exact ⟨j - 1, pa, pn, pc, qa, qn, qc, V5, U5, _, by omega, by go_num, Y9.out⟩
                case measure => simp [intOf]; omega
              · go_simp
                refine (HY.out g _ Y6.cu).mono ?_
                rintro e w7 ⟨ra, rn, rc, zs, rfl, hOb, hzl, hzb, hg7, hc7⟩
                have Y7 := Y6.draw hg7 hc7
                try go_wp2_with fail
                refine hK.out _ _ ?_ (fun hHeld => ?_)
                · trivial
                clear hK K1
                try simp only [List.getElem_toArray]
                try simp only [List.getElem_cons_succ]
                try simp only [List.getElem_cons_zero]
                try simp only [Act.put]
                try simp only [List.setIfInBounds_toArray]
                try simp only [List.set_cons_succ]
                try simp only [List.set_cons_zero]
                refine wpAnyH_ready (rs := [0]) (by kernel_rfl) (by simp) ?_
                refine AllReadyH.cons rfl (fun K1 hK => ?_) AllReadyH.nil
                have d0 := Y7.cells.1
                have d1 := Y7.cells.2
                go_simp
                try go_wp2_with fail
                refine hK.out _ _ ?_ (fun hHeld => ?_)
                · trivial
                clear hK K1
                try simp only [List.getElem_toArray]
                try simp only [List.getElem_cons_succ]
                try simp only [List.getElem_cons_zero]
                try simp only [Act.put]
                try simp only [List.setIfInBounds_toArray]
                try simp only [List.set_cons_succ]
                try simp only [List.set_cons_zero]
                refine wpAnyH_ready (rs := [8]) (by kernel_rfl) (by simp) ?_
                refine AllReadyH.cons rfl (fun K1 hK => ?_) AllReadyH.nil
                go_simp
                have hdk := dwr_ok Y7.ok (by have := Y7.few; omega) lo6 (by have := HLE.out.1; omega) hzl
                have hrd : Rd w7 ra rn rc zs := by
                  obtain ⟨a', c', e', hr, _⟩ := Ob.rd hOb hzb (by omega)
                  cases e'
                  exact hr
                have hwv : dwrV d x6 zs = some (dwrD d x6 zs) := by rw [dwrV, if_pos hdk]
                have hrn : rn ≤ 1048576 := by have := hrd.1; omega
                have hpo := specDiskWrite_any (fun _ => True) xa xn xc ya yn yc d x6 ra rn rc zs w7 Y7.dk HSM.out (by omega) (by omega) hrd hrn
                rw [hwv] at hpo
                refine hpo.mono ?_
                rintro e w9 ⟨pa, pn, pc, qa, qn, qc, V5, U5, rfl, hO, hb⟩
                have Y9 := hid (Y7.put (j' := j - 1) hb hO Y7.k1.lt hdk (by have := Y7.few; simp [dwrD]; omega))
                have d0 := (Y7.below hb).cells.1
                have d1 := (Y7.below hb).cells.2
                have f0 := (Y7.below hb).frees.1
                have f1 := (Y7.below hb).frees.2
                clear hO hdk hrd hwv hpo hrn hzl hzb hOb
                try go_wp2_with fail
                refine hK.out _ _ ?_ (fun hHeld => ?_)
                · trivial
                clear hK K1
                try simp only [List.getElem_toArray]
                try simp only [List.getElem_cons_succ]
                try simp only [List.getElem_cons_zero]
                try simp only [Act.put]
                try simp only [List.setIfInBounds_toArray]
                try simp only [List.set_cons_succ]
                try simp only [List.set_cons_zero]
                refine wpAnyH_take (i := 9) (v := (.tuple #[.agg #[.slice pa pn pc, .slice qa qn qc], .bool true])) rfl (by kernel_rfl) (by kernel_rfl) (by kernel_rfl) (fun _ _ _ h => h) (Or.inl ⟨by rfl, ?_⟩) (by assumption) ?_
                · intro w hSw
                  (try dsimp only at hSw)
                  go_simp
                try simp only [List.getElem_toArray]
                try simp only [List.getElem_cons_succ]
                try simp only [List.getElem_cons_zero]
                try simp only [Act.put]
                try simp only [List.setIfInBounds_toArray]
                try simp only [List.set_cons_succ]
                try simp only [List.set_cons_zero]
                refine wpAnyH_take (i := 10) (v := (.agg #[.slice pa pn pc, .slice qa qn qc])) rfl (by kernel_rfl) (by kernel_rfl) (by kernel_rfl) (fun _ _ _ h => h) (Or.inl ⟨by rfl, ?_⟩) (by assumption) ?_
                · intro w hSw
                  (try dsimp only at hSw)
                  go_simp
                try simp only [List.getElem_toArray]
                try simp only [List.getElem_cons_succ]
                try simp only [List.getElem_cons_zero]
                try simp only [Act.put]
                try simp only [List.setIfInBounds_toArray]
                try simp only [List.set_cons_succ]
                try simp only [List.set_cons_zero]
                refine wpAnyH_take (i := 11) (v := (.bool true)) rfl (by kernel_rfl) (by kernel_rfl) (by kernel_rfl) (fun _ _ _ h => h) (Or.inl ⟨by rfl, ?_⟩) (by assumption) ?_
                · intro w hSw
                  (try dsimp only at hSw)
                  go_simp
                try simp only [List.getElem_toArray]
                try simp only [List.getElem_cons_succ]
                try simp only [List.getElem_cons_zero]
                try simp only [Act.put]
                try simp only [List.setIfInBounds_toArray]
                try simp only [List.set_cons_succ]
                try simp only [List.set_cons_zero]
                refine wpAnyH_ready (rs := [12]) (by kernel_rfl) (by simp) ?_
                refine AllReadyH.cons rfl (fun K1 hK => ?_) AllReadyH.nil
                go_simp
                try go_wp2_with fail
                refine hK.out _ _ ?_ (fun hHeld => ?_)
                · trivial
                clear hK K1
                try simp only [List.getElem_toArray]
                try simp only [List.getElem_cons_succ]
                try simp only [List.getElem_cons_zero]
                try simp only [Act.put]
                try simp only [List.setIfInBounds_toArray]
                try simp only [List.set_cons_succ]
                try simp only [List.set_cons_zero]
                refine wpAnyH_done (by kernel_rfl) ?_ _
                refine NoPanic.normal ?_
                clear d0 d1 f0 f1 hb
                go_wp2
                go_roundw
                case rel => exact ⟨j - 1, pa, pn, pc, qa, qn, qc, V5, U5, _, by omega, by go_num, Y9.out⟩
                case measure => simp [intOf]; omega
    · obtain rfl : j = 0 := by omega
      obtain ⟨d0, d1⟩ := YY.out.cells
      have r0 := YY.out.k0.cell (j := 0) rfl
      have r1 := YY.out.k0.cell (j := 1) rfl
      have f0 := YY.out.k0.free 0
      have f1 := YY.out.k0.free 1
      go_wp2
      try simp only [Exit.inBlock, Exit.then]
      refine bodyPost_ret (v := .agg #[.slice xa xn xc, .slice ya yn yc]) ?_ rfl ?_
      · exact results_dsk rfl _ _ _ rfl (by go_simp) (by go_simp)
      · have O1 : Only (fun y => y = w.heap.size) wr ((wr.setCell ⟨w.heap.size, 0, none⟩ (.slice xa xn xc)).setCell ⟨w.heap.size, 1, none⟩ (.slice ya yn yc)) := (only_set (R := fun y => y = w.heap.size) rfl _).trans (only_set (R := fun y => y = w.heap.size) rfl _)
        exact ⟨_, _, _, _, _, _, _, _, _, rfl, (YY.out.own.to O1 (fun y hy e => by have := (YY.out.own.lt hy).1; omega)).base (by omega), YY.out.ok, grown_setHigh (grown_setHigh YY.out.gr (Nat.le_refl _) _ _) (Nat.le_refl _) _ _, (YY.out.cu.setD w.heap.size 0 _ hgl).setD w.heap.size 1 _ hgl⟩
end Go.Proofs.YtcpdedpgjaimkaaDoor
/-
  l01Raw: the cursor stays one.
-/
namespace Go.Proofs.YtcpdedpgjaimkaaDoor
open Go.RowKit
set_option maxHeartbeats 1600000 in
theorem raw_cu (g : Nat) (w : World) (h : Cu w g) :
    Calls Tryd.prog 24 #[.pointer (some ⟨g, 0, none⟩)] w fun e w' => (∃ x : Int, e = .returned (.int .i64 x) ∧ -9223372036854775808 ≤ x ∧ x ≤ 9223372036854775807) ∧ w.grownBy w' (some g) ∧ Cu w' g := by
  have HC := hid h
  clear h
  go_enter Tryd.func24, Tryd.ntmps24
  go_wp2_with fail
  refine (below_any g 10 w HC.out (by omega) (by omega)).mono ?_
  rintro e w1 ⟨⟨k, rfl, hk0, hk1⟩, hg1, hc1⟩
  have HG1 := hid hg1
  have HC1 := hid hc1
  clear hg1 hc1
  rcases (by omega : k < 4 ∨ k = 4 ∨ k = 5 ∨ k = 6 ∨ k = 7 ∨ k = 8 ∨ k = 9) with h | rfl | rfl | rfl | rfl | rfl | rfl
  · go_wp2_with fail
    refine (below_any g 20 w1 HC1.out (by omega) (by omega)).mono ?_
    rintro e w2 ⟨⟨x, rfl, hx0, hx1⟩, hg1, hc1⟩
    have HG2 := hid (grownBy_trans HG1.out hg1)
    have HC2 := hid hc1
    clear hg1 hc1
    go_wp2
    go_ret
    exact ⟨⟨_, rfl, by omega, by omega⟩, HG2.out, HC2.out⟩
  · go_wp2_with fail
    refine (below_any g 3 w1 HC1.out (by omega) (by omega)).mono ?_
    rintro e w2 ⟨⟨x, rfl, hx0, hx1⟩, hg1, hc1⟩
    have HG2 := hid (grownBy_trans HG1.out hg1)
    have HC2 := hid hc1
    clear hg1 hc1
    go_wp2
    go_ret
    exact ⟨⟨_, rfl, by omega, by omega⟩, HG2.out, HC2.out⟩
  · go_wp2_with fail
    refine (below_any g 2 w1 HC1.out (by omega) (by omega)).mono ?_
    rintro e w2 ⟨⟨x, rfl, hx0, hx1⟩, hg1, hc1⟩
    have HG2 := hid (grownBy_trans HG1.out hg1)
    have HC2 := hid hc1
    clear hg1 hc1
    go_wp2
    go_ret
    exact ⟨⟨_, rfl, by omega, by omega⟩, HG2.out, HC2.out⟩
  · go_wp2_with fail
    refine (below_any g 2 w1 HC1.out (by omega) (by omega)).mono ?_
    rintro e w2 ⟨⟨x, rfl, hx0, hx1⟩, hg1, hc1⟩
    have HG2 := hid (grownBy_trans HG1.out hg1)
    have HC2 := hid hc1
    clear hg1 hc1
    go_wp2
    go_ret
    exact ⟨⟨_, rfl, by omega, by omega⟩, HG2.out, HC2.out⟩
  · go_wp2_with fail
    refine (below_any g 2 w1 HC1.out (by omega) (by omega)).mono ?_
    rintro e w2 ⟨⟨x, rfl, hx0, hx1⟩, hg1, hc1⟩
    have HG2 := hid (grownBy_trans HG1.out hg1)
    have HC2 := hid hc1
    clear hg1 hc1
    go_wp2
    go_ret
    exact ⟨⟨_, rfl, by omega, by omega⟩, HG2.out, HC2.out⟩
  · go_wp2_with fail
    have hgl : w1.grownBy (w1.alloc (.cells #[.int .i64 127, .int .i64 128, .int .i64 16383, .int .i64 16384, .int .i64 255, .int .i64 256, .int .i64 4096, .int .i64 4097] 3)) (some g) := grownBy_alloc w1 _ _
    have HGL := hid hgl
    clear hgl
    refine (below_any g 8 _ (HC1.out.alloc _) (by omega) (by omega)).mono ?_
    rintro e w2 ⟨⟨x, rfl, hx0, hx1⟩, hg1, hc1⟩
    have HG2 := hid (grownBy_trans (grownBy_trans HG1.out HGL.out) hg1)
    have hcl := fun k => row_kept (b := w1.heap.size) (k := k) hg1 (by simp) (by have := HC1.out.lt; omega)
    have HC2 := hid hc1
    clear hg1 hc1
    rcases (by omega : x = 0 ∨ x = 1 ∨ x = 2 ∨ x = 3 ∨ x = 4 ∨ x = 5 ∨ x = 6 ∨ x = 7) with rfl | rfl | rfl | rfl | rfl | rfl | rfl | rfl
    · have hc := (hcl 0).trans (by rw [World.cell?_alloc_at (hn := rfl)])
      clear hcl
      go_wp2
      go_ret
      exact ⟨⟨_, rfl, by omega, by omega⟩, HG2.out, HC2.out⟩
    · have hc := (hcl 1).trans (by rw [World.cell?_alloc_at (hn := rfl)])
      clear hcl
      go_wp2
      go_ret
      exact ⟨⟨_, rfl, by omega, by omega⟩, HG2.out, HC2.out⟩
    · have hc := (hcl 2).trans (by rw [World.cell?_alloc_at (hn := rfl)])
      clear hcl
      go_wp2
      go_ret
      exact ⟨⟨_, rfl, by omega, by omega⟩, HG2.out, HC2.out⟩
    · have hc := (hcl 3).trans (by rw [World.cell?_alloc_at (hn := rfl)])
      clear hcl
      go_wp2
      go_ret
      exact ⟨⟨_, rfl, by omega, by omega⟩, HG2.out, HC2.out⟩
    · have hc := (hcl 4).trans (by rw [World.cell?_alloc_at (hn := rfl)])
      clear hcl
      go_wp2
      go_ret
      exact ⟨⟨_, rfl, by omega, by omega⟩, HG2.out, HC2.out⟩
    · have hc := (hcl 5).trans (by rw [World.cell?_alloc_at (hn := rfl)])
      clear hcl
      go_wp2
      go_ret
      exact ⟨⟨_, rfl, by omega, by omega⟩, HG2.out, HC2.out⟩
    · have hc := (hcl 6).trans (by rw [World.cell?_alloc_at (hn := rfl)])
      clear hcl
      go_wp2
      go_ret
      exact ⟨⟨_, rfl, by omega, by omega⟩, HG2.out, HC2.out⟩
    · have hc := (hcl 7).trans (by rw [World.cell?_alloc_at (hn := rfl)])
      clear hcl
      go_wp2
      go_ret
      exact ⟨⟨_, rfl, by omega, by omega⟩, HG2.out, HC2.out⟩
  · go_wp2_with fail
    refine (below_any g 65536 w1 HC1.out (by omega) (by omega)).mono ?_
    rintro e w2 ⟨⟨x, rfl, hx0, hx1⟩, hg1, hc1⟩
    have HG2 := hid (grownBy_trans HG1.out hg1)
    have HC2 := hid hc1
    clear hg1 hc1
    go_wp2
    go_ret
    exact ⟨⟨_, rfl, by omega, by omega⟩, HG2.out, HC2.out⟩
end Go.Proofs.YtcpdedpgjaimkaaDoor
/-
  l05Any, over what l05Bytes leaves (its contract is a premise here).
-/
namespace Go.Proofs.YtcpdedpgjaimkaaDoor
open Go.RowKit
set_option linter.unusedVariables false
/-- The boxes of l05Any: the result, the disk at hand. -/
structure YA (w v : World) (g b : Nat) (sv : Value) (V : List Value) (dv : Value) (Uu : List (Int × Value)) (d : DK) : Prop where
  gr : w.grownBy v (some g)
  cu : Cu v g
  k0 : Bk v w.heap.size 26 [.slice none 0 0, .slice none 0 0]
  k1 : Bk v b 26 [sv, dv]
  own : DO v (w.heap.size + 1) sv V dv Uu d
  nb : ∀ y, dbl sv V dv Uu y → y ≠ b
  ok : dkOk d = true
  gl : g < w.heap.size
  bl : w.heap.size < b
theorem YA.below {w v v' : World} {g b : Nat} {sv dv : Value} {V : List Value} {Uu : List (Int × Value)} {d : DK} (h : YA w v g b sv V dv Uu d) (hb : Below v.heap.size v v') : YA w v' g b sv V dv Uu d :=
  ⟨grownBy_trans h.gr (grown_of_below hb _), h.cu.below hb, h.k0.below hb, h.k1.below hb, h.own.below hb, h.nb, h.ok, h.gl, h.bl⟩
theorem YA.draw {w v v' : World} {g b : Nat} {sv dv : Value} {V : List Value} {Uu : List (Int × Value)} {d : DK} (h : YA w v g b sv V dv Uu d) (hg : v.grownBy v' (some g)) (hc : Cu v' g) : YA w v' g b sv V dv Uu d := by
  have o : Only (fun y => y = g) v v' := only_of_grown hg (fun k e => by cases e; rfl)
  have h1 := h.gl
  have h2 := h.bl
  exact ⟨grownBy_trans h.gr hg, hc, h.k0.to o (by omega), h.k1.to o (by omega), h.own.to o (fun y hy e => by have := (h.own.lt hy).1; omega), h.nb, h.ok, h.gl, h.bl⟩
theorem YA.cells {w v : World} {g b : Nat} {sv dv : Value} {V : List Value} {Uu : List (Int × Value)} {d : DK} (h : YA w v g b sv V dv Uu d) : (v.cell? ⟨b, 0, none⟩ = some sv ∧ v.cell? ⟨b, 1, none⟩ = some dv) ∧ (v.frozen? ⟨b, 0, none⟩ = false ∧ v.frozen? ⟨b, 1, none⟩ = false) ∧
    (v.cell? ⟨w.heap.size, 0, none⟩ = some (.slice none 0 0) ∧ v.cell? ⟨w.heap.size, 1, none⟩ = some (.slice none 0 0)) ∧ (v.frozen? ⟨w.heap.size, 0, none⟩ = false ∧ v.frozen? ⟨w.heap.size, 1, none⟩ = false) :=
  ⟨⟨h.k1.cell (j := 0) rfl, h.k1.cell (j := 1) rfl⟩, ⟨h.k1.free 0, h.k1.free 1⟩, ⟨h.k0.cell (j := 0) rfl, h.k0.cell (j := 1) rfl⟩, h.k0.free 0, h.k0.free 1⟩
/-- What l05Any holds at its end. -/
structure YF (w v : World) (g b : Nat) (sa : Option Addr) (sn sc : Nat) (da : Option Addr) (dn dc : Nat) (d : DK) : Prop where
  gr : w.grownBy v (some g)
  cu : Cu v g
  k0 : Bk v w.heap.size 26 [.slice none 0 0, .slice none 0 0]
  k1 : Bk v b 26 [.slice sa sn sc, .slice da dn dc]
  dk : Dk v (fun y => w.heap.size + 1 ≤ y) sa sn sc da dn dc d
  sm : smallD d
  few : d.sh.length ≤ 1048576 ∧ d.dw.length ≤ 1048576
  gl : g < w.heap.size
theorem YF.fin {w v : World} {g b : Nat} {sa : Option Addr} {sn sc : Nat} {da : Option Addr} {dn dc : Nat} {d : DK} (h : YF w v g b sa sn sc da dn dc d) (x y : Value) :
    AnyD w g (.returned (.agg #[.slice sa sn sc, .slice da dn dc])) ((v.setCell ⟨w.heap.size, 0, none⟩ x).setCell ⟨w.heap.size, 1, none⟩ y) := by
  have o : Only (fun z => z = w.heap.size) v ((v.setCell ⟨w.heap.size, 0, none⟩ x).setCell ⟨w.heap.size, 1, none⟩ y) := (only_set (R := fun z => z = w.heap.size) rfl _).trans (only_set (R := fun z => z = w.heap.size) rfl _)
  have hgl := h.gl
  exact ⟨sa, sn, sc, da, dn, dc, d, rfl, (h.dk.to o (fun b hb _ e => by omega)).mono (fun y hy _ => by omega), h.sm, h.few, grown_setHigh (grown_setHigh h.gr (Nat.le_refl _) _ _) (Nat.le_refl _) _ _, (h.cu.setD w.heap.size 0 _ hgl).setD w.heap.size 1 _ hgl⟩
theorem dk_small {d : DK} (h : dkOk d = true) : smallD d ∧ d.sh.length ≤ 400 ∧ d.dw.length ≤ 500 := by
  have hk := (dkOk_iff d).1 h
  refine ⟨⟨fun i hi => ?_, fun i hi => ?_⟩, hk.2.1, hk.2.2.1⟩
  · have := (shtOk_iff _).1 (hk.2.2.2.1 i hi); omega
  · have := (wrtOk_iff _ _).1 (hk.2.2.2.2 i hi); omega
theorem YA.same {w v : World} {g b : Nat} {sa : Option Addr} {sn sc : Nat} {da : Option Addr} {dn dc : Nat} {V : List Value} {Uu : List (Int × Value)} {d : DK} (h : YA w v g b (.slice sa sn sc) V (.slice da dn dc) Uu d) : YF w v g b sa sn sc da dn dc d := by
  have hs := dk_small h.ok
  exact ⟨h.gr, h.cu, h.k0, h.k1, h.own.dk (fun y hy => (h.own.lt hy).1), hs.1, ⟨by omega, by omega⟩, h.gl⟩
theorem wcs_set0 (U : List (Int × Value)) (p : Int × Value) (h : 0 < U.length) : wcs (U.set 0 p) = ((wcs U).set 0 (.int .i64 p.1)).set 1 p.2 := by
  cases U with
  | nil => simp at h
  | cons q U => rfl
theorem wcs_at0 (U : List (Int × Value)) (h : 0 < U.length) : (wcs U)[0]? = some (.int .i64 (xAt U 0).1) ∧ (wcs U)[1]? = some (xAt U 0).2 := by
  cases U with
  | nil => simp at h
  | cons q U => exact ⟨rfl, rfl⟩
theorem dwAt_set {V : List DW} {p : DW} {i : Nat} (h : i < V.length) : dwAt (V.set i p) i = p := by simp [dwAt, h]
theorem dwAt_other {V : List DW} {p : DW} {i j : Nat} (h : i ≠ j) : dwAt (V.set j p) i = dwAt V i := by simp [dwAt, Ne.symm h]
theorem WO.upd0 {v v' : World} {B gd : Nat} {dv : Value} {U : List (Int × Value)} {ds : List DW} (h : WO v B dv U ds) (hd : dv.ownBlock = some gd) (h0 : 0 < ds.length) (o : Only (fun y => y = gd) v v') {p : Int × Value} {q : DW} (hrow : v'.ownsRow B 43 2 dv ds.length (wcs (U.set 0 p))) (hp1 : p.1 = q.1)
    (hp2 : (p.2 = (xAt U 0).2 ∧ q.2 = (dwAt ds 0).2) ∨ (p.2 = .slice none 0 0 ∧ q.2 = [])) : Wrr v' (fun y => B ≤ y) dv (ds.set 0 q) := by
  have hl := h.len
  refine ⟨U.set 0 p, by simp [hl], by rw [List.length_set]; exact rw_own hrow (fun k _ hB _ => hB), fun i hi => ?_⟩
  rw [List.length_set] at hi
  have hold : ∀ j, j < ds.length → By v' (fun y => B ≤ y) (xAt U j).2 (dwAt ds j).2 := fun j hj =>
    by_ob (own_kept (h.own j hj).2.1 o (fun y hy e => h.off j hj y hy (by rw [hd, e]))) (h.own j hj).2.2 (fun k _ hB _ => hB)
  by_cases e : i = 0
  · subst e
    rw [xAt_set (by omega), dwAt_set hi]
    refine ⟨hp1, ?_⟩
    rcases hp2 with ⟨e1, e2⟩ | ⟨e1, e2⟩
    · rw [e1, e2]; exact hold 0 hi
    · rw [e1, e2]; exact ⟨rw_nil _ _, fun i => by simp⟩
  · rw [xAt_other e, dwAt_other e]
    exact ⟨(h.own i hi).1, hold i hi⟩
theorem YA.dirty {w v v' : World} {g b gd : Nat} {sa : Option Addr} {sn sc : Nat} {da : Option Addr} {dn dc : Nat} {V : List Value} {Uu : List (Int × Value)} {d : DK} (h : YA w v g b (.slice sa sn sc) V (.slice da dn dc) Uu d) (hd : (Value.slice da dn dc).ownBlock = some gd) (h0 : 0 < d.dw.length) (o' : Nat) (x : Value) {p : Int × Value} {q : DW} (hrow : (v.setCell ⟨gd, o', none⟩ x).ownsRow (w.heap.size + 1) 43 2 (.slice da dn dc) d.dw.length (wcs (Uu.set 0 p))) (hp1 : p.1 = q.1)
    (hp2 : (p.2 = (xAt Uu 0).2 ∧ q.2 = (dwAt d.dw 0).2) ∨ (p.2 = .slice none 0 0 ∧ q.2 = [])) : YF w (v.setCell ⟨gd, o', none⟩ x) g b sa sn sc da dn dc ⟨d.sh, d.dw.set 0 q⟩ := by
  have o : Only (fun y => y = gd) v (v.setCell ⟨gd, o', none⟩ x) := only_set (R := fun y => y = gd) rfl _
  have hw : dbl (.slice sa sn sc) V (.slice da dn dc) Uu gd := .inr (.inl hd)
  have hg1 := (h.own.lt hw).1
  have hg2 := h.nb _ hw
  have hgl := h.gl
  have hs := dk_small h.ok
  refine ⟨grown_setHigh h.gr (by omega) _ _, h.cu.setD gd o' _ (by omega), h.k0.to o (by omega), h.k1.to o (fun e => hg2 e.symm), ⟨(h.own.hs.to o (fun y hy e => h.own.ap y hy (by rw [e]; exact .inl hd))).shr (fun y hy => (h.own.hs.lt hy).1), h.own.hd.upd0 hd h0 o hrow hp1 hp2⟩, ⟨hs.1.1, fun i hi => ?_⟩, ⟨by simp only; omega, by simp only [List.length_set]; omega⟩, hgl⟩
  simp only [List.length_set] at hi ⊢
  by_cases e : i = 0
  · subst e
    rw [dwAt_set hi]
    rcases hp2 with ⟨_, e2⟩ | ⟨_, e2⟩
    · rw [e2]; exact hs.1.2 0 hi
    · rw [e2]; simp
  · rw [dwAt_other e]; exact hs.1.2 i hi
/-- The first sheet gets one byte. -/
theorem YA.one {w v : World} {g b gs : Nat} {sn sc : Nat} {da : Option Addr} {dn dc : Nat} {V : List Value} {Uu : List (Int × Value)} {d : DK} (h : YA w v g b (.slice (some ⟨gs, 0, none⟩) sn sc) V (.slice da dn dc) Uu d) :
    YF w ((v.alloc (.cells #[.int .u8 1] 5)).setCell ⟨gs, 0, none⟩ (.slice (some ⟨v.heap.size, 0, none⟩) 1 1)) g b (some ⟨gs, 0, none⟩) sn sc da dn dc ⟨d.sh.set 0 [1], d.dw⟩ := by
  have hb0 := below_new (o := .cells #[.int .u8 1] 5) (w := v) (Below.refl _ _)
  have hA := h.below hb0
  have o : Only (fun y => y = gs) (v.alloc (.cells #[.int .u8 1] 5)) ((v.alloc (.cells #[.int .u8 1] 5)).setCell ⟨gs, 0, none⟩ (.slice (some ⟨v.heap.size, 0, none⟩) 1 1)) := only_set (R := fun y => y = gs) rfl _
  have hw : dbl (.slice (some ⟨gs, 0, none⟩) sn sc) V (.slice da dn dc) Uu gs := .inl (.inl rfl)
  have hg1 := (h.own.lt hw).1
  have hg2 := h.nb _ hw
  have hgl := h.gl
  have hs := dk_small h.ok
  have hk := (dkOk_iff d).1 h.ok
  have hx : Ob (v.alloc (.cells #[.int .u8 1] 5)) v.heap.size (.slice (some ⟨v.heap.size, 0, none⟩) 1 1) [1] := bk_ob (zs := [1]) (Bk.new v 5 [.int .u8 1]) (by simp) (Nat.le_refl _)
  have hb1 : byt [1] := by
    intro i
    cases i with
    | zero => simp
    | succ i => simp
  refine ⟨grown_setHigh hA.gr (by omega) _ _, hA.cu.setD gs 0 _ (by omega), hA.k0.to o (by omega), hA.k1.to o (fun e => hg2 e.symm), ⟨(h.own.hs.upd (by omega) rfl hb0 hx hb1 (by have := h.k1.lt; have := h.bl; omega) o (ownD_set hA.own.hs.row 0 _)).shr (fun y hy => ((h.own.hs.upd (by omega) rfl hb0 hx hb1 (by have := h.k1.lt; have := h.bl; omega) o (ownD_set hA.own.hs.row 0 _)).lt hy).1), (hA.own.hd.to o (fun y hy e => h.own.ap y (by rw [e]; exact .inl rfl) hy)).wrr (fun y hy => (h.own.hd.lt hy).1)⟩, ⟨fun i hi => ?_, hs.1.2⟩, ⟨by simp only [List.length_set]; omega, by simp only; omega⟩, hgl⟩
  simp only [List.length_set] at hi ⊢
  by_cases e : i = 0
  · subst e
    rw [shAt_set hi]; simp
  · rw [shAt_other e]; exact hs.1.1 i hi
/-- The disk has one sheet alone. -/
theorem YA.cut {w v : World} {g b : Nat} {sa : Option Addr} {sn sc : Nat} {da : Option Addr} {dn dc : Nat} {V : List Value} {Uu : List (Int × Value)} {d : DK} (h : YA w v g b (.slice sa sn sc) V (.slice da dn dc) Uu d) (h1 : 1 ≤ sn) :
    YF w (v.setCell ⟨b, 0, none⟩ (.slice sa 1 sc)) g b sa 1 sc da dn dc ⟨d.sh.take 1, d.dw⟩ := by
  have o : Only (fun y => y = b) v (v.setCell ⟨b, 0, none⟩ (.slice sa 1 sc)) := only_set (R := fun y => y = b) rfl _
  have hgl := h.gl
  have hbl := h.bl
  have hs := dk_small h.ok
  have hD : Dk (v.setCell ⟨b, 0, none⟩ (.slice sa 1 sc)) (fun y => w.heap.size + 1 ≤ y) sa sn sc da dn dc d := (h.own.to o (fun y hy e => h.nb y hy e)).dk (fun y hy => (h.own.lt hy).1)
  have hat : ∀ i, i < 1 → shAt (d.sh.take 1) i = shAt d.sh i := by
    intro i hi
    obtain rfl : i = 0 := by omega
    simp [shAt]
  obtain ⟨hsl, hsc1, hsc2⟩ := hD.hs.len
  have hl1 : (d.sh.take 1).length = 1 := by simp; omega
  refine ⟨grown_setHigh h.gr (by omega) _ _, h.cu.setD b 0 _ (by omega), h.k0.to o (by omega), h.k1.set 0 _, ⟨?_, hD.hd⟩, ⟨fun i hi => ?_, hs.1.2⟩, ⟨by simp only; omega, by simp only; omega⟩, hgl⟩
  · obtain ⟨V', e1, e2, e3⟩ := hD.hs
    refine ⟨V'.take 1, by rw [hl1]; simp; omega, ?_, fun i hi => ?_⟩
    · rw [hl1]
      obtain ⟨b', off, ea, eb, ec, ed⟩ := Rw.at e2 (by omega)
      refine ⟨sa, sc, rfl, by omega, hsc2, fun e => (by omega), fun e => (by rw [ea] at e; cases e), fun _ => ⟨b', off, ea, ec, eb, fun j u hu => ?_⟩⟩
      have hj : j < 1 := by have := (List.getElem?_eq_some_iff.1 hu).1; simp at this; omega
      exact ed j u (by rw [List.getElem?_take_of_lt hj] at hu; exact hu)
    · rw [hl1] at hi
      rw [hat i hi]
      have : uAt (V'.take 1) i = uAt V' i := by simp [uAt, List.getElem?_take_of_lt hi]
      rw [this]
      exact e3 i (by omega)
  · rw [hl1] at hi
    simp only
    rw [hat i hi]
    exact hs.1.1 i (by omega)
end Go.Proofs.YtcpdedpgjaimkaaDoor
/-
  l05Any: the walk.
-/
namespace Go.Proofs.YtcpdedpgjaimkaaDoor
open Go.RowKit
set_option linter.unusedVariables false
set_option maxHeartbeats 4000000 in
set_option maxRecDepth 20000 in
theorem l05Any_any (HBy : ∀ (g : Nat) (w : World), Cu w g → Calls Tryd.prog 31 #[.pointer (some ⟨g, 0, none⟩)] w fun e w' => BytD w g e w') (g : Nat) (w : World) (h : Cu w g) :
    Calls Tryd.prog 11 #[.pointer (some ⟨g, 0, none⟩)] w fun e w' => AnyD w g e w' := by
  have HY := hid HBy
  have hgl := h.lt
  have C0 := hid (h.alloc (.cells #[.slice none 0 0, .slice none 0 0] 26))
  have K0 := hid (Bk.new w 26 [.slice none 0 0, .slice none 0 0])
  have G0 := hid (grownBy_alloc w (.cells #[.slice none 0 0, .slice none 0 0] 26) (some g))
  have S0 : Hid ((w.alloc (.cells #[.slice none 0 0, .slice none 0 0] 26)).heap.size = w.heap.size + 1) := by show _ = _; simp
  clear h HBy
  go_enter Tryd.func11, Tryd.ntmps11
  go_wp2_with fail
  refine (l05Draw_any HY.out g _ C0.out).mono ?_
  generalize hU : w.alloc (.cells #[.slice none 0 0, .slice none 0 0] 26) = u0 at *
  clear hU
  rintro e w1 ⟨sa, sn, sc, da, dn, dc, V, Uu, d, rfl, hO, hok, hg1, hc1⟩
  rw [S0.out] at hO
  have Y1 : Hid (YA w (w1.alloc (.cells #[.slice sa sn sc, .slice da dn dc] 26)) g w1.heap.size (.slice sa sn sc) V (.slice da dn dc) Uu d) := by
    have hb := below_new (o := .cells #[.slice sa sn sc, .slice da dn dc] 26) (w := w1) (Below.refl _ _)
    have hsz := hg1.size
    have hs0 := S0.out
    exact ⟨grownBy_trans (grownBy_trans G0.out hg1) (grown_of_below hb _), hc1.below hb, (K0.out.to (only_of_grown hg1 (R := fun y => y = g) (fun k e => by cases e; rfl)) (by omega)).below hb, Bk.new w1 26 [.slice sa sn sc, .slice da dn dc], hO.below hb, fun y hy => by have := (hO.lt hy).2; omega, hok, hgl, by omega⟩
  clear hO hok hg1 hc1 C0 K0 G0 S0 HY
  have hNS : sn = d.sh.length ∧ dn = d.dw.length ∧ sn ≤ sc ∧ sc ≤ 9223372036854775807 ∧ dn ≤ dc ∧ dc ≤ 9223372036854775807 := ⟨(own_at Y1.out.own.hs.row).1, (own_at Y1.out.own.hd.row).1, (own_at Y1.out.own.hs.row).2.1, (own_at Y1.out.own.hs.row).2.2.1, (own_at Y1.out.own.hd.row).2.1, (own_at Y1.out.own.hd.row).2.2.1⟩
  have hsn : 2 ≤ sn ∧ sn ≤ 400 := by have := (dkOk_iff d).1 Y1.out.ok; omega
  have HND := hid hNS.2.1
  have hcs := hNS.2.2
  clear hNS
  go_wp2_with fail
  refine (below_any g 14 _ Y1.out.cu (by omega) (by omega)).mono ?_
  generalize hb : w1.heap.size = b at *
  generalize w1.alloc (.cells #[.slice sa sn sc, .slice da dn dc] 26) = u1 at *
  clear hb
  rintro e w2 ⟨⟨x, rfl, hx0, hx1⟩, hg, hc⟩
  have Y2 := hid (Y1.out.draw hg hc)
  clear hg hc Y1
  obtain ⟨⟨c0, c1⟩, ⟨f0, f1⟩, ⟨r0, r1⟩, e0, e1⟩ := Y2.out.cells
  have HNB : Hid (w.heap.size < b) := Y2.out.bl
  have hnb1 : ¬ w.heap.size = b := by have := HNB.out; omega
  have hnb2 : ¬ b = w.heap.size := fun e => hnb1 e.symm
  by_cases x0 : x = 0
  · subst x0
    obtain ⟨gs, rfl, -, hgs, hfz, hcl⟩ := (own_at Y2.out.own.hs.row).2.2.2 (by omega)
    have s0 := hcl 0 _ (uAt_some (by rw [Y2.out.own.hs.len]; have := (own_at Y2.out.own.hs.row).1; omega))
    have s1 := hfz 0
    generalize uAt V 0 = o0 at *
    have hgb : ¬ gs = b := Y2.out.nb _ (.inl (.inl rfl))
    have hgw : ¬ gs = w.heap.size := by have := (Y2.out.own.lt (.inl (.inl rfl) : dbl _ V _ Uu gs)).1; omega
    have hbs : b < w2.heap.size := Y2.out.k1.lt
    have hws : w.heap.size < w2.heap.size := Y2.out.k0.lt
    have Y3 : Hid (YF w ((w2.setCell ⟨gs, 0, none⟩ (.slice (some ⟨w2.heap.size, 0, none⟩) 1 1)).alloc (.cells #[.int .u8 1] 5)) g b (some ⟨gs, 0, none⟩) sn sc da dn dc ⟨d.sh.set 0 [1], d.dw⟩) := by
      have := Y2.out.one
      rwa [World.setCell_alloc_past _ _ _ _ hgs] at this
    clear Y2 hcl hfz
    go_wp2
    try simp only [Exit.inBlock, Exit.then]
    refine bodyPost_ret (v := .agg #[.slice (some ⟨gs, 0, none⟩) sn sc, .slice da dn dc]) ?_ rfl ?_
    · exact results_dsk rfl _ _ _ rfl (by go_simp) (by go_simp)
    · have hz := Y3.out.fin (.slice (some ⟨gs, 0, none⟩) sn sc) (.slice da dn dc)
      rw [World.setCell_alloc_past _ _ _ _ (by simp [World.setCell]; exact hws), World.setCell_alloc_past _ _ _ _ (by simp [World.setCell]; exact hws)] at hz
      exact hz
  · have y0 : (x == 0) = false := by simp [x0]
    by_cases x1 : x = 1
    · subst x1
      have Y3 := hid (Y2.out.cut (by omega))
      clear Y2
      go_wp2
      try simp only [Exit.inBlock, Exit.then]
      refine bodyPost_ret (v := .agg #[.slice sa 1 sc, .slice da dn dc]) ?_ rfl ?_
      · exact results_dsk rfl _ _ _ rfl (by go_simp) (by go_simp)
      · exact Y3.out.fin _ _
    · have y1 : (x == 1) = false := by simp [x1]
      by_cases x2 : x = 2
      · subst x2
        by_cases hd0 : dn = 0
        · subst hd0
          have Y3 := hid Y2.out.same
          clear Y2
          go_wp2
          try simp only [Exit.inBlock, Exit.then]
          refine bodyPost_ret (v := .agg #[.slice sa sn sc, .slice da 0 dc]) ?_ rfl ?_
          · exact results_dsk rfl _ _ _ rfl (by go_simp) (by go_simp)
          · exact Y3.out.fin _ _
        · have hd1 : (0 : Int) < (dn : Int) := by omega
          have HD0 : Hid (0 < d.dw.length) := by rw [← HND.out]; show 0 < dn; omega
          obtain ⟨gd, rfl, -, hgd, -, -⟩ := (own_at Y2.out.own.hd.row).2.2.2 (by omega)
          have hgb : ¬ gd = b := Y2.out.nb _ (.inr (.inl rfl))
          have hgb' : ¬ b = gd := fun e => hgb e.symm
          have hgw : ¬ gd = w.heap.size := by have := (Y2.out.own.lt (.inr (.inl rfl) : dbl _ V _ Uu gd)).1; omega
          have hgw' : ¬ w.heap.size = gd := fun e => hgw e.symm
          have HC : Hid (∀ v, YA w v g b (.slice sa sn sc) V (.slice (some ⟨gd, 0, none⟩) dn dc) Uu d → v.cell? ⟨b, 1, none⟩ = some (.slice (some ⟨gd, 0, none⟩) dn dc) ∧ v.cell? ⟨gd, 0, none⟩ = some (.int .i64 (xAt Uu 0).1) ∧ v.frozen? ⟨gd, 0, none⟩ = false ∧ ∀ r : Int, YF w (v.setCell ⟨gd, 0, none⟩ (.int .i64 r)) g b sa sn sc (some ⟨gd, 0, none⟩) dn dc ⟨d.sh, d.dw.set 0 (r, (dwAt d.dw 0).2)⟩) := by
            intro v hv
            have hul : 0 < Uu.length := by rw [hv.own.hd.len]; exact HD0.out
            obtain ⟨g', eg, -, -, hfz, hcl⟩ := (own_at hv.own.hd.row).2.2.2 (by omega)
            cases eg
            refine ⟨hv.cells.1.2, hcl 0 _ (wcs_at0 Uu hul).1, hfz 0, fun r => hv.dirty (v' := v) rfl HD0.out 0 (.int .i64 r) (p := (r, (xAt Uu 0).2)) (q := (r, (dwAt d.dw 0).2)) ?_ rfl (.inl ⟨rfl, rfl⟩)⟩
            have hr := ownD_set hv.own.hd.row 0 (.int .i64 r)
            have e : wcs (Uu.set 0 (r, (xAt Uu 0).2)) = (wcs Uu).set 0 (.int .i64 r) := by
              rw [wcs_set0 _ _ hul]
              cases Uu with
              | nil => simp at hul
              | cons q U => rfl
            rw [e]
            exact hr
          go_wp2_with fail
          go_cut [4] (fun x v => x = .int .i64 2 ∧ Hid (∃ r : Int, YF w v g b sa sn sc (some ⟨gd, 0, none⟩) dn dc ⟨d.sh, d.dw.set 0 (r, (dwAt d.dw 0).2)⟩))
          case first =>
            clear c0 f0 f1 r0 r1 e0 e1
            go_region_with (go_at_call 24; refine (raw_cu g _ (Y2.out.below (below_drew _)).cu).mono ?_; rintro e w4 ⟨⟨s4, rfl, hs4, hs5⟩, hg4, hc4⟩; have T4 := (Y2.out.below (below_drew _)).draw hg4 hc4; have t4 := (HC.out _ T4).1; have m4 := (HC.out _ T4).2.1; have f4 := (HC.out _ T4).2.2.1)
            all_goals (go_wp2_with fail; go_meet)
            all_goals exact ⟨rfl, s4, (HC.out _ T4).2.2.2 _⟩
          case rest =>
            obtain ⟨rfl, HT⟩ := hcut
            obtain ⟨r, hY⟩ := HT.out
            have Y3 := hid hY
            clear HC Y2 hY HT c0 c1 f0 f1 r0 r1 e0 e1
            have c0 := Y3.out.k1.cell (j := 0) rfl
            have c1 := Y3.out.k1.cell (j := 1) rfl
            have r0 := Y3.out.k0.cell (j := 0) rfl
            have r1 := Y3.out.k0.cell (j := 1) rfl
            have f0 := Y3.out.k0.free 0
            have f1 := Y3.out.k0.free 1
            go_wp2
            try simp only [Exit.inBlock, Exit.then]
            refine bodyPost_ret (v := .agg #[.slice sa sn sc, .slice (some ⟨gd, 0, none⟩) dn dc]) ?_ rfl ?_
            · exact results_dsk rfl _ _ _ rfl (by go_simp) (by go_simp)
            · exact Y3.out.fin _ _
      · have y2 : (x == 2) = false := by simp [x2]
        by_cases x3 : x = 3
        · subst x3
          by_cases hd0 : dn = 0
          · subst hd0
            have Y3 := hid Y2.out.same
            clear Y2
            go_wp2
            try simp only [Exit.inBlock, Exit.then]
            refine bodyPost_ret (v := .agg #[.slice sa sn sc, .slice da 0 dc]) ?_ rfl ?_
            · exact results_dsk rfl _ _ _ rfl (by go_simp) (by go_simp)
            · exact Y3.out.fin _ _
          · have hd1 : (0 : Int) < (dn : Int) := by omega
            have HD0 : Hid (0 < d.dw.length) := by rw [← HND.out]; show 0 < dn; omega
            obtain ⟨gd, rfl, -, hgd, hfz, hcl⟩ := (own_at Y2.out.own.hd.row).2.2.2 (by omega)
            have hgb : ¬ gd = b := Y2.out.nb _ (.inr (.inl rfl))
            have hgb' : ¬ b = gd := fun e => hgb e.symm
            have hgw : ¬ gd = w.heap.size := by have := (Y2.out.own.lt (.inr (.inl rfl) : dbl _ V _ Uu gd)).1; omega
            have hgw' : ¬ w.heap.size = gd := fun e => hgw e.symm
            have Y3 : Hid (YF w (w2.setCell ⟨gd, 1, none⟩ (.slice none 0 0)) g b sa sn sc (some ⟨gd, 0, none⟩) dn dc ⟨d.sh, d.dw.set 0 ((dwAt d.dw 0).1, [])⟩) := by
              have hul : 0 < Uu.length := by rw [Y2.out.own.hd.len]; exact HD0.out
              refine Y2.out.dirty (v' := w2) rfl HD0.out 1 (.slice none 0 0) (p := ((xAt Uu 0).1, .slice none 0 0)) (q := ((dwAt d.dw 0).1, [])) ?_ (Y2.out.own.hd.own 0 HD0.out).1 (.inr ⟨rfl, rfl⟩)
              have hr := ownD_set Y2.out.own.hd.row 1 (.slice none 0 0)
              have e : wcs (Uu.set 0 ((xAt Uu 0).1, .slice none 0 0)) = (wcs Uu).set 1 (.slice none 0 0) := by
                rw [wcs_set0 _ _ hul]
                cases Uu with
                | nil => simp at hul
                | cons q U => rfl
              rw [e]
              exact hr
            have s0 := hcl 1 _ (wcs_at0 Uu (by rw [Y2.out.own.hd.len]; exact HD0.out)).2
            have s1 := hfz 1
            generalize (xAt Uu 0).2 = o0 at *
            clear Y2 hcl hfz
            go_wp2
            try simp only [Exit.inBlock, Exit.then]
            refine bodyPost_ret (v := .agg #[.slice sa sn sc, .slice (some ⟨gd, 0, none⟩) dn dc]) ?_ rfl ?_
            · exact results_dsk rfl _ _ _ rfl (by go_simp) (by go_simp)
            · exact Y3.out.fin _ _
        · have y3 : (x == 3) = false := by simp [x3]
          have Y3 := hid Y2.out.same
          clear Y2
          go_wp2
          try simp only [Exit.inBlock, Exit.then]
          refine bodyPost_ret (v := .agg #[.slice sa sn sc, .slice da dn dc]) ?_ rfl ?_
          · exact results_dsk rfl _ _ _ rfl (by go_simp) (by go_simp)
          · exact Y3.out.fin _ _
end Go.Proofs.YtcpdedpgjaimkaaDoor
/-
  Keys and ranges: what the program's functions and the specification's answer, for all strings.
-/
namespace Go.Proofs.YtcpdedpgjaimkaaDoor
open Go.RowKit

def rng (lo hi : ByteArray) : Value := .agg #[.string lo, .string hi]
/-- Whether s lies ahead of the end hi. -/
def ahd (s hi : ByteArray) : Bool := decide (hi.toList = []) || Op.bytesLess s.toList hi.toList
/-- A range that lies in a new block, kept. -/
theorem s2 {w w1 : World} {lo hi : ByteArray} {T : TypeId} (h : Below (w.alloc (.cells #[.string lo, .string hi] T)).heap.size (w.alloc (.cells #[.string lo, .string hi] T)) w1) :
    w1.cell? ⟨w.heap.size, 0, none⟩ = some (.string lo) ∧ w1.cell? ⟨w.heap.size, 1, none⟩ = some (.string hi) ∧ Below (w.alloc (.cells #[.string lo, .string hi] T)).heap.size (w.alloc (.cells #[.string lo, .string hi] T)) w1 := by
  refine ⟨?_, ?_, h⟩
  · rw [h.cell (p := ⟨w.heap.size, 0, none⟩) (by simp), World.cell?_alloc_at (hn := rfl)]; rfl
  · rw [h.cell (p := ⟨w.heap.size, 1, none⟩) (by simp), World.cell?_alloc_at (hn := rfl)]; rfl
theorem s2k {w w1 w2 : World} {lo hi : ByteArray} {T : TypeId} (h2 : Below w1.heap.size w1 w2)
    (h : w1.cell? ⟨w.heap.size, 0, none⟩ = some (.string lo) ∧ w1.cell? ⟨w.heap.size, 1, none⟩ = some (.string hi) ∧ Below (w.alloc (.cells #[.string lo, .string hi] T)).heap.size (w.alloc (.cells #[.string lo, .string hi] T)) w1) :
    w2.cell? ⟨w.heap.size, 0, none⟩ = some (.string lo) ∧ w2.cell? ⟨w.heap.size, 1, none⟩ = some (.string hi) ∧ Below (w.alloc (.cells #[.string lo, .string hi] T)).heap.size (w.alloc (.cells #[.string lo, .string hi] T)) w2 :=
  s2 (h.2.2.trans (h2.mono h.2.2.size))
def rOk (lo hi : ByteArray) : Bool := decide (lo.size ≤ 17) && decide (hi.size ≤ 17) && ahd lo hi
def rHas (lo hi k : ByteArray) : Bool := rOk lo hi && kOk k && !Op.bytesLess k.toList lo.toList && ahd k hi

end Go.Proofs.YtcpdedpgjaimkaaDoor
/-
  Slices of strings: what is read of one; the law's helpers over them; SplitsOk of the program and of the specification.
-/
namespace Go.Proofs.YtcpdedpgjaimkaaDoor
open Go.RowKit

/-- The slice value '.slice a n c' has in the world w the strings ss. -/
def Sd (w : World) (a : Option Addr) (n c : Nat) (ss : List ByteArray) : Prop :=
  n = ss.length ∧ n ≤ c ∧ c ≤ 9223372036854775807 ∧ (∀ i : Nat, (ss[i]?.getD ⟨#[]⟩).size ≤ 9223372036854775807) ∧
    (0 < n → ∃ b off, a = some ⟨b, off, none⟩ ∧ b < w.heap.size ∧ ∀ i, i < n → w.cell? ⟨b, off + i, none⟩ = some (.string (ss[i]?.getD ⟨#[]⟩)))
theorem Sd.kept {w w' : World} {a : Option Addr} {n c : Nat} {ss : List ByteArray} (h : Sd w a n c ss) (hB : Below w.heap.size w w') : Sd w' a n c ss := by
  obtain ⟨h1, h2, h3, h4, h5⟩ := h
  refine ⟨h1, h2, h3, h4, fun hp => ?_⟩
  obtain ⟨b, off, rfl, hb, hc⟩ := h5 hp
  refine ⟨b, off, rfl, Nat.lt_of_lt_of_le hb hB.size, fun i hi => ?_⟩
  rw [hB.cell (p := ⟨b, off + i, none⟩) hb]
  exact hc i hi
/-- The list is right from place k on: keys, each above the one ahead. -/
def sOkF (ss : List ByteArray) : Nat → Nat → Bool
  | 0, _ => true
  | f + 1, k => kOk (ss[k]?.getD ⟨#[]⟩) && (decide (k = 0) || Op.bytesLess (ss[k - 1]?.getD ⟨#[]⟩).toList (ss[k]?.getD ⟨#[]⟩).toList) && sOkF ss f (k + 1)
def sOk (ss : List ByteArray) : Bool := decide (ss.length ≤ 3) && sOkF ss ss.length 0
theorem sOkF_no (ss : List ByteArray) (f k : Nat) (h : kOk (ss[k]?.getD ⟨#[]⟩) = false) : sOkF ss (f + 1) k = false := by simp [sOkF, h]
theorem sOkF_0 (ss : List ByteArray) (f : Nat) (h : kOk (ss[0]?.getD ⟨#[]⟩) = true) : sOkF ss (f + 1) 0 = sOkF ss f 1 := by simp only [sOkF, h]; simp
theorem sOkF_s (ss : List ByteArray) (f j : Nat) (h : kOk (ss[j + 1]?.getD ⟨#[]⟩) = true) (b : Bool) (h2 : Op.bytesLess (ss[j]?.getD ⟨#[]⟩).toList (ss[j + 1]?.getD ⟨#[]⟩).toList = b) : sOkF ss (f + 1) (j + 1) = (b && sOkF ss f (j + 1 + 1)) := by
  simp only [sOkF, h, Nat.add_sub_cancel, h2]; simp
end Go.Proofs.YtcpdedpgjaimkaaDoor
/-
  Pages as plain data; PageOk of the specification.
-/
namespace Go.Proofs.YtcpdedpgjaimkaaDoor
open Go.RowKit
/-- A page: its keys, values and kids. -/
structure PG where
  keys : List ByteArray
  vals : List ByteArray
  kids : List Int
def kidOk (k : Int) : Bool := decide (2 ≤ k) && decide (k < 400)
def pgLeaf (p : PG) : Bool := p.vals.all vOk && (decide (1 ≤ p.keys.length) && decide (p.keys.length ≤ 4) && decide (p.vals.length = p.keys.length))
def pgBranch (p : PG) : Bool := p.kids.all kidOk && (decide (2 ≤ p.kids.length) && decide (p.kids.length ≤ 4) && decide (p.keys.length + 1 = p.kids.length) && decide (p.vals.length = 0))
def pgOk (p : PG) : Bool := sOkF p.keys p.keys.length 0 && (if p.kids.length = 0 then pgLeaf p else pgBranch p)
theorem pgOk_leaf {p : PG} (h : sOkF p.keys p.keys.length 0 = true) (h0 : p.kids.length = 0) : pgOk p = pgLeaf p := by rw [pgOk, h, if_pos h0]; rfl
theorem pgOk_branch {p : PG} (h : sOkF p.keys p.keys.length 0 = true) (h0 : ¬ p.kids.length = 0) : pgOk p = pgBranch p := by rw [pgOk, h, if_neg h0]; rfl
theorem pgOk_no {p : PG} (h : sOkF p.keys p.keys.length 0 = false) : pgOk p = false := by rw [pgOk, h]; rfl
theorem all_take {α : Type} (l : List α) (f : α → Bool) (d : α) {k : Nat} (h : k < l.length) : (l.take (k + 1)).all f = ((l.take k).all f && f (l[k]?.getD d)) := by
  rw [List.take_succ_eq_append_getElem h, List.all_append]
  simp [h]
theorem all_no {α : Type} (l : List α) (f : α → Bool) (d : α) {k : Nat} (h : k < l.length) (hf : f (l[k]?.getD d) = false) : l.all f = false := by
  rw [List.all_eq_false]
  refine ⟨l[k], List.getElem_mem h, ?_⟩
  simp [h] at hf
  simp [hf]
theorem pgLeaf_no {p : PG} (h : p.vals.all vOk = false) : pgLeaf p = false := by rw [pgLeaf, h]; rfl
theorem pgBranch_no {p : PG} (h : p.kids.all kidOk = false) : pgBranch p = false := by rw [pgBranch, h]; rfl
/-- The slices lead to the page. -/
structure Pgr (w : World) (S : Nat → Prop) (ka : Option Addr) (kn kc : Nat) (va : Option Addr) (vn vc : Nat) (ia : Option Addr) (jn ic : Nat) (p : PG) : Prop where
  hk : Sr w S (.slice ka kn kc) p.keys
  hv : Sr w S (.slice va vn vc) p.vals
  hi : Ir w S (.slice ia jn ic) p.kids
theorem Pgr.below {w w' : World} {S : Nat → Prop} {ka : Option Addr} {kn kc : Nat} {va : Option Addr} {vn vc : Nat} {ia : Option Addr} {jn ic : Nat} {p : PG} (h : Pgr w S ka kn kc va vn vc ia jn ic p) (hb : Below w.heap.size w w') : Pgr w' S ka kn kc va vn vc ia jn ic p := ⟨h.hk.below hb, h.hv.below hb, h.hi.below hb⟩
theorem Pgr.to {w w' : World} {S R : Nat → Prop} {ka : Option Addr} {kn kc : Nat} {va : Option Addr} {vn vc : Nat} {ia : Option Addr} {jn ic : Nat} {p : PG} (h : Pgr w S ka kn kc va vn vc ia jn ic p) (ho : Only R w w') (hd : ∀ b, S b → b < w.heap.size → ¬ R b) : Pgr w' S ka kn kc va vn vc ia jn ic p := ⟨h.hk.to ho hd, h.hv.to ho hd, h.hi.to ho hd⟩
set_option maxHeartbeats 8000000 in
set_option maxRecDepth 20000 in
theorem specPageOk_any (S : Nat → Prop) (ka : Option Addr) (kn kc : Nat) (va : Option Addr) (vn vc : Nat) (ia : Option Addr) (jn ic : Nat) (p : PG) (w : World) (h : Pgr w S ka kn kc va vn vc ia jn ic p) :
    Calls Tryd.prog 45 #[.agg #[.slice ka kn kc, .slice va vn vc, .slice ia jn ic]] w fun e w' => e = .returned (.bool (pgOk p)) ∧ Below w.heap.size w w' := by
  have hb0 := below_new (o := .cells #[.slice ka kn kc, .slice va vn vc, .slice ia jn ic] 69) (w := w) (Below.refl _ _)
  have P0 := hid (h.below hb0)
  have HB := hid hb0
  have K0 := Bk.new w 69 [.slice ka kn kc, .slice va vn vc, .slice ia jn ic]
  have c0 := K0.cell (j := 0) rfl
  have c1 := K0.cell (j := 1) rfl
  have c2 := K0.cell (j := 2) rfl
  have HNK := hid (Rw.len h.hk).1
  have HNV := hid (Rw.len h.hv).1
  have HNI := hid (Rw.len h.hi).1
  have bk := (Rw.len h.hk).2
  have bv := (Rw.len h.hv).2
  have bi := (Rw.len h.hi).2
  clear h hb0 K0
  go_enter Tryd.func45, Tryd.ntmps45
  go_wp2_with fail
  generalize w.alloc (.cells #[.slice ka kn kc, .slice va vn vc, .slice ia jn ic] 69) = U at *
  generalize hx : w.heap.size = x at c0 c1 c2 ⊢
  clear hx
  go_loopw [12] (fun i wr => ∃ k : Nat, k ≤ kn ∧ i = .int .i64 k ∧ wr = U ∧ Hid (sOkF p.keys (kn - k) k = sOkF p.keys kn 0)) (fun i _ => kn - (intOf i).toNat)
  case atStart => exact ⟨0, Nat.zero_le _, rfl, rfl, rfl⟩
  case round =>
    obtain ⟨k, hk, rfl, rfl, HS⟩ := hrel
    by_cases hlt : k < kn
    · have hlt' : (k : Int) < (kn : Int) := by omega
      obtain ⟨b, off, ha, -, -, hcell⟩ := P0.out.hk.at (by omega)
      have hck := hcell k hlt
      have e1 : kn - k = (kn - (k + 1)) + 1 := by omega
      have HE1 := hid e1
      clear e1
      subst ha
      rw [HE1.out] at HS
      have HNO : Hid (sOkF p.keys kn 0 = false → pgOk p = false) := fun e => pgOk_no (by rw [← HNK.out]; exact e)
      cases k with
      | zero =>
        clear hcell
        rw [Nat.add_zero] at hck
        generalize hcur : sAt p.keys 0 = cur at hck
        have HC : Hid (p.keys[0]?.getD ⟨#[]⟩ = cur) := hcur
        clear hcur
        go_wp2_with fail
        refine (specKeyOk_any cur _).mono ?_
        rintro e w1 ⟨rfl, rfl⟩
        cases h1 : kOk cur
        · have HZ : Hid (pgOk p = false) := HNO.out (by rw [← HS.out]; exact sOkF_no p.keys _ _ (by rw [HC.out]; exact h1))
          go_wp2
          go_ret
          exact ⟨by rw [HZ.out]; rfl, HB.out⟩
        · have HZ : Hid (sOkF p.keys (kn - 1) 1 = sOkF p.keys kn 0) := by
            show sOkF p.keys (kn - 1) 1 = sOkF p.keys kn 0
            rw [← HS.out]; exact (sOkF_0 p.keys _ (by rw [HC.out]; exact h1)).symm
          go_wp2
          go_roundw
          case rel => exact ⟨1, by omega, by go_num, by trivial, HZ⟩
          case measure => simp [intOf]; omega
      | succ j =>
        have hcj := hcell j (by omega)
        have hj1 : (0 : Int) < (j : Int) + 1 := by omega
        clear hcell
        generalize hcur : sAt p.keys (j + 1) = cur at hck
        generalize hprev : sAt p.keys j = prev at hcj
        have HC : Hid (p.keys[j + 1]?.getD ⟨#[]⟩ = cur) := hcur
        have HP : Hid (p.keys[j]?.getD ⟨#[]⟩ = prev) := hprev
        clear hcur hprev
        go_wp2_with fail
        refine (specKeyOk_any cur _).mono ?_
        rintro e w1 ⟨rfl, rfl⟩
        cases h1 : kOk cur
        · have HZ : Hid (pgOk p = false) := HNO.out (by rw [← HS.out]; exact sOkF_no p.keys _ _ (by rw [HC.out]; exact h1))
          go_wp2
          go_ret
          exact ⟨by rw [HZ.out]; rfl, HB.out⟩
        · have HG : Hid (∀ b, Op.bytesLess prev.toList cur.toList = b → (b && sOkF p.keys (kn - (j + 1 + 1)) (j + 1 + 1)) = sOkF p.keys kn 0) := by
            intro b hb
            rw [← HS.out]
            exact (sOkF_s p.keys _ j (by rw [HC.out]; exact h1) b (by rw [HP.out, HC.out]; exact hb)).symm
          rcases tri prev cur with ⟨t1, t2, t3, t4⟩ | rfl | ⟨t1, t2, t3, t4⟩
          · have HZ : Hid (sOkF p.keys (kn - (j + 1 + 1)) (j + 1 + 1) = sOkF p.keys kn 0) := by show sOkF p.keys (kn - (j + 1 + 1)) (j + 1 + 1) = sOkF p.keys kn 0; have := HG.out _ t1; simpa using this
            go_wp2
            go_roundw
            case rel => exact ⟨j + 1 + 1, by omega, by go_num, by trivial, HZ⟩
            case measure => simp [intOf]; omega
          · have t1 := less_irrefl prev.toList
            have HZ : Hid (pgOk p = false) := HNO.out (by have := HG.out _ t1; simpa using this.symm)
            go_wp2
            go_ret
            exact ⟨by rw [HZ.out]; rfl, HB.out⟩
          · have HZ : Hid (pgOk p = false) := HNO.out (by have := HG.out _ t1; simpa using this.symm)
            go_wp2
            go_ret
            exact ⟨by rw [HZ.out]; rfl, HB.out⟩
    · have hk' : k = kn := by omega
      have HZ : Hid (sOkF p.keys p.keys.length 0 = true) := by show sOkF p.keys p.keys.length 0 = true; rw [← HNK.out, ← HS.out, hk', Nat.sub_self]; rfl
      clear hk' HS
      by_cases hi0 : jn = 0
      · subst hi0
        have HR : Hid (pgOk p = pgLeaf p) := pgOk_leaf HZ.out HNI.out.symm
        go_wp2_with fail
        go_loopw [42] (fun i v => ∃ k : Nat, k ≤ vn ∧ i = .int .i64 k ∧ v = wr ∧ Hid ((p.vals.take k).all vOk = true)) (fun i _ => vn - (intOf i).toNat)
        case atStart => exact ⟨0, Nat.zero_le _, rfl, rfl, rfl⟩
        case round =>
          obtain ⟨m, hm, rfl, rfl, HT⟩ := hrel
          by_cases hlt2 : m < vn
          · have hlt2' : (m : Int) < (vn : Int) := by omega
            have hml : m < p.vals.length := by rw [← HNV.out]; exact hlt2
            obtain ⟨b, off, ha, -, -, hcell⟩ := P0.out.hv.at (by omega)
            have hcm := hcell m hlt2
            clear hcell
            subst ha
            generalize hcur : sAt p.vals m = cur at hcm
            have HC : Hid (p.vals[m]?.getD ⟨#[]⟩ = cur) := hcur
            clear hcur
            go_wp2_with fail
            refine (specValOk_any cur _).mono ?_
            rintro e w1 ⟨rfl, rfl⟩
            cases h1 : vOk cur
            · have HZ2 : Hid (pgOk p = false) := by
                show pgOk p = false
                rw [HR.out]; exact pgLeaf_no (all_no _ _ ⟨#[]⟩ hml (by rw [HC.out]; exact h1))
              go_wp2
              go_ret
              exact ⟨by rw [HZ2.out]; rfl, HB.out⟩
            · have HT2 : Hid ((p.vals.take (m + 1)).all vOk = true) := by
                show _ = true
                rw [all_take _ _ ⟨#[]⟩ hml, HT.out, HC.out, h1]; rfl
              go_wp2
              go_roundw
              case rel => exact ⟨m + 1, by omega, by go_num, by trivial, HT2⟩
              case measure => simp [intOf]; omega
          · have HA : Hid (p.vals.all vOk = true) := by
              have := HT.out
              rwa [List.take_of_length_le (by rw [← HNV.out]; omega)] at this
            have HR2 : Hid (pgOk p = (decide (1 ≤ kn) && decide (kn ≤ 4) && decide (vn = kn))) := by
              show pgOk p = _
              rw [HR.out, pgLeaf, HA.out, HNK.out, HNV.out]; rfl
            clear HT HA HR
            by_cases q1 : 1 ≤ kn
            · by_cases q2 : kn ≤ 4
              · by_cases q3 : vn = kn
                · have HF : Hid (pgOk p = true) := by show _ = true; rw [HR2.out, decide_eq_true q1, decide_eq_true q2, decide_eq_true q3]; rfl
                  subst q3
                  have q1' : (1 : Int) ≤ (vn : Int) := by omega
                  have q2' : (vn : Int) ≤ 4 := by omega
                  clear HR2
                  go_wp2
                  go_ret
                  exact ⟨by rw [HF.out]; rfl, HB.out⟩
                · have HF : Hid (pgOk p = false) := by show _ = false; rw [HR2.out, decide_eq_false q3]; simp
                  have q1' : (1 : Int) ≤ (kn : Int) := by omega
                  have q2' : (kn : Int) ≤ 4 := by omega
                  have q3' : ((vn : Int) == (kn : Int)) = false := by simp; omega
                  have q4' : ¬ (vn : Int) = (kn : Int) := by omega
                  clear HR2
                  go_wp2
                  go_ret
                  exact ⟨by rw [HF.out]; rfl, HB.out⟩
              · have HF : Hid (pgOk p = false) := by show _ = false; rw [HR2.out, decide_eq_false q2]; simp
                have q1' : (1 : Int) ≤ (kn : Int) := by omega
                have q2' : ¬ (kn : Int) ≤ 4 := by omega
                clear HR2
                go_wp2
                go_ret
                exact ⟨by rw [HF.out]; rfl, HB.out⟩
            · have HF : Hid (pgOk p = false) := by show _ = false; rw [HR2.out, decide_eq_false q1]; simp
              have q1' : ¬ (1 : Int) ≤ (kn : Int) := by omega
              clear HR2
              go_wp2
              go_ret
              exact ⟨by rw [HF.out]; rfl, HB.out⟩
      · have hi0' : ¬ (jn : Int) = 0 := by omega
        have HR : Hid (pgOk p = pgBranch p) := pgOk_branch HZ.out (by rw [← HNI.out]; exact hi0)
        go_wp2_with fail
        go_loopw [72] (fun i v => ∃ k : Nat, k ≤ jn ∧ i = .int .i64 k ∧ v = wr ∧ Hid ((p.kids.take k).all kidOk = true)) (fun i _ => jn - (intOf i).toNat)
        case atStart => exact ⟨0, Nat.zero_le _, rfl, rfl, rfl⟩
        case round =>
          obtain ⟨m, hm, rfl, rfl, HT⟩ := hrel
          by_cases hlt2 : m < jn
          · have hlt2' : (m : Int) < (jn : Int) := by omega
            have hml : m < p.kids.length := by rw [← HNI.out]; exact hlt2
            obtain ⟨b, off, ha, -, -, hcell⟩ := P0.out.hi.at (by omega)
            have hcm := hcell m hlt2
            clear hcell
            subst ha
            generalize hcur : iAt p.kids m = cur at hcm
            have HC : Hid (p.kids[m]?.getD 0 = cur) := hcur
            clear hcur
            by_cases g1 : cur < 2
            · have HZ2 : Hid (pgOk p = false) := by
                show pgOk p = false
                rw [HR.out]; exact pgBranch_no (all_no _ _ 0 hml (by rw [HC.out, kidOk, decide_eq_false (by omega)]; rfl))
              go_wp2
              go_ret
              exact ⟨by rw [HZ2.out]; rfl, HB.out⟩
            · by_cases g2 : 400 ≤ cur
              · have HZ2 : Hid (pgOk p = false) := by
                  show pgOk p = false
                  rw [HR.out]; exact pgBranch_no (all_no _ _ 0 hml (by rw [HC.out, kidOk, decide_eq_false (show ¬ cur < 400 by omega)]; simp))
                go_wp2
                go_ret
                exact ⟨by rw [HZ2.out]; rfl, HB.out⟩
              · have HT2 : Hid ((p.kids.take (m + 1)).all kidOk = true) := by
                  show _ = true
                  rw [all_take _ _ 0 hml, HT.out, HC.out, kidOk, decide_eq_true (by omega), decide_eq_true (by omega)]; rfl
                go_wp2
                go_roundw
                case rel => exact ⟨m + 1, by omega, by go_num, by trivial, HT2⟩
                case measure => simp [intOf]; omega
          · have HA : Hid (p.kids.all kidOk = true) := by
              have := HT.out
              rwa [List.take_of_length_le (by rw [← HNI.out]; omega)] at this
            have HR2 : Hid (pgOk p = (decide (2 ≤ jn) && decide (jn ≤ 4) && decide (kn + 1 = jn) && decide (vn = 0))) := by
              show pgOk p = _
              rw [HR.out, pgBranch, HA.out, HNK.out, HNV.out, HNI.out]; rfl
            clear HT HA HR
            by_cases q1 : 2 ≤ jn
            · by_cases q2 : jn ≤ 4
              · by_cases q3 : kn + 1 = jn
                · by_cases q4 : vn = 0
                  · have HF : Hid (pgOk p = true) := by show _ = true; rw [HR2.out, decide_eq_true q1, decide_eq_true q2, decide_eq_true q3, decide_eq_true q4]; rfl
                    subst q4
                    have q1' : (2 : Int) ≤ (jn : Int) := by omega
                    have q2' : (jn : Int) ≤ 4 := by omega
                    have q3' : (jn : Int) - 1 = (kn : Int) := by omega
                    clear HR2
                    go_wp2
                    go_ret
                    exact ⟨by rw [HF.out]; rfl, HB.out⟩
                  · have HF : Hid (pgOk p = false) := by show _ = false; rw [HR2.out, decide_eq_false q4]; simp
                    have q1' : (2 : Int) ≤ (jn : Int) := by omega
                    have q2' : (jn : Int) ≤ 4 := by omega
                    have q3' : (jn : Int) - 1 = (kn : Int) := by omega
                    have q4' : ¬ (vn : Int) = 0 := by omega
                    have q5' : ((vn : Int) == 0) = false := by simp; omega
                    have q6' : (vn == 0) = false := by simp; omega
                    clear HR2
                    go_wp2
                    go_ret
                    exact ⟨by rw [HF.out]; rfl, HB.out⟩
                · have HF : Hid (pgOk p = false) := by show _ = false; rw [HR2.out, decide_eq_false q3]; simp
                  have q1' : (2 : Int) ≤ (jn : Int) := by omega
                  have q2' : (jn : Int) ≤ 4 := by omega
                  have q3' : ¬ (kn : Int) = (jn : Int) - 1 := by omega
                  have q4' : ((kn : Int) == (jn : Int) - 1) = false := by simp; omega
                  clear HR2
                  go_wp2
                  go_ret
                  exact ⟨by rw [HF.out]; rfl, HB.out⟩
              · have HF : Hid (pgOk p = false) := by show _ = false; rw [HR2.out, decide_eq_false q2]; simp
                have q1' : (2 : Int) ≤ (jn : Int) := by omega
                have q2' : ¬ (jn : Int) ≤ 4 := by omega
                clear HR2
                go_wp2
                go_ret
                exact ⟨by rw [HF.out]; rfl, HB.out⟩
            · have HF : Hid (pgOk p = false) := by show _ = false; rw [HR2.out, decide_eq_false q1]; simp
              have q1' : ¬ (2 : Int) ≤ (jn : Int) := by omega
              clear HR2
              go_wp2
              go_ret
              exact ⟨by rw [HF.out]; rfl, HB.out⟩
end Go.Proofs.YtcpdedpgjaimkaaDoor
/-
  What the law's helper markText does: it answers with one text for each number (for trees: greater numbers).
-/
namespace Go.Proofs.YtcpdedpgjaimkaaDoor
open Go.RowKit
/-- The decimal digits of k ahead of acc. -/
def mtG : Nat → Nat → ByteArray → ByteArray
  | 0, _, acc => acc
  | f + 1, k, acc => if k = 0 then acc else mtG f (k / 10) (strOf [48 + ((k % 10 : Nat) : Int)] ++ acc)
theorem mtG_end (f : Nat) (acc : ByteArray) : mtG f 0 acc = acc := by cases f <;> simp [mtG]
theorem mtG_step (f k : Nat) (acc : ByteArray) (h : 0 < k) : mtG (f + 1) k acc = mtG f (k / 10) (strOf [48 + ((k % 10 : Nat) : Int)] ++ acc) := by
  simp [mtG]; omega
/-- The text for k. -/
def mt (k : Nat) : ByteArray := ⟨#[109]⟩ ++ mtG k k ⟨#[]⟩
end Go.Proofs.YtcpdedpgjaimkaaDoor
/-
  A limb of the program: a pointer to a struct of two slices, its pairs and its kids; which blocks it has for its own.
-/
namespace Go.Proofs.YtcpdedpgjaimkaaDoor
open Go.RowKit

def tAt (ks : List T) (i : Nat) : T := ks[i]?.getD default
def ptr (b : Nat) : Value := .pointer (some ⟨b, 0, none⟩)
def ptrs (A : Nat → Nat) (n : Nat) : List Value := (List.range n).map fun i => ptr (A i)
theorem ptrs_at (A : Nat → Nat) (n i : Nat) (h : i < n) : (ptrs A n)[i]? = some (ptr (A i)) := by simp [ptrs, h]
theorem own_max {w : World} {base : Nat} {e : TypeId} {size : Nat} {v : Value} {n : Nat} {xs : List Value} (h : w.ownsRow base e size v n xs) : n ≤ maxLen := by
  rcases h.2 with ⟨rfl, rfl⟩ | ⟨g, cap, cur, rfl, _, _, h5, h6, _⟩
  · exact Nat.zero_le _
  · exact Nat.le_trans h5 h6
theorem undrew (w : World) (q : Nat) : Below (w.drewN q).heap.size (w.drewN q) w := ⟨rfl, rfl, rfl, Nat.le_refl _, fun _ _ => rfl⟩
def T.bare (t : T) : Bool := decide (t.ps.length + t.ks.length = 0)
/-- The first leaf below has a pair. -/
def T.ne : T → Prop
  | .mk ps [] => ps ≠ []
  | .mk _ (k :: _) => k.ne
def T.dpt (t : T) : Nat := if t.bare = true then 0 else t.lv
end Go.Proofs.YtcpdedpgjaimkaaDoor
/-
  Appending pairs to a row of one's own; the method all: it adds the pairs below a limb.
-/
namespace Go.Proofs.YtcpdedpgjaimkaaDoor
open Go.RowKit

/-- The slice value v owns, from block base on, a row of the pairs l. -/
def Ow (w : World) (base : Nat) (v : Value) (l : List PB) : Prop := w.ownsRow base 91 2 v l.length (pcs l)
theorem Ow.to {w w' : World} {R : Nat → Prop} {base : Nat} {v : Value} {l : List PB} (h : Ow w base v l) (ho : Only R w w') (hR : ∀ k, v.ownBlock = some k → ¬ R k) : Ow w' base v l := own_kept h ho hR
theorem Ow.kept {w w' : World} {base : Nat} {v : Value} {l : List PB} (h : Ow w base v l) (hb : Below w.heap.size w w') : Ow w' base v l := h.to (only_of_below hb (fun _ => False)) (fun _ _ h => h)
theorem Ow.pr {w : World} {base : Nat} {v : Value} {l : List PB} (h : Ow w base v l) {S : Nat → Prop} (hS : ∀ k, v.ownBlock = some k → base ≤ k → k < w.heap.size → S k) : Pr w S v l := rw_own h hS
theorem Ow.shape' {w : World} {base : Nat} {v : Value} {l : List PB} (h : Ow w base v l) : ∃ a n c, v = .slice a n c ∧ Hid (n = l.length) := by
  obtain ⟨a, c, rfl⟩ := own_shape h
  exact ⟨a, _, c, rfl, rfl⟩
theorem Ow.shape {w : World} {base : Nat} {v : Value} {l : List PB} (h : Ow w base v l) : ∃ a c, v = .slice a l.length c := own_shape h
theorem ow_nil (w : World) (base : Nat) : Ow w base (.slice none 0 0) [] := World.ownsRow_nil w base _ _
theorem wpList_append_pairs {w : World} {ops : Array Oper} {rest : List Oper} {o : Oper} {a : Act} {Q : Exit → Act → World → Prop} (hgd : o.guard = none) (s x : Operand)
    (ho : o.op = .call { callee := .builtin .append, args := #[s, x], argTypes := #[84, 84] }) (base : Nat) (v : Value) (l : List PB) (hs : a.eval s = v) (hown : Ow w base v l)
    (S : Nat → Prop) (src : Value) (m : List PB) (hx : a.eval x = src) (hsrc : Pr w S src m) (hb : l.length + m.length ≤ 2097154) (hbase : base ≤ w.heap.size)
    (h : ∀ v' w', Ow w' base v' (l ++ m) → w.grownBy w' v.ownBlock → wpList Tryd.prog ops Q rest (a.put o.dst v') w') : wpList Tryd.prog ops Q (o :: rest) a w := by
  obtain ⟨i, hi, hz, hsz, hby⟩ := info_of infoPairI
  refine wpList_append_row hgd s x 84 ho base 91 i _ 2 32 Tryd.underlying84 hi hz hsz hby rfl (by decide) v l.length (pcs l) hs hown S src m.length (pcs m) hx hsrc (pcs_length m) (pcs_one m) (by unfold maxLen; omega) (by omega) hbase ?_
  intro v' w' h1 h2
  refine h v' w' ?_ h2
  unfold Ow
  rw [List.length_append, pcs_append]
  exact h1
theorem only_of_belowB {B : Nat} {w w' : World} (h : Below B w w') : Only (fun b => B ≤ b) w w' := ⟨h.os, h.tape, h.output, h.size, fun b _ hn => h.block b (by omega)⟩
theorem grown_belowB {w w' : World} {base : Nat} {v : Value} {l : List PB} (h : Ow w base v l) (hg : w.grownBy w' v.ownBlock) (hB : base ≤ w.heap.size) : Below base w w' := (Below.refl _ _).grown hg hB fun k hk => (World.ownsRow.lt h k hk).1
theorem allL_take (ks : List T) (k : Nat) (h : k < ks.length) : allL (ks.take (k + 1)) = allL (ks.take k) ++ (tAt ks k).all := by
  induction ks generalizing k with
  | nil => simp at h
  | cons x ks ih =>
    cases k with
    | zero => simp [allL, tAt]
    | succ k =>
      have := ih k (by simpa using h)
      simp only [List.take_succ_cons, allL, this, List.append_assoc]
      rfl
theorem allL_take_le (ks : List T) (k : Nat) : (allL (ks.take k)).length ≤ (allL ks).length := by
  induction ks generalizing k with
  | nil => simp [allL]
  | cons x ks ih =>
    cases k with
    | zero => simp [allL]
    | succ k =>
      have := ih k
      simp only [List.take_succ_cons, allL, List.length_append]
      omega
end Go.Proofs.YtcpdedpgjaimkaaDoor
/-
  Writing marks into slices: texts into cells of texts, numbers into cells of numbers; nothing else turns.
-/
namespace Go.Proofs.YtcpdedpgjaimkaaDoor
open Go.RowKit
set_option linter.unusedVariables false
def isStr (u : Value) : Prop := ∃ s, u = .string s
def isInt (u : Value) : Prop := ∃ i, u = .int .i64 i
/-- The cell is the same, or both are texts, or both are numbers. -/
def simV (x y : Value) : Prop := x = y ∨ (isStr x ∧ isStr y) ∨ (isInt x ∧ isInt y)
theorem simV.trans {x y z : Value} (h : simV x y) (k : simV y z) : simV x z := by
  rcases h with rfl | ⟨h1, h2⟩ | ⟨h1, h2⟩
  · exact k
  · rcases k with rfl | ⟨k1, k2⟩ | ⟨k1, k2⟩
    · exact .inr (.inl ⟨h1, h2⟩)
    · exact .inr (.inl ⟨h1, k2⟩)
    · obtain ⟨s, rfl⟩ := h2; obtain ⟨i, hi⟩ := k1; cases hi
  · rcases k with rfl | ⟨k1, k2⟩ | ⟨k1, k2⟩
    · exact .inr (.inr ⟨h1, h2⟩)
    · obtain ⟨s, rfl⟩ := h2; obtain ⟨i, hi⟩ := k1; cases hi
    · exact .inr (.inr ⟨h1, k2⟩)
def Kind (K : Value → Prop) : Prop := ∀ x y, K x → simV x y → K y
theorem kind_str : Kind isStr := by
  rintro x y hx (rfl | ⟨_, h⟩ | ⟨h, _⟩)
  · exact hx
  · exact h
  · obtain ⟨s, rfl⟩ := hx; obtain ⟨i, hi⟩ := h; cases hi
theorem kind_int : Kind isInt := by
  rintro x y hx (rfl | ⟨h, _⟩ | ⟨_, h⟩)
  · exact hx
  · obtain ⟨s, rfl⟩ := hx; obtain ⟨i, hi⟩ := h; cases hi
  · exact h
theorem kind_slice (v : Value) (hv : ∃ a n c, v = .slice a n c) : Kind (fun u => u = v) := by
  obtain ⟨a, n, c, rfl⟩ := hv
  rintro x y rfl (rfl | ⟨h, _⟩ | ⟨h, _⟩)
  · rfl
  · obtain ⟨s, hs⟩ := h; cases hs
  · obtain ⟨s, hs⟩ := h; cases hs
/-- From w to w' only rows of S have turned, and of these each cell keeps its kind. -/
structure Mk (S : Nat → Prop) (w w' : World) : Prop where
  only : Only S w w'
  sim : ∀ b T xs, Bk w b T xs → S b → ∃ ys, Bk w' b T ys ∧ ∀ (j : Nat) u, xs[j]? = some u → ∃ u', ys[j]? = some u' ∧ simV u u'
theorem Mk.refl (S : Nat → Prop) (w : World) : Mk S w w := ⟨Only.refl _ _, fun b T xs h _ => ⟨xs, h, fun j u hu => ⟨u, hu, .inl rfl⟩⟩⟩
theorem Mk.trans {S : Nat → Prop} {a b c : World} (h : Mk S a b) (k : Mk S b c) : Mk S a c := by
  refine ⟨h.only.trans k.only, fun g T xs hb hS => ?_⟩
  obtain ⟨ys, h1, h2⟩ := h.sim g T xs hb hS
  obtain ⟨zs, h3, h4⟩ := k.sim g T ys h1 hS
  refine ⟨zs, h3, fun j u hu => ?_⟩
  obtain ⟨u', h5, h6⟩ := h2 j u hu
  obtain ⟨u'', h7, h8⟩ := h4 j u' h5
  exact ⟨u'', h7, h6.trans h8⟩
theorem mk_below {S : Nat → Prop} {w w' : World} (h : Below w.heap.size w w') : Mk S w w' := ⟨only_of_below h S, fun b T xs hb _ => ⟨xs, hb.below h, fun j u hu => ⟨u, hu, .inl rfl⟩⟩⟩
theorem mk_set {S : Nat → Prop} {w : World} {b o : Nat} {T : TypeId} {xs : List Value} {x y : Value} (hb : Bk w b T xs) (hS : S b) (hx : xs[o]? = some x) (hs : simV x y) : Mk S w (w.setCell ⟨b, o, none⟩ y) := by
  refine ⟨only_set hS y, fun g T' zs hg _ => ?_⟩
  by_cases e : g = b
  · subst e
    refine ⟨_, hg.set o y, fun j u hu => ?_⟩
    have hz : some (Obj.cells xs.toArray T (0, 0)) = some (Obj.cells zs.toArray T' (0, 0)) := hb.symm.trans hg
    simp at hz
    obtain ⟨rfl, rfl⟩ := hz
    by_cases ej : j = o
    · subst ej
      rw [hx] at hu
      cases hu
      exact ⟨y, by simp [(List.getElem?_eq_some_iff.1 hx).1], hs⟩
    · exact ⟨u, by rw [List.getElem?_set_ne (Ne.symm ej)]; exact hu, .inl rfl⟩
  · exact ⟨zs, hg.setOther e _ _, fun j u hu => ⟨u, hu, .inl rfl⟩⟩
theorem Uf.bk {w : World} {b : Nat} (h : Uf w b) : ∃ T xs, Bk w b T xs := by
  obtain ⟨xs, T, h⟩ := h
  exact ⟨T, xs.toList, by show _ = _; simpa using h⟩
theorem Mk.uf {S : Nat → Prop} {w w' : World} (m : Mk S w w') {b : Nat} (h : Uf w b) : Uf w' b := by
  obtain ⟨T, xs, hb⟩ := h.bk
  by_cases hS : S b
  · obtain ⟨ys, h1, _⟩ := m.sim b T xs hb hS
    exact h1.uf
  · exact (hb.to m.only hS).uf
theorem bk_cell {w : World} {b o : Nat} {T : TypeId} {xs : List Value} {u : Value} (h : Bk w b T xs) (hc : w.cell? ⟨b, o, none⟩ = some u) : xs[o]? = some u := by
  have h' : w.heap[b]? = some (.cells xs.toArray T (0, 0)) := h
  simpa [World.cell?, h'] using hc
theorem Mk.cell {S : Nat → Prop} {w w' : World} (m : Mk S w w') {b o : Nat} {u : Value} (hu : Uf w b) (hc : w.cell? ⟨b, o, none⟩ = some u) : ∃ u', w'.cell? ⟨b, o, none⟩ = some u' ∧ simV u u' := by
  obtain ⟨T, xs, hb⟩ := hu.bk
  have hx := bk_cell hb hc
  by_cases hS : S b
  · obtain ⟨ys, h1, h2⟩ := m.sim b T xs hb hS
    obtain ⟨u', h3, h4⟩ := h2 o u hx
    exact ⟨u', h1.cell h3, h4⟩
  · exact ⟨u, (hb.to m.only hS).cell hx, .inl rfl⟩
/-- The slice value v leads to n elements of m cells of the kind K, in a row of S that may be written. -/
def Kw (w : World) (S : Nat → Prop) (v : Value) (n m : Nat) (K : Value → Prop) : Prop :=
  ∃ a c, v = .slice a n c ∧ n ≤ c ∧ c ≤ 9223372036854775807 ∧ (0 < n → ∃ b off, a = some ⟨b, off, none⟩ ∧ S b ∧ Uf w b ∧ ∀ j, j < m → ∃ u, w.cell? ⟨b, off + j, none⟩ = some u ∧ K u)
theorem Kw.mk {S S' : Nat → Prop} {w w' : World} {v : Value} {n m : Nat} {K : Value → Prop} (h : Kw w S v n m K) (hm : Mk S' w w') (hK : Kind K) : Kw w' S v n m K := by
  obtain ⟨a, c, h1, h2, h3, h4⟩ := h
  refine ⟨a, c, h1, h2, h3, fun hn => ?_⟩
  obtain ⟨b, off, h5, h6, h7, h8⟩ := h4 hn
  refine ⟨b, off, h5, h6, hm.uf h7, fun j hj => ?_⟩
  obtain ⟨u, h9, h10⟩ := h8 j hj
  obtain ⟨u', h11, h12⟩ := hm.cell h7 h9
  exact ⟨u', h11, hK _ _ h10 h12⟩
theorem kw_of {w : World} {S S' : Nat → Prop} {v : Value} {n : Nat} {xs : List Value} {K : Value → Prop} (h : Rw w S v n xs) (hx : ∀ u ∈ xs, K u) (hS : ∀ b, S b → b < w.heap.size → S' b ∧ Uf w b) : Kw w S' v n xs.length K := by
  obtain ⟨a, c, h1, h2, h3, h4, hn, h5⟩ := h
  refine ⟨a, c, h1, h2, h3, fun hp => ?_⟩
  obtain ⟨b, off, h6, h7, h8, h9⟩ := h5 hp
  refine ⟨b, off, h6, (hS b h8 h7).1, (hS b h8 h7).2, fun j hj => ?_⟩
  exact ⟨xs[j], h9 j _ (by simp [hj]), hx _ (by simp)⟩
/-- Of the m cells from off on the first i are V's. -/
def Mi (w : World) (b off m i : Nat) (V : Nat → Value) (K : Value → Prop) : Prop := ∃ T xs, Bk w b T xs ∧ (∀ j, j < m → ∃ u, xs[off + j]? = some u ∧ K u) ∧ ∀ j, j < i → xs[off + j]? = some (V j)
theorem Mi.start {w : World} {b off m : Nat} {V : Nat → Value} {K : Value → Prop} (hu : Uf w b) (h : ∀ j, j < m → ∃ u, w.cell? ⟨b, off + j, none⟩ = some u ∧ K u) : Mi w b off m 0 V K := by
  obtain ⟨T, xs, hb⟩ := hu.bk
  refine ⟨T, xs, hb, fun j hj => ?_, fun j hj => absurd hj (Nat.not_lt_zero _)⟩
  obtain ⟨u, h1, h2⟩ := h j hj
  exact ⟨u, bk_cell hb h1, h2⟩
theorem Mi.below {w w' : World} {b off m i : Nat} {V : Nat → Value} {K : Value → Prop} (h : Mi w b off m i V K) (hb : Below w.heap.size w w') : Mi w' b off m i V K := by
  obtain ⟨T, xs, h1, h2, h3⟩ := h
  exact ⟨T, xs, h1.below hb, h2, h3⟩
theorem Mi.cell {w : World} {b off m i : Nat} {V : Nat → Value} {K : Value → Prop} (h : Mi w b off m i V K) {j : Nat} (hj : j < m) : (∃ u, w.cell? ⟨b, off + j, none⟩ = some u ∧ K u) ∧ w.frozen? ⟨b, off + j, none⟩ = false := by
  obtain ⟨T, xs, h1, h2, h3⟩ := h
  obtain ⟨u, h4, h5⟩ := h2 j hj
  exact ⟨⟨u, h1.cell h4, h5⟩, h1.free _⟩
theorem Mi.set {w : World} {b off m i : Nat} {V : Nat → Value} {K : Value → Prop} (h : Mi w b off m i V K) {o : Nat} (ho : o = off + i) (hi : i < m) (hK : K (V i)) : Mi (w.setCell ⟨b, o, none⟩ (V i)) b off m (i + 1) V K := by
  subst ho
  obtain ⟨T, xs, h1, h2, h3⟩ := h
  refine ⟨T, _, h1.set _ _, fun j hj => ?_, fun j hj => ?_⟩
  · obtain ⟨u, h4, h5⟩ := h2 j hj
    by_cases e : j = i
    · subst e
      exact ⟨V j, by simp [(List.getElem?_eq_some_iff.1 h4).1], hK⟩
    · exact ⟨u, by rw [List.getElem?_set_ne (by omega)]; exact h4, h5⟩
  · by_cases e : j = i
    · subst e
      obtain ⟨u, h4, _⟩ := h2 j hi
      simp [(List.getElem?_eq_some_iff.1 h4).1]
    · rw [List.getElem?_set_ne (by omega)]
      exact h3 j (by omega)
end Go.Proofs.YtcpdedpgjaimkaaDoor
/-
  Slices of strings and of numbers that lie anywhere in a row of their own: append, the first place written, the first place cut off.
-/
namespace Go.Proofs.YtcpdedpgjaimkaaDoor
open Go.RowKit
/-- The slice has n elements of the kind K, in a row of the type T that may be written. -/
def Fw (v : World) (T : TypeId) (K : Value → Prop) (x : Value) (n : Nat) : Prop :=
  (x = .slice none 0 0 ∧ n = 0) ∨ ∃ b off c cur, x = .slice (some ⟨b, off, none⟩) n c ∧ v.heap[b]? = some (.cells cur T (0, 0)) ∧ n ≤ c ∧ off + c ≤ cur.size ∧ c ≤ 9223372036854775807 ∧ ∀ j, j < n → ∃ u, cur[off + j]? = some u ∧ K u
theorem Fw.shape {v : World} {T : TypeId} {K : Value → Prop} {x : Value} {n : Nat} (h : Fw v T K x n) : ∃ a c, x = .slice a n c ∧ n ≤ c ∧ c ≤ 9223372036854775807 := by
  rcases h with ⟨rfl, rfl⟩ | ⟨b, off, c, cur, rfl, h1, h2, h3, h4, h5⟩
  · exact ⟨none, 0, rfl, Nat.le_refl _, by omega⟩
  · exact ⟨_, c, rfl, h2, h4⟩
theorem Fw.to {v v' : World} {T : TypeId} {K : Value → Prop} {x : Value} {n : Nat} {R : Nat → Prop} (h : Fw v T K x n) (ho : Only R v v') (hR : ∀ y, x.ownBlock = some y → ¬ R y) : Fw v' T K x n := by
  rcases h with ⟨rfl, rfl⟩ | ⟨b, off, c, cur, rfl, h1, h2⟩
  · exact .inl ⟨rfl, rfl⟩
  · exact .inr ⟨b, off, c, cur, rfl, (ho.block b (Array.getElem?_eq_some_iff.1 h1).1 (hR b rfl)).trans h1, h2⟩
theorem Fw.lt {v : World} {T : TypeId} {K : Value → Prop} {x : Value} {n : Nat} (h : Fw v T K x n) {y : Nat} (hy : x.ownBlock = some y) : y < v.heap.size := by
  rcases h with ⟨rfl, rfl⟩ | ⟨b, off, c, cur, rfl, h1, h2⟩
  · cases hy
  · cases hy
    exact (Array.getElem?_eq_some_iff.1 h1).1
theorem fw_own {v : World} {base : Nat} {T : TypeId} {K : Value → Prop} {x : Value} {n : Nat} {xs : List Value} (h : v.ownsRow base T 1 x n xs) (hK : ∀ u ∈ xs, K u) : Fw v T K x n := by
  obtain ⟨hl, h⟩ := h
  rw [Nat.mul_one] at hl
  rcases h with ⟨rfl, rfl⟩ | ⟨g, cap, cur, rfl, h1, h2, h3, h4, h5, h6⟩
  · exact .inl ⟨rfl, rfl⟩
  · rw [Nat.mul_one] at h5 h6
    refine .inr ⟨g, 0, cap, cur, rfl, h2, h3, by omega, by unfold maxLen at h4; omega, fun j hj => ?_⟩
    have e : xs[j]? = cur[j]? := by
      rw [← h6, List.getElem?_take_of_lt hj]
      simp
    have hx : j < xs.length := by omega
    refine ⟨xs[j], ?_, hK _ (List.getElem_mem hx)⟩
    rw [Nat.zero_add, ← e]
    simp [hx]
theorem Fw.cell {v : World} {T : TypeId} {K : Value → Prop} {b off c n : Nat} (h : Fw v T K (.slice (some ⟨b, off, none⟩) n c) n) {j : Nat} (hj : j < n) : ∃ u, v.cell? ⟨b, off + j, none⟩ = some u ∧ K u := by
  rcases h with ⟨e, _⟩ | ⟨b', off', c', cur, e, h1, h2, h3, h4, h5⟩
  · cases e
  · cases e
    obtain ⟨u, h6, h7⟩ := h5 j hj
    exact ⟨u, by simp [World.cell?, h1, h6], h7⟩
/-- The slice's elements, read. -/
theorem Fw.rw {v : World} {T : TypeId} {K : Value → Prop} {x : Value} {n : Nat} (h : Fw v T K x n) : ∃ xs : List Value, xs.length = n ∧ (∀ u ∈ xs, K u) ∧ Rw v (fun y => x.ownBlock = some y) x n xs := by
  rcases h with ⟨rfl, rfl⟩ | ⟨b, off, c, cur, rfl, h1, h2, h3, h4, h5⟩
  · exact ⟨[], rfl, fun u hu => (by cases hu), rw_nil _ _⟩
  · have ex : ∀ j, ∃ u, j < n → cur[off + j]? = some u ∧ K u := by
      intro j
      by_cases hj : j < n
      · obtain ⟨u, hu⟩ := h5 j hj
        exact ⟨u, fun _ => hu⟩
      · exact ⟨undef, fun h => absurd h hj⟩
    obtain ⟨f, hf⟩ := Classical.axiomOfChoice ex
    refine ⟨(List.range n).map f, by simp, fun u hu => ?_, ⟨_, c, rfl, h2, h4, fun e => by subst e; rfl, fun e => (by cases e), fun _ => ⟨b, off, rfl, (Array.getElem?_eq_some_iff.1 h1).1, rfl, fun j u hu => ?_⟩⟩⟩
    · obtain ⟨j, hj, rfl⟩ := List.mem_map.1 hu
      exact (hf j (List.mem_range.1 hj)).2
    · have hj : j < n := by
        have := (List.getElem?_eq_some_iff.1 hu).1
        simpa using this
      simp [hj] at hu
      simp [World.cell?, h1, (hf j hj).1, hu]
/-- An element of the slice is written. -/
theorem Fw.set {v : World} {T : TypeId} {K : Value → Prop} {b off c n : Nat} (h : Fw v T K (.slice (some ⟨b, off, none⟩) n c) n) (j : Nat) {u : Value} (hu : K u) : Fw (v.setCell ⟨b, off + j, none⟩ u) T K (.slice (some ⟨b, off, none⟩) n c) n := by
  rcases h with ⟨e, _⟩ | ⟨b', off', c', cur, e, h1, h2, h3, h4, h5⟩
  · cases e
  · cases e
    refine .inr ⟨b, off, c, cur.setIfInBounds (off + j) u, rfl, ?_, h2, by simpa using h3, h4, fun i hi => ?_⟩
    · simp [World.setCell, Array.getElem?_modify, h1]
    · obtain ⟨z, h6, h7⟩ := h5 i hi
      by_cases e : i = j
      · subst e
        refine ⟨u, ?_, hu⟩
        rw [Array.getElem?_setIfInBounds_self]
        rw [if_pos (by omega)]
      · refine ⟨z, ?_, h7⟩
        rw [Array.getElem?_setIfInBounds_ne (by omega)]
        exact h6
theorem Fw.free {v : World} {T : TypeId} {K : Value → Prop} {b off c n : Nat} (h : Fw v T K (.slice (some ⟨b, off, none⟩) n c) n) (j : Nat) : v.frozen? ⟨b, j, none⟩ = false := by
  rcases h with ⟨e, _⟩ | ⟨b', off', c', cur, e, h1, _⟩
  · cases e
  · cases e
    simp [World.frozen?, h1]
/-- The slice without its first element. -/
theorem Fw.tail {v : World} {T : TypeId} {K : Value → Prop} {b off c n : Nat} (h : Fw v T K (.slice (some ⟨b, off, none⟩) (n + 1) c) (n + 1)) : Fw v T K (.slice (some ⟨b, off + 1, none⟩) n (c - 1)) n := by
  rcases h with ⟨e, _⟩ | ⟨b', off', c', cur, e, h1, h2, h3, h4, h5⟩
  · cases e
  · cases e
    refine .inr ⟨b, off + 1, c - 1, cur, rfl, h1, by omega, by omega, by omega, fun j hj => ?_⟩
    have := h5 (j + 1) (by omega)
    rwa [show off + (j + 1) = off + 1 + j by omega] at this
def FwGot (w : World) (T : TypeId) (K : Value → Prop) (x : Value) (n : Nat) (x' : Value) (w' : World) : Prop := Fw w' T K x' (n + 1) ∧ w.grownBy w' x.ownBlock ∧ (x'.ownBlock = x.ownBlock ∨ ∃ k, x'.ownBlock = some k ∧ w.heap.size ≤ k)
theorem run_append_fw {P : Program} {w : World} (t ty T : TypeId) (z : Value) (bytes : Nat) (ht : P.underlying t = some (.slice T)) (hi : (P.info? T).map (fun i => (i.zero, i.size, i.bytes)) = some (some z, 1, bytes)) (hz1 : z.cells.size = 1) (hby : bytes ≤ 16)
    {K : Value → Prop} {x : Value} {n : Nat} (h : Fw w T K x n) (hn : n ≤ 1048576) (g : Nat) (u : Value) (hu : K u) (hu1 : u.oneCell' = true) (hg : w.cell? ⟨g, 0, none⟩ = some u) :
    ∃ x' w', (Builtin.append_ #[t, t] ty #[x, .slice (some ⟨g, 0, none⟩) 1 1]).run P w = .ok x' w' ∧ FwGot w T K x n x' w' := by
  obtain ⟨i, hii, hz, hsz, hb⟩ := info_of hi
  have hnews : ∀ (j : Nat) (y : Value), [u][j]? = some y → w.cell? ((⟨g, 0, none⟩ : Addr).add j) = some y := by
    intro j y hy
    cases j with
    | zero => simp at hy; subst hy; simpa [Addr.add_lit] using hg
    | succ j => simp at hy
  have h1c : ∀ y ∈ [u], y.oneCell' = true := by intro y hy; simp at hy; subst hy; exact hu1
  have hbb : (n + 1) * bytes ≤ 140737488355328 := Nat.le_trans (Nat.mul_le_mul_left _ hby) (by omega)
  rcases h with ⟨rfl, rfl⟩ | ⟨b, off, c, cur, rfl, k1, k2, k3, k4, k5⟩
  · obtain ⟨x', w', hr, h2, h3, _, h5⟩ := run_append_own_at (P := P) w 0 t ty T i z 1 bytes ht hii hz hsz hb hz1 (by decide) (.slice none 0 0) 0 [] (World.ownsRow_nil w _ T 1) ⟨g, 0, none⟩ 1 1 [u] rfl hnews h1c (by unfold maxLen; omega) (by simpa using hbb) (Nat.zero_le _)
    exact ⟨x', w', hr, fw_own h2 (fun y hy => by simp at hy; subst hy; exact hu), h3, h5.imp id (fun e => ⟨_, e, Nat.le_refl _⟩)⟩
  · by_cases hroom : n + 1 ≤ c
    · have hcell : off + n < cur.size := by omega
      have hr := run_append_room_cells (P := P) w t ty T i ht hii b off n c ⟨g, 0, none⟩ 1 1 [u] (by rw [hsz]; rfl) hnews h1c hroom (fun j hj => by
        have : j = 0 := by simpa using hj
        subst this
        rw [hsz]
        simp [World.cell?, k1, hcell]) (fun j hj => by simp [World.frozen?, k1])
      rw [hsz] at hr
      have e : w.setCells b (off + n * 1) [u] = w.setCell ⟨b, off + n, none⟩ u := by simp [World.setCells]
      rw [e] at hr
      refine ⟨_, _, hr, ?_, ⟨rfl, rfl, rfl, by simp [World.setCell], fun k _ hk => Below.heap_setCell _ _ _ _ (fun e => hk (by rw [e]; rfl))⟩, .inl rfl⟩
      refine .inr ⟨b, off, c, cur.setIfInBounds (off + n) u, rfl, by simp [World.setCell, Array.getElem?_modify, k1], hroom, by simpa using k3, k4, fun j hj => ?_⟩
      by_cases e : j = n
      · subst e
        exact ⟨u, by rw [Array.getElem?_setIfInBounds_self, if_pos hcell], hu⟩
      · obtain ⟨y, h6, h7⟩ := k5 j (by omega)
        exact ⟨y, by rw [Array.getElem?_setIfInBounds_ne (by omega)]; exact h6, h7⟩
    · obtain ⟨xs, hl, hx, a', c', e, r1, r2, r3, r4, r5⟩ := Fw.rw (v := w) (T := T) (K := K) (.inr ⟨b, off, c, cur, rfl, k1, k2, k3, k4, k5⟩)
      cases e
      have holds : ∀ (j : Nat) (y : Value), xs[j]? = some y → w.cell? ((⟨b, off, none⟩ : Addr).add j) = some y := by
        intro j y hy
        have hj : 0 < n := by have := (List.getElem?_eq_some_iff.1 hy).1; omega
        obtain ⟨b', off', e, -, -, hc⟩ := r5 hj
        cases e
        rw [Addr.add_lit]
        exact hc j y hy
      obtain ⟨x', w', hr, h2, h3⟩ := run_append_arg_grows (P := P) w t ty T i z 1 bytes ht hii hz hsz hb hz1 (by decide) ⟨b, off, none⟩ n c xs (by omega) holds ⟨g, 0, none⟩ 1 1 [u] rfl hnews (by omega) (by unfold maxLen; omega) hbb
      refine ⟨x', w', hr, fw_own h2 (fun y hy => by
        rcases List.mem_append.1 hy with h | h
        · exact hx y h
        · simp at h; subst h; exact hu), ⟨h3.os, h3.tape, h3.output, h3.size, fun k hk _ => h3.block k hk (by simp)⟩, ?_⟩
      rcases h2.2 with ⟨_, e⟩ | ⟨g', cap, cur', rfl, hB, _⟩
      · omega
      · exact .inr ⟨g', rfl, hB⟩
theorem wpList_append_fw {P : Program} {w : World} {ops : Array Oper} {rest : List Oper} {o : Oper} {a : Act} {Q : Exit → Act → World → Prop} (hgd : o.guard = none) (s y : Operand) (t T : TypeId)
    (ho : o.op = .call { callee := .builtin .append, args := #[s, y], argTypes := #[t, t] }) (z : Value) (bytes : Nat) (ht : P.underlying t = some (.slice T)) (hi : (P.info? T).map (fun i => (i.zero, i.size, i.bytes)) = some (some z, 1, bytes)) (hz1 : z.cells.size = 1) (hby : bytes ≤ 16)
    {K : Value → Prop} (x : Value) (n : Nat) (hs : a.eval s = x) (h : Fw w T K x n) (hn : n ≤ 1048576) (g : Nat) (u : Value) (hx : a.eval y = .slice (some ⟨g, 0, none⟩) 1 1) (hu : K u) (hu1 : u.oneCell' = true) (hg : w.cell? ⟨g, 0, none⟩ = some u)
    (hk : ∀ a' n' c' w', FwGot w T K x n (.slice a' n' c') w' → wpList P ops Q rest (a.put o.dst (.slice a' n' c')) w') : wpList P ops Q (o :: rest) a w := by
  refine wpList_plain hgd fun K' hK => ?_
  obtain ⟨x', w', hr, h2⟩ := run_append_fw (P := P) (w := w) t o.type T z bytes ht hi hz1 hby h hn g u hu hu1 hg
  obtain ⟨a', c', rfl, _⟩ := h2.1.shape
  unfold Oper.wp execOp
  simp only [ho, resolve, invoke, builtin, Sem.run_bind, Sem.run_pure, Result.andThen_ok, List.map_toArray, List.map_cons, List.map_nil, hs, hx, hr]
  exact hK _ _ (hk a' _ c' w' h2)
theorem step_append_fw {P : Program} {w : World} {ops : Array Oper} {o : Oper} {a : Act} {K' : Act → World → Prop} {Q : Exit → Act → World → Prop} {E : Prop} (hgd : o.guard = none) (s y : Operand) (t T : TypeId)
    (ho : o.op = .call { callee := .builtin .append, args := #[s, y], argTypes := #[t, t] }) (z : Value) (bytes : Nat) (ht : P.underlying t = some (.slice T)) (hi : (P.info? T).map (fun i => (i.zero, i.size, i.bytes)) = some (some z, 1, bytes)) (hz1 : z.cells.size = 1) (hby : bytes ≤ 16)
    {K : Value → Prop} (x : Value) (n : Nat) (hs : a.eval s = x) (h : Fw w T K x n) (hn : n ≤ 1048576) (g : Nat) (u : Value) (hx : a.eval y = .slice (some ⟨g, 0, none⟩) 1 1) (hu : K u) (hu1 : u.oneCell' = true) (hg : w.cell? ⟨g, 0, none⟩ = some u)
    (b0 o0 : Nat) (x0 : Value) (hc0 : w.cell? ⟨b0, o0, none⟩ = some x0) (hf0 : w.frozen? ⟨b0, o0, none⟩ = false) (hne : x.ownBlock ≠ some b0)
    (hk : ∀ a' n' c' w', FwGot w T K x n (.slice a' n' c') w' → w'.cell? ⟨b0, o0, none⟩ = some x0 → w'.frozen? ⟨b0, o0, none⟩ = false → K' (a.put o.dst (.slice a' n' c')) w') :
    if Region.wanted o (yielded ops a.tmps) = true then Oper.wp P o a w K' Q else E := by
  have hw : Region.wanted o (yielded ops a.tmps) = true := by simp [Region.wanted, hgd]
  rw [if_pos hw]
  obtain ⟨x', w', hr, h2⟩ := run_append_fw (P := P) (w := w) t o.type T z bytes ht hi hz1 hby h hn g u hu hu1 hg
  obtain ⟨a', c', rfl, _⟩ := h2.1.shape
  have hbl := h2.2.1.block b0 (block_lt hc0) (fun e => hne e.symm)
  unfold Oper.wp execOp
  simp only [ho, resolve, invoke, builtin, Sem.run_bind, Sem.run_pure, Result.andThen_ok, List.map_toArray, List.map_cons, List.map_nil, hs, hx, hr]
  exact hk a' _ c' w' h2 ((World.cell?_of_block (w := w) (a := ⟨b0, o0, none⟩) hbl).trans hc0) ((World.frozen?_of_block (w := w) (a := ⟨b0, o0, none⟩) hbl).trans hf0)
end Go.Proofs.YtcpdedpgjaimkaaDoor
/-
  As Fw, with what is known of each element by its place: slices that lie anywhere in a row of their own, append, the first place cut off.
-/
namespace Go.Proofs.YtcpdedpgjaimkaaDoor
open Go.RowKit
/-- The slice has n elements of the kind K, in a row of the type T that may be written. -/
def Fx (v : World) (T : TypeId) (K : Nat → Value → Prop) (x : Value) (n : Nat) : Prop :=
  (x = .slice none 0 0 ∧ n = 0) ∨ ∃ b off c cur, x = .slice (some ⟨b, off, none⟩) n c ∧ v.heap[b]? = some (.cells cur T (0, 0)) ∧ n ≤ c ∧ off + c ≤ cur.size ∧ c ≤ 9223372036854775807 ∧ ∀ j, j < n → ∃ u, cur[off + j]? = some u ∧ K j u
theorem Fx.shape {v : World} {T : TypeId} {K : Nat → Value → Prop} {x : Value} {n : Nat} (h : Fx v T K x n) : ∃ a c, x = .slice a n c ∧ n ≤ c ∧ c ≤ 9223372036854775807 := by
  rcases h with ⟨rfl, rfl⟩ | ⟨b, off, c, cur, rfl, h1, h2, h3, h4, h5⟩
  · exact ⟨none, 0, rfl, Nat.le_refl _, by omega⟩
  · exact ⟨_, c, rfl, h2, h4⟩
theorem Fx.to {v v' : World} {T : TypeId} {K : Nat → Value → Prop} {x : Value} {n : Nat} {R : Nat → Prop} (h : Fx v T K x n) (ho : Only R v v') (hR : ∀ y, x.ownBlock = some y → ¬ R y) : Fx v' T K x n := by
  rcases h with ⟨rfl, rfl⟩ | ⟨b, off, c, cur, rfl, h1, h2⟩
  · exact .inl ⟨rfl, rfl⟩
  · exact .inr ⟨b, off, c, cur, rfl, (ho.block b (Array.getElem?_eq_some_iff.1 h1).1 (hR b rfl)).trans h1, h2⟩
theorem Fx.lt {v : World} {T : TypeId} {K : Nat → Value → Prop} {x : Value} {n : Nat} (h : Fx v T K x n) {y : Nat} (hy : x.ownBlock = some y) : y < v.heap.size := by
  rcases h with ⟨rfl, rfl⟩ | ⟨b, off, c, cur, rfl, h1, h2⟩
  · cases hy
  · cases hy
    exact (Array.getElem?_eq_some_iff.1 h1).1
theorem fx_own {v : World} {base : Nat} {T : TypeId} {K : Nat → Value → Prop} {x : Value} {n : Nat} {xs : List Value} (h : v.ownsRow base T 1 x n xs) (hK : ∀ j u, xs[j]? = some u → K j u) : Fx v T K x n := by
  obtain ⟨hl, h⟩ := h
  rw [Nat.mul_one] at hl
  rcases h with ⟨rfl, rfl⟩ | ⟨g, cap, cur, rfl, h1, h2, h3, h4, h5, h6⟩
  · exact .inl ⟨rfl, rfl⟩
  · rw [Nat.mul_one] at h5 h6
    refine .inr ⟨g, 0, cap, cur, rfl, h2, h3, by omega, by unfold maxLen at h4; omega, fun j hj => ?_⟩
    have e : xs[j]? = cur[j]? := by
      rw [← h6, List.getElem?_take_of_lt hj]
      simp
    have hx : j < xs.length := by omega
    refine ⟨xs[j], ?_, hK j _ (by simp [hx])⟩
    rw [Nat.zero_add, ← e]
    simp [hx]
theorem Fx.cell {v : World} {T : TypeId} {K : Nat → Value → Prop} {b off c n : Nat} (h : Fx v T K (.slice (some ⟨b, off, none⟩) n c) n) {j : Nat} (hj : j < n) : ∃ u, v.cell? ⟨b, off + j, none⟩ = some u ∧ K j u := by
  rcases h with ⟨e, _⟩ | ⟨b', off', c', cur, e, h1, h2, h3, h4, h5⟩
  · cases e
  · cases e
    obtain ⟨u, h6, h7⟩ := h5 j hj
    exact ⟨u, by simp [World.cell?, h1, h6], h7⟩
/-- The slice's elements, read. -/
theorem Fx.rw {v : World} {T : TypeId} {K : Nat → Value → Prop} {x : Value} {n : Nat} (h : Fx v T K x n) : ∃ xs : List Value, xs.length = n ∧ (∀ j u, xs[j]? = some u → K j u) ∧ Rw v (fun y => x.ownBlock = some y) x n xs := by
  rcases h with ⟨rfl, rfl⟩ | ⟨b, off, c, cur, rfl, h1, h2, h3, h4, h5⟩
  · exact ⟨[], rfl, fun j u hu => (by simp at hu), rw_nil _ _⟩
  · have ex : ∀ j, ∃ u, j < n → cur[off + j]? = some u ∧ K j u := by
      intro j
      by_cases hj : j < n
      · obtain ⟨u, hu⟩ := h5 j hj
        exact ⟨u, fun _ => hu⟩
      · exact ⟨undef, fun h => absurd h hj⟩
    obtain ⟨f, hf⟩ := Classical.axiomOfChoice ex
    refine ⟨(List.range n).map f, by simp, fun j u hu => ?_, ⟨_, c, rfl, h2, h4, fun e => by subst e; rfl, fun e => (by cases e), fun _ => ⟨b, off, rfl, (Array.getElem?_eq_some_iff.1 h1).1, rfl, fun j u hu => ?_⟩⟩⟩
    · have hj : j < n := by
        have := (List.getElem?_eq_some_iff.1 hu).1
        simpa using this
      simp [hj] at hu
      rw [← hu]
      exact (hf j hj).2
    · have hj : j < n := by
        have := (List.getElem?_eq_some_iff.1 hu).1
        simpa using this
      simp [hj] at hu
      simp [World.cell?, h1, (hf j hj).1, hu]
theorem Fx.free {v : World} {T : TypeId} {K : Nat → Value → Prop} {b off c n : Nat} (h : Fx v T K (.slice (some ⟨b, off, none⟩) n c) n) (j : Nat) : v.frozen? ⟨b, j, none⟩ = false := by
  rcases h with ⟨e, _⟩ | ⟨b', off', c', cur, e, h1, _⟩
  · cases e
  · cases e
    simp [World.frozen?, h1]
/-- The slice without its first element. -/
theorem Fx.tail {v : World} {T : TypeId} {K : Nat → Value → Prop} {b off c n : Nat} (h : Fx v T K (.slice (some ⟨b, off, none⟩) (n + 1) c) (n + 1)) : Fx v T (fun j => K (j + 1)) (.slice (some ⟨b, off + 1, none⟩) n (c - 1)) n := by
  rcases h with ⟨e, _⟩ | ⟨b', off', c', cur, e, h1, h2, h3, h4, h5⟩
  · cases e
  · cases e
    refine .inr ⟨b, off + 1, c - 1, cur, rfl, h1, by omega, by omega, by omega, fun j hj => ?_⟩
    have := h5 (j + 1) (by omega)
    rwa [show off + (j + 1) = off + 1 + j by omega] at this
def FxGot (w : World) (T : TypeId) (K : Nat → Value → Prop) (x : Value) (n : Nat) (x' : Value) (w' : World) : Prop := Fx w' T K x' (n + 1) ∧ w.grownBy w' x.ownBlock ∧ (x'.ownBlock = x.ownBlock ∨ ∃ k, x'.ownBlock = some k ∧ w.heap.size ≤ k)
theorem run_append_fx {P : Program} {w : World} (t ty T : TypeId) (z : Value) (bytes : Nat) (ht : P.underlying t = some (.slice T)) (hi : (P.info? T).map (fun i => (i.zero, i.size, i.bytes)) = some (some z, 1, bytes)) (hz1 : z.cells.size = 1) (hby : bytes ≤ 16)
    {K : Nat → Value → Prop} {x : Value} {n : Nat} (h : Fx w T K x n) (hn : n ≤ 1048576) (g : Nat) (u : Value) (hu : K n u) (hu1 : u.oneCell' = true) (hg : w.cell? ⟨g, 0, none⟩ = some u) :
    ∃ x' w', (Builtin.append_ #[t, t] ty #[x, .slice (some ⟨g, 0, none⟩) 1 1]).run P w = .ok x' w' ∧ FxGot w T K x n x' w' := by
  obtain ⟨i, hii, hz, hsz, hb⟩ := info_of hi
  have hnews : ∀ (j : Nat) (y : Value), [u][j]? = some y → w.cell? ((⟨g, 0, none⟩ : Addr).add j) = some y := by
    intro j y hy
    cases j with
    | zero => simp at hy; subst hy; simpa [Addr.add_lit] using hg
    | succ j => simp at hy
  have h1c : ∀ y ∈ [u], y.oneCell' = true := by intro y hy; simp at hy; subst hy; exact hu1
  have hbb : (n + 1) * bytes ≤ 140737488355328 := Nat.le_trans (Nat.mul_le_mul_left _ hby) (by omega)
  rcases h with ⟨rfl, rfl⟩ | ⟨b, off, c, cur, rfl, k1, k2, k3, k4, k5⟩
  · obtain ⟨x', w', hr, h2, h3, _, h5⟩ := run_append_own_at (P := P) w 0 t ty T i z 1 bytes ht hii hz hsz hb hz1 (by decide) (.slice none 0 0) 0 [] (World.ownsRow_nil w _ T 1) ⟨g, 0, none⟩ 1 1 [u] rfl hnews h1c (by unfold maxLen; omega) (by simpa using hbb) (Nat.zero_le _)
    exact ⟨x', w', hr, fx_own h2 (fun j y hy => by cases j with | zero => (simp at hy; subst hy; exact hu) | succ j => simp at hy), h3, h5.imp id (fun e => ⟨_, e, Nat.le_refl _⟩)⟩
  · by_cases hroom : n + 1 ≤ c
    · have hcell : off + n < cur.size := by omega
      have hr := run_append_room_cells (P := P) w t ty T i ht hii b off n c ⟨g, 0, none⟩ 1 1 [u] (by rw [hsz]; rfl) hnews h1c hroom (fun j hj => by
        have : j = 0 := by simpa using hj
        subst this
        rw [hsz]
        simp [World.cell?, k1, hcell]) (fun j hj => by simp [World.frozen?, k1])
      rw [hsz] at hr
      have e : w.setCells b (off + n * 1) [u] = w.setCell ⟨b, off + n, none⟩ u := by simp [World.setCells]
      rw [e] at hr
      refine ⟨_, _, hr, ?_, ⟨rfl, rfl, rfl, by simp [World.setCell], fun k _ hk => Below.heap_setCell _ _ _ _ (fun e => hk (by rw [e]; rfl))⟩, .inl rfl⟩
      refine .inr ⟨b, off, c, cur.setIfInBounds (off + n) u, rfl, by simp [World.setCell, Array.getElem?_modify, k1], hroom, by simpa using k3, k4, fun j hj => ?_⟩
      by_cases e : j = n
      · subst e
        exact ⟨u, by rw [Array.getElem?_setIfInBounds_self, if_pos hcell], hu⟩
      · obtain ⟨y, h6, h7⟩ := k5 j (by omega)
        exact ⟨y, by rw [Array.getElem?_setIfInBounds_ne (by omega)]; exact h6, h7⟩
    · obtain ⟨xs, hl, hx, a', c', e, r1, r2, r3, r4, r5⟩ := Fx.rw (v := w) (T := T) (K := K) (.inr ⟨b, off, c, cur, rfl, k1, k2, k3, k4, k5⟩)
      cases e
      have holds : ∀ (j : Nat) (y : Value), xs[j]? = some y → w.cell? ((⟨b, off, none⟩ : Addr).add j) = some y := by
        intro j y hy
        have hj : 0 < n := by have := (List.getElem?_eq_some_iff.1 hy).1; omega
        obtain ⟨b', off', e, -, -, hc⟩ := r5 hj
        cases e
        rw [Addr.add_lit]
        exact hc j y hy
      obtain ⟨x', w', hr, h2, h3⟩ := run_append_arg_grows (P := P) w t ty T i z 1 bytes ht hii hz hsz hb hz1 (by decide) ⟨b, off, none⟩ n c xs (by omega) holds ⟨g, 0, none⟩ 1 1 [u] rfl hnews (by omega) (by unfold maxLen; omega) hbb
      refine ⟨x', w', hr, fx_own h2 (fun j y hy => by
        by_cases e : j < xs.length
        · rw [List.getElem?_append_left e] at hy
          exact hx j y hy
        · rw [List.getElem?_append_right (by omega)] at hy
          obtain rfl : j = n := by
            have := (List.getElem?_eq_some_iff.1 hy).1
            simp at this
            omega
          rw [hl, Nat.sub_self] at hy
          simp at hy
          subst hy
          exact hu), ⟨h3.os, h3.tape, h3.output, h3.size, fun k hk _ => h3.block k hk (by simp)⟩, ?_⟩
      rcases h2.2 with ⟨_, e⟩ | ⟨g', cap, cur', rfl, hB, _⟩
      · omega
      · exact .inr ⟨g', rfl, hB⟩
theorem wpList_append_fx {P : Program} {w : World} {ops : Array Oper} {rest : List Oper} {o : Oper} {a : Act} {Q : Exit → Act → World → Prop} (hgd : o.guard = none) (s y : Operand) (t T : TypeId)
    (ho : o.op = .call { callee := .builtin .append, args := #[s, y], argTypes := #[t, t] }) (z : Value) (bytes : Nat) (ht : P.underlying t = some (.slice T)) (hi : (P.info? T).map (fun i => (i.zero, i.size, i.bytes)) = some (some z, 1, bytes)) (hz1 : z.cells.size = 1) (hby : bytes ≤ 16)
    {K : Nat → Value → Prop} (x : Value) (n : Nat) (hs : a.eval s = x) (h : Fx w T K x n) (hn : n ≤ 1048576) (g : Nat) (u : Value) (hx : a.eval y = .slice (some ⟨g, 0, none⟩) 1 1) (hu : K n u) (hu1 : u.oneCell' = true) (hg : w.cell? ⟨g, 0, none⟩ = some u)
    (hk : ∀ a' n' c' w', FxGot w T K x n (.slice a' n' c') w' → wpList P ops Q rest (a.put o.dst (.slice a' n' c')) w') : wpList P ops Q (o :: rest) a w := by
  refine wpList_plain hgd fun K' hK => ?_
  obtain ⟨x', w', hr, h2⟩ := run_append_fx (P := P) (w := w) t o.type T z bytes ht hi hz1 hby h hn g u hu hu1 hg
  obtain ⟨a', c', rfl, _⟩ := h2.1.shape
  unfold Oper.wp execOp
  simp only [ho, resolve, invoke, builtin, Sem.run_bind, Sem.run_pure, Result.andThen_ok, List.map_toArray, List.map_cons, List.map_nil, hs, hx, hr]
  exact hK _ _ (hk a' _ c' w' h2)
theorem step_append_fx {P : Program} {w : World} {ops : Array Oper} {o : Oper} {a : Act} {K' : Act → World → Prop} {Q : Exit → Act → World → Prop} {E : Prop} (hgd : o.guard = none) (s y : Operand) (t T : TypeId)
    (ho : o.op = .call { callee := .builtin .append, args := #[s, y], argTypes := #[t, t] }) (z : Value) (bytes : Nat) (ht : P.underlying t = some (.slice T)) (hi : (P.info? T).map (fun i => (i.zero, i.size, i.bytes)) = some (some z, 1, bytes)) (hz1 : z.cells.size = 1) (hby : bytes ≤ 16)
    {K : Nat → Value → Prop} (x : Value) (n : Nat) (hs : a.eval s = x) (h : Fx w T K x n) (hn : n ≤ 1048576) (g : Nat) (u : Value) (hx : a.eval y = .slice (some ⟨g, 0, none⟩) 1 1) (hu : K n u) (hu1 : u.oneCell' = true) (hg : w.cell? ⟨g, 0, none⟩ = some u)
    (b0 o0 : Nat) (x0 : Value) (hc0 : w.cell? ⟨b0, o0, none⟩ = some x0) (hf0 : w.frozen? ⟨b0, o0, none⟩ = false) (hne : x.ownBlock ≠ some b0)
    (hk : ∀ a' n' c' w', FxGot w T K x n (.slice a' n' c') w' → w'.cell? ⟨b0, o0, none⟩ = some x0 → w'.frozen? ⟨b0, o0, none⟩ = false → K' (a.put o.dst (.slice a' n' c')) w') :
    if Region.wanted o (yielded ops a.tmps) = true then Oper.wp P o a w K' Q else E := by
  have hw : Region.wanted o (yielded ops a.tmps) = true := by simp [Region.wanted, hgd]
  rw [if_pos hw]
  obtain ⟨x', w', hr, h2⟩ := run_append_fx (P := P) (w := w) t o.type T z bytes ht hi hz1 hby h hn g u hu hu1 hg
  obtain ⟨a', c', rfl, _⟩ := h2.1.shape
  have hbl := h2.2.1.block b0 (block_lt hc0) (fun e => hne e.symm)
  unfold Oper.wp execOp
  simp only [ho, resolve, invoke, builtin, Sem.run_bind, Sem.run_pure, Result.andThen_ok, List.map_toArray, List.map_cons, List.map_nil, hs, hx, hr]
  exact hk a' _ c' w' h2 ((World.cell?_of_block (w := w) (a := ⟨b0, o0, none⟩) hbl).trans hc0) ((World.frozen?_of_block (w := w) (a := ⟨b0, o0, none⟩) hbl).trans hf0)
end Go.Proofs.YtcpdedpgjaimkaaDoor
/-
  Pages that are drawn: what is kept at hand.
-/
namespace Go.Proofs.YtcpdedpgjaimkaaDoor
open Go.RowKit
theorem Cu.setP {v : World} {g : Nat} (h : Cu v g) (b o : Nat) (x : Value) (hb : g < b) : Cu (v.setCell ⟨b, o, none⟩ x) g :=
  h.kept (row := some b) ⟨rfl, rfl, rfl, by simp [World.setCell], fun k _ hk => Below.heap_setCell _ _ _ _ (fun e => hk (by rw [e]))⟩ (fun k e => by cases e; exact hb)
/-- The page that is being drawn lies in the box behind the result's; its rows are apart and lie behind it; g is the cursor. -/
structure DP (w v : World) (g : Nat) (kv vv iv : Value) (nk nv ni : Nat) : Prop where
  gr : w.grownBy v (some g)
  cu : Cu v g
  rb : Bk v w.heap.size 69 [.slice none 0 0, .slice none 0 0, .slice none 0 0]
  bk : Bk v (w.heap.size + 1) 69 [kv, vv, iv]
  hk : Fw v 9 isStr kv nk
  hv : Fw v 9 isStr vv nv
  hi : Fw v 3 isInt iv ni
  lo : ∀ y, (kv.ownBlock = some y ∨ vv.ownBlock = some y ∨ iv.ownBlock = some y) → w.heap.size + 1 < y
  ap : ∀ y, (kv.ownBlock = some y → vv.ownBlock ≠ some y ∧ iv.ownBlock ≠ some y) ∧ (vv.ownBlock = some y → iv.ownBlock ≠ some y)
  lt : g < w.heap.size
theorem DP.to {w v v' : World} {g : Nat} {kv vv iv : Value} {nk nv ni : Nat} (h : DP w v g kv vv iv nk nv ni) {R : Nat → Prop} (ho : Only R v v') (hc : Cu v' g) (hR : ∀ y, R y → y ≤ w.heap.size + 1 → y = g) (hk : ∀ y, (kv.ownBlock = some y ∨ vv.ownBlock = some y ∨ iv.ownBlock = some y) → ¬ R y) : DP w v' g kv vv iv nk nv ni := by
  have hlt := h.lt
  have hs := h.gr.size
  refine ⟨⟨ho.os.trans h.gr.os, ho.tape.trans h.gr.tape, ho.output.trans h.gr.output, Nat.le_trans hs ho.size, fun k hk1 hne => ?_⟩, hc, h.rb.to ho (fun hr => by have := hR _ hr (by omega); omega), h.bk.to ho (fun hr => by have := hR _ hr (by omega); omega), h.hk.to ho (fun y e => hk y (.inl e)), h.hv.to ho (fun y e => hk y (.inr (.inl e))), h.hi.to ho (fun y e => hk y (.inr (.inr e))), h.lo, h.ap, hlt⟩
  rw [ho.block k (by omega) (fun hr => hne (by rw [hR k hr (by omega)]))]
  exact h.gr.block k hk1 hne
theorem DP.draw {w v v' : World} {g : Nat} {kv vv iv : Value} {nk nv ni : Nat} (h : DP w v g kv vv iv nk nv ni) (hg : v.grownBy v' (some g)) (hc : Cu v' g) : DP w v' g kv vv iv nk nv ni :=
  h.to (R := fun y => y = g) (only_of_grown hg (fun k e => by cases e; rfl)) hc (fun y e _ => e) (fun y hy e => by have := h.lo y hy; have := h.lt; omega)
theorem DP.below {w v v' : World} {g : Nat} {kv vv iv : Value} {nk nv ni : Nat} (h : DP w v g kv vv iv nk nv ni) (hb : Below v.heap.size v v') : DP w v' g kv vv iv nk nv ni :=
  h.to (R := fun _ => False) (only_of_below hb _) (h.cu.below hb) (fun _ e => e.elim) (fun _ _ e => e)
theorem DP.cells {w v : World} {g : Nat} {kv vv iv : Value} {nk nv ni : Nat} (h : DP w v g kv vv iv nk nv ni) :
    (v.cell? ⟨w.heap.size + 1, 0, none⟩ = some kv ∧ v.cell? ⟨w.heap.size + 1, 1, none⟩ = some vv ∧ v.cell? ⟨w.heap.size + 1, 2, none⟩ = some iv) ∧ (v.frozen? ⟨w.heap.size + 1, 0, none⟩ = false ∧ v.frozen? ⟨w.heap.size + 1, 1, none⟩ = false ∧ v.frozen? ⟨w.heap.size + 1, 2, none⟩ = false) :=
  ⟨⟨h.bk.cell (j := 0) rfl, h.bk.cell (j := 1) rfl, h.bk.cell (j := 2) rfl⟩, h.bk.free 0, h.bk.free 1, h.bk.free 2⟩
theorem DP.rcells {w v : World} {g : Nat} {kv vv iv : Value} {nk nv ni : Nat} (h : DP w v g kv vv iv nk nv ni) :
    (v.cell? ⟨w.heap.size, 0, none⟩ = some (.slice none 0 0) ∧ v.cell? ⟨w.heap.size, 1, none⟩ = some (.slice none 0 0) ∧ v.cell? ⟨w.heap.size, 2, none⟩ = some (.slice none 0 0)) ∧ (v.frozen? ⟨w.heap.size, 0, none⟩ = false ∧ v.frozen? ⟨w.heap.size, 1, none⟩ = false ∧ v.frozen? ⟨w.heap.size, 2, none⟩ = false) :=
  ⟨⟨h.rb.cell (j := 0) rfl, h.rb.cell (j := 1) rfl, h.rb.cell (j := 2) rfl⟩, h.rb.free 0, h.rb.free 1, h.rb.free 2⟩
theorem DP.ne {w v : World} {g : Nat} {kv vv iv : Value} {nk nv ni : Nat} (h : DP w v g kv vv iv nk nv ni) : kv.ownBlock ≠ some (w.heap.size + 1) ∧ vv.ownBlock ≠ some (w.heap.size + 1) ∧ iv.ownBlock ≠ some (w.heap.size + 1) :=
  ⟨fun e => by have := h.lo _ (.inl e); omega, fun e => by have := h.lo _ (.inr (.inl e)); omega, fun e => by have := h.lo _ (.inr (.inr e)); omega⟩
/-- A field of the page turns: others' rows alone are kept. -/
theorem DP.key {w v v1 : World} {g : Nat} {kv vv iv nw : Value} {nk nv ni nk' : Nat} (h : DP w v g kv vv iv nk nv ni) {R : Nat → Prop} (ho : Only R v v1) (hR : ∀ y, R y → w.heap.size + 1 < y ∧ vv.ownBlock ≠ some y ∧ iv.ownBlock ≠ some y) (hc : Cu v1 g)
    (hF : Fw v1 9 isStr nw nk') (hn : ∀ y, nw.ownBlock = some y → w.heap.size + 1 < y ∧ vv.ownBlock ≠ some y ∧ iv.ownBlock ≠ some y) : DP w (v1.setCell ⟨w.heap.size + 1, 0, none⟩ nw) g nw vv iv nk' nv ni := by
  have hlt := h.lt
  have hs := h.gr.size
  have ho2 : Only (fun y => y = w.heap.size + 1) v1 (v1.setCell ⟨w.heap.size + 1, 0, none⟩ nw) := only_set (R := fun y => y = w.heap.size + 1) rfl _
  have hl1 := h.bk.lt
  refine ⟨⟨(ho2.os.trans ho.os).trans h.gr.os, (ho2.tape.trans ho.tape).trans h.gr.tape, (ho2.output.trans ho.output).trans h.gr.output, Nat.le_trans hs (Nat.le_trans ho.size ho2.size), fun k hk1 hne => ?_⟩, hc.setP _ _ _ (by omega), (h.rb.to ho (fun hr => by have := (hR _ hr).1; omega)).setOther (by omega) _ _, (h.bk.to ho (fun hr => by have := (hR _ hr).1; omega)).set 0 nw, hF.to ho2 (fun y e hr => by have := (hn y e).1; omega), (h.hv.to ho (fun y e hr => (hR y hr).2.1 e)).to ho2 (fun y e hr => by have := h.lo y (.inr (.inl e)); omega), (h.hi.to ho (fun y e hr => (hR y hr).2.2 e)).to ho2 (fun y e hr => by have := h.lo y (.inr (.inr e)); omega), ?_, ?_, hlt⟩
  · rw [ho2.block k (by have := ho.size; omega) (by omega), ho.block k (by omega) (fun hr => by have := (hR k hr).1; omega)]
    exact h.gr.block k hk1 hne
  · rintro y (e | e | e)
    · exact (hn y e).1
    · exact h.lo y (.inr (.inl e))
    · exact h.lo y (.inr (.inr e))
  · exact fun y => ⟨fun e => (hn y e).2, (h.ap y).2⟩
theorem DP.val {w v v1 : World} {g : Nat} {kv vv iv nw : Value} {nk nv ni nv' : Nat} (h : DP w v g kv vv iv nk nv ni) {R : Nat → Prop} (ho : Only R v v1) (hR : ∀ y, R y → w.heap.size + 1 < y ∧ kv.ownBlock ≠ some y ∧ iv.ownBlock ≠ some y) (hc : Cu v1 g)
    (hF : Fw v1 9 isStr nw nv') (hn : ∀ y, nw.ownBlock = some y → w.heap.size + 1 < y ∧ kv.ownBlock ≠ some y ∧ iv.ownBlock ≠ some y) : DP w (v1.setCell ⟨w.heap.size + 1, 1, none⟩ nw) g kv nw iv nk nv' ni := by
  have hlt := h.lt
  have hs := h.gr.size
  have ho2 : Only (fun y => y = w.heap.size + 1) v1 (v1.setCell ⟨w.heap.size + 1, 1, none⟩ nw) := only_set (R := fun y => y = w.heap.size + 1) rfl _
  have hl1 := h.bk.lt
  refine ⟨⟨(ho2.os.trans ho.os).trans h.gr.os, (ho2.tape.trans ho.tape).trans h.gr.tape, (ho2.output.trans ho.output).trans h.gr.output, Nat.le_trans hs (Nat.le_trans ho.size ho2.size), fun k hk1 hne => ?_⟩, hc.setP _ _ _ (by omega), (h.rb.to ho (fun hr => by have := (hR _ hr).1; omega)).setOther (by omega) _ _, (h.bk.to ho (fun hr => by have := (hR _ hr).1; omega)).set 1 nw, (h.hk.to ho (fun y e hr => (hR y hr).2.1 e)).to ho2 (fun y e hr => by have := h.lo y (.inl e); omega), hF.to ho2 (fun y e hr => by have := (hn y e).1; omega), (h.hi.to ho (fun y e hr => (hR y hr).2.2 e)).to ho2 (fun y e hr => by have := h.lo y (.inr (.inr e)); omega), ?_, ?_, hlt⟩
  · rw [ho2.block k (by have := ho.size; omega) (by omega), ho.block k (by omega) (fun hr => by have := (hR k hr).1; omega)]
    exact h.gr.block k hk1 hne
  · rintro y (e | e | e)
    · exact h.lo y (.inl e)
    · exact (hn y e).1
    · exact h.lo y (.inr (.inr e))
  · exact fun y => ⟨fun e => ⟨fun e2 => (hn y e2).2.1 e, ((h.ap y).1 e).2⟩, fun e => (hn y e).2.2⟩
theorem DP.kid {w v v1 : World} {g : Nat} {kv vv iv nw : Value} {nk nv ni ni' : Nat} (h : DP w v g kv vv iv nk nv ni) {R : Nat → Prop} (ho : Only R v v1) (hR : ∀ y, R y → w.heap.size + 1 < y ∧ kv.ownBlock ≠ some y ∧ vv.ownBlock ≠ some y) (hc : Cu v1 g)
    (hF : Fw v1 3 isInt nw ni') (hn : ∀ y, nw.ownBlock = some y → w.heap.size + 1 < y ∧ kv.ownBlock ≠ some y ∧ vv.ownBlock ≠ some y) : DP w (v1.setCell ⟨w.heap.size + 1, 2, none⟩ nw) g kv vv nw nk nv ni' := by
  have hlt := h.lt
  have hs := h.gr.size
  have ho2 : Only (fun y => y = w.heap.size + 1) v1 (v1.setCell ⟨w.heap.size + 1, 2, none⟩ nw) := only_set (R := fun y => y = w.heap.size + 1) rfl _
  have hl1 := h.bk.lt
  refine ⟨⟨(ho2.os.trans ho.os).trans h.gr.os, (ho2.tape.trans ho.tape).trans h.gr.tape, (ho2.output.trans ho.output).trans h.gr.output, Nat.le_trans hs (Nat.le_trans ho.size ho2.size), fun k hk1 hne => ?_⟩, hc.setP _ _ _ (by omega), (h.rb.to ho (fun hr => by have := (hR _ hr).1; omega)).setOther (by omega) _ _, (h.bk.to ho (fun hr => by have := (hR _ hr).1; omega)).set 2 nw, (h.hk.to ho (fun y e hr => (hR y hr).2.1 e)).to ho2 (fun y e hr => by have := h.lo y (.inl e); omega), (h.hv.to ho (fun y e hr => (hR y hr).2.2 e)).to ho2 (fun y e hr => by have := h.lo y (.inr (.inl e)); omega), hF.to ho2 (fun y e hr => by have := (hn y e).1; omega), ?_, ?_, hlt⟩
  · rw [ho2.block k (by have := ho.size; omega) (by omega), ho.block k (by omega) (fun hr => by have := (hR k hr).1; omega)]
    exact h.gr.block k hk1 hne
  · rintro y (e | e | e)
    · exact h.lo y (.inl e)
    · exact h.lo y (.inr (.inl e))
    · exact (hn y e).1
  · exact fun y => ⟨fun e => ⟨((h.ap y).1 e).1, fun e2 => (hn y e2).2.1 e⟩, fun e e2 => (hn y e2).2.2 e⟩
theorem DP.ltk {w v : World} {g : Nat} {kv vv iv : Value} {nk nv ni : Nat} (h : DP w v g kv vv iv nk nv ni) : w.heap.size + 1 < v.heap.size := h.bk.lt
/-- append to each of the fields. -/
theorem DP.addK {w v v1 : World} {g : Nat} {kv vv iv nw : Value} {nk nv ni : Nat} (h : DP w v g kv vv iv nk nv ni) (hg : FwGot v 9 isStr kv nk nw v1) : DP w (v1.setCell ⟨w.heap.size + 1, 0, none⟩ nw) g nw vv iv (nk + 1) nv ni := by
  have hlk := h.ltk
  refine h.key (R := fun y => kv.ownBlock = some y) (only_of_grown hg.2.1 (fun k e => e)) (fun y e => ⟨h.lo y (.inl e), ((h.ap y).1 e).1, ((h.ap y).1 e).2⟩) (h.cu.kept hg.2.1 (fun k e => by have := h.lo k (.inl e); have := h.lt; omega)) hg.1 (fun y e => ?_)
  rcases hg.2.2 with e2 | ⟨k, e2, hk⟩
  · rw [e2] at e
    exact ⟨h.lo y (.inl e), (h.ap y).1 e⟩
  · rw [e2] at e
    cases e
    exact ⟨by omega, fun e3 => by have := h.hv.lt e3; omega, fun e3 => by have := h.hi.lt e3; omega⟩
theorem DP.addV {w v v1 : World} {g : Nat} {kv vv iv nw : Value} {nk nv ni : Nat} (h : DP w v g kv vv iv nk nv ni) (hg : FwGot v 9 isStr vv nv nw v1) : DP w (v1.setCell ⟨w.heap.size + 1, 1, none⟩ nw) g kv nw iv nk (nv + 1) ni := by
  have hlk := h.ltk
  refine h.val (R := fun y => vv.ownBlock = some y) (only_of_grown hg.2.1 (fun k e => e)) (fun y e => ⟨h.lo y (.inr (.inl e)), fun e2 => ((h.ap y).1 e2).1 e, (h.ap y).2 e⟩) (h.cu.kept hg.2.1 (fun k e => by have := h.lo k (.inr (.inl e)); have := h.lt; omega)) hg.1 (fun y e => ?_)
  rcases hg.2.2 with e2 | ⟨k, e2, hk⟩
  · rw [e2] at e
    exact ⟨h.lo y (.inr (.inl e)), fun e3 => ((h.ap y).1 e3).1 e, (h.ap y).2 e⟩
  · rw [e2] at e
    cases e
    exact ⟨by omega, fun e3 => by have := h.hk.lt e3; omega, fun e3 => by have := h.hi.lt e3; omega⟩
theorem DP.addI {w v v1 : World} {g : Nat} {kv vv iv nw : Value} {nk nv ni : Nat} (h : DP w v g kv vv iv nk nv ni) (hg : FwGot v 3 isInt iv ni nw v1) : DP w (v1.setCell ⟨w.heap.size + 1, 2, none⟩ nw) g kv vv nw nk nv (ni + 1) := by
  have hlk := h.ltk
  refine h.kid (R := fun y => iv.ownBlock = some y) (only_of_grown hg.2.1 (fun k e => e)) (fun y e => ⟨h.lo y (.inr (.inr e)), fun e2 => ((h.ap y).1 e2).2 e, fun e2 => (h.ap y).2 e2 e⟩) (h.cu.kept hg.2.1 (fun k e => by have := h.lo k (.inr (.inr e)); have := h.lt; omega)) hg.1 (fun y e => ?_)
  rcases hg.2.2 with e2 | ⟨k, e2, hk⟩
  · rw [e2] at e
    exact ⟨h.lo y (.inr (.inr e)), fun e3 => ((h.ap y).1 e3).2 e, fun e3 => (h.ap y).2 e3 e⟩
  · rw [e2] at e
    cases e
    exact ⟨by omega, fun e3 => by have := h.hk.lt e3; omega, fun e3 => by have := h.hv.lt e3; omega⟩
/-- An element of a row is written. -/
theorem DP.poke {w v : World} {g : Nat} {kv vv iv : Value} {nk nv ni : Nat} (h : DP w v g kv vv iv nk nv ni) {b o : Nat} {x : Value} (hb : kv.ownBlock = some b ∨ vv.ownBlock = some b ∨ iv.ownBlock = some b) (h1 : Fw (v.setCell ⟨b, o, none⟩ x) 9 isStr kv nk) (h2 : Fw (v.setCell ⟨b, o, none⟩ x) 9 isStr vv nv) (h3 : Fw (v.setCell ⟨b, o, none⟩ x) 3 isInt iv ni) : DP w (v.setCell ⟨b, o, none⟩ x) g kv vv iv nk nv ni := by
  have hlt := h.lt
  have hbl := h.lo b hb
  have hs := h.gr.size
  have ho : Only (fun y => y = b) v (v.setCell ⟨b, o, none⟩ x) := only_set (R := fun y => y = b) rfl _
  refine ⟨⟨ho.os.trans h.gr.os, ho.tape.trans h.gr.tape, ho.output.trans h.gr.output, Nat.le_trans hs ho.size, fun k hk1 hne => ?_⟩, h.cu.setP _ _ _ (by omega), h.rb.setOther (by omega) _ _, h.bk.setOther (by omega) _ _, h1, h2, h3, h.lo, h.ap, hlt⟩
  rw [ho.block k (by omega) (by omega)]
  exact h.gr.block k hk1 hne
/-- What a draw of pages answers: a page whose rows may be read and written, with at least one key where that is said. -/
def DpP (w : World) (g m : Nat) (e : Ending) (w' : World) : Prop := ∃ (ka : Option Addr) (kn kc : Nat) (va : Option Addr) (vn vc : Nat) (ia : Option Addr) (jn ic : Nat), e = .returned (.agg #[.slice ka kn kc, .slice va vn vc, .slice ia jn ic]) ∧ (m ≤ kn ∧ kn ≤ 100 ∧ vn ≤ 100 ∧ jn ≤ 100) ∧
  w.grownBy w' (some g) ∧ Cu w' g ∧ Fw w' 9 isStr (.slice ka kn kc) kn ∧ Fw w' 9 isStr (.slice va vn vc) vn ∧ Fw w' 3 isInt (.slice ia jn ic) jn ∧
  (∀ y, ((Value.slice ka kn kc).ownBlock = some y ∨ (Value.slice va vn vc).ownBlock = some y ∨ (Value.slice ia jn ic).ownBlock = some y) → w.heap.size + 1 < y) ∧
  (∀ y, ((Value.slice ka kn kc).ownBlock = some y → (Value.slice va vn vc).ownBlock ≠ some y ∧ (Value.slice ia jn ic).ownBlock ≠ some y) ∧ ((Value.slice va vn vc).ownBlock = some y → (Value.slice ia jn ic).ownBlock ≠ some y))
theorem DP.done {w v : World} {g : Nat} {ka : Option Addr} {kn kc : Nat} {va : Option Addr} {vn vc : Nat} {ia : Option Addr} {jn ic m : Nat} (h : DP w v g (.slice ka kn kc) (.slice va vn vc) (.slice ia jn ic) kn vn jn) (hm : m ≤ kn ∧ kn ≤ 100 ∧ vn ≤ 100 ∧ jn ≤ 100) (x y z : Value) :
    DpP w g m (.returned (.agg #[.slice ka kn kc, .slice va vn vc, .slice ia jn ic])) (((v.setCell ⟨w.heap.size, 0, none⟩ x).setCell ⟨w.heap.size, 1, none⟩ y).setCell ⟨w.heap.size, 2, none⟩ z) := by
  have hlt := h.lt
  have hs := h.gr.size
  have ho : Only (fun y => y = w.heap.size) v (((v.setCell ⟨w.heap.size, 0, none⟩ x).setCell ⟨w.heap.size, 1, none⟩ y).setCell ⟨w.heap.size, 2, none⟩ z) :=
    ((only_set (R := fun y => y = w.heap.size) rfl _).trans (only_set (R := fun y => y = w.heap.size) rfl _)).trans (only_set (R := fun y => y = w.heap.size) rfl _)
  refine ⟨ka, kn, kc, va, vn, vc, ia, jn, ic, rfl, hm, ⟨ho.os.trans h.gr.os, ho.tape.trans h.gr.tape, ho.output.trans h.gr.output, Nat.le_trans hs ho.size, fun k hk1 hne => ?_⟩, ((h.cu.setP _ _ _ hlt).setP _ _ _ hlt).setP _ _ _ hlt, h.hk.to ho (fun y e hr => by have := h.lo y (.inl e); omega), h.hv.to ho (fun y e hr => by have := h.lo y (.inr (.inl e)); omega), h.hi.to ho (fun y e hr => by have := h.lo y (.inr (.inr e)); omega), h.lo, h.ap⟩
  rw [ho.block k (by omega) (by omega)]
  exact h.gr.block k hk1 hne
end Go.Proofs.YtcpdedpgjaimkaaDoor
