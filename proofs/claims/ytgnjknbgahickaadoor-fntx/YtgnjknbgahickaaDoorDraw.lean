/-
  The draws of the laws' inputs, as far as the laws turn on them: each ends, touches nothing but its own cursor, and answers within bounds.
-/
import Derived.Test.YtgnjknbgahickaaDoorApp
import Derived.Test.YtgnjknbgahickaaDoorPlain
namespace Go.Proofs.YtgnjknbgahickaaDoor
open Go.RowKit

/-- Block g is a cursor over some bytes. -/
def Cu (w : World) (g : Nat) : Prop :=
  ∃ a n c zs i h, w.cell? ⟨g, 0, none⟩ = some (.slice a n c) ∧ w.cell? ⟨g, 1, none⟩ = some (.int .i64 (i : Nat)) ∧ w.cell? ⟨g, 2, none⟩ = some (.int .i64 h) ∧
    w.frozen? ⟨g, 1, none⟩ = false ∧ w.frozen? ⟨g, 2, none⟩ = false ∧ Rd w a n c zs ∧ n ≤ 1048576 ∧ (∀ x, a = some x → 0 < n → x.block < g) ∧ i ≤ n
theorem and255 (x : Int) : 0 ≤ bits .and .i64 x 255 ∧ bits .and .i64 x 255 ≤ 255 := by
  have h : ((BitVec.ofInt 64 x) &&& (BitVec.ofInt 64 255)).toNat ≤ 255 := by
    rw [BitVec.toNat_and]
    exact Nat.le_trans Nat.and_le_right (by decide)
  have e : bits .and .i64 x 255 = IntKind.i64.wrap (((BitVec.ofInt 64 x) &&& (BitVec.ofInt 64 255)).toNat : Int) := rfl
  rw [e]
  generalize ((BitVec.ofInt 64 x) &&& (BitVec.ofInt 64 255)).toNat = m at h
  have : IntKind.i64.wrap (m : Int) = m := by simp [IntKind.wrap, IntKind.signed, IntKind.bits]; omega
  omega
theorem Cu.lt {w : World} {g : Nat} (h : Cu w g) : g < w.heap.size := by
  obtain ⟨a, n, c, zs, i, h, c0, _⟩ := h
  exact block_lt c0
/-- A cursor keeps in a world that has kept its block and all that lies below. -/
theorem Cu.kept {w w' : World} {g : Nat} {row : Option Nat} (h : Cu w g) (hg : w.grownBy w' row) (hr : ∀ k, row = some k → g < k) : Cu w' g := by
  have hlt := h.lt
  obtain ⟨a, n, c, zs, i, h, c0, c1, c2, f1, f2, hrd, hn, hag, hin⟩ := h
  have hne : some g ≠ row := fun e => by have := hr g e.symm; omega
  have hb := hg.block g hlt hne
  refine ⟨a, n, c, zs, i, h, ?_, ?_, ?_, ?_, ?_, ?_, hn, hag, hin⟩
  · rw [World.cell?_of_block (w := w) (a := ⟨g, 0, none⟩) hb]; exact c0
  · rw [World.cell?_of_block (w := w) (a := ⟨g, 1, none⟩) hb]; exact c1
  · rw [World.cell?_of_block (w := w) (a := ⟨g, 2, none⟩) hb]; exact c2
  · rw [World.frozen?_of_block (w := w) (a := ⟨g, 1, none⟩) hb]; exact f1
  · rw [World.frozen?_of_block (w := w) (a := ⟨g, 2, none⟩) hb]; exact f2
  · obtain ⟨h1, h2, h3, h30, h4, h5⟩ := hrd
    refine ⟨h1, h2, h3, h30, h4, fun hp => ?_⟩
    obtain ⟨b, off, rfl, hb, hc⟩ := h5 hp
    refine ⟨b, off, rfl, Nat.lt_of_lt_of_le hb hg.size, fun i hi => ?_⟩
    rw [World.cell?_of_block (w := w) (a := ⟨b, off + i, none⟩) (hg.block b hb (fun e => by have := hr b e.symm; have := hag _ rfl hp; simp at this; omega))]
    exact hc i hi
theorem grownBy_same (w : World) (row : Option Nat) : w.grownBy w row := ⟨rfl, rfl, rfl, Nat.le_refl _, fun _ _ _ => rfl⟩
theorem grownBy_set {w w' : World} {b : Nat} (h : w.grownBy w' (some b)) (o : Nat) (v : Value) : w.grownBy (w'.setCell ⟨b, o, none⟩ v) (some b) :=
  ⟨h.os, h.tape, h.output, by simp [World.setCell]; exact h.size, fun k hk hne => by rw [Below.heap_setCell _ _ _ _ (fun e => hne (by rw [e]))]; exact h.block k hk hne⟩
theorem grownBy_drewN {w w' : World} {row : Option Nat} (h : w.grownBy w' row) (q : Nat) : w.grownBy (w'.drewN q) row := ⟨h.os, h.tape, h.output, h.size, h.block⟩
theorem grownBy_trans {w w1 w2 : World} {row : Option Nat} (h : w.grownBy w1 row) (h2 : w1.grownBy w2 row) : w.grownBy w2 row :=
  ⟨h2.os.trans h.os, h2.tape.trans h.tape, h2.output.trans h.output, Nat.le_trans h.size h2.size, fun k hk hne => (h2.block k (Nat.lt_of_lt_of_le hk h.size) hne).trans (h.block k hk hne)⟩
/-- The numbers of a cursor may change. -/
theorem cu_set {w : World} {g n c i i' : Nat} {a : Option Addr} {zs : List Int} {h h' : Int} (c0 : w.cell? ⟨g, 0, none⟩ = some (.slice a n c)) (c1 : w.cell? ⟨g, 1, none⟩ = some (.int .i64 (i : Nat))) (c2 : w.cell? ⟨g, 2, none⟩ = some (.int .i64 h))
    (f1 : w.frozen? ⟨g, 1, none⟩ = false) (f2 : w.frozen? ⟨g, 2, none⟩ = false) (hr : Rd w a n c zs) (hn : n ≤ 1048576) (hag : ∀ x, a = some x → 0 < n → x.block < g) (hin : i ≤ n) (o : Nat) (v : Value)
    (hv : (o = 1 ∧ v = .int .i64 (i' : Nat) ∧ i' ≤ n) ∨ (o = 2 ∧ v = .int .i64 h')) : Cu (w.setCell ⟨g, o, none⟩ v) g := by
  have hrd : Rd (w.setCell ⟨g, o, none⟩ v) a n c zs := by
    obtain ⟨h1, h2, h3, h30, h4, h5⟩ := hr
    refine ⟨h1, h2, h3, h30, h4, fun hp => ?_⟩
    obtain ⟨b, off, rfl, hb, hc⟩ := h5 hp
    have := hag _ rfl hp
    simp at this
    refine ⟨b, off, rfl, by simpa [World.setCell] using hb, fun i hi => ?_⟩
    rw [World.cell?_setCell_other (h := by simp only [ne_eq, Addr.mk.injEq, not_and]; intro h; omega)]
    exact hc i hi
  rcases hv with ⟨rfl, rfl, hi'⟩ | ⟨rfl, rfl⟩
  · refine ⟨a, n, c, zs, i', h, ?_, World.cell?_setCell_same _ _ _ c1, ?_, by simp [f1], by simp [f2], hrd, hn, hag, hi'⟩
    · rw [World.cell?_setCell_other (h := by simp)]; exact c0
    · rw [World.cell?_setCell_other (h := by simp)]; exact c2
  · refine ⟨a, n, c, zs, i, h', ?_, ?_, World.cell?_setCell_same _ _ _ c2, by simp [f1], by simp [f2], hrd, hn, hag, hin⟩
    · rw [World.cell?_setCell_other (h := by simp)]; exact c0
    · rw [World.cell?_setCell_other (h := by simp)]; exact c1
theorem grownBy_alloc (w : World) (o : Obj) (row : Option Nat) : w.grownBy (w.alloc o) row :=
  ⟨rfl, rfl, rfl, by simp, fun k hk _ => heap_alloc_old w o hk⟩
theorem Cu.alloc {w : World} {g : Nat} (h : Cu w g) (o : Obj) : Cu (w.alloc o) g := h.kept (grownBy_alloc w o none) (fun k e => by cases e)
theorem row_kept {w w' : World} {g b k : Nat} (h : w.grownBy w' (some g)) (hb : b < w.heap.size) (hne : b ≠ g) : w'.cell? ⟨b, k, none⟩ = w.cell? ⟨b, k, none⟩ :=
  World.cell?_of_block (w := w) (a := ⟨b, k, none⟩) (h.block b hb (fun e => hne (by cases e; rfl)))
theorem below_of_grown {w w' : World} {g : Nat} (h : w.grownBy w' (some g)) (hg : g < w.heap.size) : Below g w w' :=
  ⟨h.os, h.tape, h.output, h.size, fun k hk => h.block k (by omega) (fun e => by cases e; omega)⟩
theorem Cu.drewN {w : World} {g : Nat} (h : Cu w g) (q : Nat) : Cu (w.drewN q) g := h

set_option maxHeartbeats 800000 in
theorem byte_any (g : Nat) (w : World) (h : Cu w g) :
    Calls Tryd.prog 42 #[.pointer (some ⟨g, 0, none⟩)] w fun e w' => (∃ x : Int, e = .returned (.int .i64 x) ∧ 0 ≤ x ∧ x ≤ 255) ∧ w.grownBy w' (some g) ∧ Cu w' g := by
  obtain ⟨a, n, c, zs, i, h, c0, c1, c2, f1, f2, hr, hn, hag, hin⟩ := h
  have HS := hid (fun h' => cu_set (i' := 0) (h' := h') c0 c1 c2 f1 f2 hr hn hag hin 2 _ (.inr ⟨rfl, rfl⟩))
  have HR := hid hr
  have HA := hid hag
  clear hr hag
  have HF : Hid (∀ h' : Int, w.grownBy (w.setCell ⟨g, 2, none⟩ (.int .i64 h')) (some g)) := fun h' => grownBy_set (grownBy_same w (some g)) 2 _
  by_cases hlt : i < n
  · have hlt' : (i : Int) < (n : Int) := by omega
    obtain ⟨b, off, ha, hbw, hcell⟩ := HR.out.2.2.2.2.2 (by omega)
    have hci := hcell i hlt
    have hb0 := (HR.out.2.2.2.2.1 i).1
    have hb1 := (HR.out.2.2.2.2.1 i).2
    have hbg : b < g := HA.out _ ha (by omega)
    clear hcell
    subst ha
    go_enter Tryd.func42, Tryd.ntmps42
    go_wp2
    generalize wrap64 (wrap64 (h * 6364136223846793005) + 1442695040888963407) = h2
    have d0 : (w.setCell ⟨g, 2, none⟩ (.int .i64 h2)).cell? ⟨g, 0, none⟩ = some (.slice (some ⟨b, off, none⟩) n c) := by rw [World.cell?_setCell_other (h := by simp)]; exact c0
    have d1 : (w.setCell ⟨g, 2, none⟩ (.int .i64 h2)).cell? ⟨g, 1, none⟩ = some (.int .i64 (i : Int)) := by rw [World.cell?_setCell_other (h := by simp)]; exact c1
    have d2 : (w.setCell ⟨g, 2, none⟩ (.int .i64 h2)).cell? ⟨g, 2, none⟩ = some (.int .i64 h2) := World.cell?_setCell_same _ _ _ c2
    have di : (w.setCell ⟨g, 2, none⟩ (.int .i64 h2)).cell? ⟨b, off + i, none⟩ = some (.int .u8 (zs[i]?.getD 0)) := by rw [World.cell?_setCell_other (h := by simp only [ne_eq, Addr.mk.injEq, not_and]; intro h; omega)]; exact hci
    have e1 : (w.setCell ⟨g, 2, none⟩ (.int .i64 h2)).frozen? ⟨g, 1, none⟩ = false := by simpa using f1
    have HS2 := hid (HS.out h2)
    have HF2 := hid (HF.out h2)
    generalize w.setCell ⟨g, 2, none⟩ (.int .i64 h2) = w1 at d0 d1 d2 di e1 HS2 HF2
    have HC : Hid (Cu (w1.setCell ⟨g, 1, none⟩ (.int .i64 ((i : Int) + 1))) g) := by
      obtain ⟨a', n', c', zs', i', h', c0', c1', c2', f1', f2', hr', hn', hag', hin'⟩ := HS2.out
      rw [d0] at c0'
      cases c0'
      exact cu_set (i' := i + 1) (h' := 0) d0 d1 c2' f1' f2' hr' hn' hag' hin 1 _ (.inl ⟨rfl, by simp, by omega⟩)
    have HF3 : Hid (w.grownBy (w1.setCell ⟨g, 1, none⟩ (.int .i64 ((i : Int) + 1))) (some g)) := grownBy_set HF2.out 1 _
    clear c0 c1 c2 hci f1 f2
    go_quiet (fail)
    go_wp2
    generalize hy : bits .and .i64 _ 255 = y
    have hy0 : 0 ≤ y := by rw [← hy]; exact (and255 _).1
    have hy1 : y ≤ 255 := by rw [← hy]; exact (and255 _).2
    clear hy
    go_quiet (fail)
    go_wp2
    go_quiet (fail)
    go_wp2
    go_ret
    exact ⟨⟨_, rfl, (and255 _).1, (and255 _).2⟩, grownBy_set (grownBy_drewN HF2.out _) 1 _, HC.out.drewN _⟩
  · have hlt' : ¬ (i : Int) < (n : Int) := by omega
    go_enter Tryd.func42, Tryd.ntmps42
    go_wp2
    go_quiet (fail)
    go_wp2
    go_quiet (fail)
    go_wp2
    go_ret
    refine ⟨⟨_, rfl, (and255 _).1, (and255 _).2⟩, grownBy_drewN (grownBy_drewN ?_ _) _, Cu.drewN (Cu.drewN ?_ _) _⟩
    · exact HF.out _
    · exact HS.out _

set_option maxHeartbeats 800000 in
theorem below_any (g : Nat) (m : Int) (w : World) (h : Cu w g) (hm1 : 1 ≤ m) (hm2 : m ≤ 1048576) :
    Calls Tryd.prog 24 #[.pointer (some ⟨g, 0, none⟩), .int .i64 m] w fun e w' => (∃ x : Int, e = .returned (.int .i64 x) ∧ 0 ≤ x ∧ x < m) ∧ w.grownBy w' (some g) ∧ Cu w' g := by
  have HC := hid h
  clear h
  by_cases hs : m ≤ 256
  · go_enter Tryd.func24, Tryd.ntmps24
    go_wp2_with fail
    refine (byte_any g w HC.out).mono ?_
    rintro e w1 ⟨⟨x, rfl, hx0, hx1⟩, hg1, hc1⟩
    have HG := hid hg1
    have HC1 := hid hc1
    clear hg1 hc1
    go_wp2
    go_ret
    refine ⟨⟨_, rfl, ?_, ?_⟩, HG.out, HC1.out⟩
    · exact Int.emod_nonneg _ (by omega)
    · exact Int.emod_lt_of_pos _ (by omega)
  · go_enter Tryd.func24, Tryd.ntmps24
    go_wp2_with fail
    refine (byte_any g w HC.out).mono ?_
    rintro e w1 ⟨⟨x, rfl, hx0, hx1⟩, hg1, hc1⟩
    have HG1 := hid hg1
    have HC1 := hid hc1
    clear hg1 hc1
    go_wp2_with fail
    refine (byte_any g w1 HC1.out).mono ?_
    rintro e w2 ⟨⟨y, rfl, hy0, hy1⟩, hg1, hc1⟩
    have HG2 := hid (grownBy_trans HG1.out hg1)
    have HC2 := hid hc1
    clear hg1 hc1
    go_wp2_with fail
    refine (byte_any g w2 HC2.out).mono ?_
    rintro e w3 ⟨⟨z, rfl, hz0, hz1⟩, hg1, hc1⟩
    have HG3 := hid (grownBy_trans HG2.out hg1)
    have HC3 := hid hc1
    clear hg1 hc1
    go_wp2_with fail
    refine (byte_any g w3 HC3.out).mono ?_
    rintro e w4 ⟨⟨u, rfl, hu0, hu1⟩, hg1, hc1⟩
    have HG4 := hid (grownBy_trans HG3.out hg1)
    have HC4 := hid hc1
    clear hg1 hc1
    go_wp2
    go_ret
    refine ⟨⟨_, rfl, ?_, ?_⟩, HG4.out, HC4.out⟩
    · exact Int.emod_nonneg _ (by omega)
    · exact Int.emod_lt_of_pos _ (by omega)

set_option maxHeartbeats 1600000 in
theorem raw_any (g : Nat) (w : World) (h : Cu w g) :
    Calls Tryd.prog 30 #[.pointer (some ⟨g, 0, none⟩)] w fun e w' => (∃ x : Int, e = .returned (.int .i64 x) ∧ -9223372036854775808 ≤ x ∧ x ≤ 9223372036854775807) ∧ w.grownBy w' (some g) := by
  have HC := hid h
  clear h
  go_enter Tryd.func30, Tryd.ntmps30
  go_wp2_with fail
  refine (below_any g 10 w HC.out (by omega) (by omega)).mono ?_
  rintro e w1 ⟨⟨k, rfl, hk0, hk1⟩, hg1, hc1⟩
  have HG1 := hid hg1
  have HC1 := hid hc1
  clear hg1 hc1
  rcases (by omega : k < 4 ∨ k = 4 ∨ k = 5 ∨ k = 6 ∨ k = 7 ∨ k = 8 ∨ k = 9) with h | rfl | rfl | rfl | rfl | rfl | rfl
  · go_wp2_with fail
    refine (below_any g 20 w1 HC1.out (by omega) (by omega)).mono ?_
    rintro e w2 ⟨⟨x, rfl, hx0, hx1⟩, hg1, hc1⟩
    have HG2 := hid (grownBy_trans HG1.out hg1)
    clear hg1 hc1
    go_wp2
    go_ret
    exact ⟨⟨_, rfl, by omega, by omega⟩, HG2.out⟩
  · go_wp2_with fail
    refine (below_any g 3 w1 HC1.out (by omega) (by omega)).mono ?_
    rintro e w2 ⟨⟨x, rfl, hx0, hx1⟩, hg1, hc1⟩
    have HG2 := hid (grownBy_trans HG1.out hg1)
    clear hg1 hc1
    go_wp2
    go_ret
    exact ⟨⟨_, rfl, by omega, by omega⟩, HG2.out⟩
  · go_wp2_with fail
    refine (below_any g 2 w1 HC1.out (by omega) (by omega)).mono ?_
    rintro e w2 ⟨⟨x, rfl, hx0, hx1⟩, hg1, hc1⟩
    have HG2 := hid (grownBy_trans HG1.out hg1)
    clear hg1 hc1
    go_wp2
    go_ret
    exact ⟨⟨_, rfl, by omega, by omega⟩, HG2.out⟩
  · go_wp2_with fail
    refine (below_any g 2 w1 HC1.out (by omega) (by omega)).mono ?_
    rintro e w2 ⟨⟨x, rfl, hx0, hx1⟩, hg1, hc1⟩
    have HG2 := hid (grownBy_trans HG1.out hg1)
    clear hg1 hc1
    go_wp2
    go_ret
    exact ⟨⟨_, rfl, by omega, by omega⟩, HG2.out⟩
  · go_wp2_with fail
    refine (below_any g 2 w1 HC1.out (by omega) (by omega)).mono ?_
    rintro e w2 ⟨⟨x, rfl, hx0, hx1⟩, hg1, hc1⟩
    have HG2 := hid (grownBy_trans HG1.out hg1)
    clear hg1 hc1
    go_wp2
    go_ret
    exact ⟨⟨_, rfl, by omega, by omega⟩, HG2.out⟩
  · go_wp2_with fail
    have hgl : w1.grownBy (w1.alloc (.cells #[.int .i64 127, .int .i64 128, .int .i64 16383, .int .i64 16384, .int .i64 255, .int .i64 256, .int .i64 4096, .int .i64 4097] 3)) (some g) := grownBy_alloc w1 _ _
    have HGL := hid hgl
    clear hgl
    refine (below_any g 8 _ (HC1.out.alloc _) (by omega) (by omega)).mono ?_
    rintro e w2 ⟨⟨x, rfl, hx0, hx1⟩, hg1, hc1⟩
    have HG2 := hid (grownBy_trans (grownBy_trans HG1.out HGL.out) hg1)
    have hcl := fun k => row_kept (b := w1.heap.size) (k := k) hg1 (by simp) (by have := HC1.out.lt; omega)
    clear hg1 hc1
    rcases (by omega : x = 0 ∨ x = 1 ∨ x = 2 ∨ x = 3 ∨ x = 4 ∨ x = 5 ∨ x = 6 ∨ x = 7) with rfl | rfl | rfl | rfl | rfl | rfl | rfl | rfl
    · have hc := (hcl 0).trans (by rw [World.cell?_alloc_at (hn := rfl)])
      clear hcl
      go_wp2
      go_ret
      exact ⟨⟨_, rfl, by omega, by omega⟩, HG2.out⟩
    · have hc := (hcl 1).trans (by rw [World.cell?_alloc_at (hn := rfl)])
      clear hcl
      go_wp2
      go_ret
      exact ⟨⟨_, rfl, by omega, by omega⟩, HG2.out⟩
    · have hc := (hcl 2).trans (by rw [World.cell?_alloc_at (hn := rfl)])
      clear hcl
      go_wp2
      go_ret
      exact ⟨⟨_, rfl, by omega, by omega⟩, HG2.out⟩
    · have hc := (hcl 3).trans (by rw [World.cell?_alloc_at (hn := rfl)])
      clear hcl
      go_wp2
      go_ret
      exact ⟨⟨_, rfl, by omega, by omega⟩, HG2.out⟩
    · have hc := (hcl 4).trans (by rw [World.cell?_alloc_at (hn := rfl)])
      clear hcl
      go_wp2
      go_ret
      exact ⟨⟨_, rfl, by omega, by omega⟩, HG2.out⟩
    · have hc := (hcl 5).trans (by rw [World.cell?_alloc_at (hn := rfl)])
      clear hcl
      go_wp2
      go_ret
      exact ⟨⟨_, rfl, by omega, by omega⟩, HG2.out⟩
    · have hc := (hcl 6).trans (by rw [World.cell?_alloc_at (hn := rfl)])
      clear hcl
      go_wp2
      go_ret
      exact ⟨⟨_, rfl, by omega, by omega⟩, HG2.out⟩
    · have hc := (hcl 7).trans (by rw [World.cell?_alloc_at (hn := rfl)])
      clear hcl
      go_wp2
      go_ret
      exact ⟨⟨_, rfl, by omega, by omega⟩, HG2.out⟩
  · go_wp2_with fail
    refine (below_any g 65536 w1 HC1.out (by omega) (by omega)).mono ?_
    rintro e w2 ⟨⟨x, rfl, hx0, hx1⟩, hg1, hc1⟩
    have HG2 := hid (grownBy_trans HG1.out hg1)
    clear hg1 hc1
    go_wp2
    go_ret
    exact ⟨⟨_, rfl, by omega, by omega⟩, HG2.out⟩

/-- A row keeps where another block is touched. -/
theorem Ob.kept {w w' : World} {B g : Nat} {v : Value} {zs : List Int} (h : Ob w B v zs) (hg : w.grownBy w' (some g)) (hB : g < B) : Ob w' B v zs := by
  have hlt := fun k hk => World.ownsRow.lt h k hk
  obtain ⟨h1, h2⟩ := h
  refine ⟨h1, ?_⟩
  rcases h2 with h | ⟨k, cap, cur, rfl, hbg, hk, hr⟩
  · exact .inl h
  · refine .inr ⟨k, cap, cur, rfl, hbg, ?_, hr⟩
    have := (hlt k rfl).2
    rw [hg.block k this (fun e => by cases e; omega)]
    exact hk
/-- What append onto a new row leaves of what was there. -/
theorem grown_append {w w1 w2 : World} {g : Nat} {v : Value} {zs : List Int} (h : w.grownBy w1 (some g)) (ho : Ob w1 w.heap.size v zs) (h2 : w1.grownBy w2 v.ownBlock) : w.grownBy w2 (some g) := by
  refine ⟨h2.os.trans h.os, h2.tape.trans h.tape, h2.output.trans h.output, Nat.le_trans h.size h2.size, fun k hk hne => ?_⟩
  rw [h2.block k (Nat.lt_of_lt_of_le hk h.size) (fun e => by have := (World.ownsRow.lt ho k e.symm).1; omega)]
  exact h.block k hk hne

theorem new_any (a : Option Addr) (n c : Nat) (zs : List Int) (w : World) (h : Rd w a n c zs) (hl : n ≤ 1048576) :
    Calls Tryd.prog 14 #[.slice a n c] w fun e w' => e = .returned (.pointer (some ⟨w.heap.size, 0, none⟩)) ∧ Below w.heap.size w w' ∧ Cu w' w.heap.size := by
  have HR := hid h
  obtain ⟨hn0, hc, hm, hnm, hb, hcell⟩ := h
  have HN := hid hn0
  clear hn0
  go_enter Tryd.func14, Tryd.ntmps14
  go_wp2
  go_loop [3, 4] (fun s i => ∃ (k : Nat) (x : Int), i = .int .i64 k ∧ k ≤ n ∧ s = .int .i64 x) (fun _ i => n - (intOf i).toNat)
  case atStart => exact ⟨0, _, rfl, Nat.zero_le _, rfl⟩
  case round =>
    obtain ⟨k, x, rfl, hk, rfl⟩ := hrel
    by_cases hkn : k < n ∧ k < 4000
    · obtain ⟨hkn, hk4⟩ := hkn
      have hkn' : (k : Int) < (n : Int) := by omega
      have hk4' : (k : Int) < 4000 := by omega
      obtain ⟨b, off, ha, hbw, hcell⟩ := hcell (by omega)
      have hck := hcell k hkn
      have hb0 := (hb k).1
      have hb1 := (hb k).2
      clear hcell hb
      rw [ha]
      go_wp2
      go_round
      case rel => exact ⟨k + 1, _, by go_num, by omega, rfl⟩
      case measure => simp [intOf]; omega
    · have HC : Hid (Cu (w.alloc (.cells #[.slice a n c, .int .i64 0, .int .i64 x] 59)) w.heap.size) := by
        refine ⟨a, n, c, zs, 0, x, ?_, ?_, ?_, World.frozen?_alloc_at (hn := rfl) .., World.frozen?_alloc_at (hn := rfl) .., HR.out.kept ((Below.refl _ _).alloc (Nat.le_refl _) _), hl, HR.out.lt, Nat.zero_le _⟩
        · rw [World.cell?_alloc_at (hn := rfl)]; rfl
        · rw [World.cell?_alloc_at (hn := rfl)]; rfl
        · rw [World.cell?_alloc_at (hn := rfl)]; rfl
      have HB : Hid (Below w.heap.size w (w.alloc (.cells #[.slice a n c, .int .i64 0, .int .i64 x] 59))) := (Below.refl _ _).alloc (Nat.le_refl _) _
      clear hcell hb
      rcases (by omega : ¬ (k : Int) < (n : Int) ∨ ((k : Int) < (n : Int) ∧ ¬ (k : Int) < 4000)) with h1 | ⟨h1, h2⟩
      all_goals
        clear hkn
        go_wp2
        go_ret
        exact ⟨rfl, HB.out, HC.out⟩
end Go.Proofs.YtgnjknbgahickaaDoor

