/-
  Messages: what the law's helpers do with one; rows of pairs of one's own.
-/
import Derived.Test.YtnbafoennnhppabMgA
import Derived.Test.YtnbafoennnhppabAkL
namespace Go.Proofs.Ytnbafoennnhppab
open Go.RowKit
set_option linter.unusedVariables false
/-- A row of pairs of one's own. -/
def oqW (w : World) (B : Nat) (v : Value) (l : List PB) : Prop := w.ownsRow B 63 2 v l.length (pcs l)
theorem oqW.to {w w' : World} {B : Nat} {R : Nat → Prop} {v : Value} {l : List PB} (h : oqW w B v l) (ho : Only R w w') (hR : ∀ y, v.ownBlock = some y → ¬ R y) : oqW w' B v l := own_kept h ho hR
theorem oqW.below {w w' : World} {B : Nat} {v : Value} {l : List PB} (h : oqW w B v l) (hb : Below w.heap.size w w') : oqW w' B v l := h.to (only_of_below hb (fun _ => False)) (fun _ _ h => h)
theorem oqW.base {w : World} {B B' : Nat} {v : Value} {l : List PB} (h : oqW w B v l) (hB : B' ≤ B) : oqW w B' v l := by
  refine ⟨h.1, h.2.imp id ?_⟩
  rintro ⟨g, cap, cur, k1, k2, k3⟩
  exact ⟨g, cap, cur, k1, by omega, k3⟩
theorem oqW.lt {w : World} {B : Nat} {v : Value} {l : List PB} (h : oqW w B v l) {y : Nat} (hy : v.ownBlock = some y) : B ≤ y ∧ y < w.heap.size := World.ownsRow.lt h y hy
theorem oqW.r {w : World} {B : Nat} {v : Value} {l : List PB} (h : oqW w B v l) : Pr w (fun _ => True) v l := rw_own h (fun _ _ _ _ => trivial)
theorem oqW.rB {w : World} {B : Nat} {v : Value} {l : List PB} (h : oqW w B v l) : Pr w (fun b => B ≤ b) v l := rw_own h (fun _ _ h _ => h)
theorem oqw_nil (w : World) (B : Nat) : oqW w B (.slice none 0 0) [] := World.ownsRow_nil _ _ _ _
theorem oqw_bk {w : World} {g B : Nat} {l : List PB} {n : Nat} (h : Bk w g 63 (pcs l)) (hl : n = l.length) (hn : n ≤ 1048577) (hB : B ≤ g) : oqW w B (.slice (some ⟨g, 0, none⟩) n n) l := by
  subst hl
  exact ⟨pcs_length l, .inr ⟨g, l.length, (pcs l).toArray, rfl, hB, h, Nat.le_refl _, by unfold maxLen; omega, by simpa using pcs_length l, by simp [← pcs_length l]⟩⟩
theorem setE {w : World} {g : Nat} {T : TypeId} {xs ys : List Value} (h : Bk w g T xs) (o : Nat) (x : Value) (e : xs.set o x = ys) : Bk (w.setCell ⟨g, o, none⟩ x) g T ys := by
  rw [← e]; exact h.set o x
theorem msg_sets {w : World} {g : Nat} {T : TypeId} {z0 z1 z2 z3 z4 z5 z6 z7 z8 z9 z10 z11 z12 z13 z14 z15 z16 : Value} (h : Bk w g T [z0, z1, z2, z3, z4, z5, z6, z7, z8, z9, z10, z11, z12, z13, z14, z15, z16]) (a0 a1 a2 a3 a4 a5 a6 a7 a8 a9 a10 a11 a12 a13 a14 a15 a16 : Value) : Bk (((((((((((((((((w.setCell ⟨g, 0, none⟩ (a0)).setCell ⟨g, 1, none⟩ (a1)).setCell ⟨g, 2, none⟩ (a2)).setCell ⟨g, 3, none⟩ (a3)).setCell ⟨g, 4, none⟩ (a4)).setCell ⟨g, 5, none⟩ (a5)).setCell ⟨g, 6, none⟩ (a6)).setCell ⟨g, 7, none⟩ (a7)).setCell ⟨g, 8, none⟩ (a8)).setCell ⟨g, 9, none⟩ (a9)).setCell ⟨g, 10, none⟩ (a10)).setCell ⟨g, 11, none⟩ (a11)).setCell ⟨g, 12, none⟩ (a12)).setCell ⟨g, 13, none⟩ (a13)).setCell ⟨g, 14, none⟩ (a14)).setCell ⟨g, 15, none⟩ (a15)).setCell ⟨g, 16, none⟩ (a16)) g T [a0, a1, a2, a3, a4, a5, a6, a7, a8, a9, a10, a11, a12, a13, a14, a15, a16] := (setE (setE (setE (setE (setE (setE (setE (setE (setE (setE (setE (setE (setE (setE (setE (setE (setE h 0 a0 (ys := [a0, z1, z2, z3, z4, z5, z6, z7, z8, z9, z10, z11, z12, z13, z14, z15, z16]) rfl) 1 a1 (ys := [a0, a1, z2, z3, z4, z5, z6, z7, z8, z9, z10, z11, z12, z13, z14, z15, z16]) rfl) 2 a2 (ys := [a0, a1, a2, z3, z4, z5, z6, z7, z8, z9, z10, z11, z12, z13, z14, z15, z16]) rfl) 3 a3 (ys := [a0, a1, a2, a3, z4, z5, z6, z7, z8, z9, z10, z11, z12, z13, z14, z15, z16]) rfl) 4 a4 (ys := [a0, a1, a2, a3, a4, z5, z6, z7, z8, z9, z10, z11, z12, z13, z14, z15, z16]) rfl) 5 a5 (ys := [a0, a1, a2, a3, a4, a5, z6, z7, z8, z9, z10, z11, z12, z13, z14, z15, z16]) rfl) 6 a6 (ys := [a0, a1, a2, a3, a4, a5, a6, z7, z8, z9, z10, z11, z12, z13, z14, z15, z16]) rfl) 7 a7 (ys := [a0, a1, a2, a3, a4, a5, a6, a7, z8, z9, z10, z11, z12, z13, z14, z15, z16]) rfl) 8 a8 (ys := [a0, a1, a2, a3, a4, a5, a6, a7, a8, z9, z10, z11, z12, z13, z14, z15, z16]) rfl) 9 a9 (ys := [a0, a1, a2, a3, a4, a5, a6, a7, a8, a9, z10, z11, z12, z13, z14, z15, z16]) rfl) 10 a10 (ys := [a0, a1, a2, a3, a4, a5, a6, a7, a8, a9, a10, z11, z12, z13, z14, z15, z16]) rfl) 11 a11 (ys := [a0, a1, a2, a3, a4, a5, a6, a7, a8, a9, a10, a11, z12, z13, z14, z15, z16]) rfl) 12 a12 (ys := [a0, a1, a2, a3, a4, a5, a6, a7, a8, a9, a10, a11, a12, z13, z14, z15, z16]) rfl) 13 a13 (ys := [a0, a1, a2, a3, a4, a5, a6, a7, a8, a9, a10, a11, a12, a13, z14, z15, z16]) rfl) 14 a14 (ys := [a0, a1, a2, a3, a4, a5, a6, a7, a8, a9, a10, a11, a12, a13, a14, z15, z16]) rfl) 15 a15 (ys := [a0, a1, a2, a3, a4, a5, a6, a7, a8, a9, a10, a11, a12, a13, a14, a15, z16]) rfl) 16 a16 (ys := [a0, a1, a2, a3, a4, a5, a6, a7, a8, a9, a10, a11, a12, a13, a14, a15, a16]) rfl)
theorem only_step {R : Nat → Prop} {w w' : World} {g : Nat} (h : Only R w w') (hR : R g) (o : Nat) (v : Value) : Only R w (w'.setCell ⟨g, o, none⟩ v) := h.trans (only_set (R := R) (p := ⟨g, o, none⟩) hR v)
theorem msg_only {w : World} {g : Nat} {R : Nat → Prop} (hR : R g) (a0 a1 a2 a3 a4 a5 a6 a7 a8 a9 a10 a11 a12 a13 a14 a15 a16 : Value) : Only R w (((((((((((((((((w.setCell ⟨g, 0, none⟩ (a0)).setCell ⟨g, 1, none⟩ (a1)).setCell ⟨g, 2, none⟩ (a2)).setCell ⟨g, 3, none⟩ (a3)).setCell ⟨g, 4, none⟩ (a4)).setCell ⟨g, 5, none⟩ (a5)).setCell ⟨g, 6, none⟩ (a6)).setCell ⟨g, 7, none⟩ (a7)).setCell ⟨g, 8, none⟩ (a8)).setCell ⟨g, 9, none⟩ (a9)).setCell ⟨g, 10, none⟩ (a10)).setCell ⟨g, 11, none⟩ (a11)).setCell ⟨g, 12, none⟩ (a12)).setCell ⟨g, 13, none⟩ (a13)).setCell ⟨g, 14, none⟩ (a14)).setCell ⟨g, 15, none⟩ (a15)).setCell ⟨g, 16, none⟩ (a16)) := (only_step (only_step (only_step (only_step (only_step (only_step (only_step (only_step (only_step (only_step (only_step (only_step (only_step (only_step (only_step (only_step (only_set (R := R) (p := ⟨g, 0, none⟩) hR a0) hR 1 a1) hR 2 a2) hR 3 a3) hR 4 a4) hR 5 a5) hR 6 a6) hR 7 a7) hR 8 a8) hR 9 a9) hR 10 a10) hR 11 a11) hR 12 a12) hR 13 a13) hR 14 a14) hR 15 a15) hR 16 a16)
end Go.Proofs.Ytnbafoennnhppab

