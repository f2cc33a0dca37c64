/-
  What the law's helpers do with slices of nodes and with trees.
-/
import Derived.Test.YtnbafoennnhppabNodeL
namespace Go.Proofs.Ytnbafoennnhppab
open Go.RowKit

def smallN (ns : List NB) : Prop := ∀ i, i < ns.length → (nAt ns i).ps.length ≤ 1048576 ∧ (nAt ns i).keys.length ≤ 1048576 ∧ (nAt ns i).kids.length ≤ 1048576
theorem N1.grow {w w' : World} {B : Nat} {p : V3} {x : NB} (h : N1 w (fun b => B < b ∧ Uf w b) p x) (ho : Only (fun b => b = B) w w') : N1 w' (fun b => B < b ∧ Uf w' b) p x :=
  (h.to ho (fun b hb _ e => by have := hb.1; omega)).mono (fun b hb _ => ⟨hb.1, hb.2.to ho (by have := hb.1; omega)⟩)
theorem N1.fresh {w : World} {B g0 g1 g2 : Nat} {x : NB} {np nx ni : Nat} (h0 : B < g0) (h1 : B < g1) (h2 : B < g2) (k0 : Bk w g0 63 (pcs x.ps)) (k1 : Bk w g1 9 (x.keys.map Value.string)) (k2 : Bk w g2 3 (x.kids.map (Value.int .i64)))
    (l0 : np = x.ps.length) (l1 : nx = x.keys.length) (l2 : ni = x.kids.length) (b0 : np ≤ 1048576) (b1 : nx ≤ 1048576) (b2 : ni ≤ 1048576) :
    N1 w (fun b => B < b ∧ Uf w b) (.slice (some ⟨g0, 0, none⟩) np np, .slice (some ⟨g1, 0, none⟩) nx nx, .slice (some ⟨g2, 0, none⟩) ni ni) x := by
  refine ⟨k0.pr l0 (by omega) _ ⟨h0, k0.uf⟩, ?_, ?_⟩
  · subst l1
    exact k1.rw (Nat.le_refl _) (by omega) (fun e => by rw [List.eq_nil_of_length_eq_zero e]; rfl) _ ⟨h1, k1.uf⟩
  · subst l2
    exact k2.rw (Nat.le_refl _) (by omega) (fun e => by rw [List.eq_nil_of_length_eq_zero e]; rfl) _ ⟨h2, k2.uf⟩
theorem vAt_set (V : List V3) (j : Nat) (p : V3) (h : j < V.length) : vAt (V.set j p) j = p := by simp [vAt, h]
theorem vAt_other (V : List V3) (j i : Nat) (p : V3) (h : i ≠ j) : vAt (V.set j p) i = vAt V i := by simp [vAt, Ne.symm h]
theorem made_nodes (n : Nat) : madeCells (Value.agg #[.slice none 0 0, .slice none 0 0, .slice none 0 0]).cells (n * 3) = (ncs (List.replicate n (.slice none 0 0, .slice none 0 0, .slice none 0 0))).toArray := by
  apply Array.ext
  · simp [madeCells, ncs_length]
  · intro i h1 h2
    simp [ncs_length] at h2
    simp only [madeCells, List.getElem_toArray]
    have h3 : (ncs (List.replicate n ((.slice none 0 0, .slice none 0 0, .slice none 0 0) : V3)))[i]? = some (.slice none 0 0) := by
      obtain ⟨c0, c1, c2⟩ := ncs_at (List.replicate n ((.slice none 0 0, .slice none 0 0, .slice none 0 0) : V3)) (i / 3) (by simp; omega)
      simp [vAt, show i / 3 < n by omega] at c0 c1 c2
      have : i % 3 = 0 ∨ i % 3 = 1 ∨ i % 3 = 2 := by omega
      rcases this with e | e | e
      · rw [show i / 3 * 3 = i by omega] at c0; exact c0
      · rw [show i / 3 * 3 + 1 = i by omega] at c1; exact c1
      · rw [show i / 3 * 3 + 2 = i by omega] at c2; exact c2
    have h4 := List.getElem?_eq_some_iff.1 h3
    rw [h4.2]
    have : i % 3 = 0 ∨ i % 3 = 1 ∨ i % 3 = 2 := by omega
    rcases this with e | e | e <;> simp [Value.cells, e]
end Go.Proofs.Ytnbafoennnhppab

