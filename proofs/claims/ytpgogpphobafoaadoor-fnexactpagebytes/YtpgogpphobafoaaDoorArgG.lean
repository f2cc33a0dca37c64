/-
  What is known of pages that come in as arguments.
-/
import Derived.Test.YtpgogpphobafoaaDoorPgO
import Derived.Test.YtpgogpphobafoaaDoorNodeL
import Derived.Deep.Strs
import Derived.Deep.Slices
import Derived.ChangeSlices
import Derived.WideShapes
import Derived.ChangeSame
import Derived.ProofKit
import Derived.OpenShut
namespace Go.Proofs.YtpgogpphobafoaaDoor
open Go.ChangeShapes Go.WideShapes Go.ChangeAt Go.RowKit
theorem rw_mkG {w : World} {a : Addr} {n c : Nat} {xs : List Value} (hl : n ≤ c) (hc : c ≤ 9223372036854775807) (hx : n = 0 → xs = []) (h0 : 0 < n → 0 < xs.length) (h : ∀ j u, xs[j]? = some u → w.cell? (a.add j) = some u) : Rw w (fun _ => True) (.slice (some a) n c) n xs := by
  refine ⟨_, c, rfl, hl, hc, hx, fun h => by (cases h), fun hp => ?_⟩
  obtain ⟨b, off, spot⟩ := a
  obtain ⟨u, hu⟩ : ∃ u, xs[0]? = some u := ⟨xs[0]'(h0 hp), by simp [h0 hp]⟩
  have hc0 := h 0 u hu
  have hspot : spot = none := by simpa [Addr.add] using World.cell?_spot hc0
  subst hspot
  refine ⟨b, off, rfl, by simpa [Addr.add] using block_lt hc0, trivial, fun j v hv => ?_⟩
  have := h j v hv
  rwa [Addr.add_lit] at this
theorem open_srG {H : Type} {enc : TypeId × Value → H} {w : World} {base : Nat} {spare : Nat → Bool} {held : Bool} {fuel : Nat} {v : Value} {x : DataW H × List MemPlace}
    (h : DataW.trod enc Tryd.prog w base spare held fuel 22 [v] = some x) : ∃ l : List ByteArray, Sr w (fun _ => True) v l ∧ szOkS l := by
  rcases Go.Deep.open_strs Tryd.underlying22 Tryd.underlying9 (by kernel_rfl) h with ⟨hcs, _⟩ | ⟨a, len, cap, m, Sx, hcs, _, hl, hm, hmm, _, hc⟩
  · simp at hcs
    subst hcs
    exact ⟨[], rw_nil _ _, fun i => by simp [sAt]; decide⟩
  · simp at hcs
    subst hcs
    have hlm : len ≤ m := by rw [hmm]; split <;> omega
    unfold maxLen at hm hc
    refine ⟨(List.range len).map Sx, ?_, fun i => ?_⟩
    · unfold Sr
      rw [show ((List.range len).map Sx).length = len by simp]
      refine rw_mkG hl (by omega) (fun h0 => by simp [h0]) (fun h0 => by simpa using h0) (fun j u hu => ?_)
      have hj : j < len := by
        have := (List.getElem?_eq_some_iff.1 hu).1
        simpa using this
      simp [hj] at hu
      rw [← hu]
      exact (hc j (by omega)).1
    · by_cases hi : i < len
      · have := (hc i (by omega)).2
        simp [sAt, hi]
        omega
      · simp [sAt, hi]
        decide
theorem open_irG {H : Type} {enc : TypeId × Value → H} {w : World} {base : Nat} {spare : Nat → Bool} {held : Bool} {fuel : Nat} {v : Value} {x : DataW H × List MemPlace}
    (h : DataW.trod enc Tryd.prog w base spare held fuel 23 [v] = some x) : ∃ l : List Int, Ir w (fun _ => True) v l := by
  rcases open_ints Tryd.underlying23 Tryd.underlying3 (by kernel_rfl) h with ⟨hcs, _⟩ | ⟨a, len, cap, zs, hcs, _, hl, hm, hz, _, hcell, _⟩
  · simp at hcs
    subst hcs
    exact ⟨[], rw_nil _ _⟩
  · simp at hcs
    subst hcs
    have hlm : len ≤ zs.length := by rw [hz]; split <;> omega
    unfold maxLen at hm
    refine ⟨zs.take len, ?_⟩
    unfold Ir
    rw [show (zs.take len).length = len by simp; omega]
    refine rw_mkG hl (by omega) (fun h0 => by simp [h0]) (fun h0 => by simp; omega) (fun j u hu => ?_)
    have hj : j < len := by
      have := (List.getElem?_eq_some_iff.1 hu).1
      simp at this
      omega
    have := hcell j (by omega)
    rw [this]
    simp [hj, show j < zs.length by omega] at hu
    simp [show j < zs.length by omega, hu]
theorem page_three : ∃ f0 f1 f2 : Field, Tryd.prog.underlying 25 = some (.struct #[f0, f1, f2]) ∧ f0.type = 22 ∧ f1.type = 22 ∧ f2.type = 23 ∧ f0.offset = 0 ∧ f1.offset = 1 ∧ f2.offset = 2 := ⟨_, _, _, Tryd.underlying25, rfl, rfl, rfl, rfl, rfl, rfl⟩
theorem arr3G {α : Type} {cs : Array α} (h : cs.size = 3) : ∃ a b c, cs = #[a, b, c] := by
  obtain ⟨l⟩ := cs
  match l, h with
  | [a, b, c], _ => exact ⟨a, b, c, rfl⟩
set_option maxRecDepth 100000 in
theorem open_page {H : Type} {enc : TypeId × Value → H} {w : World} {base : Nat} {spare : Nat → Bool} {held : Bool} {r : Reach} {b0 : Nat} {v : Value} {d : DataW H} {q : List MemPlace}
    (hv : Value.okWide Tryd.prog w r b0 25 v) (h : DataW.Trod enc Tryd.prog w base spare held 25 v d q) :
    ∃ (ka : Option Addr) (kn kc : Nat) (va : Option Addr) (vn vc : Nat) (ia : Option Addr) (jn ic : Nat) (p : PG), v = .agg #[.slice ka kn kc, .slice va vn vc, .slice ia jn ic] ∧ Pgr w (fun _ => True) ka kn kc va vn vc ia jn ic p ∧ szOkS p.keys ∧ szOkS p.vals := by
  obtain ⟨f0, f1, f2, hs, t0, t1, t2, o0, o1, o2⟩ := page_three
  obtain ⟨cs, rfl, hsz⟩ := okWide_struct hs hv
  obtain ⟨c0, c1, c2, rfl⟩ := arr3G (hsz.trans (by kernel_rfl))
  obtain ⟨fuel, hf⟩ := h
  obtain ⟨y0, y1, y2, n', _, _, d0, d1, d2⟩ := Go.Deep.trod_struct3 hs hf
  have k1 : Tryd.prog.cellsOf 22 = 1 := by kernel_rfl
  have k2 : Tryd.prog.cellsOf 23 = 1 := by kernel_rfl
  rw [t0, o0, k1] at d0
  rw [t1, o1, k1] at d1
  rw [t2, o2, k2] at d2
  simp [Value.cells] at d0 d1 d2
  obtain ⟨l0, p0, s0⟩ := open_srG d0
  obtain ⟨l1, p1, s1⟩ := open_srG d1
  obtain ⟨l2, p2⟩ := open_irG d2
  obtain ⟨a0, e0, rfl, _⟩ := p0.shape
  obtain ⟨a1, e1, rfl, _⟩ := p1.shape
  obtain ⟨a2, e2, rfl, _⟩ := p2.shape
  exact ⟨_, _, _, _, _, _, _, _, _, ⟨l0, l1, l2⟩, rfl, ⟨p0, p1, p2⟩, s0, s1⟩
end Go.Proofs.YtpgogpphobafoaaDoor

