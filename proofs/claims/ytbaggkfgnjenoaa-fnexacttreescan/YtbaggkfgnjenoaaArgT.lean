/-
  What is known of trees that come in as arguments.
-/
import Derived.Test.YtbaggkfgnjenoaaNodeN
import Derived.Test.YtbaggkfgnjenoaaArgP
import Derived.Deep.Strs
import Derived.Deep.Slices
import Derived.ChangeSlices
namespace Go.Proofs.Ytbaggkfgnjenoaa
open Go.ChangeShapes Go.WideShapes Go.ChangeAt Go.RowKit

theorem rw_mk {w : World} {a : Addr} {n c : Nat} {xs : List Value} (hl : n ≤ c) (hc : c ≤ 9223372036854775807) (hx : n = 0 → xs = []) (h0 : 0 < n → 0 < xs.length) (h : ∀ j u, xs[j]? = some u → w.cell? (a.add j) = some u) : Rw w (fun _ => True) (.slice (some a) n c) n xs := by
  refine ⟨_, c, rfl, hl, hc, hx, fun h => by (cases h), fun hp => ?_⟩
  obtain ⟨b, off, spot⟩ := a
  obtain ⟨u, hu⟩ : ∃ u, xs[0]? = some u := ⟨xs[0]'(h0 hp), by simp [h0 hp]⟩
  have hc0 := h 0 u hu
  have hspot : spot = none := by simpa [Addr.add] using World.cell?_spot hc0
  subst hspot
  refine ⟨b, off, rfl, by simpa [Addr.add] using block_lt hc0, trivial, fun j v hv => ?_⟩
  have := h j v hv
  rwa [Addr.add_lit] at this
theorem open_sr {H : Type} {enc : TypeId × Value → H} {w : World} {base : Nat} {spare : Nat → Bool} {held : Bool} {fuel : Nat} {v : Value} {x : DataW H × List MemPlace}
    (h : DataW.trod enc Try.prog w base spare held fuel 127 [v] = some x) : ∃ l : List ByteArray, Sr w (fun _ => True) v l ∧ szOkS l := by
  rcases Go.Deep.open_strs Try.underlying127 Try.underlying9 (by kernel_rfl) h with ⟨hcs, _⟩ | ⟨a, len, cap, m, Sx, hcs, _, hl, hm, hmm, _, hc⟩
  · simp at hcs
    subst hcs
    exact ⟨[], rw_nil _ _, fun i => by simp [sAt]; decide⟩
  · simp at hcs
    subst hcs
    have hlm : len ≤ m := by rw [hmm]; split <;> omega
    unfold maxLen at hm hc
    refine ⟨(List.range len).map Sx, ?_, fun i => ?_⟩
    · unfold Sr
      rw [show ((List.range len).map Sx).length = len by simp]
      refine rw_mk hl (by omega) (fun h0 => by simp [h0]) (fun h0 => by simpa using h0) (fun j u hu => ?_)
      have hj : j < len := by
        have := (List.getElem?_eq_some_iff.1 hu).1
        simpa using this
      simp [hj] at hu
      rw [← hu]
      exact (hc j (by omega)).1
    · by_cases hi : i < len
      · have := (hc i (by omega)).2
        simp [sAt, hi]
        omega
      · simp [sAt, hi]
        decide
theorem open_ir {H : Type} {enc : TypeId × Value → H} {w : World} {base : Nat} {spare : Nat → Bool} {held : Bool} {fuel : Nat} {v : Value} {x : DataW H × List MemPlace}
    (h : DataW.trod enc Try.prog w base spare held fuel 126 [v] = some x) : ∃ l : List Int, Ir w (fun _ => True) v l := by
  rcases open_ints Try.underlying126 Try.underlying3 (by kernel_rfl) h with ⟨hcs, _⟩ | ⟨a, len, cap, zs, hcs, _, hl, hm, hz, _, hcell, _⟩
  · simp at hcs
    subst hcs
    exact ⟨[], rw_nil _ _⟩
  · simp at hcs
    subst hcs
    have hlm : len ≤ zs.length := by rw [hz]; split <;> omega
    unfold maxLen at hm
    refine ⟨zs.take len, ?_⟩
    unfold Ir
    rw [show (zs.take len).length = len by simp; omega]
    refine rw_mk hl (by omega) (fun h0 => by simp [h0]) (fun h0 => by simp; omega) (fun j u hu => ?_)
    have hj : j < len := by
      have := (List.getElem?_eq_some_iff.1 hu).1
      simp at this
      omega
    have := hcell j (by omega)
    rw [this]
    simp [hj, show j < zs.length by omega] at hu
    simp [show j < zs.length by omega, hu]
theorem node_three : ∃ f0 f1 f2 : Field, Try.prog.underlying 156 = some (.struct #[f0, f1, f2]) ∧ f0.type = 154 ∧ f1.type = 127 ∧ f2.type = 126 ∧ f0.offset = 0 ∧ f1.offset = 1 ∧ f2.offset = 2 := ⟨_, _, _, Try.underlying156, rfl, rfl, rfl, rfl, rfl, rfl⟩
theorem tree_one : ∃ f0 : Field, Try.prog.underlying 73 = some (.struct #[f0]) ∧ f0.type = 71 ∧ f0.offset = 0 := ⟨_, Try.underlying73, rfl, rfl⟩
theorem open_nodes {H : Type} {enc : TypeId × Value → H} {w : World} {base : Nat} {spare : Nat → Bool} {held : Bool} {fuel : Nat} {v : Value} {x : DataW H × List MemPlace}
    (h : DataW.trod enc Try.prog w base spare held fuel 71 [v] = some x) : ∃ ns : List NB, Nr w (fun _ => True) v ns ∧ szOkN ns := by
  obtain ⟨f0, f1, f2, hs, t0, t1, t2, o0, o1, o2⟩ := node_three
  have k0 : Try.prog.cellsOf 154 = 1 := by kernel_rfl
  have k1 : Try.prog.cellsOf 127 = 1 := by kernel_rfl
  have k2 : Try.prog.cellsOf 126 = 1 := by kernel_rfl
  have k3 : Try.prog.cellsOf 156 = 3 := by kernel_rfl
  rcases Go.Deep.open_slice Try.underlying71 h with ⟨hcs, _⟩ | ⟨a, len, cap, m, n, D, P, hcs, _, hl, hm, hmm, _, hc⟩
  · simp at hcs
    subst hcs
    exact ⟨[], ⟨[], rfl, rw_nil _ _, fun i hi => by simp at hi⟩, fun i hi => by simp at hi⟩
  · simp at hcs
    subst hcs
    have hlm : len ≤ m := by rw [hmm]; split <;> omega
    simp only [k3] at hc
    have ex : ∀ i, ∃ p : V3 × NB, i < m → w.cell? (a.add (i * 3)) = some p.1.1 ∧ w.cell? (a.add (i * 3 + 1)) = some p.1.2.1 ∧ w.cell? (a.add (i * 3 + 2)) = some p.1.2.2 ∧ N1 w (fun _ => True) p.1 p.2 ∧ szOkP p.2.ps ∧ szOkS p.2.keys := by
      intro i
      by_cases hi : i < m
      · obtain ⟨cs', hcs, hd⟩ := hc i hi
        obtain ⟨_, hcl, hcell⟩ := World.cells?_some hcs
        obtain ⟨y0, y1, y2, n', _, _, d0, d1, d2⟩ := Go.Deep.trod_struct3 hs hd
        rw [t0, o0, k0] at d0
        rw [t1, o1, k1] at d1
        rw [t2, o2, k2] at d2
        obtain ⟨v0, v1, v2, rfl⟩ : ∃ v0 v1 v2, cs' = [v0, v1, v2] := by
          match cs', hcl with
          | [v0, v1, v2], _ => exact ⟨v0, v1, v2, rfl⟩
        simp at d0 d1 d2
        obtain ⟨l0, p0, s0⟩ := open_pairs d0
        obtain ⟨l1, p1, s1⟩ := open_sr d1
        obtain ⟨l2, p2⟩ := open_ir d2
        have c0 := hcell 0 (by omega)
        have c1 := hcell 1 (by omega)
        have c2 := hcell 2 (by omega)
        obtain ⟨cs0, hcs0, _⟩ := hc 0 (by omega)
        have c00 := (World.cells?_some hcs0).2.2 0 (by omega)
        have hcl0 := (World.cells?_some hcs0).2.1
        obtain ⟨b, off, spot⟩ := a
        have hspot : spot = none := by
          have e0 : ∀ x : Addr, x.add 0 = x := fun _ => rfl
          rw [Nat.zero_mul, e0, e0] at c00
          obtain ⟨u0, hu0⟩ : ∃ u, cs0[0]? = some u := ⟨cs0[0]'(by omega), by simp⟩
          exact World.cell?_spot (c00.trans hu0)
        subst hspot
        simp only [Addr.add_lit] at c0 c1 c2
        refine ⟨((v0, v1, v2), ⟨l0, l1, l2⟩), fun _ => ⟨?_, ?_, ?_, ⟨p0, p1, p2⟩, s0, s1⟩⟩
        · simpa [Addr.add_lit] using c0
        · simpa [Addr.add_lit, Nat.add_assoc] using c1
        · simpa [Addr.add_lit, Nat.add_assoc] using c2
      · exact ⟨((.slice none 0 0, .slice none 0 0, .slice none 0 0), ⟨[], [], []⟩), fun h => absurd h hi⟩
    obtain ⟨f, hf⟩ := Classical.axiomOfChoice ex
    unfold maxLen at hm
    refine ⟨(List.range len).map fun i => (f i).2, ⟨(List.range len).map fun i => (f i).1, by simp, ?_, fun i hi => ?_⟩, fun i hi => ?_⟩
    · rw [show ((List.range len).map fun i => (f i).2).length = len by simp]
      refine rw_mk hl (by omega) (fun h0 => by simp [h0, ncs]) (fun h0 => by rw [ncs_length]; simp; omega) (fun j u hu => ?_)
      have hj : j < len * 3 := by
        have := (List.getElem?_eq_some_iff.1 hu).1
        simpa [ncs_length] using this
      have hq := ncs_at ((List.range len).map fun i => (f i).1) (j / 3) (by simp; omega)
      have hv : vAt ((List.range len).map fun i => (f i).1) (j / 3) = (f (j / 3)).1 := by simp [vAt, show j / 3 < len by omega]
      rw [hv] at hq
      have hc := hf (j / 3) (by omega)
      have h3 : j = j / 3 * 3 ∨ j = j / 3 * 3 + 1 ∨ j = j / 3 * 3 + 2 := by omega
      rcases h3 with e | e | e
      · rw [← e, hu] at hq
        rw [← e] at hc
        rw [hc.1, hq.1]
      · rw [← e, hu] at hq
        rw [← e] at hc
        rw [hc.2.1, hq.2.1]
      · rw [← e, hu] at hq
        rw [← e] at hc
        rw [hc.2.2.1, hq.2.2]
    · have hi' : i < len := by simpa using hi
      have := (hf i (by omega)).2.2.2.1
      simpa [vAt, nAt, hi'] using this
    · have hi' : i < len := by simpa using hi
      have := (hf i (by omega)).2.2.2.2
      simpa [nAt, hi'] using this
theorem arr1 {α : Type} {cs : Array α} (h : cs.size = 1) : ∃ a, cs = #[a] := by
  obtain ⟨l⟩ := cs
  match l, h with
  | [a], _ => exact ⟨a, rfl⟩
set_option maxRecDepth 100000 in
theorem open_tree {H : Type} {enc : TypeId × Value → H} {w : World} {base : Nat} {spare : Nat → Bool} {held : Bool} {r : Reach} {b0 : Nat} {v : Value} {d : DataW H} {p : List MemPlace}
    (hv : Value.okWide Try.prog w r b0 73 v) (h : DataW.Trod enc Try.prog w base spare held 73 v d p) : ∃ (a : Option Addr) (n c : Nat) (ns : List NB), v = .agg #[.slice a n c] ∧ Nr w (fun _ => True) (.slice a n c) ns ∧ szOkN ns := by
  obtain ⟨f0, hs, t0, o0⟩ := tree_one
  obtain ⟨cs, rfl, hsz⟩ := okWide_struct hs hv
  obtain ⟨c0, rfl⟩ := arr1 (hsz.trans (by kernel_rfl))
  obtain ⟨fuel, hf⟩ := h
  obtain ⟨xs, n, _, _, _, hxl, hd⟩ := DataW.trod_struct hs hf
  have k0 : Try.prog.cellsOf 71 = 1 := by kernel_rfl
  have h0 := hd 0 f0 rfl
  rw [t0, o0, k0] at h0
  obtain ⟨y, hy⟩ : ∃ y, xs[0]? = some y := ⟨xs[0]'(by rw [hxl]; simp), by simp [show 0 < xs.length by rw [hxl]; simp]⟩
  rw [hy] at h0
  simp [Value.cells] at h0
  obtain ⟨ns, h1, h2⟩ := open_nodes h0
  obtain ⟨a, c, rfl, _⟩ := h1.shape
  exact ⟨a, _, c, ns, rfl, h1, h2⟩
end Go.Proofs.Ytbaggkfgnjenoaa

