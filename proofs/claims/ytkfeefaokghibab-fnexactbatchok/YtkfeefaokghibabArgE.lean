/-
  What is known of slices of edits that come in as arguments.
-/
import Derived.Test.YtkfeefaokghibabEdL
import Derived.Deep.Strs
import Derived.Deep.Slices
import Derived.ChangeSlices
import Derived.WideShapes
import Derived.ChangeSame
import Derived.ProofKit
import Derived.OpenShut
namespace Go.Proofs.Ytkfeefaokghibab
open Go.ChangeShapes Go.WideShapes Go.ChangeAt Go.RowKit
theorem rw_mkE {w : World} {a : Addr} {n c : Nat} {xs : List Value} (hl : n ≤ c) (hc : c ≤ 9223372036854775807) (hx : n = 0 → xs = []) (h0 : 0 < n → 0 < xs.length) (h : ∀ j u, xs[j]? = some u → w.cell? (a.add j) = some u) : Rw w (fun _ => True) (.slice (some a) n c) n xs := by
  refine ⟨_, c, rfl, hl, hc, hx, fun h => by (cases h), fun hp => ?_⟩
  obtain ⟨b, off, spot⟩ := a
  obtain ⟨u, hu⟩ : ∃ u, xs[0]? = some u := ⟨xs[0]'(h0 hp), by simp [h0 hp]⟩
  have hc0 := h 0 u hu
  have hspot : spot = none := by simpa [Addr.add] using World.cell?_spot hc0
  subst hspot
  refine ⟨b, off, rfl, by simpa [Addr.add] using block_lt hc0, trivial, fun j v hv => ?_⟩
  have := h j v hv
  rwa [Addr.add_lit] at this
set_option maxRecDepth 100000 in
theorem edit_three : ∃ f0 f1 f2 : Field, Try.prog.underlying 51 = some (.struct #[f0, f1, f2]) ∧ f0.type = 9 ∧ f1.type = 9 ∧ f2.type = 4 ∧ f0.offset = 0 ∧ f1.offset = 1 ∧ f2.offset = 2 := ⟨_, _, _, Try.underlying51, rfl, rfl, rfl, rfl, rfl, rfl⟩
set_option maxRecDepth 100000 in
theorem open_edits {H : Type} {enc : TypeId × Value → H} {w : World} {base : Nat} {spare : Nat → Bool} {held : Bool} {fuel : Nat} {v : Value} {x : DataW H × List MemPlace}
    (h : DataW.trod enc Try.prog w base spare held fuel 22 [v] = some x) : ∃ l : List ED, Er w (fun _ => True) v l ∧ szOkE l := by
  obtain ⟨f0, f1, f2, hs, t0, t1, t2, o0, o1, o2⟩ := edit_three
  have k0 : Try.prog.cellsOf 9 = 1 := by kernel_rfl
  have k2 : Try.prog.cellsOf 4 = 1 := by kernel_rfl
  have k3 : Try.prog.cellsOf 51 = 3 := by kernel_rfl
  rcases Go.Deep.open_slice Try.underlying22 h with ⟨hcs, _⟩ | ⟨a, len, cap, m, n, D, P, hcs, _, hl, hm, hmm, _, hc⟩
  · simp at hcs
    subst hcs
    exact ⟨[], rw_nil _ _, fun i => by simp [eAt]; decide⟩
  · simp at hcs
    subst hcs
    have hlm : len ≤ m := by rw [hmm]; split <;> omega
    simp only [k3] at hc
    have ex : ∀ i, ∃ p : ED, i < m → w.cell? (a.add (i * 3)) = some (.string p.1) ∧ w.cell? (a.add (i * 3 + 1)) = some (.string p.2.1) ∧ w.cell? (a.add (i * 3 + 2)) = some (.bool p.2.2) ∧ p.1.size ≤ maxLen ∧ p.2.1.size ≤ maxLen := by
      intro i
      by_cases hi : i < m
      · obtain ⟨cs', hcs, hd⟩ := hc i hi
        obtain ⟨_, hcl, hcell⟩ := World.cells?_some hcs
        obtain ⟨y0, y1, y2, n', _, _, d0, d1, d2⟩ := Go.Deep.trod_struct3 hs hd
        rw [t0, o0, k0] at d0
        rw [t1, o1, k0] at d1
        rw [t2, o2, k2] at d2
        obtain ⟨v0, v1, v2, rfl⟩ : ∃ v0 v1 v2, cs' = [v0, v1, v2] := by
          match cs', hcl with
          | [v0, v1, v2], _ => exact ⟨v0, v1, v2, rfl⟩
        simp at d0 d1 d2
        obtain ⟨s0, e0, _, l0⟩ := DataW.trod_string Try.underlying9 d0
        obtain ⟨s1, e1, _, l1⟩ := DataW.trod_string Try.underlying9 d1
        obtain ⟨s2, e2, _⟩ := DataW.trod_bool Try.underlying4 d2
        simp at e0 e1 e2
        subst e0 e1 e2
        have c0 := hcell 0 (by omega)
        have c1 := hcell 1 (by omega)
        have c2 := hcell 2 (by omega)
        obtain ⟨cs0, hcs0, _⟩ := hc 0 (by omega)
        have c00 := (World.cells?_some hcs0).2.2 0 (by omega)
        have hcl0 := (World.cells?_some hcs0).2.1
        obtain ⟨b, off, spot⟩ := a
        have hspot : spot = none := by
          have e0 : ∀ x : Addr, x.add 0 = x := fun _ => rfl
          rw [Nat.zero_mul, e0, e0] at c00
          obtain ⟨u0, hu0⟩ : ∃ u, cs0[0]? = some u := ⟨cs0[0]'(by omega), by simp⟩
          exact World.cell?_spot (c00.trans hu0)
        subst hspot
        simp only [Addr.add_lit] at c0 c1 c2
        refine ⟨(s0, s1, s2), fun _ => ⟨?_, ?_, ?_, l0, l1⟩⟩
        · simpa [Addr.add_lit] using c0
        · simpa [Addr.add_lit, Nat.add_assoc] using c1
        · simpa [Addr.add_lit, Nat.add_assoc] using c2
      · exact ⟨(⟨#[]⟩, ⟨#[]⟩, false), fun h => absurd h hi⟩
    obtain ⟨f, hf⟩ := Classical.axiomOfChoice ex
    unfold maxLen at hm hf
    refine ⟨(List.range len).map f, ?_, fun i => ?_⟩
    · unfold Er
      rw [show ((List.range len).map f).length = len by simp]
      refine rw_mkE hl (by omega) (fun h0 => by simp [h0, ecs]) (fun h0 => by rw [ecs_length]; simp; omega) (fun j u hu => ?_)
      have hj : j < len * 3 := by
        have := (List.getElem?_eq_some_iff.1 hu).1
        simpa [ecs_length] using this
      have hq := ecs_at ((List.range len).map f) (j / 3) (by simp; omega)
      have hv : eAt ((List.range len).map f) (j / 3) = f (j / 3) := by simp [eAt, show j / 3 < len by omega]
      rw [hv] at hq
      have hc := hf (j / 3) (by omega)
      have h3 : j = j / 3 * 3 ∨ j = j / 3 * 3 + 1 ∨ j = j / 3 * 3 + 2 := by omega
      rcases h3 with e | e | e
      · rw [← e, hu] at hq
        rw [← e] at hc
        rw [hc.1, hq.1]
      · rw [← e, hu] at hq
        rw [← e] at hc
        rw [hc.2.1, hq.2.1]
      · rw [← e, hu] at hq
        rw [← e] at hc
        rw [hc.2.2.1, hq.2.2]
    · by_cases hi : i < len
      · have := (hf i (by omega)).2.2.2
        simpa [eAt, hi] using this
      · simp [eAt, hi]
        decide
set_option maxRecDepth 100000 in
theorem open_editS {H : Type} {enc : TypeId × Value → H} {w : World} {base : Nat} {spare : Nat → Bool} {held : Bool} {r : Reach} {b0 : Nat} {v : Value} {d : DataW H} {p : List MemPlace}
    (hv : Value.okWide Try.prog w r b0 22 v) (h : DataW.Trod enc Try.prog w base spare held 22 v d p) : ∃ (a : Option Addr) (n c : Nat) (l : List ED), v = .slice a n c ∧ Er w (fun _ => True) (.slice a n c) l ∧ szOkE l := by
  obtain ⟨a, n, c, rfl⟩ := okWide_slice Try.underlying22 hv
  obtain ⟨fuel, hf⟩ := h
  simp [Value.cells] at hf
  obtain ⟨l, h1, h2⟩ := open_edits hf
  exact ⟨a, n, c, l, rfl, h1, h2⟩
end Go.Proofs.Ytkfeefaokghibab

