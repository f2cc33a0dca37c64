/-
  What is known of slices of pairs that come in as arguments.
-/
import Derived.Test.YtnbafoennnhppabPairL
import Derived.Deep.SlicePairs
import Derived.WideShapes
import Derived.ChangeSame
import Derived.ProofKit
import Derived.OpenShut
namespace Go.Proofs.Ytnbafoennnhppab
open Go.ChangeShapes Go.WideShapes Go.ChangeAt Go.RowKit

theorem pair_two : ∃ f0 f1 : Field, Try.prog.underlying 61 = some (.struct #[f0, f1]) ∧ f0.type = 9 ∧ f1.type = 9 ∧ f0.offset = 0 ∧ f1.offset = 1 := ⟨_, _, Try.underlying61, rfl, rfl, rfl, rfl⟩
theorem open_pairs {H : Type} {enc : TypeId × Value → H} {w : World} {base : Nat} {spare : Nat → Bool} {held : Bool} {fuel : Nat} {v : Value} {x : DataW H × List MemPlace}
    (h : DataW.trod enc Try.prog w base spare held fuel 38 [v] = some x) : ∃ l : List PB, Pr w (fun _ => True) v l ∧ szOkP l := by
  obtain ⟨f0, f1, hs, t0, t1, o0, o1⟩ := pair_two
  have k : Try.prog.cellsOf 9 = 1 := by kernel_rfl
  rcases Go.Deep.open_slice_pairs Try.underlying38 hs (by kernel_rfl) o0 o1 (by rw [t0]; exact k) (by rw [t1]; exact k) h with ⟨hcs, _⟩ | ⟨a, len, cap, m, n, V0, V1, D0, D1, P0, P1, hcs, _, hl, hm, hmm, _, hc⟩
  · simp at hcs
    subst hcs
    exact ⟨[], rw_nil _ _, fun i => by simp [pAtB]; decide⟩
  · simp at hcs
    subst hcs
    have hlm : len ≤ m := by rw [hmm]; split <;> omega
    have ex : ∀ i, ∃ p : PB, i < m → w.cell? (a.add (i * 2)) = some (.string p.1) ∧ w.cell? (a.add (i * 2 + 1)) = some (.string p.2) ∧ p.1.size ≤ maxLen ∧ p.2.size ≤ maxLen := by
      intro i
      by_cases hi : i < m
      · obtain ⟨c0, c1, d0, d1⟩ := hc i hi
        rw [t0] at d0
        rw [t1] at d1
        obtain ⟨s0, e0, _, l0⟩ := DataW.trod_string Try.underlying9 d0
        obtain ⟨s1, e1, _, l1⟩ := DataW.trod_string Try.underlying9 d1
        simp at e0 e1
        exact ⟨(s0, s1), fun _ => ⟨by rw [c0, e0], by rw [c1, e1], l0, l1⟩⟩
      · exact ⟨(⟨#[]⟩, ⟨#[]⟩), fun h => absurd h hi⟩
    obtain ⟨f, hf⟩ := Classical.axiomOfChoice ex
    unfold maxLen at hm hf
    refine ⟨(List.range len).map f, ?_, fun i => ?_⟩
    · refine ⟨_, cap, by simp; rfl, by simpa using hl, by omega, fun h0 => ?_, fun h0 => (by cases h0), fun hp => ?_⟩
      · simp at h0; subst h0; rfl
      · simp at hp
        obtain ⟨b, off, spot⟩ := a
        have hc0 := (hf 0 (by omega)).1
        have hspot : spot = none := by simpa [Addr.add] using World.cell?_spot hc0
        subst hspot
        refine ⟨b, off, rfl, by simpa [Addr.add] using block_lt hc0, trivial, fun j u hu => ?_⟩
        have hj : j < len * 2 := by
          have := (List.getElem?_eq_some_iff.1 hu).1
          simpa [pcs_length] using this
        rcases Nat.mod_two_eq_zero_or_one j with e | e
        · have h1 := (pcs_at ((List.range len).map f) (j / 2) (by simp; omega)).1
          rw [show j / 2 * 2 = j by omega, hu] at h1
          have h2 := (hf (j / 2) (by omega)).1
          rw [Addr.add_lit, show j / 2 * 2 = j by omega] at h2
          rw [h2, h1]
          simp [pAtB, show j / 2 < len by omega]
        · have h1 := (pcs_at ((List.range len).map f) (j / 2) (by simp; omega)).2
          rw [show j / 2 * 2 + 1 = j by omega, hu] at h1
          have h2 := (hf (j / 2) (by omega)).2.1
          rw [Addr.add_lit, show j / 2 * 2 + 1 = j by omega] at h2
          rw [h2, h1]
          simp [pAtB, show j / 2 < len by omega]
    · by_cases hi : i < len
      · have := hf i (by omega)
        simp [pAtB, hi]
        omega
      · simp [pAtB, hi]
        decide
set_option maxRecDepth 100000 in
theorem open_pairS {H : Type} {enc : TypeId × Value → H} {w : World} {base : Nat} {spare : Nat → Bool} {held : Bool} {r : Reach} {b0 : Nat} {v : Value} {d : DataW H} {p : List MemPlace}
    (hv : Value.okWide Try.prog w r b0 38 v) (h : DataW.Trod enc Try.prog w base spare held 38 v d p) : ∃ (a : Option Addr) (n c : Nat) (l : List PB), v = .slice a n c ∧ Pr w (fun _ => True) (.slice a n c) l ∧ szOkP l := by
  obtain ⟨a, n, c, rfl⟩ := okWide_slice Try.underlying38 hv
  obtain ⟨fuel, hf⟩ := h
  simp [Value.cells] at hf
  obtain ⟨l, h1, h2⟩ := open_pairs hf
  exact ⟨a, n, c, l, rfl, h1, h2⟩
end Go.Proofs.Ytnbafoennnhppab

