/-
  What is known of slices of operations that come in as arguments.
-/
import Derived.Test.YtcpdedpgjaimkaaOpL
import Derived.Test.YtcpdedpgjaimkaaArgD
namespace Go.Proofs.Ytcpdedpgjaimkaa
open Go.ChangeShapes Go.WideShapes Go.ChangeAt Go.RowKit
set_option maxRecDepth 100000 in
theorem op_two : ∃ f0 f1 : Field, Try.prog.underlying 106 = some (.struct #[f0, f1]) ∧ f0.type = 4 ∧ f1.type = 104 ∧ f0.offset = 0 ∧ f1.offset = 1 := ⟨_, _, Try.underlying106, rfl, rfl, rfl, rfl⟩
set_option maxRecDepth 100000 in
theorem open_opsO {H : Type} {enc : TypeId × Value → H} {w : World} {base : Nat} {spare : Nat → Bool} {held : Bool} {fuel : Nat} {v : Value} {x : DataW H × List MemPlace}
    (h : DataW.trod enc Try.prog w base spare held fuel 40 [v] = some x) : ∃ l : List OW, Opr w (fun _ => True) v l := by
  obtain ⟨f0, f1, hs, t0, t1, o0, o1⟩ := op_two
  obtain ⟨g0, g1, gs, s0, s1, p0, p1⟩ := write_two
  have k0 : Try.prog.cellsOf 4 = 1 := by kernel_rfl
  have k1 : Try.prog.cellsOf 104 = 2 := by kernel_rfl
  have k2 : Try.prog.cellsOf 3 = 1 := by kernel_rfl
  have k4 : Try.prog.cellsOf 22 = 1 := by kernel_rfl
  have k3 : Try.prog.cellsOf 106 = 3 := by kernel_rfl
  rcases Go.Deep.open_slice Try.underlying40 h with ⟨hcs, _⟩ | ⟨a, len, cap, m, n, D, P, hcs, _, hl, hm, hmm, _, hc⟩
  · simp at hcs
    subst hcs
    exact ⟨[], [], rfl, rw_nil _ _, fun i hi => by simp at hi⟩
  · simp at hcs
    subst hcs
    have hlm : len ≤ m := by rw [hmm]; split <;> omega
    simp only [k3] at hc
    have ex : ∀ i, ∃ p : (Bool × Int × Value) × OW, i < m → w.cell? (a.add (i * 3)) = some (.bool p.1.1) ∧ w.cell? (a.add (i * 3 + 1)) = some (.int .i64 p.1.2.1) ∧ w.cell? (a.add (i * 3 + 2)) = some p.1.2.2 ∧ p.1.1 = p.2.1 ∧ p.1.2.1 = p.2.2.1 ∧ By w (fun _ => True) p.1.2.2 p.2.2.2 := by
      intro i
      by_cases hi : i < m
      · obtain ⟨cs', hcs, hd⟩ := hc i hi
        obtain ⟨_, hcl, hcell⟩ := World.cells?_some hcs
        obtain ⟨y0, y1, n', _, _, d0, d1⟩ := trod_struct2 hs hd
        rw [t0, o0, k0] at d0
        rw [t1, o1, k1] at d1
        obtain ⟨v0, v1, v2, rfl⟩ : ∃ v0 v1 v2, cs' = [v0, v1, v2] := by
          match cs', hcl with
          | [v0, v1, v2], _ => exact ⟨v0, v1, v2, rfl⟩
        simp at d0 d1
        obtain ⟨z0, z1, n2, _, _, q0, q1⟩ := trod_struct2 gs d1
        rw [s0, p0, k2] at q0
        rw [s1, p1, k4] at q1
        simp at q0 q1
        obtain ⟨sb, eb, _⟩ := DataW.trod_bool Try.underlying4 d0
        simp at eb
        subst eb
        obtain ⟨t, e0, _, _⟩ := DataW.trod_int Try.underlying3 q0
        simp at e0
        subst e0
        obtain ⟨l1, hb1⟩ := open_byD q1
        have c0 := hcell 0 (by omega)
        have c1 := hcell 1 (by omega)
        have c2 := hcell 2 (by omega)
        obtain ⟨cs0, hcs0, _⟩ := hc 0 (by omega)
        have c00 := (World.cells?_some hcs0).2.2 0 (by omega)
        have hcl0 := (World.cells?_some hcs0).2.1
        obtain ⟨b, off, spot⟩ := a
        have hspot : spot = none := by
          have e0 : ∀ x : Addr, x.add 0 = x := fun _ => rfl
          rw [Nat.zero_mul, e0, e0] at c00
          obtain ⟨u0, hu0⟩ : ∃ u, cs0[0]? = some u := ⟨cs0[0]'(by omega), by simp⟩
          exact World.cell?_spot (c00.trans hu0)
        subst hspot
        simp only [Addr.add_lit] at c0 c1 c2
        refine ⟨((sb, t, v2), (sb, t, l1)), fun _ => ⟨?_, ?_, ?_, rfl, rfl, hb1⟩⟩
        · simpa [Addr.add_lit] using c0
        · simpa [Addr.add_lit, Nat.add_assoc] using c1
        · simpa [Addr.add_lit, Nat.add_assoc] using c2
      · exact ⟨((false, 0, .slice none 0 0), (false, 0, [])), fun h => absurd h hi⟩
    obtain ⟨f, hf⟩ := Classical.axiomOfChoice ex
    unfold maxLen at hm
    refine ⟨(List.range len).map fun i => (f i).2, (List.range len).map fun i => (f i).1, by simp, ?_, fun i hi => ?_⟩
    · rw [show ((List.range len).map fun i => (f i).2).length = len by simp]
      refine rw_mkD hl (by omega) (fun h0 => by simp [h0, ocs]) (fun h0 => by rw [ocs_length]; simp; omega) (fun j u hu => ?_)
      have hj : j < len * 3 := by
        have := (List.getElem?_eq_some_iff.1 hu).1
        simpa [ocs_length] using this
      have hq := ocs_at ((List.range len).map fun i => (f i).1) (j / 3) (by simp; omega)
      have hv : yAt ((List.range len).map fun i => (f i).1) (j / 3) = (f (j / 3)).1 := by simp [yAt, show j / 3 < len by omega]
      rw [hv] at hq
      have hc := hf (j / 3) (by omega)
      have h3 : j = j / 3 * 3 ∨ j = j / 3 * 3 + 1 ∨ j = j / 3 * 3 + 2 := by omega
      rcases h3 with e | e | e
      · rw [← e, hu] at hq
        rw [← e] at hc
        rw [hc.1, hq.1]
      · rw [← e, hu] at hq
        rw [← e] at hc
        rw [hc.2.1, hq.2.1]
      · rw [← e, hu] at hq
        rw [← e] at hc
        rw [hc.2.2.1, hq.2.2]
    · have hi' : i < len := by simpa using hi
      have := (hf i (by omega)).2.2.2
      simpa [yAt, oAt, hi'] using this
set_option maxRecDepth 100000 in
theorem open_opS {H : Type} {enc : TypeId × Value → H} {w : World} {base : Nat} {spare : Nat → Bool} {held : Bool} {r : Reach} {b0 : Nat} {v : Value} {d : DataW H} {p : List MemPlace}
    (hv : Value.okWide Try.prog w r b0 40 v) (h : DataW.Trod enc Try.prog w base spare held 40 v d p) : ∃ (a : Option Addr) (n c : Nat) (l : List OW), v = .slice a n c ∧ Opr w (fun _ => True) (.slice a n c) l := by
  obtain ⟨a, n, c, rfl⟩ := okWide_slice Try.underlying40 hv
  obtain ⟨fuel, hf⟩ := h
  simp [Value.cells] at hf
  obtain ⟨l, h1⟩ := open_opsO hf
  exact ⟨a, n, c, l, rfl, h1⟩
end Go.Proofs.Ytcpdedpgjaimkaa

