/-
  What is known of disks that come in as arguments.
-/
import Derived.Test.YtcpdedpgjaimkaaDkP
import Derived.Test.YtcpdedpgjaimkaaNodeL
import Derived.Deep.Strs
import Derived.Deep.Slices
import Derived.ChangeSlices
import Derived.WideShapes
import Derived.ChangeSame
import Derived.ProofKit
import Derived.OpenShut
namespace Go.Proofs.Ytcpdedpgjaimkaa
open Go.ChangeShapes Go.WideShapes Go.ChangeAt Go.RowKit
theorem rw_mkD {w : World} {a : Addr} {n c : Nat} {xs : List Value} (hl : n ≤ c) (hc : c ≤ 9223372036854775807) (hx : n = 0 → xs = []) (h0 : 0 < n → 0 < xs.length) (h : ∀ j u, xs[j]? = some u → w.cell? (a.add j) = some u) : Rw w (fun _ => True) (.slice (some a) n c) n xs := by
  refine ⟨_, c, rfl, hl, hc, hx, fun h => by (cases h), fun hp => ?_⟩
  obtain ⟨b, off, spot⟩ := a
  obtain ⟨u, hu⟩ : ∃ u, xs[0]? = some u := ⟨xs[0]'(h0 hp), by simp [h0 hp]⟩
  have hc0 := h 0 u hu
  have hspot : spot = none := by simpa [Addr.add] using World.cell?_spot hc0
  subst hspot
  refine ⟨b, off, rfl, by simpa [Addr.add] using block_lt hc0, trivial, fun j v hv => ?_⟩
  have := h j v hv
  rwa [Addr.add_lit] at this
set_option maxRecDepth 100000 in
theorem open_byD {H : Type} {enc : TypeId × Value → H} {w : World} {base : Nat} {spare : Nat → Bool} {held : Bool} {fuel : Nat} {v : Value} {x : DataW H × List MemPlace}
    (h : DataW.trod enc Try.prog w base spare held fuel 22 [v] = some x) : ∃ l : List Int, By w (fun _ => True) v l := by
  rcases open_ints Try.underlying22 Try.underlying5 (by kernel_rfl) h with ⟨hcs, _⟩ | ⟨a, len, cap, zs, hcs, _, hl, hm, hz, _, hcell, hwz⟩
  · simp at hcs
    subst hcs
    exact ⟨[], rw_nil _ _, fun i => by simp⟩
  · simp at hcs
    subst hcs
    have hlm : len ≤ zs.length := by rw [hz]; split <;> omega
    unfold maxLen at hm
    refine ⟨zs.take len, ?_, fun i => ?_⟩
    · rw [show (zs.take len).length = len by simp; omega]
      refine rw_mkD hl (by omega) (fun h0 => by simp [h0]) (fun h0 => by simp; omega) (fun j u hu => ?_)
      have hj : j < len := by
        have := (List.getElem?_eq_some_iff.1 hu).1
        simp at this
        omega
      have := hcell j (by omega)
      rw [this]
      simp [hj, show j < zs.length by omega] at hu
      simp [show j < zs.length by omega, hu]
    · by_cases hi : i < (zs.take len).length
      · have hmem : (zs.take len)[i] ∈ zs := List.mem_of_mem_take (List.getElem_mem hi)
        have := hwz _ hmem
        rw [List.getElem?_eq_getElem hi]
        simpa [Lit.wf, IntKind.min, IntKind.max, IntKind.signed, IntKind.bits] using this
      · rw [List.getElem?_eq_none (by omega)]; simp
set_option maxRecDepth 100000 in
theorem open_irD {H : Type} {enc : TypeId × Value → H} {w : World} {base : Nat} {spare : Nat → Bool} {held : Bool} {r : Reach} {b0 : Nat} {v : Value} {d : DataW H} {q : List MemPlace}
    (hv : Value.okWide Try.prog w r b0 156 v) (h : DataW.Trod enc Try.prog w base spare held 156 v d q) : ∃ (a : Option Addr) (n c : Nat) (l : List Int), v = .slice a n c ∧ Ir w (fun _ => True) (.slice a n c) l := by
  obtain ⟨a, n, c, rfl⟩ := okWide_slice Try.underlying156 hv
  obtain ⟨fuel, hf⟩ := h
  refine ⟨a, n, c, ?_⟩
  rcases open_ints Try.underlying156 Try.underlying3 (by kernel_rfl) hf with ⟨hcs, _⟩ | ⟨a, len, cap, zs, hcs, _, hl, hm, hz, _, hcell, _⟩
  · simp [Value.cells] at hcs
    obtain ⟨rfl, rfl, rfl⟩ := hcs
    exact ⟨[], rfl, rw_nil _ _⟩
  · simp [Value.cells] at hcs
    obtain ⟨rfl, rfl, rfl⟩ := hcs
    have hlm : n ≤ zs.length := by rw [hz]; split <;> omega
    unfold maxLen at hm
    refine ⟨zs.take n, rfl, ?_⟩
    unfold Ir
    rw [show (zs.take n).length = n by simp; omega]
    refine rw_mkD hl (by omega) (fun h0 => by simp [h0]) (fun h0 => by simp; omega) (fun j u hu => ?_)
    have hj : j < n := by
      have := (List.getElem?_eq_some_iff.1 hu).1
      simp at this
      omega
    have := hcell j (by omega)
    rw [this]
    simp [hj, show j < zs.length by omega] at hu
    simp [show j < zs.length by omega, hu]
set_option maxRecDepth 100000 in
theorem sheet_one : ∃ f0 : Field, Try.prog.underlying 177 = some (.struct #[f0]) ∧ f0.type = 22 ∧ f0.offset = 0 := ⟨_, Try.underlying177, rfl, rfl⟩
set_option maxRecDepth 100000 in
theorem write_two : ∃ f0 f1 : Field, Try.prog.underlying 104 = some (.struct #[f0, f1]) ∧ f0.type = 3 ∧ f1.type = 22 ∧ f0.offset = 0 ∧ f1.offset = 1 := ⟨_, _, Try.underlying104, rfl, rfl, rfl, rfl⟩
set_option maxRecDepth 100000 in
theorem disk_two : ∃ f0 f1 : Field, Try.prog.underlying 39 = some (.struct #[f0, f1]) ∧ f0.type = 36 ∧ f1.type = 37 ∧ f0.offset = 0 ∧ f1.offset = 1 := ⟨_, _, Try.underlying39, rfl, rfl, rfl, rfl⟩
set_option maxRecDepth 100000 in
theorem open_shtsD {H : Type} {enc : TypeId × Value → H} {w : World} {base : Nat} {spare : Nat → Bool} {held : Bool} {fuel : Nat} {v : Value} {x : DataW H × List MemPlace}
    (h : DataW.trod enc Try.prog w base spare held fuel 36 [v] = some x) : ∃ ss : List (List Int), Shr w (fun _ => True) v ss := by
  obtain ⟨f0, hs, t0, o0⟩ := sheet_one
  have k0 : Try.prog.cellsOf 22 = 1 := by kernel_rfl
  rcases Go.Deep.open_slice1 Try.underlying36 (by kernel_rfl) h with ⟨hcs, _⟩ | ⟨a, len, cap, m, n, V, D, P, hcs, _, hl, hm, hmm, _, hc⟩
  · simp at hcs
    subst hcs
    exact ⟨[], [], rfl, rw_nil _ _, fun i hi => by simp at hi⟩
  · simp at hcs
    subst hcs
    have hlm : len ≤ m := by rw [hmm]; split <;> omega
    have ex : ∀ i, ∃ l : List Int, i < m → By w (fun _ => True) (V i) l := by
      intro i
      by_cases hi : i < m
      · obtain ⟨_, hd⟩ := hc i hi
        obtain ⟨y0, n', _, _, d0⟩ := trod_struct1 hs hd
        rw [t0, o0, k0] at d0
        simp at d0
        obtain ⟨l, hl⟩ := open_byD d0
        exact ⟨l, fun _ => hl⟩
      · exact ⟨[], fun h => absurd h hi⟩
    obtain ⟨f, hf⟩ := Classical.axiomOfChoice ex
    unfold maxLen at hm
    refine ⟨(List.range len).map f, (List.range len).map V, by simp, ?_, fun i hi => ?_⟩
    · rw [show ((List.range len).map f).length = len by simp]
      refine rw_mkD hl (by omega) (fun h0 => by simp [h0]) (fun h0 => by simp; omega) (fun j u hu => ?_)
      have hj : j < len := by
        have := (List.getElem?_eq_some_iff.1 hu).1
        simpa using this
      simp [hj] at hu
      rw [← hu]
      exact (hc j (by omega)).1
    · have hi' : i < len := by simpa using hi
      have := hf i (by omega)
      simpa [uAt, shAt, hi'] using this
set_option maxRecDepth 100000 in
theorem open_wrtsD {H : Type} {enc : TypeId × Value → H} {w : World} {base : Nat} {spare : Nat → Bool} {held : Bool} {fuel : Nat} {v : Value} {x : DataW H × List MemPlace}
    (h : DataW.trod enc Try.prog w base spare held fuel 37 [v] = some x) : ∃ ds : List DW, Wrr w (fun _ => True) v ds := by
  obtain ⟨f0, f1, hs, t0, t1, o0, o1⟩ := write_two
  have k0 : Try.prog.cellsOf 3 = 1 := by kernel_rfl
  have k1 : Try.prog.cellsOf 22 = 1 := by kernel_rfl
  have k3 : Try.prog.cellsOf 104 = 2 := by kernel_rfl
  rcases Go.Deep.open_slice Try.underlying37 h with ⟨hcs, _⟩ | ⟨a, len, cap, m, n, D, P, hcs, _, hl, hm, hmm, _, hc⟩
  · simp at hcs
    subst hcs
    exact ⟨[], [], rfl, rw_nil _ _, fun i hi => by simp at hi⟩
  · simp at hcs
    subst hcs
    have hlm : len ≤ m := by rw [hmm]; split <;> omega
    simp only [k3] at hc
    have ex : ∀ i, ∃ p : (Int × Value) × DW, i < m → w.cell? (a.add (i * 2)) = some (.int .i64 p.1.1) ∧ w.cell? (a.add (i * 2 + 1)) = some p.1.2 ∧ p.1.1 = p.2.1 ∧ By w (fun _ => True) p.1.2 p.2.2 := by
      intro i
      by_cases hi : i < m
      · obtain ⟨cs', hcs, hd⟩ := hc i hi
        obtain ⟨_, hcl, hcell⟩ := World.cells?_some hcs
        obtain ⟨y0, y1, n', _, _, d0, d1⟩ := trod_struct2 hs hd
        rw [t0, o0, k0] at d0
        rw [t1, o1, k1] at d1
        obtain ⟨v0, v1, rfl⟩ : ∃ v0 v1, cs' = [v0, v1] := by
          match cs', hcl with
          | [v0, v1], _ => exact ⟨v0, v1, rfl⟩
        simp at d0 d1
        obtain ⟨t, e0, _, _⟩ := DataW.trod_int Try.underlying3 d0
        simp at e0
        subst e0
        obtain ⟨l1, p1⟩ := open_byD d1
        have c0 := hcell 0 (by omega)
        have c1 := hcell 1 (by omega)
        obtain ⟨cs0, hcs0, _⟩ := hc 0 (by omega)
        have c00 := (World.cells?_some hcs0).2.2 0 (by omega)
        have hcl0 := (World.cells?_some hcs0).2.1
        obtain ⟨b, off, spot⟩ := a
        have hspot : spot = none := by
          have e0 : ∀ x : Addr, x.add 0 = x := fun _ => rfl
          rw [Nat.zero_mul, e0, e0] at c00
          obtain ⟨u0, hu0⟩ : ∃ u, cs0[0]? = some u := ⟨cs0[0]'(by omega), by simp⟩
          exact World.cell?_spot (c00.trans hu0)
        subst hspot
        simp only [Addr.add_lit] at c0 c1
        refine ⟨((t, v1), (t, l1)), fun _ => ⟨?_, ?_, rfl, p1⟩⟩
        · simpa [Addr.add_lit] using c0
        · simpa [Addr.add_lit, Nat.add_assoc] using c1
      · exact ⟨((0, .slice none 0 0), (0, [])), fun h => absurd h hi⟩
    obtain ⟨f, hf⟩ := Classical.axiomOfChoice ex
    unfold maxLen at hm
    refine ⟨(List.range len).map fun i => (f i).2, (List.range len).map fun i => (f i).1, by simp, ?_, fun i hi => ?_⟩
    · rw [show ((List.range len).map fun i => (f i).2).length = len by simp]
      refine rw_mkD hl (by omega) (fun h0 => by simp [h0, wcs]) (fun h0 => by rw [wcs_length]; simp; omega) (fun j u hu => ?_)
      have hj : j < len * 2 := by
        have := (List.getElem?_eq_some_iff.1 hu).1
        simpa [wcs_length] using this
      have hq := wcs_at ((List.range len).map fun i => (f i).1) (j / 2) (by simp; omega)
      have hv : xAt ((List.range len).map fun i => (f i).1) (j / 2) = (f (j / 2)).1 := by simp [xAt, show j / 2 < len by omega]
      rw [hv] at hq
      have hc := hf (j / 2) (by omega)
      have h3 : j = j / 2 * 2 ∨ j = j / 2 * 2 + 1 := by omega
      rcases h3 with e | e
      · rw [← e, hu] at hq
        rw [← e] at hc
        rw [hc.1, hq.1]
      · rw [← e, hu] at hq
        rw [← e] at hc
        rw [hc.2.1, hq.2]
    · have hi' : i < len := by simpa using hi
      have := (hf i (by omega)).2.2
      simpa [xAt, dwAt, hi'] using this
theorem arrD {α : Type} {cs : Array α} (h : cs.size = 2) : ∃ a b, cs = #[a, b] := by
  obtain ⟨l⟩ := cs
  match l, h with
  | [a, b], _ => exact ⟨a, b, rfl⟩
set_option maxRecDepth 100000 in
theorem open_disk {H : Type} {enc : TypeId × Value → H} {w : World} {base : Nat} {spare : Nat → Bool} {held : Bool} {r : Reach} {b0 : Nat} {v : Value} {d : DataW H} {q : List MemPlace}
    (hv : Value.okWide Try.prog w r b0 39 v) (h : DataW.Trod enc Try.prog w base spare held 39 v d q) :
    ∃ (sa : Option Addr) (sn sc : Nat) (da : Option Addr) (dn dc : Nat) (d : DK), v = .agg #[.slice sa sn sc, .slice da dn dc] ∧ Dk w (fun _ => True) sa sn sc da dn dc d := by
  obtain ⟨f0, f1, hs, t0, t1, o0, o1⟩ := disk_two
  obtain ⟨cs, rfl, hsz⟩ := okWide_struct hs hv
  obtain ⟨c0, c1, rfl⟩ := arrD (hsz.trans (by kernel_rfl))
  obtain ⟨fuel, hf⟩ := h
  obtain ⟨y0, y1, n', _, _, d0, d1⟩ := trod_struct2 hs hf
  have k1 : Try.prog.cellsOf 36 = 1 := by kernel_rfl
  have k2 : Try.prog.cellsOf 37 = 1 := by kernel_rfl
  rw [t0, o0, k1] at d0
  rw [t1, o1, k2] at d1
  simp [Value.cells] at d0 d1
  obtain ⟨l0, p0⟩ := open_shtsD d0
  obtain ⟨l1, p1⟩ := open_wrtsD d1
  obtain ⟨a0, e0, rfl, _⟩ := p0.shape
  obtain ⟨a1, e1, rfl, _⟩ := p1.shape
  exact ⟨_, _, _, _, _, _, ⟨l0, l1⟩, rfl, ⟨p0, p1⟩⟩
end Go.Proofs.Ytcpdedpgjaimkaa

