/-
  What is known of records, rows of records and Preps that come in as arguments.
-/
import Derived.Test.YtgnjknbgahickabDoorRcM
import Derived.Deep.Strs
import Derived.Deep.Slices
import Derived.ChangeSlices
import Derived.WideShapes
import Derived.ChangeSame
import Derived.ProofKit
import Derived.OpenShut
namespace Go.Proofs.YtgnjknbgahickabDoor
open Go.ChangeShapes Go.WideShapes Go.ChangeAt Go.RowKit
theorem arrC5 {α : Type} {cs : Array α} (h : cs.size = 5) : ∃ a b c d e, cs = #[a, b, c, d, e] := by
  obtain ⟨l⟩ := cs
  match l, h with
  | [a, b, c, d, e], _ => exact ⟨a, b, c, d, e, rfl⟩
set_option maxRecDepth 100000 in
theorem rangeC_two : ∃ f0 f1 : Field, Tryd.prog.underlying 23 = some (.struct #[f0, f1]) ∧ f0.type = 9 ∧ f1.type = 9 ∧ f0.offset = 0 ∧ f1.offset = 1 := ⟨_, _, Tryd.underlying23, rfl, rfl, rfl, rfl⟩
set_option maxRecDepth 100000 in
theorem open_rngC {H : Type} {enc : TypeId × Value → H} {w : World} {base : Nat} {spare : Nat → Bool} {held : Bool} {fuel : Nat} {v0 v1 : Value} {x : DataW H × List MemPlace}
    (h : DataW.trod enc Tryd.prog w base spare held fuel 23 [v0, v1] = some x) : ∃ lo hi : ByteArray, v0 = .string lo ∧ v1 = .string hi ∧ lo.size ≤ maxLen ∧ hi.size ≤ maxLen := by
  obtain ⟨f0, f1, hs, t0, t1, o0, o1⟩ := rangeC_two
  have k0 : Tryd.prog.cellsOf 9 = 1 := by kernel_rfl
  obtain ⟨y0, y1, n', _, _, d0, d1⟩ := trod_struct2 hs h
  rw [t0, o0, k0] at d0
  rw [t1, o1, k0] at d1
  simp at d0 d1
  obtain ⟨s0, e0, _, l0⟩ := DataW.trod_string Tryd.underlying9 d0
  obtain ⟨s1, e1, _, l1⟩ := DataW.trod_string Tryd.underlying9 d1
  simp at e0 e1
  exact ⟨s0, s1, e0, e1, l0, l1⟩
set_option maxRecDepth 100000 in
theorem rec_four : ∃ f0 f1 f2 f3 : Field, Tryd.prog.underlying 25 = some (.struct #[f0, f1, f2, f3]) ∧ f0.type = 3 ∧ f1.type = 9 ∧ f2.type = 9 ∧ f3.type = 23 ∧ f0.offset = 0 ∧ f1.offset = 1 ∧ f2.offset = 2 ∧ f3.offset = 3 := ⟨_, _, _, _, Tryd.underlying25, rfl, rfl, rfl, rfl, rfl, rfl, rfl, rfl⟩
set_option maxRecDepth 100000 in
theorem open_recc {H : Type} {enc : TypeId × Value → H} {w : World} {base : Nat} {spare : Nat → Bool} {held : Bool} {fuel : Nat} {v0 v1 v2 v3 v4 : Value} {x : DataW H × List MemPlace}
    (h : DataW.trod enc Tryd.prog w base spare held fuel 25 [v0, v1, v2, v3, v4] = some x) : ∃ t : RC, v0 = .int .i64 t.1 ∧ v1 = .string t.2.1 ∧ v2 = .string t.2.2.1 ∧ v3 = .string t.2.2.2.1 ∧ v4 = .string t.2.2.2.2 ∧ t.2.1.size ≤ maxLen ∧ t.2.2.1.size ≤ maxLen ∧ t.2.2.2.1.size ≤ maxLen ∧ t.2.2.2.2.size ≤ maxLen := by
  obtain ⟨f0, f1, f2, f3, hs, t0, t1, t2, t3, o0, o1, o2, o3⟩ := rec_four
  have k0 : Tryd.prog.cellsOf 3 = 1 := by kernel_rfl
  have k1 : Tryd.prog.cellsOf 9 = 1 := by kernel_rfl
  have k2 : Tryd.prog.cellsOf 23 = 2 := by kernel_rfl
  obtain ⟨xs, n', _, rfl, hl, hlen, hf⟩ := DataW.trod_struct hs h
  match xs, hlen with
  | [y0, y1, y2, y3], _ =>
    have d0 := hf 0 f0 rfl
    have d1 := hf 1 f1 rfl
    have d2 := hf 2 f2 rfl
    have d3 := hf 3 f3 rfl
    rw [t0, o0, k0] at d0
    rw [t1, o1, k1] at d1
    rw [t2, o2, k1] at d2
    rw [t3, o3, k2] at d3
    simp at d0 d1 d2 d3
    obtain ⟨s0, e0, _⟩ := DataW.trod_int Tryd.underlying3 d0
    obtain ⟨s1, e1, _, l1⟩ := DataW.trod_string Tryd.underlying9 d1
    obtain ⟨s2, e2, _, l2⟩ := DataW.trod_string Tryd.underlying9 d2
    obtain ⟨lo, hi, e3, e4, l3, l4⟩ := open_rngC d3
    simp at e0 e1 e2
    exact ⟨(s0, s1, s2, lo, hi), e0, e1, e2, e3, e4, l1, l2, l3, l4⟩
set_option maxRecDepth 100000 in
theorem open_rec {H : Type} {enc : TypeId × Value → H} {w : World} {base : Nat} {spare : Nat → Bool} {held : Bool} {r : Reach} {b0 : Nat} {v : Value} {d : DataW H} {p : List MemPlace}
    (hv : Value.okWide Tryd.prog w r b0 25 v) (h : DataW.Trod enc Tryd.prog w base spare held 25 v d p) : ∃ (k : Int) (ky vl lo hi : ByteArray), v = .agg #[.int .i64 k, .string ky, .string vl, .string lo, .string hi] ∧ ky.size ≤ maxLen ∧ vl.size ≤ maxLen ∧ lo.size ≤ maxLen ∧ hi.size ≤ maxLen := by
  obtain ⟨f0, f1, f2, f3, hs, _⟩ := rec_four
  obtain ⟨cs, rfl, hsz⟩ := okWide_struct hs hv
  obtain ⟨c0, c1, c2, c3, c4, rfl⟩ := arrC5 (hsz.trans (by kernel_rfl))
  obtain ⟨fuel, hf⟩ := h
  simp [Value.cells] at hf
  obtain ⟨t, rfl, rfl, rfl, rfl, rfl, hl⟩ := open_recc hf
  exact ⟨t.1, t.2.1, t.2.2.1, t.2.2.2.1, t.2.2.2.2, rfl, hl⟩
theorem rw_mkC {w : World} {a : Addr} {n c : Nat} {xs : List Value} (hl : n ≤ c) (hc : c ≤ 9223372036854775807) (hx : n = 0 → xs = []) (h0 : 0 < n → 0 < xs.length) (h : ∀ j u, xs[j]? = some u → w.cell? (a.add j) = some u) : Rw w (fun _ => True) (.slice (some a) n c) n xs := by
  refine ⟨_, c, rfl, hl, hc, hx, fun h => by (cases h), fun hp => ?_⟩
  obtain ⟨b, off, spot⟩ := a
  obtain ⟨u, hu⟩ : ∃ u, xs[0]? = some u := ⟨xs[0]'(h0 hp), by simp [h0 hp]⟩
  have hc0 := h 0 u hu
  have hspot : spot = none := by simpa [Addr.add] using World.cell?_spot hc0
  subst hspot
  refine ⟨b, off, rfl, by simpa [Addr.add] using block_lt hc0, trivial, fun j v hv => ?_⟩
  have := h j v hv
  rwa [Addr.add_lit] at this
set_option maxRecDepth 100000 in
theorem open_recr {H : Type} {enc : TypeId × Value → H} {w : World} {base : Nat} {spare : Nat → Bool} {held : Bool} {fuel : Nat} {v : Value} {x : DataW H × List MemPlace}
    (h : DataW.trod enc Tryd.prog w base spare held fuel 39 [v] = some x) : ∃ l : List RC, rcR w (fun _ => True) v l ∧ rcSz l := by
  have k3 : Tryd.prog.cellsOf 25 = 5 := by kernel_rfl
  rcases Go.Deep.open_slice Tryd.underlying39 h with ⟨hcs, _⟩ | ⟨a, len, cap, m, n, D, P, hcs, _, hl, hm, hmm, _, hc⟩
  · simp at hcs
    subst hcs
    exact ⟨[], rw_nil _ _, fun i => by simp [rcAt, rc0]; decide⟩
  · simp at hcs
    subst hcs
    have hlm : len ≤ m := by rw [hmm]; split <;> omega
    simp only [k3] at hc
    have ex : ∀ i, ∃ p : RC, i < m → (w.cell? (a.add (i * 5)) = some (.int .i64 p.1) ∧ w.cell? (a.add (i * 5 + 1)) = some (.string p.2.1) ∧ w.cell? (a.add (i * 5 + 2)) = some (.string p.2.2.1) ∧ w.cell? (a.add (i * 5 + 3)) = some (.string p.2.2.2.1) ∧ w.cell? (a.add (i * 5 + 4)) = some (.string p.2.2.2.2)) ∧ p.2.1.size ≤ maxLen ∧ p.2.2.1.size ≤ maxLen ∧ p.2.2.2.1.size ≤ maxLen ∧ p.2.2.2.2.size ≤ maxLen := by
      intro i
      by_cases hi : i < m
      · obtain ⟨cs', hcs, hd⟩ := hc i hi
        obtain ⟨_, hcl, hcell⟩ := World.cells?_some hcs
        obtain ⟨v0, v1, v2, v3, v4, rfl⟩ : ∃ v0 v1 v2 v3 v4, cs' = [v0, v1, v2, v3, v4] := by
          match cs', hcl with
          | [v0, v1, v2, v3, v4], _ => exact ⟨v0, v1, v2, v3, v4, rfl⟩
        obtain ⟨t, rfl, rfl, rfl, rfl, rfl, hl4⟩ := open_recc hd
        have c0 := hcell 0 (by omega)
        have c1 := hcell 1 (by omega)
        have c2 := hcell 2 (by omega)
        have c3 := hcell 3 (by omega)
        have c4 := hcell 4 (by omega)
        obtain ⟨cs0, hcs0, _⟩ := hc 0 (by omega)
        have c00 := (World.cells?_some hcs0).2.2 0 (by omega)
        have hcl0 := (World.cells?_some hcs0).2.1
        obtain ⟨b, off, spot⟩ := a
        have hspot : spot = none := by
          have e0 : ∀ x : Addr, x.add 0 = x := fun _ => rfl
          rw [Nat.zero_mul, e0, e0] at c00
          obtain ⟨u0, hu0⟩ : ∃ u, cs0[0]? = some u := ⟨cs0[0]'(by omega), by simp⟩
          exact World.cell?_spot (c00.trans hu0)
        subst hspot
        simp only [Addr.add_lit] at c0 c1 c2 c3 c4
        refine ⟨t, fun _ => ⟨⟨?_, ?_, ?_, ?_, ?_⟩, hl4⟩⟩
        · simpa [Addr.add_lit] using c0
        · simpa [Addr.add_lit, Nat.add_assoc] using c1
        · simpa [Addr.add_lit, Nat.add_assoc] using c2
        · simpa [Addr.add_lit, Nat.add_assoc] using c3
        · simpa [Addr.add_lit, Nat.add_assoc] using c4
      · exact ⟨rc0, fun h => absurd h hi⟩
    obtain ⟨f, hf⟩ := Classical.axiomOfChoice ex
    unfold maxLen at hm hf
    refine ⟨(List.range len).map f, ?_, fun i => ?_⟩
    · unfold rcR
      rw [show ((List.range len).map f).length = len by simp]
      refine rw_mkC hl (by omega) (fun h0 => by simp [h0, rccs]) (fun h0 => by rw [rccs_length]; simp; omega) (fun j u hu => ?_)
      have hj : j < len * 5 := by
        have := (List.getElem?_eq_some_iff.1 hu).1
        simpa [rccs_length] using this
      have hq := rccs_at ((List.range len).map f) (j / 5) (by simp; omega)
      have hv : rcAt ((List.range len).map f) (j / 5) = f (j / 5) := by simp [rcAt, show j / 5 < len by omega]
      rw [hv] at hq
      have hc := (hf (j / 5) (by omega)).1
      have h3 : j = j / 5 * 5 ∨ j = j / 5 * 5 + 1 ∨ j = j / 5 * 5 + 2 ∨ j = j / 5 * 5 + 3 ∨ j = j / 5 * 5 + 4 := by omega
      rcases h3 with e | e | e | e | e
      · rw [← e, hu] at hq
        rw [← e] at hc
        rw [hc.1, hq.1]
      · rw [← e, hu] at hq
        rw [← e] at hc
        rw [hc.2.1, hq.2.1]
      · rw [← e, hu] at hq
        rw [← e] at hc
        rw [hc.2.2.1, hq.2.2.1]
      · rw [← e, hu] at hq
        rw [← e] at hc
        rw [hc.2.2.2.1, hq.2.2.2.1]
      · rw [← e, hu] at hq
        rw [← e] at hc
        rw [hc.2.2.2.2, hq.2.2.2.2]
    · by_cases hi : i < len
      · have := (hf i (by omega)).2
        simpa [rcAt, hi] using this
      · simp [rcAt, hi, rc0]
        decide
set_option maxRecDepth 100000 in
theorem prep_two : ∃ f0 f1 : Field, Tryd.prog.underlying 41 = some (.struct #[f0, f1]) ∧ f0.type = 38 ∧ f1.type = 39 ∧ f0.offset = 0 ∧ f1.offset = 3 := ⟨_, _, Tryd.underlying41, rfl, rfl, rfl, rfl⟩
set_option maxRecDepth 100000 in
theorem txC_three : ∃ f0 f1 f2 : Field, Tryd.prog.underlying 38 = some (.struct #[f0, f1, f2]) ∧ f0.type = 3 ∧ f1.type = 3 ∧ f2.type = 3 ∧ f0.offset = 0 ∧ f1.offset = 1 ∧ f2.offset = 2 := ⟨_, _, _, Tryd.underlying38, rfl, rfl, rfl, rfl, rfl, rfl⟩
theorem arrC4 {α : Type} {cs : Array α} (h : cs.size = 4) : ∃ a b c d, cs = #[a, b, c, d] := by
  obtain ⟨l⟩ := cs
  match l, h with
  | [a, b, c, d], _ => exact ⟨a, b, c, d, rfl⟩
set_option maxRecDepth 100000 in
theorem open_prep {H : Type} {enc : TypeId × Value → H} {w : World} {base : Nat} {spare : Nat → Bool} {held : Bool} {r : Reach} {b0 : Nat} {v : Value} {d : DataW H} {q : List MemPlace}
    (hv : Value.okWide Tryd.prog w r b0 41 v) (h : DataW.Trod enc Tryd.prog w base spare held 41 v d q) :
    ∃ (c e n : Int) (ra : Option Addr) (rn rc : Nat) (rl : List RC), v = .agg #[.int .i64 c, .int .i64 e, .int .i64 n, .slice ra rn rc] ∧ rcR w (fun _ => True) (.slice ra rn rc) rl ∧ rcSz rl := by
  obtain ⟨f0, f1, hs, t0, t1, o0, o1⟩ := prep_two
  obtain ⟨cs, rfl, hsz⟩ := okWide_struct hs hv
  obtain ⟨c0, c1, c2, c3, rfl⟩ := arrC4 (hsz.trans (by kernel_rfl))
  obtain ⟨fuel, hf⟩ := h
  obtain ⟨y0, y1, n, hx, _, h0, h1⟩ := trod_struct2 hs hf
  have k0 : Tryd.prog.cellsOf 38 = 3 := by kernel_rfl
  have k : Tryd.prog.cellsOf 39 = 1 := by kernel_rfl
  rw [t0, o0, k0] at h0
  rw [t1, o1, k] at h1
  simp [Value.cells] at h0 h1
  obtain ⟨rl, p1, p2⟩ := open_recr h1
  obtain ⟨ra, rc, rfl, _⟩ := Rw.shape p1
  obtain ⟨g0, g1, g2, hs2, s0, s1, s2, i0, i1, i2⟩ := txC_three
  have kk : Tryd.prog.cellsOf 3 = 1 := by kernel_rfl
  obtain ⟨z0, z1, z2, n', _, _, d0, d1, d2⟩ := Go.Deep.trod_struct3 hs2 h0
  rw [s0, i0, kk] at d0
  rw [s1, i1, kk] at d1
  rw [s2, i2, kk] at d2
  simp at d0 d1 d2
  obtain ⟨q0, e0, _⟩ := DataW.trod_int Tryd.underlying3 d0
  obtain ⟨q1, e1, _⟩ := DataW.trod_int Tryd.underlying3 d1
  obtain ⟨q2, e2, _⟩ := DataW.trod_int Tryd.underlying3 d2
  simp at e0 e1 e2
  subst e0 e1 e2
  exact ⟨q0, q1, q2, ra, _, rc, rl, rfl, p1, p2⟩
end Go.Proofs.YtgnjknbgahickabDoor

