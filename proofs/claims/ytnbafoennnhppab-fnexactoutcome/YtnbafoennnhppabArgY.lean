/-
  What is known of replies that come in as arguments.
-/
import Derived.Test.YtnbafoennnhppabRyC2
import Derived.Test.YtnbafoennnhppabArgP
import Derived.Test.YtnbafoennnhppabArgX
import Derived.Test.YtnbafoennnhppabArgK
import Derived.Deep.Slices
import Derived.ChangeSlices
namespace Go.Proofs.Ytnbafoennnhppab
open Go.ChangeShapes Go.WideShapes Go.ChangeAt Go.RowKit
set_option linter.unusedVariables false
theorem reply_five : ∃ f0 f1 f2 f3 f4 : Field, Try.prog.underlying 40 = some (.struct #[f0, f1, f2, f3, f4]) ∧ f0.type = 3 ∧ f1.type = 24 ∧ f2.type = 37 ∧ f3.type = 3 ∧ f4.type = 38 ∧ f0.offset = 0 ∧ f1.offset = 1 ∧ f2.offset = 4 ∧ f3.offset = 11 ∧ f4.offset = 12 := ⟨_, _, _, _, _, Try.underlying40, rfl, rfl, rfl, rfl, rfl, rfl, rfl, rfl, rfl, rfl⟩
theorem txY_three : ∃ f0 f1 f2 : Field, Try.prog.underlying 24 = some (.struct #[f0, f1, f2]) ∧ f0.type = 3 ∧ f1.type = 3 ∧ f2.type = 3 ∧ f0.offset = 0 ∧ f1.offset = 1 ∧ f2.offset = 2 := ⟨_, _, _, Try.underlying24, rfl, rfl, rfl, rfl, rfl, rfl⟩
theorem open_replyc {H : Type} {enc : TypeId × Value → H} {w : World} {base : Nat} {spare : Nat → Bool} {held : Bool} {fuel : Nat} {v0 v1 v2 v3 v4 v5 v6 v7 v8 v9 v10 v11 v12 : Value} {x : DataW H × List MemPlace}
    (h : DataW.trod enc Try.prog w base spare held fuel 40 [v0, v1, v2, v3, v4, v5, v6, v7, v8, v9, v10, v11, v12] = some x) : ∃ r : RY, [v0, v1, v2, v3, v4, v5, v6, v7, v8, v9, v10, v11, v12] = r.cs v12 ∧ Pr w (fun _ => True) v12 r.ps ∧ szOkP r.ps ∧ r.ky.size ≤ maxLen ∧ r.vl.size ≤ maxLen ∧ r.lo.size ≤ maxLen ∧ r.hi.size ≤ maxLen := by
  obtain ⟨f0, f1, f2, f3, f4, hs, t0, t1, t2, t3, t4, o0, o1, o2, o3, o4⟩ := reply_five
  have kSlawsPair : Try.prog.cellsOf 38 = 1 := by kernel_rfl
  have kint : Try.prog.cellsOf 3 = 1 := by kernel_rfl
  have klawsAsk : Try.prog.cellsOf 37 = 7 := by kernel_rfl
  have klawsTx : Try.prog.cellsOf 24 = 3 := by kernel_rfl
  obtain ⟨xs, n', _, rfl, hl, hlen, hf⟩ := DataW.trod_struct hs h
  match xs, hlen with
  | [y0, y1, y2, y3, y4], _ =>
    have d0 := hf 0 f0 rfl
    have d1 := hf 1 f1 rfl
    have d2 := hf 2 f2 rfl
    have d3 := hf 3 f3 rfl
    have d4 := hf 4 f4 rfl
    rw [t0, o0, kint] at d0
    rw [t1, o1, klawsTx] at d1
    rw [t2, o2, klawsAsk] at d2
    rw [t3, o3, kint] at d3
    rw [t4, o4, kSlawsPair] at d4
    simp at d0 d1 d2 d3 d4
    obtain ⟨s0, e0, _⟩ := DataW.trod_int Try.underlying3 d0
    obtain ⟨g0, g1, g2, hs2, u0, u1, u2, i0, i1, i2⟩ := txY_three
    obtain ⟨z0, z1, z2, n2, _, _, j0, j1, j2⟩ := Go.Deep.trod_struct3 hs2 d1
    rw [u0, i0, kint] at j0
    rw [u1, i1, kint] at j1
    rw [u2, i2, kint] at j2
    simp at j0 j1 j2
    obtain ⟨q0, b0, _⟩ := DataW.trod_int Try.underlying3 j0
    obtain ⟨q1, b1, _⟩ := DataW.trod_int Try.underlying3 j1
    obtain ⟨q2, b2, _⟩ := DataW.trod_int Try.underlying3 j2
    obtain ⟨k, ky, vl, lo, hi, mo, bk, a0, a1, a2, a3, a4, a5, a6, hz⟩ := open_askc d2
    obtain ⟨s3, e3, _⟩ := DataW.trod_int Try.underlying3 d3
    obtain ⟨ps, p1, p2⟩ := open_pairs d4
    simp at e0 b0 b1 b2 e3
    subst e0 b0 b1 b2 a0 a1 a2 a3 a4 a5 a6 e3
    exact ⟨⟨s0, q0, q1, q2, k, ky, vl, lo, hi, mo, bk, s3, ps⟩, rfl, p1, p2, hz⟩
theorem rw_mkY {w : World} {a : Addr} {n c : Nat} {xs : List Value} (hl : n ≤ c) (hc : c ≤ 9223372036854775807) (hx : n = 0 → xs = []) (h0 : 0 < n → 0 < xs.length) (h : ∀ j u, xs[j]? = some u → w.cell? (a.add j) = some u) : Rw w (fun _ => True) (.slice (some a) n c) n xs := by
  refine ⟨_, c, rfl, hl, hc, hx, fun h => by (cases h), fun hp => ?_⟩
  obtain ⟨b, off, spot⟩ := a
  obtain ⟨u, hu⟩ : ∃ u, xs[0]? = some u := ⟨xs[0]'(h0 hp), by simp [h0 hp]⟩
  have hc0 := h 0 u hu
  have hspot : spot = none := by simpa [Addr.add] using World.cell?_spot hc0
  subst hspot
  refine ⟨b, off, rfl, by simpa [Addr.add] using block_lt hc0, trivial, fun j v hv => ?_⟩
  have := h j v hv
  rwa [Addr.add_lit] at this
theorem rvAt_map (f : Nat → RV) (len i : Nat) (h : i < len) : rvAt ((List.range len).map f) i = f i := by simp [rvAt, h]
theorem open_replies {H : Type} {enc : TypeId × Value → H} {w : World} {base : Nat} {spare : Nat → Bool} {held : Bool} {fuel : Nat} {v : Value} {x : DataW H × List MemPlace}
    (h : DataW.trod enc Try.prog w base spare held fuel 22 [v] = some x) : ∃ rs : List RY, Yr w (fun _ => True) v rs ∧ rySz rs := by
  have k3 : Try.prog.cellsOf 40 = 13 := by kernel_rfl
  rcases Go.Deep.open_slice Try.underlying22 h with ⟨hcs, _⟩ | ⟨a, len, cap, m, n, D, P, hcs, _, hl, hm, hmm, _, hc⟩
  · simp at hcs
    subst hcs
    exact ⟨[], yr_nil _ _, fun r hr => by cases hr⟩
  · simp at hcs
    subst hcs
    have hlm : len ≤ m := by rw [hmm]; split <;> omega
    unfold maxLen at hm
    simp only [k3] at hc
    have ex : ∀ i, ∃ p : RV, i < m → (∀ j u, (p.1.cs p.2)[j]? = some u → w.cell? ((a.add (i * 13)).add j) = some u) ∧ Pr w (fun _ => True) p.2 p.1.ps ∧ szOkP p.1.ps ∧ p.1.ky.size ≤ maxLen ∧ p.1.vl.size ≤ maxLen ∧ p.1.lo.size ≤ maxLen ∧ p.1.hi.size ≤ maxLen := by
      intro i
      by_cases hi : i < m
      · obtain ⟨cs', hcs, hd⟩ := hc i hi
        obtain ⟨_, hcl, hcell⟩ := World.cells?_some hcs
        obtain ⟨v0, v1, v2, v3, v4, v5, v6, v7, v8, v9, v10, v11, v12, rfl⟩ : ∃ v0 v1 v2 v3 v4 v5 v6 v7 v8 v9 v10 v11 v12, cs' = [v0, v1, v2, v3, v4, v5, v6, v7, v8, v9, v10, v11, v12] := by
          match cs', hcl with
          | [v0, v1, v2, v3, v4, v5, v6, v7, v8, v9, v10, v11, v12], _ => exact ⟨v0, v1, v2, v3, v4, v5, v6, v7, v8, v9, v10, v11, v12, rfl⟩
        obtain ⟨r, e, p1, p2, p3⟩ := open_replyc hd
        refine ⟨(r, v12), fun _ => ⟨fun j u hu => ?_, p1, p2, p3⟩⟩
        simp only at hu
        rw [← e] at hu
        have hj : j < 13 := by simpa using (List.getElem?_eq_some_iff.1 hu).1
        have h1 := hcell j hj
        rw [h1]
        exact hu
      · exact ⟨(default, .slice none 0 0), fun h => absurd h hi⟩
    obtain ⟨f, hf⟩ := Classical.axiomOfChoice ex
    refine ⟨((List.range len).map f).map (·.1), ⟨(List.range len).map f, rfl, ?_, fun p hp => ?_⟩, fun r hr => ?_⟩
    · rw [show ((List.range len).map f).length = len by simp]
      refine rw_mkY hl (by omega) (fun h0 => by simp [h0, rycs]) (fun h0 => by rw [rycs_length]; simp; omega) (fun j u hu => ?_)
      have hj : j < len * 13 := by
        have := (List.getElem?_eq_some_iff.1 hu).1
        simpa [rycs_length] using this
      have hq := rycs_at ((List.range len).map f) (j / 13) (by simp; omega) (j % 13)
      rw [rvAt_map f len (j / 13) (by omega), show j / 13 * 13 + j % 13 = j by omega] at hq
      have hm2 : j % 13 < 13 := Nat.mod_lt _ (by omega)
      obtain ⟨u2, hu2⟩ : ∃ u2, ((f (j / 13)).1.cs (f (j / 13)).2)[j % 13]? = some u2 := ⟨_, List.getElem?_eq_getElem (by simpa [RY.cs] using hm2)⟩
      have h1 := hq u2 hu2
      rw [hu] at h1
      have h2 : u = u2 := Option.some.inj h1
      subst h2
      have h3 := (hf (j / 13) (by omega)).1 (j % 13) u hu2
      obtain ⟨b, off, spot⟩ := a
      have hspot : spot = none := by
        have h4 := (hf 0 (by omega)).1 0 (.int .i64 (f 0).1.k) rfl
        have e0 : ∀ x : Addr, x.add 0 = x := fun _ => rfl
        rw [Nat.zero_mul, e0, e0] at h4
        exact World.cell?_spot h4
      subst hspot
      rw [Addr.add_lit, Addr.add_lit] at h3
      rw [Addr.add_lit, show off + j = off + j / 13 * 13 + j % 13 by omega]
      exact h3
    · obtain ⟨i, hi, rfl⟩ := List.mem_map.1 hp
      exact (hf i (by have := List.mem_range.1 hi; omega)).2.1
    · obtain ⟨p, hp, rfl⟩ := List.mem_map.1 hr
      obtain ⟨i, hi, rfl⟩ := List.mem_map.1 hp
      have := (hf i (by have := List.mem_range.1 hi; omega)).2.2
      unfold maxLen at this
      exact this
set_option maxRecDepth 100000 in
theorem open_replyS {H : Type} {enc : TypeId × Value → H} {w : World} {base : Nat} {spare : Nat → Bool} {held : Bool} {r : Reach} {b0 : Nat} {v : Value} {d : DataW H} {p : List MemPlace}
    (hv : Value.okWide Try.prog w r b0 22 v) (h : DataW.Trod enc Try.prog w base spare held 22 v d p) : ∃ (a : Option Addr) (n c : Nat) (rs : List RY), v = .slice a n c ∧ Yr w (fun _ => True) (.slice a n c) rs ∧ rySz rs := by
  obtain ⟨a, n, c, rfl⟩ := okWide_slice Try.underlying22 hv
  obtain ⟨fuel, hf⟩ := h
  simp [Value.cells] at hf
  obtain ⟨rs, h1, h2⟩ := open_replies hf
  exact ⟨a, n, c, rs, rfl, h1, h2⟩
end Go.Proofs.Ytnbafoennnhppab

