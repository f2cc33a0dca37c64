/-
  What is known of names of transactions, of locks and of tables of locks that come in as arguments.
-/
import Derived.Test.YtbaggkfgnjenoaaLkP
import Derived.Deep.Strs
import Derived.Deep.Slices
import Derived.ChangeSlices
import Derived.WideShapes
import Derived.ChangeSame
import Derived.ProofKit
import Derived.OpenShut
namespace Go.Proofs.Ytbaggkfgnjenoaa
open Go.ChangeShapes Go.WideShapes Go.ChangeAt Go.RowKit
theorem arrX3 {α : Type} {cs : Array α} (h : cs.size = 3) : ∃ a b c, cs = #[a, b, c] := by
  obtain ⟨l⟩ := cs
  match l, h with
  | [a, b, c], _ => exact ⟨a, b, c, rfl⟩
theorem arrX6 {α : Type} {cs : Array α} (h : cs.size = 6) : ∃ a b c d e f, cs = #[a, b, c, d, e, f] := by
  obtain ⟨l⟩ := cs
  match l, h with
  | [a, b, c, d, e, f], _ => exact ⟨a, b, c, d, e, f, rfl⟩
theorem arrX2 {α : Type} {cs : Array α} (h : cs.size = 2) : ∃ a b, cs = #[a, b] := by
  obtain ⟨l⟩ := cs
  match l, h with
  | [a, b], _ => exact ⟨a, b, rfl⟩
set_option maxRecDepth 100000 in
theorem tx_three : ∃ f0 f1 f2 : Field, Try.prog.underlying 46 = some (.struct #[f0, f1, f2]) ∧ f0.type = 3 ∧ f1.type = 3 ∧ f2.type = 3 ∧ f0.offset = 0 ∧ f1.offset = 1 ∧ f2.offset = 2 := ⟨_, _, _, Try.underlying46, rfl, rfl, rfl, rfl, rfl, rfl⟩
set_option maxRecDepth 100000 in
theorem open_txc {H : Type} {enc : TypeId × Value → H} {w : World} {base : Nat} {spare : Nat → Bool} {held : Bool} {fuel : Nat} {v0 v1 v2 : Value} {x : DataW H × List MemPlace}
    (h : DataW.trod enc Try.prog w base spare held fuel 46 [v0, v1, v2] = some x) : ∃ t : TX, v0 = .int .i64 t.1 ∧ v1 = .int .i64 t.2.1 ∧ v2 = .int .i64 t.2.2 := by
  obtain ⟨f0, f1, f2, hs, t0, t1, t2, o0, o1, o2⟩ := tx_three
  have k0 : Try.prog.cellsOf 3 = 1 := by kernel_rfl
  obtain ⟨y0, y1, y2, n', _, _, d0, d1, d2⟩ := Go.Deep.trod_struct3 hs h
  rw [t0, o0, k0] at d0
  rw [t1, o1, k0] at d1
  rw [t2, o2, k0] at d2
  simp at d0 d1 d2
  obtain ⟨s0, e0, _⟩ := DataW.trod_int Try.underlying3 d0
  obtain ⟨s1, e1, _⟩ := DataW.trod_int Try.underlying3 d1
  obtain ⟨s2, e2, _⟩ := DataW.trod_int Try.underlying3 d2
  simp at e0 e1 e2
  exact ⟨(s0, s1, s2), e0, e1, e2⟩
set_option maxRecDepth 100000 in
theorem open_tx {H : Type} {enc : TypeId × Value → H} {w : World} {base : Nat} {spare : Nat → Bool} {held : Bool} {r : Reach} {b0 : Nat} {v : Value} {d : DataW H} {p : List MemPlace}
    (hv : Value.okWide Try.prog w r b0 46 v) (h : DataW.Trod enc Try.prog w base spare held 46 v d p) : ∃ c e n : Int, v = .agg #[.int .i64 c, .int .i64 e, .int .i64 n] := by
  obtain ⟨f0, f1, f2, hs, t0, t1, t2, o0, o1, o2⟩ := tx_three
  obtain ⟨cs, rfl, hsz⟩ := okWide_struct hs hv
  obtain ⟨c0, c1, c2, rfl⟩ := arrX3 (hsz.trans (by kernel_rfl))
  obtain ⟨fuel, hf⟩ := h
  simp [Value.cells] at hf
  obtain ⟨t, rfl, rfl, rfl⟩ := open_txc hf
  exact ⟨t.1, t.2.1, t.2.2, rfl⟩
set_option maxRecDepth 100000 in
theorem rangeX_two : ∃ f0 f1 : Field, Try.prog.underlying 47 = some (.struct #[f0, f1]) ∧ f0.type = 9 ∧ f1.type = 9 ∧ f0.offset = 0 ∧ f1.offset = 1 := ⟨_, _, Try.underlying47, rfl, rfl, rfl, rfl⟩
set_option maxRecDepth 100000 in
theorem open_rngc {H : Type} {enc : TypeId × Value → H} {w : World} {base : Nat} {spare : Nat → Bool} {held : Bool} {fuel : Nat} {v0 v1 : Value} {x : DataW H × List MemPlace}
    (h : DataW.trod enc Try.prog w base spare held fuel 47 [v0, v1] = some x) : ∃ lo hi : ByteArray, v0 = .string lo ∧ v1 = .string hi ∧ lo.size ≤ maxLen ∧ hi.size ≤ maxLen := by
  obtain ⟨f0, f1, hs, t0, t1, o0, o1⟩ := rangeX_two
  have k0 : Try.prog.cellsOf 9 = 1 := by kernel_rfl
  obtain ⟨y0, y1, n', _, _, d0, d1⟩ := trod_struct2 hs h
  rw [t0, o0, k0] at d0
  rw [t1, o1, k0] at d1
  simp at d0 d1
  obtain ⟨s0, e0, _, l0⟩ := DataW.trod_string Try.underlying9 d0
  obtain ⟨s1, e1, _, l1⟩ := DataW.trod_string Try.underlying9 d1
  simp at e0 e1
  exact ⟨s0, s1, e0, e1, l0, l1⟩
def szOkL (l : List LK) : Prop := ∀ i, (lAt l i).2.1.1.size ≤ 9223372036854775807 ∧ (lAt l i).2.1.2.size ≤ 9223372036854775807
set_option maxRecDepth 100000 in
theorem lock_three : ∃ f0 f1 f2 : Field, Try.prog.underlying 49 = some (.struct #[f0, f1, f2]) ∧ f0.type = 46 ∧ f1.type = 47 ∧ f2.type = 4 ∧ f0.offset = 0 ∧ f1.offset = 3 ∧ f2.offset = 5 := ⟨_, _, _, Try.underlying49, rfl, rfl, rfl, rfl, rfl, rfl⟩
set_option maxRecDepth 100000 in
theorem open_lockc {H : Type} {enc : TypeId × Value → H} {w : World} {base : Nat} {spare : Nat → Bool} {held : Bool} {fuel : Nat} {v0 v1 v2 v3 v4 v5 : Value} {x : DataW H × List MemPlace}
    (h : DataW.trod enc Try.prog w base spare held fuel 49 [v0, v1, v2, v3, v4, v5] = some x) : ∃ t : LK, v0 = .int .i64 t.1.1 ∧ v1 = .int .i64 t.1.2.1 ∧ v2 = .int .i64 t.1.2.2 ∧ v3 = .string t.2.1.1 ∧ v4 = .string t.2.1.2 ∧ v5 = .bool t.2.2 ∧ t.2.1.1.size ≤ maxLen ∧ t.2.1.2.size ≤ maxLen := by
  obtain ⟨f0, f1, f2, hs, t0, t1, t2, o0, o1, o2⟩ := lock_three
  have k0 : Try.prog.cellsOf 46 = 3 := by kernel_rfl
  have k1 : Try.prog.cellsOf 47 = 2 := by kernel_rfl
  have k2 : Try.prog.cellsOf 4 = 1 := by kernel_rfl
  obtain ⟨y0, y1, y2, n', _, _, d0, d1, d2⟩ := Go.Deep.trod_struct3 hs h
  rw [t0, o0, k0] at d0
  rw [t1, o1, k1] at d1
  rw [t2, o2, k2] at d2
  simp at d0 d1 d2
  obtain ⟨t, e0, e1, e2⟩ := open_txc d0
  obtain ⟨lo, hi, e3, e4, l0, l1⟩ := open_rngc d1
  obtain ⟨b, e5, _⟩ := DataW.trod_bool Try.underlying4 d2
  simp at e5
  exact ⟨(t, (lo, hi), b), e0, e1, e2, e3, e4, e5, l0, l1⟩
set_option maxRecDepth 100000 in
theorem open_lock {H : Type} {enc : TypeId × Value → H} {w : World} {base : Nat} {spare : Nat → Bool} {held : Bool} {r : Reach} {b0 : Nat} {v : Value} {d : DataW H} {p : List MemPlace}
    (hv : Value.okWide Try.prog w r b0 49 v) (h : DataW.Trod enc Try.prog w base spare held 49 v d p) : ∃ (c e n : Int) (lo hi : ByteArray) (ex : Bool), v = .agg #[.int .i64 c, .int .i64 e, .int .i64 n, .string lo, .string hi, .bool ex] ∧ lo.size ≤ maxLen ∧ hi.size ≤ maxLen := by
  obtain ⟨f0, f1, f2, hs, t0, t1, t2, o0, o1, o2⟩ := lock_three
  obtain ⟨cs, rfl, hsz⟩ := okWide_struct hs hv
  obtain ⟨c0, c1, c2, c3, c4, c5, rfl⟩ := arrX6 (hsz.trans (by kernel_rfl))
  obtain ⟨fuel, hf⟩ := h
  simp [Value.cells] at hf
  obtain ⟨t, rfl, rfl, rfl, rfl, rfl, rfl, l0, l1⟩ := open_lockc hf
  exact ⟨t.1.1, t.1.2.1, t.1.2.2, t.2.1.1, t.2.1.2, t.2.2, rfl, l0, l1⟩
theorem rw_mkX {w : World} {a : Addr} {n c : Nat} {xs : List Value} (hl : n ≤ c) (hc : c ≤ 9223372036854775807) (hx : n = 0 → xs = []) (h0 : 0 < n → 0 < xs.length) (h : ∀ j u, xs[j]? = some u → w.cell? (a.add j) = some u) : Rw w (fun _ => True) (.slice (some a) n c) n xs := by
  refine ⟨_, c, rfl, hl, hc, hx, fun h => by (cases h), fun hp => ?_⟩
  obtain ⟨b, off, spot⟩ := a
  obtain ⟨u, hu⟩ : ∃ u, xs[0]? = some u := ⟨xs[0]'(h0 hp), by simp [h0 hp]⟩
  have hc0 := h 0 u hu
  have hspot : spot = none := by simpa [Addr.add] using World.cell?_spot hc0
  subst hspot
  refine ⟨b, off, rfl, by simpa [Addr.add] using block_lt hc0, trivial, fun j v hv => ?_⟩
  have := h j v hv
  rwa [Addr.add_lit] at this
set_option maxRecDepth 100000 in
theorem open_lockr {H : Type} {enc : TypeId × Value → H} {w : World} {base : Nat} {spare : Nat → Bool} {held : Bool} {fuel : Nat} {v : Value} {x : DataW H × List MemPlace}
    (h : DataW.trod enc Try.prog w base spare held fuel 43 [v] = some x) : ∃ l : List LK, Lr w (fun _ => True) v l ∧ szOkL l := by
  have k3 : Try.prog.cellsOf 49 = 6 := by kernel_rfl
  rcases Go.Deep.open_slice Try.underlying43 h with ⟨hcs, _⟩ | ⟨a, len, cap, m, n, D, P, hcs, _, hl, hm, hmm, _, hc⟩
  · simp at hcs
    subst hcs
    exact ⟨[], rw_nil _ _, fun i => by simp [lAt, lk0]; decide⟩
  · simp at hcs
    subst hcs
    have hlm : len ≤ m := by rw [hmm]; split <;> omega
    simp only [k3] at hc
    have ex : ∀ i, ∃ p : LK, i < m → w.cell? (a.add (i * 6)) = some (.int .i64 p.1.1) ∧ w.cell? (a.add (i * 6 + 1)) = some (.int .i64 p.1.2.1) ∧ w.cell? (a.add (i * 6 + 2)) = some (.int .i64 p.1.2.2) ∧ w.cell? (a.add (i * 6 + 3)) = some (.string p.2.1.1) ∧ w.cell? (a.add (i * 6 + 4)) = some (.string p.2.1.2) ∧ w.cell? (a.add (i * 6 + 5)) = some (.bool p.2.2) ∧ p.2.1.1.size ≤ maxLen ∧ p.2.1.2.size ≤ maxLen := by
      intro i
      by_cases hi : i < m
      · obtain ⟨cs', hcs, hd⟩ := hc i hi
        obtain ⟨_, hcl, hcell⟩ := World.cells?_some hcs
        obtain ⟨v0, v1, v2, v3, v4, v5, rfl⟩ : ∃ v0 v1 v2 v3 v4 v5, cs' = [v0, v1, v2, v3, v4, v5] := by
          match cs', hcl with
          | [v0, v1, v2, v3, v4, v5], _ => exact ⟨v0, v1, v2, v3, v4, v5, rfl⟩
        obtain ⟨t, rfl, rfl, rfl, rfl, rfl, rfl, l0, l1⟩ := open_lockc hd
        have c0 := hcell 0 (by omega)
        have c1 := hcell 1 (by omega)
        have c2 := hcell 2 (by omega)
        have c3 := hcell 3 (by omega)
        have c4 := hcell 4 (by omega)
        have c5 := hcell 5 (by omega)
        obtain ⟨cs0, hcs0, _⟩ := hc 0 (by omega)
        have c00 := (World.cells?_some hcs0).2.2 0 (by omega)
        have hcl0 := (World.cells?_some hcs0).2.1
        obtain ⟨b, off, spot⟩ := a
        have hspot : spot = none := by
          have e0 : ∀ x : Addr, x.add 0 = x := fun _ => rfl
          rw [Nat.zero_mul, e0, e0] at c00
          obtain ⟨u0, hu0⟩ : ∃ u, cs0[0]? = some u := ⟨cs0[0]'(by omega), by simp⟩
          exact World.cell?_spot (c00.trans hu0)
        subst hspot
        simp only [Addr.add_lit] at c0 c1 c2 c3 c4 c5
        refine ⟨t, fun _ => ⟨?_, ?_, ?_, ?_, ?_, ?_, l0, l1⟩⟩
        · simpa [Addr.add_lit] using c0
        · simpa [Addr.add_lit, Nat.add_assoc] using c1
        · simpa [Addr.add_lit, Nat.add_assoc] using c2
        · simpa [Addr.add_lit, Nat.add_assoc] using c3
        · simpa [Addr.add_lit, Nat.add_assoc] using c4
        · simpa [Addr.add_lit, Nat.add_assoc] using c5
      · exact ⟨lk0, fun h => absurd h hi⟩
    obtain ⟨f, hf⟩ := Classical.axiomOfChoice ex
    unfold maxLen at hm hf
    refine ⟨(List.range len).map f, ?_, fun i => ?_⟩
    · unfold Lr
      rw [show ((List.range len).map f).length = len by simp]
      refine rw_mkX hl (by omega) (fun h0 => by simp [h0, lcs]) (fun h0 => by rw [lcs_length]; simp; omega) (fun j u hu => ?_)
      have hj : j < len * 6 := by
        have := (List.getElem?_eq_some_iff.1 hu).1
        simpa [lcs_length] using this
      have hq := lcs_at ((List.range len).map f) (j / 6) (by simp; omega)
      have hv : lAt ((List.range len).map f) (j / 6) = f (j / 6) := by simp [lAt, show j / 6 < len by omega]
      rw [hv] at hq
      have hc := hf (j / 6) (by omega)
      have h3 : j = j / 6 * 6 ∨ j = j / 6 * 6 + 1 ∨ j = j / 6 * 6 + 2 ∨ j = j / 6 * 6 + 3 ∨ j = j / 6 * 6 + 4 ∨ j = j / 6 * 6 + 5 := by omega
      rcases h3 with e | e | e | e | e | e
      · rw [← e, hu] at hq
        rw [← e] at hc
        rw [hc.1, hq.1]
      · rw [← e, hu] at hq
        rw [← e] at hc
        rw [hc.2.1, hq.2.1]
      · rw [← e, hu] at hq
        rw [← e] at hc
        rw [hc.2.2.1, hq.2.2.1]
      · rw [← e, hu] at hq
        rw [← e] at hc
        rw [hc.2.2.2.1, hq.2.2.2.1]
      · rw [← e, hu] at hq
        rw [← e] at hc
        rw [hc.2.2.2.2.1, hq.2.2.2.2.1]
      · rw [← e, hu] at hq
        rw [← e] at hc
        rw [hc.2.2.2.2.2.1, hq.2.2.2.2.2]
    · by_cases hi : i < len
      · have := (hf i (by omega)).2.2.2.2.2.2
        simpa [lAt, hi] using this
      · simp [lAt, hi, lk0]
        decide
set_option maxRecDepth 100000 in
theorem locks_two : ∃ f0 f1 : Field, Try.prog.underlying 45 = some (.struct #[f0, f1]) ∧ f0.type = 43 ∧ f1.type = 43 ∧ f0.offset = 0 ∧ f1.offset = 1 := ⟨_, _, Try.underlying45, rfl, rfl, rfl, rfl⟩
set_option maxRecDepth 100000 in
theorem open_locks {H : Type} {enc : TypeId × Value → H} {w : World} {base : Nat} {spare : Nat → Bool} {held : Bool} {r : Reach} {b0 : Nat} {v : Value} {d : DataW H} {q : List MemPlace}
    (hv : Value.okWide Try.prog w r b0 45 v) (h : DataW.Trod enc Try.prog w base spare held 45 v d q) :
    ∃ (ha : Option Addr) (hn hc : Nat) (wa : Option Addr) (wn wc : Nat) (hl wl : List LK), v = .agg #[.slice ha hn hc, .slice wa wn wc] ∧ (Lr w (fun _ => True) (.slice ha hn hc) hl ∧ szOkL hl) ∧ (Lr w (fun _ => True) (.slice wa wn wc) wl ∧ szOkL wl) := by
  obtain ⟨f0, f1, hs, t0, t1, o0, o1⟩ := locks_two
  obtain ⟨cs, rfl, hsz⟩ := okWide_struct hs hv
  obtain ⟨c0, c1, rfl⟩ := arrX2 (hsz.trans (by kernel_rfl))
  obtain ⟨fuel, hf⟩ := h
  obtain ⟨y0, y1, n, hx, _, h0, h1⟩ := trod_struct2 hs hf
  have k : Try.prog.cellsOf 43 = 1 := by kernel_rfl
  rw [t0, o0, k] at h0
  rw [t1, o1, k] at h1
  simp [Value.cells] at h0 h1
  obtain ⟨hl, p1, p2⟩ := open_lockr h0
  obtain ⟨wl, q1, q2⟩ := open_lockr h1
  obtain ⟨ha, hc, rfl, _⟩ := Rw.shape p1
  obtain ⟨wa, wc, rfl, _⟩ := Rw.shape q1
  exact ⟨ha, _, hc, wa, _, wc, hl, wl, rfl, ⟨p1, p2⟩, ⟨q1, q2⟩⟩
end Go.Proofs.Ytbaggkfgnjenoaa

