/-
  What is known of slices of pairs that come in as arguments.
-/
import Derived.Test.YtnbafoennnhppaaMs1
import Derived.Deep.SlicePairs
import Derived.WideShapes
import Derived.ChangeSame
import Derived.ProofKit
import Derived.OpenShut
import Derived.Test.YtnbafoennnhppaaMs3
import Derived.Deep.Strs
import Derived.Deep.Slices
import Derived.ChangeSlices
import Derived.Test.YtnbafoennnhppaaMs2
namespace Go.Proofs.Ytnbafoennnhppaa
open Go.ChangeShapes Go.WideShapes Go.ChangeAt Go.RowKit

theorem pair_two : ∃ f0 f1 : Field, Try.prog.underlying 86 = some (.struct #[f0, f1]) ∧ f0.type = 9 ∧ f1.type = 9 ∧ f0.offset = 0 ∧ f1.offset = 1 := ⟨_, _, Try.underlying86, rfl, rfl, rfl, rfl⟩
theorem open_pairs {H : Type} {enc : TypeId × Value → H} {w : World} {base : Nat} {spare : Nat → Bool} {held : Bool} {fuel : Nat} {v : Value} {x : DataW H × List MemPlace}
    (h : DataW.trod enc Try.prog w base spare held fuel 37 [v] = some x) : ∃ l : List PB, Pr w (fun _ => True) v l ∧ szOkP l := by
  obtain ⟨f0, f1, hs, t0, t1, o0, o1⟩ := pair_two
  have k : Try.prog.cellsOf 9 = 1 := by kernel_rfl
  rcases Go.Deep.open_slice_pairs Try.underlying37 hs (by kernel_rfl) o0 o1 (by rw [t0]; exact k) (by rw [t1]; exact k) h with ⟨hcs, _⟩ | ⟨a, len, cap, m, n, V0, V1, D0, D1, P0, P1, hcs, _, hl, hm, hmm, _, hc⟩
  · simp at hcs
    subst hcs
    exact ⟨[], rw_nil _ _, fun i => by simp [pAtB]; decide⟩
  · simp at hcs
    subst hcs
    have hlm : len ≤ m := by rw [hmm]; split <;> omega
    have ex : ∀ i, ∃ p : PB, i < m → w.cell? (a.add (i * 2)) = some (.string p.1) ∧ w.cell? (a.add (i * 2 + 1)) = some (.string p.2) ∧ p.1.size ≤ maxLen ∧ p.2.size ≤ maxLen := by
      intro i
      by_cases hi : i < m
      · obtain ⟨c0, c1, d0, d1⟩ := hc i hi
        rw [t0] at d0
        rw [t1] at d1
        obtain ⟨s0, e0, _, l0⟩ := DataW.trod_string Try.underlying9 d0
        obtain ⟨s1, e1, _, l1⟩ := DataW.trod_string Try.underlying9 d1
        simp at e0 e1
        exact ⟨(s0, s1), fun _ => ⟨by rw [c0, e0], by rw [c1, e1], l0, l1⟩⟩
      · exact ⟨(⟨#[]⟩, ⟨#[]⟩), fun h => absurd h hi⟩
    obtain ⟨f, hf⟩ := Classical.axiomOfChoice ex
    unfold maxLen at hm hf
    refine ⟨(List.range len).map f, ?_, fun i => ?_⟩
    · refine ⟨_, cap, by simp; rfl, by simpa using hl, by omega, fun h0 => ?_, fun h0 => (by cases h0), fun hp => ?_⟩
      · simp at h0; subst h0; rfl
      · simp at hp
        obtain ⟨b, off, spot⟩ := a
        have hc0 := (hf 0 (by omega)).1
        have hspot : spot = none := by simpa [Addr.add] using World.cell?_spot hc0
        subst hspot
        refine ⟨b, off, rfl, by simpa [Addr.add] using block_lt hc0, trivial, fun j u hu => ?_⟩
        have hj : j < len * 2 := by
          have := (List.getElem?_eq_some_iff.1 hu).1
          simpa [pcs_length] using this
        rcases Nat.mod_two_eq_zero_or_one j with e | e
        · have h1 := (pcs_at ((List.range len).map f) (j / 2) (by simp; omega)).1
          rw [show j / 2 * 2 = j by omega, hu] at h1
          have h2 := (hf (j / 2) (by omega)).1
          rw [Addr.add_lit, show j / 2 * 2 = j by omega] at h2
          rw [h2, h1]
          simp [pAtB, show j / 2 < len by omega]
        · have h1 := (pcs_at ((List.range len).map f) (j / 2) (by simp; omega)).2
          rw [show j / 2 * 2 + 1 = j by omega, hu] at h1
          have h2 := (hf (j / 2) (by omega)).2.1
          rw [Addr.add_lit, show j / 2 * 2 + 1 = j by omega] at h2
          rw [h2, h1]
          simp [pAtB, show j / 2 < len by omega]
    · by_cases hi : i < len
      · have := hf i (by omega)
        simp [pAtB, hi]
        omega
      · simp [pAtB, hi]
        decide
set_option maxRecDepth 100000 in
theorem open_pairS {H : Type} {enc : TypeId × Value → H} {w : World} {base : Nat} {spare : Nat → Bool} {held : Bool} {r : Reach} {b0 : Nat} {v : Value} {d : DataW H} {p : List MemPlace}
    (hv : Value.okWide Try.prog w r b0 37 v) (h : DataW.Trod enc Try.prog w base spare held 37 v d p) : ∃ (a : Option Addr) (n c : Nat) (l : List PB), v = .slice a n c ∧ Pr w (fun _ => True) (.slice a n c) l ∧ szOkP l := by
  obtain ⟨a, n, c, rfl⟩ := okWide_slice Try.underlying37 hv
  obtain ⟨fuel, hf⟩ := h
  simp [Value.cells] at hf
  obtain ⟨l, h1, h2⟩ := open_pairs hf
  exact ⟨a, n, c, l, rfl, h1, h2⟩
end Go.Proofs.Ytnbafoennnhppaa
/-
  What is known of names of transactions, of locks and of tables of locks that come in as arguments.
-/
namespace Go.Proofs.Ytnbafoennnhppaa
open Go.ChangeShapes Go.WideShapes Go.ChangeAt Go.RowKit
theorem arrX3 {α : Type} {cs : Array α} (h : cs.size = 3) : ∃ a b c, cs = #[a, b, c] := by
  obtain ⟨l⟩ := cs
  match l, h with
  | [a, b, c], _ => exact ⟨a, b, c, rfl⟩
theorem arrX6 {α : Type} {cs : Array α} (h : cs.size = 6) : ∃ a b c d e f, cs = #[a, b, c, d, e, f] := by
  obtain ⟨l⟩ := cs
  match l, h with
  | [a, b, c, d, e, f], _ => exact ⟨a, b, c, d, e, f, rfl⟩
theorem arrX2 {α : Type} {cs : Array α} (h : cs.size = 2) : ∃ a b, cs = #[a, b] := by
  obtain ⟨l⟩ := cs
  match l, h with
  | [a, b], _ => exact ⟨a, b, rfl⟩
set_option maxRecDepth 100000 in
theorem tx_three : ∃ f0 f1 f2 : Field, Try.prog.underlying 50 = some (.struct #[f0, f1, f2]) ∧ f0.type = 3 ∧ f1.type = 3 ∧ f2.type = 3 ∧ f0.offset = 0 ∧ f1.offset = 1 ∧ f2.offset = 2 := ⟨_, _, _, Try.underlying50, rfl, rfl, rfl, rfl, rfl, rfl⟩
set_option maxRecDepth 100000 in
theorem open_txc {H : Type} {enc : TypeId × Value → H} {w : World} {base : Nat} {spare : Nat → Bool} {held : Bool} {fuel : Nat} {v0 v1 v2 : Value} {x : DataW H × List MemPlace}
    (h : DataW.trod enc Try.prog w base spare held fuel 50 [v0, v1, v2] = some x) : ∃ t : TX, v0 = .int .i64 t.1 ∧ v1 = .int .i64 t.2.1 ∧ v2 = .int .i64 t.2.2 := by
  obtain ⟨f0, f1, f2, hs, t0, t1, t2, o0, o1, o2⟩ := tx_three
  have k0 : Try.prog.cellsOf 3 = 1 := by kernel_rfl
  obtain ⟨y0, y1, y2, n', _, _, d0, d1, d2⟩ := Go.Deep.trod_struct3 hs h
  rw [t0, o0, k0] at d0
  rw [t1, o1, k0] at d1
  rw [t2, o2, k0] at d2
  simp at d0 d1 d2
  obtain ⟨s0, e0, _⟩ := DataW.trod_int Try.underlying3 d0
  obtain ⟨s1, e1, _⟩ := DataW.trod_int Try.underlying3 d1
  obtain ⟨s2, e2, _⟩ := DataW.trod_int Try.underlying3 d2
  simp at e0 e1 e2
  exact ⟨(s0, s1, s2), e0, e1, e2⟩
set_option maxRecDepth 100000 in
theorem open_tx {H : Type} {enc : TypeId × Value → H} {w : World} {base : Nat} {spare : Nat → Bool} {held : Bool} {r : Reach} {b0 : Nat} {v : Value} {d : DataW H} {p : List MemPlace}
    (hv : Value.okWide Try.prog w r b0 50 v) (h : DataW.Trod enc Try.prog w base spare held 50 v d p) : ∃ c e n : Int, v = .agg #[.int .i64 c, .int .i64 e, .int .i64 n] := by
  obtain ⟨f0, f1, f2, hs, t0, t1, t2, o0, o1, o2⟩ := tx_three
  obtain ⟨cs, rfl, hsz⟩ := okWide_struct hs hv
  obtain ⟨c0, c1, c2, rfl⟩ := arrX3 (hsz.trans (by kernel_rfl))
  obtain ⟨fuel, hf⟩ := h
  simp [Value.cells] at hf
  obtain ⟨t, rfl, rfl, rfl⟩ := open_txc hf
  exact ⟨t.1, t.2.1, t.2.2, rfl⟩
end Go.Proofs.Ytnbafoennnhppaa
/-
  What is known of asks and messages that come in as arguments.
-/
namespace Go.Proofs.Ytnbafoennnhppaa
open Go.ChangeShapes Go.WideShapes Go.ChangeAt Go.RowKit
set_option linter.unusedVariables false
theorem arrK7 {α : Type} {cs : Array α} (h : cs.size = 7) : ∃ v0 v1 v2 v3 v4 v5 v6, cs = #[v0, v1, v2, v3, v4, v5, v6] := by
  obtain ⟨l⟩ := cs
  match l, h with
  | [v0, v1, v2, v3, v4, v5, v6], _ => exact ⟨v0, v1, v2, v3, v4, v5, v6, rfl⟩
theorem arrK17 {α : Type} {cs : Array α} (h : cs.size = 17) : ∃ v0 v1 v2 v3 v4 v5 v6 v7 v8 v9 v10 v11 v12 v13 v14 v15 v16, cs = #[v0, v1, v2, v3, v4, v5, v6, v7, v8, v9, v10, v11, v12, v13, v14, v15, v16] := by
  obtain ⟨l⟩ := cs
  match l, h with
  | [v0, v1, v2, v3, v4, v5, v6, v7, v8, v9, v10, v11, v12, v13, v14, v15, v16], _ => exact ⟨v0, v1, v2, v3, v4, v5, v6, v7, v8, v9, v10, v11, v12, v13, v14, v15, v16, rfl⟩
set_option maxRecDepth 100000 in
theorem rangeK_two : ∃ f0 f1 : Field, Try.prog.underlying 41 = some (.struct #[f0, f1]) ∧ f0.type = 9 ∧ f1.type = 9 ∧ f0.offset = 0 ∧ f1.offset = 1 := ⟨_, _, Try.underlying41, rfl, rfl, rfl, rfl⟩
set_option maxRecDepth 100000 in
theorem open_rngK {H : Type} {enc : TypeId × Value → H} {w : World} {base : Nat} {spare : Nat → Bool} {held : Bool} {fuel : Nat} {v0 v1 : Value} {x : DataW H × List MemPlace}
    (h : DataW.trod enc Try.prog w base spare held fuel 41 [v0, v1] = some x) : ∃ lo hi : ByteArray, v0 = .string lo ∧ v1 = .string hi ∧ lo.size ≤ maxLen ∧ hi.size ≤ maxLen := by
  obtain ⟨f0, f1, hs, t0, t1, o0, o1⟩ := rangeK_two
  have k0 : Try.prog.cellsOf 9 = 1 := by kernel_rfl
  obtain ⟨y0, y1, n', _, _, d0, d1⟩ := trod_struct2 hs h
  rw [t0, o0, k0] at d0
  rw [t1, o1, k0] at d1
  simp at d0 d1
  obtain ⟨s0, e0, _, l0⟩ := DataW.trod_string Try.underlying9 d0
  obtain ⟨s1, e1, _, l1⟩ := DataW.trod_string Try.underlying9 d1
  simp at e0 e1
  exact ⟨s0, s1, e0, e1, l0, l1⟩
set_option maxRecDepth 100000 in
theorem ask_six : ∃ f0 f1 f2 f3 f4 f5 : Field, Try.prog.underlying 43 = some (.struct #[f0, f1, f2, f3, f4, f5]) ∧ f0.type = 3 ∧ f1.type = 9 ∧ f2.type = 9 ∧ f3.type = 41 ∧ f4.type = 3 ∧ f5.type = 4 ∧ f0.offset = 0 ∧ f1.offset = 1 ∧ f2.offset = 2 ∧ f3.offset = 3 ∧ f4.offset = 5 ∧ f5.offset = 6 := ⟨_, _, _, _, _, _, Try.underlying43, rfl, rfl, rfl, rfl, rfl, rfl, rfl, rfl, rfl, rfl, rfl, rfl⟩
set_option maxRecDepth 100000 in
theorem open_askc {H : Type} {enc : TypeId × Value → H} {w : World} {base : Nat} {spare : Nat → Bool} {held : Bool} {fuel : Nat} {v0 v1 v2 v3 v4 v5 v6 : Value} {x : DataW H × List MemPlace}
    (h : DataW.trod enc Try.prog w base spare held fuel 43 [v0, v1, v2, v3, v4, v5, v6] = some x) : ∃ (k : Int) (ky vl lo hi : ByteArray) (mo : Int) (bk : Bool), v0 = .int .i64 k ∧ v1 = .string ky ∧ v2 = .string vl ∧ v3 = .string lo ∧ v4 = .string hi ∧ v5 = .int .i64 mo ∧ v6 = .bool bk ∧ ky.size ≤ maxLen ∧ vl.size ≤ maxLen ∧ lo.size ≤ maxLen ∧ hi.size ≤ maxLen := by
  obtain ⟨f0, f1, f2, f3, f4, f5, hs, t0, t1, t2, t3, t4, t5, o0, o1, o2, o3, o4, o5⟩ := ask_six
  have kbool : Try.prog.cellsOf 4 = 1 := by kernel_rfl
  have kint : Try.prog.cellsOf 3 = 1 := by kernel_rfl
  have klawsRange : Try.prog.cellsOf 41 = 2 := by kernel_rfl
  have kstring : Try.prog.cellsOf 9 = 1 := by kernel_rfl
  obtain ⟨xs, n', _, rfl, hl, hlen, hf⟩ := DataW.trod_struct hs h
  match xs, hlen with
  | [y0, y1, y2, y3, y4, y5], _ =>
    have d0 := hf 0 f0 rfl
    have d1 := hf 1 f1 rfl
    have d2 := hf 2 f2 rfl
    have d3 := hf 3 f3 rfl
    have d4 := hf 4 f4 rfl
    have d5 := hf 5 f5 rfl
    rw [t0, o0, kint] at d0
    rw [t1, o1, kstring] at d1
    rw [t2, o2, kstring] at d2
    rw [t3, o3, klawsRange] at d3
    rw [t4, o4, kint] at d4
    rw [t5, o5, kbool] at d5
    simp at d0 d1 d2 d3 d4 d5
    obtain ⟨s0, e0, _⟩ := DataW.trod_int Try.underlying3 d0
    obtain ⟨s1, e1, _, l1⟩ := DataW.trod_string Try.underlying9 d1
    obtain ⟨s2, e2, _, l2⟩ := DataW.trod_string Try.underlying9 d2
    obtain ⟨lo, hi, e3, e4, l3, l4⟩ := open_rngK d3
    obtain ⟨s4, e5, _⟩ := DataW.trod_int Try.underlying3 d4
    obtain ⟨s5, e6, _⟩ := DataW.trod_bool Try.underlying4 d5
    simp at e0 e1 e2 e5 e6
    exact ⟨s0, s1, s2, lo, hi, s4, s5, e0, e1, e2, e3, e4, e5, e6, l1, l2, l3, l4⟩
set_option maxRecDepth 100000 in
theorem open_ask {H : Type} {enc : TypeId × Value → H} {w : World} {base : Nat} {spare : Nat → Bool} {held : Bool} {r : Reach} {b0 : Nat} {v : Value} {d : DataW H} {p : List MemPlace}
    (hv : Value.okWide Try.prog w r b0 43 v) (h : DataW.Trod enc Try.prog w base spare held 43 v d p) : ∃ (k : Int) (ky vl lo hi : ByteArray) (mo : Int) (bk : Bool), v = .agg #[.int .i64 k, .string ky, .string vl, .string lo, .string hi, .int .i64 mo, .bool bk] ∧ ky.size ≤ maxLen ∧ vl.size ≤ maxLen ∧ lo.size ≤ maxLen ∧ hi.size ≤ maxLen := by
  obtain ⟨f0, f1, f2, f3, f4, f5, hs, _⟩ := ask_six
  obtain ⟨cs, rfl, hsz⟩ := okWide_struct hs hv
  obtain ⟨v0, v1, v2, v3, v4, v5, v6, rfl⟩ := arrK7 (hsz.trans (by kernel_rfl))
  obtain ⟨fuel, hf⟩ := h
  simp [Value.cells] at hf
  obtain ⟨k, ky, vl, lo, hi, mo, bk, rfl, rfl, rfl, rfl, rfl, rfl, rfl, hl⟩ := open_askc hf
  exact ⟨k, ky, vl, lo, hi, mo, bk, rfl, hl⟩
end Go.Proofs.Ytnbafoennnhppaa
/-
  The law FnExactRunAsk answers true at all data and asks.
-/
namespace Go.Proofs.Ytnbafoennnhppaa
open Go.RowKit
set_option maxHeartbeats 16000000 in
set_option maxRecDepth 20000 in
theorem lawRunAsk_walk (a : Option Addr) (n c : Nat) (l : List PB) (k : Int) (ky vl lo hi : ByteArray) (mo : Int) (bk : Bool) (w : World) (h : Pr w (fun _ => True) (.slice a n c) l ∧ szOkP l) (hl : ky.size ≤ maxLen ∧ vl.size ≤ maxLen ∧ lo.size ≤ maxLen ∧ hi.size ≤ maxLen) :
    Calls Try.prog 5 #[.slice a n c, .agg #[.int .i64 k, .string ky, .string vl, .string lo, .string hi, .int .i64 mo, .bool bk]] w fun e w' => e = .returned (.bool true) ∧ Below w.heap.size w w' := by
  have hb := below_new (o := .cells #[.int .i64 k, .string ky, .string vl, .string lo, .string hi, .int .i64 mo, .bool bk] 43) (w := w) (Below.refl _ _)
  have B0 := hid hb
  have K0 := hid (Bk.new w 43 [.int .i64 k, .string ky, .string vl, .string lo, .string hi, .int .i64 mo, .bool bk])
  have H0 := hid (h.1.below' hb)
  have HZ := hid h.2
  have HN := hid (Rw.len h.1).1
  unfold maxLen at hl
  have HL := hid hl
  clear h hb hl
  have HDL := hid (raDo_len l k ky vl lo hi mo bk)
  have HTL := hid (raTo_len l k ky vl lo hi mo bk)
  go_enter Try.func5, Try.ntmps5
  have k0 := K0.out.cell (j := 0) rfl
  have k1 := K0.out.cell (j := 1) rfl
  have k2 := K0.out.cell (j := 2) rfl
  have k3 := K0.out.cell (j := 3) rfl
  have k4 := K0.out.cell (j := 4) rfl
  have k5 := K0.out.cell (j := 5) rfl
  have k6 := K0.out.cell (j := 6) rfl
  go_wp2_with fail
  refine (szPairS_at _ a n c l 1048576 _ H0.out HZ.out (by omega) (by omega)).mono ?_
  generalize hU : w.alloc (.cells #[.int .i64 k, .string ky, .string vl, .string lo, .string hi, .int .i64 mo, .bool bk] 43) = U at *
  clear hU
  rintro e w1 ⟨⟨x, rfl, hx, hx1, hx2⟩, hb⟩
  have B1 := hid (B0.out.trans (hb.mono B0.out.size))
  have K1 := hid (K0.out.below hb)
  have H1 := hid (H0.out.below' hb)
  have HX := hid hx2
  clear hb hx2 B0 K0 H0 HZ k0 k1 k2 k3 k4 k5 k6
  have k0 := K1.out.cell (j := 0) rfl
  have k1 := K1.out.cell (j := 1) rfl
  have k2 := K1.out.cell (j := 2) rfl
  have k3 := K1.out.cell (j := 3) rfl
  have k4 := K1.out.cell (j := 4) rfl
  have k5 := K1.out.cell (j := 5) rfl
  have k6 := K1.out.cell (j := 6) rfl
  by_cases hneg : x < 0
  · go_wp2
    go_ret
    exact ⟨rfl, B1.out⟩
  have HM := hid (HX.out (by omega))
  have hnm : n ≤ 1048576 := HM.out
  have CZ := hid (fun v => szAsk_any k ky vl lo hi mo bk x v (by omega) (by omega) HL.out)
  clear HX
  go_wp2_with fail
  refine (CZ.out _).mono ?_
  rintro e w2 ⟨⟨y, rfl, hy, hy1⟩, hb⟩
  have B2 := hid (B1.out.trans (hb.mono B1.out.size))
  have K2 := hid (K1.out.below hb)
  have H2 := hid (H1.out.below' hb)
  clear hb B1 K1 H1 CZ k0 k1 k2 k3 k4 k5 k6
  have k0 := K2.out.cell (j := 0) rfl
  have k1 := K2.out.cell (j := 1) rfl
  have k2 := K2.out.cell (j := 2) rfl
  have k3 := K2.out.cell (j := 3) rfl
  have k4 := K2.out.cell (j := 4) rfl
  have k5 := K2.out.cell (j := 5) rfl
  have k6 := K2.out.cell (j := 6) rfl
  by_cases hneg2 : y < 0
  · go_wp2
    go_ret
    exact ⟨rfl, B2.out⟩
  have T2 := hid (kl7_0 k0 k1 k2 k3 k4 k5 k6)
  have CA := hid (fun v => toAsk_any k ky vl lo hi mo bk v)
  have CP := hid (fun u (hb : Below w2.heap.size w2 u) => toPairS_at _ a n c l u (H2.out.below' hb) hnm)
  go_wp2_with fail
  go_region_held3 (fun v => v.cell? ⟨w.heap.size, 0, none⟩ = some (.int .i64 k) ∧ v.cell? ⟨w.heap.size, 1, none⟩ = some (.string ky) ∧ v.cell? ⟨w.heap.size, 2, none⟩ = some (.string vl) ∧ v.cell? ⟨w.heap.size, 3, none⟩ = some (.string lo) ∧ v.cell? ⟨w.heap.size, 4, none⟩ = some (.string hi) ∧ v.cell? ⟨w.heap.size, 5, none⟩ = some (.int .i64 mo) ∧ v.cell? ⟨w.heap.size, 6, none⟩ = some (.bool bk) ∧ KL w2 v [(⟨w.heap.size, 0, none⟩, .int .i64 k), (⟨w.heap.size, 1, none⟩, .string ky), (⟨w.heap.size, 2, none⟩, .string vl), (⟨w.heap.size, 3, none⟩, .string lo), (⟨w.heap.size, 4, none⟩, .string hi), (⟨w.heap.size, 5, none⟩, .int .i64 mo), (⟨w.heap.size, 6, none⟩, .bool bk)])
    (first | assumption | exact kl7 (T2.out.call (below_drew _)) | exact kl7c hbC (by assumption))
    (first
      | (go_at_call 15; have hz := (kl7_bel (by assumption)); refine (CP.out _ hz).mono ?_; rintro e wa ⟨rfl, hKa, hbC⟩)
      | (go_at_call 18; refine (CA.out _).mono ?_; rintro e wb ⟨rfl, hbC⟩; have hKb := hKa.below hbC)
      | (go_at_call 10; refine (specRunAsk_any (fun _ => True) _ n n l k ky vl lo hi mo bk _ (hKb.pr HN.out (by omega) (fun _ => True) trivial) (by omega)).mono ?_; rintro e w3 ⟨a0, n0, c0, a1, n1, c1, rfl, hO0, hO1, hbC⟩))
  rename_i hS
  have hb := kl7_bel hS
  have B3 := hid (B2.out.trans (hb.mono B2.out.size))
  have K3 := hid (K2.out.below hb)
  have H3 := hid (H2.out.below' hb)
  have P3 : Hid (Pr w3 (fun y => y < w3.heap.size) (.slice a0 n0 c0) (raDo l k ky vl lo hi mo bk)) := hO0.pr (fun _ _ _ hk => hk)
  have Q3 : Hid (Pr w3 (fun y => y < w3.heap.size) (.slice a1 n1 c1) (raTo l k ky vl lo hi mo bk)) := hO1.pr (fun _ _ _ hk => hk)
  have CP3 := hid (fun u (hb3 : Below w3.heap.size w3 u) => CP.out u (hb.trans (hb3.mono hb.size)))
  clear CP
  have CP := CP3
  clear CP3
  clear hS hb hz hKa hKb hbC hO0 hO1 T2 H2 K2 B2 k0 k1 k2 k3 k4 k5 k6
  obtain ⟨ok, hok⟩ : ∃ ok, ok = raK l k ky vl lo hi mo bk := ⟨_, rfl⟩
  rw [← hok]
  have HOK := hid hok
  clear hok
  have hoo : (ok != ok) = false := by simp
  go_wp2_with fail
  refine (CP.out _ (Below.refl _ _)).mono ?_
  rintro e w4 ⟨rfl, hK, hb⟩
  have B4 := hid (B3.out.trans (hb.mono B3.out.size))
  have K4 := hid (K3.out.below hb)
  have P4 := hid (P3.out.below' hb)
  have Q4 := hid (Q3.out.below' hb)
  have X4 := hid hK
  have SX4 := hid hK.lt
  have S34 := hid hb.size
  have HB4 := hid hb
  have S13 := hid K3.out.lt
  clear hK hb B3 K3 P3 Q3 H3
  have k0 := K4.out.cell (j := 0) rfl
  have k1 := K4.out.cell (j := 1) rfl
  have k2 := K4.out.cell (j := 2) rfl
  have k3 := K4.out.cell (j := 3) rfl
  have k4 := K4.out.cell (j := 4) rfl
  have k5 := K4.out.cell (j := 5) rfl
  have k6 := K4.out.cell (j := 6) rfl
  go_wp2_with fail
  refine (CA.out _).mono ?_
  rintro e w5 ⟨rfl, hb⟩
  have B5 := hid (B4.out.trans (hb.mono B4.out.size))
  have K5 := hid (K4.out.below hb)
  have P5 := hid (P4.out.below' hb)
  have Q5 := hid (Q4.out.below' hb)
  have X5 := hid (X4.out.below hb)
  have S45 := hid hb.size
  have HB5 := hid (HB4.out.trans (hb.mono HB4.out.size))
  clear hb B4 K4 P4 Q4 X4 HB4 k0 k1 k2 k3 k4 k5 k6
  go_wp2_with fail
  refine (implRunAsk_any (fun _ => True) _ n n l k ky vl lo hi mo bk _ (X5.out.pr HN.out (by omega) (fun _ => True) trivial) (by omega)).mono ?_
  rintro e w6 ⟨ag, ng, cg, ah, nh, ch, rfl, hOg, ⟨B, hB5, hR, hsep⟩, hb⟩
  rw [← HOK.out]
  have B6 := hid (B5.out.trans (hb.mono B5.out.size))
  have K6 := hid (K5.out.below hb)
  have P6 := hid (P5.out.below' hb)
  have Q6 := hid (Q5.out.below' hb)
  have X6 := hid (X5.out.below hb)
  have S3X : Hid (w3.heap.size < w5.heap.size) := Nat.lt_of_lt_of_le SX4.out S45.out
  have HB6 := hid (HB5.out.trans (hb.mono HB5.out.size))
  have G6 := hid hOg
  have R6 := hid hR
  have HSEP := hid hsep
  have HBB := hid hB5
  clear hb hOg hR hsep hB5 B5 K5 P5 Q5 X5 HB5
  go_wp2_with fail
  refine (eqPairS_at (fun _ => True) _ ag a0 ng n0 cg c0 (raDo l k ky vl lo hi mo bk) (raDo l k ky vl lo hi mo bk) _ (G6.out.pr (fun _ _ _ _ => trivial)) P6.out).mono ?_
  rintro e w7 ⟨rfl, hb⟩
  rw [decide_eq_true rfl]
  have B7 := hid (B6.out.trans (hb.mono B6.out.size))
  have HB7 := hid (HB6.out.trans (hb.mono HB6.out.size))
  have K7 := hid (K6.out.below hb)
  have P7 := hid (P6.out.below' hb)
  have Q7 := hid (Q6.out.below' hb)
  have X7 := hid (X6.out.below hb)
  have G7 := hid (G6.out.kept hb)
  have R7 := hid (R6.out.below hb)
  clear hb B6 HB6 K6 P6 Q6 X6 G6 R6
  go_wp2_with fail
  refine (eqPairS_at (fun _ => True) _ ah a1 nh n1 ch c1 (raTo l k ky vl lo hi mo bk) (raTo l k ky vl lo hi mo bk) _ (Rw.mono R7.out.pr (fun _ _ _ => trivial)) Q7.out).mono ?_
  rintro e w8 ⟨rfl, hb⟩
  rw [decide_eq_true rfl]
  have B8 := hid (B7.out.trans (hb.mono B7.out.size))
  have HB8 := hid (HB7.out.trans (hb.mono HB7.out.size))
  have K8 := hid (K7.out.below hb)
  have P8 := hid (P7.out.below' hb)
  have Q8 := hid (Q7.out.below' hb)
  have X8 := hid (X7.out.below hb)
  have G8 := hid (G7.out.kept hb)
  have R8 := hid (R7.out.below hb)
  clear hb B7 HB7 K7 P7 Q7 X7 G7 R7
  go_wp2_with fail
  refine (CP.out _ HB8.out).mono ?_
  rintro e w9 ⟨rfl, hKy, hb⟩
  have B9 := hid (B8.out.trans (hb.mono B8.out.size))
  have HB9 := hid (HB8.out.trans (hb.mono HB8.out.size))
  have K9 := hid (K8.out.below hb)
  have P9 := hid (P8.out.below' hb)
  have Q9 := hid (Q8.out.below' hb)
  have X9 := hid (X8.out.below hb)
  have G9 := hid (G8.out.kept hb)
  have R9 := hid (R8.out.below hb)
  clear hb B8 HB8 K8 P8 Q8 X8 G8 R8
  go_wp2_with fail
  refine (eqPairS_at (fun _ => True) _ _ _ n n n n l l _ (X9.out.pr HN.out (by omega) (fun _ => True) trivial) (hKy.pr HN.out (by omega) (fun _ => True) trivial)).mono ?_
  rintro e w10 ⟨rfl, hb⟩
  rw [decide_eq_true rfl]
  clear hKy
  have B10 := hid (B9.out.trans (hb.mono B9.out.size))
  have HB10 := hid (HB9.out.trans (hb.mono HB9.out.size))
  have K10 := hid (K9.out.below hb)
  have P10 := hid (P9.out.below' hb)
  have Q10 := hid (Q9.out.below' hb)
  have X10 := hid (X9.out.below hb)
  have G10 := hid (G9.out.kept hb)
  have R10 := hid (R9.out.below hb)
  clear hb B9 HB9 K9 P9 Q9 X9 G9 R9
  have KK : Hid (Kw w10 (fun y => y = w3.heap.size) (.slice (some ⟨w3.heap.size, 0, none⟩) n n) n (n * 2) isStr) := by
    have h1 := X10.out.pr HN.out (by omega) (fun y => y = w3.heap.size) rfl
    have h2 := kw_of (S' := fun y => y = w3.heap.size) (K := isStr) h1 (fun u hu => pcs_strS _ u hu) (fun b hb _ => ⟨hb, by subst hb; exact ⟨_, _, X10.out⟩⟩)
    rw [pcs_length, ← HN.out] at h2
    exact h2
  go_wp2_with fail
  refine (markPairS_any _ _ n n 1 _ KK.out hnm (by omega) (by omega)).mono ?_
  rintro e w11 ⟨rfl, hm'⟩
  have hm := hm'.1.only
  have B11 : Hid (Below w.heap.size w w11) := B10.out.trans (hm.below B10.out.size (fun y h1 h2 => by have := S13.out; omega))
  have K11 : Hid (Bk w11 w.heap.size 43 [.int .i64 k, .string ky, .string vl, .string lo, .string hi, .int .i64 mo, .bool bk]) := K10.out.to hm (fun e => by have := S13.out; omega)
  have P11 : Hid (Pr w11 (fun y => y < w3.heap.size) (.slice a0 n0 c0) (raDo l k ky vl lo hi mo bk)) := P10.out.to hm (fun y h1 _ h2 => by omega)
  have Q11 : Hid (Pr w11 (fun y => y < w3.heap.size) (.slice a1 n1 c1) (raTo l k ky vl lo hi mo bk)) := Q10.out.to hm (fun y h1 _ h2 => by omega)
  have HB11 : Hid (Below w3.heap.size w3 w11) := HB10.out.trans (hm.below HB10.out.size (fun y h1 h2 => by omega))
  have G11 : Hid (Ow w11 w5.heap.size (.slice ag ng cg) (raDo l k ky vl lo hi mo bk)) := G10.out.to hm (fun y hy h2 => by have := (World.ownsRow.lt G10.out y hy).1; have := S3X.out; omega)
  have R11 : Hid (Rp w11 B (.slice ah nh ch) (raTo l k ky vl lo hi mo bk)) := rp_to R10.out hm (fun y hy h2 => by have := HBB.out; have := S3X.out; omega)
  have hk9 : ¬ ((1 + n * 2 : Nat) : Int) < 0 := by omega
  clear hm hm' B10 K10 P10 Q10 HB10 G10 R10 X10 KK
  generalize 1 + n * 2 = kq at *
  go_wp2_with fail
  refine (eqPairS_at (fun _ => True) _ ag a0 ng n0 cg c0 (raDo l k ky vl lo hi mo bk) (raDo l k ky vl lo hi mo bk) _ (G11.out.pr (fun _ _ _ _ => trivial)) P11.out).mono ?_
  rintro e w12 ⟨rfl, hb⟩
  rw [decide_eq_true rfl]
  have B12 := hid (B11.out.trans (hb.mono B11.out.size))
  have HB12 := hid (HB11.out.trans (hb.mono HB11.out.size))
  have K12 := hid (K11.out.below hb)
  have P12 := hid (P11.out.below' hb)
  have Q12 := hid (Q11.out.below' hb)
  have G12 := hid (G11.out.kept hb)
  have R12 := hid (R11.out.below hb)
  clear hb B11 HB11 K11 P11 Q11 G11 R11
  go_wp2_with fail
  refine (eqPairS_at (fun _ => True) _ ah a1 nh n1 ch c1 (raTo l k ky vl lo hi mo bk) (raTo l k ky vl lo hi mo bk) _ (Rw.mono R12.out.pr (fun _ _ _ => trivial)) Q12.out).mono ?_
  rintro e w13 ⟨rfl, hb⟩
  rw [decide_eq_true rfl]
  have B13 := hid (B12.out.trans (hb.mono B12.out.size))
  have HB13 := hid (HB12.out.trans (hb.mono HB12.out.size))
  have K13 := hid (K12.out.below hb)
  have P13 := hid (P12.out.below' hb)
  have Q13 := hid (Q12.out.below' hb)
  have G13 := hid (G12.out.kept hb)
  have R13 := hid (R12.out.below hb)
  clear hb B12 HB12 K12 P12 Q12 G12 R12
  have HG13 := Rw.len (G13.out.pr (S := fun _ => True) (fun _ _ _ _ => trivial))
  have HR13 := Rw.len (R13.out.pr)
  have hng : ng ≤ 1048577 := by have := HDL.out; have := HN.out; omega
  have hnh : nh ≤ 8 := by have := HTL.out; omega
  have hcg : ng ≤ cg := HG13.2.1
  have hch : nh ≤ ch := HR13.2.1
  have HR2 := hid HR13.2.2
  have HNG := hid HG13.1
  have HNH := hid HR13.1
  clear HG13 HR13
  have KW : Hid (Kw w13 (fun y => (Value.slice ag ng cg).ownBlock = some y) (.slice ag ng cg) ng (ng * 2) isStr) := by have := ow_kwb G13.out; rw [← HNG.out] at this; exact this
  go_wp2_with fail
  refine (markPairS_big _ ag ng cg 1 _ KW.out (by omega) (by omega) (by omega)).mono ?_
  rintro e w14 ⟨rfl, hm'⟩
  have LG14 := hid hm'.lies
  have hm := hm'.1.only
  have HGO := hid (fun y hy => World.ownsRow.lt G13.out y hy)
  have B14 : Hid (Below w.heap.size w w14) := B13.out.trans (hm.below B13.out.size (fun y h1 h2 => by have := (HGO.out y h2).1; have := S13.out; have := S3X.out; omega))
  have K14 : Hid (Bk w14 w.heap.size 43 [.int .i64 k, .string ky, .string vl, .string lo, .string hi, .int .i64 mo, .bool bk]) := K13.out.to hm (fun e => by have := (HGO.out _ e).1; have := S13.out; have := S3X.out; omega)
  have P14 : Hid (Pr w14 (fun y => y < w3.heap.size) (.slice a0 n0 c0) (raDo l k ky vl lo hi mo bk)) := P13.out.to hm (fun y h1 _ h2 => by have := (HGO.out _ h2).1; have := S3X.out; omega)
  have Q14 : Hid (Pr w14 (fun y => y < w3.heap.size) (.slice a1 n1 c1) (raTo l k ky vl lo hi mo bk)) := Q13.out.to hm (fun y h1 _ h2 => by have := (HGO.out _ h2).1; have := S3X.out; omega)
  have HB14 : Hid (Below w3.heap.size w3 w14) := HB13.out.trans (hm.below HB13.out.size (fun y h1 h2 => by have := (HGO.out _ h2).1; have := S3X.out; omega))
  have hcx : ch ≤ 9223372036854775807 := HR2.out
  have KW2 : Hid (Kw w14 (fun y => B ≤ y ∧ (raTo l k ky vl lo hi mo bk) ≠ []) (.slice ah nh ch) nh (nh * 2) isStr) := by
    show Kw _ _ _ _ _ _
    by_cases hz : (raTo l k ky vl lo hi mo bk) = []
    · have hn0 : nh = 0 := by rw [HNH.out, hz]; rfl
      subst hn0
      exact kw_none hcx
    · have := rp_kwb (rp_to R13.out hm (fun y hy e => by have := HSEP.out hz y e; omega)) ((raTo l k ky vl lo hi mo bk) ≠ []) hz
      rw [← HNH.out] at this
      exact this
  have HDJ : Hid (∀ y, (Value.slice ag ng cg).ownBlock = some y → ¬ (B ≤ y ∧ (raTo l k ky vl lo hi mo bk) ≠ [])) := fun y hy hB => by have := HSEP.out hB.2 y hy; omega
  clear hm hm' B13 K13 P13 Q13 HB13 G13 R13 KW
  go_wp2_with fail
  refine (markPairS_any _ ah nh ch (1 + ng * 2) _ KW2.out (by omega) (by omega) (by omega)).mono ?_
  rintro e w15 ⟨rfl, hm'⟩
  have LH15 := hid hm'.lies
  have hm := hm'.1.only
  have B15 : Hid (Below w.heap.size w w15) := B14.out.trans (hm.below B14.out.size (fun y h1 h2 => by have := h2.1; have := HBB.out; have := S13.out; have := S3X.out; omega))
  have K15 : Hid (Bk w15 w.heap.size 43 [.int .i64 k, .string ky, .string vl, .string lo, .string hi, .int .i64 mo, .bool bk]) := K14.out.to hm (fun e => by have := e.1; have := HBB.out; have := S13.out; have := S3X.out; omega)
  have P15 : Hid (Pr w15 (fun y => y < w3.heap.size) (.slice a0 n0 c0) (raDo l k ky vl lo hi mo bk)) := P14.out.to hm (fun y h1 _ h2 => by have := h2.1; have := HBB.out; have := S3X.out; omega)
  have Q15 : Hid (Pr w15 (fun y => y < w3.heap.size) (.slice a1 n1 c1) (raTo l k ky vl lo hi mo bk)) := Q14.out.to hm (fun y h1 _ h2 => by have := h2.1; have := HBB.out; have := S3X.out; omega)
  have HB15 : Hid (Below w3.heap.size w3 w15) := HB14.out.trans (hm.below HB14.out.size (fun y h1 h2 => by have := h2.1; have := HBB.out; have := S3X.out; omega))
  have LG15 : Hid (Lies w15 ag ng (ng * 2) (mV 1)) := lies_to (c := cg) LG14.out hm HDJ.out
  clear hm hm' B14 K14 P14 Q14 HB14 LG14 KW2 HDJ HSEP HGO
  have hk15 : ¬ ((1 + ng * 2 : Nat) : Int) < 0 := by omega
  have hk16 : ¬ ((1 + ng * 2 + nh * 2 : Nat) : Int) < 0 := by omega
  have hqq : (((1 + ng * 2 + nh * 2 : Nat) : Int) != ((1 + ng * 2 + nh * 2 : Nat) : Int)) = false := by simp
  have HT1 := hid (fun v (h : Lies v ag ng (ng * 2) (mV 1)) => heldPairS_big ag ng cg 1 v h hcg (by omega) (by omega) (by omega))
  have HT2 := hid (fun v (h : Lies v ah nh (nh * 2) (mV (1 + ng * 2))) => heldPairS_any ah nh ch (1 + ng * 2) v h hch (by omega) (by omega) (by omega))
  generalize 1 + ng * 2 = q1 at *
  generalize q1 + nh * 2 = q2 at *
  go_wp2_with fail
  refine (HT1.out _ LG15.out).mono ?_
  rintro e w16 ⟨rfl, hb⟩
  have B16 := hid (B15.out.trans (hb.mono B15.out.size))
  have HB16 := hid (HB15.out.trans (hb.mono HB15.out.size))
  have K16 := hid (K15.out.below hb)
  have P16 := hid (P15.out.below' hb)
  have Q16 := hid (Q15.out.below' hb)
  have LG16 := hid (LG15.out.below hb)
  have LH16 := hid (LH15.out.below hb)
  clear hb B15 HB15 K15 P15 Q15 LG15 LH15
  go_wp2_with fail
  refine (HT2.out _ LH16.out).mono ?_
  rintro e w17 ⟨rfl, hb⟩
  have B17 := hid (B16.out.trans (hb.mono B16.out.size))
  have HB17 := hid (HB16.out.trans (hb.mono HB16.out.size))
  have K17 := hid (K16.out.below hb)
  have P17 := hid (P16.out.below' hb)
  have Q17 := hid (Q16.out.below' hb)
  have LG17 := hid (LG16.out.below hb)
  have LH17 := hid (LH16.out.below hb)
  clear hb B16 HB16 K16 P16 Q16 LG16 LH16
  have k0 := K17.out.cell (j := 0) rfl
  have k1 := K17.out.cell (j := 1) rfl
  have k2 := K17.out.cell (j := 2) rfl
  have k3 := K17.out.cell (j := 3) rfl
  have k4 := K17.out.cell (j := 4) rfl
  have k5 := K17.out.cell (j := 5) rfl
  have k6 := K17.out.cell (j := 6) rfl
  have T17 := hid (kl7_0 k0 k1 k2 k3 k4 k5 k6)
  go_wp2_with fail
  go_region_held3 (fun v => v.cell? ⟨w.heap.size, 0, none⟩ = some (.int .i64 k) ∧ v.cell? ⟨w.heap.size, 1, none⟩ = some (.string ky) ∧ v.cell? ⟨w.heap.size, 2, none⟩ = some (.string vl) ∧ v.cell? ⟨w.heap.size, 3, none⟩ = some (.string lo) ∧ v.cell? ⟨w.heap.size, 4, none⟩ = some (.string hi) ∧ v.cell? ⟨w.heap.size, 5, none⟩ = some (.int .i64 mo) ∧ v.cell? ⟨w.heap.size, 6, none⟩ = some (.bool bk) ∧ KL w17 v [(⟨w.heap.size, 0, none⟩, .int .i64 k), (⟨w.heap.size, 1, none⟩, .string ky), (⟨w.heap.size, 2, none⟩, .string vl), (⟨w.heap.size, 3, none⟩, .string lo), (⟨w.heap.size, 4, none⟩, .string hi), (⟨w.heap.size, 5, none⟩, .int .i64 mo), (⟨w.heap.size, 6, none⟩, .bool bk)])
    (first | assumption | exact kl7 (T17.out.call (below_drew _)) | exact kl7c hbC (by assumption))
    (first
      | (go_at_call 15; have hz := (kl7_bel (by assumption)); refine (CP.out _ (HB17.out.trans (hz.mono HB17.out.size))).mono ?_; rintro e wa ⟨rfl, hKa, hbC⟩)
      | (go_at_call 18; refine (CA.out _).mono ?_; rintro e wb ⟨rfl, hbC⟩; have hKb := hKa.below hbC)
      | (go_at_call 9; refine (implRunAsk_any (fun _ => True) _ n n l k ky vl lo hi mo bk _ (hKb.pr HN.out (by omega) (fun _ => True) trivial) (by omega)).mono ?_; rintro e w18 ⟨a2, n2, c2, a3, n3, c3, rfl, hO0, ⟨B9, _, hO1, _⟩, hbC⟩))
  rename_i hS
  have hb := kl7_bel hS
  rw [← HOK.out]
  have B18 := hid (B17.out.trans (hb.mono B17.out.size))
  have P18 := hid (P17.out.below' hb)
  have Q18 := hid (Q17.out.below' hb)
  have LG18 := hid (LG17.out.below hb)
  have LH18 := hid (LH17.out.below hb)
  have G18 := hid hO0
  have R18 := hid hO1
  clear hS hb hz hKa hKb hbC hO0 hO1 T17 B17 K17 P17 Q17 LG17 LH17 HB17 k0 k1 k2 k3 k4 k5 k6
  go_wp2_with fail
  refine (eqPairS_at (fun _ => True) _ a2 a0 n2 n0 c2 c0 (raDo l k ky vl lo hi mo bk) (raDo l k ky vl lo hi mo bk) _ (G18.out.pr (fun _ _ _ _ => trivial)) P18.out).mono ?_
  rintro e w19 ⟨rfl, hb⟩
  rw [decide_eq_true rfl]
  have B19 := hid (B18.out.trans (hb.mono B18.out.size))
  have P19 := hid (P18.out.below' hb)
  have Q19 := hid (Q18.out.below' hb)
  have LG19 := hid (LG18.out.below hb)
  have LH19 := hid (LH18.out.below hb)
  have G19 := hid (G18.out.kept hb)
  have R19 := hid (R18.out.below hb)
  clear hb B18 P18 Q18 LG18 LH18 G18 R18
  go_wp2_with fail
  refine (eqPairS_at (fun _ => True) _ a3 a1 n3 n1 c3 c1 (raTo l k ky vl lo hi mo bk) (raTo l k ky vl lo hi mo bk) _ (Rw.mono R19.out.pr (fun _ _ _ => trivial)) Q19.out).mono ?_
  rintro e w20 ⟨rfl, hb⟩
  rw [decide_eq_true rfl]
  have B20 := hid (B19.out.trans (hb.mono B19.out.size))
  have P20 := hid (P19.out.below' hb)
  have Q20 := hid (Q19.out.below' hb)
  have LG20 := hid (LG19.out.below hb)
  have LH20 := hid (LH19.out.below hb)
  have G20 := hid (G19.out.kept hb)
  have R20 := hid (R19.out.below hb)
  clear hb B19 P19 Q19 LG19 LH19 G19 R19
  go_wp2_with fail
  refine (HT1.out _ LG20.out).mono ?_
  rintro e w21 ⟨rfl, hb⟩
  have B21 := hid (B20.out.trans (hb.mono B20.out.size))
  have LG21 := hid (LG20.out.below hb)
  have LH21 := hid (LH20.out.below hb)
  clear hb B20 LG20 LH20
  go_wp2_with fail
  refine (HT2.out _ LH21.out).mono ?_
  rintro e w22 ⟨rfl, hb⟩
  have B22 := hid (B21.out.trans (hb.mono B21.out.size))
  have LG22 := hid (LG21.out.below hb)
  have LH22 := hid (LH21.out.below hb)
  clear hb B21 LG21 LH21
  go_wp2
  go_ret
  exact ⟨rfl, B22.out⟩
end Go.Proofs.Ytnbafoennnhppaa
