/-
  DrawTreeScan: some small list of nodes, some range.
-/
import Derived.Test.YtjplocdjbfpcgaaMx5
import Derived.Test.YtjplocdjbfpcgaaMx1
import Derived.Test.YtjplocdjbfpcgaaMx6
import Derived.Test.YtjplocdjbfpcgaaMx2
import Derived.Test.YtjplocdjbfpcgaaMx4
namespace Go.Proofs.Ytjplocdjbfpcgaa
open Go.RowKit
theorem results_ts {fn : Func} {p q u x : Tmp} (h : fn.results = #[.cell p 25, .cell q 48, .tmp u, .tmp x]) (tmps : Array Value) (w : World) (g1 g2 : Nat) {y b c : Value} {lo hi : ByteArray} (hp : tmps.getD p undef = .pointer (some ⟨g1, 0, none⟩)) (hq : tmps.getD q undef = .pointer (some ⟨g2, 0, none⟩)) (hb : tmps.getD u undef = b) (hc : tmps.getD x undef = c)
    (c0 : w.cell? ⟨g1, 0, none⟩ = some y) (d0 : w.cell? ⟨g2, 0, none⟩ = some (.string lo)) (d1 : w.cell? ⟨g2, 1, none⟩ = some (.string hi)) : (results fn tmps).run Try.prog w = .ok (.tuple #[.agg #[y], .agg #[.string lo, .string hi], b, c]) w := by
  have hp' : tmps[p]?.getD undef = .pointer (some ⟨g1, 0, none⟩) := by simpa using hp
  have hq' : tmps[q]?.getD undef = .pointer (some ⟨g2, 0, none⟩) := by simpa using hq
  have hb' : tmps[u]?.getD undef = b := by simpa using hb
  have hc' : tmps[x]?.getD undef = c := by simpa using hc
  have hl : (loadVar 25 ⟨g1, 0, none⟩).run Try.prog w = .ok (.agg #[y]) w := by go_simp
  have hr : (loadVar 48 ⟨g2, 0, none⟩).run Try.prog w = .ok (.agg #[.string lo, .string hi]) w := load_rng d0 d1
  simp [results, h, hp', hq', hb', hc', asAddr, hl, hr, Result.andThen]
def DsPost (w : World) (e : Ending) (w' : World) : Prop := ∃ a n c ns lo hi x y, e = .returned (.tuple #[.agg #[.slice a n c], .agg #[.string lo, .string hi], x, y]) ∧ Nr w' (fun _ => True) (.slice a n c) ns ∧ (smallN ns ∧ ns.length ≤ 1048576) ∧ Below w.heap.size w w'
set_option maxHeartbeats 4000000 in
set_option maxRecDepth 20000 in
theorem drawTreeScan_any (a : Option Addr) (n c : Nat) (zs : List Int) (w : World) (h : Rd w a n c zs) (hl : n ≤ 1048576) :
    Calls Try.prog 27 #[.slice a n c] w fun e w' => DsPost w e w' := by
  have ba0 := thn2 (below_alloc w (.cells #[.slice none 0 0] 25)) (below_alloc _ (.cells #[.string ⟨#[]⟩, .string ⟨#[]⟩] 48))
  have B0 := hid ba0
  have K0 : Hid (Bk ((w.alloc (.cells #[.slice none 0 0] 25)).alloc (.cells #[.string ⟨#[]⟩, .string ⟨#[]⟩] 48)) w.heap.size 25 [.slice none 0 0]) := (Bk.new w 25 [.slice none 0 0]).alloc _
  have R0 : Hid (Bk ((w.alloc (.cells #[.slice none 0 0] 25)).alloc (.cells #[.string ⟨#[]⟩, .string ⟨#[]⟩] 48)) (w.heap.size + 1) 48 [.string ⟨#[]⟩, .string ⟨#[]⟩]) := by
    have := Bk.new (w.alloc (.cells #[.slice none 0 0] 25)) 48 [.string ⟨#[]⟩, .string ⟨#[]⟩]
    show Bk _ _ _ _
    simpa using this
  have HR := hid (h.kept ba0)
  have HG : Hid (w.heap.size + 1 < ((w.alloc (.cells #[.slice none 0 0] 25)).alloc (.cells #[.string ⟨#[]⟩, .string ⟨#[]⟩] 48)).heap.size) := by show _ < _; simp
  clear h ba0
  go_enter Try.func27, Try.ntmps27
  go_wp2_with fail
  refine (new_any a n c zs _ HR.out hl).mono ?_
  generalize (w.alloc (.cells #[.slice none 0 0] 25)).alloc (.cells #[.string ⟨#[]⟩, .string ⟨#[]⟩] 48) = w0 at *
  rintro e w1 ⟨rfl, hb1, hc1⟩
  have HB1 := hid (bthn B0.out hb1)
  have K1 := hid (K0.out.below hb1)
  have R1 := hid (R0.out.below hb1)
  have HC1 := hid hc1
  have HGL := hid hc1.lt
  clear hb1 hc1 B0 K0 R0 HR
  generalize w0.heap.size = g at *
  clear w0
  have HNE : Hid (w.heap.size ≠ g ∧ w.heap.size + 1 ≠ g) := by have := HG.out; exact ⟨by omega, by omega⟩
  go_wp2_with fail
  refine (anyT_any g _ HC1.out).mono ?_
  rintro e w2 ⟨ta, tn, tc, ns, rfl, hg2, hc2, hN2, hs2⟩
  have D := hid (Dd.new HB1.out HGL.out (by have := HG.out; omega) hg2 hc2 hN2 hs2)
  have K2 : Hid (Bk _ w.heap.size 25 [.slice none 0 0]) := (K1.out.grown hg2 HNE.out.1).alloc (.cells #[.slice ta tn tc] 25)
  have R2 : Hid (Bk _ (w.heap.size + 1) 48 [.string ⟨#[]⟩, .string ⟨#[]⟩]) := (R1.out.grown hg2 HNE.out.2).alloc (.cells #[.slice ta tn tc] 25)
  clear hg2 hc2 hN2 hs2 HB1 K1 R1 HC1 HGL
  go_wp2_with fail
  refine (anyRange_any g _ D.out.cu).mono ?_
  generalize w2.alloc (.cells #[.slice ta tn tc] 25) = U2 at *
  generalize w2.heap.size = tb at *
  rintro e w3 ⟨⟨lo, hi, rfl⟩, hg3, hc3⟩
  have ba3 := below_alloc w3 (.cells #[.string lo, .string hi] 48)
  have D3 := hid ((D.out.draw hg3 hc3).below ba3)
  have K3 := hid ((K2.out.grown hg3 HNE.out.1).below ba3)
  have R3 := hid ((R2.out.grown hg3 HNE.out.2).below ba3)
  have X3 := hid (Bk.new w3 48 [.string lo, .string hi])
  have HXG : Hid (g < w3.heap.size) := (D.out.draw hg3 hc3).cu.lt
  clear hg3 hc3 D K2 R2 ba3
  go_wp2_with fail
  refine (below_any g 9 _ D3.out.cu (by omega) (by omega)).mono ?_
  generalize w3.alloc (.cells #[.string lo, .string hi] 48) = U3 at *
  generalize w3.heap.size = xb at *
  have HXN : Hid (xb ≠ g) := by have := HXG.out; show _ ≠ _; omega
  rintro e w4 ⟨⟨m0, rfl, hm0, hm1⟩, hg4, hc4⟩
  have D4 := hid (D3.out.draw hg4 hc4)
  have K4 := hid (K3.out.grown hg4 HNE.out.1)
  have R4 := hid (R3.out.grown hg4 HNE.out.2)
  have X4 := hid (X3.out.grown hg4 HXN.out)
  clear hg4 hc4 D3 K3 R3 X3
  go_wp2_with fail
  refine (below_any g 6 _ D4.out.cu (by omega) (by omega)).mono ?_
  rintro e w5 ⟨⟨x, rfl, hx0, hx1⟩, hg5, hc5⟩
  have D5 := hid (D4.out.draw hg5 hc5)
  have K5 := hid (K4.out.grown hg5 HNE.out.1)
  have R5 := hid (R4.out.grown hg5 HNE.out.2)
  have X5 := hid (X4.out.grown hg5 HXN.out)
  clear hg5 hc5 D4 K4 R4 X4
  have HFIN : Hid (∀ (u : World) (y z : Value), Dd w u g tb ta tn tc ns → DsPost w (.returned (.tuple #[.agg #[.slice ta tn tc], .agg #[.string lo, .string hi], y, z])) (((u.setCell ⟨w.heap.size, 0, none⟩ (.slice ta tn tc)).setCell ⟨w.heap.size + 1, 0, none⟩ (.string lo)).setCell ⟨w.heap.size + 1, 1, none⟩ (.string hi))) := by
    intro u y z hD
    have hg := HG.out
    have ho : Only (fun y => y = w.heap.size ∨ y = w.heap.size + 1) u (((u.setCell ⟨w.heap.size, 0, none⟩ (.slice ta tn tc)).setCell ⟨w.heap.size + 1, 0, none⟩ (.string lo)).setCell ⟨w.heap.size + 1, 1, none⟩ (.string hi)) := (only_set (R := fun y => y = w.heap.size ∨ y = w.heap.size + 1) (.inl rfl) _).trans ((only_set (R := fun y => y = w.heap.size ∨ y = w.heap.size + 1) (.inr rfl) _).trans (only_set (R := fun y => y = w.heap.size ∨ y = w.heap.size + 1) (.inr rfl) _))
    refine ⟨_, _, _, ns, lo, hi, y, z, rfl, (hD.nr.to ho (fun y hy _ e => by have := hy.1; omega)).mono (fun _ _ _ => trivial), hD.sm, ?_⟩
    exact ((hD.be.setCell (p := ⟨w.heap.size, 0, none⟩) (Nat.le_refl _) _).setCell (p := ⟨w.heap.size + 1, 0, none⟩) (Nat.le_succ _) _).setCell (p := ⟨w.heap.size + 1, 1, none⟩) (Nat.le_succ _) _
  obtain ⟨n0, n1, n2, n3⟩ : ¬ w.heap.size = xb ∧ ¬ w.heap.size + 1 = xb ∧ ¬ w.heap.size = tb ∧ ¬ w.heap.size + 1 = tb := by
    have h1 := HG.out
    have h2 := HXG.out
    have h3 := D5.out.nb
    exact ⟨by omega, by omega, by omega, by omega⟩
  have m0' := Ne.symm n0
  have m1' := Ne.symm n1
  have m2' := Ne.symm n2
  have m3' := Ne.symm n3
  by_cases hx : x = 0
  · subst hx
    go_wp2_with fail
    refine (raw_cu g _ D5.out.cu).mono ?_
    rintro e w6 ⟨⟨mm, rfl, hmm⟩, hg6, hc6⟩
    have D6 := hid ((D5.out.draw hg6 hc6).below (below_drew _))
    have K6 := hid ((K5.out.grown hg6 HNE.out.1).below (below_drew _))
    have R6 := hid ((R5.out.grown hg6 HNE.out.2).below (below_drew _))
    have X6 := hid ((X5.out.grown hg6 HXN.out).below (below_drew _))
    clear hg6 hc6 D5 K5 R5 X5 hmm
    have t6 := D6.out.bk.cell (j := 0) rfl
    have x6 := X6.out.cell (j := 0) rfl
    have x7 := X6.out.cell (j := 1) rfl
    go_wp2_with fail
    go_region_with (go_at_call 38; refine (below_any g 2 _ D6.out.cu (by omega) (by omega)).mono ?_; rintro e w8 ⟨⟨q, rfl, hq0, hq1⟩, hg8, hc8⟩; have D8 := D6.out.draw hg8 hc8; have K8 := K6.out.grown hg8 HNE.out.1; have R8 := R6.out.grown hg8 HNE.out.2; have X8 := X6.out.grown hg8 HXN.out; have t8 := D8.bk.cell (j := 0) rfl; have y8 := X8.cell (j := 0) rfl; have z8 := X8.cell (j := 1) rfl; have k8 := K8.cell (j := 0) rfl; have l8 := K8.free 0; have r8 := R8.cell (j := 0) rfl; have s8 := R8.cell (j := 1) rfl; have u8 := R8.free 0; have v8 := R8.free 1)
    all_goals
      have HF := hid (fun y z => HFIN.out _ y z D8)
      clear D8 K8 R8 X8 HFIN D6 K6 R6 X6 hg8 hc8
      go_wp2
      refine bodyPost_ret (results_ts (y := .slice ta tn tc) (lo := lo) (hi := hi) rfl _ _ _ _ rfl rfl rfl rfl (by go_simp) (by go_simp) (by go_simp)) rfl ?_
      exact HF.out _ _
  · have D6 := hid (D5.out.below (below_drew _))
    have K6 := hid (K5.out.below (below_drew _))
    have R6 := hid (R5.out.below (below_drew _))
    have X6 := hid (X5.out.below (below_drew _))
    clear D5 K5 R5 X5
    have t6 := D6.out.bk.cell (j := 0) rfl
    have x6 := X6.out.cell (j := 0) rfl
    have x7 := X6.out.cell (j := 1) rfl
    go_wp2_with fail
    go_region_with (go_at_call 38; refine (below_any g 2 _ D6.out.cu (by omega) (by omega)).mono ?_; rintro e w8 ⟨⟨q, rfl, hq0, hq1⟩, hg8, hc8⟩; have D8 := D6.out.draw hg8 hc8; have K8 := K6.out.grown hg8 HNE.out.1; have R8 := R6.out.grown hg8 HNE.out.2; have X8 := X6.out.grown hg8 HXN.out; have t8 := D8.bk.cell (j := 0) rfl; have y8 := X8.cell (j := 0) rfl; have z8 := X8.cell (j := 1) rfl; have k8 := K8.cell (j := 0) rfl; have l8 := K8.free 0; have r8 := R8.cell (j := 0) rfl; have s8 := R8.cell (j := 1) rfl; have u8 := R8.free 0; have v8 := R8.free 1)
    all_goals
      have HF := hid (fun y z => HFIN.out _ y z D8)
      clear D8 K8 R8 X8 HFIN D6 K6 R6 X6 hg8 hc8
      go_wp2
      refine bodyPost_ret (results_ts (y := .slice ta tn tc) (lo := lo) (hi := hi) rfl _ _ _ _ rfl rfl rfl rfl (by go_simp) (by go_simp) (by go_simp)) rfl ?_
      exact HF.out _ _
end Go.Proofs.Ytjplocdjbfpcgaa
/-
  slices.IndexFunc, slices.DeleteFunc over pairs, with the scan's function.
-/
namespace Go.Proofs.Ytjplocdjbfpcgaa
open Go.RowKit
/-- Block b is a row whose first n pairs are X's. -/
def Ro (w : World) (b n : Nat) (X : Nat → PB) : Prop := ∃ T xs, Bk w b T xs ∧ ∀ x, x < n → xs[x * 2]? = some (.string (X x).1) ∧ xs[x * 2 + 1]? = some (.string (X x).2)
theorem Ro.below {w w' : World} {b n : Nat} {X : Nat → PB} (h : Ro w b n X) (hb : Below w.heap.size w w') : Ro w' b n X := by
  obtain ⟨T, xs, h1, h2⟩ := h
  exact ⟨T, xs, h1.below hb, h2⟩
theorem Ro.cell {w : World} {b n : Nat} {X : Nat → PB} (h : Ro w b n X) {x : Nat} (hx : x < n) : w.cell? ⟨b, x * 2, none⟩ = some (.string (X x).1) ∧ w.cell? ⟨b, x * 2 + 1, none⟩ = some (.string (X x).2) ∧ w.frozen? ⟨b, x * 2, none⟩ = false ∧ w.frozen? ⟨b, x * 2 + 1, none⟩ = false := by
  obtain ⟨T, xs, h1, h2⟩ := h
  exact ⟨h1.cell (h2 x hx).1, h1.cell (h2 x hx).2, h1.free _, h1.free _⟩
theorem Ro.lt {w : World} {b n : Nat} {X : Nat → PB} (h : Ro w b n X) : b < w.heap.size := by
  obtain ⟨T, xs, h1, h2⟩ := h
  exact h1.lt
theorem Ro.uf {w : World} {b n : Nat} {X : Nat → PB} (h : Ro w b n X) : Uf w b := by
  obtain ⟨T, xs, h1, h2⟩ := h
  exact h1.uf
def upd (X : Nat → PB) (i : Nat) (p : PB) (x : Nat) : PB := if x = i then p else X x
theorem Ro.set {w : World} {b n : Nat} {X : Nat → PB} (h : Ro w b n X) {i : Nat} (hi : i < n) (k v : ByteArray) : Ro ((w.setCell ⟨b, i * 2, none⟩ (.string k)).setCell ⟨b, i * 2 + 1, none⟩ (.string v)) b n (upd X i (k, v)) := by
  obtain ⟨T, xs, h1, h2⟩ := h
  refine ⟨T, _, (h1.set _ _).set _ _, fun x hx => ?_⟩
  have hl0 := (List.getElem?_eq_some_iff.1 (h2 i hi).1).1
  have hl1 := (List.getElem?_eq_some_iff.1 (h2 i hi).2).1
  unfold upd
  by_cases e : x = i
  · subst e
    rw [if_pos rfl]
    constructor
    · rw [List.getElem?_set_ne (by omega)]; simp [hl0]
    · simp [hl1]
  · rw [if_neg e]
    constructor
    · rw [List.getElem?_set_ne (by omega), List.getElem?_set_ne (by omega)]; exact (h2 x hx).1
    · rw [List.getElem?_set_ne (by omega), List.getElem?_set_ne (by omega)]; exact (h2 x hx).2
theorem Ro.pr {w : World} {b n : Nat} {X : Nat → PB} (h : Ro w b n X) {m c : Nat} {l : List PB} (hl : l.length = m) (hm : m ≤ n) (hc : m ≤ c) (hc2 : c ≤ 9223372036854775807) (hX : ∀ x, x < m → pAtB l x = X x) (S : Nat → Prop) (hS : S b) : Pr w S (.slice (some ⟨b, 0, none⟩) m c) l := by
  subst hl
  obtain ⟨T, xs, h1, h2⟩ := h
  refine ⟨_, c, rfl, hc, hc2, fun h0 => ?_, fun h => by (cases h), fun hp => ⟨b, 0, rfl, h1.lt, hS, fun j u hu => ?_⟩⟩
  · have : l = [] := List.eq_nil_of_length_eq_zero h0
    rw [this]; rfl
  · have hj : j < l.length * 2 := by have := (List.getElem?_eq_some_iff.1 hu).1; rwa [pcs_length] at this
    rw [Nat.zero_add]
    have hx := pcs_at l (j / 2) (by omega)
    have hy := h2 (j / 2) (by omega)
    rw [← hX (j / 2) (by omega)] at hy
    rcases Nat.mod_two_eq_zero_or_one j with e | e
    · rw [show j / 2 * 2 = j by omega] at hx hy
      rw [hu] at hx
      rw [h1.cell hy.1, hx.1]
    · rw [show j / 2 * 2 + 1 = j by omega] at hx hy
      rw [hu] at hx
      rw [h1.cell hy.2, hx.2]
theorem Ow.ro {w : World} {base : Nat} {a : Option Addr} {n c : Nat} {l : List PB} (h : Ow w base (.slice a n c) l) (hp : 0 < n) : ∃ b, a = some ⟨b, 0, none⟩ ∧ base ≤ b ∧ n = l.length ∧ n ≤ c ∧ c ≤ 9223372036854775807 ∧ Ro w b n (pAtB l) := by
  rcases h.2 with ⟨e, h0⟩ | ⟨g, cap, cur, e, h3, h4, h5, h6, h7, h8⟩
  · cases e; omega
  · cases e
    refine ⟨g, rfl, h3, rfl, h5, by unfold maxLen at h6; omega, ?_⟩
    refine ⟨_, cur.toList, by show _ = _; simpa using h4, fun x hx => ?_⟩
    obtain ⟨h1, h2⟩ := pcs_at l x hx
    rw [← h8] at h1 h2
    rw [List.getElem?_take] at h1 h2
    split at h1 <;> split at h2 <;> simp_all
theorem only_sets {R : Nat → Prop} {b : Nat} (h : R b) : ∀ (vs : List Value) (o : Nat) (w : World), Only R w (w.setCells b o vs)
  | [], _, w => Only.refl _ _
  | v :: vs, o, w => by
    rw [World.setCells]
    exact (only_set h v).trans (only_sets h vs (o + 1) _)
theorem bk_sets {b : Nat} {T : TypeId} : ∀ (vs : List Value) (o : Nat) (w : World) (xs : List Value), Bk w b T xs → ∃ ys, Bk (w.setCells b o vs) b T ys ∧ ys.length = xs.length ∧ ∀ x, x < o → ys[x]? = xs[x]?
  | [], _, w, xs, h => ⟨xs, h, rfl, fun _ _ => rfl⟩
  | v :: vs, o, w, xs, h => by
    obtain ⟨ys, h1, h2, h3⟩ := bk_sets vs (o + 1) _ _ (h.set o v)
    refine ⟨ys, h1, by rw [h2, List.length_set], fun x hx => ?_⟩
    rw [h3 x (by omega), List.getElem?_set_ne (by omega)]
theorem Ro.sets {w : World} {b n : Nat} {X : Nat → PB} (h : Ro w b n X) {i : Nat} (hi : i ≤ n) (vs : List Value) : Ro (w.setCells b (i * 2) vs) b i X := by
  obtain ⟨T, xs, h1, h2⟩ := h
  obtain ⟨ys, h3, _, h4⟩ := bk_sets vs (i * 2) w xs h1
  refine ⟨T, ys, h3, fun x hx => ?_⟩
  rw [h4 _ (by omega), h4 _ (by omega)]
  exact h2 x (by omega)
theorem run_clear_pairs (ty : TypeId) (w : World) (b o n c : Nat) (hc : ∀ j, j < n * 2 → (w.cell? ⟨b, o + j, none⟩).isSome = true) (hf : ∀ j, j < n * 2 → w.frozen? ⟨b, o + j, none⟩ = false) :
    (Builtin.clear_ #[32] ty #[.slice (some ⟨b, o, none⟩) n c]).run Try.prog w = .ok (.tuple #[]) (w.setCells b o (List.replicate (n * 2) (.string ⟨#[]⟩))) := by
  have hv : (zeroValue 35).run Try.prog w = .ok (.agg #[.string ⟨#[]⟩, .string ⟨#[]⟩]) w := by go_simp
  have hzc : (Builtin.zeroCells (Value.agg #[.string ⟨#[]⟩, .string ⟨#[]⟩]).cells n).toList = List.replicate (n * 2) (.string ⟨#[]⟩) := by
    simp [Builtin.zeroCells, Value.cells]
    apply List.ext_getElem
    · simp
    · intro i h1 h2
      simp
      rcases Nat.mod_two_eq_zero_or_one i with e | e <;> simp [e]
  have hst := run_storeCells_cells (P := Try.prog) b o (List.replicate (n * 2) (.string ⟨#[]⟩)) 0 w (by simpa using hc) (by simpa using hf) (by intro v hv'; rw [List.eq_of_mem_replicate hv']; rfl)
  simp only [Nat.add_zero] at hst
  cases n with
  | zero => simp [Builtin.clear_, World.setCells, run_underlying Try.underlying32]
  | succ m => simp [Builtin.clear_, run_underlying Try.underlying32, hv, hzc, hst]
set_option maxHeartbeats 1000000 in
theorem scan1_any (rb : Nat) (lo hi k v : ByteArray) (w : World) (hR : Bk w rb 48 [.string lo, .string hi]) :
    Calls Try.prog 65 #[.agg #[.string k, .string v], .pointer (some ⟨rb, 0, none⟩)] w fun e w' => e = .returned (.bool (!rHas lo hi k)) ∧ Below w.heap.size w w' := by
  have HB0 := hid (below_new (o := .cells #[.string k, .string v] 35) (w := w) (Below.refl _ _))
  have KR := hid (hR.below HB0.out)
  have KP := hid (Bk.new w 35 [.string k, .string v])
  have r0 := KR.out.cell (j := 0) rfl
  have r1 := KR.out.cell (j := 1) rfl
  have p0 := KP.out.cell (j := 0) rfl
  have HRH := hid (fun v => implRangeHas_any lo hi k v)
  simp only [rng] at HRH
  clear hR
  go_enter Try.func65, Try.ntmps65
  go_wp2_with fail
  refine (HRH.out _).mono ?_
  rintro e w1 ⟨rfl, hb⟩
  have HB1 := hid (Below.then' HB0.out hb (Nat.le_refl _))
  clear hb r0 r1 p0
  generalize hz : rHas lo hi k = z
  have HZ := hid hz
  clear hz
  go_wp2
  go_ret
  exact ⟨by rw [HZ.out]; rfl, HB1.out⟩
set_option maxHeartbeats 1000000 in
theorem idxF_any (S : Nat → Prop) (a : Option Addr) (n c rb : Nat) (l : List PB) (lo hi : ByteArray) (w : World) (h : Pr w S (.slice a n c) l) (hR : Bk w rb 48 [.string lo, .string hi]) (hn : n ≤ 1048576) :
    Calls Try.prog 94 #[.slice a n c, .func (.func 65) #[] #[.pointer (some ⟨rb, 0, none⟩)]] w fun e w' =>
      (∃ r : Int, e = .returned (.int .i64 r) ∧ ((r = -1 ∧ ∀ x, x < n → rHas lo hi (pAtB l x).1 = true) ∨ ∃ i : Nat, i < n ∧ r = i ∧ rHas lo hi (pAtB l i).1 = false ∧ ∀ x, x < i → rHas lo hi (pAtB l x).1 = true)) ∧ Below w.heap.size w w' := by
  have HN := hid (Rw.len h).1
  have hnc := (Rw.len h).2
  have H0 := hid h
  have KR := hid hR
  clear h hR
  go_enter Try.func94, Try.ntmps94
  go_wp2_with fail
  go_loopw [8] (fun x wr => ∃ j : Nat, x = .int .i64 j ∧ j ≤ n ∧ Hid (∀ x, x < j → rHas lo hi (pAtB l x).1 = true) ∧ Hid (Below w.heap.size w wr)) (fun x _ => n - (intOf x).toNat)
  case atStart => exact ⟨0, rfl, Nat.zero_le _, fun x h => absurd h (Nat.not_lt_zero _), Below.refl _ _⟩
  case round =>
    obtain ⟨j, rfl, hj, HA, HB⟩ := hrel
    by_cases hlt : j < n
    · have hlt' : (j : Int) < (n : Int) := by omega
      have hj0 : (0 : Int) ≤ (j : Int) := by omega
      have hp := H0.out.below HB.out
      obtain ⟨b, off, hab, _, _, _⟩ := Rw.at hp (by omega)
      subst hab
      obtain ⟨d0, d1⟩ := Pr.cells hp (i := j) (by have := HN.out; omega)
      clear hp
      go_wp2_with fail
      refine (scan1_any rb lo hi _ _ wr (KR.out.below HB.out)).mono ?_
      rintro e w1 ⟨rfl, hb⟩
      have HB1 := hid (Below.then' HB.out hb (Nat.le_refl _))
      clear hb d0 d1
      cases hh : rHas lo hi (pAtB l j).1 with
      | false =>
        have HR := hid hh
        clear hh
        go_wp2
        go_ret
        exact ⟨⟨j, rfl, .inr ⟨j, hlt, rfl, HR.out, HA.out⟩⟩, HB1.out⟩
      | true =>
        have HA1 : Hid (∀ x, x < j + 1 → rHas lo hi (pAtB l x).1 = true) := fun x hx => by
          by_cases e : x = j
          · subst e; exact hh
          · exact HA.out x (by omega)
        clear hh
        go_wp2
        go_roundw
        case rel => exact ⟨j + 1, by go_num, by omega, HA1.out, HB1.out⟩
        case measure => simp [intOf]; omega
    · have hlt' : ¬ (j : Int) < (n : Int) := by omega
      have hjn : j = n := by omega
      subst hjn
      go_wp2
      go_ret
      exact ⟨⟨-1, rfl, .inl ⟨rfl, HA.out⟩⟩, HB.out⟩
end Go.Proofs.Ytjplocdjbfpcgaa
/-
  slices.DeleteFunc over pairs, with the scan's function; slices.Reverse of pairs.
-/
namespace Go.Proofs.Ytjplocdjbfpcgaa
open Go.RowKit
/-- The slice value v is a row of its own, from its first place on, that may be written and holds f. -/
def Rp (w : World) (base : Nat) (v : Value) (f : List PB) : Prop := ∃ a m c, v = .slice a m c ∧ m = f.length ∧ m ≤ c ∧ c ≤ 9223372036854775807 ∧ (a = none → c = 0) ∧ (0 < m → ∃ b, a = some ⟨b, 0, none⟩ ∧ base ≤ b ∧ Ro w b m (pAtB f))
theorem Ow.rp {w : World} {base : Nat} {v : Value} {l : List PB} (h : Ow w base v l) : Rp w base v l := by
  obtain ⟨a, n, c, rfl, hn⟩ := h.shape'
  have hlen := Rw.len (h.pr (S := fun _ => True) (fun _ _ _ _ => trivial))
  refine ⟨a, n, c, rfl, hn.out, hlen.2.1, hlen.2.2, ?_, fun hp => ?_⟩
  · rintro rfl
    obtain ⟨a', c', e, _, _, _, h5, _⟩ := h.pr (S := fun _ => True) (fun _ _ _ _ => trivial)
    cases e
    exact h5 rfl
  · obtain ⟨b, h1, h2, _, _, _, h3⟩ := h.ro hp
    exact ⟨b, h1, h2, h3⟩
theorem Rp.pr {w : World} {base : Nat} {v : Value} {f : List PB} (h : Rp w base v f) : Pr w (fun b => base ≤ b ∧ Uf w b) v f := by
  obtain ⟨a, m, c, rfl, h1, h2, h3, h4, h5⟩ := h
  rcases Nat.eq_zero_or_pos m with h0 | hp
  · have : f = [] := List.eq_nil_of_length_eq_zero (by omega)
    subst this h0
    exact ⟨a, c, rfl, h2, h3, fun _ => rfl, h4, fun h => by simp at h⟩
  · obtain ⟨b, rfl, h6, h7⟩ := h5 hp
    exact h7.pr h1.symm (Nat.le_refl _) h2 h3 (fun _ _ => rfl) _ ⟨h6, h7.uf⟩
theorem Rp.below {w w' : World} {base : Nat} {v : Value} {f : List PB} (h : Rp w base v f) (hb : Below w.heap.size w w') : Rp w' base v f := by
  obtain ⟨a, m, c, rfl, h1, h2, h3, h4, h5⟩ := h
  refine ⟨a, m, c, rfl, h1, h2, h3, h4, fun hp => ?_⟩
  obtain ⟨b, h6, h7, h8⟩ := h5 hp
  exact ⟨b, h6, h7, h8.below hb⟩
def RpPost (base : Nat) (f : List PB) (w : World) (e : Ending) (w' : World) : Prop := ∃ a m c, e = .returned (.slice a m c) ∧ Rp w' base (.slice a m c) f ∧ Below base w w'
abbrev hasF (lo hi : ByteArray) (l : List PB) : List PB := l.filter fun p => rHas lo hi p.1
theorem hasF_step (lo hi : ByteArray) (l : List PB) (j : Nat) (h : j < l.length) : hasF lo hi (l.take (j + 1)) = if rHas lo hi (pAtB l j).1 = true then hasF lo hi (l.take j) ++ [pAtB l j] else hasF lo hi (l.take j) := by
  rw [List.take_succ_eq_append_getElem h, ← pAtB_lt h, hasF, List.filter_append]
  cases hh : rHas lo hi (pAtB l j).1 with
  | false => simp [hasF, hh]
  | true => simp [hasF, hh]
theorem hasF_le (lo hi : ByteArray) (l : List PB) (j : Nat) : (hasF lo hi (l.take j)).length ≤ j := Nat.le_trans (List.length_filter_le _ _) (by rw [List.length_take]; omega)
theorem hasF_all {lo hi : ByteArray} {l : List PB} {j : Nat} (hj : j ≤ l.length) (h : ∀ x, x < j → rHas lo hi (pAtB l x).1 = true) : hasF lo hi (l.take j) = l.take j := by
  rw [hasF, List.filter_eq_self]
  intro p hp
  obtain ⟨i, hi, rfl⟩ := List.mem_iff_getElem.1 hp
  have hi' : i < j := by rw [List.length_take] at hi; omega
  have := h i hi'
  rw [pAtB_lt (by omega)] at this
  rw [List.getElem_take]
  exact this
theorem pAtB_take {l : List PB} {j x : Nat} (h : x < j) : pAtB (l.take j) x = pAtB l x := by simp [pAtB, h]
theorem pAtB_snoc {l : List PB} {p : PB} {x : Nat} (h : x < l.length) : pAtB (l ++ [p]) x = pAtB l x := by simp [pAtB, List.getElem?_append_left h]
theorem pAtB_snoc' {l : List PB} {p : PB} : pAtB (l ++ [p]) l.length = p := by simp [pAtB]
set_option maxHeartbeats 4000000 in
set_option maxRecDepth 20000 in
theorem delF_any (a : Option Addr) (n c rb base : Nat) (l : List PB) (lo hi : ByteArray) (w : World) (hO : Ow w base (.slice a n c) l) (hbase : base ≤ w.heap.size) (hR : Bk w rb 48 [.string lo, .string hi]) (hrb : rb < base) (hn : n ≤ 200) :
    Calls Try.prog 64 #[.slice a n c, .func (.func 65) #[] #[.pointer (some ⟨rb, 0, none⟩)]] w fun e w' => RpPost base (hasF lo hi l) w e w' := by
  have HO := hid hO
  have KR := hid hR
  have HBS := hid (And.intro hbase hrb)
  have hlen := Rw.len (hO.pr (S := fun _ => True) (fun _ _ _ _ => trivial))
  have HN := hid hlen.1
  have hnc := hlen.2
  clear hO hR hlen hbase hrb
  go_enter Try.func64, Try.ntmps64
  go_wp2_with fail
  refine (idxF_any (fun _ => True) a n c rb l lo hi w (HO.out.pr (fun _ _ _ _ => trivial)) KR.out (by omega)).mono ?_
  rintro e w1 ⟨⟨r, rfl, hr⟩, hb⟩
  have HO1 := hid (HO.out.kept hb)
  have KR1 := hid (KR.out.below hb)
  have HB1 : Hid (Below base w w1) := hb.mono HBS.out.1
  have HW0 : Hid (base ≤ w.heap.size) := HBS.out.1
  have HBS1 : Hid (base ≤ w1.heap.size ∧ rb < base) := ⟨Nat.le_trans HBS.out.1 hb.size, HBS.out.2⟩
  clear hb HO KR HBS
  rcases hr with ⟨rfl, hall⟩ | ⟨i0, hi0, rfl, hno, hall⟩
  · have HE : Hid (hasF lo hi l = l) := by
      have := hasF_all (j := l.length) (lo := lo) (hi := hi) (Nat.le_refl _) (fun x hx => hall x (by rw [HN.out]; exact hx))
      rwa [List.take_length] at this
    clear hall
    go_wp2
    go_ret
    exact ⟨a, n, c, rfl, by rw [HE.out]; exact HO1.out.rp, HB1.out⟩
  · obtain ⟨b, rfl, hb1, -, -, -, hro⟩ := HO1.out.ro (by omega)
    have HBB : Hid (base ≤ b ∧ rb < base) := ⟨hb1, HBS1.out.2⟩
    have HRO := hid hro
    have HF0 : Hid (hasF lo hi (l.take (i0 + 1)) = l.take i0) := by
      show _ = _
      rw [hasF_step lo hi l i0 (by have := HN.out; omega), hno, if_neg (by simp), hasF_all (by have := HN.out; omega) hall]
    have hne : ((i0 : Int) == -1) = false := by simp
    clear hall hno hro HO1 hb1
    go_wp2_with fail
    go_loopw [5, 6] (fun x y wr => ∃ (i j : Nat) (X : Nat → PB), x = .int .i64 i ∧ y = .int .i64 j ∧ i < j ∧ j ≤ n ∧ Hid (i = (hasF lo hi (l.take j)).length) ∧ Hid (Ro wr b n X) ∧ Hid ((∀ x, x < i → X x = pAtB (hasF lo hi (l.take j)) x) ∧ ∀ x, j ≤ x → x < n → X x = pAtB l x) ∧ Hid (Bk wr rb 48 [.string lo, .string hi]) ∧ Hid (Below base w wr)) (fun _ y _ => n - (intOf y).toNat)
    case atStart =>
      refine ⟨i0, i0 + 1, pAtB l, rfl, by go_num, by omega, by omega, ?_, HRO.out, ⟨fun x hx => ?_, fun x _ _ => rfl⟩, KR1.out, HB1.out⟩
      · show _ = _; rw [HF0.out, List.length_take]; have := HN.out; omega
      · rw [HF0.out, pAtB_take hx]
    case round =>
      obtain ⟨i, j, X, rfl, rfl, hij, hjn, HI, HR2, HX, KR2, HB2⟩ := hrel
      by_cases hlt : j < n
      · have hlt' : (j : Int) < (n : Int) := by omega
        have hj0 : (0 : Int) ≤ (j : Int) := by omega
        obtain ⟨d0, d1, _, _⟩ := HR2.out.cell hlt
        rw [HX.out.2 j (Nat.le_refl _) hlt] at d0 d1
        have hb := below_new (o := .cells #[.string (pAtB l j).1, .string (pAtB l j).2] 35) (w := wr) (Below.refl _ _)
        have HR3 := hid (HR2.out.below hb)
        have KR3 := hid (KR2.out.below hb)
        have KP3 := hid (Bk.new wr 35 [.string (pAtB l j).1, .string (pAtB l j).2])
        have HB3 := hid (Below.then' HB2.out hb HW0.out)
        clear hb HR2 KR2 HB2
        have p0 := KP3.out.cell (j := 0) rfl
        have p1 := KP3.out.cell (j := 1) rfl
        go_wp2_with fail
        refine (scan1_any rb lo hi _ _ _ KR3.out).mono ?_
        have HST := hid (hasF_step lo hi l j (by have := HN.out; omega))
        generalize hpb : wr.heap.size = pb at *
        clear hpb
        generalize wr.alloc (.cells #[.string (pAtB l j).1, .string (pAtB l j).2] 35) = wp at *
        rintro e w3 ⟨rfl, hb⟩
        have HR4 := hid (HR3.out.below hb)
        have KR4 := hid (KR3.out.below hb)
        have KP4 := hid (KP3.out.below hb)
        have HB4 := hid (Below.then' HB3.out hb HW0.out)
        clear hb HR3 KR3 KP3 HB3 d0 d1 p0 p1
        cases hh : rHas lo hi (pAtB l j).1 with
        | false =>
          have HF1 : Hid (hasF lo hi (l.take (j + 1)) = hasF lo hi (l.take j)) := by have := HST.out; rw [hh] at this; show _ = _; simpa using this
          clear hh
          go_wp2
          go_roundw
          case rel => exact ⟨i, j + 1, X, rfl, by go_num, by omega, by omega, by rw [HF1.out]; exact HI.out, HR4.out, ⟨by rw [HF1.out]; exact HX.out.1, fun x h1 h2 => HX.out.2 x (by omega) h2⟩, KR4.out, HB4.out⟩
          case measure => simp [intOf]; omega
        | true =>
          have HF1 : Hid (hasF lo hi (l.take (j + 1)) = hasF lo hi (l.take j) ++ [pAtB l j]) := by have := HST.out; rw [hh] at this; show _ = _; simpa using this
          clear hh
          have hi' : (i : Int) < (n : Int) := by omega
          have p0 := KP4.out.cell (j := 0) rfl
          have p1 := KP4.out.cell (j := 1) rfl
          obtain ⟨d0, d1, f0, f1⟩ := HR4.out.cell (x := i) (by omega)
          generalize hX0 : X i = xi at *
          obtain ⟨x0, x1⟩ := xi
          simp only at d0 d1
          have HR5 := hid (HR4.out.set (i := i) (by omega) (pAtB l j).1 (pAtB l j).2)
          have hon : Only (fun y => y = b) w3 ((w3.setCell ⟨b, i * 2, none⟩ (.string (pAtB l j).1)).setCell ⟨b, i * 2 + 1, none⟩ (.string (pAtB l j).2)) := (only_set (R := fun y => y = b) rfl _).trans (only_set (R := fun y => y = b) rfl _)
          have KR5 := hid (KR4.out.to hon (by have := HBB.out; omega))
          have HB5 := hid (HB4.out.trans (hon.below (by have := HB4.out.size; have := HW0.out; omega) (fun y h1 h2 => by have := HBB.out; omega)))
          have HX5 : Hid ((∀ x, x < i + 1 → upd X i ((pAtB l j).1, (pAtB l j).2) x = pAtB (hasF lo hi (l.take j) ++ [pAtB l j]) x) ∧ ∀ x, j + 1 ≤ x → x < n → upd X i ((pAtB l j).1, (pAtB l j).2) x = pAtB l x) := by
            refine ⟨fun x hx => ?_, fun x h1 h2 => ?_⟩
            · unfold upd
              by_cases e : x = i
              · rw [if_pos e, e, HI.out, pAtB_snoc']
              · rw [if_neg e, pAtB_snoc (by rw [← HI.out]; omega)]
                exact HX.out.1 x (by omega)
            · unfold upd
              rw [if_neg (by omega)]
              exact HX.out.2 x (by omega) h2
          have HI5 : Hid (i + 1 = (hasF lo hi (l.take j) ++ [pAtB l j]).length) := by show _ = _; rw [List.length_append, ← HI.out]; rfl
          clear hon hX0
          generalize (pAtB l j).1 = kk at *
          generalize (pAtB l j).2 = vv at *
          go_wp2
          go_roundw
          case rel => exact ⟨i + 1, j + 1, _, by go_num, by go_num, by omega, by omega, by rw [HF1.out]; exact HI5.out, HR5.out, by rw [HF1.out]; exact HX5.out, KR5.out, HB5.out⟩
          case measure => simp [intOf]; omega
      · have hlt' : ¬ (j : Int) < (n : Int) := by omega
        have hjn' : j = n := by omega
        subst hjn'
        have HIN : Hid (hasF lo hi (l.take j) = hasF lo hi l) := by show _ = _; rw [HN.out, List.take_length]
        have hcl : ∀ ty, (Builtin.clear_ #[32] ty #[.slice (some ⟨b, i * 2, none⟩) (j - i) (c - i)]).run Try.prog wr = .ok (.tuple #[]) (wr.setCells b (i * 2) (List.replicate ((j - i) * 2) (.string ⟨#[]⟩))) := fun ty => by
          refine run_clear_pairs ty wr b (i * 2) (j - i) (c - i) (fun q hq => ?_) (fun q hq => ?_)
          · obtain ⟨d0, d1, _, _⟩ := HR2.out.cell (x := (i * 2 + q) / 2) (by omega)
            rcases Nat.mod_two_eq_zero_or_one (i * 2 + q) with e | e
            · rw [show (i * 2 + q) / 2 * 2 = i * 2 + q by omega] at d0; rw [d0]; rfl
            · rw [show (i * 2 + q) / 2 * 2 + 1 = i * 2 + q by omega] at d1; rw [d1]; rfl
          · obtain ⟨_, _, f0, f1⟩ := HR2.out.cell (x := (i * 2 + q) / 2) (by omega)
            rcases Nat.mod_two_eq_zero_or_one (i * 2 + q) with e | e
            · rw [show (i * 2 + q) / 2 * 2 = i * 2 + q by omega] at f0; exact f0
            · rw [show (i * 2 + q) / 2 * 2 + 1 = i * 2 + q by omega] at f1; exact f1
        have HR3 := hid (HR2.out.sets (i := i) (by omega) (List.replicate ((j - i) * 2) (.string ⟨#[]⟩)))
        have HB3 := hid (HB2.out.trans ((only_sets (R := fun y => y = b) rfl (List.replicate ((j - i) * 2) (.string ⟨#[]⟩)) (i * 2) wr).below (by have := HB2.out.size; have := HW0.out; omega) (fun y h1 h2 => by have := HBB.out; omega)))
        generalize wr.setCells b (i * 2) (List.replicate ((j - i) * 2) (.string ⟨#[]⟩)) = wz at *
        have hii : (i : Int) ≤ (j : Int) := by omega
        have hi0' : (0 : Int) ≤ (i : Int) := by omega
        have hic : (i : Int) ≤ (c : Int) := by omega
        go_wp2
        go_ret
        refine ⟨_, i, c, rfl, ⟨_, i, c, rfl, by rw [← HIN.out]; exact HI.out, by omega, by omega, fun h => by (cases h), fun _ => ⟨b, rfl, HBB.out.1, ?_⟩⟩, HB3.out⟩
        obtain ⟨T, xs, h1, h2⟩ := HR3.out
        refine ⟨T, xs, h1, fun x hx => ?_⟩
        rw [← HIN.out, ← HX.out.1 x hx]
        exact h2 x hx
end Go.Proofs.Ytjplocdjbfpcgaa
/-
  slices.Reverse of pairs.
-/
namespace Go.Proofs.Ytjplocdjbfpcgaa
open Go.RowKit
def revX (f : List PB) (n i : Nat) (x : Nat) : PB := if x < i ∨ n - i ≤ x then pAtB f (n - 1 - x) else pAtB f x
set_option maxHeartbeats 4000000 in
set_option maxRecDepth 20000 in
theorem rev_any (b n c : Nat) (f : List PB) (w : World) (hR : Ro w b n (pAtB f)) (hp : 0 < n) (hn : n ≤ 200) (hnc : n ≤ c) (hc : c ≤ 9223372036854775807) :
    Calls Try.prog 66 #[.slice (some ⟨b, 0, none⟩) n c] w fun e w' => e = .returned (.tuple #[]) ∧ Ro w' b n (fun x => pAtB f (n - 1 - x)) ∧ Only (fun y => y = b) w w' := by
  have HR := hid hR
  clear hR
  go_enter Try.func66, Try.ntmps66
  go_wp2_with fail
  go_loopw [2, 3] (fun x y wr => ∃ (i j : Nat), x = .int .i64 i ∧ y = .int .i64 j ∧ i + j = n - 1 ∧ i ≤ j + 1 ∧ Hid (Ro wr b n (revX f n i)) ∧ Hid (Only (fun y => y = b) w wr)) (fun _ y _ => (intOf y).toNat)
  case atStart =>
    refine ⟨0, n - 1, rfl, by go_num, by omega, by omega, ?_, Only.refl _ _⟩
    obtain ⟨T, xs, h1, h2⟩ := HR.out
    refine ⟨T, xs, h1, fun x hx => ?_⟩
    rw [revX, if_neg (by omega)]
    exact h2 x hx
  case round =>
    obtain ⟨i, j, rfl, rfl, hij, hle, HX, HO⟩ := hrel
    by_cases hlt : i < j
    · have hlt' : (i : Int) < (j : Int) := by omega
      have hi0 : (0 : Int) ≤ (i : Int) := by omega
      have hj0 : (0 : Int) ≤ (j : Int) := by omega
      have hin : (i : Int) < (n : Int) := by omega
      have hjn : (j : Int) < (n : Int) := by omega
      obtain ⟨a0, a1, a2, a3⟩ := HX.out.cell (x := i) (by omega)
      obtain ⟨b0, b1, b2, b3⟩ := HX.out.cell (x := j) (by omega)
      generalize hxi : revX f n i i = xi at *
      generalize hxj : revX f n i j = xj at *
      obtain ⟨k0, v0⟩ := xi
      obtain ⟨k1, v1⟩ := xj
      simp only at a0 a1 b0 b1
      have hxi' := hid hxi
      have hxj' := hid hxj
      clear hxi hxj
      go_wp2_with fail
      go_region
      have HX1 : Hid (Ro ((((wr.setCell ⟨b, i * 2, none⟩ (.string k1)).setCell ⟨b, i * 2 + 1, none⟩ (.string v1)).setCell ⟨b, j * 2, none⟩ (.string k0)).setCell ⟨b, j * 2 + 1, none⟩ (.string v0)).drew b n (revX f n (i + 1))) := by
        obtain ⟨T, xs, h1, h2⟩ := ((HX.out.set (i := i) (by omega) k1 v1).set (i := j) (by omega) k0 v0).below (below_drew _)
        refine ⟨T, xs, h1, fun x hx => ?_⟩
        have e : revX f n (i + 1) x = upd (upd (revX f n i) i (k1, v1)) j (k0, v0) x := by
          unfold upd
          by_cases e1 : x = j
          · rw [if_pos e1, ← hxi'.out, e1]
            simp only [revX]
            rw [if_pos (by omega), if_neg (by omega), show n - 1 - j = i by omega]
          · rw [if_neg e1]
            by_cases e2 : x = i
            · rw [if_pos e2, ← hxj'.out, e2]
              simp only [revX]
              rw [if_pos (by omega), if_neg (by omega), show n - 1 - i = j by omega]
            · rw [if_neg e2]
              simp only [revX]
              by_cases e3 : x < i ∨ n - i ≤ x
              · rw [if_pos e3, if_pos (by omega)]
              · rw [if_neg e3, if_neg (by omega)]
        rw [e]
        exact h2 x hx
      have HO1 : Hid (Only (fun y => y = b) w ((((wr.setCell ⟨b, i * 2, none⟩ (.string k1)).setCell ⟨b, i * 2 + 1, none⟩ (.string v1)).setCell ⟨b, j * 2, none⟩ (.string k0)).setCell ⟨b, j * 2 + 1, none⟩ (.string v0)).drew) :=
        (((((HO.out.trans (only_set (R := fun y => y = b) rfl _)).trans (only_set (R := fun y => y = b) rfl _)).trans (only_set (R := fun y => y = b) rfl _)).trans (only_set (R := fun y => y = b) rfl _))).trans (only_of_below (below_drew _) _)
      generalize ((((wr.setCell ⟨b, i * 2, none⟩ (.string k1)).setCell ⟨b, i * 2 + 1, none⟩ (.string v1)).setCell ⟨b, j * 2, none⟩ (.string k0)).setCell ⟨b, j * 2 + 1, none⟩ (.string v0)).drew = wz at *
      clear a0 a1 a2 a3 b0 b1 b2 b3
      have hjw : (j : Int) - 1 = ((j - 1 : Nat) : Int) := by omega
      go_wp2
      go_roundw
      case rel => exact ⟨i + 1, j - 1, by go_num, by rw [← hjw], by omega, by omega, HX1.out, HO1.out⟩
      case measure => simp [intOf]; omega
    · have hlt' : ¬ (i : Int) < (j : Int) := by omega
      have HE : Hid (Ro wr b n (fun x => pAtB f (n - 1 - x))) := by
        obtain ⟨T, xs, h1, h2⟩ := HX.out
        refine ⟨T, xs, h1, fun x hx => ?_⟩
        have := h2 x hx
        have e : revX f n i x = pAtB f (n - 1 - x) := by
          rw [revX]
          split
          · rfl
          · rw [show n - 1 - x = x by omega]
        rwa [e] at this
      go_wp2
      go_end0
      exact ⟨rfl, HE.out, HO.out⟩
set_option maxHeartbeats 1000000 in
theorem rev0_any (a : Option Addr) (c : Nat) (w : World) : Calls Try.prog 66 #[.slice a 0 c] w fun e w' => e = .returned (.tuple #[]) ∧ w' = w := by
  go_enter Try.func66, Try.ntmps66
  go_wp2_with fail
  go_loop [2, 3] (fun x y => x = .int .i64 0 ∧ y = .int .i64 (-1)) (fun _ _ => 0)
  case atStart => exact ⟨rfl, rfl⟩
  case round =>
    obtain ⟨rfl, rfl⟩ := hrel
    go_wp2
    go_end0
    exact ⟨rfl, rfl⟩
end Go.Proofs.Ytjplocdjbfpcgaa
/-
  impl.TreeScan.
-/
namespace Go.Proofs.Ytjplocdjbfpcgaa
open Go.RowKit
theorem filt_rev (lo hi : ByteArray) (l : List PB) (most : Int) : scV l lo hi most true = (hasF lo hi l).reverse.take most.toNat := by
  unfold scV dirL hasF
  simp
theorem pAtB_rev {f : List PB} {n x : Nat} (hn : n = f.length) (hx : x < n) : pAtB f.reverse x = pAtB f (n - 1 - x) := by
  rw [pAtB_lt (by simp; omega), pAtB_lt (by omega)]
  simp [hn]
theorem Rp.take {w : World} {base : Nat} {a : Option Addr} {m c : Nat} {f : List PB} (h : Rp w base (.slice a m c) f) {q : Nat} (hq : q ≤ m) : Rp w base (.slice a q c) (f.take q) := by
  obtain ⟨a', m', c', e, h1, h2, h3, h4, h5⟩ := h
  cases e
  refine ⟨a, q, c, rfl, by rw [List.length_take]; omega, by omega, h3, h4, fun hp => ?_⟩
  obtain ⟨b, h6, h7, T, xs, h8, h9⟩ := h5 (by omega)
  exact ⟨b, h6, h7, T, xs, h8, fun x hx => by rw [pAtB_take hx]; exact h9 x (by omega)⟩
theorem own_mono_rp {w : World} {base base' : Nat} {v : Value} {f : List PB} (h : Rp w base v f) (hb : base' ≤ base) : Rp w base' v f := by
  obtain ⟨a, m, c, h1, h2, h3, h4, h5, h6⟩ := h
  refine ⟨a, m, c, h1, h2, h3, h4, h5, fun hp => ?_⟩
  obtain ⟨b, h7, h8, h9⟩ := h6 hp
  exact ⟨b, h7, Nat.le_trans hb h8, h9⟩
set_option maxHeartbeats 4000000 in
theorem implTreeScan_any (S : Nat → Prop) (an : Option Addr) (nn cn : Nat) (ns : List NB) (lo hi : ByteArray) (most : Int) (back : Bool) (w : World) (hN : Nr w S (.slice an nn cn) ns) (hm : -9223372036854775808 ≤ most ∧ most ≤ 9223372036854775807) :
    Calls Try.prog 28 #[.agg #[.slice an nn cn], .agg #[.string lo, .string hi], .int .i64 most, .bool back] w fun e w' => RpPost w.heap.size (scV (alV ns) lo hi most back) w e w' := by
  have h1 := hN.len.2.1
  have h2 := hN.len.2.2
  have HBU : Hid (Below w.heap.size w ((w.alloc (.cells #[.slice an nn cn] 25)).alloc (.cells #[.string lo, .string hi] 48))) := below_new (below_new (Below.refl _ _))
  have H0 := hid (hN.below HBU.out)
  have K0 : Hid (Bk ((w.alloc (.cells #[.slice an nn cn] 25)).alloc (.cells #[.string lo, .string hi] 48)) w.heap.size 25 [.slice an nn cn]) := (Bk.new w 25 [.slice an nn cn]).alloc _
  have KR : Hid (Bk ((w.alloc (.cells #[.slice an nn cn] 25)).alloc (.cells #[.string lo, .string hi] 48)) (w.heap.size + 1) 48 [.string lo, .string hi]) := by
    have := Bk.new (w.alloc (.cells #[.slice an nn cn] 25)) 48 [.string lo, .string hi]
    show Bk _ _ _ _
    simpa using this
  have HUZ : Hid (w.heap.size + 1 < ((w.alloc (.cells #[.slice an nn cn] 25)).alloc (.cells #[.string lo, .string hi] 48)).heap.size) := KR.out.lt
  clear hN
  by_cases hm1 : most < 1
  · have HE : Hid (scV (alV ns) lo hi most back = []) := by show _ = _; rw [scV, show most.toNat = 0 by omega]; simp
    go_enter Try.func28, Try.ntmps28
    go_wp2
    go_ret
    exact ⟨none, 0, 0, rfl, by rw [HE.out]; exact (ow_nil _ _).rp, HBU.out⟩
  have hm1' : ¬ most < 1 := hm1
  have c0 := K0.out.cell (j := 0) rfl
  go_enter Try.func28, Try.ntmps28
  go_wp2_with fail
  refine (implTreeAll_any S an nn cn ns _ H0.out).mono ?_
  generalize (w.alloc (.cells #[.slice an nn cn] 25)).alloc (.cells #[.string lo, .string hi] 48) = U at *
  rintro e w1 ⟨vl, rfl, hO, hb⟩
  obtain ⟨a, n, c, hv, hn⟩ := hO.shape'
  subst hv
  have hnl : n ≤ 200 := by rw [hn.out]; exact alV_len ns
  have KR1 := hid (KR.out.below hb)
  have HB1 := hid (Below.then' HBU.out hb (Nat.le_refl _))
  have HO1 := hid hO
  have HS1 := hid hb.size
  clear hb hO c0 H0 K0 KR HBU hn
  generalize hll : alV ns = l at *
  have HLE := hid hll
  clear hll
  go_wp2_with fail
  refine (delF_any a n c (w.heap.size + 1) U.heap.size l lo hi w1 HO1.out HS1.out KR1.out HUZ.out hnl).mono ?_
  rintro e w2 ⟨a2, n2, c2, rfl, hrp, hb⟩
  have HB2 := hid (HB1.out.trans (hb.mono (by have := HUZ.out; omega)))
  have HR2 := hid hrp
  obtain ⟨_, _, _, hsh, hn2, hnc2, hc2, _, hro⟩ := hrp
  cases hsh
  have HN2 := hid hn2
  have hn2' : n2 ≤ 200 := by
    rw [hn2]
    refine Nat.le_trans (List.length_filter_le _ _) ?_
    have := (Rw.len (HO1.out.pr (S := fun _ => True) (fun _ _ _ _ => trivial))).1
    omega
  have HRO := hid hro
  have HSZ := hid hb.size
  clear hb hro hn2 KR1 HO1 HB1
  obtain ⟨q, hq⟩ : ∃ q : Nat, most = (q : Int) := ⟨most.toNat, by omega⟩
  subst hq
  have HQ : Hid (∀ f : List PB, (f.take (Int.toNat (q : Int))) = f.take q) := by
    intro f
    rw [Int.toNat_natCast]
  cases back with
  | false =>
    have HE : Hid (scV l lo hi (q : Int) false = (hasF lo hi l).take q) := by
      show _ = _
      rw [← HQ.out]
      rfl
    by_cases hqn : q ≤ n2
    · have hqn' : (q : Int) ≤ (n2 : Int) := by omega
      have hqc : (q : Int) ≤ (c2 : Int) := by omega
      have HR3 := hid (HR2.out.take hqn)
      go_wp2
      go_ret
      exact ⟨_, _, _, rfl, by rw [HLE.out, HE.out]; exact own_mono_rp HR3.out (by have := HUZ.out; omega), HB2.out⟩
    · have hqn' : ¬ (q : Int) ≤ (n2 : Int) := by omega
      have hqn'' : (n2 : Int) ≤ (q : Int) := by omega
      have HE2 : Hid ((hasF lo hi l).take q = hasF lo hi l) := List.take_of_length_le (by rw [← HN2.out]; omega)
      have hcc : (n2 : Int) ≤ (c2 : Int) := by omega
      go_wp2
      go_ret
      exact ⟨_, _, _, rfl, by rw [HLE.out, HE.out, HE2.out]; exact own_mono_rp HR2.out (by have := HUZ.out; omega), HB2.out⟩
  | true =>
    have HE : Hid (scV l lo hi (q : Int) true = (hasF lo hi l).reverse.take q) := by
      show _ = _
      rw [filt_rev, HQ.out]
    have HRV : Hid (Calls Try.prog 66 #[.slice a2 n2 c2] w2 fun e w' => e = .returned (.tuple #[]) ∧ Rp w' U.heap.size (.slice a2 n2 c2) (hasF lo hi l).reverse ∧ Below U.heap.size w2 w') := by
      show Calls _ _ _ _ _
      rcases Nat.eq_zero_or_pos n2 with h0 | hp
      · subst h0
        refine (rev0_any a2 c2 w2).mono ?_
        rintro e w3 ⟨rfl, rfl⟩
        have : hasF lo hi l = [] := List.eq_nil_of_length_eq_zero HN2.out.symm
        refine ⟨rfl, ?_, Below.refl _ _⟩
        rw [this]
        have h3 := HR2.out
        rw [this] at h3
        exact h3
      · obtain ⟨b, rfl, hbb, hrr⟩ := HRO.out hp
        refine (rev_any b n2 c2 _ w2 hrr hp hn2' hnc2 hc2).mono ?_
        rintro e w3 ⟨rfl, hr3, ho3⟩
        refine ⟨rfl, ⟨_, n2, c2, rfl, by rw [List.length_reverse]; exact HN2.out, hnc2, hc2, fun h => by (cases h), fun _ => ⟨b, rfl, hbb, ?_⟩⟩, ho3.below (by have h1 := HS1.out; have h2 := HSZ.out; omega) (fun y h1 h2 => by omega)⟩
        obtain ⟨T, xs, g1, g2⟩ := hr3
        exact ⟨T, xs, g1, fun x hx => by rw [pAtB_rev HN2.out hx]; exact g2 x hx⟩
    go_wp2_with fail
    refine HRV.out.mono ?_
    rintro e w3 ⟨rfl, hr3, hb3⟩
    have HB3 := hid (HB2.out.trans (hb3.mono (by have := HUZ.out; omega)))
    have HR3 := hid hr3
    clear hr3 hb3 HRV HRO
    by_cases hqn : q ≤ n2
    · have hqn' : (q : Int) ≤ (n2 : Int) := by omega
      have hqc : (q : Int) ≤ (c2 : Int) := by omega
      have HR4 := hid (HR3.out.take hqn)
      go_wp2
      go_ret
      exact ⟨_, _, _, rfl, by rw [HLE.out, HE.out]; exact own_mono_rp HR4.out (by have := HUZ.out; omega), HB3.out⟩
    · have hqn' : ¬ (q : Int) ≤ (n2 : Int) := by omega
      have hqn'' : (n2 : Int) ≤ (q : Int) := by omega
      have HE2 : Hid ((hasF lo hi l).reverse.take q = (hasF lo hi l).reverse) := List.take_of_length_le (by rw [List.length_reverse, ← HN2.out]; omega)
      have hcc : (n2 : Int) ≤ (c2 : Int) := by omega
      go_wp2
      go_ret
      exact ⟨_, _, _, rfl, by rw [HLE.out, HE.out, HE2.out]; exact own_mono_rp HR3.out (by have := HUZ.out; omega), HB3.out⟩
end Go.Proofs.Ytjplocdjbfpcgaa
/-
  The law FnScan answers true at every slice of bytes, and writes nothing that was there.
-/
namespace Go.Proofs.Ytjplocdjbfpcgaa
open Go.RowKit
theorem eql_pair (a b : ByteArray) (w : World) : (binOp .eql 35 (.agg #[.string a, .string b]) (.agg #[.string a, .string b])).run Try.prog w = .ok (.bool true) w := by
  have u9 := Try.underlying9
  have hS : Try.prog.underlying 35 = some (.struct (Try.prog.fieldsOf 35)) := by kernel_rfl
  have hp : Try.prog.stoodInHeld 35 = false := by kernel_rfl
  rw [run_eql_struct, show (10000 : Nat) = 9999 + 1 from rfl, run_equalIn_agg w 9999 35 _ _ hS hp]
  simp only [Program.fieldsOf, Try.underlying35]
  go_simp
theorem neq_pair_same (a b : ByteArray) (w : World) : (binOp .neq 35 (.agg #[.string a, .string b]) (.agg #[.string a, .string b])).run Try.prog w = .ok (.bool false) w := by
  rw [neq_pair, decide_eq_true rfl]; rfl
/-- The drawn tree and range, in their boxes. -/
structure Ls (w v : World) (tb xb : Nat) (ta : Option Addr) (tn tc : Nat) (ns : List NB) (lo hi : ByteArray) : Prop where
  be : Below w.heap.size w v
  bt : Bk v tb 25 [.slice ta tn tc]
  nt : Nr v (fun _ => True) (.slice ta tn tc) ns
  bx : Bk v xb 48 [.string lo, .string hi]
theorem Ls.below {w v v' : World} {tb xb : Nat} {ta : Option Addr} {tn tc : Nat} {ns : List NB} {lo hi : ByteArray} (h : Ls w v tb xb ta tn tc ns lo hi) (hb : Below v.heap.size v v') : Ls w v' tb xb ta tn tc ns lo hi :=
  ⟨bthn h.be hb, h.bt.below hb, h.nt.below hb, h.bx.below hb⟩
theorem Ls.ct {w v : World} {tb xb : Nat} {ta : Option Addr} {tn tc : Nat} {ns : List NB} {lo hi : ByteArray} (h : Ls w v tb xb ta tn tc ns lo hi) : v.cell? ⟨tb, 0, none⟩ = some (.slice ta tn tc) ∧ v.cell? ⟨xb, 0, none⟩ = some (.string lo) ∧ v.cell? ⟨xb, 1, none⟩ = some (.string hi) := ⟨h.bt.cell (j := 0) rfl, h.bx.cell (j := 0) rfl, h.bx.cell (j := 1) rfl⟩
theorem rev_at {l : List PB} {i : Nat} (h : i < l.length) : pAtB l.reverse (l.length - 1 - i) = pAtB l i := by
  rw [pAtB_lt h, pAtB_lt (by rw [List.length_reverse]; omega), List.getElem_reverse]
  congr 1
  omega
theorem take1_at {l : List PB} (h : 0 < l.length) : pAtB (l.take 1) 0 = pAtB l 0 := by
  cases l with
  | nil => simp at h
  | cons x l => rfl
set_option maxHeartbeats 8000000 in
set_option maxRecDepth 20000 in
theorem lawFScan_walk (a : Option Addr) (n c : Nat) (z0 : List Int) (w : World) (w0 : IsRow .u8 w a n c z0) :
    Calls Try.prog 7 #[.slice a n c] w fun e w' => e = .returned (.bool true) ∧ Below w.heap.size w w' := by
  by_cases hbig : 1048576 < n
  · have hb' : (1048576 : Int) < (n : Int) := by omega
    clear w0
    go_enter Try.func7, Try.ntmps7
    go_wp2
    go_ret
    exact ⟨rfl, Below.refl _ _⟩
  · have hrd := rd_of_row w0 (by omega)
    generalize z0.take n = zs at hrd
    have hns : ¬ (1048576 : Int) < (n : Int) := by omega
    clear w0
    have HR : Hid (Rd w a n c zs) := hrd
    clear hrd
    go_enter Try.func7, Try.ntmps7
    go_wp2_with fail
    refine (drawTreeScan_any a n c zs _ HR.out (by omega)).mono ?_
    rintro e w1 ⟨ta, tn, tc, ns, lo, hi, x0, y0, rfl, hN1, hs1, hb1⟩
    have HS := hid hs1
    have L1 : Hid (Ls w ((w1.alloc (.cells #[.slice ta tn tc] 25)).alloc (.cells #[.string lo, .string hi] 48)) w1.heap.size (w1.heap.size + 1) ta tn tc ns lo hi) := by
      have b1 := below_alloc w1 (.cells #[.slice ta tn tc] 25)
      have b2 := below_alloc (w1.alloc (.cells #[.slice ta tn tc] 25)) (.cells #[.string lo, .string hi] 48)
      refine ⟨bthn (bthn hb1 b1) b2, (Bk.new w1 25 [.slice ta tn tc]).below b2, (hN1.below b1).below b2, ?_⟩
      have := Bk.new (w1.alloc (.cells #[.slice ta tn tc] 25)) 48 [.string lo, .string hi]
      simpa using this
    have HLN := hid (alV_len ns)
    clear hN1 hs1 hb1 HR
    obtain ⟨t1, x1, x2⟩ := L1.out.ct
    go_wp2_with fail
    refine (implTreeScan_any _ ta tn tc ns lo hi 200 false _ L1.out.nt (by omega)).mono ?_
    generalize (w1.alloc (.cells #[.slice ta tn tc] 25)).alloc (.cells #[.string lo, .string hi] 48) = U1 at *
    generalize w1.heap.size + 1 = xb at *
    generalize w1.heap.size = tb at *
    rintro e w2 ⟨aa, an, ac, rfl, hA2, hb2⟩
    have L2 := hid (L1.out.below hb2)
    have A2 := hid (Rw.mono hA2.pr (R := fun _ => True) (fun _ _ _ => trivial))
    clear hA2 hb2 L1 t1 x1 x2
    obtain ⟨t1, x1, x2⟩ := L2.out.ct
    go_wp2_with fail
    refine (implTreeScan_any _ ta tn tc ns lo hi 200 true _ L2.out.nt (by omega)).mono ?_
    rintro e w3 ⟨ba, bn, bc, rfl, hB3, hb3⟩
    have L3 := hid (L2.out.below hb3)
    have A3 := hid (Rw.below A2.out hb3)
    have B3 := hid (Rw.mono hB3.pr (R := fun _ => True) (fun _ _ _ => trivial))
    clear hB3 hb3 L2 A2 t1 x1 x2
    obtain ⟨t1, x1, x2⟩ := L3.out.ct
    go_wp2_with fail
    refine (specTreeScan_any ns HS.out.2 HS.out.1 _ ta tn tc lo hi 200 false _ L3.out.nt).mono ?_
    rintro e w4 ⟨v4, rfl, hO4, hb4⟩
    obtain ⟨sa, sn, sc, rfl, hsn⟩ := hO4.shape'
    have L4 := hid (L3.out.below hb4)
    have A4 := hid (Rw.below A3.out hb4)
    have B4 := hid (Rw.below B3.out hb4)
    clear hO4 hb4 L3 A3 B3 t1 x1 x2
    have HONE := hid (scV_one HLN.out lo hi)
    have HBK := hid (scV_back HLN.out lo hi)
    have HHA := hid (fun (i : Nat) h => scV_has HLN.out lo hi (i := i) h)
    have HLA : Hid ((scV (alV ns) lo hi 200 false).length ≤ 200) := by
      show _ ≤ _
      rw [scV, List.length_take]
      exact Nat.le_trans (Nat.min_le_left _ _) (by decide)
    rw [HBK.out] at HONE B4
    generalize scV (alV ns) lo hi 200 false = A at *
    have han : Hid (an = A.length) := (Rw.len A4.out).1
    have hbn : Hid (bn = A.length) := by have := (Rw.len B4.out).1; rw [List.length_reverse] at this; exact this
    obtain rfl : sn = an := by rw [hsn.out, han.out]
    obtain rfl : bn = sn := by rw [hbn.out, han.out]
    have hac := (Rw.len A4.out).2
    have hbc := (Rw.len B4.out).2
    have hn2 : bn ≤ 200 := by rw [hbn.out]; exact HLA.out
    have hnn : ((bn : Int) != (bn : Int)) = false := by simp
    clear hsn HLA hbn HLN
    go_wp2_with fail
    go_loopw [43] (fun i wr => ∃ (j : Nat), j ≤ bn ∧ i = .int .i64 j ∧ Hid (Pr wr (fun _ => True) (.slice aa bn ac) A) ∧ Hid (Pr wr (fun _ => True) (.slice ba bn bc) A.reverse) ∧ Hid (Ls w wr tb xb ta tn tc ns lo hi)) (fun i _ => bn - (intOf i).toNat)
    case atStart => exact ⟨0, Nat.zero_le _, rfl, A4.out, B4.out, L4.out⟩
    case round =>
      obtain ⟨j, hj, rfl, A5, B5, L5⟩ := hrel
      clear A4 B4 L4
      by_cases hlt : j < bn
      · have hlt' : (j : Int) < (bn : Int) := by omega
        have hjA : j < A.length := by rw [← han.out]; exact hlt
        have HC : Hid (∀ v, Below wr.heap.size wr v → ∃ pb po qb qo, aa = some ⟨pb, po, none⟩ ∧ ba = some ⟨qb, qo, none⟩ ∧ v.cell? ⟨pb, po + j * 2, none⟩ = some (.string (pAtB A j).1) ∧ v.cell? ⟨pb, po + j * 2 + 1, none⟩ = some (.string (pAtB A j).2) ∧ v.cell? ⟨qb, qo + (bn - 1 - j) * 2, none⟩ = some (.string (pAtB A j).1) ∧ v.cell? ⟨qb, qo + (bn - 1 - j) * 2 + 1, none⟩ = some (.string (pAtB A j).2)) := by
          intro v hb
          obtain ⟨pb, po, e1, -, -, hc⟩ := (Pr.at (Rw.below A5.out hb) (by omega))
          obtain ⟨qb, qo, e2, -, -, hd⟩ := (Pr.at (Rw.below B5.out hb) (by omega))
          have e3 : pAtB A.reverse (bn - 1 - j) = pAtB A j := by rw [han.out]; exact rev_at hjA
          have hd' := hd (bn - 1 - j) (by omega)
          rw [e3] at hd'
          exact ⟨pb, po, qb, qo, e1, e2, (hc j hlt).1, (hc j hlt).2, hd'.1, hd'.2⟩
        obtain ⟨pb, po, qb, qo, rfl, rfl, m0, m1, m2, m3⟩ := HC.out _ (below_drew _)
        have HRH : Hid (∀ v, Calls Try.prog 30 #[.agg #[.string lo, .string hi], .string (pAtB A j).1] v fun e w' => e = .returned (.bool true) ∧ Below v.heap.size v w') := fun v => by
          have := implRangeHas_any lo hi (pAtB A j).1 v
          rwa [HHA.out j hjA] at this
        have hw1 : IntKind.i64.wrap ((bn : Int) - 1) = (bn : Int) - 1 := by simp [IntKind.wrap, IntKind.signed, IntKind.bits]; omega
        obtain ⟨d, hd⟩ : ∃ d, d = bn - 1 - j := ⟨_, rfl⟩
        rw [← hd] at m2 m3
        have hdd : (bn : Int) - 1 - (j : Int) = (d : Int) := by omega
        have hw2 : IntKind.i64.wrap ((bn : Int) - 1 - (j : Int)) = (d : Int) := by rw [hdd]; simp [IntKind.wrap, IntKind.signed, IntKind.bits]; omega
        have hdl : (d : Int) < (bn : Int) := by omega
        have hw3 : IntKind.i64.wrap (d : Int) = (d : Int) := by simp [IntKind.wrap, IntKind.signed, IntKind.bits]; omega
        clear HC hd hdd
        generalize (pAtB A j).1 = kk at *
        generalize (pAtB A j).2 = vv at *
        have hnq := neq_pair_same kk vv
        have L6 := hid (L5.out.below (below_drew _))
        have A6 := hid (Rw.below A5.out (below_drew _))
        have B6 := hid (Rw.below B5.out (below_drew _))
        clear L5 A5 B5
        obtain ⟨t6, y6, z6⟩ := L6.out.ct
        go_wp2_with fail
        go_region_with (go_at_call 30; refine (HRH.out _).mono ?_; rintro e w8 ⟨rfl, hb8⟩; have L8 := L6.out.below hb8; have A8 := Rw.below A6.out hb8; have B8 := Rw.below B6.out hb8)
        all_goals
          have L9 := hid L8
          have A9 := hid A8
          have B9 := hid B8
          clear L8 A8 B8 hb8 L6 A6 B6
          go_wp2
          go_roundw
          case rel => exact ⟨j + 1, by omega, by go_num, A9.out, B9.out, L9.out⟩
          case measure => simp [intOf]; omega
      · have hlt' : ¬ (j : Int) < (bn : Int) := by omega
        obtain ⟨t6, y6, z6⟩ := L5.out.ct
        clear HHA hj
        go_wp2_with fail
        refine (implTreeScan_any _ ta tn tc ns lo hi 1 true _ L5.out.nt (by omega)).mono ?_
        rw [HONE.out]
        rintro e w7 ⟨oa, on, oc, rfl, hO7, hb7⟩
        have HB7 := hid (L5.out.below hb7).be
        have O7 := hid (Rw.mono hO7.pr (R := fun _ => True) (fun _ _ _ => trivial))
        have B7 := hid (Rw.below B5.out hb7)
        have hon : on = (A.reverse.take 1).length := (Rw.len O7.out).1
        rw [List.length_take, List.length_reverse, ← han.out] at hon
        clear hO7 hb7 L5 A5 B5 t6 y6 z6
        by_cases hz : bn = 0
        · subst hz
          have h0 : on = 0 := by omega
          subst h0
          clear O7 B7 hlt' hon
          go_wp2_with fail
          go_quiet (fail)
          go_wp2
          go_ret
          exact ⟨rfl, bthn HB7.out (below_drewN _ _)⟩
        · have h1 : on = 1 := by omega
          subst h1
          have hz' : ¬ (bn : Int) = 0 := by omega
          obtain ⟨pb, po, e1, -, -, hc⟩ := Pr.at O7.out (by omega)
          obtain ⟨qb, qo, e2, -, -, hd⟩ := Pr.at B7.out (by omega)
          subst e1 e2
          have e3 : pAtB (A.reverse.take 1) 0 = pAtB A.reverse 0 := take1_at (by rw [List.length_reverse, ← han.out]; omega)
          have c0 := (hc 0 (by omega)).1
          have c1 := (hc 0 (by omega)).2
          have d0 := (hd 0 (by omega)).1
          have d1 := (hd 0 (by omega)).2
          rw [e3] at c0 c1
          generalize (pAtB A.reverse 0).1 = kk at *
          generalize (pAtB A.reverse 0).2 = vv at *
          simp only [Nat.zero_mul, Nat.add_zero] at c0 c1 d0 d1
          have heq := eql_pair kk vv
          have hb0 : (0 : Int) < (bn : Int) := by omega
          have hb1 : 0 < bn := by omega
          have e1 : ((bn : Int) == 0) = false := by simp; omega
          have e2 : decide ((bn : Int) = 0) = false := decide_eq_false hz'
          have e4 : decide (bn = 0) = false := decide_eq_false hz
          clear hc hd e3 O7 B7 hlt' hon
          go_wp2_with fail
          go_quiet (fail)
          go_wp2
          go_ret
          exact ⟨rfl, bthn HB7.out (below_drewN _ _)⟩
end Go.Proofs.Ytjplocdjbfpcgaa
