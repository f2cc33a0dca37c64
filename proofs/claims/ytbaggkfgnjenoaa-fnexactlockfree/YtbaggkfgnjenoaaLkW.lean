/-
  Freeing: who is granted, in plain; a table, a row of grants and a row that is gone through, all apart; locksOfOthers of the program.
-/
import Derived.Test.YtbaggkfgnjenoaaLkQ
namespace Go.Proofs.Ytbaggkfgnjenoaa
open Go.RowKit
set_option linter.unusedVariables false
def gstep (s : List LK × List LK × List LK) (y : LK) : List LK × List LK × List LK := if mustW s.1 s.2.1 y then (s.1, s.2.1 ++ [y], s.2.2) else (s.1 ++ [y], s.2.1, s.2.2 ++ [y])
theorem grant_eq (ys : List LK) : ∀ s, grant ys s = ys.foldl gstep s := by
  induction ys with
  | nil => intro s; rfl
  | cons y ys ih =>
    rintro ⟨h, l, g⟩
    rw [List.foldl_cons, ← ih]
    rfl
theorem grant_snoc (ys : List LK) (y : LK) (s : List LK × List LK × List LK) : grant (ys ++ [y]) s = gstep (grant ys s) y := by
  rw [grant_eq, grant_eq, List.foldl_append]; rfl
theorem gstep_yes {s : List LK × List LK × List LK} {y : LK} (h : mustW s.1 s.2.1 y = true) : gstep s y = (s.1, s.2.1 ++ [y], s.2.2) := by rw [gstep, h]; rfl
theorem gstep_no {s : List LK × List LK × List LK} {y : LK} (h : mustW s.1 s.2.1 y = false) : gstep s y = (s.1 ++ [y], s.2.1, s.2.2 ++ [y]) := by rw [gstep, h]; rfl
theorem grant_len (ys : List LK) (s : List LK × List LK × List LK) : (grant ys s).1.length ≤ s.1.length + ys.length ∧ (grant ys s).2.1.length ≤ s.2.1.length + ys.length ∧ (grant ys s).2.2.length ≤ s.2.2.length + ys.length := by
  rw [grant_eq]
  induction ys generalizing s with
  | nil => simp
  | cons y ys ih =>
    rw [List.foldl_cons]
    have h1 := ih (gstep s y)
    have h2 : (gstep s y).1.length ≤ s.1.length + 1 ∧ (gstep s y).2.1.length ≤ s.2.1.length + 1 ∧ (gstep s y).2.2.length ≤ s.2.2.length + 1 := by
      unfold gstep
      split <;> simp
    simp only [List.length_cons]
    omega
theorem others_take (l : List LK) (t : TX) {k : Nat} (h : k < l.length) : others (l.take (k + 1)) t = others (l.take k) t ++ (if (lAt l k).1 = t then [] else [lAt l k]) := by
  unfold others
  rw [List.take_succ_eq_append_getElem h, List.filter_append]
  have e : lAt l k = l[k] := by simp [lAt, h]
  rw [e]
  by_cases q : (l[k]).1 = t
  · simp [q]
  · simp [q]
theorem others_len (l : List LK) (t : TX) : (others l t).length ≤ l.length := List.length_filter_le _ _
/-- A table h, v, a row of grants g and a row r, all made since U and apart from one another and from the box gb. -/
structure FR (U wr : World) (gb : Nat) (h v g r : Value) (hl wl gl rl : List LK) : Prop where
  bel : Below U.heap.size U wr
  own : LO wr U.heap.size h v hl wl
  gr : LW wr U.heap.size g gl
  row : LW wr U.heap.size r rl
  lo : U.heap.size ≤ gb
  hi : gb < wr.heap.size
  s1 : ∀ y, lbl h v y → y ≠ gb ∧ g.ownBlock ≠ some y ∧ r.ownBlock ≠ some y
  s2 : ∀ y, g.ownBlock = some y → y ≠ gb ∧ r.ownBlock ≠ some y
  s3 : ∀ y, r.ownBlock = some y → y ≠ gb
theorem FR.below {U w w' : World} {gb : Nat} {h v g r : Value} {hl wl gl rl : List LK} (H : FR U w gb h v g r hl wl gl rl) (hb : Below w.heap.size w w') : FR U w' gb h v g r hl wl gl rl :=
  ⟨H.bel.trans (hb.mono H.bel.size), H.own.below hb, H.gr.below hb, H.row.below hb, H.lo, Nat.lt_of_lt_of_le H.hi hb.size, H.s1, H.s2, H.s3⟩
theorem FR.step {U u w2 : World} {gb : Nat} {h v g r h' v' : Value} {hl wl gl rl hl' wl' : List LK} (H : FR U u gb h v g r hl wl gl rl) (ho : Only (lbl h v) u w2) (hO : LO w2 U.heap.size h' v' hl' wl') (hn : ∀ y, lbl h' v' y → lbl h v y ∨ u.heap.size ≤ y) : FR U w2 gb h' v' g r hl' wl' gl rl := by
  refine ⟨H.bel.trans (ho.below H.bel.size (fun b hb e => by have := (H.own.lt e).1; omega)), hO, H.gr.to ho (fun y e e2 => (H.s1 y e2).2.1 e), H.row.to ho (fun y e e2 => (H.s1 y e2).2.2 e), H.lo, Nat.lt_of_lt_of_le H.hi ho.size, fun y hy => ?_, H.s2, H.s3⟩
  rcases hn y hy with q | q
  · exact H.s1 y q
  · refine ⟨by have := H.hi; omega, fun e => ?_, fun e => ?_⟩
    · have := (H.gr.lt e).2; omega
    · have := (H.row.lt e).2; omega
theorem FR.stepG {U u w2 : World} {gb : Nat} {h v g r g' : Value} {hl wl gl rl gl' : List LK} (H : FR U u gb h v g r hl wl gl rl) (ho : LW w2 U.heap.size g' gl') (hg : u.grownBy w2 g.ownBlock) (ha : g'.ownBlock = g.ownBlock ∨ g'.ownBlock = some u.heap.size) : FR U w2 gb h v g' r hl wl gl' rl := by
  have o : Only (fun y => g.ownBlock = some y) u w2 := only_of_grown hg (fun k e => e)
  have hn : ∀ y, g'.ownBlock = some y → g.ownBlock = some y ∨ u.heap.size ≤ y := fun y e => by
    rcases ha with q | q
    · rw [q] at e; exact .inl e
    · rw [q] at e; have : u.heap.size = y := Option.some.inj e; exact .inr (by omega)
  refine ⟨H.bel.trans (o.below H.bel.size (fun b hb e => by have := (H.gr.lt e).1; omega)), H.own.to o (fun y hy e => (H.s1 y hy).2.1 e), ho, H.row.to o (fun y e e2 => (H.s2 y e2).2 e), H.lo, Nat.lt_of_lt_of_le H.hi o.size, fun y hy => ⟨(H.s1 y hy).1, fun e => ?_, (H.s1 y hy).2.2⟩, fun y e => ?_, H.s3⟩
  · rcases hn y e with q | q
    · exact (H.s1 y hy).2.1 q
    · have := (H.own.lt hy).2; omega
  · rcases hn y e with q | q
    · exact H.s2 y q
    · exact ⟨by have := H.hi; omega, fun e2 => by have := (H.row.lt e2).2; omega⟩
theorem FR.box {U u w2 : World} {gb : Nat} {h v g r : Value} {hl wl gl rl : List LK} (H : FR U u gb h v g r hl wl gl rl) (ho : Only (fun y => y = gb) u w2) : FR U w2 gb h v g r hl wl gl rl :=
  ⟨H.bel.trans (ho.below H.bel.size (fun b hb e => by have := H.lo; omega)), H.own.to ho (fun y hy e => (H.s1 y hy).1 e), H.gr.to ho (fun y hy e => (H.s2 y hy).1 e), H.row.to ho (fun y hy e => H.s3 y hy e), H.lo, Nat.lt_of_lt_of_le H.hi ho.size, H.s1, H.s2, H.s3⟩
/-- What LockFree leaves. -/
def FreePost (w : World) (hl wl : List LK) (t : TX) (e : Ending) (w' : World) : Prop :=
  ∃ a n c a' n' c' g m d, e = .returned (.tuple #[.agg #[.slice a n c, .slice a' n' c'], .slice g m d]) ∧ LO w' w.heap.size (.slice a n c) (.slice a' n' c') (freeV hl wl t).1 (freeV hl wl t).2.1 ∧ LW w' w.heap.size (.slice g m d) (freeV hl wl t).2.2 ∧ (∀ y, lbl (.slice a n c) (.slice a' n' c') y → (Value.slice g m d).ownBlock ≠ some y) ∧ Below w.heap.size w w'
set_option maxHeartbeats 4000000 in
theorem locksOfOthers_any (S : Nat → Prop) (a : Option Addr) (m k : Nat) (l : List LK) (c e n : Int) (w : World) (h : Lr w S (.slice a m k) l) (hsz : l.length ≤ 1048576) :
    Calls Try.prog 58 #[.slice a m k, .agg #[.int .i64 c, .int .i64 e, .int .i64 n]] w fun r w' => ∃ a' n' c', r = .returned (.slice a' n' c') ∧ LW w' w.heap.size (.slice a' n' c') (others l (c, e, n)) ∧ Below w.heap.size w w' := by
  have HN := hid (Rw.len h).1
  have bk := (Rw.len h).2
  have B0 := hid (below_new (o := .cells #[.int .i64 c, .int .i64 e, .int .i64 n] 27) (w := w) (Below.refl _ _))
  have K0 := hid (Bk.new w 27 [.int .i64 c, .int .i64 e, .int .i64 n])
  have H0 := hid h
  clear h
  have hq := fun a b d => neq_tx a b d c e n
  have hg := guard_tx .neq
  generalize hU : w.alloc (.cells #[.int .i64 c, .int .i64 e, .int .i64 n] 27) = U at *
  have HU := hid hU
  have SU : Hid (w.heap.size < U.heap.size) := K0.out.lt
  clear hU
  go_enter Try.func58, Try.ntmps58
  go_wp2_with fail
  rw [HU.out]
  go_loopw [5, 10] (fun x i wr => ∃ (j : Nat) (ra : Option Addr) (rn rc : Nat), x = .slice ra rn rc ∧ i = .int .i64 j ∧ j ≤ m ∧ Hid (Below U.heap.size U wr) ∧ Hid (LW wr U.heap.size (.slice ra rn rc) (others (l.take j) (c, e, n)))) (fun _ i _ => m - (intOf i).toNat)
  case atStart => exact ⟨0, none, 0, 0, rfl, rfl, Nat.zero_le _, Below.refl _ _, lw_nil _ _⟩
  case round =>
    obtain ⟨j, ra, rn, rc, rfl, rfl, hj, HB, HR⟩ := hrel
    by_cases hlt : j < m
    · have hlt' : (j : Int) < (m : Int) := by omega
      have hml : j < l.length := by rw [← HN.out]; exact hlt
      obtain ⟨b, off, ha, -, -, hcell⟩ := (H0.out.below (B0.out.trans (HB.out.mono B0.out.size))).at (by omega)
      obtain ⟨hc0, hc1, hc2, hc3, hc4, hc5⟩ := hcell j hlt
      clear hcell
      subst ha
      have HT := hid (others_take l (c, e, n) hml)
      have HLN := hid (others_len (l.take j) (c, e, n))
      generalize lAt l j = cur at hc0 hc1 hc2 hc3 hc4 hc5 HT
      obtain ⟨⟨cc, ce, cn⟩, ⟨clo, chi⟩, cex⟩ := cur
      have K1 := hid (K0.out.below HB.out)
      have k0 := K1.out.lt
      have x0 := K1.out.cell (j := 0) rfl
      have x1 := K1.out.cell (j := 1) rfl
      have x2 := K1.out.cell (j := 2) rfl
      have hq1 := hq cc ce cn
      clear hq
      have hsr : (others (l.take j) (c, e, n)).length ≤ 1048576 := by have := HLN.out; simp at this; omega
      by_cases hd : (cc, ce, cn) = (c, e, n)
      · have HO : Hid (others (l.take (j + 1)) (c, e, n) = others (l.take j) (c, e, n)) := by show _ = _; rw [HT.out, if_pos hd, List.append_nil]
        rw [decide_eq_true hd] at hq1
        have hb := below_new (o := .cells #[.int .i64 cc, .int .i64 ce, .int .i64 cn, .string clo, .string chi, .bool cex] 31) (w := wr) (Below.refl _ _)
        have B2 := hid (HB.out.trans (hb.mono HB.out.size))
        have R2 := hid (HR.out.below hb)
        clear hb hd HT
        go_wp2
        go_roundw
        case rel => exact ⟨j + 1, ra, rn, rc, rfl, by go_num, by omega, B2.out, by rw [HO.out]; exact R2.out⟩
        case measure => simp [intOf]; omega
      · have HO : Hid (others (l.take (j + 1)) (c, e, n) = others (l.take j) (c, e, n) ++ [((cc, ce, cn), (clo, chi), cex)]) := by show _ = _; rw [HT.out, if_neg hd]
        rw [decide_eq_false hd] at hq1
        have hb := below_new (o := .cells #[.int .i64 cc, .int .i64 ce, .int .i64 cn, .string clo, .string chi, .bool cex] 31) (w := wr) (below_new (o := .cells #[.int .i64 cc, .int .i64 ce, .int .i64 cn, .string clo, .string chi, .bool cex] 31) (w := wr.alloc (.cells #[.int .i64 cc, .int .i64 ce, .int .i64 cn, .string clo, .string chi, .bool cex] 31)) (Below.refl _ _))
        have B2 := hid (HB.out.trans (hb.mono HB.out.size))
        have R2 := hid (HR.out.below hb)
        have NB : Hid (Bk ((wr.alloc (.cells #[.int .i64 cc, .int .i64 ce, .int .i64 cn, .string clo, .string chi, .bool cex] 31)).alloc (.cells #[.int .i64 cc, .int .i64 ce, .int .i64 cn, .string clo, .string chi, .bool cex] 31)) (wr.heap.size + 1) 31 (lcs [((cc, ce, cn), (clo, chi), cex)])) := by
          have := Bk.new (wr.alloc (.cells #[.int .i64 cc, .int .i64 ce, .int .i64 cn, .string clo, .string chi, .bool cex] 31)) 31 [.int .i64 cc, .int .i64 ce, .int .i64 cn, .string clo, .string chi, .bool cex]
          rw [show (wr.alloc (.cells #[.int .i64 cc, .int .i64 ce, .int .i64 cn, .string clo, .string chi, .bool cex] 31)).heap.size = wr.heap.size + 1 by simp] at this
          exact this
        clear hb hd HT
        go_wp2_with (at_builtin; refine wpList_append_lk rfl _ _ rfl U.heap.size _ _ rfl R2.out (wr.heap.size + 1) ((cc, ce, cn), (clo, chi), cex) rfl NB.out hsr B2.out.size ?_)
        intro a' n' c' w4 hO4 hg4 ha4
        have B4 : Hid (Below U.heap.size U w4) := B2.out.trans ((only_of_grown hg4 (R := fun y => (Value.slice ra rn rc).ownBlock = some y) (fun k q => q)).below B2.out.size (fun b hb q => by have := (R2.out.lt q).1; omega))
        have R4 : Hid (LW w4 U.heap.size (.slice a' n' c') (others (l.take (j + 1)) (c, e, n))) := by show LW _ _ _ _; rw [HO.out]; exact hO4
        clear hO4 hg4 ha4
        go_wp2
        go_roundw
        case rel => exact ⟨j + 1, a', n', c', rfl, by go_num, by omega, B4.out, R4.out⟩
        case measure => simp [intOf]; omega
    · have HA : Hid (LW wr U.heap.size (.slice ra rn rc) (others l (c, e, n))) := by
        have := HR.out
        rwa [List.take_of_length_le (by rw [← HN.out]; omega)] at this
      go_wp2
      go_ret
      exact ⟨ra, rn, rc, rfl, HA.out.base (by have := SU.out; omega), B0.out.trans (HB.out.mono B0.out.size)⟩
end Go.Proofs.Ytbaggkfgnjenoaa

