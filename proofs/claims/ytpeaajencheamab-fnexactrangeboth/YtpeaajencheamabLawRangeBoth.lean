/-
  The law FnExactRangeBoth answers true at every two ranges.
-/
import Derived.Test.YtpeaajencheamabRngBA
import Derived.Test.YtpeaajencheamabTwo
import Derived.Deep.DeepCutAuto
namespace Go.Proofs.Ytpeaajencheamab
open Go.RowKit
set_option maxHeartbeats 4000000 in
theorem lawRangeBoth_walk (la ha lb hb : ByteArray) (w : World) (hl : la.size ≤ maxLen ∧ ha.size ≤ maxLen) (hm : lb.size ≤ maxLen ∧ hb.size ≤ maxLen) : Calls Try.prog 4 #[.agg #[.string la, .string ha], .agg #[.string lb, .string hb]] w fun e w' => e = .returned (.bool true) ∧ Below w.heap.size w w' := by
  unfold maxLen at hl hm
  obtain ⟨hl1, hl2⟩ := hl
  obtain ⟨hm1, hm2⟩ := hm
  go_enter Try.func4, Try.ntmps4
  go_wp2_with fail
  refine (szRange_any la ha 1048576 _ (by omega) (by omega) (by omega) (by omega)).mono ?_
  rintro e v1 ⟨⟨x, rfl, hx1, hx2⟩, hb1⟩
  obtain ⟨a0, a1, b0, b1, hb1⟩ := two_then hb1
  by_cases hx : x < 0
  · go_wp2
    go_ret
    exact ⟨rfl, below_new (below_new hb1)⟩
  · go_wp2_with fail
    refine (szRange_any lb hb x _ (by omega) (by omega) (by omega) (by omega)).mono ?_
    rintro e v2 ⟨⟨y, rfl, hy1, hy2⟩, hb2⟩
    obtain ⟨c0, c1, d0, d1, hb2⟩ := two_then (hb1.trans (hb2.mono hb1.size))
    clear a0 a1 b0 b1 hb1
    by_cases hy : y < 0
    · go_wp2
      go_ret
      exact ⟨rfl, below_new (below_new hb2)⟩
    · have T2 : Hid (Q4 v2 v2 w.heap.size (w.heap.size + 1) (.string la) (.string ha) (.string lb) (.string hb)) := ⟨c0, c1, d0, d1, Below.refl _ _⟩
      have hz0 : v2.heap.size ≤ v2.heap.size := Nat.le_refl _
      have hz1 : v2.heap.size ≤ v2.drew.heap.size := hz0
      have B2 := hid hb2
      clear hb2 hb1 hx1 hx2 hy1 hy2 hl1 hl2 hm1 hm2
      go_wp2_with fail
      go_cut [6, 7] (fun p b v => b = .bool (bth la ha lb hb) ∧ ∃ g, p = .pointer (some ⟨g, 0, none⟩) ∧ v.cell? ⟨g, 0, none⟩ = some (.string (bLo la ha lb hb)) ∧ v.cell? ⟨g, 1, none⟩ = some (.string (bHi la ha lb hb)) ∧ Q4 v2 v w.heap.size (w.heap.size + 1) (.string la) (.string ha) (.string lb) (.string hb))
      case first =>
        go_region_held3 (fun v => v.cell? ⟨w.heap.size, 0, none⟩ = some (.string la) ∧ v.cell? ⟨w.heap.size, 1, none⟩ = some (.string ha) ∧ v.cell? ⟨w.heap.size + 1, 0, none⟩ = some (.string lb) ∧ v.cell? ⟨w.heap.size + 1, 1, none⟩ = some (.string hb) ∧ Q4 v2 v w.heap.size (w.heap.size + 1) (.string la) (.string ha) (.string lb) (.string hb))
          (first | assumption | exact (T2.out.step (below_drew _)).cells | exact Q4.call hbC (by assumption) | exact Q4.call (below_alloc _ _) (by assumption) | exact Q4.swap (by assumption) (by assumption) | exact Q4.sets (by assumption) (by assumption))
          (first
            | (go_at_call_of 14 (Value.agg #[Value.string la, Value.string ha]); refine (toRange_any la ha _).mono ?_; rintro e w' ⟨rfl, hbC⟩; have hz := Q4.big (u := v2) hbC (by assumption); first | (with_reducible refine s2q_then hbC ?_; intro q0 q1 q2 q3) | (with_reducible refine s2d_then hbC ?_; intro q0 q1 q2 q3) | (with_reducible refine keep4_then hbC q0 q1 q2 q3 ?_; intro q0 q1 q2 q3) | skip)
            | (go_at_call_of 14 (Value.agg #[Value.string lb, Value.string hb]); refine (toRange_any lb hb _).mono ?_; rintro e w' ⟨rfl, hbC⟩; have hz := Q4.big (u := v2) hbC (by assumption); first | (with_reducible refine s2q_then hbC ?_; intro q0 q1 q2 q3) | (with_reducible refine s2d_then hbC ?_; intro q0 q1 q2 q3) | (with_reducible refine keep4_then hbC q0 q1 q2 q3 ?_; intro q0 q1 q2 q3) | skip)
            | (go_at_call 13; refine (specRangeBoth_x la ha lb hb _).mono ?_; rintro e w' ⟨rfl, hbC⟩; have hz := Q4.big (u := v2) hbC (by assumption); first | (with_reducible refine s2q_then hbC ?_; intro q0 q1 q2 q3) | (with_reducible refine s2d_then hbC ?_; intro q0 q1 q2 q3) | (with_reducible refine keep4_then hbC q0 q1 q2 q3 ?_; intro q0 q1 q2 q3) | skip))
        all_goals (go_wp2_with fail; go_meet; refine ⟨rfl, _, rfl, ?_, ?_, Q4.of (by assumption)⟩ <;> go_simp)
      case rest =>
        obtain ⟨rfl, g, rfl, e0, e1, T3⟩ := hcut
        clear c0 c1 d0 d1 hz0 hz1 T2
        have B3 := hid (B2.out.trans (T3.bel.mono B2.out.size))
        obtain ⟨c0, c1, d0, d1, T3⟩ := T3.cells
        clear T3 B2
        have T4 : Hid (Q4 wc wc w.heap.size (w.heap.size + 1) (.string la) (.string ha) (.string lb) (.string hb)) := ⟨c0, c1, d0, d1, Below.refl _ _⟩
        have hz0 : wc.heap.size ≤ wc.heap.size := Nat.le_refl _
        have hz1 : wc.heap.size ≤ wc.drew.heap.size := hz0
        have E0 := hid e0
        have E1 := hid e1
        clear e0 e1
        go_wp2_with fail
        go_cut [8, 9] (fun p b v => b = .bool (bth la ha lb hb) ∧ ∃ g, p = .pointer (some ⟨g, 0, none⟩) ∧ v.cell? ⟨g, 0, none⟩ = some (.string (bLo la ha lb hb)) ∧ v.cell? ⟨g, 1, none⟩ = some (.string (bHi la ha lb hb)) ∧ Q4 wc v w.heap.size (w.heap.size + 1) (.string la) (.string ha) (.string lb) (.string hb))
        case first =>
          go_region_held3 (fun v => v.cell? ⟨w.heap.size, 0, none⟩ = some (.string la) ∧ v.cell? ⟨w.heap.size, 1, none⟩ = some (.string ha) ∧ v.cell? ⟨w.heap.size + 1, 0, none⟩ = some (.string lb) ∧ v.cell? ⟨w.heap.size + 1, 1, none⟩ = some (.string hb) ∧ Q4 wc v w.heap.size (w.heap.size + 1) (.string la) (.string ha) (.string lb) (.string hb))
            (first | assumption | exact (T4.out.step (below_drew _)).cells | exact Q4.call hbC (by assumption) | exact Q4.call (below_alloc _ _) (by assumption) | exact Q4.swap (by assumption) (by assumption) | exact Q4.sets (by assumption) (by assumption))
            (first
              | (go_at_call_of 14 (Value.agg #[Value.string la, Value.string ha]); refine (toRange_any la ha _).mono ?_; rintro e w' ⟨rfl, hbC⟩; have hz := Q4.big (u := wc) hbC (by assumption); first | (with_reducible refine s2q_then hbC ?_; intro q0 q1 q2 q3) | (with_reducible refine s2d_then hbC ?_; intro q0 q1 q2 q3) | (with_reducible refine keep4_then hbC q0 q1 q2 q3 ?_; intro q0 q1 q2 q3) | skip)
              | (go_at_call_of 14 (Value.agg #[Value.string lb, Value.string hb]); refine (toRange_any lb hb _).mono ?_; rintro e w' ⟨rfl, hbC⟩; have hz := Q4.big (u := wc) hbC (by assumption); first | (with_reducible refine s2q_then hbC ?_; intro q0 q1 q2 q3) | (with_reducible refine s2d_then hbC ?_; intro q0 q1 q2 q3) | (with_reducible refine keep4_then hbC q0 q1 q2 q3 ?_; intro q0 q1 q2 q3) | skip)
              | (go_at_call 15; refine (implRangeBoth_x la ha lb hb _).mono ?_; rintro e w' ⟨rfl, hbC⟩; have hz := Q4.big (u := wc) hbC (by assumption); first | (with_reducible refine s2q_then hbC ?_; intro q0 q1 q2 q3) | (with_reducible refine s2d_then hbC ?_; intro q0 q1 q2 q3) | (with_reducible refine keep4_then hbC q0 q1 q2 q3 ?_; intro q0 q1 q2 q3) | skip))
          all_goals (go_wp2_with fail; go_meet; refine ⟨rfl, _, rfl, ?_, ?_, Q4.of (by assumption)⟩ <;> go_simp)
        case rest =>
          rename_i wd _
          obtain ⟨rfl, g', rfl, e0, e1, T5⟩ := hcut
          have f0 := cell_kept E0.out T5.bel
          have f1 := cell_kept E1.out T5.bel
          have B5 := hid (B3.out.trans (T5.bel.mono B3.out.size))
          clear c0 c1 d0 d1 hz0 hz1 T4 T5
          generalize bLo la ha lb hb = X at *
          generalize bHi la ha lb hb = Y at *
          generalize bth la ha lb hb = Z at *
          go_wp2_with fail
          refine (eqRange_same X Y _).mono ?_
          rintro e v6 ⟨rfl, hb6⟩
          have B6 := hid (B5.out.trans (hb6.mono B5.out.size))
          clear hb6 B5
          cases Z
          · go_wp2
            go_ret
            exact ⟨rfl, below_new (below_new B6.out)⟩
          · go_wp2
            go_ret
            exact ⟨rfl, below_new (below_new B6.out)⟩
end Go.Proofs.Ytpeaajencheamab
