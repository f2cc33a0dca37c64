/-
  The law FnExactRangeIn answers true at every two ranges.
-/
import Derived.Test.YtpeaajencheamabRngI
import Derived.Test.YtpeaajencheamabTwo
namespace Go.Proofs.Ytpeaajencheamab
open Go.RowKit
set_option maxHeartbeats 4000000 in
theorem specRangeIn_any (la ha lb hb : ByteArray) (w : World) : Calls Try.prog 16 #[rng la ha, rng lb hb] w fun e w' => e = .returned (.bool (rIn la ha lb hb)) ∧ Below w.heap.size w w' := by
  show Calls Try.prog 16 #[.agg #[.string la, .string ha], .agg #[.string lb, .string hb]] w _
  have HD : Hid (rIn la ha lb hb = (rOk la ha && rOk lb hb && !Op.bytesLess la.toList lb.toList && (decide (hb.toList = []) || (!decide (ha.toList = []) && !Op.bytesLess hb.toList ha.toList)))) := rfl
  have T0 := hid (Duo.new w la ha lb hb)
  go_enter Try.func16, Try.ntmps16
  go_wp2_with fail
  refine (specRangeOk_any la ha _).mono ?_
  generalize (w.alloc (.cells #[.string la, .string ha] 23)).alloc (.cells #[.string lb, .string hb] 23) = v0 at T0 ⊢
  rintro e v1 ⟨rfl, hb1⟩
  have T1 := hid (T0.out.step hb1)
  clear T0 hb1 v0
  obtain ⟨a0, a1, _, _⟩ := T1.out.a.facts
  obtain ⟨b0, b1, _, _⟩ := T1.out.b.facts
  cases h1 : rOk la ha
  · rw [h1] at HD
    go_wp2
    go_ret
    exact ⟨by rw [HD.out]; rfl, T1.out.bel⟩
  · go_wp2_with fail
    refine (specRangeOk_any lb hb _).mono ?_
    rintro e v2 ⟨rfl, hb2⟩
    have T2 := hid (T1.out.step hb2)
    clear T1 hb2 a0 a1 b0 b1
    obtain ⟨a0, a1, _, _⟩ := T2.out.a.facts
    obtain ⟨b0, b1, _, _⟩ := T2.out.b.facts
    cases h2 : rOk lb hb
    · rw [h1, h2] at HD
      go_wp2
      go_ret
      exact ⟨by rw [HD.out]; rfl, T2.out.bel⟩
    · cases h3 : Op.bytesLess la.toList lb.toList
      · by_cases h4 : hb.toList = []
        · rw [h1, h2, h3, decide_eq_true h4] at HD
          go_wp2
          go_ret
          exact ⟨by rw [HD.out]; rfl, T2.out.bel⟩
        · have h4' : hb.toList.isEmpty = false := by simpa using h4
          by_cases h5 : ha.toList = []
          · rw [h1, h2, h3, decide_eq_false h4, decide_eq_true h5] at HD
            go_wp2
            go_ret
            exact ⟨by rw [HD.out]; rfl, T2.out.bel⟩
          · have h5' : ha.toList.isEmpty = false := by simpa using h5
            rw [h1, h2, h3, decide_eq_false h4, decide_eq_false h5] at HD
            rcases tri ha hb with ⟨t1, t2, t3, t4⟩ | rfl | ⟨t1, t2, t3, t4⟩
            · rw [t2] at HD
              go_wp2
              go_ret
              exact ⟨by rw [HD.out]; rfl, T2.out.bel⟩
            · have t1 := less_irrefl ha.toList
              rw [t1] at HD
              go_wp2
              go_ret
              exact ⟨by rw [HD.out]; rfl, T2.out.bel⟩
            · rw [t2] at HD
              go_wp2
              go_ret
              exact ⟨by rw [HD.out]; rfl, T2.out.bel⟩
      · rw [h1, h2, h3] at HD
        go_wp2
        go_ret
        exact ⟨by rw [HD.out]; rfl, T2.out.bel⟩
set_option maxHeartbeats 4000000 in
theorem lawRangeIn_walk (la ha lb hb : ByteArray) (w : World) (hl : la.size ≤ maxLen ∧ ha.size ≤ maxLen) (hm : lb.size ≤ maxLen ∧ hb.size ≤ maxLen) : Calls Try.prog 5 #[.agg #[.string la, .string ha], .agg #[.string lb, .string hb]] w fun e w' => e = .returned (.bool true) ∧ Below w.heap.size w w' := by
  unfold maxLen at hl hm
  obtain ⟨hl1, hl2⟩ := hl
  obtain ⟨hm1, hm2⟩ := hm
  go_enter Try.func5, Try.ntmps5
  go_wp2_with fail
  refine (szRange_any la ha 1048576 _ (by omega) (by omega) (by omega) (by omega)).mono ?_
  rintro e v1 ⟨⟨x, rfl, hx1, hx2⟩, hb1⟩
  obtain ⟨a0, a1, b0, b1, hb1⟩ := two_then hb1
  by_cases hx : x < 0
  · go_wp2
    go_ret
    exact ⟨rfl, below_new (below_new hb1)⟩
  · go_wp2_with fail
    refine (szRange_any lb hb x _ (by omega) (by omega) (by omega) (by omega)).mono ?_
    rintro e v2 ⟨⟨y, rfl, hy1, hy2⟩, hb2⟩
    obtain ⟨c0, c1, d0, d1, hb2⟩ := two_then (hb1.trans (hb2.mono hb1.size))
    clear a0 a1 b0 b1 hb1
    by_cases hy : y < 0
    · go_wp2
      go_ret
      exact ⟨rfl, below_new (below_new hb2)⟩
    · have T2 : Hid (Q4 v2 v2 w.heap.size (w.heap.size + 1) (.string la) (.string ha) (.string lb) (.string hb)) := ⟨c0, c1, d0, d1, Below.refl _ _⟩
      have B2 := hid hb2
      clear hb2 hx1 hx2 hy1 hy2 hl1 hl2 hm1 hm2
      go_wp2_with fail
      go_region_held3 (fun v => v.cell? ⟨w.heap.size, 0, none⟩ = some (.string la) ∧ v.cell? ⟨w.heap.size, 1, none⟩ = some (.string ha) ∧ v.cell? ⟨w.heap.size + 1, 0, none⟩ = some (.string lb) ∧ v.cell? ⟨w.heap.size + 1, 1, none⟩ = some (.string hb) ∧ Q4 v2 v w.heap.size (w.heap.size + 1) (.string la) (.string ha) (.string lb) (.string hb))
        (first | assumption | exact (T2.out.step (below_drew _)).cells | exact Q4.call hbC (by assumption))
        (first
          | (go_at_call_of 14 (Value.agg #[Value.string la, Value.string ha]); refine (toRange_any la ha _).mono ?_; rintro e w' ⟨rfl, hbC⟩)
          | (go_at_call_of 14 (Value.agg #[Value.string lb, Value.string hb]); refine (toRange_any lb hb _).mono ?_; rintro e w' ⟨rfl, hbC⟩)
          | (go_at_call 16; refine (specRangeIn_any la ha lb hb _).mono ?_; rintro e w' ⟨rfl, hbC⟩))
      rename_i v3 hS
      have T3 := hid (Q4.of hS)
      clear hS c0 c1 d0 d1
      obtain ⟨c0, c1, d0, d1, _⟩ := T3.out.cells
      go_wp2_with fail
      go_region_held3 (fun v => v.cell? ⟨w.heap.size, 0, none⟩ = some (.string la) ∧ v.cell? ⟨w.heap.size, 1, none⟩ = some (.string ha) ∧ v.cell? ⟨w.heap.size + 1, 0, none⟩ = some (.string lb) ∧ v.cell? ⟨w.heap.size + 1, 1, none⟩ = some (.string hb) ∧ Q4 v2 v w.heap.size (w.heap.size + 1) (.string la) (.string ha) (.string lb) (.string hb))
        (first | assumption | exact (T3.out.step (below_drew _)).cells | exact Q4.call hbC (by assumption))
        (first
          | (go_at_call_of 14 (Value.agg #[Value.string la, Value.string ha]); refine (toRange_any la ha _).mono ?_; rintro e w' ⟨rfl, hbC⟩)
          | (go_at_call_of 14 (Value.agg #[Value.string lb, Value.string hb]); refine (toRange_any lb hb _).mono ?_; rintro e w' ⟨rfl, hbC⟩)
          | (go_at_call 17; refine (implRangeIn_any la ha lb hb _).mono ?_; rintro e w' ⟨rfl, hbC⟩))
      rename_i hS
      have B4 := hid (B2.out.trans ((Q4.of hS).bel.mono B2.out.size))
      clear hS c0 c1 d0 d1 T2 T3
      cases rIn la ha lb hb
      · go_wp2
        go_ret
        exact ⟨rfl, below_new (below_new B4.out)⟩
      · go_wp2
        go_ret
        exact ⟨rfl, below_new (below_new B4.out)⟩
end Go.Proofs.Ytpeaajencheamab
