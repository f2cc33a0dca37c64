/-
  The law FnExactRangeIn answers true at every two ranges.
-/
import Derived.Test.YtmogdijhlgonnabRngI
import Derived.Test.YtmogdijhlgonnabTwo
namespace Go.Proofs.Ytmogdijhlgonnab
open Go.RowKit
set_option maxHeartbeats 4000000 in
theorem specRangeIn_any (la ha lb hb : ByteArray) (w : World) : Calls Try.prog 44 #[rng la ha, rng lb hb] w fun e w' => e = .returned (.bool (rIn la ha lb hb)) ∧ Below w.heap.size w w' := by
  show Calls Try.prog 44 #[.agg #[.string la, .string ha], .agg #[.string lb, .string hb]] w _
  have HD : Hid (rIn la ha lb hb = (rOk la ha && rOk lb hb && !Op.bytesLess la.toList lb.toList && (decide (hb.toList = []) || (!decide (ha.toList = []) && !Op.bytesLess hb.toList ha.toList)))) := rfl
  have T0 := hid (Duo.new w la ha lb hb)
  go_enter Try.func44, Try.ntmps44
  go_wp2_with fail
  refine (specRangeOk_any la ha _).mono ?_
  generalize (w.alloc (.cells #[.string la, .string ha] 43)).alloc (.cells #[.string lb, .string hb] 43) = v0 at T0 ⊢
  rintro e v1 ⟨rfl, hb1⟩
  have T1 := hid (T0.out.step hb1)
  clear T0 hb1 v0
  obtain ⟨a0, a1, _, _⟩ := T1.out.a.facts
  obtain ⟨b0, b1, _, _⟩ := T1.out.b.facts
  cases h1 : rOk la ha
  · rw [h1] at HD
    go_wp2
    go_ret
    exact ⟨by rw [HD.out]; rfl, T1.out.bel⟩
  · go_wp2_with fail
    refine (specRangeOk_any lb hb _).mono ?_
    rintro e v2 ⟨rfl, hb2⟩
    have T2 := hid (T1.out.step hb2)
    clear T1 hb2 a0 a1 b0 b1
    obtain ⟨a0, a1, _, _⟩ := T2.out.a.facts
    obtain ⟨b0, b1, _, _⟩ := T2.out.b.facts
    cases h2 : rOk lb hb
    · rw [h1, h2] at HD
      go_wp2
      go_ret
      exact ⟨by rw [HD.out]; rfl, T2.out.bel⟩
    · cases h3 : Op.bytesLess la.toList lb.toList
      · by_cases h4 : hb.toList = []
        · rw [h1, h2, h3, decide_eq_true h4] at HD
          go_wp2
          go_ret
          exact ⟨by rw [HD.out]; rfl, T2.out.bel⟩
        · have h4' : hb.toList.isEmpty = false := by simpa using h4
          by_cases h5 : ha.toList = []
          · rw [h1, h2, h3, decide_eq_false h4, decide_eq_true h5] at HD
            go_wp2
            go_ret
            exact ⟨by rw [HD.out]; rfl, T2.out.bel⟩
          · have h5' : ha.toList.isEmpty = false := by simpa using h5
            rw [h1, h2, h3, decide_eq_false h4, decide_eq_false h5] at HD
            rcases tri ha hb with ⟨t1, t2, t3, t4⟩ | rfl | ⟨t1, t2, t3, t4⟩
            · rw [t2] at HD
              go_wp2
              go_ret
              exact ⟨by rw [HD.out]; rfl, T2.out.bel⟩
            · have t1 := less_irrefl ha.toList
              rw [t1] at HD
              go_wp2
              go_ret
              exact ⟨by rw [HD.out]; rfl, T2.out.bel⟩
            · rw [t2] at HD
              go_wp2
              go_ret
              exact ⟨by rw [HD.out]; rfl, T2.out.bel⟩
      · rw [h1, h2, h3] at HD
        go_wp2
        go_ret
        exact ⟨by rw [HD.out]; rfl, T2.out.bel⟩
end Go.Proofs.Ytmogdijhlgonnab

