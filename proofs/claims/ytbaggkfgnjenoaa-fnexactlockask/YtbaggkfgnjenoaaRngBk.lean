/-
  The range that two ranges have in common: the program's own function, where the common range has an end.
-/
import Derived.Test.YtbaggkfgnjenoaaRng3
import Derived.Deep.DeepCutAuto
namespace Go.Proofs.Ytbaggkfgnjenoaa
open Go.RowKit

set_option maxHeartbeats 40000000 in
theorem implRangeBoth_key (la ha lb hb : ByteArray) (w : World) (hls : ¬ (lsr ha hb).toList = []) : Calls Try.prog 156 #[rng la ha, rng lb hb] w fun e w' => e = .returned (.tuple #[rng (bLo la ha lb hb) (bHi la ha lb hb), .bool (bth la ha lb hb)]) ∧ Below w.heap.size w w' := by
  show Calls Try.prog 156 #[.agg #[.string la, .string ha], .agg #[.string lb, .string hb]] w _
  have HE : Hid (bth la ha lb hb = (rOk la ha && rOk lb hb && rOk (mxl la lb) (lsr ha hb))) := rfl
  have HF : Hid (bth la ha lb hb = false → Value.tuple #[rng (bLo la ha lb hb) (bHi la ha lb hb), .bool (bth la ha lb hb)] = .tuple #[rng ⟨#[]⟩ ⟨#[]⟩, .bool false]) := fun h => by simp [bLo, bHi, h]
  have HT : Hid (bth la ha lb hb = true → Value.tuple #[rng (bLo la ha lb hb) (bHi la ha lb hb), .bool (bth la ha lb hb)] = .tuple #[rng (mxl la lb) (lsr ha hb), .bool true]) := fun h => by simp [bLo, bHi, h]
  have T0 := hid (Trio.new w la ha lb hb)
  go_enter Try.func156, Try.ntmps156
  go_wp2_with fail
  refine (implRangeOk_any la ha _).mono ?_
  generalize ((w.alloc (.cells #[.string la, .string ha] 29)).alloc (.cells #[.string lb, .string hb] 29)).alloc (.cells #[.string ⟨#[]⟩, .string ⟨#[]⟩] 29) = v0 at T0 ⊢
  rintro e v1 ⟨rfl, hb1⟩
  have T1 := hid (T0.out.step hb1)
  clear T0 hb1 v0
  obtain ⟨a0, a1, _, _⟩ := T1.out.a.facts
  obtain ⟨b0, b1, _, _⟩ := T1.out.b.facts
  obtain ⟨r0, r1, r2, r3⟩ := T1.out.r.facts
  cases h1 : rOk la ha
  · rw [h1] at HE
    go_wp2
    try simp only [Exit.inBlock, Exit.then]
    refine bodyPost_ret (v := .tuple #[rng ⟨#[]⟩ ⟨#[]⟩, .bool false]) ?_ rfl ?_
    · exact results_rng_bool rfl _ _ _ rfl rfl (by go_simp) (by go_simp)
    · exact ⟨by rw [HF.out (by rw [HE.out]; rfl)], (T1.out.bel.setCell (by simp; omega) _).setCell (by simp; omega) _⟩
  · rw [h1] at HE
    go_wp2_with fail
    refine (implRangeOk_any lb hb _).mono ?_
    rintro e v2 ⟨rfl, hb2⟩
    have T2 := hid (T1.out.step hb2)
    clear T1 hb2 a0 a1 b0 b1 r0 r1 r2 r3
    obtain ⟨a0, a1, _, _⟩ := T2.out.a.facts
    obtain ⟨b0, b1, _, _⟩ := T2.out.b.facts
    obtain ⟨r0, r1, r2, r3⟩ := T2.out.r.facts
    cases h2 : rOk lb hb
    · rw [h2] at HE
      go_wp2
      try simp only [Exit.inBlock, Exit.then]
      refine bodyPost_ret (v := .tuple #[rng ⟨#[]⟩ ⟨#[]⟩, .bool false]) ?_ rfl ?_
      · exact results_rng_bool rfl _ _ _ rfl rfl (by go_simp) (by go_simp)
      · exact ⟨by rw [HF.out (by rw [HE.out]; rfl)], (T2.out.bel.setCell (by simp; omega) _).setCell (by simp; omega) _⟩
    · rw [h2] at HE
      have hmax := run_mxl #[9, 9] 9 la lb
      have hm := method_key (lsr ha hb)
      have HL := hid (fun w => lesserEnd_any ha hb w)
      rw [show endV (lsr ha hb) = .iface 150 (.string (lsr ha hb)) from if_neg hls] at HL
      have hz0 := T2.out.r.lt
      have hz1 : w.heap.size + 1 + 1 < v2.drew.heap.size := hz0
      go_wp2_with fail
      go_cut [6] (fun p v => ∃ g, p = .pointer (some ⟨g, 0, none⟩) ∧ v.cell? ⟨g, 0, none⟩ = some (.string (mxl la lb)) ∧ v.cell? ⟨g, 1, none⟩ = some (.string (lsr ha hb)) ∧ Trio w v la ha lb hb)
      case first =>
        go_region_held3 (fun v => v.cell? ⟨w.heap.size, 0, none⟩ = some (.string la) ∧ v.cell? ⟨w.heap.size, 1, none⟩ = some (.string ha) ∧ v.cell? ⟨w.heap.size + 1, 0, none⟩ = some (.string lb) ∧ v.cell? ⟨w.heap.size + 1, 1, none⟩ = some (.string hb) ∧ Trio w v la ha lb hb)
          (first | assumption | exact (T2.out.step (below_drew _)).cells | exact Trio.call hbC (by assumption) | exact Trio.call (below_alloc _ _) (by assumption) | exact Trio.swap (by assumption) (by assumption) | exact Trio.sets (by assumption) (by assumption))
          (first
            | (go_at_call_of 80 (Value.agg #[Value.string la, Value.string ha]); refine (endOf_any la ha _).mono ?_; rintro e w' ⟨rfl, hbC⟩; have hz := Trio.big (w := w) hbC (by assumption); first | (with_reducible refine s2q_then hbC ?_; intro q0 q1 q2 q3) | (with_reducible refine s2d_then hbC ?_; intro q0 q1 q2 q3) | (with_reducible refine keep4_then hbC q0 q1 q2 q3 ?_; intro q0 q1 q2 q3) | skip)
            | (go_at_call_of 80 (Value.agg #[Value.string lb, Value.string hb]); refine (endOf_any lb hb _).mono ?_; rintro e w' ⟨rfl, hbC⟩; have hz := Trio.big (w := w) hbC (by assumption); first | (with_reducible refine s2q_then hbC ?_; intro q0 q1 q2 q3) | (with_reducible refine s2d_then hbC ?_; intro q0 q1 q2 q3) | (with_reducible refine keep4_then hbC q0 q1 q2 q3 ?_; intro q0 q1 q2 q3) | skip)
            | (go_at_call 122; refine (HL.out _).mono ?_; rintro e w' ⟨rfl, hbC⟩; have hz := Trio.big (w := w) hbC (by assumption); first | (with_reducible refine s2q_then hbC ?_; intro q0 q1 q2 q3) | (with_reducible refine s2d_then hbC ?_; intro q0 q1 q2 q3) | (with_reducible refine keep4_then hbC q0 q1 q2 q3 ?_; intro q0 q1 q2 q3) | skip)
            | (go_at_call 181; refine (hiKey_any (lsr ha hb) _).mono ?_; rintro e w' ⟨rfl, hbC⟩; have hz := Trio.big (w := w) hbC (by assumption); first | (with_reducible refine s2q_then hbC ?_; intro q0 q1 q2 q3) | (with_reducible refine s2d_then hbC ?_; intro q0 q1 q2 q3) | (with_reducible refine keep4_then hbC q0 q1 q2 q3 ?_; intro q0 q1 q2 q3) | skip))
        all_goals (go_wp2_with fail; go_meet; refine ⟨_, rfl, ?_, ?_, Trio.of (by assumption)⟩ <;> go_simp)
      case rest =>
        clear a0 a1 b0 b1 r0 r1 r2 r3 hmax hm
        obtain ⟨g, rfl, c0, c1, T3⟩ := hcut
        have T4 := hid T3
        clear T3 T2 HL
        obtain ⟨r0, r1, r2, r3⟩ := T4.out.r.facts
        go_wp2_with fail
        refine (implRangeOk_any (mxl la lb) (lsr ha hb) _).mono ?_
        rintro e v5 ⟨rfl, hb5⟩
        have T5 := hid (T4.out.step hb5)
        have d0 := cell_kept c0 hb5
        have d1 := cell_kept c1 hb5
        clear T4 hb5 c0 c1 r0 r1 r2 r3
        obtain ⟨r0, r1, r2, r3⟩ := T5.out.r.facts
        cases h5 : rOk (mxl la lb) (lsr ha hb)
        · rw [h5] at HE
          go_wp2
          try simp only [Exit.inBlock, Exit.then]
          refine bodyPost_ret (v := .tuple #[rng ⟨#[]⟩ ⟨#[]⟩, .bool false]) ?_ rfl ?_
          · exact results_rng_bool rfl _ _ _ rfl rfl (by go_simp) (by go_simp)
          · exact ⟨by rw [HF.out (by rw [HE.out]; rfl)], (T5.out.bel.setCell (by simp; omega) _).setCell (by simp; omega) _⟩
        · rw [h5] at HE
          go_wp2
          try simp only [Exit.inBlock, Exit.then]
          refine bodyPost_ret (v := .tuple #[rng (mxl la lb) (lsr ha hb), .bool true]) ?_ rfl ?_
          · exact results_rng_bool rfl _ _ _ rfl rfl (by go_simp) (by go_simp)
          · exact ⟨by rw [HT.out (by rw [HE.out]; rfl)], (T5.out.bel.setCell (by simp; omega) _).setCell (by simp; omega) _⟩
end Go.Proofs.Ytbaggkfgnjenoaa

