/-
  The laws FnExactRangeOk and FnExactRangeHas answer true at every range and string.
-/
import Derived.Test.YtpeaajencheamaaRng2
namespace Go.Proofs.Ytpeaajencheamaa
open Go.RowKit
theorem lawRangeOk_walk (lo hi : ByteArray) (w : World) (hl : lo.size ≤ maxLen ∧ hi.size ≤ maxLen) : Calls Try.prog 7 #[.agg #[.string lo, .string hi]] w fun e w' => e = .returned (.bool true) ∧ Below w.heap.size w w' := by
  unfold maxLen at hl
  obtain ⟨hl1, hl2⟩ := hl
  go_enter Try.func7, Try.ntmps7
  go_wp2_with fail
  refine (szRange_any lo hi 1048576 _ (by omega) (by omega) (by omega) (by omega)).mono ?_
  rintro e w1 ⟨⟨x, rfl, hx1, hx2⟩, hb1⟩
  obtain ⟨c0, c1, hb1⟩ := s2 hb1
  by_cases hx : x < 0
  · go_wp2
    go_ret
    exact ⟨rfl, below_new hb1⟩
  · go_wp2_with fail
    refine (toRange_any lo hi _).mono ?_
    rintro e w2 ⟨rfl, hb2⟩
    obtain ⟨d0, d1, hb2⟩ := s2 (hb1.trans (hb2.mono hb1.size))
    clear c0 c1 hb1
    go_wp2_with fail
    refine (specRangeOk_any lo hi _).mono ?_
    rintro e w3 ⟨rfl, hb3⟩
    obtain ⟨c0, c1, hb3⟩ := s2 (hb2.trans (hb3.mono hb2.size))
    clear d0 d1 hb2
    go_wp2_with fail
    refine (toRange_any lo hi _).mono ?_
    rintro e w4 ⟨rfl, hb4⟩
    obtain ⟨d0, d1, hb4⟩ := s2 (hb3.trans (hb4.mono hb3.size))
    clear c0 c1 hb3
    go_wp2_with fail
    refine (implRangeOk_any lo hi _).mono ?_
    rintro e w5 ⟨rfl, hb5⟩
    obtain ⟨c0, c1, hb5⟩ := s2 (hb4.trans (hb5.mono hb4.size))
    clear d0 d1 hb4
    cases rOk lo hi
    · go_wp2
      go_ret
      exact ⟨rfl, below_new hb5⟩
    · go_wp2
      go_ret
      exact ⟨rfl, below_new hb5⟩
theorem lawRangeHas_walk (lo hi : ByteArray) (k : ByteArray) (w : World) (hl : lo.size ≤ maxLen ∧ hi.size ≤ maxLen) (_ : k.size ≤ maxLen) : Calls Try.prog 8 #[.agg #[.string lo, .string hi], .string k] w fun e w' => e = .returned (.bool true) ∧ Below w.heap.size w w' := by
  unfold maxLen at hl
  obtain ⟨hl1, hl2⟩ := hl
  by_cases hbig : 1048576 < k.size
  · have hb : (1048576 : Int) < (k.size : Int) := by omega
    go_enter Try.func8, Try.ntmps8
    go_wp2
    go_ret
    exact ⟨rfl, below_new (Below.refl _ _)⟩
  · have hb : ¬ (1048576 : Int) < (k.size : Int) := by omega
    go_enter Try.func8, Try.ntmps8
    go_wp2_with fail
    refine (szRange_any lo hi 1048576 _ (by omega) (by omega) (by omega) (by omega)).mono ?_
    rintro e w1 ⟨⟨x, rfl, hx1, hx2⟩, hb1⟩
    obtain ⟨c0, c1, hb1⟩ := s2 hb1
    by_cases hx : x < 0
    · go_wp2
      go_ret
      exact ⟨rfl, below_new hb1⟩
    · go_wp2_with fail
      refine (toRange_any lo hi _).mono ?_
      rintro e w2 ⟨rfl, hb2⟩
      obtain ⟨d0, d1, hb2⟩ := s2 (hb1.trans (hb2.mono hb1.size))
      clear c0 c1 hb1
      go_wp2_with fail
      refine (specRangeHas_any lo hi k _).mono ?_
      rintro e w3 ⟨rfl, hb3⟩
      obtain ⟨c0, c1, hb3⟩ := s2 (hb2.trans (hb3.mono hb2.size))
      clear d0 d1 hb2
      go_wp2_with fail
      refine (toRange_any lo hi _).mono ?_
      rintro e w4 ⟨rfl, hb4⟩
      obtain ⟨d0, d1, hb4⟩ := s2 (hb3.trans (hb4.mono hb3.size))
      clear c0 c1 hb3
      go_wp2_with fail
      refine (implRangeHas_any lo hi k _).mono ?_
      rintro e w5 ⟨rfl, hb5⟩
      obtain ⟨c0, c1, hb5⟩ := s2 (hb4.trans (hb5.mono hb4.size))
      clear d0 d1 hb4
      cases rHas lo hi k
      · go_wp2
        go_ret
        exact ⟨rfl, below_new hb5⟩
      · go_wp2
        go_ret
        exact ⟨rfl, below_new hb5⟩
end Go.Proofs.Ytpeaajencheamaa
