/-
  The law FnBoth answers true at every slice of bytes, and writes nothing that was there.
-/
import Derived.Test.YtpeaajencheamaaBothM
import Derived.Test.YtpeaajencheamaaDrawA
import Derived.Test.YtpeaajencheamaaTwo
namespace Go.Proofs.Ytpeaajencheamaa
open Go.RowKit
set_option maxHeartbeats 4000000 in
theorem lawFBoth_walk (a : Option Addr) (n c : Nat) (z0 : List Int) (w : World) (w0 : IsRow .u8 w a n c z0) :
    Calls Try.prog 4 #[.slice a n c] w fun e w' => e = .returned (.bool true) ∧ Below w.heap.size w w' := by
  by_cases hbig : 1048576 < n
  · have hb' : (1048576 : Int) < (n : Int) := by omega
    clear w0
    go_enter Try.func4, Try.ntmps4
    go_wp2
    go_ret
    exact ⟨rfl, Below.refl _ _⟩
  · have hrd := rd_of_row w0 (by omega)
    generalize z0.take n = zs at hrd
    have hns : ¬ (1048576 : Int) < (n : Int) := by omega
    clear w0
    have HR : Hid (Rd w a n c zs) := hrd
    clear hrd
    go_enter Try.func4, Try.ntmps4
    go_wp2_with fail
    refine (drawBoth_any a n c zs _ HR.out (by omega)).mono ?_
    rintro e w1 ⟨⟨la, ha, lb, hb, rfl⟩, hb1⟩
    have HR1 := hid (HR.out.kept hb1)
    have HB1 := hid hb1
    clear hb1 HR
    have T0 := hid (Duo.new w1 la ha lb hb)
    have HR2 := hid ((HR1.out.kept (below_alloc w1 (.cells #[.string la, .string ha] 28))).kept (below_alloc _ (.cells #[.string lb, .string hb] 28)))
    clear HR1
    go_wp2_with fail
    refine (drawHas_any a n c zs _ HR2.out (by omega)).mono ?_
    generalize (w1.alloc (.cells #[.string la, .string ha] 28)).alloc (.cells #[.string lb, .string hb] 28) = v0 at *
    rintro e v1 ⟨⟨lc, hc, k, rfl⟩, hb2⟩
    have T1 := hid ((T0.out.step hb2).step (below_alloc _ (.cells #[.string lc, .string hc] 28)))
    clear T0 hb2 HR2 v0
    obtain ⟨a0, a1, _, _⟩ := T1.out.a.facts
    obtain ⟨b0, b1, _, _⟩ := T1.out.b.facts
    go_wp2_with fail
    refine (implRangeBoth_x la ha lb hb _).mono ?_
    rintro e v2 ⟨rfl, hb2⟩
    have T2 := hid (T1.out.step hb2)
    clear T1 hb2 a0 a1 b0 b1
    obtain ⟨a0, a1, _, _⟩ := (T2.out.step (below_alloc _ (.cells #[.string (bLo la ha lb hb), .string (bHi la ha lb hb)] 28))).a.facts
    obtain ⟨b0, b1, _, _⟩ := (T2.out.step (below_alloc _ (.cells #[.string (bLo la ha lb hb), .string (bHi la ha lb hb)] 28))).b.facts
    go_wp2_with fail
    refine (specRangeBoth_x la ha lb hb _).mono ?_
    rintro e v3 ⟨rfl, hb3⟩
    have T3 := hid (((T2.out.step (below_alloc _ (.cells #[.string (bLo la ha lb hb), .string (bHi la ha lb hb)] 28))).step hb3).step (below_alloc _ (.cells #[.string (bLo la ha lb hb), .string (bHi la ha lb hb)] 28)))
    have B3 := hid (((Blk.new v2 (bLo la ha lb hb) (bHi la ha lb hb)).kept hb3).alloc (.cells #[.string (bLo la ha lb hb), .string (bHi la ha lb hb)] 28))
    clear T2 hb3 a0 a1 b0 b1
    obtain ⟨a0, a1, _, _⟩ := T3.out.a.facts
    obtain ⟨b0, b1, _, _⟩ := T3.out.b.facts
    obtain ⟨c0, c1, _, _⟩ := B3.out.facts
    cases hbt : bth la ha lb hb
    · have HN := hid (both_no (k := k) hbt)
      go_wp2_with fail
      refine (implRangeHas_any la ha k _).mono ?_
      rintro e v4 ⟨rfl, hb4⟩
      have T4 := hid (T3.out.step hb4)
      have B4 := hid (B3.out.kept hb4)
      clear T3 B3 hb4 a0 a1 b0 b1 c0 c1
      obtain ⟨a0, a1, _, _⟩ := T4.out.a.facts
      obtain ⟨b0, b1, _, _⟩ := T4.out.b.facts
      obtain ⟨c0, c1, _, _⟩ := B4.out.facts
      cases hx : rHas la ha k
      · clear HN
        go_wp2
        go_ret
        exact ⟨rfl, thn2 HB1.out T4.out.bel⟩
      · rw [hx, Bool.true_and] at HN
        go_wp2_with fail
        refine (implRangeHas_any lb hb k _).mono ?_
        rw [HN.out]
        rintro e v5 ⟨rfl, hb5⟩
        have T5 := hid (T4.out.step hb5)
        have B5 := hid (B4.out.kept hb5)
        clear T4 B4 hb5 a0 a1 b0 b1 c0 c1
        obtain ⟨a0, a1, _, _⟩ := T5.out.a.facts
        obtain ⟨b0, b1, _, _⟩ := T5.out.b.facts
        obtain ⟨c0, c1, _, _⟩ := B5.out.facts
        go_wp2
        go_ret
        exact ⟨rfl, thn2 HB1.out T5.out.bel⟩
    · have HY := hid (both_yes (k := k) hbt)
      have H1 := hid (both_in1 hbt)
      have H2 := hid (both_in2 hbt)
      go_wp2_with fail
      refine (implRangeHas_any la ha k _).mono ?_
      rintro e v4 ⟨rfl, hb4⟩
      have T4 := hid (T3.out.step hb4)
      have B4 := hid (B3.out.kept hb4)
      clear T3 B3 hb4 a0 a1 b0 b1 c0 c1
      obtain ⟨a0, a1, _, _⟩ := T4.out.a.facts
      obtain ⟨b0, b1, _, _⟩ := T4.out.b.facts
      obtain ⟨c0, c1, _, _⟩ := B4.out.facts
      cases hx : rHas la ha k
      · rw [hx, Bool.false_and] at HY
        go_wp2_with fail
        refine (implRangeHas_any (bLo la ha lb hb) (bHi la ha lb hb) k _).mono ?_
        rw [HY.out]
        rintro e v5 ⟨rfl, hb5⟩
        have T5 := hid (T4.out.step hb5)
        have B5 := hid (B4.out.kept hb5)
        clear T4 B4 hb5 a0 a1 b0 b1 c0 c1
        obtain ⟨a0, a1, _, _⟩ := T5.out.a.facts
        obtain ⟨b0, b1, _, _⟩ := T5.out.b.facts
        obtain ⟨c0, c1, _, _⟩ := B5.out.facts
        go_wp2_with fail
        refine (implRangeIn_any (bLo la ha lb hb) (bHi la ha lb hb) la ha _).mono ?_
        rw [H1.out]
        rintro e v6 ⟨rfl, hb6⟩
        have T6 := hid (T5.out.step hb6)
        have B6 := hid (B5.out.kept hb6)
        clear T5 B5 hb6 a0 a1 b0 b1 c0 c1
        obtain ⟨a0, a1, _, _⟩ := T6.out.a.facts
        obtain ⟨b0, b1, _, _⟩ := T6.out.b.facts
        obtain ⟨c0, c1, _, _⟩ := B6.out.facts
        go_wp2_with fail
        refine (implRangeIn_any (bLo la ha lb hb) (bHi la ha lb hb) lb hb _).mono ?_
        rw [H2.out]
        rintro e v7 ⟨rfl, hb7⟩
        have T7 := hid (T6.out.step hb7)
        have B7 := hid (B6.out.kept hb7)
        clear T6 B6 hb7 a0 a1 b0 b1 c0 c1
        obtain ⟨a0, a1, _, _⟩ := T7.out.a.facts
        obtain ⟨b0, b1, _, _⟩ := T7.out.b.facts
        obtain ⟨c0, c1, _, _⟩ := B7.out.facts
        go_wp2
        go_ret
        exact ⟨rfl, thn2 HB1.out T7.out.bel⟩
      · rw [hx, Bool.true_and] at HY
        go_wp2_with fail
        refine (implRangeHas_any lb hb k _).mono ?_
        rintro e v5 ⟨rfl, hb5⟩
        have T5 := hid (T4.out.step hb5)
        have B5 := hid (B4.out.kept hb5)
        clear T4 B4 hb5 a0 a1 b0 b1 c0 c1
        obtain ⟨a0, a1, _, _⟩ := T5.out.a.facts
        obtain ⟨b0, b1, _, _⟩ := T5.out.b.facts
        obtain ⟨c0, c1, _, _⟩ := B5.out.facts
        cases hy : rHas lb hb k
        · rw [hy] at HY
          go_wp2_with fail
          refine (implRangeHas_any (bLo la ha lb hb) (bHi la ha lb hb) k _).mono ?_
          rw [HY.out]
          rintro e v6 ⟨rfl, hb6⟩
          have T6 := hid (T5.out.step hb6)
          have B6 := hid (B5.out.kept hb6)
          clear T5 B5 hb6 a0 a1 b0 b1 c0 c1
          obtain ⟨a0, a1, _, _⟩ := T6.out.a.facts
          obtain ⟨b0, b1, _, _⟩ := T6.out.b.facts
          obtain ⟨c0, c1, _, _⟩ := B6.out.facts
          go_wp2_with fail
          refine (implRangeIn_any (bLo la ha lb hb) (bHi la ha lb hb) la ha _).mono ?_
          rw [H1.out]
          rintro e v7 ⟨rfl, hb7⟩
          have T7 := hid (T6.out.step hb7)
          have B7 := hid (B6.out.kept hb7)
          clear T6 B6 hb7 a0 a1 b0 b1 c0 c1
          obtain ⟨a0, a1, _, _⟩ := T7.out.a.facts
          obtain ⟨b0, b1, _, _⟩ := T7.out.b.facts
          obtain ⟨c0, c1, _, _⟩ := B7.out.facts
          go_wp2_with fail
          refine (implRangeIn_any (bLo la ha lb hb) (bHi la ha lb hb) lb hb _).mono ?_
          rw [H2.out]
          rintro e v8 ⟨rfl, hb8⟩
          have T8 := hid (T7.out.step hb8)
          have B8 := hid (B7.out.kept hb8)
          clear T7 B7 hb8 a0 a1 b0 b1 c0 c1
          obtain ⟨a0, a1, _, _⟩ := T8.out.a.facts
          obtain ⟨b0, b1, _, _⟩ := T8.out.b.facts
          obtain ⟨c0, c1, _, _⟩ := B8.out.facts
          go_wp2
          go_ret
          exact ⟨rfl, thn2 HB1.out T8.out.bel⟩
        · rw [hy] at HY
          go_wp2_with fail
          refine (implRangeHas_any (bLo la ha lb hb) (bHi la ha lb hb) k _).mono ?_
          rw [HY.out]
          rintro e v6 ⟨rfl, hb6⟩
          have T6 := hid (T5.out.step hb6)
          have B6 := hid (B5.out.kept hb6)
          clear T5 B5 hb6 a0 a1 b0 b1 c0 c1
          obtain ⟨a0, a1, _, _⟩ := T6.out.a.facts
          obtain ⟨b0, b1, _, _⟩ := T6.out.b.facts
          obtain ⟨c0, c1, _, _⟩ := B6.out.facts
          go_wp2_with fail
          refine (implRangeIn_any (bLo la ha lb hb) (bHi la ha lb hb) la ha _).mono ?_
          rw [H1.out]
          rintro e v7 ⟨rfl, hb7⟩
          have T7 := hid (T6.out.step hb7)
          have B7 := hid (B6.out.kept hb7)
          clear T6 B6 hb7 a0 a1 b0 b1 c0 c1
          obtain ⟨a0, a1, _, _⟩ := T7.out.a.facts
          obtain ⟨b0, b1, _, _⟩ := T7.out.b.facts
          obtain ⟨c0, c1, _, _⟩ := B7.out.facts
          go_wp2_with fail
          refine (implRangeIn_any (bLo la ha lb hb) (bHi la ha lb hb) lb hb _).mono ?_
          rw [H2.out]
          rintro e v8 ⟨rfl, hb8⟩
          have T8 := hid (T7.out.step hb8)
          have B8 := hid (B7.out.kept hb8)
          clear T7 B7 hb8 a0 a1 b0 b1 c0 c1
          obtain ⟨a0, a1, _, _⟩ := T8.out.a.facts
          obtain ⟨b0, b1, _, _⟩ := T8.out.b.facts
          obtain ⟨c0, c1, _, _⟩ := B8.out.facts
          go_wp2
          go_ret
          exact ⟨rfl, thn2 HB1.out T8.out.bel⟩
end Go.Proofs.Ytpeaajencheamaa
