/-
  LocksOk of the program.
-/
import Derived.Test.YtbaggkfgnjenoaaLkE
namespace Go.Proofs.Ytbaggkfgnjenoaa
open Go.RowKit
set_option linter.unusedVariables false
set_option maxHeartbeats 800000 in
theorem lockCount_any (ha : Option Addr) (hn hc : Nat) (wa : Option Addr) (wn wc : Nat) (w : World) (hh : hn ≤ 1048577) (hw : wn ≤ 1048577) :
    Calls Try.prog 50 #[.agg #[.slice ha hn hc, .slice wa wn wc]] w fun r w' => r = .returned (.int .i64 ((hn + wn : Nat) : Int)) ∧ Below w.heap.size w w' := by
  have B0 := hid (below_new (o := .cells #[.slice ha hn hc, .slice wa wn wc] 25) (w := w) (Below.refl _ _))
  go_enter Try.func50, Try.ntmps50
  go_wp2
  go_ret
  exact ⟨by go_num, B0.out⟩
set_option maxHeartbeats 4000000 in
theorem implLocksOk_any (S S' : Nat → Prop) (ha : Option Addr) (hn hc : Nat) (wa : Option Addr) (wn wc : Nat) (hl wl : List LK) (w : World) (h1 : Lr w S (.slice ha hn hc) hl) (h2 : Lr w S' (.slice wa wn wc) wl) (hh : hn ≤ 1048577) (hw : wn ≤ 1048577) :
    Calls Try.prog 13 #[.agg #[.slice ha hn hc, .slice wa wn wc]] w fun r w' => r = .returned (.bool (lksOk hl wl)) ∧ Below w.heap.size w w' := by
  have HNH := hid (Rw.len h1).1
  have HNW := hid (Rw.len h2).1
  have B0 := hid (below_new (o := .cells #[.slice ha hn hc, .slice wa wn wc] 25) (w := w) (Below.refl _ _))
  have K0 := hid (Bk.new w 25 [.slice ha hn hc, .slice wa wn wc])
  have P0 := hid (h1.below B0.out)
  have Q0 := hid (h2.below B0.out)
  have HV := hid (lksOk_def hl wl)
  rw [← HNH.out, ← HNW.out] at HV
  clear h1 h2
  have C1 := hid (fun w => lockCount_any ha hn hc wa wn wc w hh hw)
  have C2 := hid (fun v hv => heldOk_any S ha hn hc hl v hv)
  have C3 := hid (fun v h1 h2 => waitOk_any S S' ha hn hc wa wn wc hl wl v h1 h2)
  generalize heldB hl = z1 at *
  generalize waitB hl wl = z2 at *
  by_cases h60 : hn + wn ≤ 60
  · rw [decide_eq_true h60] at HV
    have h60' : ((hn + wn : Nat) : Int) ≤ 60 := by omega
    generalize hn + wn = sm at *
    cases z1 with
    | false =>
      go_enter Try.func13, Try.ntmps13
      go_wp2_with fail
      refine (C1.out _).mono ?_
      generalize w.alloc (.cells #[.slice ha hn hc, .slice wa wn wc] 25) = U at *
      rintro r w1 ⟨rfl, hb⟩
      have K1 := hid (K0.out.below hb)
      have P1 := hid (P0.out.below hb)
      have Q1 := hid (Q0.out.below hb)
      have B1 := hid (B0.out.trans (hb.mono B0.out.size))
      clear K0 P0 Q0 B0 hb
      have y0 := K1.out.cell (j := 0) rfl
      have y1 := K1.out.cell (j := 1) rfl
      go_wp2_with fail
      refine (C2.out _ P1.out).mono ?_
      rintro r w2 ⟨rfl, hb⟩
      have K2 := hid (K1.out.below hb)
      have P2 := hid (P1.out.below hb)
      have Q2 := hid (Q1.out.below hb)
      have B2 := hid (B1.out.trans (hb.mono B1.out.size))
      clear K1 P1 Q1 B1 hb y0 y1
      go_wp2
      go_ret
      exact ⟨by rw [HV.out]; rfl, B2.out⟩
    | true =>
      go_enter Try.func13, Try.ntmps13
      go_wp2_with fail
      refine (C1.out _).mono ?_
      generalize w.alloc (.cells #[.slice ha hn hc, .slice wa wn wc] 25) = U at *
      rintro r w1 ⟨rfl, hb⟩
      have K1 := hid (K0.out.below hb)
      have P1 := hid (P0.out.below hb)
      have Q1 := hid (Q0.out.below hb)
      have B1 := hid (B0.out.trans (hb.mono B0.out.size))
      clear K0 P0 Q0 B0 hb
      have y0 := K1.out.cell (j := 0) rfl
      have y1 := K1.out.cell (j := 1) rfl
      go_wp2_with fail
      refine (C2.out _ P1.out).mono ?_
      rintro r w2 ⟨rfl, hb⟩
      have K2 := hid (K1.out.below hb)
      have P2 := hid (P1.out.below hb)
      have Q2 := hid (Q1.out.below hb)
      have B2 := hid (B1.out.trans (hb.mono B1.out.size))
      clear K1 P1 Q1 B1 hb y0 y1
      have y0 := K2.out.cell (j := 0) rfl
      have y1 := K2.out.cell (j := 1) rfl
      go_wp2_with fail
      refine (C3.out _ P2.out Q2.out).mono ?_
      rintro r w3 ⟨rfl, hb⟩
      have K3 := hid (K2.out.below hb)
      have P3 := hid (P2.out.below hb)
      have Q3 := hid (Q2.out.below hb)
      have B3 := hid (B2.out.trans (hb.mono B2.out.size))
      clear K2 P2 Q2 B2 hb y0 y1
      go_wp2
      go_ret
      exact ⟨by rw [HV.out]; rfl, B3.out⟩
  · rw [decide_eq_false h60] at HV
    have h60' : ¬ ((hn + wn : Nat) : Int) ≤ 60 := by omega
    generalize hn + wn = sm at *
    go_enter Try.func13, Try.ntmps13
    go_wp2_with fail
    refine (C1.out _).mono ?_
    generalize w.alloc (.cells #[.slice ha hn hc, .slice wa wn wc] 25) = U at *
    rintro r w1 ⟨rfl, hb⟩
    have K1 := hid (K0.out.below hb)
    have P1 := hid (P0.out.below hb)
    have Q1 := hid (Q0.out.below hb)
    have B1 := hid (B0.out.trans (hb.mono B0.out.size))
    clear K0 P0 Q0 B0 hb
    go_wp2
    go_ret
    exact ⟨by rw [HV.out]; rfl, B1.out⟩
end Go.Proofs.Ytbaggkfgnjenoaa

