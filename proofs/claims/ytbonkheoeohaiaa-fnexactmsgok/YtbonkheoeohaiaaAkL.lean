/-
  Asks: the law's helpers, AskLock on both sides, the laws FnExactAskOk and FnExactAskLock.
-/
import Derived.Test.YtbonkheoeohaiaaAkA
import Derived.Test.YtbonkheoeohaiaaRng3
import Derived.Deep.RegionHeld3
namespace Go.Proofs.Ytbonkheoeohaiaa
open Go.RowKit
set_option linter.unusedVariables false
theorem load_ask {w : World} {g : Nat} {k : Int} {ky vl lo hi : ByteArray} {mo : Int} {bk : Bool} (c0 : w.cell? ⟨g, 0, none⟩ = some (.int .i64 k)) (c1 : w.cell? ⟨g, 1, none⟩ = some (.string ky)) (c2 : w.cell? ⟨g, 2, none⟩ = some (.string vl)) (c3 : w.cell? ⟨g, 3, none⟩ = some (.string lo)) (c4 : w.cell? ⟨g, 4, none⟩ = some (.string hi)) (c5 : w.cell? ⟨g, 5, none⟩ = some (.int .i64 mo)) (c6 : w.cell? ⟨g, 6, none⟩ = some (.bool bk)) :
    (loadVar 30 ⟨g, 0, none⟩).run Try.prog w = .ok (.agg #[.int .i64 k, .string ky, .string vl, .string lo, .string hi, .int .i64 mo, .bool bk]) w := by go_simp
theorem results_ask {fn : Func} {p : Tmp} (h : fn.results = #[.cell p 30]) (tmps : Array Value) (w : World) (g : Nat) {k : Int} {ky vl lo hi : ByteArray} {mo : Int} {bk : Bool} (hp : tmps.getD p undef = .pointer (some ⟨g, 0, none⟩)) (c0 : w.cell? ⟨g, 0, none⟩ = some (.int .i64 k)) (c1 : w.cell? ⟨g, 1, none⟩ = some (.string ky)) (c2 : w.cell? ⟨g, 2, none⟩ = some (.string vl)) (c3 : w.cell? ⟨g, 3, none⟩ = some (.string lo)) (c4 : w.cell? ⟨g, 4, none⟩ = some (.string hi)) (c5 : w.cell? ⟨g, 5, none⟩ = some (.int .i64 mo)) (c6 : w.cell? ⟨g, 6, none⟩ = some (.bool bk)) :
    (results fn tmps).run Try.prog w = .ok (.agg #[.int .i64 k, .string ky, .string vl, .string lo, .string hi, .int .i64 mo, .bool bk]) w := by
  have hp' : tmps[p]?.getD undef = .pointer (some ⟨g, 0, none⟩) := by simpa using hp
  simp [results, h, hp', asAddr, load_ask c0 c1 c2 c3 c4 c5 c6]
set_option maxHeartbeats 3200000 in
theorem toAsk_any (k : Int) (ky vl lo hi : ByteArray) (mo : Int) (bk : Bool) (w : World) : Calls Try.prog 8 #[.agg #[.int .i64 k, .string ky, .string vl, .string lo, .string hi, .int .i64 mo, .bool bk]] w fun r w' => r = .returned (.agg #[.int .i64 k, .string ky, .string vl, .string lo, .string hi, .int .i64 mo, .bool bk]) ∧ Below w.heap.size w w' := by
  have C1 : Hid (∀ w, Calls Try.prog 22 #[.agg #[.string lo, .string hi]] w fun r w' => r = .returned (.agg #[.string lo, .string hi]) ∧ Below w.heap.size w w') := fun w => toRange_any lo hi w
  have B0 : Hid (Below w.heap.size w (((w.alloc (.cells #[.int .i64 k, .string ky, .string vl, .string lo, .string hi, .int .i64 mo, .bool bk] 25)).alloc (.cells #[.int .i64 0, .string ⟨#[]⟩, .string ⟨#[]⟩, .string ⟨#[]⟩, .string ⟨#[]⟩, .int .i64 0, .bool false] 30)).alloc (.cells #[.int .i64 k, .string ky, .string vl, .string ⟨#[]⟩, .string ⟨#[]⟩, .int .i64 0, .bool false] 30))) := below_new (below_new (below_new (Below.refl _ _)))
  have K0 := hid (((Bk.new w 25 [.int .i64 k, .string ky, .string vl, .string lo, .string hi, .int .i64 mo, .bool bk]).alloc (.cells #[.int .i64 0, .string ⟨#[]⟩, .string ⟨#[]⟩, .string ⟨#[]⟩, .string ⟨#[]⟩, .int .i64 0, .bool false] 30)).alloc (.cells #[.int .i64 k, .string ky, .string vl, .string ⟨#[]⟩, .string ⟨#[]⟩, .int .i64 0, .bool false] 30))
  have J0 := hid ((Bk.new (w.alloc (.cells #[.int .i64 k, .string ky, .string vl, .string lo, .string hi, .int .i64 mo, .bool bk] 25)) 30 [.int .i64 0, .string ⟨#[]⟩, .string ⟨#[]⟩, .string ⟨#[]⟩, .string ⟨#[]⟩, .int .i64 0, .bool false]).alloc (.cells #[.int .i64 k, .string ky, .string vl, .string ⟨#[]⟩, .string ⟨#[]⟩, .int .i64 0, .bool false] 30))
  have I0 := hid (Bk.new ((w.alloc (.cells #[.int .i64 k, .string ky, .string vl, .string lo, .string hi, .int .i64 mo, .bool bk] 25)).alloc (.cells #[.int .i64 0, .string ⟨#[]⟩, .string ⟨#[]⟩, .string ⟨#[]⟩, .string ⟨#[]⟩, .int .i64 0, .bool false] 30)) 30 [.int .i64 k, .string ky, .string vl, .string ⟨#[]⟩, .string ⟨#[]⟩, .int .i64 0, .bool false])
  rw [show (w.alloc (.cells #[.int .i64 k, .string ky, .string vl, .string lo, .string hi, .int .i64 mo, .bool bk] 25)).heap.size = w.heap.size + 1 by simp] at J0
  rw [show ((w.alloc (.cells #[.int .i64 k, .string ky, .string vl, .string lo, .string hi, .int .i64 mo, .bool bk] 25)).alloc (.cells #[.int .i64 0, .string ⟨#[]⟩, .string ⟨#[]⟩, .string ⟨#[]⟩, .string ⟨#[]⟩, .int .i64 0, .bool false] 30)).heap.size = w.heap.size + 1 + 1 by simp] at I0
  go_enter Try.func8, Try.ntmps8
  go_wp2_with fail
  refine (C1.out _).mono ?_
  generalize ((w.alloc (.cells #[.int .i64 k, .string ky, .string vl, .string lo, .string hi, .int .i64 mo, .bool bk] 25)).alloc (.cells #[.int .i64 0, .string ⟨#[]⟩, .string ⟨#[]⟩, .string ⟨#[]⟩, .string ⟨#[]⟩, .int .i64 0, .bool false] 30)).alloc (.cells #[.int .i64 k, .string ky, .string vl, .string ⟨#[]⟩, .string ⟨#[]⟩, .int .i64 0, .bool false] 30) = U at *
  rintro r w1 ⟨rfl, hb⟩
  have K1 := hid (K0.out.below hb)
  have J1 := hid (J0.out.below hb)
  have I1 := hid (I0.out.below hb)
  have B1 := hid (btR B0.out hb)
  clear J0 I0 K0 B0 hb
  have x5 := K1.out.cell (j := 5) rfl
  have x6 := K1.out.cell (j := 6) rfl
  have y0 := I1.out.cell (j := 0) rfl
  have y1 := I1.out.cell (j := 1) rfl
  have y2 := I1.out.cell (j := 2) rfl
  have y3 := I1.out.cell (j := 3) rfl
  have y4 := I1.out.cell (j := 4) rfl
  have y5 := I1.out.cell (j := 5) rfl
  have y6 := I1.out.cell (j := 6) rfl
  have f3 := I1.out.free 3
  have f4 := I1.out.free 4
  have f5 := I1.out.free 5
  have f6 := I1.out.free 6
  have z0 := J1.out.cell (j := 0) rfl
  have z1 := J1.out.cell (j := 1) rfl
  have z2 := J1.out.cell (j := 2) rfl
  have z3 := J1.out.cell (j := 3) rfl
  have z4 := J1.out.cell (j := 4) rfl
  have z5 := J1.out.cell (j := 5) rfl
  have z6 := J1.out.cell (j := 6) rfl
  have g0 := J1.out.free 0
  have g1 := J1.out.free 1
  have g2 := J1.out.free 2
  have g3 := J1.out.free 3
  have g4 := J1.out.free 4
  have g5 := J1.out.free 5
  have g6 := J1.out.free 6
  have J2 : Hid (Bk ((((w1.setCell ⟨w.heap.size + 1 + 1, 3, none⟩ (.string lo)).setCell ⟨w.heap.size + 1 + 1, 4, none⟩ (.string hi)).setCell ⟨w.heap.size + 1 + 1, 5, none⟩ (.int .i64 mo)).setCell ⟨w.heap.size + 1 + 1, 6, none⟩ (.bool bk)) (w.heap.size + 1) 30 [.int .i64 0, .string ⟨#[]⟩, .string ⟨#[]⟩, .string ⟨#[]⟩, .string ⟨#[]⟩, .int .i64 0, .bool false]) := ((((J1.out.setOther (by omega) _ _).setOther (by omega) _ _).setOther (by omega) _ _).setOther (by omega) _ _)
  have J3 := hid (((((((J2.out.set 0 (.int .i64 k)).set 1 (.string ky)).set 2 (.string vl)).set 3 (.string lo)).set 4 (.string hi)).set 5 (.int .i64 mo)).set 6 (.bool bk))
  have B3 := hid (Below.setCell (p := ⟨w.heap.size + 1, 6, none⟩) (Below.setCell (p := ⟨w.heap.size + 1, 5, none⟩) (Below.setCell (p := ⟨w.heap.size + 1, 4, none⟩) (Below.setCell (p := ⟨w.heap.size + 1, 3, none⟩) (Below.setCell (p := ⟨w.heap.size + 1, 2, none⟩) (Below.setCell (p := ⟨w.heap.size + 1, 1, none⟩) (Below.setCell (p := ⟨w.heap.size + 1, 0, none⟩) (Below.setCell (p := ⟨w.heap.size + 1 + 1, 6, none⟩) (Below.setCell (p := ⟨w.heap.size + 1 + 1, 5, none⟩) (Below.setCell (p := ⟨w.heap.size + 1 + 1, 4, none⟩) (Below.setCell (p := ⟨w.heap.size + 1 + 1, 3, none⟩) B1.out (by simp; omega) (.string lo)) (by simp; omega) (.string hi)) (by simp; omega) (.int .i64 mo)) (by simp; omega) (.bool bk)) (by simp) (.int .i64 k)) (by simp) (.string ky)) (by simp) (.string vl)) (by simp) (.string lo)) (by simp) (.string hi)) (by simp) (.int .i64 mo)) (by simp) (.bool bk))
  have d1 : ¬ w.heap.size + 1 = w.heap.size + 1 + 1 := by omega
  have d2 : ¬ w.heap.size + 1 + 1 = w.heap.size + 1 := by omega
  have d3 : ¬ w.heap.size = w.heap.size + 1 + 1 := by omega
  have d4 : ¬ w.heap.size = w.heap.size + 1 := by omega
  clear J1 I1 B1 J2 K1
  go_wp2
  try simp only [Exit.inBlock, Exit.then]
  refine bodyPost_ret (v := .agg #[.int .i64 k, .string ky, .string vl, .string lo, .string hi, .int .i64 mo, .bool bk]) ?_ rfl ?_
  · exact results_ask rfl _ _ _ rfl (J3.out.cell (j := 0) rfl) (J3.out.cell (j := 1) rfl) (J3.out.cell (j := 2) rfl) (J3.out.cell (j := 3) rfl) (J3.out.cell (j := 4) rfl) (J3.out.cell (j := 5) rfl) (J3.out.cell (j := 6) rfl)
  · exact ⟨rfl, B3.out⟩
set_option maxHeartbeats 1600000 in
theorem szAsk_any (k : Int) (ky vl lo hi : ByteArray) (mo : Int) (bk : Bool) (left : Int) (w : World) (h0 : 0 ≤ left) (h1 : left ≤ 1048576) (hs : ky.size ≤ 9223372036854775807 ∧ vl.size ≤ 9223372036854775807 ∧ lo.size ≤ 9223372036854775807 ∧ hi.size ≤ 9223372036854775807) :
    Calls Try.prog 6 #[.agg #[.int .i64 k, .string ky, .string vl, .string lo, .string hi, .int .i64 mo, .bool bk], .int .i64 left] w fun e w' => (∃ x : Int, e = .returned (.int .i64 x) ∧ x ≤ left ∧ -1 ≤ x) ∧ Below w.heap.size w w' := by
  obtain ⟨s1, s2, s3, s4⟩ := hs
  have B0 := hid (below_new (o := .cells #[.int .i64 k, .string ky, .string vl, .string lo, .string hi, .int .i64 mo, .bool bk] 25) (w := w) (Below.refl _ _))
  by_cases q1 : left - ky.size < 0
  · go_enter Try.func6, Try.ntmps6
    go_wp2
    go_ret
    exact ⟨⟨-1, rfl, by omega, by omega⟩, B0.out⟩
  · by_cases q2 : left - ky.size - vl.size < 0
    · go_enter Try.func6, Try.ntmps6
      go_wp2
      go_ret
      exact ⟨⟨-1, rfl, by omega, by omega⟩, B0.out⟩
    · have C1 : Hid (∀ w, Calls Try.prog 18 #[.agg #[.string lo, .string hi], .int .i64 (left - ky.size - vl.size)] w fun e w' => (∃ x : Int, e = .returned (.int .i64 x) ∧ x ≤ left - ky.size - vl.size ∧ -1 ≤ x) ∧ Below w.heap.size w w') := fun w => szRange_any lo hi _ w (by omega) (by omega) s3 s4
      go_enter Try.func6, Try.ntmps6
      go_wp2_with fail
      refine (C1.out _).mono ?_
      rintro e w1 ⟨⟨x, rfl, hx1, hx2⟩, hb⟩
      have B1 := hid (btR B0.out hb)
      clear hb B0
      by_cases hx : x < 0
      · go_wp2
        go_ret
        exact ⟨⟨-1, rfl, by omega, by omega⟩, B1.out⟩
      · go_wp2
        go_ret
        exact ⟨⟨x, rfl, by omega, by omega⟩, B1.out⟩
set_option maxHeartbeats 3200000 in
theorem eqAsk_same (k : Int) (ky vl lo hi : ByteArray) (mo : Int) (bk : Bool) (w : World) : Calls Try.prog 36 #[.agg #[.int .i64 k, .string ky, .string vl, .string lo, .string hi, .int .i64 mo, .bool bk], .agg #[.int .i64 k, .string ky, .string vl, .string lo, .string hi, .int .i64 mo, .bool bk]] w fun e w' => e = .returned (.bool true) ∧ Below w.heap.size w w' := by
  have hz0 : (k != k) = false := by simp
  have hz1 : (mo != mo) = false := by simp
  have hz2 : (bk != bk) = false := by simp
  have C1 : Hid (∀ w, Calls Try.prog 12 #[.agg #[.string lo, .string hi], .agg #[.string lo, .string hi]] w fun r w' => r = .returned (.bool true) ∧ Below w.heap.size w w') := fun w => eqRange_same lo hi w
  have B0 : Hid (Below w.heap.size w ((w.alloc (.cells #[.int .i64 k, .string ky, .string vl, .string lo, .string hi, .int .i64 mo, .bool bk] 30)).alloc (.cells #[.int .i64 k, .string ky, .string vl, .string lo, .string hi, .int .i64 mo, .bool bk] 30))) := below_new (below_new (Below.refl _ _))
  have K0 := hid ((Bk.new w 30 [.int .i64 k, .string ky, .string vl, .string lo, .string hi, .int .i64 mo, .bool bk]).alloc (.cells #[.int .i64 k, .string ky, .string vl, .string lo, .string hi, .int .i64 mo, .bool bk] 30))
  have J0 := hid (Bk.new (w.alloc (.cells #[.int .i64 k, .string ky, .string vl, .string lo, .string hi, .int .i64 mo, .bool bk] 30)) 30 [.int .i64 k, .string ky, .string vl, .string lo, .string hi, .int .i64 mo, .bool bk])
  rw [show (w.alloc (.cells #[.int .i64 k, .string ky, .string vl, .string lo, .string hi, .int .i64 mo, .bool bk] 30)).heap.size = w.heap.size + 1 by simp] at J0
  go_enter Try.func36, Try.ntmps36
  go_wp2_with fail
  refine (C1.out _).mono ?_
  generalize (w.alloc (.cells #[.int .i64 k, .string ky, .string vl, .string lo, .string hi, .int .i64 mo, .bool bk] 30)).alloc (.cells #[.int .i64 k, .string ky, .string vl, .string lo, .string hi, .int .i64 mo, .bool bk] 30) = U at *
  rintro r w1 ⟨rfl, hb⟩
  have B1 := hid (btR B0.out hb)
  have K1 := hid (K0.out.below hb)
  have J1 := hid (J0.out.below hb)
  clear hb B0 K0 J0
  have x5 := K1.out.cell (j := 5) rfl
  have x6 := K1.out.cell (j := 6) rfl
  have y5 := J1.out.cell (j := 5) rfl
  have y6 := J1.out.cell (j := 6) rfl
  go_wp2
  go_ret
  exact ⟨rfl, B1.out⟩
def alLo (k : Int) (ky vl lo hi : ByteArray) (mo : Int) (bk : Bool) : ByteArray := if akOk k ky vl lo hi mo bk then (if k = 4 then lo else ptLo ky) else ⟨#[]⟩
def alHi (k : Int) (ky vl lo hi : ByteArray) (mo : Int) (bk : Bool) : ByteArray := if akOk k ky vl lo hi mo bk then (if k = 4 then hi else ptHi ky) else ⟨#[]⟩
def alEx (k : Int) (ky vl lo hi : ByteArray) (mo : Int) (bk : Bool) : Bool := akOk k ky vl lo hi mo bk && (decide (k ≠ 4) && decide (k ≠ 1))
set_option maxHeartbeats 3200000 in
theorem implAskLock_any (k : Int) (ky vl lo hi : ByteArray) (mo : Int) (bk : Bool) (w : World) : Calls Try.prog 11 #[.agg #[.int .i64 k, .string ky, .string vl, .string lo, .string hi, .int .i64 mo, .bool bk]] w fun r w' => r = .returned (.tuple #[.agg #[.string (alLo k ky vl lo hi mo bk), .string (alHi k ky vl lo hi mo bk)], .bool (alEx k ky vl lo hi mo bk)]) ∧ Below w.heap.size w w' := by
  have C1 := hid (fun w => implAskOk_any k ky vl lo hi mo bk w)
  have C2 : Hid (∀ w, Calls Try.prog 26 #[.string ky] w fun e w' => e = .returned (.agg #[.string (ptLo ky), .string (ptHi ky)]) ∧ Below w.heap.size w w') := fun w => implPointOf_any ky w
  have B0 : Hid (Below w.heap.size w ((w.alloc (.cells #[.int .i64 k, .string ky, .string vl, .string lo, .string hi, .int .i64 mo, .bool bk] 30)).alloc (.cells #[.string ⟨#[]⟩, .string ⟨#[]⟩] 28))) := below_new (below_new (Below.refl _ _))
  have K0 := hid ((Bk.new w 30 [.int .i64 k, .string ky, .string vl, .string lo, .string hi, .int .i64 mo, .bool bk]).alloc (.cells #[.string ⟨#[]⟩, .string ⟨#[]⟩] 28))
  have J0 := hid (Bk.new (w.alloc (.cells #[.int .i64 k, .string ky, .string vl, .string lo, .string hi, .int .i64 mo, .bool bk] 30)) 28 [.string ⟨#[]⟩, .string ⟨#[]⟩])
  rw [show (w.alloc (.cells #[.int .i64 k, .string ky, .string vl, .string lo, .string hi, .int .i64 mo, .bool bk] 30)).heap.size = w.heap.size + 1 by simp] at J0
  have HS : Hid (∀ {W : World}, Only (fun y => y = w.heap.size + 1) W W → True) := fun _ => trivial
  have e1 : alLo k ky vl lo hi mo bk = if akOk k ky vl lo hi mo bk then (if k = 4 then lo else ptLo ky) else ⟨#[]⟩ := rfl
  have e2 : alHi k ky vl lo hi mo bk = if akOk k ky vl lo hi mo bk then (if k = 4 then hi else ptHi ky) else ⟨#[]⟩ := rfl
  have e3 : alEx k ky vl lo hi mo bk = (akOk k ky vl lo hi mo bk && (decide (k ≠ 4) && decide (k ≠ 1))) := rfl
  generalize alLo k ky vl lo hi mo bk = r1 at *
  generalize alHi k ky vl lo hi mo bk = r2 at *
  generalize alEx k ky vl lo hi mo bk = r3 at *
  generalize akOk k ky vl lo hi mo bk = z at *
  generalize ptLo ky = pl at *
  generalize ptHi ky = ph at *
  cases z with
  | false =>
    obtain rfl : r1 = ⟨#[]⟩ := e1
    obtain rfl : r2 = ⟨#[]⟩ := e2
    obtain rfl : r3 = false := e3
    go_enter Try.func11, Try.ntmps11
    go_wp2_with fail
    refine (C1.out _).mono ?_
    generalize (w.alloc (.cells #[.int .i64 k, .string ky, .string vl, .string lo, .string hi, .int .i64 mo, .bool bk] 30)).alloc (.cells #[.string ⟨#[]⟩, .string ⟨#[]⟩] 28) = U at *
    rintro r w1 ⟨rfl, hb⟩
    have B1 := hid (btR B0.out hb)
    have K1 := hid (K0.out.below hb)
    have J1 := hid (J0.out.below hb)
    clear hb B0 K0 J0
    have x0 := K1.out.cell (j := 0) rfl
    have x1 := K1.out.cell (j := 1) rfl
    have x3 := K1.out.cell (j := 3) rfl
    have x4 := K1.out.cell (j := 4) rfl
    have y0 := J1.out.cell (j := 0) rfl
    have y1 := J1.out.cell (j := 1) rfl
    have f0 := J1.out.free 0
    have f1 := J1.out.free 1
    have J9 := hid ((J1.out.set 0 (.string ⟨#[]⟩)).set 1 (.string ⟨#[]⟩))
    have B9 := hid (Below.setCell (p := ⟨w.heap.size + 1, 1, none⟩) (Below.setCell (p := ⟨w.heap.size + 1, 0, none⟩) B1.out (by simp) (.string ⟨#[]⟩)) (by simp) (.string ⟨#[]⟩))
    go_wp2
    try simp only [Exit.inBlock, Exit.then]
    refine bodyPost_ret (v := .tuple #[.agg #[.string ⟨#[]⟩, .string ⟨#[]⟩], .bool false]) ?_ rfl ?_
    · exact results_rng_bool rfl _ _ _ rfl rfl (J9.out.cell (j := 0) rfl) (J9.out.cell (j := 1) rfl)
    · exact ⟨rfl, B9.out⟩
  | true =>
    by_cases k4 : k = 4
    · rw [if_pos rfl, if_pos k4] at e1 e2
      subst k4
      obtain rfl : r3 = false := e3
      rw [e1, e2]
      clear e1 e2
      go_enter Try.func11, Try.ntmps11
      go_wp2_with fail
      refine (C1.out _).mono ?_
      generalize (w.alloc (.cells #[.int .i64 4, .string ky, .string vl, .string lo, .string hi, .int .i64 mo, .bool bk] 30)).alloc (.cells #[.string ⟨#[]⟩, .string ⟨#[]⟩] 28) = U at *
      rintro r w1 ⟨rfl, hb⟩
      have B1 := hid (btR B0.out hb)
      have K1 := hid (K0.out.below hb)
      have J1 := hid (J0.out.below hb)
      clear hb B0 K0 J0
      have x0 := K1.out.cell (j := 0) rfl
      have x1 := K1.out.cell (j := 1) rfl
      have x3 := K1.out.cell (j := 3) rfl
      have x4 := K1.out.cell (j := 4) rfl
      have y0 := J1.out.cell (j := 0) rfl
      have y1 := J1.out.cell (j := 1) rfl
      have f0 := J1.out.free 0
      have f1 := J1.out.free 1
      have J9 := hid ((J1.out.set 0 (.string lo)).set 1 (.string hi))
      have B9 := hid (Below.setCell (p := ⟨w.heap.size + 1, 1, none⟩) (Below.setCell (p := ⟨w.heap.size + 1, 0, none⟩) B1.out (by simp) (.string lo)) (by simp) (.string hi))
      go_wp2
      try simp only [Exit.inBlock, Exit.then]
      refine bodyPost_ret (v := .tuple #[.agg #[.string lo, .string hi], .bool false]) ?_ rfl ?_
      · exact results_rng_bool rfl _ _ _ rfl rfl (J9.out.cell (j := 0) rfl) (J9.out.cell (j := 1) rfl)
      · exact ⟨rfl, B9.out⟩
    · rw [if_pos rfl, if_neg k4] at e1 e2
      have E3 : Hid (r3 = (k != 1)) := by show _ = _; rw [e3, decide_eq_true k4]; by_cases k1 : k = 1 <;> simp [k1]
      clear e3
      subst e1 e2
      rw [E3.out]
      go_enter Try.func11, Try.ntmps11
      go_wp2_with fail
      refine (C1.out _).mono ?_
      generalize (w.alloc (.cells #[.int .i64 k, .string ky, .string vl, .string lo, .string hi, .int .i64 mo, .bool bk] 30)).alloc (.cells #[.string ⟨#[]⟩, .string ⟨#[]⟩] 28) = U at *
      rintro r w1 ⟨rfl, hb⟩
      have B1 := hid (btR B0.out hb)
      have K1 := hid (K0.out.below hb)
      have J1 := hid (J0.out.below hb)
      clear hb B0 K0 J0
      have x0 := K1.out.cell (j := 0) rfl
      have x1 := K1.out.cell (j := 1) rfl
      have x3 := K1.out.cell (j := 3) rfl
      have x4 := K1.out.cell (j := 4) rfl
      have y0 := J1.out.cell (j := 0) rfl
      have y1 := J1.out.cell (j := 1) rfl
      have f0 := J1.out.free 0
      have f1 := J1.out.free 1
      have K1d := hid (K1.out.below (below_drew _))
      have J1d := hid (J1.out.below (below_drew _))
      have B1d := hid (btR B1.out (below_drew _))
      clear K1 J1 B1
      go_wp2_with fail
      go_region_with (first | (go_at_call 26; refine (C2.out _).mono ?_; rintro r w2 ⟨rfl, hbC⟩; have q0 := (K1d.out.below hbC).cell (j := 0) rfl; have q1 := (J1d.out.below hbC).cell (j := 0) rfl; have q2 := (J1d.out.below hbC).cell (j := 1) rfl; have q3 := (J1d.out.below hbC).free 0; have q4 := (J1d.out.below hbC).free 1))
      all_goals (go_wp2_with fail)
      all_goals (try simp only [Exit.inBlock, Exit.then])
      all_goals refine bodyPost_ret (v := .tuple #[.agg #[.string r1, .string r2], .bool (k != 1)]) ?_ rfl ?_
      all_goals first | exact results_rng_bool rfl _ _ _ rfl rfl ((((J1d.out.below hbC).set 0 (.string r1)).set 1 (.string r2)).cell (j := 0) rfl) ((((J1d.out.below hbC).set 0 (.string r1)).set 1 (.string r2)).cell (j := 1) rfl) | exact ⟨rfl, Below.setCell (p := ⟨w.heap.size + 1, 1, none⟩) (Below.setCell (p := ⟨w.heap.size + 1, 0, none⟩) (btR B1d.out hbC) (by simp) (.string r1)) (by simp) (.string r2)⟩
set_option maxHeartbeats 3200000 in
theorem specAskLock_any (k : Int) (ky vl lo hi : ByteArray) (mo : Int) (bk : Bool) (w : World) : Calls Try.prog 10 #[.agg #[.int .i64 k, .string ky, .string vl, .string lo, .string hi, .int .i64 mo, .bool bk]] w fun r w' => r = .returned (.tuple #[.agg #[.string (alLo k ky vl lo hi mo bk), .string (alHi k ky vl lo hi mo bk)], .bool (alEx k ky vl lo hi mo bk)]) ∧ Below w.heap.size w w' := by
  have C1 := hid (fun w => specAskOk_any k ky vl lo hi mo bk w)
  have C2 : Hid (∀ w, Calls Try.prog 25 #[.string ky] w fun e w' => e = .returned (.agg #[.string (ptLo ky), .string (ptHi ky)]) ∧ Below w.heap.size w w') := fun w => specPointOf_any ky w
  have B0 : Hid (Below w.heap.size w ((w.alloc (.cells #[.int .i64 k, .string ky, .string vl, .string lo, .string hi, .int .i64 mo, .bool bk] 30)).alloc (.cells #[.string ⟨#[]⟩, .string ⟨#[]⟩] 28))) := below_new (below_new (Below.refl _ _))
  have K0 := hid ((Bk.new w 30 [.int .i64 k, .string ky, .string vl, .string lo, .string hi, .int .i64 mo, .bool bk]).alloc (.cells #[.string ⟨#[]⟩, .string ⟨#[]⟩] 28))
  have J0 := hid (Bk.new (w.alloc (.cells #[.int .i64 k, .string ky, .string vl, .string lo, .string hi, .int .i64 mo, .bool bk] 30)) 28 [.string ⟨#[]⟩, .string ⟨#[]⟩])
  rw [show (w.alloc (.cells #[.int .i64 k, .string ky, .string vl, .string lo, .string hi, .int .i64 mo, .bool bk] 30)).heap.size = w.heap.size + 1 by simp] at J0
  have HS : Hid (∀ {W : World}, Only (fun y => y = w.heap.size + 1) W W → True) := fun _ => trivial
  have e1 : alLo k ky vl lo hi mo bk = if akOk k ky vl lo hi mo bk then (if k = 4 then lo else ptLo ky) else ⟨#[]⟩ := rfl
  have e2 : alHi k ky vl lo hi mo bk = if akOk k ky vl lo hi mo bk then (if k = 4 then hi else ptHi ky) else ⟨#[]⟩ := rfl
  have e3 : alEx k ky vl lo hi mo bk = (akOk k ky vl lo hi mo bk && (decide (k ≠ 4) && decide (k ≠ 1))) := rfl
  generalize alLo k ky vl lo hi mo bk = r1 at *
  generalize alHi k ky vl lo hi mo bk = r2 at *
  generalize alEx k ky vl lo hi mo bk = r3 at *
  generalize akOk k ky vl lo hi mo bk = z at *
  generalize ptLo ky = pl at *
  generalize ptHi ky = ph at *
  cases z with
  | false =>
    obtain rfl : r1 = ⟨#[]⟩ := e1
    obtain rfl : r2 = ⟨#[]⟩ := e2
    obtain rfl : r3 = false := e3
    go_enter Try.func10, Try.ntmps10
    go_wp2_with fail
    refine (C1.out _).mono ?_
    generalize (w.alloc (.cells #[.int .i64 k, .string ky, .string vl, .string lo, .string hi, .int .i64 mo, .bool bk] 30)).alloc (.cells #[.string ⟨#[]⟩, .string ⟨#[]⟩] 28) = U at *
    rintro r w1 ⟨rfl, hb⟩
    have B1 := hid (btR B0.out hb)
    have K1 := hid (K0.out.below hb)
    have J1 := hid (J0.out.below hb)
    clear hb B0 K0 J0
    have x0 := K1.out.cell (j := 0) rfl
    have x1 := K1.out.cell (j := 1) rfl
    have x3 := K1.out.cell (j := 3) rfl
    have x4 := K1.out.cell (j := 4) rfl
    have y0 := J1.out.cell (j := 0) rfl
    have y1 := J1.out.cell (j := 1) rfl
    have f0 := J1.out.free 0
    have f1 := J1.out.free 1
    have J9 := hid ((J1.out.set 0 (.string ⟨#[]⟩)).set 1 (.string ⟨#[]⟩))
    have B9 := hid (Below.setCell (p := ⟨w.heap.size + 1, 1, none⟩) (Below.setCell (p := ⟨w.heap.size + 1, 0, none⟩) B1.out (by simp) (.string ⟨#[]⟩)) (by simp) (.string ⟨#[]⟩))
    go_wp2
    try simp only [Exit.inBlock, Exit.then]
    refine bodyPost_ret (v := .tuple #[.agg #[.string ⟨#[]⟩, .string ⟨#[]⟩], .bool false]) ?_ rfl ?_
    · exact results_rng_bool rfl _ _ _ rfl rfl (J9.out.cell (j := 0) rfl) (J9.out.cell (j := 1) rfl)
    · exact ⟨rfl, B9.out⟩
  | true =>
    by_cases k4 : k = 4
    · rw [if_pos rfl, if_pos k4] at e1 e2
      subst k4
      obtain rfl : r3 = false := e3
      rw [e1, e2]
      clear e1 e2
      go_enter Try.func10, Try.ntmps10
      go_wp2_with fail
      refine (C1.out _).mono ?_
      generalize (w.alloc (.cells #[.int .i64 4, .string ky, .string vl, .string lo, .string hi, .int .i64 mo, .bool bk] 30)).alloc (.cells #[.string ⟨#[]⟩, .string ⟨#[]⟩] 28) = U at *
      rintro r w1 ⟨rfl, hb⟩
      have B1 := hid (btR B0.out hb)
      have K1 := hid (K0.out.below hb)
      have J1 := hid (J0.out.below hb)
      clear hb B0 K0 J0
      have x0 := K1.out.cell (j := 0) rfl
      have x1 := K1.out.cell (j := 1) rfl
      have x3 := K1.out.cell (j := 3) rfl
      have x4 := K1.out.cell (j := 4) rfl
      have y0 := J1.out.cell (j := 0) rfl
      have y1 := J1.out.cell (j := 1) rfl
      have f0 := J1.out.free 0
      have f1 := J1.out.free 1
      have J9 := hid ((J1.out.set 0 (.string lo)).set 1 (.string hi))
      have B9 := hid (Below.setCell (p := ⟨w.heap.size + 1, 1, none⟩) (Below.setCell (p := ⟨w.heap.size + 1, 0, none⟩) B1.out (by simp) (.string lo)) (by simp) (.string hi))
      go_wp2
      try simp only [Exit.inBlock, Exit.then]
      refine bodyPost_ret (v := .tuple #[.agg #[.string lo, .string hi], .bool false]) ?_ rfl ?_
      · exact results_rng_bool rfl _ _ _ rfl rfl (J9.out.cell (j := 0) rfl) (J9.out.cell (j := 1) rfl)
      · exact ⟨rfl, B9.out⟩
    · rw [if_pos rfl, if_neg k4] at e1 e2
      have E3 : Hid (r3 = (k != 1)) := by show _ = _; rw [e3, decide_eq_true k4]; by_cases k1 : k = 1 <;> simp [k1]
      clear e3
      subst e1 e2
      rw [E3.out]
      go_enter Try.func10, Try.ntmps10
      go_wp2_with fail
      refine (C1.out _).mono ?_
      generalize (w.alloc (.cells #[.int .i64 k, .string ky, .string vl, .string lo, .string hi, .int .i64 mo, .bool bk] 30)).alloc (.cells #[.string ⟨#[]⟩, .string ⟨#[]⟩] 28) = U at *
      rintro r w1 ⟨rfl, hb⟩
      have B1 := hid (btR B0.out hb)
      have K1 := hid (K0.out.below hb)
      have J1 := hid (J0.out.below hb)
      clear hb B0 K0 J0
      have x0 := K1.out.cell (j := 0) rfl
      have x1 := K1.out.cell (j := 1) rfl
      have x3 := K1.out.cell (j := 3) rfl
      have x4 := K1.out.cell (j := 4) rfl
      have y0 := J1.out.cell (j := 0) rfl
      have y1 := J1.out.cell (j := 1) rfl
      have f0 := J1.out.free 0
      have f1 := J1.out.free 1
      have K1d := hid (K1.out.below (below_drew _))
      have J1d := hid (J1.out.below (below_drew _))
      have B1d := hid (btR B1.out (below_drew _))
      clear K1 J1 B1
      go_wp2_with fail
      go_region_with (first | (go_at_call 25; refine (C2.out _).mono ?_; rintro r w2 ⟨rfl, hbC⟩; have q0 := (K1d.out.below hbC).cell (j := 0) rfl; have q1 := (J1d.out.below hbC).cell (j := 0) rfl; have q2 := (J1d.out.below hbC).cell (j := 1) rfl; have q3 := (J1d.out.below hbC).free 0; have q4 := (J1d.out.below hbC).free 1))
      all_goals (go_wp2_with fail)
      all_goals (try simp only [Exit.inBlock, Exit.then])
      all_goals refine bodyPost_ret (v := .tuple #[.agg #[.string r1, .string r2], .bool (k != 1)]) ?_ rfl ?_
      all_goals first | exact results_rng_bool rfl _ _ _ rfl rfl ((((J1d.out.below hbC).set 0 (.string r1)).set 1 (.string r2)).cell (j := 0) rfl) ((((J1d.out.below hbC).set 0 (.string r1)).set 1 (.string r2)).cell (j := 1) rfl) | exact ⟨rfl, Below.setCell (p := ⟨w.heap.size + 1, 1, none⟩) (Below.setCell (p := ⟨w.heap.size + 1, 0, none⟩) (btR B1d.out hbC) (by simp) (.string r1)) (by simp) (.string r2)⟩
set_option maxHeartbeats 4000000 in
theorem lawAskOk_walk (k : Int) (ky vl lo hi : ByteArray) (mo : Int) (bk : Bool) (w : World) (hl : ky.size ≤ maxLen ∧ vl.size ≤ maxLen ∧ lo.size ≤ maxLen ∧ hi.size ≤ maxLen) : Calls Try.prog 3 #[.agg #[.int .i64 k, .string ky, .string vl, .string lo, .string hi, .int .i64 mo, .bool bk]] w fun e w' => e = .returned (.bool true) ∧ Below w.heap.size w w' := by
  unfold maxLen at hl
  have C1 := hid (fun w => specAskOk_any k ky vl lo hi mo bk w)
  have C2 := hid (fun w => implAskOk_any k ky vl lo hi mo bk w)
  generalize akOk k ky vl lo hi mo bk = z at *
  have hz : (z != z) = false := by simp
  have B0 := hid (below_new (o := .cells #[.int .i64 k, .string ky, .string vl, .string lo, .string hi, .int .i64 mo, .bool bk] 25) (w := w) (Below.refl _ _))
  have K0 := hid (Bk.new w 25 [.int .i64 k, .string ky, .string vl, .string lo, .string hi, .int .i64 mo, .bool bk])
  have T1 := hid (fun w => toAsk_any k ky vl lo hi mo bk w)
  go_enter Try.func3, Try.ntmps3
  go_wp2_with fail
  refine (szAsk_any k ky vl lo hi mo bk 1048576 _ (by omega) (by omega) hl).mono ?_
  generalize w.alloc (.cells #[.int .i64 k, .string ky, .string vl, .string lo, .string hi, .int .i64 mo, .bool bk] 25) = U at *
  rintro e w1 ⟨⟨x, rfl, hx1, hx2⟩, hb⟩
  have B1 := hid (btR B0.out hb)
  have K1 := hid (K0.out.below hb)
  clear hb B0 K0 hl
  by_cases hx : x < 0
  · go_wp2
    go_ret
    exact ⟨rfl, B1.out⟩
  · have x0 := K1.out.cell (j := 0) rfl
    have x1 := K1.out.cell (j := 1) rfl
    have x2 := K1.out.cell (j := 2) rfl
    have x3 := K1.out.cell (j := 3) rfl
    have x4 := K1.out.cell (j := 4) rfl
    have x5 := K1.out.cell (j := 5) rfl
    have x6 := K1.out.cell (j := 6) rfl
    go_wp2_with fail
    refine (T1.out _).mono ?_
    rintro e w2 ⟨rfl, hb⟩
    have B2 := hid (btR B1.out hb)
    have K2 := hid (K1.out.below hb)
    clear hb B1 K1 x0 x1 x2 x3 x4 x5 x6
    have x0 := K2.out.cell (j := 0) rfl
    have x1 := K2.out.cell (j := 1) rfl
    have x2 := K2.out.cell (j := 2) rfl
    have x3 := K2.out.cell (j := 3) rfl
    have x4 := K2.out.cell (j := 4) rfl
    have x5 := K2.out.cell (j := 5) rfl
    have x6 := K2.out.cell (j := 6) rfl
    go_wp2_with fail
    refine (C1.out _).mono ?_
    rintro e w3 ⟨rfl, hb⟩
    have B3 := hid (btR B2.out hb)
    have K3 := hid (K2.out.below hb)
    clear hb B2 K2 x0 x1 x2 x3 x4 x5 x6
    have x0 := K3.out.cell (j := 0) rfl
    have x1 := K3.out.cell (j := 1) rfl
    have x2 := K3.out.cell (j := 2) rfl
    have x3 := K3.out.cell (j := 3) rfl
    have x4 := K3.out.cell (j := 4) rfl
    have x5 := K3.out.cell (j := 5) rfl
    have x6 := K3.out.cell (j := 6) rfl
    go_wp2_with fail
    refine (T1.out _).mono ?_
    rintro e w4 ⟨rfl, hb⟩
    have B4 := hid (btR B3.out hb)
    have K4 := hid (K3.out.below hb)
    clear hb B3 K3 x0 x1 x2 x3 x4 x5 x6
    have x0 := K4.out.cell (j := 0) rfl
    have x1 := K4.out.cell (j := 1) rfl
    have x2 := K4.out.cell (j := 2) rfl
    have x3 := K4.out.cell (j := 3) rfl
    have x4 := K4.out.cell (j := 4) rfl
    have x5 := K4.out.cell (j := 5) rfl
    have x6 := K4.out.cell (j := 6) rfl
    go_wp2_with fail
    refine (C2.out _).mono ?_
    rintro e w5 ⟨rfl, hb⟩
    have B5 := hid (btR B4.out hb)
    have K5 := hid (K4.out.below hb)
    clear hb B4 K4 x0 x1 x2 x3 x4 x5 x6
    have x0 := K5.out.cell (j := 0) rfl
    have x1 := K5.out.cell (j := 1) rfl
    have x2 := K5.out.cell (j := 2) rfl
    have x3 := K5.out.cell (j := 3) rfl
    have x4 := K5.out.cell (j := 4) rfl
    have x5 := K5.out.cell (j := 5) rfl
    have x6 := K5.out.cell (j := 6) rfl
    go_wp2
    go_ret
    exact ⟨rfl, B5.out⟩
set_option maxHeartbeats 4000000 in
theorem lawAskLock_walk (k : Int) (ky vl lo hi : ByteArray) (mo : Int) (bk : Bool) (w : World) (hl : ky.size ≤ maxLen ∧ vl.size ≤ maxLen ∧ lo.size ≤ maxLen ∧ hi.size ≤ maxLen) : Calls Try.prog 4 #[.agg #[.int .i64 k, .string ky, .string vl, .string lo, .string hi, .int .i64 mo, .bool bk]] w fun e w' => e = .returned (.bool true) ∧ Below w.heap.size w w' := by
  unfold maxLen at hl
  have C1 := hid (fun w => specAskLock_any k ky vl lo hi mo bk w)
  have C2 := hid (fun w => implAskLock_any k ky vl lo hi mo bk w)
  generalize alLo k ky vl lo hi mo bk = r1 at *
  generalize alHi k ky vl lo hi mo bk = r2 at *
  generalize alEx k ky vl lo hi mo bk = z at *
  have hz : (z != z) = false := by simp
  have B0 := hid (below_new (o := .cells #[.int .i64 k, .string ky, .string vl, .string lo, .string hi, .int .i64 mo, .bool bk] 25) (w := w) (Below.refl _ _))
  have K0 := hid (Bk.new w 25 [.int .i64 k, .string ky, .string vl, .string lo, .string hi, .int .i64 mo, .bool bk])
  have T1 := hid (fun w => toAsk_any k ky vl lo hi mo bk w)
  go_enter Try.func4, Try.ntmps4
  go_wp2_with fail
  refine (szAsk_any k ky vl lo hi mo bk 1048576 _ (by omega) (by omega) hl).mono ?_
  generalize w.alloc (.cells #[.int .i64 k, .string ky, .string vl, .string lo, .string hi, .int .i64 mo, .bool bk] 25) = U at *
  rintro e w1 ⟨⟨x, rfl, hx1, hx2⟩, hb⟩
  have B1 := hid (btR B0.out hb)
  have K1 := hid (K0.out.below hb)
  clear hb B0 K0 hl
  by_cases hx : x < 0
  · go_wp2
    go_ret
    exact ⟨rfl, B1.out⟩
  · have x0 := K1.out.cell (j := 0) rfl
    have x1 := K1.out.cell (j := 1) rfl
    have x2 := K1.out.cell (j := 2) rfl
    have x3 := K1.out.cell (j := 3) rfl
    have x4 := K1.out.cell (j := 4) rfl
    have x5 := K1.out.cell (j := 5) rfl
    have x6 := K1.out.cell (j := 6) rfl
    go_wp2_with fail
    refine (T1.out _).mono ?_
    rintro e w2 ⟨rfl, hb⟩
    have B2 := hid (btR B1.out hb)
    have K2 := hid (K1.out.below hb)
    clear hb B1 K1 x0 x1 x2 x3 x4 x5 x6 
    have x0 := K2.out.cell (j := 0) rfl
    have x1 := K2.out.cell (j := 1) rfl
    have x2 := K2.out.cell (j := 2) rfl
    have x3 := K2.out.cell (j := 3) rfl
    have x4 := K2.out.cell (j := 4) rfl
    have x5 := K2.out.cell (j := 5) rfl
    have x6 := K2.out.cell (j := 6) rfl
    go_wp2_with fail
    refine (C1.out _).mono ?_
    rintro e w3 ⟨rfl, hb⟩
    have B3 := hid (btR B2.out (btR hb (below_new (o := .cells #[.string r1, .string r2] 28) (w := w3) (Below.refl _ _))))
    have K3 := hid ((K2.out.below hb).alloc (.cells #[.string r1, .string r2] 28))
    have J3 := hid (Bk.new w3 28 [.string r1, .string r2])
    have KW := hid (K2.out.below hb)
    have hlt0 : w.heap.size < w3.heap.size := KW.out.lt
    clear hb B2 K2 x0 x1 x2 x3 x4 x5 x6
    have x0 := KW.out.cell (j := 0) rfl
    have x1 := KW.out.cell (j := 1) rfl
    have x2 := KW.out.cell (j := 2) rfl
    have x3 := KW.out.cell (j := 3) rfl
    have x4 := KW.out.cell (j := 4) rfl
    have x5 := KW.out.cell (j := 5) rfl
    have x6 := KW.out.cell (j := 6) rfl
    go_wp2_with fail
    refine (T1.out _).mono ?_
    generalize w3.alloc (.cells #[.string r1, .string r2] 28) = V at *
    generalize w3.heap.size = b3 at *
    rintro e w4 ⟨rfl, hb⟩
    have B4 := hid (btR B3.out hb)
    have K4 := hid (K3.out.below hb)
    have J4 := hid (J3.out.below hb)
    clear hb B3 K3 J3 KW hlt0 x0 x1 x2 x3 x4 x5 x6
    have x0 := K4.out.cell (j := 0) rfl
    have x1 := K4.out.cell (j := 1) rfl
    have x2 := K4.out.cell (j := 2) rfl
    have x3 := K4.out.cell (j := 3) rfl
    have x4 := K4.out.cell (j := 4) rfl
    have x5 := K4.out.cell (j := 5) rfl
    have x6 := K4.out.cell (j := 6) rfl
    go_wp2_with fail
    refine (C2.out _).mono ?_
    rintro e w5 ⟨rfl, hb⟩
    have B5 := hid (btR B4.out (btR hb (below_new (o := .cells #[.string r1, .string r2] 28) (w := w5) (Below.refl _ _))))
    have J5 := hid (J4.out.below hb)
    have hlt : ¬ b3 = w5.heap.size := by have := J5.out.lt; omega
    have y0 := J5.out.cell (j := 0) rfl
    have y1 := J5.out.cell (j := 1) rfl
    have hlt2 : b3 < w5.heap.size := J5.out.lt
    clear hb B4 K4 J4 x0 x1 x2 x3 x4 x5 x6
    go_wp2_with fail
    refine (eqRange_same r1 r2 _).mono ?_
    rintro e w6 ⟨rfl, hb⟩
    have B6 := hid (btR B5.out hb)
    clear hb B5
    go_wp2
    go_ret
    exact ⟨rfl, B6.out⟩
end Go.Proofs.Ytbonkheoeohaiaa

