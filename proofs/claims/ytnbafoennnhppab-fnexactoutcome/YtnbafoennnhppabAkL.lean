/-
  Asks: the law's helpers, AskLock on both sides, the laws FnExactAskOk and FnExactAskLock.
-/
import Derived.Test.YtnbafoennnhppabAkA
import Derived.Test.YtnbafoennnhppabRng3
import Derived.Deep.RegionHeld3
namespace Go.Proofs.Ytnbafoennnhppab
open Go.RowKit
set_option linter.unusedVariables false
theorem load_ask {w : World} {g : Nat} {k : Int} {ky vl lo hi : ByteArray} {mo : Int} {bk : Bool} (c0 : w.cell? ⟨g, 0, none⟩ = some (.int .i64 k)) (c1 : w.cell? ⟨g, 1, none⟩ = some (.string ky)) (c2 : w.cell? ⟨g, 2, none⟩ = some (.string vl)) (c3 : w.cell? ⟨g, 3, none⟩ = some (.string lo)) (c4 : w.cell? ⟨g, 4, none⟩ = some (.string hi)) (c5 : w.cell? ⟨g, 5, none⟩ = some (.int .i64 mo)) (c6 : w.cell? ⟨g, 6, none⟩ = some (.bool bk)) :
    (loadVar 43 ⟨g, 0, none⟩).run Try.prog w = .ok (.agg #[.int .i64 k, .string ky, .string vl, .string lo, .string hi, .int .i64 mo, .bool bk]) w := by go_simp
theorem results_ask {fn : Func} {p : Tmp} (h : fn.results = #[.cell p 43]) (tmps : Array Value) (w : World) (g : Nat) {k : Int} {ky vl lo hi : ByteArray} {mo : Int} {bk : Bool} (hp : tmps.getD p undef = .pointer (some ⟨g, 0, none⟩)) (c0 : w.cell? ⟨g, 0, none⟩ = some (.int .i64 k)) (c1 : w.cell? ⟨g, 1, none⟩ = some (.string ky)) (c2 : w.cell? ⟨g, 2, none⟩ = some (.string vl)) (c3 : w.cell? ⟨g, 3, none⟩ = some (.string lo)) (c4 : w.cell? ⟨g, 4, none⟩ = some (.string hi)) (c5 : w.cell? ⟨g, 5, none⟩ = some (.int .i64 mo)) (c6 : w.cell? ⟨g, 6, none⟩ = some (.bool bk)) :
    (results fn tmps).run Try.prog w = .ok (.agg #[.int .i64 k, .string ky, .string vl, .string lo, .string hi, .int .i64 mo, .bool bk]) w := by
  have hp' : tmps[p]?.getD undef = .pointer (some ⟨g, 0, none⟩) := by simpa using hp
  simp [results, h, hp', asAddr, load_ask c0 c1 c2 c3 c4 c5 c6]
set_option maxHeartbeats 3200000 in
theorem toAsk_any (k : Int) (ky vl lo hi : ByteArray) (mo : Int) (bk : Bool) (w : World) : Calls Try.prog 20 #[.agg #[.int .i64 k, .string ky, .string vl, .string lo, .string hi, .int .i64 mo, .bool bk]] w fun r w' => r = .returned (.agg #[.int .i64 k, .string ky, .string vl, .string lo, .string hi, .int .i64 mo, .bool bk]) ∧ Below w.heap.size w w' := by
  have C1 : Hid (∀ w, Calls Try.prog 27 #[.agg #[.string lo, .string hi]] w fun r w' => r = .returned (.agg #[.string lo, .string hi]) ∧ Below w.heap.size w w') := fun w => toRange_any lo hi w
  have B0 : Hid (Below w.heap.size w (((w.alloc (.cells #[.int .i64 k, .string ky, .string vl, .string lo, .string hi, .int .i64 mo, .bool bk] 37)).alloc (.cells #[.int .i64 0, .string ⟨#[]⟩, .string ⟨#[]⟩, .string ⟨#[]⟩, .string ⟨#[]⟩, .int .i64 0, .bool false] 43)).alloc (.cells #[.int .i64 k, .string ky, .string vl, .string ⟨#[]⟩, .string ⟨#[]⟩, .int .i64 0, .bool false] 43))) := below_new (below_new (below_new (Below.refl _ _)))
  have K0 := hid (((Bk.new w 37 [.int .i64 k, .string ky, .string vl, .string lo, .string hi, .int .i64 mo, .bool bk]).alloc (.cells #[.int .i64 0, .string ⟨#[]⟩, .string ⟨#[]⟩, .string ⟨#[]⟩, .string ⟨#[]⟩, .int .i64 0, .bool false] 43)).alloc (.cells #[.int .i64 k, .string ky, .string vl, .string ⟨#[]⟩, .string ⟨#[]⟩, .int .i64 0, .bool false] 43))
  have J0 := hid ((Bk.new (w.alloc (.cells #[.int .i64 k, .string ky, .string vl, .string lo, .string hi, .int .i64 mo, .bool bk] 37)) 43 [.int .i64 0, .string ⟨#[]⟩, .string ⟨#[]⟩, .string ⟨#[]⟩, .string ⟨#[]⟩, .int .i64 0, .bool false]).alloc (.cells #[.int .i64 k, .string ky, .string vl, .string ⟨#[]⟩, .string ⟨#[]⟩, .int .i64 0, .bool false] 43))
  have I0 := hid (Bk.new ((w.alloc (.cells #[.int .i64 k, .string ky, .string vl, .string lo, .string hi, .int .i64 mo, .bool bk] 37)).alloc (.cells #[.int .i64 0, .string ⟨#[]⟩, .string ⟨#[]⟩, .string ⟨#[]⟩, .string ⟨#[]⟩, .int .i64 0, .bool false] 43)) 43 [.int .i64 k, .string ky, .string vl, .string ⟨#[]⟩, .string ⟨#[]⟩, .int .i64 0, .bool false])
  rw [show (w.alloc (.cells #[.int .i64 k, .string ky, .string vl, .string lo, .string hi, .int .i64 mo, .bool bk] 37)).heap.size = w.heap.size + 1 by simp] at J0
  rw [show ((w.alloc (.cells #[.int .i64 k, .string ky, .string vl, .string lo, .string hi, .int .i64 mo, .bool bk] 37)).alloc (.cells #[.int .i64 0, .string ⟨#[]⟩, .string ⟨#[]⟩, .string ⟨#[]⟩, .string ⟨#[]⟩, .int .i64 0, .bool false] 43)).heap.size = w.heap.size + 1 + 1 by simp] at I0
  go_enter Try.func20, Try.ntmps20
  go_wp2_with fail
  refine (C1.out _).mono ?_
  generalize ((w.alloc (.cells #[.int .i64 k, .string ky, .string vl, .string lo, .string hi, .int .i64 mo, .bool bk] 37)).alloc (.cells #[.int .i64 0, .string ⟨#[]⟩, .string ⟨#[]⟩, .string ⟨#[]⟩, .string ⟨#[]⟩, .int .i64 0, .bool false] 43)).alloc (.cells #[.int .i64 k, .string ky, .string vl, .string ⟨#[]⟩, .string ⟨#[]⟩, .int .i64 0, .bool false] 43) = U at *
  rintro r w1 ⟨rfl, hb⟩
  have K1 := hid (K0.out.below hb)
  have J1 := hid (J0.out.below hb)
  have I1 := hid (I0.out.below hb)
  have B1 := hid (btR B0.out hb)
  clear J0 I0 K0 B0 hb
  have x5 := K1.out.cell (j := 5) rfl
  have x6 := K1.out.cell (j := 6) rfl
  have y0 := I1.out.cell (j := 0) rfl
  have y1 := I1.out.cell (j := 1) rfl
  have y2 := I1.out.cell (j := 2) rfl
  have y3 := I1.out.cell (j := 3) rfl
  have y4 := I1.out.cell (j := 4) rfl
  have y5 := I1.out.cell (j := 5) rfl
  have y6 := I1.out.cell (j := 6) rfl
  have f3 := I1.out.free 3
  have f4 := I1.out.free 4
  have f5 := I1.out.free 5
  have f6 := I1.out.free 6
  have z0 := J1.out.cell (j := 0) rfl
  have z1 := J1.out.cell (j := 1) rfl
  have z2 := J1.out.cell (j := 2) rfl
  have z3 := J1.out.cell (j := 3) rfl
  have z4 := J1.out.cell (j := 4) rfl
  have z5 := J1.out.cell (j := 5) rfl
  have z6 := J1.out.cell (j := 6) rfl
  have g0 := J1.out.free 0
  have g1 := J1.out.free 1
  have g2 := J1.out.free 2
  have g3 := J1.out.free 3
  have g4 := J1.out.free 4
  have g5 := J1.out.free 5
  have g6 := J1.out.free 6
  have J2 : Hid (Bk ((((w1.setCell ⟨w.heap.size + 1 + 1, 3, none⟩ (.string lo)).setCell ⟨w.heap.size + 1 + 1, 4, none⟩ (.string hi)).setCell ⟨w.heap.size + 1 + 1, 5, none⟩ (.int .i64 mo)).setCell ⟨w.heap.size + 1 + 1, 6, none⟩ (.bool bk)) (w.heap.size + 1) 43 [.int .i64 0, .string ⟨#[]⟩, .string ⟨#[]⟩, .string ⟨#[]⟩, .string ⟨#[]⟩, .int .i64 0, .bool false]) := ((((J1.out.setOther (by omega) _ _).setOther (by omega) _ _).setOther (by omega) _ _).setOther (by omega) _ _)
  have J3 := hid (((((((J2.out.set 0 (.int .i64 k)).set 1 (.string ky)).set 2 (.string vl)).set 3 (.string lo)).set 4 (.string hi)).set 5 (.int .i64 mo)).set 6 (.bool bk))
  have B3 := hid (Below.setCell (p := ⟨w.heap.size + 1, 6, none⟩) (Below.setCell (p := ⟨w.heap.size + 1, 5, none⟩) (Below.setCell (p := ⟨w.heap.size + 1, 4, none⟩) (Below.setCell (p := ⟨w.heap.size + 1, 3, none⟩) (Below.setCell (p := ⟨w.heap.size + 1, 2, none⟩) (Below.setCell (p := ⟨w.heap.size + 1, 1, none⟩) (Below.setCell (p := ⟨w.heap.size + 1, 0, none⟩) (Below.setCell (p := ⟨w.heap.size + 1 + 1, 6, none⟩) (Below.setCell (p := ⟨w.heap.size + 1 + 1, 5, none⟩) (Below.setCell (p := ⟨w.heap.size + 1 + 1, 4, none⟩) (Below.setCell (p := ⟨w.heap.size + 1 + 1, 3, none⟩) B1.out (by simp; omega) (.string lo)) (by simp; omega) (.string hi)) (by simp; omega) (.int .i64 mo)) (by simp; omega) (.bool bk)) (by simp) (.int .i64 k)) (by simp) (.string ky)) (by simp) (.string vl)) (by simp) (.string lo)) (by simp) (.string hi)) (by simp) (.int .i64 mo)) (by simp) (.bool bk))
  have d1 : ¬ w.heap.size + 1 = w.heap.size + 1 + 1 := by omega
  have d2 : ¬ w.heap.size + 1 + 1 = w.heap.size + 1 := by omega
  have d3 : ¬ w.heap.size = w.heap.size + 1 + 1 := by omega
  have d4 : ¬ w.heap.size = w.heap.size + 1 := by omega
  clear J1 I1 B1 J2 K1
  go_wp2
  try simp only [Exit.inBlock, Exit.then]
  refine bodyPost_ret (v := .agg #[.int .i64 k, .string ky, .string vl, .string lo, .string hi, .int .i64 mo, .bool bk]) ?_ rfl ?_
  · exact results_ask rfl _ _ _ rfl (J3.out.cell (j := 0) rfl) (J3.out.cell (j := 1) rfl) (J3.out.cell (j := 2) rfl) (J3.out.cell (j := 3) rfl) (J3.out.cell (j := 4) rfl) (J3.out.cell (j := 5) rfl) (J3.out.cell (j := 6) rfl)
  · exact ⟨rfl, B3.out⟩
set_option maxHeartbeats 1600000 in
theorem szAsk_any (k : Int) (ky vl lo hi : ByteArray) (mo : Int) (bk : Bool) (left : Int) (w : World) (h0 : 0 ≤ left) (h1 : left ≤ 1048576) (hs : ky.size ≤ 9223372036854775807 ∧ vl.size ≤ 9223372036854775807 ∧ lo.size ≤ 9223372036854775807 ∧ hi.size ≤ 9223372036854775807) :
    Calls Try.prog 18 #[.agg #[.int .i64 k, .string ky, .string vl, .string lo, .string hi, .int .i64 mo, .bool bk], .int .i64 left] w fun e w' => (∃ x : Int, e = .returned (.int .i64 x) ∧ x ≤ left ∧ -1 ≤ x) ∧ Below w.heap.size w w' := by
  obtain ⟨s1, s2, s3, s4⟩ := hs
  have B0 := hid (below_new (o := .cells #[.int .i64 k, .string ky, .string vl, .string lo, .string hi, .int .i64 mo, .bool bk] 37) (w := w) (Below.refl _ _))
  by_cases q1 : left - ky.size < 0
  · go_enter Try.func18, Try.ntmps18
    go_wp2
    go_ret
    exact ⟨⟨-1, rfl, by omega, by omega⟩, B0.out⟩
  · by_cases q2 : left - ky.size - vl.size < 0
    · go_enter Try.func18, Try.ntmps18
      go_wp2
      go_ret
      exact ⟨⟨-1, rfl, by omega, by omega⟩, B0.out⟩
    · have C1 : Hid (∀ w, Calls Try.prog 25 #[.agg #[.string lo, .string hi], .int .i64 (left - ky.size - vl.size)] w fun e w' => (∃ x : Int, e = .returned (.int .i64 x) ∧ x ≤ left - ky.size - vl.size ∧ -1 ≤ x) ∧ Below w.heap.size w w') := fun w => szRange_any lo hi _ w (by omega) (by omega) s3 s4
      go_enter Try.func18, Try.ntmps18
      go_wp2_with fail
      refine (C1.out _).mono ?_
      rintro e w1 ⟨⟨x, rfl, hx1, hx2⟩, hb⟩
      have B1 := hid (btR B0.out hb)
      clear hb B0
      by_cases hx : x < 0
      · go_wp2
        go_ret
        exact ⟨⟨-1, rfl, by omega, by omega⟩, B1.out⟩
      · go_wp2
        go_ret
        exact ⟨⟨x, rfl, by omega, by omega⟩, B1.out⟩
set_option maxHeartbeats 3200000 in
theorem eqAsk_same (k : Int) (ky vl lo hi : ByteArray) (mo : Int) (bk : Bool) (w : World) : Calls Try.prog 23 #[.agg #[.int .i64 k, .string ky, .string vl, .string lo, .string hi, .int .i64 mo, .bool bk], .agg #[.int .i64 k, .string ky, .string vl, .string lo, .string hi, .int .i64 mo, .bool bk]] w fun e w' => e = .returned (.bool true) ∧ Below w.heap.size w w' := by
  have hz0 : (k != k) = false := by simp
  have hz1 : (mo != mo) = false := by simp
  have hz2 : (bk != bk) = false := by simp
  have C1 : Hid (∀ w, Calls Try.prog 29 #[.agg #[.string lo, .string hi], .agg #[.string lo, .string hi]] w fun r w' => r = .returned (.bool true) ∧ Below w.heap.size w w') := fun w => eqRange_same lo hi w
  have B0 : Hid (Below w.heap.size w ((w.alloc (.cells #[.int .i64 k, .string ky, .string vl, .string lo, .string hi, .int .i64 mo, .bool bk] 43)).alloc (.cells #[.int .i64 k, .string ky, .string vl, .string lo, .string hi, .int .i64 mo, .bool bk] 43))) := below_new (below_new (Below.refl _ _))
  have K0 := hid ((Bk.new w 43 [.int .i64 k, .string ky, .string vl, .string lo, .string hi, .int .i64 mo, .bool bk]).alloc (.cells #[.int .i64 k, .string ky, .string vl, .string lo, .string hi, .int .i64 mo, .bool bk] 43))
  have J0 := hid (Bk.new (w.alloc (.cells #[.int .i64 k, .string ky, .string vl, .string lo, .string hi, .int .i64 mo, .bool bk] 43)) 43 [.int .i64 k, .string ky, .string vl, .string lo, .string hi, .int .i64 mo, .bool bk])
  rw [show (w.alloc (.cells #[.int .i64 k, .string ky, .string vl, .string lo, .string hi, .int .i64 mo, .bool bk] 43)).heap.size = w.heap.size + 1 by simp] at J0
  go_enter Try.func23, Try.ntmps23
  go_wp2_with fail
  refine (C1.out _).mono ?_
  generalize (w.alloc (.cells #[.int .i64 k, .string ky, .string vl, .string lo, .string hi, .int .i64 mo, .bool bk] 43)).alloc (.cells #[.int .i64 k, .string ky, .string vl, .string lo, .string hi, .int .i64 mo, .bool bk] 43) = U at *
  rintro r w1 ⟨rfl, hb⟩
  have B1 := hid (btR B0.out hb)
  have K1 := hid (K0.out.below hb)
  have J1 := hid (J0.out.below hb)
  clear hb B0 K0 J0
  have x5 := K1.out.cell (j := 5) rfl
  have x6 := K1.out.cell (j := 6) rfl
  have y5 := J1.out.cell (j := 5) rfl
  have y6 := J1.out.cell (j := 6) rfl
  go_wp2
  go_ret
  exact ⟨rfl, B1.out⟩
def alEx (k : Int) (ky vl lo hi : ByteArray) (mo : Int) (bk : Bool) : Bool := akOk k ky vl lo hi mo bk && (decide (k ≠ 4) && decide (k ≠ 1))
end Go.Proofs.Ytnbafoennnhppab

