/-
  Calls: when one is right, on both sides; the law's helpers; the law FnExactCallOk.
-/
import Derived.Test.YtcpdedpgjaimkaaAkL
namespace Go.Proofs.Ytcpdedpgjaimkaa
open Go.RowKit
set_option linter.unusedVariables false
def clOk (kd k : Int) (ky vl lo hi : ByteArray) (mo : Int) (bk : Bool) : Bool := if kd = 2 then akOk k ky vl lo hi mo bk else if kd = 1 ∨ kd = 3 ∨ kd = 4 then akZ k ky vl lo hi mo bk else false
theorem clOk_2 (k : Int) (ky vl lo hi : ByteArray) (mo : Int) (bk : Bool) : clOk 2 k ky vl lo hi mo bk = akOk k ky vl lo hi mo bk := rfl
theorem clOk_1 (k : Int) (ky vl lo hi : ByteArray) (mo : Int) (bk : Bool) : clOk 1 k ky vl lo hi mo bk = akZ k ky vl lo hi mo bk := rfl
theorem clOk_3 (k : Int) (ky vl lo hi : ByteArray) (mo : Int) (bk : Bool) : clOk 3 k ky vl lo hi mo bk = akZ k ky vl lo hi mo bk := rfl
theorem clOk_4 (k : Int) (ky vl lo hi : ByteArray) (mo : Int) (bk : Bool) : clOk 4 k ky vl lo hi mo bk = akZ k ky vl lo hi mo bk := rfl
theorem clOk_in {kd : Int} (h2 : ¬ kd = 2) (h1 : 1 ≤ kd) (h4 : kd ≤ 4) (k : Int) (ky vl lo hi : ByteArray) (mo : Int) (bk : Bool) : clOk kd k ky vl lo hi mo bk = akZ k ky vl lo hi mo bk := by
  unfold clOk
  rw [if_neg h2, if_pos (by omega)]
theorem clOk_no {kd : Int} (h1 : ¬ kd = 1) (h2 : ¬ kd = 2) (h3 : ¬ kd = 3) (h4 : ¬ kd = 4) (k : Int) (ky vl lo hi : ByteArray) (mo : Int) (bk : Bool) : clOk kd k ky vl lo hi mo bk = false := by
  unfold clOk
  rw [if_neg h2, if_neg (by omega)]
set_option maxHeartbeats 3200000 in
theorem implCallOk_any (kd : Int) (k : Int) (ky vl lo hi : ByteArray) (mo : Int) (bk : Bool) (w : World) : Calls Try.prog 26 #[.agg #[.int .i64 kd, .int .i64 k, .string ky, .string vl, .string lo, .string hi, .int .i64 mo, .bool bk]] w fun r w' => r = .returned (.bool (clOk kd k ky vl lo hi mo bk)) ∧ Below w.heap.size w w' := by
  have B0 := hid (below_new (o := .cells #[.int .i64 kd, .int .i64 k, .string ky, .string vl, .string lo, .string hi, .int .i64 mo, .bool bk] 66) (w := w) (Below.refl _ _))
  by_cases h2 : kd = 2
  · subst h2
    have C1 := hid (fun w => implAskOk_any k ky vl lo hi mo bk w)
    have HV := hid (clOk_2 k ky vl lo hi mo bk)
    generalize clOk 2 k ky vl lo hi mo bk = z0 at *
    generalize akOk k ky vl lo hi mo bk = z1 at *
    go_enter Try.func26, Try.ntmps26
    go_wp2_with fail
    refine (C1.out _).mono ?_
    rintro r w1 ⟨rfl, hb⟩
    have B1 := hid (btR B0.out hb)
    clear hb B0
    go_wp2
    go_ret
    exact ⟨by rw [HV.out]; rfl, B1.out⟩
  · by_cases h1 : kd = 1
    · subst h1
      have hq := eql_askZ k ky vl lo hi mo bk
      have hg := guard_ask .eql
      have HV := hid (clOk_1 k ky vl lo hi mo bk)
      generalize clOk 1 k ky vl lo hi mo bk = z0 at *
      generalize akZ k ky vl lo hi mo bk = z1 at *
      go_enter Try.func26, Try.ntmps26
      go_wp2
      go_ret
      exact ⟨by rw [HV.out]; rfl, B0.out⟩
    · by_cases h3 : kd = 3
      · subst h3
        have hq := eql_askZ k ky vl lo hi mo bk
        have hg := guard_ask .eql
        have HV := hid (clOk_3 k ky vl lo hi mo bk)
        generalize clOk 3 k ky vl lo hi mo bk = z0 at *
        generalize akZ k ky vl lo hi mo bk = z1 at *
        go_enter Try.func26, Try.ntmps26
        go_wp2
        go_ret
        exact ⟨by rw [HV.out]; rfl, B0.out⟩
      · by_cases h4 : kd = 4
        · subst h4
          have hq := eql_askZ k ky vl lo hi mo bk
          have hg := guard_ask .eql
          have HV := hid (clOk_4 k ky vl lo hi mo bk)
          generalize clOk 4 k ky vl lo hi mo bk = z0 at *
          generalize akZ k ky vl lo hi mo bk = z1 at *
          go_enter Try.func26, Try.ntmps26
          go_wp2
          go_ret
          exact ⟨by rw [HV.out]; rfl, B0.out⟩
        · have HV := hid (clOk_no h1 h2 h3 h4 k ky vl lo hi mo bk)
          generalize clOk kd k ky vl lo hi mo bk = z0 at *
          go_enter Try.func26, Try.ntmps26
          go_wp2
          go_ret
          exact ⟨by rw [HV.out]; rfl, B0.out⟩
set_option maxHeartbeats 3200000 in
theorem specCallOk_any (kd : Int) (k : Int) (ky vl lo hi : ByteArray) (mo : Int) (bk : Bool) (w : World) : Calls Try.prog 24 #[.agg #[.int .i64 kd, .int .i64 k, .string ky, .string vl, .string lo, .string hi, .int .i64 mo, .bool bk]] w fun r w' => r = .returned (.bool (clOk kd k ky vl lo hi mo bk)) ∧ Below w.heap.size w w' := by
  have B0 : Hid (Below w.heap.size w ((w.alloc (.cells #[.int .i64 kd, .int .i64 k, .string ky, .string vl, .string lo, .string hi, .int .i64 mo, .bool bk] 66)).alloc (.cells #[.int .i64 0, .string ⟨#[]⟩, .string ⟨#[]⟩, .string ⟨#[]⟩, .string ⟨#[]⟩, .int .i64 0, .bool false] 64))) := below_new (below_new (Below.refl _ _))
  by_cases h2 : kd = 2
  · subst h2
    have C1 := hid (fun w => specAskOk_any k ky vl lo hi mo bk w)
    have HV := hid (clOk_2 k ky vl lo hi mo bk)
    generalize clOk 2 k ky vl lo hi mo bk = z0 at *
    generalize akOk k ky vl lo hi mo bk = z1 at *
    go_enter Try.func24, Try.ntmps24
    go_wp2_with fail
    refine (C1.out _).mono ?_
    rintro r w1 ⟨rfl, hb⟩
    have B1 := hid (btR B0.out hb)
    clear hb B0
    go_wp2
    go_ret
    exact ⟨by rw [HV.out]; rfl, B1.out⟩
  · by_cases h1 : 1 ≤ kd
    · by_cases h4 : kd ≤ 4
      · have HV := hid (clOk_in h2 h1 h4 k ky vl lo hi mo bk)
        have hq := eql_askZ k ky vl lo hi mo bk
        have hg := guard_ask .eql
        generalize clOk kd k ky vl lo hi mo bk = z0 at *
        generalize akZ k ky vl lo hi mo bk = z1 at *
        go_enter Try.func24, Try.ntmps24
        go_wp2
        go_ret
        exact ⟨by rw [HV.out]; rfl, B0.out⟩
      · have HV := hid (clOk_no (kd := kd) (by omega) h2 (by omega) (by omega) k ky vl lo hi mo bk)
        generalize clOk kd k ky vl lo hi mo bk = z0 at *
        go_enter Try.func24, Try.ntmps24
        go_wp2
        go_ret
        exact ⟨by rw [HV.out]; rfl, B0.out⟩
    · have HV := hid (clOk_no (kd := kd) (by omega) h2 (by omega) (by omega) k ky vl lo hi mo bk)
      generalize clOk kd k ky vl lo hi mo bk = z0 at *
      go_enter Try.func24, Try.ntmps24
      go_wp2
      go_ret
      exact ⟨by rw [HV.out]; rfl, B0.out⟩
theorem load_call {w : World} {g : Nat} {kd k : Int} {ky vl lo hi : ByteArray} {mo : Int} {bk : Bool} (c0 : w.cell? ⟨g, 0, none⟩ = some (.int .i64 kd)) (c1 : w.cell? ⟨g, 1, none⟩ = some (.int .i64 k)) (c2 : w.cell? ⟨g, 2, none⟩ = some (.string ky)) (c3 : w.cell? ⟨g, 3, none⟩ = some (.string vl)) (c4 : w.cell? ⟨g, 4, none⟩ = some (.string lo)) (c5 : w.cell? ⟨g, 5, none⟩ = some (.string hi)) (c6 : w.cell? ⟨g, 6, none⟩ = some (.int .i64 mo)) (c7 : w.cell? ⟨g, 7, none⟩ = some (.bool bk)) :
    (loadVar 66 ⟨g, 0, none⟩).run Try.prog w = .ok (.agg #[.int .i64 kd, .int .i64 k, .string ky, .string vl, .string lo, .string hi, .int .i64 mo, .bool bk]) w := by go_simp
theorem results_call {fn : Func} {p : Tmp} (h : fn.results = #[.cell p 66]) (tmps : Array Value) (w : World) (g : Nat) {kd k : Int} {ky vl lo hi : ByteArray} {mo : Int} {bk : Bool} (hp : tmps.getD p undef = .pointer (some ⟨g, 0, none⟩)) (c0 : w.cell? ⟨g, 0, none⟩ = some (.int .i64 kd)) (c1 : w.cell? ⟨g, 1, none⟩ = some (.int .i64 k)) (c2 : w.cell? ⟨g, 2, none⟩ = some (.string ky)) (c3 : w.cell? ⟨g, 3, none⟩ = some (.string vl)) (c4 : w.cell? ⟨g, 4, none⟩ = some (.string lo)) (c5 : w.cell? ⟨g, 5, none⟩ = some (.string hi)) (c6 : w.cell? ⟨g, 6, none⟩ = some (.int .i64 mo)) (c7 : w.cell? ⟨g, 7, none⟩ = some (.bool bk)) :
    (results fn tmps).run Try.prog w = .ok (.agg #[.int .i64 kd, .int .i64 k, .string ky, .string vl, .string lo, .string hi, .int .i64 mo, .bool bk]) w := by
  have hp' : tmps[p]?.getD undef = .pointer (some ⟨g, 0, none⟩) := by simpa using hp
  simp [results, h, hp', asAddr, load_call c0 c1 c2 c3 c4 c5 c6 c7]
set_option maxHeartbeats 3200000 in
theorem toCall_any (kd : Int) (k : Int) (ky vl lo hi : ByteArray) (mo : Int) (bk : Bool) (w : World) : Calls Try.prog 25 #[.agg #[.int .i64 kd, .int .i64 k, .string ky, .string vl, .string lo, .string hi, .int .i64 mo, .bool bk]] w fun r w' => r = .returned (.agg #[.int .i64 kd, .int .i64 k, .string ky, .string vl, .string lo, .string hi, .int .i64 mo, .bool bk]) ∧ Below w.heap.size w w' := by
  have C1 := hid (fun w => toAsk_any k ky vl lo hi mo bk w)
  have B0 : Hid (Below w.heap.size w (((w.alloc (.cells #[.int .i64 kd, .int .i64 k, .string ky, .string vl, .string lo, .string hi, .int .i64 mo, .bool bk] 60)).alloc (.cells #[.int .i64 0, .int .i64 0, .string ⟨#[]⟩, .string ⟨#[]⟩, .string ⟨#[]⟩, .string ⟨#[]⟩, .int .i64 0, .bool false] 66)).alloc (.cells #[.int .i64 kd, .int .i64 0, .string ⟨#[]⟩, .string ⟨#[]⟩, .string ⟨#[]⟩, .string ⟨#[]⟩, .int .i64 0, .bool false] 66))) := below_new (below_new (below_new (Below.refl _ _)))
  have J0 := hid ((Bk.new (w.alloc (.cells #[.int .i64 kd, .int .i64 k, .string ky, .string vl, .string lo, .string hi, .int .i64 mo, .bool bk] 60)) 66 [.int .i64 0, .int .i64 0, .string ⟨#[]⟩, .string ⟨#[]⟩, .string ⟨#[]⟩, .string ⟨#[]⟩, .int .i64 0, .bool false]).alloc (.cells #[.int .i64 kd, .int .i64 0, .string ⟨#[]⟩, .string ⟨#[]⟩, .string ⟨#[]⟩, .string ⟨#[]⟩, .int .i64 0, .bool false] 66))
  have I0 := hid (Bk.new ((w.alloc (.cells #[.int .i64 kd, .int .i64 k, .string ky, .string vl, .string lo, .string hi, .int .i64 mo, .bool bk] 60)).alloc (.cells #[.int .i64 0, .int .i64 0, .string ⟨#[]⟩, .string ⟨#[]⟩, .string ⟨#[]⟩, .string ⟨#[]⟩, .int .i64 0, .bool false] 66)) 66 [.int .i64 kd, .int .i64 0, .string ⟨#[]⟩, .string ⟨#[]⟩, .string ⟨#[]⟩, .string ⟨#[]⟩, .int .i64 0, .bool false])
  rw [show (w.alloc (.cells #[.int .i64 kd, .int .i64 k, .string ky, .string vl, .string lo, .string hi, .int .i64 mo, .bool bk] 60)).heap.size = w.heap.size + 1 by simp] at J0
  rw [show ((w.alloc (.cells #[.int .i64 kd, .int .i64 k, .string ky, .string vl, .string lo, .string hi, .int .i64 mo, .bool bk] 60)).alloc (.cells #[.int .i64 0, .int .i64 0, .string ⟨#[]⟩, .string ⟨#[]⟩, .string ⟨#[]⟩, .string ⟨#[]⟩, .int .i64 0, .bool false] 66)).heap.size = w.heap.size + 1 + 1 by simp] at I0
  go_enter Try.func25, Try.ntmps25
  go_wp2_with fail
  refine (C1.out _).mono ?_
  generalize ((w.alloc (.cells #[.int .i64 kd, .int .i64 k, .string ky, .string vl, .string lo, .string hi, .int .i64 mo, .bool bk] 60)).alloc (.cells #[.int .i64 0, .int .i64 0, .string ⟨#[]⟩, .string ⟨#[]⟩, .string ⟨#[]⟩, .string ⟨#[]⟩, .int .i64 0, .bool false] 66)).alloc (.cells #[.int .i64 kd, .int .i64 0, .string ⟨#[]⟩, .string ⟨#[]⟩, .string ⟨#[]⟩, .string ⟨#[]⟩, .int .i64 0, .bool false] 66) = U at *
  rintro r w1 ⟨rfl, hb⟩
  have J1 := hid (J0.out.below hb)
  have I1 := hid (I0.out.below hb)
  have B1 := hid (btR B0.out hb)
  clear J0 I0 B0 hb
  have y0 := I1.out.cell (j := 0) rfl
  have y1 := I1.out.cell (j := 1) rfl
  have y2 := I1.out.cell (j := 2) rfl
  have y3 := I1.out.cell (j := 3) rfl
  have y4 := I1.out.cell (j := 4) rfl
  have y5 := I1.out.cell (j := 5) rfl
  have y6 := I1.out.cell (j := 6) rfl
  have y7 := I1.out.cell (j := 7) rfl
  have f1 := I1.out.free 1
  have f2 := I1.out.free 2
  have f3 := I1.out.free 3
  have f4 := I1.out.free 4
  have f5 := I1.out.free 5
  have f6 := I1.out.free 6
  have f7 := I1.out.free 7
  have z0 := J1.out.cell (j := 0) rfl
  have z1 := J1.out.cell (j := 1) rfl
  have z2 := J1.out.cell (j := 2) rfl
  have z3 := J1.out.cell (j := 3) rfl
  have z4 := J1.out.cell (j := 4) rfl
  have z5 := J1.out.cell (j := 5) rfl
  have z6 := J1.out.cell (j := 6) rfl
  have z7 := J1.out.cell (j := 7) rfl
  have g0 := J1.out.free 0
  have g1 := J1.out.free 1
  have g2 := J1.out.free 2
  have g3 := J1.out.free 3
  have g4 := J1.out.free 4
  have g5 := J1.out.free 5
  have g6 := J1.out.free 6
  have g7 := J1.out.free 7
  have J2 : Hid (Bk (((((((w1.setCell ⟨w.heap.size + 1 + 1, 1, none⟩ (.int .i64 k)).setCell ⟨w.heap.size + 1 + 1, 2, none⟩ (.string ky)).setCell ⟨w.heap.size + 1 + 1, 3, none⟩ (.string vl)).setCell ⟨w.heap.size + 1 + 1, 4, none⟩ (.string lo)).setCell ⟨w.heap.size + 1 + 1, 5, none⟩ (.string hi)).setCell ⟨w.heap.size + 1 + 1, 6, none⟩ (.int .i64 mo)).setCell ⟨w.heap.size + 1 + 1, 7, none⟩ (.bool bk)) (w.heap.size + 1) 66 [.int .i64 0, .int .i64 0, .string ⟨#[]⟩, .string ⟨#[]⟩, .string ⟨#[]⟩, .string ⟨#[]⟩, .int .i64 0, .bool false]) := (((((((J1.out.setOther (by omega) _ _).setOther (by omega) _ _).setOther (by omega) _ _).setOther (by omega) _ _).setOther (by omega) _ _).setOther (by omega) _ _).setOther (by omega) _ _)
  have J3 := hid ((((((((J2.out.set 0 (.int .i64 kd)).set 1 (.int .i64 k)).set 2 (.string ky)).set 3 (.string vl)).set 4 (.string lo)).set 5 (.string hi)).set 6 (.int .i64 mo)).set 7 (.bool bk))
  have B3 := hid (Below.setCell (p := ⟨w.heap.size + 1, 7, none⟩) (Below.setCell (p := ⟨w.heap.size + 1, 6, none⟩) (Below.setCell (p := ⟨w.heap.size + 1, 5, none⟩) (Below.setCell (p := ⟨w.heap.size + 1, 4, none⟩) (Below.setCell (p := ⟨w.heap.size + 1, 3, none⟩) (Below.setCell (p := ⟨w.heap.size + 1, 2, none⟩) (Below.setCell (p := ⟨w.heap.size + 1, 1, none⟩) (Below.setCell (p := ⟨w.heap.size + 1, 0, none⟩) (Below.setCell (p := ⟨w.heap.size + 1 + 1, 7, none⟩) (Below.setCell (p := ⟨w.heap.size + 1 + 1, 6, none⟩) (Below.setCell (p := ⟨w.heap.size + 1 + 1, 5, none⟩) (Below.setCell (p := ⟨w.heap.size + 1 + 1, 4, none⟩) (Below.setCell (p := ⟨w.heap.size + 1 + 1, 3, none⟩) (Below.setCell (p := ⟨w.heap.size + 1 + 1, 2, none⟩) (Below.setCell (p := ⟨w.heap.size + 1 + 1, 1, none⟩) B1.out (by simp; omega) (.int .i64 k)) (by simp; omega) (.string ky)) (by simp; omega) (.string vl)) (by simp; omega) (.string lo)) (by simp; omega) (.string hi)) (by simp; omega) (.int .i64 mo)) (by simp; omega) (.bool bk)) (by simp) (.int .i64 kd)) (by simp) (.int .i64 k)) (by simp) (.string ky)) (by simp) (.string vl)) (by simp) (.string lo)) (by simp) (.string hi)) (by simp) (.int .i64 mo)) (by simp) (.bool bk))
  have d1 : ¬ w.heap.size + 1 = w.heap.size + 1 + 1 := by omega
  have d2 : ¬ w.heap.size + 1 + 1 = w.heap.size + 1 := by omega
  have d3 : ¬ w.heap.size = w.heap.size + 1 + 1 := by omega
  have d4 : ¬ w.heap.size = w.heap.size + 1 := by omega
  clear J1 I1 B1 J2
  go_wp2
  try simp only [Exit.inBlock, Exit.then]
  refine bodyPost_ret (v := .agg #[.int .i64 kd, .int .i64 k, .string ky, .string vl, .string lo, .string hi, .int .i64 mo, .bool bk]) ?_ rfl ?_
  · exact results_call rfl _ _ _ rfl (J3.out.cell (j := 0) rfl) (J3.out.cell (j := 1) rfl) (J3.out.cell (j := 2) rfl) (J3.out.cell (j := 3) rfl) (J3.out.cell (j := 4) rfl) (J3.out.cell (j := 5) rfl) (J3.out.cell (j := 6) rfl) (J3.out.cell (j := 7) rfl)
  · exact ⟨rfl, B3.out⟩
set_option maxHeartbeats 1600000 in
theorem szCall_any (kd : Int) (k : Int) (ky vl lo hi : ByteArray) (mo : Int) (bk : Bool) (left : Int) (w : World) (h0 : 0 ≤ left) (h1 : left ≤ 1048576) (hs : ky.size ≤ 9223372036854775807 ∧ vl.size ≤ 9223372036854775807 ∧ lo.size ≤ 9223372036854775807 ∧ hi.size ≤ 9223372036854775807) :
    Calls Try.prog 23 #[.agg #[.int .i64 kd, .int .i64 k, .string ky, .string vl, .string lo, .string hi, .int .i64 mo, .bool bk], .int .i64 left] w fun e w' => (∃ x : Int, e = .returned (.int .i64 x) ∧ x ≤ left ∧ -1 ≤ x) ∧ Below w.heap.size w w' := by
  have B0 := hid (below_new (o := .cells #[.int .i64 kd, .int .i64 k, .string ky, .string vl, .string lo, .string hi, .int .i64 mo, .bool bk] 60) (w := w) (Below.refl _ _))
  have C1 := hid (fun w => szAsk_any k ky vl lo hi mo bk left w h0 h1 hs)
  clear hs
  go_enter Try.func23, Try.ntmps23
  go_wp2_with fail
  refine (C1.out _).mono ?_
  rintro e w1 ⟨⟨x, rfl, hx1, hx2⟩, hb⟩
  have B1 := hid (btR B0.out hb)
  clear hb B0
  by_cases hx : x < 0
  · go_wp2
    go_ret
    exact ⟨⟨-1, rfl, by omega, by omega⟩, B1.out⟩
  · go_wp2
    go_ret
    exact ⟨⟨x, rfl, by omega, by omega⟩, B1.out⟩
set_option maxHeartbeats 4000000 in
theorem lawCallOk_walk (kd : Int) (k : Int) (ky vl lo hi : ByteArray) (mo : Int) (bk : Bool) (w : World) (hl : ky.size ≤ maxLen ∧ vl.size ≤ maxLen ∧ lo.size ≤ maxLen ∧ hi.size ≤ maxLen) : Calls Try.prog 5 #[.agg #[.int .i64 kd, .int .i64 k, .string ky, .string vl, .string lo, .string hi, .int .i64 mo, .bool bk]] w fun e w' => e = .returned (.bool true) ∧ Below w.heap.size w w' := by
  unfold maxLen at hl
  have C1 := hid (fun w => specCallOk_any kd k ky vl lo hi mo bk w)
  have C2 := hid (fun w => implCallOk_any kd k ky vl lo hi mo bk w)
  generalize clOk kd k ky vl lo hi mo bk = z at *
  have hz : (z != z) = false := by simp
  have B0 := hid (below_new (o := .cells #[.int .i64 kd, .int .i64 k, .string ky, .string vl, .string lo, .string hi, .int .i64 mo, .bool bk] 60) (w := w) (Below.refl _ _))
  have K0 := hid (Bk.new w 60 [.int .i64 kd, .int .i64 k, .string ky, .string vl, .string lo, .string hi, .int .i64 mo, .bool bk])
  have T1 := hid (fun w => toCall_any kd k ky vl lo hi mo bk w)
  go_enter Try.func5, Try.ntmps5
  go_wp2_with fail
  refine (szCall_any kd k ky vl lo hi mo bk 1048576 _ (by omega) (by omega) hl).mono ?_
  generalize w.alloc (.cells #[.int .i64 kd, .int .i64 k, .string ky, .string vl, .string lo, .string hi, .int .i64 mo, .bool bk] 60) = U at *
  rintro e w1 ⟨⟨x, rfl, hx1, hx2⟩, hb⟩
  have B1 := hid (btR B0.out hb)
  have K1 := hid (K0.out.below hb)
  clear hb B0 K0 hl
  by_cases hx : x < 0
  · go_wp2
    go_ret
    exact ⟨rfl, B1.out⟩
  · have x0 := K1.out.cell (j := 0) rfl
    have x1 := K1.out.cell (j := 1) rfl
    have x2 := K1.out.cell (j := 2) rfl
    have x3 := K1.out.cell (j := 3) rfl
    have x4 := K1.out.cell (j := 4) rfl
    have x5 := K1.out.cell (j := 5) rfl
    have x6 := K1.out.cell (j := 6) rfl
    have x7 := K1.out.cell (j := 7) rfl
    go_wp2_with fail
    refine (T1.out _).mono ?_
    rintro e w2 ⟨rfl, hb⟩
    have B2 := hid (btR B1.out hb)
    have K2 := hid (K1.out.below hb)
    clear hb B1 K1 x0 x1 x2 x3 x4 x5 x6 x7
    have x0 := K2.out.cell (j := 0) rfl
    have x1 := K2.out.cell (j := 1) rfl
    have x2 := K2.out.cell (j := 2) rfl
    have x3 := K2.out.cell (j := 3) rfl
    have x4 := K2.out.cell (j := 4) rfl
    have x5 := K2.out.cell (j := 5) rfl
    have x6 := K2.out.cell (j := 6) rfl
    have x7 := K2.out.cell (j := 7) rfl
    go_wp2_with fail
    refine (C1.out _).mono ?_
    rintro e w3 ⟨rfl, hb⟩
    have B3 := hid (btR B2.out hb)
    have K3 := hid (K2.out.below hb)
    clear hb B2 K2 x0 x1 x2 x3 x4 x5 x6 x7
    have x0 := K3.out.cell (j := 0) rfl
    have x1 := K3.out.cell (j := 1) rfl
    have x2 := K3.out.cell (j := 2) rfl
    have x3 := K3.out.cell (j := 3) rfl
    have x4 := K3.out.cell (j := 4) rfl
    have x5 := K3.out.cell (j := 5) rfl
    have x6 := K3.out.cell (j := 6) rfl
    have x7 := K3.out.cell (j := 7) rfl
    go_wp2_with fail
    refine (T1.out _).mono ?_
    rintro e w4 ⟨rfl, hb⟩
    have B4 := hid (btR B3.out hb)
    have K4 := hid (K3.out.below hb)
    clear hb B3 K3 x0 x1 x2 x3 x4 x5 x6 x7
    have x0 := K4.out.cell (j := 0) rfl
    have x1 := K4.out.cell (j := 1) rfl
    have x2 := K4.out.cell (j := 2) rfl
    have x3 := K4.out.cell (j := 3) rfl
    have x4 := K4.out.cell (j := 4) rfl
    have x5 := K4.out.cell (j := 5) rfl
    have x6 := K4.out.cell (j := 6) rfl
    have x7 := K4.out.cell (j := 7) rfl
    go_wp2_with fail
    refine (C2.out _).mono ?_
    rintro e w5 ⟨rfl, hb⟩
    have B5 := hid (btR B4.out hb)
    have K5 := hid (K4.out.below hb)
    clear hb B4 K4 x0 x1 x2 x3 x4 x5 x6 x7
    have x0 := K5.out.cell (j := 0) rfl
    have x1 := K5.out.cell (j := 1) rfl
    have x2 := K5.out.cell (j := 2) rfl
    have x3 := K5.out.cell (j := 3) rfl
    have x4 := K5.out.cell (j := 4) rfl
    have x5 := K5.out.cell (j := 5) rfl
    have x6 := K5.out.cell (j := 6) rfl
    have x7 := K5.out.cell (j := 7) rfl
    go_wp2
    go_ret
    exact ⟨rfl, B5.out⟩
end Go.Proofs.Ytcpdedpgjaimkaa

