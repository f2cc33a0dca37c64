/-
  Replies: how great the law's helper finds one; that one is the same as itself.
-/
import Derived.Test.YtnbafoennnhppabRyA
import Derived.Test.YtnbafoennnhppabAkL
namespace Go.Proofs.Ytnbafoennnhppab
open Go.RowKit
set_option linter.unusedVariables false
set_option maxHeartbeats 3200000 in
theorem szReply_any (S : Nat → Prop) (ps : List PB) (kd c e n k : Int) (ky vl lo hi : ByteArray) (mo : Int) (bk : Bool) (co : Int) (pa : Option Addr) (pn pc : Nat) (left : Int) (w : World) (h1 : Pr w S (.slice pa pn pc) ps) (s1 : szOkP ps) (h0 : 0 ≤ left) (hle : left ≤ 1048576) (hl : (ky.size ≤ 9223372036854775807 ∧ vl.size ≤ 9223372036854775807 ∧ lo.size ≤ 9223372036854775807 ∧ hi.size ≤ 9223372036854775807)) :
    Calls Try.prog 13 #[.agg #[.int .i64 kd, .int .i64 c, .int .i64 e, .int .i64 n, .int .i64 k, .string ky, .string vl, .string lo, .string hi, .int .i64 mo, .bool bk, .int .i64 co, .slice pa pn pc], .int .i64 left] w fun e w' => (∃ x : Int, e = .returned (.int .i64 x) ∧ x ≤ left ∧ -1 ≤ x ∧ (0 ≤ x → pn ≤ 1048576)) ∧ Below w.heap.size w w' := by
  have B0 := hid (below_new (o := .cells #[.int .i64 kd, .int .i64 c, .int .i64 e, .int .i64 n, .int .i64 k, .string ky, .string vl, .string lo, .string hi, .int .i64 mo, .bool bk, .int .i64 co, .slice pa pn pc] 40) (w := w) (Below.refl _ _))
  have K0 := hid (Bk.new w 40 [.int .i64 kd, .int .i64 c, .int .i64 e, .int .i64 n, .int .i64 k, .string ky, .string vl, .string lo, .string hi, .int .i64 mo, .bool bk, .int .i64 co, .slice pa pn pc])
  have H1 := hid h1
  have S1 := hid s1
  have C1 := hid (fun w => szAsk_any k ky vl lo hi mo bk left w h0 hle hl)
  have x4 := K0.out.cell (j := 4) rfl
  have x5 := K0.out.cell (j := 5) rfl
  have x6 := K0.out.cell (j := 6) rfl
  have x7 := K0.out.cell (j := 7) rfl
  have x8 := K0.out.cell (j := 8) rfl
  have x9 := K0.out.cell (j := 9) rfl
  have xa := K0.out.cell (j := 10) rfl
  clear h1 s1 hl
  go_enter Try.func13, Try.ntmps13
  go_wp2_with fail
  refine (C1.out _).mono ?_
  generalize w.alloc (.cells #[.int .i64 kd, .int .i64 c, .int .i64 e, .int .i64 n, .int .i64 k, .string ky, .string vl, .string lo, .string hi, .int .i64 mo, .bool bk, .int .i64 co, .slice pa pn pc] 40) = U at *
  rintro r w1 ⟨⟨x, rfl, hx1, hx2⟩, hb⟩
  have B1 := hid (btR B0.out hb)
  have K1 := hid (K0.out.below hb)
  clear hb B0 K0 x4 x5 x6 x7 x8 x9 xa
  have x12 := K1.out.cell (j := 12) rfl
  by_cases hneg : x < 0
  · go_wp2
    go_ret
    exact ⟨⟨_, rfl, by omega, by omega, fun h => by omega⟩, B1.out⟩
  · go_wp2_with fail
    refine (szPairS_at S pa pn pc ps x _ (H1.out.below B1.out) S1.out (by omega) (by omega)).mono ?_
    rintro r w2 ⟨⟨y, rfl, hy1, hy2, hy3⟩, hb⟩
    have B2 := hid (btR B1.out hb)
    have HY := hid hy3
    clear hb B1 K1 x12 hy3
    by_cases hneg2 : y < 0
    · go_wp2
      go_ret
      exact ⟨⟨_, rfl, by omega, by omega, fun h => by omega⟩, B2.out⟩
    · go_wp2
      go_ret
      exact ⟨⟨_, rfl, by omega, by omega, HY.out⟩, B2.out⟩
set_option maxHeartbeats 8000000 in
theorem eqReply_same (S S' : Nat → Prop) (ps : List PB) (kd c e n k : Int) (ky vl lo hi : ByteArray) (mo : Int) (bk : Bool) (co : Int) (pa : Option Addr) (pn pc : Nat) (pa' : Option Addr) (pn' pc' : Nat) (w : World) (h : Pr w S (.slice pa pn pc) ps) (h' : Pr w S' (.slice pa' pn' pc') ps) :
    Calls Try.prog 16 #[.agg #[.int .i64 kd, .int .i64 c, .int .i64 e, .int .i64 n, .int .i64 k, .string ky, .string vl, .string lo, .string hi, .int .i64 mo, .bool bk, .int .i64 co, .slice pa pn pc], .agg #[.int .i64 kd, .int .i64 c, .int .i64 e, .int .i64 n, .int .i64 k, .string ky, .string vl, .string lo, .string hi, .int .i64 mo, .bool bk, .int .i64 co, .slice pa' pn' pc']] w fun r w' => r = .returned (.bool true) ∧ Below w.heap.size w w' := by
  have C1 := hid (fun w => eqTx_same c e n w)
  have C2 := hid (fun w => eqAsk_same k ky vl lo hi mo bk w)
  have hz0 : (kd != kd) = false := by simp
  have hz4 : (co != co) = false := by simp
  have B0 : Hid (Below w.heap.size w ((w.alloc (.cells #[.int .i64 kd, .int .i64 c, .int .i64 e, .int .i64 n, .int .i64 k, .string ky, .string vl, .string lo, .string hi, .int .i64 mo, .bool bk, .int .i64 co, .slice pa pn pc] 46)).alloc (.cells #[.int .i64 kd, .int .i64 c, .int .i64 e, .int .i64 n, .int .i64 k, .string ky, .string vl, .string lo, .string hi, .int .i64 mo, .bool bk, .int .i64 co, .slice pa' pn' pc'] 46))) := below_new (below_new (Below.refl _ _))
  have K0 := hid ((Bk.new w 46 [.int .i64 kd, .int .i64 c, .int .i64 e, .int .i64 n, .int .i64 k, .string ky, .string vl, .string lo, .string hi, .int .i64 mo, .bool bk, .int .i64 co, .slice pa pn pc]).alloc (.cells #[.int .i64 kd, .int .i64 c, .int .i64 e, .int .i64 n, .int .i64 k, .string ky, .string vl, .string lo, .string hi, .int .i64 mo, .bool bk, .int .i64 co, .slice pa' pn' pc'] 46))
  have J0 := hid (Bk.new (w.alloc (.cells #[.int .i64 kd, .int .i64 c, .int .i64 e, .int .i64 n, .int .i64 k, .string ky, .string vl, .string lo, .string hi, .int .i64 mo, .bool bk, .int .i64 co, .slice pa pn pc] 46)) 46 [.int .i64 kd, .int .i64 c, .int .i64 e, .int .i64 n, .int .i64 k, .string ky, .string vl, .string lo, .string hi, .int .i64 mo, .bool bk, .int .i64 co, .slice pa' pn' pc'])
  rw [show (w.alloc (.cells #[.int .i64 kd, .int .i64 c, .int .i64 e, .int .i64 n, .int .i64 k, .string ky, .string vl, .string lo, .string hi, .int .i64 mo, .bool bk, .int .i64 co, .slice pa pn pc] 46)).heap.size = w.heap.size + 1 by simp] at J0
  have C3 : Hid (∀ v, Below w.heap.size w v → Calls Try.prog 24 #[.slice pa pn pc, .slice pa' pn' pc'] v fun e w' => e = .returned (.bool true) ∧ Below v.heap.size v w') := fun v hb => by
    have := eqPairS_at S S' pa pa' pn pn' pc pc' ps ps v (h.below hb) (h'.below hb)
    simpa using this
  clear h h'
  have x0 := K0.out.cell (j := 0) rfl
  have y0 := J0.out.cell (j := 0) rfl
  have x1 := K0.out.cell (j := 1) rfl
  have y1 := J0.out.cell (j := 1) rfl
  have x2 := K0.out.cell (j := 2) rfl
  have y2 := J0.out.cell (j := 2) rfl
  have x3 := K0.out.cell (j := 3) rfl
  have y3 := J0.out.cell (j := 3) rfl
  go_enter Try.func16, Try.ntmps16
  go_wp2_with fail
  refine (C1.out _).mono ?_
  generalize (w.alloc (.cells #[.int .i64 kd, .int .i64 c, .int .i64 e, .int .i64 n, .int .i64 k, .string ky, .string vl, .string lo, .string hi, .int .i64 mo, .bool bk, .int .i64 co, .slice pa pn pc] 46)).alloc (.cells #[.int .i64 kd, .int .i64 c, .int .i64 e, .int .i64 n, .int .i64 k, .string ky, .string vl, .string lo, .string hi, .int .i64 mo, .bool bk, .int .i64 co, .slice pa' pn' pc'] 46) = U at *
  rintro r w1 ⟨rfl, hb⟩
  have B1 := hid (btR B0.out hb)
  have K1 := hid (K0.out.below hb)
  have J1 := hid (J0.out.below hb)
  clear hb B0 K0 J0 x0 y0 x1 y1 x2 y2 x3 y3
  have x4 := K1.out.cell (j := 4) rfl
  have y4 := J1.out.cell (j := 4) rfl
  have x5 := K1.out.cell (j := 5) rfl
  have y5 := J1.out.cell (j := 5) rfl
  have x6 := K1.out.cell (j := 6) rfl
  have y6 := J1.out.cell (j := 6) rfl
  have x7 := K1.out.cell (j := 7) rfl
  have y7 := J1.out.cell (j := 7) rfl
  have x8 := K1.out.cell (j := 8) rfl
  have y8 := J1.out.cell (j := 8) rfl
  have x9 := K1.out.cell (j := 9) rfl
  have y9 := J1.out.cell (j := 9) rfl
  have x10 := K1.out.cell (j := 10) rfl
  have y10 := J1.out.cell (j := 10) rfl
  go_wp2_with fail
  refine (C2.out _).mono ?_
  rintro r w2 ⟨rfl, hb⟩
  have B2 := hid (btR B1.out hb)
  have K2 := hid (K1.out.below hb)
  have J2 := hid (J1.out.below hb)
  clear hb B1 K1 J1 x4 y4 x5 y5 x6 y6 x7 y7 x8 y8 x9 y9 x10 y10
  have x11 := K2.out.cell (j := 11) rfl
  have y11 := J2.out.cell (j := 11) rfl
  have x12 := K2.out.cell (j := 12) rfl
  have y12 := J2.out.cell (j := 12) rfl
  go_wp2_with fail
  refine (C3.out _ B2.out).mono ?_
  rintro r w3 ⟨rfl, hb⟩
  have B3 := hid (btR B2.out hb)
  have K3 := hid (K2.out.below hb)
  have J3 := hid (J2.out.below hb)
  clear hb B2 K2 J2 x11 y11 x12 y12
  go_wp2
  go_ret
  exact ⟨rfl, B3.out⟩
end Go.Proofs.Ytnbafoennnhppab

