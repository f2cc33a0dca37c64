/-
  Marks in messages: nothing but the row of pairs turns.
-/
import Derived.Test.YtbonkheoeohaiaaDoorMb5
import Derived.Test.YtbonkheoeohaiaaDoorMb1
import Derived.Test.YtbonkheoeohaiaaDoorMb7
import Derived.Test.YtbonkheoeohaiaaDoorMb8
import Derived.Test.YtbonkheoeohaiaaDoorMb9
import Derived.Test.YtbonkheoeohaiaaDoorMb10
import Derived.Test.YtbonkheoeohaiaaDoorMb11
import Derived.Test.YtbonkheoeohaiaaDoorMb12
import Derived.Test.YtbonkheoeohaiaaDoorMb13
import Derived.Test.YtbonkheoeohaiaaDoorMb14
namespace Go.Proofs.YtbonkheoeohaiaaDoor
open Go.RowKit
set_option linter.unusedVariables false
theorem oq_uf {w : World} {base : Nat} {e : TypeId} {size : Nat} {v : Value} {n : Nat} {xs : List Value} (h : w.ownsRow base e size v n xs) {k : Nat} (hk : v.ownBlock = some k) : Uf w k := by
  rcases h.2 with ⟨rfl, _⟩ | ⟨g, cap, cur, rfl, h3, h4, h5, h6, h7, h8⟩
  · cases hk
  · cases hk
    exact ⟨_, _, h4⟩
theorem pcs_strM (ps : List PB) : ∀ u ∈ pcs ps, isStr u := by
  induction ps with
  | nil => intro u hu; cases hu
  | cons p ps ih =>
    intro u hu
    simp only [pcs, List.mem_cons] at hu
    rcases hu with rfl | rfl | hu
    · exact ⟨_, rfl⟩
    · exact ⟨_, rfl⟩
    · exact ih u hu
theorem oqW.kw {w : World} {B : Nat} {v : Value} {l : List PB} (h : oqW w B v l) : Kw w (fun b => v.ownBlock = some b) v l.length (l.length * 2) isStr := by
  have := kw_of (S' := fun b => v.ownBlock = some b) (K := isStr) (rw_own h (S := fun b => v.ownBlock = some b ∧ Uf w b) (fun k hk hb _ => ⟨hk, oq_uf h hk⟩)) (fun u hu => pcs_strM _ u hu) (fun b hb _ => hb)
  rwa [pcs_length] at this
set_option maxHeartbeats 1600000 in
theorem markMsg_any (B : Nat) (ps : List PB) (kd c e n sh nu st k : Int) (ky vl lo hi : ByteArray) (mo : Int) (bk : Bool) (cd : Int) (pa : Option Addr) (pn pc : Nat) (ys : Bool) (q : Nat) (w : World) (h : oqW w B (.slice pa pn pc) ps) (hn : pn ≤ 1048576) (hk0 : 0 < q) (hk : q ≤ 576460752303423488) :
    Calls Tryd.prog 15 #[.agg #[.int .i64 kd, .int .i64 c, .int .i64 e, .int .i64 n, .int .i64 sh, .int .i64 nu, .int .i64 st, .int .i64 k, .string ky, .string vl, .string lo, .string hi, .int .i64 mo, .bool bk, .int .i64 cd, .slice pa pn pc, .bool ys], .int .i64 q] w fun r w' => r = .returned (.int .i64 ((q + pn * 2 : Nat) : Int)) ∧ Marked (fun b => (Value.slice pa pn pc).ownBlock = some b) (w.alloc (.cells #[.int .i64 kd, .int .i64 c, .int .i64 e, .int .i64 n, .int .i64 sh, .int .i64 nu, .int .i64 st, .int .i64 k, .string ky, .string vl, .string lo, .string hi, .int .i64 mo, .bool bk, .int .i64 cd, .slice pa pn pc, .bool ys] 31)) pa pn (pn * 2) (mV q) isStr w' := by
  have HN := hid (Rw.len h.r).1
  have HK : Hid (Kw (w.alloc (.cells #[.int .i64 kd, .int .i64 c, .int .i64 e, .int .i64 n, .int .i64 sh, .int .i64 nu, .int .i64 st, .int .i64 k, .string ky, .string vl, .string lo, .string hi, .int .i64 mo, .bool bk, .int .i64 cd, .slice pa pn pc, .bool ys] 31)) (fun b => (Value.slice pa pn pc).ownBlock = some b) (.slice pa pn pc) pn (pn * 2) isStr) := by
    have := (h.below (below_new (o := .cells #[.int .i64 kd, .int .i64 c, .int .i64 e, .int .i64 n, .int .i64 sh, .int .i64 nu, .int .i64 st, .int .i64 k, .string ky, .string vl, .string lo, .string hi, .int .i64 mo, .bool bk, .int .i64 cd, .slice pa pn pc, .bool ys] 31) (w := w) (Below.refl _ _))).kw
    rw [← HN.out] at this
    exact this
  clear h HN
  generalize (fun b => (Value.slice pa pn pc).ownBlock = some b) = S at *
  have C1 := hid (fun v (h : Kw v S (.slice pa pn pc) pn (pn * 2) isStr) => markPairS_any S pa pn pc q v h hn hk0 hk)
  go_enter Tryd.func15, Tryd.ntmps15
  go_wp2_with fail
  refine (C1.out _ HK.out).mono ?_
  rintro r w1 ⟨rfl, hm⟩
  have HM := hid hm
  clear hm
  go_wp2
  go_ret
  exact ⟨rfl, HM.out⟩
end Go.Proofs.YtbonkheoeohaiaaDoor
/-
  MsgOk of the specification.
-/
namespace Go.Proofs.YtbonkheoeohaiaaDoor
open Go.RowKit
set_option linter.unusedVariables false
theorem specMsgOk_any (S : Nat → Prop) (ps : List PB) (kd c e n sh nu st k : Int) (ky vl lo hi : ByteArray) (mo : Int) (bk : Bool) (cd : Int) (pa : Option Addr) (pn pc : Nat) (ys : Bool) (w : World) (h : Pr w S (.slice pa pn pc) ps) : Calls Tryd.prog 8 #[.agg #[.int .i64 kd, .int .i64 c, .int .i64 e, .int .i64 n, .int .i64 sh, .int .i64 nu, .int .i64 st, .int .i64 k, .string ky, .string vl, .string lo, .string hi, .int .i64 mo, .bool bk, .int .i64 cd, .slice pa pn pc, .bool ys]] w fun r w' => r = .returned (.bool (mgOk kd c e n sh nu st (akOk k ky vl lo hi mo bk) (akZ k ky vl lo hi mo bk) cd ps ys)) ∧ Below w.heap.size w w' := by
  by_cases hk : 1 ≤ kd ∧ kd ≤ 7
  · have h7 : kd = 1 ∨ kd = 2 ∨ kd = 3 ∨ kd = 4 ∨ kd = 5 ∨ kd = 6 ∨ kd = 7 := by omega
    rcases h7 with rfl | rfl | rfl | rfl | rfl | rfl | rfl
    · exact specMsgOk_1 S ps c e n sh nu st k ky vl lo hi mo bk cd pa pn pc ys w h
    · exact specMsgOk_2 S ps c e n sh nu st k ky vl lo hi mo bk cd pa pn pc ys w h
    · exact specMsgOk_3 S ps c e n sh nu st k ky vl lo hi mo bk cd pa pn pc ys w h
    · exact specMsgOk_4 S ps c e n sh nu st k ky vl lo hi mo bk cd pa pn pc ys w h
    · exact specMsgOk_5 S ps c e n sh nu st k ky vl lo hi mo bk cd pa pn pc ys w h
    · exact specMsgOk_6 S ps c e n sh nu st k ky vl lo hi mo bk cd pa pn pc ys w h
    · exact specMsgOk_7 S ps c e n sh nu st k ky vl lo hi mo bk cd pa pn pc ys w h
  · exact specMsgOk_0 S ps kd c e n sh nu st k ky vl lo hi mo bk cd pa pn pc ys w h hk
end Go.Proofs.YtbonkheoeohaiaaDoor
/-
  szMsg, eqMsg.
-/
namespace Go.Proofs.YtbonkheoeohaiaaDoor
open Go.RowKit
set_option linter.unusedVariables false

set_option maxHeartbeats 3200000 in
theorem szMsg_any (S : Nat → Prop) (ps : List PB) (kd c e n sh nu st k : Int) (ky vl lo hi : ByteArray) (mo : Int) (bk : Bool) (cd : Int) (pa : Option Addr) (pn pc : Nat) (ys : Bool) (w : World) (h1 : Pr w S (.slice pa pn pc) ps) (s1 : szOkP ps) (hl : (ky.size ≤ 9223372036854775807 ∧ vl.size ≤ 9223372036854775807 ∧ lo.size ≤ 9223372036854775807 ∧ hi.size ≤ 9223372036854775807)) :
    Calls Tryd.prog 11 #[.agg #[.int .i64 kd, .int .i64 c, .int .i64 e, .int .i64 n, .int .i64 sh, .int .i64 nu, .int .i64 st, .int .i64 k, .string ky, .string vl, .string lo, .string hi, .int .i64 mo, .bool bk, .int .i64 cd, .slice pa pn pc, .bool ys], .int .i64 1048576] w fun e w' => (∃ x : Int, e = .returned (.int .i64 x) ∧ x ≤ 1048576 ∧ -1 ≤ x ∧ (0 ≤ x → pn ≤ 1048576)) ∧ Below w.heap.size w w' := by
  have B0 := hid (below_new (o := .cells #[.int .i64 kd, .int .i64 c, .int .i64 e, .int .i64 n, .int .i64 sh, .int .i64 nu, .int .i64 st, .int .i64 k, .string ky, .string vl, .string lo, .string hi, .int .i64 mo, .bool bk, .int .i64 cd, .slice pa pn pc, .bool ys] 45) (w := w) (Below.refl _ _))
  have K0 := hid (Bk.new w 45 [.int .i64 kd, .int .i64 c, .int .i64 e, .int .i64 n, .int .i64 sh, .int .i64 nu, .int .i64 st, .int .i64 k, .string ky, .string vl, .string lo, .string hi, .int .i64 mo, .bool bk, .int .i64 cd, .slice pa pn pc, .bool ys])
  have H1 := hid h1
  have S1 := hid s1
  have C1 := hid (fun w => szAsk_any k ky vl lo hi mo bk 1048576 w (by omega) (by omega) hl)
  clear h1 s1 hl
  go_enter Tryd.func11, Tryd.ntmps11
  go_wp2_with fail
  refine (C1.out _).mono ?_
  generalize w.alloc (.cells #[.int .i64 kd, .int .i64 c, .int .i64 e, .int .i64 n, .int .i64 sh, .int .i64 nu, .int .i64 st, .int .i64 k, .string ky, .string vl, .string lo, .string hi, .int .i64 mo, .bool bk, .int .i64 cd, .slice pa pn pc, .bool ys] 45) = U at *
  rintro r w1 ⟨⟨x, rfl, hx1, hx2⟩, hb⟩
  have B1 := hid (btR B0.out hb)
  have K1 := hid (K0.out.below hb)
  clear hb B0 K0
  have x15 := K1.out.cell (j := 15) rfl
  by_cases hneg : x < 0
  · go_wp2
    go_ret
    exact ⟨⟨_, rfl, by omega, by omega, fun h => by omega⟩, B1.out⟩
  · go_wp2_with fail
    refine (szPairS_at S pa pn pc ps x _ (H1.out.below B1.out) S1.out (by omega) (by omega)).mono ?_
    rintro r w2 ⟨⟨y, rfl, hy1, hy2, hy3⟩, hb⟩
    have B2 := hid (btR B1.out hb)
    have HY := hid hy3
    clear hb B1 K1 x15 hy3
    by_cases hneg2 : y < 0
    · go_wp2
      go_ret
      exact ⟨⟨_, rfl, by omega, by omega, fun h => by omega⟩, B2.out⟩
    · go_wp2
      go_ret
      exact ⟨⟨_, rfl, by omega, by omega, HY.out⟩, B2.out⟩
set_option maxHeartbeats 8000000 in
theorem eqMsg_same (S S' : Nat → Prop) (ps : List PB) (kd c e n sh nu st k : Int) (ky vl lo hi : ByteArray) (mo : Int) (bk : Bool) (cd : Int) (pa : Option Addr) (pn pc : Nat) (ys : Bool) (pa' : Option Addr) (pn' pc' : Nat) (w : World) (h : Pr w S (.slice pa pn pc) ps) (h' : Pr w S' (.slice pa' pn' pc') ps) :
    Calls Tryd.prog 14 #[.agg #[.int .i64 kd, .int .i64 c, .int .i64 e, .int .i64 n, .int .i64 sh, .int .i64 nu, .int .i64 st, .int .i64 k, .string ky, .string vl, .string lo, .string hi, .int .i64 mo, .bool bk, .int .i64 cd, .slice pa pn pc, .bool ys], .agg #[.int .i64 kd, .int .i64 c, .int .i64 e, .int .i64 n, .int .i64 sh, .int .i64 nu, .int .i64 st, .int .i64 k, .string ky, .string vl, .string lo, .string hi, .int .i64 mo, .bool bk, .int .i64 cd, .slice pa' pn' pc', .bool ys]] w fun r w' => r = .returned (.bool true) ∧ Below w.heap.size w w' := by
  have C1 := hid (fun w => eqTx_same c e n w)
  have C2 := hid (fun w => eqAsk_same k ky vl lo hi mo bk w)
  have hz0 : (kd != kd) = false := by simp
  have hz1 : (sh != sh) = false := by simp
  have hz2 : (nu != nu) = false := by simp
  have hz3 : (st != st) = false := by simp
  have hz4 : (cd != cd) = false := by simp
  have hz5 : (ys != ys) = false := by simp
  have B0 : Hid (Below w.heap.size w ((w.alloc (.cells #[.int .i64 kd, .int .i64 c, .int .i64 e, .int .i64 n, .int .i64 sh, .int .i64 nu, .int .i64 st, .int .i64 k, .string ky, .string vl, .string lo, .string hi, .int .i64 mo, .bool bk, .int .i64 cd, .slice pa pn pc, .bool ys] 31)).alloc (.cells #[.int .i64 kd, .int .i64 c, .int .i64 e, .int .i64 n, .int .i64 sh, .int .i64 nu, .int .i64 st, .int .i64 k, .string ky, .string vl, .string lo, .string hi, .int .i64 mo, .bool bk, .int .i64 cd, .slice pa' pn' pc', .bool ys] 31))) := below_new (below_new (Below.refl _ _))
  have K0 := hid ((Bk.new w 31 [.int .i64 kd, .int .i64 c, .int .i64 e, .int .i64 n, .int .i64 sh, .int .i64 nu, .int .i64 st, .int .i64 k, .string ky, .string vl, .string lo, .string hi, .int .i64 mo, .bool bk, .int .i64 cd, .slice pa pn pc, .bool ys]).alloc (.cells #[.int .i64 kd, .int .i64 c, .int .i64 e, .int .i64 n, .int .i64 sh, .int .i64 nu, .int .i64 st, .int .i64 k, .string ky, .string vl, .string lo, .string hi, .int .i64 mo, .bool bk, .int .i64 cd, .slice pa' pn' pc', .bool ys] 31))
  have J0 := hid (Bk.new (w.alloc (.cells #[.int .i64 kd, .int .i64 c, .int .i64 e, .int .i64 n, .int .i64 sh, .int .i64 nu, .int .i64 st, .int .i64 k, .string ky, .string vl, .string lo, .string hi, .int .i64 mo, .bool bk, .int .i64 cd, .slice pa pn pc, .bool ys] 31)) 31 [.int .i64 kd, .int .i64 c, .int .i64 e, .int .i64 n, .int .i64 sh, .int .i64 nu, .int .i64 st, .int .i64 k, .string ky, .string vl, .string lo, .string hi, .int .i64 mo, .bool bk, .int .i64 cd, .slice pa' pn' pc', .bool ys])
  rw [show (w.alloc (.cells #[.int .i64 kd, .int .i64 c, .int .i64 e, .int .i64 n, .int .i64 sh, .int .i64 nu, .int .i64 st, .int .i64 k, .string ky, .string vl, .string lo, .string hi, .int .i64 mo, .bool bk, .int .i64 cd, .slice pa pn pc, .bool ys] 31)).heap.size = w.heap.size + 1 by simp] at J0
  have C3 : Hid (∀ v, Below w.heap.size w v → Calls Tryd.prog 49 #[.slice pa pn pc, .slice pa' pn' pc'] v fun e w' => e = .returned (.bool true) ∧ Below v.heap.size v w') := fun v hb => by
    have := eqPairS_at S S' pa pa' pn pn' pc pc' ps ps v (h.below hb) (h'.below hb)
    simpa using this
  clear h h'
  go_enter Tryd.func14, Tryd.ntmps14
  go_wp2_with fail
  refine (C1.out _).mono ?_
  generalize (w.alloc (.cells #[.int .i64 kd, .int .i64 c, .int .i64 e, .int .i64 n, .int .i64 sh, .int .i64 nu, .int .i64 st, .int .i64 k, .string ky, .string vl, .string lo, .string hi, .int .i64 mo, .bool bk, .int .i64 cd, .slice pa pn pc, .bool ys] 31)).alloc (.cells #[.int .i64 kd, .int .i64 c, .int .i64 e, .int .i64 n, .int .i64 sh, .int .i64 nu, .int .i64 st, .int .i64 k, .string ky, .string vl, .string lo, .string hi, .int .i64 mo, .bool bk, .int .i64 cd, .slice pa' pn' pc', .bool ys] 31) = U at *
  rintro r w1 ⟨rfl, hb⟩
  have B1 := hid (btR B0.out hb)
  have K1 := hid (K0.out.below hb)
  have J1 := hid (J0.out.below hb)
  clear hb B0 K0 J0
  have x4 := K1.out.cell (j := 4) rfl
  have y4 := J1.out.cell (j := 4) rfl
  have x5 := K1.out.cell (j := 5) rfl
  have y5 := J1.out.cell (j := 5) rfl
  have x6 := K1.out.cell (j := 6) rfl
  have y6 := J1.out.cell (j := 6) rfl
  have x7 := K1.out.cell (j := 7) rfl
  have y7 := J1.out.cell (j := 7) rfl
  have x8 := K1.out.cell (j := 8) rfl
  have y8 := J1.out.cell (j := 8) rfl
  have x9 := K1.out.cell (j := 9) rfl
  have y9 := J1.out.cell (j := 9) rfl
  have x10 := K1.out.cell (j := 10) rfl
  have y10 := J1.out.cell (j := 10) rfl
  have x11 := K1.out.cell (j := 11) rfl
  have y11 := J1.out.cell (j := 11) rfl
  have x12 := K1.out.cell (j := 12) rfl
  have y12 := J1.out.cell (j := 12) rfl
  have x13 := K1.out.cell (j := 13) rfl
  have y13 := J1.out.cell (j := 13) rfl
  have x14 := K1.out.cell (j := 14) rfl
  have y14 := J1.out.cell (j := 14) rfl
  have x15 := K1.out.cell (j := 15) rfl
  have y15 := J1.out.cell (j := 15) rfl
  have x16 := K1.out.cell (j := 16) rfl
  have y16 := J1.out.cell (j := 16) rfl
  go_wp2_with fail
  refine (C2.out _).mono ?_
  rintro r w2 ⟨rfl, hb⟩
  have B2 := hid (btR B1.out hb)
  have K2 := hid (K1.out.below hb)
  have J2 := hid (J1.out.below hb)
  clear hb B1 K1 J1 x4 y4 x5 y5 x6 y6 x7 y7 x8 y8 x9 y9 x10 y10 x11 y11 x12 y12 x13 y13 x14 y14 x15 y15 x16 y16
  have x14 := K2.out.cell (j := 14) rfl
  have y14 := J2.out.cell (j := 14) rfl
  have x15 := K2.out.cell (j := 15) rfl
  have y15 := J2.out.cell (j := 15) rfl
  have x16 := K2.out.cell (j := 16) rfl
  have y16 := J2.out.cell (j := 16) rfl
  go_wp2_with fail
  refine (C3.out _ B2.out).mono ?_
  rintro r w3 ⟨rfl, hb⟩
  have B3 := hid (btR B2.out hb)
  have K3 := hid (K2.out.below hb)
  have J3 := hid (J2.out.below hb)
  clear hb B2 K2 J2 x14 y14 x15 y15 x16 y16
  have x14 := K3.out.cell (j := 14) rfl
  have y14 := J3.out.cell (j := 14) rfl
  have x15 := K3.out.cell (j := 15) rfl
  have y15 := J3.out.cell (j := 15) rfl
  have x16 := K3.out.cell (j := 16) rfl
  have y16 := J3.out.cell (j := 16) rfl
  go_wp2
  go_ret
  exact ⟨rfl, B3.out⟩
end Go.Proofs.YtbonkheoeohaiaaDoor
