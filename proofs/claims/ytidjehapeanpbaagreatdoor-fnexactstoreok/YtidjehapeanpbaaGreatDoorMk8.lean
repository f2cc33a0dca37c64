/-
  The law's helpers that write marks into an answer's tree and look whether they are still there: where all rows are apart, they are.
-/
import Derived.Test.YtidjehapeanpbaaGreatDoorMk7
import Derived.Test.YtidjehapeanpbaaGreatDoorMk3
import Derived.Test.YtidjehapeanpbaaGreatDoorMk4
import Derived.Test.YtidjehapeanpbaaGreatDoorMk2
import Derived.Test.YtidjehapeanpbaaGreatDoorMk1
import Derived.ProofKit
import Derived.OpenShut
import Derived.ChangeOld
import Derived.Stop.LaidErr
import Derived.Deep.Strs
import Derived.Deep.Slices
import Derived.ChangeSlices
import Derived.WideShapes
import Derived.ChangeSame
import Derived.Deep.SlicePairs
namespace Go.Proofs.YtidjehapeanpbaaGreatDoor
open Go.RowKit
set_option linter.unusedVariables false
def cntN (x : NB) : Nat := x.ps.length * 2 + x.keys.length + x.kids.length
def offN (ns : List NB) : Nat → Nat
 | 0 => 0
 | i + 1 => offN ns i + cntN (nAt ns i)
def LiesV (w : World) (v : Value) (n m : Nat) (V : Nat → Value) : Prop := ∃ a c, v = .slice a n c ∧ n ≤ c ∧ Lies w a n m V
def LiesN (w : World) (p : V3) (x : NB) (q : Nat) : Prop := LiesV w p.1 x.ps.length (x.ps.length * 2) (mV q) ∧ LiesV w p.2.1 x.keys.length x.keys.length (mV (q + x.ps.length * 2)) ∧ LiesV w p.2.2 x.kids.length x.kids.length (mI (q + x.ps.length * 2 + x.keys.length))
structure MkT (w : World) (v : Value) (V : List V3) (ns : List NB) (k : Nat) : Prop where
 len : V.length = ns.length
 row : w.ownsRow 0 85 3 v ns.length (ncs V)
 lie : ∀ i, i < ns.length → LiesN w (vAt V i) (nAt ns i) (k + offN ns i)
open Go.RowKit
set_option linter.unusedVariables false
open Go.RowKit
set_option linter.unusedVariables false
structure StR (w : World) (S : Nat → Prop) (xa : Option Addr) (xn xc : Nat) (ya : Option Addr) (yn yc : Nat) (na : Option Addr) (nn nc : Nat) (pa : Option Addr) (pn pc : Nat) (d : DK) (s : LS) : Prop where
 dk : Dk w S xa xn xc ya yn yc d
 nr : Nr w S (.slice na nn nc) s.1
 ir : Ir w S (.slice pa pn pc) s.2
theorem StR.below {w w' : World} {S : Nat → Prop} {xa : Option Addr} {xn xc : Nat} {ya : Option Addr} {yn yc : Nat} {na : Option Addr} {nn nc : Nat} {pa : Option Addr} {pn pc : Nat} {d : DK} {s : LS} (h : StR w S xa xn xc ya yn yc na nn nc pa pn pc d s) (hb : Below w.heap.size w w') : StR w' S xa xn xc ya yn yc na nn nc pa pn pc d s := ⟨h.dk.below hb, h.nr.below hb, Rw.to h.ir (only_of_below hb (fun _ => False)) (fun _ _ _ h => h)⟩
structure StO (w : World) (B : Nat) (xa : Option Addr) (xn xc : Nat) (ya : Option Addr) (yn yc : Nat) (na : Option Addr) (nn nc : Nat) (pa : Option Addr) (pn pc : Nat) (Vd : List Value) (Ud : List (Int × Value)) (V : List V3) (d : DK) (s : LS) : Prop where
 dk : DO w B (.slice xa xn xc) Vd (.slice ya yn yc) Ud d
 sn : SN w B na nn nc pa pn pc V s
 ap : ∀ y, dbl (.slice xa xn xc) Vd (.slice ya yn yc) Ud y → ¬ snb na nn nc pa pn pc V s y
theorem SN.ir {w : World} {B : Nat} {na : Option Addr} {nn nc : Nat} {pa : Option Addr} {pn pc : Nat} {V : List V3} {s : LS} (h : SN w B na nn nc pa pn pc V s) : Ir w (fun _ => True) (.slice pa pn pc) s.2 := by
 have := rw_own h.pla (S := fun _ => True) (fun _ _ _ _ => trivial)
 show Rw _ _ _ _ _
 simpa using this
structure StQ (w : World) (xa : Option Addr) (xn xc : Nat) (ya : Option Addr) (yn yc : Nat) (na : Option Addr) (nn nc : Nat) (pa : Option Addr) (pn pc : Nat) (Vd : List Value) (Ud : List (Int × Value)) (V : List V3) (d : DK) (s : LS) (k : Nat) : Prop where
 dm : DM w (.slice xa xn xc) Vd (.slice ya yn yc) Ud d k
 mt : MkT w (.slice na nn nc) V s.1 (k + dkTot d)
 pl : pn = s.2.length ∧ pn ≤ pc
 mi : Lies w pa pn pn (mI (k + dkTot d + offN s.1 s.1.length))
set_option maxHeartbeats 6400000 in
set_option maxRecDepth 20000 in
theorem eqStore_same (S S' : Nat → Prop) (xa : Option Addr) (xn xc : Nat) (ya : Option Addr) (yn yc : Nat) (na : Option Addr) (nn nc : Nat) (pa : Option Addr) (pn pc : Nat) (xa' : Option Addr) (xn' xc' : Nat) (ya' : Option Addr) (yn' yc' : Nat) (na' : Option Addr) (nn' nc' : Nat) (pa' : Option Addr) (pn' pc' : Nat) (g : Int) (d : DK) (s : LS) (w : World) (h : StR w S xa xn xc ya yn yc na nn nc pa pn pc d s) (h' : StR w S' xa' xn' xc' ya' yn' yc' na' nn' nc' pa' pn' pc' d s) (hs : smallD d) :
  Calls Tryz.prog 10 #[.agg #[.slice xa xn xc, .slice ya yn yc, .int .i64 g, .slice na nn nc, .slice pa pn pc], .agg #[.slice xa' xn' xc', .slice ya' yn' yc', .int .i64 g, .slice na' nn' nc', .slice pa' pn' pc']] w fun e w' => e = .returned (.bool true) ∧ Below w.heap.size w w' := by
 have HB0 : Hid (Below w.heap.size w ((w.alloc (.cells #[.slice xa xn xc, .slice ya yn yc, .int .i64 g, .slice na nn nc, .slice pa pn pc] 36)).alloc (.cells #[.slice xa' xn' xc', .slice ya' yn' yc', .int .i64 g, .slice na' nn' nc', .slice pa' pn' pc'] 36))) := below_new (below_new (Below.refl _ _))
 have K0 := hid ((Bk.new w 36 [.slice xa xn xc, .slice ya yn yc, .int .i64 g, .slice na nn nc, .slice pa pn pc]).alloc (.cells #[.slice xa' xn' xc', .slice ya' yn' yc', .int .i64 g, .slice na' nn' nc', .slice pa' pn' pc'] 36))
 have J0 := hid (Bk.new (w.alloc (.cells #[.slice xa xn xc, .slice ya yn yc, .int .i64 g, .slice na nn nc, .slice pa pn pc] 36)) 36 [.slice xa' xn' xc', .slice ya' yn' yc', .int .i64 g, .slice na' nn' nc', .slice pa' pn' pc'])
 rw [show (w.alloc (.cells #[.slice xa xn xc, .slice ya yn yc, .int .i64 g, .slice na nn nc, .slice pa pn pc] 36)).heap.size = w.heap.size + 1 by simp] at J0
 have H0 := hid (h.below HB0.out)
 have G0 := hid (h'.below HB0.out)
 have HS := hid hs
 have hz : (g != g) = false := by simp
 clear h h' hs
 go_enter Tryz.func10, Tryz.ntmps10
 go_wp2_with fail
 refine (eqDisk_any S S' xa xn xc ya yn yc d xa' xn' xc' ya' yn' yc' d _ H0.out.dk G0.out.dk HS.out HS.out).mono ?_
 rw [decide_eq_true (rfl : d = d)]
 generalize (w.alloc (.cells #[.slice xa xn xc, .slice ya yn yc, .int .i64 g, .slice na nn nc, .slice pa pn pc] 36)).alloc (.cells #[.slice xa' xn' xc', .slice ya' yn' yc', .int .i64 g, .slice na' nn' nc', .slice pa' pn' pc'] 36) = U at *
 rintro e w1 ⟨rfl, hb⟩
 have H1 := hid (H0.out.below hb)
 have G1 := hid (G0.out.below hb)
 have K1 := hid (K0.out.below hb)
 have J1 := hid (J0.out.below hb)
 have B1 := hid (HB0.out.trans (hb.mono HB0.out.size))
 clear hb H0 G0 K0 J0 HB0
 have x0 := K1.out.cell (j := 0) rfl
 have y0 := J1.out.cell (j := 0) rfl
 have x1 := K1.out.cell (j := 1) rfl
 have y1 := J1.out.cell (j := 1) rfl
 have x2 := K1.out.cell (j := 2) rfl
 have y2 := J1.out.cell (j := 2) rfl
 have x3 := K1.out.cell (j := 3) rfl
 have y3 := J1.out.cell (j := 3) rfl
 have x4 := K1.out.cell (j := 4) rfl
 have y4 := J1.out.cell (j := 4) rfl
 go_wp2_with fail
 refine (eqTree_at S S' na na' nn nn' nc nc' s.1 s.1 _ H1.out.nr G1.out.nr).mono ?_
 rw [decide_eq_true (rfl : s.1 = s.1)]
 rintro e w2 ⟨rfl, hb⟩
 have H2 := hid (H1.out.below hb)
 have G2 := hid (G1.out.below hb)
 have K2 := hid (K1.out.below hb)
 have J2 := hid (J1.out.below hb)
 have B2 := hid (B1.out.trans (hb.mono B1.out.size))
 clear hb H1 G1 K1 J1 B1 x0 y0 x1 y1 x2 y2 x3 y3 x4 y4
 have x0 := K2.out.cell (j := 0) rfl
 have y0 := J2.out.cell (j := 0) rfl
 have x1 := K2.out.cell (j := 1) rfl
 have y1 := J2.out.cell (j := 1) rfl
 have x2 := K2.out.cell (j := 2) rfl
 have y2 := J2.out.cell (j := 2) rfl
 have x3 := K2.out.cell (j := 3) rfl
 have y3 := J2.out.cell (j := 3) rfl
 have x4 := K2.out.cell (j := 4) rfl
 have y4 := J2.out.cell (j := 4) rfl
 go_wp2_with fail
 refine (eqIntS_at S S' pa pa' pn pn' pc pc' s.2 s.2 _ H2.out.ir G2.out.ir).mono ?_
 rw [decide_eq_true (rfl : s.2 = s.2)]
 rintro e w3 ⟨rfl, hb⟩
 have B3 := hid (B2.out.trans (hb.mono B2.out.size))
 clear hb H2 G2 K2 J2 B2 x0 y0 x1 y1 x2 y2 x3 y3 x4 y4
 go_wp2
 go_ret
 exact ⟨rfl, B3.out⟩
open Go.RowKit
def szOkN (ns : List NB) : Prop := ∀ i, i < ns.length → szOkP (nAt ns i).ps ∧ szOkS (nAt ns i).keys
set_option maxHeartbeats 2000000 in
theorem szNode_any (S : Nat → Prop) (ap ax ai : Option Addr) (np cp nx cx ni ci : Nat) (x : NB) (left : Int) (w : World) (hP : Pr w S (.slice ap np cp) x.ps) (hS : Sr w S (.slice ax nx cx) x.keys) (hI : Ir w S (.slice ai ni ci) x.kids)
  (z0 : szOkP x.ps) (z1 : szOkS x.keys) (h0 : 0 ≤ left) (h1 : left ≤ 1048576) :
  Calls Tryz.prog 127 #[.agg #[.slice ap np cp, .slice ax nx cx, .slice ai ni ci], .int .i64 left] w fun e w' => (∃ y : Int, e = .returned (.int .i64 y) ∧ y ≤ left ∧ -1 ≤ y ∧ (0 ≤ y → np ≤ 1048576 ∧ nx ≤ 1048576 ∧ ni ≤ 1048576)) ∧ Below w.heap.size w w' := by
 have hnc := (Rw.len hI).2.1
 have hcc := (Rw.len hI).2.2
 have HP := hid hP
 have HS := hid hS
 have HZ0 := hid z0
 have HZ1 := hid z1
 clear hP hS hI z0 z1
 have HB0 : Hid (Below w.heap.size w (w.alloc (.cells #[.slice ap np cp, .slice ax nx cx, .slice ai ni ci] 172))) := below_new (Below.refl _ _)
 have KP : Hid (Bk (w.alloc (.cells #[.slice ap np cp, .slice ax nx cx, .slice ai ni ci] 172)) w.heap.size 172 [.slice ap np cp, .slice ax nx cx, .slice ai ni ci]) := Bk.new w 172 [.slice ap np cp, .slice ax nx cx, .slice ai ni ci]
 go_enter Tryz.func127, Tryz.ntmps127
 go_wp2_with fail
 refine (szPairS_at S ap np cp x.ps left _ (HP.out.below HB0.out) HZ0.out h0 h1).mono ?_
 generalize w.alloc (.cells #[.slice ap np cp, .slice ax nx cx, .slice ai ni ci] 172) = W at *
 rintro e w1 ⟨⟨y, rfl, hy1, hy2, hy3⟩, hb1⟩
 have HB1 := hid (HB0.out.trans (hb1.mono HB0.out.size))
 have KP1 := hid (KP.out.below hb1)
 have HY := hid hy3
 clear hb1 KP HB0 hy3
 by_cases hneg : y < 0
 ·go_wp2
  go_ret
  exact ⟨⟨_, rfl, by omega, by omega, fun h => by omega⟩, HB1.out⟩
 ·have c1 := KP1.out.cell (j := 1) rfl
  go_wp2_with fail
  refine (szStringS_at S ax nx cx x.keys y _ (HS.out.below HB1.out) HZ1.out (by omega) (by omega)).mono ?_
  rintro e w2 ⟨⟨z, rfl, hz1, hz2, hz3⟩, hb2⟩
  have HB2 := hid (HB1.out.trans (hb2.mono HB1.out.size))
  have KP2 := hid (KP1.out.below hb2)
  have HZ := hid hz3
  clear hb2 KP1 HB1 hz3 c1
  by_cases hneg2 : z < 0
  ·go_wp2
   go_ret
   exact ⟨⟨_, rfl, by omega, by omega, fun h => by omega⟩, HB2.out⟩
  ·have c2 := KP2.out.cell (j := 2) rfl
   go_wp2_with fail
   refine (szIntS_at ai ni ci z _ (by omega) (by omega) (by omega)).mono ?_
   rintro e w3 ⟨⟨v, rfl, hv1, hv2, hv3⟩, hb3⟩
   have HB3 := hid (HB2.out.trans (hb3.mono HB2.out.size))
   have HV := hid hv3
   clear hb3 KP2 HB2 hv3 c2
   by_cases hneg3 : v < 0
   ·go_wp2
    go_ret
    exact ⟨⟨_, rfl, by omega, by omega, fun h => by omega⟩, HB3.out⟩
   ·go_wp2
    go_ret
    exact ⟨⟨_, rfl, by omega, by omega, fun _ => ⟨HY.out (by omega), HZ.out (by omega), HV.out (by omega)⟩⟩, HB3.out⟩
open Go.RowKit
set_option linter.unusedVariables false
set_option maxHeartbeats 2000000 in
theorem szNodeS_l (S : Nat → Prop) (a : Option Addr) (n c : Nat) (ns : List NB) (left : Int) (w : World) (h : Nr w S (.slice a n c) ns) (hsz : szOkN ns) (hl0 : 0 ≤ left) (hl1 : left ≤ 1048576) :
  Calls Tryz.prog 87 #[.slice a n c, .int .i64 left] w fun e w' => (∃ x : Int, e = .returned (.int .i64 x) ∧ x ≤ 1048576 ∧ -1 ≤ x ∧ (0 ≤ x → n ≤ 1048576 ∧ smallN ns)) ∧ Below w.heap.size w w' := by
 obtain ⟨hn, hnc, hcc⟩ := h.len
 have HN := hid hn
 have H0 := hid h
 have HZ := hid hsz
 clear h hsz hn
 by_cases hbig : left - (n : Int) < 0
 ·go_enter Tryz.func87, Tryz.ntmps87
  go_wp2
  go_ret
  exact ⟨⟨_, rfl, by omega, by omega, fun h => by omega⟩, Below.refl _ _⟩
 ·have hn2 : n ≤ 1048576 := by omega
  go_enter Tryz.func87, Tryz.ntmps87
  go_wp2
  go_loopw [1, 5] (fun x i wr => ∃ (k : Nat) (y : Int), k ≤ n ∧ i = .int .i64 k ∧ x = .int .i64 y ∧ 0 ≤ y ∧ y ≤ 1048576 ∧ Hid (∀ i, i < k → (nAt ns i).ps.length ≤ 1048576 ∧ (nAt ns i).keys.length ≤ 1048576 ∧ (nAt ns i).kids.length ≤ 1048576) ∧ Hid (Below w.heap.size w wr)) (fun _ i _ => n - (intOf i).toNat)
  case atStart => exact ⟨0, _, Nat.zero_le _, rfl, rfl, by omega, by omega, fun i hi => absurd hi (Nat.not_lt_zero _), Below.refl _ _⟩
  case round =>
   obtain ⟨k, y, hk, rfl, rfl, hy0, hy1, HS, HB⟩ := hrel
   by_cases hlt : k < n
   ·have hlt' : (k : Int) < (n : Int) := by omega
    have HP := hid (H0.out.below HB.out)
    obtain ⟨b, off, rfl, _, hbw, hcell⟩ := HP.out.at (by omega)
    obtain ⟨ap, np, cp, ax, nx, cx, ai, ni, ci, c0, c1, c2, hp, hx, hi⟩ := hcell k hlt
    have HPp := hid hp
    have HPx := hid hx
    have HPi := hid hi
    have l0 := hid (Rw.len hp).1
    have l1 := hid (Rw.len hx).1
    have l2 := hid (Rw.len hi).1
    clear hcell hbw HP hp hx hi
    go_wp2_with fail
    refine (szNode_any S ap ax ai np cp nx cx ni ci (nAt ns k) y wr HPp.out HPx.out HPi.out (HZ.out k (by rw [← HN.out]; exact hlt)).1 (HZ.out k (by rw [← HN.out]; exact hlt)).2 hy0 hy1).mono ?_
    rintro e w1 ⟨⟨z, rfl, hz1, hz2, hz3⟩, hb1⟩
    have HB1 := hid (HB.out.trans (hb1.mono HB.out.size))
    have HZ3 := hid hz3
    clear hb1 hz3 c0 c1 c2
    by_cases hneg : z < 0
    ·go_wp2
     go_ret
     exact ⟨⟨_, rfl, by omega, by omega, fun h => by omega⟩, HB1.out⟩
    ·have HS1 : Hid (∀ i, i < k + 1 → (nAt ns i).ps.length ≤ 1048576 ∧ (nAt ns i).keys.length ≤ 1048576 ∧ (nAt ns i).kids.length ≤ 1048576) := by
      intro i hi
      by_cases e : i = k
      ·subst e
       rw [← l0.out, ← l1.out, ← l2.out]
       exact HZ3.out (by omega)
      ·exact HS.out i (by omega)
     go_wp2
     go_roundw
     case rel => exact ⟨k + 1, z, by omega, by go_num, rfl, by omega, by omega, HS1.out, HB1.out⟩
     case measure => simp [intOf]; omega
   ·have hk' : k = n := by omega
    have HS1 : Hid (smallN ns) := fun i hi => HS.out i (by rw [hk', HN.out]; exact hi)
    clear hk'
    go_wp2
    go_ret
    exact ⟨⟨_, rfl, by omega, by omega, fun _ => ⟨hn2, HS1.out⟩⟩, HB.out⟩
set_option maxHeartbeats 2000000 in
theorem szTree_l (S : Nat → Prop) (a : Option Addr) (n c : Nat) (ns : List NB) (left : Int) (w : World) (h : Nr w S (.slice a n c) ns) (hsz : szOkN ns) (hl0 : 0 ≤ left) (hl1 : left ≤ 1048576) :
  Calls Tryz.prog 43 #[.agg #[.slice a n c], .int .i64 left] w fun e w' => (∃ x : Int, e = .returned (.int .i64 x) ∧ x ≤ 1048576 ∧ -1 ≤ x ∧ (0 ≤ x → n ≤ 1048576 ∧ smallN ns)) ∧ Below w.heap.size w w' := by
 have H0 := hid h
 have HZ := hid hsz
 clear h hsz
 have HB0 : Hid (Below w.heap.size w (w.alloc (.cells #[.slice a n c] 47))) := below_new (Below.refl _ _)
 go_enter Tryz.func43, Tryz.ntmps43
 go_wp2_with fail
 refine (szNodeS_l S a n c ns left _ (H0.out.below HB0.out) HZ.out hl0 hl1).mono ?_
 rintro e w1 ⟨⟨y, rfl, hy1, hy2, hy3⟩, hb1⟩
 have HB1 := hid (HB0.out.trans (hb1.mono HB0.out.size))
 have HY := hid hy3
 clear hb1 hy3 HB0
 by_cases hneg : y < 0
 ·go_wp2
  go_ret
  exact ⟨⟨_, rfl, by omega, by omega, fun h => by omega⟩, HB1.out⟩
 ·go_wp2
  go_ret
  exact ⟨⟨_, rfl, by omega, by omega, HY.out⟩, HB1.out⟩
set_option maxHeartbeats 4000000 in
set_option maxRecDepth 20000 in
theorem szStore_any (S : Nat → Prop) (xa : Option Addr) (xn xc : Nat) (ya : Option Addr) (yn yc : Nat) (na : Option Addr) (nn nc : Nat) (pa : Option Addr) (pn pc : Nat) (g : Int) (d : DK) (s : LS) (w : World) (h : StR w S xa xn xc ya yn yc na nn nc pa pn pc d s) (hsz : szOkN s.1) :
  Calls Tryz.prog 15 #[.agg #[.slice xa xn xc, .slice ya yn yc, .int .i64 g, .slice na nn nc, .slice pa pn pc], .int .i64 1048576] w fun e w' => (∃ y : Int, e = .returned (.int .i64 y) ∧ y ≤ 1048576 ∧ -1 ≤ y ∧ (0 ≤ y → dkSum d ≤ 1048576 ∧ nn ≤ 1048576 ∧ smallN s.1 ∧ pn ≤ 1048576)) ∧ Below w.heap.size w w' := by
 have hb0 := below_new (o := .cells #[.slice xa xn xc, .slice ya yn yc, .int .i64 g, .slice na nn nc, .slice pa pn pc] 49) (w := w) (Below.refl _ _)
 have B0 := hid hb0
 have K0 := hid (Bk.new w 49 [.slice xa xn xc, .slice ya yn yc, .int .i64 g, .slice na nn nc, .slice pa pn pc])
 have R0 := hid (h.below hb0)
 have HZ := hid hsz
 have hpn : pn ≤ 9223372036854775807 := by have := (Rw.len h.ir).2; omega
 clear hb0 h hsz
 go_enter Tryz.func15, Tryz.ntmps15
 go_wp2_with fail
 refine (szDisk_any S xa xn xc ya yn yc d _ R0.out.dk).mono ?_
 generalize w.alloc (.cells #[.slice xa xn xc, .slice ya yn yc, .int .i64 g, .slice na nn nc, .slice pa pn pc] 49) = U at *
 rintro e w1 ⟨⟨y, rfl, hy1, hy2, hy3⟩, hb⟩
 have B1 := hid (B0.out.trans (hb.mono B0.out.size))
 have K1 := hid (K0.out.below hb)
 have R1 := hid (R0.out.below hb)
 have HY := hid hy3
 clear hb K0 R0 B0 hy3
 by_cases hneg : y < 0
 ·go_wp2
  go_ret
  exact ⟨⟨_, rfl, by omega, by omega, fun h => by omega⟩, B1.out⟩
 ·have c3 := K1.out.cell (j := 3) rfl
  go_wp2_with fail
  refine (szTree_l S na nn nc s.1 y _ R1.out.nr HZ.out (by omega) hy1).mono ?_
  rintro e w2 ⟨⟨z, rfl, hz1, hz2, hz3⟩, hb⟩
  have B2 := hid (B1.out.trans (hb.mono B1.out.size))
  have K2 := hid (K1.out.below hb)
  have HZ3 := hid hz3
  clear hb K1 R1 B1 hz3 c3
  by_cases hneg2 : z < 0
  ·go_wp2
   go_ret
   exact ⟨⟨_, rfl, by omega, by omega, fun h => by omega⟩, B2.out⟩
  ·have c4 := K2.out.cell (j := 4) rfl
   go_wp2_with fail
   refine (szIntS_at pa pn pc z _ hpn (by omega) hz1).mono ?_
   rintro e w3 ⟨⟨v, rfl, hv1, hv2, hv3⟩, hb⟩
   have B3 := hid (B2.out.trans (hb.mono B2.out.size))
   have HV := hid hv3
   clear hb K2 B2 hv3 c4
   by_cases hneg3 : v < 0
   ·go_wp2
    go_ret
    exact ⟨⟨_, rfl, by omega, by omega, fun h => by omega⟩, B3.out⟩
   ·go_wp2
    go_ret
    exact ⟨⟨_, rfl, by omega, by omega, fun _ => ⟨HY.out (by omega), (HZ3.out (by omega)).1, (HZ3.out (by omega)).2, HV.out (by omega)⟩⟩, B3.out⟩
theorem results_sto1 {fn : Func} {p : Tmp} (h : fn.results = #[.cell p 36]) (tmps : Array Value) (w : World) (g : Nat) {a b c x y : Value} (hp : tmps.getD p undef = .pointer (some ⟨g, 0, none⟩))
  (c0 : w.cell? ⟨g, 0, none⟩ = some a) (c1 : w.cell? ⟨g, 1, none⟩ = some b) (c2 : w.cell? ⟨g, 2, none⟩ = some c) (c3 : w.cell? ⟨g, 3, none⟩ = some x) (c4 : w.cell? ⟨g, 4, none⟩ = some y) : (results fn tmps).run Tryz.prog w = .ok (.agg #[a, b, c, x, y]) w := by
 have hp' : tmps[p]?.getD undef = .pointer (some ⟨g, 0, none⟩) := by simpa using hp
 simp [results, h, hp', asAddr, load_sto c0 c1 c2 c3 c4]
set_option maxHeartbeats 8000000 in
set_option maxRecDepth 20000 in
theorem toStore_any (S : Nat → Prop) (xa : Option Addr) (xn xc : Nat) (ya : Option Addr) (yn yc : Nat) (na : Option Addr) (nn nc : Nat) (pa : Option Addr) (pn pc : Nat) (g : Int) (d : DK) (s : LS) (w : World) (h : StR w S xa xn xc ya yn yc na nn nc pa pn pc d s) (h1 : xn ≤ 1048576) (h2 : yn ≤ 1048576) (h3 : nn ≤ 1048576) (h4 : pn ≤ 1048576) (hsm : smallD d) (hsn : smallN s.1) :
  Calls Tryz.prog 17 #[.agg #[.slice xa xn xc, .slice ya yn yc, .int .i64 g, .slice na nn nc, .slice pa pn pc]] w fun e w' => ∃ g0 g1 g2 g3, e = .returned (.agg #[.slice (some ⟨g0, 0, none⟩) xn xn, .slice (some ⟨g1, 0, none⟩) yn yn, .int .i64 g, .slice (some ⟨g2, 0, none⟩) nn nn, .slice (some ⟨g3, 0, none⟩) pn pn]) ∧ StR w' (fun _ => True) (some ⟨g0, 0, none⟩) xn xn (some ⟨g1, 0, none⟩) yn yn (some ⟨g2, 0, none⟩) nn nn (some ⟨g3, 0, none⟩) pn pn d s ∧ Below w.heap.size w w' := by
 have B0 : Hid (Below w.heap.size w (((w.alloc (.cells #[.slice xa xn xc, .slice ya yn yc, .int .i64 g, .slice na nn nc, .slice pa pn pc] 49)).alloc (.cells #[.slice none 0 0, .slice none 0 0, .int .i64 0, .slice none 0 0, .slice none 0 0] 36)).alloc (.cells #[.slice none 0 0, .slice none 0 0, .int .i64 0, .slice none 0 0, .slice none 0 0] 36))) := below_new (below_new (below_new (Below.refl _ _)))
 have K0 := hid (((Bk.new w 49 [.slice xa xn xc, .slice ya yn yc, .int .i64 g, .slice na nn nc, .slice pa pn pc]).alloc (.cells #[.slice none 0 0, .slice none 0 0, .int .i64 0, .slice none 0 0, .slice none 0 0] 36)).alloc (.cells #[.slice none 0 0, .slice none 0 0, .int .i64 0, .slice none 0 0, .slice none 0 0] 36))
 have J0 := hid ((Bk.new (w.alloc (.cells #[.slice xa xn xc, .slice ya yn yc, .int .i64 g, .slice na nn nc, .slice pa pn pc] 49)) 36 [.slice none 0 0, .slice none 0 0, .int .i64 0, .slice none 0 0, .slice none 0 0]).alloc (.cells #[.slice none 0 0, .slice none 0 0, .int .i64 0, .slice none 0 0, .slice none 0 0] 36))
 have I0 := hid (Bk.new ((w.alloc (.cells #[.slice xa xn xc, .slice ya yn yc, .int .i64 g, .slice na nn nc, .slice pa pn pc] 49)).alloc (.cells #[.slice none 0 0, .slice none 0 0, .int .i64 0, .slice none 0 0, .slice none 0 0] 36)) 36 [.slice none 0 0, .slice none 0 0, .int .i64 0, .slice none 0 0, .slice none 0 0])
 rw [show (w.alloc (.cells #[.slice xa xn xc, .slice ya yn yc, .int .i64 g, .slice na nn nc, .slice pa pn pc] 49)).heap.size = w.heap.size + 1 by simp] at J0
 rw [show ((w.alloc (.cells #[.slice xa xn xc, .slice ya yn yc, .int .i64 g, .slice na nn nc, .slice pa pn pc] 49)).alloc (.cells #[.slice none 0 0, .slice none 0 0, .int .i64 0, .slice none 0 0, .slice none 0 0] 36)).heap.size = w.heap.size + 1 + 1 by simp] at I0
 have R0 := hid (h.below B0.out)
 have HSM := hid hsm
 have HSN := hid hsn
 have HPN := hid (Rw.len h.ir).1
 have RN : Hid (∀ v : World, Below w.heap.size w v → Nr v (fun y => y < w.heap.size) (.slice na nn nc) s.1 ∧ Ir v (fun y => y < w.heap.size) (.slice pa pn pc) s.2) := fun v hv => ⟨(h.nr.mono (fun y _ hy => hy)).below hv, Rw.to (Rw.mono h.ir (fun y _ hy => hy)) (only_of_below hv (fun _ => False)) (fun _ _ _ h => h)⟩
 clear h hsm hsn
 go_enter Tryz.func17, Tryz.ntmps17
 go_wp2_with fail
 refine (toDisk_any S xa xn xc ya yn yc d _ R0.out.dk h1 h2 HSM.out).mono ?_
 generalize ((w.alloc (.cells #[.slice xa xn xc, .slice ya yn yc, .int .i64 g, .slice na nn nc, .slice pa pn pc] 49)).alloc (.cells #[.slice none 0 0, .slice none 0 0, .int .i64 0, .slice none 0 0, .slice none 0 0] 36)).alloc (.cells #[.slice none 0 0, .slice none 0 0, .int .i64 0, .slice none 0 0, .slice none 0 0] 36) = U at *
 rintro e w1 ⟨g0, g1, Vd, Ud, rfl, hO, hb⟩
 have K1 := hid (K0.out.below hb)
 have J1 := hid (J0.out.below hb)
 have I1 := hid (I0.out.below hb)
 have R1 := hid (R0.out.below hb)
 have B1 := hid (B0.out.trans (hb.mono B0.out.size))
 have D1 := hid (hO.base (B' := w.heap.size + 1 + 1 + 1) (by have := I0.out.lt; omega))
 clear hO hb K0 J0 I0 R0 B0
 have d1 : ¬ w.heap.size + 1 = w.heap.size + 1 + 1 := by omega
 have d2 : ¬ w.heap.size + 1 + 1 = w.heap.size + 1 := by omega
 have d3 : ¬ w.heap.size = w.heap.size + 1 + 1 := by omega
 have d4 : ¬ w.heap.size = w.heap.size + 1 := by omega
 have x0 := K1.out.cell (j := 0) rfl
 have x1 := K1.out.cell (j := 1) rfl
 have x2 := K1.out.cell (j := 2) rfl
 have x3 := K1.out.cell (j := 3) rfl
 have x4 := K1.out.cell (j := 4) rfl
 have y0 := I1.out.cell (j := 0) rfl
 have y1 := I1.out.cell (j := 1) rfl
 have y2 := I1.out.cell (j := 2) rfl
 have y3 := I1.out.cell (j := 3) rfl
 have y4 := I1.out.cell (j := 4) rfl
 have f0 := I1.out.free 0
 have f1 := I1.out.free 1
 have f2 := I1.out.free 2
 have f3 := I1.out.free 3
 have f4 := I1.out.free 4
 have o1 : Hid (Only (fun y => y = w.heap.size + 1 + 1) w1 (((w1.setCell ⟨w.heap.size + 1 + 1, 0, none⟩ (.slice (some ⟨g0, 0, none⟩) xn xn)).setCell ⟨w.heap.size + 1 + 1, 1, none⟩ (.slice (some ⟨g1, 0, none⟩) yn yn)).setCell ⟨w.heap.size + 1 + 1, 2, none⟩ (.int .i64 g))) := (((only_set (R := fun y => y = w.heap.size + 1 + 1) (p := ⟨w.heap.size + 1 + 1, 0, none⟩) rfl _).trans (only_set (R := fun y => y = w.heap.size + 1 + 1) (p := ⟨w.heap.size + 1 + 1, 1, none⟩) rfl _)).trans (only_set (R := fun y => y = w.heap.size + 1 + 1) (p := ⟨w.heap.size + 1 + 1, 2, none⟩) rfl _))
 have K2 := hid (K1.out.to o1.out (by omega))
 have J2 := hid (J1.out.to o1.out (by omega))
 have I2 := hid (((I1.out.set 0 (.slice (some ⟨g0, 0, none⟩) xn xn)).set 1 (.slice (some ⟨g1, 0, none⟩) yn yn)).set 2 (.int .i64 g))
 have D2 := hid (D1.out.to o1.out (fun y hy e => by have := (D1.out.lt hy).1; omega))
 have B2 := hid (B1.out.trans (o1.out.below B1.out.size (fun y hy e => by omega)))
 have R1N : Hid (Nr w1 (fun y => y < w.heap.size) (.slice na nn nc) s.1 ∧ Ir w1 (fun y => y < w.heap.size) (.slice pa pn pc) s.2) := RN.out w1 B1.out
 clear R1 R1N K1 J1 I1 D1 B1
 go_wp2_with fail
 refine (toTree_at _ na nn nc s.1 _ (RN.out _ B2.out).1 h3 HSN.out).mono ?_
 generalize (((w1.setCell ⟨w.heap.size + 1 + 1, 0, none⟩ (.slice (some ⟨g0, 0, none⟩) xn xn)).setCell ⟨w.heap.size + 1 + 1, 1, none⟩ (.slice (some ⟨g1, 0, none⟩) yn yn)).setCell ⟨w.heap.size + 1 + 1, 2, none⟩ (.int .i64 g)) = V2 at *
 clear o1 x0 x1 x2 x3 x4 y0 y1 y2 y3 y4 f0 f1 f2 f3 f4
 rintro e w3 ⟨g2, rfl, hN, hb⟩
 have K3 := hid (K2.out.below hb)
 have J3 := hid (J2.out.below hb)
 have I3 := hid (I2.out.below hb)
 have D3 := hid (D2.out.below hb)
 have B3 := hid (B2.out.trans (hb.mono B2.out.size))
 have N3 : Hid (Nr w3 (fun y => w.heap.size + 1 + 1 < y) (.slice (some ⟨g2, 0, none⟩) nn nn) s.1) := hN.mono (fun y hy _ => by have h5 := hy.1; have h6 := I2.out.lt; omega)
 clear hb hN K2 J2 I2 D2 B2
 have x0 := K3.out.cell (j := 0) rfl
 have x1 := K3.out.cell (j := 1) rfl
 have x2 := K3.out.cell (j := 2) rfl
 have x3 := K3.out.cell (j := 3) rfl
 have x4 := K3.out.cell (j := 4) rfl
 have y0 := I3.out.cell (j := 0) rfl
 have y1 := I3.out.cell (j := 1) rfl
 have y2 := I3.out.cell (j := 2) rfl
 have y3 := I3.out.cell (j := 3) rfl
 have y4 := I3.out.cell (j := 4) rfl
 have f0 := I3.out.free 0
 have f1 := I3.out.free 1
 have f2 := I3.out.free 2
 have f3 := I3.out.free 3
 have f4 := I3.out.free 4
 have o3 : Hid (Only (fun y => y = w.heap.size + 1 + 1) w3 (w3.setCell ⟨w.heap.size + 1 + 1, 3, none⟩ (.slice (some ⟨g2, 0, none⟩) nn nn))) := (only_set (R := fun y => y = w.heap.size + 1 + 1) (p := ⟨w.heap.size + 1 + 1, 3, none⟩) rfl _)
 have K4 := hid (K3.out.to o3.out (by omega))
 have J4 := hid (J3.out.to o3.out (by omega))
 have I4 := hid (I3.out.set 3 (.slice (some ⟨g2, 0, none⟩) nn nn))
 have D4 := hid (D3.out.to o3.out (fun y hy e => by have := (D3.out.lt hy).1; omega))
 have B4 := hid (B3.out.trans (o3.out.below B3.out.size (fun y hy e => by omega)))
 have N4 := hid (N3.out.to o3.out (fun y hy _ e => by omega))
 clear K3 J3 I3 D3 B3 N3
 go_wp2_with fail
 refine (toIntS_at _ pa pn pc s.2 _ (RN.out _ B4.out).2 h4).mono ?_
 generalize (w3.setCell ⟨w.heap.size + 1 + 1, 3, none⟩ (.slice (some ⟨g2, 0, none⟩) nn nn)) = V4 at *
 clear o3 x0 x1 x2 x3 x4 y0 y1 y2 y3 y4 f0 f1 f2 f3 f4
 rintro e w5 ⟨rfl, hI, hb⟩
 have K5 := hid (K4.out.below hb)
 have J5 := hid (J4.out.below hb)
 have I5 := hid (I4.out.below hb)
 have D5 := hid (D4.out.below hb)
 have N5 := hid (N4.out.below hb)
 have B5 := hid (B4.out.trans (hb.mono B4.out.size))
 have HG3 : Hid (w.heap.size + 1 + 1 < V4.heap.size) := I4.out.lt
 have P5 := hid hI
 clear hb hI K4 J4 I4 D4 B4 N4
 generalize V4.heap.size = g3 at *
 have y0 := I5.out.cell (j := 0) rfl
 have y1 := I5.out.cell (j := 1) rfl
 have y2 := I5.out.cell (j := 2) rfl
 have y3 := I5.out.cell (j := 3) rfl
 have y4 := I5.out.cell (j := 4) rfl
 have f0 := I5.out.free 0
 have f1 := I5.out.free 1
 have f2 := I5.out.free 2
 have f3 := I5.out.free 3
 have f4 := I5.out.free 4
 have z0 := J5.out.cell (j := 0) rfl
 have z1 := J5.out.cell (j := 1) rfl
 have z2 := J5.out.cell (j := 2) rfl
 have z3 := J5.out.cell (j := 3) rfl
 have z4 := J5.out.cell (j := 4) rfl
 have e0 := J5.out.free 0
 have e1 := J5.out.free 1
 have e2 := J5.out.free 2
 have e3 := J5.out.free 3
 have e4 := J5.out.free 4
 have o5 : Hid (Only (fun y => y = w.heap.size + 1 + 1) w5 (w5.setCell ⟨w.heap.size + 1 + 1, 4, none⟩ (.slice (some ⟨g3, 0, none⟩) pn pn))) := (only_set (R := fun y => y = w.heap.size + 1 + 1) (p := ⟨w.heap.size + 1 + 1, 4, none⟩) rfl _)
 have o7 : Hid (Only (fun y => y = w.heap.size + 1) (w5.setCell ⟨w.heap.size + 1 + 1, 4, none⟩ (.slice (some ⟨g3, 0, none⟩) pn pn)) ((((((w5.setCell ⟨w.heap.size + 1 + 1, 4, none⟩ (.slice (some ⟨g3, 0, none⟩) pn pn)).setCell ⟨w.heap.size + 1, 0, none⟩ (.slice (some ⟨g0, 0, none⟩) xn xn)).setCell ⟨w.heap.size + 1, 1, none⟩ (.slice (some ⟨g1, 0, none⟩) yn yn)).setCell ⟨w.heap.size + 1, 2, none⟩ (.int .i64 g)).setCell ⟨w.heap.size + 1, 3, none⟩ (.slice (some ⟨g2, 0, none⟩) nn nn)).setCell ⟨w.heap.size + 1, 4, none⟩ (.slice (some ⟨g3, 0, none⟩) pn pn))) := (((((only_set (R := fun y => y = w.heap.size + 1) (p := ⟨w.heap.size + 1, 0, none⟩) rfl _).trans (only_set (R := fun y => y = w.heap.size + 1) (p := ⟨w.heap.size + 1, 1, none⟩) rfl _)).trans (only_set (R := fun y => y = w.heap.size + 1) (p := ⟨w.heap.size + 1, 2, none⟩) rfl _)).trans (only_set (R := fun y => y = w.heap.size + 1) (p := ⟨w.heap.size + 1, 3, none⟩) rfl _)).trans (only_set (R := fun y => y = w.heap.size + 1) (p := ⟨w.heap.size + 1, 4, none⟩) rfl _))
 have J6 := hid (J5.out.to o5.out (by omega))
 have J7 := hid (((((J6.out.set 0 (.slice (some ⟨g0, 0, none⟩) xn xn)).set 1 (.slice (some ⟨g1, 0, none⟩) yn yn)).set 2 (.int .i64 g)).set 3 (.slice (some ⟨g2, 0, none⟩) nn nn)).set 4 (.slice (some ⟨g3, 0, none⟩) pn pn))
 have o8 : Hid (Only (fun y => y = w.heap.size + 1 ∨ y = w.heap.size + 1 + 1) w5 ((((((w5.setCell ⟨w.heap.size + 1 + 1, 4, none⟩ (.slice (some ⟨g3, 0, none⟩) pn pn)).setCell ⟨w.heap.size + 1, 0, none⟩ (.slice (some ⟨g0, 0, none⟩) xn xn)).setCell ⟨w.heap.size + 1, 1, none⟩ (.slice (some ⟨g1, 0, none⟩) yn yn)).setCell ⟨w.heap.size + 1, 2, none⟩ (.int .i64 g)).setCell ⟨w.heap.size + 1, 3, none⟩ (.slice (some ⟨g2, 0, none⟩) nn nn)).setCell ⟨w.heap.size + 1, 4, none⟩ (.slice (some ⟨g3, 0, none⟩) pn pn))) := (o5.out.mono (fun y _ e => .inr e)).trans (o7.out.mono (fun y _ e => .inl e))
 have RF : Hid (StR ((((((w5.setCell ⟨w.heap.size + 1 + 1, 4, none⟩ (.slice (some ⟨g3, 0, none⟩) pn pn)).setCell ⟨w.heap.size + 1, 0, none⟩ (.slice (some ⟨g0, 0, none⟩) xn xn)).setCell ⟨w.heap.size + 1, 1, none⟩ (.slice (some ⟨g1, 0, none⟩) yn yn)).setCell ⟨w.heap.size + 1, 2, none⟩ (.int .i64 g)).setCell ⟨w.heap.size + 1, 3, none⟩ (.slice (some ⟨g2, 0, none⟩) nn nn)).setCell ⟨w.heap.size + 1, 4, none⟩ (.slice (some ⟨g3, 0, none⟩) pn pn)) (fun _ => True) (some ⟨g0, 0, none⟩) xn xn (some ⟨g1, 0, none⟩) yn yn (some ⟨g2, 0, none⟩) nn nn (some ⟨g3, 0, none⟩) pn pn d s) := by
  refine ⟨(D5.out.to o8.out (fun y hy e => by have := (D5.out.lt hy).1; rcases e with e | e <;> omega)).dk (fun _ _ => trivial), (N5.out.to o8.out (fun y hy _ e => by rcases e with e | e <;> omega)).mono (fun _ _ _ => trivial), ?_⟩
  have hp := (P5.out.to o8.out (fun e => by have := HG3.out; rcases e with e | e <;> omega))
  show Rw _ _ _ _ _
  rw [← HPN.out]
  exact hp.rw (Nat.le_refl _) (by omega) (fun e => by rw [List.eq_nil_of_length_eq_zero (HPN.out.symm.trans e)]; rfl) _ trivial
 have BF := hid (B5.out.trans (o8.out.below B5.out.size (fun y hy e => by rcases e with e | e <;> omega)))
 clear o5 o7 o8 J5 J6 D5 N5 P5 I5 K5
 go_wp2
 try simp only [Exit.inBlock, Exit.then]
 refine bodyPost_ret (v := .agg #[.slice (some ⟨g0, 0, none⟩) xn xn, .slice (some ⟨g1, 0, none⟩) yn yn, .int .i64 g, .slice (some ⟨g2, 0, none⟩) nn nn, .slice (some ⟨g3, 0, none⟩) pn pn]) ?_ rfl ?_
 ·exact results_sto1 rfl _ _ (w.heap.size + 1) rfl (J7.out.cell (j := 0) rfl) (J7.out.cell (j := 1) rfl) (J7.out.cell (j := 2) rfl) (J7.out.cell (j := 3) rfl) (J7.out.cell (j := 4) rfl)
 ·exact ⟨g0, g1, g2, g3, rfl, RF.out, BF.out⟩
open Go.RowKit
set_option linter.unusedVariables false
set_option maxHeartbeats 2000000 in
theorem equalI_any (S S' : Nat → Prop) (a a' : Option Addr) (n n' c c' : Nat) (l l' : List Int) (w : World) (h : Ir w S (.slice a n c) l) (h' : Ir w S' (.slice a' n' c') l') :
  Calls Tryz.prog 49 #[.slice a n c, .slice a' n' c'] w fun e w' => e = .returned (.bool (decide (l = l'))) ∧ Below w.heap.size w w' := by
 obtain ⟨hn, hnc, hcc⟩ := Rw.len h
 obtain ⟨hn', hnc', hcc'⟩ := Rw.len h'
 have HN := hid hn
 have HN' := hid hn'
 have H0 := hid h
 have H0' := hid h'
 clear h h' hn hn'
 by_cases hne : n = n'
 ·subst hne
  have hz : ((n : Int) != (n : Int)) = false := by simp
  go_enter Tryz.func49, Tryz.ntmps49
  go_wp2
  go_loopw [13] (fun i wr => ∃ k : Nat, k ≤ n ∧ i = .int .i64 k ∧ Hid (Below w.heap.size w wr) ∧ Hid (l.take k = l'.take k)) (fun i _ => n - (intOf i).toNat)
  case atStart => exact ⟨0, Nat.zero_le _, rfl, Below.refl _ _, rfl⟩
  case round =>
   obtain ⟨k, hk, rfl, HB, HT⟩ := hrel
   by_cases hlt : k < n
   ·have hlt' : (k : Int) < (n : Int) := by omega
    have HP := hid (H0.out.below HB.out)
    have HP' := hid (H0'.out.below HB.out)
    obtain ⟨b, off, rfl, _, hbw, hcell⟩ := HP.out.at (by omega)
    obtain ⟨b', off', rfl, _, hbw', hcell'⟩ := HP'.out.at (by omega)
    have hck := hcell k hlt
    have hck' := hcell' k hlt
    have HS : Hid (iAt l k = iAt l' k → l.take (k + 1) = l'.take (k + 1)) := by
     intro e
     have hl : k < l.length := by rw [← HN.out]; exact hlt
     have hl' : k < l'.length := by rw [← HN'.out]; exact hlt
     rw [List.take_succ_eq_append_getElem hl, List.take_succ_eq_append_getElem hl', HT.out]
     simp [iAt, hl, hl'] at e
     rw [e]
    have HF : Hid (iAt l k ≠ iAt l' k → decide (l = l') = false) := by
     intro e
     rw [decide_eq_false_iff_not]
     intro e'
     exact e (by rw [e'])
    clear hcell hcell' hbw hbw' HP HP' HT
    generalize iAt l k = ck at *
    generalize iAt l' k = ck' at *
    by_cases he : ck = ck'
    ·have HS1 := hid (HS.out he)
     subst he
     have t : (ck != ck) = false := by simp
     clear HS HF
     go_wp2
     go_quiet (fail)
     go_wp2
     go_roundw
     case rel => exact ⟨k + 1, by omega, by go_num, Below.drewN' HB.out _, HS1.out⟩
     case measure => simp [intOf]; omega
    ·have HF1 := hid (HF.out he)
     have t : (ck != ck') = true := by simp [he]
     clear he HS HF
     go_wp2
     go_quiet (fail)
     go_wp2
     go_ret
     exact ⟨by rw [HF1.out]; rfl, Below.drewN' HB.out _⟩
   ·have HF : Hid (decide (l = l') = true) := by
     show decide (l = l') = true
     have hk' : k = n := by omega
     have e := HT.out
     have e1 : l.length ≤ k := by rw [← HN.out]; omega
     have e2 : l'.length ≤ k := by rw [← HN'.out]; omega
     rw [List.take_of_length_le e1, List.take_of_length_le e2] at e
     simp [e]
    clear HT
    go_wp2
    go_ret
    exact ⟨by rw [HF.out]; rfl, HB.out⟩
 ·have hz : ((n : Int) != (n' : Int)) = true := by simp; omega
  have HF : Hid (decide (l = l') = false) := by
   show decide (l = l') = false
   rw [decide_eq_false_iff_not]
   intro e
   exact hne (by rw [HN.out, HN'.out, e])
  clear hne
  go_enter Tryz.func49, Tryz.ntmps49
  go_wp2
  go_ret
  exact ⟨by rw [HF.out]; rfl, Below.refl _ _⟩
set_option maxHeartbeats 2000000 in
theorem sameInts_any (S S' : Nat → Prop) (a a' : Option Addr) (n n' c c' : Nat) (l l' : List Int) (w : World) (h : Ir w S (.slice a n c) l) (h' : Ir w S' (.slice a' n' c') l') :
  Calls Tryz.prog 46 #[.slice a n c, .slice a' n' c'] w fun e w' => e = .returned (.bool (decide (l = l'))) ∧ Below w.heap.size w w' := by
 obtain ⟨hn, hnc, hcc⟩ := Rw.len h
 obtain ⟨hn', hnc', hcc'⟩ := Rw.len h'
 have HN := hid hn
 have HN' := hid hn'
 have H0 := hid h
 have H0' := hid h'
 clear h h' hn hn'
 by_cases hne : n = n'
 ·subst hne
  have hz : ((n : Int) != (n : Int)) = false := by simp
  go_enter Tryz.func46, Tryz.ntmps46
  go_wp2
  go_loopw [13] (fun i wr => ∃ k : Nat, k ≤ n ∧ i = .int .i64 k ∧ Hid (Below w.heap.size w wr) ∧ Hid (l.take k = l'.take k)) (fun i _ => n - (intOf i).toNat)
  case atStart => exact ⟨0, Nat.zero_le _, rfl, Below.refl _ _, rfl⟩
  case round =>
   obtain ⟨k, hk, rfl, HB, HT⟩ := hrel
   by_cases hlt : k < n
   ·have hlt' : (k : Int) < (n : Int) := by omega
    have HP := hid (H0.out.below HB.out)
    have HP' := hid (H0'.out.below HB.out)
    obtain ⟨b, off, rfl, _, hbw, hcell⟩ := HP.out.at (by omega)
    obtain ⟨b', off', rfl, _, hbw', hcell'⟩ := HP'.out.at (by omega)
    have hck := hcell k hlt
    have hck' := hcell' k hlt
    have HS : Hid (iAt l k = iAt l' k → l.take (k + 1) = l'.take (k + 1)) := by
     intro e
     have hl : k < l.length := by rw [← HN.out]; exact hlt
     have hl' : k < l'.length := by rw [← HN'.out]; exact hlt
     rw [List.take_succ_eq_append_getElem hl, List.take_succ_eq_append_getElem hl', HT.out]
     simp [iAt, hl, hl'] at e
     rw [e]
    have HF : Hid (iAt l k ≠ iAt l' k → decide (l = l') = false) := by
     intro e
     rw [decide_eq_false_iff_not]
     intro e'
     exact e (by rw [e'])
    clear hcell hcell' hbw hbw' HP HP' HT
    generalize iAt l k = ck at *
    generalize iAt l' k = ck' at *
    by_cases he : ck = ck'
    ·have HS1 := hid (HS.out he)
     subst he
     have t : (ck != ck) = false := by simp
     clear HS HF
     go_wp2
     go_quiet (fail)
     go_wp2
     go_roundw
     case rel => exact ⟨k + 1, by omega, by go_num, Below.drewN' HB.out _, HS1.out⟩
     case measure => simp [intOf]; omega
    ·have HF1 := hid (HF.out he)
     have t : (ck != ck') = true := by simp [he]
     clear he HS HF
     go_wp2
     go_quiet (fail)
     go_wp2
     go_ret
     exact ⟨by rw [HF1.out]; rfl, Below.drewN' HB.out _⟩
   ·have HF : Hid (decide (l = l') = true) := by
     show decide (l = l') = true
     have hk' : k = n := by omega
     have e := HT.out
     have e1 : l.length ≤ k := by rw [← HN.out]; omega
     have e2 : l'.length ≤ k := by rw [← HN'.out]; omega
     rw [List.take_of_length_le e1, List.take_of_length_le e2] at e
     simp [e]
    clear HT
    go_wp2
    go_ret
    exact ⟨by rw [HF.out]; rfl, HB.out⟩
 ·have hz : ((n : Int) != (n' : Int)) = true := by simp; omega
  have HF : Hid (decide (l = l') = false) := by
   show decide (l = l') = false
   rw [decide_eq_false_iff_not]
   intro e
   exact hne (by rw [HN.out, HN'.out, e])
  clear hne
  go_enter Tryz.func46, Tryz.ntmps46
  go_wp2
  go_ret
  exact ⟨by rw [HF.out]; rfl, Below.refl _ _⟩
set_option maxHeartbeats 2000000 in
theorem equalS_any (S S' : Nat → Prop) (a a' : Option Addr) (n n' c c' : Nat) (l l' : List ByteArray) (w : World) (h : Sr w S (.slice a n c) l) (h' : Sr w S' (.slice a' n' c') l') :
  Calls Tryz.prog 90 #[.slice a n c, .slice a' n' c'] w fun e w' => e = .returned (.bool (decide (l = l'))) ∧ Below w.heap.size w w' := by
 obtain ⟨hn, hnc, hcc⟩ := Rw.len h
 obtain ⟨hn', hnc', hcc'⟩ := Rw.len h'
 have HN := hid hn
 have HN' := hid hn'
 have H0 := hid h
 have H0' := hid h'
 clear h h' hn hn'
 by_cases hne : n = n'
 ·subst hne
  have hz : ((n : Int) != (n : Int)) = false := by simp
  go_enter Tryz.func90, Tryz.ntmps90
  go_wp2
  go_loopw [13] (fun i wr => ∃ k : Nat, k ≤ n ∧ i = .int .i64 k ∧ Hid (Below w.heap.size w wr) ∧ Hid (l.take k = l'.take k)) (fun i _ => n - (intOf i).toNat)
  case atStart => exact ⟨0, Nat.zero_le _, rfl, Below.refl _ _, rfl⟩
  case round =>
   obtain ⟨k, hk, rfl, HB, HT⟩ := hrel
   by_cases hlt : k < n
   ·have hlt' : (k : Int) < (n : Int) := by omega
    have HP := hid (H0.out.below HB.out)
    have HP' := hid (H0'.out.below HB.out)
    obtain ⟨b, off, rfl, _, hbw, hcell⟩ := HP.out.at (by omega)
    obtain ⟨b', off', rfl, _, hbw', hcell'⟩ := HP'.out.at (by omega)
    have hck := hcell k hlt
    have hck' := hcell' k hlt
    have HS : Hid (sAt l k = sAt l' k → l.take (k + 1) = l'.take (k + 1)) := by
     intro e
     have hl : k < l.length := by rw [← HN.out]; exact hlt
     have hl' : k < l'.length := by rw [← HN'.out]; exact hlt
     rw [List.take_succ_eq_append_getElem hl, List.take_succ_eq_append_getElem hl', HT.out]
     simp [sAt, hl, hl'] at e
     rw [e]
    have HF : Hid (sAt l k ≠ sAt l' k → decide (l = l') = false) := by
     intro e
     rw [decide_eq_false_iff_not]
     intro e'
     exact e (by rw [e'])
    clear hcell hcell' hbw hbw' HP HP' HT
    generalize sAt l k = ck at *
    generalize sAt l' k = ck' at *
    by_cases he : ck = ck'
    ·have HS1 := hid (HS.out he)
     subst he
     skip
     clear HS HF
     go_wp2
     go_quiet (fail)
     go_wp2
     go_roundw
     case rel => exact ⟨k + 1, by omega, by go_num, Below.drewN' HB.out _, HS1.out⟩
     case measure => simp [intOf]; omega
    ·have HF1 := hid (HF.out he)
     have t := str_beq he
     clear he HS HF
     go_wp2
     go_quiet (fail)
     go_wp2
     go_ret
     exact ⟨by rw [HF1.out]; rfl, Below.drewN' HB.out _⟩
   ·have HF : Hid (decide (l = l') = true) := by
     show decide (l = l') = true
     have hk' : k = n := by omega
     have e := HT.out
     have e1 : l.length ≤ k := by rw [← HN.out]; omega
     have e2 : l'.length ≤ k := by rw [← HN'.out]; omega
     rw [List.take_of_length_le e1, List.take_of_length_le e2] at e
     simp [e]
    clear HT
    go_wp2
    go_ret
    exact ⟨by rw [HF.out]; rfl, HB.out⟩
 ·have hz : ((n : Int) != (n' : Int)) = true := by simp; omega
  have HF : Hid (decide (l = l') = false) := by
   show decide (l = l') = false
   rw [decide_eq_false_iff_not]
   intro e
   exact hne (by rw [HN.out, HN'.out, e])
  clear hne
  go_enter Tryz.func90, Tryz.ntmps90
  go_wp2
  go_ret
  exact ⟨by rw [HF.out]; rfl, Below.refl _ _⟩
set_option maxHeartbeats 2000000 in
theorem equalP_any (S S' : Nat → Prop) (a a' : Option Addr) (n n' c c' : Nat) (l l' : List PB) (w : World) (h : Pr w S (.slice a n c) l) (h' : Pr w S' (.slice a' n' c') l') :
  Calls Tryz.prog 89 #[.slice a n c, .slice a' n' c'] w fun e w' => e = .returned (.bool (decide (l = l'))) ∧ Below w.heap.size w w' := by
 obtain ⟨hn, hnc, hcc⟩ := Rw.len h
 obtain ⟨hn', hnc', hcc'⟩ := Rw.len h'
 have HN := hid hn
 have HN' := hid hn'
 have H0 := hid h
 have H0' := hid h'
 clear h h' hn hn'
 by_cases hne : n = n'
 ·subst hne
  have hz : ((n : Int) != (n : Int)) = false := by simp
  go_enter Tryz.func89, Tryz.ntmps89
  go_wp2
  go_loopw [13] (fun i wr => ∃ k : Nat, k ≤ n ∧ i = .int .i64 k ∧ Hid (Below w.heap.size w wr) ∧ Hid (l.take k = l'.take k)) (fun i _ => n - (intOf i).toNat)
  case atStart => exact ⟨0, Nat.zero_le _, rfl, Below.refl _ _, rfl⟩
  case round =>
   obtain ⟨k, hk, rfl, HB, HT⟩ := hrel
   by_cases hlt : k < n
   ·have hlt' : (k : Int) < (n : Int) := by omega
    have HP := hid (H0.out.below HB.out)
    have HP' := hid (H0'.out.below HB.out)
    obtain ⟨b, off, rfl, _, hbw, hcell⟩ := HP.out.at (by omega)
    obtain ⟨b', off', rfl, _, hbw', hcell'⟩ := HP'.out.at (by omega)
    obtain ⟨hc0, hc1⟩ := hcell k hlt
    obtain ⟨hd0, hd1⟩ := hcell' k hlt
    have HS : Hid (pAtB l k = pAtB l' k → l.take (k + 1) = l'.take (k + 1)) := by
     intro e
     have hl : k < l.length := by rw [← HN.out]; exact hlt
     have hl' : k < l'.length := by rw [← HN'.out]; exact hlt
     rw [List.take_succ_eq_append_getElem hl, List.take_succ_eq_append_getElem hl', HT.out]
     simp [pAtB, hl, hl'] at e
     rw [e]
    have HF : Hid (pAtB l k ≠ pAtB l' k → decide (l = l') = false) := by
     intro e
     rw [decide_eq_false_iff_not]
     intro e'
     exact e (by rw [e'])
    clear hcell hcell' hbw hbw' HP HP' HT
    generalize pAtB l k = ck at *
    generalize pAtB l' k = ck' at *
    obtain ⟨k1, v1⟩ := ck
    obtain ⟨k2, v2⟩ := ck'
    have hnq := neq_pair k1 v1 k2 v2
    by_cases he : (k1, v1) = (k2, v2)
    ·have HS1 := hid (HS.out he)
     rw [decide_eq_true he] at hnq
     clear he
     clear HS HF
     go_wp2
     go_quiet (fail)
     go_wp2
     go_roundw
     case rel => exact ⟨k + 1, by omega, by go_num, Below.drewN' HB.out _, HS1.out⟩
     case measure => simp [intOf]; omega
    ·have HF1 := hid (HF.out he)
     rw [decide_eq_false he] at hnq
     clear he HS HF
     go_wp2
     go_quiet (fail)
     go_wp2
     go_ret
     exact ⟨by rw [HF1.out]; rfl, Below.drewN' HB.out _⟩
   ·have HF : Hid (decide (l = l') = true) := by
     show decide (l = l') = true
     have hk' : k = n := by omega
     have e := HT.out
     have e1 : l.length ≤ k := by rw [← HN.out]; omega
     have e2 : l'.length ≤ k := by rw [← HN'.out]; omega
     rw [List.take_of_length_le e1, List.take_of_length_le e2] at e
     simp [e]
    clear HT
    go_wp2
    go_ret
    exact ⟨by rw [HF.out]; rfl, HB.out⟩
 ·have hz : ((n : Int) != (n' : Int)) = true := by simp; omega
  have HF : Hid (decide (l = l') = false) := by
   show decide (l = l') = false
   rw [decide_eq_false_iff_not]
   intro e
   exact hne (by rw [HN.out, HN'.out, e])
  clear hne
  go_enter Tryz.func89, Tryz.ntmps89
  go_wp2
  go_ret
  exact ⟨by rw [HF.out]; rfl, Below.refl _ _⟩
set_option maxHeartbeats 6400000 in
theorem implSameNode_any (S S' : Nat → Prop) (ap ax ai : Option Addr) (np cp nx cx ni ci : Nat) (ap' ax' ai' : Option Addr) (np' cp' nx' cx' ni' ci' : Nat) (x y : NB) (w : World)
  (hP : Pr w S (.slice ap np cp) x.ps) (hS : Sr w S (.slice ax nx cx) x.keys) (hI : Ir w S (.slice ai ni ci) x.kids) (hP' : Pr w S' (.slice ap' np' cp') y.ps) (hS' : Sr w S' (.slice ax' nx' cx') y.keys) (hI' : Ir w S' (.slice ai' ni' ci') y.kids) :
  Calls Tryz.prog 51 #[.agg #[.slice ap np cp, .slice ax nx cx, .slice ai ni ci], .agg #[.slice ap' np' cp', .slice ax' nx' cx', .slice ai' ni' ci']] w fun e w' => e = .returned (.bool (decide (x = y))) ∧ Below w.heap.size w w' := by
 have HD : Hid (decide (x = y) = (decide (x.ps = y.ps) && (decide (x.keys = y.keys) && decide (x.kids = y.kids)))) := by
  show _ = _
  rw [Bool.eq_iff_iff]
  simp only [Bool.and_eq_true, decide_eq_true_eq]
  constructor
  ·rintro rfl
   exact ⟨rfl, rfl, rfl⟩
  ·rintro ⟨h1, h2, h3⟩
   cases x; cases y; simp_all
 have B0 : Hid (Below w.heap.size w ((w.alloc (.cells #[.slice ap np cp, .slice ax nx cx, .slice ai ni ci] 85)).alloc (.cells #[.slice ap' np' cp', .slice ax' nx' cx', .slice ai' ni' ci'] 85))) := below_new (below_new (Below.refl _ _))
 have K0 := hid ((Bk.new w 85 [.slice ap np cp, .slice ax nx cx, .slice ai ni ci]).alloc (.cells #[.slice ap' np' cp', .slice ax' nx' cx', .slice ai' ni' ci'] 85))
 have J0 := hid (Bk.new (w.alloc (.cells #[.slice ap np cp, .slice ax nx cx, .slice ai ni ci] 85)) 85 [.slice ap' np' cp', .slice ax' nx' cx', .slice ai' ni' ci'])
 rw [show (w.alloc (.cells #[.slice ap np cp, .slice ax nx cx, .slice ai ni ci] 85)).heap.size = w.heap.size + 1 by simp] at J0
 have KP : Hid (∀ v : World, Below w.heap.size w v → Pr v S (.slice ap np cp) x.ps ∧ Sr v S (.slice ax nx cx) x.keys ∧ Ir v S (.slice ai ni ci) x.kids ∧ Pr v S' (.slice ap' np' cp') y.ps ∧ Sr v S' (.slice ax' nx' cx') y.keys ∧ Ir v S' (.slice ai' ni' ci') y.kids) := fun v h => ⟨hP.below h, hS.below h, hI.below h, hP'.below h, hS'.below h, hI'.below h⟩
 clear hP hS hI hP' hS' hI'
 go_enter Tryz.func51, Tryz.ntmps51
 go_wp2_with fail
 refine (equalP_any S S' ap ap' np np' cp cp' x.ps y.ps _ (KP.out _ B0.out).1 (KP.out _ B0.out).2.2.2.1).mono ?_
 generalize (w.alloc (.cells #[.slice ap np cp, .slice ax nx cx, .slice ai ni ci] 85)).alloc (.cells #[.slice ap' np' cp', .slice ax' nx' cx', .slice ai' ni' ci'] 85) = U at *
 rintro e w1 ⟨rfl, hb⟩
 have K1 := hid (K0.out.below hb)
 have J1 := hid (J0.out.below hb)
 have B1 := hid (B0.out.trans (hb.mono B0.out.size))
 clear hb K0 J0 B0
 generalize decide (x.ps = y.ps) = z1 at *
 cases z1 with
 | false =>
  go_wp2
  go_ret
  exact ⟨by rw [HD.out]; rfl, B1.out⟩
 | true =>
  have x0 := K1.out.cell (j := 0) rfl
  have y0 := J1.out.cell (j := 0) rfl
  have x1 := K1.out.cell (j := 1) rfl
  have y1 := J1.out.cell (j := 1) rfl
  have x2 := K1.out.cell (j := 2) rfl
  have y2 := J1.out.cell (j := 2) rfl
  go_wp2_with fail
  refine (equalS_any S S' ax ax' nx nx' cx cx' x.keys y.keys _ (KP.out _ B1.out).2.1 (KP.out _ B1.out).2.2.2.2.1).mono ?_
  rintro e w2 ⟨rfl, hb⟩
  have K2 := hid (K1.out.below hb)
  have J2 := hid (J1.out.below hb)
  have B2 := hid (B1.out.trans (hb.mono B1.out.size))
  clear hb K1 J1 B1 x0 x1 x2 y0 y1 y2
  generalize decide (x.keys = y.keys) = z2 at *
  cases z2 with
  | false =>
   go_wp2
   go_ret
   exact ⟨by rw [HD.out]; rfl, B2.out⟩
  | true =>
   have x0 := K2.out.cell (j := 0) rfl
   have y0 := J2.out.cell (j := 0) rfl
   have x1 := K2.out.cell (j := 1) rfl
   have y1 := J2.out.cell (j := 1) rfl
   have x2 := K2.out.cell (j := 2) rfl
   have y2 := J2.out.cell (j := 2) rfl
   go_wp2_with fail
   refine (equalI_any S S' ai ai' ni ni' ci ci' x.kids y.kids _ (KP.out _ B2.out).2.2.1 (KP.out _ B2.out).2.2.2.2.2).mono ?_
   rintro e w3 ⟨rfl, hb⟩
   have K3 := hid (K2.out.below hb)
   have J3 := hid (J2.out.below hb)
   have B3 := hid (B2.out.trans (hb.mono B2.out.size))
   clear hb K2 J2 B2 x0 x1 x2 y0 y1 y2
   generalize decide (x.kids = y.kids) = z3 at *
   go_wp2
   go_ret
   exact ⟨by rw [HD.out]; rfl, B3.out⟩
set_option maxHeartbeats 6400000 in
set_option maxRecDepth 20000 in
theorem equalN_any (S S' : Nat → Prop) (a a' : Option Addr) (n n' c c' : Nat) (l l' : List NB) (w : World) (h : Nr w S (.slice a n c) l) (h' : Nr w S' (.slice a' n' c') l') :
  Calls Tryz.prog 50 #[.slice a n c, .slice a' n' c', .func (.func 51) #[] #[]] w fun e w' => e = .returned (.bool (decide (l = l'))) ∧ Below w.heap.size w w' := by
 obtain ⟨hn, hnc, hcc⟩ := h.len
 obtain ⟨hn', hnc', hcc'⟩ := h'.len
 have HN := hid hn
 have HN' := hid hn'
 have H0 := hid h
 have H0' := hid h'
 clear h h' hn hn'
 by_cases hne : n = n'
 ·subst hne
  have hz : ((n : Int) != (n : Int)) = false := by simp
  go_enter Tryz.func50, Tryz.ntmps50
  go_wp2
  go_loopw [17] (fun i wr => ∃ k : Nat, k ≤ n ∧ i = .int .i64 k ∧ Hid (Below w.heap.size w wr) ∧ Hid (l.take k = l'.take k)) (fun i _ => n - (intOf i).toNat)
  case atStart => exact ⟨0, Nat.zero_le _, rfl, Below.refl _ _, rfl⟩
  case round =>
   obtain ⟨k, hk, rfl, HB, HT⟩ := hrel
   by_cases hlt : k < n
   ·have hlt' : (k : Int) < (n : Int) := by omega
    have HP := hid (H0.out.below HB.out)
    have HP' := hid (H0'.out.below HB.out)
    obtain ⟨b, off, rfl, _, hbw, hcell⟩ := HP.out.at (by omega)
    obtain ⟨ap, np, cp, ax, nx, cx, ai, ni, ci, q0, q1, q2, r0, r1, r2⟩ := hcell k hlt
    clear hcell
    obtain ⟨b', off', rfl, _, hbw', hcell'⟩ := HP'.out.at (by omega)
    obtain ⟨ap', np', cp', ax', nx', cx', ai', ni', ci', q0', q1', q2', r0', r1', r2'⟩ := hcell' k hlt
    clear hcell'
    have RR := hid (And.intro r0 (And.intro r1 r2))
    have RR' := hid (And.intro r0' (And.intro r1' r2'))
    clear r0 r1 r2 r0' r1' r2' HP HP'
    have HS : Hid (nAt l k = nAt l' k → l.take (k + 1) = l'.take (k + 1)) := by
     intro e
     have hl : k < l.length := by rw [← HN.out]; exact hlt
     have hl' : k < l'.length := by rw [← HN'.out]; exact hlt
     rw [List.take_succ_eq_append_getElem hl, List.take_succ_eq_append_getElem hl', HT.out]
     simp [nAt, hl, hl'] at e
     rw [e]
    have HF : Hid (nAt l k ≠ nAt l' k → decide (l = l') = false) := by
     intro e
     rw [decide_eq_false_iff_not]
     intro e'
     exact e (by rw [e'])
    clear HT
    have hb2 : Below wr.heap.size wr ((wr.alloc (.cells #[.slice ap np cp, .slice ax nx cx, .slice ai ni ci] 85)).alloc (.cells #[.slice ap' np' cp', .slice ax' nx' cx', .slice ai' ni' ci'] 85)) := below_new (below_new (Below.refl _ _))
    have B2 := hid (HB.out.trans (hb2.mono HB.out.size))
    have C2 := hid (implSameNode_any S S' ap ax ai np cp nx cx ni ci ap' ax' ai' np' cp' nx' cx' ni' ci' (nAt l k) (nAt l' k) _ (RR.out.1.below hb2) (RR.out.2.1.below hb2) (RR.out.2.2.below hb2) (RR'.out.1.below hb2) (RR'.out.2.1.below hb2) (RR'.out.2.2.below hb2))
    have qb := block_lt q0
    have qb' := block_lt q0'
    clear hb2 RR RR'
    go_wp2_with fail
    refine C2.out.mono ?_
    rintro e w4 ⟨rfl, hb⟩
    have B4 := hid (B2.out.trans (hb.mono B2.out.size))
    clear hb C2 B2 HB
    by_cases he : nAt l k = nAt l' k
    ·have HS1 := hid (HS.out he)
     rw [decide_eq_true he]
     clear HS HF he
     have hnt : (!true) = false := rfl
     go_wp2
     go_roundw
     case rel => exact ⟨k + 1, by omega, by go_num, B4.out, HS1.out⟩
     case measure => simp [intOf]; omega
    ·have HF1 := hid (HF.out he)
     rw [decide_eq_false he]
     clear HS HF he
     have hnt : (!false) = true := rfl
     go_wp2
     go_ret
     exact ⟨by rw [HF1.out]; rfl, B4.out⟩
   ·have HF : Hid (decide (l = l') = true) := by
     show decide (l = l') = true
     have hk' : k = n := by omega
     have e := HT.out
     have e1 : l.length ≤ k := by rw [← HN.out]; omega
     have e2 : l'.length ≤ k := by rw [← HN'.out]; omega
     rw [List.take_of_length_le e1, List.take_of_length_le e2] at e
     simp [e]
    clear HT
    go_wp2
    go_ret
    exact ⟨by rw [HF.out]; rfl, HB.out⟩
 ·have hz : ((n : Int) != (n' : Int)) = true := by simp; omega
  have HF : Hid (decide (l = l') = false) := by
   show decide (l = l') = false
   rw [decide_eq_false_iff_not]
   intro e
   exact hne (by rw [HN.out, HN'.out, e])
  clear hne
  go_enter Tryz.func50, Tryz.ntmps50
  go_wp2
  go_ret
  exact ⟨by rw [HF.out]; rfl, Below.refl _ _⟩
open Go.RowKit
set_option linter.unusedVariables false
set_option maxHeartbeats 8000000 in
set_option maxRecDepth 20000 in
theorem sameTree_any (S S' : Nat → Prop) (a a' : Option Addr) (n n' c c' : Nat) (l l' : List NB) (w : World) (h : Nr w S (.slice a n c) l) (h' : Nr w S' (.slice a' n' c') l') :
  Calls Tryz.prog 45 #[.agg #[.slice a n c], .agg #[.slice a' n' c']] w fun e w' => e = .returned (.bool (decide (l = l'))) ∧ Below w.heap.size w w' := by
 obtain ⟨hn, hnc, hcc⟩ := h.len
 obtain ⟨hn', hnc', hcc'⟩ := h'.len
 have HN := hid hn
 have HN' := hid hn'
 clear hn hn'
 by_cases hne : n = n'
 ·subst hne
  have hz : ((n : Int) != (n : Int)) = false := by simp
  have B0 : Hid (Below w.heap.size w ((w.alloc (.cells #[.slice a n c] 33)).alloc (.cells #[.slice a' n c'] 33))) := below_new (below_new (Below.refl _ _))
  have K0 := hid ((Bk.new w 33 [.slice a n c]).alloc (.cells #[.slice a' n c'] 33))
  have J0 := hid (Bk.new (w.alloc (.cells #[.slice a n c] 33)) 33 [.slice a' n c'])
  rw [show (w.alloc (.cells #[.slice a n c] 33)).heap.size = w.heap.size + 1 by simp] at J0
  have H0 := hid (h.below B0.out)
  have H0' := hid (h'.below B0.out)
  clear h h'
  go_enter Tryz.func45, Tryz.ntmps45
  go_wp2_with fail
  generalize (w.alloc (.cells #[.slice a n c] 33)).alloc (.cells #[.slice a' n c'] 33) = U at *
  go_loopw [16] (fun i wr => ∃ k : Nat, k ≤ n ∧ i = .int .i64 k ∧ Hid (Below U.heap.size U wr) ∧ Hid (l.take k = l'.take k)) (fun i _ => n - (intOf i).toNat)
  case atStart => exact ⟨0, Nat.zero_le _, rfl, Below.refl _ _, rfl⟩
  case round =>
   obtain ⟨k, hk, rfl, HB, HT⟩ := hrel
   by_cases hlt : k < n
   ·have hlt' : (k : Int) < (n : Int) := by omega
    have HP := hid (H0.out.below HB.out)
    have HP' := hid (H0'.out.below HB.out)
    obtain ⟨b, off, hA, _, hbw, hcell⟩ := HP.out.at (by omega)
    obtain ⟨b', off', hA', _, hbw', hcell'⟩ := HP'.out.at (by omega)
    subst hA hA'
    obtain ⟨ap, np, cp, ax, nx, cx, ai, ni, ci, q0, q1, q2, r0, r1, r2⟩ := hcell k hlt
    obtain ⟨ap', np', cp', ax', nx', cx', ai', ni', ci', q0', q1', q2', r0', r1', r2'⟩ := hcell' k hlt
    clear hcell hcell'
    have HS : Hid (nAt l k = nAt l' k → l.take (k + 1) = l'.take (k + 1)) := by
     intro e
     have hl : k < l.length := by rw [← HN.out]; exact hlt
     have hl' : k < l'.length := by rw [← HN'.out]; exact hlt
     rw [List.take_succ_eq_append_getElem hl, List.take_succ_eq_append_getElem hl', HT.out]
     simp [nAt, hl, hl'] at e
     rw [e]
    have HF : Hid (nAt l k ≠ nAt l' k → decide (l = l') = false) := by
     intro e
     rw [decide_eq_false_iff_not]
     intro e'
     exact e (by rw [e'])
    have bd := below_drew wr
    have CC := hid (sameNode_any S S' ap ax ai ap' ax' ai' np cp nx cx ni ci np' cp' nx' cx' ni' ci' (nAt l k) (nAt l' k) _ (r0.below bd) (r1.below bd) (r2.below bd) (r0'.below bd) (r1'.below bd) (r2'.below bd))
    have x0 := ((K0.out.below HB.out).below bd).cell (j := 0) rfl
    have y0 := ((J0.out.below HB.out).below bd).cell (j := 0) rfl
    have e0 := (bd.cell (p := ⟨b, off + k * 3, none⟩) hbw).trans q0
    have e1 := (bd.cell (p := ⟨b, off + k * 3 + 1, none⟩) hbw).trans q1
    have e2 := (bd.cell (p := ⟨b, off + k * 3 + 2, none⟩) hbw).trans q2
    have e0' := (bd.cell (p := ⟨b', off' + k * 3, none⟩) hbw').trans q0'
    have e1' := (bd.cell (p := ⟨b', off' + k * 3 + 1, none⟩) hbw').trans q1'
    have e2' := (bd.cell (p := ⟨b', off' + k * 3 + 2, none⟩) hbw').trans q2'
    have BD := hid (HB.out.trans (bd.mono HB.out.size))
    clear bd q0 q1 q2 q0' q1' q2' r0 r1 r2 r0' r1' r2' HP HP' HT HB
    go_wp2_with fail
    refine wp_region_noPanic ?_
    refine wp_region_held_drew (S := fun v => v.cell? ⟨w.heap.size, 0, none⟩ = some (.slice (some ⟨b, off, none⟩) n c) ∧ v.cell? ⟨w.heap.size + 1, 0, none⟩ = some (.slice (some ⟨b', off', none⟩) n c') ∧ v.cell? ⟨b, off + k * 3, none⟩ = some (.slice ap np cp) ∧ v.cell? ⟨b, off + k * 3 + 1, none⟩ = some (.slice ax nx cx) ∧ v.cell? ⟨b, off + k * 3 + 2, none⟩ = some (.slice ai ni ci) ∧ v.cell? ⟨b', off' + k * 3, none⟩ = some (.slice ap' np' cp') ∧ v.cell? ⟨b', off' + k * 3 + 1, none⟩ = some (.slice ax' nx' cx') ∧ v.cell? ⟨b', off' + k * 3 + 2, none⟩ = some (.slice ai' ni' ci')) (by kernel_rfl) (⟨x0, y0, e0, e1, e2, e0', e1', e2'⟩) (fun hHeld => ?_)
    simp only [List.size_toArray, List.length_cons, List.length_nil, Array.replicate_succ, Array.replicate_zero, Nat.reduceAdd, List.push_toArray, List.nil_append, List.cons_append]
    refine wpAnyH_take (i := 0) (v := (.pointer (some ⟨w.heap.size, 0, none⟩))) rfl (by kernel_rfl) (by kernel_rfl) (by kernel_rfl) (fun _ _ _ h => h) (Or.inl ⟨by rfl, ?_⟩) (by assumption) ?_
    ·intro w hSw
     (try dsimp only at hSw)
     go_simp
    try simp only [List.getElem_toArray]
    try simp only [List.getElem_cons_succ]
    try simp only [List.getElem_cons_zero]
    try simp only [Act.put]
    try simp only [List.setIfInBounds_toArray]
    try simp only [List.set_cons_succ]
    try simp only [List.set_cons_zero]
    refine wpAnyH_take (i := 1) (v := (.slice (some ⟨b, off, none⟩) n c)) rfl (by kernel_rfl) (by kernel_rfl) (by kernel_rfl) (fun _ _ _ h => h) (Or.inl ⟨by rfl, ?_⟩) (by assumption) ?_
    ·intro w hSw
     (try dsimp only at hSw)
     go_simp
    try simp only [List.getElem_toArray]
    try simp only [List.getElem_cons_succ]
    try simp only [List.getElem_cons_zero]
    try simp only [Act.put]
    try simp only [List.setIfInBounds_toArray]
    try simp only [List.set_cons_succ]
    try simp only [List.set_cons_zero]
    refine wpAnyH_take (i := 2) (v := (.int .i64 k)) rfl (by kernel_rfl) (by kernel_rfl) (by kernel_rfl) (fun _ _ _ h => h) (Or.inl ⟨by rfl, ?_⟩) (by assumption) ?_
    ·intro w hSw
     (try dsimp only at hSw)
     go_simp
    try simp only [List.getElem_toArray]
    try simp only [List.getElem_cons_succ]
    try simp only [List.getElem_cons_zero]
    try simp only [Act.put]
    try simp only [List.setIfInBounds_toArray]
    try simp only [List.set_cons_succ]
    try simp only [List.set_cons_zero]
    refine wpAnyH_take (i := 3) (v := (.pointer (some ⟨b, off + k * 3, none⟩))) rfl (by kernel_rfl) (by kernel_rfl) (by kernel_rfl) (fun _ _ _ h => h) (Or.inl ⟨by rfl, ?_⟩) (by assumption) ?_
    ·intro w hSw
     (try dsimp only at hSw)
     go_simp
    try simp only [List.getElem_toArray]
    try simp only [List.getElem_cons_succ]
    try simp only [List.getElem_cons_zero]
    try simp only [Act.put]
    try simp only [List.setIfInBounds_toArray]
    try simp only [List.set_cons_succ]
    try simp only [List.set_cons_zero]
    refine wpAnyH_take (i := 4) (v := (.agg #[.slice ap np cp, .slice ax nx cx, .slice ai ni ci])) rfl (by kernel_rfl) (by kernel_rfl) (by kernel_rfl) (fun _ _ _ h => h) (Or.inl ⟨by rfl, ?_⟩) (by assumption) ?_
    ·intro w hSw
     (try dsimp only at hSw)
     go_simp
    try simp only [List.getElem_toArray]
    try simp only [List.getElem_cons_succ]
    try simp only [List.getElem_cons_zero]
    try simp only [Act.put]
    try simp only [List.setIfInBounds_toArray]
    try simp only [List.set_cons_succ]
    try simp only [List.set_cons_zero]
    refine wpAnyH_take (i := 5) (v := (.pointer (some ⟨w.heap.size + 1, 0, none⟩))) rfl (by kernel_rfl) (by kernel_rfl) (by kernel_rfl) (fun _ _ _ h => h) (Or.inl ⟨by rfl, ?_⟩) (by assumption) ?_
    ·intro w hSw
     (try dsimp only at hSw)
     go_simp
    try simp only [List.getElem_toArray]
    try simp only [List.getElem_cons_succ]
    try simp only [List.getElem_cons_zero]
    try simp only [Act.put]
    try simp only [List.setIfInBounds_toArray]
    try simp only [List.set_cons_succ]
    try simp only [List.set_cons_zero]
    refine wpAnyH_take (i := 6) (v := (.slice (some ⟨b', off', none⟩) n c')) rfl (by kernel_rfl) (by kernel_rfl) (by kernel_rfl) (fun _ _ _ h => h) (Or.inl ⟨by rfl, ?_⟩) (by assumption) ?_
    ·intro w hSw
     (try dsimp only at hSw)
     go_simp
    try simp only [List.getElem_toArray]
    try simp only [List.getElem_cons_succ]
    try simp only [List.getElem_cons_zero]
    try simp only [Act.put]
    try simp only [List.setIfInBounds_toArray]
    try simp only [List.set_cons_succ]
    try simp only [List.set_cons_zero]
    refine wpAnyH_take (i := 7) (v := (.int .i64 k)) rfl (by kernel_rfl) (by kernel_rfl) (by kernel_rfl) (fun _ _ _ h => h) (Or.inl ⟨by rfl, ?_⟩) (by assumption) ?_
    ·intro w hSw
     (try dsimp only at hSw)
     go_simp
    try simp only [List.getElem_toArray]
    try simp only [List.getElem_cons_succ]
    try simp only [List.getElem_cons_zero]
    try simp only [Act.put]
    try simp only [List.setIfInBounds_toArray]
    try simp only [List.set_cons_succ]
    try simp only [List.set_cons_zero]
    refine wpAnyH_take (i := 8) (v := (.pointer (some ⟨b', off' + k * 3, none⟩))) rfl (by kernel_rfl) (by kernel_rfl) (by kernel_rfl) (fun _ _ _ h => h) (Or.inl ⟨by rfl, ?_⟩) (by assumption) ?_
    ·intro w hSw
     (try dsimp only at hSw)
     go_simp
    try simp only [List.getElem_toArray]
    try simp only [List.getElem_cons_succ]
    try simp only [List.getElem_cons_zero]
    try simp only [Act.put]
    try simp only [List.setIfInBounds_toArray]
    try simp only [List.set_cons_succ]
    try simp only [List.set_cons_zero]
    refine wpAnyH_take (i := 9) (v := (.agg #[.slice ap' np' cp', .slice ax' nx' cx', .slice ai' ni' ci'])) rfl (by kernel_rfl) (by kernel_rfl) (by kernel_rfl) (fun _ _ _ h => h) (Or.inl ⟨by rfl, ?_⟩) (by assumption) ?_
    ·intro w hSw
     (try dsimp only at hSw)
     go_simp
    try simp only [List.getElem_toArray]
    try simp only [List.getElem_cons_succ]
    try simp only [List.getElem_cons_zero]
    try simp only [Act.put]
    try simp only [List.setIfInBounds_toArray]
    try simp only [List.set_cons_succ]
    try simp only [List.set_cons_zero]
    refine wpAnyH_ready (rs := [10]) (by kernel_rfl) (by simp) ?_
    refine AllReadyH.cons rfl (fun K1 hK => ?_) AllReadyH.nil
    go_simp
    refine CC.out.mono ?_
    rintro r w4 ⟨rfl, hb⟩
    have B4 := hid (BD.out.trans (hb.mono BD.out.size))
    go_wp2_with fail
    refine hK.out _ _ ?_ (fun hHeld => ?_)
    ·exact ⟨(hb.cell (block_lt x0)).trans x0, (hb.cell (block_lt y0)).trans y0, (hb.cell (block_lt e0)).trans e0, (hb.cell (block_lt e1)).trans e1, (hb.cell (block_lt e2)).trans e2, (hb.cell (block_lt e0')).trans e0', (hb.cell (block_lt e1')).trans e1', (hb.cell (block_lt e2')).trans e2'⟩
    clear hK K1
    try simp only [List.getElem_toArray]
    try simp only [List.getElem_cons_succ]
    try simp only [List.getElem_cons_zero]
    try simp only [Act.put]
    try simp only [List.setIfInBounds_toArray]
    try simp only [List.set_cons_succ]
    try simp only [List.set_cons_zero]
    clear hb CC BD x0 y0 e0 e1 e2 e0' e1' e2'
    by_cases he : nAt l k = nAt l' k
    ·have H1 := hid (HS.out he)
     rw [decide_eq_true he]
     clear HS HF he
     refine wpAnyH_take (i := 11) (v := (.bool false)) rfl (by kernel_rfl) (by kernel_rfl) (by kernel_rfl) (fun _ _ _ h => h) (Or.inl ⟨by rfl, ?_⟩) (by assumption) ?_
     ·intro w hSw
      (try dsimp only at hSw)
      go_simp
     try simp only [List.getElem_toArray]
     try simp only [List.getElem_cons_succ]
     try simp only [List.getElem_cons_zero]
     try simp only [Act.put]
     try simp only [List.setIfInBounds_toArray]
     try simp only [List.set_cons_succ]
     try simp only [List.set_cons_zero]
     refine wpAnyH_done (by kernel_rfl) ?_ _
     refine NoPanic.normal ?_
     go_wp2
     go_roundw
     case rel => exact ⟨k + 1, by omega, by go_num, B4.out, H1.out⟩
     case measure => simp [intOf]; omega
    ·have H1 := hid (HF.out he)
     rw [decide_eq_false he]
     clear HS HF he
     refine wpAnyH_take (i := 11) (v := (.bool true)) rfl (by kernel_rfl) (by kernel_rfl) (by kernel_rfl) (fun _ _ _ h => h) (Or.inl ⟨by rfl, ?_⟩) (by assumption) ?_
     ·intro w hSw
      (try dsimp only at hSw)
      go_simp
     try simp only [List.getElem_toArray]
     try simp only [List.getElem_cons_succ]
     try simp only [List.getElem_cons_zero]
     try simp only [Act.put]
     try simp only [List.setIfInBounds_toArray]
     try simp only [List.set_cons_succ]
     try simp only [List.set_cons_zero]
     refine wpAnyH_done (by kernel_rfl) ?_ _
     refine NoPanic.normal ?_
     go_wp2
     go_ret
     exact ⟨by rw [H1.out]; rfl, B0.out.trans (B4.out.mono B0.out.size)⟩
   ·have HF : Hid (decide (l = l') = true) := by
     show decide (l = l') = true
     have hk' : k = n := by omega
     have e := HT.out
     have e1 : l.length ≤ k := by rw [← HN.out]; omega
     have e2 : l'.length ≤ k := by rw [← HN'.out]; omega
     rw [List.take_of_length_le e1, List.take_of_length_le e2] at e
     simp [e]
    clear HT
    go_wp2
    go_ret
    exact ⟨by rw [HF.out]; rfl, B0.out.trans (HB.out.mono B0.out.size)⟩
 ·have hz : ((n : Int) != (n' : Int)) = true := by simp; omega
  have HF : Hid (decide (l = l') = false) := by
   show decide (l = l') = false
   rw [decide_eq_false_iff_not]
   intro e
   exact hne (by rw [HN.out, HN'.out, e])
  have B0 : Hid (Below w.heap.size w ((w.alloc (.cells #[.slice a n c] 33)).alloc (.cells #[.slice a' n' c'] 33))) := below_new (below_new (Below.refl _ _))
  clear hne h h'
  go_enter Tryz.func45, Tryz.ntmps45
  go_wp2
  go_ret
  exact ⟨by rw [HF.out]; rfl, B0.out⟩
open Go.RowKit
set_option linter.unusedVariables false
set_option maxHeartbeats 16000000 in
set_option maxRecDepth 20000 in
theorem l05Copy_any (S : Nat → Prop) (sa : Option Addr) (sn sc : Nat) (da : Option Addr) (dn dc : Nat) (d : DK) (w : World) (h : Dk w S sa sn sc da dn dc d) (hsm : smallD d) (h1 : sn ≤ 1048576) (h2 : dn ≤ 1048576) :
  Calls Tryz.prog 25 #[.agg #[.slice sa sn sc, .slice da dn dc]] w fun e w' => DkPost1 d w e w' := by
 have HS := hid h.hs
 have HD := hid h.hd
 have HSM := hid hsm
 have HNS := hid h.hs.len.1
 have HND := hid h.hd.len.1
 have C0 := hid (CX.start w sa sn sc da dn dc)
 clear h hsm
 go_enter Tryz.func25, Tryz.ntmps25
 go_wp2_with fail
 go_loopw [12] (fun i wr => ∃ (k : Nat) (xa : Option Addr) (xn xc : Nat) (V : List Value), k ≤ sn ∧ i = .int .i64 k ∧ Hid (CX w wr sa sn sc da dn dc xa xn xc none 0 0 V [] ⟨d.sh.take k, []⟩)) (fun i _ => sn - (intOf i).toNat)
 case atStart => exact ⟨0, none, 0, 0, [], Nat.zero_le _, rfl, C0.out⟩
 case round =>
  obtain ⟨k, xa, xn, xc, V, hk, rfl, CC⟩ := hrel
  clear C0
  by_cases hlt : k < sn
  ·have hlt' : (k : Int) < (sn : Int) := by omega
   obtain ⟨b, off, rfl, _, hbw, hcell⟩ := (HS.out.below CC.out.bel).at (by omega)
   obtain ⟨ap, np, cp, m0, hp⟩ := hcell k hlt
   have hkl : k < d.sh.length := by rw [← HNS.out]; exact hlt
   have hnp : np ≤ 1048576 := by rw [hp.len.1]; exact HSM.out.1 k hkl
   have hb0 := below_new (o := .cells #[.slice ap np cp] 102) (w := wr) (Below.refl _ _)
   have CU := hid (CC.out.below hb0)
   have HBY := hid hp.2
   have HL : Hid ((d.sh.take k).length = k) := by show _ = _; rw [List.length_take]; omega
   have HTK := hid (take_sh hkl)
   have HBX : Hid (∀ z, Below (wr.alloc (.cells #[.slice ap np cp] 102)).heap.size (wr.alloc (.cells #[.slice ap np cp] 102)) z → z.cell? ⟨w.heap.size + 1 + 1, 0, none⟩ = some (.slice xa xn xc) ∧ z.frozen? ⟨w.heap.size + 1 + 1, 0, none⟩ = false ∧ z.ownsRow (w.heap.size + 3) 102 1 (.slice xa xn xc) k V) := fun z hz => by
    have c := CU.out.below hz
    refine ⟨c.k2.cell (j := 0) rfl, c.k2.free 0, ?_⟩
    have := c.own.hs.row
    rwa [HL.out] at this
   have SS : Hid (w.heap.size + 1 + 1 < wr.heap.size) := CC.out.k2.lt
   have HNE : Hid ((Value.slice xa xn xc).ownBlock ≠ some (w.heap.size + 1 + 1)) := fun e => by have := (World.ownsRow.lt CC.out.own.hs.row _ e).1; omega
   have HFIN : Hid (∀ (w4 : World) (a4 : Option Addr) (n4 c4 : Nat) (a5 : Option Addr) (n5 c5 : Nat) (w5 : World), Ob w4 (wr.alloc (.cells #[.slice ap np cp] 102)).heap.size (.slice a4 n4 c4) (shAt d.sh k) → Below (wr.alloc (.cells #[.slice ap np cp] 102)).heap.size (wr.alloc (.cells #[.slice ap np cp] 102)) w4 → w5.ownsRow (w.heap.size + 3) 102 1 (.slice a5 n5 c5) (k + 1) (V ++ [.slice a4 n4 c4]) → (w4.alloc (.cells #[.slice a4 n4 c4] 102)).grownBy w5 (Value.slice xa xn xc).ownBlock → ((Value.slice a5 n5 c5).ownBlock = (Value.slice xa xn xc).ownBlock ∨ (Value.slice a5 n5 c5).ownBlock = some (w4.alloc (.cells #[.slice a4 n4 c4] 102)).heap.size) →
     CX w (w5.setCell ⟨w.heap.size + 1 + 1, 0, none⟩ (.slice a5 n5 c5)) (some ⟨b, off, none⟩) sn sc da dn dc a5 n5 c5 none 0 0 (V ++ [.slice a4 n4 c4]) [] ⟨d.sh.take (k + 1), []⟩) := by
    intro w4 a4 n4 c4 a5 n5 c5 w5 hO4 hb4 hO5 hg5 ha5
    rw [HTK.out]
    have hbn := below_new (o := .cells #[.slice a4 n4 c4] 102) (w := w4) (Below.refl _ _)
    exact CU.out.pushS (bt7 hb4 hbn) _ _ (own_kept hO4 (only_of_below hbn (fun _ => False)) (fun _ _ h => h)) HBY.out (by rw [HL.out]; exact hO5) hg5 ha5
   have c1 := CC.out.k2.cell (j := 0) rfl
   have s1 := SS.out
   have s1b : w.heap.size + 1 + 1 < wr.heap.size + 1 := by omega
   have hk6 : k ≤ 1048576 := by omega
   have HS4 : Hid (∀ z, Below (wr.alloc (.cells #[.slice ap np cp] 102)).heap.size (wr.alloc (.cells #[.slice ap np cp] 102)) z → w.heap.size + 1 + 1 < z.heap.size) := fun z hz => by have h1 := hz.size; have h2 := CU.out.k2.lt; omega
   have HS5 : Hid (∀ z, Below (wr.alloc (.cells #[.slice ap np cp] 102)).heap.size (wr.alloc (.cells #[.slice ap np cp] 102)) z → wr.heap.size < z.heap.size) := fun z hz => by have h1 := hz.size; simp at h1; omega
   have hbe : Below (wr.alloc (.cells #[.slice ap np cp] 102)).heap.size (wr.alloc (.cells #[.slice ap np cp] 102)) ((wr.alloc (.cells #[.slice ap np cp] 102)).alloc (.cells #[] 5)).drew := bt7 (below_new (Below.refl _ _)) (below_drew _)
   have HUS : Hid ((wr.alloc (.cells #[.slice ap np cp] 102)).heap.size = wr.heap.size + 1) := by show _ = _; simp
   have HOB : Hid (Ob ((wr.alloc (.cells #[.slice ap np cp] 102)).alloc (.cells #[] 5)).drew (wr.heap.size + 1) (.slice (some ⟨wr.heap.size + 1, 0, none⟩) 0 0) []) := by
    have := ob_new (wr.alloc (.cells #[.slice ap np cp] 102)) (wr.alloc (.cells #[.slice ap np cp] 102)).heap.size (Nat.le_refl _)
    rw [HUS.out] at this
    exact own_kept this (only_of_below (below_drew _) (fun _ => False)) (fun _ _ h => h)
   have HRD2 : Hid (Rd ((wr.alloc (.cells #[.slice ap np cp] 102)).alloc (.cells #[] 5)).drew ap np cp (shAt d.sh k)) := (hp.rd hnp).kept (bt7 hb0 hbe)
   have hzb : ([] : List Int).length + (shAt d.sh k).length ≤ 70368744177664 := by rw [← hp.len.1]; simp; omega
   have HZ2 : Hid (wr.heap.size + 1 ≤ ((wr.alloc (.cells #[.slice ap np cp] 102)).alloc (.cells #[] 5)).drew.heap.size) := by have := hbe.size; rw [HUS.out] at this; exact this
   have HB4 : Hid (∀ w4 : World, ((wr.alloc (.cells #[.slice ap np cp] 102)).alloc (.cells #[] 5)).drew.grownBy w4 (Value.slice (some ⟨wr.heap.size + 1, 0, none⟩) 0 0).ownBlock → Below (wr.alloc (.cells #[.slice ap np cp] 102)).heap.size (wr.alloc (.cells #[.slice ap np cp] 102)) w4) := fun w4 hg => hbe.trans ((only_of_grown hg (R := fun y => (Value.slice (some ⟨wr.heap.size + 1, 0, none⟩) 0 0).ownBlock = some y) (fun k e => e)).below hbe.size (fun y hy e => by have e' : wr.heap.size + 1 = y := (by simpa [Value.ownBlock] using e); rw [HUS.out] at hy; omega))
   have HCV : Hid (∀ (w4 : World) (v4 : Value), Ob w4 (wr.heap.size + 1) v4 ([] ++ (shAt d.sh k)) → Ob w4 (wr.alloc (.cells #[.slice ap np cp] 102)).heap.size v4 (shAt d.sh k)) := fun w4 v4 hO => by rw [HUS.out]; simpa using hO
   clear hbe
   have HSZ : Hid (∀ z, Below (wr.alloc (.cells #[.slice ap np cp] 102)).heap.size (wr.alloc (.cells #[.slice ap np cp] 102)) z → w.heap.size + 3 ≤ z.heap.size) := fun z hz => by have h1 := hz.size; have h2 := CU.out.k2.lt; omega
   clear hcell hbw hp hb0 CC HBY
   go_wp2_with fail
   go_region_law (first
    | (refine step_append_rd rfl _ _ rfl (wr.heap.size + 1) _ [] rfl HOB.out ap np cp (shAt d.sh k) rfl HRD2.out hzb HZ2.out ?_; intro a4 n4 c4 w4 hO4 hg4; have hb4 := HB4.out w4 hg4; have q1 := (HBX.out w4 hb4).1; have s4 := HS4.out w4 hb4)
    | (refine step_append_g rfl _ _ _ rfl (w.heap.size + 3) 102 (.agg #[.slice none 0 0]) 1 24 Tryz.underlying27 infoSheetI rfl (by decide) (by decide) (.slice xa xn xc) k V rfl (HBX.out _ (bt7 hb4 (below_new (Below.refl _ _)))).2.2 w4.heap.size [.slice a4 n4 c4] rfl (rw_one (Bk.new w4 _ [_])) rfl (by intro u hu; simp at hu; subst hu; rfl) hk6 (HSZ.out _ (bt7 hb4 (below_new (Below.refl _ _)))) (w.heap.size + 1 + 1) 0 _ (HBX.out _ (bt7 hb4 (below_new (Below.refl _ _)))).1 (HBX.out _ (bt7 hb4 (below_new (Below.refl _ _)))).2.1 HNE.out ?_; intro a5 n5 c5 w5 hO5 hg5 ha5 hc5 hf5))
   all_goals go_wp2
   all_goals exact ⟨⟨k + 1, a5, n5, c5, _, by omega, by go_num, HFIN.out w4 a4 n4 c4 a5 n5 c5 w5 (HCV.out _ _ hO4) hb4 hO5 hg5 ha5⟩, by simp [intOf]; omega⟩
  ·have hks : k = d.sh.length := by rw [← HNS.out]; omega
   have CD : Hid (CX w wr sa sn sc da dn dc xa xn xc none 0 0 V [] ⟨d.sh, []⟩) := by
    have := CC.out
    rwa [hks, List.take_length] at this
   clear CC hks
   have d1 := CD.out.k0.cell (j := 1) rfl
   go_wp2_with fail
   clear d1
   go_loopw [30] (fun i wr => ∃ (j : Nat) (ya : Option Addr) (yn yc : Nat) (Uu : List (Int × Value)), j ≤ dn ∧ i = .int .i64 j ∧ Hid (CX w wr sa sn sc da dn dc xa xn xc ya yn yc V Uu ⟨d.sh, d.dw.take j⟩)) (fun i _ => dn - (intOf i).toNat)
   case atStart => exact ⟨0, none, 0, 0, [], Nat.zero_le _, rfl, CD.out⟩
   case round =>
    clear CD
    obtain ⟨j, ya, yn, yc, Uu, hj, rfl, CC⟩ := hrel
    by_cases hlt2 : j < dn
    ·have hlt' : (j : Int) < (dn : Int) := by omega
     obtain ⟨b, off, rfl, _, hbw, hcell⟩ := (HD.out.below CC.out.bel).at (by omega)
     obtain ⟨ap, np, cp, mt, m0, hp⟩ := hcell j hlt2
     have hkl : j < d.dw.length := by rw [← HND.out]; exact hlt2
     have hnp : np ≤ 1048576 := by rw [hp.len.1]; exact HSM.out.2 j hkl
     have HTK := hid (take_dw hkl)
     generalize (dwAt d.dw j).1 = tt at *
     have hb0 := below_new (o := .cells #[.int .i64 tt, .slice ap np cp] 103) (w := wr) (Below.refl _ _)
     have CU := hid (CC.out.below hb0)
     have HBY := hid hp.2
     have HL : Hid ((d.dw.take j).length = j) := by show _ = _; rw [List.length_take]; omega
     have HBX : Hid (∀ z, Below (wr.alloc (.cells #[.int .i64 tt, .slice ap np cp] 103)).heap.size (wr.alloc (.cells #[.int .i64 tt, .slice ap np cp] 103)) z → z.cell? ⟨w.heap.size + 1 + 1, 1, none⟩ = some (.slice ya yn yc) ∧ z.frozen? ⟨w.heap.size + 1 + 1, 1, none⟩ = false ∧ z.ownsRow (w.heap.size + 3) 103 2 (.slice ya yn yc) j (wcs Uu) ∧ z.cell? ⟨wr.heap.size, 0, none⟩ = some (.int .i64 tt)) := fun z hz => by
      have c := CU.out.below hz
      refine ⟨c.k2.cell (j := 1) rfl, c.k2.free 1, ?_, ((Bk.new wr 103 [.int .i64 tt, .slice ap np cp]).below hz).cell (j := 0) rfl⟩
      have := c.own.hd.row
      rwa [HL.out] at this
     have SS : Hid (w.heap.size + 1 + 1 < wr.heap.size) := CC.out.k2.lt
     have HNE : Hid ((Value.slice ya yn yc).ownBlock ≠ some (w.heap.size + 1 + 1)) := fun e => by have := (World.ownsRow.lt CC.out.own.hd.row _ e).1; omega
     have HFIN : Hid (∀ (w4 : World) (a4 : Option Addr) (n4 c4 : Nat) (a5 : Option Addr) (n5 c5 : Nat) (w5 : World), Ob w4 (wr.alloc (.cells #[.int .i64 tt, .slice ap np cp] 103)).heap.size (.slice a4 n4 c4) (dwAt d.dw j).2 → Below (wr.alloc (.cells #[.int .i64 tt, .slice ap np cp] 103)).heap.size (wr.alloc (.cells #[.int .i64 tt, .slice ap np cp] 103)) w4 → w5.ownsRow (w.heap.size + 3) 103 2 (.slice a5 n5 c5) (j + 1) (wcs Uu ++ [.int .i64 tt, .slice a4 n4 c4]) → (w4.alloc (.cells #[.int .i64 tt, .slice a4 n4 c4] 103)).grownBy w5 (Value.slice ya yn yc).ownBlock → ((Value.slice a5 n5 c5).ownBlock = (Value.slice ya yn yc).ownBlock ∨ (Value.slice a5 n5 c5).ownBlock = some (w4.alloc (.cells #[.int .i64 tt, .slice a4 n4 c4] 103)).heap.size) →
       CX w (w5.setCell ⟨w.heap.size + 1 + 1, 1, none⟩ (.slice a5 n5 c5)) sa sn sc (some ⟨b, off, none⟩) dn dc xa xn xc a5 n5 c5 V (Uu ++ [(tt, .slice a4 n4 c4)]) ⟨d.sh, d.dw.take (j + 1)⟩) := by
      intro w4 a4 n4 c4 a5 n5 c5 w5 hO4 hb4 hO5 hg5 ha5
      rw [HTK.out]
      have hbn := below_new (o := .cells #[.int .i64 tt, .slice a4 n4 c4] 103) (w := w4) (Below.refl _ _)
      exact CU.out.pushW (bt7 hb4 hbn) tt _ _ (own_kept hO4 (only_of_below hbn (fun _ => False)) (fun _ _ h => h)) HBY.out (by rw [HL.out]; exact hO5) hg5 ha5
     have c1 := CC.out.k2.cell (j := 1) rfl
     have s1 := SS.out
     have s1b : w.heap.size + 1 + 1 < wr.heap.size + 1 := by omega
     have hk6 : j ≤ 1048576 := by omega
     have HS4 : Hid (∀ z, Below (wr.alloc (.cells #[.int .i64 tt, .slice ap np cp] 103)).heap.size (wr.alloc (.cells #[.int .i64 tt, .slice ap np cp] 103)) z → w.heap.size + 1 + 1 < z.heap.size) := fun z hz => by have h1 := hz.size; have h2 := CU.out.k2.lt; omega
     have HS5 : Hid (∀ z, Below (wr.alloc (.cells #[.int .i64 tt, .slice ap np cp] 103)).heap.size (wr.alloc (.cells #[.int .i64 tt, .slice ap np cp] 103)) z → wr.heap.size < z.heap.size) := fun z hz => by have h1 := hz.size; simp at h1; omega
     have hbe : Below (wr.alloc (.cells #[.int .i64 tt, .slice ap np cp] 103)).heap.size (wr.alloc (.cells #[.int .i64 tt, .slice ap np cp] 103)) ((wr.alloc (.cells #[.int .i64 tt, .slice ap np cp] 103)).alloc (.cells #[] 5)).drew := bt7 (below_new (Below.refl _ _)) (below_drew _)
     have HUS : Hid ((wr.alloc (.cells #[.int .i64 tt, .slice ap np cp] 103)).heap.size = wr.heap.size + 1) := by show _ = _; simp
     have HOB : Hid (Ob ((wr.alloc (.cells #[.int .i64 tt, .slice ap np cp] 103)).alloc (.cells #[] 5)).drew (wr.heap.size + 1) (.slice (some ⟨wr.heap.size + 1, 0, none⟩) 0 0) []) := by
      have := ob_new (wr.alloc (.cells #[.int .i64 tt, .slice ap np cp] 103)) (wr.alloc (.cells #[.int .i64 tt, .slice ap np cp] 103)).heap.size (Nat.le_refl _)
      rw [HUS.out] at this
      exact own_kept this (only_of_below (below_drew _) (fun _ => False)) (fun _ _ h => h)
     have HRD2 : Hid (Rd ((wr.alloc (.cells #[.int .i64 tt, .slice ap np cp] 103)).alloc (.cells #[] 5)).drew ap np cp (dwAt d.dw j).2) := (hp.rd hnp).kept (bt7 hb0 hbe)
     have hzb : ([] : List Int).length + (dwAt d.dw j).2.length ≤ 70368744177664 := by rw [← hp.len.1]; simp; omega
     have HZ2 : Hid (wr.heap.size + 1 ≤ ((wr.alloc (.cells #[.int .i64 tt, .slice ap np cp] 103)).alloc (.cells #[] 5)).drew.heap.size) := by have := hbe.size; rw [HUS.out] at this; exact this
     have HB4 : Hid (∀ w4 : World, ((wr.alloc (.cells #[.int .i64 tt, .slice ap np cp] 103)).alloc (.cells #[] 5)).drew.grownBy w4 (Value.slice (some ⟨wr.heap.size + 1, 0, none⟩) 0 0).ownBlock → Below (wr.alloc (.cells #[.int .i64 tt, .slice ap np cp] 103)).heap.size (wr.alloc (.cells #[.int .i64 tt, .slice ap np cp] 103)) w4) := fun w4 hg => hbe.trans ((only_of_grown hg (R := fun y => (Value.slice (some ⟨wr.heap.size + 1, 0, none⟩) 0 0).ownBlock = some y) (fun k e => e)).below hbe.size (fun y hy e => by have e' : wr.heap.size + 1 = y := (by simpa [Value.ownBlock] using e); rw [HUS.out] at hy; omega))
     have HCV : Hid (∀ (w4 : World) (v4 : Value), Ob w4 (wr.heap.size + 1) v4 ([] ++ (dwAt d.dw j).2) → Ob w4 (wr.alloc (.cells #[.int .i64 tt, .slice ap np cp] 103)).heap.size v4 (dwAt d.dw j).2) := fun w4 v4 hO => by rw [HUS.out]; simpa using hO
     clear hbe
     have HSZ : Hid (∀ z, Below (wr.alloc (.cells #[.int .i64 tt, .slice ap np cp] 103)).heap.size (wr.alloc (.cells #[.int .i64 tt, .slice ap np cp] 103)) z → w.heap.size + 3 ≤ z.heap.size) := fun z hz => by have h1 := hz.size; have h2 := CU.out.k2.lt; omega
     clear hcell hbw hp hb0 CC HBY
     go_wp2_with fail
     go_region_law (first
      | (refine step_append_rd rfl _ _ rfl (wr.heap.size + 1) _ [] rfl HOB.out ap np cp (dwAt d.dw j).2 rfl HRD2.out hzb HZ2.out ?_; intro a4 n4 c4 w4 hO4 hg4; have hb4 := HB4.out w4 hg4; have q1 := (HBX.out w4 hb4).1; have s4 := HS4.out w4 hb4; have q2 := (HBX.out w4 hb4).2.2.2; have s5 := HS5.out w4 hb4)
      | (refine step_append_g rfl _ _ _ rfl (w.heap.size + 3) 103 (.agg #[.int .i64 0, .slice none 0 0]) 2 32 Tryz.underlying28 infoWriteI rfl (by decide) (by decide) (.slice ya yn yc) j (wcs Uu) rfl (HBX.out _ (bt7 hb4 (below_new (Below.refl _ _)))).2.2.1 w4.heap.size [.int .i64 tt, .slice a4 n4 c4] rfl (rw_two (Bk.new w4 _ [_, _])) rfl (by intro u hu; simp at hu; rcases hu with rfl | rfl <;> rfl) hk6 (HSZ.out _ (bt7 hb4 (below_new (Below.refl _ _)))) (w.heap.size + 1 + 1) 1 _ (HBX.out _ (bt7 hb4 (below_new (Below.refl _ _)))).1 (HBX.out _ (bt7 hb4 (below_new (Below.refl _ _)))).2.1 HNE.out ?_; intro a5 n5 c5 w5 hO5 hg5 ha5 hc5 hf5))
     all_goals go_wp2
     all_goals exact ⟨⟨j + 1, a5, n5, c5, _, by omega, by go_num, HFIN.out w4 a4 n4 c4 a5 n5 c5 w5 (HCV.out _ _ hO4) hb4 hO5 hg5 ha5⟩, by simp [intOf]; omega⟩
    ·have hjd : j = d.dw.length := by rw [← HND.out]; omega
     have CE : Hid (CX w wr sa sn sc da dn dc xa xn xc ya yn yc V Uu d) := by
      have := CC.out
      rwa [hjd, List.take_length] at this
     clear CC hjd
     have c0 := CE.out.k2.cell (j := 0) rfl
     have c1 := CE.out.k2.cell (j := 1) rfl
     have r0 := CE.out.k1.cell (j := 0) rfl
     have r1 := CE.out.k1.cell (j := 1) rfl
     have f0 := CE.out.k1.free 0
     have f1 := CE.out.k1.free 1
     go_wp2
     try simp only [Exit.inBlock, Exit.then]
     refine bodyPost_ret (v := .agg #[.slice xa xn xc, .slice ya yn yc]) ?_ rfl ?_
     ·exact results_dsk rfl _ _ _ rfl (by go_simp) (by go_simp)
     ·have O1 : Only (fun y => y = w.heap.size + 1) wr ((wr.setCell ⟨w.heap.size + 1, 0, none⟩ (.slice xa xn xc)).setCell ⟨w.heap.size + 1, 1, none⟩ (.slice ya yn yc)) := (only_set (R := fun y => y = w.heap.size + 1) rfl _).trans (only_set (R := fun y => y = w.heap.size + 1) rfl _)
      exact ⟨_, _, _, _, _, _, _, _, rfl, (CE.out.own.to O1 (fun y e e2 => by have := (CE.out.own.lt e).1; omega)).base (by omega), (CE.out.bel.setCell (p := ⟨w.heap.size + 1, 0, none⟩) (Nat.le_succ _) _).setCell (p := ⟨w.heap.size + 1, 1, none⟩) (Nat.le_succ _) _⟩
open Go.RowKit
set_option linter.unusedVariables false
def ScPost (d : DK) (w : World) (e : Ending) (w' : World) : Prop := Below w.heap.size w w' ∧ ∃ xa xn xc ya yn yc na nn nc pa pn pc, e = .returned (.tuple #[.agg #[.slice xa xn xc, .slice ya yn yc, .int .i64 (stG d), .slice na nn nc, .slice pa pn pc], .int .i64 (stC d)]) ∧ StR w' (fun _ => True) xa xn xc ya yn yc na nn nc pa pn pc (stD d) (stL d)
theorem stR_nil (w : World) : StR w (fun _ => True) none 0 0 none 0 0 none 0 0 none 0 0 ⟨[], []⟩ ([], []) :=
 ⟨⟨⟨[], rfl, rw_nil _ _, fun i hi => by simp at hi⟩, ⟨[], rfl, rw_nil _ _, fun i hi => by simp at hi⟩⟩, ⟨[], rfl, rw_nil _ _, fun i hi => by simp at hi⟩, rw_nil _ _⟩
theorem sc_no {d : DK} {w w' : World} {k : Int} (hb : Below w.heap.size w w') (h : stC d = k) (hk : k ≠ 0) : ScPost d w (.returned (.tuple #[.agg #[.slice none 0 0, .slice none 0 0, .int .i64 0, .slice none 0 0, .slice none 0 0], .int .i64 k])) w' := by
 have h0 : ¬ stC d = 0 := by rw [h]; exact hk
 refine ⟨hb, none, 0, 0, none, 0, 0, none, 0, 0, none, 0, 0, ?_, ?_⟩
 ·rw [stG, if_neg h0, h]
 ·rw [stD, if_neg h0, stL, if_neg h0]
  exact stR_nil w'
theorem sc_yes {d : DK} {w w' : World} {s : LS} {xa : Option Addr} {xn xc : Nat} {ya : Option Addr} {yn yc : Nat} {na : Option Addr} {nn nc : Nat} {pa : Option Addr} {pn pc : Nat} (hb : Below w.heap.size w w') (h0 : stC d = 0) (hs : stR d = some s) (hR : StR w' (fun _ => True) xa xn xc ya yn yc na nn nc pa pn pc d s) : ScPost d w (.returned (.tuple #[.agg #[.slice xa xn xc, .slice ya yn yc, .int .i64 (bestM d 2).1, .slice na nn nc, .slice pa pn pc], .int .i64 0])) w' := by
 refine ⟨hb, xa, xn, xc, ya, yn, yc, na, nn, nc, pa, pn, pc, ?_, ?_⟩
 ·rw [stG, if_pos h0, h0]
 ·rw [stD, if_pos h0, stL, if_pos h0, hs]
  exact hR
theorem stC_1 {d : DK} (h : dkOk d = false ∨ 0 < d.dw.length) : stC d = 1 := by unfold stC; rw [if_pos h]
theorem stC_2 {d : DK} (h : ¬ (dkOk d = false ∨ 0 < d.dw.length)) (h2 : ¬ 0 < (bestM d 2).1) : stC d = 2 := by unfold stC; rw [if_neg h, if_neg h2]
theorem stC_3 {d : DK} (h : ¬ (dkOk d = false ∨ 0 < d.dw.length)) (h2 : 0 < (bestM d 2).1) (h3 : stR d = none) : stC d = 3 := by unfold stC; rw [if_neg h, if_pos h2, h3]
theorem stC_s {d : DK} {s : LS} (h : ¬ (dkOk d = false ∨ 0 < d.dw.length)) (h2 : 0 < (bestM d 2).1) (h3 : stR d = some s) : stC d = if (okT s.1).isSome = true then 0 else 3 := by unfold stC; rw [if_neg h, if_pos h2, h3]
theorem bk_back {v : World} {g j : Nat} {T : TypeId} {xs : List Value} {u : Value} (h : Bk v g T xs) (hc : v.cell? ⟨g, j, none⟩ = some u) : xs[j]? = some u := by
 have h' : v.heap[g]? = some (.cells xs.toArray T (0, 0)) := h
 simpa [World.cell?, h'] using hc
theorem rw_off {v : World} {S : Nat → Prop} {x : Value} {n g : Nat} {xs ys : List Value} {T : TypeId} (h : Rw v S x n xs) (hs : ∀ u ∈ xs, isStr u) (hne : 0 < n → ∃ u, xs[0]? = some u) (hg : Bk v g T ys) (hy : ∀ u ∈ ys, ¬ isStr u) : Rw v (fun y => S y ∧ y ≠ g) x n xs := by
 obtain ⟨a, c, h1, h2, h3, h4, hn, h5⟩ := h
 refine ⟨a, c, h1, h2, h3, h4, hn, fun hp => ?_⟩
 obtain ⟨b, off, h6, h7, h8, h9⟩ := h5 hp
 refine ⟨b, off, h6, h7, ⟨h8, fun e => ?_⟩, h9⟩
 obtain ⟨u, hu⟩ := hne hp
 have hc := h9 0 u hu
 rw [e] at hc
 exact hy u (List.mem_of_getElem? (bk_back hg hc)) (hs u (List.mem_of_getElem? hu))
theorem LT.nrOff {v v' : World} {P : Nat → Prop} {na : Option Addr} {nn nc : Nat} {pa : Option Addr} {pn pc g r : Nat} {V : List V3} {s : LS} {T T' : TypeId} {ys zs : List Value} (h : LT v P na nn nc pa pn pc V s) (hg : Bk v g T ys) (hy : ∀ u ∈ ys, ¬ isStr u) (hr : Bk v r T' zs) (hz : ∀ u ∈ zs, ¬ isStr u) (hP : ∀ y, P y → y ≠ g ∧ y ≠ r) (ho : Only (fun y => y = g) v v') : Nr v' (fun y => y ≠ r) (.slice na nn nc) s.1 ∧ Ir v' (fun y => y ≠ r) (.slice pa pn pc) s.2 := by
 refine ⟨⟨V, h.len, rw_own (own_kept h.row ho (fun y e q => (hP y (h.pn' y e)).1 q)) (fun k e _ _ => (hP k (h.pn' k e)).2), fun i hi => ⟨?_, ?_, ?_⟩⟩, ?_⟩
 ·have hne : 0 < (nAt s.1 i).ps.length → ∃ u, (pcs (nAt s.1 i).ps)[0]? = some u := fun hp => by
   have : 0 < (pcs (nAt s.1 i).ps).length := by rw [pcs_length]; omega
   exact ⟨_, List.getElem?_eq_getElem this⟩
  exact Rw.mono (Rw.to (rw_off (rw_off (h.rd i hi).1 (pcs_str _) hne hg hy) (pcs_str _) hne hr hz) ho (fun b hb _ e => hb.1.2 e)) (fun b hb _ => hb.2)
 ·have hne : 0 < (nAt s.1 i).keys.length → ∃ u, ((nAt s.1 i).keys.map Value.string)[0]? = some u := fun hp => by
   have : 0 < ((nAt s.1 i).keys.map Value.string).length := by simpa using hp
   exact ⟨_, List.getElem?_eq_getElem this⟩
  have hst : ∀ u ∈ (nAt s.1 i).keys.map Value.string, isStr u := fun u hu => by simp at hu; obtain ⟨t, _, rfl⟩ := hu; exact ⟨t, rfl⟩
  exact Rw.mono (Rw.to (rw_off (rw_off (h.rd i hi).2 hst hne hg hy) hst hne hr hz) ho (fun b hb _ e => hb.1.2 e)) (fun b hb _ => hb.2)
 ·have := rw_own (own_kept (h.kid i hi) ho (fun y e q => (hP y (h.off i hi y e).1).1 q)) (S := fun y => y ≠ r) (fun k e _ _ => (hP k (h.off i hi k e).1).2)
  show Rw _ _ _ _ _
  simpa using this
 ·have := rw_own (own_kept h.pla ho (fun y e q => (hP y (h.pp y e).1).1 q)) (S := fun y => y ≠ r) (fun k e _ _ => (hP k (h.pp k e).1).2)
  show Rw _ _ _ _ _
  simpa using this
def smL (ns : List NB) (b : Nat) : Prop := ∀ i, b ≤ i → i < ns.length → (nAt ns i).ps.length ≤ 4 ∧ (nAt ns i).keys.length ≤ 4 ∧ (nAt ns i).kids.length ≤ 4
def okF (F : Int → LS → Option LS) : Prop := ∀ t s s', F t s = some s' → s.1.length + 1 ≤ s'.1.length ∧ (∀ i, i < s.1.length → nAt s'.1 i = nAt s.1 i) ∧ smL s'.1 s.1.length
theorem addK_at {ns : List NB} {me : Nat} (q : Int) (hme : me < ns.length) (i : Nat) : nAt (addK ns me q) i = if i = me then ⟨(nAt ns me).ps, (nAt ns me).keys, (nAt ns me).kids ++ [q]⟩ else nAt ns i := by
 unfold addK nAt
 by_cases e : i = me
 ·subst e
  rw [if_pos rfl, List.getElem?_set_self hme]
  rfl
 ·rw [if_neg e, List.getElem?_set_ne (fun q => e q.symm)]
theorem ldK_sm {F : Int → LS → Option LS} (hF : okF F) (me : Nat) : ∀ (ks : List Int) (s s' : LS), me < s.1.length → ldK F me ks s = some s' → s.1.length ≤ s'.1.length ∧ (∀ i, i < s.1.length → i ≠ me → nAt s'.1 i = nAt s.1 i) ∧ ((nAt s'.1 me).ps = (nAt s.1 me).ps ∧ (nAt s'.1 me).keys = (nAt s.1 me).keys ∧ (nAt s'.1 me).kids.length = (nAt s.1 me).kids.length + ks.length) ∧ smL s'.1 s.1.length
 | [], s, s', hme, h => by
  have e : s = s' := Option.some.inj h
  subst e
  exact ⟨Nat.le_refl _, fun _ _ _ => rfl, ⟨rfl, rfl, rfl⟩, fun i h1 h2 => by omega⟩
 | k :: ks, s, s', hme, h => by
  rw [ldK] at h
  cases e : F k (addK s.1 me (s.1.length : Int), s.2) with
  | none => rw [e] at h; cases h
  | some s1 =>
   rw [e] at h
   obtain ⟨f1, f2, f3⟩ := hF _ _ _ e
   simp only [addK_len] at f1 f2 f3
   obtain ⟨g1, g2, g3, g4⟩ := ldK_sm hF me ks s1 s' (by omega) h
   refine ⟨by omega, fun i hi hn => ?_, ?_, fun i h1 h2 => ?_⟩
   ·rw [g2 i (by omega) hn, f2 i hi, addK_at _ hme, if_neg hn]
   ·have q := f2 me hme
    rw [addK_at _ hme, if_pos rfl] at q
    rw [g3.1, g3.2.1, g3.2.2, q]
    simp
    omega
   ·by_cases hi : i < s1.1.length
    ·rw [g2 i hi (by omega)]
     exact f3 i h1 hi
    ·exact g4 i (by omega) h2
theorem ldV_sm (ss : List (List Int)) : ∀ f, okF (ldV ss f)
 | 0 => fun t s s' h => by
  unfold ldV at h
  cases h
 | f + 1 => fun t s s' h => by
  cases hp : pgAt ss t with
  | none => rw [ldV_page hp] at h; cases h
  | some p =>
   by_cases hb : t ∈ s.2 ∨ 400 ≤ s.1.length
   ·rw [ldV_bad hb] at h; cases h
   ·rw [ldV_go hp hb] at h
    have hok : pgOk p = true := by
     unfold pgAt at hp
     split at hp
     ·exact prd_ok hp
     ·cases hp
    obtain ⟨-, h4, h5, -⟩ := pgOk_shape hok
    obtain ⟨g1, g2, g3, g4⟩ := ldK_sm (ldV_sm ss f) s.1.length p.kids _ s' (by simp) h
    simp only [List.length_append, List.length_cons, List.length_nil, Nat.zero_add] at g1 g2 g4
    have hat : ∀ i, i < s.1.length → nAt (s.1 ++ [nodeP p]) i = nAt s.1 i := fun i hi => by simp [nAt, List.getElem?_append_left hi]
    have hme : nAt (s.1 ++ [nodeP p]) s.1.length = nodeP p := by simp [nAt]
    refine ⟨by omega, fun i hi => ?_, fun i h1 h2 => ?_⟩
    ·rw [g2 i (by omega) (by omega)]
     exact hat i hi
    ·by_cases hi : i = s.1.length
     ·subst hi
      rw [g3.1, g3.2.1, g3.2.2, hme]
      unfold nodeP
      split
      ·refine ⟨by rw [pairsP_len]; exact h4, by simp, by simpa using h5⟩
      ·exact ⟨by simp, h4, by simpa using h5⟩
     ·exact g4 i (by omega) h2
structure S6 (U v : World) (gb : Nat) (xa : Option Addr) (xn xc : Nat) (ya : Option Addr) (yn yc : Nat) (Vd : List Value) (Ud : List (Int × Value)) (d : DK) (mg : Int) : Prop where
 bel : Below U.heap.size U v
 box : Bk v gb 36 [.slice xa xn xc, .slice ya yn yc, .int .i64 mg, .slice none 0 0, .slice none 0 0]
 own : DO v U.heap.size (.slice xa xn xc) Vd (.slice ya yn yc) Ud d
 lo : U.heap.size ≤ gb
 sep : ∀ y, dbl (.slice xa xn xc) Vd (.slice ya yn yc) Ud y → y ≠ gb
theorem lt_nil (v : World) (P : Nat → Prop) : LT v P none 0 0 none 0 0 [] ([], []) :=
 ⟨rfl, World.ownsRow_nil _ _ _ _, fun i hi => (by simp at hi), fun i hi => (by simp at hi), fun i j hi => (by simp at hi), fun i hi => (by simp at hi), fun y e => (by cases e), World.ownsRow_nil _ _ _ _, fun y e => (by cases e)⟩
set_option maxHeartbeats 16000000 in
set_option maxRecDepth 100000 in
theorem specStoreOpen_any (S : Nat → Prop) (sa : Option Addr) (sn sc : Nat) (da : Option Addr) (dn dc : Nat) (d : DK) (w : World) (h : Dk w S sa sn sc da dn dc d) (hsm : smallD d) (h1 : sn ≤ 1048576) (h2 : dn ≤ 1048576) :
  Calls Tryz.prog 7 #[.agg #[.slice sa sn sc, .slice da dn dc]] w fun e w' => ScPost d w e w' := by
 have B0 : Hid (Below w.heap.size w ((w.alloc (.cells #[.slice sa sn sc, .slice da dn dc] 30)).alloc (.cells #[.slice none 0 0, .slice none 0 0, .int .i64 0, .slice none 0 0, .slice none 0 0] 36))) := below_new (below_new (Below.refl _ _))
 have K0 := hid ((Bk.new w 30 [.slice sa sn sc, .slice da dn dc]).alloc (.cells #[.slice none 0 0, .slice none 0 0, .int .i64 0, .slice none 0 0, .slice none 0 0] 36))
 have R0 : Hid (Bk ((w.alloc (.cells #[.slice sa sn sc, .slice da dn dc] 30)).alloc (.cells #[.slice none 0 0, .slice none 0 0, .int .i64 0, .slice none 0 0, .slice none 0 0] 36)) (w.heap.size + 1) 36 [.slice none 0 0, .slice none 0 0, .int .i64 0, .slice none 0 0, .slice none 0 0]) := by
  have h := Bk.new (w.alloc (.cells #[.slice sa sn sc, .slice da dn dc] 30)) 36 [.slice none 0 0, .slice none 0 0, .int .i64 0, .slice none 0 0, .slice none 0 0]
  show Bk _ _ _ _
  simpa using h
 have D0 := hid ((h.mono (R := fun y => y < w.heap.size) (fun y _ hy => hy)).below B0.out)
 have HSM := hid hsm
 have HND : Hid (dn = d.dw.length) := h.hd.len.1
 clear h hsm
 go_enter Tryz.func7, Tryz.ntmps7
 go_wp2_with fail
 refine (specDiskOk_any _ sa sn sc da dn dc d _ D0.out).mono ?_
 generalize (w.alloc (.cells #[.slice sa sn sc, .slice da dn dc] 30)).alloc (.cells #[.slice none 0 0, .slice none 0 0, .int .i64 0, .slice none 0 0, .slice none 0 0] 36) = U at *
 rintro e w1 ⟨rfl, hb⟩
 have K1 := hid (K0.out.below hb)
 have R1 := hid (R0.out.below hb)
 have D1 := hid (D0.out.below hb)
 have B1 := hid (B0.out.trans ((hb).mono B0.out.size))
 clear K0 R0 D0 B0 hb
 cases hok : dkOk d with
 | false =>
  have HC := hid (stC_1 (d := d) (.inl hok))
  have r0 := R1.out.cell (j := 0) rfl
  have r1 := R1.out.cell (j := 1) rfl
  have r2 := R1.out.cell (j := 2) rfl
  have r3 := R1.out.cell (j := 3) rfl
  have r4 := R1.out.cell (j := 4) rfl
  have f0 := R1.out.free 0
  have f1 := R1.out.free 1
  have f2 := R1.out.free 2
  have f3 := R1.out.free 3
  have f4 := R1.out.free 4
  have RF := hid (((((R1.out.set 0 (.slice none 0 0)).set 1 (.slice none 0 0)).set 2 (.int .i64 0)).set 3 (.slice none 0 0)).set 4 (.slice none 0 0))
  have oF : Hid (Only (fun y => y = w.heap.size + 1) w1 (((((w1.setCell ⟨w.heap.size + 1, 0, none⟩ (.slice none 0 0)).setCell ⟨w.heap.size + 1, 1, none⟩ (.slice none 0 0)).setCell ⟨w.heap.size + 1, 2, none⟩ (.int .i64 0)).setCell ⟨w.heap.size + 1, 3, none⟩ (.slice none 0 0)).setCell ⟨w.heap.size + 1, 4, none⟩ (.slice none 0 0))) := (((((only_set (R := fun y => y = w.heap.size + 1) (p := ⟨w.heap.size + 1, 0, none⟩) rfl _).trans (only_set (R := fun y => y = w.heap.size + 1) (p := ⟨w.heap.size + 1, 1, none⟩) rfl _)).trans (only_set (R := fun y => y = w.heap.size + 1) (p := ⟨w.heap.size + 1, 2, none⟩) rfl _)).trans (only_set (R := fun y => y = w.heap.size + 1) (p := ⟨w.heap.size + 1, 3, none⟩) rfl _)).trans (only_set (R := fun y => y = w.heap.size + 1) (p := ⟨w.heap.size + 1, 4, none⟩) rfl _))
  have BF := hid (B1.out.trans (oF.out.below B1.out.size (fun y hy e => by omega)))
  go_wp2
  try simp only [Exit.inBlock, Exit.then]
  refine bodyPost_ret (v := .tuple #[.agg #[.slice none 0 0, .slice none 0 0, .int .i64 0, .slice none 0 0, .slice none 0 0], .int .i64 1]) ?_ rfl ?_
  ·exact results_sto rfl _ _ (w.heap.size + 1) rfl rfl (RF.out.cell (j := 0) rfl) (RF.out.cell (j := 1) rfl) (RF.out.cell (j := 2) rfl) (RF.out.cell (j := 3) rfl) (RF.out.cell (j := 4) rfl)
  ·exact sc_no BF.out HC.out (by decide)
 | true =>
  have x0 := K1.out.cell (j := 0) rfl
  have x1 := K1.out.cell (j := 1) rfl
  by_cases hdw : 0 < dn
  ·have hdw2 : (0 : Int) < (dn : Int) := by omega
   have HC := hid (stC_1 (d := d) (.inr (by rw [← HND.out]; exact hdw)))
   have r0 := R1.out.cell (j := 0) rfl
   have r1 := R1.out.cell (j := 1) rfl
   have r2 := R1.out.cell (j := 2) rfl
   have r3 := R1.out.cell (j := 3) rfl
   have r4 := R1.out.cell (j := 4) rfl
   have f0 := R1.out.free 0
   have f1 := R1.out.free 1
   have f2 := R1.out.free 2
   have f3 := R1.out.free 3
   have f4 := R1.out.free 4
   have RF := hid (((((R1.out.set 0 (.slice none 0 0)).set 1 (.slice none 0 0)).set 2 (.int .i64 0)).set 3 (.slice none 0 0)).set 4 (.slice none 0 0))
   have oF : Hid (Only (fun y => y = w.heap.size + 1) w1 (((((w1.setCell ⟨w.heap.size + 1, 0, none⟩ (.slice none 0 0)).setCell ⟨w.heap.size + 1, 1, none⟩ (.slice none 0 0)).setCell ⟨w.heap.size + 1, 2, none⟩ (.int .i64 0)).setCell ⟨w.heap.size + 1, 3, none⟩ (.slice none 0 0)).setCell ⟨w.heap.size + 1, 4, none⟩ (.slice none 0 0))) := (((((only_set (R := fun y => y = w.heap.size + 1) (p := ⟨w.heap.size + 1, 0, none⟩) rfl _).trans (only_set (R := fun y => y = w.heap.size + 1) (p := ⟨w.heap.size + 1, 1, none⟩) rfl _)).trans (only_set (R := fun y => y = w.heap.size + 1) (p := ⟨w.heap.size + 1, 2, none⟩) rfl _)).trans (only_set (R := fun y => y = w.heap.size + 1) (p := ⟨w.heap.size + 1, 3, none⟩) rfl _)).trans (only_set (R := fun y => y = w.heap.size + 1) (p := ⟨w.heap.size + 1, 4, none⟩) rfl _))
   have BF := hid (B1.out.trans (oF.out.below B1.out.size (fun y hy e => by omega)))
   go_wp2
   try simp only [Exit.inBlock, Exit.then]
   refine bodyPost_ret (v := .tuple #[.agg #[.slice none 0 0, .slice none 0 0, .int .i64 0, .slice none 0 0, .slice none 0 0], .int .i64 1]) ?_ rfl ?_
   ·exact results_sto rfl _ _ (w.heap.size + 1) rfl rfl (RF.out.cell (j := 0) rfl) (RF.out.cell (j := 1) rfl) (RF.out.cell (j := 2) rfl) (RF.out.cell (j := 3) rfl) (RF.out.cell (j := 4) rfl)
   ·exact sc_no BF.out HC.out (by decide)
  ·have hdw2 : ¬ (0 : Int) < (dn : Int) := by omega
   have HNO : Hid (¬ (dkOk d = false ∨ 0 < d.dw.length)) := fun e => e.elim (fun e => by rw [hok] at e; cases e) (fun e => hdw (by rw [HND.out]; exact e))
   have HDN : Hid (d.dw = []) := List.eq_nil_of_length_eq_zero (by have := HND.out; omega)
   have HOK := hid hok
   clear hok
   go_wp2_with fail
   refine (specDiskMeta_any _ sa sn sc da dn dc d _ D1.out HSM.out).mono ?_
   rintro e w2 ⟨rfl, hb⟩
   have K2 := hid (K1.out.below hb)
   have R2 := hid (R1.out.below hb)
   have D2 := hid (D1.out.below hb)
   have B2 := hid (B1.out.trans ((hb).mono B1.out.size))
   clear K1 R1 D1 B1 hb x0 x1
   have HBR := hid (bestM_root d 2)
   have HSR : Hid (stR d = if (bestM d 2).2 = 0 then some ([], []) else ldV d.sh 400 (bestM d 2).2 ([], [])) := rfl
   have HS2 := hid (stC_2 HNO.out)
   have HS3 := hid (stC_3 HNO.out)
   have HSS := hid (fun s => stC_s (s := s) HNO.out)
   have HY : Hid (∀ (w' : World) s xa xn xc ya yn yc na nn nc pa pn pc, Below w.heap.size w w' → stC d = 0 → stR d = some s → StR w' (fun _ => True) xa xn xc ya yn yc na nn nc pa pn pc d s → ScPost d w (.returned (.tuple #[.agg #[.slice xa xn xc, .slice ya yn yc, .int .i64 (bestM d 2).1, .slice na nn nc, .slice pa pn pc], .int .i64 0])) w') := fun w' s xa xn xc ya yn yc na nn nc pa pn pc h1 h2 h3 h4 => sc_yes h1 h2 h3 h4
   generalize (bestM d 2).1 = mg at *
   generalize (bestM d 2).2 = mr at *
   have hbn : Below w2.heap.size w2 (w2.alloc (.cells #[.int .i64 mg, .int .i64 mr] 61)) := below_new (Below.refl _ _)
   have M3 := hid (Bk.new w2 61 [.int .i64 mg, .int .i64 mr])
   have HLT : Hid (w.heap.size + 1 < w2.heap.size) := R2.out.lt
   have K3 := hid (K2.out.below hbn)
   have R3 := hid (R2.out.below hbn)
   have D3 := hid (D2.out.below hbn)
   have B3 := hid (B2.out.trans ((hbn).mono B2.out.size))
   clear K2 R2 D2 B2 hbn
   by_cases hm : 0 < mg
   ·skip
    have HM := hid hm
    rw [show decide (0 < mg) = true from decide_eq_true hm]
    clear hm
    go_upto_region 6 with (fail)
    generalize w2.alloc (.cells #[.int .i64 mg, .int .i64 mr] 61) = V3 at *
    generalize w2.heap.size = bm at *
    have K4 := hid (K3.out.below (below_drew V3))
    have R4 := hid (R3.out.below (below_drew V3))
    have D4 := hid (D3.out.below (below_drew V3))
    have M4 := hid (M3.out.below (below_drew V3))
    have B4 := hid (B3.out.trans (((below_drew V3)).mono B3.out.size))
    go_cut [6] (fun x v => ∃ V gb xa xn xc ya yn yc Vd Ud, V = v ∧ x = .pointer (some ⟨gb, 0, none⟩) ∧ S6 V3 V gb xa xn xc ya yn yc Vd Ud d mg)
    case first =>
     refine wp_region_noPanic ?_
     refine wp_region_held_drew (S := fun v => v.cell? ⟨w.heap.size, 0, none⟩ = some (.slice sa sn sc) ∧ v.cell? ⟨w.heap.size, 1, none⟩ = some (.slice da dn dc) ∧ v.cell? ⟨bm, 0, none⟩ = some (.int .i64 mg)) (by kernel_rfl) (⟨K4.out.cell (j := 0) rfl, K4.out.cell (j := 1) rfl, M4.out.cell (j := 0) rfl⟩) (fun hHeld => ?_)
     simp only [List.size_toArray, List.length_cons, List.length_nil, Array.replicate_succ, Array.replicate_zero, Nat.reduceAdd, List.push_toArray, List.nil_append, List.cons_append]
     refine wpAnyH_take (i := 0) (v := (.agg #[.slice sa sn sc, .slice da dn dc])) rfl (by kernel_rfl) (by kernel_rfl) (by kernel_rfl) (fun _ _ _ h => h) (Or.inl ⟨by rfl, ?_⟩) (by assumption) ?_
     ·intro w hSw
      (try dsimp only at hSw)
      go_simp
     try simp only [List.getElem_toArray]
     try simp only [List.getElem_cons_succ]
     try simp only [List.getElem_cons_zero]
     try simp only [Act.put]
     try simp only [List.setIfInBounds_toArray]
     try simp only [List.set_cons_succ]
     try simp only [List.set_cons_zero]
     refine wpAnyH_take (i := 2) (v := (.pointer (some ⟨bm, 0, none⟩))) rfl (by kernel_rfl) (by kernel_rfl) (by kernel_rfl) (fun _ _ _ h => h) (Or.inl ⟨by rfl, ?_⟩) (by assumption) ?_
     ·intro w hSw
      (try dsimp only at hSw)
      go_simp
     try simp only [List.getElem_toArray]
     try simp only [List.getElem_cons_succ]
     try simp only [List.getElem_cons_zero]
     try simp only [Act.put]
     try simp only [List.setIfInBounds_toArray]
     try simp only [List.set_cons_succ]
     try simp only [List.set_cons_zero]
     refine wpAnyH_take (i := 3) (v := (.int .i64 mg)) rfl (by kernel_rfl) (by kernel_rfl) (by kernel_rfl) (fun _ _ _ h => h) (Or.inl ⟨by rfl, ?_⟩) (by assumption) ?_
     ·intro w hSw
      (try dsimp only at hSw)
      go_simp
     try simp only [List.getElem_toArray]
     try simp only [List.getElem_cons_succ]
     try simp only [List.getElem_cons_zero]
     try simp only [Act.put]
     try simp only [List.setIfInBounds_toArray]
     try simp only [List.set_cons_succ]
     try simp only [List.set_cons_zero]
     refine wpAnyH_ready (rs := [1, 5]) (by kernel_rfl) (by simp) ?_
     refine AllReadyH.cons rfl (fun K1 hK => ?_) (AllReadyH.cons rfl (fun K1 hK => ?_) AllReadyH.nil)
     ·go_simp
      refine (l05Copy_any _ sa sn sc da dn dc d _ D4.out HSM.out h1 h2).mono ?_
      rintro r q1 ⟨xa, xn, xc, ya, yn, yc, Vd, Ud, rfl, hO, hbC⟩
      go_wp2_with fail
      refine hK.out _ _ ?_ (fun hHeld => ?_)
      ·exact ⟨(K4.out.below hbC).cell (j := 0) rfl, (K4.out.below hbC).cell (j := 1) rfl, (M4.out.below hbC).cell (j := 0) rfl⟩
      clear hK K1
      try simp only [List.getElem_toArray]
      try simp only [List.getElem_cons_succ]
      try simp only [List.getElem_cons_zero]
      try simp only [Act.put]
      try simp only [List.setIfInBounds_toArray]
      try simp only [List.set_cons_succ]
      try simp only [List.set_cons_zero]
      refine wpAnyH_take (i := 4) (v := (.agg #[.slice xa xn xc, .slice ya yn yc, .int .i64 mg, .slice none 0 0, .slice none 0 0])) rfl (by kernel_rfl) (by kernel_rfl) (by kernel_rfl) (fun _ _ _ h => h) (Or.inl ⟨by rfl, ?_⟩) (by assumption) ?_
      ·intro w hSw
       (try dsimp only at hSw)
       go_simp
      try simp only [List.getElem_toArray]
      try simp only [List.getElem_cons_succ]
      try simp only [List.getElem_cons_zero]
      try simp only [Act.put]
      try simp only [List.setIfInBounds_toArray]
      try simp only [List.set_cons_succ]
      try simp only [List.set_cons_zero]
      refine wpAnyH_ready (rs := [5]) (by kernel_rfl) (by simp) ?_
      refine AllReadyH.cons rfl (fun K1 hK => ?_) AllReadyH.nil
      go_simp
      try go_wp2_with fail
      have hbn := below_new (o := .cells #[.slice none 0 0, .slice none 0 0, .int .i64 0, .slice none 0 0, .slice none 0 0] 36) (w := q1) (Below.refl _ _)
      have hbX : Below V3.drew.heap.size V3.drew (q1.alloc (.cells #[.slice none 0 0, .slice none 0 0, .int .i64 0, .slice none 0 0, .slice none 0 0] 36)) := hbC.trans (hbn.mono hbC.size)
      have C5 := hid hbX
      have E5 := hid (Bk.new q1 36 [.slice none 0 0, .slice none 0 0, .int .i64 0, .slice none 0 0, .slice none 0 0])
      have G5 : Hid (V3.heap.size ≤ q1.heap.size) := hbC.size
      have F5 : Hid (∀ y, dbl (.slice xa xn xc) Vd (.slice ya yn yc) Ud y → y ≠ q1.heap.size) := fun y hy => by have := (hO.lt hy).2; omega
      have O5 : Hid (DO (q1.alloc (.cells #[.slice none 0 0, .slice none 0 0, .int .i64 0, .slice none 0 0, .slice none 0 0] 36)) V3.heap.size (.slice xa xn xc) Vd (.slice ya yn yc) Ud d) := (hO.base (Nat.le_refl _)).below hbn
      have Q5 : Hid (Below V3.heap.size V3 (q1.alloc (.cells #[.slice none 0 0, .slice none 0 0, .int .i64 0, .slice none 0 0, .slice none 0 0] 36))) := (below_drew V3).trans hbX
      clear hbC hbn hbX hO
      refine hK.out _ _ ?_ (fun hHeld => ?_)
      ·exact ⟨(K4.out.below C5.out).cell (j := 0) rfl, (K4.out.below C5.out).cell (j := 1) rfl, (M4.out.below C5.out).cell (j := 0) rfl⟩
      clear hK K1
      try simp only [List.getElem_toArray]
      try simp only [List.getElem_cons_succ]
      try simp only [List.getElem_cons_zero]
      try simp only [Act.put]
      try simp only [List.setIfInBounds_toArray]
      try simp only [List.set_cons_succ]
      try simp only [List.set_cons_zero]
      generalize q1.alloc (.cells #[.slice none 0 0, .slice none 0 0, .int .i64 0, .slice none 0 0, .slice none 0 0] 36) = v8 at *
      generalize q1.heap.size = gb at *
      have z0 := E5.out.cell (j := 0) rfl
      have z1 := E5.out.cell (j := 1) rfl
      have z2 := E5.out.cell (j := 2) rfl
      have z3 := E5.out.cell (j := 3) rfl
      have z4 := E5.out.cell (j := 4) rfl
      have e0 := E5.out.free 0
      have e1 := E5.out.free 1
      have e2 := E5.out.free 2
      have e3 := E5.out.free 3
      have e4 := E5.out.free 4
      have o5 : Only (fun y => y = gb) v8 (((((v8.setCell ⟨gb, 0, none⟩ (.slice xa xn xc)).setCell ⟨gb, 1, none⟩ (.slice ya yn yc)).setCell ⟨gb, 2, none⟩ (.int .i64 mg)).setCell ⟨gb, 3, none⟩ (.slice none 0 0)).setCell ⟨gb, 4, none⟩ (.slice none 0 0)) := (((((only_set (R := fun y => y = gb) (p := ⟨gb, 0, none⟩) rfl _).trans (only_set (R := fun y => y = gb) (p := ⟨gb, 1, none⟩) rfl _)).trans (only_set (R := fun y => y = gb) (p := ⟨gb, 2, none⟩) rfl _)).trans (only_set (R := fun y => y = gb) (p := ⟨gb, 3, none⟩) rfl _)).trans (only_set (R := fun y => y = gb) (p := ⟨gb, 4, none⟩) rfl _))
      have AF : Hid (S6 V3 (((((v8.setCell ⟨gb, 0, none⟩ (.slice xa xn xc)).setCell ⟨gb, 1, none⟩ (.slice ya yn yc)).setCell ⟨gb, 2, none⟩ (.int .i64 mg)).setCell ⟨gb, 3, none⟩ (.slice none 0 0)).setCell ⟨gb, 4, none⟩ (.slice none 0 0)) gb xa xn xc ya yn yc Vd Ud d mg) := ⟨Q5.out.trans (o5.below Q5.out.size (fun y hy e => by have := G5.out; omega)), (((((E5.out.set 0 (.slice xa xn xc)).set 1 (.slice ya yn yc)).set 2 (.int .i64 mg)).set 3 (.slice none 0 0)).set 4 (.slice none 0 0)), O5.out.to o5 (fun y hy e => F5.out y hy e), G5.out, F5.out⟩
      have hK5 := (K4.out.below C5.out).to o5 (fun e => by have h1 := G5.out; have h2 := K3.out.lt; omega)
      have hM5 := (M4.out.below C5.out).to o5 (fun e => by have h1 := G5.out; have h2 := M3.out.lt; omega)
      refine wpAnyH_ready (rs := [6]) (by kernel_rfl) (by simp) ?_
      refine AllReadyH.cons rfl (fun K1 hK => ?_) AllReadyH.nil
      go_simp
      try go_wp2_with fail
      refine hK.out _ _ ?_ (fun hHeld => ?_)
      ·exact ⟨hK5.cell (j := 0) rfl, hK5.cell (j := 1) rfl, hM5.cell (j := 0) rfl⟩
      clear hK K1
      try simp only [List.getElem_toArray]
      try simp only [List.getElem_cons_succ]
      try simp only [List.getElem_cons_zero]
      try simp only [Act.put]
      try simp only [List.setIfInBounds_toArray]
      try simp only [List.set_cons_succ]
      try simp only [List.set_cons_zero]
      refine wpAnyH_done (by kernel_rfl) ?_ _
      refine NoPanic.normal ?_
      clear z0 z1 z2 z3 z4 e0 e1 e2 e3 e4 hK5 hM5 o5
      go_wp2_with fail
      go_meet
      exact ⟨_, gb, xa, xn, xc, ya, yn, yc, Vd, Ud, rfl, by simp, AF.out⟩
     ·go_simp
      try go_wp2_with fail
      have h0 := below_new (o := .cells #[.slice none 0 0, .slice none 0 0, .int .i64 0, .slice none 0 0, .slice none 0 0] 36) (w := V3) (below_drew _)
      have hbC : Below V3.drew.heap.size V3.drew (V3.alloc (.cells #[.slice none 0 0, .slice none 0 0, .int .i64 0, .slice none 0 0, .slice none 0 0] 36)).drew := ⟨h0.os, h0.tape, h0.output, h0.size, h0.block⟩
      have C4 := hid hbC
      have E4 : Hid (Bk (V3.alloc (.cells #[.slice none 0 0, .slice none 0 0, .int .i64 0, .slice none 0 0, .slice none 0 0] 36)).drew V3.heap.size 36 [.slice none 0 0, .slice none 0 0, .int .i64 0, .slice none 0 0, .slice none 0 0]) := (Bk.new V3 36 [.slice none 0 0, .slice none 0 0, .int .i64 0, .slice none 0 0, .slice none 0 0]).below (below_drew _)
      clear hbC h0
      refine hK.out _ _ ?_ (fun hHeld => ?_)
      ·exact ⟨(K4.out.below C4.out).cell (j := 0) rfl, (K4.out.below C4.out).cell (j := 1) rfl, (M4.out.below C4.out).cell (j := 0) rfl⟩
      clear hK K1
      try simp only [List.getElem_toArray]
      try simp only [List.getElem_cons_succ]
      try simp only [List.getElem_cons_zero]
      try simp only [Act.put]
      try simp only [List.setIfInBounds_toArray]
      try simp only [List.set_cons_succ]
      try simp only [List.set_cons_zero]
      generalize (V3.alloc (.cells #[.slice none 0 0, .slice none 0 0, .int .i64 0, .slice none 0 0, .slice none 0 0] 36)).drew = v6 at *
      refine wpAnyH_ready (rs := [1]) (by kernel_rfl) (by simp) ?_
      refine AllReadyH.cons rfl (fun K1 hK => ?_) AllReadyH.nil
      go_simp
      refine (l05Copy_any _ sa sn sc da dn dc d _ (D4.out.below C4.out) HSM.out h1 h2).mono ?_
      rintro r q1 ⟨xa, xn, xc, ya, yn, yc, Vd, Ud, rfl, hO, hbC⟩
      go_wp2_with fail
      have hbX : Below V3.drew.heap.size V3.drew q1 := C4.out.trans (hbC.mono C4.out.size)
      have C5 := hid hbX
      have E5 := hid (E4.out.below hbC)
      have HV6 : V3.heap.size < v6.heap.size := E4.out.lt
      have G5 : Hid (V3.heap.size ≤ V3.heap.size) := Nat.le_refl _
      have F5 : Hid (∀ y, dbl (.slice xa xn xc) Vd (.slice ya yn yc) Ud y → y ≠ V3.heap.size) := fun y hy => by have := (hO.lt hy).1; omega
      have O5 : Hid (DO q1 V3.heap.size (.slice xa xn xc) Vd (.slice ya yn yc) Ud d) := hO.base (by omega)
      have Q5 : Hid (Below V3.heap.size V3 q1) := (below_drew V3).trans hbX
      clear hbC hbX hO E4 C4 HV6
      refine hK.out _ _ ?_ (fun hHeld => ?_)
      ·exact ⟨(K4.out.below C5.out).cell (j := 0) rfl, (K4.out.below C5.out).cell (j := 1) rfl, (M4.out.below C5.out).cell (j := 0) rfl⟩
      clear hK K1
      try simp only [List.getElem_toArray]
      try simp only [List.getElem_cons_succ]
      try simp only [List.getElem_cons_zero]
      try simp only [Act.put]
      try simp only [List.setIfInBounds_toArray]
      try simp only [List.set_cons_succ]
      try simp only [List.set_cons_zero]
      refine wpAnyH_take (i := 4) (v := (.agg #[.slice xa xn xc, .slice ya yn yc, .int .i64 mg, .slice none 0 0, .slice none 0 0])) rfl (by kernel_rfl) (by kernel_rfl) (by kernel_rfl) (fun _ _ _ h => h) (Or.inl ⟨by rfl, ?_⟩) (by assumption) ?_
      ·intro w hSw
       (try dsimp only at hSw)
       go_simp
      try simp only [List.getElem_toArray]
      try simp only [List.getElem_cons_succ]
      try simp only [List.getElem_cons_zero]
      try simp only [Act.put]
      try simp only [List.setIfInBounds_toArray]
      try simp only [List.set_cons_succ]
      try simp only [List.set_cons_zero]
      have z0 := E5.out.cell (j := 0) rfl
      have z1 := E5.out.cell (j := 1) rfl
      have z2 := E5.out.cell (j := 2) rfl
      have z3 := E5.out.cell (j := 3) rfl
      have z4 := E5.out.cell (j := 4) rfl
      have e0 := E5.out.free 0
      have e1 := E5.out.free 1
      have e2 := E5.out.free 2
      have e3 := E5.out.free 3
      have e4 := E5.out.free 4
      have o5 : Only (fun y => y = V3.heap.size) q1 (((((q1.setCell ⟨V3.heap.size, 0, none⟩ (.slice xa xn xc)).setCell ⟨V3.heap.size, 1, none⟩ (.slice ya yn yc)).setCell ⟨V3.heap.size, 2, none⟩ (.int .i64 mg)).setCell ⟨V3.heap.size, 3, none⟩ (.slice none 0 0)).setCell ⟨V3.heap.size, 4, none⟩ (.slice none 0 0)) := (((((only_set (R := fun y => y = V3.heap.size) (p := ⟨V3.heap.size, 0, none⟩) rfl _).trans (only_set (R := fun y => y = V3.heap.size) (p := ⟨V3.heap.size, 1, none⟩) rfl _)).trans (only_set (R := fun y => y = V3.heap.size) (p := ⟨V3.heap.size, 2, none⟩) rfl _)).trans (only_set (R := fun y => y = V3.heap.size) (p := ⟨V3.heap.size, 3, none⟩) rfl _)).trans (only_set (R := fun y => y = V3.heap.size) (p := ⟨V3.heap.size, 4, none⟩) rfl _))
      have AF : Hid (S6 V3 (((((q1.setCell ⟨V3.heap.size, 0, none⟩ (.slice xa xn xc)).setCell ⟨V3.heap.size, 1, none⟩ (.slice ya yn yc)).setCell ⟨V3.heap.size, 2, none⟩ (.int .i64 mg)).setCell ⟨V3.heap.size, 3, none⟩ (.slice none 0 0)).setCell ⟨V3.heap.size, 4, none⟩ (.slice none 0 0)) V3.heap.size xa xn xc ya yn yc Vd Ud d mg) := ⟨Q5.out.trans (o5.below Q5.out.size (fun y hy e => by have := G5.out; omega)), (((((E5.out.set 0 (.slice xa xn xc)).set 1 (.slice ya yn yc)).set 2 (.int .i64 mg)).set 3 (.slice none 0 0)).set 4 (.slice none 0 0)), O5.out.to o5 (fun y hy e => F5.out y hy e), G5.out, F5.out⟩
      have hK5 := (K4.out.below C5.out).to o5 (fun e => by have h1 := G5.out; have h2 := K3.out.lt; omega)
      have hM5 := (M4.out.below C5.out).to o5 (fun e => by have h1 := G5.out; have h2 := M3.out.lt; omega)
      refine wpAnyH_ready (rs := [6]) (by kernel_rfl) (by simp) ?_
      refine AllReadyH.cons rfl (fun K1 hK => ?_) AllReadyH.nil
      go_simp
      try go_wp2_with fail
      refine hK.out _ _ ?_ (fun hHeld => ?_)
      ·exact ⟨hK5.cell (j := 0) rfl, hK5.cell (j := 1) rfl, hM5.cell (j := 0) rfl⟩
      clear hK K1
      try simp only [List.getElem_toArray]
      try simp only [List.getElem_cons_succ]
      try simp only [List.getElem_cons_zero]
      try simp only [Act.put]
      try simp only [List.setIfInBounds_toArray]
      try simp only [List.set_cons_succ]
      try simp only [List.set_cons_zero]
      refine wpAnyH_done (by kernel_rfl) ?_ _
      refine NoPanic.normal ?_
      clear z0 z1 z2 z3 z4 e0 e1 e2 e3 e4 hK5 hM5 o5
      go_wp2_with fail
      go_meet
      exact ⟨_, V3.heap.size, xa, xn, xc, ya, yn, yc, Vd, Ud, rfl, by simp, AF.out⟩
    case rest =>
     obtain ⟨V, gb, xa, xn, xc, ya, yn, yc, Vd, Ud, rfl, rfl, hX⟩ := hcut
     have X5 := hid hX
     have hb5 := hX.bel
     have K5 := hid (K3.out.below hb5)
     have R5 := hid (R3.out.below hb5)
     have D5 := hid (D3.out.below hb5)
     have M5 := hid (M3.out.below hb5)
     have B5 := hid (B3.out.trans ((hb5).mono B3.out.size))
     have HLV : Hid (w.heap.size + 1 < V3.heap.size) := R3.out.lt
     have HGB : Hid (w.heap.size + 1 < gb) := by have h1 := X5.out.lo; have h2 := R3.out.lt; show _ < _; omega
     clear hX hb5 K3 K4 R3 R4 D3 D4 M3 M4 B3 B4
     have m1 := M5.out.cell (j := 1) rfl
     by_cases hr : mr = 0
     ·subst hr
      have HSR0 : Hid (stR d = some ([], [])) := HSR.out
      have HC0 : Hid (stC d = 0) := by show _ = _; rw [HSS.out ([], []) HM.out HSR0.out, if_pos okT_nil]
      have HST : Hid (∀ v, Only (fun y => y = w.heap.size + 1) V v → StR v (fun _ => True) xa xn xc ya yn yc none 0 0 none 0 0 d ([], [])) := fun v ho => ⟨(X5.out.own.to ho (fun y hy e => by have h1 := (X5.out.own.lt hy).1; have h2 := HLV.out; omega)).dk (fun _ _ => trivial), (stR_nil v).nr, (stR_nil v).ir⟩
      have X5B := hid X5.out.box
      have s0 := X5B.out.cell (j := 0) rfl
      have s1 := X5B.out.cell (j := 1) rfl
      have s2 := X5B.out.cell (j := 2) rfl
      have s3 := X5B.out.cell (j := 3) rfl
      have s4 := X5B.out.cell (j := 4) rfl
      have hne : ¬ gb = w.heap.size + 1 := by have := HGB.out; omega
      have hne' : ¬ w.heap.size + 1 = gb := fun e => hne e.symm
      have r0 := R5.out.cell (j := 0) rfl
      have r1 := R5.out.cell (j := 1) rfl
      have r2 := R5.out.cell (j := 2) rfl
      have r3 := R5.out.cell (j := 3) rfl
      have r4 := R5.out.cell (j := 4) rfl
      have f0 := R5.out.free 0
      have f1 := R5.out.free 1
      have f2 := R5.out.free 2
      have f3 := R5.out.free 3
      have f4 := R5.out.free 4
      have RF := hid (((((R5.out.set 0 (.slice xa xn xc)).set 1 (.slice ya yn yc)).set 2 (.int .i64 mg)).set 3 (.slice none 0 0)).set 4 (.slice none 0 0))
      have oF : Hid (Only (fun y => y = w.heap.size + 1) V (((((V.setCell ⟨w.heap.size + 1, 0, none⟩ (.slice xa xn xc)).setCell ⟨w.heap.size + 1, 1, none⟩ (.slice ya yn yc)).setCell ⟨w.heap.size + 1, 2, none⟩ (.int .i64 mg)).setCell ⟨w.heap.size + 1, 3, none⟩ (.slice none 0 0)).setCell ⟨w.heap.size + 1, 4, none⟩ (.slice none 0 0))) := (((((only_set (R := fun y => y = w.heap.size + 1) (p := ⟨w.heap.size + 1, 0, none⟩) rfl _).trans (only_set (R := fun y => y = w.heap.size + 1) (p := ⟨w.heap.size + 1, 1, none⟩) rfl _)).trans (only_set (R := fun y => y = w.heap.size + 1) (p := ⟨w.heap.size + 1, 2, none⟩) rfl _)).trans (only_set (R := fun y => y = w.heap.size + 1) (p := ⟨w.heap.size + 1, 3, none⟩) rfl _)).trans (only_set (R := fun y => y = w.heap.size + 1) (p := ⟨w.heap.size + 1, 4, none⟩) rfl _))
      have BF := hid (B5.out.trans (oF.out.below B5.out.size (fun y hy e => by omega)))
      go_wp2
      try simp only [Exit.inBlock, Exit.then]
      refine bodyPost_ret (v := .tuple #[.agg #[.slice xa xn xc, .slice ya yn yc, .int .i64 mg, .slice none 0 0, .slice none 0 0], .int .i64 0]) ?_ rfl ?_
      ·exact results_sto rfl _ _ (w.heap.size + 1) rfl rfl (RF.out.cell (j := 0) rfl) (RF.out.cell (j := 1) rfl) (RF.out.cell (j := 2) rfl) (RF.out.cell (j := 3) rfl) (RF.out.cell (j := 4) rfl)
      ·exact HY.out _ ([], []) xa xn xc ya yn yc none 0 0 none 0 0 BF.out HC0.out HSR0.out (HST.out _ oF.out)
     ·have HSR0 : Hid (stR d = ldV d.sh 400 mr ([], [])) := by show _ = _; rw [HSR.out, if_neg hr]
      have x0 := K5.out.cell (j := 0) rfl
      have x1 := K5.out.cell (j := 1) rfl
      go_wp2_with fail
      refine (l06Load_any d HOK.out HDN.out HSM.out sa sn sc da dn dc 400 (fun y => y < w.heap.size) (fun _ => False) none 0 0 none 0 0 [] ([], []) mr V D5.out (fun y hy => ⟨by have h1 := B5.out.size; have h2 : y < w.heap.size := hy; omega, fun e => e⟩) (fun y e => e.elim) (lt_nil V _) rfl (by simp) (by simp)).mono ?_
      rintro e w7 ⟨ho, hcase⟩
      have hb := ho.below (B := V.heap.size) (Nat.le_refl _) (fun _ _ e => e)
      clear ho m1 x0 x1
      have K7 := hid (K5.out.below hb)
      have R7 := hid (R5.out.below hb)
      have D7 := hid (D5.out.below hb)
      have M7 := hid (M5.out.below hb)
      have B7 := hid (B5.out.trans ((hb).mono B5.out.size))
      have X7 := hid (X5.out.box.below hb)
      have O7 := hid (X5.out.own.below hb)
      have HGV : Hid (gb < V.heap.size) := X5.out.box.lt
      have s0 := X7.out.cell (j := 0) rfl
      have s1 := X7.out.cell (j := 1) rfl
      have s2 := X7.out.cell (j := 2) rfl
      have s3 := X7.out.cell (j := 3) rfl
      have s4 := X7.out.cell (j := 4) rfl
      have t0 := X7.out.free 0
      have t1 := X7.out.free 1
      have t2 := X7.out.free 2
      have t3 := X7.out.free 3
      have t4 := X7.out.free 4
      have hne : ¬ gb = w.heap.size + 1 := by have := HGB.out; omega
      have hne' : ¬ w.heap.size + 1 = gb := fun e => hne e.symm
      rcases hcase with ⟨hnone, rfl⟩ | ⟨s, P', na, nn, nc, pa, pn, pc, V', hsome, hlen, rfl, hP, hLT⟩
      ·have HC := hid (HS3.out HM.out (HSR0.out.trans hnone))
       clear hnone
       have ho : Only (fun y => y = gb) w7 ((w7.setCell ⟨gb, 3, none⟩ (.slice none 0 0)).setCell ⟨gb, 4, none⟩ (.slice none 0 0)) := (only_set (R := fun y => y = gb) (p := ⟨gb, 3, none⟩) rfl _).trans (only_set (R := fun y => y = gb) (p := ⟨gb, 4, none⟩) rfl _)
       have R8 := hid (R7.out.to ho (fun e => hne e.symm))
       have B8 := hid (B7.out.trans (ho.below B7.out.size (fun y hy e => by have := HGB.out; omega)))
       clear ho
       go_upto_region 13 with (fail)
       generalize ((w7.setCell ⟨gb, 3, none⟩ (.slice none 0 0)).setCell ⟨gb, 4, none⟩ (.slice none 0 0)) = V8 at *
       clear s0 s1 s2 s3 s4 t0 t1 t2 t3 t4
       have r0 := R8.out.cell (j := 0) rfl
       have r1 := R8.out.cell (j := 1) rfl
       have r2 := R8.out.cell (j := 2) rfl
       have r3 := R8.out.cell (j := 3) rfl
       have r4 := R8.out.cell (j := 4) rfl
       have f0 := R8.out.free 0
       have f1 := R8.out.free 1
       have f2 := R8.out.free 2
       have f3 := R8.out.free 3
       have f4 := R8.out.free 4
       have RF := hid (((((R8.out.set 0 (.slice none 0 0)).set 1 (.slice none 0 0)).set 2 (.int .i64 0)).set 3 (.slice none 0 0)).set 4 (.slice none 0 0))
       have oF : Hid (Only (fun y => y = w.heap.size + 1) V8 (((((V8.setCell ⟨w.heap.size + 1, 0, none⟩ (.slice none 0 0)).setCell ⟨w.heap.size + 1, 1, none⟩ (.slice none 0 0)).setCell ⟨w.heap.size + 1, 2, none⟩ (.int .i64 0)).setCell ⟨w.heap.size + 1, 3, none⟩ (.slice none 0 0)).setCell ⟨w.heap.size + 1, 4, none⟩ (.slice none 0 0))) := (((((only_set (R := fun y => y = w.heap.size + 1) (p := ⟨w.heap.size + 1, 0, none⟩) rfl _).trans (only_set (R := fun y => y = w.heap.size + 1) (p := ⟨w.heap.size + 1, 1, none⟩) rfl _)).trans (only_set (R := fun y => y = w.heap.size + 1) (p := ⟨w.heap.size + 1, 2, none⟩) rfl _)).trans (only_set (R := fun y => y = w.heap.size + 1) (p := ⟨w.heap.size + 1, 3, none⟩) rfl _)).trans (only_set (R := fun y => y = w.heap.size + 1) (p := ⟨w.heap.size + 1, 4, none⟩) rfl _))
       have BF := hid (B8.out.trans (oF.out.below B8.out.size (fun y hy e => by omega)))
       go_wp2
       try simp only [Exit.inBlock, Exit.then]
       refine bodyPost_ret (v := .tuple #[.agg #[.slice none 0 0, .slice none 0 0, .int .i64 0, .slice none 0 0, .slice none 0 0], .int .i64 3]) ?_ rfl ?_
       ·exact results_sto rfl _ _ (w.heap.size + 1) rfl rfl (RF.out.cell (j := 0) rfl) (RF.out.cell (j := 1) rfl) (RF.out.cell (j := 2) rfl) (RF.out.cell (j := 3) rfl) (RF.out.cell (j := 4) rfl)
       ·exact sc_no BF.out HC.out (by decide)
      ·have HSO : Hid (stR d = some s) := HSR0.out.trans hsome
       have HCS := hid (HSS.out s HM.out HSO.out)
       have HSE := hid (spOk_eq s.1)
       have ho : Hid (Only (fun y => y = gb) w7 ((w7.setCell ⟨gb, 3, none⟩ (.slice na nn nc)).setCell ⟨gb, 4, none⟩ (.slice pa pn pc))) := (only_set (R := fun y => y = gb) (p := ⟨gb, 3, none⟩) rfl _).trans (only_set (R := fun y => y = gb) (p := ⟨gb, 4, none⟩) rfl _)
       have hnrir := hLT.nrOff X7.out (fun u hu e => by obtain ⟨t, rfl⟩ := e; simp at hu) R7.out (fun u hu e => by obtain ⟨t, rfl⟩ := e; simp at hu) (fun y hy => by have h1 := (hP y hy).1; have h2 := HGV.out; have h3 := HGB.out; exact ⟨fun e => h1.elim id (fun h => by omega), fun e => h1.elim id (fun h => by omega)⟩) ho.out
       have NR8 := hid hnrir.1
       have IR8 := hid hnrir.2
       have HSZ : Hid (s.1.length ≤ 400) := (ldV_len d.sh 400 mr ([], []) s hsome).2
       have HSN : Hid (smallN s.1) := fun i hi => by have h1 := (ldV_sm d.sh 400 mr ([], []) s hsome).2.2 i (Nat.zero_le _) hi; omega
       have X8 := hid ((X7.out.set 3 (.slice na nn nc)).set 4 (.slice pa pn pc))
       have R8 := hid (R7.out.to ho.out (fun e => hne e.symm))
       have O8 := hid (O7.out.to ho.out (fun y hy e => X5.out.sep y hy e))
       have B8 := hid (B7.out.trans (ho.out.below B7.out.size (fun y hy e => by have := HGB.out; omega)))
       clear hsome hlen hP hLT hnrir
       go_upto_region 12 with (fail)
       generalize ((w7.setCell ⟨gb, 3, none⟩ (.slice na nn nc)).setCell ⟨gb, 4, none⟩ (.slice pa pn pc)) = V8 at *
       clear s0 s1 s2 s3 s4 t0 t1 t2 t3 t4 ho
       have s0 := X8.out.cell (j := 0) rfl
       have s1 := X8.out.cell (j := 1) rfl
       have s2 := X8.out.cell (j := 2) rfl
       have s3 := X8.out.cell (j := 3) rfl
       have s4 := X8.out.cell (j := 4) rfl
       go_wp2_with fail
       refine (specTreeOk_any s.1 (by have := HSZ.out; omega) HSN.out _ na nn nc _ NR8.out).mono ?_
       rintro e w9 ⟨rfl, hb9⟩
       clear s0 s1 s2 s3 s4
       have R9 := hid (R8.out.below hb9)
       have X9 := hid (X8.out.below hb9)
       have O9 := hid (O8.out.below hb9)
       have NR9 := hid (NR8.out.below hb9)
       have IR9 := hid (Rw.to IR8.out (only_of_below hb9 (fun _ => False)) (fun _ _ _ h => h))
       have B9 := hid (B8.out.trans (hb9.mono B8.out.size))
       rw [HSE.out]
       clear hb9
       cases hok : (okT s.1).isSome with
       | false =>
        have HC : Hid (stC d = 3) := by show _ = _; rw [HCS.out, hok]; rfl
        have r0 := R9.out.cell (j := 0) rfl
        have r1 := R9.out.cell (j := 1) rfl
        have r2 := R9.out.cell (j := 2) rfl
        have r3 := R9.out.cell (j := 3) rfl
        have r4 := R9.out.cell (j := 4) rfl
        have f0 := R9.out.free 0
        have f1 := R9.out.free 1
        have f2 := R9.out.free 2
        have f3 := R9.out.free 3
        have f4 := R9.out.free 4
        have RF := hid (((((R9.out.set 0 (.slice none 0 0)).set 1 (.slice none 0 0)).set 2 (.int .i64 0)).set 3 (.slice none 0 0)).set 4 (.slice none 0 0))
        have oF : Hid (Only (fun y => y = w.heap.size + 1) w9 (((((w9.setCell ⟨w.heap.size + 1, 0, none⟩ (.slice none 0 0)).setCell ⟨w.heap.size + 1, 1, none⟩ (.slice none 0 0)).setCell ⟨w.heap.size + 1, 2, none⟩ (.int .i64 0)).setCell ⟨w.heap.size + 1, 3, none⟩ (.slice none 0 0)).setCell ⟨w.heap.size + 1, 4, none⟩ (.slice none 0 0))) := (((((only_set (R := fun y => y = w.heap.size + 1) (p := ⟨w.heap.size + 1, 0, none⟩) rfl _).trans (only_set (R := fun y => y = w.heap.size + 1) (p := ⟨w.heap.size + 1, 1, none⟩) rfl _)).trans (only_set (R := fun y => y = w.heap.size + 1) (p := ⟨w.heap.size + 1, 2, none⟩) rfl _)).trans (only_set (R := fun y => y = w.heap.size + 1) (p := ⟨w.heap.size + 1, 3, none⟩) rfl _)).trans (only_set (R := fun y => y = w.heap.size + 1) (p := ⟨w.heap.size + 1, 4, none⟩) rfl _))
        have BF := hid (B9.out.trans (oF.out.below B9.out.size (fun y hy e => by omega)))
        go_wp2
        try simp only [Exit.inBlock, Exit.then]
        refine bodyPost_ret (v := .tuple #[.agg #[.slice none 0 0, .slice none 0 0, .int .i64 0, .slice none 0 0, .slice none 0 0], .int .i64 3]) ?_ rfl ?_
        ·exact results_sto rfl _ _ (w.heap.size + 1) rfl rfl (RF.out.cell (j := 0) rfl) (RF.out.cell (j := 1) rfl) (RF.out.cell (j := 2) rfl) (RF.out.cell (j := 3) rfl) (RF.out.cell (j := 4) rfl)
        ·exact sc_no BF.out HC.out (by decide)
       | true =>
        have HC : Hid (stC d = 0) := by show _ = _; rw [HCS.out, hok]; rfl
        have HST : Hid (∀ v, Only (fun y => y = w.heap.size + 1) w9 v → StR v (fun _ => True) xa xn xc ya yn yc na nn nc pa pn pc d s) := fun v ho => ⟨(O9.out.to ho (fun y hy e => by have h1 := (O9.out.lt hy).1; have h2 := HLV.out; omega)).dk (fun _ _ => trivial), (NR9.out.to ho (fun y hy _ e => hy e)).mono (fun _ _ _ => trivial), Rw.mono (Rw.to IR9.out ho (fun y hy _ e => hy e)) (fun _ _ _ => trivial)⟩
        have s0 := X9.out.cell (j := 0) rfl
        have s1 := X9.out.cell (j := 1) rfl
        have s2 := X9.out.cell (j := 2) rfl
        have s3 := X9.out.cell (j := 3) rfl
        have s4 := X9.out.cell (j := 4) rfl
        have r0 := R9.out.cell (j := 0) rfl
        have r1 := R9.out.cell (j := 1) rfl
        have r2 := R9.out.cell (j := 2) rfl
        have r3 := R9.out.cell (j := 3) rfl
        have r4 := R9.out.cell (j := 4) rfl
        have f0 := R9.out.free 0
        have f1 := R9.out.free 1
        have f2 := R9.out.free 2
        have f3 := R9.out.free 3
        have f4 := R9.out.free 4
        have RF := hid (((((R9.out.set 0 (.slice xa xn xc)).set 1 (.slice ya yn yc)).set 2 (.int .i64 mg)).set 3 (.slice na nn nc)).set 4 (.slice pa pn pc))
        have oF : Hid (Only (fun y => y = w.heap.size + 1) w9 (((((w9.setCell ⟨w.heap.size + 1, 0, none⟩ (.slice xa xn xc)).setCell ⟨w.heap.size + 1, 1, none⟩ (.slice ya yn yc)).setCell ⟨w.heap.size + 1, 2, none⟩ (.int .i64 mg)).setCell ⟨w.heap.size + 1, 3, none⟩ (.slice na nn nc)).setCell ⟨w.heap.size + 1, 4, none⟩ (.slice pa pn pc))) := (((((only_set (R := fun y => y = w.heap.size + 1) (p := ⟨w.heap.size + 1, 0, none⟩) rfl _).trans (only_set (R := fun y => y = w.heap.size + 1) (p := ⟨w.heap.size + 1, 1, none⟩) rfl _)).trans (only_set (R := fun y => y = w.heap.size + 1) (p := ⟨w.heap.size + 1, 2, none⟩) rfl _)).trans (only_set (R := fun y => y = w.heap.size + 1) (p := ⟨w.heap.size + 1, 3, none⟩) rfl _)).trans (only_set (R := fun y => y = w.heap.size + 1) (p := ⟨w.heap.size + 1, 4, none⟩) rfl _))
        have BF := hid (B9.out.trans (oF.out.below B9.out.size (fun y hy e => by omega)))
        go_wp2
        try simp only [Exit.inBlock, Exit.then]
        refine bodyPost_ret (v := .tuple #[.agg #[.slice xa xn xc, .slice ya yn yc, .int .i64 mg, .slice na nn nc, .slice pa pn pc], .int .i64 0]) ?_ rfl ?_
        ·exact results_sto rfl _ _ (w.heap.size + 1) rfl rfl (RF.out.cell (j := 0) rfl) (RF.out.cell (j := 1) rfl) (RF.out.cell (j := 2) rfl) (RF.out.cell (j := 3) rfl) (RF.out.cell (j := 4) rfl)
        ·exact HY.out _ s xa xn xc ya yn yc na nn nc pa pn pc BF.out HC.out HSO.out (HST.out _ oF.out)
   ·have HC := hid (HS2.out hm)
    rw [show decide (0 < mg) = false from decide_eq_false hm]
    clear hm
    go_upto_region 5 with (fail)
    generalize w2.alloc (.cells #[.int .i64 mg, .int .i64 mr] 61) = V3 at *
    generalize w2.heap.size = bm at *
    have r0 := R3.out.cell (j := 0) rfl
    have r1 := R3.out.cell (j := 1) rfl
    have r2 := R3.out.cell (j := 2) rfl
    have r3 := R3.out.cell (j := 3) rfl
    have r4 := R3.out.cell (j := 4) rfl
    have f0 := R3.out.free 0
    have f1 := R3.out.free 1
    have f2 := R3.out.free 2
    have f3 := R3.out.free 3
    have f4 := R3.out.free 4
    have RF := hid (((((R3.out.set 0 (.slice none 0 0)).set 1 (.slice none 0 0)).set 2 (.int .i64 0)).set 3 (.slice none 0 0)).set 4 (.slice none 0 0))
    have oF : Hid (Only (fun y => y = w.heap.size + 1) V3 (((((V3.setCell ⟨w.heap.size + 1, 0, none⟩ (.slice none 0 0)).setCell ⟨w.heap.size + 1, 1, none⟩ (.slice none 0 0)).setCell ⟨w.heap.size + 1, 2, none⟩ (.int .i64 0)).setCell ⟨w.heap.size + 1, 3, none⟩ (.slice none 0 0)).setCell ⟨w.heap.size + 1, 4, none⟩ (.slice none 0 0))) := (((((only_set (R := fun y => y = w.heap.size + 1) (p := ⟨w.heap.size + 1, 0, none⟩) rfl _).trans (only_set (R := fun y => y = w.heap.size + 1) (p := ⟨w.heap.size + 1, 1, none⟩) rfl _)).trans (only_set (R := fun y => y = w.heap.size + 1) (p := ⟨w.heap.size + 1, 2, none⟩) rfl _)).trans (only_set (R := fun y => y = w.heap.size + 1) (p := ⟨w.heap.size + 1, 3, none⟩) rfl _)).trans (only_set (R := fun y => y = w.heap.size + 1) (p := ⟨w.heap.size + 1, 4, none⟩) rfl _))
    have BF := hid (B3.out.trans (oF.out.below B3.out.size (fun y hy e => by omega)))
    go_wp2
    try simp only [Exit.inBlock, Exit.then]
    refine bodyPost_ret (v := .tuple #[.agg #[.slice none 0 0, .slice none 0 0, .int .i64 0, .slice none 0 0, .slice none 0 0], .int .i64 2]) ?_ rfl ?_
    ·exact results_sto rfl _ _ (w.heap.size + 1) rfl rfl (RF.out.cell (j := 0) rfl) (RF.out.cell (j := 1) rfl) (RF.out.cell (j := 2) rfl) (RF.out.cell (j := 3) rfl) (RF.out.cell (j := 4) rfl)
    ·exact sc_no BF.out HC.out (by decide)
open Go.RowKit
set_option linter.unusedVariables false
def stOk (d : DK) (g : Int) (s : LS) : Bool := decide (stC d = 0) && (decide (stG d = g) && (decide ((stL d).1 = s.1) && decide ((stL d).2 = s.2)))
set_option maxHeartbeats 8000000 in
set_option maxRecDepth 20000 in
theorem implStoreOk_any (S : Nat → Prop) (xa : Option Addr) (xn xc : Nat) (ya : Option Addr) (yn yc : Nat) (na : Option Addr) (nn nc : Nat) (pa : Option Addr) (pn pc : Nat) (g : Int) (d : DK) (s : LS) (w : World) (h : StR w S xa xn xc ya yn yc na nn nc pa pn pc d s) (hsm : smallD d) (he : Err w 0) (he2 : Err w 1) (he3 : Err w 2) :
  Calls Tryz.prog 18 #[.agg #[.slice xa xn xc, .slice ya yn yc, .int .i64 g, .slice na nn nc, .slice pa pn pc]] w fun e w' => e = .returned (.bool (stOk d g s)) ∧ Below w.heap.size w w' := by
 have HV : Hid (stOk d g s = (decide (stC d = 0) && (decide (stG d = g) && (decide ((stL d).1 = s.1) && decide ((stL d).2 = s.2))))) := rfl
 have B0 := hid (below_new (o := .cells #[.slice xa xn xc, .slice ya yn yc, .int .i64 g, .slice na nn nc, .slice pa pn pc] 36) (w := w) (Below.refl _ _))
 have K0 := hid (Bk.new w 36 [.slice xa xn xc, .slice ya yn yc, .int .i64 g, .slice na nn nc, .slice pa pn pc])
 have R0 := hid (h.below B0.out)
 have CO : Hid (Calls Tryz.prog 30 #[.agg #[.slice xa xn xc, .slice ya yn yc]] (w.alloc (.cells #[.slice xa xn xc, .slice ya yn yc, .int .i64 g, .slice na nn nc, .slice pa pn pc] 36)) fun e w' => ∃ ua un uc va vn vc ta tn tc qa qn qc, e = .returned (.tuple #[.agg #[.slice ua un uc, .slice va vn vc, .int .i64 (stG d), .slice ta tn tc, .slice qa qn qc], .int .i64 (stC d)]) ∧ (Nr w' (fun _ => True) (.slice ta tn tc) (stL d).1 ∧ Ir w' (fun _ => True) (.slice qa qn qc) (stL d).2) ∧ Below (w.alloc (.cells #[.slice xa xn xc, .slice ya yn yc, .int .i64 g, .slice na nn nc, .slice pa pn pc] 36)).heap.size (w.alloc (.cells #[.slice xa xn xc, .slice ya yn yc, .int .i64 g, .slice na nn nc, .slice pa pn pc] 36)) w') := (storeOn_any S xa xn xc ya yn yc d _ R0.out.dk hsm (he.below B0.out he.lt) (he2.below B0.out he2.lt) (he3.below B0.out he3.lt)).mono (by
  intro e w1 hpost
  obtain ⟨hb1, ua, un, uc, va, vn, vc, ta, tn, tc, qa, qn, qc, V, rfl, -, hSN⟩ := so_uni hpost R0.out.dk
  exact ⟨ua, un, uc, va, vn, vc, ta, tn, tc, qa, qn, qc, rfl, ⟨hSN.nod.nr (fun _ _ => trivial), hSN.ir⟩, hb1⟩)
 clear h hsm he he2 he3
 generalize stC d = cd at *
 generalize stG d = gd at *
 generalize (stL d).1 = l1 at *
 generalize (stL d).2 = l2 at *
 go_enter Tryz.func18, Tryz.ntmps18
 go_wp2_with fail
 refine CO.out.mono ?_
 clear CO
 generalize w.alloc (.cells #[.slice xa xn xc, .slice ya yn yc, .int .i64 g, .slice na nn nc, .slice pa pn pc] 36) = U at *
 rintro e w1 ⟨ua, un, uc, va, vn, vc, ta, tn, tc, qa, qn, qc, rfl, ⟨hN, hQ⟩, hb1⟩
 have hbn : Below w1.heap.size w1 (w1.alloc (.cells #[.slice ua un uc, .slice va vn vc, .int .i64 gd, .slice ta tn tc, .slice qa qn qc] 36)) := below_new (Below.refl _ _)
 have hb2 : Below U.heap.size U (w1.alloc (.cells #[.slice ua un uc, .slice va vn vc, .int .i64 gd, .slice ta tn tc, .slice qa qn qc] 36)) := hb1.trans (hbn.mono hb1.size)
 have K1 := hid (K0.out.below hb2)
 have R1 := hid (R0.out.below hb2)
 have B1 := hid (B0.out.trans (hb2.mono B0.out.size))
 have M1 := hid (Bk.new w1 36 [.slice ua un uc, .slice va vn vc, .int .i64 gd, .slice ta tn tc, .slice qa qn qc])
 have N1 := hid (hN.below hbn)
 have Q1 := hid (Rw.to hQ (only_of_below hbn (fun _ => False)) (fun _ _ _ h => h))
 have HLT : Hid (w.heap.size < w1.heap.size) := Nat.lt_of_lt_of_le K0.out.lt hb1.size
 clear hN hQ hb1 hb2 hbn K0 R0 B0
 by_cases hc : cd = 0
 ·subst hc
  by_cases hg : gd = g
  ·subst hg
   have hgg : (gd == gd) = true := by simp
   have x0 := K1.out.cell (j := 0) rfl
   have x1 := K1.out.cell (j := 1) rfl
   have x2 := K1.out.cell (j := 2) rfl
   have x3 := K1.out.cell (j := 3) rfl
   have x4 := K1.out.cell (j := 4) rfl
   have y0 := M1.out.cell (j := 0) rfl
   have y1 := M1.out.cell (j := 1) rfl
   have y2 := M1.out.cell (j := 2) rfl
   have y3 := M1.out.cell (j := 3) rfl
   have y4 := M1.out.cell (j := 4) rfl
   go_wp2_with fail
   refine (equalI_any _ _ qa pa qn pn qc pc l2 s.2 _ Q1.out R1.out.ir).mono ?_
   generalize w1.alloc (.cells #[.slice ua un uc, .slice va vn vc, .int .i64 gd, .slice ta tn tc, .slice qa qn qc] 36) = U2 at *
   generalize w1.heap.size = gb at *
   rintro e w2 ⟨rfl, hb⟩
   have K2 := hid (K1.out.below hb)
   have R2 := hid (R1.out.below hb)
   have M2 := hid (M1.out.below hb)
   have N2 := hid (N1.out.below hb)
   have Q2 := hid (Rw.to Q1.out (only_of_below hb (fun _ => False)) (fun _ _ _ h => h))
   have B2 := hid (B1.out.trans (hb.mono B1.out.size))
   clear hb K1 R1 M1 N1 Q1 B1 x0 y0 x1 y1 x2 y2 x3 y3 x4 y4
   generalize decide (l2 = s.2) = z1 at *
   cases z1 with
   | false =>
    go_wp2
    go_ret
    exact ⟨by rw [HV.out]; simp, B2.out⟩
   | true =>
    have x0 := K2.out.cell (j := 0) rfl
    have x1 := K2.out.cell (j := 1) rfl
    have x2 := K2.out.cell (j := 2) rfl
    have x3 := K2.out.cell (j := 3) rfl
    have x4 := K2.out.cell (j := 4) rfl
    have y0 := M2.out.cell (j := 0) rfl
    have y1 := M2.out.cell (j := 1) rfl
    have y2 := M2.out.cell (j := 2) rfl
    have y3 := M2.out.cell (j := 3) rfl
    have y4 := M2.out.cell (j := 4) rfl
    go_wp2_with fail
    refine (equalN_any _ _ ta na tn nn tc nc l1 s.1 _ N2.out R2.out.nr).mono ?_
    rintro e w3 ⟨rfl, hb⟩
    have B3 := hid (B2.out.trans (hb.mono B2.out.size))
    clear hb K2 R2 M2 N2 Q2 B2 x0 y0 x1 y1 x2 y2 x3 y3 x4 y4
    generalize decide (l1 = s.1) = z2 at *
    go_wp2
    go_ret
    exact ⟨by rw [HV.out]; simp, B3.out⟩
  ·have hgg : (gd == g) = false := by simpa using hg
   have HG : Hid (decide (gd = g) = false) := decide_eq_false hg
   have x0 := K1.out.cell (j := 0) rfl
   have x1 := K1.out.cell (j := 1) rfl
   have x2 := K1.out.cell (j := 2) rfl
   have x3 := K1.out.cell (j := 3) rfl
   have x4 := K1.out.cell (j := 4) rfl
   have y0 := M1.out.cell (j := 0) rfl
   have y1 := M1.out.cell (j := 1) rfl
   have y2 := M1.out.cell (j := 2) rfl
   have y3 := M1.out.cell (j := 3) rfl
   have y4 := M1.out.cell (j := 4) rfl
   go_wp2
   go_ret
   exact ⟨by rw [HV.out, HG.out]; simp, B1.out⟩
 ·have hcc : (cd == 0) = false := by simpa using hc
  have HC : Hid (decide (cd = 0) = false) := decide_eq_false hc
  go_wp2
  go_ret
  exact ⟨by rw [HV.out, HC.out]; simp, B1.out⟩
set_option maxHeartbeats 8000000 in
set_option maxRecDepth 20000 in
theorem specStoreOk_any (S : Nat → Prop) (xa : Option Addr) (xn xc : Nat) (ya : Option Addr) (yn yc : Nat) (na : Option Addr) (nn nc : Nat) (pa : Option Addr) (pn pc : Nat) (g : Int) (d : DK) (s : LS) (w : World) (h : StR w S xa xn xc ya yn yc na nn nc pa pn pc d s) (hsm : smallD d) (m1 : xn ≤ 1048576) (m2 : yn ≤ 1048576) :
  Calls Tryz.prog 16 #[.agg #[.slice xa xn xc, .slice ya yn yc, .int .i64 g, .slice na nn nc, .slice pa pn pc]] w fun e w' => e = .returned (.bool (stOk d g s)) ∧ Below w.heap.size w w' := by
 have HV : Hid (stOk d g s = (decide (stC d = 0) && (decide (stG d = g) && (decide ((stL d).1 = s.1) && decide ((stL d).2 = s.2))))) := rfl
 have B0 := hid (below_new (o := .cells #[.slice xa xn xc, .slice ya yn yc, .int .i64 g, .slice na nn nc, .slice pa pn pc] 36) (w := w) (Below.refl _ _))
 have K0 := hid (Bk.new w 36 [.slice xa xn xc, .slice ya yn yc, .int .i64 g, .slice na nn nc, .slice pa pn pc])
 have R0 := hid (h.below B0.out)
 have CO : Hid (Calls Tryz.prog 7 #[.agg #[.slice xa xn xc, .slice ya yn yc]] (w.alloc (.cells #[.slice xa xn xc, .slice ya yn yc, .int .i64 g, .slice na nn nc, .slice pa pn pc] 36)) fun e w' => ∃ ua un uc va vn vc ta tn tc qa qn qc, e = .returned (.tuple #[.agg #[.slice ua un uc, .slice va vn vc, .int .i64 (stG d), .slice ta tn tc, .slice qa qn qc], .int .i64 (stC d)]) ∧ (Nr w' (fun _ => True) (.slice ta tn tc) (stL d).1 ∧ Ir w' (fun _ => True) (.slice qa qn qc) (stL d).2) ∧ Below (w.alloc (.cells #[.slice xa xn xc, .slice ya yn yc, .int .i64 g, .slice na nn nc, .slice pa pn pc] 36)).heap.size (w.alloc (.cells #[.slice xa xn xc, .slice ya yn yc, .int .i64 g, .slice na nn nc, .slice pa pn pc] 36)) w') := (specStoreOpen_any S xa xn xc ya yn yc d _ R0.out.dk hsm m1 m2).mono (by
  rintro e w1 ⟨hb1, ua, un, uc, va, vn, vc, ta, tn, tc, qa, qn, qc, rfl, hR⟩
  exact ⟨ua, un, uc, va, vn, vc, ta, tn, tc, qa, qn, qc, rfl, ⟨hR.nr, hR.ir⟩, hb1⟩)
 clear h hsm m1 m2
 generalize stC d = cd at *
 generalize stG d = gd at *
 generalize (stL d).1 = l1 at *
 generalize (stL d).2 = l2 at *
 go_enter Tryz.func16, Tryz.ntmps16
 go_wp2_with fail
 refine CO.out.mono ?_
 clear CO
 generalize w.alloc (.cells #[.slice xa xn xc, .slice ya yn yc, .int .i64 g, .slice na nn nc, .slice pa pn pc] 36) = U at *
 rintro e w1 ⟨ua, un, uc, va, vn, vc, ta, tn, tc, qa, qn, qc, rfl, ⟨hN, hQ⟩, hb1⟩
 have hbn : Below w1.heap.size w1 (w1.alloc (.cells #[.slice ua un uc, .slice va vn vc, .int .i64 gd, .slice ta tn tc, .slice qa qn qc] 36)) := below_new (Below.refl _ _)
 have hb2 : Below U.heap.size U (w1.alloc (.cells #[.slice ua un uc, .slice va vn vc, .int .i64 gd, .slice ta tn tc, .slice qa qn qc] 36)) := hb1.trans (hbn.mono hb1.size)
 have K1 := hid (K0.out.below hb2)
 have R1 := hid (R0.out.below hb2)
 have B1 := hid (B0.out.trans (hb2.mono B0.out.size))
 have M1 := hid (Bk.new w1 36 [.slice ua un uc, .slice va vn vc, .int .i64 gd, .slice ta tn tc, .slice qa qn qc])
 have N1 := hid (hN.below hbn)
 have Q1 := hid (Rw.to hQ (only_of_below hbn (fun _ => False)) (fun _ _ _ h => h))
 have HLT : Hid (w.heap.size < w1.heap.size) := Nat.lt_of_lt_of_le K0.out.lt hb1.size
 clear hN hQ hb1 hb2 hbn K0 R0 B0
 by_cases hc : cd = 0
 ·subst hc
  by_cases hg : gd = g
  ·subst hg
   have hgg : (gd == gd) = true := by simp
   have x0 := K1.out.cell (j := 0) rfl
   have x1 := K1.out.cell (j := 1) rfl
   have x2 := K1.out.cell (j := 2) rfl
   have x3 := K1.out.cell (j := 3) rfl
   have x4 := K1.out.cell (j := 4) rfl
   have y0 := M1.out.cell (j := 0) rfl
   have y1 := M1.out.cell (j := 1) rfl
   have y2 := M1.out.cell (j := 2) rfl
   have y3 := M1.out.cell (j := 3) rfl
   have y4 := M1.out.cell (j := 4) rfl
   go_wp2_with fail
   refine (sameTree_any _ _ ta na tn nn tc nc l1 s.1 _ N1.out R1.out.nr).mono ?_
   generalize w1.alloc (.cells #[.slice ua un uc, .slice va vn vc, .int .i64 gd, .slice ta tn tc, .slice qa qn qc] 36) = U2 at *
   generalize w1.heap.size = gb at *
   rintro e w2 ⟨rfl, hb⟩
   have K2 := hid (K1.out.below hb)
   have R2 := hid (R1.out.below hb)
   have M2 := hid (M1.out.below hb)
   have N2 := hid (N1.out.below hb)
   have Q2 := hid (Rw.to Q1.out (only_of_below hb (fun _ => False)) (fun _ _ _ h => h))
   have B2 := hid (B1.out.trans (hb.mono B1.out.size))
   clear hb K1 R1 M1 N1 Q1 B1 x0 y0 x1 y1 x2 y2 x3 y3 x4 y4
   generalize decide (l1 = s.1) = z1 at *
   cases z1 with
   | false =>
    go_wp2
    go_ret
    exact ⟨by rw [HV.out]; simp, B2.out⟩
   | true =>
    have x0 := K2.out.cell (j := 0) rfl
    have x1 := K2.out.cell (j := 1) rfl
    have x2 := K2.out.cell (j := 2) rfl
    have x3 := K2.out.cell (j := 3) rfl
    have x4 := K2.out.cell (j := 4) rfl
    have y0 := M2.out.cell (j := 0) rfl
    have y1 := M2.out.cell (j := 1) rfl
    have y2 := M2.out.cell (j := 2) rfl
    have y3 := M2.out.cell (j := 3) rfl
    have y4 := M2.out.cell (j := 4) rfl
    go_wp2_with fail
    refine (sameInts_any _ _ qa pa qn pn qc pc l2 s.2 _ Q2.out R2.out.ir).mono ?_
    rintro e w3 ⟨rfl, hb⟩
    have B3 := hid (B2.out.trans (hb.mono B2.out.size))
    clear hb K2 R2 M2 N2 Q2 B2 x0 y0 x1 y1 x2 y2 x3 y3 x4 y4
    generalize decide (l2 = s.2) = z2 at *
    go_wp2
    go_ret
    exact ⟨by rw [HV.out]; simp, B3.out⟩
  ·have hgg : (gd == g) = false := by simpa using hg
   have HG : Hid (decide (gd = g) = false) := decide_eq_false hg
   have x0 := K1.out.cell (j := 0) rfl
   have x1 := K1.out.cell (j := 1) rfl
   have x2 := K1.out.cell (j := 2) rfl
   have x3 := K1.out.cell (j := 3) rfl
   have x4 := K1.out.cell (j := 4) rfl
   have y0 := M1.out.cell (j := 0) rfl
   have y1 := M1.out.cell (j := 1) rfl
   have y2 := M1.out.cell (j := 2) rfl
   have y3 := M1.out.cell (j := 3) rfl
   have y4 := M1.out.cell (j := 4) rfl
   go_wp2
   go_ret
   exact ⟨by rw [HV.out, HG.out]; simp, B1.out⟩
 ·have hcc : (cd == 0) = false := by simpa using hc
  have HC : Hid (decide (cd = 0) = false) := decide_eq_false hc
  go_wp2
  go_ret
  exact ⟨by rw [HV.out, HC.out]; simp, B1.out⟩
open Go.RowKit
set_option linter.unusedVariables false
structure SX (w v : World) (xa : Option Addr) (xn xc : Nat) (ya : Option Addr) (yn yc : Nat) (na : Option Addr) (nn nc : Nat) (pa : Option Addr) (pn pc : Nat) (g : Int) (d : DK) (s : LS) : Prop where
 bel : Below w.heap.size w v
 kA : Bk v w.heap.size 49 [.slice xa xn xc, .slice ya yn yc, .int .i64 g, .slice na nn nc, .slice pa pn pc]
 hA : StR v (fun y => y < w.heap.size) xa xn xc ya yn yc na nn nc pa pn pc d s
theorem SX.below {w v v' : World} {xa : Option Addr} {xn xc : Nat} {ya : Option Addr} {yn yc : Nat} {na : Option Addr} {nn nc : Nat} {pa : Option Addr} {pn pc : Nat} {g : Int} {d : DK} {s : LS} (h : SX w v xa xn xc ya yn yc na nn nc pa pn pc g d s) (hb : Below v.heap.size v v') : SX w v' xa xn xc ya yn yc na nn nc pa pn pc g d s := ⟨h.bel.trans (hb.mono h.bel.size), h.kA.below hb, h.hA.below hb⟩
theorem SX.start {w : World} {xa : Option Addr} {xn xc : Nat} {ya : Option Addr} {yn yc : Nat} {na : Option Addr} {nn nc : Nat} {pa : Option Addr} {pn pc : Nat} {g : Int} {d : DK} {s : LS} (h : StR w (fun _ => True) xa xn xc ya yn yc na nn nc pa pn pc d s) : SX w (w.alloc (.cells #[.slice xa xn xc, .slice ya yn yc, .int .i64 g, .slice na nn nc, .slice pa pn pc] 49)) xa xn xc ya yn yc na nn nc pa pn pc g d s := by
 have hb := below_new (o := .cells #[.slice xa xn xc, .slice ya yn yc, .int .i64 g, .slice na nn nc, .slice pa pn pc] 49) (w := w) (Below.refl _ _)
 exact ⟨hb, Bk.new w _ [.slice xa xn xc, .slice ya yn yc, .int .i64 g, .slice na nn nc, .slice pa pn pc], (StR.mk (h.dk.mono (fun b _ hb => hb)) (h.nr.mono (fun b _ hb => hb)) (Rw.mono h.ir (fun b _ hb => hb)) : StR w (fun y => y < w.heap.size) xa xn xc ya yn yc na nn nc pa pn pc d s).below hb⟩
theorem SX.cells {w v : World} {xa : Option Addr} {xn xc : Nat} {ya : Option Addr} {yn yc : Nat} {na : Option Addr} {nn nc : Nat} {pa : Option Addr} {pn pc : Nat} {g : Int} {d : DK} {s : LS} (h : SX w v xa xn xc ya yn yc na nn nc pa pn pc g d s) : v.cell? ⟨w.heap.size, 0, none⟩ = some (.slice xa xn xc) ∧ v.cell? ⟨w.heap.size, 1, none⟩ = some (.slice ya yn yc) ∧ v.cell? ⟨w.heap.size, 2, none⟩ = some (.int .i64 g) ∧ v.cell? ⟨w.heap.size, 3, none⟩ = some (.slice na nn nc) ∧ v.cell? ⟨w.heap.size, 4, none⟩ = some (.slice pa pn pc) := ⟨h.kA.cell (j := 0) rfl, h.kA.cell (j := 1) rfl, h.kA.cell (j := 2) rfl, h.kA.cell (j := 3) rfl, h.kA.cell (j := 4) rfl⟩
set_option maxHeartbeats 16000000 in
set_option maxRecDepth 20000 in
theorem lawStoreOk_walk (xa : Option Addr) (xn xc : Nat) (ya : Option Addr) (yn yc : Nat) (na : Option Addr) (nn nc : Nat) (pa : Option Addr) (pn pc : Nat) (g : Int) (d : DK) (s : LS) (w : World) (h : StR w (fun _ => True) xa xn xc ya yn yc na nn nc pa pn pc d s ∧ szOkN s.1) (he : Err w 0) (he2 : Err w 1) (he3 : Err w 2) (_e4 : Err w 3) (_l1 : 0 < w.heap.size) (_l2 : 1 < w.heap.size) (_l3 : 2 < w.heap.size) (_l4 : 3 < w.heap.size) :
  Calls Tryz.prog 4 #[.agg #[.slice xa xn xc, .slice ya yn yc, .int .i64 g, .slice na nn nc, .slice pa pn pc]] w fun e w' => e = .returned (.bool true) ∧ Below w.heap.size w w' := by
 have X0 := hid (SX.start (g := g) h.1)
 have HZ := hid h.2
 have NX := hid h.1.dk.hs.len.1
 have NY := hid h.1.dk.hd.len.1
 have HE := hid he
 have HE2 := hid he2
 have HE3 := hid he3
 clear h he he2 he3 _e4 _l1 _l2 _l3 _l4
 go_enter Tryz.func4, Tryz.ntmps4
 go_wp2_with fail
 refine (szStore_any _ xa xn xc ya yn yc na nn nc pa pn pc g d s _ X0.out.hA HZ.out).mono ?_
 generalize w.alloc (.cells #[.slice xa xn xc, .slice ya yn yc, .int .i64 g, .slice na nn nc, .slice pa pn pc] 49) = U at *
 rintro e w1 ⟨⟨x, rfl, hx1, hx2, hx3⟩, hb⟩
 have X1 := hid (X0.out.below hb)
 have HX := hid hx3
 clear hb hx3 X0
 by_cases hneg : x < 0
 ·go_wp2
  go_ret
  exact ⟨rfl, X1.out.bel⟩
 ·obtain ⟨hsum, m3, hsn, m4⟩ := HX.out (by omega)
  have HSM := hid (small_of_sum hsum).1
  have HSN := hid hsn
  have m1 : xn ≤ 1048576 := by rw [NX.out]; exact (small_of_sum hsum).2.1
  have m2 : yn ≤ 1048576 := by rw [NY.out]; exact (small_of_sum hsum).2.2
  clear HX hsum hsn
  have HTO : Hid (∀ v : World, SX w v xa xn xc ya yn yc na nn nc pa pn pc g d s → Calls Tryz.prog 17 #[.agg #[.slice xa xn xc, .slice ya yn yc, .int .i64 g, .slice na nn nc, .slice pa pn pc]] v fun e w' => ∃ g0 g1 g2 g3, e = .returned (.agg #[.slice (some ⟨g0, 0, none⟩) xn xn, .slice (some ⟨g1, 0, none⟩) yn yn, .int .i64 g, .slice (some ⟨g2, 0, none⟩) nn nn, .slice (some ⟨g3, 0, none⟩) pn pn]) ∧ StR w' (fun _ => True) (some ⟨g0, 0, none⟩) xn xn (some ⟨g1, 0, none⟩) yn yn (some ⟨g2, 0, none⟩) nn nn (some ⟨g3, 0, none⟩) pn pn d s ∧ Below v.heap.size v w') := fun v hv => toStore_any _ xa xn xc ya yn yc na nn nc pa pn pc g d s v hv.hA m1 m2 m3 m4 HSM.out HSN.out
  have HSP : Hid (∀ (v : World) g0 g1 g2 g3, StR v (fun _ => True) (some ⟨g0, 0, none⟩) xn xn (some ⟨g1, 0, none⟩) yn yn (some ⟨g2, 0, none⟩) nn nn (some ⟨g3, 0, none⟩) pn pn d s → Calls Tryz.prog 16 #[.agg #[.slice (some ⟨g0, 0, none⟩) xn xn, .slice (some ⟨g1, 0, none⟩) yn yn, .int .i64 g, .slice (some ⟨g2, 0, none⟩) nn nn, .slice (some ⟨g3, 0, none⟩) pn pn]] v fun e w' => e = .returned (.bool (stOk d g s)) ∧ Below v.heap.size v w') := fun v g0 g1 g2 g3 hR => specStoreOk_any _ _ _ _ _ _ _ _ _ _ _ _ _ g d s v hR HSM.out m1 m2
  have HIM : Hid (∀ (v : World) g0 g1 g2 g3, Below w.heap.size w v → StR v (fun _ => True) (some ⟨g0, 0, none⟩) xn xn (some ⟨g1, 0, none⟩) yn yn (some ⟨g2, 0, none⟩) nn nn (some ⟨g3, 0, none⟩) pn pn d s → Calls Tryz.prog 18 #[.agg #[.slice (some ⟨g0, 0, none⟩) xn xn, .slice (some ⟨g1, 0, none⟩) yn yn, .int .i64 g, .slice (some ⟨g2, 0, none⟩) nn nn, .slice (some ⟨g3, 0, none⟩) pn pn]] v fun e w' => e = .returned (.bool (stOk d g s)) ∧ Below v.heap.size v w') := fun v g0 g1 g2 g3 hw hR => implStoreOk_any _ _ _ _ _ _ _ _ _ _ _ _ _ g d s v hR HSM.out (HE.out.below hw HE.out.lt) (HE2.out.below hw HE2.out.lt) (HE3.out.below hw HE3.out.lt)
  clear HE HE2 HE3
  generalize stOk d g s = z at *
  have hz : (z != z) = false := by simp
  obtain ⟨x0, x1, x2, x3, x4⟩ := X1.out.cells
  go_wp2_with fail
  refine (HTO.out _ X1.out).mono ?_
  rintro e w2 ⟨g0, g1, g2, g3, rfl, hR, hb⟩
  have X2 := hid (X1.out.below hb)
  have C2 := hid hR
  clear hb X1 hR x0 x1 x2 x3 x4
  go_wp2_with fail
  refine (HSP.out _ _ _ _ _ C2.out).mono ?_
  rintro e w3 ⟨rfl, hb⟩
  have X3 := hid (X2.out.below hb)
  clear hb X2 C2 HSP
  obtain ⟨x0, x1, x2, x3, x4⟩ := X3.out.cells
  go_wp2_with fail
  refine (HTO.out _ X3.out).mono ?_
  rintro e w4 ⟨g4, g5, g6, g7, rfl, hR, hb⟩
  have hbn := below_new (o := .cells #[.slice (some ⟨g4, 0, none⟩) xn xn, .slice (some ⟨g5, 0, none⟩) yn yn, .int .i64 g, .slice (some ⟨g6, 0, none⟩) nn nn, .slice (some ⟨g7, 0, none⟩) pn pn] 36) (w := w4) (Below.refl _ _)
  have hb2 : Below w3.heap.size w3 (w4.alloc (.cells #[.slice (some ⟨g4, 0, none⟩) xn xn, .slice (some ⟨g5, 0, none⟩) yn yn, .int .i64 g, .slice (some ⟨g6, 0, none⟩) nn nn, .slice (some ⟨g7, 0, none⟩) pn pn] 36)) := hb.trans (hbn.mono hb.size)
  have X5 := hid (X3.out.below hb2)
  have D5 := hid (hR.below hbn)
  have K5 := hid (Bk.new w4 36 [.slice (some ⟨g4, 0, none⟩) xn xn, .slice (some ⟨g5, 0, none⟩) yn yn, .int .i64 g, .slice (some ⟨g6, 0, none⟩) nn nn, .slice (some ⟨g7, 0, none⟩) pn pn])
  clear hb hb2 hbn hR X3 x0 x1 x2 x3 x4
  go_wp2_with fail
  refine (HIM.out _ _ _ _ _ X5.out.bel D5.out).mono ?_
  generalize w4.alloc (.cells #[.slice (some ⟨g4, 0, none⟩) xn xn, .slice (some ⟨g5, 0, none⟩) yn yn, .int .i64 g, .slice (some ⟨g6, 0, none⟩) nn nn, .slice (some ⟨g7, 0, none⟩) pn pn] 36) = u5 at *
  generalize w4.heap.size = bX at *
  rintro e w6 ⟨rfl, hb⟩
  have X6 := hid (X5.out.below hb)
  have D6 := hid (D5.out.below hb)
  have K6 := hid (K5.out.below hb)
  clear hb X5 D5 K5 HIM
  have X7 := hid (X6.out.below (below_drew _))
  have D7 := hid (D6.out.below (below_drew _))
  have K7 := hid (K6.out.below (below_drew _))
  clear X6 D6 K6
  obtain ⟨x0, x1, x2, x3, x4⟩ := X7.out.cells
  have y0 := K7.out.cell (j := 0) rfl
  have y1 := K7.out.cell (j := 1) rfl
  have y2 := K7.out.cell (j := 2) rfl
  have y3 := K7.out.cell (j := 3) rfl
  have y4 := K7.out.cell (j := 4) rfl
  go_wp2_with fail
  go_cut [26] (fun x v => x = .bool false ∧ Below w.heap.size w v)
  case first =>
   go_region_with (first
    | (go_at_call 17; refine (HTO.out _ X7.out).mono ?_; rintro e w8 ⟨h0, h1, h2, h3, rfl, hR8, hb8⟩; have z0 := (K7.out.below hb8).cell (j := 0) rfl; have z1 := (K7.out.below hb8).cell (j := 1) rfl; have z2 := (K7.out.below hb8).cell (j := 2) rfl; have z3 := (K7.out.below hb8).cell (j := 3) rfl; have z4 := (K7.out.below hb8).cell (j := 4) rfl)
    | (go_at_call 10; refine (eqStore_same _ _ _ _ _ _ _ _ _ _ _ _ _ _ _ _ _ _ _ _ _ _ _ _ _ _ g d s _ (D7.out.below hb8) hR8 HSM.out).mono ?_; rintro e w9 ⟨rfl, hb9⟩))
   all_goals (go_wp2_with fail; go_meet)
   all_goals exact ⟨by simp, ((X7.out.below hb8).below hb9).bel⟩
  case rest =>
   obtain ⟨rfl, hB⟩ := hcut
   clear x0 x1 x2 x3 x4 y0 y1 y2 y3 y4 X7 D7 K7
   go_wp2
   go_ret
   exact ⟨rfl, hB⟩
open Go.ChangeShapes Go.WideShapes Go.ChangeAt Go.RowKit
theorem trodVars_first {H : Type} {enc : TypeId × Value → H} {P : Program} {w : World} {spare : Nat → Bool} {n : String} {ns : List String} {gs : List (DataW H)} {ps : List MemPlace} (h : DataW.TrodVars enc P w spare (n :: ns) gs ps) :
  ∃ g t cs f d p ds q, gs = d :: ds ∧ P.globalNamed n = some g ∧ (P.globals[g]?).map (·.type) = some t ∧ w.var? P n = some cs ∧ DataW.trod enc P w 0 spare true f t cs.toList = some (d, p) ∧ DataW.TrodVars enc P w spare ns ds q ∧ ps = MemPlace.row ⟨g, 0, none⟩ cs.size ++ p ++ q := by
 cases gs with
 | nil => simp [DataW.TrodVars] at h
 | cons d ds =>
  obtain ⟨g, t, cs, f, p, q, h1, h2, h3, h4, hs, e⟩ := h
  exact ⟨g, t, cs, f, d, p, ds, q, rfl, h1, h2, h3, h4, hs, e⟩
theorem vars_first {H : Type} (enc : TypeId × Value → H) {P : Program} {W : World} {n : String} {ns : List String} {g : Nat} {ti : TypeId} {ms : Array (String × TypeId)} {x : Value} {ds : List (DataW H)} {q : List MemPlace} {sp : Nat → Bool}
  (hg : P.globalNamed n = some g) (ht : (P.globals[g]?).map (·.type) = some ti) (hi : P.underlying ti = some (.interface ms)) (h : W.var? P n = some #[x]) (ix : IsIface x) (hr : DataW.TrodVars enc P W sp ns ds q) :
  DataW.TrodVars enc P W sp (n :: ns) (tok enc x :: ds) (.cell g 0 :: q) :=
 ⟨g, ti, #[x], 1, [], q, hg, ht, h, trod_held hi ix 0, hr, rfl⟩
open Go.ChangeShapes Go.WideShapes Go.ChangeAt Go.RowKit
theorem rw_mkD {w : World} {a : Addr} {n c : Nat} {xs : List Value} (hl : n ≤ c) (hc : c ≤ 9223372036854775807) (hx : n = 0 → xs = []) (h0 : 0 < n → 0 < xs.length) (h : ∀ j u, xs[j]? = some u → w.cell? (a.add j) = some u) : Rw w (fun _ => True) (.slice (some a) n c) n xs := by
 refine ⟨_, c, rfl, hl, hc, hx, fun h => by (cases h), fun hp => ?_⟩
 obtain ⟨b, off, spot⟩ := a
 obtain ⟨u, hu⟩ : ∃ u, xs[0]? = some u := ⟨xs[0]'(h0 hp), by simp [h0 hp]⟩
 have hc0 := h 0 u hu
 have hspot : spot = none := by simpa [Addr.add] using World.cell?_spot hc0
 subst hspot
 refine ⟨b, off, rfl, by simpa [Addr.add] using block_lt hc0, trivial, fun j v hv => ?_⟩
 have := h j v hv
 rwa [Addr.add_lit] at this
set_option maxRecDepth 100000 in
theorem open_byD {H : Type} {enc : TypeId × Value → H} {w : World} {base : Nat} {spare : Nat → Bool} {held : Bool} {fuel : Nat} {v : Value} {x : DataW H × List MemPlace}
  (h : DataW.trod enc Tryz.prog w base spare held fuel 89 [v] = some x) : ∃ l : List Int, By w (fun _ => True) v l := by
 rcases open_ints Tryz.underlying89 Tryz.underlying5 (by kernel_rfl) h with ⟨hcs, _⟩ | ⟨a, len, cap, zs, hcs, _, hl, hm, hz, _, hcell, hwz⟩
 ·simp at hcs
  subst hcs
  exact ⟨[], rw_nil _ _, fun i => by simp⟩
 ·simp at hcs
  subst hcs
  have hlm : len ≤ zs.length := by rw [hz]; split <;> omega
  unfold maxLen at hm
  refine ⟨zs.take len, ?_, fun i => ?_⟩
  ·rw [show (zs.take len).length = len by simp; omega]
   refine rw_mkD hl (by omega) (fun h0 => by simp [h0]) (fun h0 => by simp; omega) (fun j u hu => ?_)
   have hj : j < len := by
    have := (List.getElem?_eq_some_iff.1 hu).1
    simp at this
    omega
   have := hcell j (by omega)
   rw [this]
   simp [hj, show j < zs.length by omega] at hu
   simp [show j < zs.length by omega, hu]
  ·by_cases hi : i < (zs.take len).length
   ·have hmem : (zs.take len)[i] ∈ zs := List.mem_of_mem_take (List.getElem_mem hi)
    have := hwz _ hmem
    rw [List.getElem?_eq_getElem hi]
    simpa [Lit.wf, IntKind.min, IntKind.max, IntKind.signed, IntKind.bits] using this
   ·rw [List.getElem?_eq_none (by omega)]; simp
set_option maxRecDepth 100000 in
theorem sheet_one : ∃ f0 : Field, Tryz.prog.underlying 98 = some (.struct #[f0]) ∧ f0.type = 89 ∧ f0.offset = 0 := ⟨_, Tryz.underlying98, rfl, rfl⟩
set_option maxRecDepth 100000 in
theorem write_two : ∃ f0 f1 : Field, Tryz.prog.underlying 101 = some (.struct #[f0, f1]) ∧ f0.type = 3 ∧ f1.type = 89 ∧ f0.offset = 0 ∧ f1.offset = 1 := ⟨_, _, Tryz.underlying101, rfl, rfl, rfl, rfl⟩
set_option maxRecDepth 100000 in
theorem disk_two : ∃ f0 f1 : Field, Tryz.prog.underlying 25 = some (.struct #[f0, f1]) ∧ f0.type = 22 ∧ f1.type = 23 ∧ f0.offset = 0 ∧ f1.offset = 1 := ⟨_, _, Tryz.underlying25, rfl, rfl, rfl, rfl⟩
set_option maxRecDepth 100000 in
theorem open_shtsD {H : Type} {enc : TypeId × Value → H} {w : World} {base : Nat} {spare : Nat → Bool} {held : Bool} {fuel : Nat} {v : Value} {x : DataW H × List MemPlace}
  (h : DataW.trod enc Tryz.prog w base spare held fuel 22 [v] = some x) : ∃ ss : List (List Int), Shr w (fun _ => True) v ss := by
 obtain ⟨f0, hs, t0, o0⟩ := sheet_one
 have k0 : Tryz.prog.cellsOf 89 = 1 := by kernel_rfl
 rcases Go.Deep.open_slice1 Tryz.underlying22 (by kernel_rfl) h with ⟨hcs, _⟩ | ⟨a, len, cap, m, n, V, D, P, hcs, _, hl, hm, hmm, _, hc⟩
 ·simp at hcs
  subst hcs
  exact ⟨[], [], rfl, rw_nil _ _, fun i hi => by simp at hi⟩
 ·simp at hcs
  subst hcs
  have hlm : len ≤ m := by rw [hmm]; split <;> omega
  have ex : ∀ i, ∃ l : List Int, i < m → By w (fun _ => True) (V i) l := by
   intro i
   by_cases hi : i < m
   ·obtain ⟨_, hd⟩ := hc i hi
    obtain ⟨y0, n', _, _, d0⟩ := trod_struct1 hs hd
    rw [t0, o0, k0] at d0
    simp at d0
    obtain ⟨l, hl⟩ := open_byD d0
    exact ⟨l, fun _ => hl⟩
   ·exact ⟨[], fun h => absurd h hi⟩
  obtain ⟨f, hf⟩ := Classical.axiomOfChoice ex
  unfold maxLen at hm
  refine ⟨(List.range len).map f, (List.range len).map V, by simp, ?_, fun i hi => ?_⟩
  ·rw [show ((List.range len).map f).length = len by simp]
   refine rw_mkD hl (by omega) (fun h0 => by simp [h0]) (fun h0 => by simp; omega) (fun j u hu => ?_)
   have hj : j < len := by
    have := (List.getElem?_eq_some_iff.1 hu).1
    simpa using this
   simp [hj] at hu
   rw [← hu]
   exact (hc j (by omega)).1
  ·have hi' : i < len := by simpa using hi
   have := hf i (by omega)
   simpa [uAt, shAt, hi'] using this
set_option maxRecDepth 100000 in
theorem open_wrtsD {H : Type} {enc : TypeId × Value → H} {w : World} {base : Nat} {spare : Nat → Bool} {held : Bool} {fuel : Nat} {v : Value} {x : DataW H × List MemPlace}
  (h : DataW.trod enc Tryz.prog w base spare held fuel 23 [v] = some x) : ∃ ds : List DW, Wrr w (fun _ => True) v ds := by
 obtain ⟨f0, f1, hs, t0, t1, o0, o1⟩ := write_two
 have k0 : Tryz.prog.cellsOf 3 = 1 := by kernel_rfl
 have k1 : Tryz.prog.cellsOf 89 = 1 := by kernel_rfl
 have k3 : Tryz.prog.cellsOf 101 = 2 := by kernel_rfl
 rcases Go.Deep.open_slice Tryz.underlying23 h with ⟨hcs, _⟩ | ⟨a, len, cap, m, n, D, P, hcs, _, hl, hm, hmm, _, hc⟩
 ·simp at hcs
  subst hcs
  exact ⟨[], [], rfl, rw_nil _ _, fun i hi => by simp at hi⟩
 ·simp at hcs
  subst hcs
  have hlm : len ≤ m := by rw [hmm]; split <;> omega
  simp only [k3] at hc
  have ex : ∀ i, ∃ p : (Int × Value) × DW, i < m → w.cell? (a.add (i * 2)) = some (.int .i64 p.1.1) ∧ w.cell? (a.add (i * 2 + 1)) = some p.1.2 ∧ p.1.1 = p.2.1 ∧ By w (fun _ => True) p.1.2 p.2.2 := by
   intro i
   by_cases hi : i < m
   ·obtain ⟨cs', hcs, hd⟩ := hc i hi
    obtain ⟨_, hcl, hcell⟩ := World.cells?_some hcs
    obtain ⟨y0, y1, n', _, _, d0, d1⟩ := trod_struct2 hs hd
    rw [t0, o0, k0] at d0
    rw [t1, o1, k1] at d1
    obtain ⟨v0, v1, rfl⟩ : ∃ v0 v1, cs' = [v0, v1] := by
     match cs', hcl with
     | [v0, v1], _ => exact ⟨v0, v1, rfl⟩
    simp at d0 d1
    obtain ⟨t, e0, _, _⟩ := DataW.trod_int Tryz.underlying3 d0
    simp at e0
    subst e0
    obtain ⟨l1, p1⟩ := open_byD d1
    have c0 := hcell 0 (by omega)
    have c1 := hcell 1 (by omega)
    obtain ⟨cs0, hcs0, _⟩ := hc 0 (by omega)
    have c00 := (World.cells?_some hcs0).2.2 0 (by omega)
    have hcl0 := (World.cells?_some hcs0).2.1
    obtain ⟨b, off, spot⟩ := a
    have hspot : spot = none := by
     have e0 : ∀ x : Addr, x.add 0 = x := fun _ => rfl
     rw [Nat.zero_mul, e0, e0] at c00
     obtain ⟨u0, hu0⟩ : ∃ u, cs0[0]? = some u := ⟨cs0[0]'(by omega), by simp⟩
     exact World.cell?_spot (c00.trans hu0)
    subst hspot
    simp only [Addr.add_lit] at c0 c1
    refine ⟨((t, v1), (t, l1)), fun _ => ⟨?_, ?_, rfl, p1⟩⟩
    ·simpa [Addr.add_lit] using c0
    ·simpa [Addr.add_lit, Nat.add_assoc] using c1
   ·exact ⟨((0, .slice none 0 0), (0, [])), fun h => absurd h hi⟩
  obtain ⟨f, hf⟩ := Classical.axiomOfChoice ex
  unfold maxLen at hm
  refine ⟨(List.range len).map fun i => (f i).2, (List.range len).map fun i => (f i).1, by simp, ?_, fun i hi => ?_⟩
  ·rw [show ((List.range len).map fun i => (f i).2).length = len by simp]
   refine rw_mkD hl (by omega) (fun h0 => by simp [h0, wcs]) (fun h0 => by rw [wcs_length]; simp; omega) (fun j u hu => ?_)
   have hj : j < len * 2 := by
    have := (List.getElem?_eq_some_iff.1 hu).1
    simpa [wcs_length] using this
   have hq := wcs_at ((List.range len).map fun i => (f i).1) (j / 2) (by simp; omega)
   have hv : xAt ((List.range len).map fun i => (f i).1) (j / 2) = (f (j / 2)).1 := by simp [xAt, show j / 2 < len by omega]
   rw [hv] at hq
   have hc := hf (j / 2) (by omega)
   have h3 : j = j / 2 * 2 ∨ j = j / 2 * 2 + 1 := by omega
   rcases h3 with e | e
   ·rw [← e, hu] at hq
    rw [← e] at hc
    rw [hc.1, hq.1]
   ·rw [← e, hu] at hq
    rw [← e] at hc
    rw [hc.2.1, hq.2]
  ·have hi' : i < len := by simpa using hi
   have := (hf i (by omega)).2.2
   simpa [xAt, dwAt, hi'] using this
open Go.ChangeShapes Go.WideShapes Go.ChangeAt Go.RowKit
theorem pair_two : ∃ f0 f1 : Field, Tryz.prog.underlying 216 = some (.struct #[f0, f1]) ∧ f0.type = 9 ∧ f1.type = 9 ∧ f0.offset = 0 ∧ f1.offset = 1 := ⟨_, _, Tryz.underlying216, rfl, rfl, rfl, rfl⟩
theorem open_pairs {H : Type} {enc : TypeId × Value → H} {w : World} {base : Nat} {spare : Nat → Bool} {held : Bool} {fuel : Nat} {v : Value} {x : DataW H × List MemPlace}
  (h : DataW.trod enc Tryz.prog w base spare held fuel 170 [v] = some x) : ∃ l : List PB, Pr w (fun _ => True) v l ∧ szOkP l := by
 obtain ⟨f0, f1, hs, t0, t1, o0, o1⟩ := pair_two
 have k : Tryz.prog.cellsOf 9 = 1 := by kernel_rfl
 rcases Go.Deep.open_slice_pairs Tryz.underlying170 hs (by kernel_rfl) o0 o1 (by rw [t0]; exact k) (by rw [t1]; exact k) h with ⟨hcs, _⟩ | ⟨a, len, cap, m, n, V0, V1, D0, D1, P0, P1, hcs, _, hl, hm, hmm, _, hc⟩
 ·simp at hcs
  subst hcs
  exact ⟨[], rw_nil _ _, fun i => by simp [pAtB]; decide⟩
 ·simp at hcs
  subst hcs
  have hlm : len ≤ m := by rw [hmm]; split <;> omega
  have ex : ∀ i, ∃ p : PB, i < m → w.cell? (a.add (i * 2)) = some (.string p.1) ∧ w.cell? (a.add (i * 2 + 1)) = some (.string p.2) ∧ p.1.size ≤ maxLen ∧ p.2.size ≤ maxLen := by
   intro i
   by_cases hi : i < m
   ·obtain ⟨c0, c1, d0, d1⟩ := hc i hi
    rw [t0] at d0
    rw [t1] at d1
    obtain ⟨s0, e0, _, l0⟩ := DataW.trod_string Tryz.underlying9 d0
    obtain ⟨s1, e1, _, l1⟩ := DataW.trod_string Tryz.underlying9 d1
    simp at e0 e1
    exact ⟨(s0, s1), fun _ => ⟨by rw [c0, e0], by rw [c1, e1], l0, l1⟩⟩
   ·exact ⟨(⟨#[]⟩, ⟨#[]⟩), fun h => absurd h hi⟩
  obtain ⟨f, hf⟩ := Classical.axiomOfChoice ex
  unfold maxLen at hm hf
  refine ⟨(List.range len).map f, ?_, fun i => ?_⟩
  ·refine ⟨_, cap, by simp; rfl, by simpa using hl, by omega, fun h0 => ?_, fun h0 => (by cases h0), fun hp => ?_⟩
   ·simp at h0; subst h0; rfl
   ·simp at hp
    obtain ⟨b, off, spot⟩ := a
    have hc0 := (hf 0 (by omega)).1
    have hspot : spot = none := by simpa [Addr.add] using World.cell?_spot hc0
    subst hspot
    refine ⟨b, off, rfl, by simpa [Addr.add] using block_lt hc0, trivial, fun j u hu => ?_⟩
    have hj : j < len * 2 := by
     have := (List.getElem?_eq_some_iff.1 hu).1
     simpa [pcs_length] using this
    rcases Nat.mod_two_eq_zero_or_one j with e | e
    ·have h1 := (pcs_at ((List.range len).map f) (j / 2) (by simp; omega)).1
     rw [show j / 2 * 2 = j by omega, hu] at h1
     have h2 := (hf (j / 2) (by omega)).1
     rw [Addr.add_lit, show j / 2 * 2 = j by omega] at h2
     rw [h2, h1]
     simp [pAtB, show j / 2 < len by omega]
    ·have h1 := (pcs_at ((List.range len).map f) (j / 2) (by simp; omega)).2
     rw [show j / 2 * 2 + 1 = j by omega, hu] at h1
     have h2 := (hf (j / 2) (by omega)).2.1
     rw [Addr.add_lit, show j / 2 * 2 + 1 = j by omega] at h2
     rw [h2, h1]
     simp [pAtB, show j / 2 < len by omega]
  ·by_cases hi : i < len
   ·have := hf i (by omega)
    simp [pAtB, hi]
    omega
   ·simp [pAtB, hi]
    decide
open Go.ChangeShapes Go.WideShapes Go.ChangeAt Go.RowKit
theorem rw_mk {w : World} {a : Addr} {n c : Nat} {xs : List Value} (hl : n ≤ c) (hc : c ≤ 9223372036854775807) (hx : n = 0 → xs = []) (h0 : 0 < n → 0 < xs.length) (h : ∀ j u, xs[j]? = some u → w.cell? (a.add j) = some u) : Rw w (fun _ => True) (.slice (some a) n c) n xs := by
 refine ⟨_, c, rfl, hl, hc, hx, fun h => by (cases h), fun hp => ?_⟩
 obtain ⟨b, off, spot⟩ := a
 obtain ⟨u, hu⟩ : ∃ u, xs[0]? = some u := ⟨xs[0]'(h0 hp), by simp [h0 hp]⟩
 have hc0 := h 0 u hu
 have hspot : spot = none := by simpa [Addr.add] using World.cell?_spot hc0
 subst hspot
 refine ⟨b, off, rfl, by simpa [Addr.add] using block_lt hc0, trivial, fun j v hv => ?_⟩
 have := h j v hv
 rwa [Addr.add_lit] at this
theorem open_sr {H : Type} {enc : TypeId × Value → H} {w : World} {base : Nat} {spare : Nat → Bool} {held : Bool} {fuel : Nat} {v : Value} {x : DataW H × List MemPlace}
  (h : DataW.trod enc Tryz.prog w base spare held fuel 83 [v] = some x) : ∃ l : List ByteArray, Sr w (fun _ => True) v l ∧ szOkS l := by
 rcases Go.Deep.open_strs Tryz.underlying83 Tryz.underlying9 (by kernel_rfl) h with ⟨hcs, _⟩ | ⟨a, len, cap, m, Sx, hcs, _, hl, hm, hmm, _, hc⟩
 ·simp at hcs
  subst hcs
  exact ⟨[], rw_nil _ _, fun i => by simp [sAt]; decide⟩
 ·simp at hcs
  subst hcs
  have hlm : len ≤ m := by rw [hmm]; split <;> omega
  unfold maxLen at hm hc
  refine ⟨(List.range len).map Sx, ?_, fun i => ?_⟩
  ·unfold Sr
   rw [show ((List.range len).map Sx).length = len by simp]
   refine rw_mk hl (by omega) (fun h0 => by simp [h0]) (fun h0 => by simpa using h0) (fun j u hu => ?_)
   have hj : j < len := by
    have := (List.getElem?_eq_some_iff.1 hu).1
    simpa using this
   simp [hj] at hu
   rw [← hu]
   exact (hc j (by omega)).1
  ·by_cases hi : i < len
   ·have := (hc i (by omega)).2
    simp [sAt, hi]
    omega
   ·simp [sAt, hi]
    decide
theorem open_ir {H : Type} {enc : TypeId × Value → H} {w : World} {base : Nat} {spare : Nat → Bool} {held : Bool} {fuel : Nat} {v : Value} {x : DataW H × List MemPlace}
  (h : DataW.trod enc Tryz.prog w base spare held fuel 34 [v] = some x) : ∃ l : List Int, Ir w (fun _ => True) v l := by
 rcases open_ints Tryz.underlying34 Tryz.underlying3 (by kernel_rfl) h with ⟨hcs, _⟩ | ⟨a, len, cap, zs, hcs, _, hl, hm, hz, _, hcell, _⟩
 ·simp at hcs
  subst hcs
  exact ⟨[], rw_nil _ _⟩
 ·simp at hcs
  subst hcs
  have hlm : len ≤ zs.length := by rw [hz]; split <;> omega
  unfold maxLen at hm
  refine ⟨zs.take len, ?_⟩
  unfold Ir
  rw [show (zs.take len).length = len by simp; omega]
  refine rw_mk hl (by omega) (fun h0 => by simp [h0]) (fun h0 => by simp; omega) (fun j u hu => ?_)
  have hj : j < len := by
   have := (List.getElem?_eq_some_iff.1 hu).1
   simp at this
   omega
  have := hcell j (by omega)
  rw [this]
  simp [hj, show j < zs.length by omega] at hu
  simp [show j < zs.length by omega, hu]
theorem node_three : ∃ f0 f1 f2 : Field, Tryz.prog.underlying 172 = some (.struct #[f0, f1, f2]) ∧ f0.type = 170 ∧ f1.type = 83 ∧ f2.type = 34 ∧ f0.offset = 0 ∧ f1.offset = 1 ∧ f2.offset = 2 := ⟨_, _, _, Tryz.underlying172, rfl, rfl, rfl, rfl, rfl, rfl⟩
theorem tree_one : ∃ f0 : Field, Tryz.prog.underlying 47 = some (.struct #[f0]) ∧ f0.type = 45 ∧ f0.offset = 0 := ⟨_, Tryz.underlying47, rfl, rfl⟩
theorem open_nodes {H : Type} {enc : TypeId × Value → H} {w : World} {base : Nat} {spare : Nat → Bool} {held : Bool} {fuel : Nat} {v : Value} {x : DataW H × List MemPlace}
  (h : DataW.trod enc Tryz.prog w base spare held fuel 45 [v] = some x) : ∃ ns : List NB, Nr w (fun _ => True) v ns ∧ szOkN ns := by
 obtain ⟨f0, f1, f2, hs, t0, t1, t2, o0, o1, o2⟩ := node_three
 have k0 : Tryz.prog.cellsOf 170 = 1 := by kernel_rfl
 have k1 : Tryz.prog.cellsOf 83 = 1 := by kernel_rfl
 have k2 : Tryz.prog.cellsOf 34 = 1 := by kernel_rfl
 have k3 : Tryz.prog.cellsOf 172 = 3 := by kernel_rfl
 rcases Go.Deep.open_slice Tryz.underlying45 h with ⟨hcs, _⟩ | ⟨a, len, cap, m, n, D, P, hcs, _, hl, hm, hmm, _, hc⟩
 ·simp at hcs
  subst hcs
  exact ⟨[], ⟨[], rfl, rw_nil _ _, fun i hi => by simp at hi⟩, fun i hi => by simp at hi⟩
 ·simp at hcs
  subst hcs
  have hlm : len ≤ m := by rw [hmm]; split <;> omega
  simp only [k3] at hc
  have ex : ∀ i, ∃ p : V3 × NB, i < m → w.cell? (a.add (i * 3)) = some p.1.1 ∧ w.cell? (a.add (i * 3 + 1)) = some p.1.2.1 ∧ w.cell? (a.add (i * 3 + 2)) = some p.1.2.2 ∧ N1 w (fun _ => True) p.1 p.2 ∧ szOkP p.2.ps ∧ szOkS p.2.keys := by
   intro i
   by_cases hi : i < m
   ·obtain ⟨cs', hcs, hd⟩ := hc i hi
    obtain ⟨_, hcl, hcell⟩ := World.cells?_some hcs
    obtain ⟨y0, y1, y2, n', _, _, d0, d1, d2⟩ := Go.Deep.trod_struct3 hs hd
    rw [t0, o0, k0] at d0
    rw [t1, o1, k1] at d1
    rw [t2, o2, k2] at d2
    obtain ⟨v0, v1, v2, rfl⟩ : ∃ v0 v1 v2, cs' = [v0, v1, v2] := by
     match cs', hcl with
     | [v0, v1, v2], _ => exact ⟨v0, v1, v2, rfl⟩
    simp at d0 d1 d2
    obtain ⟨l0, p0, s0⟩ := open_pairs d0
    obtain ⟨l1, p1, s1⟩ := open_sr d1
    obtain ⟨l2, p2⟩ := open_ir d2
    have c0 := hcell 0 (by omega)
    have c1 := hcell 1 (by omega)
    have c2 := hcell 2 (by omega)
    obtain ⟨cs0, hcs0, _⟩ := hc 0 (by omega)
    have c00 := (World.cells?_some hcs0).2.2 0 (by omega)
    have hcl0 := (World.cells?_some hcs0).2.1
    obtain ⟨b, off, spot⟩ := a
    have hspot : spot = none := by
     have e0 : ∀ x : Addr, x.add 0 = x := fun _ => rfl
     rw [Nat.zero_mul, e0, e0] at c00
     obtain ⟨u0, hu0⟩ : ∃ u, cs0[0]? = some u := ⟨cs0[0]'(by omega), by simp⟩
     exact World.cell?_spot (c00.trans hu0)
    subst hspot
    simp only [Addr.add_lit] at c0 c1 c2
    refine ⟨((v0, v1, v2), ⟨l0, l1, l2⟩), fun _ => ⟨?_, ?_, ?_, ⟨p0, p1, p2⟩, s0, s1⟩⟩
    ·simpa [Addr.add_lit] using c0
    ·simpa [Addr.add_lit, Nat.add_assoc] using c1
    ·simpa [Addr.add_lit, Nat.add_assoc] using c2
   ·exact ⟨((.slice none 0 0, .slice none 0 0, .slice none 0 0), ⟨[], [], []⟩), fun h => absurd h hi⟩
  obtain ⟨f, hf⟩ := Classical.axiomOfChoice ex
  unfold maxLen at hm
  refine ⟨(List.range len).map fun i => (f i).2, ⟨(List.range len).map fun i => (f i).1, by simp, ?_, fun i hi => ?_⟩, fun i hi => ?_⟩
  ·rw [show ((List.range len).map fun i => (f i).2).length = len by simp]
   refine rw_mk hl (by omega) (fun h0 => by simp [h0, ncs]) (fun h0 => by rw [ncs_length]; simp; omega) (fun j u hu => ?_)
   have hj : j < len * 3 := by
    have := (List.getElem?_eq_some_iff.1 hu).1
    simpa [ncs_length] using this
   have hq := ncs_at ((List.range len).map fun i => (f i).1) (j / 3) (by simp; omega)
   have hv : vAt ((List.range len).map fun i => (f i).1) (j / 3) = (f (j / 3)).1 := by simp [vAt, show j / 3 < len by omega]
   rw [hv] at hq
   have hc := hf (j / 3) (by omega)
   have h3 : j = j / 3 * 3 ∨ j = j / 3 * 3 + 1 ∨ j = j / 3 * 3 + 2 := by omega
   rcases h3 with e | e | e
   ·rw [← e, hu] at hq
    rw [← e] at hc
    rw [hc.1, hq.1]
   ·rw [← e, hu] at hq
    rw [← e] at hc
    rw [hc.2.1, hq.2.1]
   ·rw [← e, hu] at hq
    rw [← e] at hc
    rw [hc.2.2.1, hq.2.2]
  ·have hi' : i < len := by simpa using hi
   have := (hf i (by omega)).2.2.2.1
   simpa [vAt, nAt, hi'] using this
  ·have hi' : i < len := by simpa using hi
   have := (hf i (by omega)).2.2.2.2
   simpa [nAt, hi'] using this
open Go.ChangeShapes Go.WideShapes Go.ChangeAt Go.RowKit
set_option linter.unusedVariables false
theorem arrK5 {α : Type} {cs : Array α} (h : cs.size = 5) : ∃ v0 v1 v2 v3 v4, cs = #[v0, v1, v2, v3, v4] := by
 obtain ⟨l⟩ := cs
 match l, h with
 | [v0, v1, v2, v3, v4], _ => exact ⟨v0, v1, v2, v3, v4, rfl⟩
set_option maxRecDepth 100000 in
theorem store_four : ∃ f0 f1 f2 f3 : Field, Tryz.prog.underlying 49 = some (.struct #[f0, f1, f2, f3]) ∧ f0.type = 25 ∧ f1.type = 3 ∧ f2.type = 47 ∧ f3.type = 34 ∧ f0.offset = 0 ∧ f1.offset = 2 ∧ f2.offset = 3 ∧ f3.offset = 4 := ⟨_, _, _, _, Tryz.underlying49, rfl, rfl, rfl, rfl, rfl, rfl, rfl, rfl⟩
set_option maxRecDepth 100000 in
theorem open_storec {H : Type} {enc : TypeId × Value → H} {w : World} {base : Nat} {spare : Nat → Bool} {held : Bool} {fuel : Nat} {v0 v1 v2 v3 v4 : Value} {x : DataW H × List MemPlace}
  (h : DataW.trod enc Tryz.prog w base spare held fuel 49 [v0, v1, v2, v3, v4] = some x) : ∃ (xa : Option Addr) (xn xc : Nat) (ya : Option Addr) (yn yc : Nat) (na : Option Addr) (nn nc : Nat) (pa : Option Addr) (pn pc : Nat) (g : Int) (d : DK) (s : LS), v0 = .slice xa xn xc ∧ v1 = .slice ya yn yc ∧ v2 = .int .i64 g ∧ v3 = .slice na nn nc ∧ v4 = .slice pa pn pc ∧ StR w (fun _ => True) xa xn xc ya yn yc na nn nc pa pn pc d s ∧ szOkN s.1 := by
 obtain ⟨f0, f1, f2, f3, hs, t0, t1, t2, t3, o0, o1, o2, o3⟩ := store_four
 have kSint : Tryz.prog.cellsOf 34 = 1 := by kernel_rfl
 have kint : Tryz.prog.cellsOf 3 = 1 := by kernel_rfl
 have klawsDisk : Tryz.prog.cellsOf 25 = 2 := by kernel_rfl
 have klawsTree : Tryz.prog.cellsOf 47 = 1 := by kernel_rfl
 obtain ⟨xs, n', _, rfl, hl, hlen, hf⟩ := DataW.trod_struct hs h
 match xs, hlen with
 | [y0, y1, y2, y3], _ =>
  have d0 := hf 0 f0 rfl
  have d1 := hf 1 f1 rfl
  have d2 := hf 2 f2 rfl
  have d3 := hf 3 f3 rfl
  rw [t0, o0, klawsDisk] at d0
  rw [t1, o1, kint] at d1
  rw [t2, o2, klawsTree] at d2
  rw [t3, o3, kSint] at d3
  simp at d0 d1 d2 d3
  obtain ⟨f0', f1', hs', t0', t1', o0', o1'⟩ := disk_two
  obtain ⟨z0, z1, n2, _, _, e0, e1⟩ := trod_struct2 hs' d0
  have k1 : Tryz.prog.cellsOf 22 = 1 := by kernel_rfl
  have k2 : Tryz.prog.cellsOf 23 = 1 := by kernel_rfl
  rw [t0', o0', k1] at e0
  rw [t1', o1', k2] at e1
  simp at e0 e1
  obtain ⟨l0, p0⟩ := open_shtsD e0
  obtain ⟨l1, p1⟩ := open_wrtsD e1
  obtain ⟨g0, q1, _⟩ := DataW.trod_int Tryz.underlying3 d1
  obtain ⟨f2', hs2, t2', o2'⟩ := tree_one
  obtain ⟨xs2, n3, _, _, _, hxl, hd⟩ := DataW.trod_struct hs2 d2
  have k3 : Tryz.prog.cellsOf 45 = 1 := by kernel_rfl
  have h0 := hd 0 f2' rfl
  rw [t2', o2', k3] at h0
  obtain ⟨y, hy⟩ : ∃ y, xs2[0]? = some y := ⟨xs2[0]'(by rw [hxl]; simp), by simp [show 0 < xs2.length by rw [hxl]; simp]⟩
  rw [hy] at h0
  simp at h0
  obtain ⟨ns, r1, r2⟩ := open_nodes h0
  obtain ⟨ks, i1⟩ := open_ir d3
  obtain ⟨a0, c0, rfl, _⟩ := p0.shape
  obtain ⟨a1, c1, rfl, _⟩ := p1.shape
  obtain ⟨a2, c2, rfl, _⟩ := r1.shape
  obtain ⟨a3, c3, rfl, _⟩ := i1.shape
  simp at q1
  exact ⟨_, _, _, _, _, _, _, _, _, _, _, _, g0, ⟨l0, l1⟩, (ns, ks), rfl, rfl, q1, rfl, rfl, ⟨⟨p0, p1⟩, r1, i1⟩, r2⟩
set_option maxRecDepth 100000 in
theorem open_store {H : Type} {enc : TypeId × Value → H} {w : World} {base : Nat} {spare : Nat → Bool} {held : Bool} {r : Reach} {b0 : Nat} {v : Value} {d : DataW H} {p : List MemPlace}
  (hv : Value.okWide Tryz.prog w r b0 49 v) (h : DataW.Trod enc Tryz.prog w base spare held 49 v d p) : ∃ (xa : Option Addr) (xn xc : Nat) (ya : Option Addr) (yn yc : Nat) (na : Option Addr) (nn nc : Nat) (pa : Option Addr) (pn pc : Nat) (g : Int) (d : DK) (s : LS), v = .agg #[.slice xa xn xc, .slice ya yn yc, .int .i64 g, .slice na nn nc, .slice pa pn pc] ∧ StR w (fun _ => True) xa xn xc ya yn yc na nn nc pa pn pc d s ∧ szOkN s.1 := by
 obtain ⟨f0, f1, f2, f3, hs, _⟩ := store_four
 obtain ⟨cs, rfl, hsz⟩ := okWide_struct hs hv
 obtain ⟨v0, v1, v2, v3, v4, rfl⟩ := arrK5 (hsz.trans (by kernel_rfl))
 obtain ⟨fuel, hf⟩ := h
 simp [Value.cells] at hf
 obtain ⟨xa, xn, xc, ya, yn, yc, na, nn, nc, pa, pn, pc, g, dd, s, rfl, rfl, rfl, rfl, rfl, h1, h2⟩ := open_storec hf
 exact ⟨xa, xn, xc, ya, yn, yc, na, nn, nc, pa, pn, pc, g, dd, s, rfl, h1, h2⟩
end Go.Proofs.YtidjehapeanpbaaGreatDoor
