/-
  The program's reader of messages: numbers, texts, names and asks.
-/
import Derived.Test.YtbaggkfgnjenoacDoorMg5
import Derived.Test.YtbaggkfgnjenoacDoorMg1
import Derived.Test.YtbaggkfgnjenoacDoorMg6
import Derived.Deep.RegionLaw
import Derived.Deep.DeepCutAuto
import Derived.Deep.WholeRow
namespace Go.Proofs.YtbaggkfgnjenoacDoor
open Go.RowKit
set_option linter.unusedVariables false
/-- The reader R at the place q of the bytes zs. -/
structure Rm (v : World) (R : Nat) (a : Option Addr) (n c : Nat) (zs : List Int) (q : Int) : Prop where
  bk : Bk v R 58 [.slice a n c, .int .i64 q]
  rd : Rd v a n c zs
  lo : ∀ x, a = some x → 0 < n → x.block < R
  qb : q ≤ 281474976710656
theorem Rm.to {v v' : World} {R : Nat} {a : Option Addr} {n c : Nat} {zs : List Int} {q : Int} {P : Nat → Prop} (h : Rm v R a n c zs q) (ho : Only P v v') (hP : ∀ y, P y → R < y) : Rm v' R a n c zs q := by
  have hlt := h.bk.lt
  have hb : Below (R + 1) v v' := ho.below (by omega) (fun b hb hr => by have := hP b hr; omega)
  exact ⟨h.bk.to ho (fun hr => by have := hP _ hr; omega), h.rd.below (hb.mono (Nat.le_succ R)) h.lo, h.lo, h.qb⟩
theorem Rm.below {v v' : World} {R : Nat} {a : Option Addr} {n c : Nat} {zs : List Int} {q : Int} (h : Rm v R a n c zs q) (hb : Below v.heap.size v v') : Rm v' R a n c zs q := h.to (P := fun _ => False) (only_of_below hb _) (fun _ h => h.elim)
theorem Rm.went {v v' : World} {R : Nat} {a : Option Addr} {n c : Nat} {zs : List Int} {q : Int} {q' : Int} (h : Rm v R a n c zs q) (ho : Only (fun y => y = R) v v') (hk : Bk v' R 58 [.slice a n c, .int .i64 q']) (hq : q' ≤ 281474976710656) : Rm v' R a n c zs q' := by
  have hlt := h.bk.lt
  have hb : Below R v v' := ho.below (by omega) (fun b hb hr => by omega)
  exact ⟨hk, h.rd.below hb h.lo, h.lo, hq⟩
theorem gv_qb {w : World} {a : Option Addr} {n c : Nat} {zs : List Int} (h : Rd w a n c zs) (q : Int) : (gv zs q).2 ≤ 281474976710656 := by
  have h1 := h.1
  have h2 := h.2.2.2.1
  rcases gv_range zs h.2.2.2.2.1 q with e | ⟨j, e, _, hj, _⟩
  · rw [e]; decide
  · rw [e]; omega
theorem gt_qb {w : World} {a : Option Addr} {n c : Nat} {zs : List Int} (h : Rd w a n c zs) (q : Int) : (gt zs q).2 ≤ 281474976710656 := by
  have h1 := h.1
  have h2 := h.2.2.2.1
  by_cases hn : (gt zs q).2 < 0
  · omega
  · have := gt_step zs h.2.2.2.2.1 q hn
    omega
set_option maxHeartbeats 2000000 in
set_option maxRecDepth 20000 in
theorem mnum_any (R : Nat) (a : Option Addr) (n c : Nat) (zs : List Int) (q : Int) (x : Int) (q' : Int) (hx : gv zs q = (x, q')) (w : World) (h : Rm w R a n c zs q) :
    Calls Tryd.prog 44 #[.pointer (some ⟨R, 0, none⟩)] w fun e w' => e = .returned (.int .i64 x) ∧ Rm w' R a n c zs q' ∧ Only (fun y => y = R) w w' ∧ w'.heap.size = w.heap.size := by
  have H0 := hid h
  have c0 := h.bk.cell (j := 0) rfl
  have c1 := h.bk.cell (j := 1) rfl
  have HC := hid (implGetVar_any a n c zs q w.drew (h.rd.kept (below_drew _)) (by have := h.qb; omega))
  have HQ : Hid ((gv zs q).2 ≤ 281474976710656) := gv_qb h.rd q
  clear h
  obtain ⟨rfl, rfl⟩ : (gv zs q).1 = x ∧ (gv zs q).2 = q' := ⟨by rw [hx], by rw [hx]⟩
  clear hx
  generalize (gv zs q).1 = s at *
  generalize (gv zs q).2 = q' at *
  go_enter Tryd.func44, Tryd.ntmps44
  go_wp2_with fail
  go_cut [3, 4] (fun x y v => x = .int .i64 s ∧ y = .int .i64 q' ∧ v = w.drew)
  case first =>
    go_region_with (go_at_call 62; refine HC.out.mono ?_; rintro e w1 ⟨rfl, rfl⟩)
    all_goals (go_wp2_with fail; go_meet)
    all_goals exact ⟨rfl, rfl, rfl⟩
  case rest =>
    obtain ⟨rfl, rfl, rfl⟩ := hcut
    have H1 := hid (H0.out.below (below_drew w))
    have O1 : Hid (Only (fun y => y = R) w w.drew) := only_of_below (below_drew w) _
    have Z1 : Hid (w.drew.heap.size = w.heap.size) := rfl
    clear HC c0 c1 H0
    generalize w.drew = v at *
    have c1 := H1.out.bk.cell (j := 1) rfl
    have f1 := H1.out.bk.free 1
    have O2 : Hid (Only (fun y => y = R) v (v.setCell ⟨R, 1, none⟩ (.int .i64 q'))) := only_set (R := fun y => y = R) (p := ⟨R, 1, none⟩) rfl _
    have H2 : Hid (Rm (v.setCell ⟨R, 1, none⟩ (.int .i64 q')) R a n c zs q') := H1.out.went O2.out (H1.out.bk.set 1 _) HQ.out
    have Z2 : Hid ((v.setCell ⟨R, 1, none⟩ (.int .i64 q')).heap.size = w.heap.size) := by show _ = _; rw [← Z1.out]; simp [World.setCell]
    go_wp2
    go_ret
    exact ⟨rfl, H2.out, O1.out.trans O2.out, Z2.out⟩
set_option maxHeartbeats 2000000 in
set_option maxRecDepth 20000 in
theorem mtext_any (R : Nat) (a : Option Addr) (n c : Nat) (zs : List Int) (q : Int) (x : ByteArray) (q' : Int) (hx : (strOf (gt zs q).1, (gt zs q).2) = (x, q')) (w : World) (h : Rm w R a n c zs q) :
    Calls Tryd.prog 63 #[.pointer (some ⟨R, 0, none⟩)] w fun e w' => e = .returned (.string x) ∧ Rm w' R a n c zs q' ∧ Only (fun y => y = R) w w' ∧ w'.heap.size = w.heap.size := by
  have H0 := hid h
  have c0 := h.bk.cell (j := 0) rfl
  have c1 := h.bk.cell (j := 1) rfl
  have HC := hid (implGetText_any a n c zs q w.drew (h.rd.kept (below_drew _)) (by have := h.qb; omega))
  have HQ : Hid ((gt zs q).2 ≤ 281474976710656) := gt_qb h.rd q
  clear h
  obtain ⟨rfl, rfl⟩ : strOf (gt zs q).1 = x ∧ (gt zs q).2 = q' := Prod.mk.inj hx
  clear hx
  generalize strOf (gt zs q).1 = s at *
  generalize (gt zs q).2 = q' at *
  go_enter Tryd.func63, Tryd.ntmps63
  go_wp2_with fail
  go_cut [3, 4] (fun x y v => x = .string s ∧ y = .int .i64 q' ∧ v = w.drew)
  case first =>
    go_region_with (go_at_call 71; refine HC.out.mono ?_; rintro e w1 ⟨rfl, rfl⟩)
    all_goals (go_wp2_with fail; go_meet)
    all_goals exact ⟨rfl, rfl, rfl⟩
  case rest =>
    obtain ⟨rfl, rfl, rfl⟩ := hcut
    have H1 := hid (H0.out.below (below_drew w))
    have O1 : Hid (Only (fun y => y = R) w w.drew) := only_of_below (below_drew w) _
    have Z1 : Hid (w.drew.heap.size = w.heap.size) := rfl
    clear HC c0 c1 H0
    generalize w.drew = v at *
    have c1 := H1.out.bk.cell (j := 1) rfl
    have f1 := H1.out.bk.free 1
    have O2 : Hid (Only (fun y => y = R) v (v.setCell ⟨R, 1, none⟩ (.int .i64 q'))) := only_set (R := fun y => y = R) (p := ⟨R, 1, none⟩) rfl _
    have H2 : Hid (Rm (v.setCell ⟨R, 1, none⟩ (.int .i64 q')) R a n c zs q') := H1.out.went O2.out (H1.out.bk.set 1 _) HQ.out
    have Z2 : Hid ((v.setCell ⟨R, 1, none⟩ (.int .i64 q')).heap.size = w.heap.size) := by show _ = _; rw [← Z1.out]; simp [World.setCell]
    go_wp2
    go_ret
    exact ⟨rfl, H2.out, O1.out.trans O2.out, Z2.out⟩
set_option maxHeartbeats 4000000 in
set_option maxRecDepth 20000 in
theorem mtx_any (R : Nat) (a : Option Addr) (n c : Nat) (zs : List Int) (q : Int) (w : World) (h : Rm w R a n c zs q) :
    Calls Tryd.prog 45 #[.pointer (some ⟨R, 0, none⟩)] w fun r w' => ∃ xc xe xn q' : Int, r = .returned (.agg #[.int .i64 xc, .int .i64 xe, .int .i64 xn]) ∧ NRd zs q [xc, xe, xn] q' ∧ Rm w' R a n c zs q' ∧ Only (fun y => y = R ∨ w.heap.size ≤ y) w w' := by
  obtain ⟨xc, Q1, hxc⟩ : ∃ x y, gv zs q = (x, y) := ⟨_, _, rfl⟩
  obtain ⟨xe, Q2, hxe⟩ : ∃ x y, gv zs Q1 = (x, y) := ⟨_, _, rfl⟩
  obtain ⟨xn, Q3, hxn⟩ : ∃ x y, gv zs Q2 = (x, y) := ⟨_, _, rfl⟩
  have HT : Hid (NRd zs q [xc, xe, xn] Q3) := ⟨Q1, hxc, Q2, hxe, Q3, hxn, rfl⟩
  have hRlt := h.bk.lt
  have RM0 : Hid (Rm ((w.alloc (.cells #[.int .i64 0, .int .i64 0, .int .i64 0] 24)).alloc (.cells #[.int .i64 0, .int .i64 0, .int .i64 0] 24)) R a n c zs q) := h.below (below_new (below_new (Below.refl _ _)))
  have J0 := hid ((Bk.new w 24 [.int .i64 0, .int .i64 0, .int .i64 0]).alloc (.cells #[.int .i64 0, .int .i64 0, .int .i64 0] 24))
  have I0 := hid (Bk.new (w.alloc (.cells #[.int .i64 0, .int .i64 0, .int .i64 0] 24)) 24 [.int .i64 0, .int .i64 0, .int .i64 0])
  rw [show (w.alloc (.cells #[.int .i64 0, .int .i64 0, .int .i64 0] 24)).heap.size = w.heap.size + 1 by simp] at I0
  have B0 : Hid (Only (fun y => y = R ∨ w.heap.size ≤ y) w ((w.alloc (.cells #[.int .i64 0, .int .i64 0, .int .i64 0] 24)).alloc (.cells #[.int .i64 0, .int .i64 0, .int .i64 0] 24))) := only_of_below (below_new (below_new (Below.refl _ _))) _
  clear h
  go_enter Tryd.func45, Tryd.ntmps45
  go_wp2_with fail
  refine (mnum_any R a n c zs q xc Q1 hxc _ RM0.out).mono ?_
  generalize (w.alloc (.cells #[.int .i64 0, .int .i64 0, .int .i64 0] 24)).alloc (.cells #[.int .i64 0, .int .i64 0, .int .i64 0] 24) = U at *
  rintro r w1 ⟨rfl, hr, ho, hz⟩
  have hv := I0.out.lt
  have J1a := hid (J0.out.to ho (fun e => by omega))
  have I1a := hid (I0.out.to ho (fun e => by omega))
  have B1a : Hid (Only (fun y => y = R ∨ w.heap.size ≤ y) w w1) := B0.out.trans (ho.mono (fun y _ hy => .inl hy))
  have RM1a := hid hr
  have I1 : Hid (Bk (w1.setCell ⟨w.heap.size + 1, 0, none⟩ (.int .i64 xc)) (w.heap.size + 1) 24 [.int .i64 xc, .int .i64 0, .int .i64 0]) := (setE I1a.out 0 (.int .i64 xc) (ys := [.int .i64 xc, .int .i64 0, .int .i64 0]) rfl)
  have J1 : Hid (Bk (w1.setCell ⟨w.heap.size + 1, 0, none⟩ (.int .i64 xc)) w.heap.size 24 [.int .i64 0, .int .i64 0, .int .i64 0]) := (J1a.out.setOther (by omega) _ _)
  have B1 : Hid (Only (fun y => y = R ∨ w.heap.size ≤ y) w (w1.setCell ⟨w.heap.size + 1, 0, none⟩ (.int .i64 xc))) := (only_step B1a.out (.inr (by omega)) 0 _)
  have RM1 : Hid (Rm (w1.setCell ⟨w.heap.size + 1, 0, none⟩ (.int .i64 xc)) R a n c zs Q1) := (RM1a.out.to (only_set (R := fun y => y = w.heap.size + 1) (p := ⟨w.heap.size + 1, 0, none⟩) rfl _) (fun y hy => by omega))
  have y0 := I1a.out.cell (j := 0) rfl
  have f0 := I1a.out.free 0
  clear hr ho hv J0 I0 B0 RM0
  go_upto_region 3 with (fail)
  generalize (w1.setCell ⟨w.heap.size + 1, 0, none⟩ (.int .i64 xc)) = V1 at *
  clear y0 f0
  clear J1a I1a B1a RM1a
  go_wp2_with fail
  refine (mnum_any R a n c zs Q1 xe Q2 hxe _ RM1.out).mono ?_
  rintro r w2 ⟨rfl, hr, ho, hz⟩
  have hv := I1.out.lt
  have J2a := hid (J1.out.to ho (fun e => by omega))
  have I2a := hid (I1.out.to ho (fun e => by omega))
  have B2a : Hid (Only (fun y => y = R ∨ w.heap.size ≤ y) w w2) := B1.out.trans (ho.mono (fun y _ hy => .inl hy))
  have RM2a := hid hr
  have I2 : Hid (Bk (w2.setCell ⟨w.heap.size + 1, 1, none⟩ (.int .i64 xe)) (w.heap.size + 1) 24 [.int .i64 xc, .int .i64 xe, .int .i64 0]) := (setE I2a.out 1 (.int .i64 xe) (ys := [.int .i64 xc, .int .i64 xe, .int .i64 0]) rfl)
  have J2 : Hid (Bk (w2.setCell ⟨w.heap.size + 1, 1, none⟩ (.int .i64 xe)) w.heap.size 24 [.int .i64 0, .int .i64 0, .int .i64 0]) := (J2a.out.setOther (by omega) _ _)
  have B2 : Hid (Only (fun y => y = R ∨ w.heap.size ≤ y) w (w2.setCell ⟨w.heap.size + 1, 1, none⟩ (.int .i64 xe))) := (only_step B2a.out (.inr (by omega)) 1 _)
  have RM2 : Hid (Rm (w2.setCell ⟨w.heap.size + 1, 1, none⟩ (.int .i64 xe)) R a n c zs Q2) := (RM2a.out.to (only_set (R := fun y => y = w.heap.size + 1) (p := ⟨w.heap.size + 1, 1, none⟩) rfl _) (fun y hy => by omega))
  have y1 := I2a.out.cell (j := 1) rfl
  have f1 := I2a.out.free 1
  clear hr ho hv J1 I1 B1 RM1
  go_upto_region 4 with (fail)
  generalize (w2.setCell ⟨w.heap.size + 1, 1, none⟩ (.int .i64 xe)) = V2 at *
  clear y1 f1
  clear J2a I2a B2a RM2a
  go_wp2_with fail
  refine (mnum_any R a n c zs Q2 xn Q3 hxn _ RM2.out).mono ?_
  rintro r w3 ⟨rfl, hr, ho, hz⟩
  have hv := I2.out.lt
  have J3a := hid (J2.out.to ho (fun e => by omega))
  have I3a := hid (I2.out.to ho (fun e => by omega))
  have B3a : Hid (Only (fun y => y = R ∨ w.heap.size ≤ y) w w3) := B2.out.trans (ho.mono (fun y _ hy => .inl hy))
  have RM3a := hid hr
  have I3 : Hid (Bk (w3.setCell ⟨w.heap.size + 1, 2, none⟩ (.int .i64 xn)) (w.heap.size + 1) 24 [.int .i64 xc, .int .i64 xe, .int .i64 xn]) := (setE I3a.out 2 (.int .i64 xn) (ys := [.int .i64 xc, .int .i64 xe, .int .i64 xn]) rfl)
  have J3 : Hid (Bk (w3.setCell ⟨w.heap.size + 1, 2, none⟩ (.int .i64 xn)) w.heap.size 24 [.int .i64 0, .int .i64 0, .int .i64 0]) := (J3a.out.setOther (by omega) _ _)
  have B3 : Hid (Only (fun y => y = R ∨ w.heap.size ≤ y) w (w3.setCell ⟨w.heap.size + 1, 2, none⟩ (.int .i64 xn))) := (only_step B3a.out (.inr (by omega)) 2 _)
  have RM3 : Hid (Rm (w3.setCell ⟨w.heap.size + 1, 2, none⟩ (.int .i64 xn)) R a n c zs Q3) := (RM3a.out.to (only_set (R := fun y => y = w.heap.size + 1) (p := ⟨w.heap.size + 1, 2, none⟩) rfl _) (fun y hy => by omega))
  have y2 := I3a.out.cell (j := 2) rfl
  have f2 := I3a.out.free 2
  clear hr ho hv J2 I2 B2 RM2
  go_upto_region 5 with (fail)
  generalize (w3.setCell ⟨w.heap.size + 1, 2, none⟩ (.int .i64 xn)) = V3 at *
  clear y2 f2
  clear J3a I3a B3a RM3a
  have JE := hid (J3.out.setRow [.int .i64 xc, .int .i64 xe, .int .i64 xn])
  have BE : Hid (Only (fun y => y = R ∨ w.heap.size ≤ y) w (V3.setRow w.heap.size #[.int .i64 xc, .int .i64 xe, .int .i64 xn])) := B3.out.trans (only_setRow (R := fun y => y = R ∨ w.heap.size ≤ y) (.inr (Nat.le_refl _)) _)
  have RE : Hid (Rm (V3.setRow w.heap.size #[.int .i64 xc, .int .i64 xe, .int .i64 xn]) R a n c zs Q3) := RM3.out.to (only_setRow (R := fun y => y = w.heap.size) rfl _) (fun y hy => by omega)
  go_wp2_with (first
    | (refine wpList_load_row rfl 24 _ rfl (w.heap.size + 1) rfl 24 _ (0, 0) _ I3.out Tryd.underlying24 rfl (by kernel_rfl) ?_; go_frame)
    | (refine wpList_store_row rfl 24 _ _ rfl w.heap.size #[.int .i64 xc, .int .i64 xe, .int .i64 xn] rfl rfl 24 _ J3.out (by kernel_rfl) rfl (by kernel_rfl) ?_))
  generalize V3.setRow w.heap.size #[.int .i64 xc, .int .i64 xe, .int .i64 xn] = VE at *
  try simp only [Exit.inBlock, Exit.then]
  refine bodyPost_ret (v := .agg #[.int .i64 xc, .int .i64 xe, .int .i64 xn]) ?_ rfl ?_
  · exact results_cell_row rfl _ _ w.heap.size 24 _ (0, 0) _ rfl JE.out Tryd.underlying24 rfl (by kernel_rfl)
  · exact ⟨xc, xe, xn, Q3, rfl, HT.out, RE.out, BE.out⟩
set_option maxHeartbeats 8000000 in
set_option maxRecDepth 20000 in
theorem mask_any (R : Nat) (a : Option Addr) (n c : Nat) (zs : List Int) (q : Int) (w : World) (h : Rm w R a n c zs q) :
    Calls Tryd.prog 46 #[.pointer (some ⟨R, 0, none⟩)] w fun r w' => ∃ (xk : Int) (s1 s2 s3 s4 : ByteArray) (xm xb q1 q2 q' : Int), r = .returned (.agg #[.int .i64 xk, .string s1, .string s2, .string s3, .string s4, .int .i64 xm, .bool (xb == 1)]) ∧ NRd zs q [xk] q1 ∧ TRd zs q1 [s1, s2, s3, s4] q2 ∧ NRd zs q2 [xm, xb] q' ∧ Rm w' R a n c zs q' ∧ Only (fun y => y = R ∨ w.heap.size ≤ y) w w' := by
  obtain ⟨xk, Q1, hxk⟩ : ∃ x y, gv zs q = (x, y) := ⟨_, _, rfl⟩
  obtain ⟨s1, Q2, hs1⟩ : ∃ x y, (strOf (gt zs Q1).1, (gt zs Q1).2) = (x, y) := ⟨_, _, rfl⟩
  obtain ⟨s2, Q3, hs2⟩ : ∃ x y, (strOf (gt zs Q2).1, (gt zs Q2).2) = (x, y) := ⟨_, _, rfl⟩
  obtain ⟨s3, Q4, hs3⟩ : ∃ x y, (strOf (gt zs Q3).1, (gt zs Q3).2) = (x, y) := ⟨_, _, rfl⟩
  obtain ⟨s4, Q5, hs4⟩ : ∃ x y, (strOf (gt zs Q4).1, (gt zs Q4).2) = (x, y) := ⟨_, _, rfl⟩
  obtain ⟨xm, Q6, hxm⟩ : ∃ x y, gv zs Q5 = (x, y) := ⟨_, _, rfl⟩
  obtain ⟨xb, Q7, hxb⟩ : ∃ x y, gv zs Q6 = (x, y) := ⟨_, _, rfl⟩
  have H1 : Hid (NRd zs q [xk] Q1) := ⟨Q1, hxk, rfl⟩
  have H2 : Hid (TRd zs Q1 [s1, s2, s3, s4] Q5) := ⟨Q2, hs1, Q3, hs2, Q4, hs3, Q5, hs4, rfl⟩
  have H3 : Hid (NRd zs Q5 [xm, xb] Q7) := ⟨Q6, hxm, Q7, hxb, rfl⟩
  have hRlt := h.bk.lt
  have RM0 : Hid (Rm ((w.alloc (.cells #[.int .i64 0, .string ⟨#[]⟩, .string ⟨#[]⟩, .string ⟨#[]⟩, .string ⟨#[]⟩, .int .i64 0, .bool false] 28)).alloc (.cells #[.int .i64 0, .string ⟨#[]⟩, .string ⟨#[]⟩, .string ⟨#[]⟩, .string ⟨#[]⟩, .int .i64 0, .bool false] 28)) R a n c zs q) := h.below (below_new (below_new (Below.refl _ _)))
  have J0 := hid ((Bk.new w 28 [.int .i64 0, .string ⟨#[]⟩, .string ⟨#[]⟩, .string ⟨#[]⟩, .string ⟨#[]⟩, .int .i64 0, .bool false]).alloc (.cells #[.int .i64 0, .string ⟨#[]⟩, .string ⟨#[]⟩, .string ⟨#[]⟩, .string ⟨#[]⟩, .int .i64 0, .bool false] 28))
  have I0 := hid (Bk.new (w.alloc (.cells #[.int .i64 0, .string ⟨#[]⟩, .string ⟨#[]⟩, .string ⟨#[]⟩, .string ⟨#[]⟩, .int .i64 0, .bool false] 28)) 28 [.int .i64 0, .string ⟨#[]⟩, .string ⟨#[]⟩, .string ⟨#[]⟩, .string ⟨#[]⟩, .int .i64 0, .bool false])
  rw [show (w.alloc (.cells #[.int .i64 0, .string ⟨#[]⟩, .string ⟨#[]⟩, .string ⟨#[]⟩, .string ⟨#[]⟩, .int .i64 0, .bool false] 28)).heap.size = w.heap.size + 1 by simp] at I0
  have B0 : Hid (Only (fun y => y = R ∨ w.heap.size ≤ y) w ((w.alloc (.cells #[.int .i64 0, .string ⟨#[]⟩, .string ⟨#[]⟩, .string ⟨#[]⟩, .string ⟨#[]⟩, .int .i64 0, .bool false] 28)).alloc (.cells #[.int .i64 0, .string ⟨#[]⟩, .string ⟨#[]⟩, .string ⟨#[]⟩, .string ⟨#[]⟩, .int .i64 0, .bool false] 28))) := only_of_below (below_new (below_new (Below.refl _ _))) _
  clear h
  go_enter Tryd.func46, Tryd.ntmps46
  go_wp2_with fail
  refine (mnum_any R a n c zs q xk Q1 hxk _ RM0.out).mono ?_
  generalize (w.alloc (.cells #[.int .i64 0, .string ⟨#[]⟩, .string ⟨#[]⟩, .string ⟨#[]⟩, .string ⟨#[]⟩, .int .i64 0, .bool false] 28)).alloc (.cells #[.int .i64 0, .string ⟨#[]⟩, .string ⟨#[]⟩, .string ⟨#[]⟩, .string ⟨#[]⟩, .int .i64 0, .bool false] 28) = U at *
  rintro r w1 ⟨rfl, hr, ho, hz⟩
  have hv := I0.out.lt
  have J1a := hid (J0.out.to ho (fun e => by omega))
  have I1a := hid (I0.out.to ho (fun e => by omega))
  have B1a : Hid (Only (fun y => y = R ∨ w.heap.size ≤ y) w w1) := B0.out.trans (ho.mono (fun y _ hy => .inl hy))
  have RM1a := hid hr
  have I1 : Hid (Bk (w1.setCell ⟨w.heap.size + 1, 0, none⟩ (.int .i64 xk)) (w.heap.size + 1) 28 [.int .i64 xk, .string ⟨#[]⟩, .string ⟨#[]⟩, .string ⟨#[]⟩, .string ⟨#[]⟩, .int .i64 0, .bool false]) := (setE I1a.out 0 (.int .i64 xk) (ys := [.int .i64 xk, .string ⟨#[]⟩, .string ⟨#[]⟩, .string ⟨#[]⟩, .string ⟨#[]⟩, .int .i64 0, .bool false]) rfl)
  have J1 : Hid (Bk (w1.setCell ⟨w.heap.size + 1, 0, none⟩ (.int .i64 xk)) w.heap.size 28 [.int .i64 0, .string ⟨#[]⟩, .string ⟨#[]⟩, .string ⟨#[]⟩, .string ⟨#[]⟩, .int .i64 0, .bool false]) := (J1a.out.setOther (by omega) _ _)
  have B1 : Hid (Only (fun y => y = R ∨ w.heap.size ≤ y) w (w1.setCell ⟨w.heap.size + 1, 0, none⟩ (.int .i64 xk))) := (only_step B1a.out (.inr (by omega)) 0 _)
  have RM1 : Hid (Rm (w1.setCell ⟨w.heap.size + 1, 0, none⟩ (.int .i64 xk)) R a n c zs Q1) := (RM1a.out.to (only_set (R := fun y => y = w.heap.size + 1) (p := ⟨w.heap.size + 1, 0, none⟩) rfl _) (fun y hy => by omega))
  have y0 := I1a.out.cell (j := 0) rfl
  have f0 := I1a.out.free 0
  clear hr ho hv J0 I0 B0 RM0
  go_upto_region 3 with (fail)
  generalize (w1.setCell ⟨w.heap.size + 1, 0, none⟩ (.int .i64 xk)) = V1 at *
  clear y0 f0
  clear J1a I1a B1a RM1a
  go_wp2_with fail
  refine (mtext_any R a n c zs Q1 s1 Q2 hs1 _ RM1.out).mono ?_
  rintro r w2 ⟨rfl, hr, ho, hz⟩
  have hv := I1.out.lt
  have J2a := hid (J1.out.to ho (fun e => by omega))
  have I2a := hid (I1.out.to ho (fun e => by omega))
  have B2a : Hid (Only (fun y => y = R ∨ w.heap.size ≤ y) w w2) := B1.out.trans (ho.mono (fun y _ hy => .inl hy))
  have RM2a := hid hr
  have I2 : Hid (Bk (w2.setCell ⟨w.heap.size + 1, 1, none⟩ (.string s1)) (w.heap.size + 1) 28 [.int .i64 xk, .string s1, .string ⟨#[]⟩, .string ⟨#[]⟩, .string ⟨#[]⟩, .int .i64 0, .bool false]) := (setE I2a.out 1 (.string s1) (ys := [.int .i64 xk, .string s1, .string ⟨#[]⟩, .string ⟨#[]⟩, .string ⟨#[]⟩, .int .i64 0, .bool false]) rfl)
  have J2 : Hid (Bk (w2.setCell ⟨w.heap.size + 1, 1, none⟩ (.string s1)) w.heap.size 28 [.int .i64 0, .string ⟨#[]⟩, .string ⟨#[]⟩, .string ⟨#[]⟩, .string ⟨#[]⟩, .int .i64 0, .bool false]) := (J2a.out.setOther (by omega) _ _)
  have B2 : Hid (Only (fun y => y = R ∨ w.heap.size ≤ y) w (w2.setCell ⟨w.heap.size + 1, 1, none⟩ (.string s1))) := (only_step B2a.out (.inr (by omega)) 1 _)
  have RM2 : Hid (Rm (w2.setCell ⟨w.heap.size + 1, 1, none⟩ (.string s1)) R a n c zs Q2) := (RM2a.out.to (only_set (R := fun y => y = w.heap.size + 1) (p := ⟨w.heap.size + 1, 1, none⟩) rfl _) (fun y hy => by omega))
  have y1 := I2a.out.cell (j := 1) rfl
  have f1 := I2a.out.free 1
  clear hr ho hv J1 I1 B1 RM1
  go_upto_region 4 with (fail)
  generalize (w2.setCell ⟨w.heap.size + 1, 1, none⟩ (.string s1)) = V2 at *
  clear y1 f1
  clear J2a I2a B2a RM2a
  go_wp2_with fail
  refine (mtext_any R a n c zs Q2 s2 Q3 hs2 _ RM2.out).mono ?_
  rintro r w3 ⟨rfl, hr, ho, hz⟩
  have hv := I2.out.lt
  have J3a := hid (J2.out.to ho (fun e => by omega))
  have I3a := hid (I2.out.to ho (fun e => by omega))
  have B3a : Hid (Only (fun y => y = R ∨ w.heap.size ≤ y) w w3) := B2.out.trans (ho.mono (fun y _ hy => .inl hy))
  have RM3a := hid hr
  have I3 : Hid (Bk (w3.setCell ⟨w.heap.size + 1, 2, none⟩ (.string s2)) (w.heap.size + 1) 28 [.int .i64 xk, .string s1, .string s2, .string ⟨#[]⟩, .string ⟨#[]⟩, .int .i64 0, .bool false]) := (setE I3a.out 2 (.string s2) (ys := [.int .i64 xk, .string s1, .string s2, .string ⟨#[]⟩, .string ⟨#[]⟩, .int .i64 0, .bool false]) rfl)
  have J3 : Hid (Bk (w3.setCell ⟨w.heap.size + 1, 2, none⟩ (.string s2)) w.heap.size 28 [.int .i64 0, .string ⟨#[]⟩, .string ⟨#[]⟩, .string ⟨#[]⟩, .string ⟨#[]⟩, .int .i64 0, .bool false]) := (J3a.out.setOther (by omega) _ _)
  have B3 : Hid (Only (fun y => y = R ∨ w.heap.size ≤ y) w (w3.setCell ⟨w.heap.size + 1, 2, none⟩ (.string s2))) := (only_step B3a.out (.inr (by omega)) 2 _)
  have RM3 : Hid (Rm (w3.setCell ⟨w.heap.size + 1, 2, none⟩ (.string s2)) R a n c zs Q3) := (RM3a.out.to (only_set (R := fun y => y = w.heap.size + 1) (p := ⟨w.heap.size + 1, 2, none⟩) rfl _) (fun y hy => by omega))
  have y2 := I3a.out.cell (j := 2) rfl
  have f2 := I3a.out.free 2
  clear hr ho hv J2 I2 B2 RM2
  go_upto_region 5 with (fail)
  generalize (w3.setCell ⟨w.heap.size + 1, 2, none⟩ (.string s2)) = V3 at *
  clear y2 f2
  clear J3a I3a B3a RM3a
  go_wp2_with fail
  refine (mtext_any R a n c zs Q3 s3 Q4 hs3 _ RM3.out).mono ?_
  rintro r w4 ⟨rfl, hr, ho, hz⟩
  have hv := I3.out.lt
  have J4a := hid (J3.out.to ho (fun e => by omega))
  have I4a := hid (I3.out.to ho (fun e => by omega))
  have B4a : Hid (Only (fun y => y = R ∨ w.heap.size ≤ y) w w4) := B3.out.trans (ho.mono (fun y _ hy => .inl hy))
  have RM4a := hid hr
  have I4 : Hid (Bk (w4.setCell ⟨w.heap.size + 1, 3, none⟩ (.string s3)) (w.heap.size + 1) 28 [.int .i64 xk, .string s1, .string s2, .string s3, .string ⟨#[]⟩, .int .i64 0, .bool false]) := (setE I4a.out 3 (.string s3) (ys := [.int .i64 xk, .string s1, .string s2, .string s3, .string ⟨#[]⟩, .int .i64 0, .bool false]) rfl)
  have J4 : Hid (Bk (w4.setCell ⟨w.heap.size + 1, 3, none⟩ (.string s3)) w.heap.size 28 [.int .i64 0, .string ⟨#[]⟩, .string ⟨#[]⟩, .string ⟨#[]⟩, .string ⟨#[]⟩, .int .i64 0, .bool false]) := (J4a.out.setOther (by omega) _ _)
  have B4 : Hid (Only (fun y => y = R ∨ w.heap.size ≤ y) w (w4.setCell ⟨w.heap.size + 1, 3, none⟩ (.string s3))) := (only_step B4a.out (.inr (by omega)) 3 _)
  have RM4 : Hid (Rm (w4.setCell ⟨w.heap.size + 1, 3, none⟩ (.string s3)) R a n c zs Q4) := (RM4a.out.to (only_set (R := fun y => y = w.heap.size + 1) (p := ⟨w.heap.size + 1, 3, none⟩) rfl _) (fun y hy => by omega))
  have y3 := I4a.out.cell (j := 3) rfl
  have f3 := I4a.out.free 3
  clear hr ho hv J3 I3 B3 RM3
  go_upto_region 6 with (fail)
  generalize (w4.setCell ⟨w.heap.size + 1, 3, none⟩ (.string s3)) = V4 at *
  clear y3 f3
  clear J4a I4a B4a RM4a
  go_wp2_with fail
  refine (mtext_any R a n c zs Q4 s4 Q5 hs4 _ RM4.out).mono ?_
  rintro r w5 ⟨rfl, hr, ho, hz⟩
  have hv := I4.out.lt
  have J5a := hid (J4.out.to ho (fun e => by omega))
  have I5a := hid (I4.out.to ho (fun e => by omega))
  have B5a : Hid (Only (fun y => y = R ∨ w.heap.size ≤ y) w w5) := B4.out.trans (ho.mono (fun y _ hy => .inl hy))
  have RM5a := hid hr
  have I5 : Hid (Bk (w5.setCell ⟨w.heap.size + 1, 4, none⟩ (.string s4)) (w.heap.size + 1) 28 [.int .i64 xk, .string s1, .string s2, .string s3, .string s4, .int .i64 0, .bool false]) := (setE I5a.out 4 (.string s4) (ys := [.int .i64 xk, .string s1, .string s2, .string s3, .string s4, .int .i64 0, .bool false]) rfl)
  have J5 : Hid (Bk (w5.setCell ⟨w.heap.size + 1, 4, none⟩ (.string s4)) w.heap.size 28 [.int .i64 0, .string ⟨#[]⟩, .string ⟨#[]⟩, .string ⟨#[]⟩, .string ⟨#[]⟩, .int .i64 0, .bool false]) := (J5a.out.setOther (by omega) _ _)
  have B5 : Hid (Only (fun y => y = R ∨ w.heap.size ≤ y) w (w5.setCell ⟨w.heap.size + 1, 4, none⟩ (.string s4))) := (only_step B5a.out (.inr (by omega)) 4 _)
  have RM5 : Hid (Rm (w5.setCell ⟨w.heap.size + 1, 4, none⟩ (.string s4)) R a n c zs Q5) := (RM5a.out.to (only_set (R := fun y => y = w.heap.size + 1) (p := ⟨w.heap.size + 1, 4, none⟩) rfl _) (fun y hy => by omega))
  have y4 := I5a.out.cell (j := 4) rfl
  have f4 := I5a.out.free 4
  clear hr ho hv J4 I4 B4 RM4
  go_upto_region 7 with (fail)
  generalize (w5.setCell ⟨w.heap.size + 1, 4, none⟩ (.string s4)) = V5 at *
  clear y4 f4
  clear J5a I5a B5a RM5a
  go_wp2_with fail
  refine (mnum_any R a n c zs Q5 xm Q6 hxm _ RM5.out).mono ?_
  rintro r w6 ⟨rfl, hr, ho, hz⟩
  have hv := I5.out.lt
  have J6a := hid (J5.out.to ho (fun e => by omega))
  have I6a := hid (I5.out.to ho (fun e => by omega))
  have B6a : Hid (Only (fun y => y = R ∨ w.heap.size ≤ y) w w6) := B5.out.trans (ho.mono (fun y _ hy => .inl hy))
  have RM6a := hid hr
  have I6 : Hid (Bk (w6.setCell ⟨w.heap.size + 1, 5, none⟩ (.int .i64 xm)) (w.heap.size + 1) 28 [.int .i64 xk, .string s1, .string s2, .string s3, .string s4, .int .i64 xm, .bool false]) := (setE I6a.out 5 (.int .i64 xm) (ys := [.int .i64 xk, .string s1, .string s2, .string s3, .string s4, .int .i64 xm, .bool false]) rfl)
  have J6 : Hid (Bk (w6.setCell ⟨w.heap.size + 1, 5, none⟩ (.int .i64 xm)) w.heap.size 28 [.int .i64 0, .string ⟨#[]⟩, .string ⟨#[]⟩, .string ⟨#[]⟩, .string ⟨#[]⟩, .int .i64 0, .bool false]) := (J6a.out.setOther (by omega) _ _)
  have B6 : Hid (Only (fun y => y = R ∨ w.heap.size ≤ y) w (w6.setCell ⟨w.heap.size + 1, 5, none⟩ (.int .i64 xm))) := (only_step B6a.out (.inr (by omega)) 5 _)
  have RM6 : Hid (Rm (w6.setCell ⟨w.heap.size + 1, 5, none⟩ (.int .i64 xm)) R a n c zs Q6) := (RM6a.out.to (only_set (R := fun y => y = w.heap.size + 1) (p := ⟨w.heap.size + 1, 5, none⟩) rfl _) (fun y hy => by omega))
  have y5 := I6a.out.cell (j := 5) rfl
  have f5 := I6a.out.free 5
  clear hr ho hv J5 I5 B5 RM5
  go_upto_region 8 with (fail)
  generalize (w6.setCell ⟨w.heap.size + 1, 5, none⟩ (.int .i64 xm)) = V6 at *
  clear y5 f5
  clear J6a I6a B6a RM6a
  go_wp2_with fail
  refine (mnum_any R a n c zs Q6 xb Q7 hxb _ RM6.out).mono ?_
  rintro r w7 ⟨rfl, hr, ho, hz⟩
  have hv := I6.out.lt
  have J7a := hid (J6.out.to ho (fun e => by omega))
  have I7a := hid (I6.out.to ho (fun e => by omega))
  have B7a : Hid (Only (fun y => y = R ∨ w.heap.size ≤ y) w w7) := B6.out.trans (ho.mono (fun y _ hy => .inl hy))
  have RM7a := hid hr
  have I7 : Hid (Bk (w7.setCell ⟨w.heap.size + 1, 6, none⟩ (.bool (xb == 1))) (w.heap.size + 1) 28 [.int .i64 xk, .string s1, .string s2, .string s3, .string s4, .int .i64 xm, .bool (xb == 1)]) := (setE I7a.out 6 (.bool (xb == 1)) (ys := [.int .i64 xk, .string s1, .string s2, .string s3, .string s4, .int .i64 xm, .bool (xb == 1)]) rfl)
  have J7 : Hid (Bk (w7.setCell ⟨w.heap.size + 1, 6, none⟩ (.bool (xb == 1))) w.heap.size 28 [.int .i64 0, .string ⟨#[]⟩, .string ⟨#[]⟩, .string ⟨#[]⟩, .string ⟨#[]⟩, .int .i64 0, .bool false]) := (J7a.out.setOther (by omega) _ _)
  have B7 : Hid (Only (fun y => y = R ∨ w.heap.size ≤ y) w (w7.setCell ⟨w.heap.size + 1, 6, none⟩ (.bool (xb == 1)))) := (only_step B7a.out (.inr (by omega)) 6 _)
  have RM7 : Hid (Rm (w7.setCell ⟨w.heap.size + 1, 6, none⟩ (.bool (xb == 1))) R a n c zs Q7) := (RM7a.out.to (only_set (R := fun y => y = w.heap.size + 1) (p := ⟨w.heap.size + 1, 6, none⟩) rfl _) (fun y hy => by omega))
  have y6 := I7a.out.cell (j := 6) rfl
  have f6 := I7a.out.free 6
  clear hr ho hv J6 I6 B6 RM6
  go_upto_region 9 with (fail)
  generalize (w7.setCell ⟨w.heap.size + 1, 6, none⟩ (.bool (xb == 1))) = V7 at *
  clear y6 f6
  clear J7a I7a B7a RM7a
  have JE := hid (J7.out.setRow [.int .i64 xk, .string s1, .string s2, .string s3, .string s4, .int .i64 xm, .bool (xb == 1)])
  have BE : Hid (Only (fun y => y = R ∨ w.heap.size ≤ y) w (V7.setRow w.heap.size #[.int .i64 xk, .string s1, .string s2, .string s3, .string s4, .int .i64 xm, .bool (xb == 1)])) := B7.out.trans (only_setRow (R := fun y => y = R ∨ w.heap.size ≤ y) (.inr (Nat.le_refl _)) _)
  have RE : Hid (Rm (V7.setRow w.heap.size #[.int .i64 xk, .string s1, .string s2, .string s3, .string s4, .int .i64 xm, .bool (xb == 1)]) R a n c zs Q7) := RM7.out.to (only_setRow (R := fun y => y = w.heap.size) rfl _) (fun y hy => by omega)
  go_wp2_with (first
    | (refine wpList_load_row rfl 28 _ rfl (w.heap.size + 1) rfl 28 _ (0, 0) _ I7.out Tryd.underlying28 rfl (by kernel_rfl) ?_; go_frame)
    | (refine wpList_store_row rfl 28 _ _ rfl w.heap.size #[.int .i64 xk, .string s1, .string s2, .string s3, .string s4, .int .i64 xm, .bool (xb == 1)] rfl rfl 28 _ J7.out (by kernel_rfl) rfl (by kernel_rfl) ?_))
  generalize V7.setRow w.heap.size #[.int .i64 xk, .string s1, .string s2, .string s3, .string s4, .int .i64 xm, .bool (xb == 1)] = VE at *
  try simp only [Exit.inBlock, Exit.then]
  refine bodyPost_ret (v := .agg #[.int .i64 xk, .string s1, .string s2, .string s3, .string s4, .int .i64 xm, .bool (xb == 1)]) ?_ rfl ?_
  · exact results_cell_row rfl _ _ w.heap.size 28 _ (0, 0) _ rfl JE.out Tryd.underlying28 rfl (by kernel_rfl)
  · exact ⟨xk, s1, s2, s3, s4, xm, xb, Q1, Q5, Q7, rfl, H1.out, H2.out, H3.out, RE.out, BE.out⟩
end Go.Proofs.YtbaggkfgnjenoacDoor
