/-
  cutAt and TextStep of the program.
-/
import Derived.Test.YtjddkofpfmjojaaGreatDoorMt3
import Derived.Test.YtjddkofpfmjojaaGreatDoorMt2
import Derived.Test.YtjddkofpfmjojaaGreatDoorMt1
import Derived.Deep.RegionHeld3
namespace Go.Proofs.YtjddkofpfmjojaaGreatDoor
open Go.RowKit
set_option linter.unusedVariables false
set_option maxHeartbeats 1600000 in
theorem cutAt_any (s : ByteArray) (d : UInt8) (w : World) : Calls Tryz.prog 21 #[.string s, .int .i32 d.toNat] w fun e w' => e = .returned (nextV w.heap.size) ∧ PS w' w.heap.size s d (pcK d s 0) ∧ Below w.heap.size w w' := by
  have B0 : Hid (Below w.heap.size w (((w.alloc (.cells #[.string s] 9)).alloc (.cells #[.int .i32 d.toNat] 21)).alloc (.cells #[.int .i64 0] 3))) := below_new (below_new (below_new (Below.refl _ _)))
  have K0 := hid (((Bk.new w 9 [.string s]).alloc (.cells #[.int .i32 d.toNat] 21)).alloc (.cells #[.int .i64 0] 3))
  have K1 := hid ((Bk.new (w.alloc (.cells #[.string s] 9)) 21 [.int .i32 d.toNat]).alloc (.cells #[.int .i64 0] 3))
  have K2 := hid (Bk.new ((w.alloc (.cells #[.string s] 9)).alloc (.cells #[.int .i32 d.toNat] 21)) 3 [.int .i64 0])
  rw [show (w.alloc (.cells #[.string s] 9)).heap.size = w.heap.size + 1 by simp] at K1
  rw [show ((w.alloc (.cells #[.string s] 9)).alloc (.cells #[.int .i32 d.toNat] 21)).heap.size = w.heap.size + 2 by simp] at K2
  go_enter Tryz.func21, Tryz.ntmps21
  go_wp2
  go_ret
  exact ⟨by simp [nextV], ⟨0, Nat.zero_le _, K0.out, K1.out, K2.out, rfl⟩, B0.out⟩
theorem results_stepb {fn : Func} {p q : Tmp} (h : fn.results = #[.cell p 30, .tmp q]) (tmps : Array Value) (w : World) (g : Nat) {k a b : Int} {xa : Option Addr} {xn xc : Nat} {kd ak : Int} {ky vl lo hi : ByteArray} {mo : Int} {bk : Bool} {z : Value} (hp : tmps.getD p undef = .pointer (some ⟨g, 0, none⟩)) (hq : tmps.getD q undef = z) (c0 : w.cell? ⟨g, 0, none⟩ = some (.int .i64 k)) (c1 : w.cell? ⟨g, 1, none⟩ = some (.int .i64 a)) (c2 : w.cell? ⟨g, 2, none⟩ = some (.int .i64 b)) (c3 : w.cell? ⟨g, 3, none⟩ = some (.slice xa xn xc)) (c4 : w.cell? ⟨g, 4, none⟩ = some (.int .i64 kd)) (c5 : w.cell? ⟨g, 5, none⟩ = some (.int .i64 ak)) (c6 : w.cell? ⟨g, 6, none⟩ = some (.string ky)) (c7 : w.cell? ⟨g, 7, none⟩ = some (.string vl)) (c8 : w.cell? ⟨g, 8, none⟩ = some (.string lo)) (c9 : w.cell? ⟨g, 9, none⟩ = some (.string hi)) (c10 : w.cell? ⟨g, 10, none⟩ = some (.int .i64 mo)) (c11 : w.cell? ⟨g, 11, none⟩ = some (.bool bk)) :
    (results fn tmps).run Tryz.prog w = .ok (.tuple #[.agg #[.int .i64 k, .int .i64 a, .int .i64 b, .slice xa xn xc, .int .i64 kd, .int .i64 ak, .string ky, .string vl, .string lo, .string hi, .int .i64 mo, .bool bk], z]) w := by
  have hp' : tmps[p]?.getD undef = .pointer (some ⟨g, 0, none⟩) := by simpa using hp
  have hq' : tmps[q]?.getD undef = z := by simpa using hq
  simp [results, h, hp', hq', asAddr, load_step c0 c1 c2 c3 c4 c5 c6 c7 c8 c9 c10 c11]
def stZ : ST := ⟨0, 0, 0, [], 0, 0, ⟨#[]⟩, ⟨#[]⟩, ⟨#[]⟩, ⟨#[]⟩, 0, false⟩
/-- The step that a text tells: nothing where it tells none. -/
def tsY (s : ByteArray) : ST := (tsV s).getD stZ
theorem ts_no {s : ByteArray} (h : tsV s = none) : tsY s = stZ ∧ (tsV s).isSome = false := by unfold tsY; rw [h]; exact ⟨rfl, rfl⟩
theorem ts_yes {s : ByteArray} {y : ST} (h : tsV s = some y) : tsY s = y ∧ (tsV s).isSome = true := by unfold tsY; rw [h]; exact ⟨rfl, rfl⟩
theorem ts_I {s : ByteArray} {y : ST} (hy : y = stI (pcK 32 s 0)) : (s ≠ ⟨#[]⟩ → stT y = s → tsY s = y ∧ (tsV s).isSome = true) ∧ (s = ⟨#[]⟩ ∨ stT y ≠ s → tsY s = stZ ∧ (tsV s).isSome = false) := by
  subst hy
  have hL : ∀ y, stT y = s → s ≠ ⟨#[]⟩ → pcK 32 s 0 = stW y := fun y e h => by subst e; exact pc_stW y h
  refine ⟨fun h1 h2 => ts_yes ((tsV_I s _ hL).1 ⟨h1, h2⟩), fun h => ts_no ((tsV_I s _ hL).2 (fun ⟨h1, h2⟩ => ?_))⟩
  rcases h with h | h
  · exact h1 h
  · exact h h2
theorem stI_kp (L : List ByteArray) : (stI L).kp.length ≤ L.length := by
  unfold stI mkST
  dsimp only
  split
  · simp
  · exact Nat.zero_le _
/-- What TextStep leaves. -/
def TsP (s : ByteArray) (w : World) (e : Ending) (w' : World) : Prop := ∃ xa xn xc, e = .returned (.tuple #[.agg #[.int .i64 (tsY s).k, .int .i64 (tsY s).a, .int .i64 (tsY s).b, .slice xa xn xc, .int .i64 (tsY s).kd, .int .i64 (tsY s).ak, .string (tsY s).ky, .string (tsY s).vl, .string (tsY s).lo, .string (tsY s).hi, .int .i64 (tsY s).mo, .bool (tsY s).bk], .bool (tsV s).isSome]) ∧ IW w' w.heap.size (.slice xa xn xc) (tsY s).kp ∧ Below w.heap.size w w'
set_option maxHeartbeats 16000000 in
set_option maxRecDepth 20000 in
theorem implTextStep_any (s : ByteArray) (w : World) (hs : s.size ≤ 1048576) (hG : GZ w w.heap.size) : Calls Tryz.prog 6 #[.string s] w fun e w' => TsP s w e w' := by
  unfold TsP
  have hb0 : Below w.heap.size w (w.alloc (.cells #[.int .i64 0, .int .i64 0, .int .i64 0, .slice none 0 0, .int .i64 0, .int .i64 0, .string ⟨#[]⟩, .string ⟨#[]⟩, .string ⟨#[]⟩, .string ⟨#[]⟩, .int .i64 0, .bool false] 30)) := below_new (Below.refl _ _)
  have B0 := hid hb0
  have G0 := hid (hG.to hb0)
  have K0 := hid (Bk.new w 30 [.int .i64 0, .int .i64 0, .int .i64 0, .slice none 0 0, .int .i64 0, .int .i64 0, .string ⟨#[]⟩, .string ⟨#[]⟩, .string ⟨#[]⟩, .string ⟨#[]⟩, .int .i64 0, .bool false])
  have C1 := hid (fun w => cutAt_any s 32 w)
  have C2 := hid (fun g L w h hG => readStep_any g s 32 L w h hs hG)
  clear hb0 hG
  obtain ⟨y, hy⟩ : ∃ y, y = stI (pcK 32 s 0) := ⟨_, rfl⟩
  have HI := hid (ts_I hy)
  have HKP : Hid (y.kp.length ≤ (pcK 32 s 0).length) := by rw [hy]; exact stI_kp _
  have HY := hid hy
  clear hy
  have CD := hid (C1.out)
  go_enter Tryz.func6, Tryz.ntmps6
  go_wp2_with fail
  refine (C1.out _).mono ?_
  generalize w.alloc (.cells #[.int .i64 0, .int .i64 0, .int .i64 0, .slice none 0 0, .int .i64 0, .int .i64 0, .string ⟨#[]⟩, .string ⟨#[]⟩, .string ⟨#[]⟩, .string ⟨#[]⟩, .int .i64 0, .bool false] 30) = U at *
  rintro r w1 ⟨rfl, hP, hb⟩
  have HU : Hid (w.heap.size < U.heap.size) := K0.out.lt
  have P1 := hid hP
  have B1 := hid (B0.out.trans (hb.mono B0.out.size))
  have G1 := hid (G0.out.to (hb.mono (Nat.le_of_lt HU.out)))
  have K1 := hid (K0.out.below hb)
  have GU : Hid (GZ w1 U.heap.size) := by
    have := G1.out
    have hu := HU.out
    exact ⟨this.tab, this.e1, this.e2, this.e3, this.e4, Nat.lt_trans this.g0 hu, Nat.lt_trans this.g1 hu, Nat.lt_trans this.g2 hu, Nat.lt_trans this.g3 hu, Nat.lt_trans this.g4 hu⟩
  generalize U.heap.size = gU at *
  clear hP hb B0 G0 K0
  go_wp2_with fail
  refine (C2.out gU _ w1 P1.out GU.out).mono ?_
  rintro r w2 ⟨xa, xn, xc, rfl, hI, hO⟩
  have HS1 : Hid (gU + 2 < w1.heap.size) := P1.out.lt
  have hu := HU.out
  have hs1 := HS1.out
  have HLN : Hid ((pcK 32 s 0).length ≤ s.size) := P1.out.ln
  rw [← HY.out] at hI
  rw [← HY.out]
  have I2 := hid hI
  have B2 := hid (B1.out.trans (hO.below B1.out.size (fun b hb q => by have q' : b = gU + 2 := q; omega)))
  have G2 := hid (G1.out.only hO (by omega) (fun b hb q => by have q' : b = gU + 2 := q; omega))
  have K2 := hid (K1.out.to hO (fun q => by have q' : w.heap.size = gU + 2 := q; omega))
  have hxn : xn ≤ 1048576 := by
    have h1 := (Rw.len hI.ir).1
    have h2 := HKP.out
    have h3 := HLN.out
    omega
  clear hI hO P1 B1 G1 GU K1 HKP HLN C2 C1 CD
  -- the box
  have hb := below_new (o := .cells #[.int .i64 y.k, .int .i64 y.a, .int .i64 y.b, .slice xa xn xc, .int .i64 y.kd, .int .i64 y.ak, .string y.ky, .string y.vl, .string y.lo, .string y.hi, .int .i64 y.mo, .bool y.bk] 30) (w := w2) (Below.refl _ _)
  have X3 := hid (Bk.new w2 30 [.int .i64 y.k, .int .i64 y.a, .int .i64 y.b, .slice xa xn xc, .int .i64 y.kd, .int .i64 y.ak, .string y.ky, .string y.vl, .string y.lo, .string y.hi, .int .i64 y.mo, .bool y.bk])
  have I3 := hid (I2.out.below hb)
  have B3 := hid (B2.out.trans (hb.mono B2.out.size))
  have G3 := hid (G2.out.to (hb.mono (by have := K2.out.lt; omega)))
  have K3 := hid (K2.out.below hb)
  have HX : Hid (w.heap.size < w2.heap.size) := K2.out.lt
  clear hb I2 B2 G2 K2
  by_cases he : s = ⟨#[]⟩
  · have HV := hid (HI.out.2 (.inl he))
    have h0 : s.toList = [] := wb_nil.2 (by rw [he]; rfl)
    have h1 : s.toList.isEmpty = true := by rw [h0]; rfl
    clear he HI
    go_upto_region 3 with (fail)
    generalize w2.alloc (.cells #[.int .i64 y.k, .int .i64 y.a, .int .i64 y.b, .slice xa xn xc, .int .i64 y.kd, .int .i64 y.ak, .string y.ky, .string y.vl, .string y.lo, .string y.hi, .int .i64 y.mo, .bool y.bk] 30) = w3 at *
    generalize w2.heap.size = gx at *
    clear h0 h1
    have r0 := K3.out.cell (j := 0) rfl
    have rf0 := K3.out.free 0
    have r1 := K3.out.cell (j := 1) rfl
    have rf1 := K3.out.free 1
    have r2 := K3.out.cell (j := 2) rfl
    have rf2 := K3.out.free 2
    have r3 := K3.out.cell (j := 3) rfl
    have rf3 := K3.out.free 3
    have r4 := K3.out.cell (j := 4) rfl
    have rf4 := K3.out.free 4
    have r5 := K3.out.cell (j := 5) rfl
    have rf5 := K3.out.free 5
    have r6 := K3.out.cell (j := 6) rfl
    have rf6 := K3.out.free 6
    have r7 := K3.out.cell (j := 7) rfl
    have rf7 := K3.out.free 7
    have r8 := K3.out.cell (j := 8) rfl
    have rf8 := K3.out.free 8
    have r9 := K3.out.cell (j := 9) rfl
    have rf9 := K3.out.free 9
    have r10 := K3.out.cell (j := 10) rfl
    have rf10 := K3.out.free 10
    have r11 := K3.out.cell (j := 11) rfl
    have rf11 := K3.out.free 11
    have KF : Hid (Bk ((((((((((((w3.setCell ⟨w.heap.size, 0, none⟩ (.int .i64 0)).setCell ⟨w.heap.size, 1, none⟩ (.int .i64 0)).setCell ⟨w.heap.size, 2, none⟩ (.int .i64 0)).setCell ⟨w.heap.size, 3, none⟩ (.slice none 0 0)).setCell ⟨w.heap.size, 4, none⟩ (.int .i64 0)).setCell ⟨w.heap.size, 5, none⟩ (.int .i64 0)).setCell ⟨w.heap.size, 6, none⟩ (.string ⟨#[]⟩)).setCell ⟨w.heap.size, 7, none⟩ (.string ⟨#[]⟩)).setCell ⟨w.heap.size, 8, none⟩ (.string ⟨#[]⟩)).setCell ⟨w.heap.size, 9, none⟩ (.string ⟨#[]⟩)).setCell ⟨w.heap.size, 10, none⟩ (.int .i64 0)).setCell ⟨w.heap.size, 11, none⟩ (.bool false)) w.heap.size 30 [.int .i64 0, .int .i64 0, .int .i64 0, .slice none 0 0, .int .i64 0, .int .i64 0, .string ⟨#[]⟩, .string ⟨#[]⟩, .string ⟨#[]⟩, .string ⟨#[]⟩, .int .i64 0, .bool false]) := ((((((((((((K3.out.set 0 _).set 1 _).set 2 _).set 3 _).set 4 _).set 5 _).set 6 _).set 7 _).set 8 _).set 9 _).set 10 _).set 11 _)
    have OS : Hid (Only (fun y => y = w.heap.size) w3 ((((((((((((w3.setCell ⟨w.heap.size, 0, none⟩ (.int .i64 0)).setCell ⟨w.heap.size, 1, none⟩ (.int .i64 0)).setCell ⟨w.heap.size, 2, none⟩ (.int .i64 0)).setCell ⟨w.heap.size, 3, none⟩ (.slice none 0 0)).setCell ⟨w.heap.size, 4, none⟩ (.int .i64 0)).setCell ⟨w.heap.size, 5, none⟩ (.int .i64 0)).setCell ⟨w.heap.size, 6, none⟩ (.string ⟨#[]⟩)).setCell ⟨w.heap.size, 7, none⟩ (.string ⟨#[]⟩)).setCell ⟨w.heap.size, 8, none⟩ (.string ⟨#[]⟩)).setCell ⟨w.heap.size, 9, none⟩ (.string ⟨#[]⟩)).setCell ⟨w.heap.size, 10, none⟩ (.int .i64 0)).setCell ⟨w.heap.size, 11, none⟩ (.bool false))) := (only_step (only_step (only_step (only_step (only_step (only_step (only_step (only_step (only_step (only_step (only_step (only_set (R := fun y => y = w.heap.size) (p := ⟨w.heap.size, 0, none⟩) rfl _) rfl 1 _) rfl 2 _) rfl 3 _) rfl 4 _) rfl 5 _) rfl 6 _) rfl 7 _) rfl 8 _) rfl 9 _) rfl 10 _) rfl 11 _)
    have OFx : Hid (True ∨ Only (At 0) w ((((((((((((w3.setCell ⟨w.heap.size, 0, none⟩ (.int .i64 0)).setCell ⟨w.heap.size, 1, none⟩ (.int .i64 0)).setCell ⟨w.heap.size, 2, none⟩ (.int .i64 0)).setCell ⟨w.heap.size, 3, none⟩ (.slice none 0 0)).setCell ⟨w.heap.size, 4, none⟩ (.int .i64 0)).setCell ⟨w.heap.size, 5, none⟩ (.int .i64 0)).setCell ⟨w.heap.size, 6, none⟩ (.string ⟨#[]⟩)).setCell ⟨w.heap.size, 7, none⟩ (.string ⟨#[]⟩)).setCell ⟨w.heap.size, 8, none⟩ (.string ⟨#[]⟩)).setCell ⟨w.heap.size, 9, none⟩ (.string ⟨#[]⟩)).setCell ⟨w.heap.size, 10, none⟩ (.int .i64 0)).setCell ⟨w.heap.size, 11, none⟩ (.bool false))) := .inl trivial
    have BF := hid (B3.out.trans (OS.out.below B3.out.size (fun b hb q => by omega)))
    go_wp2
    try simp only [Exit.inBlock, Exit.then]
    refine bodyPost_ret (v := .tuple #[.agg #[.int .i64 0, .int .i64 0, .int .i64 0, .slice none 0 0, .int .i64 0, .int .i64 0, .string ⟨#[]⟩, .string ⟨#[]⟩, .string ⟨#[]⟩, .string ⟨#[]⟩, .int .i64 0, .bool false], .bool false]) ?_ rfl ?_
    · exact results_stepb rfl _ _ _ rfl rfl (KF.out.cell (j := 0) rfl) (KF.out.cell (j := 1) rfl) (KF.out.cell (j := 2) rfl) (KF.out.cell (j := 3) rfl) (KF.out.cell (j := 4) rfl) (KF.out.cell (j := 5) rfl) (KF.out.cell (j := 6) rfl) (KF.out.cell (j := 7) rfl) (KF.out.cell (j := 8) rfl) (KF.out.cell (j := 9) rfl) (KF.out.cell (j := 10) rfl) (KF.out.cell (j := 11) rfl)
    · exact ⟨none, 0, 0, by rw [HV.out.1, HV.out.2]; try rfl, by rw [HV.out.1]; exact World.ownsRow_nil _ _ _ _, BF.out⟩
  have h0 : ¬ (s.toList = []) := fun q => he (ByteArray.size_eq_zero_iff.1 (wb_nil.1 q))
  have h1 : s.toList.isEmpty = false := by
    cases q : s.toList with
    | nil => exact absurd q h0
    | cons _ _ => rfl
  have x0 := X3.out.cell (j := 0) rfl
  have x1 := X3.out.cell (j := 1) rfl
  have x2 := X3.out.cell (j := 2) rfl
  have x3 := X3.out.cell (j := 3) rfl
  have x4 := X3.out.cell (j := 4) rfl
  have x5 := X3.out.cell (j := 5) rfl
  have x6 := X3.out.cell (j := 6) rfl
  have x7 := X3.out.cell (j := 7) rfl
  have x8 := X3.out.cell (j := 8) rfl
  have x9 := X3.out.cell (j := 9) rfl
  have x10 := X3.out.cell (j := 10) rfl
  have x11 := X3.out.cell (j := 11) rfl
  have CS := hid (implStepText_any _ y.k y.a y.b xa xn xc y.kp y.kd y.ak y.ky y.vl y.lo y.hi y.mo y.bk _ I3.out.ir hxn (G3.out.gw B3.out.size))
  go_wp2_with fail
  refine CS.out.mono ?_
  generalize w2.alloc (.cells #[.int .i64 y.k, .int .i64 y.a, .int .i64 y.b, .slice xa xn xc, .int .i64 y.kd, .int .i64 y.ak, .string y.ky, .string y.vl, .string y.lo, .string y.hi, .int .i64 y.mo, .bool y.bk] 30) = w3 at *
  generalize w2.heap.size = gx at *
  rintro r w4 ⟨rfl, hb⟩
  have X4 := hid (X3.out.below hb)
  have I4 := hid (I3.out.below hb)
  have B4 := hid (B3.out.trans (hb.mono B3.out.size))
  have K4 := hid (K3.out.below hb)
  have HE : Hid ((⟨y.k, y.a, y.b, y.kp, y.kd, y.ak, y.ky, y.vl, y.lo, y.hi, y.mo, y.bk⟩ : ST) = y) := rfl
  rw [HE.out]
  clear hb X3 I3 B3 G3 K3 CS h0 h1 x0 x1 x2 x3 x4 x5 x6 x7 x8 x9 x10 x11
  by_cases hq : stT y = s
  · have HV := hid (HI.out.1 he hq)
    have hne : (s.toList == s.toList) = true := bl_same s
    rw [hq]
    clear hq he HI
    go_upto_region 4 with (fail)
    clear hne
    have hne1 : ¬ w.heap.size = gx := by have := HX.out; omega
    have hne2 : ¬ gx = w.heap.size := by omega
    have x0 := X4.out.cell (j := 0) rfl
    have x1 := X4.out.cell (j := 1) rfl
    have x2 := X4.out.cell (j := 2) rfl
    have x3 := X4.out.cell (j := 3) rfl
    have x4 := X4.out.cell (j := 4) rfl
    have x5 := X4.out.cell (j := 5) rfl
    have x6 := X4.out.cell (j := 6) rfl
    have x7 := X4.out.cell (j := 7) rfl
    have x8 := X4.out.cell (j := 8) rfl
    have x9 := X4.out.cell (j := 9) rfl
    have x10 := X4.out.cell (j := 10) rfl
    have x11 := X4.out.cell (j := 11) rfl
    have r0 := K4.out.cell (j := 0) rfl
    have rf0 := K4.out.free 0
    have r1 := K4.out.cell (j := 1) rfl
    have rf1 := K4.out.free 1
    have r2 := K4.out.cell (j := 2) rfl
    have rf2 := K4.out.free 2
    have r3 := K4.out.cell (j := 3) rfl
    have rf3 := K4.out.free 3
    have r4 := K4.out.cell (j := 4) rfl
    have rf4 := K4.out.free 4
    have r5 := K4.out.cell (j := 5) rfl
    have rf5 := K4.out.free 5
    have r6 := K4.out.cell (j := 6) rfl
    have rf6 := K4.out.free 6
    have r7 := K4.out.cell (j := 7) rfl
    have rf7 := K4.out.free 7
    have r8 := K4.out.cell (j := 8) rfl
    have rf8 := K4.out.free 8
    have r9 := K4.out.cell (j := 9) rfl
    have rf9 := K4.out.free 9
    have r10 := K4.out.cell (j := 10) rfl
    have rf10 := K4.out.free 10
    have r11 := K4.out.cell (j := 11) rfl
    have rf11 := K4.out.free 11
    have KF : Hid (Bk ((((((((((((w4.setCell ⟨w.heap.size, 0, none⟩ (.int .i64 y.k)).setCell ⟨w.heap.size, 1, none⟩ (.int .i64 y.a)).setCell ⟨w.heap.size, 2, none⟩ (.int .i64 y.b)).setCell ⟨w.heap.size, 3, none⟩ (.slice xa xn xc)).setCell ⟨w.heap.size, 4, none⟩ (.int .i64 y.kd)).setCell ⟨w.heap.size, 5, none⟩ (.int .i64 y.ak)).setCell ⟨w.heap.size, 6, none⟩ (.string y.ky)).setCell ⟨w.heap.size, 7, none⟩ (.string y.vl)).setCell ⟨w.heap.size, 8, none⟩ (.string y.lo)).setCell ⟨w.heap.size, 9, none⟩ (.string y.hi)).setCell ⟨w.heap.size, 10, none⟩ (.int .i64 y.mo)).setCell ⟨w.heap.size, 11, none⟩ (.bool y.bk)) w.heap.size 30 [.int .i64 y.k, .int .i64 y.a, .int .i64 y.b, .slice xa xn xc, .int .i64 y.kd, .int .i64 y.ak, .string y.ky, .string y.vl, .string y.lo, .string y.hi, .int .i64 y.mo, .bool y.bk]) := ((((((((((((K4.out.set 0 _).set 1 _).set 2 _).set 3 _).set 4 _).set 5 _).set 6 _).set 7 _).set 8 _).set 9 _).set 10 _).set 11 _)
    have OS : Hid (Only (fun y => y = w.heap.size) w4 ((((((((((((w4.setCell ⟨w.heap.size, 0, none⟩ (.int .i64 y.k)).setCell ⟨w.heap.size, 1, none⟩ (.int .i64 y.a)).setCell ⟨w.heap.size, 2, none⟩ (.int .i64 y.b)).setCell ⟨w.heap.size, 3, none⟩ (.slice xa xn xc)).setCell ⟨w.heap.size, 4, none⟩ (.int .i64 y.kd)).setCell ⟨w.heap.size, 5, none⟩ (.int .i64 y.ak)).setCell ⟨w.heap.size, 6, none⟩ (.string y.ky)).setCell ⟨w.heap.size, 7, none⟩ (.string y.vl)).setCell ⟨w.heap.size, 8, none⟩ (.string y.lo)).setCell ⟨w.heap.size, 9, none⟩ (.string y.hi)).setCell ⟨w.heap.size, 10, none⟩ (.int .i64 y.mo)).setCell ⟨w.heap.size, 11, none⟩ (.bool y.bk))) := (only_step (only_step (only_step (only_step (only_step (only_step (only_step (only_step (only_step (only_step (only_step (only_set (R := fun y => y = w.heap.size) (p := ⟨w.heap.size, 0, none⟩) rfl _) rfl 1 _) rfl 2 _) rfl 3 _) rfl 4 _) rfl 5 _) rfl 6 _) rfl 7 _) rfl 8 _) rfl 9 _) rfl 10 _) rfl 11 _)
    have OFx : Hid (True ∨ Only (At 0) w ((((((((((((w4.setCell ⟨w.heap.size, 0, none⟩ (.int .i64 y.k)).setCell ⟨w.heap.size, 1, none⟩ (.int .i64 y.a)).setCell ⟨w.heap.size, 2, none⟩ (.int .i64 y.b)).setCell ⟨w.heap.size, 3, none⟩ (.slice xa xn xc)).setCell ⟨w.heap.size, 4, none⟩ (.int .i64 y.kd)).setCell ⟨w.heap.size, 5, none⟩ (.int .i64 y.ak)).setCell ⟨w.heap.size, 6, none⟩ (.string y.ky)).setCell ⟨w.heap.size, 7, none⟩ (.string y.vl)).setCell ⟨w.heap.size, 8, none⟩ (.string y.lo)).setCell ⟨w.heap.size, 9, none⟩ (.string y.hi)).setCell ⟨w.heap.size, 10, none⟩ (.int .i64 y.mo)).setCell ⟨w.heap.size, 11, none⟩ (.bool y.bk))) := .inl trivial
    have BF := hid (B4.out.trans (OS.out.below B4.out.size (fun b hb q => by omega)))
    have IF := hid ((I4.out.to OS.out (fun q e r => by have := (I4.out.lt e).1; omega)).base (show w.heap.size ≤ w1.heap.size by omega))
    go_wp2
    try simp only [Exit.inBlock, Exit.then]
    refine bodyPost_ret (v := .tuple #[.agg #[.int .i64 y.k, .int .i64 y.a, .int .i64 y.b, .slice xa xn xc, .int .i64 y.kd, .int .i64 y.ak, .string y.ky, .string y.vl, .string y.lo, .string y.hi, .int .i64 y.mo, .bool y.bk], .bool true]) ?_ rfl ?_
    · exact results_stepb rfl _ _ _ rfl rfl (KF.out.cell (j := 0) rfl) (KF.out.cell (j := 1) rfl) (KF.out.cell (j := 2) rfl) (KF.out.cell (j := 3) rfl) (KF.out.cell (j := 4) rfl) (KF.out.cell (j := 5) rfl) (KF.out.cell (j := 6) rfl) (KF.out.cell (j := 7) rfl) (KF.out.cell (j := 8) rfl) (KF.out.cell (j := 9) rfl) (KF.out.cell (j := 10) rfl) (KF.out.cell (j := 11) rfl)
    · exact ⟨xa, xn, xc, by rw [HV.out.1, HV.out.2]; try rfl, by rw [HV.out.1]; exact IF.out, BF.out⟩
  · have HV := hid (HI.out.2 (.inr hq))
    have hne : ((stT y).toList == s.toList) = false := str_ne hq
    clear hq he HI
    go_upto_region 3 with (fail)
    clear hne
    have r0 := K4.out.cell (j := 0) rfl
    have rf0 := K4.out.free 0
    have r1 := K4.out.cell (j := 1) rfl
    have rf1 := K4.out.free 1
    have r2 := K4.out.cell (j := 2) rfl
    have rf2 := K4.out.free 2
    have r3 := K4.out.cell (j := 3) rfl
    have rf3 := K4.out.free 3
    have r4 := K4.out.cell (j := 4) rfl
    have rf4 := K4.out.free 4
    have r5 := K4.out.cell (j := 5) rfl
    have rf5 := K4.out.free 5
    have r6 := K4.out.cell (j := 6) rfl
    have rf6 := K4.out.free 6
    have r7 := K4.out.cell (j := 7) rfl
    have rf7 := K4.out.free 7
    have r8 := K4.out.cell (j := 8) rfl
    have rf8 := K4.out.free 8
    have r9 := K4.out.cell (j := 9) rfl
    have rf9 := K4.out.free 9
    have r10 := K4.out.cell (j := 10) rfl
    have rf10 := K4.out.free 10
    have r11 := K4.out.cell (j := 11) rfl
    have rf11 := K4.out.free 11
    have KF : Hid (Bk ((((((((((((w4.setCell ⟨w.heap.size, 0, none⟩ (.int .i64 0)).setCell ⟨w.heap.size, 1, none⟩ (.int .i64 0)).setCell ⟨w.heap.size, 2, none⟩ (.int .i64 0)).setCell ⟨w.heap.size, 3, none⟩ (.slice none 0 0)).setCell ⟨w.heap.size, 4, none⟩ (.int .i64 0)).setCell ⟨w.heap.size, 5, none⟩ (.int .i64 0)).setCell ⟨w.heap.size, 6, none⟩ (.string ⟨#[]⟩)).setCell ⟨w.heap.size, 7, none⟩ (.string ⟨#[]⟩)).setCell ⟨w.heap.size, 8, none⟩ (.string ⟨#[]⟩)).setCell ⟨w.heap.size, 9, none⟩ (.string ⟨#[]⟩)).setCell ⟨w.heap.size, 10, none⟩ (.int .i64 0)).setCell ⟨w.heap.size, 11, none⟩ (.bool false)) w.heap.size 30 [.int .i64 0, .int .i64 0, .int .i64 0, .slice none 0 0, .int .i64 0, .int .i64 0, .string ⟨#[]⟩, .string ⟨#[]⟩, .string ⟨#[]⟩, .string ⟨#[]⟩, .int .i64 0, .bool false]) := ((((((((((((K4.out.set 0 _).set 1 _).set 2 _).set 3 _).set 4 _).set 5 _).set 6 _).set 7 _).set 8 _).set 9 _).set 10 _).set 11 _)
    have OS : Hid (Only (fun y => y = w.heap.size) w4 ((((((((((((w4.setCell ⟨w.heap.size, 0, none⟩ (.int .i64 0)).setCell ⟨w.heap.size, 1, none⟩ (.int .i64 0)).setCell ⟨w.heap.size, 2, none⟩ (.int .i64 0)).setCell ⟨w.heap.size, 3, none⟩ (.slice none 0 0)).setCell ⟨w.heap.size, 4, none⟩ (.int .i64 0)).setCell ⟨w.heap.size, 5, none⟩ (.int .i64 0)).setCell ⟨w.heap.size, 6, none⟩ (.string ⟨#[]⟩)).setCell ⟨w.heap.size, 7, none⟩ (.string ⟨#[]⟩)).setCell ⟨w.heap.size, 8, none⟩ (.string ⟨#[]⟩)).setCell ⟨w.heap.size, 9, none⟩ (.string ⟨#[]⟩)).setCell ⟨w.heap.size, 10, none⟩ (.int .i64 0)).setCell ⟨w.heap.size, 11, none⟩ (.bool false))) := (only_step (only_step (only_step (only_step (only_step (only_step (only_step (only_step (only_step (only_step (only_step (only_set (R := fun y => y = w.heap.size) (p := ⟨w.heap.size, 0, none⟩) rfl _) rfl 1 _) rfl 2 _) rfl 3 _) rfl 4 _) rfl 5 _) rfl 6 _) rfl 7 _) rfl 8 _) rfl 9 _) rfl 10 _) rfl 11 _)
    have OFx : Hid (True ∨ Only (At 0) w ((((((((((((w4.setCell ⟨w.heap.size, 0, none⟩ (.int .i64 0)).setCell ⟨w.heap.size, 1, none⟩ (.int .i64 0)).setCell ⟨w.heap.size, 2, none⟩ (.int .i64 0)).setCell ⟨w.heap.size, 3, none⟩ (.slice none 0 0)).setCell ⟨w.heap.size, 4, none⟩ (.int .i64 0)).setCell ⟨w.heap.size, 5, none⟩ (.int .i64 0)).setCell ⟨w.heap.size, 6, none⟩ (.string ⟨#[]⟩)).setCell ⟨w.heap.size, 7, none⟩ (.string ⟨#[]⟩)).setCell ⟨w.heap.size, 8, none⟩ (.string ⟨#[]⟩)).setCell ⟨w.heap.size, 9, none⟩ (.string ⟨#[]⟩)).setCell ⟨w.heap.size, 10, none⟩ (.int .i64 0)).setCell ⟨w.heap.size, 11, none⟩ (.bool false))) := .inl trivial
    have BF := hid (B4.out.trans (OS.out.below B4.out.size (fun b hb q => by omega)))
    go_wp2
    try simp only [Exit.inBlock, Exit.then]
    refine bodyPost_ret (v := .tuple #[.agg #[.int .i64 0, .int .i64 0, .int .i64 0, .slice none 0 0, .int .i64 0, .int .i64 0, .string ⟨#[]⟩, .string ⟨#[]⟩, .string ⟨#[]⟩, .string ⟨#[]⟩, .int .i64 0, .bool false], .bool false]) ?_ rfl ?_
    · exact results_stepb rfl _ _ _ rfl rfl (KF.out.cell (j := 0) rfl) (KF.out.cell (j := 1) rfl) (KF.out.cell (j := 2) rfl) (KF.out.cell (j := 3) rfl) (KF.out.cell (j := 4) rfl) (KF.out.cell (j := 5) rfl) (KF.out.cell (j := 6) rfl) (KF.out.cell (j := 7) rfl) (KF.out.cell (j := 8) rfl) (KF.out.cell (j := 9) rfl) (KF.out.cell (j := 10) rfl) (KF.out.cell (j := 11) rfl)
    · exact ⟨none, 0, 0, by rw [HV.out.1, HV.out.2]; try rfl, by rw [HV.out.1]; exact World.ownsRow_nil _ _ _ _, BF.out⟩
end Go.Proofs.YtjddkofpfmjojaaGreatDoor
/-
  l14Words and l14Call of the specification.
-/
namespace Go.Proofs.YtjddkofpfmjojaaGreatDoor
open Go.RowKit
set_option linter.unusedVariables false
set_option maxHeartbeats 800000 in
theorem l14Words_any (w : World) : Calls Tryz.prog 16 #[] w fun e w' => e = .returned (.slice (some ⟨w.heap.size, 0, none⟩) 10 10) ∧ Bk w' w.heap.size 9 (stWs.map Value.string) ∧ Below w.heap.size w w' := by
  have B0 : Hid (Below w.heap.size w (w.alloc (.cells (stWs.map Value.string).toArray 9))) := below_new (Below.refl _ _)
  have K0 := hid (Bk.new w 9 (stWs.map Value.string))
  go_enter Tryz.func16, Tryz.ntmps16
  go_wp2
  go_ret
  exact ⟨rfl, K0.out, B0.out⟩
/-- The text of a call. -/
def clT (kd ak : Int) (ky vl lo hi : ByteArray) (mo : Int) (bk : Bool) : ByteArray := if clOk kd ak ky vl lo hi mo bk then joinW (clW kd ak ky vl lo hi mo bk) else ⟨#[]⟩
theorem clT_no {kd ak : Int} {ky vl lo hi : ByteArray} {mo : Int} {bk : Bool} (h : clOk kd ak ky vl lo hi mo bk = false) : clT kd ak ky vl lo hi mo bk = ⟨#[]⟩ := by unfold clT; rw [h]; rfl
theorem clT_yes {kd ak : Int} {ky vl lo hi : ByteArray} {mo : Int} {bk : Bool} (h : clOk kd ak ky vl lo hi mo bk = true) : clT kd ak ky vl lo hi mo bk = joinW (clW kd ak ky vl lo hi mo bk) := by unfold clT; rw [h]; rfl
theorem clOk_kd {kd ak : Int} {ky vl lo hi : ByteArray} {mo : Int} {bk : Bool} (h : clOk kd ak ky vl lo hi mo bk = true) : kd = 1 ∨ kd = 3 ∨ kd = 4 ∨ (kd = 2 ∧ (ak = 1 ∨ ak = 2 ∨ ak = 3 ∨ ak = 4)) := by
  unfold clOk at h
  by_cases h2 : kd = 2
  · rw [if_pos h2] at h
    rcases akOk_cases h with h | h | h | h
    · exact .inr (.inr (.inr ⟨h2, .inl h.1⟩))
    · exact .inr (.inr (.inr ⟨h2, .inr (.inl h.1)⟩))
    · exact .inr (.inr (.inr ⟨h2, .inr (.inr (.inl h.1))⟩))
    · exact .inr (.inr (.inr ⟨h2, .inr (.inr (.inr h.1))⟩))
  · rw [if_neg h2] at h
    by_cases h3 : kd = 1 ∨ kd = 3 ∨ kd = 4
    · rcases h3 with h3 | h3 | h3
      · exact .inl h3
      · exact .inr (.inl h3)
      · exact .inr (.inr (.inl h3))
    · rw [if_neg h3] at h; cases h
set_option maxHeartbeats 8000000 in
set_option maxRecDepth 20000 in
theorem l14Call_any (kd ak : Int) (ky vl lo hi : ByteArray) (mo : Int) (bk : Bool) (w : World) :
    Calls Tryz.prog 35 #[.agg #[.int .i64 kd, .int .i64 ak, .string ky, .string vl, .string lo, .string hi, .int .i64 mo, .bool bk]] w fun e w' => e = .returned (.string (clT kd ak ky vl lo hi mo bk)) ∧ Below w.heap.size w w' := by
  have B0 := hid (below_new (o := .cells #[.int .i64 kd, .int .i64 ak, .string ky, .string vl, .string lo, .string hi, .int .i64 mo, .bool bk] 28) (w := w) (Below.refl _ _))
  have K0 := hid (Bk.new w 28 [.int .i64 kd, .int .i64 ak, .string ky, .string vl, .string lo, .string hi, .int .i64 mo, .bool bk])
  have C1 := hid (fun w => specCallOk_any kd ak ky vl lo hi mo bk w)
  have CQ := hid (fun (s : ByteArray) (w : World) (hs : s.size ≤ 1048576) => specQuote_any s w hs)
  have CN := hid (fun (n : Int) (w : World) => specNumText_any n w)
  have z1 := wq_size ky
  have z2 := wq_size vl
  have z3 := wq_size lo
  have z4 := wq_size hi
  have z5 := numS_size mo
  have z6 : (⟨#[32]⟩ : ByteArray).size = 1 := rfl
  have z7 : (⟨#[112, 117, 116, 32]⟩ : ByteArray).size = 4 := rfl
  have z8 : (⟨#[103, 101, 116, 32]⟩ : ByteArray).size = 4 := rfl
  have z9 : (⟨#[100, 101, 108, 32]⟩ : ByteArray).size = 4 := rfl
  have z10 : (⟨#[115, 99, 97, 110, 32]⟩ : ByteArray).size = 5 := rfl
  have z11 : (⟨#[98, 97, 99, 107, 32]⟩ : ByteArray).size = 5 := rfl
  generalize hU : w.alloc (.cells #[.int .i64 kd, .int .i64 ak, .string ky, .string vl, .string lo, .string hi, .int .i64 mo, .bool bk] 28) = U at *
  have HU := hid hU
  skip
  clear hU
  cases hz : clOk kd ak ky vl lo hi mo bk with
  | false =>
    have HV := hid (clT_no hz)
    rw [hz] at C1
    clear hz z1 z2 z3 z4 z5 z6 z7 z8 z9 z10 z11
    go_enter Tryz.func35, Tryz.ntmps35
    go_wp2_with fail
    rw [HU.out]
    have c0 := K0.out.cell (j := 0) rfl
    have c1 := K0.out.cell (j := 1) rfl
    have c2 := K0.out.cell (j := 2) rfl
    have c3 := K0.out.cell (j := 3) rfl
    have c4 := K0.out.cell (j := 4) rfl
    have c5 := K0.out.cell (j := 5) rfl
    have c6 := K0.out.cell (j := 6) rfl
    have c7 := K0.out.cell (j := 7) rfl
    go_wp2_with fail
    refine (C1.out _).mono ?_
    rintro r w1 ⟨rfl, hb⟩
    have K1 := hid (K0.out.below hb)
    have B1 := hid (B0.out.trans (hb.mono B0.out.size))
    clear hb c0 c1 c2 c3 c4 c5 c6 c7 K0 B0
    have c0 := K1.out.cell (j := 0) rfl
    have c1 := K1.out.cell (j := 1) rfl
    have c2 := K1.out.cell (j := 2) rfl
    have c3 := K1.out.cell (j := 3) rfl
    have c4 := K1.out.cell (j := 4) rfl
    have c5 := K1.out.cell (j := 5) rfl
    have c6 := K1.out.cell (j := 6) rfl
    have c7 := K1.out.cell (j := 7) rfl
    go_wp2
    go_ret
    exact ⟨by rw [HV.out]; rfl, B1.out⟩
  | true =>
    have HV := hid (clT_yes hz)
    have HS := hid (clOk_sizes hz)
    rw [hz] at C1
    rcases clOk_kd hz with rfl | rfl | rfl | ⟨rfl, h⟩
    · clear hz z1 z2 z3 z4 z5 z6 z7 z8 z9 z10 z11
      go_enter Tryz.func35, Tryz.ntmps35
      go_wp2_with fail
      rw [HU.out]
      have c0 := K0.out.cell (j := 0) rfl
      have c1 := K0.out.cell (j := 1) rfl
      have c2 := K0.out.cell (j := 2) rfl
      have c3 := K0.out.cell (j := 3) rfl
      have c4 := K0.out.cell (j := 4) rfl
      have c5 := K0.out.cell (j := 5) rfl
      have c6 := K0.out.cell (j := 6) rfl
      have c7 := K0.out.cell (j := 7) rfl
      go_wp2_with fail
      refine (C1.out _).mono ?_
      rintro r w1 ⟨rfl, hb⟩
      have K1 := hid (K0.out.below hb)
      have B1 := hid (B0.out.trans (hb.mono B0.out.size))
      clear hb c0 c1 c2 c3 c4 c5 c6 c7 K0 B0
      have c0 := K1.out.cell (j := 0) rfl
      have c1 := K1.out.cell (j := 1) rfl
      have c2 := K1.out.cell (j := 2) rfl
      have c3 := K1.out.cell (j := 3) rfl
      have c4 := K1.out.cell (j := 4) rfl
      have c5 := K1.out.cell (j := 5) rfl
      have c6 := K1.out.cell (j := 6) rfl
      have c7 := K1.out.cell (j := 7) rfl
      go_wp2
      go_ret
      exact ⟨by rw [HV.out]; rfl, B1.out⟩
    · clear hz z1 z2 z3 z4 z5 z6 z7 z8 z9 z10 z11
      go_enter Tryz.func35, Tryz.ntmps35
      go_wp2_with fail
      rw [HU.out]
      have c0 := K0.out.cell (j := 0) rfl
      have c1 := K0.out.cell (j := 1) rfl
      have c2 := K0.out.cell (j := 2) rfl
      have c3 := K0.out.cell (j := 3) rfl
      have c4 := K0.out.cell (j := 4) rfl
      have c5 := K0.out.cell (j := 5) rfl
      have c6 := K0.out.cell (j := 6) rfl
      have c7 := K0.out.cell (j := 7) rfl
      go_wp2_with fail
      refine (C1.out _).mono ?_
      rintro r w1 ⟨rfl, hb⟩
      have K1 := hid (K0.out.below hb)
      have B1 := hid (B0.out.trans (hb.mono B0.out.size))
      clear hb c0 c1 c2 c3 c4 c5 c6 c7 K0 B0
      have c0 := K1.out.cell (j := 0) rfl
      have c1 := K1.out.cell (j := 1) rfl
      have c2 := K1.out.cell (j := 2) rfl
      have c3 := K1.out.cell (j := 3) rfl
      have c4 := K1.out.cell (j := 4) rfl
      have c5 := K1.out.cell (j := 5) rfl
      have c6 := K1.out.cell (j := 6) rfl
      have c7 := K1.out.cell (j := 7) rfl
      go_wp2
      go_ret
      exact ⟨by rw [HV.out]; rfl, B1.out⟩
    · clear hz z1 z2 z3 z4 z5 z6 z7 z8 z9 z10 z11
      go_enter Tryz.func35, Tryz.ntmps35
      go_wp2_with fail
      rw [HU.out]
      have c0 := K0.out.cell (j := 0) rfl
      have c1 := K0.out.cell (j := 1) rfl
      have c2 := K0.out.cell (j := 2) rfl
      have c3 := K0.out.cell (j := 3) rfl
      have c4 := K0.out.cell (j := 4) rfl
      have c5 := K0.out.cell (j := 5) rfl
      have c6 := K0.out.cell (j := 6) rfl
      have c7 := K0.out.cell (j := 7) rfl
      go_wp2_with fail
      refine (C1.out _).mono ?_
      rintro r w1 ⟨rfl, hb⟩
      have K1 := hid (K0.out.below hb)
      have B1 := hid (B0.out.trans (hb.mono B0.out.size))
      clear hb c0 c1 c2 c3 c4 c5 c6 c7 K0 B0
      have c0 := K1.out.cell (j := 0) rfl
      have c1 := K1.out.cell (j := 1) rfl
      have c2 := K1.out.cell (j := 2) rfl
      have c3 := K1.out.cell (j := 3) rfl
      have c4 := K1.out.cell (j := 4) rfl
      have c5 := K1.out.cell (j := 5) rfl
      have c6 := K1.out.cell (j := 6) rfl
      have c7 := K1.out.cell (j := 7) rfl
      go_wp2
      go_ret
      exact ⟨by rw [HV.out]; rfl, B1.out⟩
    · clear hz
      rcases h with rfl | rfl | rfl | rfl
      · have HV2 : Hid (clT 2 1 ky vl lo hi mo bk = ⟨#[103, 101, 116, 32]⟩ ++ qt ky) := by show _ = _; rw [HV.out]; rfl
        have q0 : ¬ (9223372036854775807 < (⟨#[103, 101, 116, 32]⟩ : ByteArray).size + (qt ky).size) := by omega
        clear z1 z2 z3 z4 z5 z6 z7 z8 z9 z10 z11
        go_enter Tryz.func35, Tryz.ntmps35
        go_wp2_with fail
        rw [HU.out]
        have c0 := K0.out.cell (j := 0) rfl
        have c1 := K0.out.cell (j := 1) rfl
        have c2 := K0.out.cell (j := 2) rfl
        have c3 := K0.out.cell (j := 3) rfl
        have c4 := K0.out.cell (j := 4) rfl
        have c5 := K0.out.cell (j := 5) rfl
        have c6 := K0.out.cell (j := 6) rfl
        have c7 := K0.out.cell (j := 7) rfl
        go_wp2_with fail
        refine (C1.out _).mono ?_
        rintro r w1 ⟨rfl, hb⟩
        have K1 := hid (K0.out.below hb)
        have B1 := hid (B0.out.trans (hb.mono B0.out.size))
        clear hb c0 c1 c2 c3 c4 c5 c6 c7 K0 B0
        have c0 := K1.out.cell (j := 0) rfl
        have c1 := K1.out.cell (j := 1) rfl
        have c2 := K1.out.cell (j := 2) rfl
        have c3 := K1.out.cell (j := 3) rfl
        have c4 := K1.out.cell (j := 4) rfl
        have c5 := K1.out.cell (j := 5) rfl
        have c6 := K1.out.cell (j := 6) rfl
        have c7 := K1.out.cell (j := 7) rfl
        have B2 := hid (B1.out.alloc B1.out.size (.cells #[.int .i64 1, .string ky, .string vl, .string lo, .string hi, .int .i64 mo, .bool bk] 26))
        have A2 := hid (Bk.new w1 26 [.int .i64 1, .string ky, .string vl, .string lo, .string hi, .int .i64 mo, .bool bk])
        have a0 := A2.out.cell (j := 0) rfl
        have a1 := A2.out.cell (j := 1) rfl
        go_wp2_with fail
        refine (CQ.out ky _ HS.out.1).mono ?_
        rintro r w2 ⟨rfl, hb⟩
        have B3 := hid (B2.out.trans (hb.mono B2.out.size))
        clear hb a0 a1 A2 B2
        go_wp2
        go_ret
        exact ⟨by rw [HV2.out]; rfl, B3.out⟩
      · have HV2 : Hid (clT 2 2 ky vl lo hi mo bk = ⟨#[112, 117, 116, 32]⟩ ++ qt ky ++ ⟨#[32]⟩ ++ qt vl) := by show _ = _; rw [HV.out]; rfl
        clear z6 z7 z8 z9 z10 z11
        go_enter Tryz.func35, Tryz.ntmps35
        go_wp2_with fail
        rw [HU.out]
        have c0 := K0.out.cell (j := 0) rfl
        have c1 := K0.out.cell (j := 1) rfl
        have c2 := K0.out.cell (j := 2) rfl
        have c3 := K0.out.cell (j := 3) rfl
        have c4 := K0.out.cell (j := 4) rfl
        have c5 := K0.out.cell (j := 5) rfl
        have c6 := K0.out.cell (j := 6) rfl
        have c7 := K0.out.cell (j := 7) rfl
        go_wp2_with fail
        refine (C1.out _).mono ?_
        rintro r w1 ⟨rfl, hb⟩
        have K1 := hid (K0.out.below hb)
        have B1 := hid (B0.out.trans (hb.mono B0.out.size))
        clear hb c0 c1 c2 c3 c4 c5 c6 c7 K0 B0
        have c0 := K1.out.cell (j := 0) rfl
        have c1 := K1.out.cell (j := 1) rfl
        have c2 := K1.out.cell (j := 2) rfl
        have c3 := K1.out.cell (j := 3) rfl
        have c4 := K1.out.cell (j := 4) rfl
        have c5 := K1.out.cell (j := 5) rfl
        have c6 := K1.out.cell (j := 6) rfl
        have c7 := K1.out.cell (j := 7) rfl
        have B2 := hid (B1.out.alloc B1.out.size (.cells #[.int .i64 2, .string ky, .string vl, .string lo, .string hi, .int .i64 mo, .bool bk] 26))
        have A0 := hid (Bk.new w1 26 [.int .i64 2, .string ky, .string vl, .string lo, .string hi, .int .i64 mo, .bool bk])
        have a0 := A0.out.cell (j := 0) rfl
        have a5 := A0.out.cell (j := 6) rfl
        clear B1 K1
        have B0 := B2
        clear B2
        go_wp2_with fail
        generalize w1.alloc (.cells #[.int .i64 2, .string ky, .string vl, .string lo, .string hi, .int .i64 mo, .bool bk] 26) = V0 at *
        generalize w1.heap.size = gA at *
        clear a0 a5 c0 c1 c2 c3 c4 c5 c6 c7
        refine wp_region_noPanic ?_
        refine wp_region_held_drew (S := fun v => v.cell? ⟨gA, 1, none⟩ = some (.string ky) ∧ v.cell? ⟨gA, 2, none⟩ = some (.string vl) ∧ v.cell? ⟨gA, 3, none⟩ = some (.string lo) ∧ v.cell? ⟨gA, 4, none⟩ = some (.string hi) ∧ v.cell? ⟨gA, 5, none⟩ = some (.int .i64 mo)) (by kernel_rfl) (⟨(A0.out.below (below_drew _)).cell (j := 1) rfl, (A0.out.below (below_drew _)).cell (j := 2) rfl, (A0.out.below (below_drew _)).cell (j := 3) rfl, (A0.out.below (below_drew _)).cell (j := 4) rfl, (A0.out.below (below_drew _)).cell (j := 5) rfl⟩) (fun hHeld => ?_)
        simp only [List.size_toArray, List.length_cons, List.length_nil, Array.replicate_succ, Array.replicate_zero, Nat.reduceAdd, List.push_toArray, List.nil_append, List.cons_append]
        have BD := hid (B0.out.trans ((below_drew V0).mono B0.out.size))
        have AD := hid (A0.out.below (below_drew _))
        clear B0 A0
        generalize V0.drew = v0 at *
        have B0 := BD
        have A0 := AD
        clear BD AD
        refine wpAnyH_take (i := 0) (v := (.pointer (some ⟨gA, 1, none⟩))) rfl (by kernel_rfl) (by kernel_rfl) (by kernel_rfl) (fun _ _ _ h => h) (Or.inl ⟨by rfl, ?_⟩) (by assumption) ?_
        · intro w hSw
          (try dsimp only at hSw)
          go_simp
        try simp only [List.getElem_toArray]
        try simp only [List.getElem_cons_succ]
        try simp only [List.getElem_cons_zero]
        try simp only [Act.put]
        try simp only [List.setIfInBounds_toArray]
        try simp only [List.set_cons_succ]
        try simp only [List.set_cons_zero]
        refine wpAnyH_take (i := 1) (v := (.string ky)) rfl (by kernel_rfl) (by kernel_rfl) (by kernel_rfl) (fun _ _ _ h => h) (Or.inl ⟨by rfl, ?_⟩) (by assumption) ?_
        · intro w hSw
          (try dsimp only at hSw)
          go_simp
        try simp only [List.getElem_toArray]
        try simp only [List.getElem_cons_succ]
        try simp only [List.getElem_cons_zero]
        try simp only [Act.put]
        try simp only [List.setIfInBounds_toArray]
        try simp only [List.set_cons_succ]
        try simp only [List.set_cons_zero]
        refine wpAnyH_take (i := 5) (v := (.pointer (some ⟨gA, 2, none⟩))) rfl (by kernel_rfl) (by kernel_rfl) (by kernel_rfl) (fun _ _ _ h => h) (Or.inl ⟨by rfl, ?_⟩) (by assumption) ?_
        · intro w hSw
          (try dsimp only at hSw)
          go_simp
        try simp only [List.getElem_toArray]
        try simp only [List.getElem_cons_succ]
        try simp only [List.getElem_cons_zero]
        try simp only [Act.put]
        try simp only [List.setIfInBounds_toArray]
        try simp only [List.set_cons_succ]
        try simp only [List.set_cons_zero]
        refine wpAnyH_take (i := 6) (v := (.string vl)) rfl (by kernel_rfl) (by kernel_rfl) (by kernel_rfl) (fun _ _ _ h => h) (Or.inl ⟨by rfl, ?_⟩) (by assumption) ?_
        · intro w hSw
          (try dsimp only at hSw)
          go_simp
        try simp only [List.getElem_toArray]
        try simp only [List.getElem_cons_succ]
        try simp only [List.getElem_cons_zero]
        try simp only [Act.put]
        try simp only [List.setIfInBounds_toArray]
        try simp only [List.set_cons_succ]
        try simp only [List.set_cons_zero]
        refine wpAnyH_ready (rs := [2]) (by kernel_rfl) (by simp) ?_
        refine AllReadyH.cons rfl (fun K1 hK => ?_) AllReadyH.nil
        go_simp
        refine (CQ.out ky _ HS.out.1).mono ?_
        rintro r v1 ⟨rfl, hb⟩
        go_wp2_with fail
        have A1 := hid (A0.out.below hb)
        have B1 := hid (B0.out.trans (hb.mono B0.out.size))
        clear hb A0 B0
        refine hK.out _ _ ?_ (fun hHeld => ?_)
        · exact ⟨A1.out.cell (j := 1) rfl, A1.out.cell (j := 2) rfl, A1.out.cell (j := 3) rfl, A1.out.cell (j := 4) rfl, A1.out.cell (j := 5) rfl⟩
        clear hK K1
        try simp only [List.getElem_toArray]
        try simp only [List.getElem_cons_succ]
        try simp only [List.getElem_cons_zero]
        try simp only [Act.put]
        try simp only [List.setIfInBounds_toArray]
        try simp only [List.set_cons_succ]
        try simp only [List.set_cons_zero]
        refine wpAnyH_take (i := 3) (v := (.string (⟨#[112, 117, 116, 32]⟩ ++ qt ky))) rfl (by kernel_rfl) (by kernel_rfl) (by kernel_rfl) (fun _ _ _ h => h) (Or.inl ⟨by rfl, ?_⟩) (by assumption) ?_
        · intro w hSw
          (try dsimp only at hSw)
          go_simp
          try omega
        try simp only [List.getElem_toArray]
        try simp only [List.getElem_cons_succ]
        try simp only [List.getElem_cons_zero]
        try simp only [Act.put]
        try simp only [List.setIfInBounds_toArray]
        try simp only [List.set_cons_succ]
        try simp only [List.set_cons_zero]
        refine wpAnyH_take (i := 4) (v := (.string (⟨#[112, 117, 116, 32]⟩ ++ qt ky ++ ⟨#[32]⟩))) rfl (by kernel_rfl) (by kernel_rfl) (by kernel_rfl) (fun _ _ _ h => h) (Or.inl ⟨by rfl, ?_⟩) (by assumption) ?_
        · intro w hSw
          (try dsimp only at hSw)
          go_simp
          try omega
        try simp only [List.getElem_toArray]
        try simp only [List.getElem_cons_succ]
        try simp only [List.getElem_cons_zero]
        try simp only [Act.put]
        try simp only [List.setIfInBounds_toArray]
        try simp only [List.set_cons_succ]
        try simp only [List.set_cons_zero]
        refine wpAnyH_ready (rs := [7]) (by kernel_rfl) (by simp) ?_
        refine AllReadyH.cons rfl (fun K1 hK => ?_) AllReadyH.nil
        go_simp
        refine (CQ.out vl _ HS.out.2.1).mono ?_
        rintro r v2 ⟨rfl, hb⟩
        go_wp2_with fail
        have A2 := hid (A1.out.below hb)
        have B2 := hid (B1.out.trans (hb.mono B1.out.size))
        clear hb A1 B1
        refine hK.out _ _ ?_ (fun hHeld => ?_)
        · exact ⟨A2.out.cell (j := 1) rfl, A2.out.cell (j := 2) rfl, A2.out.cell (j := 3) rfl, A2.out.cell (j := 4) rfl, A2.out.cell (j := 5) rfl⟩
        clear hK K1
        try simp only [List.getElem_toArray]
        try simp only [List.getElem_cons_succ]
        try simp only [List.getElem_cons_zero]
        try simp only [Act.put]
        try simp only [List.setIfInBounds_toArray]
        try simp only [List.set_cons_succ]
        try simp only [List.set_cons_zero]
        refine wpAnyH_take (i := 8) (v := (.string (⟨#[112, 117, 116, 32]⟩ ++ qt ky ++ ⟨#[32]⟩ ++ qt vl))) rfl (by kernel_rfl) (by kernel_rfl) (by kernel_rfl) (fun _ _ _ h => h) (Or.inl ⟨by rfl, ?_⟩) (by assumption) ?_
        · intro w hSw
          (try dsimp only at hSw)
          go_simp
          try omega
        try simp only [List.getElem_toArray]
        try simp only [List.getElem_cons_succ]
        try simp only [List.getElem_cons_zero]
        try simp only [Act.put]
        try simp only [List.setIfInBounds_toArray]
        try simp only [List.set_cons_succ]
        try simp only [List.set_cons_zero]
        refine wpAnyH_take (i := 9) (v := (.string (⟨#[112, 117, 116, 32]⟩ ++ qt ky ++ ⟨#[32]⟩ ++ qt vl))) rfl (by kernel_rfl) (by kernel_rfl) (by kernel_rfl) (fun _ _ _ h => h) (Or.inl ⟨by rfl, ?_⟩) (by assumption) ?_
        · intro w hSw
          (try dsimp only at hSw)
          go_simp
          try omega
        try simp only [List.getElem_toArray]
        try simp only [List.getElem_cons_succ]
        try simp only [List.getElem_cons_zero]
        try simp only [Act.put]
        try simp only [List.setIfInBounds_toArray]
        try simp only [List.set_cons_succ]
        try simp only [List.set_cons_zero]
        refine wpAnyH_done (by kernel_rfl) ?_ _
        refine NoPanic.normal ?_
        go_wp2
        go_ret
        exact ⟨by rw [HV2.out]; rfl, B2.out⟩
      · have HV2 : Hid (clT 2 3 ky vl lo hi mo bk = ⟨#[100, 101, 108, 32]⟩ ++ qt ky) := by show _ = _; rw [HV.out]; rfl
        have q0 : ¬ (9223372036854775807 < (⟨#[100, 101, 108, 32]⟩ : ByteArray).size + (qt ky).size) := by omega
        clear z1 z2 z3 z4 z5 z6 z7 z8 z9 z10 z11
        go_enter Tryz.func35, Tryz.ntmps35
        go_wp2_with fail
        rw [HU.out]
        have c0 := K0.out.cell (j := 0) rfl
        have c1 := K0.out.cell (j := 1) rfl
        have c2 := K0.out.cell (j := 2) rfl
        have c3 := K0.out.cell (j := 3) rfl
        have c4 := K0.out.cell (j := 4) rfl
        have c5 := K0.out.cell (j := 5) rfl
        have c6 := K0.out.cell (j := 6) rfl
        have c7 := K0.out.cell (j := 7) rfl
        go_wp2_with fail
        refine (C1.out _).mono ?_
        rintro r w1 ⟨rfl, hb⟩
        have K1 := hid (K0.out.below hb)
        have B1 := hid (B0.out.trans (hb.mono B0.out.size))
        clear hb c0 c1 c2 c3 c4 c5 c6 c7 K0 B0
        have c0 := K1.out.cell (j := 0) rfl
        have c1 := K1.out.cell (j := 1) rfl
        have c2 := K1.out.cell (j := 2) rfl
        have c3 := K1.out.cell (j := 3) rfl
        have c4 := K1.out.cell (j := 4) rfl
        have c5 := K1.out.cell (j := 5) rfl
        have c6 := K1.out.cell (j := 6) rfl
        have c7 := K1.out.cell (j := 7) rfl
        have B2 := hid (B1.out.alloc B1.out.size (.cells #[.int .i64 3, .string ky, .string vl, .string lo, .string hi, .int .i64 mo, .bool bk] 26))
        have A2 := hid (Bk.new w1 26 [.int .i64 3, .string ky, .string vl, .string lo, .string hi, .int .i64 mo, .bool bk])
        have a0 := A2.out.cell (j := 0) rfl
        have a1 := A2.out.cell (j := 1) rfl
        go_wp2_with fail
        refine (CQ.out ky _ HS.out.1).mono ?_
        rintro r w2 ⟨rfl, hb⟩
        have B3 := hid (B2.out.trans (hb.mono B2.out.size))
        clear hb a0 a1 A2 B2
        go_wp2
        go_ret
        exact ⟨by rw [HV2.out]; rfl, B3.out⟩
      · cases bk with
        | false =>
          · skip
            have HV2 : Hid (clT 2 4 ky vl lo hi mo false = ⟨#[115, 99, 97, 110, 32]⟩ ++ qt lo ++ ⟨#[32]⟩ ++ qt hi ++ ⟨#[32]⟩ ++ numS mo) := by show _ = _; rw [HV.out]; rfl
            clear z6 z7 z8 z9 z10 z11
            go_enter Tryz.func35, Tryz.ntmps35
            go_wp2_with fail
            rw [HU.out]
            have c0 := K0.out.cell (j := 0) rfl
            have c1 := K0.out.cell (j := 1) rfl
            have c2 := K0.out.cell (j := 2) rfl
            have c3 := K0.out.cell (j := 3) rfl
            have c4 := K0.out.cell (j := 4) rfl
            have c5 := K0.out.cell (j := 5) rfl
            have c6 := K0.out.cell (j := 6) rfl
            have c7 := K0.out.cell (j := 7) rfl
            go_wp2_with fail
            refine (C1.out _).mono ?_
            rintro r w1 ⟨rfl, hb⟩
            have K1 := hid (K0.out.below hb)
            have B1 := hid (B0.out.trans (hb.mono B0.out.size))
            clear hb c0 c1 c2 c3 c4 c5 c6 c7 K0 B0
            have c0 := K1.out.cell (j := 0) rfl
            have c1 := K1.out.cell (j := 1) rfl
            have c2 := K1.out.cell (j := 2) rfl
            have c3 := K1.out.cell (j := 3) rfl
            have c4 := K1.out.cell (j := 4) rfl
            have c5 := K1.out.cell (j := 5) rfl
            have c6 := K1.out.cell (j := 6) rfl
            have c7 := K1.out.cell (j := 7) rfl
            have B2 := hid (B1.out.alloc B1.out.size (.cells #[.int .i64 4, .string ky, .string vl, .string lo, .string hi, .int .i64 mo, .bool false] 26))
            have A0 := hid (Bk.new w1 26 [.int .i64 4, .string ky, .string vl, .string lo, .string hi, .int .i64 mo, .bool false])
            have a0 := A0.out.cell (j := 0) rfl
            have a5 := A0.out.cell (j := 6) rfl
            clear B1 K1
            have B0 := B2
            clear B2
            go_wp2_with fail
            generalize w1.alloc (.cells #[.int .i64 4, .string ky, .string vl, .string lo, .string hi, .int .i64 mo, .bool false] 26) = V0 at *
            generalize w1.heap.size = gA at *
            clear a0 a5 c0 c1 c2 c3 c4 c5 c6 c7
            refine wp_region_noPanic ?_
            refine wp_region_held_drew (S := fun v => v.cell? ⟨gA, 1, none⟩ = some (.string ky) ∧ v.cell? ⟨gA, 2, none⟩ = some (.string vl) ∧ v.cell? ⟨gA, 3, none⟩ = some (.string lo) ∧ v.cell? ⟨gA, 4, none⟩ = some (.string hi) ∧ v.cell? ⟨gA, 5, none⟩ = some (.int .i64 mo)) (by kernel_rfl) (⟨(A0.out.below (below_drew _)).cell (j := 1) rfl, (A0.out.below (below_drew _)).cell (j := 2) rfl, (A0.out.below (below_drew _)).cell (j := 3) rfl, (A0.out.below (below_drew _)).cell (j := 4) rfl, (A0.out.below (below_drew _)).cell (j := 5) rfl⟩) (fun hHeld => ?_)
            simp only [List.size_toArray, List.length_cons, List.length_nil, Array.replicate_succ, Array.replicate_zero, Nat.reduceAdd, List.push_toArray, List.nil_append, List.cons_append]
            have BD := hid (B0.out.trans ((below_drew V0).mono B0.out.size))
            have AD := hid (A0.out.below (below_drew _))
            clear B0 A0
            generalize V0.drew = v0 at *
            have B0 := BD
            have A0 := AD
            clear BD AD
            refine wpAnyH_take (i := 0) (v := (.string ⟨#[115, 99, 97, 110, 32]⟩)) rfl (by kernel_rfl) (by kernel_rfl) (by kernel_rfl) (fun _ _ _ h => h) (Or.inl ⟨by rfl, ?_⟩) (by assumption) ?_
            · intro w hSw
              (try dsimp only at hSw)
              go_simp
            try simp only [List.getElem_toArray]
            try simp only [List.getElem_cons_succ]
            try simp only [List.getElem_cons_zero]
            try simp only [Act.put]
            try simp only [List.setIfInBounds_toArray]
            try simp only [List.set_cons_succ]
            try simp only [List.set_cons_zero]
            refine wpAnyH_take (i := 1) (v := (.pointer (some ⟨gA, 3, none⟩))) rfl (by kernel_rfl) (by kernel_rfl) (by kernel_rfl) (fun _ _ _ h => h) (Or.inl ⟨by rfl, ?_⟩) (by assumption) ?_
            · intro w hSw
              (try dsimp only at hSw)
              go_simp
            try simp only [List.getElem_toArray]
            try simp only [List.getElem_cons_succ]
            try simp only [List.getElem_cons_zero]
            try simp only [Act.put]
            try simp only [List.setIfInBounds_toArray]
            try simp only [List.set_cons_succ]
            try simp only [List.set_cons_zero]
            refine wpAnyH_take (i := 2) (v := (.pointer (some ⟨gA, 3, none⟩))) rfl (by kernel_rfl) (by kernel_rfl) (by kernel_rfl) (fun _ _ _ h => h) (Or.inl ⟨by rfl, ?_⟩) (by assumption) ?_
            · intro w hSw
              (try dsimp only at hSw)
              go_simp
            try simp only [List.getElem_toArray]
            try simp only [List.getElem_cons_succ]
            try simp only [List.getElem_cons_zero]
            try simp only [Act.put]
            try simp only [List.setIfInBounds_toArray]
            try simp only [List.set_cons_succ]
            try simp only [List.set_cons_zero]
            refine wpAnyH_take (i := 3) (v := (.string lo)) rfl (by kernel_rfl) (by kernel_rfl) (by kernel_rfl) (fun _ _ _ h => h) (Or.inl ⟨by rfl, ?_⟩) (by assumption) ?_
            · intro w hSw
              (try dsimp only at hSw)
              go_simp
            try simp only [List.getElem_toArray]
            try simp only [List.getElem_cons_succ]
            try simp only [List.getElem_cons_zero]
            try simp only [Act.put]
            try simp only [List.setIfInBounds_toArray]
            try simp only [List.set_cons_succ]
            try simp only [List.set_cons_zero]
            refine wpAnyH_take (i := 7) (v := (.pointer (some ⟨gA, 3, none⟩))) rfl (by kernel_rfl) (by kernel_rfl) (by kernel_rfl) (fun _ _ _ h => h) (Or.inl ⟨by rfl, ?_⟩) (by assumption) ?_
            · intro w hSw
              (try dsimp only at hSw)
              go_simp
            try simp only [List.getElem_toArray]
            try simp only [List.getElem_cons_succ]
            try simp only [List.getElem_cons_zero]
            try simp only [Act.put]
            try simp only [List.setIfInBounds_toArray]
            try simp only [List.set_cons_succ]
            try simp only [List.set_cons_zero]
            refine wpAnyH_take (i := 8) (v := (.pointer (some ⟨gA, 4, none⟩))) rfl (by kernel_rfl) (by kernel_rfl) (by kernel_rfl) (fun _ _ _ h => h) (Or.inl ⟨by rfl, ?_⟩) (by assumption) ?_
            · intro w hSw
              (try dsimp only at hSw)
              go_simp
            try simp only [List.getElem_toArray]
            try simp only [List.getElem_cons_succ]
            try simp only [List.getElem_cons_zero]
            try simp only [Act.put]
            try simp only [List.setIfInBounds_toArray]
            try simp only [List.set_cons_succ]
            try simp only [List.set_cons_zero]
            refine wpAnyH_take (i := 9) (v := (.string hi)) rfl (by kernel_rfl) (by kernel_rfl) (by kernel_rfl) (fun _ _ _ h => h) (Or.inl ⟨by rfl, ?_⟩) (by assumption) ?_
            · intro w hSw
              (try dsimp only at hSw)
              go_simp
            try simp only [List.getElem_toArray]
            try simp only [List.getElem_cons_succ]
            try simp only [List.getElem_cons_zero]
            try simp only [Act.put]
            try simp only [List.setIfInBounds_toArray]
            try simp only [List.set_cons_succ]
            try simp only [List.set_cons_zero]
            refine wpAnyH_take (i := 13) (v := (.pointer (some ⟨gA, 5, none⟩))) rfl (by kernel_rfl) (by kernel_rfl) (by kernel_rfl) (fun _ _ _ h => h) (Or.inl ⟨by rfl, ?_⟩) (by assumption) ?_
            · intro w hSw
              (try dsimp only at hSw)
              go_simp
            try simp only [List.getElem_toArray]
            try simp only [List.getElem_cons_succ]
            try simp only [List.getElem_cons_zero]
            try simp only [Act.put]
            try simp only [List.setIfInBounds_toArray]
            try simp only [List.set_cons_succ]
            try simp only [List.set_cons_zero]
            refine wpAnyH_take (i := 14) (v := (.int .i64 mo)) rfl (by kernel_rfl) (by kernel_rfl) (by kernel_rfl) (fun _ _ _ h => h) (Or.inl ⟨by rfl, ?_⟩) (by assumption) ?_
            · intro w hSw
              (try dsimp only at hSw)
              go_simp
            try simp only [List.getElem_toArray]
            try simp only [List.getElem_cons_succ]
            try simp only [List.getElem_cons_zero]
            try simp only [Act.put]
            try simp only [List.setIfInBounds_toArray]
            try simp only [List.set_cons_succ]
            try simp only [List.set_cons_zero]
            refine wpAnyH_ready (rs := [4]) (by kernel_rfl) (by simp) ?_
            refine AllReadyH.cons rfl (fun K1 hK => ?_) AllReadyH.nil
            go_simp
            refine (CQ.out lo _ HS.out.2.2.1).mono ?_
            rintro r v1 ⟨rfl, hb⟩
            go_wp2_with fail
            have A1 := hid (A0.out.below hb)
            have B1 := hid (B0.out.trans (hb.mono B0.out.size))
            clear hb A0 B0
            refine hK.out _ _ ?_ (fun hHeld => ?_)
            · exact ⟨A1.out.cell (j := 1) rfl, A1.out.cell (j := 2) rfl, A1.out.cell (j := 3) rfl, A1.out.cell (j := 4) rfl, A1.out.cell (j := 5) rfl⟩
            clear hK K1
            try simp only [List.getElem_toArray]
            try simp only [List.getElem_cons_succ]
            try simp only [List.getElem_cons_zero]
            try simp only [Act.put]
            try simp only [List.setIfInBounds_toArray]
            try simp only [List.set_cons_succ]
            try simp only [List.set_cons_zero]
            refine wpAnyH_take (i := 5) (v := (.string (⟨#[115, 99, 97, 110, 32]⟩ ++ qt lo))) rfl (by kernel_rfl) (by kernel_rfl) (by kernel_rfl) (fun _ _ _ h => h) (Or.inl ⟨by rfl, ?_⟩) (by assumption) ?_
            · intro w hSw
              (try dsimp only at hSw)
              go_simp
              try omega
            try simp only [List.getElem_toArray]
            try simp only [List.getElem_cons_succ]
            try simp only [List.getElem_cons_zero]
            try simp only [Act.put]
            try simp only [List.setIfInBounds_toArray]
            try simp only [List.set_cons_succ]
            try simp only [List.set_cons_zero]
            refine wpAnyH_take (i := 6) (v := (.string (⟨#[115, 99, 97, 110, 32]⟩ ++ qt lo ++ ⟨#[32]⟩))) rfl (by kernel_rfl) (by kernel_rfl) (by kernel_rfl) (fun _ _ _ h => h) (Or.inl ⟨by rfl, ?_⟩) (by assumption) ?_
            · intro w hSw
              (try dsimp only at hSw)
              go_simp
              try omega
            try simp only [List.getElem_toArray]
            try simp only [List.getElem_cons_succ]
            try simp only [List.getElem_cons_zero]
            try simp only [Act.put]
            try simp only [List.setIfInBounds_toArray]
            try simp only [List.set_cons_succ]
            try simp only [List.set_cons_zero]
            refine wpAnyH_ready (rs := [10]) (by kernel_rfl) (by simp) ?_
            refine AllReadyH.cons rfl (fun K1 hK => ?_) AllReadyH.nil
            go_simp
            refine (CQ.out hi _ HS.out.2.2.2).mono ?_
            rintro r v2 ⟨rfl, hb⟩
            go_wp2_with fail
            have A2 := hid (A1.out.below hb)
            have B2 := hid (B1.out.trans (hb.mono B1.out.size))
            clear hb A1 B1
            refine hK.out _ _ ?_ (fun hHeld => ?_)
            · exact ⟨A2.out.cell (j := 1) rfl, A2.out.cell (j := 2) rfl, A2.out.cell (j := 3) rfl, A2.out.cell (j := 4) rfl, A2.out.cell (j := 5) rfl⟩
            clear hK K1
            try simp only [List.getElem_toArray]
            try simp only [List.getElem_cons_succ]
            try simp only [List.getElem_cons_zero]
            try simp only [Act.put]
            try simp only [List.setIfInBounds_toArray]
            try simp only [List.set_cons_succ]
            try simp only [List.set_cons_zero]
            refine wpAnyH_take (i := 11) (v := (.string (⟨#[115, 99, 97, 110, 32]⟩ ++ qt lo ++ ⟨#[32]⟩ ++ qt hi))) rfl (by kernel_rfl) (by kernel_rfl) (by kernel_rfl) (fun _ _ _ h => h) (Or.inl ⟨by rfl, ?_⟩) (by assumption) ?_
            · intro w hSw
              (try dsimp only at hSw)
              go_simp
              try omega
            try simp only [List.getElem_toArray]
            try simp only [List.getElem_cons_succ]
            try simp only [List.getElem_cons_zero]
            try simp only [Act.put]
            try simp only [List.setIfInBounds_toArray]
            try simp only [List.set_cons_succ]
            try simp only [List.set_cons_zero]
            refine wpAnyH_take (i := 12) (v := (.string (⟨#[115, 99, 97, 110, 32]⟩ ++ qt lo ++ ⟨#[32]⟩ ++ qt hi ++ ⟨#[32]⟩))) rfl (by kernel_rfl) (by kernel_rfl) (by kernel_rfl) (fun _ _ _ h => h) (Or.inl ⟨by rfl, ?_⟩) (by assumption) ?_
            · intro w hSw
              (try dsimp only at hSw)
              go_simp
              try omega
            try simp only [List.getElem_toArray]
            try simp only [List.getElem_cons_succ]
            try simp only [List.getElem_cons_zero]
            try simp only [Act.put]
            try simp only [List.setIfInBounds_toArray]
            try simp only [List.set_cons_succ]
            try simp only [List.set_cons_zero]
            refine wpAnyH_ready (rs := [15]) (by kernel_rfl) (by simp) ?_
            refine AllReadyH.cons rfl (fun K1 hK => ?_) AllReadyH.nil
            go_simp
            refine (CN.out mo _).mono ?_
            rintro r v3 ⟨rfl, hb⟩
            go_wp2_with fail
            have A3 := hid (A2.out.below hb)
            have B3 := hid (B2.out.trans (hb.mono B2.out.size))
            clear hb A2 B2
            refine hK.out _ _ ?_ (fun hHeld => ?_)
            · exact ⟨A3.out.cell (j := 1) rfl, A3.out.cell (j := 2) rfl, A3.out.cell (j := 3) rfl, A3.out.cell (j := 4) rfl, A3.out.cell (j := 5) rfl⟩
            clear hK K1
            try simp only [List.getElem_toArray]
            try simp only [List.getElem_cons_succ]
            try simp only [List.getElem_cons_zero]
            try simp only [Act.put]
            try simp only [List.setIfInBounds_toArray]
            try simp only [List.set_cons_succ]
            try simp only [List.set_cons_zero]
            refine wpAnyH_take (i := 16) (v := (.string (⟨#[115, 99, 97, 110, 32]⟩ ++ qt lo ++ ⟨#[32]⟩ ++ qt hi ++ ⟨#[32]⟩ ++ numS mo))) rfl (by kernel_rfl) (by kernel_rfl) (by kernel_rfl) (fun _ _ _ h => h) (Or.inl ⟨by rfl, ?_⟩) (by assumption) ?_
            · intro w hSw
              (try dsimp only at hSw)
              go_simp
              try omega
            try simp only [List.getElem_toArray]
            try simp only [List.getElem_cons_succ]
            try simp only [List.getElem_cons_zero]
            try simp only [Act.put]
            try simp only [List.setIfInBounds_toArray]
            try simp only [List.set_cons_succ]
            try simp only [List.set_cons_zero]
            refine wpAnyH_take (i := 17) (v := (.string (⟨#[115, 99, 97, 110, 32]⟩ ++ qt lo ++ ⟨#[32]⟩ ++ qt hi ++ ⟨#[32]⟩ ++ numS mo))) rfl (by kernel_rfl) (by kernel_rfl) (by kernel_rfl) (fun _ _ _ h => h) (Or.inl ⟨by rfl, ?_⟩) (by assumption) ?_
            · intro w hSw
              (try dsimp only at hSw)
              go_simp
              try omega
            try simp only [List.getElem_toArray]
            try simp only [List.getElem_cons_succ]
            try simp only [List.getElem_cons_zero]
            try simp only [Act.put]
            try simp only [List.setIfInBounds_toArray]
            try simp only [List.set_cons_succ]
            try simp only [List.set_cons_zero]
            refine wpAnyH_done (by kernel_rfl) ?_ _
            refine NoPanic.normal ?_
            go_wp2
            go_ret
            exact ⟨by rw [HV2.out]; rfl, B3.out⟩
        | true =>
          · skip
            have HV2 : Hid (clT 2 4 ky vl lo hi mo true = ⟨#[98, 97, 99, 107, 32]⟩ ++ qt lo ++ ⟨#[32]⟩ ++ qt hi ++ ⟨#[32]⟩ ++ numS mo) := by show _ = _; rw [HV.out]; rfl
            clear z6 z7 z8 z9 z10 z11
            go_enter Tryz.func35, Tryz.ntmps35
            go_wp2_with fail
            rw [HU.out]
            have c0 := K0.out.cell (j := 0) rfl
            have c1 := K0.out.cell (j := 1) rfl
            have c2 := K0.out.cell (j := 2) rfl
            have c3 := K0.out.cell (j := 3) rfl
            have c4 := K0.out.cell (j := 4) rfl
            have c5 := K0.out.cell (j := 5) rfl
            have c6 := K0.out.cell (j := 6) rfl
            have c7 := K0.out.cell (j := 7) rfl
            go_wp2_with fail
            refine (C1.out _).mono ?_
            rintro r w1 ⟨rfl, hb⟩
            have K1 := hid (K0.out.below hb)
            have B1 := hid (B0.out.trans (hb.mono B0.out.size))
            clear hb c0 c1 c2 c3 c4 c5 c6 c7 K0 B0
            have c0 := K1.out.cell (j := 0) rfl
            have c1 := K1.out.cell (j := 1) rfl
            have c2 := K1.out.cell (j := 2) rfl
            have c3 := K1.out.cell (j := 3) rfl
            have c4 := K1.out.cell (j := 4) rfl
            have c5 := K1.out.cell (j := 5) rfl
            have c6 := K1.out.cell (j := 6) rfl
            have c7 := K1.out.cell (j := 7) rfl
            have B2 := hid (B1.out.alloc B1.out.size (.cells #[.int .i64 4, .string ky, .string vl, .string lo, .string hi, .int .i64 mo, .bool true] 26))
            have A0 := hid (Bk.new w1 26 [.int .i64 4, .string ky, .string vl, .string lo, .string hi, .int .i64 mo, .bool true])
            have a0 := A0.out.cell (j := 0) rfl
            have a5 := A0.out.cell (j := 6) rfl
            clear B1 K1
            have B0 := B2
            clear B2
            go_wp2_with fail
            generalize w1.alloc (.cells #[.int .i64 4, .string ky, .string vl, .string lo, .string hi, .int .i64 mo, .bool true] 26) = V0 at *
            generalize w1.heap.size = gA at *
            clear a0 a5 c0 c1 c2 c3 c4 c5 c6 c7
            refine wp_region_noPanic ?_
            refine wp_region_held_drew (S := fun v => v.cell? ⟨gA, 1, none⟩ = some (.string ky) ∧ v.cell? ⟨gA, 2, none⟩ = some (.string vl) ∧ v.cell? ⟨gA, 3, none⟩ = some (.string lo) ∧ v.cell? ⟨gA, 4, none⟩ = some (.string hi) ∧ v.cell? ⟨gA, 5, none⟩ = some (.int .i64 mo)) (by kernel_rfl) (⟨(A0.out.below (below_drew _)).cell (j := 1) rfl, (A0.out.below (below_drew _)).cell (j := 2) rfl, (A0.out.below (below_drew _)).cell (j := 3) rfl, (A0.out.below (below_drew _)).cell (j := 4) rfl, (A0.out.below (below_drew _)).cell (j := 5) rfl⟩) (fun hHeld => ?_)
            simp only [List.size_toArray, List.length_cons, List.length_nil, Array.replicate_succ, Array.replicate_zero, Nat.reduceAdd, List.push_toArray, List.nil_append, List.cons_append]
            have BD := hid (B0.out.trans ((below_drew V0).mono B0.out.size))
            have AD := hid (A0.out.below (below_drew _))
            clear B0 A0
            generalize V0.drew = v0 at *
            have B0 := BD
            have A0 := AD
            clear BD AD
            refine wpAnyH_take (i := 0) (v := (.string ⟨#[98, 97, 99, 107, 32]⟩)) rfl (by kernel_rfl) (by kernel_rfl) (by kernel_rfl) (fun _ _ _ h => h) (Or.inl ⟨by rfl, ?_⟩) (by assumption) ?_
            · intro w hSw
              (try dsimp only at hSw)
              go_simp
            try simp only [List.getElem_toArray]
            try simp only [List.getElem_cons_succ]
            try simp only [List.getElem_cons_zero]
            try simp only [Act.put]
            try simp only [List.setIfInBounds_toArray]
            try simp only [List.set_cons_succ]
            try simp only [List.set_cons_zero]
            refine wpAnyH_take (i := 1) (v := (.pointer (some ⟨gA, 3, none⟩))) rfl (by kernel_rfl) (by kernel_rfl) (by kernel_rfl) (fun _ _ _ h => h) (Or.inl ⟨by rfl, ?_⟩) (by assumption) ?_
            · intro w hSw
              (try dsimp only at hSw)
              go_simp
            try simp only [List.getElem_toArray]
            try simp only [List.getElem_cons_succ]
            try simp only [List.getElem_cons_zero]
            try simp only [Act.put]
            try simp only [List.setIfInBounds_toArray]
            try simp only [List.set_cons_succ]
            try simp only [List.set_cons_zero]
            refine wpAnyH_take (i := 2) (v := (.pointer (some ⟨gA, 3, none⟩))) rfl (by kernel_rfl) (by kernel_rfl) (by kernel_rfl) (fun _ _ _ h => h) (Or.inl ⟨by rfl, ?_⟩) (by assumption) ?_
            · intro w hSw
              (try dsimp only at hSw)
              go_simp
            try simp only [List.getElem_toArray]
            try simp only [List.getElem_cons_succ]
            try simp only [List.getElem_cons_zero]
            try simp only [Act.put]
            try simp only [List.setIfInBounds_toArray]
            try simp only [List.set_cons_succ]
            try simp only [List.set_cons_zero]
            refine wpAnyH_take (i := 3) (v := (.string lo)) rfl (by kernel_rfl) (by kernel_rfl) (by kernel_rfl) (fun _ _ _ h => h) (Or.inl ⟨by rfl, ?_⟩) (by assumption) ?_
            · intro w hSw
              (try dsimp only at hSw)
              go_simp
            try simp only [List.getElem_toArray]
            try simp only [List.getElem_cons_succ]
            try simp only [List.getElem_cons_zero]
            try simp only [Act.put]
            try simp only [List.setIfInBounds_toArray]
            try simp only [List.set_cons_succ]
            try simp only [List.set_cons_zero]
            refine wpAnyH_take (i := 7) (v := (.pointer (some ⟨gA, 3, none⟩))) rfl (by kernel_rfl) (by kernel_rfl) (by kernel_rfl) (fun _ _ _ h => h) (Or.inl ⟨by rfl, ?_⟩) (by assumption) ?_
            · intro w hSw
              (try dsimp only at hSw)
              go_simp
            try simp only [List.getElem_toArray]
            try simp only [List.getElem_cons_succ]
            try simp only [List.getElem_cons_zero]
            try simp only [Act.put]
            try simp only [List.setIfInBounds_toArray]
            try simp only [List.set_cons_succ]
            try simp only [List.set_cons_zero]
            refine wpAnyH_take (i := 8) (v := (.pointer (some ⟨gA, 4, none⟩))) rfl (by kernel_rfl) (by kernel_rfl) (by kernel_rfl) (fun _ _ _ h => h) (Or.inl ⟨by rfl, ?_⟩) (by assumption) ?_
            · intro w hSw
              (try dsimp only at hSw)
              go_simp
            try simp only [List.getElem_toArray]
            try simp only [List.getElem_cons_succ]
            try simp only [List.getElem_cons_zero]
            try simp only [Act.put]
            try simp only [List.setIfInBounds_toArray]
            try simp only [List.set_cons_succ]
            try simp only [List.set_cons_zero]
            refine wpAnyH_take (i := 9) (v := (.string hi)) rfl (by kernel_rfl) (by kernel_rfl) (by kernel_rfl) (fun _ _ _ h => h) (Or.inl ⟨by rfl, ?_⟩) (by assumption) ?_
            · intro w hSw
              (try dsimp only at hSw)
              go_simp
            try simp only [List.getElem_toArray]
            try simp only [List.getElem_cons_succ]
            try simp only [List.getElem_cons_zero]
            try simp only [Act.put]
            try simp only [List.setIfInBounds_toArray]
            try simp only [List.set_cons_succ]
            try simp only [List.set_cons_zero]
            refine wpAnyH_take (i := 13) (v := (.pointer (some ⟨gA, 5, none⟩))) rfl (by kernel_rfl) (by kernel_rfl) (by kernel_rfl) (fun _ _ _ h => h) (Or.inl ⟨by rfl, ?_⟩) (by assumption) ?_
            · intro w hSw
              (try dsimp only at hSw)
              go_simp
            try simp only [List.getElem_toArray]
            try simp only [List.getElem_cons_succ]
            try simp only [List.getElem_cons_zero]
            try simp only [Act.put]
            try simp only [List.setIfInBounds_toArray]
            try simp only [List.set_cons_succ]
            try simp only [List.set_cons_zero]
            refine wpAnyH_take (i := 14) (v := (.int .i64 mo)) rfl (by kernel_rfl) (by kernel_rfl) (by kernel_rfl) (fun _ _ _ h => h) (Or.inl ⟨by rfl, ?_⟩) (by assumption) ?_
            · intro w hSw
              (try dsimp only at hSw)
              go_simp
            try simp only [List.getElem_toArray]
            try simp only [List.getElem_cons_succ]
            try simp only [List.getElem_cons_zero]
            try simp only [Act.put]
            try simp only [List.setIfInBounds_toArray]
            try simp only [List.set_cons_succ]
            try simp only [List.set_cons_zero]
            refine wpAnyH_ready (rs := [4]) (by kernel_rfl) (by simp) ?_
            refine AllReadyH.cons rfl (fun K1 hK => ?_) AllReadyH.nil
            go_simp
            refine (CQ.out lo _ HS.out.2.2.1).mono ?_
            rintro r v1 ⟨rfl, hb⟩
            go_wp2_with fail
            have A1 := hid (A0.out.below hb)
            have B1 := hid (B0.out.trans (hb.mono B0.out.size))
            clear hb A0 B0
            refine hK.out _ _ ?_ (fun hHeld => ?_)
            · exact ⟨A1.out.cell (j := 1) rfl, A1.out.cell (j := 2) rfl, A1.out.cell (j := 3) rfl, A1.out.cell (j := 4) rfl, A1.out.cell (j := 5) rfl⟩
            clear hK K1
            try simp only [List.getElem_toArray]
            try simp only [List.getElem_cons_succ]
            try simp only [List.getElem_cons_zero]
            try simp only [Act.put]
            try simp only [List.setIfInBounds_toArray]
            try simp only [List.set_cons_succ]
            try simp only [List.set_cons_zero]
            refine wpAnyH_take (i := 5) (v := (.string (⟨#[98, 97, 99, 107, 32]⟩ ++ qt lo))) rfl (by kernel_rfl) (by kernel_rfl) (by kernel_rfl) (fun _ _ _ h => h) (Or.inl ⟨by rfl, ?_⟩) (by assumption) ?_
            · intro w hSw
              (try dsimp only at hSw)
              go_simp
              try omega
            try simp only [List.getElem_toArray]
            try simp only [List.getElem_cons_succ]
            try simp only [List.getElem_cons_zero]
            try simp only [Act.put]
            try simp only [List.setIfInBounds_toArray]
            try simp only [List.set_cons_succ]
            try simp only [List.set_cons_zero]
            refine wpAnyH_take (i := 6) (v := (.string (⟨#[98, 97, 99, 107, 32]⟩ ++ qt lo ++ ⟨#[32]⟩))) rfl (by kernel_rfl) (by kernel_rfl) (by kernel_rfl) (fun _ _ _ h => h) (Or.inl ⟨by rfl, ?_⟩) (by assumption) ?_
            · intro w hSw
              (try dsimp only at hSw)
              go_simp
              try omega
            try simp only [List.getElem_toArray]
            try simp only [List.getElem_cons_succ]
            try simp only [List.getElem_cons_zero]
            try simp only [Act.put]
            try simp only [List.setIfInBounds_toArray]
            try simp only [List.set_cons_succ]
            try simp only [List.set_cons_zero]
            refine wpAnyH_ready (rs := [10]) (by kernel_rfl) (by simp) ?_
            refine AllReadyH.cons rfl (fun K1 hK => ?_) AllReadyH.nil
            go_simp
            refine (CQ.out hi _ HS.out.2.2.2).mono ?_
            rintro r v2 ⟨rfl, hb⟩
            go_wp2_with fail
            have A2 := hid (A1.out.below hb)
            have B2 := hid (B1.out.trans (hb.mono B1.out.size))
            clear hb A1 B1
            refine hK.out _ _ ?_ (fun hHeld => ?_)
            · exact ⟨A2.out.cell (j := 1) rfl, A2.out.cell (j := 2) rfl, A2.out.cell (j := 3) rfl, A2.out.cell (j := 4) rfl, A2.out.cell (j := 5) rfl⟩
            clear hK K1
            try simp only [List.getElem_toArray]
            try simp only [List.getElem_cons_succ]
            try simp only [List.getElem_cons_zero]
            try simp only [Act.put]
            try simp only [List.setIfInBounds_toArray]
            try simp only [List.set_cons_succ]
            try simp only [List.set_cons_zero]
            refine wpAnyH_take (i := 11) (v := (.string (⟨#[98, 97, 99, 107, 32]⟩ ++ qt lo ++ ⟨#[32]⟩ ++ qt hi))) rfl (by kernel_rfl) (by kernel_rfl) (by kernel_rfl) (fun _ _ _ h => h) (Or.inl ⟨by rfl, ?_⟩) (by assumption) ?_
            · intro w hSw
              (try dsimp only at hSw)
              go_simp
              try omega
            try simp only [List.getElem_toArray]
            try simp only [List.getElem_cons_succ]
            try simp only [List.getElem_cons_zero]
            try simp only [Act.put]
            try simp only [List.setIfInBounds_toArray]
            try simp only [List.set_cons_succ]
            try simp only [List.set_cons_zero]
            refine wpAnyH_take (i := 12) (v := (.string (⟨#[98, 97, 99, 107, 32]⟩ ++ qt lo ++ ⟨#[32]⟩ ++ qt hi ++ ⟨#[32]⟩))) rfl (by kernel_rfl) (by kernel_rfl) (by kernel_rfl) (fun _ _ _ h => h) (Or.inl ⟨by rfl, ?_⟩) (by assumption) ?_
            · intro w hSw
              (try dsimp only at hSw)
              go_simp
              try omega
            try simp only [List.getElem_toArray]
            try simp only [List.getElem_cons_succ]
            try simp only [List.getElem_cons_zero]
            try simp only [Act.put]
            try simp only [List.setIfInBounds_toArray]
            try simp only [List.set_cons_succ]
            try simp only [List.set_cons_zero]
            refine wpAnyH_ready (rs := [15]) (by kernel_rfl) (by simp) ?_
            refine AllReadyH.cons rfl (fun K1 hK => ?_) AllReadyH.nil
            go_simp
            refine (CN.out mo _).mono ?_
            rintro r v3 ⟨rfl, hb⟩
            go_wp2_with fail
            have A3 := hid (A2.out.below hb)
            have B3 := hid (B2.out.trans (hb.mono B2.out.size))
            clear hb A2 B2
            refine hK.out _ _ ?_ (fun hHeld => ?_)
            · exact ⟨A3.out.cell (j := 1) rfl, A3.out.cell (j := 2) rfl, A3.out.cell (j := 3) rfl, A3.out.cell (j := 4) rfl, A3.out.cell (j := 5) rfl⟩
            clear hK K1
            try simp only [List.getElem_toArray]
            try simp only [List.getElem_cons_succ]
            try simp only [List.getElem_cons_zero]
            try simp only [Act.put]
            try simp only [List.setIfInBounds_toArray]
            try simp only [List.set_cons_succ]
            try simp only [List.set_cons_zero]
            refine wpAnyH_take (i := 16) (v := (.string (⟨#[98, 97, 99, 107, 32]⟩ ++ qt lo ++ ⟨#[32]⟩ ++ qt hi ++ ⟨#[32]⟩ ++ numS mo))) rfl (by kernel_rfl) (by kernel_rfl) (by kernel_rfl) (fun _ _ _ h => h) (Or.inl ⟨by rfl, ?_⟩) (by assumption) ?_
            · intro w hSw
              (try dsimp only at hSw)
              go_simp
              try omega
            try simp only [List.getElem_toArray]
            try simp only [List.getElem_cons_succ]
            try simp only [List.getElem_cons_zero]
            try simp only [Act.put]
            try simp only [List.setIfInBounds_toArray]
            try simp only [List.set_cons_succ]
            try simp only [List.set_cons_zero]
            refine wpAnyH_take (i := 17) (v := (.string (⟨#[98, 97, 99, 107, 32]⟩ ++ qt lo ++ ⟨#[32]⟩ ++ qt hi ++ ⟨#[32]⟩ ++ numS mo))) rfl (by kernel_rfl) (by kernel_rfl) (by kernel_rfl) (fun _ _ _ h => h) (Or.inl ⟨by rfl, ?_⟩) (by assumption) ?_
            · intro w hSw
              (try dsimp only at hSw)
              go_simp
              try omega
            try simp only [List.getElem_toArray]
            try simp only [List.getElem_cons_succ]
            try simp only [List.getElem_cons_zero]
            try simp only [Act.put]
            try simp only [List.setIfInBounds_toArray]
            try simp only [List.set_cons_succ]
            try simp only [List.set_cons_zero]
            refine wpAnyH_done (by kernel_rfl) ?_ _
            refine NoPanic.normal ?_
            go_wp2
            go_ret
            exact ⟨by rw [HV2.out]; rfl, B3.out⟩
end Go.Proofs.YtjddkofpfmjojaaGreatDoor
/-
  StepText of the specification.
-/
namespace Go.Proofs.YtjddkofpfmjojaaGreatDoor
open Go.RowKit
set_option linter.unusedVariables false
theorem sw_size (k : Int) : (sw k).size ≤ 20 := by
  by_cases h : 0 ≤ k ∧ k < 10
  · have : k = 0 ∨ k = 1 ∨ k = 2 ∨ k = 3 ∨ k = 4 ∨ k = 5 ∨ k = 6 ∨ k = 7 ∨ k = 8 ∨ k = 9 := by omega
    rcases this with rfl | rfl | rfl | rfl | rfl | rfl | rfl | rfl | rfl | rfl <;> decide
  · rw [sw_no (by omega)]; decide
theorem noE_false {ws : List ByteArray} {x : ByteArray} (h : x ∈ ws) (hx : x = ByteArray.empty) : noE ws = false := by
  cases e : noE ws with
  | false => rfl
  | true => exact absurd hx (noE_mem e h)
theorem st_k (S : ST) (h : S.k < 1 ∨ 9 < S.k) : stT S = ⟨#[]⟩ := by
  refine stT_no2 (noE_false (x := sw S.k) (List.mem_cons_self ..) ?_)
  by_cases h0 : S.k = 0
  · rw [h0]; rfl
  · rw [sw_no (by omega)]; rfl
theorem st_a (S : ST) (h : ¬ (0 ≤ S.a ∧ S.a ≤ 1099511627775)) : stT S = ⟨#[]⟩ := by
  by_cases h5 : S.k = 5
  · refine stT_no1 ?_
    unfold stWr
    rw [h5, if_neg (by decide), if_neg (by decide)]
    have : ¬ S.a = 0 := by omega
    simp [this]
  · refine stT_no2 (noE_false (x := numS S.a) ?_ (numS_bad _ h))
    unfold stW
    rw [if_neg h5]
    simp
theorem st_b (S : ST) (h : ¬ (0 ≤ S.b ∧ S.b ≤ 1099511627775)) : stT S = ⟨#[]⟩ := by
  by_cases h7 : S.k = 7
  · refine stT_no2 (noE_false (x := numS S.b) ?_ (numS_bad _ h))
    unfold stW
    rw [h7, if_neg (show ¬ (7 : Int) = 1 by decide), if_pos rfl]
    simp
  · refine stT_no1 ?_
    have hb : ¬ S.b = 0 := by omega
    unfold stWr
    rw [if_neg h7]
    split <;> simp [hb]
theorem st_z (S : ST) (h1 : ¬ S.k = 1) (h : clZ S.kd S.ak S.ky S.vl S.lo S.hi S.mo S.bk = false) : stT S = ⟨#[]⟩ := by
  refine stT_no1 ?_
  unfold stWr
  rw [if_neg h1, h]
  split <;> simp
theorem st_bk (S : ST) (h7 : ¬ S.k = 7) (h : ¬ S.b = 0 ∨ ¬ S.kp = []) : stT S = ⟨#[]⟩ := by
  refine stT_no1 ?_
  unfold stWr
  rw [if_neg h7]
  rcases h with h | h
  · split <;> simp [h]
  · split <;> simp [h]
theorem st_5a (S : ST) (h5 : S.k = 5) (h : ¬ S.a = 0) : stT S = ⟨#[]⟩ := by
  refine stT_no1 ?_
  unfold stWr
  rw [h5, if_neg (by decide), if_neg (by decide)]
  simp [h]
theorem sw_ne {k : Int} (h1 : 1 ≤ k) (h9 : k ≤ 9) : sw k ≠ ByteArray.empty := by
  have : k = 1 ∨ k = 2 ∨ k = 3 ∨ k = 4 ∨ k = 5 ∨ k = 6 ∨ k = 7 ∨ k = 8 ∨ k = 9 := by omega
  rcases this with rfl | rfl | rfl | rfl | rfl | rfl | rfl | rfl | rfl <;> decide
theorem numS_ne {n : Int} (h : 0 ≤ n ∧ n ≤ 1099511627775) : numS n ≠ ByteArray.empty := fun e => (numS_zero n).1 e h
theorem noE_of {ws : List ByteArray} (h : ∀ x ∈ ws, x ≠ ByteArray.empty) : noE ws = true := List.all_eq_true.2 fun x hx => by simpa using h x hx
theorem isE_emp : isE ⟨#[]⟩ = true := decide_eq_true (wb_nil.2 rfl)
theorem akZ0 : akZ 0 ⟨#[]⟩ ⟨#[]⟩ ⟨#[]⟩ ⟨#[]⟩ 0 false = true := by unfold akZ; rw [isE_emp]; rfl
theorem clZ0 : clZ 0 0 ⟨#[]⟩ ⟨#[]⟩ ⟨#[]⟩ ⟨#[]⟩ 0 false = true := by unfold clZ; rw [akZ0]; rfl
theorem st_5 : stT ⟨5, 0, 0, [], 0, 0, ⟨#[]⟩, ⟨#[]⟩, ⟨#[]⟩, ⟨#[]⟩, 0, false⟩ = sw 5 := by
  have hw : stW ⟨5, 0, 0, [], 0, 0, ⟨#[]⟩, ⟨#[]⟩, ⟨#[]⟩, ⟨#[]⟩, 0, false⟩ = [sw 5] := rfl
  rw [stT_is (by rw [wr_e (by decide) (by decide), clZ0]; rfl) (by rw [hw]; decide), hw]
  rfl
theorem st_e {n : Nat} {a : Int} (h1 : ¬ (n : Int) = 1) (h7 : ¬ (n : Int) = 7) (h5 : ¬ (n : Int) = 5) (hn1 : 1 ≤ (n : Int)) (hn9 : (n : Int) ≤ 9) (ha : 0 ≤ a ∧ a ≤ 1099511627775) : stT ⟨n, a, 0, [], 0, 0, ⟨#[]⟩, ⟨#[]⟩, ⟨#[]⟩, ⟨#[]⟩, 0, false⟩ = sw n ++ ⟨#[32]⟩ ++ numS a := by
  have hw : stW ⟨n, a, 0, [], 0, 0, ⟨#[]⟩, ⟨#[]⟩, ⟨#[]⟩, ⟨#[]⟩, 0, false⟩ = [sw n, numS a] := by
    unfold stW
    dsimp only
    rw [if_neg h5, if_neg h1, if_neg h7]
    rfl
  rw [stT_is (by rw [wr_e h1 h7, clZ0]; simp [h5]) (noE_of ?_), hw]
  · rfl
  · rw [hw]
    intro x hx
    simp only [List.mem_cons, List.not_mem_nil, or_false] at hx
    rcases hx with rfl | rfl
    · exact sw_ne hn1 hn9
    · exact numS_ne ha
theorem st_7 {a b : Int} {kp : List Int} (ha : 0 ≤ a ∧ a ≤ 1099511627775) (hb : 0 ≤ b ∧ b ≤ 1099511627775) (hk : ∀ y ∈ kp, 0 ≤ y ∧ y ≤ 1099511627775) : stT ⟨7, a, b, kp, 0, 0, ⟨#[]⟩, ⟨#[]⟩, ⟨#[]⟩, ⟨#[]⟩, 0, false⟩ = (kp.map numS).foldl (fun o y => o ++ blk ++ y) (sw 7 ++ ⟨#[32]⟩ ++ numS a ++ ⟨#[32]⟩ ++ numS b) := by
  have hw : stW ⟨7, a, b, kp, 0, 0, ⟨#[]⟩, ⟨#[]⟩, ⟨#[]⟩, ⟨#[]⟩, 0, false⟩ = sw 7 :: numS a :: numS b :: kp.map numS := rfl
  rw [stT_is (by rw [wr_7]; exact clZ0) (noE_of ?_), hw]
  · rfl
  · rw [hw]
    intro x hx
    simp only [List.mem_cons, List.mem_map] at hx
    rcases hx with rfl | rfl | rfl | ⟨y, hy, rfl⟩
    · exact sw_ne (by decide) (by decide)
    · exact numS_ne ha
    · exact numS_ne hb
    · exact numS_ne (hk y hy)
theorem st_7no {a b : Int} {kp : List Int} {y : Int} (hm : y ∈ kp) (hy : ¬ (0 ≤ y ∧ y ≤ 1099511627775)) : stT ⟨7, a, b, kp, 0, 0, ⟨#[]⟩, ⟨#[]⟩, ⟨#[]⟩, ⟨#[]⟩, 0, false⟩ = ⟨#[]⟩ := by
  refine stT_no2 (noE_false (x := numS y) ?_ (numS_bad _ hy))
  show _ ∈ sw 7 :: numS a :: numS b :: kp.map numS
  simp only [List.mem_cons, List.mem_map]
  exact .inr (.inr (.inr ⟨y, hm, rfl⟩))
theorem st_1 {a kd ak : Int} {ky vl lo hi : ByteArray} {mo : Int} {bk : Bool} (ha : 0 ≤ a ∧ a ≤ 1099511627775) (hc : clOk kd ak ky vl lo hi mo bk = true) : stT ⟨1, a, 0, [], kd, ak, ky, vl, lo, hi, mo, bk⟩ = sw 1 ++ ⟨#[32]⟩ ++ numS a ++ ⟨#[32]⟩ ++ clT kd ak ky vl lo hi mo bk := by
  have hw : stW ⟨1, a, 0, [], kd, ak, ky, vl, lo, hi, mo, bk⟩ = [sw 1, numS a] ++ clW kd ak ky vl lo hi mo bk := rfl
  have hcw := clW_ne hc
  rw [stT_is (by rw [wr_1, hc]; rfl) (noE_of ?_), hw, joinW_app (by simp) ?_, clT_yes hc]
  · rfl
  · intro e; unfold clW akW at e; revert e; split <;> (try split) <;> (try split) <;> (try split) <;> simp
  · rw [hw]
    intro x hx
    rcases List.mem_append.1 hx with hx | hx
    · simp only [List.mem_cons, List.not_mem_nil, or_false] at hx
      rcases hx with rfl | rfl
      · exact sw_ne (by decide) (by decide)
      · exact numS_ne ha
    · exact noE_mem hcw hx
theorem joinW_pos {ws : List ByteArray} (h : ws ≠ []) (k : noE ws = true) : 0 < (joinW ws).size := by
  cases ws with
  | nil => exact absurd rfl h
  | cons x r =>
    rw [joinW_len]
    have : x ≠ ByteArray.empty := noE_mem k (List.mem_cons_self ..)
    have h2 : x.size ≠ 0 := fun e => this (ByteArray.size_eq_zero_iff.1 e)
    omega
theorem clT_ne {kd ak : Int} {ky vl lo hi : ByteArray} {mo : Int} {bk : Bool} (hc : clOk kd ak ky vl lo hi mo bk = true) : ¬ (clT kd ak ky vl lo hi mo bk).size = 0 := by
  rw [clT_yes hc]
  have := joinW_pos (ws := clW kd ak ky vl lo hi mo bk) (by intro e; unfold clW akW at e; revert e; split <;> (try split) <;> (try split) <;> (try split) <;> simp) (clW_ne hc)
  omega
theorem sum_le {c : Nat} : ∀ (l : List Nat), (∀ x ∈ l, x ≤ c) → l.sum ≤ c * l.length
  | [], _ => by simp
  | x :: l, h => by
    have h1 := sum_le l (fun y hy => h y (List.mem_cons_of_mem _ hy))
    have h2 := h x (List.mem_cons_self ..)
    simp only [List.sum_cons, List.length_cons, Nat.mul_add] at h1 ⊢
    omega
theorem clT_size (kd ak : Int) (ky vl lo hi : ByteArray) (mo : Int) (bk : Bool) : (clT kd ak ky vl lo hi mo bk).size ≤ 8388608 := by
  unfold clT
  split
  · have hz := stW_size ⟨1, 0, 0, [], kd, ak, ky, vl, lo, hi, mo, bk⟩
    have hm : ∀ x ∈ clW kd ak ky vl lo hi mo bk, x.size ≤ 1048576 := fun x hx => hz x (by show _ ∈ [sw 1, numS 0] ++ clW kd ak ky vl lo hi mo bk; exact List.mem_append.2 (.inr hx))
    have hl := clW_len kd ak ky vl lo hi mo bk
    generalize clW kd ak ky vl lo hi mo bk = ws at *
    cases ws with
    | nil => decide
    | cons x r =>
      rw [joinW_len]
      have h1 := hm x (List.mem_cons_self ..)
      have h2 := sum_le (c := 1048577) (r.map fun y => y.size + 1) (fun y hy => by
        obtain ⟨z, hz, rfl⟩ := List.mem_map.1 hy
        have := hm z (List.mem_cons_of_mem _ hz)
        omega)
      simp only [List.length_map, List.length_cons] at h2 hl
      omega
  · decide
set_option maxHeartbeats 16000000 in
set_option maxRecDepth 20000 in
theorem specStepText_any (S : Nat → Prop) (k a b : Int) (ka : Option Addr) (kn kc : Nat) (kp : List Int) (kd ak : Int) (ky vl lo hi : ByteArray) (mo : Int) (bk : Bool) (w : World) (hp : Ir w S (.slice ka kn kc) kp) (hn : kn ≤ 1048576) :
    Calls Tryz.prog 19 #[.agg #[.int .i64 k, .int .i64 a, .int .i64 b, .slice ka kn kc, .int .i64 kd, .int .i64 ak, .string ky, .string vl, .string lo, .string hi, .int .i64 mo, .bool bk]] w fun e w' => e = .returned (.string (stT ⟨k, a, b, kp, kd, ak, ky, vl, lo, hi, mo, bk⟩)) ∧ Below w.heap.size w w' := by
  have K0 := hid ((Bk.new w 30 [.int .i64 k, .int .i64 a, .int .i64 b, .slice ka kn kc, .int .i64 kd, .int .i64 ak, .string ky, .string vl, .string lo, .string hi, .int .i64 mo, .bool bk]).alloc (.cells #[.int .i64 0, .string ⟨#[]⟩, .string ⟨#[]⟩, .string ⟨#[]⟩, .string ⟨#[]⟩, .int .i64 0, .bool false] 26))
  have N0 := hid (Bk.new (w.alloc (.cells #[.int .i64 k, .int .i64 a, .int .i64 b, .slice ka kn kc, .int .i64 kd, .int .i64 ak, .string ky, .string vl, .string lo, .string hi, .int .i64 mo, .bool bk] 30)) 26 [.int .i64 0, .string ⟨#[]⟩, .string ⟨#[]⟩, .string ⟨#[]⟩, .string ⟨#[]⟩, .int .i64 0, .bool false])
  rw [show (w.alloc (.cells #[.int .i64 k, .int .i64 a, .int .i64 b, .slice ka kn kc, .int .i64 kd, .int .i64 ak, .string ky, .string vl, .string lo, .string hi, .int .i64 mo, .bool bk] 30)).heap.size = w.heap.size + 1 by simp] at N0
  have B0 : Hid (Below w.heap.size w ((w.alloc (.cells #[.int .i64 k, .int .i64 a, .int .i64 b, .slice ka kn kc, .int .i64 kd, .int .i64 ak, .string ky, .string vl, .string lo, .string hi, .int .i64 mo, .bool bk] 30)).alloc (.cells #[.int .i64 0, .string ⟨#[]⟩, .string ⟨#[]⟩, .string ⟨#[]⟩, .string ⟨#[]⟩, .int .i64 0, .bool false] 26))) := below_new (below_new (Below.refl _ _))
  have H0 := hid (hp.below B0.out)
  have HBW0 : Hid (∀ {v : World}, Below ((w.alloc (.cells #[.int .i64 k, .int .i64 a, .int .i64 b, .slice ka kn kc, .int .i64 kd, .int .i64 ak, .string ky, .string vl, .string lo, .string hi, .int .i64 mo, .bool bk] 30)).alloc (.cells #[.int .i64 0, .string ⟨#[]⟩, .string ⟨#[]⟩, .string ⟨#[]⟩, .string ⟨#[]⟩, .int .i64 0, .bool false] 26)).heap.size ((w.alloc (.cells #[.int .i64 k, .int .i64 a, .int .i64 b, .slice ka kn kc, .int .i64 kd, .int .i64 ak, .string ky, .string vl, .string lo, .string hi, .int .i64 mo, .bool bk] 30)).alloc (.cells #[.int .i64 0, .string ⟨#[]⟩, .string ⟨#[]⟩, .string ⟨#[]⟩, .string ⟨#[]⟩, .int .i64 0, .bool false] 26)) v → Below w.heap.size w v) := fun hb => B0.out.trans (hb.mono B0.out.size)
  have KN : Hid (kn = kp.length) := (Rw.len hp).1
  have CW := hid (fun w => l14Words_any w)
  have CN := hid (fun n w => specNumText_any n w)
  have CC := hid (fun w => l14Call_any kd ak ky vl lo hi mo bk w)
  have HN := hid hn
  clear hp
  generalize hU : (w.alloc (.cells #[.int .i64 k, .int .i64 a, .int .i64 b, .slice ka kn kc, .int .i64 kd, .int .i64 ak, .string ky, .string vl, .string lo, .string hi, .int .i64 mo, .bool bk] 30)).alloc (.cells #[.int .i64 0, .string ⟨#[]⟩, .string ⟨#[]⟩, .string ⟨#[]⟩, .string ⟨#[]⟩, .int .i64 0, .bool false] 26) = U at *
  have HU := hid hU
  clear hU
  by_cases hk : k < 1
  · have HV := hid (st_k ⟨k, a, b, kp, kd, ak, ky, vl, lo, hi, mo, bk⟩ (.inl hk))
    go_enter Tryz.func19, Tryz.ntmps19
    go_wp2_with fail
    rw [HU.out]
    have c0 := K0.out.cell (j := 0) rfl
    have c1 := K0.out.cell (j := 1) rfl
    have c2 := K0.out.cell (j := 2) rfl
    have c3 := K0.out.cell (j := 3) rfl
    have c4 := K0.out.cell (j := 4) rfl
    have c5 := K0.out.cell (j := 5) rfl
    have c6 := K0.out.cell (j := 6) rfl
    have c7 := K0.out.cell (j := 7) rfl
    have c8 := K0.out.cell (j := 8) rfl
    have c9 := K0.out.cell (j := 9) rfl
    have c10 := K0.out.cell (j := 10) rfl
    have c11 := K0.out.cell (j := 11) rfl
    have n0 := N0.out.cell (j := 0) rfl
    have n1 := N0.out.cell (j := 1) rfl
    have n2 := N0.out.cell (j := 2) rfl
    have n3 := N0.out.cell (j := 3) rfl
    have n4 := N0.out.cell (j := 4) rfl
    have n5 := N0.out.cell (j := 5) rfl
    have n6 := N0.out.cell (j := 6) rfl
    go_wp2
    go_ret
    exact ⟨by rw [HV.out]; rfl, B0.out⟩
  by_cases hk9 : 9 < k
  · have HV := hid (st_k ⟨k, a, b, kp, kd, ak, ky, vl, lo, hi, mo, bk⟩ (.inr hk9))
    go_enter Tryz.func19, Tryz.ntmps19
    go_wp2_with fail
    rw [HU.out]
    have c0 := K0.out.cell (j := 0) rfl
    have c1 := K0.out.cell (j := 1) rfl
    have c2 := K0.out.cell (j := 2) rfl
    have c3 := K0.out.cell (j := 3) rfl
    have c4 := K0.out.cell (j := 4) rfl
    have c5 := K0.out.cell (j := 5) rfl
    have c6 := K0.out.cell (j := 6) rfl
    have c7 := K0.out.cell (j := 7) rfl
    have c8 := K0.out.cell (j := 8) rfl
    have c9 := K0.out.cell (j := 9) rfl
    have c10 := K0.out.cell (j := 10) rfl
    have c11 := K0.out.cell (j := 11) rfl
    have n0 := N0.out.cell (j := 0) rfl
    have n1 := N0.out.cell (j := 1) rfl
    have n2 := N0.out.cell (j := 2) rfl
    have n3 := N0.out.cell (j := 3) rfl
    have n4 := N0.out.cell (j := 4) rfl
    have n5 := N0.out.cell (j := 5) rfl
    have n6 := N0.out.cell (j := 6) rfl
    go_wp2
    go_ret
    exact ⟨by rw [HV.out]; rfl, B0.out⟩
  by_cases ha : 0 ≤ a ∧ a ≤ 1099511627775
  case neg =>
    have HV := hid (st_a ⟨k, a, b, kp, kd, ak, ky, vl, lo, hi, mo, bk⟩ ha)
    have HA0 := hid ha
    clear ha
    go_enter Tryz.func19, Tryz.ntmps19
    go_wp2_with fail
    rw [HU.out]
    have c0 := K0.out.cell (j := 0) rfl
    have c1 := K0.out.cell (j := 1) rfl
    have c2 := K0.out.cell (j := 2) rfl
    have c3 := K0.out.cell (j := 3) rfl
    have c4 := K0.out.cell (j := 4) rfl
    have c5 := K0.out.cell (j := 5) rfl
    have c6 := K0.out.cell (j := 6) rfl
    have c7 := K0.out.cell (j := 7) rfl
    have c8 := K0.out.cell (j := 8) rfl
    have c9 := K0.out.cell (j := 9) rfl
    have c10 := K0.out.cell (j := 10) rfl
    have c11 := K0.out.cell (j := 11) rfl
    have n0 := N0.out.cell (j := 0) rfl
    have n1 := N0.out.cell (j := 1) rfl
    have n2 := N0.out.cell (j := 2) rfl
    have n3 := N0.out.cell (j := 3) rfl
    have n4 := N0.out.cell (j := 4) rfl
    have n5 := N0.out.cell (j := 5) rfl
    have n6 := N0.out.cell (j := 6) rfl
    go_wp2_with fail
    refine (specNum_any a _ false (decide_eq_false HA0.out).symm).mono ?_
    rintro e w1 ⟨rfl, rfl⟩
    go_wp2
    go_ret
    exact ⟨by rw [HV.out]; rfl, B0.out⟩
  have HA0 := hid ha
  by_cases hb : 0 ≤ b ∧ b ≤ 1099511627775
  case neg =>
    have HV := hid (st_b ⟨k, a, b, kp, kd, ak, ky, vl, lo, hi, mo, bk⟩ hb)
    have HB0 := hid hb
    clear hb
    go_enter Tryz.func19, Tryz.ntmps19
    go_wp2_with fail
    rw [HU.out]
    have c0 := K0.out.cell (j := 0) rfl
    have c1 := K0.out.cell (j := 1) rfl
    have c2 := K0.out.cell (j := 2) rfl
    have c3 := K0.out.cell (j := 3) rfl
    have c4 := K0.out.cell (j := 4) rfl
    have c5 := K0.out.cell (j := 5) rfl
    have c6 := K0.out.cell (j := 6) rfl
    have c7 := K0.out.cell (j := 7) rfl
    have c8 := K0.out.cell (j := 8) rfl
    have c9 := K0.out.cell (j := 9) rfl
    have c10 := K0.out.cell (j := 10) rfl
    have c11 := K0.out.cell (j := 11) rfl
    have n0 := N0.out.cell (j := 0) rfl
    have n1 := N0.out.cell (j := 1) rfl
    have n2 := N0.out.cell (j := 2) rfl
    have n3 := N0.out.cell (j := 3) rfl
    have n4 := N0.out.cell (j := 4) rfl
    have n5 := N0.out.cell (j := 5) rfl
    have n6 := N0.out.cell (j := 6) rfl
    go_wp2_with fail
    refine (specNum_any a _ true (decide_eq_true HA0.out).symm).mono ?_
    rintro e w1 ⟨rfl, rfl⟩
    go_wp2_with fail
    refine (specNum_any b _ false (decide_eq_false HB0.out).symm).mono ?_
    rintro e w1 ⟨rfl, rfl⟩
    go_wp2
    go_ret
    exact ⟨by rw [HV.out]; rfl, B0.out⟩
  have HB0 := hid hb
  by_cases h1 : k = 1
  · subst h1
    by_cases hb0 : b = 0
    case neg =>
      have HV := hid (st_bk ⟨1, a, b, kp, kd, ak, ky, vl, lo, hi, mo, bk⟩ (show ¬ (1 : Int) = 7 by decide) (.inl hb0))
      go_enter Tryz.func19, Tryz.ntmps19
      go_wp2_with fail
      rw [HU.out]
      have c0 := K0.out.cell (j := 0) rfl
      have c1 := K0.out.cell (j := 1) rfl
      have c2 := K0.out.cell (j := 2) rfl
      have c3 := K0.out.cell (j := 3) rfl
      have c4 := K0.out.cell (j := 4) rfl
      have c5 := K0.out.cell (j := 5) rfl
      have c6 := K0.out.cell (j := 6) rfl
      have c7 := K0.out.cell (j := 7) rfl
      have c8 := K0.out.cell (j := 8) rfl
      have c9 := K0.out.cell (j := 9) rfl
      have c10 := K0.out.cell (j := 10) rfl
      have c11 := K0.out.cell (j := 11) rfl
      have n0 := N0.out.cell (j := 0) rfl
      have n1 := N0.out.cell (j := 1) rfl
      have n2 := N0.out.cell (j := 2) rfl
      have n3 := N0.out.cell (j := 3) rfl
      have n4 := N0.out.cell (j := 4) rfl
      have n5 := N0.out.cell (j := 5) rfl
      have n6 := N0.out.cell (j := 6) rfl
      go_wp2_with fail
      refine (specNum_any a _ true (by simp; try omega)).mono ?_
      rintro e w1 ⟨rfl, rfl⟩
      go_wp2_with fail
      refine (specNum_any b _ true (by simp; try omega)).mono ?_
      rintro e w1 ⟨rfl, rfl⟩
      go_wp2
      go_ret
      exact ⟨by rw [HV.out]; rfl, B0.out⟩
    subst hb0
    by_cases hk0 : kn = 0
    case neg =>
      have HV := hid (st_bk ⟨1, a, 0, kp, kd, ak, ky, vl, lo, hi, mo, bk⟩ (show ¬ (1 : Int) = 7 by decide) (.inr (fun e => hk0 (by have e' : kp = [] := e; rw [KN.out, e']; rfl))))
      have hk1 : (0 : Int) < (kn : Int) := by omega
      go_enter Tryz.func19, Tryz.ntmps19
      go_wp2_with fail
      rw [HU.out]
      have c0 := K0.out.cell (j := 0) rfl
      have c1 := K0.out.cell (j := 1) rfl
      have c2 := K0.out.cell (j := 2) rfl
      have c3 := K0.out.cell (j := 3) rfl
      have c4 := K0.out.cell (j := 4) rfl
      have c5 := K0.out.cell (j := 5) rfl
      have c6 := K0.out.cell (j := 6) rfl
      have c7 := K0.out.cell (j := 7) rfl
      have c8 := K0.out.cell (j := 8) rfl
      have c9 := K0.out.cell (j := 9) rfl
      have c10 := K0.out.cell (j := 10) rfl
      have c11 := K0.out.cell (j := 11) rfl
      have n0 := N0.out.cell (j := 0) rfl
      have n1 := N0.out.cell (j := 1) rfl
      have n2 := N0.out.cell (j := 2) rfl
      have n3 := N0.out.cell (j := 3) rfl
      have n4 := N0.out.cell (j := 4) rfl
      have n5 := N0.out.cell (j := 5) rfl
      have n6 := N0.out.cell (j := 6) rfl
      go_wp2_with fail
      refine (specNum_any a _ true (by simp; try omega)).mono ?_
      rintro e w1 ⟨rfl, rfl⟩
      go_wp2_with fail
      refine (specNum_any 0 _ true (by simp; try omega)).mono ?_
      rintro e w1 ⟨rfl, rfl⟩
      go_wp2
      go_ret
      exact ⟨by rw [HV.out]; rfl, B0.out⟩
    obtain rfl : kp = [] := List.length_eq_zero_iff.1 (by rw [← KN.out]; exact hk0)
    subst hk0
    go_enter Tryz.func19, Tryz.ntmps19
    go_wp2_with fail
    rw [HU.out]
    have c0 := K0.out.cell (j := 0) rfl
    have c1 := K0.out.cell (j := 1) rfl
    have c2 := K0.out.cell (j := 2) rfl
    have c3 := K0.out.cell (j := 3) rfl
    have c4 := K0.out.cell (j := 4) rfl
    have c5 := K0.out.cell (j := 5) rfl
    have c6 := K0.out.cell (j := 6) rfl
    have c7 := K0.out.cell (j := 7) rfl
    have c8 := K0.out.cell (j := 8) rfl
    have c9 := K0.out.cell (j := 9) rfl
    have c10 := K0.out.cell (j := 10) rfl
    have c11 := K0.out.cell (j := 11) rfl
    have n0 := N0.out.cell (j := 0) rfl
    have n1 := N0.out.cell (j := 1) rfl
    have n2 := N0.out.cell (j := 2) rfl
    have n3 := N0.out.cell (j := 3) rfl
    have n4 := N0.out.cell (j := 4) rfl
    have n5 := N0.out.cell (j := 5) rfl
    have n6 := N0.out.cell (j := 6) rfl
    go_wp2_with fail
    refine (specNum_any a _ true (by simp; try omega)).mono ?_
    rintro e w1 ⟨rfl, rfl⟩
    go_wp2_with fail
    refine (specNum_any 0 _ true (by simp; try omega)).mono ?_
    rintro e w1 ⟨rfl, rfl⟩
    go_wp2_with fail
    clear c0 c1 c2 c3 c4 c5 c6 c7 c8 c9 c10 c11 n0 n1 n2 n3 n4 n5 n6
    refine wp_region_noPanic ?_
    refine wp_region_held_drew (S := fun v => v.cell? ⟨w.heap.size, 0, none⟩ = some (.int .i64 1)) (by kernel_rfl) ((K0.out.below (below_drew _)).cell (j := 0) rfl) (fun hHeld => ?_)
    simp only [List.size_toArray, List.length_cons, List.length_nil, Array.replicate_succ, Array.replicate_zero, Nat.reduceAdd, List.push_toArray, List.nil_append, List.cons_append]
    refine wpAnyH_take (i := 1) (v := (.pointer (some ⟨w.heap.size, 0, none⟩))) rfl (by kernel_rfl) (by kernel_rfl) (by kernel_rfl) (fun _ _ _ h => h) (Or.inl ⟨by rfl, ?_⟩) (by assumption) ?_
    · intro w hSw
      (try dsimp only at hSw)
      go_simp
    try simp only [List.getElem_toArray]
    try simp only [List.getElem_cons_succ]
    try simp only [List.getElem_cons_zero]
    try simp only [Act.put]
    try simp only [List.setIfInBounds_toArray]
    try simp only [List.set_cons_succ]
    try simp only [List.set_cons_zero]
    refine wpAnyH_take (i := 2) (v := (.int .i64 1)) rfl (by kernel_rfl) (by kernel_rfl) (by kernel_rfl) (fun _ _ _ h => h) (Or.inl ⟨by rfl, ?_⟩) (by assumption) ?_
    · intro w hSw
      (try dsimp only at hSw)
      go_simp
    try simp only [List.getElem_toArray]
    try simp only [List.getElem_cons_succ]
    try simp only [List.getElem_cons_zero]
    try simp only [Act.put]
    try simp only [List.setIfInBounds_toArray]
    try simp only [List.set_cons_succ]
    try simp only [List.set_cons_zero]
    have BD : Hid (Below U.heap.size U U.drew) := below_drew _
    generalize U.drew = v0 at *
    refine wpAnyH_ready (rs := [0]) (by kernel_rfl) (by simp) ?_
    refine AllReadyH.cons rfl (fun K1 hK => ?_) AllReadyH.nil
    go_simp
    refine (CW.out _).mono ?_
    rintro r v1 ⟨rfl, hk, hb⟩
    go_wp2_with fail
    have R1 := hid hk
    have BU1 := hid (BD.out.trans (hb.mono BD.out.size))
    clear hk hb BD
    refine hK.out _ _ ?_ (fun hHeld => ?_)
    · exact (K0.out.below BU1.out).cell (j := 0) rfl
    clear hK K1
    try simp only [List.getElem_toArray]
    try simp only [List.getElem_cons_succ]
    try simp only [List.getElem_cons_zero]
    try simp only [Act.put]
    try simp only [List.setIfInBounds_toArray]
    try simp only [List.set_cons_succ]
    try simp only [List.set_cons_zero]
    refine wpAnyH_take (i := 3) (v := (.pointer (some ⟨v0.heap.size, 1, none⟩))) rfl (by kernel_rfl) (by kernel_rfl) (by kernel_rfl) (fun _ _ _ h => h) (Or.inl ⟨by rfl, ?_⟩) (by assumption) ?_
    · intro w hSw
      (try dsimp only at hSw)
      go_simp
      all_goals (try omega)
    try simp only [List.getElem_toArray]
    try simp only [List.getElem_cons_succ]
    try simp only [List.getElem_cons_zero]
    try simp only [Act.put]
    try simp only [List.setIfInBounds_toArray]
    try simp only [List.set_cons_succ]
    try simp only [List.set_cons_zero]
    refine wpAnyH_ready (rs := [4]) (by kernel_rfl) (by simp) ?_
    refine AllReadyH.cons rfl (fun K1 hK => ?_) AllReadyH.nil
    have t0 : v1.cell? ⟨v0.heap.size, 1, none⟩ = some (.string (sw 1)) := R1.out.cell (j := 1) rfl
    go_simp
    try go_wp2_with fail
    refine hK.out _ _ ?_ (fun hHeld => ?_)
    · exact (K0.out.below BU1.out).cell (j := 0) rfl
    clear hK K1
    try simp only [List.getElem_toArray]
    try simp only [List.getElem_cons_succ]
    try simp only [List.getElem_cons_zero]
    try simp only [Act.put]
    try simp only [List.setIfInBounds_toArray]
    try simp only [List.set_cons_succ]
    try simp only [List.set_cons_zero]
    refine wpAnyH_take (i := 5) (v := (.string (sw 1))) rfl (by kernel_rfl) (by kernel_rfl) (by kernel_rfl) (fun _ _ _ h => h) (Or.inl ⟨by rfl, ?_⟩) (by assumption) ?_
    · intro w hSw
      (try dsimp only at hSw)
      go_simp
    try simp only [List.getElem_toArray]
    try simp only [List.getElem_cons_succ]
    try simp only [List.getElem_cons_zero]
    try simp only [Act.put]
    try simp only [List.setIfInBounds_toArray]
    try simp only [List.set_cons_succ]
    try simp only [List.set_cons_zero]
    refine wpAnyH_done (by kernel_rfl) ?_ _
    refine NoPanic.normal ?_
    clear t0 R1
    generalize v0.heap.size = h0 at *
    have sz0 := sw_size 1
    have sb : (⟨#[32]⟩ : ByteArray).size = 1 := rfl
    have c0 := (K0.out.below BU1.out).cell (j := 0) rfl
    have c1 := (K0.out.below BU1.out).cell (j := 1) rfl
    have c2 := (K0.out.below BU1.out).cell (j := 2) rfl
    have c3 := (K0.out.below BU1.out).cell (j := 3) rfl
    have c4 := (K0.out.below BU1.out).cell (j := 4) rfl
    have c5 := (K0.out.below BU1.out).cell (j := 5) rfl
    have c6 := (K0.out.below BU1.out).cell (j := 6) rfl
    have c7 := (K0.out.below BU1.out).cell (j := 7) rfl
    have c8 := (K0.out.below BU1.out).cell (j := 8) rfl
    have c9 := (K0.out.below BU1.out).cell (j := 9) rfl
    have c10 := (K0.out.below BU1.out).cell (j := 10) rfl
    have c11 := (K0.out.below BU1.out).cell (j := 11) rfl
    go_wp2_with fail
    refine (CN.out a _).mono ?_
    rintro r v2 ⟨rfl, hb⟩
    have BU2 := hid (BU1.out.trans (hb.mono BU1.out.size))
    clear hb c0 c1 c2 c3 c4 c5 c6 c7 c8 c9 c10 c11
    have sz2 := numS_size a
    have q4 : ¬ (9223372036854775807 < (sw 1 : ByteArray).size + (⟨#[32]⟩ : ByteArray).size) := by simp only [sb]; omega
    have q5 : ¬ (9223372036854775807 < (sw 1 ++ ⟨#[32]⟩ : ByteArray).size + (numS a).size) := by simp only [ByteArray.size_append, sb]; omega
    have c0 := (K0.out.below BU2.out).cell (j := 0) rfl
    have c1 := (K0.out.below BU2.out).cell (j := 1) rfl
    have c2 := (K0.out.below BU2.out).cell (j := 2) rfl
    have c3 := (K0.out.below BU2.out).cell (j := 3) rfl
    have c4 := (K0.out.below BU2.out).cell (j := 4) rfl
    have c5 := (K0.out.below BU2.out).cell (j := 5) rfl
    have c6 := (K0.out.below BU2.out).cell (j := 6) rfl
    have c7 := (K0.out.below BU2.out).cell (j := 7) rfl
    have c8 := (K0.out.below BU2.out).cell (j := 8) rfl
    have c9 := (K0.out.below BU2.out).cell (j := 9) rfl
    have c10 := (K0.out.below BU2.out).cell (j := 10) rfl
    have c11 := (K0.out.below BU2.out).cell (j := 11) rfl
    go_wp2_with fail
    clear c0 c1 c2 c3 c4 c5 c6 c7 c8 c9 c10 c11
    go_loopw [4, 6, 97] (fun x _ i v => x = .string (sw 1 ++ ⟨#[32]⟩ ++ numS a) ∧ i = .int .i64 0 ∧ Hid (Below U.heap.size U v)) (fun _ _ _ _ => 0)
    case atStart => exact ⟨rfl, rfl, BU2.out⟩
    case round =>
      obtain ⟨rfl, rfl, HB⟩ := hrel
      have HBW := hid (HBW0.out HB.out)
      have c0 := (K0.out.below HB.out).cell (j := 0) rfl
      have c1 := (K0.out.below HB.out).cell (j := 1) rfl
      have c2 := (K0.out.below HB.out).cell (j := 2) rfl
      have c3 := (K0.out.below HB.out).cell (j := 3) rfl
      have c4 := (K0.out.below HB.out).cell (j := 4) rfl
      have c5 := (K0.out.below HB.out).cell (j := 5) rfl
      have c6 := (K0.out.below HB.out).cell (j := 6) rfl
      have c7 := (K0.out.below HB.out).cell (j := 7) rfl
      have c8 := (K0.out.below HB.out).cell (j := 8) rfl
      have c9 := (K0.out.below HB.out).cell (j := 9) rfl
      have c10 := (K0.out.below HB.out).cell (j := 10) rfl
      have c11 := (K0.out.below HB.out).cell (j := 11) rfl
      go_wp2_with fail
      refine (CC.out _).mono ?_
      rintro r v8 ⟨rfl, hb⟩
      have HBX := hid (HBW0.out (HB.out.trans (hb.mono HB.out.size)))
      clear hb c0 c1 c2 c3 c4 c5 c6 c7 c8 c9 c10 c11
      cases hz : clOk kd ak ky vl lo hi mo bk with
      | false =>
        have e1 := clT_no hz
        have HV9 := hid (stT_no1 (S := ⟨1, a, 0, [], kd, ak, ky, vl, lo, hi, mo, bk⟩) (by rw [wr_1, hz]; rfl))
        clear hz
        rw [e1]
        go_wp2
        go_ret
        exact ⟨by rw [HV9.out]; rfl, HBX.out⟩
      | true =>
        have HV9 := hid (st_1 (a := a) HA0.out hz)
        have hne := clT_ne hz
        have h1 : ¬ ((clT kd ak ky vl lo hi mo bk).toList = []) := fun e => hne (wb_nil.1 e)
        have h2 : (clT kd ak ky vl lo hi mo bk).toList.isEmpty = false := by
          cases q : (clT kd ak ky vl lo hi mo bk).toList with
          | nil => exact absurd q h1
          | cons _ _ => rfl
        have hsz := clT_size kd ak ky vl lo hi mo bk
        clear hz hne
        generalize clT kd ak ky vl lo hi mo bk = tt at *
        have q91 : ¬ (9223372036854775807 < (sw 1 ++ ⟨#[32]⟩ ++ numS a : ByteArray).size + (⟨#[32]⟩ : ByteArray).size) := by simp only [ByteArray.size_append, sb]; omega
        have q92 : ¬ (9223372036854775807 < (sw 1 ++ ⟨#[32]⟩ ++ numS a ++ ⟨#[32]⟩ : ByteArray).size + tt.size) := by simp only [ByteArray.size_append, sb]; omega
        go_wp2
        go_ret
        exact ⟨by rw [HV9.out]; try rfl, HBX.out⟩
  by_cases hz : clZ kd ak ky vl lo hi mo bk = true
  case neg =>
    have HV := hid (st_z ⟨k, a, b, kp, kd, ak, ky, vl, lo, hi, mo, bk⟩ h1 (by simpa using hz))
    have hq := neq_askZ ak ky vl lo hi mo bk
    have hg := guard_ask .neq
    by_cases hkd : kd = 0
    · subst hkd
      have hz2 : akZ ak ky vl lo hi mo bk = false := by
        cases e : akZ ak ky vl lo hi mo bk with
        | false => rfl
        | true => exact absurd (by unfold clZ; rw [e]; rfl) hz
      rw [hz2] at hq
      clear hz hz2
      go_enter Tryz.func19, Tryz.ntmps19
      go_wp2_with fail
      rw [HU.out]
      have c0 := K0.out.cell (j := 0) rfl
      have c1 := K0.out.cell (j := 1) rfl
      have c2 := K0.out.cell (j := 2) rfl
      have c3 := K0.out.cell (j := 3) rfl
      have c4 := K0.out.cell (j := 4) rfl
      have c5 := K0.out.cell (j := 5) rfl
      have c6 := K0.out.cell (j := 6) rfl
      have c7 := K0.out.cell (j := 7) rfl
      have c8 := K0.out.cell (j := 8) rfl
      have c9 := K0.out.cell (j := 9) rfl
      have c10 := K0.out.cell (j := 10) rfl
      have c11 := K0.out.cell (j := 11) rfl
      have n0 := N0.out.cell (j := 0) rfl
      have n1 := N0.out.cell (j := 1) rfl
      have n2 := N0.out.cell (j := 2) rfl
      have n3 := N0.out.cell (j := 3) rfl
      have n4 := N0.out.cell (j := 4) rfl
      have n5 := N0.out.cell (j := 5) rfl
      have n6 := N0.out.cell (j := 6) rfl
      go_wp2_with fail
      refine (specNum_any a _ true (by simp; try omega)).mono ?_
      rintro e w1 ⟨rfl, rfl⟩
      go_wp2_with fail
      refine (specNum_any b _ true (by simp; try omega)).mono ?_
      rintro e w1 ⟨rfl, rfl⟩
      go_wp2
      go_ret
      exact ⟨by rw [HV.out]; rfl, B0.out⟩
    · clear hz hq hg
      go_enter Tryz.func19, Tryz.ntmps19
      go_wp2_with fail
      rw [HU.out]
      have c0 := K0.out.cell (j := 0) rfl
      have c1 := K0.out.cell (j := 1) rfl
      have c2 := K0.out.cell (j := 2) rfl
      have c3 := K0.out.cell (j := 3) rfl
      have c4 := K0.out.cell (j := 4) rfl
      have c5 := K0.out.cell (j := 5) rfl
      have c6 := K0.out.cell (j := 6) rfl
      have c7 := K0.out.cell (j := 7) rfl
      have c8 := K0.out.cell (j := 8) rfl
      have c9 := K0.out.cell (j := 9) rfl
      have c10 := K0.out.cell (j := 10) rfl
      have c11 := K0.out.cell (j := 11) rfl
      have n0 := N0.out.cell (j := 0) rfl
      have n1 := N0.out.cell (j := 1) rfl
      have n2 := N0.out.cell (j := 2) rfl
      have n3 := N0.out.cell (j := 3) rfl
      have n4 := N0.out.cell (j := 4) rfl
      have n5 := N0.out.cell (j := 5) rfl
      have n6 := N0.out.cell (j := 6) rfl
      go_wp2_with fail
      refine (specNum_any a _ true (by simp; try omega)).mono ?_
      rintro e w1 ⟨rfl, rfl⟩
      go_wp2_with fail
      refine (specNum_any b _ true (by simp; try omega)).mono ?_
      rintro e w1 ⟨rfl, rfl⟩
      go_wp2
      go_ret
      exact ⟨by rw [HV.out]; rfl, B0.out⟩
  have hq := neq_askZ ak ky vl lo hi mo bk
  have hg := guard_ask .neq
  obtain ⟨rfl, rfl, rfl, rfl, rfl, rfl, rfl, rfl⟩ := clZ_nil hz
  have hz2 : akZ 0 ⟨#[]⟩ ⟨#[]⟩ ⟨#[]⟩ ⟨#[]⟩ 0 false = true := akZ0
  rw [hz2] at hq
  clear hz hz2
  by_cases h7 : k = 7
  · subst h7
    go_enter Tryz.func19, Tryz.ntmps19
    go_wp2_with fail
    rw [HU.out]
    have c0 := K0.out.cell (j := 0) rfl
    have c1 := K0.out.cell (j := 1) rfl
    have c2 := K0.out.cell (j := 2) rfl
    have c3 := K0.out.cell (j := 3) rfl
    have c4 := K0.out.cell (j := 4) rfl
    have c5 := K0.out.cell (j := 5) rfl
    have c6 := K0.out.cell (j := 6) rfl
    have c7 := K0.out.cell (j := 7) rfl
    have c8 := K0.out.cell (j := 8) rfl
    have c9 := K0.out.cell (j := 9) rfl
    have c10 := K0.out.cell (j := 10) rfl
    have c11 := K0.out.cell (j := 11) rfl
    have n0 := N0.out.cell (j := 0) rfl
    have n1 := N0.out.cell (j := 1) rfl
    have n2 := N0.out.cell (j := 2) rfl
    have n3 := N0.out.cell (j := 3) rfl
    have n4 := N0.out.cell (j := 4) rfl
    have n5 := N0.out.cell (j := 5) rfl
    have n6 := N0.out.cell (j := 6) rfl
    go_wp2_with fail
    refine (specNum_any a _ true (by simp; try omega)).mono ?_
    rintro e w1 ⟨rfl, rfl⟩
    go_wp2_with fail
    refine (specNum_any b _ true (by simp; try omega)).mono ?_
    rintro e w1 ⟨rfl, rfl⟩
    go_wp2_with fail
    clear c0 c1 c2 c3 c4 c5 c6 c7 c8 c9 c10 c11 n0 n1 n2 n3 n4 n5 n6
    refine wp_region_noPanic ?_
    refine wp_region_held_drew (S := fun v => v.cell? ⟨w.heap.size, 0, none⟩ = some (.int .i64 7)) (by kernel_rfl) ((K0.out.below (below_drew _)).cell (j := 0) rfl) (fun hHeld => ?_)
    simp only [List.size_toArray, List.length_cons, List.length_nil, Array.replicate_succ, Array.replicate_zero, Nat.reduceAdd, List.push_toArray, List.nil_append, List.cons_append]
    refine wpAnyH_take (i := 1) (v := (.pointer (some ⟨w.heap.size, 0, none⟩))) rfl (by kernel_rfl) (by kernel_rfl) (by kernel_rfl) (fun _ _ _ h => h) (Or.inl ⟨by rfl, ?_⟩) (by assumption) ?_
    · intro w hSw
      (try dsimp only at hSw)
      go_simp
    try simp only [List.getElem_toArray]
    try simp only [List.getElem_cons_succ]
    try simp only [List.getElem_cons_zero]
    try simp only [Act.put]
    try simp only [List.setIfInBounds_toArray]
    try simp only [List.set_cons_succ]
    try simp only [List.set_cons_zero]
    refine wpAnyH_take (i := 2) (v := (.int .i64 7)) rfl (by kernel_rfl) (by kernel_rfl) (by kernel_rfl) (fun _ _ _ h => h) (Or.inl ⟨by rfl, ?_⟩) (by assumption) ?_
    · intro w hSw
      (try dsimp only at hSw)
      go_simp
    try simp only [List.getElem_toArray]
    try simp only [List.getElem_cons_succ]
    try simp only [List.getElem_cons_zero]
    try simp only [Act.put]
    try simp only [List.setIfInBounds_toArray]
    try simp only [List.set_cons_succ]
    try simp only [List.set_cons_zero]
    have BD : Hid (Below U.heap.size U U.drew) := below_drew _
    generalize U.drew = v0 at *
    refine wpAnyH_ready (rs := [0]) (by kernel_rfl) (by simp) ?_
    refine AllReadyH.cons rfl (fun K1 hK => ?_) AllReadyH.nil
    go_simp
    refine (CW.out _).mono ?_
    rintro r v1 ⟨rfl, hk, hb⟩
    go_wp2_with fail
    have R1 := hid hk
    have BU1 := hid (BD.out.trans (hb.mono BD.out.size))
    clear hk hb BD
    refine hK.out _ _ ?_ (fun hHeld => ?_)
    · exact (K0.out.below BU1.out).cell (j := 0) rfl
    clear hK K1
    try simp only [List.getElem_toArray]
    try simp only [List.getElem_cons_succ]
    try simp only [List.getElem_cons_zero]
    try simp only [Act.put]
    try simp only [List.setIfInBounds_toArray]
    try simp only [List.set_cons_succ]
    try simp only [List.set_cons_zero]
    refine wpAnyH_take (i := 3) (v := (.pointer (some ⟨v0.heap.size, 7, none⟩))) rfl (by kernel_rfl) (by kernel_rfl) (by kernel_rfl) (fun _ _ _ h => h) (Or.inl ⟨by rfl, ?_⟩) (by assumption) ?_
    · intro w hSw
      (try dsimp only at hSw)
      go_simp
      all_goals (try omega)
    try simp only [List.getElem_toArray]
    try simp only [List.getElem_cons_succ]
    try simp only [List.getElem_cons_zero]
    try simp only [Act.put]
    try simp only [List.setIfInBounds_toArray]
    try simp only [List.set_cons_succ]
    try simp only [List.set_cons_zero]
    refine wpAnyH_ready (rs := [4]) (by kernel_rfl) (by simp) ?_
    refine AllReadyH.cons rfl (fun K1 hK => ?_) AllReadyH.nil
    have t0 : v1.cell? ⟨v0.heap.size, 7, none⟩ = some (.string (sw 7)) := R1.out.cell (j := 7) rfl
    go_simp
    try go_wp2_with fail
    refine hK.out _ _ ?_ (fun hHeld => ?_)
    · exact (K0.out.below BU1.out).cell (j := 0) rfl
    clear hK K1
    try simp only [List.getElem_toArray]
    try simp only [List.getElem_cons_succ]
    try simp only [List.getElem_cons_zero]
    try simp only [Act.put]
    try simp only [List.setIfInBounds_toArray]
    try simp only [List.set_cons_succ]
    try simp only [List.set_cons_zero]
    refine wpAnyH_take (i := 5) (v := (.string (sw 7))) rfl (by kernel_rfl) (by kernel_rfl) (by kernel_rfl) (fun _ _ _ h => h) (Or.inl ⟨by rfl, ?_⟩) (by assumption) ?_
    · intro w hSw
      (try dsimp only at hSw)
      go_simp
    try simp only [List.getElem_toArray]
    try simp only [List.getElem_cons_succ]
    try simp only [List.getElem_cons_zero]
    try simp only [Act.put]
    try simp only [List.setIfInBounds_toArray]
    try simp only [List.set_cons_succ]
    try simp only [List.set_cons_zero]
    refine wpAnyH_done (by kernel_rfl) ?_ _
    refine NoPanic.normal ?_
    clear t0 R1
    generalize v0.heap.size = h0 at *
    have sz0 := sw_size 7
    have sb : (⟨#[32]⟩ : ByteArray).size = 1 := rfl
    have c0 := (K0.out.below BU1.out).cell (j := 0) rfl
    have c1 := (K0.out.below BU1.out).cell (j := 1) rfl
    have c2 := (K0.out.below BU1.out).cell (j := 2) rfl
    have c3 := (K0.out.below BU1.out).cell (j := 3) rfl
    have c4 := (K0.out.below BU1.out).cell (j := 4) rfl
    have c5 := (K0.out.below BU1.out).cell (j := 5) rfl
    have c6 := (K0.out.below BU1.out).cell (j := 6) rfl
    have c7 := (K0.out.below BU1.out).cell (j := 7) rfl
    have c8 := (K0.out.below BU1.out).cell (j := 8) rfl
    have c9 := (K0.out.below BU1.out).cell (j := 9) rfl
    have c10 := (K0.out.below BU1.out).cell (j := 10) rfl
    have c11 := (K0.out.below BU1.out).cell (j := 11) rfl
    go_wp2_with fail
    refine (CN.out a _).mono ?_
    rintro r v2 ⟨rfl, hb⟩
    have BU2 := hid (BU1.out.trans (hb.mono BU1.out.size))
    clear hb c0 c1 c2 c3 c4 c5 c6 c7 c8 c9 c10 c11
    have sz2 := numS_size a
    have q4 : ¬ (9223372036854775807 < (sw 7 : ByteArray).size + (⟨#[32]⟩ : ByteArray).size) := by simp only [sb]; omega
    have q5 : ¬ (9223372036854775807 < (sw 7 ++ ⟨#[32]⟩ : ByteArray).size + (numS a).size) := by simp only [ByteArray.size_append, sb]; omega
    have c0 := (K0.out.below BU2.out).cell (j := 0) rfl
    have c1 := (K0.out.below BU2.out).cell (j := 1) rfl
    have c2 := (K0.out.below BU2.out).cell (j := 2) rfl
    have c3 := (K0.out.below BU2.out).cell (j := 3) rfl
    have c4 := (K0.out.below BU2.out).cell (j := 4) rfl
    have c5 := (K0.out.below BU2.out).cell (j := 5) rfl
    have c6 := (K0.out.below BU2.out).cell (j := 6) rfl
    have c7 := (K0.out.below BU2.out).cell (j := 7) rfl
    have c8 := (K0.out.below BU2.out).cell (j := 8) rfl
    have c9 := (K0.out.below BU2.out).cell (j := 9) rfl
    have c10 := (K0.out.below BU2.out).cell (j := 10) rfl
    have c11 := (K0.out.below BU2.out).cell (j := 11) rfl
    go_wp2_with fail
    refine (CN.out b _).mono ?_
    rintro r v3 ⟨rfl, hb⟩
    have BU3 := hid (BU2.out.trans (hb.mono BU2.out.size))
    clear hb c0 c1 c2 c3 c4 c5 c6 c7 c8 c9 c10 c11
    have sz3 := numS_size b
    have q6 : ¬ (9223372036854775807 < (sw 7 ++ ⟨#[32]⟩ ++ numS a : ByteArray).size + (⟨#[32]⟩ : ByteArray).size) := by simp only [ByteArray.size_append, sb]; omega
    have q7 : ¬ (9223372036854775807 < (sw 7 ++ ⟨#[32]⟩ ++ numS a ++ ⟨#[32]⟩ : ByteArray).size + (numS b).size) := by simp only [ByteArray.size_append, sb]; omega
    have c0 := (K0.out.below BU3.out).cell (j := 0) rfl
    have c1 := (K0.out.below BU3.out).cell (j := 1) rfl
    have c2 := (K0.out.below BU3.out).cell (j := 2) rfl
    have c3 := (K0.out.below BU3.out).cell (j := 3) rfl
    have c4 := (K0.out.below BU3.out).cell (j := 4) rfl
    have c5 := (K0.out.below BU3.out).cell (j := 5) rfl
    have c6 := (K0.out.below BU3.out).cell (j := 6) rfl
    have c7 := (K0.out.below BU3.out).cell (j := 7) rfl
    have c8 := (K0.out.below BU3.out).cell (j := 8) rfl
    have c9 := (K0.out.below BU3.out).cell (j := 9) rfl
    have c10 := (K0.out.below BU3.out).cell (j := 10) rfl
    have c11 := (K0.out.below BU3.out).cell (j := 11) rfl
    go_wp2_with fail
    clear c0 c1 c2 c3 c4 c5 c6 c7 c8 c9 c10 c11
    go_loopw [4, 6, 97] (fun x _ i v => ∃ (m : Nat) (o : ByteArray), x = .string o ∧ i = .int .i64 m ∧ m ≤ kn ∧ Hid (Below U.heap.size U v) ∧ Hid (o = ((kp.map numS).take m).foldl (fun o y => o ++ blk ++ y) (sw 7 ++ ⟨#[32]⟩ ++ numS a ++ ⟨#[32]⟩ ++ numS b)) ∧ Hid (o.size ≤ 60 + 20 * m) ∧ Hid (∀ y ∈ kp.take m, 0 ≤ y ∧ y ≤ 1099511627775)) (fun _ _ i _ => kn - (intOf i).toNat)
    case atStart => exact ⟨0, _, rfl, rfl, Nat.zero_le _, BU3.out, rfl, by show (sw 7 ++ ⟨#[32]⟩ ++ numS a ++ ⟨#[32]⟩ ++ numS b : ByteArray).size ≤ _; simp only [ByteArray.size_append, sb]; omega, fun y hy => by simp at hy⟩
    case round =>
      obtain ⟨m, o, rfl, rfl, hm, HB, HQ, HZ, HA⟩ := hrel
      by_cases hlt : m < kn
      · have hlt' : (m : Int) < (kn : Int) := by omega
        obtain ⟨b', off, rfl, -, -, hcell⟩ := (Ir.below (Ir.below H0.out HB.out) (Below.refl _ _)).at (by omega : 0 < kn)
        have hc := hcell m hlt
        have hml : m < kp.length := by rw [← KN.out]; exact hlt
        have HT := hid (take_numS kp m hml)
        have HTA : Hid (kp.take (m + 1) = kp.take m ++ [iAt kp m]) := by
          show _ = _
          rw [List.take_succ_eq_append_getElem hml]
          simp [iAt, hml]
        have HM : Hid (iAt kp m ∈ kp) := by
          show _ ∈ _
          simp [iAt, hml]
        clear hcell
        generalize iAt kp m = y at *
        by_cases hy : 0 ≤ y ∧ y ≤ 1099511627775
        · have HY := hid hy
          have sz := HZ.out
          have q1 : ¬ (9223372036854775807 < o.size + (⟨#[32]⟩ : ByteArray).size) := by simp only [sb]; omega
          go_wp2_with fail
          refine (specNum_any y _ true (decide_eq_true HY.out).symm).mono ?_
          rintro e w1 ⟨rfl, rfl⟩
          go_wp2_with fail
          refine (CN.out y _).mono ?_
          rintro r v9 ⟨rfl, hb⟩
          have HB9 := hid (HB.out.trans (hb.mono HB.out.size))
          have sy := numS_size y
          have q2 : ¬ (9223372036854775807 < (o ++ ⟨#[32]⟩ : ByteArray).size + (numS y).size) := by simp only [ByteArray.size_append, sb]; omega
          have HQ9 : Hid (o ++ ⟨#[32]⟩ ++ numS y = ((kp.map numS).take (m + 1)).foldl (fun o y => o ++ blk ++ y) (sw 7 ++ ⟨#[32]⟩ ++ numS a ++ ⟨#[32]⟩ ++ numS b)) := by
            show _ = _
            rw [HT.out, List.foldl_append, ← HQ.out]
            rfl
          have HZ9 : Hid ((o ++ ⟨#[32]⟩ ++ numS y : ByteArray).size ≤ 60 + 20 * (m + 1)) := by
            show _ ≤ _
            simp only [ByteArray.size_append, sb]
            omega
          have HA9 : Hid (∀ z ∈ kp.take (m + 1), 0 ≤ z ∧ z ≤ 1099511627775) := by
            show ∀ z ∈ _, _
            rw [HTA.out]
            intro z hz
            rcases List.mem_append.1 hz with hz | hz
            · exact HA.out z hz
            · rw [List.mem_singleton.1 hz]; exact HY.out
          clear hb HB HQ HZ HA HT HTA HM hc sy sz hy
          go_wp2
          go_roundw
          case rel => exact ⟨m + 1, _, rfl, by go_num, by omega, HB9.out, HQ9.out, HZ9.out, HA9.out⟩
          case measure => simp [intOf]; omega
        · have HV9 := hid (st_7no (a := a) (b := b) HM.out hy)
          have HBW := hid (HBW0.out HB.out)
          have HY := hid hy
          clear hy
          go_wp2_with fail
          refine (specNum_any y _ false (decide_eq_false HY.out).symm).mono ?_
          rintro e w1 ⟨rfl, rfl⟩
          go_wp2
          go_ret
          exact ⟨by rw [HV9.out]; rfl, HBW.out⟩
      · obtain rfl : m = kn := by omega
        have HE : Hid ((kp.map numS).take m = kp.map numS) := List.take_of_length_le (by rw [List.length_map, KN.out]; omega)
        have HEA : Hid (kp.take m = kp) := List.take_of_length_le (by rw [KN.out]; omega)
        rw [HE.out] at HQ
        rw [HEA.out] at HA
        have HBW := hid (HBW0.out HB.out)
        have c0 := (K0.out.below HB.out).cell (j := 0) rfl
        have c1 := (K0.out.below HB.out).cell (j := 1) rfl
        have c2 := (K0.out.below HB.out).cell (j := 2) rfl
        have c3 := (K0.out.below HB.out).cell (j := 3) rfl
        have c4 := (K0.out.below HB.out).cell (j := 4) rfl
        have c5 := (K0.out.below HB.out).cell (j := 5) rfl
        have c6 := (K0.out.below HB.out).cell (j := 6) rfl
        have c7 := (K0.out.below HB.out).cell (j := 7) rfl
        have c8 := (K0.out.below HB.out).cell (j := 8) rfl
        have c9 := (K0.out.below HB.out).cell (j := 9) rfl
        have c10 := (K0.out.below HB.out).cell (j := 10) rfl
        have c11 := (K0.out.below HB.out).cell (j := 11) rfl
        have HR := hid (st_7 HA0.out HB0.out HA.out)
        go_wp2
        go_ret
        exact ⟨by rw [HR.out, HQ.out]; try rfl, HBW.out⟩
  by_cases hb0 : b = 0
  case neg =>
    have HV := hid (st_bk ⟨k, a, b, kp, 0, 0, ⟨#[]⟩, ⟨#[]⟩, ⟨#[]⟩, ⟨#[]⟩, 0, false⟩ h7 (.inl hb0))
    go_enter Tryz.func19, Tryz.ntmps19
    go_wp2_with fail
    rw [HU.out]
    have c0 := K0.out.cell (j := 0) rfl
    have c1 := K0.out.cell (j := 1) rfl
    have c2 := K0.out.cell (j := 2) rfl
    have c3 := K0.out.cell (j := 3) rfl
    have c4 := K0.out.cell (j := 4) rfl
    have c5 := K0.out.cell (j := 5) rfl
    have c6 := K0.out.cell (j := 6) rfl
    have c7 := K0.out.cell (j := 7) rfl
    have c8 := K0.out.cell (j := 8) rfl
    have c9 := K0.out.cell (j := 9) rfl
    have c10 := K0.out.cell (j := 10) rfl
    have c11 := K0.out.cell (j := 11) rfl
    have n0 := N0.out.cell (j := 0) rfl
    have n1 := N0.out.cell (j := 1) rfl
    have n2 := N0.out.cell (j := 2) rfl
    have n3 := N0.out.cell (j := 3) rfl
    have n4 := N0.out.cell (j := 4) rfl
    have n5 := N0.out.cell (j := 5) rfl
    have n6 := N0.out.cell (j := 6) rfl
    go_wp2_with fail
    refine (specNum_any a _ true (by simp; try omega)).mono ?_
    rintro e w1 ⟨rfl, rfl⟩
    go_wp2_with fail
    refine (specNum_any b _ true (by simp; try omega)).mono ?_
    rintro e w1 ⟨rfl, rfl⟩
    go_wp2
    go_ret
    exact ⟨by rw [HV.out]; rfl, B0.out⟩
  subst hb0
  by_cases hk0 : kn = 0
  case neg =>
    have HV := hid (st_bk ⟨k, a, 0, kp, 0, 0, ⟨#[]⟩, ⟨#[]⟩, ⟨#[]⟩, ⟨#[]⟩, 0, false⟩ h7 (.inr (fun e => hk0 (by have e' : kp = [] := e; rw [KN.out, e']; rfl))))
    have hk1 : (0 : Int) < (kn : Int) := by omega
    go_enter Tryz.func19, Tryz.ntmps19
    go_wp2_with fail
    rw [HU.out]
    have c0 := K0.out.cell (j := 0) rfl
    have c1 := K0.out.cell (j := 1) rfl
    have c2 := K0.out.cell (j := 2) rfl
    have c3 := K0.out.cell (j := 3) rfl
    have c4 := K0.out.cell (j := 4) rfl
    have c5 := K0.out.cell (j := 5) rfl
    have c6 := K0.out.cell (j := 6) rfl
    have c7 := K0.out.cell (j := 7) rfl
    have c8 := K0.out.cell (j := 8) rfl
    have c9 := K0.out.cell (j := 9) rfl
    have c10 := K0.out.cell (j := 10) rfl
    have c11 := K0.out.cell (j := 11) rfl
    have n0 := N0.out.cell (j := 0) rfl
    have n1 := N0.out.cell (j := 1) rfl
    have n2 := N0.out.cell (j := 2) rfl
    have n3 := N0.out.cell (j := 3) rfl
    have n4 := N0.out.cell (j := 4) rfl
    have n5 := N0.out.cell (j := 5) rfl
    have n6 := N0.out.cell (j := 6) rfl
    go_wp2_with fail
    refine (specNum_any a _ true (by simp; try omega)).mono ?_
    rintro e w1 ⟨rfl, rfl⟩
    go_wp2_with fail
    refine (specNum_any 0 _ true (by simp; try omega)).mono ?_
    rintro e w1 ⟨rfl, rfl⟩
    go_wp2
    go_ret
    exact ⟨by rw [HV.out]; rfl, B0.out⟩
  obtain rfl : kp = [] := List.length_eq_zero_iff.1 (by rw [← KN.out]; exact hk0)
  subst hk0
  by_cases h5 : k = 5
  · subst h5
    by_cases ha0 : a = 0
    case neg =>
      have HV := hid (st_5a ⟨5, a, 0, [], 0, 0, ⟨#[]⟩, ⟨#[]⟩, ⟨#[]⟩, ⟨#[]⟩, 0, false⟩ rfl ha0)
      go_enter Tryz.func19, Tryz.ntmps19
      go_wp2_with fail
      rw [HU.out]
      have c0 := K0.out.cell (j := 0) rfl
      have c1 := K0.out.cell (j := 1) rfl
      have c2 := K0.out.cell (j := 2) rfl
      have c3 := K0.out.cell (j := 3) rfl
      have c4 := K0.out.cell (j := 4) rfl
      have c5 := K0.out.cell (j := 5) rfl
      have c6 := K0.out.cell (j := 6) rfl
      have c7 := K0.out.cell (j := 7) rfl
      have c8 := K0.out.cell (j := 8) rfl
      have c9 := K0.out.cell (j := 9) rfl
      have c10 := K0.out.cell (j := 10) rfl
      have c11 := K0.out.cell (j := 11) rfl
      have n0 := N0.out.cell (j := 0) rfl
      have n1 := N0.out.cell (j := 1) rfl
      have n2 := N0.out.cell (j := 2) rfl
      have n3 := N0.out.cell (j := 3) rfl
      have n4 := N0.out.cell (j := 4) rfl
      have n5 := N0.out.cell (j := 5) rfl
      have n6 := N0.out.cell (j := 6) rfl
      go_wp2_with fail
      refine (specNum_any a _ true (by simp; try omega)).mono ?_
      rintro e w1 ⟨rfl, rfl⟩
      go_wp2_with fail
      refine (specNum_any 0 _ true (by simp; try omega)).mono ?_
      rintro e w1 ⟨rfl, rfl⟩
      go_wp2
      go_ret
      exact ⟨by rw [HV.out]; rfl, B0.out⟩
    subst ha0
    go_enter Tryz.func19, Tryz.ntmps19
    go_wp2_with fail
    rw [HU.out]
    have c0 := K0.out.cell (j := 0) rfl
    have c1 := K0.out.cell (j := 1) rfl
    have c2 := K0.out.cell (j := 2) rfl
    have c3 := K0.out.cell (j := 3) rfl
    have c4 := K0.out.cell (j := 4) rfl
    have c5 := K0.out.cell (j := 5) rfl
    have c6 := K0.out.cell (j := 6) rfl
    have c7 := K0.out.cell (j := 7) rfl
    have c8 := K0.out.cell (j := 8) rfl
    have c9 := K0.out.cell (j := 9) rfl
    have c10 := K0.out.cell (j := 10) rfl
    have c11 := K0.out.cell (j := 11) rfl
    have n0 := N0.out.cell (j := 0) rfl
    have n1 := N0.out.cell (j := 1) rfl
    have n2 := N0.out.cell (j := 2) rfl
    have n3 := N0.out.cell (j := 3) rfl
    have n4 := N0.out.cell (j := 4) rfl
    have n5 := N0.out.cell (j := 5) rfl
    have n6 := N0.out.cell (j := 6) rfl
    go_wp2_with fail
    refine (specNum_any 0 _ true (by simp; try omega)).mono ?_
    rintro e w1 ⟨rfl, rfl⟩
    go_wp2_with fail
    refine (specNum_any 0 _ true (by simp; try omega)).mono ?_
    rintro e w1 ⟨rfl, rfl⟩
    go_wp2_with fail
    clear c0 c1 c2 c3 c4 c5 c6 c7 c8 c9 c10 c11 n0 n1 n2 n3 n4 n5 n6
    refine wp_region_noPanic ?_
    refine wp_region_held_drew (S := fun v => v.cell? ⟨w.heap.size, 0, none⟩ = some (.int .i64 5)) (by kernel_rfl) ((K0.out.below (below_drew _)).cell (j := 0) rfl) (fun hHeld => ?_)
    simp only [List.size_toArray, List.length_cons, List.length_nil, Array.replicate_succ, Array.replicate_zero, Nat.reduceAdd, List.push_toArray, List.nil_append, List.cons_append]
    refine wpAnyH_take (i := 1) (v := (.pointer (some ⟨w.heap.size, 0, none⟩))) rfl (by kernel_rfl) (by kernel_rfl) (by kernel_rfl) (fun _ _ _ h => h) (Or.inl ⟨by rfl, ?_⟩) (by assumption) ?_
    · intro w hSw
      (try dsimp only at hSw)
      go_simp
    try simp only [List.getElem_toArray]
    try simp only [List.getElem_cons_succ]
    try simp only [List.getElem_cons_zero]
    try simp only [Act.put]
    try simp only [List.setIfInBounds_toArray]
    try simp only [List.set_cons_succ]
    try simp only [List.set_cons_zero]
    refine wpAnyH_take (i := 2) (v := (.int .i64 5)) rfl (by kernel_rfl) (by kernel_rfl) (by kernel_rfl) (fun _ _ _ h => h) (Or.inl ⟨by rfl, ?_⟩) (by assumption) ?_
    · intro w hSw
      (try dsimp only at hSw)
      go_simp
    try simp only [List.getElem_toArray]
    try simp only [List.getElem_cons_succ]
    try simp only [List.getElem_cons_zero]
    try simp only [Act.put]
    try simp only [List.setIfInBounds_toArray]
    try simp only [List.set_cons_succ]
    try simp only [List.set_cons_zero]
    have BD : Hid (Below U.heap.size U U.drew) := below_drew _
    generalize U.drew = v0 at *
    refine wpAnyH_ready (rs := [0]) (by kernel_rfl) (by simp) ?_
    refine AllReadyH.cons rfl (fun K1 hK => ?_) AllReadyH.nil
    go_simp
    refine (CW.out _).mono ?_
    rintro r v1 ⟨rfl, hk, hb⟩
    go_wp2_with fail
    have R1 := hid hk
    have BU1 := hid (BD.out.trans (hb.mono BD.out.size))
    clear hk hb BD
    refine hK.out _ _ ?_ (fun hHeld => ?_)
    · exact (K0.out.below BU1.out).cell (j := 0) rfl
    clear hK K1
    try simp only [List.getElem_toArray]
    try simp only [List.getElem_cons_succ]
    try simp only [List.getElem_cons_zero]
    try simp only [Act.put]
    try simp only [List.setIfInBounds_toArray]
    try simp only [List.set_cons_succ]
    try simp only [List.set_cons_zero]
    refine wpAnyH_take (i := 3) (v := (.pointer (some ⟨v0.heap.size, 5, none⟩))) rfl (by kernel_rfl) (by kernel_rfl) (by kernel_rfl) (fun _ _ _ h => h) (Or.inl ⟨by rfl, ?_⟩) (by assumption) ?_
    · intro w hSw
      (try dsimp only at hSw)
      go_simp
      all_goals (try omega)
    try simp only [List.getElem_toArray]
    try simp only [List.getElem_cons_succ]
    try simp only [List.getElem_cons_zero]
    try simp only [Act.put]
    try simp only [List.setIfInBounds_toArray]
    try simp only [List.set_cons_succ]
    try simp only [List.set_cons_zero]
    refine wpAnyH_ready (rs := [4]) (by kernel_rfl) (by simp) ?_
    refine AllReadyH.cons rfl (fun K1 hK => ?_) AllReadyH.nil
    have t0 : v1.cell? ⟨v0.heap.size, 5, none⟩ = some (.string (sw 5)) := R1.out.cell (j := 5) rfl
    go_simp
    try go_wp2_with fail
    refine hK.out _ _ ?_ (fun hHeld => ?_)
    · exact (K0.out.below BU1.out).cell (j := 0) rfl
    clear hK K1
    try simp only [List.getElem_toArray]
    try simp only [List.getElem_cons_succ]
    try simp only [List.getElem_cons_zero]
    try simp only [Act.put]
    try simp only [List.setIfInBounds_toArray]
    try simp only [List.set_cons_succ]
    try simp only [List.set_cons_zero]
    refine wpAnyH_take (i := 5) (v := (.string (sw 5))) rfl (by kernel_rfl) (by kernel_rfl) (by kernel_rfl) (fun _ _ _ h => h) (Or.inl ⟨by rfl, ?_⟩) (by assumption) ?_
    · intro w hSw
      (try dsimp only at hSw)
      go_simp
    try simp only [List.getElem_toArray]
    try simp only [List.getElem_cons_succ]
    try simp only [List.getElem_cons_zero]
    try simp only [Act.put]
    try simp only [List.setIfInBounds_toArray]
    try simp only [List.set_cons_succ]
    try simp only [List.set_cons_zero]
    refine wpAnyH_done (by kernel_rfl) ?_ _
    refine NoPanic.normal ?_
    clear t0 R1
    generalize v0.heap.size = h0 at *
    have sz0 := sw_size 5
    have sb : (⟨#[32]⟩ : ByteArray).size = 1 := rfl
    have c0 := (K0.out.below BU1.out).cell (j := 0) rfl
    have c1 := (K0.out.below BU1.out).cell (j := 1) rfl
    have c2 := (K0.out.below BU1.out).cell (j := 2) rfl
    have c3 := (K0.out.below BU1.out).cell (j := 3) rfl
    have c4 := (K0.out.below BU1.out).cell (j := 4) rfl
    have c5 := (K0.out.below BU1.out).cell (j := 5) rfl
    have c6 := (K0.out.below BU1.out).cell (j := 6) rfl
    have c7 := (K0.out.below BU1.out).cell (j := 7) rfl
    have c8 := (K0.out.below BU1.out).cell (j := 8) rfl
    have c9 := (K0.out.below BU1.out).cell (j := 9) rfl
    have c10 := (K0.out.below BU1.out).cell (j := 10) rfl
    have c11 := (K0.out.below BU1.out).cell (j := 11) rfl
    go_wp2_with fail
    clear c0 c1 c2 c3 c4 c5 c6 c7 c8 c9 c10 c11
    go_loopw [4, 6, 97] (fun x _ i v => x = .string (sw 5) ∧ i = .int .i64 0 ∧ Hid (Below U.heap.size U v)) (fun _ _ _ _ => 0)
    case atStart => exact ⟨rfl, rfl, BU1.out⟩
    case round =>
      obtain ⟨rfl, rfl, HB⟩ := hrel
      have HBW := hid (HBW0.out HB.out)
      have c0 := (K0.out.below HB.out).cell (j := 0) rfl
      have c1 := (K0.out.below HB.out).cell (j := 1) rfl
      have c2 := (K0.out.below HB.out).cell (j := 2) rfl
      have c3 := (K0.out.below HB.out).cell (j := 3) rfl
      have c4 := (K0.out.below HB.out).cell (j := 4) rfl
      have c5 := (K0.out.below HB.out).cell (j := 5) rfl
      have c6 := (K0.out.below HB.out).cell (j := 6) rfl
      have c7 := (K0.out.below HB.out).cell (j := 7) rfl
      have c8 := (K0.out.below HB.out).cell (j := 8) rfl
      have c9 := (K0.out.below HB.out).cell (j := 9) rfl
      have c10 := (K0.out.below HB.out).cell (j := 10) rfl
      have c11 := (K0.out.below HB.out).cell (j := 11) rfl
      have HR := hid (st_5)
      go_wp2
      go_ret
      exact ⟨by rw [HR.out]; try rfl, HBW.out⟩
  obtain ⟨n, rfl⟩ : ∃ n : Nat, k = n := ⟨k.toNat, by omega⟩
  have hn : n < 10 := by omega
  have hn' : (n : Int) < 10 := by omega
  have hn1 : 1 ≤ (n : Int) := by omega
  have hn9 : (n : Int) ≤ 9 := by omega
  go_enter Tryz.func19, Tryz.ntmps19
  go_wp2_with fail
  rw [HU.out]
  have c0 := K0.out.cell (j := 0) rfl
  have c1 := K0.out.cell (j := 1) rfl
  have c2 := K0.out.cell (j := 2) rfl
  have c3 := K0.out.cell (j := 3) rfl
  have c4 := K0.out.cell (j := 4) rfl
  have c5 := K0.out.cell (j := 5) rfl
  have c6 := K0.out.cell (j := 6) rfl
  have c7 := K0.out.cell (j := 7) rfl
  have c8 := K0.out.cell (j := 8) rfl
  have c9 := K0.out.cell (j := 9) rfl
  have c10 := K0.out.cell (j := 10) rfl
  have c11 := K0.out.cell (j := 11) rfl
  have n0 := N0.out.cell (j := 0) rfl
  have n1 := N0.out.cell (j := 1) rfl
  have n2 := N0.out.cell (j := 2) rfl
  have n3 := N0.out.cell (j := 3) rfl
  have n4 := N0.out.cell (j := 4) rfl
  have n5 := N0.out.cell (j := 5) rfl
  have n6 := N0.out.cell (j := 6) rfl
  go_wp2_with fail
  refine (specNum_any a _ true (by simp; try omega)).mono ?_
  rintro e w1 ⟨rfl, rfl⟩
  go_wp2_with fail
  refine (specNum_any 0 _ true (by simp; try omega)).mono ?_
  rintro e w1 ⟨rfl, rfl⟩
  go_wp2_with fail
  clear c0 c1 c2 c3 c4 c5 c6 c7 c8 c9 c10 c11 n0 n1 n2 n3 n4 n5 n6
  refine wp_region_noPanic ?_
  refine wp_region_held_drew (S := fun v => v.cell? ⟨w.heap.size, 0, none⟩ = some (.int .i64 (n : Int))) (by kernel_rfl) ((K0.out.below (below_drew _)).cell (j := 0) rfl) (fun hHeld => ?_)
  simp only [List.size_toArray, List.length_cons, List.length_nil, Array.replicate_succ, Array.replicate_zero, Nat.reduceAdd, List.push_toArray, List.nil_append, List.cons_append]
  refine wpAnyH_take (i := 1) (v := (.pointer (some ⟨w.heap.size, 0, none⟩))) rfl (by kernel_rfl) (by kernel_rfl) (by kernel_rfl) (fun _ _ _ h => h) (Or.inl ⟨by rfl, ?_⟩) (by assumption) ?_
  · intro w hSw
    (try dsimp only at hSw)
    go_simp
  try simp only [List.getElem_toArray]
  try simp only [List.getElem_cons_succ]
  try simp only [List.getElem_cons_zero]
  try simp only [Act.put]
  try simp only [List.setIfInBounds_toArray]
  try simp only [List.set_cons_succ]
  try simp only [List.set_cons_zero]
  refine wpAnyH_take (i := 2) (v := (.int .i64 (n : Int))) rfl (by kernel_rfl) (by kernel_rfl) (by kernel_rfl) (fun _ _ _ h => h) (Or.inl ⟨by rfl, ?_⟩) (by assumption) ?_
  · intro w hSw
    (try dsimp only at hSw)
    go_simp
  try simp only [List.getElem_toArray]
  try simp only [List.getElem_cons_succ]
  try simp only [List.getElem_cons_zero]
  try simp only [Act.put]
  try simp only [List.setIfInBounds_toArray]
  try simp only [List.set_cons_succ]
  try simp only [List.set_cons_zero]
  have BD : Hid (Below U.heap.size U U.drew) := below_drew _
  generalize U.drew = v0 at *
  refine wpAnyH_ready (rs := [0]) (by kernel_rfl) (by simp) ?_
  refine AllReadyH.cons rfl (fun K1 hK => ?_) AllReadyH.nil
  go_simp
  refine (CW.out _).mono ?_
  rintro r v1 ⟨rfl, hk, hb⟩
  go_wp2_with fail
  have R1 := hid hk
  have BU1 := hid (BD.out.trans (hb.mono BD.out.size))
  clear hk hb BD
  refine hK.out _ _ ?_ (fun hHeld => ?_)
  · exact (K0.out.below BU1.out).cell (j := 0) rfl
  clear hK K1
  try simp only [List.getElem_toArray]
  try simp only [List.getElem_cons_succ]
  try simp only [List.getElem_cons_zero]
  try simp only [Act.put]
  try simp only [List.setIfInBounds_toArray]
  try simp only [List.set_cons_succ]
  try simp only [List.set_cons_zero]
  refine wpAnyH_take (i := 3) (v := (.pointer (some ⟨v0.heap.size, n, none⟩))) rfl (by kernel_rfl) (by kernel_rfl) (by kernel_rfl) (fun _ _ _ h => h) (Or.inl ⟨by rfl, ?_⟩) (by assumption) ?_
  · intro w hSw
    (try dsimp only at hSw)
    go_simp
    all_goals (try omega)
  try simp only [List.getElem_toArray]
  try simp only [List.getElem_cons_succ]
  try simp only [List.getElem_cons_zero]
  try simp only [Act.put]
  try simp only [List.setIfInBounds_toArray]
  try simp only [List.set_cons_succ]
  try simp only [List.set_cons_zero]
  refine wpAnyH_ready (rs := [4]) (by kernel_rfl) (by simp) ?_
  refine AllReadyH.cons rfl (fun K1 hK => ?_) AllReadyH.nil
  have t0 : v1.cell? ⟨v0.heap.size, n, none⟩ = some (.string (sw (n : Int))) := R1.out.cell (j := n) (sw_at hn)
  go_simp
  try go_wp2_with fail
  refine hK.out _ _ ?_ (fun hHeld => ?_)
  · exact (K0.out.below BU1.out).cell (j := 0) rfl
  clear hK K1
  try simp only [List.getElem_toArray]
  try simp only [List.getElem_cons_succ]
  try simp only [List.getElem_cons_zero]
  try simp only [Act.put]
  try simp only [List.setIfInBounds_toArray]
  try simp only [List.set_cons_succ]
  try simp only [List.set_cons_zero]
  refine wpAnyH_take (i := 5) (v := (.string (sw (n : Int)))) rfl (by kernel_rfl) (by kernel_rfl) (by kernel_rfl) (fun _ _ _ h => h) (Or.inl ⟨by rfl, ?_⟩) (by assumption) ?_
  · intro w hSw
    (try dsimp only at hSw)
    go_simp
  try simp only [List.getElem_toArray]
  try simp only [List.getElem_cons_succ]
  try simp only [List.getElem_cons_zero]
  try simp only [Act.put]
  try simp only [List.setIfInBounds_toArray]
  try simp only [List.set_cons_succ]
  try simp only [List.set_cons_zero]
  refine wpAnyH_done (by kernel_rfl) ?_ _
  refine NoPanic.normal ?_
  clear t0 R1
  generalize v0.heap.size = h0 at *
  have sz0 := sw_size (n : Int)
  have sb : (⟨#[32]⟩ : ByteArray).size = 1 := rfl
  have c0 := (K0.out.below BU1.out).cell (j := 0) rfl
  have c1 := (K0.out.below BU1.out).cell (j := 1) rfl
  have c2 := (K0.out.below BU1.out).cell (j := 2) rfl
  have c3 := (K0.out.below BU1.out).cell (j := 3) rfl
  have c4 := (K0.out.below BU1.out).cell (j := 4) rfl
  have c5 := (K0.out.below BU1.out).cell (j := 5) rfl
  have c6 := (K0.out.below BU1.out).cell (j := 6) rfl
  have c7 := (K0.out.below BU1.out).cell (j := 7) rfl
  have c8 := (K0.out.below BU1.out).cell (j := 8) rfl
  have c9 := (K0.out.below BU1.out).cell (j := 9) rfl
  have c10 := (K0.out.below BU1.out).cell (j := 10) rfl
  have c11 := (K0.out.below BU1.out).cell (j := 11) rfl
  go_wp2_with fail
  refine (CN.out a _).mono ?_
  rintro r v2 ⟨rfl, hb⟩
  have BU2 := hid (BU1.out.trans (hb.mono BU1.out.size))
  clear hb c0 c1 c2 c3 c4 c5 c6 c7 c8 c9 c10 c11
  have sz2 := numS_size a
  have q4 : ¬ (9223372036854775807 < (sw (n : Int) : ByteArray).size + (⟨#[32]⟩ : ByteArray).size) := by simp only [sb]; omega
  have q5 : ¬ (9223372036854775807 < (sw (n : Int) ++ ⟨#[32]⟩ : ByteArray).size + (numS a).size) := by simp only [ByteArray.size_append, sb]; omega
  have c0 := (K0.out.below BU2.out).cell (j := 0) rfl
  have c1 := (K0.out.below BU2.out).cell (j := 1) rfl
  have c2 := (K0.out.below BU2.out).cell (j := 2) rfl
  have c3 := (K0.out.below BU2.out).cell (j := 3) rfl
  have c4 := (K0.out.below BU2.out).cell (j := 4) rfl
  have c5 := (K0.out.below BU2.out).cell (j := 5) rfl
  have c6 := (K0.out.below BU2.out).cell (j := 6) rfl
  have c7 := (K0.out.below BU2.out).cell (j := 7) rfl
  have c8 := (K0.out.below BU2.out).cell (j := 8) rfl
  have c9 := (K0.out.below BU2.out).cell (j := 9) rfl
  have c10 := (K0.out.below BU2.out).cell (j := 10) rfl
  have c11 := (K0.out.below BU2.out).cell (j := 11) rfl
  go_wp2_with fail
  clear c0 c1 c2 c3 c4 c5 c6 c7 c8 c9 c10 c11
  go_loopw [4, 6, 97] (fun x _ i v => x = .string (sw (n : Int) ++ ⟨#[32]⟩ ++ numS a) ∧ i = .int .i64 0 ∧ Hid (Below U.heap.size U v)) (fun _ _ _ _ => 0)
  case atStart => exact ⟨rfl, rfl, BU2.out⟩
  case round =>
    obtain ⟨rfl, rfl, HB⟩ := hrel
    have HBW := hid (HBW0.out HB.out)
    have c0 := (K0.out.below HB.out).cell (j := 0) rfl
    have c1 := (K0.out.below HB.out).cell (j := 1) rfl
    have c2 := (K0.out.below HB.out).cell (j := 2) rfl
    have c3 := (K0.out.below HB.out).cell (j := 3) rfl
    have c4 := (K0.out.below HB.out).cell (j := 4) rfl
    have c5 := (K0.out.below HB.out).cell (j := 5) rfl
    have c6 := (K0.out.below HB.out).cell (j := 6) rfl
    have c7 := (K0.out.below HB.out).cell (j := 7) rfl
    have c8 := (K0.out.below HB.out).cell (j := 8) rfl
    have c9 := (K0.out.below HB.out).cell (j := 9) rfl
    have c10 := (K0.out.below HB.out).cell (j := 10) rfl
    have c11 := (K0.out.below HB.out).cell (j := 11) rfl
    have HR := hid (st_e h1 h7 h5 hn1 hn9 HA0.out)
    go_wp2
    go_ret
    exact ⟨by rw [HR.out]; try rfl, HBW.out⟩
end Go.Proofs.YtjddkofpfmjojaaGreatDoor
/-
  l14Num, l14Text and l14ReadCall of the specification.
-/
namespace Go.Proofs.YtjddkofpfmjojaaGreatDoor
open Go.RowKit
set_option linter.unusedVariables false
theorem Rw.dropW {w : World} {S : Nat → Prop} {b off n c m : Nat} {xs : List Value} (h : Rw w S (.slice (some ⟨b, off, none⟩) n c) n xs) (hm : m ≤ n) (s : Nat) (h0 : n - m = 0 → xs.drop (m * s) = []) : Rw w S (.slice (some ⟨b, off + m * s, none⟩) (n - m) (c - m)) (n - m) (xs.drop (m * s)) := by
  obtain ⟨a', c', e, h2, h3, h4, hn, h5⟩ := h
  cases e
  refine ⟨_, _, rfl, by omega, by omega, h0, fun e => (by cases e), fun hp => ?_⟩
  obtain ⟨b', off', h6, h7, h8, h9⟩ := h5 (by omega)
  cases h6
  refine ⟨b, off + m * s, rfl, h7, h8, fun j u hu => ?_⟩
  rw [List.getElem?_drop] at hu
  have := h9 _ u hu
  rwa [← Nat.add_assoc] at this
set_option maxHeartbeats 1600000 in
theorem l14Num_any (S : Nat → Prop) (a : Option Addr) (n c : Nat) (ws : List ByteArray) (i : Nat) (w : World) (h : Sr w S (.slice a n c) ws) (hz : ∀ p ∈ ws, p.size ≤ 1048576) :
    Calls Tryz.prog 17 #[.slice a n c, .int .i64 i] w fun e w' => e = .returned (.int .i64 (tgN (rdW ws i))) ∧ Below w.heap.size w w' := by
  have HN : Hid (n = ws.length) := (Rw.len h).1
  by_cases hi : i < n
  · have hi' : (i : Int) < (n : Int) := by omega
    obtain ⟨b, off, rfl, -, -, hcell⟩ := h.at (by omega : 0 < n)
    have hc : w.cell? ⟨b, off + i, none⟩ = some (.string (rdW ws i)) := hcell i hi
    have CC := hid (specTextNum_any (rdW ws i) w (rdW_mem hz i))
    clear hcell h
    go_enter Tryz.func17, Tryz.ntmps17
    go_wp2_with fail
    refine CC.out.mono ?_
    rintro r w1 ⟨rfl, hb⟩
    have HB := hid hb
    clear hb hc CC
    go_wp2
    go_ret
    exact ⟨rfl, HB.out⟩
  · have hi' : (n : Int) ≤ (i : Int) := by omega
    have HV : Hid (tgN (rdW ws i) = 0) := by
      have e : rdW ws i = ⟨#[]⟩ := by unfold rdW; rw [List.getElem?_eq_none (by rw [← HN.out]; omega)]; rfl
      rw [show tgN (rdW ws i) = tgN ⟨#[]⟩ by rw [e]]
      exact tgN_nil
    clear h
    go_enter Tryz.func17, Tryz.ntmps17
    go_wp2
    go_ret
    exact ⟨by rw [HV.out]; rfl, Below.refl _ _⟩
set_option maxHeartbeats 1600000 in
theorem l14Text_any (S : Nat → Prop) (a : Option Addr) (n c : Nat) (ws : List ByteArray) (i : Nat) (w : World) (h : Sr w S (.slice a n c) ws) (hz : ∀ p ∈ ws, p.size ≤ 1048576) :
    Calls Tryz.prog 32 #[.slice a n c, .int .i64 i] w fun e w' => e = .returned (.string (uqS (rdW ws i))) ∧ Below w.heap.size w w' := by
  have HN : Hid (n = ws.length) := (Rw.len h).1
  by_cases hi : i < n
  · have hi' : (i : Int) < (n : Int) := by omega
    obtain ⟨b, off, rfl, -, -, hcell⟩ := h.at (by omega : 0 < n)
    have hc : w.cell? ⟨b, off + i, none⟩ = some (.string (rdW ws i)) := hcell i hi
    have CC := hid (specUnquote_any (rdW ws i) w (rdW_mem hz i))
    clear hcell h
    go_enter Tryz.func32, Tryz.ntmps32
    go_wp2_with fail
    refine CC.out.mono ?_
    rintro r w1 ⟨rfl, hb⟩
    have HB := hid hb
    clear hb hc CC
    go_wp2
    go_ret
    exact ⟨rfl, HB.out⟩
  · have hi' : (n : Int) ≤ (i : Int) := by omega
    have HV : Hid (uqS (rdW ws i) = ⟨#[]⟩) := by
      have e : rdW ws i = ⟨#[]⟩ := by unfold rdW; rw [List.getElem?_eq_none (by rw [← HN.out]; omega)]; rfl
      rw [show uqS (rdW ws i) = uqS ⟨#[]⟩ by rw [e]]
      exact uqS_nil
    clear h
    go_enter Tryz.func32, Tryz.ntmps32
    go_wp2
    go_ret
    exact ⟨by rw [HV.out]; rfl, Below.refl _ _⟩
theorem ccS_call {W : List ByteArray} (h1 : ¬ rdW W 0 = wBegin) (h2 : ¬ rdW W 0 = wCommit) (h3 : ¬ rdW W 0 = wAbort) (h : rdW W 0 = wGet ∨ rdW W 0 = wPut ∨ rdW W 0 = wDel ∨ rdW W 0 = wScan ∨ rdW W 0 = wBack) : ccS W = caI (rdW W 0) (W.drop 1) := (if_neg h1).trans ((if_neg h2).trans ((if_neg h3).trans (if_pos h)))
theorem caI_get {w : ByteArray} {L : List ByteArray} (h : w = wGet) : caI w L = (2, 1, uqS (rdW L 0), ⟨#[]⟩, ⟨#[]⟩, ⟨#[]⟩, 0, false) := if_pos h
theorem caI_put {w : ByteArray} {L : List ByteArray} (h1 : ¬ w = wGet) (h : w = wPut) : caI w L = (2, 2, uqS (rdW L 0), uqS (rdW L 1), ⟨#[]⟩, ⟨#[]⟩, 0, false) := (if_neg h1).trans (if_pos h)
theorem caI_del {w : ByteArray} {L : List ByteArray} (h1 : ¬ w = wGet) (h2 : ¬ w = wPut) (h : w = wDel) : caI w L = (2, 3, uqS (rdW L 0), ⟨#[]⟩, ⟨#[]⟩, ⟨#[]⟩, 0, false) := (if_neg h1).trans ((if_neg h2).trans (if_pos h))
theorem caI_scan {w : ByteArray} {L : List ByteArray} (h1 : ¬ w = wGet) (h2 : ¬ w = wPut) (h3 : ¬ w = wDel) (h : w = wScan ∨ w = wBack) : caI w L = (2, 4, ⟨#[]⟩, ⟨#[]⟩, uqS (rdW L 0), uqS (rdW L 1), tgN (rdW L 2), decide (w = wBack)) := (if_neg h1).trans ((if_neg h2).trans ((if_neg h3).trans (if_pos h)))
set_option maxHeartbeats 16000000 in
set_option maxRecDepth 20000 in
theorem l14ReadCall_any (S : Nat → Prop) (a : Option Addr) (n c : Nat) (ws : List ByteArray) (w : World) (h : Sr w S (.slice a n c) ws) (hz : ∀ p ∈ ws, p.size ≤ 1048576) :
    Calls Tryz.prog 18 #[.slice a n c] w fun e w' => e = .returned (.agg #[.int .i64 (ccS ws).1, .int .i64 (ccS ws).2.1, .string (ccS ws).2.2.1, .string (ccS ws).2.2.2.1, .string (ccS ws).2.2.2.2.1, .string (ccS ws).2.2.2.2.2.1, .int .i64 (ccS ws).2.2.2.2.2.2.1, .bool (ccS ws).2.2.2.2.2.2.2]) ∧ Below w.heap.size w w' := by
  have HN : Hid (n = ws.length) := (Rw.len h).1
  have hb0 : Below w.heap.size w (w.alloc (.cells #[.int .i64 0, .int .i64 0, .string ⟨#[]⟩, .string ⟨#[]⟩, .string ⟨#[]⟩, .string ⟨#[]⟩, .int .i64 0, .bool false] 28)) := below_new (Below.refl _ _)
  have B0 := hid hb0
  have K0 := hid (Bk.new w 28 [.int .i64 0, .int .i64 0, .string ⟨#[]⟩, .string ⟨#[]⟩, .string ⟨#[]⟩, .string ⟨#[]⟩, .int .i64 0, .bool false])
  have H0 := hid (h.below hb0)
  have CN := hid (fun i w h => l14Num_any S a n c ws i w h hz)
  have CT := hid (fun i w h => l14Text_any S a n c ws i w h hz)
  by_cases hn : n = 0
  · have HV : Hid (ccS ws = (0, 0, ⟨#[]⟩, ⟨#[]⟩, ⟨#[]⟩, ⟨#[]⟩, 0, false)) := by
      obtain rfl : ws = [] := List.length_eq_zero_iff.1 (by rw [← HN.out]; exact hn)
      show _ = _
      rfl
    subst hn
    clear h hb0
    go_enter Tryz.func18, Tryz.ntmps18
    go_wp2
    try simp only [Exit.inBlock, Exit.then]
    refine bodyPost_ret (v := .agg #[.int .i64 0, .int .i64 0, .string ⟨#[]⟩, .string ⟨#[]⟩, .string ⟨#[]⟩, .string ⟨#[]⟩, .int .i64 0, .bool false]) ?_ rfl ?_
    · exact results_call rfl _ _ _ rfl (K0.out.cell (j := 0) rfl) (K0.out.cell (j := 1) rfl) (K0.out.cell (j := 2) rfl) (K0.out.cell (j := 3) rfl) (K0.out.cell (j := 4) rfl) (K0.out.cell (j := 5) rfl) (K0.out.cell (j := 6) rfl) (K0.out.cell (j := 7) rfl)
    · exact ⟨by rw [HV.out]; try rfl, B0.out⟩
  have hn' : 0 < n := by omega
  have hn2 : ¬ (n : Int) = 0 := by omega
  have hn3 : (0 : Int) < (n : Int) := by omega
  obtain ⟨b, off, rfl, -, hbw, hcell⟩ := h.at hn'
  have HC0 : Hid (w.cell? ⟨b, off, none⟩ = some (.string (rdW ws 0))) := hcell 0 hn'
  have HBX : Hid (b < w.heap.size) := hbw
  clear h hb0 hcell hbw
  go_enter Tryz.func18, Tryz.ntmps18
  go_wp2_with fail
  refine (CT.out 1 _ H0.out).mono ?_
  generalize w.alloc (.cells #[.int .i64 0, .int .i64 0, .string ⟨#[]⟩, .string ⟨#[]⟩, .string ⟨#[]⟩, .string ⟨#[]⟩, .int .i64 0, .bool false] 28) = U at *
  rintro r w1 ⟨rfl, hb⟩
  have B1 := hid (B0.out.trans (hb.mono B0.out.size))
  have K1 := hid (K0.out.below hb)
  have H1 := hid (H0.out.below hb)
  clear hb B0 K0 H0
  go_wp2_with fail
  refine (CT.out 2 _ H1.out).mono ?_
  rintro r w2 ⟨rfl, hb⟩
  have B2 := hid (B1.out.trans (hb.mono B1.out.size))
  have K2 := hid (K1.out.below hb)
  have H2 := hid (H1.out.below hb)
  clear hb B1 K1 H1
  have HC : Hid (w2.cell? ⟨b, off, none⟩ = some (.string (rdW ws 0))) := (B2.out.cell (p := ⟨b, off, none⟩) HBX.out).trans HC0.out
  have HBW : Hid (b < w2.heap.size) := Nat.lt_of_lt_of_le HBX.out B2.out.size
  obtain ⟨word, hwd⟩ : ∃ x, rdW ws 0 = x := ⟨_, rfl⟩
  rw [hwd] at HC HC0
  have hc := HC.out
  by_cases hbegin : rdW ws 0 = wBegin
  · have HV : Hid (ccS ws = (1, 0, ⟨#[]⟩, ⟨#[]⟩, ⟨#[]⟩, ⟨#[]⟩, 0, false)) := if_pos hbegin
    have ebegin : (word.toList == [98, 101, 103, 105, 110]) = true := by rw [← hwd, hbegin, ByteArray.toList_eq]; rfl
    clear hbegin
    clear hwd
    have r0 := K2.out.cell (j := 0) rfl
    have rf0 := K2.out.free 0
    have r1 := K2.out.cell (j := 1) rfl
    have rf1 := K2.out.free 1
    have r2 := K2.out.cell (j := 2) rfl
    have rf2 := K2.out.free 2
    have r3 := K2.out.cell (j := 3) rfl
    have rf3 := K2.out.free 3
    have r4 := K2.out.cell (j := 4) rfl
    have rf4 := K2.out.free 4
    have r5 := K2.out.cell (j := 5) rfl
    have rf5 := K2.out.free 5
    have r6 := K2.out.cell (j := 6) rfl
    have rf6 := K2.out.free 6
    have r7 := K2.out.cell (j := 7) rfl
    have rf7 := K2.out.free 7
    have KF : Hid (Bk ((((((((w2.setCell ⟨w.heap.size, 0, none⟩ (.int .i64 1)).setCell ⟨w.heap.size, 1, none⟩ (.int .i64 0)).setCell ⟨w.heap.size, 2, none⟩ (.string ⟨#[]⟩)).setCell ⟨w.heap.size, 3, none⟩ (.string ⟨#[]⟩)).setCell ⟨w.heap.size, 4, none⟩ (.string ⟨#[]⟩)).setCell ⟨w.heap.size, 5, none⟩ (.string ⟨#[]⟩)).setCell ⟨w.heap.size, 6, none⟩ (.int .i64 0)).setCell ⟨w.heap.size, 7, none⟩ (.bool false)) w.heap.size 28 [.int .i64 1, .int .i64 0, .string ⟨#[]⟩, .string ⟨#[]⟩, .string ⟨#[]⟩, .string ⟨#[]⟩, .int .i64 0, .bool false]) := ((((((((K2.out.set 0 _).set 1 _).set 2 _).set 3 _).set 4 _).set 5 _).set 6 _).set 7 _)
    have OS : Hid (Only (fun y => y = w.heap.size) w2 ((((((((w2.setCell ⟨w.heap.size, 0, none⟩ (.int .i64 1)).setCell ⟨w.heap.size, 1, none⟩ (.int .i64 0)).setCell ⟨w.heap.size, 2, none⟩ (.string ⟨#[]⟩)).setCell ⟨w.heap.size, 3, none⟩ (.string ⟨#[]⟩)).setCell ⟨w.heap.size, 4, none⟩ (.string ⟨#[]⟩)).setCell ⟨w.heap.size, 5, none⟩ (.string ⟨#[]⟩)).setCell ⟨w.heap.size, 6, none⟩ (.int .i64 0)).setCell ⟨w.heap.size, 7, none⟩ (.bool false))) := (only_step (only_step (only_step (only_step (only_step (only_step (only_step (only_set (R := fun y => y = w.heap.size) (p := ⟨w.heap.size, 0, none⟩) rfl _) rfl 1 _) rfl 2 _) rfl 3 _) rfl 4 _) rfl 5 _) rfl 6 _) rfl 7 _)
    have BF := hid (B2.out.trans (OS.out.below B2.out.size (fun b hb q => by omega)))
    go_wp2
    try simp only [Exit.inBlock, Exit.then]
    refine bodyPost_ret (v := .agg #[.int .i64 1, .int .i64 0, .string ⟨#[]⟩, .string ⟨#[]⟩, .string ⟨#[]⟩, .string ⟨#[]⟩, .int .i64 0, .bool false]) ?_ rfl ?_
    · exact results_call rfl _ _ _ rfl (KF.out.cell (j := 0) rfl) (KF.out.cell (j := 1) rfl) (KF.out.cell (j := 2) rfl) (KF.out.cell (j := 3) rfl) (KF.out.cell (j := 4) rfl) (KF.out.cell (j := 5) rfl) (KF.out.cell (j := 6) rfl) (KF.out.cell (j := 7) rfl)
    · exact ⟨by rw [HV.out]; try rfl, BF.out⟩
  by_cases hcommit : rdW ws 0 = wCommit
  · have HV : Hid (ccS ws = (3, 0, ⟨#[]⟩, ⟨#[]⟩, ⟨#[]⟩, ⟨#[]⟩, 0, false)) := (if_neg hbegin).trans (if_pos hcommit)
    have ebegin : (word.toList == [98, 101, 103, 105, 110]) = false := by have := str_ne (show ¬ word = wBegin from hwd ▸ hbegin); rwa [show ByteArray.toList wBegin = [98, 101, 103, 105, 110] from by rw [ByteArray.toList_eq]; rfl] at this
    have ecommit : (word.toList == [99, 111, 109, 109, 105, 116]) = true := by rw [← hwd, hcommit, ByteArray.toList_eq]; rfl
    clear hbegin hcommit
    clear hwd
    have r0 := K2.out.cell (j := 0) rfl
    have rf0 := K2.out.free 0
    have r1 := K2.out.cell (j := 1) rfl
    have rf1 := K2.out.free 1
    have r2 := K2.out.cell (j := 2) rfl
    have rf2 := K2.out.free 2
    have r3 := K2.out.cell (j := 3) rfl
    have rf3 := K2.out.free 3
    have r4 := K2.out.cell (j := 4) rfl
    have rf4 := K2.out.free 4
    have r5 := K2.out.cell (j := 5) rfl
    have rf5 := K2.out.free 5
    have r6 := K2.out.cell (j := 6) rfl
    have rf6 := K2.out.free 6
    have r7 := K2.out.cell (j := 7) rfl
    have rf7 := K2.out.free 7
    have KF : Hid (Bk ((((((((w2.setCell ⟨w.heap.size, 0, none⟩ (.int .i64 3)).setCell ⟨w.heap.size, 1, none⟩ (.int .i64 0)).setCell ⟨w.heap.size, 2, none⟩ (.string ⟨#[]⟩)).setCell ⟨w.heap.size, 3, none⟩ (.string ⟨#[]⟩)).setCell ⟨w.heap.size, 4, none⟩ (.string ⟨#[]⟩)).setCell ⟨w.heap.size, 5, none⟩ (.string ⟨#[]⟩)).setCell ⟨w.heap.size, 6, none⟩ (.int .i64 0)).setCell ⟨w.heap.size, 7, none⟩ (.bool false)) w.heap.size 28 [.int .i64 3, .int .i64 0, .string ⟨#[]⟩, .string ⟨#[]⟩, .string ⟨#[]⟩, .string ⟨#[]⟩, .int .i64 0, .bool false]) := ((((((((K2.out.set 0 _).set 1 _).set 2 _).set 3 _).set 4 _).set 5 _).set 6 _).set 7 _)
    have OS : Hid (Only (fun y => y = w.heap.size) w2 ((((((((w2.setCell ⟨w.heap.size, 0, none⟩ (.int .i64 3)).setCell ⟨w.heap.size, 1, none⟩ (.int .i64 0)).setCell ⟨w.heap.size, 2, none⟩ (.string ⟨#[]⟩)).setCell ⟨w.heap.size, 3, none⟩ (.string ⟨#[]⟩)).setCell ⟨w.heap.size, 4, none⟩ (.string ⟨#[]⟩)).setCell ⟨w.heap.size, 5, none⟩ (.string ⟨#[]⟩)).setCell ⟨w.heap.size, 6, none⟩ (.int .i64 0)).setCell ⟨w.heap.size, 7, none⟩ (.bool false))) := (only_step (only_step (only_step (only_step (only_step (only_step (only_step (only_set (R := fun y => y = w.heap.size) (p := ⟨w.heap.size, 0, none⟩) rfl _) rfl 1 _) rfl 2 _) rfl 3 _) rfl 4 _) rfl 5 _) rfl 6 _) rfl 7 _)
    have BF := hid (B2.out.trans (OS.out.below B2.out.size (fun b hb q => by omega)))
    go_wp2
    try simp only [Exit.inBlock, Exit.then]
    refine bodyPost_ret (v := .agg #[.int .i64 3, .int .i64 0, .string ⟨#[]⟩, .string ⟨#[]⟩, .string ⟨#[]⟩, .string ⟨#[]⟩, .int .i64 0, .bool false]) ?_ rfl ?_
    · exact results_call rfl _ _ _ rfl (KF.out.cell (j := 0) rfl) (KF.out.cell (j := 1) rfl) (KF.out.cell (j := 2) rfl) (KF.out.cell (j := 3) rfl) (KF.out.cell (j := 4) rfl) (KF.out.cell (j := 5) rfl) (KF.out.cell (j := 6) rfl) (KF.out.cell (j := 7) rfl)
    · exact ⟨by rw [HV.out]; try rfl, BF.out⟩
  by_cases habort : rdW ws 0 = wAbort
  · have HV : Hid (ccS ws = (4, 0, ⟨#[]⟩, ⟨#[]⟩, ⟨#[]⟩, ⟨#[]⟩, 0, false)) := (if_neg hbegin).trans ((if_neg hcommit).trans (if_pos habort))
    have ebegin : (word.toList == [98, 101, 103, 105, 110]) = false := by have := str_ne (show ¬ word = wBegin from hwd ▸ hbegin); rwa [show ByteArray.toList wBegin = [98, 101, 103, 105, 110] from by rw [ByteArray.toList_eq]; rfl] at this
    have ecommit : (word.toList == [99, 111, 109, 109, 105, 116]) = false := by have := str_ne (show ¬ word = wCommit from hwd ▸ hcommit); rwa [show ByteArray.toList wCommit = [99, 111, 109, 109, 105, 116] from by rw [ByteArray.toList_eq]; rfl] at this
    have eabort : (word.toList == [97, 98, 111, 114, 116]) = true := by rw [← hwd, habort, ByteArray.toList_eq]; rfl
    clear hbegin hcommit habort
    clear hwd
    have r0 := K2.out.cell (j := 0) rfl
    have rf0 := K2.out.free 0
    have r1 := K2.out.cell (j := 1) rfl
    have rf1 := K2.out.free 1
    have r2 := K2.out.cell (j := 2) rfl
    have rf2 := K2.out.free 2
    have r3 := K2.out.cell (j := 3) rfl
    have rf3 := K2.out.free 3
    have r4 := K2.out.cell (j := 4) rfl
    have rf4 := K2.out.free 4
    have r5 := K2.out.cell (j := 5) rfl
    have rf5 := K2.out.free 5
    have r6 := K2.out.cell (j := 6) rfl
    have rf6 := K2.out.free 6
    have r7 := K2.out.cell (j := 7) rfl
    have rf7 := K2.out.free 7
    have KF : Hid (Bk ((((((((w2.setCell ⟨w.heap.size, 0, none⟩ (.int .i64 4)).setCell ⟨w.heap.size, 1, none⟩ (.int .i64 0)).setCell ⟨w.heap.size, 2, none⟩ (.string ⟨#[]⟩)).setCell ⟨w.heap.size, 3, none⟩ (.string ⟨#[]⟩)).setCell ⟨w.heap.size, 4, none⟩ (.string ⟨#[]⟩)).setCell ⟨w.heap.size, 5, none⟩ (.string ⟨#[]⟩)).setCell ⟨w.heap.size, 6, none⟩ (.int .i64 0)).setCell ⟨w.heap.size, 7, none⟩ (.bool false)) w.heap.size 28 [.int .i64 4, .int .i64 0, .string ⟨#[]⟩, .string ⟨#[]⟩, .string ⟨#[]⟩, .string ⟨#[]⟩, .int .i64 0, .bool false]) := ((((((((K2.out.set 0 _).set 1 _).set 2 _).set 3 _).set 4 _).set 5 _).set 6 _).set 7 _)
    have OS : Hid (Only (fun y => y = w.heap.size) w2 ((((((((w2.setCell ⟨w.heap.size, 0, none⟩ (.int .i64 4)).setCell ⟨w.heap.size, 1, none⟩ (.int .i64 0)).setCell ⟨w.heap.size, 2, none⟩ (.string ⟨#[]⟩)).setCell ⟨w.heap.size, 3, none⟩ (.string ⟨#[]⟩)).setCell ⟨w.heap.size, 4, none⟩ (.string ⟨#[]⟩)).setCell ⟨w.heap.size, 5, none⟩ (.string ⟨#[]⟩)).setCell ⟨w.heap.size, 6, none⟩ (.int .i64 0)).setCell ⟨w.heap.size, 7, none⟩ (.bool false))) := (only_step (only_step (only_step (only_step (only_step (only_step (only_step (only_set (R := fun y => y = w.heap.size) (p := ⟨w.heap.size, 0, none⟩) rfl _) rfl 1 _) rfl 2 _) rfl 3 _) rfl 4 _) rfl 5 _) rfl 6 _) rfl 7 _)
    have BF := hid (B2.out.trans (OS.out.below B2.out.size (fun b hb q => by omega)))
    go_wp2
    try simp only [Exit.inBlock, Exit.then]
    refine bodyPost_ret (v := .agg #[.int .i64 4, .int .i64 0, .string ⟨#[]⟩, .string ⟨#[]⟩, .string ⟨#[]⟩, .string ⟨#[]⟩, .int .i64 0, .bool false]) ?_ rfl ?_
    · exact results_call rfl _ _ _ rfl (KF.out.cell (j := 0) rfl) (KF.out.cell (j := 1) rfl) (KF.out.cell (j := 2) rfl) (KF.out.cell (j := 3) rfl) (KF.out.cell (j := 4) rfl) (KF.out.cell (j := 5) rfl) (KF.out.cell (j := 6) rfl) (KF.out.cell (j := 7) rfl)
    · exact ⟨by rw [HV.out]; try rfl, BF.out⟩
  by_cases hget : rdW ws 0 = wGet
  · have HV : Hid (ccS ws = (2, 1, (uqS (rdW ws 1)), ⟨#[]⟩, ⟨#[]⟩, ⟨#[]⟩, 0, false)) := by show _ = _; rw [ccS_call hbegin hcommit habort (.inl hget), caI_get hget, rdW_drop]
    have ebegin : (word.toList == [98, 101, 103, 105, 110]) = false := by have := str_ne (show ¬ word = wBegin from hwd ▸ hbegin); rwa [show ByteArray.toList wBegin = [98, 101, 103, 105, 110] from by rw [ByteArray.toList_eq]; rfl] at this
    have ecommit : (word.toList == [99, 111, 109, 109, 105, 116]) = false := by have := str_ne (show ¬ word = wCommit from hwd ▸ hcommit); rwa [show ByteArray.toList wCommit = [99, 111, 109, 109, 105, 116] from by rw [ByteArray.toList_eq]; rfl] at this
    have eabort : (word.toList == [97, 98, 111, 114, 116]) = false := by have := str_ne (show ¬ word = wAbort from hwd ▸ habort); rwa [show ByteArray.toList wAbort = [97, 98, 111, 114, 116] from by rw [ByteArray.toList_eq]; rfl] at this
    have eget : (word.toList == [103, 101, 116]) = true := by rw [← hwd, hget, ByteArray.toList_eq]; rfl
    clear hbegin hcommit habort hget
    clear hwd
    have r0 := K2.out.cell (j := 0) rfl
    have rf0 := K2.out.free 0
    have r1 := K2.out.cell (j := 1) rfl
    have rf1 := K2.out.free 1
    have r2 := K2.out.cell (j := 2) rfl
    have rf2 := K2.out.free 2
    have r3 := K2.out.cell (j := 3) rfl
    have rf3 := K2.out.free 3
    have r4 := K2.out.cell (j := 4) rfl
    have rf4 := K2.out.free 4
    have r5 := K2.out.cell (j := 5) rfl
    have rf5 := K2.out.free 5
    have r6 := K2.out.cell (j := 6) rfl
    have rf6 := K2.out.free 6
    have r7 := K2.out.cell (j := 7) rfl
    have rf7 := K2.out.free 7
    have KF : Hid (Bk ((((((((w2.setCell ⟨w.heap.size, 0, none⟩ (.int .i64 2)).setCell ⟨w.heap.size, 1, none⟩ (.int .i64 1)).setCell ⟨w.heap.size, 2, none⟩ (.string (uqS (rdW ws 1)))).setCell ⟨w.heap.size, 3, none⟩ (.string ⟨#[]⟩)).setCell ⟨w.heap.size, 4, none⟩ (.string ⟨#[]⟩)).setCell ⟨w.heap.size, 5, none⟩ (.string ⟨#[]⟩)).setCell ⟨w.heap.size, 6, none⟩ (.int .i64 0)).setCell ⟨w.heap.size, 7, none⟩ (.bool false)) w.heap.size 28 [.int .i64 2, .int .i64 1, .string (uqS (rdW ws 1)), .string ⟨#[]⟩, .string ⟨#[]⟩, .string ⟨#[]⟩, .int .i64 0, .bool false]) := ((((((((K2.out.set 0 _).set 1 _).set 2 _).set 3 _).set 4 _).set 5 _).set 6 _).set 7 _)
    have OS : Hid (Only (fun y => y = w.heap.size) w2 ((((((((w2.setCell ⟨w.heap.size, 0, none⟩ (.int .i64 2)).setCell ⟨w.heap.size, 1, none⟩ (.int .i64 1)).setCell ⟨w.heap.size, 2, none⟩ (.string (uqS (rdW ws 1)))).setCell ⟨w.heap.size, 3, none⟩ (.string ⟨#[]⟩)).setCell ⟨w.heap.size, 4, none⟩ (.string ⟨#[]⟩)).setCell ⟨w.heap.size, 5, none⟩ (.string ⟨#[]⟩)).setCell ⟨w.heap.size, 6, none⟩ (.int .i64 0)).setCell ⟨w.heap.size, 7, none⟩ (.bool false))) := (only_step (only_step (only_step (only_step (only_step (only_step (only_step (only_set (R := fun y => y = w.heap.size) (p := ⟨w.heap.size, 0, none⟩) rfl _) rfl 1 _) rfl 2 _) rfl 3 _) rfl 4 _) rfl 5 _) rfl 6 _) rfl 7 _)
    have BF := hid (B2.out.trans (OS.out.below B2.out.size (fun b hb q => by omega)))
    go_wp2
    try simp only [Exit.inBlock, Exit.then]
    refine bodyPost_ret (v := .agg #[.int .i64 2, .int .i64 1, .string (uqS (rdW ws 1)), .string ⟨#[]⟩, .string ⟨#[]⟩, .string ⟨#[]⟩, .int .i64 0, .bool false]) ?_ rfl ?_
    · exact results_call rfl _ _ _ rfl (KF.out.cell (j := 0) rfl) (KF.out.cell (j := 1) rfl) (KF.out.cell (j := 2) rfl) (KF.out.cell (j := 3) rfl) (KF.out.cell (j := 4) rfl) (KF.out.cell (j := 5) rfl) (KF.out.cell (j := 6) rfl) (KF.out.cell (j := 7) rfl)
    · exact ⟨by rw [HV.out]; try rfl, BF.out⟩
  by_cases hput : rdW ws 0 = wPut
  · have HV : Hid (ccS ws = (2, 2, (uqS (rdW ws 1)), (uqS (rdW ws 2)), ⟨#[]⟩, ⟨#[]⟩, 0, false)) := by show _ = _; rw [ccS_call hbegin hcommit habort (.inr (.inl hput)), caI_put hget hput, rdW_drop, rdW_drop]
    have ebegin : (word.toList == [98, 101, 103, 105, 110]) = false := by have := str_ne (show ¬ word = wBegin from hwd ▸ hbegin); rwa [show ByteArray.toList wBegin = [98, 101, 103, 105, 110] from by rw [ByteArray.toList_eq]; rfl] at this
    have ecommit : (word.toList == [99, 111, 109, 109, 105, 116]) = false := by have := str_ne (show ¬ word = wCommit from hwd ▸ hcommit); rwa [show ByteArray.toList wCommit = [99, 111, 109, 109, 105, 116] from by rw [ByteArray.toList_eq]; rfl] at this
    have eabort : (word.toList == [97, 98, 111, 114, 116]) = false := by have := str_ne (show ¬ word = wAbort from hwd ▸ habort); rwa [show ByteArray.toList wAbort = [97, 98, 111, 114, 116] from by rw [ByteArray.toList_eq]; rfl] at this
    have eget : (word.toList == [103, 101, 116]) = false := by have := str_ne (show ¬ word = wGet from hwd ▸ hget); rwa [show ByteArray.toList wGet = [103, 101, 116] from by rw [ByteArray.toList_eq]; rfl] at this
    have eput : (word.toList == [112, 117, 116]) = true := by rw [← hwd, hput, ByteArray.toList_eq]; rfl
    clear hbegin hcommit habort hget hput
    clear hwd
    have r0 := K2.out.cell (j := 0) rfl
    have rf0 := K2.out.free 0
    have r1 := K2.out.cell (j := 1) rfl
    have rf1 := K2.out.free 1
    have r2 := K2.out.cell (j := 2) rfl
    have rf2 := K2.out.free 2
    have r3 := K2.out.cell (j := 3) rfl
    have rf3 := K2.out.free 3
    have r4 := K2.out.cell (j := 4) rfl
    have rf4 := K2.out.free 4
    have r5 := K2.out.cell (j := 5) rfl
    have rf5 := K2.out.free 5
    have r6 := K2.out.cell (j := 6) rfl
    have rf6 := K2.out.free 6
    have r7 := K2.out.cell (j := 7) rfl
    have rf7 := K2.out.free 7
    have KF : Hid (Bk ((((((((w2.setCell ⟨w.heap.size, 0, none⟩ (.int .i64 2)).setCell ⟨w.heap.size, 1, none⟩ (.int .i64 2)).setCell ⟨w.heap.size, 2, none⟩ (.string (uqS (rdW ws 1)))).setCell ⟨w.heap.size, 3, none⟩ (.string (uqS (rdW ws 2)))).setCell ⟨w.heap.size, 4, none⟩ (.string ⟨#[]⟩)).setCell ⟨w.heap.size, 5, none⟩ (.string ⟨#[]⟩)).setCell ⟨w.heap.size, 6, none⟩ (.int .i64 0)).setCell ⟨w.heap.size, 7, none⟩ (.bool false)) w.heap.size 28 [.int .i64 2, .int .i64 2, .string (uqS (rdW ws 1)), .string (uqS (rdW ws 2)), .string ⟨#[]⟩, .string ⟨#[]⟩, .int .i64 0, .bool false]) := ((((((((K2.out.set 0 _).set 1 _).set 2 _).set 3 _).set 4 _).set 5 _).set 6 _).set 7 _)
    have OS : Hid (Only (fun y => y = w.heap.size) w2 ((((((((w2.setCell ⟨w.heap.size, 0, none⟩ (.int .i64 2)).setCell ⟨w.heap.size, 1, none⟩ (.int .i64 2)).setCell ⟨w.heap.size, 2, none⟩ (.string (uqS (rdW ws 1)))).setCell ⟨w.heap.size, 3, none⟩ (.string (uqS (rdW ws 2)))).setCell ⟨w.heap.size, 4, none⟩ (.string ⟨#[]⟩)).setCell ⟨w.heap.size, 5, none⟩ (.string ⟨#[]⟩)).setCell ⟨w.heap.size, 6, none⟩ (.int .i64 0)).setCell ⟨w.heap.size, 7, none⟩ (.bool false))) := (only_step (only_step (only_step (only_step (only_step (only_step (only_step (only_set (R := fun y => y = w.heap.size) (p := ⟨w.heap.size, 0, none⟩) rfl _) rfl 1 _) rfl 2 _) rfl 3 _) rfl 4 _) rfl 5 _) rfl 6 _) rfl 7 _)
    have BF := hid (B2.out.trans (OS.out.below B2.out.size (fun b hb q => by omega)))
    go_wp2
    try simp only [Exit.inBlock, Exit.then]
    refine bodyPost_ret (v := .agg #[.int .i64 2, .int .i64 2, .string (uqS (rdW ws 1)), .string (uqS (rdW ws 2)), .string ⟨#[]⟩, .string ⟨#[]⟩, .int .i64 0, .bool false]) ?_ rfl ?_
    · exact results_call rfl _ _ _ rfl (KF.out.cell (j := 0) rfl) (KF.out.cell (j := 1) rfl) (KF.out.cell (j := 2) rfl) (KF.out.cell (j := 3) rfl) (KF.out.cell (j := 4) rfl) (KF.out.cell (j := 5) rfl) (KF.out.cell (j := 6) rfl) (KF.out.cell (j := 7) rfl)
    · exact ⟨by rw [HV.out]; try rfl, BF.out⟩
  by_cases hdel : rdW ws 0 = wDel
  · have HV : Hid (ccS ws = (2, 3, (uqS (rdW ws 1)), ⟨#[]⟩, ⟨#[]⟩, ⟨#[]⟩, 0, false)) := by show _ = _; rw [ccS_call hbegin hcommit habort (.inr (.inr (.inl hdel))), caI_del hget hput hdel, rdW_drop]
    have ebegin : (word.toList == [98, 101, 103, 105, 110]) = false := by have := str_ne (show ¬ word = wBegin from hwd ▸ hbegin); rwa [show ByteArray.toList wBegin = [98, 101, 103, 105, 110] from by rw [ByteArray.toList_eq]; rfl] at this
    have ecommit : (word.toList == [99, 111, 109, 109, 105, 116]) = false := by have := str_ne (show ¬ word = wCommit from hwd ▸ hcommit); rwa [show ByteArray.toList wCommit = [99, 111, 109, 109, 105, 116] from by rw [ByteArray.toList_eq]; rfl] at this
    have eabort : (word.toList == [97, 98, 111, 114, 116]) = false := by have := str_ne (show ¬ word = wAbort from hwd ▸ habort); rwa [show ByteArray.toList wAbort = [97, 98, 111, 114, 116] from by rw [ByteArray.toList_eq]; rfl] at this
    have eget : (word.toList == [103, 101, 116]) = false := by have := str_ne (show ¬ word = wGet from hwd ▸ hget); rwa [show ByteArray.toList wGet = [103, 101, 116] from by rw [ByteArray.toList_eq]; rfl] at this
    have eput : (word.toList == [112, 117, 116]) = false := by have := str_ne (show ¬ word = wPut from hwd ▸ hput); rwa [show ByteArray.toList wPut = [112, 117, 116] from by rw [ByteArray.toList_eq]; rfl] at this
    have edel : (word.toList == [100, 101, 108]) = true := by rw [← hwd, hdel, ByteArray.toList_eq]; rfl
    clear hbegin hcommit habort hget hput hdel
    clear hwd
    have r0 := K2.out.cell (j := 0) rfl
    have rf0 := K2.out.free 0
    have r1 := K2.out.cell (j := 1) rfl
    have rf1 := K2.out.free 1
    have r2 := K2.out.cell (j := 2) rfl
    have rf2 := K2.out.free 2
    have r3 := K2.out.cell (j := 3) rfl
    have rf3 := K2.out.free 3
    have r4 := K2.out.cell (j := 4) rfl
    have rf4 := K2.out.free 4
    have r5 := K2.out.cell (j := 5) rfl
    have rf5 := K2.out.free 5
    have r6 := K2.out.cell (j := 6) rfl
    have rf6 := K2.out.free 6
    have r7 := K2.out.cell (j := 7) rfl
    have rf7 := K2.out.free 7
    have KF : Hid (Bk ((((((((w2.setCell ⟨w.heap.size, 0, none⟩ (.int .i64 2)).setCell ⟨w.heap.size, 1, none⟩ (.int .i64 3)).setCell ⟨w.heap.size, 2, none⟩ (.string (uqS (rdW ws 1)))).setCell ⟨w.heap.size, 3, none⟩ (.string ⟨#[]⟩)).setCell ⟨w.heap.size, 4, none⟩ (.string ⟨#[]⟩)).setCell ⟨w.heap.size, 5, none⟩ (.string ⟨#[]⟩)).setCell ⟨w.heap.size, 6, none⟩ (.int .i64 0)).setCell ⟨w.heap.size, 7, none⟩ (.bool false)) w.heap.size 28 [.int .i64 2, .int .i64 3, .string (uqS (rdW ws 1)), .string ⟨#[]⟩, .string ⟨#[]⟩, .string ⟨#[]⟩, .int .i64 0, .bool false]) := ((((((((K2.out.set 0 _).set 1 _).set 2 _).set 3 _).set 4 _).set 5 _).set 6 _).set 7 _)
    have OS : Hid (Only (fun y => y = w.heap.size) w2 ((((((((w2.setCell ⟨w.heap.size, 0, none⟩ (.int .i64 2)).setCell ⟨w.heap.size, 1, none⟩ (.int .i64 3)).setCell ⟨w.heap.size, 2, none⟩ (.string (uqS (rdW ws 1)))).setCell ⟨w.heap.size, 3, none⟩ (.string ⟨#[]⟩)).setCell ⟨w.heap.size, 4, none⟩ (.string ⟨#[]⟩)).setCell ⟨w.heap.size, 5, none⟩ (.string ⟨#[]⟩)).setCell ⟨w.heap.size, 6, none⟩ (.int .i64 0)).setCell ⟨w.heap.size, 7, none⟩ (.bool false))) := (only_step (only_step (only_step (only_step (only_step (only_step (only_step (only_set (R := fun y => y = w.heap.size) (p := ⟨w.heap.size, 0, none⟩) rfl _) rfl 1 _) rfl 2 _) rfl 3 _) rfl 4 _) rfl 5 _) rfl 6 _) rfl 7 _)
    have BF := hid (B2.out.trans (OS.out.below B2.out.size (fun b hb q => by omega)))
    go_wp2
    try simp only [Exit.inBlock, Exit.then]
    refine bodyPost_ret (v := .agg #[.int .i64 2, .int .i64 3, .string (uqS (rdW ws 1)), .string ⟨#[]⟩, .string ⟨#[]⟩, .string ⟨#[]⟩, .int .i64 0, .bool false]) ?_ rfl ?_
    · exact results_call rfl _ _ _ rfl (KF.out.cell (j := 0) rfl) (KF.out.cell (j := 1) rfl) (KF.out.cell (j := 2) rfl) (KF.out.cell (j := 3) rfl) (KF.out.cell (j := 4) rfl) (KF.out.cell (j := 5) rfl) (KF.out.cell (j := 6) rfl) (KF.out.cell (j := 7) rfl)
    · exact ⟨by rw [HV.out]; try rfl, BF.out⟩
  by_cases hback : rdW ws 0 = wBack
  · have hscan : ¬ rdW ws 0 = wScan := by rw [hback]; decide
    have HV : Hid (ccS ws = (2, 4, ⟨#[]⟩, ⟨#[]⟩, (uqS (rdW ws 1)), (uqS (rdW ws 2)), (tgN (rdW ws 3)), true)) := by show _ = _; rw [ccS_call hbegin hcommit habort (.inr (.inr (.inr (.inr hback)))), caI_scan hget hput hdel (.inr hback), rdW_drop, rdW_drop, rdW_drop, decide_eq_true hback]
    have ebegin : (word.toList == [98, 101, 103, 105, 110]) = false := by have := str_ne (show ¬ word = wBegin from hwd ▸ hbegin); rwa [show ByteArray.toList wBegin = [98, 101, 103, 105, 110] from by rw [ByteArray.toList_eq]; rfl] at this
    have ecommit : (word.toList == [99, 111, 109, 109, 105, 116]) = false := by have := str_ne (show ¬ word = wCommit from hwd ▸ hcommit); rwa [show ByteArray.toList wCommit = [99, 111, 109, 109, 105, 116] from by rw [ByteArray.toList_eq]; rfl] at this
    have eabort : (word.toList == [97, 98, 111, 114, 116]) = false := by have := str_ne (show ¬ word = wAbort from hwd ▸ habort); rwa [show ByteArray.toList wAbort = [97, 98, 111, 114, 116] from by rw [ByteArray.toList_eq]; rfl] at this
    have eget : (word.toList == [103, 101, 116]) = false := by have := str_ne (show ¬ word = wGet from hwd ▸ hget); rwa [show ByteArray.toList wGet = [103, 101, 116] from by rw [ByteArray.toList_eq]; rfl] at this
    have eput : (word.toList == [112, 117, 116]) = false := by have := str_ne (show ¬ word = wPut from hwd ▸ hput); rwa [show ByteArray.toList wPut = [112, 117, 116] from by rw [ByteArray.toList_eq]; rfl] at this
    have edel : (word.toList == [100, 101, 108]) = false := by have := str_ne (show ¬ word = wDel from hwd ▸ hdel); rwa [show ByteArray.toList wDel = [100, 101, 108] from by rw [ByteArray.toList_eq]; rfl] at this
    have escan : (word.toList == [115, 99, 97, 110]) = false := by have := str_ne (show ¬ word = wScan from hwd ▸ hscan); rwa [show ByteArray.toList wScan = [115, 99, 97, 110] from by rw [ByteArray.toList_eq]; rfl] at this
    have eback : (word.toList == [98, 97, 99, 107]) = true := by rw [← hwd, hback, ByteArray.toList_eq]; rfl
    clear hbegin hcommit habort hget hput hdel hscan hback
    clear hwd
    have CNN := hid (CN.out 3 _ H2.out)
    go_wp2_with fail
    clear hc
    refine wp_region_noPanic ?_
    refine wp_region_held_drew (S := fun v => v.cell? ⟨b, off, none⟩ = some (.string word)) (by kernel_rfl) (((below_drew w2).cell (p := ⟨b, off, none⟩) HBW.out).trans HC.out) (fun hHeld => ?_)
    simp only [List.size_toArray, List.length_cons, List.length_nil, Array.replicate_succ, Array.replicate_zero, Nat.reduceAdd, List.push_toArray, List.nil_append, List.cons_append]
    refine wpAnyH_take (i := 0) (v := (.string (uqS (rdW ws 1)))) rfl (by kernel_rfl) (by kernel_rfl) (by kernel_rfl) (fun _ _ _ h => h) (Or.inl ⟨by rfl, ?_⟩) (by assumption) ?_
    · intro w hSw
      (try dsimp only at hSw)
      go_simp
    try simp only [List.getElem_toArray]
    try simp only [List.getElem_cons_succ]
    try simp only [List.getElem_cons_zero]
    try simp only [Act.put]
    try simp only [List.setIfInBounds_toArray]
    try simp only [List.set_cons_succ]
    try simp only [List.set_cons_zero]
    refine wpAnyH_take (i := 1) (v := (.string (uqS (rdW ws 2)))) rfl (by kernel_rfl) (by kernel_rfl) (by kernel_rfl) (fun _ _ _ h => h) (Or.inl ⟨by rfl, ?_⟩) (by assumption) ?_
    · intro w hSw
      (try dsimp only at hSw)
      go_simp
    try simp only [List.getElem_toArray]
    try simp only [List.getElem_cons_succ]
    try simp only [List.getElem_cons_zero]
    try simp only [Act.put]
    try simp only [List.setIfInBounds_toArray]
    try simp only [List.set_cons_succ]
    try simp only [List.set_cons_zero]
    refine wpAnyH_take (i := 2) (v := (.agg #[.string (uqS (rdW ws 1)), .string (uqS (rdW ws 2))])) rfl (by kernel_rfl) (by kernel_rfl) (by kernel_rfl) (fun _ _ _ h => h) (Or.inl ⟨by rfl, ?_⟩) (by assumption) ?_
    · intro w hSw
      (try dsimp only at hSw)
      go_simp
    try simp only [List.getElem_toArray]
    try simp only [List.getElem_cons_succ]
    try simp only [List.getElem_cons_zero]
    try simp only [Act.put]
    try simp only [List.setIfInBounds_toArray]
    try simp only [List.set_cons_succ]
    try simp only [List.set_cons_zero]
    refine wpAnyH_take (i := 3) (v := (.slice (some ⟨b, off, none⟩) n c)) rfl (by kernel_rfl) (by kernel_rfl) (by kernel_rfl) (fun _ _ _ h => h) (Or.inl ⟨by rfl, ?_⟩) (by assumption) ?_
    · intro w hSw
      (try dsimp only at hSw)
      go_simp
    try simp only [List.getElem_toArray]
    try simp only [List.getElem_cons_succ]
    try simp only [List.getElem_cons_zero]
    try simp only [Act.put]
    try simp only [List.setIfInBounds_toArray]
    try simp only [List.set_cons_succ]
    try simp only [List.set_cons_zero]
    refine wpAnyH_take (i := 5) (v := (.slice (some ⟨b, off, none⟩) n c)) rfl (by kernel_rfl) (by kernel_rfl) (by kernel_rfl) (fun _ _ _ h => h) (Or.inl ⟨by rfl, ?_⟩) (by assumption) ?_
    · intro w hSw
      (try dsimp only at hSw)
      go_simp
    try simp only [List.getElem_toArray]
    try simp only [List.getElem_cons_succ]
    try simp only [List.getElem_cons_zero]
    try simp only [Act.put]
    try simp only [List.setIfInBounds_toArray]
    try simp only [List.set_cons_succ]
    try simp only [List.set_cons_zero]
    refine wpAnyH_take (i := 6) (v := (.pointer (some ⟨b, off, none⟩))) rfl (by kernel_rfl) (by kernel_rfl) (by kernel_rfl) (fun _ _ _ h => h) (Or.inl ⟨by rfl, ?_⟩) (by assumption) ?_
    · intro w hSw
      (try dsimp only at hSw)
      go_simp
      all_goals (try omega)
    try simp only [List.getElem_toArray]
    try simp only [List.getElem_cons_succ]
    try simp only [List.getElem_cons_zero]
    try simp only [Act.put]
    try simp only [List.setIfInBounds_toArray]
    try simp only [List.set_cons_succ]
    try simp only [List.set_cons_zero]
    refine wpAnyH_take (i := 7) (v := (.string word)) rfl (by kernel_rfl) (by kernel_rfl) (by kernel_rfl) (fun _ _ _ h => h) (Or.inl ⟨by rfl, ?_⟩) (by assumption) ?_
    · intro w hSw
      (try dsimp only at hSw)
      go_simp
    try simp only [List.getElem_toArray]
    try simp only [List.getElem_cons_succ]
    try simp only [List.getElem_cons_zero]
    try simp only [Act.put]
    try simp only [List.setIfInBounds_toArray]
    try simp only [List.set_cons_succ]
    try simp only [List.set_cons_zero]
    refine wpAnyH_take (i := 8) (v := (.bool true)) rfl (by kernel_rfl) (by kernel_rfl) (by kernel_rfl) (fun _ _ _ h => h) (Or.inl ⟨by rfl, ?_⟩) (by assumption) ?_
    · intro w hSw
      (try dsimp only at hSw)
      go_simp
    try simp only [List.getElem_toArray]
    try simp only [List.getElem_cons_succ]
    try simp only [List.getElem_cons_zero]
    try simp only [Act.put]
    try simp only [List.setIfInBounds_toArray]
    try simp only [List.set_cons_succ]
    try simp only [List.set_cons_zero]
    have B3 := hid (B2.out.trans ((below_drew w2).mono B2.out.size))
    have K3 := hid (K2.out.below (below_drew _))
    have H3 := hid (H2.out.below (below_drew _))
    have HC3 : Hid (w2.drew.cell? ⟨b, off, none⟩ = some (.string word)) := ((below_drew w2).cell (p := ⟨b, off, none⟩) HBW.out).trans HC.out
    have HB3 : Hid (b < w2.drew.heap.size) := Nat.lt_of_lt_of_le HBW.out (below_drew w2).size
    clear B2 K2 H2 CNN
    generalize w2.drew = w3 at *
    refine wpAnyH_ready (rs := [4]) (by kernel_rfl) (by simp) ?_
    refine AllReadyH.cons rfl (fun K1 hK => ?_) AllReadyH.nil
    go_simp
    refine (CN.out 3 _ H3.out).mono ?_
    rintro r w4 ⟨rfl, hb⟩
    go_wp2_with fail
    have B4 := hid (B3.out.trans (hb.mono B3.out.size))
    have K4 := hid (K3.out.below hb)
    have HC4 : Hid (w4.cell? ⟨b, off, none⟩ = some (.string word)) := (hb.cell (p := ⟨b, off, none⟩) HB3.out).trans HC3.out
    clear hb B3 K3 H3 HC3
    refine hK.out _ _ ?_ (fun hHeld => ?_)
    · exact HC4.out
    clear hK K1
    try simp only [List.getElem_toArray]
    try simp only [List.getElem_cons_succ]
    try simp only [List.getElem_cons_zero]
    try simp only [Act.put]
    try simp only [List.setIfInBounds_toArray]
    try simp only [List.set_cons_succ]
    try simp only [List.set_cons_zero]
    refine wpAnyH_take (i := 9) (v := (.agg #[.int .i64 4, .string ⟨#[]⟩, .string ⟨#[]⟩, .string (uqS (rdW ws 1)), .string (uqS (rdW ws 2)), .int .i64 (tgN (rdW ws 3)), .bool true])) rfl (by kernel_rfl) (by kernel_rfl) (by kernel_rfl) (fun _ _ _ h => h) (Or.inl ⟨by rfl, ?_⟩) (by assumption) ?_
    · intro w hSw
      (try dsimp only at hSw)
      go_simp
    try simp only [List.getElem_toArray]
    try simp only [List.getElem_cons_succ]
    try simp only [List.getElem_cons_zero]
    try simp only [Act.put]
    try simp only [List.setIfInBounds_toArray]
    try simp only [List.set_cons_succ]
    try simp only [List.set_cons_zero]
    refine wpAnyH_take (i := 10) (v := (.agg #[.int .i64 2, .int .i64 4, .string ⟨#[]⟩, .string ⟨#[]⟩, .string (uqS (rdW ws 1)), .string (uqS (rdW ws 2)), .int .i64 (tgN (rdW ws 3)), .bool true])) rfl (by kernel_rfl) (by kernel_rfl) (by kernel_rfl) (fun _ _ _ h => h) (Or.inl ⟨by rfl, ?_⟩) (by assumption) ?_
    · intro w hSw
      (try dsimp only at hSw)
      go_simp
    try simp only [List.getElem_toArray]
    try simp only [List.getElem_cons_succ]
    try simp only [List.getElem_cons_zero]
    try simp only [Act.put]
    try simp only [List.setIfInBounds_toArray]
    try simp only [List.set_cons_succ]
    try simp only [List.set_cons_zero]
    refine wpAnyH_ready (rs := [11]) (by kernel_rfl) (by simp) ?_
    refine AllReadyH.cons rfl (fun K1 hK => ?_) AllReadyH.nil
    have r0 := K4.out.cell (j := 0) rfl
    have rf0 := K4.out.free 0
    have r1 := K4.out.cell (j := 1) rfl
    have rf1 := K4.out.free 1
    have r2 := K4.out.cell (j := 2) rfl
    have rf2 := K4.out.free 2
    have r3 := K4.out.cell (j := 3) rfl
    have rf3 := K4.out.free 3
    have r4 := K4.out.cell (j := 4) rfl
    have rf4 := K4.out.free 4
    have r5 := K4.out.cell (j := 5) rfl
    have rf5 := K4.out.free 5
    have r6 := K4.out.cell (j := 6) rfl
    have rf6 := K4.out.free 6
    have r7 := K4.out.cell (j := 7) rfl
    have rf7 := K4.out.free 7
    have KF : Hid (Bk ((((((((w4.setCell ⟨w.heap.size, 0, none⟩ (.int .i64 2)).setCell ⟨w.heap.size, 1, none⟩ (.int .i64 4)).setCell ⟨w.heap.size, 2, none⟩ (.string ⟨#[]⟩)).setCell ⟨w.heap.size, 3, none⟩ (.string ⟨#[]⟩)).setCell ⟨w.heap.size, 4, none⟩ (.string (uqS (rdW ws 1)))).setCell ⟨w.heap.size, 5, none⟩ (.string (uqS (rdW ws 2)))).setCell ⟨w.heap.size, 6, none⟩ (.int .i64 (tgN (rdW ws 3)))).setCell ⟨w.heap.size, 7, none⟩ (.bool true)) w.heap.size 28 [.int .i64 2, .int .i64 4, .string ⟨#[]⟩, .string ⟨#[]⟩, .string (uqS (rdW ws 1)), .string (uqS (rdW ws 2)), .int .i64 (tgN (rdW ws 3)), .bool true]) := ((((((((K4.out.set 0 _).set 1 _).set 2 _).set 3 _).set 4 _).set 5 _).set 6 _).set 7 _)
    have OS : Hid (Only (fun y => y = w.heap.size) w4 ((((((((w4.setCell ⟨w.heap.size, 0, none⟩ (.int .i64 2)).setCell ⟨w.heap.size, 1, none⟩ (.int .i64 4)).setCell ⟨w.heap.size, 2, none⟩ (.string ⟨#[]⟩)).setCell ⟨w.heap.size, 3, none⟩ (.string ⟨#[]⟩)).setCell ⟨w.heap.size, 4, none⟩ (.string (uqS (rdW ws 1)))).setCell ⟨w.heap.size, 5, none⟩ (.string (uqS (rdW ws 2)))).setCell ⟨w.heap.size, 6, none⟩ (.int .i64 (tgN (rdW ws 3)))).setCell ⟨w.heap.size, 7, none⟩ (.bool true))) := (only_step (only_step (only_step (only_step (only_step (only_step (only_step (only_set (R := fun y => y = w.heap.size) (p := ⟨w.heap.size, 0, none⟩) rfl _) rfl 1 _) rfl 2 _) rfl 3 _) rfl 4 _) rfl 5 _) rfl 6 _) rfl 7 _)
    have BF := hid (B4.out.trans (OS.out.below B4.out.size (fun b hb q => by omega)))
    have HC5 : Hid (((((((((w4.setCell ⟨w.heap.size, 0, none⟩ (.int .i64 2)).setCell ⟨w.heap.size, 1, none⟩ (.int .i64 4)).setCell ⟨w.heap.size, 2, none⟩ (.string ⟨#[]⟩)).setCell ⟨w.heap.size, 3, none⟩ (.string ⟨#[]⟩)).setCell ⟨w.heap.size, 4, none⟩ (.string (uqS (rdW ws 1)))).setCell ⟨w.heap.size, 5, none⟩ (.string (uqS (rdW ws 2)))).setCell ⟨w.heap.size, 6, none⟩ (.int .i64 (tgN (rdW ws 3)))).setCell ⟨w.heap.size, 7, none⟩ (.bool true)).cell? ⟨b, off, none⟩ = some (.string word)) := (BF.out.cell (p := ⟨b, off, none⟩) HBX.out).trans HC0.out
    go_simp
    try go_wp2_with fail
    refine hK.out _ _ ?_ (fun hHeld => ?_)
    · exact HC5.out
    clear hK K1
    try simp only [List.getElem_toArray]
    try simp only [List.getElem_cons_succ]
    try simp only [List.getElem_cons_zero]
    try simp only [Act.put]
    try simp only [List.setIfInBounds_toArray]
    try simp only [List.set_cons_succ]
    try simp only [List.set_cons_zero]
    refine wpAnyH_done (by kernel_rfl) ?_ _
    refine NoPanic.normal ?_
    clear r0 rf0 r1 rf1 r2 rf2 r3 rf3 r4 rf4 r5 rf5 r6 rf6 r7 rf7
    generalize (((((((w4.setCell ⟨w.heap.size, 0, none⟩ (.int .i64 2)).setCell ⟨w.heap.size, 1, none⟩ (.int .i64 4)).setCell ⟨w.heap.size, 2, none⟩ (.string ⟨#[]⟩)).setCell ⟨w.heap.size, 3, none⟩ (.string ⟨#[]⟩)).setCell ⟨w.heap.size, 4, none⟩ (.string (uqS (rdW ws 1)))).setCell ⟨w.heap.size, 5, none⟩ (.string (uqS (rdW ws 2)))).setCell ⟨w.heap.size, 6, none⟩ (.int .i64 (tgN (rdW ws 3)))).setCell ⟨w.heap.size, 7, none⟩ (.bool true) = W9 at *
    go_wp2
    try simp only [Exit.inBlock, Exit.then]
    refine bodyPost_ret (v := .agg #[.int .i64 2, .int .i64 4, .string ⟨#[]⟩, .string ⟨#[]⟩, .string (uqS (rdW ws 1)), .string (uqS (rdW ws 2)), .int .i64 (tgN (rdW ws 3)), .bool true]) ?_ rfl ?_
    · exact results_call rfl _ _ _ rfl (KF.out.cell (j := 0) rfl) (KF.out.cell (j := 1) rfl) (KF.out.cell (j := 2) rfl) (KF.out.cell (j := 3) rfl) (KF.out.cell (j := 4) rfl) (KF.out.cell (j := 5) rfl) (KF.out.cell (j := 6) rfl) (KF.out.cell (j := 7) rfl)
    · exact ⟨by rw [HV.out]; try rfl, BF.out⟩
  by_cases hscan : rdW ws 0 = wScan
  · have HV : Hid (ccS ws = (2, 4, ⟨#[]⟩, ⟨#[]⟩, (uqS (rdW ws 1)), (uqS (rdW ws 2)), (tgN (rdW ws 3)), false)) := by show _ = _; rw [ccS_call hbegin hcommit habort (.inr (.inr (.inr (.inl hscan)))), caI_scan hget hput hdel (.inl hscan), rdW_drop, rdW_drop, rdW_drop, decide_eq_false hback]
    have ebegin : (word.toList == [98, 101, 103, 105, 110]) = false := by have := str_ne (show ¬ word = wBegin from hwd ▸ hbegin); rwa [show ByteArray.toList wBegin = [98, 101, 103, 105, 110] from by rw [ByteArray.toList_eq]; rfl] at this
    have ecommit : (word.toList == [99, 111, 109, 109, 105, 116]) = false := by have := str_ne (show ¬ word = wCommit from hwd ▸ hcommit); rwa [show ByteArray.toList wCommit = [99, 111, 109, 109, 105, 116] from by rw [ByteArray.toList_eq]; rfl] at this
    have eabort : (word.toList == [97, 98, 111, 114, 116]) = false := by have := str_ne (show ¬ word = wAbort from hwd ▸ habort); rwa [show ByteArray.toList wAbort = [97, 98, 111, 114, 116] from by rw [ByteArray.toList_eq]; rfl] at this
    have eget : (word.toList == [103, 101, 116]) = false := by have := str_ne (show ¬ word = wGet from hwd ▸ hget); rwa [show ByteArray.toList wGet = [103, 101, 116] from by rw [ByteArray.toList_eq]; rfl] at this
    have eput : (word.toList == [112, 117, 116]) = false := by have := str_ne (show ¬ word = wPut from hwd ▸ hput); rwa [show ByteArray.toList wPut = [112, 117, 116] from by rw [ByteArray.toList_eq]; rfl] at this
    have edel : (word.toList == [100, 101, 108]) = false := by have := str_ne (show ¬ word = wDel from hwd ▸ hdel); rwa [show ByteArray.toList wDel = [100, 101, 108] from by rw [ByteArray.toList_eq]; rfl] at this
    have eback : (word.toList == [98, 97, 99, 107]) = false := by have := str_ne (show ¬ word = wBack from hwd ▸ hback); rwa [show ByteArray.toList wBack = [98, 97, 99, 107] from by rw [ByteArray.toList_eq]; rfl] at this
    have escan : (word.toList == [115, 99, 97, 110]) = true := by rw [← hwd, hscan, ByteArray.toList_eq]; rfl
    clear hbegin hcommit habort hget hput hdel hback hscan
    clear hwd
    have CNN := hid (CN.out 3 _ H2.out)
    go_wp2_with fail
    clear hc
    refine wp_region_noPanic ?_
    refine wp_region_held_drew (S := fun v => v.cell? ⟨b, off, none⟩ = some (.string word)) (by kernel_rfl) (((below_drew w2).cell (p := ⟨b, off, none⟩) HBW.out).trans HC.out) (fun hHeld => ?_)
    simp only [List.size_toArray, List.length_cons, List.length_nil, Array.replicate_succ, Array.replicate_zero, Nat.reduceAdd, List.push_toArray, List.nil_append, List.cons_append]
    refine wpAnyH_take (i := 0) (v := (.string (uqS (rdW ws 1)))) rfl (by kernel_rfl) (by kernel_rfl) (by kernel_rfl) (fun _ _ _ h => h) (Or.inl ⟨by rfl, ?_⟩) (by assumption) ?_
    · intro w hSw
      (try dsimp only at hSw)
      go_simp
    try simp only [List.getElem_toArray]
    try simp only [List.getElem_cons_succ]
    try simp only [List.getElem_cons_zero]
    try simp only [Act.put]
    try simp only [List.setIfInBounds_toArray]
    try simp only [List.set_cons_succ]
    try simp only [List.set_cons_zero]
    refine wpAnyH_take (i := 1) (v := (.string (uqS (rdW ws 2)))) rfl (by kernel_rfl) (by kernel_rfl) (by kernel_rfl) (fun _ _ _ h => h) (Or.inl ⟨by rfl, ?_⟩) (by assumption) ?_
    · intro w hSw
      (try dsimp only at hSw)
      go_simp
    try simp only [List.getElem_toArray]
    try simp only [List.getElem_cons_succ]
    try simp only [List.getElem_cons_zero]
    try simp only [Act.put]
    try simp only [List.setIfInBounds_toArray]
    try simp only [List.set_cons_succ]
    try simp only [List.set_cons_zero]
    refine wpAnyH_take (i := 2) (v := (.agg #[.string (uqS (rdW ws 1)), .string (uqS (rdW ws 2))])) rfl (by kernel_rfl) (by kernel_rfl) (by kernel_rfl) (fun _ _ _ h => h) (Or.inl ⟨by rfl, ?_⟩) (by assumption) ?_
    · intro w hSw
      (try dsimp only at hSw)
      go_simp
    try simp only [List.getElem_toArray]
    try simp only [List.getElem_cons_succ]
    try simp only [List.getElem_cons_zero]
    try simp only [Act.put]
    try simp only [List.setIfInBounds_toArray]
    try simp only [List.set_cons_succ]
    try simp only [List.set_cons_zero]
    refine wpAnyH_take (i := 3) (v := (.slice (some ⟨b, off, none⟩) n c)) rfl (by kernel_rfl) (by kernel_rfl) (by kernel_rfl) (fun _ _ _ h => h) (Or.inl ⟨by rfl, ?_⟩) (by assumption) ?_
    · intro w hSw
      (try dsimp only at hSw)
      go_simp
    try simp only [List.getElem_toArray]
    try simp only [List.getElem_cons_succ]
    try simp only [List.getElem_cons_zero]
    try simp only [Act.put]
    try simp only [List.setIfInBounds_toArray]
    try simp only [List.set_cons_succ]
    try simp only [List.set_cons_zero]
    refine wpAnyH_take (i := 5) (v := (.slice (some ⟨b, off, none⟩) n c)) rfl (by kernel_rfl) (by kernel_rfl) (by kernel_rfl) (fun _ _ _ h => h) (Or.inl ⟨by rfl, ?_⟩) (by assumption) ?_
    · intro w hSw
      (try dsimp only at hSw)
      go_simp
    try simp only [List.getElem_toArray]
    try simp only [List.getElem_cons_succ]
    try simp only [List.getElem_cons_zero]
    try simp only [Act.put]
    try simp only [List.setIfInBounds_toArray]
    try simp only [List.set_cons_succ]
    try simp only [List.set_cons_zero]
    refine wpAnyH_take (i := 6) (v := (.pointer (some ⟨b, off, none⟩))) rfl (by kernel_rfl) (by kernel_rfl) (by kernel_rfl) (fun _ _ _ h => h) (Or.inl ⟨by rfl, ?_⟩) (by assumption) ?_
    · intro w hSw
      (try dsimp only at hSw)
      go_simp
      all_goals (try omega)
    try simp only [List.getElem_toArray]
    try simp only [List.getElem_cons_succ]
    try simp only [List.getElem_cons_zero]
    try simp only [Act.put]
    try simp only [List.setIfInBounds_toArray]
    try simp only [List.set_cons_succ]
    try simp only [List.set_cons_zero]
    refine wpAnyH_take (i := 7) (v := (.string word)) rfl (by kernel_rfl) (by kernel_rfl) (by kernel_rfl) (fun _ _ _ h => h) (Or.inl ⟨by rfl, ?_⟩) (by assumption) ?_
    · intro w hSw
      (try dsimp only at hSw)
      go_simp
    try simp only [List.getElem_toArray]
    try simp only [List.getElem_cons_succ]
    try simp only [List.getElem_cons_zero]
    try simp only [Act.put]
    try simp only [List.setIfInBounds_toArray]
    try simp only [List.set_cons_succ]
    try simp only [List.set_cons_zero]
    refine wpAnyH_take (i := 8) (v := (.bool false)) rfl (by kernel_rfl) (by kernel_rfl) (by kernel_rfl) (fun _ _ _ h => h) (Or.inl ⟨by rfl, ?_⟩) (by assumption) ?_
    · intro w hSw
      (try dsimp only at hSw)
      go_simp
    try simp only [List.getElem_toArray]
    try simp only [List.getElem_cons_succ]
    try simp only [List.getElem_cons_zero]
    try simp only [Act.put]
    try simp only [List.setIfInBounds_toArray]
    try simp only [List.set_cons_succ]
    try simp only [List.set_cons_zero]
    have B3 := hid (B2.out.trans ((below_drew w2).mono B2.out.size))
    have K3 := hid (K2.out.below (below_drew _))
    have H3 := hid (H2.out.below (below_drew _))
    have HC3 : Hid (w2.drew.cell? ⟨b, off, none⟩ = some (.string word)) := ((below_drew w2).cell (p := ⟨b, off, none⟩) HBW.out).trans HC.out
    have HB3 : Hid (b < w2.drew.heap.size) := Nat.lt_of_lt_of_le HBW.out (below_drew w2).size
    clear B2 K2 H2 CNN
    generalize w2.drew = w3 at *
    refine wpAnyH_ready (rs := [4]) (by kernel_rfl) (by simp) ?_
    refine AllReadyH.cons rfl (fun K1 hK => ?_) AllReadyH.nil
    go_simp
    refine (CN.out 3 _ H3.out).mono ?_
    rintro r w4 ⟨rfl, hb⟩
    go_wp2_with fail
    have B4 := hid (B3.out.trans (hb.mono B3.out.size))
    have K4 := hid (K3.out.below hb)
    have HC4 : Hid (w4.cell? ⟨b, off, none⟩ = some (.string word)) := (hb.cell (p := ⟨b, off, none⟩) HB3.out).trans HC3.out
    clear hb B3 K3 H3 HC3
    refine hK.out _ _ ?_ (fun hHeld => ?_)
    · exact HC4.out
    clear hK K1
    try simp only [List.getElem_toArray]
    try simp only [List.getElem_cons_succ]
    try simp only [List.getElem_cons_zero]
    try simp only [Act.put]
    try simp only [List.setIfInBounds_toArray]
    try simp only [List.set_cons_succ]
    try simp only [List.set_cons_zero]
    refine wpAnyH_take (i := 9) (v := (.agg #[.int .i64 4, .string ⟨#[]⟩, .string ⟨#[]⟩, .string (uqS (rdW ws 1)), .string (uqS (rdW ws 2)), .int .i64 (tgN (rdW ws 3)), .bool false])) rfl (by kernel_rfl) (by kernel_rfl) (by kernel_rfl) (fun _ _ _ h => h) (Or.inl ⟨by rfl, ?_⟩) (by assumption) ?_
    · intro w hSw
      (try dsimp only at hSw)
      go_simp
    try simp only [List.getElem_toArray]
    try simp only [List.getElem_cons_succ]
    try simp only [List.getElem_cons_zero]
    try simp only [Act.put]
    try simp only [List.setIfInBounds_toArray]
    try simp only [List.set_cons_succ]
    try simp only [List.set_cons_zero]
    refine wpAnyH_take (i := 10) (v := (.agg #[.int .i64 2, .int .i64 4, .string ⟨#[]⟩, .string ⟨#[]⟩, .string (uqS (rdW ws 1)), .string (uqS (rdW ws 2)), .int .i64 (tgN (rdW ws 3)), .bool false])) rfl (by kernel_rfl) (by kernel_rfl) (by kernel_rfl) (fun _ _ _ h => h) (Or.inl ⟨by rfl, ?_⟩) (by assumption) ?_
    · intro w hSw
      (try dsimp only at hSw)
      go_simp
    try simp only [List.getElem_toArray]
    try simp only [List.getElem_cons_succ]
    try simp only [List.getElem_cons_zero]
    try simp only [Act.put]
    try simp only [List.setIfInBounds_toArray]
    try simp only [List.set_cons_succ]
    try simp only [List.set_cons_zero]
    refine wpAnyH_ready (rs := [11]) (by kernel_rfl) (by simp) ?_
    refine AllReadyH.cons rfl (fun K1 hK => ?_) AllReadyH.nil
    have r0 := K4.out.cell (j := 0) rfl
    have rf0 := K4.out.free 0
    have r1 := K4.out.cell (j := 1) rfl
    have rf1 := K4.out.free 1
    have r2 := K4.out.cell (j := 2) rfl
    have rf2 := K4.out.free 2
    have r3 := K4.out.cell (j := 3) rfl
    have rf3 := K4.out.free 3
    have r4 := K4.out.cell (j := 4) rfl
    have rf4 := K4.out.free 4
    have r5 := K4.out.cell (j := 5) rfl
    have rf5 := K4.out.free 5
    have r6 := K4.out.cell (j := 6) rfl
    have rf6 := K4.out.free 6
    have r7 := K4.out.cell (j := 7) rfl
    have rf7 := K4.out.free 7
    have KF : Hid (Bk ((((((((w4.setCell ⟨w.heap.size, 0, none⟩ (.int .i64 2)).setCell ⟨w.heap.size, 1, none⟩ (.int .i64 4)).setCell ⟨w.heap.size, 2, none⟩ (.string ⟨#[]⟩)).setCell ⟨w.heap.size, 3, none⟩ (.string ⟨#[]⟩)).setCell ⟨w.heap.size, 4, none⟩ (.string (uqS (rdW ws 1)))).setCell ⟨w.heap.size, 5, none⟩ (.string (uqS (rdW ws 2)))).setCell ⟨w.heap.size, 6, none⟩ (.int .i64 (tgN (rdW ws 3)))).setCell ⟨w.heap.size, 7, none⟩ (.bool false)) w.heap.size 28 [.int .i64 2, .int .i64 4, .string ⟨#[]⟩, .string ⟨#[]⟩, .string (uqS (rdW ws 1)), .string (uqS (rdW ws 2)), .int .i64 (tgN (rdW ws 3)), .bool false]) := ((((((((K4.out.set 0 _).set 1 _).set 2 _).set 3 _).set 4 _).set 5 _).set 6 _).set 7 _)
    have OS : Hid (Only (fun y => y = w.heap.size) w4 ((((((((w4.setCell ⟨w.heap.size, 0, none⟩ (.int .i64 2)).setCell ⟨w.heap.size, 1, none⟩ (.int .i64 4)).setCell ⟨w.heap.size, 2, none⟩ (.string ⟨#[]⟩)).setCell ⟨w.heap.size, 3, none⟩ (.string ⟨#[]⟩)).setCell ⟨w.heap.size, 4, none⟩ (.string (uqS (rdW ws 1)))).setCell ⟨w.heap.size, 5, none⟩ (.string (uqS (rdW ws 2)))).setCell ⟨w.heap.size, 6, none⟩ (.int .i64 (tgN (rdW ws 3)))).setCell ⟨w.heap.size, 7, none⟩ (.bool false))) := (only_step (only_step (only_step (only_step (only_step (only_step (only_step (only_set (R := fun y => y = w.heap.size) (p := ⟨w.heap.size, 0, none⟩) rfl _) rfl 1 _) rfl 2 _) rfl 3 _) rfl 4 _) rfl 5 _) rfl 6 _) rfl 7 _)
    have BF := hid (B4.out.trans (OS.out.below B4.out.size (fun b hb q => by omega)))
    have HC5 : Hid (((((((((w4.setCell ⟨w.heap.size, 0, none⟩ (.int .i64 2)).setCell ⟨w.heap.size, 1, none⟩ (.int .i64 4)).setCell ⟨w.heap.size, 2, none⟩ (.string ⟨#[]⟩)).setCell ⟨w.heap.size, 3, none⟩ (.string ⟨#[]⟩)).setCell ⟨w.heap.size, 4, none⟩ (.string (uqS (rdW ws 1)))).setCell ⟨w.heap.size, 5, none⟩ (.string (uqS (rdW ws 2)))).setCell ⟨w.heap.size, 6, none⟩ (.int .i64 (tgN (rdW ws 3)))).setCell ⟨w.heap.size, 7, none⟩ (.bool false)).cell? ⟨b, off, none⟩ = some (.string word)) := (BF.out.cell (p := ⟨b, off, none⟩) HBX.out).trans HC0.out
    go_simp
    try go_wp2_with fail
    refine hK.out _ _ ?_ (fun hHeld => ?_)
    · exact HC5.out
    clear hK K1
    try simp only [List.getElem_toArray]
    try simp only [List.getElem_cons_succ]
    try simp only [List.getElem_cons_zero]
    try simp only [Act.put]
    try simp only [List.setIfInBounds_toArray]
    try simp only [List.set_cons_succ]
    try simp only [List.set_cons_zero]
    refine wpAnyH_done (by kernel_rfl) ?_ _
    refine NoPanic.normal ?_
    clear r0 rf0 r1 rf1 r2 rf2 r3 rf3 r4 rf4 r5 rf5 r6 rf6 r7 rf7
    generalize (((((((w4.setCell ⟨w.heap.size, 0, none⟩ (.int .i64 2)).setCell ⟨w.heap.size, 1, none⟩ (.int .i64 4)).setCell ⟨w.heap.size, 2, none⟩ (.string ⟨#[]⟩)).setCell ⟨w.heap.size, 3, none⟩ (.string ⟨#[]⟩)).setCell ⟨w.heap.size, 4, none⟩ (.string (uqS (rdW ws 1)))).setCell ⟨w.heap.size, 5, none⟩ (.string (uqS (rdW ws 2)))).setCell ⟨w.heap.size, 6, none⟩ (.int .i64 (tgN (rdW ws 3)))).setCell ⟨w.heap.size, 7, none⟩ (.bool false) = W9 at *
    go_wp2
    try simp only [Exit.inBlock, Exit.then]
    refine bodyPost_ret (v := .agg #[.int .i64 2, .int .i64 4, .string ⟨#[]⟩, .string ⟨#[]⟩, .string (uqS (rdW ws 1)), .string (uqS (rdW ws 2)), .int .i64 (tgN (rdW ws 3)), .bool false]) ?_ rfl ?_
    · exact results_call rfl _ _ _ rfl (KF.out.cell (j := 0) rfl) (KF.out.cell (j := 1) rfl) (KF.out.cell (j := 2) rfl) (KF.out.cell (j := 3) rfl) (KF.out.cell (j := 4) rfl) (KF.out.cell (j := 5) rfl) (KF.out.cell (j := 6) rfl) (KF.out.cell (j := 7) rfl)
    · exact ⟨by rw [HV.out]; try rfl, BF.out⟩
  have HV : Hid (ccS ws = (0, 0, ⟨#[]⟩, ⟨#[]⟩, ⟨#[]⟩, ⟨#[]⟩, 0, false)) := (if_neg hbegin).trans ((if_neg hcommit).trans ((if_neg habort).trans (if_neg (by rintro (q | q | q | q | q) <;> contradiction))))
  have ebegin : (word.toList == [98, 101, 103, 105, 110]) = false := by have := str_ne (show ¬ word = wBegin from hwd ▸ hbegin); rwa [show ByteArray.toList wBegin = [98, 101, 103, 105, 110] from by rw [ByteArray.toList_eq]; rfl] at this
  have ecommit : (word.toList == [99, 111, 109, 109, 105, 116]) = false := by have := str_ne (show ¬ word = wCommit from hwd ▸ hcommit); rwa [show ByteArray.toList wCommit = [99, 111, 109, 109, 105, 116] from by rw [ByteArray.toList_eq]; rfl] at this
  have eabort : (word.toList == [97, 98, 111, 114, 116]) = false := by have := str_ne (show ¬ word = wAbort from hwd ▸ habort); rwa [show ByteArray.toList wAbort = [97, 98, 111, 114, 116] from by rw [ByteArray.toList_eq]; rfl] at this
  have eget : (word.toList == [103, 101, 116]) = false := by have := str_ne (show ¬ word = wGet from hwd ▸ hget); rwa [show ByteArray.toList wGet = [103, 101, 116] from by rw [ByteArray.toList_eq]; rfl] at this
  have eput : (word.toList == [112, 117, 116]) = false := by have := str_ne (show ¬ word = wPut from hwd ▸ hput); rwa [show ByteArray.toList wPut = [112, 117, 116] from by rw [ByteArray.toList_eq]; rfl] at this
  have edel : (word.toList == [100, 101, 108]) = false := by have := str_ne (show ¬ word = wDel from hwd ▸ hdel); rwa [show ByteArray.toList wDel = [100, 101, 108] from by rw [ByteArray.toList_eq]; rfl] at this
  have escan : (word.toList == [115, 99, 97, 110]) = false := by have := str_ne (show ¬ word = wScan from hwd ▸ hscan); rwa [show ByteArray.toList wScan = [115, 99, 97, 110] from by rw [ByteArray.toList_eq]; rfl] at this
  have eback : (word.toList == [98, 97, 99, 107]) = false := by have := str_ne (show ¬ word = wBack from hwd ▸ hback); rwa [show ByteArray.toList wBack = [98, 97, 99, 107] from by rw [ByteArray.toList_eq]; rfl] at this
  clear hbegin hcommit habort hget hput hdel hscan hback
  clear hwd
  have r0 := K2.out.cell (j := 0) rfl
  have rf0 := K2.out.free 0
  have r1 := K2.out.cell (j := 1) rfl
  have rf1 := K2.out.free 1
  have r2 := K2.out.cell (j := 2) rfl
  have rf2 := K2.out.free 2
  have r3 := K2.out.cell (j := 3) rfl
  have rf3 := K2.out.free 3
  have r4 := K2.out.cell (j := 4) rfl
  have rf4 := K2.out.free 4
  have r5 := K2.out.cell (j := 5) rfl
  have rf5 := K2.out.free 5
  have r6 := K2.out.cell (j := 6) rfl
  have rf6 := K2.out.free 6
  have r7 := K2.out.cell (j := 7) rfl
  have rf7 := K2.out.free 7
  have KF : Hid (Bk ((((((((w2.setCell ⟨w.heap.size, 0, none⟩ (.int .i64 0)).setCell ⟨w.heap.size, 1, none⟩ (.int .i64 0)).setCell ⟨w.heap.size, 2, none⟩ (.string ⟨#[]⟩)).setCell ⟨w.heap.size, 3, none⟩ (.string ⟨#[]⟩)).setCell ⟨w.heap.size, 4, none⟩ (.string ⟨#[]⟩)).setCell ⟨w.heap.size, 5, none⟩ (.string ⟨#[]⟩)).setCell ⟨w.heap.size, 6, none⟩ (.int .i64 0)).setCell ⟨w.heap.size, 7, none⟩ (.bool false)) w.heap.size 28 [.int .i64 0, .int .i64 0, .string ⟨#[]⟩, .string ⟨#[]⟩, .string ⟨#[]⟩, .string ⟨#[]⟩, .int .i64 0, .bool false]) := ((((((((K2.out.set 0 _).set 1 _).set 2 _).set 3 _).set 4 _).set 5 _).set 6 _).set 7 _)
  have OS : Hid (Only (fun y => y = w.heap.size) w2 ((((((((w2.setCell ⟨w.heap.size, 0, none⟩ (.int .i64 0)).setCell ⟨w.heap.size, 1, none⟩ (.int .i64 0)).setCell ⟨w.heap.size, 2, none⟩ (.string ⟨#[]⟩)).setCell ⟨w.heap.size, 3, none⟩ (.string ⟨#[]⟩)).setCell ⟨w.heap.size, 4, none⟩ (.string ⟨#[]⟩)).setCell ⟨w.heap.size, 5, none⟩ (.string ⟨#[]⟩)).setCell ⟨w.heap.size, 6, none⟩ (.int .i64 0)).setCell ⟨w.heap.size, 7, none⟩ (.bool false))) := (only_step (only_step (only_step (only_step (only_step (only_step (only_step (only_set (R := fun y => y = w.heap.size) (p := ⟨w.heap.size, 0, none⟩) rfl _) rfl 1 _) rfl 2 _) rfl 3 _) rfl 4 _) rfl 5 _) rfl 6 _) rfl 7 _)
  have BF := hid (B2.out.trans (OS.out.below B2.out.size (fun b hb q => by omega)))
  go_wp2
  try simp only [Exit.inBlock, Exit.then]
  refine bodyPost_ret (v := .agg #[.int .i64 0, .int .i64 0, .string ⟨#[]⟩, .string ⟨#[]⟩, .string ⟨#[]⟩, .string ⟨#[]⟩, .int .i64 0, .bool false]) ?_ rfl ?_
  · exact results_call rfl _ _ _ rfl (KF.out.cell (j := 0) rfl) (KF.out.cell (j := 1) rfl) (KF.out.cell (j := 2) rfl) (KF.out.cell (j := 3) rfl) (KF.out.cell (j := 4) rfl) (KF.out.cell (j := 5) rfl) (KF.out.cell (j := 6) rfl) (KF.out.cell (j := 7) rfl)
  · exact ⟨by rw [HV.out]; try rfl, BF.out⟩
end Go.Proofs.YtjddkofpfmjojaaGreatDoor
