/-
  Replies: what the law's helper makes of one.
-/
import Derived.Test.YtnbafoennnhppabRyA
import Derived.Test.YtnbafoennnhppabAkL
namespace Go.Proofs.Ytnbafoennnhppab
open Go.RowKit
set_option linter.unusedVariables false
theorem ry_sets {w : World} {g : Nat} {T : TypeId} {z0 z1 z2 z3 z4 z5 z6 z7 z8 z9 z10 z11 z12 : Value} (h : Bk w g T [z0, z1, z2, z3, z4, z5, z6, z7, z8, z9, z10, z11, z12]) (a0 a1 a2 a3 a4 a5 a6 a7 a8 a9 a10 a11 a12 : Value) : Bk (((((((((((((w.setCell ⟨g, 0, none⟩ (a0)).setCell ⟨g, 1, none⟩ (a1)).setCell ⟨g, 2, none⟩ (a2)).setCell ⟨g, 3, none⟩ (a3)).setCell ⟨g, 4, none⟩ (a4)).setCell ⟨g, 5, none⟩ (a5)).setCell ⟨g, 6, none⟩ (a6)).setCell ⟨g, 7, none⟩ (a7)).setCell ⟨g, 8, none⟩ (a8)).setCell ⟨g, 9, none⟩ (a9)).setCell ⟨g, 10, none⟩ (a10)).setCell ⟨g, 11, none⟩ (a11)).setCell ⟨g, 12, none⟩ (a12)) g T [a0, a1, a2, a3, a4, a5, a6, a7, a8, a9, a10, a11, a12] := (setE (setE (setE (setE (setE (setE (setE (setE (setE (setE (setE (setE (setE h 0 a0 (ys := [a0, z1, z2, z3, z4, z5, z6, z7, z8, z9, z10, z11, z12]) rfl) 1 a1 (ys := [a0, a1, z2, z3, z4, z5, z6, z7, z8, z9, z10, z11, z12]) rfl) 2 a2 (ys := [a0, a1, a2, z3, z4, z5, z6, z7, z8, z9, z10, z11, z12]) rfl) 3 a3 (ys := [a0, a1, a2, a3, z4, z5, z6, z7, z8, z9, z10, z11, z12]) rfl) 4 a4 (ys := [a0, a1, a2, a3, a4, z5, z6, z7, z8, z9, z10, z11, z12]) rfl) 5 a5 (ys := [a0, a1, a2, a3, a4, a5, z6, z7, z8, z9, z10, z11, z12]) rfl) 6 a6 (ys := [a0, a1, a2, a3, a4, a5, a6, z7, z8, z9, z10, z11, z12]) rfl) 7 a7 (ys := [a0, a1, a2, a3, a4, a5, a6, a7, z8, z9, z10, z11, z12]) rfl) 8 a8 (ys := [a0, a1, a2, a3, a4, a5, a6, a7, a8, z9, z10, z11, z12]) rfl) 9 a9 (ys := [a0, a1, a2, a3, a4, a5, a6, a7, a8, a9, z10, z11, z12]) rfl) 10 a10 (ys := [a0, a1, a2, a3, a4, a5, a6, a7, a8, a9, a10, z11, z12]) rfl) 11 a11 (ys := [a0, a1, a2, a3, a4, a5, a6, a7, a8, a9, a10, a11, z12]) rfl) 12 a12 (ys := [a0, a1, a2, a3, a4, a5, a6, a7, a8, a9, a10, a11, a12]) rfl)
theorem ry_only {w : World} {g : Nat} {R : Nat → Prop} (hR : R g) (a0 a1 a2 a3 a4 a5 a6 a7 a8 a9 a10 a11 a12 : Value) : Only R w (((((((((((((w.setCell ⟨g, 0, none⟩ (a0)).setCell ⟨g, 1, none⟩ (a1)).setCell ⟨g, 2, none⟩ (a2)).setCell ⟨g, 3, none⟩ (a3)).setCell ⟨g, 4, none⟩ (a4)).setCell ⟨g, 5, none⟩ (a5)).setCell ⟨g, 6, none⟩ (a6)).setCell ⟨g, 7, none⟩ (a7)).setCell ⟨g, 8, none⟩ (a8)).setCell ⟨g, 9, none⟩ (a9)).setCell ⟨g, 10, none⟩ (a10)).setCell ⟨g, 11, none⟩ (a11)).setCell ⟨g, 12, none⟩ (a12)) := (only_step (only_step (only_step (only_step (only_step (only_step (only_step (only_step (only_step (only_step (only_step (only_step (only_set (R := R) (p := ⟨g, 0, none⟩) hR a0) hR 1 a1) hR 2 a2) hR 3 a3) hR 4 a4) hR 5 a5) hR 6 a6) hR 7 a7) hR 8 a8) hR 9 a9) hR 10 a10) hR 11 a11) hR 12 a12)
theorem load_reply {w : World} {g : Nat} {kd c e n k : Int} {ky vl lo hi : ByteArray} {mo : Int} {bk : Bool} {co : Int} {pa : Option Addr} {pn pc : Nat} (c0 : w.cell? ⟨g, 0, none⟩ = some (.int .i64 kd)) (c1 : w.cell? ⟨g, 1, none⟩ = some (.int .i64 c)) (c2 : w.cell? ⟨g, 2, none⟩ = some (.int .i64 e)) (c3 : w.cell? ⟨g, 3, none⟩ = some (.int .i64 n)) (c4 : w.cell? ⟨g, 4, none⟩ = some (.int .i64 k)) (c5 : w.cell? ⟨g, 5, none⟩ = some (.string ky)) (c6 : w.cell? ⟨g, 6, none⟩ = some (.string vl)) (c7 : w.cell? ⟨g, 7, none⟩ = some (.string lo)) (c8 : w.cell? ⟨g, 8, none⟩ = some (.string hi)) (c9 : w.cell? ⟨g, 9, none⟩ = some (.int .i64 mo)) (c10 : w.cell? ⟨g, 10, none⟩ = some (.bool bk)) (c11 : w.cell? ⟨g, 11, none⟩ = some (.int .i64 co)) (c12 : w.cell? ⟨g, 12, none⟩ = some (.slice pa pn pc)) :
    (loadVar 46 ⟨g, 0, none⟩).run Try.prog w = .ok (.agg #[.int .i64 kd, .int .i64 c, .int .i64 e, .int .i64 n, .int .i64 k, .string ky, .string vl, .string lo, .string hi, .int .i64 mo, .bool bk, .int .i64 co, .slice pa pn pc]) w := by go_simp
theorem results_reply {fn : Func} {p : Tmp} (h : fn.results = #[.cell p 46]) (tmps : Array Value) (w : World) (g : Nat) {kd c e n k : Int} {ky vl lo hi : ByteArray} {mo : Int} {bk : Bool} {co : Int} {pa : Option Addr} {pn pc : Nat} (hp : tmps.getD p undef = .pointer (some ⟨g, 0, none⟩)) (c0 : w.cell? ⟨g, 0, none⟩ = some (.int .i64 kd)) (c1 : w.cell? ⟨g, 1, none⟩ = some (.int .i64 c)) (c2 : w.cell? ⟨g, 2, none⟩ = some (.int .i64 e)) (c3 : w.cell? ⟨g, 3, none⟩ = some (.int .i64 n)) (c4 : w.cell? ⟨g, 4, none⟩ = some (.int .i64 k)) (c5 : w.cell? ⟨g, 5, none⟩ = some (.string ky)) (c6 : w.cell? ⟨g, 6, none⟩ = some (.string vl)) (c7 : w.cell? ⟨g, 7, none⟩ = some (.string lo)) (c8 : w.cell? ⟨g, 8, none⟩ = some (.string hi)) (c9 : w.cell? ⟨g, 9, none⟩ = some (.int .i64 mo)) (c10 : w.cell? ⟨g, 10, none⟩ = some (.bool bk)) (c11 : w.cell? ⟨g, 11, none⟩ = some (.int .i64 co)) (c12 : w.cell? ⟨g, 12, none⟩ = some (.slice pa pn pc)) :
    (results fn tmps).run Try.prog w = .ok (.agg #[.int .i64 kd, .int .i64 c, .int .i64 e, .int .i64 n, .int .i64 k, .string ky, .string vl, .string lo, .string hi, .int .i64 mo, .bool bk, .int .i64 co, .slice pa pn pc]) w := by
  have hp' : tmps[p]?.getD undef = .pointer (some ⟨g, 0, none⟩) := by simpa using hp
  simp [results, h, hp', asAddr, load_reply c0 c1 c2 c3 c4 c5 c6 c7 c8 c9 c10 c11 c12]
set_option maxHeartbeats 8000000 in
set_option maxRecDepth 20000 in
theorem toReply_any (S : Nat → Prop) (ps : List PB) (kd c e n k : Int) (ky vl lo hi : ByteArray) (mo : Int) (bk : Bool) (co : Int) (pa : Option Addr) (pn pc : Nat) (w : World) (h1 : Pr w S (.slice pa pn pc) ps) (hh : pn ≤ 1048576) :
    Calls Try.prog 14 #[.agg #[.int .i64 kd, .int .i64 c, .int .i64 e, .int .i64 n, .int .i64 k, .string ky, .string vl, .string lo, .string hi, .int .i64 mo, .bool bk, .int .i64 co, .slice pa pn pc]] w fun r w' => ∃ g0, r = .returned (.agg #[.int .i64 kd, .int .i64 c, .int .i64 e, .int .i64 n, .int .i64 k, .string ky, .string vl, .string lo, .string hi, .int .i64 mo, .bool bk, .int .i64 co, .slice (some ⟨g0, 0, none⟩) pn pn]) ∧ (w.heap.size ≤ g0 ∧ Bk w' g0 63 (pcs ps)) ∧ Below w.heap.size w w' := by
  have HN := hid (Rw.len h1).1
  have B0 : Hid (Below w.heap.size w (((w.alloc (.cells #[.int .i64 kd, .int .i64 c, .int .i64 e, .int .i64 n, .int .i64 k, .string ky, .string vl, .string lo, .string hi, .int .i64 mo, .bool bk, .int .i64 co, .slice pa pn pc] 40)).alloc (.cells #[.int .i64 0, .int .i64 0, .int .i64 0, .int .i64 0, .int .i64 0, .string ⟨#[]⟩, .string ⟨#[]⟩, .string ⟨#[]⟩, .string ⟨#[]⟩, .int .i64 0, .bool false, .int .i64 0, .slice none 0 0] 46)).alloc (.cells #[.int .i64 kd, .int .i64 0, .int .i64 0, .int .i64 0, .int .i64 0, .string ⟨#[]⟩, .string ⟨#[]⟩, .string ⟨#[]⟩, .string ⟨#[]⟩, .int .i64 0, .bool false, .int .i64 0, .slice none 0 0] 46))) := below_new (below_new (below_new (Below.refl _ _)))
  have C1 := hid (fun w => toTx_any c e n w)
  have C2 := hid (fun w => toAsk_any k ky vl lo hi mo bk w)
  have K0 := hid (((Bk.new w 40 [.int .i64 kd, .int .i64 c, .int .i64 e, .int .i64 n, .int .i64 k, .string ky, .string vl, .string lo, .string hi, .int .i64 mo, .bool bk, .int .i64 co, .slice pa pn pc]).alloc (.cells #[.int .i64 0, .int .i64 0, .int .i64 0, .int .i64 0, .int .i64 0, .string ⟨#[]⟩, .string ⟨#[]⟩, .string ⟨#[]⟩, .string ⟨#[]⟩, .int .i64 0, .bool false, .int .i64 0, .slice none 0 0] 46)).alloc (.cells #[.int .i64 kd, .int .i64 0, .int .i64 0, .int .i64 0, .int .i64 0, .string ⟨#[]⟩, .string ⟨#[]⟩, .string ⟨#[]⟩, .string ⟨#[]⟩, .int .i64 0, .bool false, .int .i64 0, .slice none 0 0] 46))
  have J0 := hid ((Bk.new (w.alloc (.cells #[.int .i64 kd, .int .i64 c, .int .i64 e, .int .i64 n, .int .i64 k, .string ky, .string vl, .string lo, .string hi, .int .i64 mo, .bool bk, .int .i64 co, .slice pa pn pc] 40)) 46 [.int .i64 0, .int .i64 0, .int .i64 0, .int .i64 0, .int .i64 0, .string ⟨#[]⟩, .string ⟨#[]⟩, .string ⟨#[]⟩, .string ⟨#[]⟩, .int .i64 0, .bool false, .int .i64 0, .slice none 0 0]).alloc (.cells #[.int .i64 kd, .int .i64 0, .int .i64 0, .int .i64 0, .int .i64 0, .string ⟨#[]⟩, .string ⟨#[]⟩, .string ⟨#[]⟩, .string ⟨#[]⟩, .int .i64 0, .bool false, .int .i64 0, .slice none 0 0] 46))
  have I0 := hid (Bk.new ((w.alloc (.cells #[.int .i64 kd, .int .i64 c, .int .i64 e, .int .i64 n, .int .i64 k, .string ky, .string vl, .string lo, .string hi, .int .i64 mo, .bool bk, .int .i64 co, .slice pa pn pc] 40)).alloc (.cells #[.int .i64 0, .int .i64 0, .int .i64 0, .int .i64 0, .int .i64 0, .string ⟨#[]⟩, .string ⟨#[]⟩, .string ⟨#[]⟩, .string ⟨#[]⟩, .int .i64 0, .bool false, .int .i64 0, .slice none 0 0] 46)) 46 [.int .i64 kd, .int .i64 0, .int .i64 0, .int .i64 0, .int .i64 0, .string ⟨#[]⟩, .string ⟨#[]⟩, .string ⟨#[]⟩, .string ⟨#[]⟩, .int .i64 0, .bool false, .int .i64 0, .slice none 0 0])
  rw [show (w.alloc (.cells #[.int .i64 kd, .int .i64 c, .int .i64 e, .int .i64 n, .int .i64 k, .string ky, .string vl, .string lo, .string hi, .int .i64 mo, .bool bk, .int .i64 co, .slice pa pn pc] 40)).heap.size = w.heap.size + 1 by simp] at J0
  rw [show ((w.alloc (.cells #[.int .i64 kd, .int .i64 c, .int .i64 e, .int .i64 n, .int .i64 k, .string ky, .string vl, .string lo, .string hi, .int .i64 mo, .bool bk, .int .i64 co, .slice pa pn pc] 40)).alloc (.cells #[.int .i64 0, .int .i64 0, .int .i64 0, .int .i64 0, .int .i64 0, .string ⟨#[]⟩, .string ⟨#[]⟩, .string ⟨#[]⟩, .string ⟨#[]⟩, .int .i64 0, .bool false, .int .i64 0, .slice none 0 0] 46)).heap.size = w.heap.size + 1 + 1 by simp] at I0
  have d1 : ¬ w.heap.size = w.heap.size + 1 + 1 := by omega
  have d2 : ¬ w.heap.size + 1 = w.heap.size + 1 + 1 := by omega
  have d3 : ¬ w.heap.size + 1 + 1 = w.heap.size + 1 := by omega
  have d4 : ¬ w.heap.size = w.heap.size + 1 := by omega
  have H0 := hid h1
  clear h1
  go_enter Try.func14, Try.ntmps14
  go_wp2_with fail
  refine (C1.out _).mono ?_
  generalize ((w.alloc (.cells #[.int .i64 kd, .int .i64 c, .int .i64 e, .int .i64 n, .int .i64 k, .string ky, .string vl, .string lo, .string hi, .int .i64 mo, .bool bk, .int .i64 co, .slice pa pn pc] 40)).alloc (.cells #[.int .i64 0, .int .i64 0, .int .i64 0, .int .i64 0, .int .i64 0, .string ⟨#[]⟩, .string ⟨#[]⟩, .string ⟨#[]⟩, .string ⟨#[]⟩, .int .i64 0, .bool false, .int .i64 0, .slice none 0 0] 46)).alloc (.cells #[.int .i64 kd, .int .i64 0, .int .i64 0, .int .i64 0, .int .i64 0, .string ⟨#[]⟩, .string ⟨#[]⟩, .string ⟨#[]⟩, .string ⟨#[]⟩, .int .i64 0, .bool false, .int .i64 0, .slice none 0 0] 46) = U at *
  rintro r w1 ⟨rfl, hb⟩
  have K1 := hid (K0.out.below hb)
  have J1 := hid (J0.out.below hb)
  have I1 := hid (I0.out.below hb)
  have B1 := hid (btR B0.out hb)
  clear hb K0 J0 I0 B0
  have x4 := K1.out.cell (j := 4) rfl
  have x5 := K1.out.cell (j := 5) rfl
  have x6 := K1.out.cell (j := 6) rfl
  have x7 := K1.out.cell (j := 7) rfl
  have x8 := K1.out.cell (j := 8) rfl
  have x9 := K1.out.cell (j := 9) rfl
  have x10 := K1.out.cell (j := 10) rfl
  have y0 := I1.out.cell (j := 0) rfl
  have y1 := I1.out.cell (j := 1) rfl
  have y2 := I1.out.cell (j := 2) rfl
  have y3 := I1.out.cell (j := 3) rfl
  have f1 := I1.out.free 1
  have f2 := I1.out.free 2
  have f3 := I1.out.free 3
  have I2 : Hid (Bk (((w1.setCell ⟨w.heap.size + 1 + 1, 1, none⟩ (.int .i64 c)).setCell ⟨w.heap.size + 1 + 1, 2, none⟩ (.int .i64 e)).setCell ⟨w.heap.size + 1 + 1, 3, none⟩ (.int .i64 n)) (w.heap.size + 1 + 1) 46 [.int .i64 kd, .int .i64 c, .int .i64 e, .int .i64 n, .int .i64 0, .string ⟨#[]⟩, .string ⟨#[]⟩, .string ⟨#[]⟩, .string ⟨#[]⟩, .int .i64 0, .bool false, .int .i64 0, .slice none 0 0]) := (((I1.out.set 1 _).set 2 _).set 3 _)
  have J2 : Hid (Bk (((w1.setCell ⟨w.heap.size + 1 + 1, 1, none⟩ (.int .i64 c)).setCell ⟨w.heap.size + 1 + 1, 2, none⟩ (.int .i64 e)).setCell ⟨w.heap.size + 1 + 1, 3, none⟩ (.int .i64 n)) (w.heap.size + 1) 46 [.int .i64 0, .int .i64 0, .int .i64 0, .int .i64 0, .int .i64 0, .string ⟨#[]⟩, .string ⟨#[]⟩, .string ⟨#[]⟩, .string ⟨#[]⟩, .int .i64 0, .bool false, .int .i64 0, .slice none 0 0]) := (((J1.out.setOther (by omega) _ _).setOther (by omega) _ _).setOther (by omega) _ _)
  have K2 : Hid (Bk (((w1.setCell ⟨w.heap.size + 1 + 1, 1, none⟩ (.int .i64 c)).setCell ⟨w.heap.size + 1 + 1, 2, none⟩ (.int .i64 e)).setCell ⟨w.heap.size + 1 + 1, 3, none⟩ (.int .i64 n)) w.heap.size 40 [.int .i64 kd, .int .i64 c, .int .i64 e, .int .i64 n, .int .i64 k, .string ky, .string vl, .string lo, .string hi, .int .i64 mo, .bool bk, .int .i64 co, .slice pa pn pc]) := (((K1.out.setOther (by omega) _ _).setOther (by omega) _ _).setOther (by omega) _ _)
  have B2 : Hid (Below w.heap.size w (((w1.setCell ⟨w.heap.size + 1 + 1, 1, none⟩ (.int .i64 c)).setCell ⟨w.heap.size + 1 + 1, 2, none⟩ (.int .i64 e)).setCell ⟨w.heap.size + 1 + 1, 3, none⟩ (.int .i64 n))) := (((B1.out.setCell (p := ⟨w.heap.size + 1 + 1, 1, none⟩) (by simp; omega) _).setCell (p := ⟨w.heap.size + 1 + 1, 2, none⟩) (by simp; omega) _).setCell (p := ⟨w.heap.size + 1 + 1, 3, none⟩) (by simp; omega) _)
  go_wp2_with fail
  refine (C2.out _).mono ?_
  generalize (((w1.setCell ⟨w.heap.size + 1 + 1, 1, none⟩ (.int .i64 c)).setCell ⟨w.heap.size + 1 + 1, 2, none⟩ (.int .i64 e)).setCell ⟨w.heap.size + 1 + 1, 3, none⟩ (.int .i64 n)) = V at *
  rintro r w2 ⟨rfl, hb⟩
  have K3 := hid (K2.out.below hb)
  have J3 := hid (J2.out.below hb)
  have I3 := hid (I2.out.below hb)
  have B3 := hid (btR B2.out hb)
  clear hb K1 J1 I1 B1 K2 J2 I2 B2 x4 x5 x6 x7 x8 x9 x10 y0 y1 y2 y3 f1 f2 f3
  have x11 := K3.out.cell (j := 11) rfl
  have x12 := K3.out.cell (j := 12) rfl
  have y0 := I3.out.cell (j := 0) rfl
  have y1 := I3.out.cell (j := 1) rfl
  have y2 := I3.out.cell (j := 2) rfl
  have y3 := I3.out.cell (j := 3) rfl
  have y4 := I3.out.cell (j := 4) rfl
  have y5 := I3.out.cell (j := 5) rfl
  have y6 := I3.out.cell (j := 6) rfl
  have y7 := I3.out.cell (j := 7) rfl
  have y8 := I3.out.cell (j := 8) rfl
  have y9 := I3.out.cell (j := 9) rfl
  have y10 := I3.out.cell (j := 10) rfl
  have y11 := I3.out.cell (j := 11) rfl
  have f4 := I3.out.free 4
  have f5 := I3.out.free 5
  have f6 := I3.out.free 6
  have f7 := I3.out.free 7
  have f8 := I3.out.free 8
  have f9 := I3.out.free 9
  have f10 := I3.out.free 10
  have f11 := I3.out.free 11
  have I4 : Hid (Bk ((((((((w2.setCell ⟨w.heap.size + 1 + 1, 4, none⟩ (.int .i64 k)).setCell ⟨w.heap.size + 1 + 1, 5, none⟩ (.string ky)).setCell ⟨w.heap.size + 1 + 1, 6, none⟩ (.string vl)).setCell ⟨w.heap.size + 1 + 1, 7, none⟩ (.string lo)).setCell ⟨w.heap.size + 1 + 1, 8, none⟩ (.string hi)).setCell ⟨w.heap.size + 1 + 1, 9, none⟩ (.int .i64 mo)).setCell ⟨w.heap.size + 1 + 1, 10, none⟩ (.bool bk)).setCell ⟨w.heap.size + 1 + 1, 11, none⟩ (.int .i64 co)) (w.heap.size + 1 + 1) 46 [.int .i64 kd, .int .i64 c, .int .i64 e, .int .i64 n, .int .i64 k, .string ky, .string vl, .string lo, .string hi, .int .i64 mo, .bool bk, .int .i64 co, .slice none 0 0]) := ((((((((I3.out.set 4 _).set 5 _).set 6 _).set 7 _).set 8 _).set 9 _).set 10 _).set 11 _)
  have J4 : Hid (Bk ((((((((w2.setCell ⟨w.heap.size + 1 + 1, 4, none⟩ (.int .i64 k)).setCell ⟨w.heap.size + 1 + 1, 5, none⟩ (.string ky)).setCell ⟨w.heap.size + 1 + 1, 6, none⟩ (.string vl)).setCell ⟨w.heap.size + 1 + 1, 7, none⟩ (.string lo)).setCell ⟨w.heap.size + 1 + 1, 8, none⟩ (.string hi)).setCell ⟨w.heap.size + 1 + 1, 9, none⟩ (.int .i64 mo)).setCell ⟨w.heap.size + 1 + 1, 10, none⟩ (.bool bk)).setCell ⟨w.heap.size + 1 + 1, 11, none⟩ (.int .i64 co)) (w.heap.size + 1) 46 [.int .i64 0, .int .i64 0, .int .i64 0, .int .i64 0, .int .i64 0, .string ⟨#[]⟩, .string ⟨#[]⟩, .string ⟨#[]⟩, .string ⟨#[]⟩, .int .i64 0, .bool false, .int .i64 0, .slice none 0 0]) := ((((((((J3.out.setOther (by omega) _ _).setOther (by omega) _ _).setOther (by omega) _ _).setOther (by omega) _ _).setOther (by omega) _ _).setOther (by omega) _ _).setOther (by omega) _ _).setOther (by omega) _ _)
  have K4 : Hid (Bk ((((((((w2.setCell ⟨w.heap.size + 1 + 1, 4, none⟩ (.int .i64 k)).setCell ⟨w.heap.size + 1 + 1, 5, none⟩ (.string ky)).setCell ⟨w.heap.size + 1 + 1, 6, none⟩ (.string vl)).setCell ⟨w.heap.size + 1 + 1, 7, none⟩ (.string lo)).setCell ⟨w.heap.size + 1 + 1, 8, none⟩ (.string hi)).setCell ⟨w.heap.size + 1 + 1, 9, none⟩ (.int .i64 mo)).setCell ⟨w.heap.size + 1 + 1, 10, none⟩ (.bool bk)).setCell ⟨w.heap.size + 1 + 1, 11, none⟩ (.int .i64 co)) w.heap.size 40 [.int .i64 kd, .int .i64 c, .int .i64 e, .int .i64 n, .int .i64 k, .string ky, .string vl, .string lo, .string hi, .int .i64 mo, .bool bk, .int .i64 co, .slice pa pn pc]) := ((((((((K3.out.setOther (by omega) _ _).setOther (by omega) _ _).setOther (by omega) _ _).setOther (by omega) _ _).setOther (by omega) _ _).setOther (by omega) _ _).setOther (by omega) _ _).setOther (by omega) _ _)
  have B4 : Hid (Below w.heap.size w ((((((((w2.setCell ⟨w.heap.size + 1 + 1, 4, none⟩ (.int .i64 k)).setCell ⟨w.heap.size + 1 + 1, 5, none⟩ (.string ky)).setCell ⟨w.heap.size + 1 + 1, 6, none⟩ (.string vl)).setCell ⟨w.heap.size + 1 + 1, 7, none⟩ (.string lo)).setCell ⟨w.heap.size + 1 + 1, 8, none⟩ (.string hi)).setCell ⟨w.heap.size + 1 + 1, 9, none⟩ (.int .i64 mo)).setCell ⟨w.heap.size + 1 + 1, 10, none⟩ (.bool bk)).setCell ⟨w.heap.size + 1 + 1, 11, none⟩ (.int .i64 co))) := ((((((((B3.out.setCell (p := ⟨w.heap.size + 1 + 1, 4, none⟩) (by simp; omega) _).setCell (p := ⟨w.heap.size + 1 + 1, 5, none⟩) (by simp; omega) _).setCell (p := ⟨w.heap.size + 1 + 1, 6, none⟩) (by simp; omega) _).setCell (p := ⟨w.heap.size + 1 + 1, 7, none⟩) (by simp; omega) _).setCell (p := ⟨w.heap.size + 1 + 1, 8, none⟩) (by simp; omega) _).setCell (p := ⟨w.heap.size + 1 + 1, 9, none⟩) (by simp; omega) _).setCell (p := ⟨w.heap.size + 1 + 1, 10, none⟩) (by simp; omega) _).setCell (p := ⟨w.heap.size + 1 + 1, 11, none⟩) (by simp; omega) _)
  go_wp2_with fail
  refine (toPairS_at S pa pn pc ps _ (H0.out.below B4.out) hh).mono ?_
  generalize ((((((((w2.setCell ⟨w.heap.size + 1 + 1, 4, none⟩ (.int .i64 k)).setCell ⟨w.heap.size + 1 + 1, 5, none⟩ (.string ky)).setCell ⟨w.heap.size + 1 + 1, 6, none⟩ (.string vl)).setCell ⟨w.heap.size + 1 + 1, 7, none⟩ (.string lo)).setCell ⟨w.heap.size + 1 + 1, 8, none⟩ (.string hi)).setCell ⟨w.heap.size + 1 + 1, 9, none⟩ (.int .i64 mo)).setCell ⟨w.heap.size + 1 + 1, 10, none⟩ (.bool bk)).setCell ⟨w.heap.size + 1 + 1, 11, none⟩ (.int .i64 co)) = V2 at *
  have SV : Hid (w.heap.size + 1 + 1 < V2.heap.size) := I4.out.lt
  generalize hg1 : V2.heap.size = g1 at *
  have HG1 := hid hg1
  clear hg1
  rintro r w3 ⟨rfl, hk, hb⟩
  rw [← HG1.out] at hb
  have E5 := hid hk
  have K5 := hid (K4.out.below hb)
  have J5 := hid (J4.out.below hb)
  have I5 := hid (I4.out.below hb)
  have B5 := hid (B4.out.trans (hb.mono B4.out.size))
  clear hb hk K3 J3 I3 B3 K4 J4 I4 B4 x11 x12 y0 y1 y2 y3 y4 y5 y6 y7 y8 y9 y10 y11 f4 f5 f6 f7 f8 f9 f10 f11
  have y0 := I5.out.cell (j := 0) rfl
  have y1 := I5.out.cell (j := 1) rfl
  have y2 := I5.out.cell (j := 2) rfl
  have y3 := I5.out.cell (j := 3) rfl
  have y4 := I5.out.cell (j := 4) rfl
  have y5 := I5.out.cell (j := 5) rfl
  have y6 := I5.out.cell (j := 6) rfl
  have y7 := I5.out.cell (j := 7) rfl
  have y8 := I5.out.cell (j := 8) rfl
  have y9 := I5.out.cell (j := 9) rfl
  have y10 := I5.out.cell (j := 10) rfl
  have y11 := I5.out.cell (j := 11) rfl
  have y12 := I5.out.cell (j := 12) rfl
  have f12 := I5.out.free 12
  have z0 := J5.out.cell (j := 0) rfl
  have z1 := J5.out.cell (j := 1) rfl
  have z2 := J5.out.cell (j := 2) rfl
  have z3 := J5.out.cell (j := 3) rfl
  have z4 := J5.out.cell (j := 4) rfl
  have z5 := J5.out.cell (j := 5) rfl
  have z6 := J5.out.cell (j := 6) rfl
  have z7 := J5.out.cell (j := 7) rfl
  have z8 := J5.out.cell (j := 8) rfl
  have z9 := J5.out.cell (j := 9) rfl
  have z10 := J5.out.cell (j := 10) rfl
  have z11 := J5.out.cell (j := 11) rfl
  have z12 := J5.out.cell (j := 12) rfl
  have e0 := J5.out.free 0
  have e1 := J5.out.free 1
  have e2 := J5.out.free 2
  have e3 := J5.out.free 3
  have e4 := J5.out.free 4
  have e5 := J5.out.free 5
  have e6 := J5.out.free 6
  have e7 := J5.out.free 7
  have e8 := J5.out.free 8
  have e9 := J5.out.free 9
  have e10 := J5.out.free 10
  have e11 := J5.out.free 11
  have e12 := J5.out.free 12
  have HF : Hid (∀ W, Only (fun y => y = w.heap.size + 1 ∨ y = w.heap.size + 1 + 1) w3 W → (w.heap.size ≤ g1 ∧ Bk W g1 63 (pcs ps)) ∧ Below w.heap.size w W) := fun W hW => by
    have s2 := SV.out
    refine ⟨⟨by omega, E5.out.to hW (fun e => by omega)⟩, B5.out.trans (hW.below B5.out.size (fun b hb e => by omega))⟩
  clear E5 B5
  have J6 : Hid (Bk (w3.setCell ⟨w.heap.size + 1 + 1, 12, none⟩ (.slice (some ⟨g1, 0, none⟩) pn pn)) (w.heap.size + 1) 46 [.int .i64 0, .int .i64 0, .int .i64 0, .int .i64 0, .int .i64 0, .string ⟨#[]⟩, .string ⟨#[]⟩, .string ⟨#[]⟩, .string ⟨#[]⟩, .int .i64 0, .bool false, .int .i64 0, .slice none 0 0]) := J5.out.setOther (by omega) _ _
  have J7 : Hid (Bk ((((((((((((((w3.setCell ⟨w.heap.size + 1 + 1, 12, none⟩ (.slice (some ⟨g1, 0, none⟩) pn pn)).setCell ⟨w.heap.size + 1, 0, none⟩ (.int .i64 kd)).setCell ⟨w.heap.size + 1, 1, none⟩ (.int .i64 c)).setCell ⟨w.heap.size + 1, 2, none⟩ (.int .i64 e)).setCell ⟨w.heap.size + 1, 3, none⟩ (.int .i64 n)).setCell ⟨w.heap.size + 1, 4, none⟩ (.int .i64 k)).setCell ⟨w.heap.size + 1, 5, none⟩ (.string ky)).setCell ⟨w.heap.size + 1, 6, none⟩ (.string vl)).setCell ⟨w.heap.size + 1, 7, none⟩ (.string lo)).setCell ⟨w.heap.size + 1, 8, none⟩ (.string hi)).setCell ⟨w.heap.size + 1, 9, none⟩ (.int .i64 mo)).setCell ⟨w.heap.size + 1, 10, none⟩ (.bool bk)).setCell ⟨w.heap.size + 1, 11, none⟩ (.int .i64 co)).setCell ⟨w.heap.size + 1, 12, none⟩ (.slice (some ⟨g1, 0, none⟩) pn pn)) (w.heap.size + 1) 46 [.int .i64 kd, .int .i64 c, .int .i64 e, .int .i64 n, .int .i64 k, .string ky, .string vl, .string lo, .string hi, .int .i64 mo, .bool bk, .int .i64 co, .slice (some ⟨g1, 0, none⟩) pn pn]) := ry_sets J6.out _ _ _ _ _ _ _ _ _ _ _ _ _
  have O7 : Hid (Only (fun y => y = w.heap.size + 1 ∨ y = w.heap.size + 1 + 1) w3 ((((((((((((((w3.setCell ⟨w.heap.size + 1 + 1, 12, none⟩ (.slice (some ⟨g1, 0, none⟩) pn pn)).setCell ⟨w.heap.size + 1, 0, none⟩ (.int .i64 kd)).setCell ⟨w.heap.size + 1, 1, none⟩ (.int .i64 c)).setCell ⟨w.heap.size + 1, 2, none⟩ (.int .i64 e)).setCell ⟨w.heap.size + 1, 3, none⟩ (.int .i64 n)).setCell ⟨w.heap.size + 1, 4, none⟩ (.int .i64 k)).setCell ⟨w.heap.size + 1, 5, none⟩ (.string ky)).setCell ⟨w.heap.size + 1, 6, none⟩ (.string vl)).setCell ⟨w.heap.size + 1, 7, none⟩ (.string lo)).setCell ⟨w.heap.size + 1, 8, none⟩ (.string hi)).setCell ⟨w.heap.size + 1, 9, none⟩ (.int .i64 mo)).setCell ⟨w.heap.size + 1, 10, none⟩ (.bool bk)).setCell ⟨w.heap.size + 1, 11, none⟩ (.int .i64 co)).setCell ⟨w.heap.size + 1, 12, none⟩ (.slice (some ⟨g1, 0, none⟩) pn pn))) := (only_set (R := fun y => y = w.heap.size + 1 ∨ y = w.heap.size + 1 + 1) (p := ⟨w.heap.size + 1 + 1, 12, none⟩) (.inr rfl) _).trans (ry_only (R := fun y => y = w.heap.size + 1 ∨ y = w.heap.size + 1 + 1) (.inl rfl) _ _ _ _ _ _ _ _ _ _ _ _ _)
  clear J5 J6 K5 I5
  go_wp2
  try simp only [Exit.inBlock, Exit.then]
  generalize ((((((((((((((w3.setCell ⟨w.heap.size + 1 + 1, 12, none⟩ (.slice (some ⟨g1, 0, none⟩) pn pn)).setCell ⟨w.heap.size + 1, 0, none⟩ (.int .i64 kd)).setCell ⟨w.heap.size + 1, 1, none⟩ (.int .i64 c)).setCell ⟨w.heap.size + 1, 2, none⟩ (.int .i64 e)).setCell ⟨w.heap.size + 1, 3, none⟩ (.int .i64 n)).setCell ⟨w.heap.size + 1, 4, none⟩ (.int .i64 k)).setCell ⟨w.heap.size + 1, 5, none⟩ (.string ky)).setCell ⟨w.heap.size + 1, 6, none⟩ (.string vl)).setCell ⟨w.heap.size + 1, 7, none⟩ (.string lo)).setCell ⟨w.heap.size + 1, 8, none⟩ (.string hi)).setCell ⟨w.heap.size + 1, 9, none⟩ (.int .i64 mo)).setCell ⟨w.heap.size + 1, 10, none⟩ (.bool bk)).setCell ⟨w.heap.size + 1, 11, none⟩ (.int .i64 co)).setCell ⟨w.heap.size + 1, 12, none⟩ (.slice (some ⟨g1, 0, none⟩) pn pn)) = W9 at *
  clear y0 y1 y2 y3 y4 y5 y6 y7 y8 y9 y10 y11 y12 z0 z1 z2 z3 z4 z5 z6 z7 z8 z9 z10 z11 z12 e0 e1 e2 e3 e4 e5 e6 e7 e8 e9 e10 e11 e12
  refine bodyPost_ret (v := .agg #[.int .i64 kd, .int .i64 c, .int .i64 e, .int .i64 n, .int .i64 k, .string ky, .string vl, .string lo, .string hi, .int .i64 mo, .bool bk, .int .i64 co, .slice (some ⟨g1, 0, none⟩) pn pn]) ?_ rfl ?_
  · exact results_reply rfl _ _ _ rfl (J7.out.cell (j := 0) rfl) (J7.out.cell (j := 1) rfl) (J7.out.cell (j := 2) rfl) (J7.out.cell (j := 3) rfl) (J7.out.cell (j := 4) rfl) (J7.out.cell (j := 5) rfl) (J7.out.cell (j := 6) rfl) (J7.out.cell (j := 7) rfl) (J7.out.cell (j := 8) rfl) (J7.out.cell (j := 9) rfl) (J7.out.cell (j := 10) rfl) (J7.out.cell (j := 11) rfl) (J7.out.cell (j := 12) rfl)
  · exact ⟨g1, rfl, HF.out _ O7.out⟩
end Go.Proofs.Ytnbafoennnhppab

