/-
  TextTx of the program.
-/
import Derived.Test.YtgnjknbgahickaaDoorTxP
namespace Go.Proofs.YtgnjknbgahickaaDoor
open Go.RowKit
set_option linter.unusedVariables false
theorem cut_le (s sep : List UInt8) : (Lib.cut s sep).1.length ≤ s.length ∧ (Lib.cut s sep).2.1.length ≤ s.length := by
  unfold Lib.cut
  split
  · simp; omega
  · simp
theorem pc_size (s : ByteArray) : (pcA s).size ≤ s.size ∧ (pcB s).size ≤ s.size := by
  have := cut_le s.data.toList [46]
  have e : s.data.toList.length = s.size := by show s.data.toList.length = s.data.size; exact Array.length_toList
  rw [e] at this
  refine ⟨?_, ?_⟩
  · show (Lib.cut s.data.toList [46]).1.toArray.size ≤ _
    simpa using this.1
  · show (Lib.cut s.data.toList [46]).2.1.toArray.size ≤ _
    simpa using this.2
/-- What the library's functions want of the world. -/
structure GD (w : World) : Prop where
  tab : Tab w
  e1 : Err w 3
  e2 : Err w 4
  ml : ∃ m, w.cell? ⟨2, 0, none⟩ = some (.int .i64 m)
  g : 5 < w.heap.size
theorem GD.below {w w' : World} (h : GD w) (hb : Below w.heap.size w w') : GD w' := by
  obtain ⟨m, hm⟩ := h.ml
  exact ⟨h.tab.below hb h.g, h.e1.below hb h.e1.lt, h.e2.below hb h.e2.lt, ⟨m, (hb.cell (p := ⟨2, 0, none⟩) (block_lt hm)).trans hm⟩, Nat.lt_of_lt_of_le h.g hb.size⟩
theorem cutDot_any (s : ByteArray) (w : World) (hs : s.size ≤ 1048576) (h : GD w) : Calls Tryd.prog 27 #[.string s, .string ⟨#[46]⟩] w fun e w' => (∃ z, e = .returned (.tuple #[.string (pcA s), .string (pcB s), .bool z])) ∧ Below w.heap.size w w' := by
  obtain ⟨m, hm⟩ := h.ml
  refine (Any.strings_Cut Tryd.lays145 s ⟨#[46]⟩ m w (by omega) hm).mono ?_
  rintro e w' ⟨he, n, rfl⟩
  exact ⟨⟨_, he⟩, Below.drewN' (Below.refl _ _) n⟩
theorem results_txb {fn : Func} {p q : Tmp} (h : fn.results = #[.cell p 34, .tmp q]) (tmps : Array Value) (w : World) (g : Nat) {c e n : Int} {z : Value} (hp : tmps.getD p undef = .pointer (some ⟨g, 0, none⟩)) (hq : tmps.getD q undef = z)
    (c0 : w.cell? ⟨g, 0, none⟩ = some (.int .i64 c)) (c1 : w.cell? ⟨g, 1, none⟩ = some (.int .i64 e)) (c2 : w.cell? ⟨g, 2, none⟩ = some (.int .i64 n)) : (results fn tmps).run Tryd.prog w = .ok (.tuple #[.agg #[.int .i64 c, .int .i64 e, .int .i64 n], z]) w := by
  have hp' : tmps[p]?.getD undef = .pointer (some ⟨g, 0, none⟩) := by simpa using hp
  have hq' : tmps[q]?.getD undef = z := by simpa using hq
  simp [results, h, hp', hq', asAddr, load_tx0 c0 c1 c2, Result.andThen]
/-- What TextTx answers. -/
def ttA (s : ByteArray) : TX := (ttV s).getD (0, 0, 0)
theorem ttA_no {s : ByteArray} (h : ¬ (txOk (ptx s) = true ∧ txT (ptx s) = s)) : ttA s = (0, 0, 0) ∧ (ttV s).isSome = false := by
  unfold ttA ttV
  rw [if_neg h]
  exact ⟨rfl, rfl⟩
theorem ttA_yes {s : ByteArray} (h : txOk (ptx s) = true ∧ txT (ptx s) = s) : ttA s = ptx s ∧ (ttV s).isSome = true := by
  unfold ttA ttV
  rw [if_pos h]
  exact ⟨rfl, rfl⟩
set_option maxHeartbeats 8000000 in
set_option maxRecDepth 20000 in
theorem implTextTx_any (s : ByteArray) (w : World) (hs : s.size ≤ 1048576) (h : GD w) :
    Calls Tryd.prog 12 #[.string s] w fun r w' => r = .returned (.tuple #[.agg #[.int .i64 (ttA s).1, .int .i64 (ttA s).2.1, .int .i64 (ttA s).2.2], .bool (ttV s).isSome]) ∧ Below w.heap.size w w' := by
  have G0 := hid h
  have hb0 := below_new (o := .cells #[.int .i64 0, .int .i64 0, .int .i64 0] 34) (w := w) (Below.refl _ _)
  have G1 := hid (h.below hb0)
  have B1 := hid hb0
  have R1 := hid (Bk.new w 34 [.int .i64 0, .int .i64 0, .int .i64 0])
  have p1 := pc_size s
  have p2 := pc_size (pcB s)
  have hnot : ∀ (x : Bool) (w : World), (Op.unary .not (.bool x)).run Tryd.prog w = .ok (.bool (!x)) w := fun _ _ => rfl
  have HV1 := hid (fun h => ttA_no (s := s) h)
  have HV2 := hid (fun h => ttA_yes (s := s) h)
  have HP : Hid (ptx s = (tgN (pcA s), tgN (pcA (pcB s)), tgN (pcB (pcB s)))) := rfl
  have C1 := hid (fun v hv => cutDot_any s v hs hv)
  have C2 := hid (fun v hv => cutDot_any (pcB s) v (by omega) hv)
  have C3 : Hid (∀ v, GD v → Calls Tryd.prog 28 #[.string (pcA s)] v fun e w' => e = .returned (.tuple #[.int .i64 (tgN (pcA s)), .bool (tn (pcA s)).isSome]) ∧ Below v.heap.size v w') := fun v hv => implTextNum_any _ v (by omega) hv.tab hv.e1 hv.e2 hv.g
  have C4 : Hid (∀ v, GD v → Calls Tryd.prog 28 #[.string (pcA (pcB s))] v fun e w' => e = .returned (.tuple #[.int .i64 (tgN (pcA (pcB s))), .bool (tn (pcA (pcB s))).isSome]) ∧ Below v.heap.size v w') := fun v hv => implTextNum_any _ v (by omega) hv.tab hv.e1 hv.e2 hv.g
  have C5 : Hid (∀ v, GD v → Calls Tryd.prog 28 #[.string (pcB (pcB s))] v fun e w' => e = .returned (.tuple #[.int .i64 (tgN (pcB (pcB s))), .bool (tn (pcB (pcB s))).isSome]) ∧ Below v.heap.size v w') := fun v hv => implTextNum_any _ v (by omega) hv.tab hv.e1 hv.e2 hv.g
  generalize (tn (pcA s)).isSome = b1 at *
  generalize (tn (pcA (pcB s))).isSome = b2 at *
  generalize (tn (pcB (pcB s))).isSome = b3 at *
  generalize tgN (pcA s) = c at *
  generalize tgN (pcA (pcB s)) = e at *
  generalize tgN (pcB (pcB s)) = n at *
  rw [HP.out] at HV1 HV2
  generalize pcA (pcB s) = s2 at *
  generalize pcB (pcB s) = s3 at *
  generalize pcA s = s1 at *
  generalize pcB s = s4 at *
  clear h hb0 p1 p2 HP
  go_enter Tryd.func12, Tryd.ntmps12
  go_wp2_with fail
  refine (C1.out _ G1.out).mono ?_
  generalize w.alloc (.cells #[.int .i64 0, .int .i64 0, .int .i64 0] 34) = U at *
  rintro r w1 ⟨⟨q1, rfl⟩, hb⟩
  have G2 := hid (G1.out.below hb)
  have R2 := hid (R1.out.below hb)
  have B2 := hid (B1.out.trans (hb.mono B1.out.size))
  clear hb G1 R1 B1
  go_wp2_with fail
  refine (C2.out _ G2.out).mono ?_
  rintro r w2 ⟨⟨q2, rfl⟩, hb0⟩
  have hb := hb0.trans ((below_new (o := .cells #[.int .i64 0, .int .i64 0, .int .i64 0] 34) (w := w2) (Below.refl _ _)).mono hb0.size)
  have G3 := hid (G2.out.below hb)
  have R3 := hid (R2.out.below hb)
  have B3 := hid (B2.out.trans (hb.mono B2.out.size))
  have X3 := hid (Bk.new w2 34 [.int .i64 0, .int .i64 0, .int .i64 0])
  have SX : Hid (w.heap.size < w2.heap.size) := by have h1 := (R2.out.below hb0).lt; exact h1
  clear hb hb0 G2 R2 B2
  go_wp2_with fail
  refine (C3.out _ G3.out).mono ?_
  generalize w2.alloc (.cells #[.int .i64 0, .int .i64 0, .int .i64 0] 34) = V3 at *
  generalize w2.heap.size = gx at *
  rintro r w4 ⟨rfl, hb⟩
  have G4 := hid (G3.out.below hb)
  have R4 := hid (R3.out.below hb)
  have X4 := hid (X3.out.below hb)
  have B4 := hid (B3.out.trans (hb.mono B3.out.size))
  clear hb G3 R3 X3 B3
  have o4 : Only (fun y => y = gx) w4 (w4.setCell ⟨gx, 0, none⟩ (.int .i64 c)) := only_set (R := fun y => y = gx) (p := ⟨gx, 0, none⟩) rfl _
  have x0 := X4.out.cell (j := 0) rfl
  have f0 := X4.out.free 0
  have X5 : Hid (Bk (w4.setCell ⟨gx, 0, none⟩ (.int .i64 c)) gx 34 [.int .i64 c, .int .i64 0, .int .i64 0]) := X4.out.set 0 _
  have R5 : Hid (Bk (w4.setCell ⟨gx, 0, none⟩ (.int .i64 c)) w.heap.size 34 [.int .i64 0, .int .i64 0, .int .i64 0]) := R4.out.to o4 (by have := SX.out; omega)
  have B5 : Hid (Below w.heap.size w (w4.setCell ⟨gx, 0, none⟩ (.int .i64 c))) := B4.out.trans (o4.below B4.out.size (fun b hb q => by have := SX.out; omega))
  have G5 : Hid (GD (w4.setCell ⟨gx, 0, none⟩ (.int .i64 c))) := G0.out.below B5.out
  clear o4 G4 R4 X4 B4
  go_wp2_with fail
  refine (C4.out _ G5.out).mono ?_
  generalize w4.setCell ⟨gx, 0, none⟩ (.int .i64 c) = V5 at *
  rintro r w6 ⟨rfl, hb⟩
  clear x0 f0
  have G6 := hid (G5.out.below hb)
  have R6 := hid (R5.out.below hb)
  have X6 := hid (X5.out.below hb)
  have B6 := hid (B5.out.trans (hb.mono B5.out.size))
  clear hb G5 R5 X5 B5
  have o6 : Only (fun y => y = gx) w6 (w6.setCell ⟨gx, 1, none⟩ (.int .i64 e)) := only_set (R := fun y => y = gx) (p := ⟨gx, 1, none⟩) rfl _
  have x1 := X6.out.cell (j := 1) rfl
  have f1 := X6.out.free 1
  have X7 : Hid (Bk (w6.setCell ⟨gx, 1, none⟩ (.int .i64 e)) gx 34 [.int .i64 c, .int .i64 e, .int .i64 0]) := X6.out.set 1 _
  have R7 : Hid (Bk (w6.setCell ⟨gx, 1, none⟩ (.int .i64 e)) w.heap.size 34 [.int .i64 0, .int .i64 0, .int .i64 0]) := R6.out.to o6 (by have := SX.out; omega)
  have B7 : Hid (Below w.heap.size w (w6.setCell ⟨gx, 1, none⟩ (.int .i64 e))) := B6.out.trans (o6.below B6.out.size (fun b hb q => by have := SX.out; omega))
  have G7 : Hid (GD (w6.setCell ⟨gx, 1, none⟩ (.int .i64 e))) := G0.out.below B7.out
  clear o6 G6 R6 X6 B6
  go_wp2_with fail
  refine (C5.out _ G7.out).mono ?_
  generalize w6.setCell ⟨gx, 1, none⟩ (.int .i64 e) = V7 at *
  rintro r w8 ⟨rfl, hb⟩
  clear x1 f1
  have G8 := hid (G7.out.below hb)
  have R8 := hid (R7.out.below hb)
  have X8 := hid (X7.out.below hb)
  have B8 := hid (B7.out.trans (hb.mono B7.out.size))
  clear hb G7 R7 X7 B7
  have o8 : Only (fun y => y = gx) w8 (w8.setCell ⟨gx, 2, none⟩ (.int .i64 n)) := only_set (R := fun y => y = gx) (p := ⟨gx, 2, none⟩) rfl _
  have x2 := X8.out.cell (j := 2) rfl
  have f2 := X8.out.free 2
  have X9 : Hid (Bk (w8.setCell ⟨gx, 2, none⟩ (.int .i64 n)) gx 34 [.int .i64 c, .int .i64 e, .int .i64 n]) := X8.out.set 2 _
  have R9 : Hid (Bk (w8.setCell ⟨gx, 2, none⟩ (.int .i64 n)) w.heap.size 34 [.int .i64 0, .int .i64 0, .int .i64 0]) := R8.out.to o8 (by have := SX.out; omega)
  have B9 : Hid (Below w.heap.size w (w8.setCell ⟨gx, 2, none⟩ (.int .i64 n))) := B8.out.trans (o8.below B8.out.size (fun b hb q => by have := SX.out; omega))
  have G9 : Hid (GD (w8.setCell ⟨gx, 2, none⟩ (.int .i64 n))) := G0.out.below B9.out
  clear o8 G8 R8 X8 B8
  have y0 := X9.out.cell (j := 0) rfl
  have y1 := X9.out.cell (j := 1) rfl
  have y2 := X9.out.cell (j := 2) rfl
  have CO := hid (fun w => implTxOk_any c e n w)
  have CT := hid (fun w ht hg => implTxText_any c e n w ht hg)
  have HW : Hid ((w8.setCell ⟨gx, 2, none⟩ (.int .i64 n)).heap.size = w8.heap.size) := by show _ = _; simp [World.setCell]
  cases hz : txOk (c, e, n) with
  | false =>
    have HA := hid (HV1.out (fun q => by rw [hz] at q; exact absurd q.1 (by decide)))
    rw [hz] at CO
    clear hz
    go_wp2_with fail
    refine (CO.out _).mono ?_
    generalize w8.setCell ⟨gx, 2, none⟩ (.int .i64 n) = V9 at *
    rintro r w10 ⟨rfl, hb⟩
    have R10 := hid (R9.out.below hb)
    have B10 := hid (B9.out.trans (hb.mono B9.out.size))
    clear hb y0 y1 y2 x2 f2
    have z0 := R10.out.cell (j := 0) rfl
    have z1 := R10.out.cell (j := 1) rfl
    have z2 := R10.out.cell (j := 2) rfl
    have e0 := R10.out.free 0
    have e1 := R10.out.free 1
    have e2 := R10.out.free 2
    go_wp2
    try simp only [Exit.inBlock, Exit.then]
    refine bodyPost_ret (v := .tuple #[.agg #[.int .i64 0, .int .i64 0, .int .i64 0], .bool false]) ?_ rfl ?_
    · exact results_txb rfl _ _ w.heap.size rfl rfl (by go_simp) (by go_simp) (by go_simp)
    · rw [HA.out.1, HA.out.2]
      exact ⟨rfl, ((B10.out.setCell (p := ⟨w.heap.size, 0, none⟩) (Nat.le_refl _) _).setCell (p := ⟨w.heap.size, 1, none⟩) (Nat.le_refl _) _).setCell (p := ⟨w.heap.size, 2, none⟩) (Nat.le_refl _) _⟩
  | true =>
    rw [hz] at CO
    go_wp2_with fail
    refine (CO.out _).mono ?_
    generalize w8.setCell ⟨gx, 2, none⟩ (.int .i64 n) = V9 at *
    rintro r w10 ⟨rfl, hb⟩
    have R10 := hid (R9.out.below hb)
    have X10 := hid (X9.out.below hb)
    have G10 := hid (G9.out.below hb)
    have B10 := hid (B9.out.trans (hb.mono B9.out.size))
    clear hb y0 y1 y2 x2 f2 R9 X9 G9 B9
    have y0 := X10.out.cell (j := 0) rfl
    have y1 := X10.out.cell (j := 1) rfl
    have y2 := X10.out.cell (j := 2) rfl
    go_wp2_with fail
    refine (CT.out _ G10.out.tab G10.out.g).mono ?_
    rintro r w11 ⟨rfl, hb⟩
    have R11 := hid (R10.out.below hb)
    have X11 := hid (X10.out.below hb)
    have B11 := hid (B10.out.trans (hb.mono B10.out.size))
    clear hb y0 y1 y2 R10 X10 G10 B10
    by_cases ht : txT (c, e, n) = s
    · have HA := hid (HV2.out ⟨hz, ht⟩)
      rw [ht]
      have hss : (s.toList != s.toList) = false := by simp
      clear hz ht HV1 HV2 CO CT
      have y0 := X11.out.cell (j := 0) rfl
      have y1 := X11.out.cell (j := 1) rfl
      have y2 := X11.out.cell (j := 2) rfl
      have z0 := R11.out.cell (j := 0) rfl
      have z1 := R11.out.cell (j := 1) rfl
      have z2 := R11.out.cell (j := 2) rfl
      have e0 := R11.out.free 0
      have e1 := R11.out.free 1
      have e2 := R11.out.free 2
      have d1 : ¬ gx = w.heap.size := by have := SX.out; omega
      have d2 : ¬ w.heap.size = gx := by have := SX.out; omega
      go_wp2
      try simp only [Exit.inBlock, Exit.then]
      refine bodyPost_ret (v := .tuple #[.agg #[.int .i64 c, .int .i64 e, .int .i64 n], .bool true]) ?_ rfl ?_
      · exact results_txb rfl _ _ w.heap.size rfl rfl (by go_simp) (by go_simp) (by go_simp)
      · rw [HA.out.1, HA.out.2]
        exact ⟨rfl, ((B11.out.setCell (p := ⟨w.heap.size, 0, none⟩) (Nat.le_refl _) _).setCell (p := ⟨w.heap.size, 1, none⟩) (Nat.le_refl _) _).setCell (p := ⟨w.heap.size, 2, none⟩) (Nat.le_refl _) _⟩
    · have HA := hid (HV1.out (fun q => ht q.2))
      have hss := str_ne ht
      have hs2 : (((txT (c, e, n)).toList != s.toList)) = true := by rw [bne, hss]; rfl
      clear hz HV1 HV2 CO CT
      generalize txT (c, e, n) = tt at *
      have z0 := R11.out.cell (j := 0) rfl
      have z1 := R11.out.cell (j := 1) rfl
      have z2 := R11.out.cell (j := 2) rfl
      have e0 := R11.out.free 0
      have e1 := R11.out.free 1
      have e2 := R11.out.free 2
      go_wp2
      try simp only [Exit.inBlock, Exit.then]
      refine bodyPost_ret (v := .tuple #[.agg #[.int .i64 0, .int .i64 0, .int .i64 0], .bool false]) ?_ rfl ?_
      · exact results_txb rfl _ _ w.heap.size rfl rfl (by go_simp) (by go_simp) (by go_simp)
      · rw [HA.out.1, HA.out.2]
        exact ⟨rfl, ((B11.out.setCell (p := ⟨w.heap.size, 0, none⟩) (Nat.le_refl _) _).setCell (p := ⟨w.heap.size, 1, none⟩) (Nat.le_refl _) _).setCell (p := ⟨w.heap.size, 2, none⟩) (Nat.le_refl _) _⟩
end Go.Proofs.YtgnjknbgahickaaDoor

