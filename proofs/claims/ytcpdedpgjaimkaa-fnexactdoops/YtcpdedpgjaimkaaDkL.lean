/-
  What the law's helpers do with disks: copied, sizes summed.
-/
import Derived.Test.YtcpdedpgjaimkaaDkQ
import Derived.Test.YtcpdedpgjaimkaaSiL
import Derived.Test.YtcpdedpgjaimkaaNodeL
namespace Go.Proofs.Ytcpdedpgjaimkaa
open Go.RowKit
theorem load_sht {w : World} {g : Nat} {x : Value} (c0 : w.cell? ⟨g, 0, none⟩ = some x) : (loadVar 119 ⟨g, 0, none⟩).run Try.prog w = .ok (.agg #[x]) w := by go_simp
theorem results_sht {fn : Func} {p : Tmp} (h : fn.results = #[.cell p 119]) (tmps : Array Value) (w : World) (g : Nat) {x : Value} (hp : tmps.getD p undef = .pointer (some ⟨g, 0, none⟩))
    (c0 : w.cell? ⟨g, 0, none⟩ = some x) : (results fn tmps).run Try.prog w = .ok (.agg #[x]) w := by
  have hp' : tmps[p]?.getD undef = .pointer (some ⟨g, 0, none⟩) := by simpa using hp
  simp [results, h, hp', asAddr, load_sht c0]
theorem load_wrt {w : World} {g : Nat} {x y : Value} (c0 : w.cell? ⟨g, 0, none⟩ = some x) (c1 : w.cell? ⟨g, 1, none⟩ = some y) : (loadVar 109 ⟨g, 0, none⟩).run Try.prog w = .ok (.agg #[x, y]) w := by go_simp
theorem results_wrt {fn : Func} {p : Tmp} (h : fn.results = #[.cell p 109]) (tmps : Array Value) (w : World) (g : Nat) {x y : Value} (hp : tmps.getD p undef = .pointer (some ⟨g, 0, none⟩))
    (c0 : w.cell? ⟨g, 0, none⟩ = some x) (c1 : w.cell? ⟨g, 1, none⟩ = some y) : (results fn tmps).run Try.prog w = .ok (.agg #[x, y]) w := by
  have hp' : tmps[p]?.getD undef = .pointer (some ⟨g, 0, none⟩) := by simpa using hp
  simp [results, h, hp', asAddr, load_wrt c0 c1]
theorem load_dsk {w : World} {g : Nat} {x y : Value} (c0 : w.cell? ⟨g, 0, none⟩ = some x) (c1 : w.cell? ⟨g, 1, none⟩ = some y) : (loadVar 46 ⟨g, 0, none⟩).run Try.prog w = .ok (.agg #[x, y]) w := by go_simp
theorem results_dsk {fn : Func} {p : Tmp} (h : fn.results = #[.cell p 46]) (tmps : Array Value) (w : World) (g : Nat) {x y : Value} (hp : tmps.getD p undef = .pointer (some ⟨g, 0, none⟩))
    (c0 : w.cell? ⟨g, 0, none⟩ = some x) (c1 : w.cell? ⟨g, 1, none⟩ = some y) : (results fn tmps).run Try.prog w = .ok (.agg #[x, y]) w := by
  have hp' : tmps[p]?.getD undef = .pointer (some ⟨g, 0, none⟩) := by simpa using hp
  simp [results, h, hp', asAddr, load_dsk c0 c1]
theorem infoSheetI : (Try.prog.info? 119).map (fun i => (i.zero, i.size, i.bytes)) = some (some (.agg #[.slice none 0 0]), 1, 24) := by kernel_rfl
theorem infoWriteI : (Try.prog.info? 109).map (fun i => (i.zero, i.size, i.bytes)) = some (some (.agg #[.int .i64 0, .slice none 0 0]), 2, 32) := by kernel_rfl
theorem made_sheets (n : Nat) : madeCells (Value.agg #[.slice none 0 0]).cells (n * 1) = (List.replicate n (Value.slice none 0 0)).toArray := by
  apply Array.ext
  · simp [madeCells]
  · intro i h1 h2; simp [madeCells, Value.cells, Nat.mod_one]
theorem made_writes (n : Nat) : madeCells (Value.agg #[.int .i64 0, .slice none 0 0]).cells (n * 2) = (wcs (List.replicate n (0, .slice none 0 0))).toArray := by
  apply Array.ext
  · simp [madeCells, wcs_length]
  · intro i h1 h2
    simp [wcs_length] at h2
    simp only [madeCells, List.getElem_toArray]
    obtain ⟨c0, c1⟩ := wcs_at (List.replicate n ((0, .slice none 0 0) : Int × Value)) (i / 2) (by simp; omega)
    simp [xAt, show i / 2 < n by omega] at c0 c1
    have : i % 2 = 0 ∨ i % 2 = 1 := by omega
    rcases this with e | e
    · rw [show i / 2 * 2 = i by omega] at c0
      rw [(List.getElem?_eq_some_iff.1 c0).2]
      simp [Value.cells, e]
    · rw [show i / 2 * 2 + 1 = i by omega] at c1
      rw [(List.getElem?_eq_some_iff.1 c1).2]
      simp [Value.cells, e]
set_option maxHeartbeats 2000000 in
theorem toSheet_any (a : Option Addr) (n c : Nat) (zs : List Int) (w : World) (h : Rd w a n c zs) :
    Calls Try.prog 116 #[.agg #[.slice a n c]] w fun e w' => ∃ g, e = .returned (.agg #[.slice (some ⟨g, 0, none⟩) n n]) ∧ w.heap.size ≤ g ∧ Bk w' g 5 (zs.map (Value.int .u8)) ∧ Below w.heap.size w w' := by
  have H0 := hid h
  clear h
  have HB0 : Hid (Below w.heap.size w (((w.alloc (.cells #[.slice a n c] 177)).alloc (.cells #[.slice none 0 0] 119)).alloc (.cells #[.slice none 0 0] 119))) := below_new (below_new (below_new (Below.refl _ _)))
  have KR : Hid (Bk (((w.alloc (.cells #[.slice a n c] 177)).alloc (.cells #[.slice none 0 0] 119)).alloc (.cells #[.slice none 0 0] 119)) (w.heap.size + 1) 119 [.slice none 0 0]) := by
    have := (Bk.new (w.alloc (.cells #[.slice a n c] 177)) 119 [.slice none 0 0]).alloc (.cells #[.slice none 0 0] 119)
    show Bk _ _ _ _
    simpa using this
  have KO : Hid (Bk (((w.alloc (.cells #[.slice a n c] 177)).alloc (.cells #[.slice none 0 0] 119)).alloc (.cells #[.slice none 0 0] 119)) (w.heap.size + 1 + 1) 119 [.slice none 0 0]) := by
    have := Bk.new ((w.alloc (.cells #[.slice a n c] 177)).alloc (.cells #[.slice none 0 0] 119)) 119 [.slice none 0 0]
    show Bk _ _ _ _
    simpa using this
  have HZ : Hid ((((w.alloc (.cells #[.slice a n c] 177)).alloc (.cells #[.slice none 0 0] 119)).alloc (.cells #[.slice none 0 0] 119)).heap.size = w.heap.size + 3) := by show _ = _; simp
  go_enter Try.func116, Try.ntmps116
  go_wp2_with fail
  refine (toByteS_any a n c zs _ (H0.out.kept HB0.out)).mono ?_
  generalize ((w.alloc (.cells #[.slice a n c] 177)).alloc (.cells #[.slice none 0 0] 119)).alloc (.cells #[.slice none 0 0] 119) = W at *
  rintro e w1 ⟨rfl, hw1⟩
  have K0 : Bk w1 W.heap.size 5 (zs.map (Value.int .u8)) := by rw [hw1]; exact Bk.new _ _ _
  have hb1 : Below W.heap.size W w1 := by rw [hw1]; exact below_new (Below.refl _ _)
  have HB1 := hid (HB0.out.trans (hb1.mono HB0.out.size))
  have KR1 := hid (KR.out.below hb1)
  have KO1 := hid (KO.out.below hb1)
  have K01 := hid K0
  clear hb1 K0 KR KO HB0 hw1
  generalize W.heap.size = g at *
  have c0 := KO1.out.cell (j := 0) rfl
  have f0 := KO1.out.free 0
  have r0 := KR1.out.cell (j := 0) rfl
  have q0 := KR1.out.free 0
  go_wp2
  try simp only [Exit.inBlock, Exit.then]
  refine bodyPost_ret (v := .agg #[.slice (some ⟨g, 0, none⟩) n n]) ?_ rfl ?_
  · refine results_sht rfl _ _ _ rfl ?_
    · go_simp
  · have HZ' := HZ.out
    refine ⟨g, rfl, by omega, ?_, (HB1.out.setCell (by show w.heap.size ≤ w.heap.size + 1 + 1; omega) _).setCell (by show w.heap.size ≤ w.heap.size + 1; omega) _⟩
    exact (K01.out.setOther (by omega) _ _).setOther (by omega) _ _
set_option maxHeartbeats 2000000 in
theorem toWrite_any (t : Int) (a : Option Addr) (n c : Nat) (zs : List Int) (w : World) (h : Rd w a n c zs) :
    Calls Try.prog 117 #[.agg #[.int .i64 t, .slice a n c]] w fun e w' => ∃ g, e = .returned (.agg #[.int .i64 t, .slice (some ⟨g, 0, none⟩) n n]) ∧ w.heap.size ≤ g ∧ Bk w' g 5 (zs.map (Value.int .u8)) ∧ Below w.heap.size w w' := by
  have H0 := hid h
  clear h
  have HB2 : Hid (Below w.heap.size w (((w.alloc (.cells #[.int .i64 t, .slice a n c] 104)).alloc (.cells #[.int .i64 0, .slice none 0 0] 109)).alloc (.cells #[.int .i64 t, .slice none 0 0] 109))) := below_new (below_new (below_new (Below.refl _ _)))
  have KP2 : Hid (Bk (((w.alloc (.cells #[.int .i64 t, .slice a n c] 104)).alloc (.cells #[.int .i64 0, .slice none 0 0] 109)).alloc (.cells #[.int .i64 t, .slice none 0 0] 109)) w.heap.size 104 [.int .i64 t, .slice a n c]) := ((Bk.new w 104 [.int .i64 t, .slice a n c]).alloc _).alloc _
  have KR2 : Hid (Bk (((w.alloc (.cells #[.int .i64 t, .slice a n c] 104)).alloc (.cells #[.int .i64 0, .slice none 0 0] 109)).alloc (.cells #[.int .i64 t, .slice none 0 0] 109)) (w.heap.size + 1) 109 [.int .i64 0, .slice none 0 0]) := by
    have := (Bk.new (w.alloc (.cells #[.int .i64 t, .slice a n c] 104)) 109 [.int .i64 0, .slice none 0 0]).alloc (.cells #[.int .i64 t, .slice none 0 0] 109)
    show Bk _ _ _ _
    simpa using this
  have KO2 : Hid (Bk (((w.alloc (.cells #[.int .i64 t, .slice a n c] 104)).alloc (.cells #[.int .i64 0, .slice none 0 0] 109)).alloc (.cells #[.int .i64 t, .slice none 0 0] 109)) (w.heap.size + 1 + 1) 109 [.int .i64 t, .slice none 0 0]) := by
    have := Bk.new ((w.alloc (.cells #[.int .i64 t, .slice a n c] 104)).alloc (.cells #[.int .i64 0, .slice none 0 0] 109)) 109 [.int .i64 t, .slice none 0 0]
    show Bk _ _ _ _
    simpa using this
  have HZ2 : Hid ((((w.alloc (.cells #[.int .i64 t, .slice a n c] 104)).alloc (.cells #[.int .i64 0, .slice none 0 0] 109)).alloc (.cells #[.int .i64 t, .slice none 0 0] 109)).heap.size = w.heap.size + 3) := by show _ = _; simp
  go_enter Try.func117, Try.ntmps117
  go_wp2_with fail
  refine (toByteS_any a n c zs _ (H0.out.kept HB2.out)).mono ?_
  generalize ((w.alloc (.cells #[.int .i64 t, .slice a n c] 104)).alloc (.cells #[.int .i64 0, .slice none 0 0] 109)).alloc (.cells #[.int .i64 t, .slice none 0 0] 109) = W2 at *
  rintro e w1 ⟨rfl, hw1⟩
  have K0 : Bk w1 W2.heap.size 5 (zs.map (Value.int .u8)) := by rw [hw1]; exact Bk.new _ _ _
  have hb1 : Below W2.heap.size W2 w1 := by rw [hw1]; exact below_new (Below.refl _ _)
  have HB1 := hid (HB2.out.trans (hb1.mono HB2.out.size))
  have KR1 := hid (KR2.out.below hb1)
  have KO1 := hid (KO2.out.below hb1)
  have K01 := hid K0
  clear hb1 K0 KR2 KO2 HB2 hw1 KP2
  generalize W2.heap.size = g at *
  have c0 := KO1.out.cell (j := 0) rfl
  have c1 := KO1.out.cell (j := 1) rfl
  have f1 := KO1.out.free 1
  have r0 := KR1.out.cell (j := 0) rfl
  have r1 := KR1.out.cell (j := 1) rfl
  have q0 := KR1.out.free 0
  have q1 := KR1.out.free 1
  go_wp2
  try simp only [Exit.inBlock, Exit.then]
  refine bodyPost_ret (v := .agg #[.int .i64 t, .slice (some ⟨g, 0, none⟩) n n]) ?_ rfl ?_
  · refine results_wrt rfl _ _ _ rfl ?_ ?_
    · go_simp
    · go_simp
  · have HZ' := HZ2.out
    refine ⟨g, rfl, by omega, ?_, ((HB1.out.setCell (by show w.heap.size ≤ w.heap.size + 1 + 1; omega) _).setCell (by show w.heap.size ≤ w.heap.size + 1; omega) _).setCell (by show w.heap.size ≤ w.heap.size + 1; omega) _⟩
    exact ((K01.out.setOther (by omega) _ _).setOther (by omega) _ _).setOther (by omega) _ _
end Go.Proofs.Ytcpdedpgjaimkaa

