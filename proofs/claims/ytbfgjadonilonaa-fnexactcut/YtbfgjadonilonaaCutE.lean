/-
  What the law's helpers eqPart and eqPartS do: equal lists of parts are told equal.
-/
import Derived.Test.YtbfgjadonilonaaCutT
import Derived.Test.YtbfgjadonilonaaTwo
import Derived.Deep.RegionHeld3
namespace Go.Proofs.Ytbfgjadonilonaa
open Go.RowKit
set_option maxHeartbeats 4000000 in
theorem eqPart_same (i : Int) (lo hi : ByteArray) (w : World) : Calls Try.prog 36 #[.agg #[.int .i64 i, .string lo, .string hi], .agg #[.int .i64 i, .string lo, .string hi]] w fun e w' => e = .returned (.bool true) ∧ Below w.heap.size w w' := by
  go_enter Try.func36, Try.ntmps36
  go_wp2_with fail
  refine (eqRange_same lo hi _).mono ?_
  rintro e w1 ⟨rfl, hb1⟩
  have HB := hid (thn3 (thn3 (below_alloc w (.cells #[.int .i64 i, .string lo, .string hi] 50)) (below_alloc _ (.cells #[.int .i64 i, .string lo, .string hi] 50))) hb1)
  clear hb1
  go_wp2
  go_ret
  exact ⟨rfl, HB.out⟩
/-- Two places that hold one part are kept, with all else that was there. -/
structure Sx (u v : World) (g g' p : Nat) (x : Int) (lo hi : ByteArray) : Prop where
  a0 : u.cell? ⟨g, p, none⟩ = some (.int .i64 x)
  a1 : u.cell? ⟨g, p + 1, none⟩ = some (.string lo)
  a2 : u.cell? ⟨g, p + 2, none⟩ = some (.string hi)
  b0 : u.cell? ⟨g', p, none⟩ = some (.int .i64 x)
  b1 : u.cell? ⟨g', p + 1, none⟩ = some (.string lo)
  b2 : u.cell? ⟨g', p + 2, none⟩ = some (.string hi)
  bel : Below u.heap.size u v
theorem Sx.cells {u v : World} {g g' p : Nat} {x : Int} {lo hi : ByteArray} (T : Sx u v g g' p x lo hi) : v.cell? ⟨g, p, none⟩ = some (.int .i64 x) ∧ v.cell? ⟨g, p + 1, none⟩ = some (.string lo) ∧ v.cell? ⟨g, p + 2, none⟩ = some (.string hi) ∧ v.cell? ⟨g', p, none⟩ = some (.int .i64 x) ∧ v.cell? ⟨g', p + 1, none⟩ = some (.string lo) ∧ v.cell? ⟨g', p + 2, none⟩ = some (.string hi) ∧ Sx u v g g' p x lo hi :=
  ⟨cell_kept T.a0 T.bel, cell_kept T.a1 T.bel, cell_kept T.a2 T.bel, cell_kept T.b0 T.bel, cell_kept T.b1 T.bel, cell_kept T.b2 T.bel, T⟩
theorem Sx.call {u v v' : World} {g g' p : Nat} {x : Int} {lo hi : ByteArray} (k : Below v.heap.size v v') (h : v.cell? ⟨g, p, none⟩ = some (.int .i64 x) ∧ v.cell? ⟨g, p + 1, none⟩ = some (.string lo) ∧ v.cell? ⟨g, p + 2, none⟩ = some (.string hi) ∧ v.cell? ⟨g', p, none⟩ = some (.int .i64 x) ∧ v.cell? ⟨g', p + 1, none⟩ = some (.string lo) ∧ v.cell? ⟨g', p + 2, none⟩ = some (.string hi) ∧ Sx u v g g' p x lo hi) : v'.cell? ⟨g, p, none⟩ = some (.int .i64 x) ∧ v'.cell? ⟨g, p + 1, none⟩ = some (.string lo) ∧ v'.cell? ⟨g, p + 2, none⟩ = some (.string hi) ∧ v'.cell? ⟨g', p, none⟩ = some (.int .i64 x) ∧ v'.cell? ⟨g', p + 1, none⟩ = some (.string lo) ∧ v'.cell? ⟨g', p + 2, none⟩ = some (.string hi) ∧ Sx u v' g g' p x lo hi :=
  Sx.cells { h.2.2.2.2.2.2 with bel := thn3 h.2.2.2.2.2.2.bel k }
theorem Sx.of {u v : World} {g g' p : Nat} {x : Int} {lo hi : ByteArray} (h : v.cell? ⟨g, p, none⟩ = some (.int .i64 x) ∧ v.cell? ⟨g, p + 1, none⟩ = some (.string lo) ∧ v.cell? ⟨g, p + 2, none⟩ = some (.string hi) ∧ v.cell? ⟨g', p, none⟩ = some (.int .i64 x) ∧ v.cell? ⟨g', p + 1, none⟩ = some (.string lo) ∧ v.cell? ⟨g', p + 2, none⟩ = some (.string hi) ∧ Sx u v g g' p x lo hi) : Sx u v g g' p x lo hi := h.2.2.2.2.2.2
set_option maxHeartbeats 4000000 in
theorem eqPartS_same (v v' : Value) (B B' : Nat) (ps : List (Int × ByteArray × ByteArray)) (w : World) (h : Pw w B v ps) (h' : Pw w B' v' ps) (hn : ps.length ≤ 1048577) :
    Calls Try.prog 22 #[v, v'] w fun e w' => e = .returned (.bool true) ∧ Below w.heap.size w w' := by
  rcases Nat.eq_zero_or_pos ps.length with h0 | hp
  · obtain ⟨a, c, rfl⟩ := h.shape
    obtain ⟨a', c', rfl⟩ := h'.shape
    rw [h0]
    clear h h'
    go_enter Try.func22, Try.ntmps22
    go_wp2_with fail
    go_loopw [5] (fun i wr => i = .int .i64 0 ∧ wr = w) (fun i _ => 0)
    case atStart => exact ⟨rfl, rfl⟩
    case round =>
      obtain ⟨rfl, rfl⟩ := hrel
      go_wp2
      go_ret
      exact ⟨rfl, Below.refl _ _⟩
  · obtain ⟨g, cap, rfl, hg1, hg2⟩ := h.some hp
    obtain ⟨g', cap', rfl, hg1', hg2'⟩ := h'.some hp
    have H := hid h
    have H' := hid h'
    clear h h'
    generalize hnn : ps.length = n at *
    have HNN := hid hnn
    clear hnn
    go_enter Try.func22, Try.ntmps22
    go_wp2_with fail
    go_loopw [5] (fun i wr => ∃ j : Nat, i = .int .i64 j ∧ j ≤ n ∧ Hid (Below w.heap.size w wr)) (fun i _ => n - (intOf i).toNat)
    case atStart => exact ⟨0, rfl, Nat.zero_le _, Below.refl _ _⟩
    case round =>
      obtain ⟨j, rfl, hj, HB⟩ := hrel
      by_cases hlt : j < n
      · have hlt' : (j : Int) < (n : Int) := by omega
        have hj0 : (0 : Int) ≤ (j : Int) := by omega
        have HP := H.out.below HB.out
        have HP' := H'.out.below HB.out
        rw [← HNN.out] at HP HP'
        obtain ⟨c0, c1, c2⟩ := HP.cell j (by rw [HNN.out]; exact hlt)
        obtain ⟨d0, d1, d2⟩ := HP'.cell j (by rw [HNN.out]; exact hlt)
        clear HP HP'
        generalize (pAt ps j).1 = x at *
        generalize (pAt ps j).2.1 = lo at *
        generalize (pAt ps j).2.2 = hi at *
        have T0 : Hid (Sx wr wr g g' (j * 3) x lo hi) := ⟨c0, c1, c2, d0, d1, d2, Below.refl _ _⟩
        go_wp2_with fail
        go_region_held3 (fun v => v.cell? ⟨g, j * 3, none⟩ = some (.int .i64 x) ∧ v.cell? ⟨g, j * 3 + 1, none⟩ = some (.string lo) ∧ v.cell? ⟨g, j * 3 + 2, none⟩ = some (.string hi) ∧ v.cell? ⟨g', j * 3, none⟩ = some (.int .i64 x) ∧ v.cell? ⟨g', j * 3 + 1, none⟩ = some (.string lo) ∧ v.cell? ⟨g', j * 3 + 2, none⟩ = some (.string hi) ∧ Sx wr v g g' (j * 3) x lo hi)
          (first | assumption | exact Sx.call (below_drew _) T0.out.cells | exact Sx.call hbC (by assumption))
          (first
            | (go_at_call 36; refine (eqPart_same x lo hi _).mono ?_; rintro e w' ⟨rfl, hbC⟩))
        all_goals (rename_i hS; have B1 := hid (thn3 HB.out (Sx.of hS).bel); clear hS; go_wp2)
        go_roundw
        case rel => exact ⟨j + 1, by go_num, by omega, B1.out⟩
        case measure => simp [intOf]; omega
      · have hlt' : ¬ (j : Int) < (n : Int) := by omega
        go_wp2
        go_ret
        exact ⟨rfl, HB.out⟩
end Go.Proofs.Ytbfgjadonilonaa
