/-
  What the law's helper markStringS does: it writes into its slice alone.
-/
import Derived.Test.YtbfgjadonilonaaCutE
import Derived.Test.YtbfgjadonilonaaStrL
namespace Go.Proofs.Ytbfgjadonilonaa
open Go.RowKit
/-- Block X is a row of n strings. -/
def Xs (w : World) (X n : Nat) : Prop := ∃ ss : List ByteArray, w.heap[X]? = some (.cells (strVals ss) 9 (0, 0)) ∧ ss.length = n
theorem Xs.lt {w : World} {X n : Nat} (h : Xs w X n) : X < w.heap.size := by
  obtain ⟨ss, h, _⟩ := h
  exact (Array.getElem?_eq_some_iff.1 h).1
theorem Xs.kept {w w' : World} {X n : Nat} (h : Xs w X n) (hb : Below w.heap.size w w') : Xs w' X n := by
  have := h.lt
  obtain ⟨ss, h, e⟩ := h
  exact ⟨ss, (hb.block X this).trans h, e⟩
theorem Xs.cell {w : World} {X n : Nat} (h : Xs w X n) (j : Nat) (hj : j < n) : ∃ s : ByteArray, w.cell? ⟨X, j, none⟩ = some (.string s) ∧ w.frozen? ⟨X, j, none⟩ = false := by
  obtain ⟨ss, h, e⟩ := h
  refine ⟨ss[j]?.getD ⟨#[]⟩, ?_, by simp [World.frozen?, h]⟩
  rw [cell_of_row w X j _ _ _ h]
  simp [strVals, e, hj]
theorem strVals_set (ss : List ByteArray) (j : Nat) (s : ByteArray) : (strVals ss).setIfInBounds j (.string s) = strVals (ss.set j s) := by
  apply Array.ext'
  simp [strVals, List.map_set]
theorem Xs.set {w : World} {X n : Nat} (h : Xs w X n) (j : Nat) (s : ByteArray) : Xs (w.setCell ⟨X, j, none⟩ (.string s)) X n := by
  have hlt := h.lt
  obtain ⟨ss, h, e⟩ := h
  refine ⟨ss.set j s, ?_, by simpa using e⟩
  rw [← strVals_set]
  simp [World.setCell, Array.getElem?_modify, h]
theorem grownBy_same (w : World) (row : Option Nat) : w.grownBy w row := ⟨rfl, rfl, rfl, Nat.le_refl _, fun _ _ _ => rfl⟩
theorem grownBy_set {w w' : World} {b : Nat} (h : w.grownBy w' (some b)) (o : Nat) (v : Value) : w.grownBy (w'.setCell ⟨b, o, none⟩ v) (some b) :=
  ⟨h.os, h.tape, h.output, by simp [World.setCell]; exact h.size, fun k hk hne => by rw [Below.heap_setCell _ _ _ _ (fun e => hne (by rw [e]))]; exact h.block k hk hne⟩
theorem grown_below {w v v' : World} {row : Option Nat} (h : w.grownBy v row) (hb : Below v.heap.size v v') : w.grownBy v' row :=
  ⟨hb.os.trans h.os, hb.tape.trans h.tape, hb.output.trans h.output, Nat.le_trans h.size hb.size, fun k hk hne => (hb.block k (Nat.lt_of_lt_of_le hk h.size)).trans (h.block k hk hne)⟩
theorem markText_at (k : Nat) (z : Int) (hz : z = k) (w : World) (h0 : 0 < k) (h1 : k ≤ 1099511627776) : Calls Try.prog 37 #[.int .i64 z] w fun e w' => e = .returned (.string (mt k)) ∧ Below w.heap.size w w' := by
  subst hz
  exact markText_any k w h0 h1
set_option maxHeartbeats 4000000 in
theorem markStringS_any (X n : Nat) (w : World) (h : Xs w X n) (hn : n ≤ 1048576) :
    Calls Try.prog 23 #[.slice (some ⟨X, 0, none⟩) n n, .int .i64 1] w fun e w' => e = .returned (.int .i64 (1 + n)) ∧ w.grownBy w' (some X) := by
  have H0 := hid h
  clear h
  go_enter Try.func23, Try.ntmps23
  go_wp2_with fail
  go_loopw [1, 5] (fun x i wr => ∃ j : Nat, x = .int .i64 ((j + 1 : Nat) : Int) ∧ i = .int .i64 j ∧ j ≤ n ∧ Hid (Xs wr X n) ∧ Hid (w.grownBy wr (some X))) (fun _ i _ => n - (intOf i).toNat)
  case atStart => exact ⟨0, rfl, rfl, Nat.zero_le _, H0.out, grownBy_same _ _⟩
  case round =>
    obtain ⟨j, rfl, rfl, hj, HX, HG⟩ := hrel
    by_cases hlt : j < n
    · have hlt' : (j : Int) < (n : Int) := by omega
      have hj0 : (0 : Int) ≤ (j : Int) := by omega
      go_wp2_with fail
      refine (markText_at (j + 1) ((j : Int) + 1) (by omega) wr (by omega) (by omega)).mono ?_
      rintro e w1 ⟨rfl, hb1⟩
      have HX1 := hid (HX.out.kept hb1)
      have HG1 := hid (grown_below HG.out hb1)
      clear hb1 HX HG
      obtain ⟨s, c0, f0⟩ := HX1.out.cell j hlt
      generalize mt (j + 1) = m at *
      go_wp2
      go_roundw
      case rel => exact ⟨j + 1, by go_num, by go_num, by omega, HX1.out.set _ _, grownBy_set HG1.out _ _⟩
      case measure => simp [intOf]; omega
    · have hlt' : ¬ (j : Int) < (n : Int) := by omega
      have hjn : j = n := by omega
      go_wp2
      go_ret
      exact ⟨by rw [show (1 : Int) + n = n + 1 by omega]; rfl, HG.out⟩
end Go.Proofs.Ytbfgjadonilonaa
