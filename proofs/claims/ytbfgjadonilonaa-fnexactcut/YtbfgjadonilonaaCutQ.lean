/-
  What the law's helper heldPartS does: it finds all marks.
-/
import Derived.Test.YtbfgjadonilonaaCutN
namespace Go.Proofs.Ytbfgjadonilonaa
open Go.RowKit
/-- A place that holds a text is kept, with all else that was there. -/
structure C1 (u v : World) (g p : Nat) (s : ByteArray) : Prop where
  a : u.cell? ⟨g, p, none⟩ = some (.string s)
  bel : Below u.heap.size u v
theorem C1.cells {u v : World} {g p : Nat} {s : ByteArray} (T : C1 u v g p s) : v.cell? ⟨g, p, none⟩ = some (.string s) ∧ C1 u v g p s := ⟨cell_kept T.a T.bel, T⟩
theorem C1.call {u v v' : World} {g p : Nat} {s : ByteArray} (k : Below v.heap.size v v') (h : v.cell? ⟨g, p, none⟩ = some (.string s) ∧ C1 u v g p s) : v'.cell? ⟨g, p, none⟩ = some (.string s) ∧ C1 u v' g p s :=
  C1.cells { h.2 with bel := thn3 h.2.bel k }
set_option maxHeartbeats 4000000 in
theorem heldPartB_any (g cap n : Nat) (qs : List (Int × ByteArray × ByteArray)) (w : World) (h : Pb w g cap n qs) (hm : ∀ i, i < n → pAt qs i = mk i) (hn : n ≤ 1048577) :
    Calls Try.prog 25 #[.slice (some ⟨g, 0, none⟩) n cap, .int .i64 1] w fun e w' => e = .returned (.int .i64 ((n * 3 + 1 : Nat) : Int)) ∧ Below w.heap.size w w' := by
  have H0 := hid h
  have HM := hid hm
  clear h hm
  go_enter Try.func25, Try.ntmps25
  go_wp2_with fail
  go_loopw [1, 5] (fun x i wr => ∃ j : Nat, x = .int .i64 ((j * 3 + 1 : Nat) : Int) ∧ i = .int .i64 j ∧ j ≤ n ∧ Hid (Below w.heap.size w wr)) (fun _ i _ => n - (intOf i).toNat)
  case atStart => exact ⟨0, rfl, rfl, Nat.zero_le _, Below.refl _ _⟩
  case round =>
    obtain ⟨j, rfl, rfl, hj, HB⟩ := hrel
    by_cases hlt : j < n
    · have hlt' : (j : Int) < (n : Int) := by omega
      have hj0 : (0 : Int) ≤ (j : Int) := by omega
      obtain ⟨c0, c1, c2⟩ := (H0.out.kept HB.out).cell j hlt
      rw [HM.out j hlt] at c0 c1 c2
      simp only [mk] at c0 c1 c2
      have HT1 := hid (fun w => markText_at (j * 3 + 2) ((j : Int) * 3 + 1 + 1) (by omega) w (by omega) (by omega))
      have HT2 := hid (fun w => markText_at (j * 3 + 3) ((j : Int) * 3 + 1 + 1 + 1) (by omega) w (by omega) (by omega))
      generalize mt (j * 3 + 2) = m1 at *
      generalize mt (j * 3 + 3) = m2 at *
      have T1 : Hid (C1 wr wr g (j * 3 + 1) m1) := ⟨c1, Below.refl _ _⟩
      go_wp2_with fail
      go_region_held3 (fun v => v.cell? ⟨g, j * 3 + 1, none⟩ = some (.string m1) ∧ C1 wr v g (j * 3 + 1) m1)
        (first | assumption | exact C1.call (below_drew _) T1.out.cells | exact C1.call hbC (by assumption))
        (first | (go_at_call 37; refine (HT1.out _).mono ?_; rintro e w1 ⟨rfl, hbC⟩))
      rename_i hS
      have B1 := hid hS.2.bel
      have d2 := cell_kept c2 B1.out
      have T2 : Hid (C1 w1 w1 g (j * 3 + 2) m2) := ⟨d2, Below.refl _ _⟩
      clear hS c0 c1 c2 T1 HT1 hbC
      go_wp2_with fail
      go_region_held3 (fun v => v.cell? ⟨g, j * 3 + 2, none⟩ = some (.string m2) ∧ C1 w1 v g (j * 3 + 2) m2)
        (first | assumption | exact C1.call (below_drew _) T2.out.cells | exact C1.call hbC (by assumption))
        (first | (go_at_call 37; refine (HT2.out _).mono ?_; rintro e w2 ⟨rfl, hbC⟩))
      rename_i hS
      have B2 := hid (thn3 (thn3 HB.out B1.out) hS.2.bel)
      clear hS T2 HT2 d2
      go_wp2
      go_roundw
      case rel => exact ⟨j + 1, by go_num, by go_num, by omega, B2.out⟩
      case measure => simp [intOf]; omega
    · have hlt' : ¬ (j : Int) < (n : Int) := by omega
      have hjn : j = n := by omega
      subst hjn
      go_wp2
      go_ret
      exact ⟨rfl, HB.out⟩
end Go.Proofs.Ytbfgjadonilonaa
