/-
  What the law's helpers markPartS and heldPartS do: the one writes marks into every field of its slice and nowhere else; the other finds them all.
-/
import Derived.Test.YtbfgjadonilonaaCutM
namespace Go.Proofs.Ytbfgjadonilonaa
open Go.RowKit
theorem set0 (ps : List (Int × ByteArray × ByteArray)) (x : Int) : ∀ j, j < ps.length → pcells (ps.set j (x, (pAt ps j).2)) = (pcells ps).set (j * 3) (.int .i64 x) := by
  induction ps with
  | nil => intro j h; exact absurd h (Nat.not_lt_zero _)
  | cons p ps ih =>
    intro j h
    cases j with
    | zero => rfl
    | succ j =>
      have := ih j (by simpa using h)
      rw [show (j + 1) * 3 = j * 3 + 3 by omega]
      show Value.int .i64 p.1 :: Value.string p.2.1 :: Value.string p.2.2 :: pcells (ps.set j (x, (pAt ps j).2)) = _
      rw [this]
      rfl
theorem set1 (ps : List (Int × ByteArray × ByteArray)) (s : ByteArray) : ∀ j, j < ps.length → pcells (ps.set j ((pAt ps j).1, s, (pAt ps j).2.2)) = (pcells ps).set (j * 3 + 1) (.string s) := by
  induction ps with
  | nil => intro j h; exact absurd h (Nat.not_lt_zero _)
  | cons p ps ih =>
    intro j h
    cases j with
    | zero => rfl
    | succ j =>
      have := ih j (by simpa using h)
      rw [show (j + 1) * 3 + 1 = j * 3 + 1 + 3 by omega]
      show Value.int .i64 p.1 :: Value.string p.2.1 :: Value.string p.2.2 :: pcells (ps.set j ((pAt ps j).1, s, (pAt ps j).2.2)) = _
      rw [this]
      rfl
theorem set2 (ps : List (Int × ByteArray × ByteArray)) (s : ByteArray) : ∀ j, j < ps.length → pcells (ps.set j ((pAt ps j).1, (pAt ps j).2.1, s)) = (pcells ps).set (j * 3 + 2) (.string s) := by
  induction ps with
  | nil => intro j h; exact absurd h (Nat.not_lt_zero _)
  | cons p ps ih =>
    intro j h
    cases j with
    | zero => rfl
    | succ j =>
      have := ih j (by simpa using h)
      rw [show (j + 1) * 3 + 2 = j * 3 + 2 + 3 by omega]
      show Value.int .i64 p.1 :: Value.string p.2.1 :: Value.string p.2.2 :: pcells (ps.set j ((pAt ps j).1, (pAt ps j).2.1, s)) = _
      rw [this]
      rfl
theorem pAt_set (ps : List (Int × ByteArray × ByteArray)) (j : Nat) (p : Int × ByteArray × ByteArray) (h : j < ps.length) : pAt (ps.set j p) j = p := by simp [pAt, h]
theorem pAt_other (ps : List (Int × ByteArray × ByteArray)) (j i : Nat) (p : Int × ByteArray × ByteArray) (h : i ≠ j) : pAt (ps.set j p) i = pAt ps i := by simp [pAt, Ne.symm h]
/-- Block g is a row of cap parts, ps ahead. -/
def Pb (w : World) (g cap n : Nat) (ps : List (Int × ByteArray × ByteArray)) : Prop :=
  ps.length = n ∧ n ≤ cap ∧ cap ≤ maxLen ∧ ∃ cur, w.heap[g]? = some (.cells cur 50 (0, 0)) ∧ cur.size = cap * 3 ∧ cur.toList.take (n * 3) = pcells ps
theorem Pb.lt {w : World} {g cap n : Nat} {ps : List (Int × ByteArray × ByteArray)} (h : Pb w g cap n ps) : g < w.heap.size := by
  obtain ⟨_, _, _, cur, h, _⟩ := h
  exact (Array.getElem?_eq_some_iff.1 h).1
theorem Pb.kept {w w' : World} {g cap n : Nat} {ps : List (Int × ByteArray × ByteArray)} (h : Pb w g cap n ps) (hb : Below w.heap.size w w') : Pb w' g cap n ps := by
  have := h.lt
  obtain ⟨h1, h2, h3, cur, h4, h5⟩ := h
  exact ⟨h1, h2, h3, cur, (hb.block g this).trans h4, h5⟩
theorem Pb.pw {w : World} {B g cap n : Nat} {ps : List (Int × ByteArray × ByteArray)} (h : Pb w g cap n ps) (hB : B ≤ g) : Pw w B (.slice (some ⟨g, 0, none⟩) n cap) ps := by
  obtain ⟨rfl, h2, h3, cur, h4, h5, h6⟩ := h
  exact ⟨pcells_length ps, .inr ⟨g, cap, cur, rfl, hB, h4, h2, h3, h5, h6⟩⟩
theorem Pw.pb {w : World} {B g cap n : Nat} {ps : List (Int × ByteArray × ByteArray)} (h : Pw w B (.slice (Option.some ⟨g, 0, none⟩) n cap) ps) (hn : ps.length = n) : Pb w g cap n ps := by
  rcases h.2 with ⟨e, _⟩ | ⟨g', cap', cur, e, hb, h4, h2, h3, h5, h6⟩
  · cases e
  · cases e
    exact ⟨hn, by omega, h3, cur, h4, h5, by rw [← hn]; exact h6⟩
theorem Pb.cell {w : World} {g cap n : Nat} {ps : List (Int × ByteArray × ByteArray)} (h : Pb w g cap n ps) (i : Nat) (hi : i < n) :
    w.cell? ⟨g, i * 3, none⟩ = some (.int .i64 (pAt ps i).1) ∧ w.cell? ⟨g, i * 3 + 1, none⟩ = some (.string (pAt ps i).2.1) ∧ w.cell? ⟨g, i * 3 + 2, none⟩ = some (.string (pAt ps i).2.2) := by
  have hp := h.pw (Nat.zero_le _)
  obtain ⟨rfl, _⟩ := h
  exact hp.cell i hi
theorem Pb.free {w : World} {g cap n o : Nat} {ps : List (Int × ByteArray × ByteArray)} (h : Pb w g cap n ps) : w.frozen? ⟨g, o, none⟩ = false := by
  obtain ⟨_, _, _, cur, h4, _⟩ := h
  simp [World.frozen?, h4]
theorem Pb.put {w : World} {g cap n o : Nat} {ps qs : List (Int × ByteArray × ByteArray)} {x : Value} (h : Pb w g cap n ps) (hq : pcells qs = (pcells ps).set o x) (hl : qs.length = ps.length) : Pb (w.setCell ⟨g, o, none⟩ x) g cap n qs := by
  obtain ⟨h1, h2, h3, cur, h4, h5, h6⟩ := h
  refine ⟨by omega, h2, h3, cur.setIfInBounds o x, ?_, by simpa using h5, ?_⟩
  · simp [World.setCell, Array.getElem?_modify, h4]
  · rw [hq, ← h6, Array.toList_setIfInBounds, List.take_set]
/-- The marks of the i-th part. -/
def mk (i : Nat) : Int × ByteArray × ByteArray := (((i * 3 + 1 : Nat) : Int), mt (i * 3 + 2), mt (i * 3 + 3))
set_option maxHeartbeats 4000000 in
theorem markPartB_any (g cap n : Nat) (ps : List (Int × ByteArray × ByteArray)) (w : World) (h : Pb w g cap n ps) (hn : n ≤ 1048577) :
    Calls Try.prog 24 #[.slice (some ⟨g, 0, none⟩) n cap, .int .i64 1] w fun e w' => e = .returned (.int .i64 ((n * 3 + 1 : Nat) : Int)) ∧ (∃ qs, Pb w' g cap n qs ∧ ∀ i, i < n → pAt qs i = mk i) ∧ w.grownBy w' (some g) := by
  have H0 := hid h
  clear h
  go_enter Try.func24, Try.ntmps24
  go_wp2_with fail
  go_loopw [1, 5] (fun x i wr => ∃ (j : Nat) (qs : List (Int × ByteArray × ByteArray)), x = .int .i64 ((j * 3 + 1 : Nat) : Int) ∧ i = .int .i64 j ∧ j ≤ n ∧ Hid (Pb wr g cap n qs) ∧ Hid (∀ i, i < j → pAt qs i = mk i) ∧ Hid (w.grownBy wr (some g))) (fun _ i _ => n - (intOf i).toNat)
  case atStart => exact ⟨0, ps, rfl, rfl, Nat.zero_le _, H0.out, fun i hi => absurd hi (Nat.not_lt_zero _), grownBy_same _ _⟩
  case round =>
    obtain ⟨j, qs, rfl, rfl, hj, HP, HM, HG⟩ := hrel
    by_cases hlt : j < n
    · have hlt' : (j : Int) < (n : Int) := by omega
      have hj0 : (0 : Int) ≤ (j : Int) := by omega
      obtain ⟨c0, c1, c2⟩ := HP.out.cell j hlt
      have f0 := HP.out.free (o := j * 3)
      have hql := HP.out.1
      have P1 := hid (HP.out.put (x := .int .i64 ((j : Int) * 3 + 1)) (set0 qs ((j : Int) * 3 + 1) j (by omega)) (by simp))
      have M1 : Hid ((∀ i, i < j → pAt (qs.set j ((j : Int) * 3 + 1, (pAt qs j).2)) i = mk i) ∧ (pAt (qs.set j ((j : Int) * 3 + 1, (pAt qs j).2)) j).1 = (j : Int) * 3 + 1) :=
        ⟨fun i hi => by rw [pAt_other _ _ _ _ (by omega)]; exact HM.out i hi, by rw [pAt_set _ _ _ (by omega)]⟩
      have G1 := hid (grownBy_set HG.out (j * 3) (.int .i64 ((j : Int) * 3 + 1)))
      clear HM HG hql
      go_wp2_with fail
      refine (markText_at (j * 3 + 2) ((j : Int) * 3 + 1 + 1) (by omega) _ (by omega) (by omega)).mono ?_
      generalize qs.set j ((j : Int) * 3 + 1, (pAt qs j).2) = q1 at *
      rintro e w1 ⟨rfl, hb1⟩
      have P2 := hid (P1.out.kept hb1)
      have G2 := hid (grown_below G1.out hb1)
      clear hb1 P1 G1 c0 c1 c2 f0 HP
      have hql := P2.out.1
      have P3 := hid (P2.out.put (x := .string (mt (j * 3 + 2))) (set1 q1 (mt (j * 3 + 2)) j (by omega)) (by simp))
      have M2 : Hid ((∀ i, i < j → pAt (q1.set j ((pAt q1 j).1, mt (j * 3 + 2), (pAt q1 j).2.2)) i = mk i) ∧ (pAt (q1.set j ((pAt q1 j).1, mt (j * 3 + 2), (pAt q1 j).2.2)) j).1 = (j : Int) * 3 + 1 ∧ (pAt (q1.set j ((pAt q1 j).1, mt (j * 3 + 2), (pAt q1 j).2.2)) j).2.1 = mt (j * 3 + 2)) :=
        ⟨fun i hi => by rw [pAt_other _ _ _ _ (by omega)]; exact M1.out.1 i hi, by rw [pAt_set _ _ _ (by omega)]; exact M1.out.2, by rw [pAt_set _ _ _ (by omega)]⟩
      have G3 := hid (grownBy_set G2.out (j * 3 + 1) (.string (mt (j * 3 + 2))))
      obtain ⟨c0, c1, c2⟩ := P2.out.cell j hlt
      have f1 := P2.out.free (o := j * 3 + 1)
      clear G2 M1 hql
      go_wp2_with fail
      refine (markText_at (j * 3 + 3) ((j : Int) * 3 + 1 + 1 + 1) (by omega) _ (by omega) (by omega)).mono ?_
      generalize q1.set j ((pAt q1 j).1, mt (j * 3 + 2), (pAt q1 j).2.2) = q2 at *
      rintro e w2 ⟨rfl, hb1⟩
      have P4 := hid (P3.out.kept hb1)
      have G4 := hid (grown_below G3.out hb1)
      clear hb1 P3 G3 c0 c1 c2 f1 P2
      have hql := P4.out.1
      have P5 := hid (P4.out.put (x := .string (mt (j * 3 + 3))) (set2 q2 (mt (j * 3 + 3)) j (by omega)) (by simp))
      have M3 : Hid (∀ i, i < j + 1 → pAt (q2.set j ((pAt q2 j).1, (pAt q2 j).2.1, mt (j * 3 + 3))) i = mk i) := fun i hi => by
        by_cases e : i = j
        · subst e
          rw [pAt_set _ _ _ (by omega), M2.out.2.1, M2.out.2.2]
          simp [mk]
        · rw [pAt_other _ _ _ _ e]
          exact M2.out.1 i (by omega)
      have G5 := hid (grownBy_set G4.out (j * 3 + 2) (.string (mt (j * 3 + 3))))
      obtain ⟨c0, c1, c2⟩ := P4.out.cell j hlt
      have f2 := P4.out.free (o := j * 3 + 2)
      clear G4 M2 hql
      generalize mt (j * 3 + 3) = m3 at *
      go_wp2
      go_roundw
      case rel => exact ⟨j + 1, _, by go_num, by go_num, by omega, P5.out, M3.out, G5.out⟩
      case measure => simp [intOf]; omega
    · have hlt' : ¬ (j : Int) < (n : Int) := by omega
      have hjn : j = n := by omega
      subst hjn
      go_wp2
      go_ret
      exact ⟨rfl, ⟨qs, HP.out, HM.out⟩, HG.out⟩
end Go.Proofs.Ytbfgjadonilonaa
