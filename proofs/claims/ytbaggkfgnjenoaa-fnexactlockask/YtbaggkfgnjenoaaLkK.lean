/-
  The law's helpers that write marks into rows and tables of locks and look whether they are still there.
-/
import Derived.Test.YtbaggkfgnjenoaaLkL
import Derived.Test.YtbaggkfgnjenoaaMt
namespace Go.Proofs.Ytbaggkfgnjenoaa
open Go.RowKit
set_option linter.unusedVariables false
/-- The marks from q on. -/
def mk1 (q : Nat) : LK := (((q : Int), (q : Int) + 1, (q : Int) + 2), (mt (q + 3), mt (q + 4)), decide ((q + 5) % 3 = 0))
/-- The marks from k on stand in the row. -/
def LM (w : World) (B : Nat) (v : Value) (n k : Nat) : Prop := ∃ ys : List LK, ys.length = n ∧ (∀ i, i < n → lAt ys i = mk1 (k + i * 6)) ∧ w.ownsRow B 31 6 v n (lcs ys)
theorem LM.to {w w' : World} {B : Nat} {R : Nat → Prop} {v : Value} {n k : Nat} (h : LM w B v n k) (ho : Only R w w') (hR : ∀ y, v.ownBlock = some y → ¬ R y) : LM w' B v n k := by
  obtain ⟨ys, h1, h2, h3⟩ := h
  exact ⟨ys, h1, h2, own_kept h3 ho hR⟩
theorem LM.below {w w' : World} {B : Nat} {v : Value} {n k : Nat} (h : LM w B v n k) (hb : Below w.heap.size w w') : LM w' B v n k := h.to (only_of_below hb (fun _ => False)) (fun _ _ h => h)
theorem lAt_set {l : List LK} {j : Nat} {x : LK} (h : j < l.length) : lAt (l.set j x) j = x := by simp [lAt, h]
theorem lAt_other {l : List LK} {i j : Nat} {x : LK} (h : i ≠ j) : lAt (l.set j x) i = lAt l i := by simp [lAt, Ne.symm h]
theorem only_blk {R : Nat → Prop} {w v : World} (h : Only R w v) (g o : Nat) (u : Value) (hR : R g) : Only R w (v.setCell ⟨g, o, none⟩ u) := h.trans (only_set (p := ⟨g, o, none⟩) hR u)
theorem ownL_block {a : Option Addr} {n c : Nat} {g : Nat} (h : a = some ⟨g, 0, none⟩) : (Value.slice a n c).ownBlock = some g := by subst h; rfl
set_option maxHeartbeats 1000000 in
theorem markLockS_ex (B : Nat) (a : Option Addr) (n c k : Nat) (l : List LK) (w : World) (h : LW w B (.slice a n c) l) (hn : n ≤ 1048577) (hk0 : 0 < k) (hk : k ≤ 1000000000) :
    Calls Try.prog 27 #[.slice a n c, .int .i64 k] w fun e w' => e = .returned (.int .i64 ((k + n * 6 : Nat) : Int)) ∧ LM w' B (.slice a n c) n k ∧ Only (fun y => (Value.slice a n c).ownBlock = some y) w w' := by
  have hl := (ownL_at h).1
  have h' : w.ownsRow B 31 6 (.slice a n c) l.length (lcs l) := h
  rw [← hl] at h'
  have H0 := hid h'
  have HL := hid hl
  have hnc := (ownL_at h).2.1
  have hcc := (ownL_at h).2.2.1
  clear h h' hl
  go_enter Try.func27, Try.ntmps27
  go_wp2_with fail
  go_loopw [1, 5] (fun x i wr => ∃ (j : Nat) (ys : List LK), x = .int .i64 ((k + j * 6 : Nat) : Int) ∧ i = .int .i64 j ∧ j ≤ n ∧ Hid (wr.ownsRow B 31 6 (.slice a n c) n (lcs ys)) ∧ Hid (ys.length = n ∧ ∀ i, i < j → lAt ys i = mk1 (k + i * 6)) ∧ Hid (Only (fun y => (Value.slice a n c).ownBlock = some y) w wr)) (fun _ i _ => n - (intOf i).toNat)
  case atStart => exact ⟨0, l, rfl, rfl, Nat.zero_le _, H0.out, ⟨HL.out.symm, fun i hi => absurd hi (Nat.not_lt_zero _)⟩, Only.refl _ _⟩
  case round =>
    clear H0 HL
    obtain ⟨j, ys, rfl, rfl, hj, KB, KM, KO⟩ := hrel
    by_cases hlt : j < n
    · have hlt' : (j : Int) < (n : Int) := by omega
      obtain ⟨-, -, -, hat⟩ := ownL_at KB.out
      obtain ⟨g, hg, -, hgw, hfree, hcell⟩ := hat (by omega)
      subst hg
      clear hat hfree hcell
      generalize hkz : k + j * 6 = kz
      have hkz0 : 0 < kz := by omega
      have hkz1 : kz ≤ 1007000000 := by omega
      have HK := hid hkz
      clear hkz
      have HY := hid KM.out.1
      have HAT := hid (lcs_at ys j (by rw [HY.out]; exact hlt))
      have FR : Hid (∀ (v : World) (xs : List Value), v.ownsRow B 31 6 (.slice (some ⟨g, 0, none⟩) n c) n xs → (∀ o, v.frozen? ⟨g, o, none⟩ = false) ∧ ∀ (i : Nat) u, xs[i]? = some u → v.cell? ⟨g, i, none⟩ = some u) := fun v xs hv => by
        obtain ⟨g', e, -, -, h3, h4⟩ := (ownL_at hv).2.2.2 (by omega)
        have e' : g' = g := by cases e; rfl
        subst e'
        exact ⟨h3, h4⟩
      have c0 := (FR.out wr _ KB.out).2 (j * 6) _ HAT.out.1
      have c1 := (FR.out wr _ KB.out).2 (j * 6 + 1) _ HAT.out.2.1
      have c2 := (FR.out wr _ KB.out).2 (j * 6 + 2) _ HAT.out.2.2.1
      have f0 := (FR.out wr _ KB.out).1 (j * 6)
      have f1 := (FR.out wr _ KB.out).1 (j * 6 + 1)
      have f2 := (FR.out wr _ KB.out).1 (j * 6 + 2)
      have B3 := hid (ownL_set (ownL_set (ownL_set KB.out (j * 6) (.int .i64 (kz : Int))) (j * 6 + 1) (.int .i64 ((kz : Int) + 1))) (j * 6 + 2) (.int .i64 ((kz : Int) + 1 + 1)))
      have O3 : Hid (Only (fun y => (Value.slice (some ⟨g, 0, none⟩) n c).ownBlock = some y) w (((wr.setCell ⟨g, j * 6, none⟩ (.int .i64 (kz : Int))).setCell ⟨g, j * 6 + 1, none⟩ (.int .i64 ((kz : Int) + 1))).setCell ⟨g, j * 6 + 2, none⟩ (.int .i64 ((kz : Int) + 1 + 1)))) := only_blk (only_blk (only_blk KO.out g _ _ rfl) g _ _ rfl) g _ _ rfl
      generalize lAt ys j = old at c0 c1 c2 HAT
      obtain ⟨⟨oc, oe, on⟩, ⟨olo, ohi⟩, oex⟩ := old
      go_wp2_with fail
      refine (markText_at (kz + 3) ((kz : Int) + 1 + 1 + 1) (by omega) _ (by omega) (by omega)).mono ?_
      generalize ((wr.setCell ⟨g, j * 6, none⟩ (.int .i64 (kz : Int))).setCell ⟨g, j * 6 + 1, none⟩ (.int .i64 ((kz : Int) + 1))).setCell ⟨g, j * 6 + 2, none⟩ (.int .i64 ((kz : Int) + 1 + 1)) = w0 at *
      rintro e w1 ⟨rfl, hb⟩
      have B4 := hid (own_kept B3.out (only_of_below hb (fun _ => False)) (fun _ _ h => h))
      have O4 := hid (O3.out.trans (only_of_below hb _))
      clear hb B3 O3 c0 c1 c2 f0 f1 f2 KB KO
      have c3 := (FR.out w1 _ B4.out).2 (j * 6 + 3) (.string olo) (by rw [List.getElem?_set_ne (by omega), List.getElem?_set_ne (by omega), List.getElem?_set_ne (by omega)]; exact HAT.out.2.2.2.1)
      have f3 := (FR.out w1 _ B4.out).1 (j * 6 + 3)
      have B5 := hid (ownL_set B4.out (j * 6 + 3) (.string (mt (kz + 3))))
      have O5 : Hid (Only (fun y => (Value.slice (some ⟨g, 0, none⟩) n c).ownBlock = some y) w (w1.setCell ⟨g, j * 6 + 3, none⟩ (.string (mt (kz + 3))))) := only_blk O4.out g _ _ rfl
      clear B4 O4
      generalize hm3 : mt (kz + 3) = m3 at *
      have HM3 := hid hm3
      clear hm3
      go_wp2_with fail
      refine (markText_at (kz + 4) ((kz : Int) + 1 + 1 + 1 + 1) (by omega) _ (by omega) (by omega)).mono ?_
      generalize w1.setCell ⟨g, j * 6 + 3, none⟩ (.string m3) = w2 at *
      rintro e w3 ⟨rfl, hb⟩
      have B6 := hid (own_kept B5.out (only_of_below hb (fun _ => False)) (fun _ _ h => h))
      have O6 := hid (O5.out.trans (only_of_below hb _))
      clear hb B5 O5 c3 f3
      have c4 := (FR.out w3 _ B6.out).2 (j * 6 + 4) (.string ohi) (by rw [List.getElem?_set_ne (by omega), List.getElem?_set_ne (by omega), List.getElem?_set_ne (by omega), List.getElem?_set_ne (by omega)]; exact HAT.out.2.2.2.2.1)
      have c5 := (FR.out w3 _ B6.out).2 (j * 6 + 5) (.bool oex) (by rw [List.getElem?_set_ne (by omega), List.getElem?_set_ne (by omega), List.getElem?_set_ne (by omega), List.getElem?_set_ne (by omega)]; exact HAT.out.2.2.2.2.2)
      have f4 := (FR.out w3 _ B6.out).1 (j * 6 + 4)
      have f5 := (FR.out w3 _ B6.out).1 (j * 6 + 5)
      generalize hm4 : mt (kz + 4) = m4 at *
      have HM4 := hid hm4
      clear hm4
      have HF : Hid (∀ b : Bool, b = decide ((kz + 5) % 3 = 0) → ∃ zs : List LK, ((w3.setCell ⟨g, j * 6 + 4, none⟩ (.string m4)).setCell ⟨g, j * 6 + 5, none⟩ (.bool b)).ownsRow B 31 6 (.slice (some ⟨g, 0, none⟩) n c) n (lcs zs) ∧ (zs.length = n ∧ ∀ i, i < j + 1 → lAt zs i = mk1 (k + i * 6)) ∧ Only (fun y => (Value.slice (some ⟨g, 0, none⟩) n c).ownBlock = some y) w ((w3.setCell ⟨g, j * 6 + 4, none⟩ (.string m4)).setCell ⟨g, j * 6 + 5, none⟩ (.bool b))) := fun b hbb => by
        refine ⟨ys.set j (mk1 kz), ?_, ⟨by simp [HY.out], fun i hi => ?_⟩, only_blk (only_blk O6.out g _ _ rfl) g _ _ rfl⟩
        · rw [lcs_set _ _ _ (by rw [HY.out]; exact hlt)]
          have := ownL_set (ownL_set B6.out (j * 6 + 4) (.string m4)) (j * 6 + 5) (.bool b)
          rw [← HM3.out, ← HM4.out, hbb] at this
          rw [← HM4.out, hbb]
          have e2 : (kz : Int) + 1 + 1 = (kz : Int) + 2 := by omega
          rw [e2] at this
          exact this
        · by_cases e : i = j
          · subst e
            rw [lAt_set (by rw [HY.out]; exact hlt), HK.out]
          · rw [lAt_other e]
            exact KM.out.2 i (by omega)
      clear B6 O6 HAT KM FR
      obtain ⟨r, hr⟩ : ∃ r : Nat, r = (kz + 5) % 3 := ⟨_, rfl⟩
      have hrem : ((kz : Int) + 1 + 1 + 1 + 1 + 1).tmod 3 = (r : Int) := by rw [Int.tmod_eq_emod_of_nonneg (by omega)]; omega
      rw [← hr] at HF
      have hr3 : r = 0 ∨ r = 1 ∨ r = 2 := by omega
      clear hr
      rcases hr3 with rfl | rfl | rfl
      all_goals (go_wp2; go_roundw)
      case rel =>
        obtain ⟨zs, z1, z2, z3⟩ := HF.out true rfl
        exact ⟨j + 1, zs, by rw [← HK.out]; congr 1; omega, by go_num, by omega, z1, z2, z3⟩
      case measure => simp [intOf]; omega
      case rel =>
        obtain ⟨zs, z1, z2, z3⟩ := HF.out false rfl
        exact ⟨j + 1, zs, by rw [← HK.out]; congr 1; omega, by go_num, by omega, z1, z2, z3⟩
      case measure => simp [intOf]; omega
      case rel =>
        obtain ⟨zs, z1, z2, z3⟩ := HF.out false rfl
        exact ⟨j + 1, zs, by rw [← HK.out]; congr 1; omega, by go_num, by omega, z1, z2, z3⟩
      case measure => simp [intOf]; omega
    · have HE : Hid (j = n) := by show _ = _; omega
      have HF : Hid (LM wr B (.slice a n c) n k) := ⟨ys, KM.out.1, fun i hi => KM.out.2 i (by rw [HE.out]; exact hi), KB.out⟩
      go_wp2
      go_ret
      exact ⟨by rw [HE.out]; rfl, HF.out, KO.out⟩
end Go.Proofs.Ytbaggkfgnjenoaa

