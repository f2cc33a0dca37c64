/-
  The law's helpers that look whether marks still stand in rows and tables of locks; marks in tables.
-/
import Derived.Test.YtbaggkfgnjenoaaLkK
import Derived.Test.YtbaggkfgnjenoaaKl
import Derived.Deep.RegionHeld3
namespace Go.Proofs.Ytbaggkfgnjenoaa
open Go.RowKit
set_option linter.unusedVariables false
set_option maxHeartbeats 4000000 in
theorem heldLockS_any (B : Nat) (a : Option Addr) (n c k : Nat) (w : World) (h : LM w B (.slice a n c) n k) (hn : n ≤ 1048577) (hk0 : 0 < k) (hk : k ≤ 1000000000) :
    Calls Try.prog 28 #[.slice a n c, .int .i64 k] w fun e w' => e = .returned (.int .i64 ((k + n * 6 : Nat) : Int)) ∧ Below w.heap.size w w' := by
  have H0 := hid h
  have hcc : n ≤ c ∧ c ≤ 9223372036854775807 := by
    obtain ⟨ys, -, -, hr⟩ := h
    exact ⟨(ownL_at hr).2.1, (ownL_at hr).2.2.1⟩
  clear h
  go_enter Try.func28, Try.ntmps28
  go_wp2_with fail
  go_loopw [1, 5] (fun x i wr => ∃ j : Nat, x = .int .i64 ((k + j * 6 : Nat) : Int) ∧ i = .int .i64 j ∧ j ≤ n ∧ Hid (Below w.heap.size w wr)) (fun _ i _ => n - (intOf i).toNat)
  case atStart => exact ⟨0, rfl, rfl, Nat.zero_le _, Below.refl _ _⟩
  case round =>
    obtain ⟨j, rfl, rfl, hj, HB⟩ := hrel
    by_cases hlt : j < n
    · have hlt' : (j : Int) < (n : Int) := by omega
      obtain ⟨ys, hy1, hy2, hrow⟩ := H0.out.below HB.out
      obtain ⟨g, hg, -, -, -, hcell⟩ := (ownL_at hrow).2.2.2 (by omega)
      subst hg
      obtain ⟨q0, q1, q2, q3, q4, q5⟩ := lcs_at ys j (by rw [hy1]; exact hlt)
      have hm := hy2 j hlt
      generalize hkz : k + j * 6 = kz at *
      have hkz0 : 0 < kz := by omega
      have hkz1 : kz ≤ 1007000000 := by omega
      have HK := hid hkz
      rw [hm] at q0 q1 q2 q3 q4 q5
      simp only [mk1] at q0 q1 q2 q3 q4 q5
      have e2 : (kz : Int) + 2 = (kz : Int) + 1 + 1 := by omega
      rw [e2] at q2
      have c0 := hcell _ _ q0
      have c1 := hcell _ _ q1
      have c2 := hcell _ _ q2
      have c3 := hcell _ _ q3
      have c4 := hcell _ _ q4
      have c5 := hcell _ _ q5
      clear q0 q1 q2 q3 q4 q5 hcell hm hkz hrow hy2 hy1 e2
      have HT3 := hid (fun w => markText_at (kz + 3) ((kz : Int) + 1 + 1 + 1) (by omega) w (by omega) (by omega))
      have HT4 := hid (fun w => markText_at (kz + 4) ((kz : Int) + 1 + 1 + 1 + 1) (by omega) w (by omega) (by omega))
      generalize mt (kz + 3) = m3 at *
      generalize mt (kz + 4) = m4 at *
      have T0 := hid (kl2_0 c3 c4)
      have t0 : ((kz : Int) != (kz : Int)) = false := by simp
      have t1 : ((kz : Int) + 1 != (kz : Int) + 1) = false := by simp
      have t2 : ((kz : Int) + 1 + 1 != (kz : Int) + 1 + 1) = false := by simp
      have t3 : (m3.toList != m3.toList) = false := by simp
      have t4 : (m4.toList != m4.toList) = false := by simp
      have K5 := hid c5
      clear c3 c4 c5
      go_wp2_with fail
      go_region_held3 (fun v => v.cell? ⟨g, j * 6 + 3, none⟩ = some (.string m3) ∧ v.cell? ⟨g, j * 6 + 4, none⟩ = some (.string m4) ∧ KL wr v [(⟨g, j * 6 + 3, none⟩, .string m3), (⟨g, j * 6 + 4, none⟩, .string m4)])
        (first | assumption | exact kl2 (T0.out.call (below_drew _)) | exact kl2c hbC (by assumption))
        (first | (go_at_call 70; refine (HT3.out _).mono ?_; rintro e w1 ⟨rfl, hbC⟩))
      rename_i hS
      have T1 := hid (hS.2.2)
      clear hS c0 c1 c2 hbC
      go_wp2_with fail
      go_region_held3 (fun v => v.cell? ⟨g, j * 6 + 3, none⟩ = some (.string m3) ∧ v.cell? ⟨g, j * 6 + 4, none⟩ = some (.string m4) ∧ KL wr v [(⟨g, j * 6 + 3, none⟩, .string m3), (⟨g, j * 6 + 4, none⟩, .string m4)])
        (first | assumption | exact kl2 (T1.out.call (below_drew _)) | exact kl2c hbC (by assumption))
        (first | (go_at_call 70; refine (HT4.out _).mono ?_; rintro e w2 ⟨rfl, hbC⟩))
      rename_i hS
      have B2 := hid (HB.out.trans ((kl2_bel hS).mono HB.out.size))
      have c5 := ((kl2_bel hS).cell (p := ⟨g, j * 6 + 5, none⟩) (block_lt K5.out)).trans K5.out
      clear hS T0 T1 HT3 HT4 K5
      obtain ⟨r, hr⟩ : ∃ r : Nat, r = (kz + 5) % 3 := ⟨_, rfl⟩
      have hrem : ((kz : Int) + 1 + 1 + 1 + 1 + 1).tmod 3 = (r : Int) := by rw [Int.tmod_eq_emod_of_nonneg (by omega)]; omega
      rw [← hr] at c5
      have hr3 : r = 0 ∨ r = 1 ∨ r = 2 := by omega
      clear hr
      rcases hr3 with rfl | rfl | rfl
      all_goals (simp at c5; go_wp2; go_roundw)
      case rel => exact ⟨j + 1, by rw [← HK.out]; congr 1; omega, by go_num, by omega, B2.out⟩
      case measure => simp [intOf]; omega
      case rel => exact ⟨j + 1, by rw [← HK.out]; congr 1; omega, by go_num, by omega, B2.out⟩
      case measure => simp [intOf]; omega
      case rel => exact ⟨j + 1, by rw [← HK.out]; congr 1; omega, by go_num, by omega, B2.out⟩
      case measure => simp [intOf]; omega
    · have HE : Hid (j = n) := by show _ = _; omega
      go_wp2
      go_ret
      exact ⟨by rw [HE.out]; rfl, HB.out⟩
/-- The marks from k on stand in the table. -/
structure LMT (w : World) (h v : Value) (hn wn k : Nat) : Prop where
  hh : LM w 0 h hn k
  hw : LM w 0 v wn (k + hn * 6)
theorem LMT.below {w w' : World} {h v : Value} {hn wn k : Nat} (H : LMT w h v hn wn k) (hb : Below w.heap.size w w') : LMT w' h v hn wn k := ⟨H.hh.below hb, H.hw.below hb⟩
theorem LMT.to {w w' : World} {R : Nat → Prop} {h v : Value} {hn wn k : Nat} (H : LMT w h v hn wn k) (ho : Only R w w') (hR : ∀ y, lbl h v y → ¬ R y) : LMT w' h v hn wn k := ⟨H.hh.to ho (fun y e => hR y (.inl e)), H.hw.to ho (fun y e => hR y (.inr e))⟩
theorem LM.base {w : World} {B B' : Nat} {v : Value} {n k : Nat} (h : LM w B v n k) (hB : B' ≤ B) : LM w B' v n k := by
  obtain ⟨ys, h1, h2, h3⟩ := h
  exact ⟨ys, h1, h2, ownL_base h3 hB⟩
set_option maxHeartbeats 2000000 in
theorem markLocks_ex (B : Nat) (ha : Option Addr) (hn hc : Nat) (wa : Option Addr) (wn wc k : Nat) (hl wl : List LK) (w : World) (h : LO w B (.slice ha hn hc) (.slice wa wn wc) hl wl) (hh : hn ≤ 1048577) (hw : wn ≤ 1048577) (hk0 : 0 < k) (hk : k ≤ 10000000) :
    Calls Try.prog 23 #[.agg #[.slice ha hn hc, .slice wa wn wc], .int .i64 k] w fun e w' => e = .returned (.int .i64 ((k + hn * 6 + wn * 6 : Nat) : Int)) ∧ LMT w' (.slice ha hn hc) (.slice wa wn wc) hn wn k ∧ Only (lbl (.slice ha hn hc) (.slice wa wn wc)) w w' := by
  have hb := below_new (o := .cells #[.slice ha hn hc, .slice wa wn wc] 25) (w := w) (Below.refl _ _)
  have O0 : Hid (Only (lbl (.slice ha hn hc) (.slice wa wn wc)) w (w.alloc (.cells #[.slice ha hn hc, .slice wa wn wc] 25))) := only_of_below hb _
  have K0 := hid (Bk.new w 25 [.slice ha hn hc, .slice wa wn wc])
  have H0 := hid (h.below hb)
  have HS : Hid (∀ y, lbl (.slice ha hn hc) (.slice wa wn wc) y → y < w.heap.size) := fun y hy => (h.lt hy).2
  clear h hb
  go_enter Try.func23, Try.ntmps23
  go_wp2_with fail
  refine (markLockS_ex B ha hn hc k hl _ H0.out.hh hh hk0 (by omega)).mono ?_
  generalize w.alloc (.cells #[.slice ha hn hc, .slice wa wn wc] 25) = U at *
  rintro r w1 ⟨rfl, hm, ho⟩
  have M1 := hid hm
  have K1 := hid (K0.out.to ho (fun e => by have := HS.out _ (.inl e); omega))
  have W1 := hid (H0.out.hw.to ho (fun y e e2 => H0.out.apart y e2 e))
  have O1 := hid (O0.out.trans (ho.mono (fun y _ e => .inl e)))
  have HA := hid H0.out.apart
  clear hm ho H0 K0 O0
  have y1 := K1.out.cell (j := 1) rfl
  generalize hq : k + hn * 6 = q at *
  have hq0 : 0 < q := by omega
  have hq1 : q ≤ 1000000000 := by omega
  have HQ := hid hq
  clear hq
  go_wp2_with fail
  refine (markLockS_ex B wa wn wc q wl _ W1.out hw hq0 hq1).mono ?_
  rintro r w2 ⟨rfl, hm, ho⟩
  have F2 : Hid (LMT w2 (.slice ha hn hc) (.slice wa wn wc) hn wn k ∧ Only (lbl (.slice ha hn hc) (.slice wa wn wc)) w w2) :=
    ⟨⟨(M1.out.to ho (fun y e e2 => HA.out y e e2)).base (Nat.zero_le _), by rw [HQ.out]; exact hm.base (Nat.zero_le _)⟩, O1.out.trans (ho.mono (fun y _ e => .inr e))⟩
  clear hm ho y1
  go_wp2
  go_ret
  exact ⟨by rw [HQ.out]; rfl, F2.out⟩
set_option maxHeartbeats 2000000 in
theorem heldLocks_any (ha : Option Addr) (hn hc : Nat) (wa : Option Addr) (wn wc k : Nat) (w : World) (h : LMT w (.slice ha hn hc) (.slice wa wn wc) hn wn k) (hh : hn ≤ 1048577) (hw : wn ≤ 1048577) (hk0 : 0 < k) (hk : k ≤ 10000000) :
    Calls Try.prog 24 #[.agg #[.slice ha hn hc, .slice wa wn wc], .int .i64 k] w fun e w' => e = .returned (.int .i64 ((k + hn * 6 + wn * 6 : Nat) : Int)) ∧ Below w.heap.size w w' := by
  have B0 := hid (below_new (o := .cells #[.slice ha hn hc, .slice wa wn wc] 25) (w := w) (Below.refl _ _))
  have K0 := hid (Bk.new w 25 [.slice ha hn hc, .slice wa wn wc])
  have H0 := hid (h.below B0.out)
  clear h
  go_enter Try.func24, Try.ntmps24
  go_wp2_with fail
  refine (heldLockS_any 0 ha hn hc k _ H0.out.hh hh hk0 (by omega)).mono ?_
  generalize w.alloc (.cells #[.slice ha hn hc, .slice wa wn wc] 25) = U at *
  rintro r w1 ⟨rfl, hb⟩
  have B1 := hid (B0.out.trans (hb.mono B0.out.size))
  have K1 := hid (K0.out.below hb)
  have H1 := hid (H0.out.below hb).hw
  clear hb B0 K0 H0
  have y1 := K1.out.cell (j := 1) rfl
  generalize hq : k + hn * 6 = q at *
  have hq0 : 0 < q := by omega
  have hq1 : q ≤ 1000000000 := by omega
  have hq2 : ¬ (q : Int) < 0 := by omega
  have HQ := hid hq
  clear hq
  go_wp2_with fail
  refine (heldLockS_any 0 wa wn wc q _ H1.out hw hq0 hq1).mono ?_
  rintro r w2 ⟨rfl, hb⟩
  have B2 := hid (B1.out.trans (hb.mono B1.out.size))
  clear hb
  have hq3 : ¬ ((q + wn * 6 : Nat) : Int) < 0 := by omega
  generalize hq4 : q + wn * 6 = q2 at *
  have HQ2 := hid hq4
  clear hq4
  go_wp2
  go_ret
  exact ⟨by rw [HQ.out, HQ2.out]; rfl, B2.out⟩
end Go.Proofs.Ytbaggkfgnjenoaa

