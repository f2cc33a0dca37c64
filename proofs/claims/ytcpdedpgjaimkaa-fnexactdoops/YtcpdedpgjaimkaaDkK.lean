/-
  The law's helpers that write marks into a disk and look whether they are still there.
-/
import Derived.Test.YtcpdedpgjaimkaaDkE
import Derived.Test.YtcpdedpgjaimkaaMarks
namespace Go.Proofs.Ytcpdedpgjaimkaa
open Go.RowKit
set_option linter.unusedVariables false
def offW (ds : List DW) : Nat → Nat
  | 0 => 0
  | k + 1 => offW ds k + 1 + (dwAt ds k).2.length
theorem offW_eq (ds : List DW) (k : Nat) : offW ds k = offS (ds.map Prod.snd) k + k := by
  induction k with
  | zero => rfl
  | succ k ih => simp only [offW, offS, shAt_map, ih]; omega
theorem offW_mono (ds : List DW) {i n : Nat} (h : i ≤ n) : offW ds i ≤ offW ds n := by
  rw [offW_eq, offW_eq]
  have := offS_mono (ds.map Prod.snd) h
  omega
theorem offW_at (ds : List DW) {i n : Nat} (h : i < n) : offW ds i + 1 + (dwAt ds i).2.length ≤ offW ds n := offW_mono ds (show i + 1 ≤ n by omega)
/-- How many marks a disk takes. -/
def dkTot (d : DK) : Nat := offS d.sh d.sh.length + offW d.dw d.dw.length
theorem tot_of_sum {d : DK} (h : dkSum d ≤ 1048576) : dkTot d ≤ 4194304 := by
  unfold dkSum at h
  unfold dkTot
  rw [offW_eq]
  omega
theorem ownBlock_map (a : Option Addr) (n c : Nat) : (Value.slice a n c).ownBlock = a.map (·.block) := by cases a <;> rfl
theorem Rd.toD {w w' : World} {R : Nat → Prop} {a : Option Addr} {n c : Nat} {zs : List Int} (h : Rd w a n c zs) (ho : Only R w w') (hR : ∀ y, (Value.slice a n c).ownBlock = some y → ¬ R y) : Rd w' a n c zs := by
  obtain ⟨h1, h2, h3, h30, h4, h5⟩ := h
  refine ⟨h1, h2, h3, h30, h4, fun hp => ?_⟩
  obtain ⟨b, off, rfl, hb, hc⟩ := h5 hp
  refine ⟨b, off, rfl, Nat.lt_of_lt_of_le hb ho.size, fun i hi => ?_⟩
  rw [World.cell?_of_block (w := w) (a := ⟨b, off + i, none⟩) (ho.block b hb (hR b (by rw [ownBlock_map]; rfl)))]
  exact hc i hi
/-- The marks from q on stand in the list v. -/
def LBy (w : World) (v : Value) (n q : Nat) : Prop := ∃ a c, v = .slice a n c ∧ Rd w a n c (marks (q : Int) n)
theorem LBy.to {w w' : World} {R : Nat → Prop} {v : Value} {n q : Nat} (h : LBy w v n q) (ho : Only R w w') (hR : ∀ y, v.ownBlock = some y → ¬ R y) : LBy w' v n q := by
  obtain ⟨a, c, rfl, hr⟩ := h
  exact ⟨a, c, rfl, hr.toD ho hR⟩
/-- The marks from k on stand in the sheets. -/
structure SM (w : World) (v : Value) (V : List Value) (ss : List (List Int)) (k : Nat) : Prop where
  len : V.length = ss.length
  row : w.ownsRow 0 119 1 v ss.length V
  lie : ∀ i, i < ss.length → LBy w (uAt V i) (shAt ss i).length (k + offS ss i)
theorem SM.to {w w' : World} {R : Nat → Prop} {v : Value} {V : List Value} {ss : List (List Int)} {k : Nat} (h : SM w v V ss k) (ho : Only R w w') (hR : ∀ y, sbl v V y → ¬ R y) : SM w' v V ss k :=
  ⟨h.len, own_kept h.row ho (fun y e => hR y (.inl e)), fun i hi => (h.lie i hi).to ho (fun y e => hR y (.inr ⟨i, by rw [h.len]; exact hi, e⟩))⟩
structure WM (w : World) (v : Value) (U : List (Int × Value)) (ds : List DW) (k : Nat) : Prop where
  len : U.length = ds.length
  row : ∃ U' : List (Int × Value), U'.length = ds.length ∧ w.ownsRow 0 109 2 v ds.length (wcs U') ∧ (∀ i, (xAt U' i).2 = (xAt U i).2) ∧ ∀ i, i < ds.length → (xAt U' i).1 = ((k + offW ds i : Nat) : Int)
  lie : ∀ i, i < ds.length → LBy w (xAt U i).2 (dwAt ds i).2.length (k + offW ds i + 1)
theorem WM.to {w w' : World} {R : Nat → Prop} {v : Value} {U : List (Int × Value)} {ds : List DW} {k : Nat} (h : WM w v U ds k) (ho : Only R w w') (hR : ∀ y, wbl v U y → ¬ R y) : WM w' v U ds k := by
  refine ⟨h.len, ?_, fun i hi => (h.lie i hi).to ho (fun y e => hR y (.inr ⟨i, by rw [h.len]; exact hi, e⟩))⟩
  obtain ⟨U', h1, h2, h3⟩ := h.row
  exact ⟨U', h1, own_kept h2 ho (fun y e => hR y (.inl e)), h3⟩
set_option maxHeartbeats 4000000 in
theorem markSheetS_ex (B : Nat) (a : Option Addr) (n c k : Nat) (V : List Value) (ss : List (List Int)) (w : World) (h : SOw w B (.slice a n c) V ss) (ht : offS ss ss.length ≤ 4194304) (hk0 : 0 < k) (hk : k ≤ 1000000000) :
    Calls Try.prog 67 #[.slice a n c, .int .i64 (k : Int)] w fun e w' => e = .returned (.int .i64 ((k + offS ss ss.length : Nat) : Int)) ∧ SM w' (.slice a n c) V ss k ∧ Only (fun y => ∃ i, i < ss.length ∧ (uAt V i).ownBlock = some y) w w' := by
  obtain ⟨hnn, hnc, hcm, -⟩ := own_at h.row
  have HNN := hid hnn
  have H0 := hid h
  have HT := hid ht
  clear h hnn ht
  go_enter Try.func67, Try.ntmps67
  go_wp2_with fail
  go_loopw [1, 5] (fun x i wr => ∃ j q : Nat, x = .int .i64 (q : Int) ∧ i = .int .i64 j ∧ j ≤ n ∧ Hid (q = k + offS ss j) ∧ Hid (Only (fun y => ∃ i, i < j ∧ (uAt V i).ownBlock = some y) w wr) ∧ Hid (∀ i, i < j → LBy wr (uAt V i) (shAt ss i).length (k + offS ss i))) (fun _ i _ => n - (intOf i).toNat)
  case atStart => exact ⟨0, k, rfl, rfl, Nat.zero_le _, rfl, Only.refl _ _, fun i hi => absurd hi (Nat.not_lt_zero _)⟩
  case round =>
    obtain ⟨j, q, rfl, rfl, hj, HQ, HO, HL⟩ := hrel
    by_cases hlt : j < n
    · have hlt' : (j : Int) < (n : Int) := by omega
      have hjl : j < ss.length := by rw [← HNN.out]; exact hlt
      have HOF : Hid (offS ss (j + 1) = offS ss j + (shAt ss j).length) := rfl
      have hle := offS_mono ss (show j + 1 ≤ ss.length by omega)
      have hq2 : (q : Int) ≤ 1099511627776 := by have h1 := HQ.out; have h2 := HT.out; have h3 := offS_mono ss (show j ≤ ss.length by omega); omega
      have hq0 : (0 : Int) ≤ (q : Int) := by omega
      have hlen : (shAt ss j).length ≤ 70368744177664 := by have h2 := HT.out; rw [HOF.out] at hle; omega
      have hown := own_kept (H0.out.own j hjl).1 HO.out (fun y hy => by
        rintro ⟨i, hi, hb⟩
        exact H0.out.apart j i hjl (by omega) (by omega) y hy hb)
      have hrow := own_kept H0.out.row HO.out (fun y e => by
        rintro ⟨i, hi, hb⟩
        exact H0.out.off i (by omega) y hb e)
      obtain ⟨-, -, -, hr⟩ := own_at hrow
      obtain ⟨g, rfl, -, -, -, hcell⟩ := hr (by omega)
      have c0 := hcell j _ (uAt_some (by rw [H0.out.len]; exact hjl))
      obtain ⟨a2, c2, e0, hrd, -⟩ := Ob.rd hown (H0.out.own j hjl).2 hlen
      have hwb := Ob.wb hown e0 (shAt ss j).length
      have HAP : Hid (∀ i, i < j → ∀ y, (uAt V i).ownBlock = some y → (uAt V j).ownBlock ≠ some y) := fun i hi y hy => H0.out.apart i j (by omega) hjl (by omega) y hy
      rw [e0] at c0 HAP
      have HRD := hid hrd
      have HWB := hid hwb
      have HE0 := hid e0
      clear hrow hown hr hcell hrd hwb e0 hle hlen
      generalize hm : (shAt ss j).length = m at *
      have HM := hid hm
      clear hm
      go_wp2_with fail
      refine (mark_any a2 m c2 _ (q : Int) wr HRD.out HWB.out hq0 hq2).mono ?_
      rintro e w1 ⟨rfl, hr1, hg1⟩
      have O1 : Hid (Only (fun y => (Value.slice a2 m c2).ownBlock = some y) wr w1) := only_of_grown hg1 (fun k e => by rw [ownBlock_map]; exact e)
      have HO3 : Hid (Only (fun y => ∃ i, i < j + 1 ∧ (uAt V i).ownBlock = some y) w w1) := (HO.out.mono (fun y _ ⟨i, hi, hb⟩ => ⟨i, by omega, hb⟩)).trans (O1.out.mono (fun y _ e => ⟨j, by omega, by rw [HE0.out]; exact e⟩))
      have HLF : Hid (∀ i, i < j + 1 → LBy w1 (uAt V i) (shAt ss i).length (k + offS ss i)) := by
        intro i hi
        by_cases e : i = j
        · subst e
          rw [HM.out, HE0.out, ← HQ.out]
          exact ⟨a2, c2, rfl, hr1⟩
        · exact (HL.out i (by omega)).to O1.out (fun y hy e2 => HAP.out i (by omega) y hy e2)
      have HQ3 : Hid (q + m = k + offS ss (j + 1)) := by show _ = _; rw [HOF.out, HQ.out]; omega
      clear hr1 hg1 HL HO c0 HOF HRD HWB HAP
      go_wp2
      go_roundw
      case rel => exact ⟨j + 1, q + m, by go_num, by go_num, by omega, HQ3.out, HO3.out, HLF.out⟩
      case measure => simp [intOf]; omega
    · have hjn : j = ss.length := by rw [← HNN.out]; omega
      subst hjn
      have HF : Hid (SM wr (.slice a n c) V ss k) := ⟨H0.out.len, ownD_base (own_kept H0.out.row HO.out (fun y e => by rintro ⟨i, hi, hb⟩; exact H0.out.off i hi y hb e)) (Nat.zero_le _), HL.out⟩
      clear HL
      go_wp2
      go_ret
      exact ⟨by rw [← HQ.out]; rfl, HF.out, HO.out⟩
set_option maxHeartbeats 4000000 in
theorem heldSheetS_any (a : Option Addr) (n c k : Nat) (V : List Value) (ss : List (List Int)) (w : World) (h : SM w (.slice a n c) V ss k) (ht : offS ss ss.length ≤ 4194304) (hk0 : 0 < k) (hk : k ≤ 1000000000) :
    Calls Try.prog 70 #[.slice a n c, .int .i64 (k : Int)] w fun e w' => e = .returned (.int .i64 ((k + offS ss ss.length : Nat) : Int)) ∧ w' = w := by
  obtain ⟨hnn, hnc, hcm, hr⟩ := own_at h.row
  have HNN := hid hnn
  have H0 := hid h
  have HT := hid ht
  have HR := hid hr
  clear h hnn ht hr
  go_enter Try.func70, Try.ntmps70
  go_wp2_with fail
  go_loop [1, 5] (fun x i => ∃ j q : Nat, x = .int .i64 (q : Int) ∧ i = .int .i64 j ∧ j ≤ n ∧ Hid (q = k + offS ss j)) (fun _ i => n - (intOf i).toNat)
  case atStart => exact ⟨0, k, rfl, rfl, Nat.zero_le _, rfl⟩
  case round =>
    obtain ⟨j, q, rfl, rfl, hj, HQ⟩ := hrel
    by_cases hlt : j < n
    · have hlt' : (j : Int) < (n : Int) := by omega
      have hjl : j < ss.length := by rw [← HNN.out]; exact hlt
      have HOF : Hid (offS ss (j + 1) = offS ss j + (shAt ss j).length) := rfl
      have hle := offS_mono ss (show j + 1 ≤ ss.length by omega)
      have hq2 : (q : Int) ≤ 1099511627776 := by have h1 := HQ.out; have h2 := HT.out; have h3 := offS_mono ss (show j ≤ ss.length by omega); omega
      have hq0 : (0 : Int) ≤ (q : Int) := by omega
      obtain ⟨g, rfl, -, -, -, hcell⟩ := HR.out (by omega)
      have c0 := hcell j _ (uAt_some (by rw [H0.out.len]; exact hjl))
      obtain ⟨a2, c2, e0, hrd⟩ := H0.out.lie j hjl
      rw [e0] at c0
      rw [← HQ.out] at hrd
      have hlm : (shAt ss j).length ≤ 4194304 := by have h2 := HT.out; rw [HOF.out] at hle; omega
      have HRD := hid hrd
      clear hcell hrd e0 hle
      generalize hm : (shAt ss j).length = m at *
      clear hm
      have hn0 : ¬ ((q : Int) + (m : Int)) < 0 := by omega
      go_wp2_with fail
      refine (held_any a2 m c2 (q : Int) _ HRD.out hq0 hq2).mono ?_
      rintro e w1 ⟨rfl, rfl⟩
      have HQ3 : Hid (q + m = k + offS ss (j + 1)) := by show _ = _; rw [HOF.out, HQ.out]; omega
      clear c0 HOF HRD
      go_wp2
      go_round
      case rel => exact ⟨j + 1, q + m, by go_num, by go_num, by omega, HQ3.out⟩
      case measure => simp [intOf]; omega
    · have hjn : j = ss.length := by rw [← HNN.out]; omega
      subst hjn
      have HE : Hid ((k : Int) + (offS ss ss.length : Int) = (q : Int)) := by have := HQ.out; show _ = _; omega
      go_wp2
      go_ret
      exact ⟨by rw [HE.out]; rfl, rfl⟩
set_option maxHeartbeats 4000000 in
theorem markWriteS_ex (B : Nat) (a : Option Addr) (n c k : Nat) (U : List (Int × Value)) (ds : List DW) (w : World) (h : WO w B (.slice a n c) U ds) (ht : offW ds ds.length ≤ 4194304) (hk0 : 0 < k) (hk : k ≤ 1000000000) :
    Calls Try.prog 68 #[.slice a n c, .int .i64 (k : Int)] w fun e w' => e = .returned (.int .i64 ((k + offW ds ds.length : Nat) : Int)) ∧ WM w' (.slice a n c) U ds k ∧ Only (wbl (.slice a n c) U) w w' := by
  obtain ⟨hnn, hnc, hcm, -⟩ := own_at h.row
  have HNN := hid hnn
  have H0 := hid h
  have HT := hid ht
  clear h hnn ht
  go_enter Try.func68, Try.ntmps68
  go_wp2_with fail
  go_loopw [1, 5] (fun x i wr => ∃ j q : Nat, x = .int .i64 (q : Int) ∧ i = .int .i64 j ∧ j ≤ n ∧ Hid (q = k + offW ds j) ∧ Hid (Only (fun y => (Value.slice a n c).ownBlock = some y ∨ ∃ i, i < j ∧ (xAt U i).2.ownBlock = some y) w wr) ∧ Hid (∀ i, i < j → LBy wr (xAt U i).2 (dwAt ds i).2.length (k + offW ds i + 1))
      ∧ Hid (∃ U' : List (Int × Value), U'.length = ds.length ∧ wr.ownsRow 0 109 2 (.slice a n c) ds.length (wcs U') ∧ (∀ i, (xAt U' i).2 = (xAt U i).2) ∧ ∀ i, i < j → (xAt U' i).1 = ((k + offW ds i : Nat) : Int))) (fun _ i _ => n - (intOf i).toNat)
  case atStart => exact ⟨0, k, rfl, rfl, Nat.zero_le _, rfl, Only.refl _ _, fun i hi => absurd hi (Nat.not_lt_zero _), ⟨U, H0.out.len, ownD_base H0.out.row (Nat.zero_le _), fun _ => rfl, fun i hi => absurd hi (Nat.not_lt_zero _)⟩⟩
  case round =>
    obtain ⟨j, q, rfl, rfl, hj, HQ, HO, HL, HW⟩ := hrel
    by_cases hlt : j < n
    · have hlt' : (j : Int) < (n : Int) := by omega
      have hjl : j < ds.length := by rw [← HNN.out]; exact hlt
      have HOF : Hid (offW ds (j + 1) = offW ds j + 1 + (dwAt ds j).2.length) := rfl
      have hle := offW_mono ds (show j + 1 ≤ ds.length by omega)
      have hqs : q ≤ 1004194304 := by have h1 := HQ.out; have h2 := HT.out; have h3 := offW_mono ds (show j ≤ ds.length by omega); omega
      have hq0 : (0 : Int) ≤ (q : Int) := by omega
      have hlen : (dwAt ds j).2.length ≤ 70368744177664 := by have h2 := HT.out; rw [HOF.out] at hle; omega
      have hown := own_kept (H0.out.own j hjl).2.1 HO.out (fun y hy => by
        rintro (e | ⟨i, hi, hb⟩)
        · exact H0.out.off j hjl y hy e
        · exact H0.out.apart j i hjl (by omega) (by omega) y hy hb)
      obtain ⟨U', hul, hrow, hu2, hu1⟩ := HW.out
      obtain ⟨-, -, -, hr⟩ := own_at hrow
      obtain ⟨g, rfl, -, -, hf, hcell⟩ := hr (by omega)
      obtain ⟨d0, d1⟩ := wcs_at U' j (by rw [hul]; exact hjl)
      have c0 := hcell _ _ d0
      have c1 := hcell _ _ d1
      have f0 := hf (j * 2)
      obtain ⟨a2, c2, e0, hrd, -⟩ := Ob.rd hown (H0.out.own j hjl).2.2 hlen
      have hwb := Ob.wb hown e0 (dwAt ds j).2.length
      have HOG : Hid (∀ i, i < ds.length → ∀ y, (xAt U i).2.ownBlock = some y → y ≠ g) := fun i hi y hy e => H0.out.off i hi y hy (by rw [e]; rfl)
      have HAP : Hid (∀ i, i < j → ∀ y, (xAt U i).2.ownBlock = some y → (xAt U j).2.ownBlock ≠ some y) := fun i hi y hy => H0.out.apart i j (by omega) hjl (by omega) y hy
      have hgj := HOG.out j hjl
      rw [hu2 j, e0] at c1
      rw [e0] at HAP hgj
      -- the store of At
      have OS : Hid (Only (fun y => y = g) wr (wr.setCell ⟨g, j * 2, none⟩ (.int .i64 (q : Int)))) := only_set (R := fun y => y = g) rfl _
      have HRD : Hid (Rd (wr.setCell ⟨g, j * 2, none⟩ (.int .i64 (q : Int))) a2 (dwAt ds j).2.length c2 (dwAt ds j).2) := hrd.toD OS.out (fun y e e2 => hgj y e e2)
      have HWB : Hid (Wb (wr.setCell ⟨g, j * 2, none⟩ (.int .i64 (q : Int))) a2 (dwAt ds j).2.length) := by
        intro x hx i hi
        rw [World.frozen?_setCell]
        exact hwb x hx i hi
      have HROW : Hid ((wr.setCell ⟨g, j * 2, none⟩ (.int .i64 (q : Int))).ownsRow 0 109 2 (.slice (some ⟨g, 0, none⟩) n c) ds.length (wcs (U'.set j (q, (xAt U' j).2)))) := by
        have := ownD_set hrow (j * 2) (.int .i64 (q : Int))
        have e : wcs (U'.set j ((q : Int), (xAt U' j).2)) = (wcs U').set (j * 2) (.int .i64 (q : Int)) := by
          rw [wcs_set _ _ _ (by rw [hul]; exact hjl)]
          apply List.ext_getElem?
          intro i
          by_cases e : i = j * 2 + 1
          · subst e
            rw [List.getElem?_set_self (by rw [List.length_set, wcs_length, hul]; omega), List.getElem?_set_ne (by omega), d1]
          · rw [List.getElem?_set_ne (by omega)]
        show World.ownsRow _ _ _ _ _ _ _
        rw [e]
        exact this
      have HU2 : Hid (∀ i, (xAt (U'.set j ((q : Int), (xAt U' j).2)) i).2 = (xAt U i).2) := by
        intro i
        by_cases e : i = j
        · subst e; rw [xAt_set (by rw [hul]; exact hjl)]; exact hu2 i
        · rw [xAt_other e]; exact hu2 i
      have HU1 : Hid (∀ i, i < j + 1 → (xAt (U'.set j ((q : Int), (xAt U' j).2)) i).1 = ((k + offW ds i : Nat) : Int)) := by
        intro i hi
        by_cases e : i = j
        · subst e; rw [xAt_set (by rw [hul]; exact hjl), ← HQ.out]
        · rw [xAt_other e]; exact hu1 i (by omega)
      have HUL : Hid ((U'.set j ((q : Int), (xAt U' j).2)).length = ds.length) := by show _ = _; rw [List.length_set]; exact hul
      have HE0 := hid e0
      have HBL : Hid (∀ y, (Value.slice (some ⟨g, 0, none⟩) n c).ownBlock = some y → y = g) := fun y e => by simpa [Value.ownBlock] using e.symm
      clear hrow hown hr hcell hrd hwb e0 hle hlen hu2 hu1 hul d0 d1 hf HW
      generalize U'.set j ((q : Int), (xAt U' j).2) = U2 at *
      generalize (xAt U' j).1 = o0 at *
      generalize hm : (dwAt ds j).2.length = m at *
      have HM := hid hm
      clear hm
      have hq1 : (0 : Int) ≤ (q : Int) + 1 := by omega
      have hq2 : (q : Int) + 1 ≤ 1099511627776 := by omega
      go_wp2_with fail
      refine (mark_any a2 m c2 _ ((q : Int) + 1) _ HRD.out HWB.out hq1 hq2).mono ?_
      generalize wr.setCell ⟨g, j * 2, none⟩ (.int .i64 (q : Int)) = ws at *
      rintro e w1 ⟨rfl, hr1, hg1⟩
      have O1 : Hid (Only (fun y => (Value.slice a2 m c2).ownBlock = some y) ws w1) := only_of_grown hg1 (fun k e => by rw [ownBlock_map]; exact e)
      have HGJ := hid hgj
      have HO3 : Hid (Only (fun y => (Value.slice (some ⟨g, 0, none⟩) n c).ownBlock = some y ∨ ∃ i, i < j + 1 ∧ (xAt U i).2.ownBlock = some y) w w1) := ((HO.out.mono (fun y _ h => h.imp id (fun ⟨i, hi, hb⟩ => ⟨i, by omega, hb⟩))).trans (OS.out.mono (fun y _ e => .inl (by rw [e]; rfl)))).trans (O1.out.mono (fun y _ e => .inr ⟨j, by omega, by rw [HE0.out]; exact e⟩))
      have HLF : Hid (∀ i, i < j + 1 → LBy w1 (xAt U i).2 (dwAt ds i).2.length (k + offW ds i + 1)) := by
        intro i hi
        by_cases e : i = j
        · subst e
          rw [HM.out, HE0.out, ← HQ.out]
          exact ⟨a2, c2, rfl, by simpa using hr1⟩
        · exact ((HL.out i (by omega)).to OS.out (fun y hy e2 => HOG.out i (by rw [← HNN.out]; omega) y hy e2)).to O1.out (fun y hy e2 => HAP.out i (by omega) y hy e2)
      have HROW1 := hid (own_kept HROW.out O1.out (fun y e e2 => HGJ.out y e2 (HBL.out y e)))
      have HQ3 : Hid (q + 1 + m = k + offW ds (j + 1)) := by show _ = _; rw [HOF.out, HQ.out]; omega
      clear hr1 hg1 HL HO HOF HRD HWB HAP hgj HROW f0 c0 c1
      go_wp2
      go_roundw
      case rel => exact ⟨j + 1, q + 1 + m, by go_num, by go_num, by omega, HQ3.out, HO3.out, HLF.out, ⟨U2, HUL.out, HROW1.out, HU2.out, HU1.out⟩⟩
      case measure => simp [intOf]; omega
    · have hjn : j = ds.length := by rw [← HNN.out]; omega
      subst hjn
      have HF : Hid (WM wr (.slice a n c) U ds k) := ⟨H0.out.len, HW.out, HL.out⟩
      have HO2 : Hid (Only (wbl (.slice a n c) U) w wr) := HO.out.mono (fun y _ h => h.imp id (fun ⟨i, hi, hb⟩ => ⟨i, by rw [H0.out.len]; exact hi, hb⟩))
      clear HL HW
      go_wp2
      go_ret
      exact ⟨by rw [← HQ.out]; rfl, HF.out, HO2.out⟩
set_option maxHeartbeats 4000000 in
set_option maxRecDepth 20000 in
theorem heldWriteS_any (a : Option Addr) (n c k : Nat) (U : List (Int × Value)) (ds : List DW) (w : World) (h : WM w (.slice a n c) U ds k) (ht : offW ds ds.length ≤ 4194304) (hk0 : 0 < k) (hk : k ≤ 1000000000) :
    Calls Try.prog 71 #[.slice a n c, .int .i64 (k : Int)] w fun e w' => e = .returned (.int .i64 ((k + offW ds ds.length : Nat) : Int)) ∧ Below w.heap.size w w' := by
  obtain ⟨U', hul, hrow, hu2, hu1⟩ := h.row
  obtain ⟨hnn, hnc, hcm, hr⟩ := own_at hrow
  have HNN := hid hnn
  have H0 := hid h
  have HT := hid ht
  have HR := hid hr
  have HU := hid (And.intro hul (And.intro hu2 hu1))
  clear h hnn ht hr hul hu2 hu1 hrow
  go_enter Try.func71, Try.ntmps71
  go_wp2_with fail
  go_loopw [1, 5] (fun x i wr => ∃ j q r : Nat, x = .int .i64 (q : Int) ∧ i = .int .i64 j ∧ j ≤ n ∧ Hid (q = k + offW ds j) ∧ wr = w.drewN r) (fun _ i _ => n - (intOf i).toNat)
  case atStart => exact ⟨0, k, 0, rfl, rfl, Nat.zero_le _, rfl, rfl⟩
  case round =>
    obtain ⟨j, q, r, rfl, rfl, hj, HQ, rfl⟩ := hrel
    by_cases hlt : j < n
    · have hlt' : (j : Int) < (n : Int) := by omega
      have hjl : j < ds.length := by rw [← HNN.out]; exact hlt
      have HOF : Hid (offW ds (j + 1) = offW ds j + 1 + (dwAt ds j).2.length) := rfl
      have hle := offW_mono ds (show j + 1 ≤ ds.length by omega)
      have hqs : q ≤ 1004194304 := by have h1 := HQ.out; have h2 := HT.out; have h3 := offW_mono ds (show j ≤ ds.length by omega); omega
      obtain ⟨g, rfl, -, -, -, hcell⟩ := HR.out (by omega)
      obtain ⟨d0, d1⟩ := wcs_at U' j (by rw [HU.out.1]; exact hjl)
      have c0 := hcell _ _ d0
      have c1 := hcell _ _ d1
      obtain ⟨a2, c2, e0, hrd⟩ := H0.out.lie j hjl
      rw [HU.out.2.1 j, e0] at c1
      rw [HU.out.2.2 j hjl, ← HQ.out] at c0
      rw [← HQ.out] at hrd
      have hlm : (dwAt ds j).2.length ≤ 4194304 := by have h2 := HT.out; rw [HOF.out] at hle; omega
      have HRD : Hid (Rd (w.drewN r) a2 (dwAt ds j).2.length c2 (marks ((q : Int) + 1) (dwAt ds j).2.length)) := by
        have := hrd.kept (Below.drewN' (Below.refl _ _) r)
        show Rd _ _ _ _ _
        simpa using this
      clear hcell hrd e0 hle d0 d1
      generalize hm : (dwAt ds j).2.length = m at *
      clear hm
      have hne : ((q : Int) != (q : Int)) = false := by simp
      have hq1 : (0 : Int) ≤ (q : Int) + 1 := by omega
      have hq2 : (q : Int) + 1 ≤ 1099511627776 := by omega
      have hzc : (q : Int) + 1 + (m : Int) = ((q + 1 + m : Nat) : Int) := by omega
      have hn0 : ¬ ((q + 1 + m : Nat) : Int) < 0 := by omega
      have HQ3 : Hid (q + 1 + m = k + offW ds (j + 1)) := by show _ = _; rw [HOF.out, HQ.out]; omega
      go_wp2_with fail
      refine (held_any a2 m c2 ((q : Int) + 1) _ HRD.out hq1 hq2).mono ?_
      rintro e w1 ⟨rfl, rfl⟩
      clear c0 c1 HOF HRD hne hq1 hq2
      rw [hzc]
      generalize q + 1 + m = z at *
      go_wp2
      go_roundw
      case rel => exact ⟨j + 1, z, r, rfl, by go_num, by omega, HQ3.out, rfl⟩
      case measure => simp [intOf]; omega
    · have hjn : j = ds.length := by rw [← HNN.out]; omega
      subst hjn
      have HE : Hid ((k : Int) + (offW ds ds.length : Int) = (q : Int)) := by have := HQ.out; show _ = _; omega
      go_wp2
      go_ret
      exact ⟨by first | (rw [HE.out]; rfl) | (rw [← HQ.out]; rfl), Below.drewN' (Below.refl _ _) r⟩
/-- The marks from k on stand in the disk. -/
structure DM (w : World) (sv : Value) (V : List Value) (dv : Value) (U : List (Int × Value)) (d : DK) (k : Nat) : Prop where
  hs : SM w sv V d.sh k
  hd : WM w dv U d.dw (k + offS d.sh d.sh.length)
theorem DM.to {w w' : World} {R : Nat → Prop} {sv dv : Value} {V : List Value} {U : List (Int × Value)} {d : DK} {k : Nat} (h : DM w sv V dv U d k) (ho : Only R w w') (hR : ∀ y, dbl sv V dv U y → ¬ R y) : DM w' sv V dv U d k := ⟨h.hs.to ho (fun y e => hR y (.inl e)), h.hd.to ho (fun y e => hR y (.inr e))⟩
theorem DM.below {w w' : World} {sv dv : Value} {V : List Value} {U : List (Int × Value)} {d : DK} {k : Nat} (h : DM w sv V dv U d k) (hb : Below w.heap.size w w') : DM w' sv V dv U d k := h.to (only_of_below hb (fun _ => False)) (fun _ _ h => h)
set_option maxHeartbeats 2000000 in
theorem markDisk_ex (B : Nat) (sa : Option Addr) (sn sc : Nat) (da : Option Addr) (dn dc k : Nat) (V : List Value) (U : List (Int × Value)) (d : DK) (w : World) (h : DO w B (.slice sa sn sc) V (.slice da dn dc) U d) (ht : dkTot d ≤ 4194304) (hk0 : 0 < k) (hk : k ≤ 100000000) :
    Calls Try.prog 20 #[.agg #[.slice sa sn sc, .slice da dn dc], .int .i64 (k : Int)] w fun e w' => e = .returned (.int .i64 ((k + dkTot d : Nat) : Int)) ∧ DM w' (.slice sa sn sc) V (.slice da dn dc) U d k ∧ Only (dbl (.slice sa sn sc) V (.slice da dn dc) U) w w' := by
  have hb := below_new (o := .cells #[.slice sa sn sc, .slice da dn dc] 46) (w := w) (Below.refl _ _)
  have K0 := hid (Bk.new w 46 [.slice sa sn sc, .slice da dn dc])
  have D0 := hid (h.below hb)
  have HNB : Hid (∀ y, dbl (.slice sa sn sc) V (.slice da dn dc) U y → y ≠ w.heap.size) := fun y hy => by have := (h.lt hy).2; omega
  have HO0 : Hid (Only (dbl (.slice sa sn sc) V (.slice da dn dc) U) w (w.alloc (.cells #[.slice sa sn sc, .slice da dn dc] 46))) := only_of_below hb _
  have t1 : offS d.sh d.sh.length ≤ 4194304 := by unfold dkTot at ht; omega
  have t2 : offW d.dw d.dw.length ≤ 4194304 := by unfold dkTot at ht; omega
  have HTT : Hid (k + offS d.sh d.sh.length + offW d.dw d.dw.length = k + dkTot d) := by show _ = _; unfold dkTot; omega
  have HL := hid h.hs.len
  have HT1 := hid t1
  have HT2 := hid t2
  clear hb h ht
  go_enter Try.func20, Try.ntmps20
  go_wp2_with fail
  refine (markSheetS_ex B sa sn sc k V d.sh _ D0.out.hs HT1.out hk0 (by omega)).mono ?_
  generalize w.alloc (.cells #[.slice sa sn sc, .slice da dn dc] 46) = W at *
  rintro e w1 ⟨rfl, hm1, ho1⟩
  have O1 := hid (ho1.mono (R' := sbl (.slice sa sn sc) V) (fun y _ ⟨i, hi, hb⟩ => .inr ⟨i, by rw [HL.out]; exact hi, hb⟩))
  have M1 := hid hm1
  have K1 := hid (K0.out.to O1.out (fun e => HNB.out _ (.inl e) rfl))
  have W1 := hid (D0.out.hd.to O1.out (fun y hy e => D0.out.ap y e hy))
  have c1 := K1.out.cell (j := 1) rfl
  have HQ1 : Hid (k + offS d.sh d.sh.length ≤ 1000000000) := by show _ ≤ _; omega
  clear hm1 ho1 K0 t1 t2
  generalize hq : k + offS d.sh d.sh.length = q at *
  have HQ := hid hq
  have hq0 : 0 < q := by omega
  clear hq
  go_wp2_with fail
  refine (markWriteS_ex B da dn dc q U d.dw _ W1.out HT2.out hq0 HQ1.out).mono ?_
  rintro e w2 ⟨rfl, hm2, ho2⟩
  have HF : Hid (DM w2 (.slice sa sn sc) V (.slice da dn dc) U d k) := ⟨M1.out.to ho2 (fun y hy e => D0.out.ap y hy e), by rw [HQ.out]; exact hm2⟩
  have HO : Hid (Only (dbl (.slice sa sn sc) V (.slice da dn dc) U) w w2) := (HO0.out.trans (O1.out.mono (fun y _ e => .inl e))).trans (ho2.mono (fun y _ e => .inr e))
  clear hm2 ho2 c1
  rw [HTT.out]
  go_wp2
  go_ret
  exact ⟨rfl, HF.out, HO.out⟩
set_option maxHeartbeats 2000000 in
theorem heldDisk_any (sa : Option Addr) (sn sc : Nat) (da : Option Addr) (dn dc k : Nat) (V : List Value) (U : List (Int × Value)) (d : DK) (w : World) (h : DM w (.slice sa sn sc) V (.slice da dn dc) U d k) (ht : dkTot d ≤ 4194304) (hk0 : 0 < k) (hk : k ≤ 100000000) :
    Calls Try.prog 22 #[.agg #[.slice sa sn sc, .slice da dn dc], .int .i64 (k : Int)] w fun e w' => e = .returned (.int .i64 ((k + dkTot d : Nat) : Int)) ∧ Below w.heap.size w w' := by
  have hb := below_new (o := .cells #[.slice sa sn sc, .slice da dn dc] 46) (w := w) (Below.refl _ _)
  have D0 := hid (h.below hb)
  have HB0 := hid hb
  have t1 : offS d.sh d.sh.length ≤ 4194304 := by unfold dkTot at ht; omega
  have t2 : offW d.dw d.dw.length ≤ 4194304 := by unfold dkTot at ht; omega
  have HTT : Hid (k + offS d.sh d.sh.length + offW d.dw d.dw.length = k + dkTot d) := by show _ = _; unfold dkTot; omega
  have HT1 := hid t1
  have HT2 := hid t2
  clear hb h
  go_enter Try.func22, Try.ntmps22
  go_wp2_with fail
  refine (heldSheetS_any sa sn sc k V d.sh _ D0.out.hs HT1.out hk0 (by omega)).mono ?_
  rintro e w1 ⟨rfl, rfl⟩
  have HQ1 : Hid (k + offS d.sh d.sh.length ≤ 1000000000) := by show _ ≤ _; omega
  have HD := hid D0.out.hd
  clear t1 t2 D0
  generalize hq : k + offS d.sh d.sh.length = q at *
  have hq0 : 0 < q := by omega
  have hq1 : ¬ (q : Int) < 0 := by omega
  clear hq
  go_wp2_with fail
  refine (heldWriteS_any da dn dc q U d.dw _ HD.out HT2.out hq0 HQ1.out).mono ?_
  rintro e w2 ⟨rfl, hb2⟩
  have HB2 := hid (HB0.out.trans (hb2.mono HB0.out.size))
  clear hb2
  rw [HTT.out]
  generalize hzz : k + dkTot d = z at *
  have HZZ := hid hzz
  clear hzz HTT
  have hz : ¬ (z : Int) < 0 := by omega
  go_wp2
  go_ret
  exact ⟨by rw [HZZ.out]; rfl, HB2.out⟩
end Go.Proofs.Ytcpdedpgjaimkaa

