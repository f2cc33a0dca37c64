/-
  Disks in the law's helpers: sizes summed, held against each other.
-/
import Derived.Test.YtmilnejacnaejaaGreatDoorMo3
import Derived.Test.YtmilnejacnaejaaGreatDoorMo1
import Derived.Test.YtmilnejacnaejaaGreatDoorMo2
import Derived.Deep.RegionLaw
import Derived.Deep.DeepCutAuto
import Derived.LaidLaws
import Derived.Stop.LaidErr
import Derived.WalkLawsBesides
import Derived.Defers
import Derived.Recover
import Derived.Deep.RegionWith
import Derived.RegionDies
namespace Go.Proofs.YtmilnejacnaejaaGreatDoor
open Go.RowKit
set_option linter.unusedVariables false
def offS (ss : List (List Int)) : Nat → Nat
  | 0 => 0
  | k + 1 => offS ss k + (shAt ss k).length
theorem offS_mono (ss : List (List Int)) {i n : Nat} (h : i ≤ n) : offS ss i ≤ offS ss n := by
  induction n with
  | zero => obtain rfl : i = 0 := by omega
            exact Nat.le_refl _
  | succ n ih =>
    by_cases e : i = n + 1
    · subst e; exact Nat.le_refl _
    · exact Nat.le_trans (ih (by omega)) (Nat.le_add_right _ _)
theorem eqByteS_bel (a a' : Option Addr) (n n' c c' : Nat) (zs zs' : List Int) (w : World) (h : Rd w a n c zs) (h' : Rd w a' n' c' zs') :
    Calls Tryz.prog 183 #[.slice a n c, .slice a' n' c'] w fun e w' => e = .returned (.bool (decide (zs = zs'))) ∧ Below w.heap.size w w' :=
  (eqByteS_any a a' n n' c c' zs zs' w h h').mono (fun e w' ⟨he, q, hw⟩ => ⟨he, by rw [hw]; exact Below.drewN' (Below.refl _ _) q⟩)
set_option maxHeartbeats 2000000 in
theorem eqSheet_any (a a' : Option Addr) (n n' c c' : Nat) (zs zs' : List Int) (w : World) (h : Rd w a n c zs) (h' : Rd w a' n' c' zs') :
    Calls Tryz.prog 159 #[.agg #[.slice a n c], .agg #[.slice a' n' c']] w fun e w' => e = .returned (.bool (decide (zs = zs'))) ∧ Below w.heap.size w w' := by
  have H0 := hid h
  have H0' := hid h'
  clear h h'
  have HB0 : Hid (Below w.heap.size w ((w.alloc (.cells #[.slice a n c] 130)).alloc (.cells #[.slice a' n' c'] 130))) := below_new (below_new (Below.refl _ _))
  go_enter Tryz.func159, Tryz.ntmps159
  go_wp2_with fail
  refine (eqByteS_bel a a' n n' c c' zs zs' _ (H0.out.kept HB0.out) (H0'.out.kept HB0.out)).mono ?_
  rintro e w1 ⟨rfl, hb1⟩
  have HB1 := hid (HB0.out.trans (hb1.mono HB0.out.size))
  clear hb1 HB0
  by_cases he : zs = zs'
  · have HE := hid (decide_eq_true he)
    rw [decide_eq_true he]
    clear he
    go_wp2
    go_ret
    exact ⟨by rw [HE.out]; rfl, HB1.out⟩
  · have HE := hid (decide_eq_false he)
    rw [decide_eq_false he]
    clear he
    go_wp2
    go_ret
    exact ⟨by rw [HE.out]; rfl, HB1.out⟩
set_option maxHeartbeats 2000000 in
theorem eqWrite_any (t t' : Int) (a a' : Option Addr) (n n' c c' : Nat) (zs zs' : List Int) (w : World) (h : Rd w a n c zs) (h' : Rd w a' n' c' zs') :
    Calls Tryz.prog 123 #[.agg #[.int .i64 t, .slice a n c], .agg #[.int .i64 t', .slice a' n' c']] w fun e w' => e = .returned (.bool (decide ((t, zs) = (t', zs')))) ∧ Below w.heap.size w w' := by
  have H0 := hid h
  have H0' := hid h'
  clear h h'
  have HB0 : Hid (Below w.heap.size w ((w.alloc (.cells #[.int .i64 t, .slice a n c] 99)).alloc (.cells #[.int .i64 t', .slice a' n' c'] 99))) := below_new (below_new (Below.refl _ _))
  by_cases ht : t = t'
  · subst ht
    have ht2 : (t != t) = false := by simp
    go_enter Tryz.func123, Tryz.ntmps123
    go_wp2_with fail
    refine (eqByteS_bel a a' n n' c c' zs zs' _ (H0.out.kept HB0.out) (H0'.out.kept HB0.out)).mono ?_
    rintro e w1 ⟨rfl, hb1⟩
    have HB1 := hid (HB0.out.trans (hb1.mono HB0.out.size))
    clear hb1 HB0
    by_cases he : zs = zs'
    · have HE : Hid (decide ((t, zs) = (t, zs')) = true) := by show _ = _; simp [he]
      rw [decide_eq_true he]
      clear he
      go_wp2
      go_ret
      exact ⟨by rw [HE.out]; rfl, HB1.out⟩
    · have HE : Hid (decide ((t, zs) = (t, zs')) = false) := by show _ = _; simp [he]
      rw [decide_eq_false he]
      clear he
      go_wp2
      go_ret
      exact ⟨by rw [HE.out]; rfl, HB1.out⟩
  · have ht2 : (t != t') = true := by simp [ht]
    have HE : Hid (decide ((t, zs) = (t', zs')) = false) := by show _ = _; simp [ht]
    clear ht
    go_enter Tryz.func123, Tryz.ntmps123
    go_wp2
    go_ret
    exact ⟨by rw [HE.out]; rfl, HB0.out⟩
set_option maxHeartbeats 4000000 in
theorem eqSheetS_at (S S' : Nat → Prop) (a a' : Option Addr) (n n' c c' : Nat) (l l' : List (List Int)) (w : World) (h : Shr w S (.slice a n c) l) (h' : Shr w S' (.slice a' n' c') l') (hs : ∀ i, i < l.length → (shAt l i).length ≤ 1048576) (hs' : ∀ i, i < l'.length → (shAt l' i).length ≤ 1048576) :
    Calls Tryz.prog 89 #[.slice a n c, .slice a' n' c'] w fun e w' => e = .returned (.bool (decide (l = l'))) ∧ Below w.heap.size w w' := by
  obtain ⟨hn, hnc, hcc⟩ := h.len
  obtain ⟨hn', hnc', hcc'⟩ := h'.len
  have HN := hid hn
  have HN' := hid hn'
  have H0 := hid h
  have H0' := hid h'
  have HSM := hid hs
  have HSM' := hid hs'
  clear h h' hn hn' hs hs'
  by_cases hne : n = n'
  · subst hne
    have hz : ((n : Int) != (n : Int)) = false := by simp
    go_enter Tryz.func89, Tryz.ntmps89
    go_wp2
    go_loopw [5] (fun i wr => ∃ k : Nat, k ≤ n ∧ i = .int .i64 k ∧ Hid (Below w.heap.size w wr) ∧ Hid (l.take k = l'.take k)) (fun i _ => n - (intOf i).toNat)
    case atStart => exact ⟨0, Nat.zero_le _, rfl, Below.refl _ _, rfl⟩
    case round =>
      obtain ⟨k, hk, rfl, HB, HT⟩ := hrel
      by_cases hlt : k < n
      · have hlt' : (k : Int) < (n : Int) := by omega
        have HP := hid (H0.out.below HB.out)
        have HP' := hid (H0'.out.below HB.out)
        obtain ⟨b, off, rfl, _, hbw, hcell⟩ := HP.out.at (by omega)
        obtain ⟨b', off', rfl, _, hbw', hcell'⟩ := HP'.out.at (by omega)
        obtain ⟨ap, np, cp, c0, hp⟩ := hcell k hlt
        obtain ⟨ap', np', cp', d0, hp'⟩ := hcell' k hlt
        have hr := hp.rd (by rw [hp.len.1]; exact HSM.out k (by rw [← HN.out]; exact hlt))
        have hr' := hp'.rd (by rw [hp'.len.1]; exact HSM'.out k (by rw [← HN'.out]; exact hlt))
        have HC : Hid (∀ v, Below wr.heap.size wr v → Calls Tryz.prog 159 #[.agg #[.slice ap np cp], .agg #[.slice ap' np' cp']] v fun e w' => e = .returned (.bool (decide (shAt l k = shAt l' k))) ∧ Below v.heap.size v w') := fun v hv =>
          eqSheet_any ap ap' np np' cp cp' (shAt l k) (shAt l' k) v (hr.kept hv) (hr'.kept hv)
        have HS : Hid (shAt l k = shAt l' k → l.take (k + 1) = l'.take (k + 1)) := by
          intro e
          have hl : k < l.length := by rw [← HN.out]; exact hlt
          have hl' : k < l'.length := by rw [← HN'.out]; exact hlt
          rw [List.take_succ_eq_append_getElem hl, List.take_succ_eq_append_getElem hl', HT.out]
          simp [shAt, hl, hl'] at e
          rw [e]
        have HF : Hid (shAt l k ≠ shAt l' k → decide (l = l') = false) := by
          intro e
          rw [decide_eq_false_iff_not]
          intro e'
          exact e (by rw [e'])
        have T0 := hid (kc0_2 c0 d0)
        clear hcell hcell' hbw hbw' HP HP' HT hp hp' hr hr' c0 d0 
        generalize shAt l k = cx1 at *
        generalize shAt l' k = cx2 at *
        by_cases he : cx1 = cx2
        · have HS1 := hid (HS.out he)
          rw [decide_eq_true he] at HC
          clear he HS HF
          go_wp2_with fail
          go_region_held3 (fun v => v.cell? ⟨b, off + k, none⟩ = some (.slice ap np cp) ∧ v.cell? ⟨b', off' + k, none⟩ = some (.slice ap' np' cp') ∧ KC wr v [(⟨b, off + k, none⟩, .slice ap np cp), (⟨b', off' + k, none⟩, .slice ap' np' cp')])
            (first | assumption | exact kc2 (T0.out.call (below_drew _)) | exact kc2c hbC (by assumption))
            (first | (go_at_call 159; refine (HC.out _ (KC.bel (by first | exact (by assumption : _ ∧ _ ∧ _).2.2))).mono ?_; rintro e w' ⟨rfl, hbC⟩))
          all_goals (rename_i hS; have HB1 := hid (Below.then' HB.out hS.2.2.bel (Nat.le_refl _)); clear hS; go_wp2)
          go_roundw
          case rel => exact ⟨k + 1, by omega, by go_num, HB1.out, HS1.out⟩
          case measure => simp [intOf]; omega
        · have HF1 := hid (HF.out he)
          rw [decide_eq_false he] at HC
          clear he HS HF
          go_wp2_with fail
          go_region_held3 (fun v => v.cell? ⟨b, off + k, none⟩ = some (.slice ap np cp) ∧ v.cell? ⟨b', off' + k, none⟩ = some (.slice ap' np' cp') ∧ KC wr v [(⟨b, off + k, none⟩, .slice ap np cp), (⟨b', off' + k, none⟩, .slice ap' np' cp')])
            (first | assumption | exact kc2 (T0.out.call (below_drew _)) | exact kc2c hbC (by assumption))
            (first | (go_at_call 159; refine (HC.out _ (KC.bel (by first | exact (by assumption : _ ∧ _ ∧ _).2.2))).mono ?_; rintro e w' ⟨rfl, hbC⟩))
          all_goals (rename_i hS; have HB1 := hid (Below.then' HB.out hS.2.2.bel (Nat.le_refl _)); clear hS; go_wp2)
          go_ret
          exact ⟨by rw [HF1.out]; rfl, HB1.out⟩
      · have HF : Hid (decide (l = l') = true) := by
          show decide (l = l') = true
          have hk' : k = n := by omega
          have e := HT.out
          have e1 : l.length ≤ k := by rw [← HN.out]; omega
          have e2 : l'.length ≤ k := by rw [← HN'.out]; omega
          rw [List.take_of_length_le e1, List.take_of_length_le e2] at e
          simp [e]
        clear HT
        go_wp2
        go_ret
        exact ⟨by rw [HF.out]; rfl, HB.out⟩
  · have hz : ((n : Int) != (n' : Int)) = true := by simp; omega
    have HF : Hid (decide (l = l') = false) := by
      show decide (l = l') = false
      rw [decide_eq_false_iff_not]
      intro e
      exact hne (by rw [HN.out, HN'.out, e])
    clear hne
    go_enter Tryz.func89, Tryz.ntmps89
    go_wp2
    go_ret
    exact ⟨by rw [HF.out]; rfl, Below.refl _ _⟩
set_option maxHeartbeats 4000000 in
theorem eqWriteS_at (S S' : Nat → Prop) (a a' : Option Addr) (n n' c c' : Nat) (l l' : List DW) (w : World) (h : Wrr w S (.slice a n c) l) (h' : Wrr w S' (.slice a' n' c') l') (hs : ∀ i, i < l.length → (dwAt l i).2.length ≤ 1048576) (hs' : ∀ i, i < l'.length → (dwAt l' i).2.length ≤ 1048576) :
    Calls Tryz.prog 90 #[.slice a n c, .slice a' n' c'] w fun e w' => e = .returned (.bool (decide (l = l'))) ∧ Below w.heap.size w w' := by
  obtain ⟨hn, hnc, hcc⟩ := h.len
  obtain ⟨hn', hnc', hcc'⟩ := h'.len
  have HN := hid hn
  have HN' := hid hn'
  have H0 := hid h
  have H0' := hid h'
  have HSM := hid hs
  have HSM' := hid hs'
  clear h h' hn hn' hs hs'
  by_cases hne : n = n'
  · subst hne
    have hz : ((n : Int) != (n : Int)) = false := by simp
    go_enter Tryz.func90, Tryz.ntmps90
    go_wp2
    go_loopw [5] (fun i wr => ∃ k : Nat, k ≤ n ∧ i = .int .i64 k ∧ Hid (Below w.heap.size w wr) ∧ Hid (l.take k = l'.take k)) (fun i _ => n - (intOf i).toNat)
    case atStart => exact ⟨0, Nat.zero_le _, rfl, Below.refl _ _, rfl⟩
    case round =>
      obtain ⟨k, hk, rfl, HB, HT⟩ := hrel
      by_cases hlt : k < n
      · have hlt' : (k : Int) < (n : Int) := by omega
        have HP := hid (H0.out.below HB.out)
        have HP' := hid (H0'.out.below HB.out)
        obtain ⟨b, off, rfl, _, hbw, hcell⟩ := HP.out.at (by omega)
        obtain ⟨b', off', rfl, _, hbw', hcell'⟩ := HP'.out.at (by omega)
        obtain ⟨ap, np, cp, ct, c0, hp⟩ := hcell k hlt
        obtain ⟨ap', np', cp', dt, d0, hp'⟩ := hcell' k hlt
        have hr := hp.rd (by rw [hp.len.1]; exact HSM.out k (by rw [← HN.out]; exact hlt))
        have hr' := hp'.rd (by rw [hp'.len.1]; exact HSM'.out k (by rw [← HN'.out]; exact hlt))
        have HC : Hid (∀ v, Below wr.heap.size wr v → Calls Tryz.prog 123 #[.agg #[.int .i64 (dwAt l k).1, .slice ap np cp], .agg #[.int .i64 (dwAt l' k).1, .slice ap' np' cp']] v fun e w' => e = .returned (.bool (decide (dwAt l k = dwAt l' k))) ∧ Below v.heap.size v w') := fun v hv =>
          eqWrite_any (dwAt l k).1 (dwAt l' k).1 ap ap' np np' cp cp' (dwAt l k).2 (dwAt l' k).2 v (hr.kept hv) (hr'.kept hv)
        have HS : Hid (dwAt l k = dwAt l' k → l.take (k + 1) = l'.take (k + 1)) := by
          intro e
          have hl : k < l.length := by rw [← HN.out]; exact hlt
          have hl' : k < l'.length := by rw [← HN'.out]; exact hlt
          rw [List.take_succ_eq_append_getElem hl, List.take_succ_eq_append_getElem hl', HT.out]
          simp [dwAt, hl, hl'] at e
          rw [e]
        have HF : Hid (dwAt l k ≠ dwAt l' k → decide (l = l') = false) := by
          intro e
          rw [decide_eq_false_iff_not]
          intro e'
          exact e (by rw [e'])
        have T0 := hid (kc0_4 ct c0 dt d0)
        clear hcell hcell' hbw hbw' HP HP' HT hp hp' hr hr' ct c0 dt d0 
        generalize dwAt l k = cx1 at *
        generalize dwAt l' k = cx2 at *
        by_cases he : cx1 = cx2
        · have HS1 := hid (HS.out he)
          rw [decide_eq_true he] at HC
          clear he HS HF
          go_wp2_with fail
          go_region_held3 (fun v => v.cell? ⟨b, off + k * 2, none⟩ = some (.int .i64 cx1.1) ∧ v.cell? ⟨b, off + k * 2 + 1, none⟩ = some (.slice ap np cp) ∧ v.cell? ⟨b', off' + k * 2, none⟩ = some (.int .i64 cx2.1) ∧ v.cell? ⟨b', off' + k * 2 + 1, none⟩ = some (.slice ap' np' cp') ∧ KC wr v [(⟨b, off + k * 2, none⟩, .int .i64 cx1.1), (⟨b, off + k * 2 + 1, none⟩, .slice ap np cp), (⟨b', off' + k * 2, none⟩, .int .i64 cx2.1), (⟨b', off' + k * 2 + 1, none⟩, .slice ap' np' cp')])
            (first | assumption | exact kc4 (T0.out.call (below_drew _)) | exact kc4c hbC (by assumption))
            (first | (go_at_call 123; refine (HC.out _ (KC.bel (by first | exact (by assumption : _ ∧ _ ∧ _ ∧ _ ∧ _).2.2.2.2))).mono ?_; rintro e w' ⟨rfl, hbC⟩))
          all_goals (rename_i hS; have HB1 := hid (Below.then' HB.out hS.2.2.2.2.bel (Nat.le_refl _)); clear hS; go_wp2)
          go_roundw
          case rel => exact ⟨k + 1, by omega, by go_num, HB1.out, HS1.out⟩
          case measure => simp [intOf]; omega
        · have HF1 := hid (HF.out he)
          rw [decide_eq_false he] at HC
          clear he HS HF
          go_wp2_with fail
          go_region_held3 (fun v => v.cell? ⟨b, off + k * 2, none⟩ = some (.int .i64 cx1.1) ∧ v.cell? ⟨b, off + k * 2 + 1, none⟩ = some (.slice ap np cp) ∧ v.cell? ⟨b', off' + k * 2, none⟩ = some (.int .i64 cx2.1) ∧ v.cell? ⟨b', off' + k * 2 + 1, none⟩ = some (.slice ap' np' cp') ∧ KC wr v [(⟨b, off + k * 2, none⟩, .int .i64 cx1.1), (⟨b, off + k * 2 + 1, none⟩, .slice ap np cp), (⟨b', off' + k * 2, none⟩, .int .i64 cx2.1), (⟨b', off' + k * 2 + 1, none⟩, .slice ap' np' cp')])
            (first | assumption | exact kc4 (T0.out.call (below_drew _)) | exact kc4c hbC (by assumption))
            (first | (go_at_call 123; refine (HC.out _ (KC.bel (by first | exact (by assumption : _ ∧ _ ∧ _ ∧ _ ∧ _).2.2.2.2))).mono ?_; rintro e w' ⟨rfl, hbC⟩))
          all_goals (rename_i hS; have HB1 := hid (Below.then' HB.out hS.2.2.2.2.bel (Nat.le_refl _)); clear hS; go_wp2)
          go_ret
          exact ⟨by rw [HF1.out]; rfl, HB1.out⟩
      · have HF : Hid (decide (l = l') = true) := by
          show decide (l = l') = true
          have hk' : k = n := by omega
          have e := HT.out
          have e1 : l.length ≤ k := by rw [← HN.out]; omega
          have e2 : l'.length ≤ k := by rw [← HN'.out]; omega
          rw [List.take_of_length_le e1, List.take_of_length_le e2] at e
          simp [e]
        clear HT
        go_wp2
        go_ret
        exact ⟨by rw [HF.out]; rfl, HB.out⟩
  · have hz : ((n : Int) != (n' : Int)) = true := by simp; omega
    have HF : Hid (decide (l = l') = false) := by
      show decide (l = l') = false
      rw [decide_eq_false_iff_not]
      intro e
      exact hne (by rw [HN.out, HN'.out, e])
    clear hne
    go_enter Tryz.func90, Tryz.ntmps90
    go_wp2
    go_ret
    exact ⟨by rw [HF.out]; rfl, Below.refl _ _⟩
set_option maxHeartbeats 2000000 in
theorem eqDisk_any (S S' : Nat → Prop) (sa : Option Addr) (sn sc : Nat) (da : Option Addr) (dn dc : Nat) (d : DK) (sa' : Option Addr) (sn' sc' : Nat) (da' : Option Addr) (dn' dc' : Nat) (d' : DK) (w : World) (h : Dk w S sa sn sc da dn dc d) (h' : Dk w S' sa' sn' sc' da' dn' dc' d') (hs : smallD d) (hs' : smallD d') :
    Calls Tryz.prog 40 #[.agg #[.slice sa sn sc, .slice da dn dc], .agg #[.slice sa' sn' sc', .slice da' dn' dc']] w fun e w' => e = .returned (.bool (decide (d = d'))) ∧ Below w.heap.size w w' := by
  have H0 := hid h
  have H0' := hid h'
  have HS := hid hs
  have HS' := hid hs'
  clear h h' hs hs'
  have HB0 : Hid (Below w.heap.size w ((w.alloc (.cells #[.slice sa sn sc, .slice da dn dc] 25)).alloc (.cells #[.slice sa' sn' sc', .slice da' dn' dc'] 25))) := below_new (below_new (Below.refl _ _))
  have KA : Hid (Bk ((w.alloc (.cells #[.slice sa sn sc, .slice da dn dc] 25)).alloc (.cells #[.slice sa' sn' sc', .slice da' dn' dc'] 25)) w.heap.size 25 [.slice sa sn sc, .slice da dn dc]) := (Bk.new w 25 [.slice sa sn sc, .slice da dn dc]).alloc _
  have KB : Hid (Bk ((w.alloc (.cells #[.slice sa sn sc, .slice da dn dc] 25)).alloc (.cells #[.slice sa' sn' sc', .slice da' dn' dc'] 25)) (w.heap.size + 1) 25 [.slice sa' sn' sc', .slice da' dn' dc']) := by
    have := Bk.new (w.alloc (.cells #[.slice sa sn sc, .slice da dn dc] 25)) 25 [.slice sa' sn' sc', .slice da' dn' dc']
    show Bk _ _ _ _
    simpa using this
  go_enter Tryz.func40, Tryz.ntmps40
  go_wp2_with fail
  refine (eqSheetS_at S S' sa sa' sn sn' sc sc' d.sh d'.sh _ (H0.out.hs.below HB0.out) (H0'.out.hs.below HB0.out) HS.out.1 HS'.out.1).mono ?_
  generalize (w.alloc (.cells #[.slice sa sn sc, .slice da dn dc] 25)).alloc (.cells #[.slice sa' sn' sc', .slice da' dn' dc'] 25) = W at *
  rintro e w1 ⟨rfl, hb1⟩
  have HB1 := hid (HB0.out.trans (hb1.mono HB0.out.size))
  have KA1 := hid (KA.out.below hb1)
  have KB1 := hid (KB.out.below hb1)
  clear hb1 HB0 KA KB
  by_cases h1 : d.sh = d'.sh
  · rw [decide_eq_true h1]
    have HH1 := hid h1
    clear h1
    have c0 := KA1.out.cell (j := 1) rfl
    have d0 := KB1.out.cell (j := 1) rfl
    go_wp2_with fail
    refine (eqWriteS_at S S' da da' dn dn' dc dc' d.dw d'.dw _ (H0.out.hd.below HB1.out) (H0'.out.hd.below HB1.out) HS.out.2 HS'.out.2).mono ?_
    rintro e w2 ⟨rfl, hb2⟩
    have HB2 := hid (HB1.out.trans (hb2.mono HB1.out.size))
    clear hb2 HB1 KA1 KB1 c0 d0
    by_cases h2 : d.dw = d'.dw
    · rw [decide_eq_true h2]
      have HF : Hid (decide (d = d') = true) := by
        show _ = _
        rw [decide_eq_true_eq]
        have e1 := HH1.out
        cases d; cases d'; simp_all
      clear h2
      go_wp2
      go_ret
      exact ⟨by rw [HF.out]; rfl, HB2.out⟩
    · rw [decide_eq_false h2]
      have HF : Hid (decide (d = d') = false) := by
        show _ = _
        rw [decide_eq_false_iff_not]
        rintro rfl
        exact h2 rfl
      clear h2
      go_wp2
      go_ret
      exact ⟨by rw [HF.out]; rfl, HB2.out⟩
  · rw [decide_eq_false h1]
    have HF : Hid (decide (d = d') = false) := by
      show _ = _
      rw [decide_eq_false_iff_not]
      rintro rfl
      exact h1 rfl
    clear h1
    go_wp2
    go_ret
    exact ⟨by rw [HF.out]; rfl, HB1.out⟩
open Go.RowKit
def marks (k : Int) (n : Nat) : List Int := (List.range n).map fun i : Nat => (k + (i : Int)) % 256
theorem marks_len (k : Int) (n : Nat) : (marks k n).length = n := by simp [marks]
theorem marks_at (k : Int) (n i : Nat) (h : i < n) : (marks k n)[i]?.getD 0 = (k + (i : Int)) % 256 := by simp [marks, h]
theorem marks_byte (k : Int) (n : Nat) : ∀ i : Nat, 0 ≤ (marks k n)[i]?.getD 0 ∧ (marks k n)[i]?.getD 0 ≤ 255 := by
  intro i
  by_cases h : i < n
  · rw [marks_at k n i h]; omega
  · rw [List.getElem?_eq_none (by rw [marks_len]; omega)]; simp
def Wb (w : World) (a : Option Addr) (n : Nat) : Prop := ∀ x, a = some x → ∀ i, i < n → w.frozen? ⟨x.block, x.off + i, none⟩ = false
theorem Ob.wb {w : World} {B : Nat} {v : Value} {zs : List Int} (h : Ob w B v zs) {a : Option Addr} {n c : Nat} (hv : v = .slice a n c) (m : Nat) : Wb w a m := by
  intro x hx i _
  rcases h.2 with ⟨rfl, h0⟩ | ⟨g, cap, cur, rfl, hbg, hg, hnc, hcm, hcs, htake⟩
  · cases hv; cases hx
  · cases hv; cases hx
    simp [World.frozen?, hg]
theorem grownBy_refl (w : World) (row : Option Nat) : w.grownBy w row := ⟨rfl, rfl, rfl, Nat.le_refl _, fun _ _ _ => rfl⟩
theorem grownBy_setCell {w w' : World} {b : Nat} (h : w.grownBy w' (some b)) (o : Nat) (v : Value) : w.grownBy (w'.setCell ⟨b, o, none⟩ v) (some b) :=
  ⟨h.os, h.tape, h.output, by simp [World.setCell]; exact h.size, fun k hk hne => by rw [Below.heap_setCell _ _ _ _ (fun e => hne (by rw [e]))]; exact h.block k hk hne⟩
set_option maxHeartbeats 800000 in
theorem mark_any (a : Option Addr) (n c : Nat) (zs : List Int) (k : Int) (w : World) (h : Rd w a n c zs) (hw : Wb w a n) (hk0 : 0 ≤ k) (hk1 : k ≤ 1099511627776) :
    Calls Tryz.prog 62 #[.slice a n c, .int .i64 k] w fun e w' => e = .returned (.int .i64 (k + n)) ∧ Rd w' a n c (marks k n) ∧ w.grownBy w' (a.map (·.block)) := by
  obtain ⟨hn0, hc, hm, hnm, hb, hcell⟩ := h
  have HN : Hid (n = zs.length) := hn0
  have HW := hid hw
  clear hn0 hw hb
  rcases Nat.eq_zero_or_pos n with hz | hp
  · subst hz
    clear hcell
    go_enter Tryz.func62, Tryz.ntmps62
    go_wp2
    go_loop [1, 5] (fun s i => s = .int .i64 k ∧ i = .int .i64 0) (fun _ _ => 0)
    case atStart => exact ⟨rfl, rfl⟩
    case round =>
      obtain ⟨rfl, rfl⟩ := hrel
      go_wp2
      go_ret
      exact ⟨by simp, ⟨rfl, hc, hm, hnm, marks_byte k 0, fun h => by omega⟩, grownBy_refl _ _⟩
  · obtain ⟨b, off, rfl, hbw, hcell⟩ := hcell hp
    go_enter Tryz.func62, Tryz.ntmps62
    go_wp2
    go_loopw [1, 5] (fun s i wr => ∃ j : Nat, j ≤ n ∧ i = .int .i64 j ∧ s = .int .i64 (k + j) ∧ w.grownBy wr (some b) ∧ (∀ i, i < n → wr.frozen? ⟨b, off + i, none⟩ = false) ∧
      (∀ i, i < n → wr.cell? ⟨b, off + i, none⟩ = some (.int .u8 (if i < j then (k + (i : Int)) % 256 else zs[i]?.getD 0)))) (fun _ i _ => n - (intOf i).toNat)
    case atStart => exact ⟨0, Nat.zero_le _, rfl, by simp, grownBy_refl _ _, fun i hi => HW.out _ rfl i hi, fun i hi => by rw [hcell i hi]; simp⟩
    case round =>
      obtain ⟨j, hj, rfl, rfl, hgr, hfr, hcl⟩ := hrel
      clear hcell
      by_cases hlt : j < n
      · have hlt' : (j : Int) < (n : Int) := by omega
        have hcj := hcl j hlt
        have hfj := hfr j hlt
        have HC := hid hcl
        have HF := hid hfr
        have HG := hid hgr
        clear hcl hfr hgr
        rw [if_neg (Nat.lt_irrefl j)] at hcj
        have hwrap : IntKind.u8.wrap (k + (j : Int)) = (k + (j : Int)) % 256 := by simp [IntKind.wrap, IntKind.signed, IntKind.bits]
        go_wp2
        go_roundw
        case rel =>
          refine ⟨j + 1, by omega, by go_num, by go_num, grownBy_setCell HG.out _ _, fun i hi => by simpa using HF.out i hi, fun i hi => ?_⟩
          by_cases e : i = j
          · subst e
            rw [World.cell?_setCell_same _ _ _ hcj]
            simp
          · rw [World.cell?_setCell_other (h := by simp only [ne_eq, Addr.mk.injEq, not_and]; intro _ h; omega), HC.out i hi]
            by_cases e2 : i < j
            · rw [if_pos e2, if_pos (by omega)]
            · rw [if_neg e2, if_neg (by omega)]
        case measure => simp [intOf]; omega
      · have hlt' : ¬ (j : Int) < (n : Int) := by omega
        have hjn : j = n := by omega
        have HC := hid hcl
        have HG := hid hgr
        clear hcl hfr hgr
        subst hjn
        go_wp2
        go_ret
        refine ⟨rfl, ⟨(marks_len k j).symm, hc, hm, hnm, marks_byte k j, fun _ => ⟨b, off, rfl, Nat.lt_of_lt_of_le hbw HG.out.size, fun i hi => ?_⟩⟩, HG.out⟩
        rw [HC.out i hi, if_pos hi, marks_at k j i hi]
set_option maxHeartbeats 800000 in
theorem held_any (a : Option Addr) (n c : Nat) (k : Int) (w : World) (h : Rd w a n c (marks k n)) (hk0 : 0 ≤ k) (hk1 : k ≤ 1099511627776) :
    Calls Tryz.prog 63 #[.slice a n c, .int .i64 k] w fun e w' => e = .returned (.int .i64 (k + n)) ∧ w = w' := by
  obtain ⟨h1, hc, hm, hnm, hb, hcell⟩ := h
  clear hb h1
  go_enter Tryz.func63, Tryz.ntmps63
  go_wp2
  go_loop [1, 5] (fun s i => ∃ j : Nat, j ≤ n ∧ i = .int .i64 j ∧ s = .int .i64 (k + j)) (fun _ i => n - (intOf i).toNat)
  case atStart => exact ⟨0, Nat.zero_le _, rfl, by simp⟩
  case round =>
    obtain ⟨j, hj, rfl, rfl⟩ := hrel
    by_cases hlt : j < n
    · have hlt' : (j : Int) < (n : Int) := by omega
      obtain ⟨b, off, ha, hbw, hcell⟩ := hcell (by omega)
      have hcj := hcell j hlt
      rw [marks_at k n j hlt] at hcj
      clear hcell
      have hwrap : IntKind.u8.wrap (k + (j : Int)) = (k + (j : Int)) % 256 := by simp [IntKind.wrap, IntKind.signed, IntKind.bits]
      have hne : ((k + (j : Int)) % 256 != (k + (j : Int)) % 256) = false := by simp
      rw [ha]
      go_wp2
      go_round
      case rel => exact ⟨j + 1, by omega, by go_num, by go_num⟩
      case measure => simp [intOf]; omega
    · have hlt' : ¬ (j : Int) < (n : Int) := by omega
      have hjn : j = n := by omega
      subst hjn
      go_wp2
      go_ret
      exact ⟨rfl, rfl⟩
open Go.RowKit
set_option linter.unusedVariables false
def offW (ds : List DW) : Nat → Nat
  | 0 => 0
  | k + 1 => offW ds k + 1 + (dwAt ds k).2.length
theorem offW_eq (ds : List DW) (k : Nat) : offW ds k = offS (ds.map Prod.snd) k + k := by
  induction k with
  | zero => rfl
  | succ k ih => simp only [offW, offS, shAt_map, ih]; omega
theorem offW_mono (ds : List DW) {i n : Nat} (h : i ≤ n) : offW ds i ≤ offW ds n := by
  rw [offW_eq, offW_eq]
  have := offS_mono (ds.map Prod.snd) h
  omega
def dkTot (d : DK) : Nat := offS d.sh d.sh.length + offW d.dw d.dw.length
theorem ownBlock_map (a : Option Addr) (n c : Nat) : (Value.slice a n c).ownBlock = a.map (·.block) := by cases a <;> rfl
theorem Rd.toD {w w' : World} {R : Nat → Prop} {a : Option Addr} {n c : Nat} {zs : List Int} (h : Rd w a n c zs) (ho : Only R w w') (hR : ∀ y, (Value.slice a n c).ownBlock = some y → ¬ R y) : Rd w' a n c zs := by
  obtain ⟨h1, h2, h3, h30, h4, h5⟩ := h
  refine ⟨h1, h2, h3, h30, h4, fun hp => ?_⟩
  obtain ⟨b, off, rfl, hb, hc⟩ := h5 hp
  refine ⟨b, off, rfl, Nat.lt_of_lt_of_le hb ho.size, fun i hi => ?_⟩
  rw [World.cell?_of_block (w := w) (a := ⟨b, off + i, none⟩) (ho.block b hb (hR b (by rw [ownBlock_map]; rfl)))]
  exact hc i hi
def LBy (w : World) (v : Value) (n q : Nat) : Prop := ∃ a c, v = .slice a n c ∧ Rd w a n c (marks (q : Int) n)
theorem LBy.to {w w' : World} {R : Nat → Prop} {v : Value} {n q : Nat} (h : LBy w v n q) (ho : Only R w w') (hR : ∀ y, v.ownBlock = some y → ¬ R y) : LBy w' v n q := by
  obtain ⟨a, c, rfl, hr⟩ := h
  exact ⟨a, c, rfl, hr.toD ho hR⟩
structure SM (w : World) (v : Value) (V : List Value) (ss : List (List Int)) (k : Nat) : Prop where
  len : V.length = ss.length
  row : w.ownsRow 0 130 1 v ss.length V
  lie : ∀ i, i < ss.length → LBy w (uAt V i) (shAt ss i).length (k + offS ss i)
theorem SM.to {w w' : World} {R : Nat → Prop} {v : Value} {V : List Value} {ss : List (List Int)} {k : Nat} (h : SM w v V ss k) (ho : Only R w w') (hR : ∀ y, sbl v V y → ¬ R y) : SM w' v V ss k :=
  ⟨h.len, own_kept h.row ho (fun y e => hR y (.inl e)), fun i hi => (h.lie i hi).to ho (fun y e => hR y (.inr ⟨i, by rw [h.len]; exact hi, e⟩))⟩
structure WM (w : World) (v : Value) (U : List (Int × Value)) (ds : List DW) (k : Nat) : Prop where
  len : U.length = ds.length
  row : ∃ U' : List (Int × Value), U'.length = ds.length ∧ w.ownsRow 0 99 2 v ds.length (wcs U') ∧ (∀ i, (xAt U' i).2 = (xAt U i).2) ∧ ∀ i, i < ds.length → (xAt U' i).1 = ((k + offW ds i : Nat) : Int)
  lie : ∀ i, i < ds.length → LBy w (xAt U i).2 (dwAt ds i).2.length (k + offW ds i + 1)
theorem WM.to {w w' : World} {R : Nat → Prop} {v : Value} {U : List (Int × Value)} {ds : List DW} {k : Nat} (h : WM w v U ds k) (ho : Only R w w') (hR : ∀ y, wbl v U y → ¬ R y) : WM w' v U ds k := by
  refine ⟨h.len, ?_, fun i hi => (h.lie i hi).to ho (fun y e => hR y (.inr ⟨i, by rw [h.len]; exact hi, e⟩))⟩
  obtain ⟨U', h1, h2, h3⟩ := h.row
  exact ⟨U', h1, own_kept h2 ho (fun y e => hR y (.inl e)), h3⟩
set_option maxHeartbeats 4000000 in
theorem markSheetS_ex (B : Nat) (a : Option Addr) (n c k : Nat) (V : List Value) (ss : List (List Int)) (w : World) (h : SOw w B (.slice a n c) V ss) (ht : offS ss ss.length ≤ 4194304) (hk0 : 0 < k) (hk : k ≤ 1000000000) :
    Calls Tryz.prog 91 #[.slice a n c, .int .i64 (k : Int)] w fun e w' => e = .returned (.int .i64 ((k + offS ss ss.length : Nat) : Int)) ∧ SM w' (.slice a n c) V ss k ∧ Only (fun y => ∃ i, i < ss.length ∧ (uAt V i).ownBlock = some y) w w' := by
  obtain ⟨hnn, hnc, hcm, -⟩ := own_at h.row
  have HNN := hid hnn
  have H0 := hid h
  have HT := hid ht
  clear h hnn ht
  go_enter Tryz.func91, Tryz.ntmps91
  go_wp2_with fail
  go_loopw [1, 5] (fun x i wr => ∃ j q : Nat, x = .int .i64 (q : Int) ∧ i = .int .i64 j ∧ j ≤ n ∧ Hid (q = k + offS ss j) ∧ Hid (Only (fun y => ∃ i, i < j ∧ (uAt V i).ownBlock = some y) w wr) ∧ Hid (∀ i, i < j → LBy wr (uAt V i) (shAt ss i).length (k + offS ss i))) (fun _ i _ => n - (intOf i).toNat)
  case atStart => exact ⟨0, k, rfl, rfl, Nat.zero_le _, rfl, Only.refl _ _, fun i hi => absurd hi (Nat.not_lt_zero _)⟩
  case round =>
    obtain ⟨j, q, rfl, rfl, hj, HQ, HO, HL⟩ := hrel
    by_cases hlt : j < n
    · have hlt' : (j : Int) < (n : Int) := by omega
      have hjl : j < ss.length := by rw [← HNN.out]; exact hlt
      have HOF : Hid (offS ss (j + 1) = offS ss j + (shAt ss j).length) := rfl
      have hle := offS_mono ss (show j + 1 ≤ ss.length by omega)
      have hq2 : (q : Int) ≤ 1099511627776 := by have h1 := HQ.out; have h2 := HT.out; have h3 := offS_mono ss (show j ≤ ss.length by omega); omega
      have hq0 : (0 : Int) ≤ (q : Int) := by omega
      have hlen : (shAt ss j).length ≤ 70368744177664 := by have h2 := HT.out; rw [HOF.out] at hle; omega
      have hown := own_kept (H0.out.own j hjl).1 HO.out (fun y hy => by
        rintro ⟨i, hi, hb⟩
        exact H0.out.apart j i hjl (by omega) (by omega) y hy hb)
      have hrow := own_kept H0.out.row HO.out (fun y e => by
        rintro ⟨i, hi, hb⟩
        exact H0.out.off i (by omega) y hb e)
      obtain ⟨-, -, -, hr⟩ := own_at hrow
      obtain ⟨g, rfl, -, -, -, hcell⟩ := hr (by omega)
      have c0 := hcell j _ (uAt_some (by rw [H0.out.len]; exact hjl))
      obtain ⟨a2, c2, e0, hrd, -⟩ := Ob.rd hown (H0.out.own j hjl).2 hlen
      have hwb := Ob.wb hown e0 (shAt ss j).length
      have HAP : Hid (∀ i, i < j → ∀ y, (uAt V i).ownBlock = some y → (uAt V j).ownBlock ≠ some y) := fun i hi y hy => H0.out.apart i j (by omega) hjl (by omega) y hy
      rw [e0] at c0 HAP
      have HRD := hid hrd
      have HWB := hid hwb
      have HE0 := hid e0
      clear hrow hown hr hcell hrd hwb e0 hle hlen
      generalize hm : (shAt ss j).length = m at *
      have HM := hid hm
      clear hm
      go_wp2_with fail
      refine (mark_any a2 m c2 _ (q : Int) wr HRD.out HWB.out hq0 hq2).mono ?_
      rintro e w1 ⟨rfl, hr1, hg1⟩
      have O1 : Hid (Only (fun y => (Value.slice a2 m c2).ownBlock = some y) wr w1) := only_of_grown hg1 (fun k e => by rw [ownBlock_map]; exact e)
      have HO3 : Hid (Only (fun y => ∃ i, i < j + 1 ∧ (uAt V i).ownBlock = some y) w w1) := (HO.out.mono (fun y _ ⟨i, hi, hb⟩ => ⟨i, by omega, hb⟩)).trans (O1.out.mono (fun y _ e => ⟨j, by omega, by rw [HE0.out]; exact e⟩))
      have HLF : Hid (∀ i, i < j + 1 → LBy w1 (uAt V i) (shAt ss i).length (k + offS ss i)) := by
        intro i hi
        by_cases e : i = j
        · subst e
          rw [HM.out, HE0.out, ← HQ.out]
          exact ⟨a2, c2, rfl, hr1⟩
        · exact (HL.out i (by omega)).to O1.out (fun y hy e2 => HAP.out i (by omega) y hy e2)
      have HQ3 : Hid (q + m = k + offS ss (j + 1)) := by show _ = _; rw [HOF.out, HQ.out]; omega
      clear hr1 hg1 HL HO c0 HOF HRD HWB HAP
      go_wp2
      go_roundw
      case rel => exact ⟨j + 1, q + m, by go_num, by go_num, by omega, HQ3.out, HO3.out, HLF.out⟩
      case measure => simp [intOf]; omega
    · have hjn : j = ss.length := by rw [← HNN.out]; omega
      subst hjn
      have HF : Hid (SM wr (.slice a n c) V ss k) := ⟨H0.out.len, ownD_base (own_kept H0.out.row HO.out (fun y e => by rintro ⟨i, hi, hb⟩; exact H0.out.off i hi y hb e)) (Nat.zero_le _), HL.out⟩
      clear HL
      go_wp2
      go_ret
      exact ⟨by rw [← HQ.out]; rfl, HF.out, HO.out⟩
set_option maxHeartbeats 4000000 in
theorem heldSheetS_any (a : Option Addr) (n c k : Nat) (V : List Value) (ss : List (List Int)) (w : World) (h : SM w (.slice a n c) V ss k) (ht : offS ss ss.length ≤ 4194304) (hk0 : 0 < k) (hk : k ≤ 1000000000) :
    Calls Tryz.prog 93 #[.slice a n c, .int .i64 (k : Int)] w fun e w' => e = .returned (.int .i64 ((k + offS ss ss.length : Nat) : Int)) ∧ w' = w := by
  obtain ⟨hnn, hnc, hcm, hr⟩ := own_at h.row
  have HNN := hid hnn
  have H0 := hid h
  have HT := hid ht
  have HR := hid hr
  clear h hnn ht hr
  go_enter Tryz.func93, Tryz.ntmps93
  go_wp2_with fail
  go_loop [1, 5] (fun x i => ∃ j q : Nat, x = .int .i64 (q : Int) ∧ i = .int .i64 j ∧ j ≤ n ∧ Hid (q = k + offS ss j)) (fun _ i => n - (intOf i).toNat)
  case atStart => exact ⟨0, k, rfl, rfl, Nat.zero_le _, rfl⟩
  case round =>
    obtain ⟨j, q, rfl, rfl, hj, HQ⟩ := hrel
    by_cases hlt : j < n
    · have hlt' : (j : Int) < (n : Int) := by omega
      have hjl : j < ss.length := by rw [← HNN.out]; exact hlt
      have HOF : Hid (offS ss (j + 1) = offS ss j + (shAt ss j).length) := rfl
      have hle := offS_mono ss (show j + 1 ≤ ss.length by omega)
      have hq2 : (q : Int) ≤ 1099511627776 := by have h1 := HQ.out; have h2 := HT.out; have h3 := offS_mono ss (show j ≤ ss.length by omega); omega
      have hq0 : (0 : Int) ≤ (q : Int) := by omega
      obtain ⟨g, rfl, -, -, -, hcell⟩ := HR.out (by omega)
      have c0 := hcell j _ (uAt_some (by rw [H0.out.len]; exact hjl))
      obtain ⟨a2, c2, e0, hrd⟩ := H0.out.lie j hjl
      rw [e0] at c0
      rw [← HQ.out] at hrd
      have hlm : (shAt ss j).length ≤ 4194304 := by have h2 := HT.out; rw [HOF.out] at hle; omega
      have HRD := hid hrd
      clear hcell hrd e0 hle
      generalize hm : (shAt ss j).length = m at *
      clear hm
      have hn0 : ¬ ((q : Int) + (m : Int)) < 0 := by omega
      go_wp2_with fail
      refine (held_any a2 m c2 (q : Int) _ HRD.out hq0 hq2).mono ?_
      rintro e w1 ⟨rfl, rfl⟩
      have HQ3 : Hid (q + m = k + offS ss (j + 1)) := by show _ = _; rw [HOF.out, HQ.out]; omega
      clear c0 HOF HRD
      go_wp2
      go_round
      case rel => exact ⟨j + 1, q + m, by go_num, by go_num, by omega, HQ3.out⟩
      case measure => simp [intOf]; omega
    · have hjn : j = ss.length := by rw [← HNN.out]; omega
      subst hjn
      have HE : Hid ((k : Int) + (offS ss ss.length : Int) = (q : Int)) := by have := HQ.out; show _ = _; omega
      go_wp2
      go_ret
      exact ⟨by rw [HE.out]; rfl, rfl⟩
set_option maxHeartbeats 4000000 in
theorem markWriteS_ex (B : Nat) (a : Option Addr) (n c k : Nat) (U : List (Int × Value)) (ds : List DW) (w : World) (h : WO w B (.slice a n c) U ds) (ht : offW ds ds.length ≤ 4194304) (hk0 : 0 < k) (hk : k ≤ 1000000000) :
    Calls Tryz.prog 92 #[.slice a n c, .int .i64 (k : Int)] w fun e w' => e = .returned (.int .i64 ((k + offW ds ds.length : Nat) : Int)) ∧ WM w' (.slice a n c) U ds k ∧ Only (wbl (.slice a n c) U) w w' := by
  obtain ⟨hnn, hnc, hcm, -⟩ := own_at h.row
  have HNN := hid hnn
  have H0 := hid h
  have HT := hid ht
  clear h hnn ht
  go_enter Tryz.func92, Tryz.ntmps92
  go_wp2_with fail
  go_loopw [1, 5] (fun x i wr => ∃ j q : Nat, x = .int .i64 (q : Int) ∧ i = .int .i64 j ∧ j ≤ n ∧ Hid (q = k + offW ds j) ∧ Hid (Only (fun y => (Value.slice a n c).ownBlock = some y ∨ ∃ i, i < j ∧ (xAt U i).2.ownBlock = some y) w wr) ∧ Hid (∀ i, i < j → LBy wr (xAt U i).2 (dwAt ds i).2.length (k + offW ds i + 1))
      ∧ Hid (∃ U' : List (Int × Value), U'.length = ds.length ∧ wr.ownsRow 0 99 2 (.slice a n c) ds.length (wcs U') ∧ (∀ i, (xAt U' i).2 = (xAt U i).2) ∧ ∀ i, i < j → (xAt U' i).1 = ((k + offW ds i : Nat) : Int))) (fun _ i _ => n - (intOf i).toNat)
  case atStart => exact ⟨0, k, rfl, rfl, Nat.zero_le _, rfl, Only.refl _ _, fun i hi => absurd hi (Nat.not_lt_zero _), ⟨U, H0.out.len, ownD_base H0.out.row (Nat.zero_le _), fun _ => rfl, fun i hi => absurd hi (Nat.not_lt_zero _)⟩⟩
  case round =>
    obtain ⟨j, q, rfl, rfl, hj, HQ, HO, HL, HW⟩ := hrel
    by_cases hlt : j < n
    · have hlt' : (j : Int) < (n : Int) := by omega
      have hjl : j < ds.length := by rw [← HNN.out]; exact hlt
      have HOF : Hid (offW ds (j + 1) = offW ds j + 1 + (dwAt ds j).2.length) := rfl
      have hle := offW_mono ds (show j + 1 ≤ ds.length by omega)
      have hqs : q ≤ 1004194304 := by have h1 := HQ.out; have h2 := HT.out; have h3 := offW_mono ds (show j ≤ ds.length by omega); omega
      have hq0 : (0 : Int) ≤ (q : Int) := by omega
      have hlen : (dwAt ds j).2.length ≤ 70368744177664 := by have h2 := HT.out; rw [HOF.out] at hle; omega
      have hown := own_kept (H0.out.own j hjl).2.1 HO.out (fun y hy => by
        rintro (e | ⟨i, hi, hb⟩)
        · exact H0.out.off j hjl y hy e
        · exact H0.out.apart j i hjl (by omega) (by omega) y hy hb)
      obtain ⟨U', hul, hrow, hu2, hu1⟩ := HW.out
      obtain ⟨-, -, -, hr⟩ := own_at hrow
      obtain ⟨g, rfl, -, -, hf, hcell⟩ := hr (by omega)
      obtain ⟨d0, d1⟩ := wcs_at U' j (by rw [hul]; exact hjl)
      have c0 := hcell _ _ d0
      have c1 := hcell _ _ d1
      have f0 := hf (j * 2)
      obtain ⟨a2, c2, e0, hrd, -⟩ := Ob.rd hown (H0.out.own j hjl).2.2 hlen
      have hwb := Ob.wb hown e0 (dwAt ds j).2.length
      have HOG : Hid (∀ i, i < ds.length → ∀ y, (xAt U i).2.ownBlock = some y → y ≠ g) := fun i hi y hy e => H0.out.off i hi y hy (by rw [e]; rfl)
      have HAP : Hid (∀ i, i < j → ∀ y, (xAt U i).2.ownBlock = some y → (xAt U j).2.ownBlock ≠ some y) := fun i hi y hy => H0.out.apart i j (by omega) hjl (by omega) y hy
      have hgj := HOG.out j hjl
      rw [hu2 j, e0] at c1
      rw [e0] at HAP hgj
      -- the store of At
      have OS : Hid (Only (fun y => y = g) wr (wr.setCell ⟨g, j * 2, none⟩ (.int .i64 (q : Int)))) := only_set (R := fun y => y = g) rfl _
      have HRD : Hid (Rd (wr.setCell ⟨g, j * 2, none⟩ (.int .i64 (q : Int))) a2 (dwAt ds j).2.length c2 (dwAt ds j).2) := hrd.toD OS.out (fun y e e2 => hgj y e e2)
      have HWB : Hid (Wb (wr.setCell ⟨g, j * 2, none⟩ (.int .i64 (q : Int))) a2 (dwAt ds j).2.length) := by
        intro x hx i hi
        rw [World.frozen?_setCell]
        exact hwb x hx i hi
      have HROW : Hid ((wr.setCell ⟨g, j * 2, none⟩ (.int .i64 (q : Int))).ownsRow 0 99 2 (.slice (some ⟨g, 0, none⟩) n c) ds.length (wcs (U'.set j (q, (xAt U' j).2)))) := by
        have := ownD_set hrow (j * 2) (.int .i64 (q : Int))
        have e : wcs (U'.set j ((q : Int), (xAt U' j).2)) = (wcs U').set (j * 2) (.int .i64 (q : Int)) := by
          rw [wcs_set _ _ _ (by rw [hul]; exact hjl)]
          apply List.ext_getElem?
          intro i
          by_cases e : i = j * 2 + 1
          · subst e
            rw [List.getElem?_set_self (by rw [List.length_set, wcs_length, hul]; omega), List.getElem?_set_ne (by omega), d1]
          · rw [List.getElem?_set_ne (by omega)]
        show World.ownsRow _ _ _ _ _ _ _
        rw [e]
        exact this
      have HU2 : Hid (∀ i, (xAt (U'.set j ((q : Int), (xAt U' j).2)) i).2 = (xAt U i).2) := by
        intro i
        by_cases e : i = j
        · subst e; rw [xAt_set (by rw [hul]; exact hjl)]; exact hu2 i
        · rw [xAt_other e]; exact hu2 i
      have HU1 : Hid (∀ i, i < j + 1 → (xAt (U'.set j ((q : Int), (xAt U' j).2)) i).1 = ((k + offW ds i : Nat) : Int)) := by
        intro i hi
        by_cases e : i = j
        · subst e; rw [xAt_set (by rw [hul]; exact hjl), ← HQ.out]
        · rw [xAt_other e]; exact hu1 i (by omega)
      have HUL : Hid ((U'.set j ((q : Int), (xAt U' j).2)).length = ds.length) := by show _ = _; rw [List.length_set]; exact hul
      have HE0 := hid e0
      have HBL : Hid (∀ y, (Value.slice (some ⟨g, 0, none⟩) n c).ownBlock = some y → y = g) := fun y e => by simpa [Value.ownBlock] using e.symm
      clear hrow hown hr hcell hrd hwb e0 hle hlen hu2 hu1 hul d0 d1 hf HW
      generalize U'.set j ((q : Int), (xAt U' j).2) = U2 at *
      generalize (xAt U' j).1 = o0 at *
      generalize hm : (dwAt ds j).2.length = m at *
      have HM := hid hm
      clear hm
      have hq1 : (0 : Int) ≤ (q : Int) + 1 := by omega
      have hq2 : (q : Int) + 1 ≤ 1099511627776 := by omega
      go_wp2_with fail
      refine (mark_any a2 m c2 _ ((q : Int) + 1) _ HRD.out HWB.out hq1 hq2).mono ?_
      generalize wr.setCell ⟨g, j * 2, none⟩ (.int .i64 (q : Int)) = ws at *
      rintro e w1 ⟨rfl, hr1, hg1⟩
      have O1 : Hid (Only (fun y => (Value.slice a2 m c2).ownBlock = some y) ws w1) := only_of_grown hg1 (fun k e => by rw [ownBlock_map]; exact e)
      have HGJ := hid hgj
      have HO3 : Hid (Only (fun y => (Value.slice (some ⟨g, 0, none⟩) n c).ownBlock = some y ∨ ∃ i, i < j + 1 ∧ (xAt U i).2.ownBlock = some y) w w1) := ((HO.out.mono (fun y _ h => h.imp id (fun ⟨i, hi, hb⟩ => ⟨i, by omega, hb⟩))).trans (OS.out.mono (fun y _ e => .inl (by rw [e]; rfl)))).trans (O1.out.mono (fun y _ e => .inr ⟨j, by omega, by rw [HE0.out]; exact e⟩))
      have HLF : Hid (∀ i, i < j + 1 → LBy w1 (xAt U i).2 (dwAt ds i).2.length (k + offW ds i + 1)) := by
        intro i hi
        by_cases e : i = j
        · subst e
          rw [HM.out, HE0.out, ← HQ.out]
          exact ⟨a2, c2, rfl, by simpa using hr1⟩
        · exact ((HL.out i (by omega)).to OS.out (fun y hy e2 => HOG.out i (by rw [← HNN.out]; omega) y hy e2)).to O1.out (fun y hy e2 => HAP.out i (by omega) y hy e2)
      have HROW1 := hid (own_kept HROW.out O1.out (fun y e e2 => HGJ.out y e2 (HBL.out y e)))
      have HQ3 : Hid (q + 1 + m = k + offW ds (j + 1)) := by show _ = _; rw [HOF.out, HQ.out]; omega
      clear hr1 hg1 HL HO HOF HRD HWB HAP hgj HROW f0 c0 c1
      go_wp2
      go_roundw
      case rel => exact ⟨j + 1, q + 1 + m, by go_num, by go_num, by omega, HQ3.out, HO3.out, HLF.out, ⟨U2, HUL.out, HROW1.out, HU2.out, HU1.out⟩⟩
      case measure => simp [intOf]; omega
    · have hjn : j = ds.length := by rw [← HNN.out]; omega
      subst hjn
      have HF : Hid (WM wr (.slice a n c) U ds k) := ⟨H0.out.len, HW.out, HL.out⟩
      have HO2 : Hid (Only (wbl (.slice a n c) U) w wr) := HO.out.mono (fun y _ h => h.imp id (fun ⟨i, hi, hb⟩ => ⟨i, by rw [H0.out.len]; exact hi, hb⟩))
      clear HL HW
      go_wp2
      go_ret
      exact ⟨by rw [← HQ.out]; rfl, HF.out, HO2.out⟩
set_option maxHeartbeats 4000000 in
set_option maxRecDepth 20000 in
theorem heldWriteS_any (a : Option Addr) (n c k : Nat) (U : List (Int × Value)) (ds : List DW) (w : World) (h : WM w (.slice a n c) U ds k) (ht : offW ds ds.length ≤ 4194304) (hk0 : 0 < k) (hk : k ≤ 1000000000) :
    Calls Tryz.prog 94 #[.slice a n c, .int .i64 (k : Int)] w fun e w' => e = .returned (.int .i64 ((k + offW ds ds.length : Nat) : Int)) ∧ Below w.heap.size w w' := by
  obtain ⟨U', hul, hrow, hu2, hu1⟩ := h.row
  obtain ⟨hnn, hnc, hcm, hr⟩ := own_at hrow
  have HNN := hid hnn
  have H0 := hid h
  have HT := hid ht
  have HR := hid hr
  have HU := hid (And.intro hul (And.intro hu2 hu1))
  clear h hnn ht hr hul hu2 hu1 hrow
  go_enter Tryz.func94, Tryz.ntmps94
  go_wp2_with fail
  go_loopw [1, 5] (fun x i wr => ∃ j q r : Nat, x = .int .i64 (q : Int) ∧ i = .int .i64 j ∧ j ≤ n ∧ Hid (q = k + offW ds j) ∧ wr = w.drewN r) (fun _ i _ => n - (intOf i).toNat)
  case atStart => exact ⟨0, k, 0, rfl, rfl, Nat.zero_le _, rfl, rfl⟩
  case round =>
    obtain ⟨j, q, r, rfl, rfl, hj, HQ, rfl⟩ := hrel
    by_cases hlt : j < n
    · have hlt' : (j : Int) < (n : Int) := by omega
      have hjl : j < ds.length := by rw [← HNN.out]; exact hlt
      have HOF : Hid (offW ds (j + 1) = offW ds j + 1 + (dwAt ds j).2.length) := rfl
      have hle := offW_mono ds (show j + 1 ≤ ds.length by omega)
      have hqs : q ≤ 1004194304 := by have h1 := HQ.out; have h2 := HT.out; have h3 := offW_mono ds (show j ≤ ds.length by omega); omega
      obtain ⟨g, rfl, -, -, -, hcell⟩ := HR.out (by omega)
      obtain ⟨d0, d1⟩ := wcs_at U' j (by rw [HU.out.1]; exact hjl)
      have c0 := hcell _ _ d0
      have c1 := hcell _ _ d1
      obtain ⟨a2, c2, e0, hrd⟩ := H0.out.lie j hjl
      rw [HU.out.2.1 j, e0] at c1
      rw [HU.out.2.2 j hjl, ← HQ.out] at c0
      rw [← HQ.out] at hrd
      have hlm : (dwAt ds j).2.length ≤ 4194304 := by have h2 := HT.out; rw [HOF.out] at hle; omega
      have HRD : Hid (Rd (w.drewN r) a2 (dwAt ds j).2.length c2 (marks ((q : Int) + 1) (dwAt ds j).2.length)) := by
        have := hrd.kept (Below.drewN' (Below.refl _ _) r)
        show Rd _ _ _ _ _
        simpa using this
      clear hcell hrd e0 hle d0 d1
      generalize hm : (dwAt ds j).2.length = m at *
      clear hm
      have hne : ((q : Int) != (q : Int)) = false := by simp
      have hq1 : (0 : Int) ≤ (q : Int) + 1 := by omega
      have hq2 : (q : Int) + 1 ≤ 1099511627776 := by omega
      have hzc : (q : Int) + 1 + (m : Int) = ((q + 1 + m : Nat) : Int) := by omega
      have hn0 : ¬ ((q + 1 + m : Nat) : Int) < 0 := by omega
      have HQ3 : Hid (q + 1 + m = k + offW ds (j + 1)) := by show _ = _; rw [HOF.out, HQ.out]; omega
      go_wp2_with fail
      refine (held_any a2 m c2 ((q : Int) + 1) _ HRD.out hq1 hq2).mono ?_
      rintro e w1 ⟨rfl, rfl⟩
      clear c0 c1 HOF HRD hne hq1 hq2
      rw [hzc]
      generalize q + 1 + m = z at *
      go_wp2
      go_roundw
      case rel => exact ⟨j + 1, z, r, rfl, by go_num, by omega, HQ3.out, rfl⟩
      case measure => simp [intOf]; omega
    · have hjn : j = ds.length := by rw [← HNN.out]; omega
      subst hjn
      have HE : Hid ((k : Int) + (offW ds ds.length : Int) = (q : Int)) := by have := HQ.out; show _ = _; omega
      go_wp2
      go_ret
      exact ⟨by first | (rw [HE.out]; rfl) | (rw [← HQ.out]; rfl), Below.drewN' (Below.refl _ _) r⟩
structure DM (w : World) (sv : Value) (V : List Value) (dv : Value) (U : List (Int × Value)) (d : DK) (k : Nat) : Prop where
  hs : SM w sv V d.sh k
  hd : WM w dv U d.dw (k + offS d.sh d.sh.length)
theorem DM.to {w w' : World} {R : Nat → Prop} {sv dv : Value} {V : List Value} {U : List (Int × Value)} {d : DK} {k : Nat} (h : DM w sv V dv U d k) (ho : Only R w w') (hR : ∀ y, dbl sv V dv U y → ¬ R y) : DM w' sv V dv U d k := ⟨h.hs.to ho (fun y e => hR y (.inl e)), h.hd.to ho (fun y e => hR y (.inr e))⟩
theorem DM.below {w w' : World} {sv dv : Value} {V : List Value} {U : List (Int × Value)} {d : DK} {k : Nat} (h : DM w sv V dv U d k) (hb : Below w.heap.size w w') : DM w' sv V dv U d k := h.to (only_of_below hb (fun _ => False)) (fun _ _ h => h)
set_option maxHeartbeats 2000000 in
theorem markDisk_ex (B : Nat) (sa : Option Addr) (sn sc : Nat) (da : Option Addr) (dn dc k : Nat) (V : List Value) (U : List (Int × Value)) (d : DK) (w : World) (h : DO w B (.slice sa sn sc) V (.slice da dn dc) U d) (ht : dkTot d ≤ 4194304) (hk0 : 0 < k) (hk : k ≤ 100000000) :
    Calls Tryz.prog 41 #[.agg #[.slice sa sn sc, .slice da dn dc], .int .i64 (k : Int)] w fun e w' => e = .returned (.int .i64 ((k + dkTot d : Nat) : Int)) ∧ DM w' (.slice sa sn sc) V (.slice da dn dc) U d k ∧ Only (dbl (.slice sa sn sc) V (.slice da dn dc) U) w w' := by
  have hb := below_new (o := .cells #[.slice sa sn sc, .slice da dn dc] 25) (w := w) (Below.refl _ _)
  have K0 := hid (Bk.new w 25 [.slice sa sn sc, .slice da dn dc])
  have D0 := hid (h.below hb)
  have HNB : Hid (∀ y, dbl (.slice sa sn sc) V (.slice da dn dc) U y → y ≠ w.heap.size) := fun y hy => by have := (h.lt hy).2; omega
  have HO0 : Hid (Only (dbl (.slice sa sn sc) V (.slice da dn dc) U) w (w.alloc (.cells #[.slice sa sn sc, .slice da dn dc] 25))) := only_of_below hb _
  have t1 : offS d.sh d.sh.length ≤ 4194304 := by unfold dkTot at ht; omega
  have t2 : offW d.dw d.dw.length ≤ 4194304 := by unfold dkTot at ht; omega
  have HTT : Hid (k + offS d.sh d.sh.length + offW d.dw d.dw.length = k + dkTot d) := by show _ = _; unfold dkTot; omega
  have HL := hid h.hs.len
  have HT1 := hid t1
  have HT2 := hid t2
  clear hb h ht
  go_enter Tryz.func41, Tryz.ntmps41
  go_wp2_with fail
  refine (markSheetS_ex B sa sn sc k V d.sh _ D0.out.hs HT1.out hk0 (by omega)).mono ?_
  generalize w.alloc (.cells #[.slice sa sn sc, .slice da dn dc] 25) = W at *
  rintro e w1 ⟨rfl, hm1, ho1⟩
  have O1 := hid (ho1.mono (R' := sbl (.slice sa sn sc) V) (fun y _ ⟨i, hi, hb⟩ => .inr ⟨i, by rw [HL.out]; exact hi, hb⟩))
  have M1 := hid hm1
  have K1 := hid (K0.out.to O1.out (fun e => HNB.out _ (.inl e) rfl))
  have W1 := hid (D0.out.hd.to O1.out (fun y hy e => D0.out.ap y e hy))
  have c1 := K1.out.cell (j := 1) rfl
  have HQ1 : Hid (k + offS d.sh d.sh.length ≤ 1000000000) := by show _ ≤ _; omega
  clear hm1 ho1 K0 t1 t2
  generalize hq : k + offS d.sh d.sh.length = q at *
  have HQ := hid hq
  have hq0 : 0 < q := by omega
  clear hq
  go_wp2_with fail
  refine (markWriteS_ex B da dn dc q U d.dw _ W1.out HT2.out hq0 HQ1.out).mono ?_
  rintro e w2 ⟨rfl, hm2, ho2⟩
  have HF : Hid (DM w2 (.slice sa sn sc) V (.slice da dn dc) U d k) := ⟨M1.out.to ho2 (fun y hy e => D0.out.ap y hy e), by rw [HQ.out]; exact hm2⟩
  have HO : Hid (Only (dbl (.slice sa sn sc) V (.slice da dn dc) U) w w2) := (HO0.out.trans (O1.out.mono (fun y _ e => .inl e))).trans (ho2.mono (fun y _ e => .inr e))
  clear hm2 ho2 c1
  rw [HTT.out]
  go_wp2
  go_ret
  exact ⟨rfl, HF.out, HO.out⟩
set_option maxHeartbeats 2000000 in
theorem heldDisk_any (sa : Option Addr) (sn sc : Nat) (da : Option Addr) (dn dc k : Nat) (V : List Value) (U : List (Int × Value)) (d : DK) (w : World) (h : DM w (.slice sa sn sc) V (.slice da dn dc) U d k) (ht : dkTot d ≤ 4194304) (hk0 : 0 < k) (hk : k ≤ 100000000) :
    Calls Tryz.prog 42 #[.agg #[.slice sa sn sc, .slice da dn dc], .int .i64 (k : Int)] w fun e w' => e = .returned (.int .i64 ((k + dkTot d : Nat) : Int)) ∧ Below w.heap.size w w' := by
  have hb := below_new (o := .cells #[.slice sa sn sc, .slice da dn dc] 25) (w := w) (Below.refl _ _)
  have D0 := hid (h.below hb)
  have HB0 := hid hb
  have t1 : offS d.sh d.sh.length ≤ 4194304 := by unfold dkTot at ht; omega
  have t2 : offW d.dw d.dw.length ≤ 4194304 := by unfold dkTot at ht; omega
  have HTT : Hid (k + offS d.sh d.sh.length + offW d.dw d.dw.length = k + dkTot d) := by show _ = _; unfold dkTot; omega
  have HT1 := hid t1
  have HT2 := hid t2
  clear hb h
  go_enter Tryz.func42, Tryz.ntmps42
  go_wp2_with fail
  refine (heldSheetS_any sa sn sc k V d.sh _ D0.out.hs HT1.out hk0 (by omega)).mono ?_
  rintro e w1 ⟨rfl, rfl⟩
  have HQ1 : Hid (k + offS d.sh d.sh.length ≤ 1000000000) := by show _ ≤ _; omega
  have HD := hid D0.out.hd
  clear t1 t2 D0
  generalize hq : k + offS d.sh d.sh.length = q at *
  have hq0 : 0 < q := by omega
  have hq1 : ¬ (q : Int) < 0 := by omega
  clear hq
  go_wp2_with fail
  refine (heldWriteS_any da dn dc q U d.dw _ HD.out HT2.out hq0 HQ1.out).mono ?_
  rintro e w2 ⟨rfl, hb2⟩
  have HB2 := hid (HB0.out.trans (hb2.mono HB0.out.size))
  clear hb2
  rw [HTT.out]
  generalize hzz : k + dkTot d = z at *
  have HZZ := hid hzz
  clear hzz HTT
  have hz : ¬ (z : Int) < 0 := by omega
  go_wp2
  go_ret
  exact ⟨by rw [HZZ.out]; rfl, HB2.out⟩
open Go.RowKit
set_option linter.unusedVariables false
theorem results_dsk2 {fn : Func} {p u : Tmp} (h : fn.results = #[.cell p 25, .tmp u]) (tmps : Array Value) (w : World) (g : Nat) {x y b : Value} (hp : tmps.getD p undef = .pointer (some ⟨g, 0, none⟩)) (hb : tmps.getD u undef = b)
    (c0 : w.cell? ⟨g, 0, none⟩ = some x) (c1 : w.cell? ⟨g, 1, none⟩ = some y) : (results fn tmps).run Tryz.prog w = .ok (.tuple #[.agg #[x, y], b]) w := by
  have hp' : tmps[p]?.getD undef = .pointer (some ⟨g, 0, none⟩) := by simpa using hp
  have hb' : tmps[u]?.getD undef = b := by simpa using hb
  simp [results, h, hp', hb', asAddr, load_dsk c0 c1, Result.andThen]
def emD : DK := ⟨[], []⟩
def DkPo (o : Option DK) (w : World) (e : Ending) (w' : World) : Prop := ∃ sa sn sc da dn dc V U, e = .returned (.tuple #[.agg #[.slice sa sn sc, .slice da dn dc], .bool o.isSome]) ∧ DO w' w.heap.size (.slice sa sn sc) V (.slice da dn dc) U (o.getD emD) ∧ Below w.heap.size w w'
def DkPost1 (d : DK) (w : World) (e : Ending) (w' : World) : Prop := ∃ sa sn sc da dn dc V U, e = .returned (.agg #[.slice sa sn sc, .slice da dn dc]) ∧ DO w' w.heap.size (.slice sa sn sc) V (.slice da dn dc) U d ∧ Below w.heap.size w w'
def dnV (n : Int) : Option DK := if 2 ≤ n ∧ n ≤ 400 then some ⟨List.replicate n.toNat [], []⟩ else none
theorem so_made {w : World} {g n B : Nat} (h : Bk w g 130 (List.replicate n (Value.slice none 0 0))) (hn : n ≤ 1048576) (hB : B ≤ g) : SOw w B (.slice (some ⟨g, 0, none⟩) n n) (List.replicate n (Value.slice none 0 0)) (List.replicate n []) := by
  have hu : ∀ i, uAt (List.replicate n (Value.slice none 0 0)) i = .slice none 0 0 := by
    intro i
    by_cases e : i < n
    · simp [uAt, e]
    · simp [uAt, e]
  have hs : ∀ i, shAt (List.replicate n []) i = [] := by
    intro i
    by_cases e : i < n
    · simp [shAt, e]
    · simp [shAt, e]
  refine ⟨by simp, ?_, fun i hi => ?_, fun i j hi hj hij y hy => ?_, fun i hi y hy => ?_⟩
  · rw [List.length_replicate]; exact bk_own h (by simp) hn hB
  · rw [hu, hs]; exact ⟨World.ownsRow_nil _ _ _ _, fun i => by simp⟩
  · rw [hu] at hy; cases hy
  · rw [hu] at hy; cases hy
theorem do_made {w : World} {g n B : Nat} (h : Bk w g 130 (List.replicate n (Value.slice none 0 0))) (hn : n ≤ 1048576) (hB : B ≤ g) : DO w B (.slice (some ⟨g, 0, none⟩) n n) (List.replicate n (Value.slice none 0 0)) (.slice none 0 0) [] ⟨List.replicate n [], []⟩ :=
  ⟨so_made h hn hB, wo_nil w B, fun y _ hy => by
    rcases hy with e | ⟨i, hi, _⟩
    · cases e
    · simp at hi⟩
set_option maxHeartbeats 2000000 in
theorem specDiskNew_any (n : Int) (w : World) : Calls Tryz.prog 31 #[.int .i64 n] w fun e w' => DkPo (dnV n) w e w' := by
  have HB0 : Hid (Below w.heap.size w (w.alloc (.cells #[.slice none 0 0, .slice none 0 0] 25))) := below_new (Below.refl _ _)
  by_cases q1 : n < 2
  · have HF : Hid (dnV n = none) := by show _ = _; rw [dnV, if_neg (by omega)]
    go_enter Tryz.func31, Tryz.ntmps31
    go_wp2
    refine bodyPost_ret (v := .tuple #[.agg #[.slice none 0 0, .slice none 0 0], .bool false]) (results_dsk2 rfl _ _ _ rfl rfl (by go_simp) (by go_simp)) rfl ?_
    rw [HF.out]
    exact ⟨_, _, _, _, _, _, _, _, rfl, do_nil _ _, HB0.out⟩
  · by_cases q2 : 400 < n
    · have HF : Hid (dnV n = none) := by show _ = _; rw [dnV, if_neg (by omega)]
      go_enter Tryz.func31, Tryz.ntmps31
      go_wp2
      refine bodyPost_ret (v := .tuple #[.agg #[.slice none 0 0, .slice none 0 0], .bool false]) (results_dsk2 rfl _ _ _ rfl rfl (by go_simp) (by go_simp)) rfl ?_
      rw [HF.out]
      exact ⟨_, _, _, _, _, _, _, _, rfl, do_nil _ _, HB0.out⟩
    · obtain ⟨m, rfl⟩ : ∃ m : Nat, n = (m : Int) := ⟨n.toNat, by omega⟩
      have hm : m ≤ 400 := by omega
      have HF : Hid (dnV (m : Int) = some ⟨List.replicate m [], []⟩) := by show _ = _; rw [dnV, if_pos (by omega)]; simp
      have hmk := run_make_n (P := Tryz.prog) 22 130 (.agg #[.slice none 0 0]) 1 24 Tryz.underlying22 infoSheetI m (by omega) (by omega)
      rw [made_sheets] at hmk
      generalize hV : List.replicate m (Value.slice none 0 0) = V0 at *
      have HV := hid hV
      clear hV
      go_enter Tryz.func31, Tryz.ntmps31
      go_wp2
      refine bodyPost_ret (v := .tuple #[.agg #[.slice (some ⟨w.heap.size + 1, 0, none⟩) m m, .slice none 0 0], .bool true]) (results_dsk2 rfl _ _ _ rfl rfl (by go_simp) (by go_simp)) rfl ?_
      rw [HF.out]
      refine ⟨_, _, _, _, _, _, _, _, rfl, do_made (n := m) ?_ (by omega) (by omega), below_new (below_new (Below.refl _ _))⟩
      rw [HV.out]
      have := Bk.new (w.alloc (.cells #[.slice (some ⟨w.heap.size + 1, 0, none⟩) m m, .slice none 0 0] 25)) 130 V0
      simpa using this
set_option maxHeartbeats 2000000 in
theorem implDiskNew_any (n : Int) (w : World) : Calls Tryz.prog 36 #[.int .i64 n] w fun e w' => DkPo (dnV n) w e w' := by
  have HB0 : Hid (Below w.heap.size w (w.alloc (.cells #[.slice none 0 0, .slice none 0 0] 25))) := below_new (Below.refl _ _)
  have HZ : Hid (szOk n = true ↔ 2 ≤ n ∧ n ≤ 400) := by
    show _ ↔ _
    simp only [szOk, Bool.and_eq_true, decide_eq_true_eq]
  have HC := hid (sizeOk_any n (w.alloc (.cells #[.slice none 0 0, .slice none 0 0] 25)))
  cases hz : szOk n with
  | false =>
    rw [hz] at HC
    have HF : Hid (dnV n = none) := by
      show _ = _
      rw [dnV, if_neg]
      intro h
      rw [HZ.out.2 h] at hz
      cases hz
    clear hz HZ
    go_enter Tryz.func36, Tryz.ntmps36
    go_wp2_with fail
    refine HC.out.mono ?_
    rintro e w1 ⟨rfl, rfl⟩
    go_wp2
    refine bodyPost_ret (v := .tuple #[.agg #[.slice none 0 0, .slice none 0 0], .bool false]) (results_dsk2 rfl _ _ _ rfl rfl (by go_simp) (by go_simp)) rfl ?_
    rw [HF.out]
    exact ⟨_, _, _, _, _, _, _, _, rfl, do_nil _ _, HB0.out⟩
  | true =>
    rw [hz] at HC
    have hq := HZ.out.1 hz
    clear hz HZ
    obtain ⟨m, rfl⟩ : ∃ m : Nat, n = (m : Int) := ⟨n.toNat, by omega⟩
    have hm : m ≤ 400 := by omega
    have HF : Hid (dnV (m : Int) = some ⟨List.replicate m [], []⟩) := by show _ = _; rw [dnV, if_pos (by omega)]; simp
    have hmk := run_make_n (P := Tryz.prog) 22 130 (.agg #[.slice none 0 0]) 1 24 Tryz.underlying22 infoSheetI m (by omega) (by omega)
    rw [made_sheets] at hmk
    generalize hV : List.replicate m (Value.slice none 0 0) = V0 at *
    have HV := hid hV
    clear hV hq
    go_enter Tryz.func36, Tryz.ntmps36
    go_wp2_with fail
    refine HC.out.mono ?_
    rintro e w1 ⟨rfl, rfl⟩
    go_wp2
    refine bodyPost_ret (v := .tuple #[.agg #[.slice (some ⟨w.heap.size + 1, 0, none⟩) m m, .slice none 0 0], .bool true]) (results_dsk2 rfl _ _ _ rfl rfl (by go_simp) (by go_simp)) rfl ?_
    rw [HF.out]
    refine ⟨_, _, _, _, _, _, _, _, rfl, do_made (n := m) ?_ (by omega) (by omega), below_new (below_new (Below.refl _ _))⟩
    rw [HV.out]
    have := Bk.new (w.alloc (.cells #[.slice (some ⟨w.heap.size + 1, 0, none⟩) m m, .slice none 0 0] 25)) 130 V0
    simpa using this
open Go.RowKit
set_option linter.unusedVariables false
theorem step_append_g {P : Program} {w : World} {ops : Array Oper} {o : Oper} {a : Act} {K : Act → World → Prop} {Q : Exit → Act → World → Prop} {E : Prop} (hgd : o.guard = none) (s x : Operand) (t : TypeId)
    (ho : o.op = .call { callee := .builtin .append, args := #[s, x], argTypes := #[t, t] }) (B : Nat) (e : TypeId) (z : Value) (size bytes : Nat) (ht : P.underlying t = some (.slice e)) (hinfo : (P.info? e).map (fun i => (i.zero, i.size, i.bytes)) = some (some z, size, bytes)) (hzs : z.cells.size = size) (hsz : 0 < size) (hby : bytes ≤ 64)
    (v : Value) (n : Nat) (xs : List Value) (hs : a.eval s = v) (hown : w.ownsRow B e size v n xs) (g : Nat) (news : List Value) (hx : a.eval x = .slice (some ⟨g, 0, none⟩) 1 1) (hB : Rw w (fun _ => True) (.slice (some ⟨g, 0, none⟩) 1 1) 1 news) (hl : news.length = size) (h1 : ∀ u ∈ news, u.oneCell' = true) (hb : n ≤ 1048576) (hbase : B ≤ w.heap.size)
    (b0 o0 : Nat) (x0 : Value) (hc0 : w.cell? ⟨b0, o0, none⟩ = some x0) (hf0 : w.frozen? ⟨b0, o0, none⟩ = false) (hne : v.ownBlock ≠ some b0)
    (h : ∀ a' n' c' w', w'.ownsRow B e size (.slice a' n' c') (n + 1) (xs ++ news) → w.grownBy w' v.ownBlock → ((Value.slice a' n' c').ownBlock = v.ownBlock ∨ (Value.slice a' n' c').ownBlock = some w.heap.size) → w'.cell? ⟨b0, o0, none⟩ = some x0 → w'.frozen? ⟨b0, o0, none⟩ = false → K (a.put o.dst (.slice a' n' c')) w') :
    if Region.wanted o (yielded ops a.tmps) = true then Oper.wp P o a w K Q else E := by
  have hw : Region.wanted o (yielded ops a.tmps) = true := by simp [Region.wanted, hgd]
  rw [if_pos hw]
  obtain ⟨i, hi, hz, hsz', hby'⟩ := info_of hinfo
  obtain ⟨v', w', hr, h2, h3, h5⟩ := run_append_row_at (P := P) (w := w) B t o.type e i z size bytes ht hi hz hsz' hby' hzs hsz v n xs hown (fun _ => True) _ 1 news hB (by omega) h1 (by unfold maxLen; omega) (by have := Nat.mul_le_mul (show n + 1 ≤ 1048577 by omega) hby; omega) hbase
  obtain ⟨a', c', rfl⟩ := own_shape h2
  have hbl := h3.block b0 (block_lt hc0) (fun e => hne e.symm)
  unfold Oper.wp execOp
  simp only [ho, resolve, invoke, builtin, Sem.run_bind, Sem.run_pure, Result.andThen_ok, List.map_toArray, List.map_cons, List.map_nil, hs, hx, hr]
  exact h a' _ c' w' h2 h3 h5 ((World.cell?_of_block (w := w) (a := ⟨b0, o0, none⟩) hbl).trans hc0) ((World.frozen?_of_block (w := w) (a := ⟨b0, o0, none⟩) hbl).trans hf0)
theorem step_append_rd {w : World} {ops : Array Oper} {o : Oper} {a : Act} {K : Act → World → Prop} {Q : Exit → Act → World → Prop} {E : Prop} (hgd : o.guard = none) (s x : Operand)
    (ho : o.op = .call { callee := .builtin .append, args := #[s, x], argTypes := #[71, 71] }) (base : Nat) (v : Value) (zs : List Int) (hs : a.eval s = v) (hown : Ob w base v zs)
    (ao : Option Addr) (m c : Nat) (ys : List Int) (hx : a.eval x = .slice ao m c) (hsrc : Rd w ao m c ys) (hb : zs.length + ys.length ≤ 70368744177664) (hbase : base ≤ w.heap.size)
    (h : ∀ a' n' c' w', Ob w' base (.slice a' n' c') (zs ++ ys) → w.grownBy w' v.ownBlock → K (a.put o.dst (.slice a' n' c')) w') : if Region.wanted o (yielded ops a.tmps) = true then Oper.wp Tryz.prog o a w K Q else E := by
  have hw : Region.wanted o (yielded ops a.tmps) = true := by simp [Region.wanted, hgd]
  rw [if_pos hw]
  obtain ⟨v', w', hr, h2, h3⟩ := run_append_rd (w := w) o.type base v zs hown ao m c ys hsrc hb hbase
  obtain ⟨a', c', rfl⟩ := h2.shape
  unfold Oper.wp execOp
  simp only [ho, resolve, invoke, builtin, Sem.run_bind, Sem.run_pure, Result.andThen_ok, List.map_toArray, List.map_cons, List.map_nil, hs, hx, hr]
  exact h a' _ c' w' h2 h3
theorem bt7 {u v w : World} (h : Below u.heap.size u v) (k : Below v.heap.size v w) : Below u.heap.size u w := h.trans (k.mono h.size)
set_option maxHeartbeats 1000000 in
theorem copyB_any (a : Option Addr) (n c : Nat) (zs : List Int) (w : World) (h : Rd w a n c zs) (hn : n ≤ 1048576) :
    Calls Tryz.prog 146 #[.slice a n c] w fun e w' => ∃ a' n' c', e = .returned (.slice a' n' c') ∧ Ob w' w.heap.size (.slice a' n' c') zs ∧ Below w.heap.size w w' := by
  have HR := hid h
  have hzl : n = zs.length := h.1
  have HO : Hid (Ob w w.heap.size (.slice none 0 0) []) := World.ownsRow_nil _ _ _ _
  have hzb : ([] : List Int).length + zs.length ≤ 70368744177664 := by rw [← hzl]; simp; omega
  clear h hzl
  go_enter Tryz.func146, Tryz.ntmps146
  go_wp2_with (at_builtin; refine wpList_append_rd rfl _ _ rfl w.heap.size _ [] rfl HO.out a n c zs rfl HR.out hzb (Nat.le_refl _) ?_)
  intro v3 w3 hO3 hg3
  have O3 : Hid (Ob w3 w.heap.size v3 zs) := by show Ob _ _ _ _; simpa using hO3
  have B3 : Hid (Below w.heap.size w w3) := (only_of_grown hg3 (R := fun _ => False) (fun k e => by cases e)).below (Nat.le_refl _) (fun _ _ h => h)
  obtain ⟨a3, c3, rfl⟩ := hO3.shape
  clear hO3 hg3 HO HR
  go_wp2
  go_ret
  exact ⟨_, _, _, rfl, O3.out, B3.out⟩
structure CX (w v : World) (sa : Option Addr) (sn sc : Nat) (da : Option Addr) (dn dc : Nat) (xa : Option Addr) (xn xc : Nat) (ya : Option Addr) (yn yc : Nat) (V : List Value) (U : List (Int × Value)) (d : DK) : Prop where
  bel : Below w.heap.size w v
  k0 : Bk v w.heap.size 25 [.slice sa sn sc, .slice da dn dc]
  k1 : Bk v (w.heap.size + 1) 25 [.slice none 0 0, .slice none 0 0]
  k2 : Bk v (w.heap.size + 1 + 1) 25 [.slice xa xn xc, .slice ya yn yc]
  own : DO v (w.heap.size + 3) (.slice xa xn xc) V (.slice ya yn yc) U d
theorem CX.below {w v v' : World} {sa : Option Addr} {sn sc : Nat} {da : Option Addr} {dn dc : Nat} {xa : Option Addr} {xn xc : Nat} {ya : Option Addr} {yn yc : Nat} {V : List Value} {U : List (Int × Value)} {d : DK} (h : CX w v sa sn sc da dn dc xa xn xc ya yn yc V U d) (hb : Below v.heap.size v v') : CX w v' sa sn sc da dn dc xa xn xc ya yn yc V U d :=
  ⟨bt7 h.bel hb, h.k0.below hb, h.k1.below hb, h.k2.below hb, h.own.below hb⟩
theorem CX.start (w : World) (sa : Option Addr) (sn sc : Nat) (da : Option Addr) (dn dc : Nat) : CX w (((w.alloc (.cells #[.slice sa sn sc, .slice da dn dc] 25)).alloc (.cells #[.slice none 0 0, .slice none 0 0] 25)).alloc (.cells #[.slice none 0 0, .slice none 0 0] 25)) sa sn sc da dn dc none 0 0 none 0 0 [] [] ⟨[], []⟩ := by
  refine ⟨below_new (below_new (below_new (Below.refl _ _))), ((Bk.new w 25 [.slice sa sn sc, .slice da dn dc]).alloc _).alloc _, ?_, ?_, do_nil _ _⟩
  · have := (Bk.new (w.alloc (.cells #[.slice sa sn sc, .slice da dn dc] 25)) 25 [.slice none 0 0, .slice none 0 0]).alloc (.cells #[.slice none 0 0, .slice none 0 0] 25)
    simpa using this
  · have := Bk.new ((w.alloc (.cells #[.slice sa sn sc, .slice da dn dc] 25)).alloc (.cells #[.slice none 0 0, .slice none 0 0] 25)) 25 [.slice none 0 0, .slice none 0 0]
    simpa using this
theorem CX.pushS {w v u w5 : World} {sa : Option Addr} {sn sc : Nat} {da : Option Addr} {dn dc : Nat} {xa : Option Addr} {xn xc : Nat} {ya : Option Addr} {yn yc : Nat} {V : List Value} {U : List (Int × Value)} {ss : List (List Int)} {ds : List DW} (h : CX w v sa sn sc da dn dc xa xn xc ya yn yc V U ⟨ss, ds⟩) (hb : Below v.heap.size v u) (x : List Int) (p : Value) (hx : Ob u v.heap.size p x) (hxb : byt x)
    {a5 : Option Addr} {n5 c5 : Nat} (ho : w5.ownsRow (w.heap.size + 3) 130 1 (.slice a5 n5 c5) (ss.length + 1) (V ++ [p])) (hg : u.grownBy w5 (Value.slice xa xn xc).ownBlock) (ha : (Value.slice a5 n5 c5).ownBlock = (Value.slice xa xn xc).ownBlock ∨ (Value.slice a5 n5 c5).ownBlock = some u.heap.size) :
    CX w (w5.setCell ⟨w.heap.size + 1 + 1, 0, none⟩ (.slice a5 n5 c5)) sa sn sc da dn dc a5 n5 c5 ya yn yc (V ++ [p]) U ⟨ss ++ [x], ds⟩ := by
  have hu := h.below hb
  have hv3 : w.heap.size + 3 ≤ v.heap.size := h.k2.lt
  have hlt := hb.size
  have o : Only (fun y => (Value.slice xa xn xc).ownBlock = some y) u w5 := only_of_grown hg (fun k e => e)
  have hxo : ∀ y, (Value.slice xa xn xc).ownBlock = some y → w.heap.size + 3 ≤ y ∧ y < v.heap.size := fun y e => World.ownsRow.lt h.own.hs.row y e
  have hnew : ∀ y, p.ownBlock = some y → v.heap.size ≤ y ∧ y < u.heap.size := fun y e => World.ownsRow.lt hx y e
  have hS := hu.own.hs.push x p (ownD_base hx (by omega)) hxb (fun y e e2 => by have h1 := hnew y e; have h2 := (h.own.hs.lt e2).2; omega) ho hg ha
  have hW := hu.own.hd.to o (fun y e e2 => hu.own.ap y (.inl e2) e)
  have hne : ∀ y, (Value.slice xa xn xc).ownBlock = some y → y ≠ w.heap.size ∧ y ≠ w.heap.size + 1 ∧ y ≠ w.heap.size + 1 + 1 := fun y e => by have := (hxo y e).1; omega
  have k0 := hu.k0.to o (fun e => (hne _ e).1 rfl)
  have k1 := hu.k1.to o (fun e => (hne _ e).2.1 rfl)
  have k2 := hu.k2.to o (fun e => (hne _ e).2.2 rfl)
  have b5 : Below w.heap.size w w5 := hu.bel.trans (o.below hu.bel.size (fun y hy e => by have := (hxo y e).1; omega))
  have o2 : Only (fun y => y = w.heap.size + 1 + 1) w5 (w5.setCell ⟨w.heap.size + 1 + 1, 0, none⟩ (.slice a5 n5 c5)) := only_set (R := fun y => y = w.heap.size + 1 + 1) rfl _
  refine ⟨b5.setCell (p := ⟨w.heap.size + 1 + 1, 0, none⟩) (by show w.heap.size ≤ w.heap.size + 1 + 1; omega) _, k0.setOther (by omega) _ _, k1.setOther (by omega) _ _, k2.set 0 _, ?_, ?_, ?_⟩
  · exact hS.to o2 (fun y e e2 => by have := (hS.lt e).1; omega)
  · exact hW.to o2 (fun y e e2 => by have := (hW.lt e).1; omega)
  · intro y hy hz
    have h3 := (h.own.hd.lt hz).2
    rcases hy with e | ⟨i, hi, e⟩
    · rcases ha with ha | ha
      · rw [ha] at e; exact h.own.ap y (.inl e) hz
      · rw [ha] at e; cases e; omega
    · rw [List.length_append] at hi
      by_cases hi2 : i < V.length
      · rw [uAt_left hi2] at e; exact h.own.ap y (.inr ⟨i, hi2, e⟩) hz
      · obtain rfl : i = V.length := by simp at hi; omega
        rw [uAt_end] at e
        have := (hnew y e).1
        omega
theorem CX.pushW {w v u w5 : World} {sa : Option Addr} {sn sc : Nat} {da : Option Addr} {dn dc : Nat} {xa : Option Addr} {xn xc : Nat} {ya : Option Addr} {yn yc : Nat} {V : List Value} {U : List (Int × Value)} {ss : List (List Int)} {ds : List DW} (h : CX w v sa sn sc da dn dc xa xn xc ya yn yc V U ⟨ss, ds⟩) (hb : Below v.heap.size v u) (t : Int) (x : List Int) (p : Value) (hx : Ob u v.heap.size p x) (hxb : byt x)
    {a5 : Option Addr} {n5 c5 : Nat} (ho : w5.ownsRow (w.heap.size + 3) 99 2 (.slice a5 n5 c5) (ds.length + 1) (wcs U ++ [.int .i64 t, p])) (hg : u.grownBy w5 (Value.slice ya yn yc).ownBlock) (ha : (Value.slice a5 n5 c5).ownBlock = (Value.slice ya yn yc).ownBlock ∨ (Value.slice a5 n5 c5).ownBlock = some u.heap.size) :
    CX w (w5.setCell ⟨w.heap.size + 1 + 1, 1, none⟩ (.slice a5 n5 c5)) sa sn sc da dn dc xa xn xc a5 n5 c5 V (U ++ [(t, p)]) ⟨ss, ds ++ [(t, x)]⟩ := by
  have hu := h.below hb
  have hv3 : w.heap.size + 3 ≤ v.heap.size := h.k2.lt
  have hlt := hb.size
  have o : Only (fun y => (Value.slice ya yn yc).ownBlock = some y) u w5 := only_of_grown hg (fun k e => e)
  have hxo : ∀ y, (Value.slice ya yn yc).ownBlock = some y → w.heap.size + 3 ≤ y ∧ y < v.heap.size := fun y e => World.ownsRow.lt h.own.hd.row y e
  have hnew : ∀ y, p.ownBlock = some y → v.heap.size ≤ y ∧ y < u.heap.size := fun y e => World.ownsRow.lt hx y e
  have hW := hu.own.hd.push t x p (ownD_base hx (by omega)) hxb (fun y e e2 => by have h1 := hnew y e; have h2 := (h.own.hd.lt e2).2; omega) ho hg ha
  have hS := hu.own.hs.to o (fun y e e2 => hu.own.ap y e (.inl e2))
  have hne : ∀ y, (Value.slice ya yn yc).ownBlock = some y → y ≠ w.heap.size ∧ y ≠ w.heap.size + 1 ∧ y ≠ w.heap.size + 1 + 1 := fun y e => by have := (hxo y e).1; omega
  have k0 := hu.k0.to o (fun e => (hne _ e).1 rfl)
  have k1 := hu.k1.to o (fun e => (hne _ e).2.1 rfl)
  have k2 := hu.k2.to o (fun e => (hne _ e).2.2 rfl)
  have b5 : Below w.heap.size w w5 := hu.bel.trans (o.below hu.bel.size (fun y hy e => by have := (hxo y e).1; omega))
  have o2 : Only (fun y => y = w.heap.size + 1 + 1) w5 (w5.setCell ⟨w.heap.size + 1 + 1, 1, none⟩ (.slice a5 n5 c5)) := only_set (R := fun y => y = w.heap.size + 1 + 1) rfl _
  refine ⟨b5.setCell (p := ⟨w.heap.size + 1 + 1, 1, none⟩) (by show w.heap.size ≤ w.heap.size + 1 + 1; omega) _, k0.setOther (by omega) _ _, k1.setOther (by omega) _ _, k2.set 1 _, ?_, ?_, ?_⟩
  · exact hS.to o2 (fun y e e2 => by have := (hS.lt e).1; omega)
  · exact hW.to o2 (fun y e e2 => by have := (hW.lt e).1; omega)
  · intro y hy hz
    have h3 := (h.own.hs.lt hy).2
    rcases hz with e | ⟨i, hi, e⟩
    · rcases ha with ha | ha
      · rw [ha] at e; exact h.own.ap y hy (.inl e)
      · rw [ha] at e; cases e; omega
    · rw [List.length_append] at hi
      by_cases hi2 : i < U.length
      · rw [xAt_left hi2] at e; exact h.own.ap y hy (.inr ⟨i, hi2, e⟩)
      · obtain rfl : i = U.length := by simp at hi; omega
        rw [xAt_end] at e
        have := (hnew y e).1
        omega
theorem take_sh {ss : List (List Int)} {k : Nat} (h : k < ss.length) : ss.take (k + 1) = ss.take k ++ [shAt ss k] := by
  rw [List.take_succ_eq_append_getElem h]; simp [shAt, h]
theorem take_dw {ds : List DW} {k : Nat} (h : k < ds.length) : ds.take (k + 1) = ds.take k ++ [((dwAt ds k).1, (dwAt ds k).2)] := by
  rw [List.take_succ_eq_append_getElem h]; congr 1; simp [dwAt, h]
theorem rw_one {w : World} {g : Nat} {T : TypeId} {p : Value} (h : Bk w g T [p]) : Rw w (fun _ => True) (.slice (some ⟨g, 0, none⟩) 1 1) 1 [p] := h.rw (Nat.le_refl _) (by omega) (fun h => by omega) _ trivial
theorem rw_two {w : World} {g : Nat} {T : TypeId} {p q : Value} (h : Bk w g T [p, q]) : Rw w (fun _ => True) (.slice (some ⟨g, 0, none⟩) 1 1) 1 [p, q] := h.rw (Nat.le_refl _) (by omega) (fun h => by omega) _ trivial
open Go.RowKit
set_option linter.unusedVariables false
open Go.RowKit
set_option linter.unusedVariables false
structure NL (w v : World) (ka : Option Addr) (kn kc : Nat) (va : Option Addr) (vn vc : Nat) (ia : Option Addr) (jn ic : Nat) (pa : Option Addr) (pn pc : Nat) (l : List PB) : Prop where
  bel : Below w.heap.size w v
  k0 : Bk v w.heap.size 93 [.slice ka kn kc, .slice va vn vc, .slice ia jn ic]
  k1 : Bk v (w.heap.size + 1) 97 [.slice none 0 0, .slice none 0 0, .slice none 0 0]
  k2 : Bk v (w.heap.size + 1 + 1) 97 [.slice pa pn pc, .slice none 0 0, .slice none 0 0]
  own : v.ownsRow (w.heap.size + 3) 161 2 (.slice pa pn pc) l.length (pcs l)
open Go.RowKit Go.ChangeShapes
theorem laid_err {P : Program} {n nm : String} {d : DataW Unit} {r : List (String × DataW Unit)} {W : World} {g : Nat} {ti : TypeId} {ms : Array (String × TypeId)}
    (h : laidMet P ((n, .iface nm d) :: r) W) (hg : P.globalNamed n = some g) (ht : (P.globals[g]?).map (·.type) = some ti) (hi : P.underlying ti = some (.interface ms)) : Err W g := by
  obtain ⟨ps, ⟨g0, t0, cs0, f0, p0, q0, hg0, ht0, hv0, hd0, _, e0⟩, _, hrows⟩ := h
  obtain rfl := Option.some.inj (hg.symm.trans hg0)
  obtain rfl := Option.some.inj (ht.symm.trans ht0)
  obtain ⟨f1, u, v, hcs, hn, h1⟩ := iface_of_trod hi hd0
  have hc : cs0 = #[.iface u v] := by
    cases cs0
    simp_all
  subst hc
  exact ⟨u, v, by simpa using World.var?_cell hg0 hv0 0⟩
theorem Err.lt {w : World} {g : Nat} (h : Err w g) : g < w.heap.size := by
  obtain ⟨t, x, hc⟩ := h
  exact block_lt hc
open Go.RowKit
open Go.RowKit
structure Rs (v : World) (R : Nat) (a : Option Addr) (n c : Nat) (zs : List Int) (q : Int) : Prop where
  bk : Bk v R 272 [.slice a n c, .int .i64 q]
  rd : Rd v a n c zs
  lo : ∀ x, a = some x → 0 < n → x.block < R
  er : Err v 3
  eg : 3 < R
open Go.RowKit
open Go.RowKit
open Go.RowKit
def Pr2 (B : Nat) (v : World) (kv vv iv : Value) (p : PG) : Prop := ∃ u : World, u.heap.size = B ∧ Pr1 u v kv vv iv p
structure Lf (w v : World) (R : Nat) (a : Option Addr) (n c : Nat) (zs : List Int) (q : Int) (kv vv iv : Value) (p : PG) : Prop where
  rs : Rs v R a n c zs q
  pr : Pr2 w.heap.size v kv vv iv p
  on : Only (fun y => y = R) w v
  lt : R < w.heap.size
open Go.RowKit
open Go.RowKit
open Go.RowKit
def mtOk (g r : Int) : Bool := decide (1 ≤ g ∧ g ≤ 1099511627775) && (decide (r = 0) || decide (2 ≤ r ∧ r < 400))
def wts : List Int := [4294967296, 16777216, 65536, 256, 1]
def five (n : Int) : List Int := wts.map fun W => n / W % 256
def fiveT (n : Int) (j : Nat) : List Int := (wts.take j).map fun W => n / W % 256
def mtHead (g r : Int) : List Int := [77] ++ five g ++ [r / 256, r % 256]
def mtFull (g r : Int) : List Int := mtHead g r ++ List.replicate 499 0 ++ five g
def mtBytes (g r : Int) : Option (List Int) := if mtOk g r = true then some (mtFull g r) else none
theorem five_len (n : Int) : (five n).length = 5 := rfl
theorem mtFull_len (g r : Int) : (mtFull g r).length = 512 := by simp only [mtFull, mtHead, List.length_append, List.length_replicate, five_len, List.length_cons, List.length_nil]
theorem five_byte (n : Int) : ∀ z ∈ five n, 0 ≤ z ∧ z ≤ 255 := by
  intro z hz
  simp only [five, List.mem_map] at hz
  obtain ⟨W, _, rfl⟩ := hz
  omega
theorem mtHead_byte {g r : Int} (h0 : 0 ≤ r) (h1 : r < 400) : ∀ z ∈ mtHead g r, 0 ≤ z ∧ z ≤ 255 :=
  byte_append (byte_append (by intro z hz; simp at hz; omega) (five_byte g)) (by intro z hz; simp at hz; omega)
theorem mtFull_byte {g r : Int} (h0 : 0 ≤ r) (h1 : r < 400) : ∀ z ∈ mtFull g r, 0 ≤ z ∧ z ≤ 255 :=
  byte_append (byte_append (mtHead_byte h0 h1) (fun z hz => by have := List.eq_of_mem_replicate hz; omega)) (five_byte g)
def wAt (j : Nat) : Int := wts[j]?.getD 1
theorem wAt_rng {j : Nat} (h : j < 5) : 1 ≤ wAt j ∧ wAt j ≤ 4294967296 := by
  match j, h with
  | 0, _ => decide
  | 1, _ => decide
  | 2, _ => decide
  | 3, _ => decide
  | 4, _ => decide
theorem fiveT_succ (n : Int) {j : Nat} (h : j < 5) : fiveT n (j + 1) = fiveT n j ++ [n / wAt j % 256] := by
  match j, h with
  | 0, _ => rfl
  | 1, _ => rfl
  | 2, _ => rfl
  | 3, _ => rfl
  | 4, _ => rfl
theorem fiveT_five (n : Int) : fiveT n 5 = five n := rfl
theorem fiveT_len (n : Int) {j : Nat} (h : j ≤ 5) : (fiveT n j).length = j := by
  simp [fiveT, wts]; omega
theorem mtOk_facts {g r : Int} (h : mtOk g r = true) : 1 ≤ g ∧ g ≤ 1099511627775 ∧ 0 ≤ r ∧ r < 400 := by
  simp [mtOk] at h
  omega
set_option maxHeartbeats 4000000 in
theorem specMetaOk_any (g r : Int) (w : World) : Calls Tryz.prog 72 #[.agg #[.int .i64 g, .int .i64 r]] w fun e w' => e = .returned (.bool (mtOk g r)) ∧ Below w.heap.size w w' := by
  have HB := hid (below_new (o := .cells #[.int .i64 g, .int .i64 r] 75) (w := w) (Below.refl _ _))
  have HD : Hid (mtOk g r = (decide (1 ≤ g ∧ g ≤ 1099511627775) && (decide (r = 0) || decide (2 ≤ r ∧ r < 400)))) := rfl
  by_cases q1 : 1 ≤ g
  · by_cases q2 : g ≤ 1099511627775
    · have HN := hid (fun w => specNum_any g w true (by rw [decide_eq_true (by omega)]))
      rw [decide_eq_true (show 1 ≤ g ∧ g ≤ 1099511627775 from ⟨q1, q2⟩)] at HD
      by_cases q3 : r = 0
      · subst q3
        have HF : Hid (mtOk g 0 = true) := by show _ = true; rw [HD.out]; rfl
        go_enter Tryz.func72, Tryz.ntmps72
        go_wp2_with fail
        refine (HN.out _).mono ?_
        rintro e w1 ⟨rfl, rfl⟩
        go_wp2
        go_ret
        exact ⟨by rw [HF.out]; rfl, HB.out⟩
      · have q3' : (r == 0) = false := by simp [q3]
        by_cases q4 : 2 ≤ r
        · by_cases q5 : r < 400
          · have HF : Hid (mtOk g r = true) := by show _ = true; rw [HD.out, decide_eq_true (show 2 ≤ r ∧ r < 400 from ⟨q4, q5⟩)]; simp
            go_enter Tryz.func72, Tryz.ntmps72
            go_wp2_with fail
            refine (HN.out _).mono ?_
            rintro e w1 ⟨rfl, rfl⟩
            go_wp2
            go_ret
            exact ⟨by rw [HF.out]; rfl, HB.out⟩
          · have HF : Hid (mtOk g r = false) := by show _ = false; rw [HD.out, decide_eq_false q3, decide_eq_false (by omega)]; rfl
            have q5' : decide (r < 400) = false := decide_eq_false q5
            go_enter Tryz.func72, Tryz.ntmps72
            go_wp2_with fail
            refine (HN.out _).mono ?_
            rintro e w1 ⟨rfl, rfl⟩
            go_wp2
            go_ret
            exact ⟨by rw [HF.out]; rfl, HB.out⟩
        · have HF : Hid (mtOk g r = false) := by show _ = false; rw [HD.out, decide_eq_false q3, decide_eq_false (by omega)]; rfl
          go_enter Tryz.func72, Tryz.ntmps72
          go_wp2_with fail
          refine (HN.out _).mono ?_
          rintro e w1 ⟨rfl, rfl⟩
          go_wp2
          go_ret
          exact ⟨by rw [HF.out]; rfl, HB.out⟩
    · have HN := hid (fun w => specNum_any g w false (by rw [decide_eq_false (by omega)]))
      have HF : Hid (mtOk g r = false) := by show _ = false; rw [HD.out, decide_eq_false (by omega)]; rfl
      go_enter Tryz.func72, Tryz.ntmps72
      go_wp2_with fail
      refine (HN.out _).mono ?_
      rintro e w1 ⟨rfl, rfl⟩
      go_wp2
      go_ret
      exact ⟨by rw [HF.out]; rfl, HB.out⟩
  · have HF : Hid (mtOk g r = false) := by show _ = false; rw [HD.out, decide_eq_false (by omega)]; rfl
    go_enter Tryz.func72, Tryz.ntmps72
    go_wp2
    go_ret
    exact ⟨by rw [HF.out]; rfl, HB.out⟩
theorem infoU8' : (Tryz.prog.info? 5).map (fun i => (i.zero, i.size, i.bytes)) = some (some (.int .u8 0), 1, 1) := by kernel_rfl
theorem Ob.lower {w : World} {B B' : Nat} {v : Value} {zs : List Int} (h : Ob w B v zs) (hB : B' ≤ B) : Ob w B' v zs := by
  refine ⟨h.1, h.2.imp id ?_⟩
  rintro ⟨g, cap, cur, h1, h2, h3⟩
  exact ⟨g, cap, cur, h1, Nat.le_trans hB h2, h3⟩
theorem Ob.keep {w w' : World} {B : Nat} {v : Value} {zs : List Int} (h : Ob w B v zs) (hb : Below w.heap.size w w') : Ob w' B v zs := own_kept h (only_of_below hb (fun _ => False)) (fun _ _ h => h)
theorem wpList_append_by {w : World} {ops : Array Oper} {rest : List Oper} {o : Oper} {a : Act} {Q : Exit → Act → World → Prop} (hgd : o.guard = none) (s x : Operand)
    (ho : o.op = .call { callee := .builtin .append, args := #[s, x], argTypes := #[71, 71] }) (B : Nat) (v : Value) (zs : List Int) (hs : a.eval s = v) (hown : Ob w B v zs)
    (ao : Option Addr) (m c : Nat) (ys : List Int) (hx : a.eval x = .slice ao m c) (hsrc : Rd w ao m c ys) (hb : zs.length ≤ 1048576) (hm : m ≤ 1048576) (hB : B ≤ w.heap.size) (hc : ao = none → c = 0)
    (h : ∀ a' n' c' w', Ob w' B (.slice a' n' c') (zs ++ ys) → w.grownBy w' v.ownBlock → ((Value.slice a' n' c').ownBlock = v.ownBlock ∨ (Value.slice a' n' c').ownBlock = some w.heap.size) → wpList Tryz.prog ops Q rest (a.put o.dst (.slice a' n' c')) w') : wpList Tryz.prog ops Q (o :: rest) a w := by
  obtain ⟨i, hi, hz, hsz, hby⟩ := info_of infoU8'
  obtain ⟨r1, r2, r3, r4, r5, r6⟩ := hsrc
  refine wpList_append_row_at hgd s x 71 ho B 5 i _ 1 1 Tryz.underlying71 hi hz hsz hby rfl (by decide) v zs.length (zs.map (Value.int .u8)) hs hown (fun _ => True) _ m (ys.map (Value.int .u8)) hx ?_ (by simp [r1]) (by intro u hu; simp at hu; obtain ⟨z, _, rfl⟩ := hu; rfl) (by unfold maxLen; omega) (by omega) hB ?_
  · refine ⟨ao, c, rfl, r2, r3, fun h0 => by rw [List.eq_nil_of_length_eq_zero (by omega : ys.length = 0)]; rfl, hc, fun hp => ?_⟩
    obtain ⟨b, off, e, hb, hcell⟩ := r6 hp
    refine ⟨b, off, e, hb, trivial, fun j u hu => ?_⟩
    rw [List.getElem?_map] at hu
    obtain ⟨z, hz, rfl⟩ := Option.map_eq_some_iff.1 hu
    have hj : j < ys.length := (List.getElem?_eq_some_iff.1 hz).1
    have := hcell j (by omega)
    rwa [hz] at this
  · intro v' w' k1 k2 k3
    obtain ⟨a', c', rfl⟩ := own_shape k1
    refine h a' _ c' w' ?_ k2 k3
    unfold Ob
    rw [List.length_append, List.map_append, ← r1]
    exact k1
def FvPost (n : Int) (w : World) (e : Ending) (w' : World) : Prop := ∃ a c, e = .returned (.slice (some a) 5 c) ∧ Rd w' (some a) 5 c (five n) ∧ w.heap.size ≤ a.block ∧ Below w.heap.size w w'
set_option maxHeartbeats 4000000 in
set_option maxRecDepth 20000 in
theorem five_any (n : Int) (w : World) (h0 : 0 ≤ n) (h1 : n ≤ 1099511627775) : Calls Tryz.prog 73 #[.int .i64 n] w fun e w' => FvPost n w e w' := by
  have HB : Hid (Below w.heap.size w ((w.alloc (.cells #[] 5)).alloc (.cells #[.int .i64 4294967296, .int .i64 16777216, .int .i64 65536, .int .i64 256, .int .i64 1] 3))) := below_new (below_new (Below.refl _ _))
  have HO : Hid (Ob ((w.alloc (.cells #[] 5)).alloc (.cells #[.int .i64 4294967296, .int .i64 16777216, .int .i64 65536, .int .i64 256, .int .i64 1] 3)) w.heap.size (.slice (some ⟨w.heap.size, 0, none⟩) 0 0) (fiveT n 0)) := (ob_new w w.heap.size (Nat.le_refl _)).alloc _
  have HK : Hid (Bk ((w.alloc (.cells #[] 5)).alloc (.cells #[.int .i64 4294967296, .int .i64 16777216, .int .i64 65536, .int .i64 256, .int .i64 1] 3)) (w.heap.size + 1) 3 (wts.map (Value.int .i64))) := by
    have := Bk.new (w.alloc (.cells #[] 5)) 3 (wts.map (Value.int .i64))
    show Bk _ _ _ _
    simpa [wts] using this
  go_enter Tryz.func73, Tryz.ntmps73
  go_wp2_with fail
  generalize (w.alloc (.cells #[] 5)).alloc (.cells #[.int .i64 4294967296, .int .i64 16777216, .int .i64 65536, .int .i64 256, .int .i64 1] 3) = U at *
  generalize hx : w.heap.size + 1 = x at *
  have HX : Hid (w.heap.size < x) := by show _ < _; omega
  clear hx
  go_loopw [3, 9] (fun xv i wr => ∃ (j : Nat) (av : Option Addr) (nv cv : Nat), j ≤ 5 ∧ i = .int .i64 j ∧ xv = .slice av nv cv ∧ Hid (Ob wr w.heap.size (.slice av nv cv) (fiveT n j)) ∧ Hid ((Value.slice av nv cv).ownBlock ≠ some x) ∧ Hid (Bk wr x 3 (wts.map (Value.int .i64))) ∧ Hid (Below w.heap.size w wr)) (fun _ i _ => 5 - (intOf i).toNat)
  case atStart => exact ⟨0, _, _, _, by omega, rfl, rfl, HO.out, fun e => by have h5 := HX.out; have h6 : w.heap.size = x := Option.some.inj e; omega, HK.out, HB.out⟩
  case round =>
    obtain ⟨j, av, nv, cv, hj, rfl, rfl, O1, N1, K1, B1⟩ := hrel
    clear HB HO HK
    by_cases hlt : j < 5
    · have hlt' : (j : Int) < 5 := by omega
      have m0 : wr.cell? ⟨x, j, none⟩ = some (.int .i64 (wAt j)) := K1.out.cell (by simp [wAt, wts]; match j, hlt with | 0, _ => rfl | 1, _ => rfl | 2, _ => rfl | 3, _ => rfl | 4, _ => rfl)
      obtain ⟨w1, w2⟩ := wAt_rng hlt
      have HST := hid (fiveT_succ n hlt)
      have HLN := hid (fiveT_len n (show j ≤ 5 by omega))
      generalize wAt j = W at *
      have hW : ¬ W = 0 := by omega
      have hq : n.tdiv W = n / W := Int.tdiv_eq_ediv_of_nonneg h0
      have hq0 : 0 ≤ n / W := Int.ediv_nonneg h0 (by omega)
      have hq1 : n / W ≤ n := Int.ediv_le_self _ h0
      generalize n / W = q at *
      have hr : q.tmod 256 = q % 256 := Int.tmod_eq_emod_of_nonneg hq0
      obtain ⟨z, hz, hz0, hz1⟩ : ∃ z, q % 256 = z ∧ 0 ≤ z ∧ z ≤ 255 := ⟨_, rfl, by omega, by omega⟩
      rw [hz] at hr HST
      have hwq : IntKind.i64.wrap q = q := by simp [IntKind.wrap, IntKind.signed, IntKind.bits]; omega
      have hwz : IntKind.i64.wrap z = z := by simp [IntKind.wrap, IntKind.signed, IntKind.bits]; omega
      have hw8 : IntKind.u8.wrap z = z := by simp [IntKind.wrap, IntKind.signed, IntKind.bits]; omega
      clear hz
      have ba := below_new (o := .cells #[.int .u8 z] 5) (w := wr) (Below.refl _ _)
      have O2 := hid (O1.out.keep ba)
      have K2 := hid (K1.out.below ba)
      have B2 : Hid (Below w.heap.size w (wr.alloc (.cells #[.int .u8 z] 5))) := B1.out.trans (ba.mono B1.out.size)
      have R2 := hid (rd_one wr z hz0 hz1)
      have hll : (fiveT n j).length ≤ 1048576 := by rw [HLN.out]; omega
      have HXL : Hid (x < wr.heap.size) := K1.out.lt
      clear O1 K1 B1 ba
      go_wp2_with (at_builtin; refine wpList_append_by rfl _ _ rfl w.heap.size _ (fiveT n j) rfl O2.out _ 1 1 [z] rfl R2.out hll (by omega) B2.out.size (fun e => by cases e) ?_)
      intro a3 n3 c3 w3 hO3 hg3 ha3
      have hon : Only (fun y => (Value.slice av nv cv).ownBlock = some y) _ w3 := only_of_grown hg3 (fun k e => e)
      have O3 : Hid (Ob w3 w.heap.size (.slice a3 n3 c3) (fiveT n (j + 1))) := by rw [HST.out]; exact hO3
      have K3 := hid (K2.out.to hon (fun e => N1.out e))
      have N3 : Hid ((Value.slice a3 n3 c3).ownBlock ≠ some x) := by
        intro e
        rcases ha3 with e2 | e2
        · exact N1.out (e2 ▸ e)
        · rw [e2] at e
          cases e
          have := HXL.out
          omega
      have B3 : Hid (Below w.heap.size w w3) := B2.out.trans (hon.below B2.out.size (fun b hb e => by
        have hk := World.ownsRow.lt O2.out b e
        omega))
      clear hO3 hg3 ha3 hon O2 K2 B2 R2 N1 HST
      go_wp2
      go_roundw
      case rel => exact ⟨j + 1, a3, n3, c3, by omega, by go_num, rfl, O3.out, N3.out, K3.out, B3.out⟩
      case measure => simp [intOf]; omega
    · obtain rfl : j = 5 := by omega
      have hO := O1.out
      rw [fiveT_five] at hO
      obtain ⟨a', c', e, hR, hlo⟩ := hO.rd (byte_at (five_byte n)) (by rw [five_len]; omega)
      cases e
      have hp : ∃ ad, av = some ad := by
        obtain ⟨b, off, e, _⟩ := hR.2.2.2.2.2 (by rw [five_len]; omega)
        exact ⟨_, e⟩
      obtain ⟨ad, rfl⟩ := hp
      have HR := hid hR
      have HLO := hid (hlo ad rfl)
      clear hO hR hlo O1 K1
      go_wp2
      go_ret
      exact ⟨ad, cv, rfl, HR.out, HLO.out, B1.out⟩
open Go.RowKit
theorem ob_lit (w : World) (z : Int) : Ob (w.alloc (.cells #[.int .u8 z] 5)) w.heap.size (.slice (some ⟨w.heap.size, 0, none⟩) 1 1) [z] :=
  ⟨rfl, .inr ⟨w.heap.size, 1, #[.int .u8 z], rfl, Nat.le_refl _, heap_alloc_new w _, Nat.le_refl _, by decide, rfl, rfl⟩⟩
theorem rd_two (w : World) (y z : Int) (h0 : 0 ≤ y ∧ y ≤ 255) (h1 : 0 ≤ z ∧ z ≤ 255) : Rd (w.alloc (.cells #[.int .u8 y, .int .u8 z] 5)) (some ⟨w.heap.size, 0, none⟩) 2 2 [y, z] := by
  refine ⟨rfl, Nat.le_refl _, by omega, by omega, fun i => ?_, fun _ => ⟨w.heap.size, 0, rfl, by simp, fun i hi => ?_⟩⟩
  · match i with
    | 0 => exact h0
    | 1 => exact h1
    | n + 2 => simp
  · have k := Bk.new w 5 [.int .u8 y, .int .u8 z]
    match i, hi with
    | 0, _ => exact k.cell (j := 0) rfl
    | 1, _ => exact k.cell (j := 1) rfl
theorem PutM.got {w w' : World} {r : Option (List Int)} {e : Ending} {zs : List Int} (h : Put w r e w') (hr : r = some zs) : ∃ v, e = .returned (.tuple #[v, .bool true]) ∧ Ob w' w.heap.size v zs ∧ Below w.heap.size w w' := by
  obtain ⟨hb, ⟨h1, _⟩ | ⟨v, zs', h1, h2, h3⟩⟩ := h
  · rw [hr] at h1; cases h1
  · rw [hr] at h1; cases h1
    exact ⟨v, h2, h3, hb⟩
theorem btw {u v w : World} (h : Below u.heap.size u v) (k : Below v.heap.size v w) : Below u.heap.size u w := h.trans (k.mono h.size)
theorem Ob.grown {u w w' : World} {v : Value} {zs : List Int} (h : Ob w u.heap.size v zs) (hb : Below u.heap.size u w) (hg : w.grownBy w' v.ownBlock) : Below u.heap.size u w' := by
  have hon : Only (fun y => v.ownBlock = some y) w w' := only_of_grown hg (fun k e => e)
  exact hb.trans (hon.below hb.size (fun b hb' e => by have := (World.ownsRow.lt h b e).1; omega))
theorem Ob.bk {u : Nat} {w w' : World} {v : Value} {zs : List Int} {b : Nat} {T : TypeId} {xs : List Value} (h : Ob w u v zs) (hk : Bk w b T xs) (hg : w.grownBy w' v.ownBlock) (hb : b < u) : Bk w' b T xs :=
  hk.to (only_of_grown hg (R := fun y => v.ownBlock = some y) (fun k e => e)) (fun e => by have := (World.ownsRow.lt h b e).1; omega)
set_option maxHeartbeats 4000000 in
set_option maxRecDepth 20000 in
theorem specMetaBytes_any (g r : Int) (w : World) : Calls Tryz.prog 32 #[.agg #[.int .i64 g, .int .i64 r]] w fun e w' => Put w (mtBytes g r) e w' := by
  have B0 := hid (below_new (o := .cells #[.int .i64 g, .int .i64 r] 75) (w := w) (Below.refl _ _))
  have K0 := hid (Bk.new w 75 [.int .i64 g, .int .i64 r])
  have HZ0 : Hid (w.heap.size < (w.alloc (.cells #[.int .i64 g, .int .i64 r] 75)).heap.size) := by show _ < _; simp
  have HP : Hid (mtBytes g r = if mtOk g r = true then some (mtFull g r) else none) := rfl
  go_enter Tryz.func32, Tryz.ntmps32
  go_wp2_with fail
  refine (specMetaOk_any g r _).mono ?_
  generalize w.alloc (.cells #[.int .i64 g, .int .i64 r] 75) = U at *
  rintro e w1 ⟨rfl, hb1⟩
  have B1 := hid (btw B0.out hb1)
  have K1 := hid (K0.out.below hb1)
  clear hb1 B0 K0 HZ0
  cases hok : mtOk g r with
  | false =>
    have HN : Hid (mtBytes g r = none) := by show _ = _; rw [HP.out, hok]; rfl
    go_wp2
    go_ret2
    exact ⟨B1.out, .inl ⟨HN.out, rfl⟩⟩
  | true =>
    have HN : Hid (mtBytes g r = some (mtFull g r)) := by show _ = _; rw [HP.out, hok]; rfl
    obtain ⟨g0, g1, r0, r1⟩ := mtOk_facts hok
    clear hok HP
    have ba := below_new (o := .cells #[.int .u8 77] 5) (w := w1) (Below.refl _ _)
    have O2 := hid (ob_lit w1 77)
    have K2 := hid (K1.out.below ba)
    have B2 := hid (btw B1.out ba)
    have HZ : Hid (w.heap.size < w1.heap.size) := K1.out.lt
    have c0 := K2.out.cell (j := 0) rfl
    clear ba B1 K1
    go_wp2_with fail
    refine (five_any g _ (by omega) (by omega)).mono ?_
    generalize w1.alloc (.cells #[.int .u8 77] 5) = U1 at *
    generalize w1.heap.size = b1 at *
    rintro e w2 ⟨a2, c2, rfl, hR2, hlo2, hb2⟩
    have O3 := hid (O2.out.keep hb2)
    have K3 := hid (K2.out.below hb2)
    have B3 := hid (btw B2.out hb2)
    have R3 := hid hR2
    have HB1 : Hid (b1 ≤ w2.heap.size) := Nat.le_of_lt (World.ownsRow.lt O3.out b1 rfl).2
    clear hR2 hlo2 hb2 O2 K2 B2 c0
    go_wp2_with (at_builtin; refine wpList_append_by rfl _ _ rfl b1 _ [77] rfl O3.out (some a2) 5 c2 (five g) rfl R3.out (by decide) (by omega) HB1.out (fun e => by cases e) ?_)
    intro a4 n4 c4 w4 hO4 hg4 ha4
    have O4 := hid hO4
    have K4 := hid (O3.out.bk K3.out hg4 HZ.out)
    have B4 : Hid (Below w.heap.size w w4) := (O3.out.lower (Nat.le_of_lt HZ.out)).grown B3.out hg4
    clear hO4 hg4 ha4 O3 K3 B3 R3 HB1
    have hq : r.tdiv 256 = r / 256 := Int.tdiv_eq_ediv_of_nonneg r0
    have hm : r.tmod 256 = r % 256 := Int.tmod_eq_emod_of_nonneg r0
    obtain ⟨y, hy, hy0, hy1⟩ : ∃ y, r / 256 = y ∧ 0 ≤ y ∧ y ≤ 255 := ⟨_, rfl, by omega, by omega⟩
    obtain ⟨z, hz, hz0, hz1⟩ : ∃ z, r % 256 = z ∧ 0 ≤ z ∧ z ≤ 255 := ⟨_, rfl, by omega, by omega⟩
    have HYZ : Hid (mtHead g r = [77] ++ five g ++ [y, z]) := by show _ = _; rw [mtHead, hy, hz]
    rw [hy] at hq
    rw [hz] at hm
    have hw1 : IntKind.i64.wrap y = y := by simp [IntKind.wrap, IntKind.signed, IntKind.bits]; omega
    have hw2 : IntKind.i64.wrap z = z := by simp [IntKind.wrap, IntKind.signed, IntKind.bits]; omega
    have hw3 : IntKind.u8.wrap y = y := by simp [IntKind.wrap, IntKind.signed, IntKind.bits]; omega
    have hw4 : IntKind.u8.wrap z = z := by simp [IntKind.wrap, IntKind.signed, IntKind.bits]; omega
    have HHB := hid (mtHead_byte (g := g) r0 r1)
    clear hy hz
    have ba := below_new (o := .cells #[.int .u8 y, .int .u8 z] 5) (w := w4) (Below.refl _ _)
    have c1 := K4.out.cell (j := 1) rfl
    have O5 := hid (O4.out.keep ba)
    have K5 := hid (K4.out.below ba)
    have B5 := hid (btw B4.out ba)
    have R5 := hid (rd_two w4 y z ⟨hy0, hy1⟩ ⟨hz0, hz1⟩)
    have HB5 : Hid (b1 ≤ (w4.alloc (.cells #[.int .u8 y, .int .u8 z] 5)).heap.size) := by
      obtain ⟨a', c', e⟩ := O5.out.shape
      rcases O5.out.2 with ⟨e2, e3⟩ | ⟨g', cap, cur, e2, hb, hg, _⟩
      · simp [five_len] at e3
      · have := (World.ownsRow.lt O5.out g' (by rw [e2]; rfl)).2
        show _ ≤ _
        omega
    have hl6 : (77 :: five g).length ≤ 1048576 := by rw [List.length_cons, five_len]; decide
    clear ba O4 K4 B4
    go_wp2_with (at_builtin; refine wpList_append_by rfl _ _ rfl b1 _ (77 :: five g) rfl O5.out _ 2 2 [y, z] rfl R5.out hl6 (by omega) HB5.out (fun e => by cases e) ?_)
    generalize w4.alloc (.cells #[.int .u8 y, .int .u8 z] 5) = U4 at *
    intro a6 n6 c6 w6 hO6 hg6 ha6
    have hO6 : Ob w6 b1 (.slice a6 n6 c6) (mtHead g r) := by rw [HYZ.out]; simpa using hO6
    have K6 := hid (O5.out.bk K5.out hg6 HZ.out)
    have B6 : Hid (Below w.heap.size w w6) := (O5.out.lower (Nat.le_of_lt HZ.out)).grown B5.out hg6
    obtain ⟨a', c', e, hR6, _⟩ := hO6.rd (byte_at HHB.out) (by simp [mtHead, five_len])
    have hl8 : (mtHead g r).length = 8 := by simp [mtHead, five_len]
    rw [hl8] at e hR6
    cases e
    have R6 := hid hR6
    have HFL : Hid (fl (mtHead g r) 507 = some (mtHead g r ++ List.replicate 499 0)) := by
      show _ = _
      have := fl_ok (mtHead g r) 499 (by rw [hl8]; omega)
      rw [hl8] at this
      exact this
    have HB9 : Hid (∀ z ∈ mtHead g r ++ List.replicate 499 0, 0 ≤ z ∧ z ≤ 255) := byte_append HHB.out (fun z hz => by have := List.eq_of_mem_replicate hz; omega)
    have HL9 : Hid ((mtHead g r ++ List.replicate 499 0).length = 507) := by show _ = _; rw [List.length_append, hl8, List.length_replicate]
    have HEQ : Hid (mtFull g r = mtHead g r ++ List.replicate 499 0 ++ five g) := rfl
    clear hO6 hg6 ha6 hR6 hl8 O5 K5 B5 R5 HB5 HYZ HHB c1
    generalize mtHead g r ++ List.replicate 499 0 = hd at *
    go_wp2_with fail
    refine (specFill_any _ _ _ _ 507 _ R6.out (by omega)).mono ?_
    intro e w7 hput
    obtain ⟨v7, rfl, hO7, hb7⟩ := PutM.got hput HFL.out
    have K7 := hid (K6.out.below hb7)
    have B7 := hid (btw B6.out hb7)
    have HZ7 : Hid (w.heap.size < w6.heap.size) := K6.out.lt
    have O7 := hid (hO7.lower (Nat.le_of_lt HZ7.out))
    have OX := hid hO7
    have HW : Hid (w6.heap.size ≤ w7.heap.size) := hb7.size
    obtain ⟨a7, c7, e7⟩ := hO7.shape
    rw [HL9.out] at e7
    subst e7
    clear hput hO7 hb7 K6 B6 R6 HFL
    have c0 := K7.out.cell (j := 0) rfl
    go_wp2_with fail
    refine (five_any g _ (by omega) (by omega)).mono ?_
    rintro e w8 ⟨a8, c8, rfl, hR8, hlo8, hb8⟩
    have O8 := hid (OX.out.keep hb8)
    have B8 := hid (btw B7.out hb8)
    have R8 := hid hR8
    have HW8 : Hid (w6.heap.size ≤ w8.heap.size) := Nat.le_trans HW.out hb8.size
    clear hR8 hlo8 hb8 O7 OX K7 B7 c0 HW
    go_wp2_with (at_builtin; refine wpList_append_by rfl _ _ rfl w6.heap.size _ hd rfl O8.out (some a8) 5 c8 (five g) rfl R8.out (by rw [HL9.out]; omega) (by omega) HW8.out (fun e => by cases e) ?_)
    intro a9 n9 c9 w9 hO9 hg9 ha9
    have O9 : Hid (Ob w9 w.heap.size (.slice a9 n9 c9) (mtFull g r)) := by rw [HEQ.out]; exact hO9.lower (Nat.le_of_lt HZ7.out)
    have B9 : Hid (Below w.heap.size w w9) := (O8.out.lower (Nat.le_of_lt HZ7.out)).grown B8.out hg9
    clear hO9 hg9 ha9 O8 B8 R8
    go_wp2
    go_ret2
    exact ⟨B9.out, .inr ⟨_, _, HN.out, rfl, O9.out⟩⟩
open Go.RowKit
def acc (zs : List Int) : Nat → Int
  | 0 => 0
  | j + 1 => acc zs j * 256 + zAt zs (j + 1)
def mcd (zs : List Int) : Int × Int := (acc zs 5, zAt zs 6 * 256 + zAt zs 7)
def mrd (zs : List Int) : Option (Int × Int) := if zs.length = 512 ∧ mtBytes (mcd zs).1 (mcd zs).2 = some zs then some (mcd zs) else none
theorem acc_rng {zs : List Int} (hb : ∀ i : Nat, 0 ≤ zs[i]?.getD 0 ∧ zs[i]?.getD 0 ≤ 255) : ∀ j, j ≤ 5 → 0 ≤ acc zs j ∧ acc zs j < 1099511627776 ∧ (j ≤ 4 → acc zs j < 4294967296) ∧ (j ≤ 3 → acc zs j < 16777216) ∧ (j ≤ 2 → acc zs j < 65536) ∧ (j ≤ 1 → acc zs j < 256) ∧ (j ≤ 0 → acc zs j < 1)
  | 0, _ => by simp [acc]
  | j + 1, h => by
    have h1 := acc_rng hb j (by omega)
    have h2 := hb (j + 1)
    have e : acc zs (j + 1) = acc zs j * 256 + zs[j + 1]?.getD 0 := rfl
    rw [e]
    omega
theorem results_mt2 {fn : Func} {p u : Tmp} (h : fn.results = #[.cell p 75, .tmp u]) (tmps : Array Value) (w : World) (g : Nat) {x y b : Value} (hp : tmps.getD p undef = .pointer (some ⟨g, 0, none⟩)) (hb : tmps.getD u undef = b)
    (c0 : w.cell? ⟨g, 0, none⟩ = some x) (c1 : w.cell? ⟨g, 1, none⟩ = some y) : (results fn tmps).run Tryz.prog w = .ok (.tuple #[.agg #[x, y], b]) w := by
  have hp' : tmps[p]?.getD undef = .pointer (some ⟨g, 0, none⟩) := by simpa using hp
  have hb' : tmps[u]?.getD undef = b := by simpa using hb
  have hl : (loadVar 75 ⟨g, 0, none⟩).run Tryz.prog w = .ok (.agg #[x, y]) w := by go_simp
  simp [results, h, hp', hb', asAddr, hl, Result.andThen]
def MrPost (o : Option (Int × Int)) (w : World) (e : Ending) (w' : World) : Prop := Below w.heap.size w w' ∧ ((o = none ∧ e = .returned (.tuple #[.agg #[.int .i64 0, .int .i64 0], .bool false])) ∨ ∃ g r, o = some (g, r) ∧ e = .returned (.tuple #[.agg #[.int .i64 g, .int .i64 r], .bool true]))
structure Mb (w v : World) (g r : Int) : Prop where
  be : Below w.heap.size w v
  rb : Bk v w.heap.size 75 [.int .i64 0, .int .i64 0]
  bk : Bk v (w.heap.size + 1) 75 [.int .i64 g, .int .i64 r]
theorem Mb.below {w v v' : World} {g r : Int} (h : Mb w v g r) (hb : Below v.heap.size v v') : Mb w v' g r := ⟨btw h.be hb, h.rb.below hb, h.bk.below hb⟩
theorem Mb.set0 {w v : World} {g r : Int} (h : Mb w v g r) (g' : Int) : Mb w (v.setCell ⟨w.heap.size + 1, 0, none⟩ (.int .i64 g')) g' r := ⟨h.be.setCell (p := ⟨w.heap.size + 1, 0, none⟩) (Nat.le_succ _) _, h.rb.setOther (by omega) _ _, h.bk.set 0 _⟩
theorem Mb.set1 {w v : World} {g r : Int} (h : Mb w v g r) (r' : Int) : Mb w (v.setCell ⟨w.heap.size + 1, 1, none⟩ (.int .i64 r')) g r' := ⟨h.be.setCell (p := ⟨w.heap.size + 1, 1, none⟩) (Nat.le_succ _) _, h.rb.setOther (by omega) _ _, h.bk.set 1 _⟩
theorem Mb.cells {w v : World} {g r : Int} (h : Mb w v g r) : v.cell? ⟨w.heap.size + 1, 0, none⟩ = some (.int .i64 g) ∧ v.cell? ⟨w.heap.size + 1, 1, none⟩ = some (.int .i64 r) ∧ v.frozen? ⟨w.heap.size + 1, 0, none⟩ = false ∧ v.frozen? ⟨w.heap.size + 1, 1, none⟩ = false := ⟨h.bk.cell (j := 0) rfl, h.bk.cell (j := 1) rfl, h.bk.free 0, h.bk.free 1⟩
theorem Mb.rcells {w v : World} {g r : Int} (h : Mb w v g r) : v.cell? ⟨w.heap.size, 0, none⟩ = some (.int .i64 0) ∧ v.cell? ⟨w.heap.size, 1, none⟩ = some (.int .i64 0) ∧ v.frozen? ⟨w.heap.size, 0, none⟩ = false ∧ v.frozen? ⟨w.heap.size, 1, none⟩ = false := ⟨h.rb.cell (j := 0) rfl, h.rb.cell (j := 1) rfl, h.rb.free 0, h.rb.free 1⟩
theorem Mb.out {w v : World} {g r : Int} (h : Mb w v g r) (x y : Value) : Below w.heap.size w ((v.setCell ⟨w.heap.size, 0, none⟩ x).setCell ⟨w.heap.size, 1, none⟩ y) := (h.be.setCell (p := ⟨w.heap.size, 0, none⟩) (Nat.le_refl _) _).setCell (p := ⟨w.heap.size, 1, none⟩) (Nat.le_refl _) _
set_option maxHeartbeats 4000000 in
set_option maxRecDepth 20000 in
theorem specMetaRead_any (a : Option Addr) (n c : Nat) (zs : List Int) (w : World) (h : Rd w a n c zs) :
    Calls Tryz.prog 141 #[.slice a n c] w fun e w' => MrPost (mrd zs) w e w' := by
  have hzl : n = zs.length := h.1
  have HBY := hid h.2.2.2.2.1
  have HR := hid h
  have M0 : Hid (Mb w ((w.alloc (.cells #[.int .i64 0, .int .i64 0] 75)).alloc (.cells #[.int .i64 0, .int .i64 0] 75)) 0 0) := by
    have k1 := Bk.new (w.alloc (.cells #[.int .i64 0, .int .i64 0] 75)) 75 [.int .i64 0, .int .i64 0]
    exact ⟨below_new (below_new (Below.refl _ _)), (Bk.new w 75 [.int .i64 0, .int .i64 0]).alloc _, by simpa using k1⟩
  obtain ⟨p0, p1, pf0, pf1⟩ := M0.out.cells
  obtain ⟨r0, r1, rf0, rf1⟩ := M0.out.rcells
  by_cases h512 : n = 512
  · subst h512
    have HZL : Hid (zs.length = 512) := hzl.symm
    obtain ⟨b, off, rfl, hbl, hcell⟩ := h.2.2.2.2.2 (by omega)
    have HC : Hid (∀ v, Below w.heap.size w v → ∀ i, i < 512 → v.cell? ⟨b, off + i, none⟩ = some (.int .u8 (zAt zs i))) := by
      intro v hb i hi
      rw [hb.cell (p := ⟨b, off + i, none⟩) hbl]
      exact hcell i hi
    have HNB : Hid (b < w.heap.size) := hbl
    clear hcell hbl hzl h p0 p1 pf0 pf1 r0 r1 rf0 rf1
    go_enter Tryz.func141, Tryz.ntmps141
    go_wp2_with fail
    generalize (w.alloc (.cells #[.int .i64 0, .int .i64 0] 75)).alloc (.cells #[.int .i64 0, .int .i64 0] 75) = U at *
    go_loopw [5] (fun i wr => ∃ (j : Nat), j ≤ 5 ∧ i = .int .i64 ((j : Int) + 1) ∧ Hid (Mb w wr (acc zs j) 0)) (fun i _ => 6 - (intOf i).toNat)
    case atStart => exact ⟨0, by omega, rfl, M0.out⟩
    case round =>
      obtain ⟨j, hj, rfl, M1⟩ := hrel
      clear M0
      by_cases hlt : j < 5
      · have hlt' : (j : Int) + 1 < 6 := by omega
        have M2 := hid (M1.out.below (below_drew _))
        obtain ⟨p0, p1, pf0, pf1⟩ := M2.out.cells
        have m0 := HC.out _ M2.out.be (j + 1) (by omega)
        have hac := acc_rng HBY.out j (by omega)
        have hz := HBY.out (j + 1)
        have HST : Hid (acc zs (j + 1) = acc zs j * 256 + zAt zs (j + 1)) := rfl
        have hz' : 0 ≤ zAt zs (j + 1) ∧ zAt zs (j + 1) ≤ 255 := hz
        have hac0 := hac.1
        have hac1 : acc zs j < 4294967296 := hac.2.2.1 (by omega)
        have M3 := hid (M2.out.set0 (acc zs (j + 1)))
        rw [HST.out] at M3
        clear hz hac M1
        generalize acc zs j = G at *
        generalize zAt zs (j + 1) = z at *
        have hw1 : IntKind.i64.wrap (G * 256) = G * 256 := by simp [IntKind.wrap, IntKind.signed, IntKind.bits]; omega
        have hw2 : IntKind.i64.wrap z = z := by simp [IntKind.wrap, IntKind.signed, IntKind.bits]; omega
        have hw3 : IntKind.i64.wrap (G * 256 + z) = G * 256 + z := by simp [IntKind.wrap, IntKind.signed, IntKind.bits]; omega
        have hi2 : (j : Int) + 1 < 512 := by omega
        have hi3 : (0 : Int) ≤ (j : Int) + 1 := by omega
        go_wp2_with fail
        go_region_with (fail)
        all_goals
          clear p0 p1 pf0 pf1 m0 M2 hw1 hw2 hw3
          go_wp2
          go_roundw
          case rel => exact ⟨j + 1, by omega, by go_num, by rw [HST.out]; exact M3.out⟩
          case measure => simp [intOf]; omega
      · obtain rfl : j = 5 := by omega
        have M2 := hid (M1.out.below (below_drew _))
        obtain ⟨p0, p1, pf0, pf1⟩ := M2.out.cells
        have m6 := HC.out _ M2.out.be 6 (by omega)
        have m7 := HC.out _ M2.out.be 7 (by omega)
        have hz6 : 0 ≤ zAt zs 6 ∧ zAt zs 6 ≤ 255 := HBY.out 6
        have hz7 : 0 ≤ zAt zs 7 ∧ zAt zs 7 ≤ 255 := HBY.out 7
        have HM : Hid (mcd zs = (acc zs 5, zAt zs 6 * 256 + zAt zs 7)) := rfl
        have M3 := hid (M2.out.set1 (zAt zs 6 * 256 + zAt zs 7))
        clear M1
        generalize acc zs 5 = G at *
        generalize zAt zs 6 = y at *
        generalize zAt zs 7 = z at *
        have hw1 : IntKind.i64.wrap (y * 256) = y * 256 := by simp [IntKind.wrap, IntKind.signed, IntKind.bits]; omega
        have hw2 : IntKind.i64.wrap z = z := by simp [IntKind.wrap, IntKind.signed, IntKind.bits]; omega
        have hw3 : IntKind.i64.wrap (y * 256 + z) = y * 256 + z := by simp [IntKind.wrap, IntKind.signed, IntKind.bits]; omega
        have hw4 : IntKind.i64.wrap y = y := by simp [IntKind.wrap, IntKind.signed, IntKind.bits]; omega
        go_wp2_with fail
        go_cut [5] (fun x v => x = x ∧ Hid (Mb w v G (y * 256 + z)))
        case first =>
          go_region_with (fail)
          all_goals (go_wp2_with fail; go_meet)
          all_goals exact ⟨trivial, M3.out⟩
        case rest =>
          obtain ⟨-, M4⟩ := hcut
          clear p0 p1 pf0 pf1 m6 m7 M2 M3 hw1 hw2 hw3 hw4
          obtain ⟨p0, p1, pf0, pf1⟩ := M4.out.cells
          generalize y * 256 + z = R at *
          go_wp2_with fail
          refine (specMetaBytes_any G R _).mono ?_
          intro e w5 hput
          obtain ⟨hb5, ⟨hnn, rfl⟩ | ⟨v5, bs, hss, rfl, hO5⟩⟩ := hput
          · have HPR : Hid (mrd zs = none) := by
              show mrd zs = none
              rw [mrd, if_neg]
              rintro ⟨_, h⟩
              rw [HM.out, hnn] at h
              cases h
            have M5 := hid (M4.out.below hb5)
            obtain ⟨r0, r1, rf0, rf1⟩ := M5.out.rcells
            clear hb5 hnn M4 p0 p1 pf0 pf1
            go_wp2
            refine bodyPost_ret (results_mt2 (x := .int .i64 0) (y := .int .i64 0) rfl _ _ _ rfl rfl (by go_simp) (by go_simp)) rfl ?_
            exact ⟨M5.out.out _ _, .inl ⟨HPR.out, rfl⟩⟩
          · have hbs : (∀ z ∈ bs, 0 ≤ z ∧ z ≤ 255) ∧ bs.length = 512 := by
              unfold mtBytes at hss
              split at hss
              · rename_i hok
                cases hss
                have := mtOk_facts hok
                exact ⟨mtFull_byte this.2.2.1 this.2.2.2, mtFull_len _ _⟩
              · cases hss
            obtain ⟨a5, c5, e5, hR5, _⟩ := hO5.rd (byte_at hbs.1) (by rw [hbs.2]; omega)
            rw [hbs.2] at e5 hR5
            subst e5
            have R5 := hid hR5
            have M5 := hid (M4.out.below hb5)
            have RB := hid (HR.out.kept M5.out.be)
            have HSS := hid hss
            clear hb5 hO5 hR5 hbs hss M4 p0 p1 pf0 pf1
            obtain ⟨p0, p1, pf0, pf1⟩ := M5.out.cells
            obtain ⟨r0, r1, rf0, rf1⟩ := M5.out.rcells
            go_wp2_with fail
            refine (same_any a5 _ 512 _ c5 _ bs zs _ R5.out RB.out).mono ?_
            by_cases heq : bs = zs
            · have HPR : Hid (mrd zs = some (G, R)) := by
                show mrd zs = some (G, R)
                rw [mrd, if_pos, HM.out]
                exact ⟨HZL.out, by rw [HM.out, HSS.out, heq]⟩
              rw [decide_eq_true heq]
              rintro e w6 ⟨rfl, rfl⟩
              clear R5 RB HSS heq
              go_wp2
              refine bodyPost_ret (results_mt2 (x := .int .i64 G) (y := .int .i64 R) rfl _ _ _ rfl rfl (by go_simp) (by go_simp)) rfl ?_
              exact ⟨M5.out.out _ _, .inr ⟨G, R, HPR.out, rfl⟩⟩
            · have HPR : Hid (mrd zs = none) := by
                show mrd zs = none
                rw [mrd, if_neg]
                rintro ⟨_, h⟩
                rw [HM.out, HSS.out] at h
                cases h
                exact heq rfl
              rw [decide_eq_false heq]
              rintro e w6 ⟨rfl, rfl⟩
              clear R5 RB HSS heq
              go_wp2
              refine bodyPost_ret (results_mt2 (x := .int .i64 0) (y := .int .i64 0) rfl _ _ _ rfl rfl (by go_simp) (by go_simp)) rfl ?_
              exact ⟨M5.out.out _ _, .inl ⟨HPR.out, rfl⟩⟩
  · have h512' : ((n : Int) != 512) = true := by simp; omega
    have HPR : Hid (mrd zs = none) := by
      show mrd zs = none
      rw [mrd, if_neg]
      rintro ⟨h, _⟩
      omega
    have HBF := hid M0.out.be
    clear HBY HR M0 h hzl
    go_enter Tryz.func141, Tryz.ntmps141
    go_wp2
    refine bodyPost_ret (results_mt2 (x := .int .i64 0) (y := .int .i64 0) rfl _ _ _ rfl rfl (by go_simp) (by go_simp)) rfl ?_
    exact ⟨HBF.out, .inl ⟨HPR.out, rfl⟩⟩
end Go.Proofs.YtmilnejacnaejaaGreatDoor
