/-
  The law FnExactLockHas answers true at every table, name and range.
-/
import Derived.Test.YtmogdijhlgonnabLwLO
import Derived.Test.YtmogdijhlgonnabLkH
namespace Go.Proofs.Ytmogdijhlgonnab
open Go.RowKit
set_option linter.unusedVariables false
set_option maxHeartbeats 8000000 in
set_option maxRecDepth 20000 in
theorem lawLockHas_walk (ha : Option Addr) (hn hc : Nat) (wa : Option Addr) (wn wc : Nat) (hl wl : List LK) (c e n : Int) (lo hi : ByteArray) (ex : Bool) (w : World) (h : Lr w (fun _ => True) (.slice ha hn hc) hl ∧ szOkL hl) (k : Lr w (fun _ => True) (.slice wa wn wc) wl ∧ szOkL wl) (hs : lo.size ≤ maxLen ∧ hi.size ≤ maxLen) :
    Calls Try.prog 6 #[.agg #[.slice ha hn hc, .slice wa wn wc], .agg #[.int .i64 c, .int .i64 e, .int .i64 n], .agg #[.string lo, .string hi], .bool ex] w fun e w' => e = .returned (.bool true) ∧ Below w.heap.size w w' := by
  unfold maxLen at hs
  obtain ⟨hs1, hs2⟩ := hs
  have X0 := hid ((LX.start h.1 k.1).below (below_new (o := .cells #[.int .i64 c, .int .i64 e, .int .i64 n] 34) (below_new (o := .cells #[.string lo, .string hi] 36) (Below.refl _ _))))
  have P0 := hid ((Bk.new (w.alloc (.cells #[.slice ha hn hc, .slice wa wn wc] 24)) 34 [.int .i64 c, .int .i64 e, .int .i64 n]).alloc (.cells #[.string lo, .string hi] 36))
  have R0 := hid (Bk.new ((w.alloc (.cells #[.slice ha hn hc, .slice wa wn wc] 24)).alloc (.cells #[.int .i64 c, .int .i64 e, .int .i64 n] 34)) 36 [.string lo, .string hi])
  rw [show (w.alloc (.cells #[.slice ha hn hc, .slice wa wn wc] 24)).heap.size = w.heap.size + 1 by simp] at P0
  rw [show ((w.alloc (.cells #[.slice ha hn hc, .slice wa wn wc] 24)).alloc (.cells #[.int .i64 c, .int .i64 e, .int .i64 n] 34)).heap.size = w.heap.size + 1 + 1 by simp] at R0
  have HZ1 := hid h.2
  have HZ2 := hid k.2
  have CT := hid (fun w => toTx_any c e n w)
  have CR : Hid (∀ w, Calls Try.prog 26 #[.agg #[.string lo, .string hi]] w fun r w' => r = .returned (.agg #[.string lo, .string hi]) ∧ Below w.heap.size w w') := fun w => toRange_any lo hi w
  have CZ : Hid (∀ (left : Int) (w : World), 0 ≤ left → left ≤ 1048576 → Calls Try.prog 24 #[.agg #[.string lo, .string hi], .int .i64 left] w fun e w' => (∃ x : Int, e = .returned (.int .i64 x) ∧ x ≤ left ∧ -1 ≤ x) ∧ Below w.heap.size w w') := fun left w h0 h1 => szRange_any lo hi left w h0 h1 (by omega) (by omega)
  clear h k hs1 hs2
  go_enter Try.func6, Try.ntmps6
  go_wp2_with fail
  refine (szLocks_any _ _ ha hn hc wa wn wc hl wl _ X0.out.hA X0.out.hB HZ1.out HZ2.out).mono ?_
  generalize ((w.alloc (.cells #[.slice ha hn hc, .slice wa wn wc] 24)).alloc (.cells #[.int .i64 c, .int .i64 e, .int .i64 n] 34)).alloc (.cells #[.string lo, .string hi] 36) = U at *
  rintro r w1 ⟨⟨x, rfl, hx1, hx2, hx3⟩, hb⟩
  have X1 := hid (X0.out.below hb)
  have P1 := hid (P0.out.below hb)
  have R1 := hid (R0.out.below hb)
  clear hb X0 P0 R0
  by_cases hneg : x < 0
  · clear hx3
    go_wp2
    go_ret
    exact ⟨rfl, X1.out.bel⟩
  obtain ⟨m0, m1⟩ := hx3 (by omega)
  clear hx3
  have r0 := R1.out.cell (j := 0) rfl
  have r1 := R1.out.cell (j := 1) rfl
  go_wp2_with fail
  refine (CZ.out x _ (by omega) (by omega)).mono ?_
  rintro r w2 ⟨⟨y, rfl, hy1, hy2⟩, hb⟩
  have X2 := hid (X1.out.below hb)
  have P2 := hid (P1.out.below hb)
  have R2 := hid (R1.out.below hb)
  clear hb X1 P1 R1 r0 r1
  by_cases hneg2 : y < 0
  · go_wp2
    go_ret
    exact ⟨rfl, X2.out.bel⟩
  · have CS : Hid (∀ (v : World) g0 g1, LO v w2.heap.size (.slice (some ⟨g0, 0, none⟩) hn hn) (.slice (some ⟨g1, 0, none⟩) wn wn) hl wl → Calls Try.prog 25 #[.agg #[.slice (some ⟨g0, 0, none⟩) hn hn, .slice (some ⟨g1, 0, none⟩) wn wn], .agg #[.int .i64 c, .int .i64 e, .int .i64 n], .agg #[.string lo, .string hi], .bool ex] v fun r w' => r = .returned (.bool (hasV hl wl (c, e, n) lo hi ex)) ∧ Below v.heap.size v w') := fun v g0 g1 hO => specLockHas_any (fun _ => True) (fun _ => True) _ _ _ _ _ _ hl wl c e n lo hi ex v hO.hh.lr hO.hw.lr (by omega) (by omega)
    have CI : Hid (∀ (v : World) g0 g1 {B : Nat}, LO v B (.slice (some ⟨g0, 0, none⟩) hn hn) (.slice (some ⟨g1, 0, none⟩) wn wn) hl wl → Calls Try.prog 27 #[.agg #[.slice (some ⟨g0, 0, none⟩) hn hn, .slice (some ⟨g1, 0, none⟩) wn wn], .agg #[.int .i64 c, .int .i64 e, .int .i64 n], .agg #[.string lo, .string hi], .bool ex] v fun r w' => r = .returned (.bool (hasV hl wl (c, e, n) lo hi ex)) ∧ Below v.heap.size v w') := fun v g0 g1 B hO => implLockHas_any (fun _ => True) (fun _ => True) _ _ _ _ _ _ hl wl c e n lo hi ex v hO.hh.lr hO.hw.lr (by omega) (by omega)
    generalize hasV hl wl (c, e, n) lo hi ex = Z at *
    obtain ⟨x0, x1⟩ := X2.out.cells
    have T2 := hid (kl7_0 x0 x1 (P2.out.cell (j := 0) rfl) (P2.out.cell (j := 1) rfl) (P2.out.cell (j := 2) rfl) (R2.out.cell (j := 0) rfl) (R2.out.cell (j := 1) rfl))
    clear x0 x1
    go_wp2_with fail
    refine wp_region_noPanic ?_
    refine wp_region_held_drew (S := fun v => v.cell? ⟨w.heap.size, 0, none⟩ = some (.slice ha hn hc) ∧ v.cell? ⟨w.heap.size, 1, none⟩ = some (.slice wa wn wc) ∧ v.cell? ⟨w.heap.size + 1, 0, none⟩ = some (.int .i64 c) ∧ v.cell? ⟨w.heap.size + 1, 1, none⟩ = some (.int .i64 e) ∧ v.cell? ⟨w.heap.size + 1, 2, none⟩ = some (.int .i64 n) ∧ v.cell? ⟨w.heap.size + 1 + 1, 0, none⟩ = some (.string lo) ∧ v.cell? ⟨w.heap.size + 1 + 1, 1, none⟩ = some (.string hi) ∧ KL w2 v [(⟨w.heap.size, 0, none⟩, .slice ha hn hc), (⟨w.heap.size, 1, none⟩, .slice wa wn wc), (⟨w.heap.size + 1, 0, none⟩, .int .i64 c), (⟨w.heap.size + 1, 1, none⟩, .int .i64 e), (⟨w.heap.size + 1, 2, none⟩, .int .i64 n), (⟨w.heap.size + 1 + 1, 0, none⟩, .string lo), (⟨w.heap.size + 1 + 1, 1, none⟩, .string hi)]) (by kernel_rfl) (kl7 (T2.out.call (below_drew _))) (fun hHeld => ?_)
    simp only [List.size_toArray, List.length_cons, List.length_nil, Array.replicate_succ, Array.replicate_zero, Nat.reduceAdd, List.push_toArray, List.nil_append, List.cons_append]
    refine wpAnyH_take (i := 0) (v := (.agg #[.slice ha hn hc, .slice wa wn wc])) rfl (by kernel_rfl) (by kernel_rfl) (by kernel_rfl) (fun _ _ _ h => h) (Or.inl ⟨by rfl, ?_⟩) (by assumption) ?_
    · intro w hSw
      (try dsimp only at hSw)
      go_simp
    try simp only [List.getElem_toArray]
    try simp only [List.getElem_cons_succ]
    try simp only [List.getElem_cons_zero]
    try simp only [Act.put]
    try simp only [List.setIfInBounds_toArray]
    try simp only [List.set_cons_succ]
    try simp only [List.set_cons_zero]
    refine wpAnyH_take (i := 2) (v := (.agg #[.int .i64 c, .int .i64 e, .int .i64 n])) rfl (by kernel_rfl) (by kernel_rfl) (by kernel_rfl) (fun _ _ _ h => h) (Or.inl ⟨by rfl, ?_⟩) (by assumption) ?_
    · intro w hSw
      (try dsimp only at hSw)
      go_simp
    try simp only [List.getElem_toArray]
    try simp only [List.getElem_cons_succ]
    try simp only [List.getElem_cons_zero]
    try simp only [Act.put]
    try simp only [List.setIfInBounds_toArray]
    try simp only [List.set_cons_succ]
    try simp only [List.set_cons_zero]
    refine wpAnyH_take (i := 4) (v := (.agg #[.string lo, .string hi])) rfl (by kernel_rfl) (by kernel_rfl) (by kernel_rfl) (fun _ _ _ h => h) (Or.inl ⟨by rfl, ?_⟩) (by assumption) ?_
    · intro w hSw
      (try dsimp only at hSw)
      go_simp
    try simp only [List.getElem_toArray]
    try simp only [List.getElem_cons_succ]
    try simp only [List.getElem_cons_zero]
    try simp only [Act.put]
    try simp only [List.setIfInBounds_toArray]
    try simp only [List.set_cons_succ]
    try simp only [List.set_cons_zero]
    refine wpAnyH_take (i := 6) (v := (.bool ex)) rfl (by kernel_rfl) (by kernel_rfl) (by kernel_rfl) (fun _ _ _ h => h) (Or.inl ⟨by rfl, ?_⟩) (by assumption) ?_
    · intro w hSw
      (try dsimp only at hSw)
      go_simp
    try simp only [List.getElem_toArray]
    try simp only [List.getElem_cons_succ]
    try simp only [List.getElem_cons_zero]
    try simp only [Act.put]
    try simp only [List.setIfInBounds_toArray]
    try simp only [List.set_cons_succ]
    try simp only [List.set_cons_zero]
    refine wpAnyH_ready (rs := [1]) (by kernel_rfl) (by simp) ?_
    refine AllReadyH.cons rfl (fun K1 hK => ?_) AllReadyH.nil
    go_simp
    refine (toLocks_any _ _ ha hn hc wa wn wc hl wl _ (X2.out.hA.below (kl7_bel (by assumption))) (X2.out.hB.below (kl7_bel (by assumption))) m0 m1).mono ?_
    rintro r w3 ⟨g0, g1, rfl, hO, hbC⟩
    have O3 := hid hO
    clear hO
    go_wp2_with fail
    refine hK.out _ _ ?_ (fun hHeld => ?_)
    · exact kl7c hbC (by assumption)
    clear hK K1
    try simp only [List.getElem_toArray]
    try simp only [List.getElem_cons_succ]
    try simp only [List.getElem_cons_zero]
    try simp only [Act.put]
    try simp only [List.setIfInBounds_toArray]
    try simp only [List.set_cons_succ]
    try simp only [List.set_cons_zero]
    refine wpAnyH_ready (rs := [3]) (by kernel_rfl) (by simp) ?_
    refine AllReadyH.cons rfl (fun K1 hK => ?_) AllReadyH.nil
    go_simp
    refine (CT.out _).mono ?_
    rintro r w4 ⟨rfl, hbC⟩
    have O4 := hid (O3.out.below hbC)
    clear O3
    go_wp2_with fail
    refine hK.out _ _ ?_ (fun hHeld => ?_)
    · exact kl7c hbC (by assumption)
    clear hK K1
    try simp only [List.getElem_toArray]
    try simp only [List.getElem_cons_succ]
    try simp only [List.getElem_cons_zero]
    try simp only [Act.put]
    try simp only [List.setIfInBounds_toArray]
    try simp only [List.set_cons_succ]
    try simp only [List.set_cons_zero]
    refine wpAnyH_ready (rs := [5]) (by kernel_rfl) (by simp) ?_
    refine AllReadyH.cons rfl (fun K1 hK => ?_) AllReadyH.nil
    go_simp
    refine (CR.out _).mono ?_
    rintro r w5 ⟨rfl, hbC⟩
    have O5 := hid (O4.out.below hbC)
    clear O4
    go_wp2_with fail
    refine hK.out _ _ ?_ (fun hHeld => ?_)
    · exact kl7c hbC (by assumption)
    clear hK K1
    try simp only [List.getElem_toArray]
    try simp only [List.getElem_cons_succ]
    try simp only [List.getElem_cons_zero]
    try simp only [Act.put]
    try simp only [List.setIfInBounds_toArray]
    try simp only [List.set_cons_succ]
    try simp only [List.set_cons_zero]
    refine wpAnyH_ready (rs := [7]) (by kernel_rfl) (by simp) ?_
    refine AllReadyH.cons rfl (fun K1 hK => ?_) AllReadyH.nil
    go_simp
    refine (CS.out _ _ _ O5.out).mono ?_
    rintro r w6 ⟨rfl, hbC⟩
    clear O5
    go_wp2_with fail
    refine hK.out _ _ ?_ (fun hHeld => ?_)
    · exact kl7c hbC (by assumption)
    clear hK K1
    try simp only [List.getElem_toArray]
    try simp only [List.getElem_cons_succ]
    try simp only [List.getElem_cons_zero]
    try simp only [Act.put]
    try simp only [List.setIfInBounds_toArray]
    try simp only [List.set_cons_succ]
    try simp only [List.set_cons_zero]
    refine wpAnyH_take (i := 8) (v := (.bool Z)) rfl (by kernel_rfl) (by kernel_rfl) (by kernel_rfl) (fun _ _ _ h => h) (Or.inl ⟨by rfl, ?_⟩) (by assumption) ?_
    · intro w hSw
      (try dsimp only at hSw)
      go_simp
    try simp only [List.getElem_toArray]
    try simp only [List.getElem_cons_succ]
    try simp only [List.getElem_cons_zero]
    try simp only [Act.put]
    try simp only [List.setIfInBounds_toArray]
    try simp only [List.set_cons_succ]
    try simp only [List.set_cons_zero]
    refine wpAnyH_done (by kernel_rfl) ?_ _
    refine NoPanic.normal ?_
    have hb := kl7_bel (by assumption)
    have X6 := hid (X2.out.below hb)
    have P6 := hid (P2.out.below hb)
    have R6 := hid (R2.out.below hb)
    clear hb X2 P2 R2 T2 CS
    obtain ⟨x0, x1⟩ := X6.out.cells
    go_wp2_with fail
    refine (toLocks_any _ _ ha hn hc wa wn wc hl wl _ X6.out.hA X6.out.hB m0 m1).mono ?_
    rintro r w7 ⟨h0, h1, rfl, hO, hb⟩
    have hb2 := btL hb (below_new (o := .cells #[.slice (some ⟨h0, 0, none⟩) hn hn, .slice (some ⟨h1, 0, none⟩) wn wn] 29) (w := w7) (Below.refl _ _))
    have X8 := hid (X6.out.below hb2)
    have P8 := hid (P6.out.below hb2)
    have R8 := hid (R6.out.below hb2)
    have D8 := hid (LB.new hO)
    clear hb hb2 hO X6 P6 R6 x0 x1
    go_wp2_with fail
    generalize w7.alloc (.cells #[.slice (some ⟨h0, 0, none⟩) hn hn, .slice (some ⟨h1, 0, none⟩) wn wn] 29) = u8 at *
    generalize w7.heap.size = b4 at *
    obtain ⟨x0, x1⟩ := D8.out.cells
    have T8 := hid (kl7_0 x0 x1 (P8.out.cell (j := 0) rfl) (P8.out.cell (j := 1) rfl) (P8.out.cell (j := 2) rfl) (R8.out.cell (j := 0) rfl) (R8.out.cell (j := 1) rfl))
    clear x0 x1
    refine wp_region_noPanic ?_
    refine wp_region_held_drew (S := fun v => v.cell? ⟨b4, 0, none⟩ = some (.slice (some ⟨h0, 0, none⟩) hn hn) ∧ v.cell? ⟨b4, 1, none⟩ = some (.slice (some ⟨h1, 0, none⟩) wn wn) ∧ v.cell? ⟨w.heap.size + 1, 0, none⟩ = some (.int .i64 c) ∧ v.cell? ⟨w.heap.size + 1, 1, none⟩ = some (.int .i64 e) ∧ v.cell? ⟨w.heap.size + 1, 2, none⟩ = some (.int .i64 n) ∧ v.cell? ⟨w.heap.size + 1 + 1, 0, none⟩ = some (.string lo) ∧ v.cell? ⟨w.heap.size + 1 + 1, 1, none⟩ = some (.string hi) ∧ KL u8 v [(⟨b4, 0, none⟩, .slice (some ⟨h0, 0, none⟩) hn hn), (⟨b4, 1, none⟩, .slice (some ⟨h1, 0, none⟩) wn wn), (⟨w.heap.size + 1, 0, none⟩, .int .i64 c), (⟨w.heap.size + 1, 1, none⟩, .int .i64 e), (⟨w.heap.size + 1, 2, none⟩, .int .i64 n), (⟨w.heap.size + 1 + 1, 0, none⟩, .string lo), (⟨w.heap.size + 1 + 1, 1, none⟩, .string hi)]) (by kernel_rfl) (kl7 (T8.out.call (below_drew _))) (fun hHeld => ?_)
    simp only [List.size_toArray, List.length_cons, List.length_nil, Array.replicate_succ, Array.replicate_zero, Nat.reduceAdd, List.push_toArray, List.nil_append, List.cons_append]
    refine wpAnyH_take (i := 0) (v := (.agg #[.slice (some ⟨h0, 0, none⟩) hn hn, .slice (some ⟨h1, 0, none⟩) wn wn])) rfl (by kernel_rfl) (by kernel_rfl) (by kernel_rfl) (fun _ _ _ h => h) (Or.inl ⟨by rfl, ?_⟩) (by assumption) ?_
    · intro w hSw
      (try dsimp only at hSw)
      go_simp
    try simp only [List.getElem_toArray]
    try simp only [List.getElem_cons_succ]
    try simp only [List.getElem_cons_zero]
    try simp only [Act.put]
    try simp only [List.setIfInBounds_toArray]
    try simp only [List.set_cons_succ]
    try simp only [List.set_cons_zero]
    refine wpAnyH_take (i := 1) (v := (.agg #[.int .i64 c, .int .i64 e, .int .i64 n])) rfl (by kernel_rfl) (by kernel_rfl) (by kernel_rfl) (fun _ _ _ h => h) (Or.inl ⟨by rfl, ?_⟩) (by assumption) ?_
    · intro w hSw
      (try dsimp only at hSw)
      go_simp
    try simp only [List.getElem_toArray]
    try simp only [List.getElem_cons_succ]
    try simp only [List.getElem_cons_zero]
    try simp only [Act.put]
    try simp only [List.setIfInBounds_toArray]
    try simp only [List.set_cons_succ]
    try simp only [List.set_cons_zero]
    refine wpAnyH_take (i := 3) (v := (.agg #[.string lo, .string hi])) rfl (by kernel_rfl) (by kernel_rfl) (by kernel_rfl) (fun _ _ _ h => h) (Or.inl ⟨by rfl, ?_⟩) (by assumption) ?_
    · intro w hSw
      (try dsimp only at hSw)
      go_simp
    try simp only [List.getElem_toArray]
    try simp only [List.getElem_cons_succ]
    try simp only [List.getElem_cons_zero]
    try simp only [Act.put]
    try simp only [List.setIfInBounds_toArray]
    try simp only [List.set_cons_succ]
    try simp only [List.set_cons_zero]
    refine wpAnyH_take (i := 5) (v := (.bool ex)) rfl (by kernel_rfl) (by kernel_rfl) (by kernel_rfl) (fun _ _ _ h => h) (Or.inl ⟨by rfl, ?_⟩) (by assumption) ?_
    · intro w hSw
      (try dsimp only at hSw)
      go_simp
    try simp only [List.getElem_toArray]
    try simp only [List.getElem_cons_succ]
    try simp only [List.getElem_cons_zero]
    try simp only [Act.put]
    try simp only [List.setIfInBounds_toArray]
    try simp only [List.set_cons_succ]
    try simp only [List.set_cons_zero]
    refine wpAnyH_ready (rs := [2]) (by kernel_rfl) (by simp) ?_
    refine AllReadyH.cons rfl (fun K1 hK => ?_) AllReadyH.nil
    go_simp
    refine (CT.out _).mono ?_
    rintro r w9 ⟨rfl, hbC⟩
    have D9 := hid ((D8.out.below (below_drew _)).below hbC)
    go_wp2_with fail
    refine hK.out _ _ ?_ (fun hHeld => ?_)
    · exact kl7c hbC (by assumption)
    clear hK K1
    try simp only [List.getElem_toArray]
    try simp only [List.getElem_cons_succ]
    try simp only [List.getElem_cons_zero]
    try simp only [Act.put]
    try simp only [List.setIfInBounds_toArray]
    try simp only [List.set_cons_succ]
    try simp only [List.set_cons_zero]
    refine wpAnyH_ready (rs := [4]) (by kernel_rfl) (by simp) ?_
    refine AllReadyH.cons rfl (fun K1 hK => ?_) AllReadyH.nil
    go_simp
    refine (CR.out _).mono ?_
    rintro r w10 ⟨rfl, hbC⟩
    have D10 := hid (D9.out.below hbC)
    clear D9
    go_wp2_with fail
    refine hK.out _ _ ?_ (fun hHeld => ?_)
    · exact kl7c hbC (by assumption)
    clear hK K1
    try simp only [List.getElem_toArray]
    try simp only [List.getElem_cons_succ]
    try simp only [List.getElem_cons_zero]
    try simp only [Act.put]
    try simp only [List.setIfInBounds_toArray]
    try simp only [List.set_cons_succ]
    try simp only [List.set_cons_zero]
    refine wpAnyH_ready (rs := [6]) (by kernel_rfl) (by simp) ?_
    refine AllReadyH.cons rfl (fun K1 hK => ?_) AllReadyH.nil
    go_simp
    refine (CI.out _ _ _ D10.out.own).mono ?_
    rintro r w11 ⟨rfl, hbC⟩
    clear D10
    go_wp2_with fail
    refine hK.out _ _ ?_ (fun hHeld => ?_)
    · exact kl7c hbC (by assumption)
    clear hK K1
    try simp only [List.getElem_toArray]
    try simp only [List.getElem_cons_succ]
    try simp only [List.getElem_cons_zero]
    try simp only [Act.put]
    try simp only [List.setIfInBounds_toArray]
    try simp only [List.set_cons_succ]
    try simp only [List.set_cons_zero]
    refine wpAnyH_take (i := 7) (v := (.bool Z)) rfl (by kernel_rfl) (by kernel_rfl) (by kernel_rfl) (fun _ _ _ h => h) (Or.inl ⟨by rfl, ?_⟩) (by assumption) ?_
    · intro w hSw
      (try dsimp only at hSw)
      go_simp
    try simp only [List.getElem_toArray]
    try simp only [List.getElem_cons_succ]
    try simp only [List.getElem_cons_zero]
    try simp only [Act.put]
    try simp only [List.setIfInBounds_toArray]
    try simp only [List.set_cons_succ]
    try simp only [List.set_cons_zero]
    refine wpAnyH_done (by kernel_rfl) ?_ _
    refine NoPanic.normal ?_
    have hb := kl7_bel (by assumption)
    have X12 := hid (X8.out.below hb)
    have D12 := hid (D8.out.below hb)
    clear hb X8 D8 P8 R8 T8 CI
    have hne : (Z != Z) = false := by simp
    obtain ⟨x0, x1⟩ := X12.out.cells
    obtain ⟨y0, y1⟩ := D12.out.cells
    have X7 := hid (X12.out.below (below_drew _))
    have C7 := hid (D12.out.below (below_drew _))
    go_wp2_with fail
    go_cut [47] (fun x v => x = .bool false ∧ Below w.heap.size w v)
    case first =>
      go_region_with (first
        | (go_at_call 9; refine (toLocks_any _ _ ha hn hc wa wn wc hl wl _ X7.out.hA X7.out.hB m0 m1).mono ?_; rintro e w8 ⟨f0, f1, rfl, hO8, hb8⟩; have z0 := (C7.out.below hb8).cells.1; have z1 := (C7.out.below hb8).cells.2)
        | (go_at_call 11; refine (eqLocks_same (fun _ => True) (fun _ => True) (fun _ => True) (fun _ => True) _ _ _ _ _ _ _ _ _ _ _ _ hl wl _ (C7.out.below hb8).own.hh.lr (C7.out.below hb8).own.hw.lr hO8.hh.lr hO8.hw.lr).mono ?_; rintro e w9 ⟨rfl, hb9⟩))
      all_goals (go_wp2_with fail; go_meet)
      all_goals exact ⟨by simp, btL (btL X7.out.bel hb8) hb9⟩
    case rest =>
      obtain ⟨rfl, hbf⟩ := hcut
      have BF := hid hbf
      clear hbf
      go_wp2
      go_ret
      exact ⟨rfl, BF.out⟩
end Go.Proofs.Ytmogdijhlgonnab

