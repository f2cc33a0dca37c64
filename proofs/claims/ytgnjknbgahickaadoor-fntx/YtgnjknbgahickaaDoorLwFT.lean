/-
  The law FnTx answers true at every slice of bytes.
-/
import Derived.Test.YtgnjknbgahickaaDoorDrX
import Derived.Test.YtgnjknbgahickaaDoorTtI
import Derived.Test.YtgnjknbgahickaaDoorKl
namespace Go.Proofs.YtgnjknbgahickaaDoor
open Go.RowKit
set_option linter.unusedVariables false
theorem kl6 {u v : World} {a0 a1 a2 a3 a4 a5 : Addr} {x0 x1 x2 x3 x4 x5 : Value} (h : KL u v [(a0, x0), (a1, x1), (a2, x2), (a3, x3), (a4, x4), (a5, x5)]) : v.cell? a0 = some x0 ∧ v.cell? a1 = some x1 ∧ v.cell? a2 = some x2 ∧ v.cell? a3 = some x3 ∧ v.cell? a4 = some x4 ∧ v.cell? a5 = some x5 ∧ KL u v [(a0, x0), (a1, x1), (a2, x2), (a3, x3), (a4, x4), (a5, x5)] := ⟨h.at (by simp), h.at (by simp), h.at (by simp), h.at (by simp), h.at (by simp), h.at (by simp), h⟩
theorem kl6c {u v v' : World} {a0 a1 a2 a3 a4 a5 : Addr} {x0 x1 x2 x3 x4 x5 : Value} (k : Below v.heap.size v v') (h : v.cell? a0 = some x0 ∧ v.cell? a1 = some x1 ∧ v.cell? a2 = some x2 ∧ v.cell? a3 = some x3 ∧ v.cell? a4 = some x4 ∧ v.cell? a5 = some x5 ∧ KL u v [(a0, x0), (a1, x1), (a2, x2), (a3, x3), (a4, x4), (a5, x5)]) : v'.cell? a0 = some x0 ∧ v'.cell? a1 = some x1 ∧ v'.cell? a2 = some x2 ∧ v'.cell? a3 = some x3 ∧ v'.cell? a4 = some x4 ∧ v'.cell? a5 = some x5 ∧ KL u v' [(a0, x0), (a1, x1), (a2, x2), (a3, x3), (a4, x4), (a5, x5)] := kl6 (KL.call h.2.2.2.2.2.2 k)
theorem kl6_bel {u v : World} {a0 a1 a2 a3 a4 a5 : Addr} {x0 x1 x2 x3 x4 x5 : Value} (h : v.cell? a0 = some x0 ∧ v.cell? a1 = some x1 ∧ v.cell? a2 = some x2 ∧ v.cell? a3 = some x3 ∧ v.cell? a4 = some x4 ∧ v.cell? a5 = some x5 ∧ KL u v [(a0, x0), (a1, x1), (a2, x2), (a3, x3), (a4, x4), (a5, x5)]) : Below u.heap.size u v := KL.bel h.2.2.2.2.2.2
theorem kl6_0 {u : World} {a0 a1 a2 a3 a4 a5 : Addr} {x0 x1 x2 x3 x4 x5 : Value} (h0 : u.cell? a0 = some x0) (h1 : u.cell? a1 = some x1) (h2 : u.cell? a2 = some x2) (h3 : u.cell? a3 = some x3) (h4 : u.cell? a4 = some x4) (h5 : u.cell? a5 = some x5) : KL u u [(a0, x0), (a1, x1), (a2, x2), (a3, x3), (a4, x4), (a5, x5)] := ⟨fun p hp => by
    simp only [List.mem_cons, List.not_mem_nil, or_false] at hp
    rcases hp with rfl | rfl | rfl | rfl | rfl | rfl <;> assumption, Below.refl _ _⟩
theorem ttA_right {x : TX} (h : txOk x = true) : ttA (txT x) = x ∧ (ttV (txT x)).isSome = true := by
  have e := ptx_txT x h
  have := ttA_yes (s := txT x) (by rw [e]; exact ⟨h, rfl⟩)
  rw [e] at this
  exact this
theorem txT_size (x : TX) : (txT x).size ≤ 1048576 := by
  unfold txT
  split
  · simp only [ByteArray.size_append, dot_size]
    have h1 := numS_size x.1
    have h2 := numS_size x.2.1
    have h3 := numS_size x.2.2
    omega
  · decide
theorem txT_full {x : TX} (h : txOk x = true) : ¬ (txT x).toList = [] := by
  intro q
  have hd := txT_data x h
  rw [ByteArray.toList_eq] at q
  rw [q] at hd
  have := congrArg List.length hd
  simp at this
theorem ttA_empty : ttA ⟨#[]⟩ = (0, 0, 0) ∧ (ttV ⟨#[]⟩).isSome = false := by
  by_cases h : txOk (ptx ⟨#[]⟩) = true ∧ txT (ptx ⟨#[]⟩) = ⟨#[]⟩
  · exact absurd (by rw [h.2, ByteArray.toList_eq]) (txT_full h.1)
  · exact ttA_no h
theorem txAfter_no {a b : TX} (h : ¬ (txOk a = true ∧ txOk b = true ∧ a.1 = b.1)) : txAfter a b = false ∧ txAfter b a = false := by
  have hd : ∀ a b : TX, txAfter a b = (txOk a && (txOk b && (decide (a.1 = b.1) && (decide (b.2.1 < a.2.1) || (decide (a.2.1 = b.2.1) && decide (b.2.2 < a.2.2)))))) := fun _ _ => rfl
  rw [hd, hd]
  by_cases h1 : txOk a = true
  · by_cases h2 : txOk b = true
    · have h3 : ¬ a.1 = b.1 := fun e => h ⟨h1, h2, e⟩
      have h4 : ¬ b.1 = a.1 := fun e => h3 e.symm
      simp [h3, h4]
    · simp [h2]
  · simp [h1]
theorem txAfter_one {a b : TX} (h1 : txOk a = true) (h2 : txOk b = true) (h3 : a.1 = b.1) : ((txAfter a b != txAfter b a) == !decide (a = b)) = true := by
  have hd : ∀ a b : TX, txAfter a b = (txOk a && (txOk b && (decide (a.1 = b.1) && (decide (b.2.1 < a.2.1) || (decide (a.2.1 = b.2.1) && decide (b.2.2 < a.2.2)))))) := fun _ _ => rfl
  rw [hd, hd, h1, h2]
  obtain ⟨c, e, n⟩ := a
  obtain ⟨c', e', n'⟩ := b
  simp only at h3
  subst h3
  simp only [Bool.true_and, decide_true, Prod.mk.injEq, true_and]
  rcases Int.lt_trichotomy e e' with q | q | q
  · have q1 : ¬ e' < e := by omega
    have q2 : ¬ e = e' := by omega
    have q3 : ¬ e' = e := by omega
    simp [q, q1, q2, q3]
  · subst q
    rcases Int.lt_trichotomy n n' with r | r | r
    · have r1 : ¬ n' < n := by omega
      have r2 : ¬ n = n' := by omega
      simp [r, r1, r2]
    · subst r; simp
    · have r1 : ¬ n < n' := by omega
      have r2 : ¬ n = n' := by omega
      simp [r, r1, r2]
  · have q1 : ¬ e < e' := by omega
    have q2 : ¬ e = e' := by omega
    have q3 : ¬ e' = e := by omega
    simp [q, q1, q2, q3]
set_option maxHeartbeats 16000000 in
set_option maxRecDepth 20000 in
theorem lawFTx_walk (a : Option Addr) (m cp : Nat) (z0 : List Int) (w : World) (w0 : IsRow .u8 w a m cp z0) (h : GD w) :
    Calls Tryd.prog 4 #[.slice a m cp] w fun e w' => e = .returned (.bool true) ∧ Below w.heap.size w w' := by
  by_cases hbig : 1048576 < m
  · have hb' : (1048576 : Int) < (m : Int) := by omega
    clear w0 h
    go_enter Tryd.func4, Tryd.ntmps4
    go_wp2
    go_ret
    exact ⟨rfl, Below.refl _ _⟩
  · have hb' : ¬ (1048576 : Int) < (m : Int) := by omega
    have HR := hid (rd_of_row w0 (by omega))
    have HG := hid h
    clear w0 h
    go_enter Tryd.func4, Tryd.ntmps4
    go_wp2_with fail
    refine (drawTxAfter_any a m cp _ w HR.out (by omega)).mono ?_
    rintro r w1 ⟨⟨c, e, n, c', e', n', rfl⟩, hb1⟩
    have ha1 := below_new (o := .cells #[.int .i64 c, .int .i64 e, .int .i64 n] 34) (w := w1) (below_new (o := .cells #[.int .i64 c', .int .i64 e', .int .i64 n'] 34) (w := w1.alloc (.cells #[.int .i64 c, .int .i64 e, .int .i64 n] 34)) (Below.refl _ _))
    have B1 := hid (btD hb1 ha1)
    have G1 := hid ((HG.out.below hb1).below ha1)
    have K1 := hid ((Bk.new w1 34 [.int .i64 c, .int .i64 e, .int .i64 n]).alloc (.cells #[.int .i64 c', .int .i64 e', .int .i64 n'] 34))
    have J1 := hid (Bk.new (w1.alloc (.cells #[.int .i64 c, .int .i64 e, .int .i64 n] 34)) 34 [.int .i64 c', .int .i64 e', .int .i64 n'])
    rw [show (w1.alloc (.cells #[.int .i64 c, .int .i64 e, .int .i64 n] 34)).heap.size = w1.heap.size + 1 by simp] at J1
    clear hb1 ha1 HR HG
    have C1 := hid (fun w h hg => implTxText_any c e n w h hg)
    have C2 := hid (fun w => specTxOk_any c e n w)
    have C3 := hid (fun w h => implTextTx_any (txT (c, e, n)) w (txT_size _) h)
    have C4 := hid (fun w => specTxOk_any c' e' n' w)
    have C5 := hid (fun w => implTxAfter_any c e n c' e' n' w)
    have C6 := hid (fun w => implTxAfter_any c' e' n' c e n w)
    have N1 := hid (txAfter_no (a := (c, e, n)) (b := (c', e', n')))
    have N2 := hid (txAfter_one (a := (c, e, n)) (b := (c', e', n')))
    have hq := neq_tx c e n c e n
    have hq2 := neq_tx c e n c' e' n'
    have hg := guard_tx .neq
    have hsame : decide ((c, e, n) = (c, e, n)) = true := by simp
    rw [hsame] at hq
    clear hsame
    by_cases ok1 : txOk (c, e, n) = true
    · obtain ⟨q1, q2⟩ := ttA_right ok1
      have hne := txT_full ok1
      rw [q1, q2] at C3
      rw [ok1] at C2
      have OK1 := hid ok1
      clear ok1 q1 q2
      generalize txT (c, e, n) = s at *
      have hne2 : s.toList.isEmpty = false := by simpa using hne
      go_wp2_with fail
      refine (C1.out _ G1.out.tab G1.out.g).mono ?_
      generalize (w1.alloc (.cells #[.int .i64 c, .int .i64 e, .int .i64 n] 34)).alloc (.cells #[.int .i64 c', .int .i64 e', .int .i64 n'] 34) = U at *
      generalize w1.heap.size = g at *
      rintro r w2 ⟨rfl, hb⟩
      have B2 := hid (btD B1.out hb)
      have G2 := hid (G1.out.below hb)
      have K2 := hid (K1.out.below hb)
      have J2 := hid (J1.out.below hb)
      clear hb B1 G1 K1 J1
      have x0 := K2.out.cell (j := 0) rfl
      have x1 := K2.out.cell (j := 1) rfl
      have x2 := K2.out.cell (j := 2) rfl
      have y0 := J2.out.cell (j := 0) rfl
      have y1 := J2.out.cell (j := 1) rfl
      have y2 := J2.out.cell (j := 2) rfl
      go_wp2_with fail
      refine (C2.out _).mono ?_
      rintro r w3 ⟨rfl, hb⟩
      clear x0 x1 x2 y0 y1 y2
      have B3 := hid (btD B2.out hb)
      have G3 := hid (G2.out.below hb)
      have K3 := hid (K2.out.below hb)
      have J3 := hid (J2.out.below hb)
      clear hb B2 G2 K2 J2
      have x0 := K3.out.cell (j := 0) rfl
      have x1 := K3.out.cell (j := 1) rfl
      have x2 := K3.out.cell (j := 2) rfl
      have y0 := J3.out.cell (j := 0) rfl
      have y1 := J3.out.cell (j := 1) rfl
      have y2 := J3.out.cell (j := 2) rfl
      go_wp2_with fail
      refine (C3.out _ G3.out).mono ?_
      rintro r w4 ⟨rfl, hb⟩
      clear x0 x1 x2 y0 y1 y2
      have B4 := hid (btD B3.out hb)
      have G4 := hid (G3.out.below hb)
      have K4 := hid (K3.out.below hb)
      have J4 := hid (J3.out.below hb)
      clear hb B3 G3 K3 J3
      have hlt : g + 1 < w4.heap.size := J4.out.lt
      have hlt0 : g < w4.heap.size := K4.out.lt
      have hb := below_new (o := .cells #[.int .i64 c, .int .i64 e, .int .i64 n] 34) (w := w4) (Below.refl _ _)
      have x0 := K4.out.cell (j := 0) rfl
      have x1 := K4.out.cell (j := 1) rfl
      have x2 := K4.out.cell (j := 2) rfl
      have y0 := J4.out.cell (j := 0) rfl
      have y1 := J4.out.cell (j := 1) rfl
      have y2 := J4.out.cell (j := 2) rfl
      have B5 := hid (btD B4.out hb)
      have K5 := hid (K4.out.below hb)
      have J5 := hid (J4.out.below hb)
      clear hb B4 G4 K4 J4
      go_wp2_with fail
      refine (C2.out _).mono ?_
      generalize w4.alloc (.cells #[.int .i64 c, .int .i64 e, .int .i64 n] 34) = V at *
      generalize w4.heap.size = g4 at *
      rintro r w6 ⟨rfl, hb⟩
      clear x0 x1 x2 y0 y1 y2
      have B6 := hid (btD B5.out hb)
      have K6 := hid (K5.out.below hb)
      have J6 := hid (J5.out.below hb)
      clear hb B5 K5 J5
      have x0 := K6.out.cell (j := 0) rfl
      have x1 := K6.out.cell (j := 1) rfl
      have x2 := K6.out.cell (j := 2) rfl
      have y0 := J6.out.cell (j := 0) rfl
      have y1 := J6.out.cell (j := 1) rfl
      have y2 := J6.out.cell (j := 2) rfl
      by_cases ok2 : txOk (c', e', n') = true
      · rw [ok2] at C4
        have OK2 := hid ok2
        clear ok2
        by_cases hcc : c = c'
        · have hc1 : (c != c') = false := by simp [hcc]
          have HF := hid (N2.out OK1.out OK2.out hcc)
          clear N1 N2 OK1 OK2 hcc
          go_wp2_with fail
          refine (C4.out _).mono ?_
          rintro r w7 ⟨rfl, hb⟩
          have B7 := hid (btD B6.out hb)
          have K7 := hid (K6.out.below hb)
          have J7 := hid (J6.out.below hb)
          clear hb x0 x1 x2 y0 y1 y2 B6 K6 J6
          have x0 := K7.out.cell (j := 0) rfl
          have x1 := K7.out.cell (j := 1) rfl
          have x2 := K7.out.cell (j := 2) rfl
          have y0 := J7.out.cell (j := 0) rfl
          have y1 := J7.out.cell (j := 1) rfl
          have y2 := J7.out.cell (j := 2) rfl
          generalize txAfter (c, e, n) (c', e', n') = za at *
          generalize txAfter (c', e', n') (c, e, n) = zb at *
          generalize decide ((c, e, n) = (c', e', n')) = zc at *
          have T7 := hid (kl6_0 x0 x1 x2 y0 y1 y2)
          go_wp2_with fail
          refine wp_region_noPanic ?_
          refine wp_region_held_drew (S := fun v => v.cell? ⟨g, 0, none⟩ = some (.int .i64 c) ∧ v.cell? ⟨g, 1, none⟩ = some (.int .i64 e) ∧ v.cell? ⟨g, 2, none⟩ = some (.int .i64 n) ∧ v.cell? ⟨g + 1, 0, none⟩ = some (.int .i64 c') ∧ v.cell? ⟨g + 1, 1, none⟩ = some (.int .i64 e') ∧ v.cell? ⟨g + 1, 2, none⟩ = some (.int .i64 n') ∧ KL w7 v [(⟨g, 0, none⟩, .int .i64 c), (⟨g, 1, none⟩, .int .i64 e), (⟨g, 2, none⟩, .int .i64 n), (⟨g + 1, 0, none⟩, .int .i64 c'), (⟨g + 1, 1, none⟩, .int .i64 e'), (⟨g + 1, 2, none⟩, .int .i64 n')]) (by kernel_rfl) (kl6 (T7.out.call (below_drew _))) (fun hHeld => ?_)
          simp only [List.size_toArray, List.length_cons, List.length_nil, Array.replicate_succ, Array.replicate_zero, Nat.reduceAdd, List.push_toArray, List.nil_append, List.cons_append]
          refine wpAnyH_take (i := 0) (v := (.agg #[.int .i64 c, .int .i64 e, .int .i64 n])) rfl (by kernel_rfl) (by kernel_rfl) (by kernel_rfl) (fun _ _ _ h => h) (Or.inl ⟨by rfl, ?_⟩) (by assumption) ?_
          · intro w hSw
            (try dsimp only at hSw)
            go_simp
          try simp only [List.getElem_toArray]
          try simp only [List.getElem_cons_succ]
          try simp only [List.getElem_cons_zero]
          try simp only [Act.put]
          try simp only [List.setIfInBounds_toArray]
          try simp only [List.set_cons_succ]
          try simp only [List.set_cons_zero]
          refine wpAnyH_take (i := 1) (v := (.agg #[.int .i64 c', .int .i64 e', .int .i64 n'])) rfl (by kernel_rfl) (by kernel_rfl) (by kernel_rfl) (fun _ _ _ h => h) (Or.inl ⟨by rfl, ?_⟩) (by assumption) ?_
          · intro w hSw
            (try dsimp only at hSw)
            go_simp
          try simp only [List.getElem_toArray]
          try simp only [List.getElem_cons_succ]
          try simp only [List.getElem_cons_zero]
          try simp only [Act.put]
          try simp only [List.setIfInBounds_toArray]
          try simp only [List.set_cons_succ]
          try simp only [List.set_cons_zero]
          refine wpAnyH_take (i := 3) (v := (.agg #[.int .i64 c', .int .i64 e', .int .i64 n'])) rfl (by kernel_rfl) (by kernel_rfl) (by kernel_rfl) (fun _ _ _ h => h) (Or.inl ⟨by rfl, ?_⟩) (by assumption) ?_
          · intro w hSw
            (try dsimp only at hSw)
            go_simp
          try simp only [List.getElem_toArray]
          try simp only [List.getElem_cons_succ]
          try simp only [List.getElem_cons_zero]
          try simp only [Act.put]
          try simp only [List.setIfInBounds_toArray]
          try simp only [List.set_cons_succ]
          try simp only [List.set_cons_zero]
          refine wpAnyH_take (i := 4) (v := (.agg #[.int .i64 c, .int .i64 e, .int .i64 n])) rfl (by kernel_rfl) (by kernel_rfl) (by kernel_rfl) (fun _ _ _ h => h) (Or.inl ⟨by rfl, ?_⟩) (by assumption) ?_
          · intro w hSw
            (try dsimp only at hSw)
            go_simp
          try simp only [List.getElem_toArray]
          try simp only [List.getElem_cons_succ]
          try simp only [List.getElem_cons_zero]
          try simp only [Act.put]
          try simp only [List.setIfInBounds_toArray]
          try simp only [List.set_cons_succ]
          try simp only [List.set_cons_zero]
          refine wpAnyH_take (i := 7) (v := (.agg #[.int .i64 c, .int .i64 e, .int .i64 n])) rfl (by kernel_rfl) (by kernel_rfl) (by kernel_rfl) (fun _ _ _ h => h) (Or.inl ⟨by rfl, ?_⟩) (by assumption) ?_
          · intro w hSw
            (try dsimp only at hSw)
            go_simp
          try simp only [List.getElem_toArray]
          try simp only [List.getElem_cons_succ]
          try simp only [List.getElem_cons_zero]
          try simp only [Act.put]
          try simp only [List.setIfInBounds_toArray]
          try simp only [List.set_cons_succ]
          try simp only [List.set_cons_zero]
          refine wpAnyH_take (i := 8) (v := (.agg #[.int .i64 c', .int .i64 e', .int .i64 n'])) rfl (by kernel_rfl) (by kernel_rfl) (by kernel_rfl) (fun _ _ _ h => h) (Or.inl ⟨by rfl, ?_⟩) (by assumption) ?_
          · intro w hSw
            (try dsimp only at hSw)
            go_simp
          try simp only [List.getElem_toArray]
          try simp only [List.getElem_cons_succ]
          try simp only [List.getElem_cons_zero]
          try simp only [Act.put]
          try simp only [List.setIfInBounds_toArray]
          try simp only [List.set_cons_succ]
          try simp only [List.set_cons_zero]
          refine wpAnyH_take (i := 9) (v := (.bool (!zc))) rfl (by kernel_rfl) (by kernel_rfl) (by kernel_rfl) (fun _ _ _ h => h) (Or.inl ⟨by rfl, ?_⟩) (by assumption) ?_
          · intro w hSw
            (try dsimp only at hSw)
            go_simp
          try simp only [List.getElem_toArray]
          try simp only [List.getElem_cons_succ]
          try simp only [List.getElem_cons_zero]
          try simp only [Act.put]
          try simp only [List.setIfInBounds_toArray]
          try simp only [List.set_cons_succ]
          try simp only [List.set_cons_zero]
          refine wpAnyH_ready (rs := [2]) (by kernel_rfl) (by simp) ?_
          refine AllReadyH.cons rfl (fun K1 hK => ?_) AllReadyH.nil
          go_simp
          refine (C5.out _).mono ?_
          rintro r w' ⟨rfl, hbC⟩
          go_wp2_with fail
          refine hK.out _ _ ?_ (fun hHeld => ?_)
          · exact kl6c hbC (by assumption)
          clear hK K1
          try simp only [List.getElem_toArray]
          try simp only [List.getElem_cons_succ]
          try simp only [List.getElem_cons_zero]
          try simp only [Act.put]
          try simp only [List.setIfInBounds_toArray]
          try simp only [List.set_cons_succ]
          try simp only [List.set_cons_zero]
          have E1 := hid (kl6_bel (by assumption))
          refine wpAnyH_ready (rs := [5]) (by kernel_rfl) (by simp) ?_
          refine AllReadyH.cons rfl (fun K1 hK => ?_) AllReadyH.nil
          go_simp
          refine (C6.out _).mono ?_
          rintro r w' ⟨rfl, hbC⟩
          go_wp2_with fail
          refine hK.out _ _ ?_ (fun hHeld => ?_)
          · exact kl6c hbC (by assumption)
          clear hK K1
          try simp only [List.getElem_toArray]
          try simp only [List.getElem_cons_succ]
          try simp only [List.getElem_cons_zero]
          try simp only [Act.put]
          try simp only [List.setIfInBounds_toArray]
          try simp only [List.set_cons_succ]
          try simp only [List.set_cons_zero]
          have E2 := hid (kl6_bel (by assumption))
          refine wpAnyH_take (i := 6) (v := (.bool (!(za == zb)))) rfl (by kernel_rfl) (by kernel_rfl) (by kernel_rfl) (fun _ _ _ h => h) (Or.inl ⟨by rfl, ?_⟩) (by assumption) ?_
          · intro w hSw
            (try dsimp only at hSw)
            go_simp
          try simp only [List.getElem_toArray]
          try simp only [List.getElem_cons_succ]
          try simp only [List.getElem_cons_zero]
          try simp only [Act.put]
          try simp only [List.setIfInBounds_toArray]
          try simp only [List.set_cons_succ]
          try simp only [List.set_cons_zero]
          refine wpAnyH_take (i := 10) (v := (.bool ((!(za == zb)) == !zc))) rfl (by kernel_rfl) (by kernel_rfl) (by kernel_rfl) (fun _ _ _ h => h) (Or.inl ⟨by rfl, ?_⟩) (by assumption) ?_
          · intro w hSw
            (try dsimp only at hSw)
            go_simp
          try simp only [List.getElem_toArray]
          try simp only [List.getElem_cons_succ]
          try simp only [List.getElem_cons_zero]
          try simp only [Act.put]
          try simp only [List.setIfInBounds_toArray]
          try simp only [List.set_cons_succ]
          try simp only [List.set_cons_zero]
          refine wpAnyH_take (i := 11) (v := (.bool ((!(za == zb)) == !zc))) rfl (by kernel_rfl) (by kernel_rfl) (by kernel_rfl) (fun _ _ _ h => h) (Or.inl ⟨by rfl, ?_⟩) (by assumption) ?_
          · intro w hSw
            (try dsimp only at hSw)
            go_simp
          try simp only [List.getElem_toArray]
          try simp only [List.getElem_cons_succ]
          try simp only [List.getElem_cons_zero]
          try simp only [Act.put]
          try simp only [List.setIfInBounds_toArray]
          try simp only [List.set_cons_succ]
          try simp only [List.set_cons_zero]
          refine wpAnyH_done (by kernel_rfl) ?_ _
          refine NoPanic.normal ?_
          go_wp2
          go_ret
          have HF2 : ((!(za == zb)) == !zc) = true := HF.out
          exact ⟨by rw [← HF2]; rfl, btD B7.out E2.out⟩
        · have hc1 : (c != c') = true := by simpa using hcc
          have hc2 : ¬ c = c' := hcc
          go_wp2_with fail
          refine (C4.out _).mono ?_
          rintro r w7 ⟨rfl, hb⟩
          have B7 := hid (btD B6.out hb)
          have K7 := hid (K6.out.below hb)
          have J7 := hid (J6.out.below hb)
          clear hb x0 x1 x2 y0 y1 y2 B6 K6 J6
          have x0 := K7.out.cell (j := 0) rfl
          have x1 := K7.out.cell (j := 1) rfl
          have x2 := K7.out.cell (j := 2) rfl
          have y0 := J7.out.cell (j := 0) rfl
          have y1 := J7.out.cell (j := 1) rfl
          have y2 := J7.out.cell (j := 2) rfl
          obtain ⟨p1, p2⟩ := N1.out (fun q => hc2 q.2.2)
          rw [p1] at C5
          rw [p2] at C6
          clear p1 p2 N1 N2
          go_wp2_with fail
          refine (C5.out _).mono ?_
          rintro r w8 ⟨rfl, hb⟩
          have B8 := hid (btD B7.out hb)
          have K8 := hid (K7.out.below hb)
          have J8 := hid (J7.out.below hb)
          clear hb x0 x1 x2 y0 y1 y2 B7 K7 J7
          have x0 := K8.out.cell (j := 0) rfl
          have x1 := K8.out.cell (j := 1) rfl
          have x2 := K8.out.cell (j := 2) rfl
          have y0 := J8.out.cell (j := 0) rfl
          have y1 := J8.out.cell (j := 1) rfl
          have y2 := J8.out.cell (j := 2) rfl
          go_wp2_with fail
          refine (C6.out _).mono ?_
          rintro r w9 ⟨rfl, hb⟩
          have B9 := hid (btD B8.out hb)
          have K9 := hid (K8.out.below hb)
          have J9 := hid (J8.out.below hb)
          clear hb x0 x1 x2 y0 y1 y2 B8 K8 J8
          have x0 := K9.out.cell (j := 0) rfl
          have x1 := K9.out.cell (j := 1) rfl
          have x2 := K9.out.cell (j := 2) rfl
          have y0 := J9.out.cell (j := 0) rfl
          have y1 := J9.out.cell (j := 1) rfl
          have y2 := J9.out.cell (j := 2) rfl
          go_wp2
          go_ret
          exact ⟨rfl, B9.out⟩
      · have no2 : txOk (c', e', n') = false := by simpa using ok2
        rw [no2] at C4
        clear no2
        go_wp2_with fail
        refine (C4.out _).mono ?_
        rintro r w7 ⟨rfl, hb⟩
        have B7 := hid (btD B6.out hb)
        have K7 := hid (K6.out.below hb)
        have J7 := hid (J6.out.below hb)
        clear hb x0 x1 x2 y0 y1 y2 B6 K6 J6
        have x0 := K7.out.cell (j := 0) rfl
        have x1 := K7.out.cell (j := 1) rfl
        have x2 := K7.out.cell (j := 2) rfl
        have y0 := J7.out.cell (j := 0) rfl
        have y1 := J7.out.cell (j := 1) rfl
        have y2 := J7.out.cell (j := 2) rfl
        obtain ⟨p1, p2⟩ := N1.out (fun q => ok2 q.2.1)
        rw [p1] at C5
        rw [p2] at C6
        clear p1 p2 N1 N2
        go_wp2_with fail
        refine (C5.out _).mono ?_
        rintro r w8 ⟨rfl, hb⟩
        have B8 := hid (btD B7.out hb)
        have K8 := hid (K7.out.below hb)
        have J8 := hid (J7.out.below hb)
        clear hb x0 x1 x2 y0 y1 y2 B7 K7 J7
        have x0 := K8.out.cell (j := 0) rfl
        have x1 := K8.out.cell (j := 1) rfl
        have x2 := K8.out.cell (j := 2) rfl
        have y0 := J8.out.cell (j := 0) rfl
        have y1 := J8.out.cell (j := 1) rfl
        have y2 := J8.out.cell (j := 2) rfl
        go_wp2_with fail
        refine (C6.out _).mono ?_
        rintro r w9 ⟨rfl, hb⟩
        have B9 := hid (btD B8.out hb)
        have K9 := hid (K8.out.below hb)
        have J9 := hid (J8.out.below hb)
        clear hb x0 x1 x2 y0 y1 y2 B8 K8 J8
        have x0 := K9.out.cell (j := 0) rfl
        have x1 := K9.out.cell (j := 1) rfl
        have x2 := K9.out.cell (j := 2) rfl
        have y0 := J9.out.cell (j := 0) rfl
        have y1 := J9.out.cell (j := 1) rfl
        have y2 := J9.out.cell (j := 2) rfl
        go_wp2
        go_ret
        exact ⟨rfl, B9.out⟩
    · have no1 : txOk (c, e, n) = false := by simpa using ok1
      have hs := txT_no no1
      rw [hs] at C1 C3
      rw [no1] at C2
      rw [ttA_empty.1, ttA_empty.2] at C3
      clear no1 hs hq hq2 hg C4
      go_wp2_with fail
      refine (C1.out _ G1.out.tab G1.out.g).mono ?_
      generalize (w1.alloc (.cells #[.int .i64 c, .int .i64 e, .int .i64 n] 34)).alloc (.cells #[.int .i64 c', .int .i64 e', .int .i64 n'] 34) = U at *
      generalize w1.heap.size = g at *
      rintro r w2 ⟨rfl, hb⟩
      have B2 := hid (btD B1.out hb)
      have G2 := hid (G1.out.below hb)
      have K2 := hid (K1.out.below hb)
      have J2 := hid (J1.out.below hb)
      clear hb B1 G1 K1 J1
      have x0 := K2.out.cell (j := 0) rfl
      have x1 := K2.out.cell (j := 1) rfl
      have x2 := K2.out.cell (j := 2) rfl
      have y0 := J2.out.cell (j := 0) rfl
      have y1 := J2.out.cell (j := 1) rfl
      have y2 := J2.out.cell (j := 2) rfl
      go_wp2_with fail
      refine (C2.out _).mono ?_
      rintro r w3 ⟨rfl, hb⟩
      clear x0 x1 x2 y0 y1 y2
      have B3 := hid (btD B2.out hb)
      have G3 := hid (G2.out.below hb)
      have K3 := hid (K2.out.below hb)
      have J3 := hid (J2.out.below hb)
      clear hb B2 G2 K2 J2
      have x0 := K3.out.cell (j := 0) rfl
      have x1 := K3.out.cell (j := 1) rfl
      have x2 := K3.out.cell (j := 2) rfl
      have y0 := J3.out.cell (j := 0) rfl
      have y1 := J3.out.cell (j := 1) rfl
      have y2 := J3.out.cell (j := 2) rfl
      go_wp2_with fail
      refine (C3.out _ G3.out).mono ?_
      rintro r w4 ⟨rfl, hb⟩
      clear x0 x1 x2 y0 y1 y2
      have B4 := hid (btD B3.out hb)
      have G4 := hid (G3.out.below hb)
      have K4 := hid (K3.out.below hb)
      have J4 := hid (J3.out.below hb)
      clear hb B3 G3 K3 J3
      have hlt : g + 1 < w4.heap.size := J4.out.lt
      have hlt0 : g < w4.heap.size := K4.out.lt
      have hb := below_new (o := .cells #[.int .i64 0, .int .i64 0, .int .i64 0] 34) (w := w4) (Below.refl _ _)
      have x0 := K4.out.cell (j := 0) rfl
      have x1 := K4.out.cell (j := 1) rfl
      have x2 := K4.out.cell (j := 2) rfl
      have y0 := J4.out.cell (j := 0) rfl
      have y1 := J4.out.cell (j := 1) rfl
      have y2 := J4.out.cell (j := 2) rfl
      have B5 := hid (btD B4.out hb)
      have K5 := hid (K4.out.below hb)
      have J5 := hid (J4.out.below hb)
      clear hb B4 G4 K4 J4
      go_wp2_with fail
      refine (C2.out _).mono ?_
      generalize w4.alloc (.cells #[.int .i64 0, .int .i64 0, .int .i64 0] 34) = V at *
      generalize w4.heap.size = g4 at *
      rintro r w6 ⟨rfl, hb⟩
      clear x0 x1 x2 y0 y1 y2
      have B6 := hid (btD B5.out hb)
      have K6 := hid (K5.out.below hb)
      have J6 := hid (J5.out.below hb)
      clear hb B5 K5 J5
      have x0 := K6.out.cell (j := 0) rfl
      have x1 := K6.out.cell (j := 1) rfl
      have x2 := K6.out.cell (j := 2) rfl
      have y0 := J6.out.cell (j := 0) rfl
      have y1 := J6.out.cell (j := 1) rfl
      have y2 := J6.out.cell (j := 2) rfl
      obtain ⟨p1, p2⟩ := N1.out (fun q => ok1 q.1)
      rw [p1] at C5
      rw [p2] at C6
      clear p1 p2 N1 N2
      go_wp2_with fail
      refine (C5.out _).mono ?_
      rintro r w7 ⟨rfl, hb⟩
      have B7 := hid (btD B6.out hb)
      have K7 := hid (K6.out.below hb)
      have J7 := hid (J6.out.below hb)
      clear hb x0 x1 x2 y0 y1 y2 B6 K6 J6
      have x0 := K7.out.cell (j := 0) rfl
      have x1 := K7.out.cell (j := 1) rfl
      have x2 := K7.out.cell (j := 2) rfl
      have y0 := J7.out.cell (j := 0) rfl
      have y1 := J7.out.cell (j := 1) rfl
      have y2 := J7.out.cell (j := 2) rfl
      go_wp2_with fail
      refine (C6.out _).mono ?_
      rintro r w8 ⟨rfl, hb⟩
      have B8 := hid (btD B7.out hb)
      have K8 := hid (K7.out.below hb)
      have J8 := hid (J7.out.below hb)
      clear hb x0 x1 x2 y0 y1 y2 B7 K7 J7
      have x0 := K8.out.cell (j := 0) rfl
      have x1 := K8.out.cell (j := 1) rfl
      have x2 := K8.out.cell (j := 2) rfl
      have y0 := J8.out.cell (j := 0) rfl
      have y1 := J8.out.cell (j := 1) rfl
      have y2 := J8.out.cell (j := 2) rfl
      go_wp2
      go_ret
      exact ⟨rfl, B8.out⟩
end Go.Proofs.YtgnjknbgahickaaDoor

