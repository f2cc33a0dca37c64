/-
  Tables of locks that are drawn with a name: DrawLockFree.
-/
import Derived.Test.YtcpdedpgjaimkaaMl4
import Derived.Test.YtcpdedpgjaimkaaMl1
import Derived.Test.YtcpdedpgjaimkaaMl2
import Derived.Test.YtcpdedpgjaimkaaMl5
namespace Go.Proofs.Ytcpdedpgjaimkaa
open Go.RowKit
set_option linter.unusedVariables false
theorem results_lkt {fn : Func} {p q : Tmp} (h : fn.results = #[.cell p 71, .cell q 73]) (tmps : Array Value) (w : World) (g1 g2 : Nat) {x y : Value} (hp : tmps.getD p undef = .pointer (some ⟨g1, 0, none⟩)) (hq : tmps.getD q undef = .pointer (some ⟨g2, 0, none⟩))
    (c0 : w.cell? ⟨g1, 0, none⟩ = some x) (c1 : w.cell? ⟨g1, 1, none⟩ = some y) {xc xe xn : Int} (d0 : w.cell? ⟨g2, 0, none⟩ = some (.int .i64 xc)) (d1 : w.cell? ⟨g2, 1, none⟩ = some (.int .i64 xe)) (d2 : w.cell? ⟨g2, 2, none⟩ = some (.int .i64 xn)) : (results fn tmps).run Try.prog w = .ok (.tuple #[.agg #[x, y], .agg #[.int .i64 xc, .int .i64 xe, .int .i64 xn]]) w := by
  have hp' : tmps[p]?.getD undef = .pointer (some ⟨g1, 0, none⟩) := by simpa using hp
  have hq' : tmps[q]?.getD undef = .pointer (some ⟨g2, 0, none⟩) := by simpa using hq
  have hl : (loadVar 71 ⟨g1, 0, none⟩).run Try.prog w = .ok (.agg #[x, y]) w := by go_simp
  have hl2 : (loadVar 73 ⟨g2, 0, none⟩).run Try.prog w = .ok (.agg #[.int .i64 xc, .int .i64 xe, .int .i64 xn]) w := by go_simp
  simp [results, h, hp', hq', asAddr, hl, hl2]
set_option maxHeartbeats 16000000 in
set_option maxRecDepth 20000 in
theorem drawLockFree_any (a : Option Addr) (n c : Nat) (zs : List Int) (w : World) (h : Rd w a n c zs) (hsz : n ≤ 1048576) : Calls Try.prog 34 #[.slice a n c] w fun r w' => ∃ (ha : Option Addr) (hn hc : Nat) (wa : Option Addr) (wn wc : Nat) (hl wl : List LK) (xc xe xn : Int), r = .returned (.tuple #[.agg #[.slice ha hn hc, .slice wa wn wc], .agg #[.int .i64 xc, .int .i64 xe, .int .i64 xn]]) ∧ LO w' w.heap.size (.slice ha hn hc) (.slice wa wn wc) hl wl ∧ hl.length + wl.length ≤ 100 ∧ Below w.heap.size w w' := by
  have B0 : Hid (Below w.heap.size w ((w.alloc (.cells #[.slice none 0 0, .slice none 0 0] 71)).alloc (.cells #[.int .i64 0, .int .i64 0, .int .i64 0] 73))) := below_new (below_new (Below.refl _ _))
  have K0 : Hid (Bk ((w.alloc (.cells #[.slice none 0 0, .slice none 0 0] 71)).alloc (.cells #[.int .i64 0, .int .i64 0, .int .i64 0] 73)) w.heap.size 71 [.slice none 0 0, .slice none 0 0]) := (Bk.new w 71 [.slice none 0 0, .slice none 0 0]).alloc _
  have J0 : Hid (Bk ((w.alloc (.cells #[.slice none 0 0, .slice none 0 0] 71)).alloc (.cells #[.int .i64 0, .int .i64 0, .int .i64 0] 73)) (w.heap.size + 1) 73 [.int .i64 0, .int .i64 0, .int .i64 0]) := by
    have := Bk.new (w.alloc (.cells #[.slice none 0 0, .slice none 0 0] 71)) 73 [.int .i64 0, .int .i64 0, .int .i64 0]
    show Bk _ _ _ _
    simpa using this
  have H0 := hid (h.kept B0.out)
  clear h
  go_enter Try.func34, Try.ntmps34
  go_wp2_with fail
  refine (new_any a n c zs _ H0.out hsz).mono ?_
  generalize (w.alloc (.cells #[.slice none 0 0, .slice none 0 0] 71)).alloc (.cells #[.int .i64 0, .int .i64 0, .int .i64 0] 73) = U at *
  have HG : Hid (w.heap.size + 1 < U.heap.size) := J0.out.lt
  generalize hgg : U.heap.size = g at *
  have HGG := hid hgg
  clear hgg
  rintro e w1 ⟨rfl, hb, hcu⟩
  rw [← HGG.out] at hb
  have B1 := hid (B0.out.trans (hb.mono B0.out.size))
  have K1 := hid (K0.out.below hb)
  have J1 := hid (J0.out.below hb)
  have C1 := hid hcu
  clear hb hcu B0 K0 J0 H0 HGG
  go_wp2_with fail
  refine (l07AnyLocks_any g _ C1.out).mono ?_
  rintro r w2 ⟨⟨ha, hn, hc, wa, wn, wc, hl, wl, rfl, hO, hL⟩, hg, hcu⟩
  have XA : Hid (AS w (w2.alloc (.cells #[.slice ha hn hc, .slice wa wn wc] 71)) g w2.heap.size 73 [.int .i64 0, .int .i64 0, .int .i64 0] (.slice ha hn hc) (.slice wa wn wc) hl wl) := by
    have h1 := HG.out
    have h2 := C1.out.lt
    have hb2 := below_new (o := .cells #[.slice ha hn hc, .slice wa wn wc] 71) (w := w2) (Below.refl _ _)
    exact ⟨(B1.out.trans ((below_of_grown hg C1.out.lt).mono (by omega))).trans (hb2.mono (Nat.le_trans B1.out.size hg.size)), CuX_below hcu hb2, h1, (K1.out.grownX hg (by omega)).below hb2, (J1.out.grownX hg (by omega)).below hb2, Bk.new w2 _ [_, _], by have := hcu.lt; omega, (hO.base (by omega)).below hb2, fun y hy => (hO.lt hy).2⟩
  have HL := hid hL
  have HNN : Hid (hn = hl.length) := (ownL_at hO.hh).1
  clear B1 K1 J1 C1 HG hO hL hg hcu
  go_wp2_with fail
  refine (l07Tx_any g _ XA.out.cu).mono ?_
  generalize w2.alloc (.cells #[.slice ha hn hc, .slice wa wn wc] 71) = VA at *
  generalize w2.heap.size = b at *
  rintro r w3 ⟨⟨xc, xe, xn, rfl⟩, hg, hcu⟩
  have X3 := hid (XA.out.step hg hcu)
  clear XA hg hcu
  have hb3 := below_new (o := .cells #[.int .i64 xc, .int .i64 xe, .int .i64 xn] 73) (w := w3) (Below.refl _ _)
  have X4 := hid (X3.out.call hb3)
  have Q4 := hid (Bk.new w3 73 [.int .i64 xc, .int .i64 xe, .int .i64 xn])
  have HB6 : Hid (b < w3.heap.size) := X3.out.kb.lt
  clear X3 hb3
  generalize hV4 : w3.alloc (.cells #[.int .i64 xc, .int .i64 xe, .int .i64 xn] 73) = V4 at *
  have HV4 := hid hV4
  generalize hb6 : w3.heap.size = b6 at *
  have HB0 := hid hb6
  clear hV4 hb6
  have hnn : hn ≤ 100 := by have h1 := HNN.out; have h2 := HL.out; omega
  by_cases hh : 0 < hn
  · have hh1 : (0 : Int) < (hn : Int) := by omega
    have x0 := X4.out.kb.cell (j := 0) rfl
    rw [← HV4.out] at x0
    go_wp2_with fail
    refine (below_any g 2 _ (by rw [HV4.out]; exact X4.out.cu) (by omega) (by omega)).mono ?_
    rw [HV4.out]
    try rw [HB0.out]
    clear x0
    rintro r w5 ⟨⟨y, rfl, hy0, hy1⟩, hg, hcu⟩
    have X5 := hid (X4.out.step hg hcu)
    have Q5 := hid (Q4.out.grownX hg (by have := X4.out.gb; have := HB6.out; omega))
    clear X4 Q4 hg hcu
    by_cases hy : y = 0
    · subst hy
      go_upto_region 5 with (fail)
      have XD : Hid (AS w w5.drew g b 73 [.int .i64 0, .int .i64 0, .int .i64 0] (.slice ha hn hc) (.slice wa wn wc) hl wl) := X5.out.call (below_drew _)
      have QD := hid (Q5.out.below (below_drew w5))
      clear X5 Q5
      refine wp_region_noPanic ?_
      refine wp_region_held_drew (S := fun v => v.cell? ⟨b, 0, none⟩ = some (.slice ha hn hc)) (by kernel_rfl) (XD.out.kb.cell (j := 0) rfl) (fun hHeld => ?_)
      simp only [List.size_toArray, List.length_cons, List.length_nil, Array.replicate_succ, Array.replicate_zero, Nat.reduceAdd, List.push_toArray, List.nil_append, List.cons_append]
      refine wpAnyH_take (i := 0) (v := (.pointer (some ⟨b, 0, none⟩))) rfl (by kernel_rfl) (by kernel_rfl) (by kernel_rfl) (fun _ _ _ h => h) (Or.inl ⟨by rfl, ?_⟩) (by assumption) ?_
      · intro w hSw
        (try dsimp only at hSw)
        go_simp
      try simp only [List.getElem_toArray]
      try simp only [List.getElem_cons_succ]
      try simp only [List.getElem_cons_zero]
      try simp only [Act.put]
      try simp only [List.setIfInBounds_toArray]
      try simp only [List.set_cons_succ]
      try simp only [List.set_cons_zero]
      refine wpAnyH_take (i := 1) (v := (.slice ha hn hc)) rfl (by kernel_rfl) (by kernel_rfl) (by kernel_rfl) (fun _ _ _ h => h) (Or.inl ⟨by rfl, ?_⟩) (by assumption) ?_
      · intro w hSw
        (try dsimp only at hSw)
        go_simp
      try simp only [List.getElem_toArray]
      try simp only [List.getElem_cons_succ]
      try simp only [List.getElem_cons_zero]
      try simp only [Act.put]
      try simp only [List.setIfInBounds_toArray]
      try simp only [List.set_cons_succ]
      try simp only [List.set_cons_zero]
      refine wpAnyH_take (i := 2) (v := (.pointer (some ⟨g, 0, none⟩))) rfl (by kernel_rfl) (by kernel_rfl) (by kernel_rfl) (fun _ _ _ h => h) (Or.inl ⟨by rfl, ?_⟩) (by assumption) ?_
      · intro w hSw
        (try dsimp only at hSw)
        go_simp
      try simp only [List.getElem_toArray]
      try simp only [List.getElem_cons_succ]
      try simp only [List.getElem_cons_zero]
      try simp only [Act.put]
      try simp only [List.setIfInBounds_toArray]
      try simp only [List.set_cons_succ]
      try simp only [List.set_cons_zero]
      refine wpAnyH_take (i := 3) (v := (.pointer (some ⟨b, 0, none⟩))) rfl (by kernel_rfl) (by kernel_rfl) (by kernel_rfl) (fun _ _ _ h => h) (Or.inl ⟨by rfl, ?_⟩) (by assumption) ?_
      · intro w hSw
        (try dsimp only at hSw)
        go_simp
      try simp only [List.getElem_toArray]
      try simp only [List.getElem_cons_succ]
      try simp only [List.getElem_cons_zero]
      try simp only [Act.put]
      try simp only [List.setIfInBounds_toArray]
      try simp only [List.set_cons_succ]
      try simp only [List.set_cons_zero]
      refine wpAnyH_take (i := 4) (v := (.slice ha hn hc)) rfl (by kernel_rfl) (by kernel_rfl) (by kernel_rfl) (fun _ _ _ h => h) (Or.inl ⟨by rfl, ?_⟩) (by assumption) ?_
      · intro w hSw
        (try dsimp only at hSw)
        go_simp
      try simp only [List.getElem_toArray]
      try simp only [List.getElem_cons_succ]
      try simp only [List.getElem_cons_zero]
      try simp only [Act.put]
      try simp only [List.setIfInBounds_toArray]
      try simp only [List.set_cons_succ]
      try simp only [List.set_cons_zero]
      refine wpAnyH_take (i := 5) (v := (.int .i64 hn)) rfl (by kernel_rfl) (by kernel_rfl) (by kernel_rfl) (fun _ _ _ h => h) (Or.inl ⟨by rfl, ?_⟩) (by assumption) ?_
      · intro w hSw
        (try dsimp only at hSw)
        go_simp
      try simp only [List.getElem_toArray]
      try simp only [List.getElem_cons_succ]
      try simp only [List.getElem_cons_zero]
      try simp only [Act.put]
      try simp only [List.setIfInBounds_toArray]
      try simp only [List.set_cons_succ]
      try simp only [List.set_cons_zero]
      generalize w5.drew = V5 at *
      refine wpAnyH_ready (rs := [6]) (by kernel_rfl) (by simp) ?_
      refine AllReadyH.cons rfl (fun K1 hK => ?_) AllReadyH.nil
      go_simp
      refine (below_any g hn _ XD.out.cu (by omega) (by omega)).mono ?_
      rintro r w6 ⟨⟨y, rfl, hy0, hy1⟩, hg, hcu⟩
      have X6 := hid (XD.out.step hg hcu)
      have Q6 := hid (QD.out.grownX hg (by have := XD.out.gb; have := HB6.out; omega))
      clear XD QD hg hcu
      go_wp2_with fail
      refine hK.out _ _ ?_ (fun hHeld => ?_)
      · exact X6.out.kb.cell (j := 0) rfl
      clear hK K1
      try simp only [List.getElem_toArray]
      try simp only [List.getElem_cons_succ]
      try simp only [List.getElem_cons_zero]
      try simp only [Act.put]
      try simp only [List.setIfInBounds_toArray]
      try simp only [List.set_cons_succ]
      try simp only [List.set_cons_zero]
      obtain ⟨k, rfl⟩ : ∃ k : Nat, y = (k : Int) := ⟨y.toNat, by omega⟩
      have hk : k < hn := by omega
      obtain ⟨q, off, hqa, -, -, hcell⟩ := X6.out.ow.hh.lr.at (by omega)
      obtain ⟨hc0, hc1, hc2, -, -, -⟩ := hcell k hk
      clear hcell
      subst hqa
      generalize lAt hl k = cur at hc0 hc1 hc2
      obtain ⟨⟨yc, ye, yn⟩, ⟨clo, chi⟩, cex⟩ := cur
      dsimp only at hc0 hc1 hc2
      refine wpAnyH_ready (rs := [7]) (by kernel_rfl) (by simp) ?_
      refine AllReadyH.cons rfl (fun K1 hK => ?_) AllReadyH.nil
      go_simp
      try go_wp2_with fail
      refine hK.out _ _ ?_ (fun hHeld => ?_)
      · exact X6.out.kb.cell (j := 0) rfl
      clear hK K1
      try simp only [List.getElem_toArray]
      try simp only [List.getElem_cons_succ]
      try simp only [List.getElem_cons_zero]
      try simp only [Act.put]
      try simp only [List.setIfInBounds_toArray]
      try simp only [List.set_cons_succ]
      try simp only [List.set_cons_zero]
      refine wpAnyH_ready (rs := [8]) (by kernel_rfl) (by simp) ?_
      refine AllReadyH.cons rfl (fun K1 hK => ?_) AllReadyH.nil
      go_simp
      try go_wp2_with fail
      refine hK.out _ _ ?_ (fun hHeld => ?_)
      · exact X6.out.kb.cell (j := 0) rfl
      clear hK K1
      try simp only [List.getElem_toArray]
      try simp only [List.getElem_cons_succ]
      try simp only [List.getElem_cons_zero]
      try simp only [Act.put]
      try simp only [List.setIfInBounds_toArray]
      try simp only [List.set_cons_succ]
      try simp only [List.set_cons_zero]
      refine wpAnyH_ready (rs := [9]) (by kernel_rfl) (by simp) ?_
      refine AllReadyH.cons rfl (fun K1 hK => ?_) AllReadyH.nil
      go_simp
      try go_wp2_with fail
      refine hK.out _ _ ?_ (fun hHeld => ?_)
      · exact X6.out.kb.cell (j := 0) rfl
      clear hK K1
      try simp only [List.getElem_toArray]
      try simp only [List.getElem_cons_succ]
      try simp only [List.getElem_cons_zero]
      try simp only [Act.put]
      try simp only [List.setIfInBounds_toArray]
      try simp only [List.set_cons_succ]
      try simp only [List.set_cons_zero]
      have z0 := Q6.out.cell (j := 0) rfl
      have f0 := Q6.out.free 0
      have z1 := Q6.out.cell (j := 1) rfl
      have f1 := Q6.out.free 1
      have z2 := Q6.out.cell (j := 2) rfl
      have f2 := Q6.out.free 2
      have o7 : Only (fun y => y = b6) w6 (((w6.setCell ⟨b6, 0, none⟩ (.int .i64 yc)).setCell ⟨b6, 1, none⟩ (.int .i64 ye)).setCell ⟨b6, 2, none⟩ (.int .i64 yn)) := (((only_set (R := fun y => y = b6) (p := ⟨b6, 0, none⟩) rfl _).trans (only_set (R := fun y => y = b6) (p := ⟨b6, 1, none⟩) rfl _)).trans (only_set (R := fun y => y = b6) (p := ⟨b6, 2, none⟩) rfl _))
      have Q8 := hid ((((Q6.out.set 0 (.int .i64 yc)).set 1 (.int .i64 ye)).set 2 (.int .i64 yn)))
      have X8 := hid (X6.out.to o7 HB6.out)
      clear o7
      refine wpAnyH_ready (rs := [10]) (by kernel_rfl) (by simp) ?_
      refine AllReadyH.cons rfl (fun K1 hK => ?_) AllReadyH.nil
      go_simp
      try go_wp2_with fail
      refine hK.out _ _ ?_ (fun hHeld => ?_)
      · exact X8.out.kb.cell (j := 0) rfl
      clear hK K1
      try simp only [List.getElem_toArray]
      try simp only [List.getElem_cons_succ]
      try simp only [List.getElem_cons_zero]
      try simp only [Act.put]
      try simp only [List.setIfInBounds_toArray]
      try simp only [List.set_cons_succ]
      try simp only [List.set_cons_zero]
      refine wpAnyH_done (by kernel_rfl) ?_ _
      refine NoPanic.normal ?_
      clear X6 Q6 hc0 hc1 hc2 z0 f0 z1 f1 z2 f2
      generalize (((w6.setCell ⟨b6, 0, none⟩ (.int .i64 yc)).setCell ⟨b6, 1, none⟩ (.int .i64 ye)).setCell ⟨b6, 2, none⟩ (.int .i64 yn)) = V8 at *
      go_upto_region 6 with (fail)
      have XD : Hid (AS w V8.drew g b 73 [.int .i64 0, .int .i64 0, .int .i64 0] (.slice (some ⟨q, off, none⟩) hn hc) (.slice wa wn wc) hl wl) := X8.out.call (below_drew _)
      have QD := hid (Q8.out.below (below_drew V8))
      refine wp_region_noPanic ?_
      refine wp_region_held_drew (S := fun v => v.cell? ⟨b, 0, none⟩ = some (.slice (some ⟨q, off, none⟩) hn hc) ∧ v.cell? ⟨b, 1, none⟩ = some (.slice wa wn wc) ∧ v.cell? ⟨b6, 0, none⟩ = some (.int .i64 yc) ∧ v.cell? ⟨b6, 1, none⟩ = some (.int .i64 ye) ∧ v.cell? ⟨b6, 2, none⟩ = some (.int .i64 yn)) (by kernel_rfl) (⟨XD.out.kb.cell (j := 0) rfl, XD.out.kb.cell (j := 1) rfl, QD.out.cell (j := 0) rfl, QD.out.cell (j := 1) rfl, QD.out.cell (j := 2) rfl⟩) (fun hHeld => ?_)
      simp only [List.size_toArray, List.length_cons, List.length_nil, Array.replicate_succ, Array.replicate_zero, Nat.reduceAdd, List.push_toArray, List.nil_append, List.cons_append]
      refine wpAnyH_take (i := 0) (v := (.agg #[.slice (some ⟨q, off, none⟩) hn hc, .slice wa wn wc])) rfl (by kernel_rfl) (by kernel_rfl) (by kernel_rfl) (fun _ _ _ h => h) (Or.inl ⟨by rfl, ?_⟩) (by assumption) ?_
      · intro w hSw
        (try dsimp only at hSw)
        go_simp
      try simp only [List.getElem_toArray]
      try simp only [List.getElem_cons_succ]
      try simp only [List.getElem_cons_zero]
      try simp only [Act.put]
      try simp only [List.setIfInBounds_toArray]
      try simp only [List.set_cons_succ]
      try simp only [List.set_cons_zero]
      refine wpAnyH_take (i := 1) (v := (.agg #[.int .i64 yc, .int .i64 ye, .int .i64 yn])) rfl (by kernel_rfl) (by kernel_rfl) (by kernel_rfl) (fun _ _ _ h => h) (Or.inl ⟨by rfl, ?_⟩) (by assumption) ?_
      · intro w hSw
        (try dsimp only at hSw)
        go_simp
      try simp only [List.getElem_toArray]
      try simp only [List.getElem_cons_succ]
      try simp only [List.getElem_cons_zero]
      try simp only [Act.put]
      try simp only [List.setIfInBounds_toArray]
      try simp only [List.set_cons_succ]
      try simp only [List.set_cons_zero]
      clear XD QD
      have hng := X8.out.ng
      have hgb := X8.out.gb
      have h6 := HB6.out
      have d1 : ¬ w.heap.size = b := by omega
      have d2 : ¬ b = w.heap.size := by omega
      have z0 := X8.out.k0.cell (j := 0) rfl
      have z1 := X8.out.k0.cell (j := 1) rfl
      have f0 := X8.out.k0.free 0
      have f1 := X8.out.k0.free 1
      have o1 : Only (fun y => y = w.heap.size) V8 ((V8.setCell ⟨w.heap.size, 0, none⟩ (.slice (some ⟨q, off, none⟩) hn hc)).setCell ⟨w.heap.size, 1, none⟩ (.slice wa wn wc)) := (only_set (R := fun y => y = w.heap.size) (p := ⟨w.heap.size, 0, none⟩) rfl _).trans (only_set (R := fun y => y = w.heap.size) (p := ⟨w.heap.size, 1, none⟩) rfl _)
      have bd1 := below_drew ((V8.setCell ⟨w.heap.size, 0, none⟩ (.slice (some ⟨q, off, none⟩) hn hc)).setCell ⟨w.heap.size, 1, none⟩ (.slice wa wn wc))
      have R1 := hid (((X8.out.k0.set 0 (.slice (some ⟨q, off, none⟩) hn hc)).set 1 (.slice wa wn wc)).below bd1)
      have J1 := hid ((X8.out.k1.to o1 (by omega)).below bd1)
      have KB1 := hid ((X8.out.kb.to o1 (by omega)).below bd1)
      have Q1 := hid ((Q8.out.to o1 (by omega)).below bd1)
      have O1 := hid ((X8.out.ow.to o1 (fun y hy e => by have := (X8.out.ow.lt hy).1; omega)).below bd1)
      have B1 := hid ((X8.out.bel.trans (o1.below X8.out.bel.size (fun y hy e => by omega))).trans (bd1.mono (Nat.le_trans X8.out.bel.size o1.size)))
      clear o1 bd1
      refine wpAnyH_ready (rs := [2]) (by kernel_rfl) (by simp) ?_
      refine AllReadyH.cons rfl (fun K1 hK => ?_) AllReadyH.nil
      go_simp
      try go_wp2_with fail
      refine hK.out _ _ ?_ (fun hHeld => ?_)
      · exact ⟨KB1.out.cell (j := 0) rfl, KB1.out.cell (j := 1) rfl, Q1.out.cell (j := 0) rfl, Q1.out.cell (j := 1) rfl, Q1.out.cell (j := 2) rfl⟩
      clear hK K1
      try simp only [List.getElem_toArray]
      try simp only [List.getElem_cons_succ]
      try simp only [List.getElem_cons_zero]
      try simp only [Act.put]
      try simp only [List.setIfInBounds_toArray]
      try simp only [List.set_cons_succ]
      try simp only [List.set_cons_zero]
      clear z0 z1 f0 f1 X8 Q8
      generalize ((V8.setCell ⟨w.heap.size, 0, none⟩ (.slice (some ⟨q, off, none⟩) hn hc)).setCell ⟨w.heap.size, 1, none⟩ (.slice wa wn wc)).drew = V9 at *
      have z0 := J1.out.cell (j := 0) rfl
      have f0 := J1.out.free 0
      have z1 := J1.out.cell (j := 1) rfl
      have f1 := J1.out.free 1
      have z2 := J1.out.cell (j := 2) rfl
      have f2 := J1.out.free 2
      have o2 : Only (fun y => y = w.heap.size + 1) V9 (((V9.setCell ⟨w.heap.size + 1, 0, none⟩ (.int .i64 yc)).setCell ⟨w.heap.size + 1, 1, none⟩ (.int .i64 ye)).setCell ⟨w.heap.size + 1, 2, none⟩ (.int .i64 yn)) := (((only_set (R := fun y => y = w.heap.size + 1) (p := ⟨w.heap.size + 1, 0, none⟩) rfl _).trans (only_set (R := fun y => y = w.heap.size + 1) (p := ⟨w.heap.size + 1, 1, none⟩) rfl _)).trans (only_set (R := fun y => y = w.heap.size + 1) (p := ⟨w.heap.size + 1, 2, none⟩) rfl _))
      have J2 := hid ((((J1.out.set 0 (.int .i64 yc)).set 1 (.int .i64 ye)).set 2 (.int .i64 yn)))
      have R2 := hid (R1.out.to o2 (by omega))
      have KB2 := hid (KB1.out.to o2 (by omega))
      have Q2 := hid (Q1.out.to o2 (by omega))
      have O2 := hid ((O1.out.to o2 (fun y hy e => by have := (O1.out.lt hy).1; omega)).base (B' := w.heap.size) (by omega))
      have B2 := hid (B1.out.trans (o2.below B1.out.size (fun y hy e => by omega)))
      clear o2
      refine wpAnyH_ready (rs := [3]) (by kernel_rfl) (by simp) ?_
      refine AllReadyH.cons rfl (fun K1 hK => ?_) AllReadyH.nil
      go_simp
      try go_wp2_with fail
      refine hK.out _ _ ?_ (fun hHeld => ?_)
      · exact ⟨KB2.out.cell (j := 0) rfl, KB2.out.cell (j := 1) rfl, Q2.out.cell (j := 0) rfl, Q2.out.cell (j := 1) rfl, Q2.out.cell (j := 2) rfl⟩
      clear hK K1
      try simp only [List.getElem_toArray]
      try simp only [List.getElem_cons_succ]
      try simp only [List.getElem_cons_zero]
      try simp only [Act.put]
      try simp only [List.setIfInBounds_toArray]
      try simp only [List.set_cons_succ]
      try simp only [List.set_cons_zero]
      refine wpAnyH_done (by kernel_rfl) ?_ _
      refine NoPanic.normal ?_
      clear z0 f0 z1 f1 z2 f2 R1 J1 KB1 Q1 O1 B1
      generalize (((V9.setCell ⟨w.heap.size + 1, 0, none⟩ (.int .i64 yc)).setCell ⟨w.heap.size + 1, 1, none⟩ (.int .i64 ye)).setCell ⟨w.heap.size + 1, 2, none⟩ (.int .i64 yn)) = VE at *
      go_wp2_with fail
      try simp only [Exit.inBlock, Exit.then]
      refine bodyPost_ret (v := .tuple #[.agg #[.slice (some ⟨q, off, none⟩) hn hc, .slice wa wn wc], .agg #[.int .i64 yc, .int .i64 ye, .int .i64 yn]]) ?_ rfl ?_
      · exact results_lkt rfl _ _ w.heap.size (w.heap.size + 1) rfl rfl (R2.out.cell (j := 0) rfl) (R2.out.cell (j := 1) rfl) (J2.out.cell (j := 0) rfl) (J2.out.cell (j := 1) rfl) (J2.out.cell (j := 2) rfl)
      · exact ⟨_, hn, hc, wa, wn, wc, hl, wl, _, _, _, rfl, O2.out, by have := HL.out; omega, B2.out⟩
    · have hy2 : (y == 0) = false := by simpa using hy
      go_upto_region 6 with (fail)
      have XD : Hid (AS w w5.drew g b 73 [.int .i64 0, .int .i64 0, .int .i64 0] (.slice ha hn hc) (.slice wa wn wc) hl wl) := X5.out.call (below_drew _)
      have QD := hid (Q5.out.below (below_drew w5))
      refine wp_region_noPanic ?_
      refine wp_region_held_drew (S := fun v => v.cell? ⟨b, 0, none⟩ = some (.slice ha hn hc) ∧ v.cell? ⟨b, 1, none⟩ = some (.slice wa wn wc) ∧ v.cell? ⟨b6, 0, none⟩ = some (.int .i64 xc) ∧ v.cell? ⟨b6, 1, none⟩ = some (.int .i64 xe) ∧ v.cell? ⟨b6, 2, none⟩ = some (.int .i64 xn)) (by kernel_rfl) (⟨XD.out.kb.cell (j := 0) rfl, XD.out.kb.cell (j := 1) rfl, QD.out.cell (j := 0) rfl, QD.out.cell (j := 1) rfl, QD.out.cell (j := 2) rfl⟩) (fun hHeld => ?_)
      simp only [List.size_toArray, List.length_cons, List.length_nil, Array.replicate_succ, Array.replicate_zero, Nat.reduceAdd, List.push_toArray, List.nil_append, List.cons_append]
      refine wpAnyH_take (i := 0) (v := (.agg #[.slice ha hn hc, .slice wa wn wc])) rfl (by kernel_rfl) (by kernel_rfl) (by kernel_rfl) (fun _ _ _ h => h) (Or.inl ⟨by rfl, ?_⟩) (by assumption) ?_
      · intro w hSw
        (try dsimp only at hSw)
        go_simp
      try simp only [List.getElem_toArray]
      try simp only [List.getElem_cons_succ]
      try simp only [List.getElem_cons_zero]
      try simp only [Act.put]
      try simp only [List.setIfInBounds_toArray]
      try simp only [List.set_cons_succ]
      try simp only [List.set_cons_zero]
      refine wpAnyH_take (i := 1) (v := (.agg #[.int .i64 xc, .int .i64 xe, .int .i64 xn])) rfl (by kernel_rfl) (by kernel_rfl) (by kernel_rfl) (fun _ _ _ h => h) (Or.inl ⟨by rfl, ?_⟩) (by assumption) ?_
      · intro w hSw
        (try dsimp only at hSw)
        go_simp
      try simp only [List.getElem_toArray]
      try simp only [List.getElem_cons_succ]
      try simp only [List.getElem_cons_zero]
      try simp only [Act.put]
      try simp only [List.setIfInBounds_toArray]
      try simp only [List.set_cons_succ]
      try simp only [List.set_cons_zero]
      clear XD QD
      have hng := X5.out.ng
      have hgb := X5.out.gb
      have h6 := HB6.out
      have d1 : ¬ w.heap.size = b := by omega
      have d2 : ¬ b = w.heap.size := by omega
      have z0 := X5.out.k0.cell (j := 0) rfl
      have z1 := X5.out.k0.cell (j := 1) rfl
      have f0 := X5.out.k0.free 0
      have f1 := X5.out.k0.free 1
      have o1 : Only (fun y => y = w.heap.size) w5 ((w5.setCell ⟨w.heap.size, 0, none⟩ (.slice ha hn hc)).setCell ⟨w.heap.size, 1, none⟩ (.slice wa wn wc)) := (only_set (R := fun y => y = w.heap.size) (p := ⟨w.heap.size, 0, none⟩) rfl _).trans (only_set (R := fun y => y = w.heap.size) (p := ⟨w.heap.size, 1, none⟩) rfl _)
      have bd1 := below_drew ((w5.setCell ⟨w.heap.size, 0, none⟩ (.slice ha hn hc)).setCell ⟨w.heap.size, 1, none⟩ (.slice wa wn wc))
      have R1 := hid (((X5.out.k0.set 0 (.slice ha hn hc)).set 1 (.slice wa wn wc)).below bd1)
      have J1 := hid ((X5.out.k1.to o1 (by omega)).below bd1)
      have KB1 := hid ((X5.out.kb.to o1 (by omega)).below bd1)
      have Q1 := hid ((Q5.out.to o1 (by omega)).below bd1)
      have O1 := hid ((X5.out.ow.to o1 (fun y hy e => by have := (X5.out.ow.lt hy).1; omega)).below bd1)
      have B1 := hid ((X5.out.bel.trans (o1.below X5.out.bel.size (fun y hy e => by omega))).trans (bd1.mono (Nat.le_trans X5.out.bel.size o1.size)))
      clear o1 bd1
      refine wpAnyH_ready (rs := [2]) (by kernel_rfl) (by simp) ?_
      refine AllReadyH.cons rfl (fun K1 hK => ?_) AllReadyH.nil
      go_simp
      try go_wp2_with fail
      refine hK.out _ _ ?_ (fun hHeld => ?_)
      · exact ⟨KB1.out.cell (j := 0) rfl, KB1.out.cell (j := 1) rfl, Q1.out.cell (j := 0) rfl, Q1.out.cell (j := 1) rfl, Q1.out.cell (j := 2) rfl⟩
      clear hK K1
      try simp only [List.getElem_toArray]
      try simp only [List.getElem_cons_succ]
      try simp only [List.getElem_cons_zero]
      try simp only [Act.put]
      try simp only [List.setIfInBounds_toArray]
      try simp only [List.set_cons_succ]
      try simp only [List.set_cons_zero]
      clear z0 z1 f0 f1 X5 Q5
      generalize ((w5.setCell ⟨w.heap.size, 0, none⟩ (.slice ha hn hc)).setCell ⟨w.heap.size, 1, none⟩ (.slice wa wn wc)).drew = V9 at *
      have z0 := J1.out.cell (j := 0) rfl
      have f0 := J1.out.free 0
      have z1 := J1.out.cell (j := 1) rfl
      have f1 := J1.out.free 1
      have z2 := J1.out.cell (j := 2) rfl
      have f2 := J1.out.free 2
      have o2 : Only (fun y => y = w.heap.size + 1) V9 (((V9.setCell ⟨w.heap.size + 1, 0, none⟩ (.int .i64 xc)).setCell ⟨w.heap.size + 1, 1, none⟩ (.int .i64 xe)).setCell ⟨w.heap.size + 1, 2, none⟩ (.int .i64 xn)) := (((only_set (R := fun y => y = w.heap.size + 1) (p := ⟨w.heap.size + 1, 0, none⟩) rfl _).trans (only_set (R := fun y => y = w.heap.size + 1) (p := ⟨w.heap.size + 1, 1, none⟩) rfl _)).trans (only_set (R := fun y => y = w.heap.size + 1) (p := ⟨w.heap.size + 1, 2, none⟩) rfl _))
      have J2 := hid ((((J1.out.set 0 (.int .i64 xc)).set 1 (.int .i64 xe)).set 2 (.int .i64 xn)))
      have R2 := hid (R1.out.to o2 (by omega))
      have KB2 := hid (KB1.out.to o2 (by omega))
      have Q2 := hid (Q1.out.to o2 (by omega))
      have O2 := hid ((O1.out.to o2 (fun y hy e => by have := (O1.out.lt hy).1; omega)).base (B' := w.heap.size) (by omega))
      have B2 := hid (B1.out.trans (o2.below B1.out.size (fun y hy e => by omega)))
      clear o2
      refine wpAnyH_ready (rs := [3]) (by kernel_rfl) (by simp) ?_
      refine AllReadyH.cons rfl (fun K1 hK => ?_) AllReadyH.nil
      go_simp
      try go_wp2_with fail
      refine hK.out _ _ ?_ (fun hHeld => ?_)
      · exact ⟨KB2.out.cell (j := 0) rfl, KB2.out.cell (j := 1) rfl, Q2.out.cell (j := 0) rfl, Q2.out.cell (j := 1) rfl, Q2.out.cell (j := 2) rfl⟩
      clear hK K1
      try simp only [List.getElem_toArray]
      try simp only [List.getElem_cons_succ]
      try simp only [List.getElem_cons_zero]
      try simp only [Act.put]
      try simp only [List.setIfInBounds_toArray]
      try simp only [List.set_cons_succ]
      try simp only [List.set_cons_zero]
      refine wpAnyH_done (by kernel_rfl) ?_ _
      refine NoPanic.normal ?_
      clear z0 f0 z1 f1 z2 f2 R1 J1 KB1 Q1 O1 B1
      generalize (((V9.setCell ⟨w.heap.size + 1, 0, none⟩ (.int .i64 xc)).setCell ⟨w.heap.size + 1, 1, none⟩ (.int .i64 xe)).setCell ⟨w.heap.size + 1, 2, none⟩ (.int .i64 xn)) = VE at *
      go_wp2_with fail
      try simp only [Exit.inBlock, Exit.then]
      refine bodyPost_ret (v := .tuple #[.agg #[.slice ha hn hc, .slice wa wn wc], .agg #[.int .i64 xc, .int .i64 xe, .int .i64 xn]]) ?_ rfl ?_
      · exact results_lkt rfl _ _ w.heap.size (w.heap.size + 1) rfl rfl (R2.out.cell (j := 0) rfl) (R2.out.cell (j := 1) rfl) (J2.out.cell (j := 0) rfl) (J2.out.cell (j := 1) rfl) (J2.out.cell (j := 2) rfl)
      · exact ⟨ha, hn, hc, wa, wn, wc, hl, wl, _, _, _, rfl, O2.out, by have := HL.out; omega, B2.out⟩
  · have hh1 : ¬ (0 : Int) < (hn : Int) := by omega
    have x0 := X4.out.kb.cell (j := 0) rfl
    rw [← HV4.out] at x0
    go_upto_region 6 with (fail)
    rw [HV4.out]
    try rw [HB0.out]
    clear x0
    have XD : Hid (AS w V4.drew g b 73 [.int .i64 0, .int .i64 0, .int .i64 0] (.slice ha hn hc) (.slice wa wn wc) hl wl) := X4.out.call (below_drew _)
    have QD := hid (Q4.out.below (below_drew V4))
    refine wp_region_noPanic ?_
    refine wp_region_held_drew (S := fun v => v.cell? ⟨b, 0, none⟩ = some (.slice ha hn hc) ∧ v.cell? ⟨b, 1, none⟩ = some (.slice wa wn wc) ∧ v.cell? ⟨b6, 0, none⟩ = some (.int .i64 xc) ∧ v.cell? ⟨b6, 1, none⟩ = some (.int .i64 xe) ∧ v.cell? ⟨b6, 2, none⟩ = some (.int .i64 xn)) (by kernel_rfl) (⟨XD.out.kb.cell (j := 0) rfl, XD.out.kb.cell (j := 1) rfl, QD.out.cell (j := 0) rfl, QD.out.cell (j := 1) rfl, QD.out.cell (j := 2) rfl⟩) (fun hHeld => ?_)
    simp only [List.size_toArray, List.length_cons, List.length_nil, Array.replicate_succ, Array.replicate_zero, Nat.reduceAdd, List.push_toArray, List.nil_append, List.cons_append]
    refine wpAnyH_take (i := 0) (v := (.agg #[.slice ha hn hc, .slice wa wn wc])) rfl (by kernel_rfl) (by kernel_rfl) (by kernel_rfl) (fun _ _ _ h => h) (Or.inl ⟨by rfl, ?_⟩) (by assumption) ?_
    · intro w hSw
      (try dsimp only at hSw)
      go_simp
    try simp only [List.getElem_toArray]
    try simp only [List.getElem_cons_succ]
    try simp only [List.getElem_cons_zero]
    try simp only [Act.put]
    try simp only [List.setIfInBounds_toArray]
    try simp only [List.set_cons_succ]
    try simp only [List.set_cons_zero]
    refine wpAnyH_take (i := 1) (v := (.agg #[.int .i64 xc, .int .i64 xe, .int .i64 xn])) rfl (by kernel_rfl) (by kernel_rfl) (by kernel_rfl) (fun _ _ _ h => h) (Or.inl ⟨by rfl, ?_⟩) (by assumption) ?_
    · intro w hSw
      (try dsimp only at hSw)
      go_simp
    try simp only [List.getElem_toArray]
    try simp only [List.getElem_cons_succ]
    try simp only [List.getElem_cons_zero]
    try simp only [Act.put]
    try simp only [List.setIfInBounds_toArray]
    try simp only [List.set_cons_succ]
    try simp only [List.set_cons_zero]
    clear XD QD
    have hng := X4.out.ng
    have hgb := X4.out.gb
    have h6 := HB6.out
    have d1 : ¬ w.heap.size = b := by omega
    have d2 : ¬ b = w.heap.size := by omega
    have z0 := X4.out.k0.cell (j := 0) rfl
    have z1 := X4.out.k0.cell (j := 1) rfl
    have f0 := X4.out.k0.free 0
    have f1 := X4.out.k0.free 1
    have o1 : Only (fun y => y = w.heap.size) V4 ((V4.setCell ⟨w.heap.size, 0, none⟩ (.slice ha hn hc)).setCell ⟨w.heap.size, 1, none⟩ (.slice wa wn wc)) := (only_set (R := fun y => y = w.heap.size) (p := ⟨w.heap.size, 0, none⟩) rfl _).trans (only_set (R := fun y => y = w.heap.size) (p := ⟨w.heap.size, 1, none⟩) rfl _)
    have bd1 := below_drew ((V4.setCell ⟨w.heap.size, 0, none⟩ (.slice ha hn hc)).setCell ⟨w.heap.size, 1, none⟩ (.slice wa wn wc))
    have R1 := hid (((X4.out.k0.set 0 (.slice ha hn hc)).set 1 (.slice wa wn wc)).below bd1)
    have J1 := hid ((X4.out.k1.to o1 (by omega)).below bd1)
    have KB1 := hid ((X4.out.kb.to o1 (by omega)).below bd1)
    have Q1 := hid ((Q4.out.to o1 (by omega)).below bd1)
    have O1 := hid ((X4.out.ow.to o1 (fun y hy e => by have := (X4.out.ow.lt hy).1; omega)).below bd1)
    have B1 := hid ((X4.out.bel.trans (o1.below X4.out.bel.size (fun y hy e => by omega))).trans (bd1.mono (Nat.le_trans X4.out.bel.size o1.size)))
    clear o1 bd1
    refine wpAnyH_ready (rs := [2]) (by kernel_rfl) (by simp) ?_
    refine AllReadyH.cons rfl (fun K1 hK => ?_) AllReadyH.nil
    go_simp
    try go_wp2_with fail
    refine hK.out _ _ ?_ (fun hHeld => ?_)
    · exact ⟨KB1.out.cell (j := 0) rfl, KB1.out.cell (j := 1) rfl, Q1.out.cell (j := 0) rfl, Q1.out.cell (j := 1) rfl, Q1.out.cell (j := 2) rfl⟩
    clear hK K1
    try simp only [List.getElem_toArray]
    try simp only [List.getElem_cons_succ]
    try simp only [List.getElem_cons_zero]
    try simp only [Act.put]
    try simp only [List.setIfInBounds_toArray]
    try simp only [List.set_cons_succ]
    try simp only [List.set_cons_zero]
    clear z0 z1 f0 f1 X4 Q4
    generalize ((V4.setCell ⟨w.heap.size, 0, none⟩ (.slice ha hn hc)).setCell ⟨w.heap.size, 1, none⟩ (.slice wa wn wc)).drew = V9 at *
    have z0 := J1.out.cell (j := 0) rfl
    have f0 := J1.out.free 0
    have z1 := J1.out.cell (j := 1) rfl
    have f1 := J1.out.free 1
    have z2 := J1.out.cell (j := 2) rfl
    have f2 := J1.out.free 2
    have o2 : Only (fun y => y = w.heap.size + 1) V9 (((V9.setCell ⟨w.heap.size + 1, 0, none⟩ (.int .i64 xc)).setCell ⟨w.heap.size + 1, 1, none⟩ (.int .i64 xe)).setCell ⟨w.heap.size + 1, 2, none⟩ (.int .i64 xn)) := (((only_set (R := fun y => y = w.heap.size + 1) (p := ⟨w.heap.size + 1, 0, none⟩) rfl _).trans (only_set (R := fun y => y = w.heap.size + 1) (p := ⟨w.heap.size + 1, 1, none⟩) rfl _)).trans (only_set (R := fun y => y = w.heap.size + 1) (p := ⟨w.heap.size + 1, 2, none⟩) rfl _))
    have J2 := hid ((((J1.out.set 0 (.int .i64 xc)).set 1 (.int .i64 xe)).set 2 (.int .i64 xn)))
    have R2 := hid (R1.out.to o2 (by omega))
    have KB2 := hid (KB1.out.to o2 (by omega))
    have Q2 := hid (Q1.out.to o2 (by omega))
    have O2 := hid ((O1.out.to o2 (fun y hy e => by have := (O1.out.lt hy).1; omega)).base (B' := w.heap.size) (by omega))
    have B2 := hid (B1.out.trans (o2.below B1.out.size (fun y hy e => by omega)))
    clear o2
    refine wpAnyH_ready (rs := [3]) (by kernel_rfl) (by simp) ?_
    refine AllReadyH.cons rfl (fun K1 hK => ?_) AllReadyH.nil
    go_simp
    try go_wp2_with fail
    refine hK.out _ _ ?_ (fun hHeld => ?_)
    · exact ⟨KB2.out.cell (j := 0) rfl, KB2.out.cell (j := 1) rfl, Q2.out.cell (j := 0) rfl, Q2.out.cell (j := 1) rfl, Q2.out.cell (j := 2) rfl⟩
    clear hK K1
    try simp only [List.getElem_toArray]
    try simp only [List.getElem_cons_succ]
    try simp only [List.getElem_cons_zero]
    try simp only [Act.put]
    try simp only [List.setIfInBounds_toArray]
    try simp only [List.set_cons_succ]
    try simp only [List.set_cons_zero]
    refine wpAnyH_done (by kernel_rfl) ?_ _
    refine NoPanic.normal ?_
    clear z0 f0 z1 f1 z2 f2 R1 J1 KB1 Q1 O1 B1
    generalize (((V9.setCell ⟨w.heap.size + 1, 0, none⟩ (.int .i64 xc)).setCell ⟨w.heap.size + 1, 1, none⟩ (.int .i64 xe)).setCell ⟨w.heap.size + 1, 2, none⟩ (.int .i64 xn)) = VE at *
    go_wp2_with fail
    try simp only [Exit.inBlock, Exit.then]
    refine bodyPost_ret (v := .tuple #[.agg #[.slice ha hn hc, .slice wa wn wc], .agg #[.int .i64 xc, .int .i64 xe, .int .i64 xn]]) ?_ rfl ?_
    · exact results_lkt rfl _ _ w.heap.size (w.heap.size + 1) rfl rfl (R2.out.cell (j := 0) rfl) (R2.out.cell (j := 1) rfl) (J2.out.cell (j := 0) rfl) (J2.out.cell (j := 1) rfl) (J2.out.cell (j := 2) rfl)
    · exact ⟨ha, hn, hc, wa, wn, wc, hl, wl, _, _, _, rfl, O2.out, by have := HL.out; omega, B2.out⟩
end Go.Proofs.Ytcpdedpgjaimkaa
/-
  == of locks; the law FnFree answers true at every slice of bytes.
-/
namespace Go.Proofs.Ytcpdedpgjaimkaa
open Go.RowKit
set_option linter.unusedVariables false
theorem eqIn_txF (c e n c' e' n' : Int) (w : World) : (Op.equalIn 9999 73 (.agg #[.int .i64 c, .int .i64 e, .int .i64 n]) (.agg #[.int .i64 c', .int .i64 e', .int .i64 n'])).run Try.prog w = .ok (decide ((c, e, n) = (c', e', n'))) w := by
  rw [run_equalIn_struct w 9998 73 _ _ (by kernel_rfl) (by kernel_rfl)]
  obtain ⟨f0, f1, f2, hu, n0, n1, n2, t0, t1, t2, o0, o1, o2⟩ : ∃ f0 f1 f2 : Field, Try.prog.underlying 73 = some (.struct #[f0, f1, f2]) ∧ f0.name = "C" ∧ f1.name = "E" ∧ f2.name = "N" ∧ f0.type = 3 ∧ f1.type = 3 ∧ f2.type = 3 ∧ f0.offset = 0 ∧ f1.offset = 1 ∧ f2.offset = 2 := ⟨_, _, _, Try.underlying73, rfl, rfl, rfl, rfl, rfl, rfl, rfl, rfl, rfl⟩
  have hl : (Try.prog.fieldsOf 73).toList = [f0, f1, f2] := by simp [Program.fieldsOf, hu]
  rw [hl]
  have p0 : ∀ (x y z : Value) (w : World), (Go.part 3 #[x, y, z] 0).run Try.prog w = .ok x w := fun x y z w => by kernel_rfl
  have p1 : ∀ (x y z : Value) (w : World), (Go.part 3 #[x, y, z] 1).run Try.prog w = .ok y w := fun x y z w => by kernel_rfl
  have p2 : ∀ (x y z : Value) (w : World), (Go.part 3 #[x, y, z] 2).run Try.prog w = .ok z w := fun x y z w => by kernel_rfl
  have hi : ∀ (a b : Int) (w : World), (Op.equalIn 9998 3 (.int .i64 a) (.int .i64 b)).run Try.prog w = .ok (a == b) w := fun a b w => run_equalIn_int w 9997 3 .i64 .i64 a b (by kernel_rfl)
  have q0 : ("C" : String) ≠ "_" := by decide
  have q1 : ("E" : String) ≠ "_" := by decide
  have q2 : ("N" : String) ≠ "_" := by decide
  simp only [Op.eqFields, n0, n1, n2, t0, t1, t2, o0, o1, o2, if_pos q0, if_pos q1, if_pos q2, Sem.run_bind, p0, p1, p2, hi, Result.andThen_ok, Sem.run_ite, Sem.run_pure]
  by_cases h0 : c = c'
  · by_cases h1 : e = e'
    · by_cases h2 : n = n'
      · simp [h0, h1, h2]
      · simp [h0, h1, h2]
    · simp [h0, h1]
  · simp [h0]
theorem eqIn_rngF (lo hi lo' hi' : ByteArray) (w : World) : (Op.equalIn 9999 27 (.agg #[.string lo, .string hi]) (.agg #[.string lo', .string hi'])).run Try.prog w = .ok (lo.toList == lo'.toList && hi.toList == hi'.toList) w := by
  rw [run_equalIn_struct w 9998 27 _ _ (by kernel_rfl) (by kernel_rfl)]
  obtain ⟨f0, f1, hu, n0, n1, t0, t1, o0, o1⟩ : ∃ f0 f1 : Field, Try.prog.underlying 27 = some (.struct #[f0, f1]) ∧ f0.name = "Lo" ∧ f1.name = "Hi" ∧ f0.type = 9 ∧ f1.type = 9 ∧ f0.offset = 0 ∧ f1.offset = 1 := ⟨_, _, Try.underlying27, rfl, rfl, rfl, rfl, rfl, rfl⟩
  have hl : (Try.prog.fieldsOf 27).toList = [f0, f1] := by simp [Program.fieldsOf, hu]
  rw [hl]
  have p0 : ∀ (x y : Value) (w : World), (Go.part 9 #[x, y] 0).run Try.prog w = .ok x w := fun x y w => by kernel_rfl
  have p1 : ∀ (x y : Value) (w : World), (Go.part 9 #[x, y] 1).run Try.prog w = .ok y w := fun x y w => by kernel_rfl
  have hs : ∀ (a b : ByteArray) (w : World), (Op.equalIn 9998 9 (.string a) (.string b)).run Try.prog w = .ok (a.toList == b.toList) w := fun a b w => run_equalIn_string w 9997 9 a b (by kernel_rfl)
  have q0 : ("Lo" : String) ≠ "_" := by decide
  have q1 : ("Hi" : String) ≠ "_" := by decide
  simp only [Op.eqFields, n0, n1, t0, t1, o0, o1, if_pos q0, if_pos q1, Sem.run_bind, p0, p1, hs, Result.andThen_ok, Sem.run_ite, Sem.run_pure]
  cases h0 : (lo.toList == lo'.toList)
  · simp
  · cases h1 : (hi.toList == hi'.toList) <;> simp
theorem eqIn_lock (c e n : Int) (lo hi : ByteArray) (ex : Bool) (c' e' n' : Int) (lo' hi' : ByteArray) (ex' : Bool) (w : World) : (Op.equalIn 10000 75 (.agg #[.int .i64 c, .int .i64 e, .int .i64 n, .string lo, .string hi, .bool ex]) (.agg #[.int .i64 c', .int .i64 e', .int .i64 n', .string lo', .string hi', .bool ex'])).run Try.prog w = .ok (decide ((c, e, n) = (c', e', n')) && ((lo.toList == lo'.toList && hi.toList == hi'.toList) && ex == ex')) w := by
  rw [run_equalIn_struct w 9999 75 _ _ (by kernel_rfl) (by kernel_rfl)]
  obtain ⟨f0, f1, f2, hu, n0, n1, n2, t0, t1, t2, o0, o1, o2⟩ : ∃ f0 f1 f2 : Field, Try.prog.underlying 75 = some (.struct #[f0, f1, f2]) ∧ f0.name = "Tx" ∧ f1.name = "Range" ∧ f2.name = "Ex" ∧ f0.type = 73 ∧ f1.type = 27 ∧ f2.type = 4 ∧ f0.offset = 0 ∧ f1.offset = 3 ∧ f2.offset = 5 := ⟨_, _, _, Try.underlying75, rfl, rfl, rfl, rfl, rfl, rfl, rfl, rfl, rfl⟩
  have hl : (Try.prog.fieldsOf 75).toList = [f0, f1, f2] := by simp [Program.fieldsOf, hu]
  rw [hl]
  have p0 : ∀ (x0 x1 x2 x3 x4 x5 : Value) (w : World), (Go.part 73 #[x0, x1, x2, x3, x4, x5] 0).run Try.prog w = .ok (.agg #[x0, x1, x2]) w := fun x0 x1 x2 x3 x4 x5 w => by kernel_rfl
  have p1 : ∀ (x0 x1 x2 x3 x4 x5 : Value) (w : World), (Go.part 27 #[x0, x1, x2, x3, x4, x5] 3).run Try.prog w = .ok (.agg #[x3, x4]) w := fun x0 x1 x2 x3 x4 x5 w => by kernel_rfl
  have p2 : ∀ (x0 x1 x2 x3 x4 x5 : Value) (w : World), (Go.part 4 #[x0, x1, x2, x3, x4, x5] 5).run Try.prog w = .ok x5 w := fun x0 x1 x2 x3 x4 x5 w => by kernel_rfl
  have hbo : ∀ (a b : Bool) (w : World), (Op.equalIn 9999 4 (.bool a) (.bool b)).run Try.prog w = .ok (a == b) w := fun a b w => run_equalIn_bool' w 9998 4 a b (by kernel_rfl)
  have q0 : ("Tx" : String) ≠ "_" := by decide
  have q1 : ("Range" : String) ≠ "_" := by decide
  have q2 : ("Ex" : String) ≠ "_" := by decide
  simp only [Op.eqFields, n0, n1, n2, t0, t1, t2, o0, o1, o2, if_pos q0, if_pos q1, if_pos q2, Sem.run_bind, p0, p1, p2, eqIn_txF, eqIn_rngF, hbo, Result.andThen_ok, Sem.run_ite, Sem.run_pure]
  generalize decide ((c, e, n) = (c', e', n')) = b0
  generalize (lo.toList == lo'.toList && hi.toList == hi'.toList) = b1
  generalize (ex == ex') = b2
  cases b0 <;> cases b1 <;> cases b2 <;> first | rfl | simp
theorem lk_dec (c e n : Int) (lo hi : ByteArray) (ex : Bool) (c' e' n' : Int) (lo' hi' : ByteArray) (ex' : Bool) : (decide ((c, e, n) = (c', e', n')) && ((lo.toList == lo'.toList && hi.toList == hi'.toList) && ex == ex')) = decide ((((c, e, n), (lo, hi), ex) : LK) = ((c', e', n'), (lo', hi'), ex')) := by
  rw [Bool.eq_iff_iff]
  simp only [Bool.and_eq_true, decide_eq_true_eq, beq_iff_eq, Prod.mk.injEq]
  constructor
  · rintro ⟨h1, ⟨h2, h3⟩, h4⟩
    exact ⟨h1, ⟨str_ext h2, str_ext h3⟩, h4⟩
  · rintro ⟨h1, ⟨rfl, rfl⟩, h4⟩
    exact ⟨h1, ⟨rfl, rfl⟩, h4⟩
theorem eql_lock (c e n : Int) (lo hi : ByteArray) (ex : Bool) (c' e' n' : Int) (lo' hi' : ByteArray) (ex' : Bool) (w : World) : (binOp .eql 75 (.agg #[.int .i64 c, .int .i64 e, .int .i64 n, .string lo, .string hi, .bool ex]) (.agg #[.int .i64 c', .int .i64 e', .int .i64 n', .string lo', .string hi', .bool ex'])).run Try.prog w = .ok (.bool (decide ((((c, e, n), (lo, hi), ex) : LK) = ((c', e', n'), (lo', hi'), ex')))) w := by
  rw [run_eql_struct, eqIn_lock, lk_dec]; rfl
theorem guard_lock (op : BinOp) (x y : Operand) (xs ys : Array Value) (w : World) : (eqGuard op 75 x y (.agg xs) (.agg ys)).run Try.prog w = .ok () w := run_eqGuard_agg w op 75 x y xs ys (by kernel_rfl)
theorem atF_nil : ∀ (ys : List LK) (a : Nat), atF [] ys a = a := by
  intro ys
  induction ys with
  | nil => intro a; rfl
  | cons y ys ih => intro a; rw [atF, if_neg (by simp)]; exact ih a
theorem atF_take (g : List LK) : ∀ (l : List LK) (a k : Nat), k < l.length → atF g (l.take (k + 1)) a = (if atF g (l.take k) a < g.length ∧ lAt g (atF g (l.take k) a) = lAt l k then atF g (l.take k) a + 1 else atF g (l.take k) a) := by
  intro l
  induction l with
  | nil => intro a k h; simp at h
  | cons y ys ih =>
    intro a k h
    cases k with
    | zero => rfl
    | succ k =>
      rw [List.take_succ_cons, List.take_succ_cons, atF, atF]
      exact ih _ k (by simpa using h)
/-- What the law wants of a table that was freed. -/
structure FreeF (fl fw gl wl : List LK) : Prop where
  ok : lksOk fl fw = true
  at_ : atF gl wl 0 = gl.length
  had : ∀ z ∈ gl, hasV fl fw z.1 z.2.1.1 z.2.1.2 z.2.2 = true
  pos : gl.length = 0 ∨ 0 < fl.length + fw.length
theorem freeF_any (hl wl : List LK) (t : TX) : FreeF (freeV hl wl t).1 (freeV hl wl t).2.1 (freeV hl wl t).2.2 wl := by
  cases e : lksOk hl wl with
  | true =>
    obtain ⟨h1, -⟩ := freeV_ok t e
    obtain ⟨h2, h3⟩ := freeV_got t e
    refine ⟨h1, h2, fun z hz => ?_, ?_⟩
    · rw [hasV_def, h1, Bool.true_and]
      exact had_held h1 (h3 z hz)
    · cases hg : (freeV hl wl t).2.2 with
      | nil => exact .inl rfl
      | cons z zs =>
        refine .inr ?_
        have := h3 z (by rw [hg]; simp)
        have := List.length_pos_of_mem this
        omega
  | false =>
    have e2 : freeV hl wl t = ([], [], []) := by unfold freeV; rw [e]; rfl
    rw [e2]
    exact ⟨rfl, atF_nil wl 0, fun z hz => absurd hz (by simp), .inl rfl⟩
set_option maxHeartbeats 32000000 in
set_option maxRecDepth 20000 in
theorem lawFFree_walk (a : Option Addr) (n c : Nat) (z0 : List Int) (w : World) (w0 : IsRow .u8 w a n c z0) :
    Calls Try.prog 7 #[.slice a n c] w fun e w' => e = .returned (.bool true) ∧ Below w.heap.size w w' := by
  by_cases hbig : 1048576 < n
  · have hb' : (1048576 : Int) < (n : Int) := by omega
    clear w0
    go_enter Try.func7, Try.ntmps7
    go_wp2
    go_ret
    exact ⟨rfl, Below.refl _ _⟩
  · have hb' : ¬ (1048576 : Int) < (n : Int) := by omega
    have HR := hid (rd_of_row w0 (by omega))
    clear w0
    go_enter Try.func7, Try.ntmps7
    go_wp2_with fail
    refine (drawLockFree_any a n c _ w HR.out (by omega)).mono ?_
    rintro e w1 ⟨ha, hn, hc, wa, wn, wc, hl, wl, xc, xe, xn, rfl, hO, hL, hb1⟩
    have N1 : Hid (hn ≤ 1048576) := by have := (ownL_at hO.hh).1; show _ ≤ _; omega
    have N2 : Hid (wn ≤ 1048576) := by have := (ownL_at hO.hw).1; show _ ≤ _; omega
    have N3 : Hid (wn = wl.length) := (ownL_at hO.hw).1
    have hb2 : Below w1.heap.size w1 ((w1.alloc (.cells #[.slice ha hn hc, .slice wa wn wc] 71)).alloc (.cells #[.int .i64 xc, .int .i64 xe, .int .i64 xn] 73)) := below_new (below_new (Below.refl _ _))
    have B1 := hid (hb1.trans (hb2.mono hb1.size))
    have K1 := hid ((Bk.new w1 71 [.slice ha hn hc, .slice wa wn wc]).alloc (.cells #[.int .i64 xc, .int .i64 xe, .int .i64 xn] 73))
    have J1 := hid (Bk.new (w1.alloc (.cells #[.slice ha hn hc, .slice wa wn wc] 71)) 73 [.int .i64 xc, .int .i64 xe, .int .i64 xn])
    rw [show (w1.alloc (.cells #[.slice ha hn hc, .slice wa wn wc] 71)).heap.size = w1.heap.size + 1 by simp] at J1
    have P1 := hid (hO.hh.lr.below hb2)
    have Q1 := hid (hO.hw.lr.below hb2)
    clear hb1 hb2 hO hL HR hb' hbig
    have C1 : Hid (∀ v, Lr v (fun _ => True) (.slice ha hn hc) hl → Lr v (fun _ => True) (.slice wa wn wc) wl → Calls Try.prog 30 #[.agg #[.slice ha hn hc, .slice wa wn wc], .agg #[.int .i64 xc, .int .i64 xe, .int .i64 xn]] v fun r w' => ∃ a5 n5 c5 d5 m5 f5 ga gn gc, r = .returned (.tuple #[.agg #[.slice a5 n5 c5, .slice d5 m5 f5], .slice ga gn gc]) ∧ (Lr w' (fun _ => True) (.slice a5 n5 c5) (freeV hl wl (xc, xe, xn)).1 ∧ Lr w' (fun _ => True) (.slice d5 m5 f5) (freeV hl wl (xc, xe, xn)).2.1 ∧ Lr w' (fun _ => True) (.slice ga gn gc) (freeV hl wl (xc, xe, xn)).2.2) ∧ Below v.heap.size v w') := fun v p q => (implLockFree_any _ _ ha hn hc wa wn wc hl wl xc xe xn v p q N1.out N2.out).mono (by
      rintro r w' ⟨a5, n5, c5, d5, m5, f5, ga, gn, gc, rfl, hO, hG, -, hb⟩
      exact ⟨a5, n5, c5, d5, m5, f5, ga, gn, gc, rfl, ⟨hO.hh.lr, hO.hw.lr, hG.lr⟩, hb⟩)
    have C2 : Hid (∀ v, Lr v (fun _ => True) (.slice ha hn hc) hl → Lr v (fun _ => True) (.slice wa wn wc) wl → Calls Try.prog 35 #[.agg #[.slice ha hn hc, .slice wa wn wc], .agg #[.int .i64 xc, .int .i64 xe, .int .i64 xn]] v fun r w' => ∃ a5 n5 c5 d5 m5 f5 ga gn gc, r = .returned (.tuple #[.agg #[.slice a5 n5 c5, .slice d5 m5 f5], .slice ga gn gc]) ∧ (Lr w' (fun _ => True) (.slice a5 n5 c5) (freeV hl wl (xc, xe, xn)).1 ∧ Lr w' (fun _ => True) (.slice d5 m5 f5) (freeV hl wl (xc, xe, xn)).2.1 ∧ Lr w' (fun _ => True) (.slice ga gn gc) (freeV hl wl (xc, xe, xn)).2.2) ∧ Below v.heap.size v w') := fun v p q => (specLockFree_any _ _ ha hn hc wa wn wc hl wl xc xe xn v p q N1.out N2.out).mono (by
      rintro r w' ⟨a5, n5, c5, d5, m5, f5, ga, gn, gc, rfl, hO, hG, -, hb⟩
      exact ⟨a5, n5, c5, d5, m5, f5, ga, gn, gc, rfl, ⟨hO.hh.lr, hO.hw.lr, hG.lr⟩, hb⟩)
    have FA := hid (freeF_any hl wl (xc, xe, xn))
    generalize (freeV hl wl (xc, xe, xn)).1 = fl at *
    generalize (freeV hl wl (xc, xe, xn)).2.1 = fw at *
    generalize (freeV hl wl (xc, xe, xn)).2.2 = gl at *
    go_wp2_with fail
    refine (C1.out _ P1.out Q1.out).mono ?_
    generalize (w1.alloc (.cells #[.slice ha hn hc, .slice wa wn wc] 71)).alloc (.cells #[.int .i64 xc, .int .i64 xe, .int .i64 xn] 73) = V1 at *
    generalize w1.heap.size = b at *
    rintro r w2 ⟨a5, n5, c5, d5, m5, f5, ga, gn, gc, rfl, ⟨p5, q5, g5⟩, hb⟩
    have hb2 : Below V1.heap.size V1 (w2.alloc (.cells #[.slice a5 n5 c5, .slice d5 m5 f5] 71)) := hb.trans ((below_new (Below.refl _ _)).mono hb.size)
    have K2 := hid (K1.out.below hb2)
    have J2 := hid (J1.out.below hb2)
    have P2 := hid (P1.out.below hb2)
    have Q2 := hid (Q1.out.below hb2)
    have B2 := hid (B1.out.trans ((hb2).mono B1.out.size))
    have M2 := hid (Bk.new w2 71 [.slice a5 n5 c5, .slice d5 m5 f5])
    have R2 := hid (p5.below (below_new (o := .cells #[.slice a5 n5 c5, .slice d5 m5 f5] 71) (Below.refl _ _)))
    have S2 := hid (q5.below (below_new (o := .cells #[.slice a5 n5 c5, .slice d5 m5 f5] 71) (Below.refl _ _)))
    have G2 := hid (g5.below (below_new (o := .cells #[.slice a5 n5 c5, .slice d5 m5 f5] 71) (Below.refl _ _)))
    clear hb hb2 p5 q5 g5 K1 J1 P1 Q1 B1 C1
    have x0 := K2.out.cell (j := 0) rfl
    have x1 := K2.out.cell (j := 1) rfl
    have y0 := J2.out.cell (j := 0) rfl
    have y1 := J2.out.cell (j := 1) rfl
    have y2 := J2.out.cell (j := 2) rfl
    go_wp2_with fail
    refine (C2.out _ P2.out Q2.out).mono ?_
    generalize w2.alloc (.cells #[.slice a5 n5 c5, .slice d5 m5 f5] 71) = V2 at *
    generalize w2.heap.size = b5 at *
    rintro r w3 ⟨a6, n6, c6, d6, m6, f6, g6, i6, u6, rfl, ⟨-, -, g5⟩, hb⟩
    have hb2 : Below V2.heap.size V2 (w3.alloc (.cells #[.slice a6 n6 c6, .slice d6 m6 f6] 71)) := hb.trans ((below_new (Below.refl _ _)).mono hb.size)
    have K3 := hid (K2.out.below hb2)
    have J3 := hid (J2.out.below hb2)
    have P3 := hid (P2.out.below hb2)
    have Q3 := hid (Q2.out.below hb2)
    have M3 := hid (M2.out.below hb2)
    have R3 := hid (R2.out.below hb2)
    have S3 := hid (S2.out.below hb2)
    have G3 := hid (G2.out.below hb2)
    have B3 := hid (B2.out.trans ((hb2).mono B2.out.size))
    have hgi : i6 = gn := by have h1 := (Rw.len g5).1; have h2 := (Rw.len G3.out).1; omega
    have hlt3 : b5 < w3.heap.size := (M2.out.below hb).lt
    have hlt4 : b < w3.heap.size := (K2.out.below hb).lt
    clear g5 hb hb2 K2 J2 P2 Q2 M2 R2 S2 G2 B2 C2
    clear x0 x1 y0 y1 y2
    subst hgi
    have hz : ((i6 : Int) != (i6 : Int)) = false := by simp
    have G0 := (Rw.len G3.out).2
    have HG := hid (Rw.len G3.out).1
    have x1 := K3.out.cell (j := 1) rfl
    have hwn : wn ≤ 1048576 := N2.out
    go_wp2_with fail
    generalize w3.alloc (.cells #[.slice a6 n6 c6, .slice d6 m6 f6] 71) = V3 at *
    clear x1
    go_loopw [9, 42] (fun x i v => ∃ k : Nat, k ≤ wn ∧ i = .int .i64 k ∧ x = .int .i64 (atF gl (wl.take k) 0) ∧ Hid (Below V3.heap.size V3 v)) (fun _ i _ => wn - (intOf i).toNat)
    case atStart => exact ⟨0, Nat.zero_le _, rfl, rfl, Below.refl _ _⟩
    case round =>
      obtain ⟨j, hj, rfl, rfl, HB⟩ := hrel
      by_cases hlt : j < wn
      · have hlt' : (j : Int) < (wn : Int) := by omega
        have hml : j < wl.length := by rw [← N3.out]; exact hlt
        have HA := hid (atF_take gl wl 0 j hml)
        obtain ⟨q, off, hqa, -, -, hcell⟩ := (Q3.out.below HB.out).at (by omega)
        obtain ⟨hc0, hc1, hc2, hc3, hc4, hc5⟩ := hcell j hlt
        clear hcell
        subst hqa
        generalize lAt wl j = cur at hc0 hc1 hc2 hc3 hc4 hc5 HA
        obtain ⟨⟨cc, ce, cn⟩, ⟨clo, chi⟩, cex⟩ := cur
        generalize ham : atF gl (wl.take (j + 1)) 0 = am at HA
        have HAM := hid ham
        clear ham
        generalize atF gl (wl.take j) 0 = ak at *
        have B9 : Hid (Below V3.heap.size V3 (wr.alloc (.cells #[.int .i64 cc, .int .i64 ce, .int .i64 cn, .string clo, .string chi, .bool cex] 75))) := HB.out.trans ((below_new (Below.refl _ _)).mono HB.out.size)
        have GB := hid ((G3.out.below HB.out).below (below_new (o := .cells #[.int .i64 cc, .int .i64 ce, .int .i64 cn, .string clo, .string chi, .bool cex] 75) (Below.refl _ _)))
        have CB := hid (Bk.new wr 75 [.int .i64 cc, .int .i64 ce, .int .i64 cn, .string clo, .string chi, .bool cex])
        clear hml
        by_cases hak : ak < i6
        · have hak' : (ak : Int) < (i6 : Int) := by omega
          have hak2 : ak < gl.length := by rw [← HG.out]; exact hak
          obtain ⟨q2, off2, hqa, -, -, hcell⟩ := GB.out.at (by omega)
          obtain ⟨gc0, gc1, gc2, gc3, gc4, gc5⟩ := hcell ak hak
          clear hcell
          subst hqa
          generalize lAt gl ak = curg at gc0 gc1 gc2 gc3 gc4 gc5 HA
          obtain ⟨⟨dc, de, dn⟩, ⟨dlo, dhi⟩, dex⟩ := curg
          have hq := eql_lock dc de dn dlo dhi dex cc ce cn clo chi cex
          have hg := guard_lock .eql
          have HA2 : Hid (am = if decide ((((dc, de, dn), (dlo, dhi), dex) : LK) = ((cc, ce, cn), (clo, chi), cex)) = true then ak + 1 else ak) := by
            show _ = _
            rw [HA.out]
            by_cases hd : (((dc, de, dn), (dlo, dhi), dex) : LK) = ((cc, ce, cn), (clo, chi), cex)
            · rw [if_pos ⟨hak2, hd⟩, decide_eq_true hd, if_pos rfl]
            · rw [if_neg (fun h => hd h.2), decide_eq_false hd]; rfl
          generalize decide ((((dc, de, dn), (dlo, dhi), dex) : LK) = ((cc, ce, cn), (clo, chi), cex)) = z at *
          have hlq : q2 < wr.heap.size ∨ True := .inr trivial
          have t0 := CB.out.cell (j := 0) rfl
          have t1 := CB.out.cell (j := 1) rfl
          have t2 := CB.out.cell (j := 2) rfl
          have t3 := CB.out.cell (j := 3) rfl
          have t4 := CB.out.cell (j := 4) rfl
          have t5 := CB.out.cell (j := 5) rfl
          clear HA hak2 GB
          go_upto_region 12 with (fail)
          generalize wr.alloc (.cells #[.int .i64 cc, .int .i64 ce, .int .i64 cn, .string clo, .string chi, .bool cex] 75) = Y at *
          generalize wr.heap.size = g at *
          go_quiet (fail)
          cases z with
          | false =>
            go_wp2
            go_roundw
            case rel => exact ⟨j + 1, by omega, by go_num, by rw [HAM.out, HA2.out]; rfl, Below.drewN' B9.out _⟩
            case measure => simp [intOf]; omega
          | true =>
            go_wp2
            go_roundw
            case rel => exact ⟨j + 1, by omega, by go_num, by rw [HAM.out, HA2.out]; go_num, Below.drewN' B9.out _⟩
            case measure => simp [intOf]; omega
        · have hak' : ¬ (ak : Int) < (i6 : Int) := by omega
          have hak2 : ¬ ak < gl.length := by rw [← HG.out]; exact hak
          have HA2 : Hid (am = ak) := by show _ = _; rw [HA.out, if_neg (fun h => hak2 h.1)]
          have hdk : decide ((ak : Int) < (i6 : Int)) = false := decide_eq_false hak'
          clear HA hak2 GB
          go_upto_region 12 with (fail)
          generalize wr.alloc (.cells #[.int .i64 cc, .int .i64 ce, .int .i64 cn, .string clo, .string chi, .bool cex] 75) = Y at *
          generalize wr.heap.size = g at *
          go_quiet (fail)
          go_wp2
          go_roundw
          case rel => exact ⟨j + 1, by omega, by go_num, by rw [HAM.out, HA2.out], Below.drewN' B9.out _⟩
          case measure => simp [intOf]; omega
      · skip
        have hjw : j = wl.length := by have := N3.out; omega
        have hat : atF gl (wl.take j) 0 = i6 := by rw [hjw, List.take_length, FA.out.at_, HG.out]
        rw [hat]
        clear hat hjw
        have K4 := hid (K3.out.below HB.out)
        have J4 := hid (J3.out.below HB.out)
        have P4 := hid (P3.out.below HB.out)
        have Q4 := hid (Q3.out.below HB.out)
        have M4 := hid (M3.out.below HB.out)
        have R4 := hid (R3.out.below HB.out)
        have S4 := hid (S3.out.below HB.out)
        have G4 := hid (G3.out.below HB.out)
        have B4 := hid (B3.out.trans ((HB.out).mono B3.out.size))
        have L4 : Hid (n5 = fl.length ∧ m5 = fw.length) := ⟨(Rw.len R4.out).1, (Rw.len S4.out).1⟩
        have L5 : Hid (fl.length + fw.length ≤ 60) := lksOk_len FA.out.ok
        clear K3 J3 P3 Q3 M3 R3 S3 G3 B3 hlt3 hlt4 N1 N2 N3 hwn
        have CH : Hid (∀ v, Lr v (fun _ => True) (.slice a5 n5 c5) fl → Lr v (fun _ => True) (.slice d5 m5 f5) fw → ∀ cc ce cn clo chi cex, ((cc, ce, cn), (clo, chi), cex) ∈ gl → Calls Try.prog 32 #[.agg #[.slice a5 n5 c5, .slice d5 m5 f5], .agg #[.int .i64 cc, .int .i64 ce, .int .i64 cn], .agg #[.string clo, .string chi], .bool cex] v fun r w' => r = .returned (.bool true) ∧ Below v.heap.size v w') := fun v p q cc ce cn clo chi cex hm => by have := implLockHas_any _ _ a5 n5 c5 d5 m5 f5 fl fw cc ce cn clo chi cex v p q (by have h1 := L4.out; have h2 := L5.out; omega) (by have h1 := L4.out; have h2 := L5.out; omega); rwa [FA.out.had _ hm] at this
        have CM : Hid (∀ v, Lr v (fun _ => True) (.slice a5 n5 c5) fl → Lr v (fun _ => True) (.slice d5 m5 f5) fw → Calls Try.prog 31 #[.agg #[.slice a5 n5 c5, .slice d5 m5 f5]] v fun r w' => r = .returned (.bool true) ∧ Below v.heap.size v w') := fun v p q => by have := implLocksOk_any _ _ a5 n5 c5 d5 m5 f5 fl fw v p q (by have h1 := L4.out; have h2 := L5.out; omega) (by have h1 := L4.out; have h2 := L5.out; omega); rwa [FA.out.ok] at this
        go_wp2_with fail
        rename World => VR
        go_loopw [63] (fun i v => ∃ k : Nat, k ≤ i6 ∧ i = .int .i64 k ∧ Hid (Below VR.heap.size VR v)) (fun i _ => i6 - (intOf i).toNat)
        case atStart => exact ⟨0, Nat.zero_le _, rfl, Below.refl _ _⟩
        case round =>
          obtain ⟨k, hk, rfl, HC⟩ := hrel
          by_cases hlt : k < i6
          · skip
            have hlt' : (k : Int) < (i6 : Int) := by omega
            have hml : k < gl.length := by rw [← HG.out]; exact hlt
            obtain ⟨q, off, hqa, -, -, hcell⟩ := (G4.out.below HC.out).at (by omega)
            obtain ⟨hc0, hc1, hc2, hc3, hc4, hc5⟩ := hcell k hlt
            clear hcell
            subst hqa
            have HM : Hid (lAt gl k ∈ gl) := lAt_mem hml
            generalize lAt gl k = cur at hc0 hc1 hc2 hc3 hc4 hc5 HM
            obtain ⟨⟨cc, ce, cn⟩, ⟨clo, chi⟩, cex⟩ := cur
            have hbn : Below wr.heap.size wr (wr.alloc (.cells #[.int .i64 cc, .int .i64 ce, .int .i64 cn, .string clo, .string chi, .bool cex] 75)) := below_new (Below.refl _ _)
            have B9 : Hid (Below VR.heap.size VR (wr.alloc (.cells #[.int .i64 cc, .int .i64 ce, .int .i64 cn, .string clo, .string chi, .bool cex] 75))) := HC.out.trans (hbn.mono HC.out.size)
            have CB := hid (Bk.new wr 75 [.int .i64 cc, .int .i64 ce, .int .i64 cn, .string clo, .string chi, .bool cex])
            have M9 := hid (M4.out.below B9.out)
            have R9 := hid (R4.out.below B9.out)
            have S9 := hid (S4.out.below B9.out)
            have m0 := (M4.out.below HC.out).cell (j := 0) rfl
            have m1 := (M4.out.below HC.out).cell (j := 1) rfl
            have mlt := (M4.out.below HC.out).lt
            clear hml hbn
            go_wp2_with fail
            refine (CH.out _ R9.out S9.out cc ce cn clo chi cex HM.out).mono ?_
            generalize wr.alloc (.cells #[.int .i64 cc, .int .i64 ce, .int .i64 cn, .string clo, .string chi, .bool cex] 75) = Y at *
            generalize wr.heap.size = g at *
            rintro r w9 ⟨rfl, hb⟩
            have BX := hid (B9.out.trans (hb.mono B9.out.size))
            clear hb B9 CB M9 R9 S9 m0 m1 hc0 hc1 hc2 hc3 hc4 hc5
            have hnt : (!true) = false := rfl
            go_wp2
            go_roundw
            case rel => exact ⟨k + 1, by omega, by go_num, BX.out⟩
            case measure => simp [intOf]; omega
          · skip
            have K5 := hid (K4.out.below HC.out)
            have J5 := hid (J4.out.below HC.out)
            have P5 := hid (P4.out.below HC.out)
            have Q5 := hid (Q4.out.below HC.out)
            have M5 := hid (M4.out.below HC.out)
            have R5 := hid (R4.out.below HC.out)
            have S5 := hid (S4.out.below HC.out)
            have G5 := hid (G4.out.below HC.out)
            have B5 := hid (B4.out.trans ((HC.out).mono B4.out.size))
            clear K4 J4 P4 Q4 M4 R4 S4 G4 B4 CH
            have hzz : ((i6 : Int) == (i6 : Int)) = true := by simp
            have m0 := M5.out.cell (j := 0) rfl
            have m1 := M5.out.cell (j := 1) rfl
            go_wp2_with fail
            refine (CM.out _ R5.out S5.out).mono ?_
            rintro r w9 ⟨rfl, hb⟩
            clear m0 m1
            have K6 := hid (K5.out.below hb)
            have J6 := hid (J5.out.below hb)
            have P6 := hid (P5.out.below hb)
            have Q6 := hid (Q5.out.below hb)
            have M6 := hid (M5.out.below hb)
            have R6 := hid (R5.out.below hb)
            have S6 := hid (S5.out.below hb)
            have G6 := hid (G5.out.below hb)
            have B6 := hid (B5.out.trans ((hb).mono B5.out.size))
            have m0 := M6.out.cell (j := 0) rfl
            have m1 := M6.out.cell (j := 1) rfl
            have hp := FA.out.pos
            have l4 := L4.out
            have l5 := L5.out
            rw [← HG.out, ← l4.1, ← l4.2] at hp
            rw [← l4.1, ← l4.2] at l5
            clear hb l4 L4 L5 FA HG hzz CM K5 J5 P5 Q5 M5 R5 S5 G5 B5
            by_cases hps : (0 : Int) < (n5 : Int) + (m5 : Int)
            · clear hp
              go_wp2
              go_ret
              exact ⟨rfl, B6.out⟩
            · have hi0 : i6 = 0 := by omega
              subst hi0
              go_wp2
              go_ret
              exact ⟨rfl, B6.out⟩
end Go.Proofs.Ytcpdedpgjaimkaa
