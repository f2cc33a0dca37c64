/-
  Tables of locks that are drawn with a lock: DrawLockAsk.
-/
import Derived.Test.YtcpdedpgjaimkaaMl4
import Derived.Test.YtcpdedpgjaimkaaMl2
import Derived.Test.YtcpdedpgjaimkaaMl5
import Derived.Test.YtcpdedpgjaimkaaMl3
namespace Go.Proofs.Ytcpdedpgjaimkaa
open Go.RowKit
set_option linter.unusedVariables false
theorem results_lkl {fn : Func} {p q : Tmp} (h : fn.results = #[.cell p 71, .cell q 75]) (tmps : Array Value) (w : World) (g1 g2 : Nat) {x y : Value} (hp : tmps.getD p undef = .pointer (some ⟨g1, 0, none⟩)) (hq : tmps.getD q undef = .pointer (some ⟨g2, 0, none⟩))
    (c0 : w.cell? ⟨g1, 0, none⟩ = some x) (c1 : w.cell? ⟨g1, 1, none⟩ = some y) {xc xe xn : Int} {lo hi : ByteArray} {ex : Bool} (d0 : w.cell? ⟨g2, 0, none⟩ = some (.int .i64 xc)) (d1 : w.cell? ⟨g2, 1, none⟩ = some (.int .i64 xe)) (d2 : w.cell? ⟨g2, 2, none⟩ = some (.int .i64 xn)) (d3 : w.cell? ⟨g2, 3, none⟩ = some (.string lo)) (d4 : w.cell? ⟨g2, 4, none⟩ = some (.string hi)) (d5 : w.cell? ⟨g2, 5, none⟩ = some (.bool ex)) : (results fn tmps).run Try.prog w = .ok (.tuple #[.agg #[x, y], .agg #[.int .i64 xc, .int .i64 xe, .int .i64 xn, .string lo, .string hi, .bool ex]]) w := by
  have hp' : tmps[p]?.getD undef = .pointer (some ⟨g1, 0, none⟩) := by simpa using hp
  have hq' : tmps[q]?.getD undef = .pointer (some ⟨g2, 0, none⟩) := by simpa using hq
  have hl : (loadVar 71 ⟨g1, 0, none⟩).run Try.prog w = .ok (.agg #[x, y]) w := by go_simp
  have hl2 : (loadVar 75 ⟨g2, 0, none⟩).run Try.prog w = .ok (.agg #[.int .i64 xc, .int .i64 xe, .int .i64 xn, .string lo, .string hi, .bool ex]) w := by go_simp
  simp [results, h, hp', hq', asAddr, hl, hl2]
set_option maxHeartbeats 16000000 in
set_option maxRecDepth 20000 in
theorem drawLockAsk_any (a : Option Addr) (n c : Nat) (zs : List Int) (w : World) (h : Rd w a n c zs) (hsz : n ≤ 1048576) : Calls Try.prog 27 #[.slice a n c] w fun r w' => ∃ (ha : Option Addr) (hn hc : Nat) (wa : Option Addr) (wn wc : Nat) (hl wl : List LK) (xc xe xn : Int) (lo hi : ByteArray) (ex : Bool), r = .returned (.tuple #[.agg #[.slice ha hn hc, .slice wa wn wc], .agg #[.int .i64 xc, .int .i64 xe, .int .i64 xn, .string lo, .string hi, .bool ex]]) ∧ LO w' w.heap.size (.slice ha hn hc) (.slice wa wn wc) hl wl ∧ hl.length + wl.length ≤ 100 ∧ Below w.heap.size w w' := by
  have B0 : Hid (Below w.heap.size w ((w.alloc (.cells #[.slice none 0 0, .slice none 0 0] 71)).alloc (.cells #[.int .i64 0, .int .i64 0, .int .i64 0, .string ⟨#[]⟩, .string ⟨#[]⟩, .bool false] 75))) := below_new (below_new (Below.refl _ _))
  have K0 : Hid (Bk ((w.alloc (.cells #[.slice none 0 0, .slice none 0 0] 71)).alloc (.cells #[.int .i64 0, .int .i64 0, .int .i64 0, .string ⟨#[]⟩, .string ⟨#[]⟩, .bool false] 75)) w.heap.size 71 [.slice none 0 0, .slice none 0 0]) := (Bk.new w 71 [.slice none 0 0, .slice none 0 0]).alloc _
  have J0 : Hid (Bk ((w.alloc (.cells #[.slice none 0 0, .slice none 0 0] 71)).alloc (.cells #[.int .i64 0, .int .i64 0, .int .i64 0, .string ⟨#[]⟩, .string ⟨#[]⟩, .bool false] 75)) (w.heap.size + 1) 75 [.int .i64 0, .int .i64 0, .int .i64 0, .string ⟨#[]⟩, .string ⟨#[]⟩, .bool false]) := by
    have := Bk.new (w.alloc (.cells #[.slice none 0 0, .slice none 0 0] 71)) 75 [.int .i64 0, .int .i64 0, .int .i64 0, .string ⟨#[]⟩, .string ⟨#[]⟩, .bool false]
    show Bk _ _ _ _
    simpa using this
  have H0 := hid (h.kept B0.out)
  clear h
  go_enter Try.func27, Try.ntmps27
  go_wp2_with fail
  refine (new_any a n c zs _ H0.out hsz).mono ?_
  generalize (w.alloc (.cells #[.slice none 0 0, .slice none 0 0] 71)).alloc (.cells #[.int .i64 0, .int .i64 0, .int .i64 0, .string ⟨#[]⟩, .string ⟨#[]⟩, .bool false] 75) = U at *
  have HG : Hid (w.heap.size + 1 < U.heap.size) := J0.out.lt
  generalize hgg : U.heap.size = g at *
  have HGG := hid hgg
  clear hgg
  rintro e w1 ⟨rfl, hb, hcu⟩
  rw [← HGG.out] at hb
  have B1 := hid (B0.out.trans (hb.mono B0.out.size))
  have K1 := hid (K0.out.below hb)
  have J1 := hid (J0.out.below hb)
  have C1 := hid hcu
  clear hb hcu B0 K0 J0 H0 HGG
  go_wp2_with fail
  refine (l07AnyLocks_any g _ C1.out).mono ?_
  rintro r w2 ⟨⟨ha, hn, hc, wa, wn, wc, hl, wl, rfl, hO, hL⟩, hg, hcu⟩
  have XA : Hid (AS w (w2.alloc (.cells #[.slice ha hn hc, .slice wa wn wc] 71)) g w2.heap.size 75 [.int .i64 0, .int .i64 0, .int .i64 0, .string ⟨#[]⟩, .string ⟨#[]⟩, .bool false] (.slice ha hn hc) (.slice wa wn wc) hl wl) := by
    have h1 := HG.out
    have h2 := C1.out.lt
    have hb2 := below_new (o := .cells #[.slice ha hn hc, .slice wa wn wc] 71) (w := w2) (Below.refl _ _)
    exact ⟨(B1.out.trans ((below_of_grown hg C1.out.lt).mono (by omega))).trans (hb2.mono (Nat.le_trans B1.out.size hg.size)), CuX_below hcu hb2, h1, (K1.out.grownX hg (by omega)).below hb2, (J1.out.grownX hg (by omega)).below hb2, Bk.new w2 _ [_, _], by have := hcu.lt; omega, (hO.base (by omega)).below hb2, fun y hy => (hO.lt hy).2⟩
  have HL := hid hL
  clear B1 K1 J1 C1 HG hO hL hg hcu
  go_wp2_with fail
  refine (l07Lock_any g _ XA.out.cu).mono ?_
  generalize w2.alloc (.cells #[.slice ha hn hc, .slice wa wn wc] 71) = VA at *
  generalize w2.heap.size = b at *
  rintro r w3 ⟨⟨xc, xe, xn, lo, hi, ex, rfl⟩, hg, hcu⟩
  have X3 := hid (XA.out.step hg hcu)
  clear XA hg hcu
  have hb3 := below_new (o := .cells #[.int .i64 xc, .int .i64 xe, .int .i64 xn, .string lo, .string hi, .bool ex] 75) (w := w3) (Below.refl _ _)
  have X4 := hid (X3.out.call hb3)
  have Q4 := hid (Bk.new w3 75 [.int .i64 xc, .int .i64 xe, .int .i64 xn, .string lo, .string hi, .bool ex])
  have HB6 : Hid (b < w3.heap.size) := X3.out.kb.lt
  clear X3 hb3
  go_wp2_with fail
  refine (below_any g 8 _ X4.out.cu (by omega) (by omega)).mono ?_
  generalize w3.alloc (.cells #[.int .i64 xc, .int .i64 xe, .int .i64 xn, .string lo, .string hi, .bool ex] 75) = V4 at *
  generalize w3.heap.size = b6 at *
  rintro r w5 ⟨⟨y, rfl, hy0, hy1⟩, hg, hcu⟩
  have X5 := hid (X4.out.step hg hcu)
  have Q5 := hid (Q4.out.grownX hg (by have := X4.out.gb; have := HB6.out; omega))
  clear X4 Q4 hg hcu
  by_cases hy : y = 0
  · subst hy
    go_wp2_with fail
    refine (l07AnyTx_any g _ X5.out.cu).mono ?_
    rintro r w6 ⟨⟨yc, ye, yn, rfl⟩, hg, hcu⟩
    have X6 := hid (X5.out.step hg hcu)
    have Q6 := hid (Q5.out.grownX hg (by have := X5.out.gb; have := HB6.out; omega))
    clear X5 Q5 hg hcu
    go_wp2_with fail
    refine (anyRange_any g _ X6.out.cu).mono ?_
    rintro r w7 ⟨⟨lo2, hi2, rfl⟩, hg, hcu⟩
    have X7 := hid (X6.out.step hg hcu)
    have Q7 := hid (Q6.out.grownX hg (by have := X6.out.gb; have := HB6.out; omega))
    clear X6 Q6 hg hcu
    have z0 := Q7.out.cell (j := 0) rfl
    have f0 := Q7.out.free 0
    have z1 := Q7.out.cell (j := 1) rfl
    have f1 := Q7.out.free 1
    have z2 := Q7.out.cell (j := 2) rfl
    have f2 := Q7.out.free 2
    have z3 := Q7.out.cell (j := 3) rfl
    have f3 := Q7.out.free 3
    have z4 := Q7.out.cell (j := 4) rfl
    have f4 := Q7.out.free 4
    have z5 := Q7.out.cell (j := 5) rfl
    have f5 := Q7.out.free 5
    have o7 : Only (fun y => y = b6) w7 ((((((w7.setCell ⟨b6, 0, none⟩ (.int .i64 yc)).setCell ⟨b6, 1, none⟩ (.int .i64 ye)).setCell ⟨b6, 2, none⟩ (.int .i64 yn)).setCell ⟨b6, 3, none⟩ (.string lo2)).setCell ⟨b6, 4, none⟩ (.string hi2)).setCell ⟨b6, 5, none⟩ (.bool true)) := ((((((only_set (R := fun y => y = b6) (p := ⟨b6, 0, none⟩) rfl _).trans (only_set (R := fun y => y = b6) (p := ⟨b6, 1, none⟩) rfl _)).trans (only_set (R := fun y => y = b6) (p := ⟨b6, 2, none⟩) rfl _)).trans (only_set (R := fun y => y = b6) (p := ⟨b6, 3, none⟩) rfl _)).trans (only_set (R := fun y => y = b6) (p := ⟨b6, 4, none⟩) rfl _)).trans (only_set (R := fun y => y = b6) (p := ⟨b6, 5, none⟩) rfl _))
    have Q8 := hid (((((((Q7.out.set 0 (.int .i64 yc)).set 1 (.int .i64 ye)).set 2 (.int .i64 yn)).set 3 (.string lo2)).set 4 (.string hi2)).set 5 (.bool true)))
    have X8 := hid (X7.out.to o7 HB6.out)
    clear o7 X7
    go_upto_region 6 with (fail)
    generalize ((((((w7.setCell ⟨b6, 0, none⟩ (.int .i64 yc)).setCell ⟨b6, 1, none⟩ (.int .i64 ye)).setCell ⟨b6, 2, none⟩ (.int .i64 yn)).setCell ⟨b6, 3, none⟩ (.string lo2)).setCell ⟨b6, 4, none⟩ (.string hi2)).setCell ⟨b6, 5, none⟩ (.bool true)) = V8 at *
    clear Q7 z0 f0 z1 f1 z2 f2 z3 f3 z4 f4 z5 f5
    skip
    have XD : Hid (AS w V8.drew g b 75 [.int .i64 0, .int .i64 0, .int .i64 0, .string ⟨#[]⟩, .string ⟨#[]⟩, .bool false] (.slice ha hn hc) (.slice wa wn wc) hl wl) := X8.out.call (below_drew _)
    have QD := hid (Q8.out.below (below_drew V8))
    refine wp_region_noPanic ?_
    refine wp_region_held_drew (S := fun v => v.cell? ⟨b, 0, none⟩ = some (.slice ha hn hc) ∧ v.cell? ⟨b, 1, none⟩ = some (.slice wa wn wc) ∧ v.cell? ⟨b6, 0, none⟩ = some (.int .i64 yc) ∧ v.cell? ⟨b6, 1, none⟩ = some (.int .i64 ye) ∧ v.cell? ⟨b6, 2, none⟩ = some (.int .i64 yn) ∧ v.cell? ⟨b6, 3, none⟩ = some (.string lo2) ∧ v.cell? ⟨b6, 4, none⟩ = some (.string hi2) ∧ v.cell? ⟨b6, 5, none⟩ = some (.bool true)) (by kernel_rfl) (⟨XD.out.kb.cell (j := 0) rfl, XD.out.kb.cell (j := 1) rfl, QD.out.cell (j := 0) rfl, QD.out.cell (j := 1) rfl, QD.out.cell (j := 2) rfl, QD.out.cell (j := 3) rfl, QD.out.cell (j := 4) rfl, QD.out.cell (j := 5) rfl⟩) (fun hHeld => ?_)
    simp only [List.size_toArray, List.length_cons, List.length_nil, Array.replicate_succ, Array.replicate_zero, Nat.reduceAdd, List.push_toArray, List.nil_append, List.cons_append]
    refine wpAnyH_take (i := 0) (v := (.agg #[.slice ha hn hc, .slice wa wn wc])) rfl (by kernel_rfl) (by kernel_rfl) (by kernel_rfl) (fun _ _ _ h => h) (Or.inl ⟨by rfl, ?_⟩) (by assumption) ?_
    · intro w hSw
      (try dsimp only at hSw)
      go_simp
    try simp only [List.getElem_toArray]
    try simp only [List.getElem_cons_succ]
    try simp only [List.getElem_cons_zero]
    try simp only [Act.put]
    try simp only [List.setIfInBounds_toArray]
    try simp only [List.set_cons_succ]
    try simp only [List.set_cons_zero]
    refine wpAnyH_take (i := 1) (v := (.agg #[.int .i64 yc, .int .i64 ye, .int .i64 yn, .string lo2, .string hi2, .bool true])) rfl (by kernel_rfl) (by kernel_rfl) (by kernel_rfl) (fun _ _ _ h => h) (Or.inl ⟨by rfl, ?_⟩) (by assumption) ?_
    · intro w hSw
      (try dsimp only at hSw)
      go_simp
    try simp only [List.getElem_toArray]
    try simp only [List.getElem_cons_succ]
    try simp only [List.getElem_cons_zero]
    try simp only [Act.put]
    try simp only [List.setIfInBounds_toArray]
    try simp only [List.set_cons_succ]
    try simp only [List.set_cons_zero]
    clear XD QD
    have hng := X8.out.ng
    have hgb := X8.out.gb
    have h6 := HB6.out
    have d1 : ¬ w.heap.size = b := by omega
    have d2 : ¬ b = w.heap.size := by omega
    have z0 := X8.out.k0.cell (j := 0) rfl
    have z1 := X8.out.k0.cell (j := 1) rfl
    have f0 := X8.out.k0.free 0
    have f1 := X8.out.k0.free 1
    have o1 : Only (fun y => y = w.heap.size) V8 ((V8.setCell ⟨w.heap.size, 0, none⟩ (.slice ha hn hc)).setCell ⟨w.heap.size, 1, none⟩ (.slice wa wn wc)) := (only_set (R := fun y => y = w.heap.size) (p := ⟨w.heap.size, 0, none⟩) rfl _).trans (only_set (R := fun y => y = w.heap.size) (p := ⟨w.heap.size, 1, none⟩) rfl _)
    have bd1 := below_drew ((V8.setCell ⟨w.heap.size, 0, none⟩ (.slice ha hn hc)).setCell ⟨w.heap.size, 1, none⟩ (.slice wa wn wc))
    have R1 := hid (((X8.out.k0.set 0 (.slice ha hn hc)).set 1 (.slice wa wn wc)).below bd1)
    have J1 := hid ((X8.out.k1.to o1 (by omega)).below bd1)
    have KB1 := hid ((X8.out.kb.to o1 (by omega)).below bd1)
    have Q1 := hid ((Q8.out.to o1 (by omega)).below bd1)
    have O1 := hid ((X8.out.ow.to o1 (fun y hy e => by have := (X8.out.ow.lt hy).1; omega)).below bd1)
    have B1 := hid ((X8.out.bel.trans (o1.below X8.out.bel.size (fun y hy e => by omega))).trans (bd1.mono (Nat.le_trans X8.out.bel.size o1.size)))
    clear o1 bd1
    refine wpAnyH_ready (rs := [2]) (by kernel_rfl) (by simp) ?_
    refine AllReadyH.cons rfl (fun K1 hK => ?_) AllReadyH.nil
    go_simp
    try go_wp2_with fail
    refine hK.out _ _ ?_ (fun hHeld => ?_)
    · exact ⟨KB1.out.cell (j := 0) rfl, KB1.out.cell (j := 1) rfl, Q1.out.cell (j := 0) rfl, Q1.out.cell (j := 1) rfl, Q1.out.cell (j := 2) rfl, Q1.out.cell (j := 3) rfl, Q1.out.cell (j := 4) rfl, Q1.out.cell (j := 5) rfl⟩
    clear hK K1
    try simp only [List.getElem_toArray]
    try simp only [List.getElem_cons_succ]
    try simp only [List.getElem_cons_zero]
    try simp only [Act.put]
    try simp only [List.setIfInBounds_toArray]
    try simp only [List.set_cons_succ]
    try simp only [List.set_cons_zero]
    clear z0 z1 f0 f1 X8 Q8
    generalize ((V8.setCell ⟨w.heap.size, 0, none⟩ (.slice ha hn hc)).setCell ⟨w.heap.size, 1, none⟩ (.slice wa wn wc)).drew = V7 at *
    have z0 := J1.out.cell (j := 0) rfl
    have f0 := J1.out.free 0
    have z1 := J1.out.cell (j := 1) rfl
    have f1 := J1.out.free 1
    have z2 := J1.out.cell (j := 2) rfl
    have f2 := J1.out.free 2
    have z3 := J1.out.cell (j := 3) rfl
    have f3 := J1.out.free 3
    have z4 := J1.out.cell (j := 4) rfl
    have f4 := J1.out.free 4
    have z5 := J1.out.cell (j := 5) rfl
    have f5 := J1.out.free 5
    have o2 : Only (fun y => y = w.heap.size + 1) V7 ((((((V7.setCell ⟨w.heap.size + 1, 0, none⟩ (.int .i64 yc)).setCell ⟨w.heap.size + 1, 1, none⟩ (.int .i64 ye)).setCell ⟨w.heap.size + 1, 2, none⟩ (.int .i64 yn)).setCell ⟨w.heap.size + 1, 3, none⟩ (.string lo2)).setCell ⟨w.heap.size + 1, 4, none⟩ (.string hi2)).setCell ⟨w.heap.size + 1, 5, none⟩ (.bool true)) := ((((((only_set (R := fun y => y = w.heap.size + 1) (p := ⟨w.heap.size + 1, 0, none⟩) rfl _).trans (only_set (R := fun y => y = w.heap.size + 1) (p := ⟨w.heap.size + 1, 1, none⟩) rfl _)).trans (only_set (R := fun y => y = w.heap.size + 1) (p := ⟨w.heap.size + 1, 2, none⟩) rfl _)).trans (only_set (R := fun y => y = w.heap.size + 1) (p := ⟨w.heap.size + 1, 3, none⟩) rfl _)).trans (only_set (R := fun y => y = w.heap.size + 1) (p := ⟨w.heap.size + 1, 4, none⟩) rfl _)).trans (only_set (R := fun y => y = w.heap.size + 1) (p := ⟨w.heap.size + 1, 5, none⟩) rfl _))
    have J2 := hid (((((((J1.out.set 0 (.int .i64 yc)).set 1 (.int .i64 ye)).set 2 (.int .i64 yn)).set 3 (.string lo2)).set 4 (.string hi2)).set 5 (.bool true)))
    have R2 := hid (R1.out.to o2 (by omega))
    have KB2 := hid (KB1.out.to o2 (by omega))
    have Q2 := hid (Q1.out.to o2 (by omega))
    have O2 := hid ((O1.out.to o2 (fun y hy e => by have := (O1.out.lt hy).1; omega)).base (B' := w.heap.size) (by omega))
    have B2 := hid (B1.out.trans (o2.below B1.out.size (fun y hy e => by omega)))
    clear o2
    refine wpAnyH_ready (rs := [3]) (by kernel_rfl) (by simp) ?_
    refine AllReadyH.cons rfl (fun K1 hK => ?_) AllReadyH.nil
    go_simp
    try go_wp2_with fail
    refine hK.out _ _ ?_ (fun hHeld => ?_)
    · exact ⟨KB2.out.cell (j := 0) rfl, KB2.out.cell (j := 1) rfl, Q2.out.cell (j := 0) rfl, Q2.out.cell (j := 1) rfl, Q2.out.cell (j := 2) rfl, Q2.out.cell (j := 3) rfl, Q2.out.cell (j := 4) rfl, Q2.out.cell (j := 5) rfl⟩
    clear hK K1
    try simp only [List.getElem_toArray]
    try simp only [List.getElem_cons_succ]
    try simp only [List.getElem_cons_zero]
    try simp only [Act.put]
    try simp only [List.setIfInBounds_toArray]
    try simp only [List.set_cons_succ]
    try simp only [List.set_cons_zero]
    refine wpAnyH_done (by kernel_rfl) ?_ _
    refine NoPanic.normal ?_
    clear z0 f0 z1 f1 z2 f2 z3 f3 z4 f4 z5 f5 R1 J1 KB1 Q1 O1 B1
    generalize ((((((V7.setCell ⟨w.heap.size + 1, 0, none⟩ (.int .i64 yc)).setCell ⟨w.heap.size + 1, 1, none⟩ (.int .i64 ye)).setCell ⟨w.heap.size + 1, 2, none⟩ (.int .i64 yn)).setCell ⟨w.heap.size + 1, 3, none⟩ (.string lo2)).setCell ⟨w.heap.size + 1, 4, none⟩ (.string hi2)).setCell ⟨w.heap.size + 1, 5, none⟩ (.bool true)) = V9 at *
    go_wp2_with fail
    try simp only [Exit.inBlock, Exit.then]
    refine bodyPost_ret (v := .tuple #[.agg #[.slice ha hn hc, .slice wa wn wc], .agg #[.int .i64 yc, .int .i64 ye, .int .i64 yn, .string lo2, .string hi2, .bool true]]) ?_ rfl ?_
    · exact results_lkl rfl _ _ w.heap.size (w.heap.size + 1) rfl rfl (R2.out.cell (j := 0) rfl) (R2.out.cell (j := 1) rfl) (J2.out.cell (j := 0) rfl) (J2.out.cell (j := 1) rfl) (J2.out.cell (j := 2) rfl) (J2.out.cell (j := 3) rfl) (J2.out.cell (j := 4) rfl) (J2.out.cell (j := 5) rfl)
    · first
      | exact ⟨ha, hn, hc, wa, wn, wc, hl, wl, _, _, _, _, _, _, rfl, O2.out, by have := HL.out; omega, B2.out⟩
      | exact ⟨ha, hn, hc, wa, wn, wc, hl, wl, ⟨_, _, _, _, _, _, rfl⟩, O2.out, by have := HL.out; omega, B2.out⟩
  · have hy2 : (y == 0) = false := by simpa using hy
    go_upto_region 6 with (fail)
    have XD : Hid (AS w w5.drew g b 75 [.int .i64 0, .int .i64 0, .int .i64 0, .string ⟨#[]⟩, .string ⟨#[]⟩, .bool false] (.slice ha hn hc) (.slice wa wn wc) hl wl) := X5.out.call (below_drew _)
    have QD := hid (Q5.out.below (below_drew w5))
    refine wp_region_noPanic ?_
    refine wp_region_held_drew (S := fun v => v.cell? ⟨b, 0, none⟩ = some (.slice ha hn hc) ∧ v.cell? ⟨b, 1, none⟩ = some (.slice wa wn wc) ∧ v.cell? ⟨b6, 0, none⟩ = some (.int .i64 xc) ∧ v.cell? ⟨b6, 1, none⟩ = some (.int .i64 xe) ∧ v.cell? ⟨b6, 2, none⟩ = some (.int .i64 xn) ∧ v.cell? ⟨b6, 3, none⟩ = some (.string lo) ∧ v.cell? ⟨b6, 4, none⟩ = some (.string hi) ∧ v.cell? ⟨b6, 5, none⟩ = some (.bool ex)) (by kernel_rfl) (⟨XD.out.kb.cell (j := 0) rfl, XD.out.kb.cell (j := 1) rfl, QD.out.cell (j := 0) rfl, QD.out.cell (j := 1) rfl, QD.out.cell (j := 2) rfl, QD.out.cell (j := 3) rfl, QD.out.cell (j := 4) rfl, QD.out.cell (j := 5) rfl⟩) (fun hHeld => ?_)
    simp only [List.size_toArray, List.length_cons, List.length_nil, Array.replicate_succ, Array.replicate_zero, Nat.reduceAdd, List.push_toArray, List.nil_append, List.cons_append]
    refine wpAnyH_take (i := 0) (v := (.agg #[.slice ha hn hc, .slice wa wn wc])) rfl (by kernel_rfl) (by kernel_rfl) (by kernel_rfl) (fun _ _ _ h => h) (Or.inl ⟨by rfl, ?_⟩) (by assumption) ?_
    · intro w hSw
      (try dsimp only at hSw)
      go_simp
    try simp only [List.getElem_toArray]
    try simp only [List.getElem_cons_succ]
    try simp only [List.getElem_cons_zero]
    try simp only [Act.put]
    try simp only [List.setIfInBounds_toArray]
    try simp only [List.set_cons_succ]
    try simp only [List.set_cons_zero]
    refine wpAnyH_take (i := 1) (v := (.agg #[.int .i64 xc, .int .i64 xe, .int .i64 xn, .string lo, .string hi, .bool ex])) rfl (by kernel_rfl) (by kernel_rfl) (by kernel_rfl) (fun _ _ _ h => h) (Or.inl ⟨by rfl, ?_⟩) (by assumption) ?_
    · intro w hSw
      (try dsimp only at hSw)
      go_simp
    try simp only [List.getElem_toArray]
    try simp only [List.getElem_cons_succ]
    try simp only [List.getElem_cons_zero]
    try simp only [Act.put]
    try simp only [List.setIfInBounds_toArray]
    try simp only [List.set_cons_succ]
    try simp only [List.set_cons_zero]
    clear XD QD
    have hng := X5.out.ng
    have hgb := X5.out.gb
    have h6 := HB6.out
    have d1 : ¬ w.heap.size = b := by omega
    have d2 : ¬ b = w.heap.size := by omega
    have z0 := X5.out.k0.cell (j := 0) rfl
    have z1 := X5.out.k0.cell (j := 1) rfl
    have f0 := X5.out.k0.free 0
    have f1 := X5.out.k0.free 1
    have o1 : Only (fun y => y = w.heap.size) w5 ((w5.setCell ⟨w.heap.size, 0, none⟩ (.slice ha hn hc)).setCell ⟨w.heap.size, 1, none⟩ (.slice wa wn wc)) := (only_set (R := fun y => y = w.heap.size) (p := ⟨w.heap.size, 0, none⟩) rfl _).trans (only_set (R := fun y => y = w.heap.size) (p := ⟨w.heap.size, 1, none⟩) rfl _)
    have bd1 := below_drew ((w5.setCell ⟨w.heap.size, 0, none⟩ (.slice ha hn hc)).setCell ⟨w.heap.size, 1, none⟩ (.slice wa wn wc))
    have R1 := hid (((X5.out.k0.set 0 (.slice ha hn hc)).set 1 (.slice wa wn wc)).below bd1)
    have J1 := hid ((X5.out.k1.to o1 (by omega)).below bd1)
    have KB1 := hid ((X5.out.kb.to o1 (by omega)).below bd1)
    have Q1 := hid ((Q5.out.to o1 (by omega)).below bd1)
    have O1 := hid ((X5.out.ow.to o1 (fun y hy e => by have := (X5.out.ow.lt hy).1; omega)).below bd1)
    have B1 := hid ((X5.out.bel.trans (o1.below X5.out.bel.size (fun y hy e => by omega))).trans (bd1.mono (Nat.le_trans X5.out.bel.size o1.size)))
    clear o1 bd1
    refine wpAnyH_ready (rs := [2]) (by kernel_rfl) (by simp) ?_
    refine AllReadyH.cons rfl (fun K1 hK => ?_) AllReadyH.nil
    go_simp
    try go_wp2_with fail
    refine hK.out _ _ ?_ (fun hHeld => ?_)
    · exact ⟨KB1.out.cell (j := 0) rfl, KB1.out.cell (j := 1) rfl, Q1.out.cell (j := 0) rfl, Q1.out.cell (j := 1) rfl, Q1.out.cell (j := 2) rfl, Q1.out.cell (j := 3) rfl, Q1.out.cell (j := 4) rfl, Q1.out.cell (j := 5) rfl⟩
    clear hK K1
    try simp only [List.getElem_toArray]
    try simp only [List.getElem_cons_succ]
    try simp only [List.getElem_cons_zero]
    try simp only [Act.put]
    try simp only [List.setIfInBounds_toArray]
    try simp only [List.set_cons_succ]
    try simp only [List.set_cons_zero]
    clear z0 z1 f0 f1 X5 Q5
    generalize ((w5.setCell ⟨w.heap.size, 0, none⟩ (.slice ha hn hc)).setCell ⟨w.heap.size, 1, none⟩ (.slice wa wn wc)).drew = V7 at *
    have z0 := J1.out.cell (j := 0) rfl
    have f0 := J1.out.free 0
    have z1 := J1.out.cell (j := 1) rfl
    have f1 := J1.out.free 1
    have z2 := J1.out.cell (j := 2) rfl
    have f2 := J1.out.free 2
    have z3 := J1.out.cell (j := 3) rfl
    have f3 := J1.out.free 3
    have z4 := J1.out.cell (j := 4) rfl
    have f4 := J1.out.free 4
    have z5 := J1.out.cell (j := 5) rfl
    have f5 := J1.out.free 5
    have o2 : Only (fun y => y = w.heap.size + 1) V7 ((((((V7.setCell ⟨w.heap.size + 1, 0, none⟩ (.int .i64 xc)).setCell ⟨w.heap.size + 1, 1, none⟩ (.int .i64 xe)).setCell ⟨w.heap.size + 1, 2, none⟩ (.int .i64 xn)).setCell ⟨w.heap.size + 1, 3, none⟩ (.string lo)).setCell ⟨w.heap.size + 1, 4, none⟩ (.string hi)).setCell ⟨w.heap.size + 1, 5, none⟩ (.bool ex)) := ((((((only_set (R := fun y => y = w.heap.size + 1) (p := ⟨w.heap.size + 1, 0, none⟩) rfl _).trans (only_set (R := fun y => y = w.heap.size + 1) (p := ⟨w.heap.size + 1, 1, none⟩) rfl _)).trans (only_set (R := fun y => y = w.heap.size + 1) (p := ⟨w.heap.size + 1, 2, none⟩) rfl _)).trans (only_set (R := fun y => y = w.heap.size + 1) (p := ⟨w.heap.size + 1, 3, none⟩) rfl _)).trans (only_set (R := fun y => y = w.heap.size + 1) (p := ⟨w.heap.size + 1, 4, none⟩) rfl _)).trans (only_set (R := fun y => y = w.heap.size + 1) (p := ⟨w.heap.size + 1, 5, none⟩) rfl _))
    have J2 := hid (((((((J1.out.set 0 (.int .i64 xc)).set 1 (.int .i64 xe)).set 2 (.int .i64 xn)).set 3 (.string lo)).set 4 (.string hi)).set 5 (.bool ex)))
    have R2 := hid (R1.out.to o2 (by omega))
    have KB2 := hid (KB1.out.to o2 (by omega))
    have Q2 := hid (Q1.out.to o2 (by omega))
    have O2 := hid ((O1.out.to o2 (fun y hy e => by have := (O1.out.lt hy).1; omega)).base (B' := w.heap.size) (by omega))
    have B2 := hid (B1.out.trans (o2.below B1.out.size (fun y hy e => by omega)))
    clear o2
    refine wpAnyH_ready (rs := [3]) (by kernel_rfl) (by simp) ?_
    refine AllReadyH.cons rfl (fun K1 hK => ?_) AllReadyH.nil
    go_simp
    try go_wp2_with fail
    refine hK.out _ _ ?_ (fun hHeld => ?_)
    · exact ⟨KB2.out.cell (j := 0) rfl, KB2.out.cell (j := 1) rfl, Q2.out.cell (j := 0) rfl, Q2.out.cell (j := 1) rfl, Q2.out.cell (j := 2) rfl, Q2.out.cell (j := 3) rfl, Q2.out.cell (j := 4) rfl, Q2.out.cell (j := 5) rfl⟩
    clear hK K1
    try simp only [List.getElem_toArray]
    try simp only [List.getElem_cons_succ]
    try simp only [List.getElem_cons_zero]
    try simp only [Act.put]
    try simp only [List.setIfInBounds_toArray]
    try simp only [List.set_cons_succ]
    try simp only [List.set_cons_zero]
    refine wpAnyH_done (by kernel_rfl) ?_ _
    refine NoPanic.normal ?_
    clear z0 f0 z1 f1 z2 f2 z3 f3 z4 f4 z5 f5 R1 J1 KB1 Q1 O1 B1
    generalize ((((((V7.setCell ⟨w.heap.size + 1, 0, none⟩ (.int .i64 xc)).setCell ⟨w.heap.size + 1, 1, none⟩ (.int .i64 xe)).setCell ⟨w.heap.size + 1, 2, none⟩ (.int .i64 xn)).setCell ⟨w.heap.size + 1, 3, none⟩ (.string lo)).setCell ⟨w.heap.size + 1, 4, none⟩ (.string hi)).setCell ⟨w.heap.size + 1, 5, none⟩ (.bool ex)) = V8 at *
    go_wp2_with fail
    try simp only [Exit.inBlock, Exit.then]
    refine bodyPost_ret (v := .tuple #[.agg #[.slice ha hn hc, .slice wa wn wc], .agg #[.int .i64 xc, .int .i64 xe, .int .i64 xn, .string lo, .string hi, .bool ex]]) ?_ rfl ?_
    · exact results_lkl rfl _ _ w.heap.size (w.heap.size + 1) rfl rfl (R2.out.cell (j := 0) rfl) (R2.out.cell (j := 1) rfl) (J2.out.cell (j := 0) rfl) (J2.out.cell (j := 1) rfl) (J2.out.cell (j := 2) rfl) (J2.out.cell (j := 3) rfl) (J2.out.cell (j := 4) rfl) (J2.out.cell (j := 5) rfl)
    · first
      | exact ⟨ha, hn, hc, wa, wn, wc, hl, wl, _, _, _, _, _, _, rfl, O2.out, by have := HL.out; omega, B2.out⟩
      | exact ⟨ha, hn, hc, wa, wn, wc, hl, wl, ⟨_, _, _, _, _, _, rfl⟩, O2.out, by have := HL.out; omega, B2.out⟩
end Go.Proofs.Ytcpdedpgjaimkaa
/-
  The law FnLocks answers true at every slice of bytes.
-/
namespace Go.Proofs.Ytcpdedpgjaimkaa
open Go.RowKit
set_option linter.unusedVariables false
/-- What LockAsk comes to: nothing with 1 or 2, a right table with 0 or 3. -/
def askF (cd : Int) (tl tw hl wl : List LK) (x : LK) : Prop :=
  ((cd = 1 ∨ cd = 2) ∧ tl = [] ∧ tw = []) ∨ ((cd = 0 ∨ cd = 3) ∧ lksOk tl tw = true ∧ lksOk hl wl = true ∧ tl.any (hasF x.1 x.2.1.1 x.2.1.2 x.2.2) = (decide (cd = 0) || hl.any (hasF x.1 x.2.1.1 x.2.1.2 x.2.2)))
theorem askF_any (hl wl : List LK) (x : LK) : askF (askC hl wl x) (askT hl wl x).1 (askT hl wl x).2 hl wl x := by
  unfold askF
  by_cases hc : askC hl wl x = 0 ∨ askC hl wl x = 3
  · refine .inr ⟨hc, askT_ok hc, ?_, ask_had hc⟩
    unfold askC at hc
    by_cases h1 : (lksOk hl wl && (lkOk x && !hasT wl x.1)) = true
    · simp only [Bool.and_eq_true] at h1
      exact h1.1
    · rw [if_neg h1] at hc
      omega
  · refine .inl ?_
    unfold askC at hc ⊢
    unfold askT
    by_cases h1 : (lksOk hl wl && (lkOk x && !hasT wl x.1)) = true
    · rw [if_pos h1] at hc ⊢
      rw [if_pos h1]
      by_cases h2 : hl.length + wl.length = 60
      · rw [if_pos h2, if_pos h2]
        exact ⟨.inr rfl, rfl, rfl⟩
      · rw [if_neg h2] at hc
        by_cases h3 : mustW hl wl x = true
        · rw [if_pos h3] at hc; omega
        · rw [if_neg h3] at hc; omega
    · rw [if_neg h1, if_neg h1]
      exact ⟨.inl rfl, rfl, rfl⟩
set_option maxHeartbeats 32000000 in
set_option maxRecDepth 20000 in
theorem lawFLocks_walk (a : Option Addr) (n c : Nat) (z0 : List Int) (w : World) (w0 : IsRow .u8 w a n c z0) :
    Calls Try.prog 6 #[.slice a n c] w fun e w' => e = .returned (.bool true) ∧ Below w.heap.size w w' := by
  by_cases hbig : 1048576 < n
  · have hb' : (1048576 : Int) < (n : Int) := by omega
    clear w0
    go_enter Try.func6, Try.ntmps6
    go_wp2
    go_ret
    exact ⟨rfl, Below.refl _ _⟩
  · have hb' : ¬ (1048576 : Int) < (n : Int) := by omega
    have HR := hid (rd_of_row w0 (by omega))
    clear w0
    go_enter Try.func6, Try.ntmps6
    go_wp2_with fail
    refine (drawLockAsk_any a n c _ w HR.out (by omega)).mono ?_
    rintro e w1 ⟨ha, hn, hc, wa, wn, wc, hl, wl, xc, xe, xn, lo, hi, ex, rfl, hO, hL, hb1⟩
    have N1 : Hid (hn ≤ 1048576) := by have := (ownL_at hO.hh).1; show _ ≤ _; omega
    have N2 : Hid (wn ≤ 1048576) := by have := (ownL_at hO.hw).1; show _ ≤ _; omega
    have hb2 : Below w1.heap.size w1 ((w1.alloc (.cells #[.slice ha hn hc, .slice wa wn wc] 71)).alloc (.cells #[.int .i64 xc, .int .i64 xe, .int .i64 xn, .string lo, .string hi, .bool ex] 75)) := below_new (below_new (Below.refl _ _))
    have B1 := hid (btL' hb1 hb2)
    have K1 := hid ((Bk.new w1 71 [.slice ha hn hc, .slice wa wn wc]).alloc (.cells #[.int .i64 xc, .int .i64 xe, .int .i64 xn, .string lo, .string hi, .bool ex] 75))
    have J1 := hid (Bk.new (w1.alloc (.cells #[.slice ha hn hc, .slice wa wn wc] 71)) 75 [.int .i64 xc, .int .i64 xe, .int .i64 xn, .string lo, .string hi, .bool ex])
    rw [show (w1.alloc (.cells #[.slice ha hn hc, .slice wa wn wc] 71)).heap.size = w1.heap.size + 1 by simp] at J1
    have P1 := hid (hO.hh.lr.below hb2)
    have Q1 := hid (hO.hw.lr.below hb2)
    clear hb1 hb2 hO hL HR hb' hbig
    have C1 : Hid (∀ v, Lr v (fun _ => True) (.slice ha hn hc) hl → Lr v (fun _ => True) (.slice wa wn wc) wl → Calls Try.prog 28 #[.agg #[.slice ha hn hc, .slice wa wn wc], .agg #[.int .i64 xc, .int .i64 xe, .int .i64 xn, .string lo, .string hi, .bool ex]] v fun r w' => ∃ a5 n5 c5 d5 m5 f5, r = .returned (.tuple #[.agg #[.slice a5 n5 c5, .slice d5 m5 f5], .int .i64 (askC hl wl ((xc, xe, xn), (lo, hi), ex))]) ∧ (Lr w' (fun _ => True) (.slice a5 n5 c5) (askT hl wl ((xc, xe, xn), (lo, hi), ex)).1 ∧ Lr w' (fun _ => True) (.slice d5 m5 f5) (askT hl wl ((xc, xe, xn), (lo, hi), ex)).2) ∧ Below v.heap.size v w') := fun v p q => (implLockAsk_any _ _ ha hn hc wa wn wc hl wl xc xe xn lo hi ex v p q N1.out N2.out).mono (by
      rintro r w' ⟨a5, n5, c5, d5, m5, f5, rfl, hO, hb⟩
      exact ⟨a5, n5, c5, d5, m5, f5, rfl, ⟨hO.hh.lr, hO.hw.lr⟩, hb⟩)
    have C2 : Hid (∀ v, Lr v (fun _ => True) (.slice ha hn hc) hl → Lr v (fun _ => True) (.slice wa wn wc) wl → Calls Try.prog 29 #[.agg #[.slice ha hn hc, .slice wa wn wc], .agg #[.int .i64 xc, .int .i64 xe, .int .i64 xn, .string lo, .string hi, .bool ex]] v fun r w' => ∃ a5 n5 c5 d5 m5 f5, r = .returned (.tuple #[.agg #[.slice a5 n5 c5, .slice d5 m5 f5], .int .i64 (askC hl wl ((xc, xe, xn), (lo, hi), ex))]) ∧ (Lr w' (fun _ => True) (.slice a5 n5 c5) (askT hl wl ((xc, xe, xn), (lo, hi), ex)).1 ∧ Lr w' (fun _ => True) (.slice d5 m5 f5) (askT hl wl ((xc, xe, xn), (lo, hi), ex)).2) ∧ Below v.heap.size v w') := fun v p q => (specLockAsk_any _ _ ha hn hc wa wn wc hl wl xc xe xn lo hi ex v p q N1.out N2.out).mono (by
      rintro r w' ⟨a5, n5, c5, d5, m5, f5, rfl, hO, hb⟩
      exact ⟨a5, n5, c5, d5, m5, f5, rfl, ⟨hO.hh.lr, hO.hw.lr⟩, hb⟩)
    have FA := hid (askF_any hl wl ((xc, xe, xn), (lo, hi), ex))
    generalize askC hl wl ((xc, xe, xn), (lo, hi), ex) = cd at *
    generalize (askT hl wl ((xc, xe, xn), (lo, hi), ex)).1 = tl at *
    generalize (askT hl wl ((xc, xe, xn), (lo, hi), ex)).2 = tw at *
    go_wp2_with fail
    refine (C1.out _ P1.out Q1.out).mono ?_
    generalize (w1.alloc (.cells #[.slice ha hn hc, .slice wa wn wc] 71)).alloc (.cells #[.int .i64 xc, .int .i64 xe, .int .i64 xn, .string lo, .string hi, .bool ex] 75) = V1 at *
    generalize w1.heap.size = b at *
    rintro r w2 ⟨a5, n5, c5, d5, m5, f5, rfl, ⟨p5, q5⟩, hb⟩
    have hb2 : Below V1.heap.size V1 (w2.alloc (.cells #[.slice a5 n5 c5, .slice d5 m5 f5] 71)) := btL' hb (below_new (Below.refl _ _))
    have K2 := hid (K1.out.below hb2)
    have J2 := hid (J1.out.below hb2)
    have P2 := hid (P1.out.below hb2)
    have Q2 := hid (Q1.out.below hb2)
    have B2 := hid (btL' B1.out hb2)
    have M2 := hid (Bk.new w2 71 [.slice a5 n5 c5, .slice d5 m5 f5])
    have R2 := hid (p5.below (below_new (o := .cells #[.slice a5 n5 c5, .slice d5 m5 f5] 71) (Below.refl _ _)))
    have S2 := hid (q5.below (below_new (o := .cells #[.slice a5 n5 c5, .slice d5 m5 f5] 71) (Below.refl _ _)))
    clear hb hb2 p5 q5 K1 J1 P1 Q1 B1 C1
    have x0 := K2.out.cell (j := 0) rfl
    have x1 := K2.out.cell (j := 1) rfl
    have y0 := J2.out.cell (j := 0) rfl
    have y1 := J2.out.cell (j := 1) rfl
    have y2 := J2.out.cell (j := 2) rfl
    have y3 := J2.out.cell (j := 3) rfl
    have y4 := J2.out.cell (j := 4) rfl
    have y5 := J2.out.cell (j := 5) rfl
    go_wp2_with fail
    refine (C2.out _ P2.out Q2.out).mono ?_
    generalize w2.alloc (.cells #[.slice a5 n5 c5, .slice d5 m5 f5] 71) = V2 at *
    generalize w2.heap.size = b5 at *
    rintro r w3 ⟨a6, n6, c6, d6, m6, f6, rfl, -, hb⟩
    have hb2 : Below V2.heap.size V2 (w3.alloc (.cells #[.slice a6 n6 c6, .slice d6 m6 f6] 71)) := btL' hb (below_new (Below.refl _ _))
    have K3 := hid (K2.out.below hb2)
    have J3 := hid (J2.out.below hb2)
    have P3 := hid (P2.out.below hb2)
    have Q3 := hid (Q2.out.below hb2)
    have M3 := hid (M2.out.below hb2)
    have R3 := hid (R2.out.below hb2)
    have S3 := hid (S2.out.below hb2)
    have B3 := hid (btL' B2.out hb2)
    have hlt3 : b5 < w3.heap.size := (M2.out.below hb).lt
    clear hb hb2 K2 J2 P2 Q2 M2 R2 S2 B2 C2
    clear x0 x1 y0 y1 y2 y3 y4 y5
    have hz : (cd != cd) = false := by simp
    generalize hV3 : w3.alloc (.cells #[.slice a6 n6 c6, .slice d6 m6 f6] 71) = V3 at *
    have HV3 := hid hV3
    clear hV3
    rcases FA.out with ⟨hcd, e1, e2⟩ | ⟨hcd, hok, hok0, hhad⟩
    · have l1 := (Rw.len R3.out).1
      have l2 := (Rw.len S3.out).1
      rw [e1] at l1
      rw [e2] at l2
      simp only [List.length_nil] at l1 l2
      subst l1 l2
      have z0 := M3.out.cell (j := 0) rfl
      have z1 := M3.out.cell (j := 1) rfl
      clear FA e1 e2 N1 N2
      rw [← HV3.out] at z0 z1 B3
      rcases hcd with rfl | rfl
      · go_wp2
        go_ret
        exact ⟨rfl, B3.out⟩
      · go_wp2
        go_ret
        exact ⟨rfl, B3.out⟩
    · clear FA
      have HOK0 := hid hok0
      have HHAD := hid hhad
      have HOK := hid hok
      have NT : Hid (n5 ≤ 1048576 ∧ m5 ≤ 1048576) := by have h1 := (Rw.len R3.out).1; have h2 := (Rw.len S3.out).1; have h3 := lksOk_len hok; show _ ∧ _; omega
      have FO := hid (freeV_ok (xc, xe, xn) hok)
      have C3 : Hid (∀ v, Lr v (fun _ => True) (.slice a5 n5 c5) tl → Lr v (fun _ => True) (.slice d5 m5 f5) tw → Calls Try.prog 30 #[.agg #[.slice a5 n5 c5, .slice d5 m5 f5], .agg #[.int .i64 xc, .int .i64 xe, .int .i64 xn]] v fun r w' => ∃ a9 n9 c9 d9 m9 f9 g9 i9 u9, r = .returned (.tuple #[.agg #[.slice a9 n9 c9, .slice d9 m9 f9], .slice g9 i9 u9]) ∧ (Lr w' (fun _ => True) (.slice a9 n9 c9) (freeV tl tw (xc, xe, xn)).1 ∧ Lr w' (fun _ => True) (.slice d9 m9 f9) (freeV tl tw (xc, xe, xn)).2.1) ∧ Below v.heap.size v w') := fun v p q => (implLockFree_any _ _ a5 n5 c5 d5 m5 f5 tl tw xc xe xn v p q NT.out.1 NT.out.2).mono (by
        rintro r w' ⟨a9, n9, c9, d9, m9, f9, g9, i9, u9, rfl, hO, -, -, hb⟩
        exact ⟨a9, n9, c9, d9, m9, f9, g9, i9, u9, rfl, ⟨hO.hh.lr, hO.hw.lr⟩, hb⟩)
      generalize (freeV tl tw (xc, xe, xn)).1 = fl at *
      generalize (freeV tl tw (xc, xe, xn)).2.1 = fw at *
      clear hok0 hhad hok
      rcases hcd with rfl | rfl
      · skip
        have z0 := M3.out.cell (j := 0) rfl
        have z1 := M3.out.cell (j := 1) rfl
        have x0 := K3.out.cell (j := 0) rfl
        have x1 := K3.out.cell (j := 1) rfl
        have y0 := J3.out.cell (j := 0) rfl
        have y1 := J3.out.cell (j := 1) rfl
        have y2 := J3.out.cell (j := 2) rfl
        have y3 := J3.out.cell (j := 3) rfl
        have y4 := J3.out.cell (j := 4) rfl
        have y5 := J3.out.cell (j := 5) rfl
        rw [← HV3.out] at z0 z1 x0 x1 y0 y1 y2 y3 y4 y5
        go_wp2_with fail
        refine (C3.out _ (by rw [HV3.out]; exact R3.out) (by rw [HV3.out]; exact S3.out)).mono ?_
        rw [HV3.out]
        clear z0 z1 x0 x1 y0 y1 y2 y3 y4 y5
        rintro r w4 ⟨a9, n9, c9, d9, m9, f9, g9, i9, u9, rfl, ⟨p9, q9⟩, hb⟩
        have hb2 : Below V3.heap.size V3 (w4.alloc (.cells #[.slice a9 n9 c9, .slice d9 m9 f9] 71)) := btL' hb (below_new (Below.refl _ _))
        have K4 := hid (K3.out.below hb2)
        have J4 := hid (J3.out.below hb2)
        have P4 := hid (P3.out.below hb2)
        have Q4 := hid (Q3.out.below hb2)
        have M4 := hid (M3.out.below hb2)
        have R4 := hid (R3.out.below hb2)
        have S4 := hid (S3.out.below hb2)
        have B4 := hid (btL' B3.out hb2)
        have O4 := hid (Bk.new w4 71 [.slice a9 n9 c9, .slice d9 m9 f9])
        have X4 := hid (p9.below (below_new (o := .cells #[.slice a9 n9 c9, .slice d9 m9 f9] 71) (Below.refl _ _)))
        have Y4 := hid (q9.below (below_new (o := .cells #[.slice a9 n9 c9, .slice d9 m9 f9] 71) (Below.refl _ _)))
        have NF : Hid (fl.length + fw.length ≤ 60) := lksOk_len FO.out.1
        have NX : Hid (n9 = fl.length ∧ m9 = fw.length) := ⟨(Rw.len X4.out).1, (Rw.len Y4.out).1⟩
        clear hb hb2 p9 q9 K3 J3 P3 Q3 M3 R3 S3 B3 C3
        go_upto_region 11 with (fail)
        generalize w4.alloc (.cells #[.slice a9 n9 c9, .slice d9 m9 f9] 71) = V4 at *
        generalize w4.heap.size = b9 at *
        have K5 := hid (K4.out.below (below_drew V4))
        have J5 := hid (J4.out.below (below_drew V4))
        have P5 := hid (P4.out.below (below_drew V4))
        have Q5 := hid (Q4.out.below (below_drew V4))
        have M5 := hid (M4.out.below (below_drew V4))
        have R5 := hid (R4.out.below (below_drew V4))
        have S5 := hid (S4.out.below (below_drew V4))
        have O5 := hid (O4.out.below (below_drew V4))
        have X5 := hid (X4.out.below (below_drew V4))
        have Y5 := hid (Y4.out.below (below_drew V4))
        have B5 := hid (btL' B4.out (below_drew V4))
        clear K4 J4 P4 Q4 M4 R4 S4 O4 X4 Y4 B4
        refine wp_region_noPanic ?_
        refine wp_region_held_drew (S := fun v => v.cell? ⟨b9, 0, none⟩ = some (.slice a9 n9 c9) ∧ v.cell? ⟨b9, 1, none⟩ = some (.slice d9 m9 f9)) (by kernel_rfl) (⟨O5.out.cell (j := 0) rfl, O5.out.cell (j := 1) rfl⟩) (fun hHeld => ?_)
        simp only [List.size_toArray, List.length_cons, List.length_nil, Array.replicate_succ, Array.replicate_zero, Nat.reduceAdd, List.push_toArray, List.nil_append, List.cons_append]
        refine wpAnyH_take (i := 1) (v := (.pointer (some ⟨b9, 0, none⟩))) rfl (by kernel_rfl) (by kernel_rfl) (by kernel_rfl) (fun _ _ _ h => h) (Or.inl ⟨by rfl, ?_⟩) (by assumption) ?_
        · intro w hSw
          (try dsimp only at hSw)
          go_simp
        try simp only [List.getElem_toArray]
        try simp only [List.getElem_cons_succ]
        try simp only [List.getElem_cons_zero]
        try simp only [Act.put]
        try simp only [List.setIfInBounds_toArray]
        try simp only [List.set_cons_succ]
        try simp only [List.set_cons_zero]
        refine wpAnyH_take (i := 2) (v := (.slice a9 n9 c9)) rfl (by kernel_rfl) (by kernel_rfl) (by kernel_rfl) (fun _ _ _ h => h) (Or.inl ⟨by rfl, ?_⟩) (by assumption) ?_
        · intro w hSw
          (try dsimp only at hSw)
          go_simp
        try simp only [List.getElem_toArray]
        try simp only [List.getElem_cons_succ]
        try simp only [List.getElem_cons_zero]
        try simp only [Act.put]
        try simp only [List.setIfInBounds_toArray]
        try simp only [List.set_cons_succ]
        try simp only [List.set_cons_zero]
        refine wpAnyH_take (i := 4) (v := (.pointer (some ⟨b9, 1, none⟩))) rfl (by kernel_rfl) (by kernel_rfl) (by kernel_rfl) (fun _ _ _ h => h) (Or.inl ⟨by rfl, ?_⟩) (by assumption) ?_
        · intro w hSw
          (try dsimp only at hSw)
          go_simp
        try simp only [List.getElem_toArray]
        try simp only [List.getElem_cons_succ]
        try simp only [List.getElem_cons_zero]
        try simp only [Act.put]
        try simp only [List.setIfInBounds_toArray]
        try simp only [List.set_cons_succ]
        try simp only [List.set_cons_zero]
        refine wpAnyH_take (i := 5) (v := (.slice d9 m9 f9)) rfl (by kernel_rfl) (by kernel_rfl) (by kernel_rfl) (fun _ _ _ h => h) (Or.inl ⟨by rfl, ?_⟩) (by assumption) ?_
        · intro w hSw
          (try dsimp only at hSw)
          go_simp
        try simp only [List.getElem_toArray]
        try simp only [List.getElem_cons_succ]
        try simp only [List.getElem_cons_zero]
        try simp only [Act.put]
        try simp only [List.setIfInBounds_toArray]
        try simp only [List.set_cons_succ]
        try simp only [List.set_cons_zero]
        refine wpAnyH_take (i := 8) (v := (.int .i64 0)) rfl (by kernel_rfl) (by kernel_rfl) (by kernel_rfl) (fun _ _ _ h => h) (Or.inl ⟨by rfl, ?_⟩) (by assumption) ?_
        · intro w hSw
          (try dsimp only at hSw)
          go_simp
        try simp only [List.getElem_toArray]
        try simp only [List.getElem_cons_succ]
        try simp only [List.getElem_cons_zero]
        try simp only [Act.put]
        try simp only [List.setIfInBounds_toArray]
        try simp only [List.set_cons_succ]
        try simp only [List.set_cons_zero]
        refine wpAnyH_ready (rs := [0]) (by kernel_rfl) (by simp) ?_
        refine AllReadyH.cons rfl (fun K1 hK => ?_) AllReadyH.nil
        go_simp
        try go_wp2_with fail
        have h0 := below_new (o := .cells #[] 75) (w := V4) (below_drew _)
        have hw6 : Below V4.heap.size V4.drew (V4.alloc (.cells #[] 75)).drew := ⟨h0.os, h0.tape, h0.output, h0.size, h0.block⟩
        have hb6 := hid hw6
        clear hw6 h0
        have E6 : Hid (Bk (V4.alloc (.cells #[] 75)).drew V4.heap.size 75 []) := (Bk.new V4 75 []).below (below_drew _)
        have HG6 : Hid (V4.drew.heap.size = V4.heap.size) := rfl
        refine hK.out _ _ ?_ (fun hHeld => ?_)
        · exact ⟨(O5.out.below hb6.out).cell (j := 0) rfl, (O5.out.below hb6.out).cell (j := 1) rfl⟩
        clear hK K1
        try simp only [List.getElem_toArray]
        try simp only [List.getElem_cons_succ]
        try simp only [List.getElem_cons_zero]
        try simp only [Act.put]
        try simp only [List.setIfInBounds_toArray]
        try simp only [List.set_cons_succ]
        try simp only [List.set_cons_zero]
        generalize (V4.alloc (.cells #[] 75)).drew = V6 at *
        generalize V4.drew = V5 at *
        generalize V4.heap.size = g6 at *
        refine wpAnyH_ready (rs := [3]) (by kernel_rfl) (by simp) ?_
        refine AllReadyH.cons rfl (fun K1 hK => ?_) AllReadyH.nil
        refine step_append_lr rfl _ _ rfl g6 _ [] rfl (lw_empty E6.out (Nat.le_refl _)) _ (.slice a9 n9 c9) fl rfl (X5.out.below (by rw [HG6.out]; exact hb6.out)) (by have := NF.out; simp; omega) (by have h1 := hb6.out.size; have h2 := HG6.out; omega) ?_
        intro a7 n7 c7 V7 hO7 hg7 ha7
        rw [List.nil_append] at hO7
        have hb7 : Hid (Below g6 V5 V7) := hb6.out.trans ((only_of_grown hg7 (R := fun y => g6 ≤ y) (fun k e => by have q : g6 = k := Option.some.inj e; show g6 ≤ k; omega)).below (by have h1 := hb6.out.size; have h2 := HG6.out; omega) (fun b hb e => by omega))
        have W7 := hid hO7
        clear hO7 hg7 ha7 hb6 E6
        refine hK.out _ _ ?_ (fun hHeld => ?_)
        · exact ⟨(O5.out.below (by rw [HG6.out]; exact hb7.out)).cell (j := 0) rfl, (O5.out.below (by rw [HG6.out]; exact hb7.out)).cell (j := 1) rfl⟩
        clear hK K1
        try simp only [List.getElem_toArray]
        try simp only [List.getElem_cons_succ]
        try simp only [List.getElem_cons_zero]
        try simp only [Act.put]
        try simp only [List.setIfInBounds_toArray]
        try simp only [List.set_cons_succ]
        try simp only [List.set_cons_zero]
        refine wpAnyH_ready (rs := [6]) (by kernel_rfl) (by simp) ?_
        refine AllReadyH.cons rfl (fun K1 hK => ?_) AllReadyH.nil
        refine step_append_lr rfl _ _ rfl g6 _ fl rfl W7.out _ (.slice d9 m9 f9) fw rfl (Y5.out.below (by rw [HG6.out]; exact hb7.out)) (by have := NF.out; omega) (by have h1 := hb7.out.size; have h2 := HG6.out; omega) ?_
        intro a8 n8 c8 V8 hO8 hg8 ha8
        have hb8 : Hid (Below g6 V5 V8) := hb7.out.trans ((only_of_grown hg8 (R := fun y => g6 ≤ y) (fun k e => (W7.out.lt e).1)).below (by have h1 := hb7.out.size; have h2 := HG6.out; omega) (fun b hb e => by have h3 : g6 ≤ b := e; omega))
        have W8 := hid hO8.lr
        have HN8 : Hid (n8 = (fl ++ fw).length) := (ownL_at hO8).1
        have HN9 : Hid (n8 ≤ 60) := by have h1 := HN8.out; have h2 := NF.out; rw [List.length_append] at h1; show _ ≤ _; omega
        clear hO8 hg8 ha8 hb7 W7
        refine hK.out _ _ ?_ (fun hHeld => ?_)
        · exact ⟨(O5.out.below (by rw [HG6.out]; exact hb8.out)).cell (j := 0) rfl, (O5.out.below (by rw [HG6.out]; exact hb8.out)).cell (j := 1) rfl⟩
        clear hK K1
        try simp only [List.getElem_toArray]
        try simp only [List.getElem_cons_succ]
        try simp only [List.getElem_cons_zero]
        try simp only [Act.put]
        try simp only [List.setIfInBounds_toArray]
        try simp only [List.set_cons_succ]
        try simp only [List.set_cons_zero]
        refine wpAnyH_take (i := 7) (v := (.int .i64 n8)) rfl (by kernel_rfl) (by kernel_rfl) (by kernel_rfl) (fun _ _ _ h => h) (Or.inl ⟨by rfl, ?_⟩) (by assumption) ?_
        · intro w hSw
          (try dsimp only at hSw)
          go_simp
        try simp only [List.getElem_toArray]
        try simp only [List.getElem_cons_succ]
        try simp only [List.getElem_cons_zero]
        try simp only [Act.put]
        try simp only [List.setIfInBounds_toArray]
        try simp only [List.set_cons_succ]
        try simp only [List.set_cons_zero]
        refine wpAnyH_done (by kernel_rfl) ?_ _
        refine NoPanic.normal ?_
        rw [← HG6.out] at hb8
        have hb := hb8.out
        have K8 := hid (K5.out.below hb)
        have J8 := hid (J5.out.below hb)
        have P8 := hid (P5.out.below hb)
        have Q8 := hid (Q5.out.below hb)
        have M8 := hid (M5.out.below hb)
        have R8 := hid (R5.out.below hb)
        have S8 := hid (S5.out.below hb)
        have O8 := hid (O5.out.below hb)
        have X8 := hid (X5.out.below hb)
        have Y8 := hid (Y5.out.below hb)
        have B8 := hid (btL' B5.out hb)
        clear hb hb8 HG6 K5 J5 P5 Q5 M5 R5 S5 O5 X5 Y5 B5
        have hn8 : (n8 : Int) ≤ 60 := by have := HN9.out; omega
        try go_wp2_with fail
        go_loopw [67] (fun i v => ∃ k : Nat, k ≤ n8 ∧ i = .int .i64 k ∧ Hid (Below V8.heap.size V8 v)) (fun i _ => n8 - (intOf i).toNat)
        case atStart => exact ⟨0, Nat.zero_le _, rfl, Below.refl _ _⟩
        case round =>
          obtain ⟨j, hj, rfl, HB⟩ := hrel
          by_cases hlt : j < n8
          · have hlt' : (j : Int) < (n8 : Int) := by omega
            have hml : j < (fl ++ fw).length := by rw [← HN8.out]; exact hlt
            obtain ⟨q, off, hqa, -, -, hcell⟩ := (W8.out.below HB.out).at (by omega)
            obtain ⟨hc0, hc1, hc2, hc3, hc4, hc5⟩ := hcell j hlt
            clear hcell
            subst hqa
            have HNE : Hid ((lAt (fl ++ fw) j).1 ≠ (xc, xe, xn)) := FO.out.2 _ (by have := lAt_mem hml; rwa [List.mem_append] at this)
            generalize lAt (fl ++ fw) j = cur at hc0 hc1 hc2 hc3 hc4 hc5 HNE
            obtain ⟨⟨cc, ce, cn⟩, ⟨clo, chi⟩, cex⟩ := cur
            have hq := eql_tx cc ce cn xc xe xn
            rw [decide_eq_false HNE.out] at hq
            have hg := guard_tx .eql
            have J9 := hid (J8.out.below HB.out)
            have y0 := J9.out.cell (j := 0) rfl
            have y1 := J9.out.cell (j := 1) rfl
            have y2 := J9.out.cell (j := 2) rfl
            have l1 := J9.out.lt
            have B9 : Hid (Below V8.heap.size V8 (wr.alloc (.cells #[.int .i64 cc, .int .i64 ce, .int .i64 cn, .string clo, .string chi, .bool cex] 75))) := btL' HB.out (below_new (Below.refl _ _))
            clear hml HNE
            go_wp2
            go_roundw
            case rel => exact ⟨j + 1, by omega, by go_num, B9.out⟩
            case measure => simp [intOf]; omega
          · skip
            have K9 := hid (K8.out.below HB.out)
            have J9 := hid (J8.out.below HB.out)
            have P9 := hid (P8.out.below HB.out)
            have Q9 := hid (Q8.out.below HB.out)
            have M9 := hid (M8.out.below HB.out)
            have R9 := hid (R8.out.below HB.out)
            have S9 := hid (S8.out.below HB.out)
            have O9 := hid (O8.out.below HB.out)
            have X9 := hid (X8.out.below HB.out)
            have Y9 := hid (Y8.out.below HB.out)
            have B9 := hid (btL' B8.out HB.out)
            clear K8 J8 P8 Q8 M8 R8 S8 O8 X8 Y8 B8 W8 HN8
            have CM : Hid (∀ v, Lr v (fun _ => True) (.slice a5 n5 c5) tl → Lr v (fun _ => True) (.slice d5 m5 f5) tw → Calls Try.prog 31 #[.agg #[.slice a5 n5 c5, .slice d5 m5 f5]] v fun r w' => r = .returned (.bool true) ∧ Below v.heap.size v w') := fun v p q => by have := implLocksOk_any _ _ a5 n5 c5 d5 m5 f5 tl tw v p q (by have := NT.out; omega) (by have := NT.out; omega); rwa [HOK.out] at this
            have CF : Hid (∀ v, Lr v (fun _ => True) (.slice a9 n9 c9) fl → Lr v (fun _ => True) (.slice d9 m9 f9) fw → Calls Try.prog 31 #[.agg #[.slice a9 n9 c9, .slice d9 m9 f9]] v fun r w' => r = .returned (.bool true) ∧ Below v.heap.size v w') := fun v p q => by have := implLocksOk_any _ _ a9 n9 c9 d9 m9 f9 fl fw v p q (by have h1 := NX.out; have h2 := NF.out; omega) (by have h1 := NX.out; have h2 := NF.out; omega); rwa [FO.out.1] at this
            have HH : Hid (hasV tl tw (xc, xe, xn) lo hi ex = (decide ((0 : Int) = 0) || hl.any (hasF (xc, xe, xn) lo hi ex))) := by show _ = _; rw [hasV_def, HOK.out, Bool.true_and]; exact HHAD.out
            have CH : Hid (∀ v, Lr v (fun _ => True) (.slice a5 n5 c5) tl → Lr v (fun _ => True) (.slice d5 m5 f5) tw → Calls Try.prog 32 #[.agg #[.slice a5 n5 c5, .slice d5 m5 f5], .agg #[.int .i64 xc, .int .i64 xe, .int .i64 xn], .agg #[.string lo, .string hi], .bool ex] v fun r w' => r = .returned (.bool (decide ((0 : Int) = 0) || hl.any (hasF (xc, xe, xn) lo hi ex))) ∧ Below v.heap.size v w') := fun v p q => by have := implLockHas_any _ _ a5 n5 c5 d5 m5 f5 tl tw xc xe xn lo hi ex v p q (by have := NT.out; omega) (by have := NT.out; omega); rwa [HH.out] at this
            have CL : Hid (∀ v, Lr v (fun _ => True) (.slice ha hn hc) hl → Lr v (fun _ => True) (.slice wa wn wc) wl → Calls Try.prog 33 #[.agg #[.slice ha hn hc, .slice wa wn wc], .agg #[.int .i64 xc, .int .i64 xe, .int .i64 xn], .agg #[.string lo, .string hi], .bool ex] v fun r w' => r = .returned (.bool (hl.any (hasF (xc, xe, xn) lo hi ex))) ∧ Below v.heap.size v w') := fun v p q => by have := specLockHas_any _ _ ha hn hc wa wn wc hl wl xc xe xn lo hi ex v p q (by have := N1.out; omega) (by have := N2.out; omega); rwa [hasV_def, HOK0.out, Bool.true_and] at this
            generalize hl.any (hasF (xc, xe, xn) lo hi ex) = z at *
            clear HH HHAD
            have z0 := M9.out.cell (j := 0) rfl
            have z1 := M9.out.cell (j := 1) rfl
            have u0 := O9.out.cell (j := 0) rfl
            have u1 := O9.out.cell (j := 1) rfl
            have x0 := K9.out.cell (j := 0) rfl
            have x1 := K9.out.cell (j := 1) rfl
            have y0 := J9.out.cell (j := 0) rfl
            have y1 := J9.out.cell (j := 1) rfl
            have y2 := J9.out.cell (j := 2) rfl
            have y3 := J9.out.cell (j := 3) rfl
            have y4 := J9.out.cell (j := 4) rfl
            have y5 := J9.out.cell (j := 5) rfl
            go_wp2_with fail
            refine (CM.out _ R9.out S9.out).mono ?_
            rintro r w10 ⟨rfl, hb⟩
            have K10 := hid (K9.out.below hb)
            have J10 := hid (J9.out.below hb)
            have P10 := hid (P9.out.below hb)
            have Q10 := hid (Q9.out.below hb)
            have M10 := hid (M9.out.below hb)
            have R10 := hid (R9.out.below hb)
            have S10 := hid (S9.out.below hb)
            have O10 := hid (O9.out.below hb)
            have X10 := hid (X9.out.below hb)
            have Y10 := hid (Y9.out.below hb)
            have B10 := hid (btL' B9.out hb)
            clear hb K9 J9 P9 Q9 M9 R9 S9 O9 X9 Y9 B9 z0 z1 u0 u1 x0 x1 y0 y1 y2 y3 y4 y5
            have z0 := M10.out.cell (j := 0) rfl
            have z1 := M10.out.cell (j := 1) rfl
            have u0 := O10.out.cell (j := 0) rfl
            have u1 := O10.out.cell (j := 1) rfl
            have x0 := K10.out.cell (j := 0) rfl
            have x1 := K10.out.cell (j := 1) rfl
            have y0 := J10.out.cell (j := 0) rfl
            have y1 := J10.out.cell (j := 1) rfl
            have y2 := J10.out.cell (j := 2) rfl
            have y3 := J10.out.cell (j := 3) rfl
            have y4 := J10.out.cell (j := 4) rfl
            have y5 := J10.out.cell (j := 5) rfl
            go_wp2_with fail
            refine (CF.out _ X10.out Y10.out).mono ?_
            rintro r w11 ⟨rfl, hb⟩
            have K11 := hid (K10.out.below hb)
            have J11 := hid (J10.out.below hb)
            have P11 := hid (P10.out.below hb)
            have Q11 := hid (Q10.out.below hb)
            have M11 := hid (M10.out.below hb)
            have R11 := hid (R10.out.below hb)
            have S11 := hid (S10.out.below hb)
            have O11 := hid (O10.out.below hb)
            have X11 := hid (X10.out.below hb)
            have Y11 := hid (Y10.out.below hb)
            have B11 := hid (btL' B10.out hb)
            clear hb K10 J10 P10 Q10 M10 R10 S10 O10 X10 Y10 B10 z0 z1 u0 u1 x0 x1 y0 y1 y2 y3 y4 y5
            have z0 := M11.out.cell (j := 0) rfl
            have z1 := M11.out.cell (j := 1) rfl
            have u0 := O11.out.cell (j := 0) rfl
            have u1 := O11.out.cell (j := 1) rfl
            have x0 := K11.out.cell (j := 0) rfl
            have x1 := K11.out.cell (j := 1) rfl
            have y0 := J11.out.cell (j := 0) rfl
            have y1 := J11.out.cell (j := 1) rfl
            have y2 := J11.out.cell (j := 2) rfl
            have y3 := J11.out.cell (j := 3) rfl
            have y4 := J11.out.cell (j := 4) rfl
            have y5 := J11.out.cell (j := 5) rfl
            go_wp2_with fail
            refine (CH.out _ R11.out S11.out).mono ?_
            rintro r w12 ⟨rfl, hb⟩
            have K12 := hid (K11.out.below hb)
            have J12 := hid (J11.out.below hb)
            have P12 := hid (P11.out.below hb)
            have Q12 := hid (Q11.out.below hb)
            have M12 := hid (M11.out.below hb)
            have R12 := hid (R11.out.below hb)
            have S12 := hid (S11.out.below hb)
            have O12 := hid (O11.out.below hb)
            have X12 := hid (X11.out.below hb)
            have Y12 := hid (Y11.out.below hb)
            have B12 := hid (btL' B11.out hb)
            clear hb K11 J11 P11 Q11 M11 R11 S11 O11 X11 Y11 B11 z0 z1 u0 u1 x0 x1 y0 y1 y2 y3 y4 y5
            have z0 := M12.out.cell (j := 0) rfl
            have z1 := M12.out.cell (j := 1) rfl
            have u0 := O12.out.cell (j := 0) rfl
            have u1 := O12.out.cell (j := 1) rfl
            have x0 := K12.out.cell (j := 0) rfl
            have x1 := K12.out.cell (j := 1) rfl
            have y0 := J12.out.cell (j := 0) rfl
            have y1 := J12.out.cell (j := 1) rfl
            have y2 := J12.out.cell (j := 2) rfl
            have y3 := J12.out.cell (j := 3) rfl
            have y4 := J12.out.cell (j := 4) rfl
            have y5 := J12.out.cell (j := 5) rfl
            have hz3 : (true == true) = true := rfl
            go_wp2
            go_ret
            exact ⟨by simp, B12.out⟩
      · skip
        have z0 := M3.out.cell (j := 0) rfl
        have z1 := M3.out.cell (j := 1) rfl
        have x0 := K3.out.cell (j := 0) rfl
        have x1 := K3.out.cell (j := 1) rfl
        have y0 := J3.out.cell (j := 0) rfl
        have y1 := J3.out.cell (j := 1) rfl
        have y2 := J3.out.cell (j := 2) rfl
        have y3 := J3.out.cell (j := 3) rfl
        have y4 := J3.out.cell (j := 4) rfl
        have y5 := J3.out.cell (j := 5) rfl
        rw [← HV3.out] at z0 z1 x0 x1 y0 y1 y2 y3 y4 y5
        go_wp2_with fail
        refine (C3.out _ (by rw [HV3.out]; exact R3.out) (by rw [HV3.out]; exact S3.out)).mono ?_
        rw [HV3.out]
        clear z0 z1 x0 x1 y0 y1 y2 y3 y4 y5
        rintro r w4 ⟨a9, n9, c9, d9, m9, f9, g9, i9, u9, rfl, ⟨p9, q9⟩, hb⟩
        have hb2 : Below V3.heap.size V3 (w4.alloc (.cells #[.slice a9 n9 c9, .slice d9 m9 f9] 71)) := btL' hb (below_new (Below.refl _ _))
        have K4 := hid (K3.out.below hb2)
        have J4 := hid (J3.out.below hb2)
        have P4 := hid (P3.out.below hb2)
        have Q4 := hid (Q3.out.below hb2)
        have M4 := hid (M3.out.below hb2)
        have R4 := hid (R3.out.below hb2)
        have S4 := hid (S3.out.below hb2)
        have B4 := hid (btL' B3.out hb2)
        have O4 := hid (Bk.new w4 71 [.slice a9 n9 c9, .slice d9 m9 f9])
        have X4 := hid (p9.below (below_new (o := .cells #[.slice a9 n9 c9, .slice d9 m9 f9] 71) (Below.refl _ _)))
        have Y4 := hid (q9.below (below_new (o := .cells #[.slice a9 n9 c9, .slice d9 m9 f9] 71) (Below.refl _ _)))
        have NF : Hid (fl.length + fw.length ≤ 60) := lksOk_len FO.out.1
        have NX : Hid (n9 = fl.length ∧ m9 = fw.length) := ⟨(Rw.len X4.out).1, (Rw.len Y4.out).1⟩
        clear hb hb2 p9 q9 K3 J3 P3 Q3 M3 R3 S3 B3 C3
        go_upto_region 11 with (fail)
        generalize w4.alloc (.cells #[.slice a9 n9 c9, .slice d9 m9 f9] 71) = V4 at *
        generalize w4.heap.size = b9 at *
        have K5 := hid (K4.out.below (below_drew V4))
        have J5 := hid (J4.out.below (below_drew V4))
        have P5 := hid (P4.out.below (below_drew V4))
        have Q5 := hid (Q4.out.below (below_drew V4))
        have M5 := hid (M4.out.below (below_drew V4))
        have R5 := hid (R4.out.below (below_drew V4))
        have S5 := hid (S4.out.below (below_drew V4))
        have O5 := hid (O4.out.below (below_drew V4))
        have X5 := hid (X4.out.below (below_drew V4))
        have Y5 := hid (Y4.out.below (below_drew V4))
        have B5 := hid (btL' B4.out (below_drew V4))
        clear K4 J4 P4 Q4 M4 R4 S4 O4 X4 Y4 B4
        refine wp_region_noPanic ?_
        refine wp_region_held_drew (S := fun v => v.cell? ⟨b9, 0, none⟩ = some (.slice a9 n9 c9) ∧ v.cell? ⟨b9, 1, none⟩ = some (.slice d9 m9 f9)) (by kernel_rfl) (⟨O5.out.cell (j := 0) rfl, O5.out.cell (j := 1) rfl⟩) (fun hHeld => ?_)
        simp only [List.size_toArray, List.length_cons, List.length_nil, Array.replicate_succ, Array.replicate_zero, Nat.reduceAdd, List.push_toArray, List.nil_append, List.cons_append]
        refine wpAnyH_take (i := 1) (v := (.pointer (some ⟨b9, 0, none⟩))) rfl (by kernel_rfl) (by kernel_rfl) (by kernel_rfl) (fun _ _ _ h => h) (Or.inl ⟨by rfl, ?_⟩) (by assumption) ?_
        · intro w hSw
          (try dsimp only at hSw)
          go_simp
        try simp only [List.getElem_toArray]
        try simp only [List.getElem_cons_succ]
        try simp only [List.getElem_cons_zero]
        try simp only [Act.put]
        try simp only [List.setIfInBounds_toArray]
        try simp only [List.set_cons_succ]
        try simp only [List.set_cons_zero]
        refine wpAnyH_take (i := 2) (v := (.slice a9 n9 c9)) rfl (by kernel_rfl) (by kernel_rfl) (by kernel_rfl) (fun _ _ _ h => h) (Or.inl ⟨by rfl, ?_⟩) (by assumption) ?_
        · intro w hSw
          (try dsimp only at hSw)
          go_simp
        try simp only [List.getElem_toArray]
        try simp only [List.getElem_cons_succ]
        try simp only [List.getElem_cons_zero]
        try simp only [Act.put]
        try simp only [List.setIfInBounds_toArray]
        try simp only [List.set_cons_succ]
        try simp only [List.set_cons_zero]
        refine wpAnyH_take (i := 4) (v := (.pointer (some ⟨b9, 1, none⟩))) rfl (by kernel_rfl) (by kernel_rfl) (by kernel_rfl) (fun _ _ _ h => h) (Or.inl ⟨by rfl, ?_⟩) (by assumption) ?_
        · intro w hSw
          (try dsimp only at hSw)
          go_simp
        try simp only [List.getElem_toArray]
        try simp only [List.getElem_cons_succ]
        try simp only [List.getElem_cons_zero]
        try simp only [Act.put]
        try simp only [List.setIfInBounds_toArray]
        try simp only [List.set_cons_succ]
        try simp only [List.set_cons_zero]
        refine wpAnyH_take (i := 5) (v := (.slice d9 m9 f9)) rfl (by kernel_rfl) (by kernel_rfl) (by kernel_rfl) (fun _ _ _ h => h) (Or.inl ⟨by rfl, ?_⟩) (by assumption) ?_
        · intro w hSw
          (try dsimp only at hSw)
          go_simp
        try simp only [List.getElem_toArray]
        try simp only [List.getElem_cons_succ]
        try simp only [List.getElem_cons_zero]
        try simp only [Act.put]
        try simp only [List.setIfInBounds_toArray]
        try simp only [List.set_cons_succ]
        try simp only [List.set_cons_zero]
        refine wpAnyH_take (i := 8) (v := (.int .i64 0)) rfl (by kernel_rfl) (by kernel_rfl) (by kernel_rfl) (fun _ _ _ h => h) (Or.inl ⟨by rfl, ?_⟩) (by assumption) ?_
        · intro w hSw
          (try dsimp only at hSw)
          go_simp
        try simp only [List.getElem_toArray]
        try simp only [List.getElem_cons_succ]
        try simp only [List.getElem_cons_zero]
        try simp only [Act.put]
        try simp only [List.setIfInBounds_toArray]
        try simp only [List.set_cons_succ]
        try simp only [List.set_cons_zero]
        refine wpAnyH_ready (rs := [0]) (by kernel_rfl) (by simp) ?_
        refine AllReadyH.cons rfl (fun K1 hK => ?_) AllReadyH.nil
        go_simp
        try go_wp2_with fail
        have h0 := below_new (o := .cells #[] 75) (w := V4) (below_drew _)
        have hw6 : Below V4.heap.size V4.drew (V4.alloc (.cells #[] 75)).drew := ⟨h0.os, h0.tape, h0.output, h0.size, h0.block⟩
        have hb6 := hid hw6
        clear hw6 h0
        have E6 : Hid (Bk (V4.alloc (.cells #[] 75)).drew V4.heap.size 75 []) := (Bk.new V4 75 []).below (below_drew _)
        have HG6 : Hid (V4.drew.heap.size = V4.heap.size) := rfl
        refine hK.out _ _ ?_ (fun hHeld => ?_)
        · exact ⟨(O5.out.below hb6.out).cell (j := 0) rfl, (O5.out.below hb6.out).cell (j := 1) rfl⟩
        clear hK K1
        try simp only [List.getElem_toArray]
        try simp only [List.getElem_cons_succ]
        try simp only [List.getElem_cons_zero]
        try simp only [Act.put]
        try simp only [List.setIfInBounds_toArray]
        try simp only [List.set_cons_succ]
        try simp only [List.set_cons_zero]
        generalize (V4.alloc (.cells #[] 75)).drew = V6 at *
        generalize V4.drew = V5 at *
        generalize V4.heap.size = g6 at *
        refine wpAnyH_ready (rs := [3]) (by kernel_rfl) (by simp) ?_
        refine AllReadyH.cons rfl (fun K1 hK => ?_) AllReadyH.nil
        refine step_append_lr rfl _ _ rfl g6 _ [] rfl (lw_empty E6.out (Nat.le_refl _)) _ (.slice a9 n9 c9) fl rfl (X5.out.below (by rw [HG6.out]; exact hb6.out)) (by have := NF.out; simp; omega) (by have h1 := hb6.out.size; have h2 := HG6.out; omega) ?_
        intro a7 n7 c7 V7 hO7 hg7 ha7
        rw [List.nil_append] at hO7
        have hb7 : Hid (Below g6 V5 V7) := hb6.out.trans ((only_of_grown hg7 (R := fun y => g6 ≤ y) (fun k e => by have q : g6 = k := Option.some.inj e; show g6 ≤ k; omega)).below (by have h1 := hb6.out.size; have h2 := HG6.out; omega) (fun b hb e => by omega))
        have W7 := hid hO7
        clear hO7 hg7 ha7 hb6 E6
        refine hK.out _ _ ?_ (fun hHeld => ?_)
        · exact ⟨(O5.out.below (by rw [HG6.out]; exact hb7.out)).cell (j := 0) rfl, (O5.out.below (by rw [HG6.out]; exact hb7.out)).cell (j := 1) rfl⟩
        clear hK K1
        try simp only [List.getElem_toArray]
        try simp only [List.getElem_cons_succ]
        try simp only [List.getElem_cons_zero]
        try simp only [Act.put]
        try simp only [List.setIfInBounds_toArray]
        try simp only [List.set_cons_succ]
        try simp only [List.set_cons_zero]
        refine wpAnyH_ready (rs := [6]) (by kernel_rfl) (by simp) ?_
        refine AllReadyH.cons rfl (fun K1 hK => ?_) AllReadyH.nil
        refine step_append_lr rfl _ _ rfl g6 _ fl rfl W7.out _ (.slice d9 m9 f9) fw rfl (Y5.out.below (by rw [HG6.out]; exact hb7.out)) (by have := NF.out; omega) (by have h1 := hb7.out.size; have h2 := HG6.out; omega) ?_
        intro a8 n8 c8 V8 hO8 hg8 ha8
        have hb8 : Hid (Below g6 V5 V8) := hb7.out.trans ((only_of_grown hg8 (R := fun y => g6 ≤ y) (fun k e => (W7.out.lt e).1)).below (by have h1 := hb7.out.size; have h2 := HG6.out; omega) (fun b hb e => by have h3 : g6 ≤ b := e; omega))
        have W8 := hid hO8.lr
        have HN8 : Hid (n8 = (fl ++ fw).length) := (ownL_at hO8).1
        have HN9 : Hid (n8 ≤ 60) := by have h1 := HN8.out; have h2 := NF.out; rw [List.length_append] at h1; show _ ≤ _; omega
        clear hO8 hg8 ha8 hb7 W7
        refine hK.out _ _ ?_ (fun hHeld => ?_)
        · exact ⟨(O5.out.below (by rw [HG6.out]; exact hb8.out)).cell (j := 0) rfl, (O5.out.below (by rw [HG6.out]; exact hb8.out)).cell (j := 1) rfl⟩
        clear hK K1
        try simp only [List.getElem_toArray]
        try simp only [List.getElem_cons_succ]
        try simp only [List.getElem_cons_zero]
        try simp only [Act.put]
        try simp only [List.setIfInBounds_toArray]
        try simp only [List.set_cons_succ]
        try simp only [List.set_cons_zero]
        refine wpAnyH_take (i := 7) (v := (.int .i64 n8)) rfl (by kernel_rfl) (by kernel_rfl) (by kernel_rfl) (fun _ _ _ h => h) (Or.inl ⟨by rfl, ?_⟩) (by assumption) ?_
        · intro w hSw
          (try dsimp only at hSw)
          go_simp
        try simp only [List.getElem_toArray]
        try simp only [List.getElem_cons_succ]
        try simp only [List.getElem_cons_zero]
        try simp only [Act.put]
        try simp only [List.setIfInBounds_toArray]
        try simp only [List.set_cons_succ]
        try simp only [List.set_cons_zero]
        refine wpAnyH_done (by kernel_rfl) ?_ _
        refine NoPanic.normal ?_
        rw [← HG6.out] at hb8
        have hb := hb8.out
        have K8 := hid (K5.out.below hb)
        have J8 := hid (J5.out.below hb)
        have P8 := hid (P5.out.below hb)
        have Q8 := hid (Q5.out.below hb)
        have M8 := hid (M5.out.below hb)
        have R8 := hid (R5.out.below hb)
        have S8 := hid (S5.out.below hb)
        have O8 := hid (O5.out.below hb)
        have X8 := hid (X5.out.below hb)
        have Y8 := hid (Y5.out.below hb)
        have B8 := hid (btL' B5.out hb)
        clear hb hb8 HG6 K5 J5 P5 Q5 M5 R5 S5 O5 X5 Y5 B5
        have hn8 : (n8 : Int) ≤ 60 := by have := HN9.out; omega
        try go_wp2_with fail
        go_loopw [67] (fun i v => ∃ k : Nat, k ≤ n8 ∧ i = .int .i64 k ∧ Hid (Below V8.heap.size V8 v)) (fun i _ => n8 - (intOf i).toNat)
        case atStart => exact ⟨0, Nat.zero_le _, rfl, Below.refl _ _⟩
        case round =>
          obtain ⟨j, hj, rfl, HB⟩ := hrel
          by_cases hlt : j < n8
          · have hlt' : (j : Int) < (n8 : Int) := by omega
            have hml : j < (fl ++ fw).length := by rw [← HN8.out]; exact hlt
            obtain ⟨q, off, hqa, -, -, hcell⟩ := (W8.out.below HB.out).at (by omega)
            obtain ⟨hc0, hc1, hc2, hc3, hc4, hc5⟩ := hcell j hlt
            clear hcell
            subst hqa
            have HNE : Hid ((lAt (fl ++ fw) j).1 ≠ (xc, xe, xn)) := FO.out.2 _ (by have := lAt_mem hml; rwa [List.mem_append] at this)
            generalize lAt (fl ++ fw) j = cur at hc0 hc1 hc2 hc3 hc4 hc5 HNE
            obtain ⟨⟨cc, ce, cn⟩, ⟨clo, chi⟩, cex⟩ := cur
            have hq := eql_tx cc ce cn xc xe xn
            rw [decide_eq_false HNE.out] at hq
            have hg := guard_tx .eql
            have J9 := hid (J8.out.below HB.out)
            have y0 := J9.out.cell (j := 0) rfl
            have y1 := J9.out.cell (j := 1) rfl
            have y2 := J9.out.cell (j := 2) rfl
            have l1 := J9.out.lt
            have B9 : Hid (Below V8.heap.size V8 (wr.alloc (.cells #[.int .i64 cc, .int .i64 ce, .int .i64 cn, .string clo, .string chi, .bool cex] 75))) := btL' HB.out (below_new (Below.refl _ _))
            clear hml HNE
            go_wp2
            go_roundw
            case rel => exact ⟨j + 1, by omega, by go_num, B9.out⟩
            case measure => simp [intOf]; omega
          · skip
            have K9 := hid (K8.out.below HB.out)
            have J9 := hid (J8.out.below HB.out)
            have P9 := hid (P8.out.below HB.out)
            have Q9 := hid (Q8.out.below HB.out)
            have M9 := hid (M8.out.below HB.out)
            have R9 := hid (R8.out.below HB.out)
            have S9 := hid (S8.out.below HB.out)
            have O9 := hid (O8.out.below HB.out)
            have X9 := hid (X8.out.below HB.out)
            have Y9 := hid (Y8.out.below HB.out)
            have B9 := hid (btL' B8.out HB.out)
            clear K8 J8 P8 Q8 M8 R8 S8 O8 X8 Y8 B8 W8 HN8
            have CM : Hid (∀ v, Lr v (fun _ => True) (.slice a5 n5 c5) tl → Lr v (fun _ => True) (.slice d5 m5 f5) tw → Calls Try.prog 31 #[.agg #[.slice a5 n5 c5, .slice d5 m5 f5]] v fun r w' => r = .returned (.bool true) ∧ Below v.heap.size v w') := fun v p q => by have := implLocksOk_any _ _ a5 n5 c5 d5 m5 f5 tl tw v p q (by have := NT.out; omega) (by have := NT.out; omega); rwa [HOK.out] at this
            have CF : Hid (∀ v, Lr v (fun _ => True) (.slice a9 n9 c9) fl → Lr v (fun _ => True) (.slice d9 m9 f9) fw → Calls Try.prog 31 #[.agg #[.slice a9 n9 c9, .slice d9 m9 f9]] v fun r w' => r = .returned (.bool true) ∧ Below v.heap.size v w') := fun v p q => by have := implLocksOk_any _ _ a9 n9 c9 d9 m9 f9 fl fw v p q (by have h1 := NX.out; have h2 := NF.out; omega) (by have h1 := NX.out; have h2 := NF.out; omega); rwa [FO.out.1] at this
            have HH : Hid (hasV tl tw (xc, xe, xn) lo hi ex = (decide ((3 : Int) = 0) || hl.any (hasF (xc, xe, xn) lo hi ex))) := by show _ = _; rw [hasV_def, HOK.out, Bool.true_and]; exact HHAD.out
            have CH : Hid (∀ v, Lr v (fun _ => True) (.slice a5 n5 c5) tl → Lr v (fun _ => True) (.slice d5 m5 f5) tw → Calls Try.prog 32 #[.agg #[.slice a5 n5 c5, .slice d5 m5 f5], .agg #[.int .i64 xc, .int .i64 xe, .int .i64 xn], .agg #[.string lo, .string hi], .bool ex] v fun r w' => r = .returned (.bool (decide ((3 : Int) = 0) || hl.any (hasF (xc, xe, xn) lo hi ex))) ∧ Below v.heap.size v w') := fun v p q => by have := implLockHas_any _ _ a5 n5 c5 d5 m5 f5 tl tw xc xe xn lo hi ex v p q (by have := NT.out; omega) (by have := NT.out; omega); rwa [HH.out] at this
            have CL : Hid (∀ v, Lr v (fun _ => True) (.slice ha hn hc) hl → Lr v (fun _ => True) (.slice wa wn wc) wl → Calls Try.prog 33 #[.agg #[.slice ha hn hc, .slice wa wn wc], .agg #[.int .i64 xc, .int .i64 xe, .int .i64 xn], .agg #[.string lo, .string hi], .bool ex] v fun r w' => r = .returned (.bool (hl.any (hasF (xc, xe, xn) lo hi ex))) ∧ Below v.heap.size v w') := fun v p q => by have := specLockHas_any _ _ ha hn hc wa wn wc hl wl xc xe xn lo hi ex v p q (by have := N1.out; omega) (by have := N2.out; omega); rwa [hasV_def, HOK0.out, Bool.true_and] at this
            generalize hl.any (hasF (xc, xe, xn) lo hi ex) = z at *
            clear HH HHAD
            have z0 := M9.out.cell (j := 0) rfl
            have z1 := M9.out.cell (j := 1) rfl
            have u0 := O9.out.cell (j := 0) rfl
            have u1 := O9.out.cell (j := 1) rfl
            have x0 := K9.out.cell (j := 0) rfl
            have x1 := K9.out.cell (j := 1) rfl
            have y0 := J9.out.cell (j := 0) rfl
            have y1 := J9.out.cell (j := 1) rfl
            have y2 := J9.out.cell (j := 2) rfl
            have y3 := J9.out.cell (j := 3) rfl
            have y4 := J9.out.cell (j := 4) rfl
            have y5 := J9.out.cell (j := 5) rfl
            go_wp2_with fail
            refine (CM.out _ R9.out S9.out).mono ?_
            rintro r w10 ⟨rfl, hb⟩
            have K10 := hid (K9.out.below hb)
            have J10 := hid (J9.out.below hb)
            have P10 := hid (P9.out.below hb)
            have Q10 := hid (Q9.out.below hb)
            have M10 := hid (M9.out.below hb)
            have R10 := hid (R9.out.below hb)
            have S10 := hid (S9.out.below hb)
            have O10 := hid (O9.out.below hb)
            have X10 := hid (X9.out.below hb)
            have Y10 := hid (Y9.out.below hb)
            have B10 := hid (btL' B9.out hb)
            clear hb K9 J9 P9 Q9 M9 R9 S9 O9 X9 Y9 B9 z0 z1 u0 u1 x0 x1 y0 y1 y2 y3 y4 y5
            have z0 := M10.out.cell (j := 0) rfl
            have z1 := M10.out.cell (j := 1) rfl
            have u0 := O10.out.cell (j := 0) rfl
            have u1 := O10.out.cell (j := 1) rfl
            have x0 := K10.out.cell (j := 0) rfl
            have x1 := K10.out.cell (j := 1) rfl
            have y0 := J10.out.cell (j := 0) rfl
            have y1 := J10.out.cell (j := 1) rfl
            have y2 := J10.out.cell (j := 2) rfl
            have y3 := J10.out.cell (j := 3) rfl
            have y4 := J10.out.cell (j := 4) rfl
            have y5 := J10.out.cell (j := 5) rfl
            go_wp2_with fail
            refine (CF.out _ X10.out Y10.out).mono ?_
            rintro r w11 ⟨rfl, hb⟩
            have K11 := hid (K10.out.below hb)
            have J11 := hid (J10.out.below hb)
            have P11 := hid (P10.out.below hb)
            have Q11 := hid (Q10.out.below hb)
            have M11 := hid (M10.out.below hb)
            have R11 := hid (R10.out.below hb)
            have S11 := hid (S10.out.below hb)
            have O11 := hid (O10.out.below hb)
            have X11 := hid (X10.out.below hb)
            have Y11 := hid (Y10.out.below hb)
            have B11 := hid (btL' B10.out hb)
            clear hb K10 J10 P10 Q10 M10 R10 S10 O10 X10 Y10 B10 z0 z1 u0 u1 x0 x1 y0 y1 y2 y3 y4 y5
            have z0 := M11.out.cell (j := 0) rfl
            have z1 := M11.out.cell (j := 1) rfl
            have u0 := O11.out.cell (j := 0) rfl
            have u1 := O11.out.cell (j := 1) rfl
            have x0 := K11.out.cell (j := 0) rfl
            have x1 := K11.out.cell (j := 1) rfl
            have y0 := J11.out.cell (j := 0) rfl
            have y1 := J11.out.cell (j := 1) rfl
            have y2 := J11.out.cell (j := 2) rfl
            have y3 := J11.out.cell (j := 3) rfl
            have y4 := J11.out.cell (j := 4) rfl
            have y5 := J11.out.cell (j := 5) rfl
            go_wp2_with fail
            refine (CH.out _ R11.out S11.out).mono ?_
            rintro r w12 ⟨rfl, hb⟩
            have K12 := hid (K11.out.below hb)
            have J12 := hid (J11.out.below hb)
            have P12 := hid (P11.out.below hb)
            have Q12 := hid (Q11.out.below hb)
            have M12 := hid (M11.out.below hb)
            have R12 := hid (R11.out.below hb)
            have S12 := hid (S11.out.below hb)
            have O12 := hid (O11.out.below hb)
            have X12 := hid (X11.out.below hb)
            have Y12 := hid (Y11.out.below hb)
            have B12 := hid (btL' B11.out hb)
            clear hb K11 J11 P11 Q11 M11 R11 S11 O11 X11 Y11 B11 z0 z1 u0 u1 x0 x1 y0 y1 y2 y3 y4 y5
            have z0 := M12.out.cell (j := 0) rfl
            have z1 := M12.out.cell (j := 1) rfl
            have u0 := O12.out.cell (j := 0) rfl
            have u1 := O12.out.cell (j := 1) rfl
            have x0 := K12.out.cell (j := 0) rfl
            have x1 := K12.out.cell (j := 1) rfl
            have y0 := J12.out.cell (j := 0) rfl
            have y1 := J12.out.cell (j := 1) rfl
            have y2 := J12.out.cell (j := 2) rfl
            have y3 := J12.out.cell (j := 3) rfl
            have y4 := J12.out.cell (j := 4) rfl
            have y5 := J12.out.cell (j := 5) rfl
            have hz3 : (z == z) = true := by simp
            go_wp2_with fail
            refine (CL.out _ P12.out Q12.out).mono ?_
            rintro r w13 ⟨rfl, hb⟩
            have K13 := hid (K12.out.below hb)
            have J13 := hid (J12.out.below hb)
            have P13 := hid (P12.out.below hb)
            have Q13 := hid (Q12.out.below hb)
            have M13 := hid (M12.out.below hb)
            have R13 := hid (R12.out.below hb)
            have S13 := hid (S12.out.below hb)
            have O13 := hid (O12.out.below hb)
            have X13 := hid (X12.out.below hb)
            have Y13 := hid (Y12.out.below hb)
            have B13 := hid (btL' B12.out hb)
            clear hb K12 J12 P12 Q12 M12 R12 S12 O12 X12 Y12 B12 z0 z1 u0 u1 x0 x1 y0 y1 y2 y3 y4 y5
            have z0 := M13.out.cell (j := 0) rfl
            have z1 := M13.out.cell (j := 1) rfl
            have u0 := O13.out.cell (j := 0) rfl
            have u1 := O13.out.cell (j := 1) rfl
            have x0 := K13.out.cell (j := 0) rfl
            have x1 := K13.out.cell (j := 1) rfl
            have y0 := J13.out.cell (j := 0) rfl
            have y1 := J13.out.cell (j := 1) rfl
            have y2 := J13.out.cell (j := 2) rfl
            have y3 := J13.out.cell (j := 3) rfl
            have y4 := J13.out.cell (j := 4) rfl
            have y5 := J13.out.cell (j := 5) rfl
            go_wp2
            go_ret
            exact ⟨by simp, B13.out⟩
end Go.Proofs.Ytcpdedpgjaimkaa
