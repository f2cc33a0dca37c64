/-
  l03Root of the specification.
-/
import Derived.Test.YtbaggkfgnjenoaaSb4
import Derived.Test.YtbaggkfgnjenoaaLy2
namespace Go.Proofs.Ytbaggkfgnjenoaa
open Go.RowKit
theorem results_sub2 {fn : Func} {p u : Tmp} (h : fn.results = #[.cell p 146, .tmp u]) (tmps : Array Value) (w : World) (g : Nat) {x y z b : Value} (hp : tmps.getD p undef = .pointer (some ⟨g, 0, none⟩)) (hb : tmps.getD u undef = b)
    (c0 : w.cell? ⟨g, 0, none⟩ = some x) (c1 : w.cell? ⟨g, 1, none⟩ = some y) (c2 : w.cell? ⟨g, 2, none⟩ = some z) : (results fn tmps).run Try.prog w = .ok (.tuple #[.agg #[x, y, z], b]) w := by
  have hp' : tmps[p]?.getD undef = .pointer (some ⟨g, 0, none⟩) := by simpa using hp
  have hb' : tmps[u]?.getD undef = b := by simpa using hb
  simp [results, h, hp', hb', asAddr, load_sub c0 c1 c2]
theorem take_no {P : Program} {md : Region.Mode} {ops : Array Oper} {Q : Exit → Act → World → Prop} {S : World → Prop} {i : Nat} {oi : Oper} {fuel : Nat} {listed : Array Bool} {a : Act} {w : World} (hi : ops[i]? = some oi)
    (hs : Region.noSelect ops = true) (hf : Region.free md ops listed i = true) (hr : (Region.ready md ops listed).contains i = true)
    (hQ : ∀ c a w, Q (.panic c) (a.put oi.dst undef) w → Q (.panic c) a w) (hw : Region.wanted oi (yielded ops a.tmps) = false) (hS : S w)
    (h : wpAnyH P md ops Q S fuel (listed.setIfInBounds i true) (a.put oi.dst undef) w) : wpAnyH P md ops Q S (fuel + 1) listed a w :=
  wpAnyH_take hi hs hf hr hQ (Or.inr ⟨hw, rfl⟩) hS h
/-- What l03Root reads: the sub, where the nodes stand in the walk's order. -/
def rootS (ns : List NB) : Option T := if ns.length = 0 then some (.mk [] []) else match rdS ns 13 0 with
  | none => none
  | some (t, n) => if n = ns.length then some t else none
/-- What comes of l03Root. -/
def RootPost (o : Option T) (w : World) (e : Ending) (w' : World) : Prop := match o with
  | none => ∃ lf ap np cp ak nk ck, e = .returned (.tuple #[.agg #[.bool lf, .slice ap np cp, .slice ak nk ck], .bool false])
  | some t => ∃ lf ap np cp ak nk ck, e = .returned (.tuple #[.agg #[.bool lf, .slice ap np cp, .slice ak nk ck], .bool true]) ∧ Sub w' (fun y => w.heap.size ≤ y ∧ y < w'.heap.size) lf (.slice ap np cp) (.slice ak nk ck) t
set_option maxHeartbeats 4000000 in
theorem specRoot_any (ns : List NB) (hlen : ns.length ≤ 1048576) (hsm : smallN ns) (S : Nat → Prop) (an : Option Addr) (nn cn : Nat) (w : World) (hN : Nr w S (.slice an nn cn) ns) :
    Calls Try.prog 110 #[.agg #[.slice an nn cn]] w fun e w' => RootPost (rootS ns) w e w' ∧ Below w.heap.size w w' := by
  have hnn := hid hN.len.1
  have hnn2 := hN.len.2.1
  have hnn3 := hN.len.2.2
  have HN := hid hN
  clear hN
  by_cases h0 : nn = 0
  · have HR : Hid (rootS ns = some (.mk [] [])) := by show _ = _; rw [rootS, if_pos]; rw [← hnn.out]; exact h0
    clear HN hnn
    subst h0
    go_enter Try.func110, Try.ntmps110
    go_wp2
    try simp only [Exit.inBlock, Exit.then]
    refine bodyPost_ret (v := .tuple #[.agg #[.bool true, .slice none 0 0, .slice none 0 0], .bool true]) ?_ rfl ?_
    · refine results_sub2 rfl _ _ _ rfl rfl ?_ ?_ ?_
      · go_simp
      · go_simp
      · go_simp
    · refine ⟨?_, below_new (below_new (Below.refl _ _))⟩
      rw [HR.out]
      exact ⟨true, none, 0, 0, none, 0, 0, rfl, .mk true _ _ [] [] (fun _ => false) (fun _ => .slice none 0 0) (fun _ => .slice none 0 0) rfl (rw_nil _ _) (rw_nil _ _) (fun i hi => by simp at hi)⟩
  · have e1 : ((nn : Int) == 0) = false := by simp; omega
    have HRS : Hid (rootS ns = match rdS ns 13 0 with
        | none => none
        | some (t, n) => if n = ns.length then some t else none) := by show _ = _; rw [rootS, if_neg]; rw [← hnn.out]; exact h0
    have HB0 : Hid (Below w.heap.size w ((w.alloc (.cells #[.slice an nn cn] 63)).alloc (.cells #[.bool false, .slice none 0 0, .slice none 0 0] 146))) := below_new (below_new (Below.refl _ _))
    have KT : Hid (Bk ((w.alloc (.cells #[.slice an nn cn] 63)).alloc (.cells #[.bool false, .slice none 0 0, .slice none 0 0] 146)) w.heap.size 63 [.slice an nn cn]) := (Bk.new w 63 [.slice an nn cn]).alloc _
    have KR : Hid (Bk ((w.alloc (.cells #[.slice an nn cn] 63)).alloc (.cells #[.bool false, .slice none 0 0, .slice none 0 0] 146)) (w.heap.size + 1) 146 [.bool false, .slice none 0 0, .slice none 0 0]) := by
      have := Bk.new (w.alloc (.cells #[.slice an nn cn] 63)) 146 [.bool false, .slice none 0 0, .slice none 0 0]
      show Bk _ _ _ _
      simpa using this
    have HZ : Hid (((w.alloc (.cells #[.slice an nn cn] 63)).alloc (.cells #[.bool false, .slice none 0 0, .slice none 0 0] 146)).heap.size = w.heap.size + 2) := by show _ = _; simp
    clear h0
    go_enter Try.func110, Try.ntmps110
    go_wp2_with fail
    refine (specRead_any ns hlen hsm 13 (Nat.le_refl _) S an nn cn 0 0 _ (HN.out.below HB0.out) (by omega)).mono ?_
    generalize (w.alloc (.cells #[.slice an nn cn] 63)).alloc (.cells #[.bool false, .slice none 0 0, .slice none 0 0] 146) = U at *
    rintro e w1 ⟨hpost, hb1⟩
    have HB1 := hid (HB0.out.trans (hb1.mono HB0.out.size))
    have KT1 := hid (KT.out.below hb1)
    have KR1 := hid (KR.out.below hb1)
    have HU := hid hb1.size
    cases hr : rdS ns 13 0 with
    | none =>
      rw [hr] at hpost HRS
      have he : e = .returned (.tuple #[.agg #[.bool false, .slice none 0 0, .slice none 0 0], .int .i64 0, .bool false]) := hpost
      subst he
      have KT2 := hid (KT1.out.alloc (.cells #[.bool false, .slice none 0 0, .slice none 0 0] 146))
      have KR2 := hid (KR1.out.alloc (.cells #[.bool false, .slice none 0 0, .slice none 0 0] 146))
      have t0 := KT2.out.cell (j := 0) rfl
      have r0 := KR2.out.cell (j := 0) rfl
      have r1 := KR2.out.cell (j := 1) rfl
      have r2 := KR2.out.cell (j := 2) rfl
      have q0 := KR2.out.free 0
      have q1 := KR2.out.free 1
      have q2 := KR2.out.free 2
      clear hpost hb1 KT KR KT1 KR1 HB0
      have d0 := (Bk.new w1 146 [.bool false, .slice none 0 0, .slice none 0 0]).cell (j := 0) rfl
      have d1 := (Bk.new w1 146 [.bool false, .slice none 0 0, .slice none 0 0]).cell (j := 1) rfl
      have d2 := (Bk.new w1 146 [.bool false, .slice none 0 0, .slice none 0 0]).cell (j := 2) rfl
      have HB2 := hid ((HB1.out.alloc HB1.out.size (.cells #[.bool false, .slice none 0 0, .slice none 0 0] 146)).drew)
      have hne1 : ¬ w1.heap.size = w.heap.size + 1 := by have := HU.out; have := HZ.out; omega
      have hne2 : ¬ w.heap.size = w.heap.size + 1 := by omega
      clear hr
      go_wp2_with fail
      generalize w1.alloc (.cells #[.bool false, .slice none 0 0, .slice none 0 0] 146) = u at *
      have T0 : Hid (KO (fun y => y = w.heap.size + 1) u u [(⟨w1.heap.size, 0, none⟩, .bool false), (⟨w1.heap.size, 1, none⟩, .slice none 0 0), (⟨w1.heap.size, 2, none⟩, .slice none 0 0), (⟨w.heap.size, 0, none⟩, .slice an nn cn)]) := ⟨fun p hp => by simp at hp; rcases hp with rfl | rfl | rfl | rfl <;> exact ⟨by assumption, by assumption⟩, Only.refl _ _⟩
      refine wp_region_noPanic ?_
      refine wp_region_held_drew (S := (fun z => z.cell? ⟨w1.heap.size, 0, none⟩ = some (.bool false) ∧ z.cell? ⟨w1.heap.size, 1, none⟩ = some (.slice none 0 0) ∧ z.cell? ⟨w1.heap.size, 2, none⟩ = some (.slice none 0 0) ∧ z.cell? ⟨w.heap.size, 0, none⟩ = some (.slice an nn cn) ∧ KO (fun y => y = w.heap.size + 1) u z [(⟨w1.heap.size, 0, none⟩, .bool false), (⟨w1.heap.size, 1, none⟩, .slice none 0 0), (⟨w1.heap.size, 2, none⟩, .slice none 0 0), (⟨w.heap.size, 0, none⟩, .slice an nn cn)])) (by kernel_rfl) ?_ (fun hHeld => ?_)
      · exact ko4 ⟨T0.out.cells, only_drew _ _ 1⟩
      simp only [List.size_toArray, List.length_cons, List.length_nil, Array.replicate_succ, Array.replicate_zero, Nat.reduceAdd, List.push_toArray, List.nil_append, List.cons_append]
      refine wpAnyH_take (i := 0) (v := .agg #[.bool false, .slice none 0 0, .slice none 0 0]) rfl (by kernel_rfl) (by kernel_rfl) (by kernel_rfl) (fun _ _ _ h => h) (Or.inl ⟨by rfl, ?_⟩) (by assumption) ?_
      · intro w hSw
        obtain ⟨g1', g2', g3', g4', _⟩ := hSw
        go_simp
      try simp only [List.getElem_toArray]
      try simp only [List.getElem_cons_succ]
      try simp only [List.getElem_cons_zero]
      try simp only [Act.put]
      try simp only [List.setIfInBounds_toArray]
      try simp only [List.set_cons_succ]
      try simp only [List.set_cons_zero]
      refine wpAnyH_take (i := 1) (v := .bool false) rfl (by kernel_rfl) (by kernel_rfl) (by kernel_rfl) (fun _ _ _ h => h) (Or.inl ⟨by rfl, ?_⟩) (by assumption) ?_
      · intro w hSw
        obtain ⟨g1', g2', g3', g4', _⟩ := hSw
        go_simp
      try simp only [List.getElem_toArray]
      try simp only [List.getElem_cons_succ]
      try simp only [List.getElem_cons_zero]
      try simp only [Act.put]
      try simp only [List.setIfInBounds_toArray]
      try simp only [List.set_cons_succ]
      try simp only [List.set_cons_zero]
      refine wpAnyH_take (i := 2) (v := .bool false) rfl (by kernel_rfl) (by kernel_rfl) (by kernel_rfl) (fun _ _ _ h => h) (Or.inl ⟨by rfl, ?_⟩) (by assumption) ?_
      · intro w hSw
        obtain ⟨g1', g2', g3', g4', _⟩ := hSw
        go_simp
      try simp only [List.getElem_toArray]
      try simp only [List.getElem_cons_succ]
      try simp only [List.getElem_cons_zero]
      try simp only [Act.put]
      try simp only [List.setIfInBounds_toArray]
      try simp only [List.set_cons_succ]
      try simp only [List.set_cons_zero]
      refine take_no (i := 3) rfl (by kernel_rfl) (by kernel_rfl) (by kernel_rfl) (fun _ _ _ h => h) (by rfl) (by assumption) ?_
      try simp only [List.getElem_toArray]
      try simp only [List.getElem_cons_succ]
      try simp only [List.getElem_cons_zero]
      try simp only [Act.put]
      try simp only [List.setIfInBounds_toArray]
      try simp only [List.set_cons_succ]
      try simp only [List.set_cons_zero]
      refine take_no (i := 4) rfl (by kernel_rfl) (by kernel_rfl) (by kernel_rfl) (fun _ _ _ h => h) (by rfl) (by assumption) ?_
      try simp only [List.getElem_toArray]
      try simp only [List.getElem_cons_succ]
      try simp only [List.getElem_cons_zero]
      try simp only [Act.put]
      try simp only [List.setIfInBounds_toArray]
      try simp only [List.set_cons_succ]
      try simp only [List.set_cons_zero]
      refine take_no (i := 5) rfl (by kernel_rfl) (by kernel_rfl) (by kernel_rfl) (fun _ _ _ h => h) (by rfl) (by assumption) ?_
      try simp only [List.getElem_toArray]
      try simp only [List.getElem_cons_succ]
      try simp only [List.getElem_cons_zero]
      try simp only [Act.put]
      try simp only [List.setIfInBounds_toArray]
      try simp only [List.set_cons_succ]
      try simp only [List.set_cons_zero]
      refine take_no (i := 6) rfl (by kernel_rfl) (by kernel_rfl) (by kernel_rfl) (fun _ _ _ h => h) (by rfl) (by assumption) ?_
      try simp only [List.getElem_toArray]
      try simp only [List.getElem_cons_succ]
      try simp only [List.getElem_cons_zero]
      try simp only [Act.put]
      try simp only [List.setIfInBounds_toArray]
      try simp only [List.set_cons_succ]
      try simp only [List.set_cons_zero]
      refine take_no (i := 7) rfl (by kernel_rfl) (by kernel_rfl) (by kernel_rfl) (fun _ _ _ h => h) (by rfl) (by assumption) ?_
      try simp only [List.getElem_toArray]
      try simp only [List.getElem_cons_succ]
      try simp only [List.getElem_cons_zero]
      try simp only [Act.put]
      try simp only [List.setIfInBounds_toArray]
      try simp only [List.set_cons_succ]
      try simp only [List.set_cons_zero]
      refine wpAnyH_take (i := 8) (v := .bool false) rfl (by kernel_rfl) (by kernel_rfl) (by kernel_rfl) (fun _ _ _ h => h) (Or.inl ⟨by rfl, ?_⟩) (by assumption) ?_
      · intro w hSw
        obtain ⟨g1', g2', g3', g4', _⟩ := hSw
        go_simp
      try simp only [List.getElem_toArray]
      try simp only [List.getElem_cons_succ]
      try simp only [List.getElem_cons_zero]
      try simp only [Act.put]
      try simp only [List.setIfInBounds_toArray]
      try simp only [List.set_cons_succ]
      try simp only [List.set_cons_zero]
      refine wpAnyH_ready (rs := [9]) (by kernel_rfl) (by simp) ?_
      refine AllReadyH.cons rfl (fun K1 hK => ?_) AllReadyH.nil
      go_simp
      try go_wp2_with fail
      refine hK.out _ _ ?_ (fun hHeld => ?_)
      · first | assumption | exact ko4 ⟨T0.out.cells, only_drew _ _ 1⟩ | exact ko4o ((only_set (R := fun y => y = w.heap.size + 1) rfl _).trans ((only_set (R := fun y => y = w.heap.size + 1) rfl _).trans (only_set (R := fun y => y = w.heap.size + 1) rfl _))) (by assumption)
      clear hK K1
      try simp only [List.getElem_toArray]
      try simp only [List.getElem_cons_succ]
      try simp only [List.getElem_cons_zero]
      try simp only [Act.put]
      try simp only [List.setIfInBounds_toArray]
      try simp only [List.set_cons_succ]
      try simp only [List.set_cons_zero]
      refine wpAnyH_ready (rs := [10]) (by kernel_rfl) (by simp) ?_
      refine AllReadyH.cons rfl (fun K1 hK => ?_) AllReadyH.nil
      go_simp
      try go_wp2_with fail
      refine hK.out _ _ ?_ (fun hHeld => ?_)
      · first | assumption | exact ko4 ⟨T0.out.cells, only_drew _ _ 1⟩ | exact ko4o ((only_set (R := fun y => y = w.heap.size + 1) rfl _).trans ((only_set (R := fun y => y = w.heap.size + 1) rfl _).trans (only_set (R := fun y => y = w.heap.size + 1) rfl _))) (by assumption)
      clear hK K1
      try simp only [List.getElem_toArray]
      try simp only [List.getElem_cons_succ]
      try simp only [List.getElem_cons_zero]
      try simp only [Act.put]
      try simp only [List.setIfInBounds_toArray]
      try simp only [List.set_cons_succ]
      try simp only [List.set_cons_zero]
      refine wpAnyH_done (by kernel_rfl) ?_ _
      refine NoPanic.normal ?_
      go_wp2
      try simp only [Exit.inBlock, Exit.then]
      refine bodyPost_ret (v := .tuple #[.agg #[.bool false, .slice none 0 0, .slice none 0 0], .bool false]) ?_ rfl ?_
      · refine results_sub2 rfl _ _ _ rfl rfl ?_ ?_ ?_
        · go_simp
        · go_simp
        · go_simp
      · refine ⟨?_, (((HB2.out.setCell (by show w.heap.size ≤ w.heap.size + 1; omega) _).setCell (by show w.heap.size ≤ w.heap.size + 1; omega) _).setCell (by show w.heap.size ≤ w.heap.size + 1; omega) _)⟩
        rw [HRS.out]
        exact ⟨_, _, _, _, _, _, _, rfl⟩
    | some tn =>
      obtain ⟨t, n⟩ := tn
      rw [hr] at hpost HRS
      obtain ⟨lf, ap, np, cp, ak, nk, ck, he, hsub⟩ := hpost
      subst he
      have KT2 := hid (KT1.out.alloc (.cells #[.bool lf, .slice ap np cp, .slice ak nk ck] 146))
      have KR2 := hid (KR1.out.alloc (.cells #[.bool lf, .slice ap np cp, .slice ak nk ck] 146))
      have t0 := KT2.out.cell (j := 0) rfl
      have r0 := KR2.out.cell (j := 0) rfl
      have r1 := KR2.out.cell (j := 1) rfl
      have r2 := KR2.out.cell (j := 2) rfl
      have q0 := KR2.out.free 0
      have q1 := KR2.out.free 1
      have q2 := KR2.out.free 2
      have d0 := (Bk.new w1 146 [.bool lf, .slice ap np cp, .slice ak nk ck]).cell (j := 0) rfl
      have d1 := (Bk.new w1 146 [.bool lf, .slice ap np cp, .slice ak nk ck]).cell (j := 1) rfl
      have d2 := (Bk.new w1 146 [.bool lf, .slice ap np cp, .slice ak nk ck]).cell (j := 2) rfl
      have HB2 := hid ((HB1.out.alloc HB1.out.size (.cells #[.bool lf, .slice ap np cp, .slice ak nk ck] 146)).drew)
      have HSB : Hid (Sub (w1.alloc (.cells #[.bool lf, .slice ap np cp, .slice ak nk ck] 146)).drew (fun y => w.heap.size + 2 ≤ y) lf (.slice ap np cp) (.slice ak nk ck) t) := ((hsub.kept (below_new (Below.refl _ _))).kept (below_drew _)).mono (fun y hy _ => by have := HZ.out; have := hy.1; omega)
      have hne1 : ¬ w1.heap.size = w.heap.size + 1 := by have := HU.out; have := HZ.out; omega
      have hne2 : ¬ w.heap.size = w.heap.size + 1 := by omega
      have HFIN : Hid (∀ b : Bool, b = decide (n = ns.length) → ∀ e w', e = .returned (.tuple #[.agg #[.bool lf, .slice ap np cp, .slice ak nk ck], .bool b]) → Sub w' (fun y => w.heap.size ≤ y ∧ y < w'.heap.size) lf (.slice ap np cp) (.slice ak nk ck) t → RootPost (rootS ns) w e w') := by
        rintro b rfl e w' rfl hs
        rw [HRS.out]
        simp only
        by_cases hn : n = ns.length
        · rw [if_pos hn, decide_eq_true hn]; exact ⟨lf, ap, np, cp, ak, nk, ck, rfl, hs⟩
        · rw [if_neg hn, decide_eq_false hn]; exact ⟨lf, ap, np, cp, ak, nk, ck, rfl⟩
      clear hb1 hr KT KR KT1 KR1 HB0 hsub HRS
      go_wp2_with fail
      generalize w1.alloc (.cells #[.bool lf, .slice ap np cp, .slice ak nk ck] 146) = u at *
      have T0 : Hid (KO (fun y => y = w.heap.size + 1) u u [(⟨w1.heap.size, 0, none⟩, .bool lf), (⟨w1.heap.size, 1, none⟩, .slice ap np cp), (⟨w1.heap.size, 2, none⟩, .slice ak nk ck), (⟨w.heap.size, 0, none⟩, .slice an nn cn)]) := ⟨fun p hp => by simp at hp; rcases hp with rfl | rfl | rfl | rfl <;> exact ⟨by assumption, by assumption⟩, Only.refl _ _⟩
      go_region_held3 (fun z => z.cell? ⟨w1.heap.size, 0, none⟩ = some (.bool lf) ∧ z.cell? ⟨w1.heap.size, 1, none⟩ = some (.slice ap np cp) ∧ z.cell? ⟨w1.heap.size, 2, none⟩ = some (.slice ak nk ck) ∧ z.cell? ⟨w.heap.size, 0, none⟩ = some (.slice an nn cn) ∧ KO (fun y => y = w.heap.size + 1) u z [(⟨w1.heap.size, 0, none⟩, .bool lf), (⟨w1.heap.size, 1, none⟩, .slice ap np cp), (⟨w1.heap.size, 2, none⟩, .slice ak nk ck), (⟨w.heap.size, 0, none⟩, .slice an nn cn)]) (first | assumption | exact ko4 ⟨T0.out.cells, only_drew _ _ 1⟩ | exact ko4o ((only_set (R := fun y => y = w.heap.size + 1) rfl _).trans ((only_set (R := fun y => y = w.heap.size + 1) rfl _).trans (only_set (R := fun y => y = w.heap.size + 1) rfl _))) (by assumption)) (first | fail)
      all_goals
        have hbeq : ((n : Int) == (nn : Int)) = decide (n = ns.length) := by
          rw [← hnn.out]
          by_cases h : n = nn
          · rw [decide_eq_true h, h]; simp
          · rw [decide_eq_false h]; simp; omega
        go_wp2
        try simp only [Exit.inBlock, Exit.then]
        refine bodyPost_ret (v := .tuple #[.agg #[.bool lf, .slice ap np cp, .slice ak nk ck], .bool (decide (n = ns.length))]) ?_ rfl ?_
        · refine results_sub2 rfl _ _ _ rfl ?_ ?_ ?_ ?_
          · show Value.bool ((n : Int) == (nn : Int)) = _
            rw [hbeq]
          · go_simp
          · go_simp
          · go_simp
        · refine ⟨HFIN.out _ rfl _ _ rfl ?_, (((HB2.out.setCell (by show w.heap.size ≤ w.heap.size + 1; omega) _).setCell (by show w.heap.size ≤ w.heap.size + 1; omega) _).setCell (by show w.heap.size ≤ w.heap.size + 1; omega) _)⟩
          have o : Only (fun y => y = w.heap.size + 1) u.drew (((u.drew.setCell ⟨w.heap.size + 1, 0, none⟩ (.bool lf)).setCell ⟨w.heap.size + 1, 1, none⟩ (.slice ap np cp)).setCell ⟨w.heap.size + 1, 2, none⟩ (.slice ak nk ck)) := ((only_set (R := fun y => y = w.heap.size + 1) rfl _).trans (only_set (R := fun y => y = w.heap.size + 1) rfl _)).trans (only_set (R := fun y => y = w.heap.size + 1) rfl _)
          exact (HSB.out.to o (fun y hy _ e => by omega)).mono (fun y hy hlt => ⟨by omega, hlt⟩)
end Go.Proofs.Ytbaggkfgnjenoaa

