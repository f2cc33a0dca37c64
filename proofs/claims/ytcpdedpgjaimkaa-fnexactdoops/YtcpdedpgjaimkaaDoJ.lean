/-
  DoOps of the program: the deed that writes.
-/
import Derived.Test.YtcpdedpgjaimkaaDoI
namespace Go.Proofs.Ytcpdedpgjaimkaa
open Go.RowKit
set_option linter.unusedVariables false
theorem take_noO {P : Program} {md : Region.Mode} {ops : Array Oper} {Q : Exit → Act → World → Prop} {S : World → Prop} {i : Nat} {oi : Oper} {fuel : Nat} {listed : Array Bool} {a : Act} {w : World} (hi : ops[i]? = some oi)
    (hs : Region.noSelect ops = true) (hf : Region.free md ops listed i = true) (hr : (Region.ready md ops listed).contains i = true)
    (hQ : ∀ c a w, Q (.panic c) (a.put oi.dst undef) w → Q (.panic c) a w) (hw : Region.wanted oi (yielded ops a.tmps) = false) (hS : S w)
    (h : wpAnyH P md ops Q S fuel (listed.setIfInBounds i true) (a.put oi.dst undef) w) : wpAnyH P md ops Q S (fuel + 1) listed a w :=
  wpAnyH_take hi hs hf hr hQ (Or.inr ⟨hw, rfl⟩) hS h
theorem dwr_iff {d : DK} (h : dkOk d = true) (t : Int) (bs : List Int) : dkOk (dwrD d t bs) = (decide (d.dw.length + 1 ≤ 500) && wrtOk d.sh.length (t, bs)) := by
  have hk := (dkOk_iff d).1 h
  rw [Bool.eq_iff_iff, Bool.and_eq_true, decide_eq_true_eq, dkOk_iff]
  constructor
  · intro h2
    have h3 := h2.2.2.2.2 d.dw.length (by simp [dwrD])
    rw [show dwAt (dwrD d t bs).dw d.dw.length = (t, bs) from wAt_end _ _] at h3
    exact ⟨by have := h2.2.2.1; simpa [dwrD] using this, h3⟩
  · intro ⟨h2, h3⟩
    refine ⟨hk.1, hk.2.1, by simpa [dwrD] using h2, hk.2.2.2.1, fun i hi => ?_⟩
    by_cases e : i < d.dw.length
    · rw [show dwAt (dwrD d t bs).dw i = dwAt d.dw i from wAt_left e]
      exact hk.2.2.2.2 i e
    · obtain rfl : i = d.dw.length := by simp [dwrD] at hi; omega
      rw [show dwAt (dwrD d t bs).dw d.dw.length = (t, bs) from wAt_end _ _]
      exact h3
/-- What the deed that writes leaves. -/
def DwP (u : World) (hb g cc sn : Nat) (V : List Value) (ss : List (List Int)) (ds : List DW) (t : Int) (bs : List Int) (e : Ending) (w' : World) : Prop :=
  (dkOk (dwrD ⟨ss, ds⟩ t bs) = true ∧ e = .returned (.bool true) ∧ ∃ a5 n5 c5 U5, HD u w' hb g cc sn V ss a5 n5 c5 U5 (ds ++ [(t, bs)])) ∨ (dkOk (dwrD ⟨ss, ds⟩ t bs) = false ∧ e = .returned (.bool false) ∧ Below u.heap.size u w' ∧ Bk w' (u.heap.size + 1) 46 [.slice none 0 0, .slice none 0 0])
/-- The hand behind the append, whether it is right or not. -/
structure HP (u v : World) (hb g cc sn : Nat) (V : List Value) (ss : List (List Int)) (ds : List DW) (t : Int) (bs : List Int) (a5 : Option Addr) (n5 c5 : Nat) : Prop where
  bel : Below u.heap.size u v
  k4 : Bk v (u.heap.size + 1) 46 [.slice none 0 0, .slice none 0 0]
  kh : Bk v hb 46 [.slice (some ⟨g, 0, none⟩) sn cc, .slice a5 n5 c5]
  good : dkOk (dwrD ⟨ss, ds⟩ t bs) = true → ∃ U5, HD u v hb g cc sn V ss a5 n5 c5 U5 (ds ++ [(t, bs)])
  len : n5 = ds.length + 1 ∧ n5 ≤ c5 ∧ c5 ≤ 9223372036854775807
theorem HP.below {u v v' : World} {hb g cc sn : Nat} {V : List Value} {ss : List (List Int)} {ds : List DW} {t : Int} {bs : List Int} {a5 : Option Addr} {n5 c5 : Nat} (h : HP u v hb g cc sn V ss ds t bs a5 n5 c5) (hb' : Below v.heap.size v v') : HP u v' hb g cc sn V ss ds t bs a5 n5 c5 :=
  ⟨bt7 h.bel hb', h.k4.below hb', h.kh.below hb', fun e => (by obtain ⟨U5, h5⟩ := h.good e; exact ⟨U5, h5.below hb'⟩), h.len⟩
theorem HD.append {w v v5 : World} {hb g cc sn : Nat} {V : List Value} {ss : List (List Int)} {da : Option Addr} {dn dc : Nat} {U : List (Int × Value)} {ds : List DW} (h : HD w v hb g cc sn V ss da dn dc U ds) (t : Int) (x : List Int) (p : Value) (hx : By v (fun y => y < w.heap.size) p x) {a5 : Option Addr} {n5 c5 : Nat}
    (ho : v5.ownsRow (w.heap.size + 2) 109 2 (.slice a5 n5 c5) (ds.length + 1) (wcs U ++ [.int .i64 t, p])) (hgr : v.grownBy v5 (Value.slice da dn dc).ownBlock) (ha : (Value.slice a5 n5 c5).ownBlock = (Value.slice da dn dc).ownBlock ∨ (Value.slice a5 n5 c5).ownBlock = some v.heap.size) :
    HP w (v5.setCell ⟨hb, 1, none⟩ (.slice a5 n5 c5)) hb g cc sn V ss ds t x a5 n5 c5 := by
  have o : Only (fun y => (Value.slice da dn dc).ownBlock = some y) v v5 := only_of_grown hgr (fun k e => e)
  have hl := h.hl
  have hlt : ∀ y, (Value.slice da dn dc).ownBlock = some y → w.heap.size + 2 ≤ y := fun y e => (World.ownsRow.lt h.drow y e).1
  exact ⟨(h.bel.trans (o.below h.bel.size (fun y hy e => by have := hlt y e; omega))).setCell (p := ⟨hb, 1, none⟩) (by show w.heap.size ≤ hb; omega) _, (h.k4.to o (fun e => by have := hlt _ e; omega)).setOther (by omega) _ _, (h.kh.to o (fun e => h.hd e)).set 1 _, fun e => ⟨_, h.push t x p hx ho hgr ha e⟩, (own_at ho).1, (own_at ho).2.1, (own_at ho).2.2.1⟩
set_option maxHeartbeats 4000000 in
set_option maxRecDepth 100000 in
theorem deedWrite_any (u : World) (x o hb g cc sn : Nat) (V : List Value) (ss : List (List Int)) (da : Option Addr) (dn dc : Nat) (U : List (Int × Value)) (ds : List DW) (s : Bool) (t : Int) (p : Option Addr) (n c : Nat) (bs : List Int) (w : World) (h : HD u w hb g cc sn V ss da dn dc U ds) (hx : Bk w x 124 [.pointer (some ⟨hb, 0, none⟩)]) (ho : Bk w o 111 [.bool s, .int .i64 t, .slice p n c])
    (hxn : (Value.slice da dn dc).ownBlock ≠ some x ∧ x ≠ hb) (hon : (Value.slice da dn dc).ownBlock ≠ some o ∧ o ≠ hb) (hby : By w (fun y => y < u.heap.size) (.slice p n c) bs) :
    Calls Try.prog 123 #[.pointer (some ⟨x, 0, none⟩), .pointer (some ⟨o, 0, none⟩)] w fun e w' => DwP u hb g cc sn V ss ds t bs e w' := by
  have H0 := hid h
  obtain ⟨hn1, hn2, ⟨hn3, hn4, hn5⟩, hn6, hn7, hn8, hn9⟩ := h.lens
  have HN := hid (And.intro hn1 hn2)
  have hdl : ds.length ≤ 1048576 := by omega
  have hbl := hby.len
  have HBL := hid hbl.1
  have hnc := hbl.2
  have HSX : Hid (∀ v, Only (fun y => (Value.slice da dn dc).ownBlock = some y ∨ y = hb) w v → v.cell? ⟨x, 0, none⟩ = some (.pointer (some ⟨hb, 0, none⟩)) ∧ v.cell? ⟨o, 1, none⟩ = some (.int .i64 t) ∧ v.cell? ⟨o, 2, none⟩ = some (.slice p n c)) := fun v ov =>
    ⟨(hx.to ov (fun e => e.elim hxn.1 hxn.2)).cell (j := 0) rfl, (ho.to ov (fun e => e.elim hon.1 hon.2)).cell (j := 1) rfl, (ho.to ov (fun e => e.elim hon.1 hon.2)).cell (j := 2) rfl⟩
  have HS0 := hid (HSX.out w.drew (only_of_below (below_drew _) _))
  have HW2 : Hid (Below w.heap.size w ((w.alloc (.cells #[.int .i64 t, .slice p n c] 109)).drew)) := bt7 (below_new (Below.refl _ _)) (below_drew _)
  have H2 := hid (h.below HW2.out)
  have BY2 := hid (hby.below HW2.out)
  have KN : Hid (Bk ((w.alloc (.cells #[.int .i64 t, .slice p n c] 109)).drew) w.heap.size 109 [.int .i64 t, .slice p n c]) := (Bk.new w 109 [.int .i64 t, .slice p n c]).below (below_drew _)
  have HBS : Hid (u.heap.size + 2 ≤ ((w.alloc (.cells #[.int .i64 t, .slice p n c] 109)).drew).heap.size) := by have h1 := H2.out.kh.lt; have h2 := h.hl; show _ ≤ _; omega
  have hlt : hb < w.heap.size := h.kh.lt
  have S2 := hid (HSX.out _ (only_of_below HW2.out _))
  have HIF := hid (dwr_iff h.ok t bs)
  have KX := hid hx
  have KO := hid ho
  have HNX := hid (And.intro hxn hon)
  clear h hx ho hby hxn hon hn1 hn2 hbl
  obtain ⟨⟨c1, c2⟩, f1, -, -⟩ := H0.out.cells
  have c3 := H2.out.cells.1.2
  have f3 := H2.out.cells.2.1
  go_enter Try.func123, Try.ntmps123
  go_wp2_with fail
  go_cut [] (fun wr => ∃ a5 n5 c5, Hid (HP u wr hb g cc sn V ss ds t bs a5 n5 c5) ∧ Hid (Only (fun y => (Value.slice da dn dc).ownBlock = some y ∨ y = hb) w wr))
  case first =>
    refine wp_region_noPanic ?_
    refine wp_region_held_drew (S := (fun v => v.cell? ⟨x, 0, none⟩ = some (.pointer (some ⟨hb, 0, none⟩)) ∧ v.cell? ⟨o, 1, none⟩ = some (.int .i64 t) ∧ v.cell? ⟨o, 2, none⟩ = some (.slice p n c))) (by kernel_rfl) HS0.out (fun hHeld => ?_)
    simp only [List.size_toArray, List.length_cons, List.length_nil, Array.replicate_succ, Array.replicate_zero, Nat.reduceAdd, List.push_toArray, List.nil_append, List.cons_append]
    refine wpAnyH_take (i := 0) (v := (.pointer (some ⟨hb, 0, none⟩))) rfl (by kernel_rfl) (by kernel_rfl) (by kernel_rfl) (fun _ _ _ h => h) (Or.inl ⟨by rfl, ?_⟩) (by assumption) ?_
    · intro w hSw
      (try dsimp only at hSw)
      go_simp
    try simp only [List.getElem_toArray]
    try simp only [List.getElem_cons_succ]
    try simp only [List.getElem_cons_zero]
    try simp only [Act.put]
    try simp only [List.setIfInBounds_toArray]
    try simp only [List.set_cons_succ]
    try simp only [List.set_cons_zero]
    refine wpAnyH_take (i := 1) (v := (.pointer (some ⟨hb, 0, none⟩))) rfl (by kernel_rfl) (by kernel_rfl) (by kernel_rfl) (fun _ _ _ h => h) (Or.inl ⟨by rfl, ?_⟩) (by assumption) ?_
    · intro w hSw
      (try dsimp only at hSw)
      go_simp
    try simp only [List.getElem_toArray]
    try simp only [List.getElem_cons_succ]
    try simp only [List.getElem_cons_zero]
    try simp only [Act.put]
    try simp only [List.setIfInBounds_toArray]
    try simp only [List.set_cons_succ]
    try simp only [List.set_cons_zero]
    refine wpAnyH_take (i := 2) (v := (.pointer (some ⟨hb, 0, none⟩))) rfl (by kernel_rfl) (by kernel_rfl) (by kernel_rfl) (fun _ _ _ h => h) (Or.inl ⟨by rfl, ?_⟩) (by assumption) ?_
    · intro w hSw
      (try dsimp only at hSw)
      go_simp
    try simp only [List.getElem_toArray]
    try simp only [List.getElem_cons_succ]
    try simp only [List.getElem_cons_zero]
    try simp only [Act.put]
    try simp only [List.setIfInBounds_toArray]
    try simp only [List.set_cons_succ]
    try simp only [List.set_cons_zero]
    refine wpAnyH_take (i := 3) (v := (.pointer (some ⟨hb, 1, none⟩))) rfl (by kernel_rfl) (by kernel_rfl) (by kernel_rfl) (fun _ _ _ h => h) (Or.inl ⟨by rfl, ?_⟩) (by assumption) ?_
    · intro w hSw
      (try dsimp only at hSw)
      go_simp
    try simp only [List.getElem_toArray]
    try simp only [List.getElem_cons_succ]
    try simp only [List.getElem_cons_zero]
    try simp only [Act.put]
    try simp only [List.setIfInBounds_toArray]
    try simp only [List.set_cons_succ]
    try simp only [List.set_cons_zero]
    refine wpAnyH_take (i := 5) (v := (.pointer (some ⟨o, 1, none⟩))) rfl (by kernel_rfl) (by kernel_rfl) (by kernel_rfl) (fun _ _ _ h => h) (Or.inl ⟨by rfl, ?_⟩) (by assumption) ?_
    · intro w hSw
      (try dsimp only at hSw)
      go_simp
    try simp only [List.getElem_toArray]
    try simp only [List.getElem_cons_succ]
    try simp only [List.getElem_cons_zero]
    try simp only [Act.put]
    try simp only [List.setIfInBounds_toArray]
    try simp only [List.set_cons_succ]
    try simp only [List.set_cons_zero]
    refine wpAnyH_take (i := 6) (v := (.agg #[.int .i64 t, .slice p n c])) rfl (by kernel_rfl) (by kernel_rfl) (by kernel_rfl) (fun _ _ _ h => h) (Or.inl ⟨by rfl, ?_⟩) (by assumption) ?_
    · intro w hSw
      (try dsimp only at hSw)
      go_simp
    try simp only [List.getElem_toArray]
    try simp only [List.getElem_cons_succ]
    try simp only [List.getElem_cons_zero]
    try simp only [Act.put]
    try simp only [List.setIfInBounds_toArray]
    try simp only [List.set_cons_succ]
    try simp only [List.set_cons_zero]
    refine wpAnyH_ready (rs := [4, 7]) (by kernel_rfl) (by simp) ?_
    refine AllReadyH.cons rfl (fun K1 hK => ?_) (AllReadyH.cons rfl (fun K1 hK => ?_) AllReadyH.nil)
    · go_simp
      refine hK.out _ _ ?_ (fun hHeld => ?_)
      · assumption
      clear hK K1
      try simp only [List.getElem_toArray]
      try simp only [List.getElem_cons_succ]
      try simp only [List.getElem_cons_zero]
      try simp only [Act.put]
      try simp only [List.setIfInBounds_toArray]
      try simp only [List.set_cons_succ]
      try simp only [List.set_cons_zero]
      refine wpAnyH_ready (rs := [7]) (by kernel_rfl) (by simp) ?_
      refine AllReadyH.cons rfl (fun K1 hK => ?_) AllReadyH.nil
      go_simp
      refine hK.out _ _ ?_ (fun hHeld => ?_)
      · exact S2.out
      clear hK K1
      try simp only [List.getElem_toArray]
      try simp only [List.getElem_cons_succ]
      try simp only [List.getElem_cons_zero]
      try simp only [Act.put]
      try simp only [List.setIfInBounds_toArray]
      try simp only [List.set_cons_succ]
      try simp only [List.set_cons_zero]
      refine wpAnyH_ready (rs := [8]) (by kernel_rfl) (by simp) ?_
      refine AllReadyH.cons rfl (fun K1 hK => ?_) AllReadyH.nil
      refine step_append_g rfl _ _ _ rfl (u.heap.size + 2) 109 (.agg #[.int .i64 0, .slice none 0 0]) 2 32 Try.underlying44 infoWriteI rfl (by decide) (by decide) (.slice da dn dc) ds.length (wcs U) rfl H2.out.drow w.heap.size [.int .i64 t, .slice p n c] rfl (rw_two KN.out) rfl (by intro y hy; simp at hy; rcases hy with rfl | rfl <;> rfl) hdl HBS.out hb 1 (.slice da dn dc) H2.out.cells.1.2 H2.out.cells.2.1 H2.out.hd ?_
      intro a5 n5 c5 w5 hO5 hg5 ha5 hc5 hf5
      have P5 := hid (H2.out.append t bs (.slice p n c) BY2.out hO5 hg5 ha5)
      have o5 : Only (fun y => (Value.slice da dn dc).ownBlock = some y ∨ y = hb) (w.alloc (.cells #[.int .i64 t, .slice p n c] 109)).drew w5 := only_of_grown hg5 (fun k e => .inl e)
      have S5 := HSX.out _ ((only_of_below HW2.out _).trans o5)
      have S6 := HSX.out (w5.setCell ⟨hb, 1, none⟩ (.slice a5 n5 c5)) (((only_of_below HW2.out _).trans o5).trans (only_set (R := fun y => (Value.slice da dn dc).ownBlock = some y ∨ y = hb) (.inr rfl) _))
      refine hK.out _ _ ?_ (fun hHeld => ?_)
      · exact S5
      clear hK K1
      try simp only [List.getElem_toArray]
      try simp only [List.getElem_cons_succ]
      try simp only [List.getElem_cons_zero]
      try simp only [Act.put]
      try simp only [List.setIfInBounds_toArray]
      try simp only [List.set_cons_succ]
      try simp only [List.set_cons_zero]
      refine wpAnyH_take (i := 9) (v := (.pointer (some ⟨hb, 0, none⟩))) rfl (by kernel_rfl) (by kernel_rfl) (by kernel_rfl) (fun _ _ _ h => h) (Or.inl ⟨by rfl, ?_⟩) (by assumption) ?_
      · intro w hSw
        (try dsimp only at hSw)
        go_simp
      try simp only [List.getElem_toArray]
      try simp only [List.getElem_cons_succ]
      try simp only [List.getElem_cons_zero]
      try simp only [Act.put]
      try simp only [List.setIfInBounds_toArray]
      try simp only [List.set_cons_succ]
      try simp only [List.set_cons_zero]
      refine wpAnyH_take (i := 10) (v := (.pointer (some ⟨hb, 1, none⟩))) rfl (by kernel_rfl) (by kernel_rfl) (by kernel_rfl) (fun _ _ _ h => h) (Or.inl ⟨by rfl, ?_⟩) (by assumption) ?_
      · intro w hSw
        (try dsimp only at hSw)
        go_simp
      try simp only [List.getElem_toArray]
      try simp only [List.getElem_cons_succ]
      try simp only [List.getElem_cons_zero]
      try simp only [Act.put]
      try simp only [List.setIfInBounds_toArray]
      try simp only [List.set_cons_succ]
      try simp only [List.set_cons_zero]
      refine wpAnyH_ready (rs := [11]) (by kernel_rfl) (by simp) ?_
      refine AllReadyH.cons rfl (fun K1 hK => ?_) AllReadyH.nil
      go_simp
      refine hK.out _ _ ?_ (fun hHeld => ?_)
      · exact S6
      clear hK K1
      try simp only [List.getElem_toArray]
      try simp only [List.getElem_cons_succ]
      try simp only [List.getElem_cons_zero]
      try simp only [Act.put]
      try simp only [List.setIfInBounds_toArray]
      try simp only [List.set_cons_succ]
      try simp only [List.set_cons_zero]
      refine wpAnyH_done (by kernel_rfl) ?_ _
      refine NoPanic.normal ?_
      go_wp2_with fail
      go_meet
      exact ⟨a5, n5, c5, P5.out, ((only_of_below HW2.out _).trans o5).trans (only_set (R := fun y => (Value.slice da dn dc).ownBlock = some y ∨ y = hb) (.inr rfl) _)⟩
    · go_simp
      refine hK.out _ _ ?_ (fun hHeld => ?_)
      · exact S2.out
      clear hK K1
      try simp only [List.getElem_toArray]
      try simp only [List.getElem_cons_succ]
      try simp only [List.getElem_cons_zero]
      try simp only [Act.put]
      try simp only [List.setIfInBounds_toArray]
      try simp only [List.set_cons_succ]
      try simp only [List.set_cons_zero]
      refine wpAnyH_ready (rs := [4]) (by kernel_rfl) (by simp) ?_
      refine AllReadyH.cons rfl (fun K1 hK => ?_) AllReadyH.nil
      go_simp
      refine hK.out _ _ ?_ (fun hHeld => ?_)
      · assumption
      clear hK K1
      try simp only [List.getElem_toArray]
      try simp only [List.getElem_cons_succ]
      try simp only [List.getElem_cons_zero]
      try simp only [Act.put]
      try simp only [List.setIfInBounds_toArray]
      try simp only [List.set_cons_succ]
      try simp only [List.set_cons_zero]
      refine wpAnyH_ready (rs := [8]) (by kernel_rfl) (by simp) ?_
      refine AllReadyH.cons rfl (fun K1 hK => ?_) AllReadyH.nil
      refine step_append_g rfl _ _ _ rfl (u.heap.size + 2) 109 (.agg #[.int .i64 0, .slice none 0 0]) 2 32 Try.underlying44 infoWriteI rfl (by decide) (by decide) (.slice da dn dc) ds.length (wcs U) rfl H2.out.drow w.heap.size [.int .i64 t, .slice p n c] rfl (rw_two KN.out) rfl (by intro y hy; simp at hy; rcases hy with rfl | rfl <;> rfl) hdl HBS.out hb 1 (.slice da dn dc) H2.out.cells.1.2 H2.out.cells.2.1 H2.out.hd ?_
      intro a5 n5 c5 w5 hO5 hg5 ha5 hc5 hf5
      have P5 := hid (H2.out.append t bs (.slice p n c) BY2.out hO5 hg5 ha5)
      have o5 : Only (fun y => (Value.slice da dn dc).ownBlock = some y ∨ y = hb) (w.alloc (.cells #[.int .i64 t, .slice p n c] 109)).drew w5 := only_of_grown hg5 (fun k e => .inl e)
      have S5 := HSX.out _ ((only_of_below HW2.out _).trans o5)
      have S6 := HSX.out (w5.setCell ⟨hb, 1, none⟩ (.slice a5 n5 c5)) (((only_of_below HW2.out _).trans o5).trans (only_set (R := fun y => (Value.slice da dn dc).ownBlock = some y ∨ y = hb) (.inr rfl) _))
      refine hK.out _ _ ?_ (fun hHeld => ?_)
      · exact S5
      clear hK K1
      try simp only [List.getElem_toArray]
      try simp only [List.getElem_cons_succ]
      try simp only [List.getElem_cons_zero]
      try simp only [Act.put]
      try simp only [List.setIfInBounds_toArray]
      try simp only [List.set_cons_succ]
      try simp only [List.set_cons_zero]
      refine wpAnyH_take (i := 9) (v := (.pointer (some ⟨hb, 0, none⟩))) rfl (by kernel_rfl) (by kernel_rfl) (by kernel_rfl) (fun _ _ _ h => h) (Or.inl ⟨by rfl, ?_⟩) (by assumption) ?_
      · intro w hSw
        (try dsimp only at hSw)
        go_simp
      try simp only [List.getElem_toArray]
      try simp only [List.getElem_cons_succ]
      try simp only [List.getElem_cons_zero]
      try simp only [Act.put]
      try simp only [List.setIfInBounds_toArray]
      try simp only [List.set_cons_succ]
      try simp only [List.set_cons_zero]
      refine wpAnyH_take (i := 10) (v := (.pointer (some ⟨hb, 1, none⟩))) rfl (by kernel_rfl) (by kernel_rfl) (by kernel_rfl) (fun _ _ _ h => h) (Or.inl ⟨by rfl, ?_⟩) (by assumption) ?_
      · intro w hSw
        (try dsimp only at hSw)
        go_simp
      try simp only [List.getElem_toArray]
      try simp only [List.getElem_cons_succ]
      try simp only [List.getElem_cons_zero]
      try simp only [Act.put]
      try simp only [List.setIfInBounds_toArray]
      try simp only [List.set_cons_succ]
      try simp only [List.set_cons_zero]
      refine wpAnyH_ready (rs := [11]) (by kernel_rfl) (by simp) ?_
      refine AllReadyH.cons rfl (fun K1 hK => ?_) AllReadyH.nil
      go_simp
      refine hK.out _ _ ?_ (fun hHeld => ?_)
      · exact S6
      clear hK K1
      try simp only [List.getElem_toArray]
      try simp only [List.getElem_cons_succ]
      try simp only [List.getElem_cons_zero]
      try simp only [Act.put]
      try simp only [List.setIfInBounds_toArray]
      try simp only [List.set_cons_succ]
      try simp only [List.set_cons_zero]
      refine wpAnyH_done (by kernel_rfl) ?_ _
      refine NoPanic.normal ?_
      go_wp2_with fail
      go_meet
      exact ⟨a5, n5, c5, P5.out, ((only_of_below HW2.out _).trans o5).trans (only_set (R := fun y => (Value.slice da dn dc).ownBlock = some y ∨ y = hb) (.inr rfl) _)⟩
  case rest =>
    obtain ⟨a5, n5, c5, P5, O5⟩ := hcut
    clear H2 BY2 KN HBS S2 HS0 c1 c2 c3 f1 f3 HW2
    have HL5 := hid P5.out.len
    have hn5' := P5.out.len.2
    have HS3 : Hid (∀ v, Below wc.heap.size wc v → v.cell? ⟨x, 0, none⟩ = some (.pointer (some ⟨hb, 0, none⟩)) ∧ v.cell? ⟨o, 1, none⟩ = some (.int .i64 t) ∧ v.cell? ⟨o, 2, none⟩ = some (.slice p n c) ∧ v.cell? ⟨hb, 0, none⟩ = some (.slice (some ⟨g, 0, none⟩) sn cc) ∧ v.cell? ⟨hb, 1, none⟩ = some (.slice a5 n5 c5)) := fun v hv =>
      ⟨((KX.out.to O5.out (fun e => e.elim HNX.out.1.1 HNX.out.1.2)).below hv).cell (j := 0) rfl, ((KO.out.to O5.out (fun e => e.elim HNX.out.2.1 HNX.out.2.2)).below hv).cell (j := 1) rfl, ((KO.out.to O5.out (fun e => e.elim HNX.out.2.1 HNX.out.2.2)).below hv).cell (j := 2) rfl, (P5.out.kh.below hv).cell (j := 0) rfl, (P5.out.kh.below hv).cell (j := 1) rfl⟩
    have HS4 := hid (HS3.out wc.drew (below_drew _))
    have HSH : Hid (ss.length = sn) := HN.out.1.symm
    clear O5 KX KO HNX HSX
    by_cases q5 : n5 ≤ 500
    · have q5' : decide ((n5 : Int) ≤ 500) = true := decide_eq_true (by omega)
      have q6 : (n5 : Int) ≤ 500 := by omega
      have HV : Hid (dkOk (dwrD ⟨ss, ds⟩ t bs) = wrtOk sn (t, bs)) := by
        show _ = _
        rw [HIF.out]
        simp only [HSH.out]
        rw [decide_eq_true (show ds.length + 1 ≤ 500 by have := HL5.out.1; omega)]
        rfl
      have HWO := hid (fun v => writeOk_any t p n c bs sn v HBL.out (by omega))
      go_wp2_with fail
      refine wp_region_noPanic ?_
      refine wp_region_held_drew (S := (fun v => v.cell? ⟨x, 0, none⟩ = some (.pointer (some ⟨hb, 0, none⟩)) ∧ v.cell? ⟨o, 1, none⟩ = some (.int .i64 t) ∧ v.cell? ⟨o, 2, none⟩ = some (.slice p n c) ∧ v.cell? ⟨hb, 0, none⟩ = some (.slice (some ⟨g, 0, none⟩) sn cc) ∧ v.cell? ⟨hb, 1, none⟩ = some (.slice a5 n5 c5))) (by kernel_rfl) HS4.out (fun hHeld => ?_)
      simp only [List.size_toArray, List.length_cons, List.length_nil, Array.replicate_succ, Array.replicate_zero, Nat.reduceAdd, List.push_toArray, List.nil_append, List.cons_append]
      refine wpAnyH_take (i := 0) (v := (.pointer (some ⟨hb, 0, none⟩))) rfl (by kernel_rfl) (by kernel_rfl) (by kernel_rfl) (fun _ _ _ h => h) (Or.inl ⟨by rfl, ?_⟩) (by assumption) ?_
      · intro w hSw
        (try dsimp only at hSw)
        go_simp
      try simp only [List.getElem_toArray]
      try simp only [List.getElem_cons_succ]
      try simp only [List.getElem_cons_zero]
      try simp only [Act.put]
      try simp only [List.setIfInBounds_toArray]
      try simp only [List.set_cons_succ]
      try simp only [List.set_cons_zero]
      refine wpAnyH_take (i := 1) (v := (.pointer (some ⟨hb, 0, none⟩))) rfl (by kernel_rfl) (by kernel_rfl) (by kernel_rfl) (fun _ _ _ h => h) (Or.inl ⟨by rfl, ?_⟩) (by assumption) ?_
      · intro w hSw
        (try dsimp only at hSw)
        go_simp
      try simp only [List.getElem_toArray]
      try simp only [List.getElem_cons_succ]
      try simp only [List.getElem_cons_zero]
      try simp only [Act.put]
      try simp only [List.setIfInBounds_toArray]
      try simp only [List.set_cons_succ]
      try simp only [List.set_cons_zero]
      refine wpAnyH_take (i := 2) (v := (.pointer (some ⟨hb, 1, none⟩))) rfl (by kernel_rfl) (by kernel_rfl) (by kernel_rfl) (fun _ _ _ h => h) (Or.inl ⟨by rfl, ?_⟩) (by assumption) ?_
      · intro w hSw
        (try dsimp only at hSw)
        go_simp
      try simp only [List.getElem_toArray]
      try simp only [List.getElem_cons_succ]
      try simp only [List.getElem_cons_zero]
      try simp only [Act.put]
      try simp only [List.setIfInBounds_toArray]
      try simp only [List.set_cons_succ]
      try simp only [List.set_cons_zero]
      refine wpAnyH_take (i := 3) (v := (.slice a5 n5 c5)) rfl (by kernel_rfl) (by kernel_rfl) (by kernel_rfl) (fun _ _ _ h => h) (Or.inl ⟨by rfl, ?_⟩) (by assumption) ?_
      · intro w hSw
        (try dsimp only at hSw)
        go_simp
      try simp only [List.getElem_toArray]
      try simp only [List.getElem_cons_succ]
      try simp only [List.getElem_cons_zero]
      try simp only [Act.put]
      try simp only [List.setIfInBounds_toArray]
      try simp only [List.set_cons_succ]
      try simp only [List.set_cons_zero]
      refine wpAnyH_take (i := 4) (v := (.int .i64 (n5 : Int))) rfl (by kernel_rfl) (by kernel_rfl) (by kernel_rfl) (fun _ _ _ h => h) (Or.inl ⟨by rfl, ?_⟩) (by assumption) ?_
      · intro w hSw
        (try dsimp only at hSw)
        go_simp
      try simp only [List.getElem_toArray]
      try simp only [List.getElem_cons_succ]
      try simp only [List.getElem_cons_zero]
      try simp only [Act.put]
      try simp only [List.setIfInBounds_toArray]
      try simp only [List.set_cons_succ]
      try simp only [List.set_cons_zero]
      refine wpAnyH_take (i := 5) (v := (.bool true)) rfl (by kernel_rfl) (by kernel_rfl) (by kernel_rfl) (fun _ _ _ h => h) (Or.inl ⟨by rfl, ?_⟩) (by assumption) ?_
      · intro w hSw
        (try dsimp only at hSw)
        go_simp
      try simp only [List.getElem_toArray]
      try simp only [List.getElem_cons_succ]
      try simp only [List.getElem_cons_zero]
      try simp only [Act.put]
      try simp only [List.setIfInBounds_toArray]
      try simp only [List.set_cons_succ]
      try simp only [List.set_cons_zero]
      refine wpAnyH_take (i := 6) (v := (.bool true)) rfl (by kernel_rfl) (by kernel_rfl) (by kernel_rfl) (fun _ _ _ h => h) (Or.inl ⟨by rfl, ?_⟩) (by assumption) ?_
      · intro w hSw
        (try dsimp only at hSw)
        go_simp
      try simp only [List.getElem_toArray]
      try simp only [List.getElem_cons_succ]
      try simp only [List.getElem_cons_zero]
      try simp only [Act.put]
      try simp only [List.setIfInBounds_toArray]
      try simp only [List.set_cons_succ]
      try simp only [List.set_cons_zero]
      refine wpAnyH_take (i := 7) (v := (.pointer (some ⟨o, 1, none⟩))) rfl (by kernel_rfl) (by kernel_rfl) (by kernel_rfl) (fun _ _ _ h => h) (Or.inl ⟨by rfl, ?_⟩) (by assumption) ?_
      · intro w hSw
        (try dsimp only at hSw)
        go_simp
      try simp only [List.getElem_toArray]
      try simp only [List.getElem_cons_succ]
      try simp only [List.getElem_cons_zero]
      try simp only [Act.put]
      try simp only [List.setIfInBounds_toArray]
      try simp only [List.set_cons_succ]
      try simp only [List.set_cons_zero]
      refine wpAnyH_take (i := 8) (v := (.agg #[.int .i64 t, .slice p n c])) rfl (by kernel_rfl) (by kernel_rfl) (by kernel_rfl) (fun _ _ _ h => h) (Or.inl ⟨by rfl, ?_⟩) (by assumption) ?_
      · intro w hSw
        (try dsimp only at hSw)
        go_simp
      try simp only [List.getElem_toArray]
      try simp only [List.getElem_cons_succ]
      try simp only [List.getElem_cons_zero]
      try simp only [Act.put]
      try simp only [List.setIfInBounds_toArray]
      try simp only [List.set_cons_succ]
      try simp only [List.set_cons_zero]
      refine wpAnyH_take (i := 9) (v := (.pointer (some ⟨hb, 0, none⟩))) rfl (by kernel_rfl) (by kernel_rfl) (by kernel_rfl) (fun _ _ _ h => h) (Or.inl ⟨by rfl, ?_⟩) (by assumption) ?_
      · intro w hSw
        (try dsimp only at hSw)
        go_simp
      try simp only [List.getElem_toArray]
      try simp only [List.getElem_cons_succ]
      try simp only [List.getElem_cons_zero]
      try simp only [Act.put]
      try simp only [List.setIfInBounds_toArray]
      try simp only [List.set_cons_succ]
      try simp only [List.set_cons_zero]
      refine wpAnyH_take (i := 10) (v := (.pointer (some ⟨hb, 0, none⟩))) rfl (by kernel_rfl) (by kernel_rfl) (by kernel_rfl) (fun _ _ _ h => h) (Or.inl ⟨by rfl, ?_⟩) (by assumption) ?_
      · intro w hSw
        (try dsimp only at hSw)
        go_simp
      try simp only [List.getElem_toArray]
      try simp only [List.getElem_cons_succ]
      try simp only [List.getElem_cons_zero]
      try simp only [Act.put]
      try simp only [List.setIfInBounds_toArray]
      try simp only [List.set_cons_succ]
      try simp only [List.set_cons_zero]
      refine wpAnyH_take (i := 11) (v := (.pointer (some ⟨hb, 0, none⟩))) rfl (by kernel_rfl) (by kernel_rfl) (by kernel_rfl) (fun _ _ _ h => h) (Or.inl ⟨by rfl, ?_⟩) (by assumption) ?_
      · intro w hSw
        (try dsimp only at hSw)
        go_simp
      try simp only [List.getElem_toArray]
      try simp only [List.getElem_cons_succ]
      try simp only [List.getElem_cons_zero]
      try simp only [Act.put]
      try simp only [List.setIfInBounds_toArray]
      try simp only [List.set_cons_succ]
      try simp only [List.set_cons_zero]
      refine wpAnyH_take (i := 12) (v := (.slice (some ⟨g, 0, none⟩) sn cc)) rfl (by kernel_rfl) (by kernel_rfl) (by kernel_rfl) (fun _ _ _ h => h) (Or.inl ⟨by rfl, ?_⟩) (by assumption) ?_
      · intro w hSw
        (try dsimp only at hSw)
        go_simp
      try simp only [List.getElem_toArray]
      try simp only [List.getElem_cons_succ]
      try simp only [List.getElem_cons_zero]
      try simp only [Act.put]
      try simp only [List.setIfInBounds_toArray]
      try simp only [List.set_cons_succ]
      try simp only [List.set_cons_zero]
      refine wpAnyH_take (i := 13) (v := (.int .i64 (sn : Int))) rfl (by kernel_rfl) (by kernel_rfl) (by kernel_rfl) (fun _ _ _ h => h) (Or.inl ⟨by rfl, ?_⟩) (by assumption) ?_
      · intro w hSw
        (try dsimp only at hSw)
        go_simp
      try simp only [List.getElem_toArray]
      try simp only [List.getElem_cons_succ]
      try simp only [List.getElem_cons_zero]
      try simp only [Act.put]
      try simp only [List.setIfInBounds_toArray]
      try simp only [List.set_cons_succ]
      try simp only [List.set_cons_zero]
      refine wpAnyH_ready (rs := [14]) (by kernel_rfl) (by simp) ?_
      refine AllReadyH.cons rfl (fun K1 hK => ?_) AllReadyH.nil
      go_simp
      refine (HWO.out _).mono ?_
      rintro e w6 ⟨rfl, hb6⟩
      have B6 := hid (bt7 (below_drew wc) hb6)
      have P6 := hid (P5.out.below B6.out)
      have S6 := HS3.out _ B6.out
      clear hb6
      go_wp2_with fail
      refine hK.out _ _ ?_ (fun hHeld => ?_)
      · exact S6
      clear hK K1
      try simp only [List.getElem_toArray]
      try simp only [List.getElem_cons_succ]
      try simp only [List.getElem_cons_zero]
      try simp only [Act.put]
      try simp only [List.setIfInBounds_toArray]
      try simp only [List.set_cons_succ]
      try simp only [List.set_cons_zero]
      generalize hz : wrtOk sn (t, bs) = z at *
      have HZ := hid hz
      clear hz
      refine wpAnyH_take (i := 15) (v := (.bool z)) rfl (by kernel_rfl) (by kernel_rfl) (by kernel_rfl) (fun _ _ _ h => h) (Or.inl ⟨by rfl, ?_⟩) (by assumption) ?_
      · intro w hSw
        (try dsimp only at hSw)
        go_simp
      try simp only [List.getElem_toArray]
      try simp only [List.getElem_cons_succ]
      try simp only [List.getElem_cons_zero]
      try simp only [Act.put]
      try simp only [List.setIfInBounds_toArray]
      try simp only [List.set_cons_succ]
      try simp only [List.set_cons_zero]
      refine wpAnyH_take (i := 16) (v := (.bool z)) rfl (by kernel_rfl) (by kernel_rfl) (by kernel_rfl) (fun _ _ _ h => h) (Or.inl ⟨by rfl, ?_⟩) (by assumption) ?_
      · intro w hSw
        (try dsimp only at hSw)
        go_simp
      try simp only [List.getElem_toArray]
      try simp only [List.getElem_cons_succ]
      try simp only [List.getElem_cons_zero]
      try simp only [Act.put]
      try simp only [List.setIfInBounds_toArray]
      try simp only [List.set_cons_succ]
      try simp only [List.set_cons_zero]
      refine wpAnyH_done (by kernel_rfl) ?_ _
      refine NoPanic.normal ?_
      go_wp2
      go_ret
      cases z with
      | true =>
        obtain ⟨U6, h6⟩ := P6.out.good HV.out
        exact .inl ⟨HV.out, rfl, _, _, _, U6, h6⟩
      | false => exact .inr ⟨HV.out, rfl, P6.out.bel, P6.out.k4⟩
    · have q5' : decide ((n5 : Int) ≤ 500) = false := decide_eq_false (by omega)
      have q6 : ¬ (n5 : Int) ≤ 500 := by omega
      have HV : Hid (dkOk (dwrD ⟨ss, ds⟩ t bs) = false) := by
        show _ = _
        rw [HIF.out]
        rw [decide_eq_false (show ¬ ds.length + 1 ≤ 500 by have := HL5.out.1; omega)]
        rfl
      have P6 := hid (P5.out.below (below_drew wc))
      go_wp2_with fail
      refine wp_region_noPanic ?_
      refine wp_region_held_drew (S := (fun v => v.cell? ⟨x, 0, none⟩ = some (.pointer (some ⟨hb, 0, none⟩)) ∧ v.cell? ⟨o, 1, none⟩ = some (.int .i64 t) ∧ v.cell? ⟨o, 2, none⟩ = some (.slice p n c) ∧ v.cell? ⟨hb, 0, none⟩ = some (.slice (some ⟨g, 0, none⟩) sn cc) ∧ v.cell? ⟨hb, 1, none⟩ = some (.slice a5 n5 c5))) (by kernel_rfl) HS4.out (fun hHeld => ?_)
      simp only [List.size_toArray, List.length_cons, List.length_nil, Array.replicate_succ, Array.replicate_zero, Nat.reduceAdd, List.push_toArray, List.nil_append, List.cons_append]
      refine wpAnyH_take (i := 0) (v := (.pointer (some ⟨hb, 0, none⟩))) rfl (by kernel_rfl) (by kernel_rfl) (by kernel_rfl) (fun _ _ _ h => h) (Or.inl ⟨by rfl, ?_⟩) (by assumption) ?_
      · intro w hSw
        (try dsimp only at hSw)
        go_simp
      try simp only [List.getElem_toArray]
      try simp only [List.getElem_cons_succ]
      try simp only [List.getElem_cons_zero]
      try simp only [Act.put]
      try simp only [List.setIfInBounds_toArray]
      try simp only [List.set_cons_succ]
      try simp only [List.set_cons_zero]
      refine wpAnyH_take (i := 1) (v := (.pointer (some ⟨hb, 0, none⟩))) rfl (by kernel_rfl) (by kernel_rfl) (by kernel_rfl) (fun _ _ _ h => h) (Or.inl ⟨by rfl, ?_⟩) (by assumption) ?_
      · intro w hSw
        (try dsimp only at hSw)
        go_simp
      try simp only [List.getElem_toArray]
      try simp only [List.getElem_cons_succ]
      try simp only [List.getElem_cons_zero]
      try simp only [Act.put]
      try simp only [List.setIfInBounds_toArray]
      try simp only [List.set_cons_succ]
      try simp only [List.set_cons_zero]
      refine wpAnyH_take (i := 2) (v := (.pointer (some ⟨hb, 1, none⟩))) rfl (by kernel_rfl) (by kernel_rfl) (by kernel_rfl) (fun _ _ _ h => h) (Or.inl ⟨by rfl, ?_⟩) (by assumption) ?_
      · intro w hSw
        (try dsimp only at hSw)
        go_simp
      try simp only [List.getElem_toArray]
      try simp only [List.getElem_cons_succ]
      try simp only [List.getElem_cons_zero]
      try simp only [Act.put]
      try simp only [List.setIfInBounds_toArray]
      try simp only [List.set_cons_succ]
      try simp only [List.set_cons_zero]
      refine wpAnyH_take (i := 3) (v := (.slice a5 n5 c5)) rfl (by kernel_rfl) (by kernel_rfl) (by kernel_rfl) (fun _ _ _ h => h) (Or.inl ⟨by rfl, ?_⟩) (by assumption) ?_
      · intro w hSw
        (try dsimp only at hSw)
        go_simp
      try simp only [List.getElem_toArray]
      try simp only [List.getElem_cons_succ]
      try simp only [List.getElem_cons_zero]
      try simp only [Act.put]
      try simp only [List.setIfInBounds_toArray]
      try simp only [List.set_cons_succ]
      try simp only [List.set_cons_zero]
      refine wpAnyH_take (i := 4) (v := (.int .i64 (n5 : Int))) rfl (by kernel_rfl) (by kernel_rfl) (by kernel_rfl) (fun _ _ _ h => h) (Or.inl ⟨by rfl, ?_⟩) (by assumption) ?_
      · intro w hSw
        (try dsimp only at hSw)
        go_simp
      try simp only [List.getElem_toArray]
      try simp only [List.getElem_cons_succ]
      try simp only [List.getElem_cons_zero]
      try simp only [Act.put]
      try simp only [List.setIfInBounds_toArray]
      try simp only [List.set_cons_succ]
      try simp only [List.set_cons_zero]
      refine wpAnyH_take (i := 5) (v := (.bool false)) rfl (by kernel_rfl) (by kernel_rfl) (by kernel_rfl) (fun _ _ _ h => h) (Or.inl ⟨by rfl, ?_⟩) (by assumption) ?_
      · intro w hSw
        (try dsimp only at hSw)
        go_simp
      try simp only [List.getElem_toArray]
      try simp only [List.getElem_cons_succ]
      try simp only [List.getElem_cons_zero]
      try simp only [Act.put]
      try simp only [List.setIfInBounds_toArray]
      try simp only [List.set_cons_succ]
      try simp only [List.set_cons_zero]
      refine wpAnyH_take (i := 6) (v := (.bool false)) rfl (by kernel_rfl) (by kernel_rfl) (by kernel_rfl) (fun _ _ _ h => h) (Or.inl ⟨by rfl, ?_⟩) (by assumption) ?_
      · intro w hSw
        (try dsimp only at hSw)
        go_simp
      try simp only [List.getElem_toArray]
      try simp only [List.getElem_cons_succ]
      try simp only [List.getElem_cons_zero]
      try simp only [Act.put]
      try simp only [List.setIfInBounds_toArray]
      try simp only [List.set_cons_succ]
      try simp only [List.set_cons_zero]
      refine take_noO (i := 7) rfl (by kernel_rfl) (by kernel_rfl) (by kernel_rfl) (fun _ _ _ h => h) (by rfl) (by assumption) ?_
      try simp only [List.getElem_toArray]
      try simp only [List.getElem_cons_succ]
      try simp only [List.getElem_cons_zero]
      try simp only [Act.put]
      try simp only [List.setIfInBounds_toArray]
      try simp only [List.set_cons_succ]
      try simp only [List.set_cons_zero]
      refine take_noO (i := 8) rfl (by kernel_rfl) (by kernel_rfl) (by kernel_rfl) (fun _ _ _ h => h) (by rfl) (by assumption) ?_
      try simp only [List.getElem_toArray]
      try simp only [List.getElem_cons_succ]
      try simp only [List.getElem_cons_zero]
      try simp only [Act.put]
      try simp only [List.setIfInBounds_toArray]
      try simp only [List.set_cons_succ]
      try simp only [List.set_cons_zero]
      refine take_noO (i := 9) rfl (by kernel_rfl) (by kernel_rfl) (by kernel_rfl) (fun _ _ _ h => h) (by rfl) (by assumption) ?_
      try simp only [List.getElem_toArray]
      try simp only [List.getElem_cons_succ]
      try simp only [List.getElem_cons_zero]
      try simp only [Act.put]
      try simp only [List.setIfInBounds_toArray]
      try simp only [List.set_cons_succ]
      try simp only [List.set_cons_zero]
      refine take_noO (i := 10) rfl (by kernel_rfl) (by kernel_rfl) (by kernel_rfl) (fun _ _ _ h => h) (by rfl) (by assumption) ?_
      try simp only [List.getElem_toArray]
      try simp only [List.getElem_cons_succ]
      try simp only [List.getElem_cons_zero]
      try simp only [Act.put]
      try simp only [List.setIfInBounds_toArray]
      try simp only [List.set_cons_succ]
      try simp only [List.set_cons_zero]
      refine take_noO (i := 11) rfl (by kernel_rfl) (by kernel_rfl) (by kernel_rfl) (fun _ _ _ h => h) (by rfl) (by assumption) ?_
      try simp only [List.getElem_toArray]
      try simp only [List.getElem_cons_succ]
      try simp only [List.getElem_cons_zero]
      try simp only [Act.put]
      try simp only [List.setIfInBounds_toArray]
      try simp only [List.set_cons_succ]
      try simp only [List.set_cons_zero]
      refine take_noO (i := 12) rfl (by kernel_rfl) (by kernel_rfl) (by kernel_rfl) (fun _ _ _ h => h) (by rfl) (by assumption) ?_
      try simp only [List.getElem_toArray]
      try simp only [List.getElem_cons_succ]
      try simp only [List.getElem_cons_zero]
      try simp only [Act.put]
      try simp only [List.setIfInBounds_toArray]
      try simp only [List.set_cons_succ]
      try simp only [List.set_cons_zero]
      refine take_noO (i := 13) rfl (by kernel_rfl) (by kernel_rfl) (by kernel_rfl) (fun _ _ _ h => h) (by rfl) (by assumption) ?_
      try simp only [List.getElem_toArray]
      try simp only [List.getElem_cons_succ]
      try simp only [List.getElem_cons_zero]
      try simp only [Act.put]
      try simp only [List.setIfInBounds_toArray]
      try simp only [List.set_cons_succ]
      try simp only [List.set_cons_zero]
      refine take_noO (i := 14) rfl (by kernel_rfl) (by kernel_rfl) (by kernel_rfl) (fun _ _ _ h => h) (by rfl) (by assumption) ?_
      try simp only [List.getElem_toArray]
      try simp only [List.getElem_cons_succ]
      try simp only [List.getElem_cons_zero]
      try simp only [Act.put]
      try simp only [List.setIfInBounds_toArray]
      try simp only [List.set_cons_succ]
      try simp only [List.set_cons_zero]
      refine wpAnyH_take (i := 15) (v := (.bool false)) rfl (by kernel_rfl) (by kernel_rfl) (by kernel_rfl) (fun _ _ _ h => h) (Or.inl ⟨by rfl, ?_⟩) (by assumption) ?_
      · intro w hSw
        (try dsimp only at hSw)
        go_simp
      try simp only [List.getElem_toArray]
      try simp only [List.getElem_cons_succ]
      try simp only [List.getElem_cons_zero]
      try simp only [Act.put]
      try simp only [List.setIfInBounds_toArray]
      try simp only [List.set_cons_succ]
      try simp only [List.set_cons_zero]
      refine wpAnyH_take (i := 16) (v := (.bool false)) rfl (by kernel_rfl) (by kernel_rfl) (by kernel_rfl) (fun _ _ _ h => h) (Or.inl ⟨by rfl, ?_⟩) (by assumption) ?_
      · intro w hSw
        (try dsimp only at hSw)
        go_simp
      try simp only [List.getElem_toArray]
      try simp only [List.getElem_cons_succ]
      try simp only [List.getElem_cons_zero]
      try simp only [Act.put]
      try simp only [List.setIfInBounds_toArray]
      try simp only [List.set_cons_succ]
      try simp only [List.set_cons_zero]
      refine wpAnyH_done (by kernel_rfl) ?_ _
      refine NoPanic.normal ?_
      go_wp2
      go_ret
      exact .inr ⟨HV.out, rfl, P6.out.bel, P6.out.k4⟩
end Go.Proofs.Ytcpdedpgjaimkaa

