/-
  Tables of locks copied: copyLocks of the program, l07Copy of the specification.
-/
import Derived.Test.YtbaggkfgnjenoaaLkQ
import Derived.Deep.RegionHeld3
namespace Go.Proofs.Ytbaggkfgnjenoaa
open Go.RowKit
set_option linter.unusedVariables false
/-- append of a row of locks as a step of a region that draws. -/
theorem step_append_lr {w : World} {ops : Array Oper} {o : Oper} {a : Act} {K : Act → World → Prop} {Q : Exit → Act → World → Prop} {E : Prop} (hgd : o.guard = none) (s x : Operand)
    (ho : o.op = .call { callee := .builtin .append, args := #[s, x], argTypes := #[23, 23] }) (B : Nat) (v : Value) (l : List LK) (hs : a.eval s = v) (hown : LW w B v l)
    (S : Nat → Prop) (src : Value) (l2 : List LK) (hx : a.eval x = src) (hsrc : Lr w S src l2) (hb : l.length + l2.length ≤ 1048577) (hbase : B ≤ w.heap.size)
    (h : ∀ a' n' c' w', LW w' B (.slice a' n' c') (l ++ l2) → w.grownBy w' v.ownBlock → ((Value.slice a' n' c').ownBlock = v.ownBlock ∨ (Value.slice a' n' c').ownBlock = some w.heap.size) → K (a.put o.dst (.slice a' n' c')) w') : if Region.wanted o (yielded ops a.tmps) = true then Oper.wp Try.prog o a w K Q else E := by
  have hw : Region.wanted o (yielded ops a.tmps) = true := by simp [Region.wanted, hgd]
  rw [if_pos hw]
  obtain ⟨i, hi, hz, hsz', hby'⟩ := info_of infoLockI
  obtain ⟨v', w', hr, h2, h3, h5⟩ := run_append_row_at (P := Try.prog) (w := w) B 23 o.type 31 i _ 6 64 Try.underlying23 hi hz hsz' hby' rfl (by decide) v l.length (lcs l) hown S src l2.length (lcs l2) hsrc (lcs_length _) (lcs_one _) (by unfold maxLen; omega) (by omega) hbase
  obtain ⟨a', c', rfl⟩ := own_shape h2
  unfold Oper.wp execOp
  simp only [ho, resolve, invoke, builtin, Sem.run_bind, Sem.run_pure, Result.andThen_ok, List.map_toArray, List.map_cons, List.map_nil, hs, hx, hr]
  refine h a' _ c' w' ?_ h3 h5
  show World.ownsRow _ _ _ _ _ _ _
  rw [lcs_append, List.length_append]
  exact h2
theorem below_grownN {u w w' : World} (h : Below u.heap.size u w) (hg : w.grownBy w' none) : Below u.heap.size u w' :=
  ⟨hg.os.trans h.os, hg.tape.trans h.tape, hg.output.trans h.output, Nat.le_trans h.size hg.size, fun k hk => (hg.block k (Nat.lt_of_lt_of_le hk h.size) (fun e => by cases e)).trans (h.block k hk)⟩
/-- What a copy leaves. -/
def CpPost (w : World) (hl wl : List LK) (e : Ending) (w' : World) : Prop :=
  ∃ a n c a' n' c', e = .returned (.agg #[.slice a n c, .slice a' n' c']) ∧ LO w' w.heap.size (.slice a n c) (.slice a' n' c') hl wl ∧ Below w.heap.size w w'
theorem lw_empty {v : World} {g B : Nat} (h : Bk v g 31 []) (hB : B ≤ g) : LW v B (.slice (some ⟨g, 0, none⟩) 0 0) [] := ownL_bk (n := 0) h rfl (by omega) hB
theorem wpList_append_lr {w : World} {ops : Array Oper} {rest : List Oper} {o : Oper} {a : Act} {Q : Exit → Act → World → Prop} (hgd : o.guard = none) (s x : Operand)
    (ho : o.op = .call { callee := .builtin .append, args := #[s, x], argTypes := #[23, 23] }) (B : Nat) (v : Value) (l : List LK) (hs : a.eval s = v) (hown : LW w B v l)
    (S : Nat → Prop) (src : Value) (l2 : List LK) (hx : a.eval x = src) (hsrc : Lr w S src l2) (hb : l.length + l2.length ≤ 1048577) (hbase : B ≤ w.heap.size)
    (h : ∀ a' n' c' w', LW w' B (.slice a' n' c') (l ++ l2) → w.grownBy w' v.ownBlock → ((Value.slice a' n' c').ownBlock = v.ownBlock ∨ (Value.slice a' n' c').ownBlock = some w.heap.size) → wpList Try.prog ops Q rest (a.put o.dst (.slice a' n' c')) w') : wpList Try.prog ops Q (o :: rest) a w := by
  obtain ⟨i, hi, hz, hsz, hby⟩ := info_of infoLockI
  refine wpList_append_row_at hgd s x 23 ho B 31 i _ 6 64 Try.underlying23 hi hz hsz hby rfl (by decide) v l.length (lcs l) hs hown S src l2.length (lcs l2) hx hsrc (lcs_length _)
    (lcs_one _) (by unfold maxLen; omega) (by omega) hbase ?_
  intro v' w' k1 k2 k3
  obtain ⟨a', c', rfl⟩ := own_shape k1
  refine h a' _ c' w' ?_ k2 k3
  show World.ownsRow _ _ _ _ _ _ _
  rw [lcs_append, List.length_append]
  exact k1
set_option maxHeartbeats 1000000 in
/-- copyList of locks: a row of its own. -/
theorem copyLk_any (B : Nat) (S : Nat → Prop) (a : Option Addr) (n c : Nat) (l : List LK) (w : World) (h : Lr w S (.slice a n c) l) (hl : l.length ≤ 1048576) (hB : B ≤ w.heap.size) :
    Calls Try.prog 92 #[.slice a n c] w fun e w' => ∃ a' n' c', e = .returned (.slice a' n' c') ∧ LW w' B (.slice a' n' c') l ∧ w.grownBy w' none ∧ ((Value.slice a' n' c').ownBlock = none ∨ (Value.slice a' n' c').ownBlock = some w.heap.size) := by
  have HR := hid h
  have HL : Hid (([] : List LK).length + l.length ≤ 1048577) := by show _ ≤ _; simp; omega
  have HB := hid hB
  clear h hl hB
  go_enter Try.func92, Try.ntmps92
  go_wp2_with (at_builtin; refine wpList_append_lr rfl _ _ rfl B _ [] rfl (lw_nil _ _) S (.slice a n c) l rfl HR.out HL.out HB.out ?_)
  intro a3 n3 c3 w3 hO3 hg3 ha3
  try rw [List.nil_append] at hO3
  have O3 := hid hO3
  have G3 : Hid (w.grownBy w3 none) := hg3
  have A3 : Hid ((Value.slice a3 n3 c3).ownBlock = none ∨ (Value.slice a3 n3 c3).ownBlock = some w.heap.size) := ha3
  clear hO3 hg3 ha3 HR HL HB
  go_wp2
  go_ret
  exact ⟨_, _, _, rfl, O3.out, G3.out, A3.out⟩
set_option maxHeartbeats 4000000 in
set_option maxRecDepth 20000 in
theorem copyLocks_any (S S' : Nat → Prop) (ha : Option Addr) (hn hc : Nat) (wa : Option Addr) (wn wc : Nat) (hl wl : List LK) (w : World) (h1 : Lr w S (.slice ha hn hc) hl) (h2 : Lr w S' (.slice wa wn wc) wl) (hh : hl.length ≤ 1048576) (hw : wl.length ≤ 1048576) :
    Calls Try.prog 52 #[.agg #[.slice ha hn hc, .slice wa wn wc]] w fun r w' => CpPost w hl wl r w' := by
  have B0 : Hid (Below w.heap.size w ((w.alloc (.cells #[.slice ha hn hc, .slice wa wn wc] 25)).alloc (.cells #[.slice none 0 0, .slice none 0 0] 25))) := below_new (below_new (Below.refl _ _))
  have K0 := hid ((Bk.new w 25 [.slice ha hn hc, .slice wa wn wc]).alloc (.cells #[.slice none 0 0, .slice none 0 0] 25))
  have I0 := hid (Bk.new (w.alloc (.cells #[.slice ha hn hc, .slice wa wn wc] 25)) 25 [.slice none 0 0, .slice none 0 0])
  rw [show (w.alloc (.cells #[.slice ha hn hc, .slice wa wn wc] 25)).heap.size = w.heap.size + 1 by simp] at I0
  have H1 := hid h1
  have H2 := hid h2
  clear h1 h2
  unfold CpPost
  go_enter Try.func52, Try.ntmps52
  go_wp2_with fail
  generalize (w.alloc (.cells #[.slice ha hn hc, .slice wa wn wc] 25)).alloc (.cells #[.slice none 0 0, .slice none 0 0] 25) = U at *
  refine wp_region_noPanic ?_
  refine wp_region_held_drew (S := fun v => v.cell? ⟨w.heap.size, 0, none⟩ = some (.slice ha hn hc) ∧ v.cell? ⟨w.heap.size, 1, none⟩ = some (.slice wa wn wc)) (by kernel_rfl) (⟨(K0.out.below (below_drew _)).cell (j := 0) rfl, (K0.out.below (below_drew _)).cell (j := 1) rfl⟩) (fun hHeld => ?_)
  simp only [List.size_toArray, List.length_cons, List.length_nil, Array.replicate_succ, Array.replicate_zero, Nat.reduceAdd, List.push_toArray, List.nil_append, List.cons_append]
  refine wpAnyH_take (i := 0) (v := (.pointer (some ⟨w.heap.size, 0, none⟩))) rfl (by kernel_rfl) (by kernel_rfl) (by kernel_rfl) (fun _ _ _ h => h) (Or.inl ⟨by rfl, ?_⟩) (by assumption) ?_
  · intro w hSw
    (try dsimp only at hSw)
    go_simp
  try simp only [List.getElem_toArray]
  try simp only [List.getElem_cons_succ]
  try simp only [List.getElem_cons_zero]
  try simp only [Act.put]
  try simp only [List.setIfInBounds_toArray]
  try simp only [List.set_cons_succ]
  try simp only [List.set_cons_zero]
  refine wpAnyH_take (i := 1) (v := (.slice ha hn hc)) rfl (by kernel_rfl) (by kernel_rfl) (by kernel_rfl) (fun _ _ _ h => h) (Or.inl ⟨by rfl, ?_⟩) (by assumption) ?_
  · intro w hSw
    (try dsimp only at hSw)
    go_simp
  try simp only [List.getElem_toArray]
  try simp only [List.getElem_cons_succ]
  try simp only [List.getElem_cons_zero]
  try simp only [Act.put]
  try simp only [List.setIfInBounds_toArray]
  try simp only [List.set_cons_succ]
  try simp only [List.set_cons_zero]
  refine wpAnyH_take (i := 3) (v := (.pointer (some ⟨w.heap.size, 1, none⟩))) rfl (by kernel_rfl) (by kernel_rfl) (by kernel_rfl) (fun _ _ _ h => h) (Or.inl ⟨by rfl, ?_⟩) (by assumption) ?_
  · intro w hSw
    (try dsimp only at hSw)
    go_simp
  try simp only [List.getElem_toArray]
  try simp only [List.getElem_cons_succ]
  try simp only [List.getElem_cons_zero]
  try simp only [Act.put]
  try simp only [List.setIfInBounds_toArray]
  try simp only [List.set_cons_succ]
  try simp only [List.set_cons_zero]
  refine wpAnyH_take (i := 4) (v := (.slice wa wn wc)) rfl (by kernel_rfl) (by kernel_rfl) (by kernel_rfl) (fun _ _ _ h => h) (Or.inl ⟨by rfl, ?_⟩) (by assumption) ?_
  · intro w hSw
    (try dsimp only at hSw)
    go_simp
  try simp only [List.getElem_toArray]
  try simp only [List.getElem_cons_succ]
  try simp only [List.getElem_cons_zero]
  try simp only [Act.put]
  try simp only [List.setIfInBounds_toArray]
  try simp only [List.set_cons_succ]
  try simp only [List.set_cons_zero]
  have BD := hid (B0.out.trans ((below_drew U).mono B0.out.size))
  refine wpAnyH_ready (rs := [2]) (by kernel_rfl) (by simp) ?_
  refine AllReadyH.cons rfl (fun K1 hK => ?_) AllReadyH.nil
  go_simp
  refine (copyLk_any w.heap.size S ha hn hc hl _ (H1.out.below BD.out) (by omega) (BD.out.size)).mono ?_
  rintro r w4 ⟨a4, n4, c4, rfl, hO4, hg4, ha4⟩
  have P4 := hid hO4
  have B4 := hid (below_grownN BD.out hg4)
  have K4 := hid ((K0.out.below (below_drew _)).below (below_grownN (Below.refl _ _) hg4))
  have I4 := hid ((I0.out.below (below_drew _)).below (below_grownN (Below.refl _ _) hg4))
  have A4 : Hid (∀ y, (Value.slice a4 n4 c4).ownBlock = some y → w.heap.size + 1 < y) := fun y e => by
    rcases ha4 with h1 | h1
    · rw [h1] at e; cases e
    · rw [h1] at e
      have e3 : U.heap.size = y := Option.some.inj e
      have := I0.out.lt
      omega
  clear hO4 hg4 ha4 BD
  go_wp2_with fail
  refine hK.out _ _ ?_ (fun hHeld => ?_)
  · exact ⟨K4.out.cell (j := 0) rfl, K4.out.cell (j := 1) rfl⟩
  clear hK K1
  try simp only [List.getElem_toArray]
  try simp only [List.getElem_cons_succ]
  try simp only [List.getElem_cons_zero]
  try simp only [Act.put]
  try simp only [List.setIfInBounds_toArray]
  try simp only [List.set_cons_succ]
  try simp only [List.set_cons_zero]
  refine wpAnyH_ready (rs := [5]) (by kernel_rfl) (by simp) ?_
  refine AllReadyH.cons rfl (fun K1 hK => ?_) AllReadyH.nil
  go_simp
  refine (copyLk_any w.heap.size S' wa wn wc wl _ (H2.out.below B4.out) (by omega) (B4.out.size)).mono ?_
  rintro r w5 ⟨a5, n5, c5, rfl, hO5, hg5, ha5⟩
  have P5 : Hid (LO w5 w.heap.size (.slice a4 n4 c4) (.slice a5 n5 c5) hl wl) := (show LO w4 w.heap.size (.slice a4 n4 c4) (.slice none 0 0) hl [] from ⟨P4.out, lw_nil _ _, fun y h e => by cases e⟩).pushW hO5 hg5 ha5
  have B5 := hid (below_grownN B4.out hg5)
  have K5 := hid (K4.out.below (below_grownN (Below.refl _ _) hg5))
  have I5 := hid (I4.out.below (below_grownN (Below.refl _ _) hg5))
  have A5 : Hid (∀ y, lbl (.slice a4 n4 c4) (.slice a5 n5 c5) y → w.heap.size + 1 < y) := fun y e => by
    rcases e with e | e
    · exact A4.out y e
    · rcases ha5 with h1 | h1
      · rw [h1] at e; cases e
      · rw [h1] at e
        have e3 : w4.heap.size = y := Option.some.inj e
        have := I4.out.lt
        omega
  clear hO5 hg5 ha5 P4 B4 K4 I4 A4
  go_wp2_with fail
  refine hK.out _ _ ?_ (fun hHeld => ?_)
  · exact ⟨K5.out.cell (j := 0) rfl, K5.out.cell (j := 1) rfl⟩
  clear hK K1
  try simp only [List.getElem_toArray]
  try simp only [List.getElem_cons_succ]
  try simp only [List.getElem_cons_zero]
  try simp only [Act.put]
  try simp only [List.setIfInBounds_toArray]
  try simp only [List.set_cons_succ]
  try simp only [List.set_cons_zero]
  refine wpAnyH_take (i := 6) (v := (.agg #[.slice a4 n4 c4, .slice a5 n5 c5])) rfl (by kernel_rfl) (by kernel_rfl) (by kernel_rfl) (fun _ _ _ h => h) (Or.inl ⟨by rfl, ?_⟩) (by assumption) ?_
  · intro w hSw
    (try dsimp only at hSw)
    go_simp
  try simp only [List.getElem_toArray]
  try simp only [List.getElem_cons_succ]
  try simp only [List.getElem_cons_zero]
  try simp only [Act.put]
  try simp only [List.setIfInBounds_toArray]
  try simp only [List.set_cons_succ]
  try simp only [List.set_cons_zero]
  have z0 := I5.out.cell (j := 0) rfl
  have z1 := I5.out.cell (j := 1) rfl
  have e0 := I5.out.free 0
  have e1 := I5.out.free 1
  have K6 : Hid (Bk ((w5.setCell ⟨w.heap.size + 1, 0, none⟩ (.slice a4 n4 c4)).setCell ⟨w.heap.size + 1, 1, none⟩ (.slice a5 n5 c5)) w.heap.size 25 [.slice ha hn hc, .slice wa wn wc]) := (K5.out.setOther (by omega) 0 _).setOther (by omega) 1 _
  have HF : Hid (LO ((w5.setCell ⟨w.heap.size + 1, 0, none⟩ (.slice a4 n4 c4)).setCell ⟨w.heap.size + 1, 1, none⟩ (.slice a5 n5 c5)) w.heap.size (.slice a4 n4 c4) (.slice a5 n5 c5) hl wl ∧ Below w.heap.size w ((w5.setCell ⟨w.heap.size + 1, 0, none⟩ (.slice a4 n4 c4)).setCell ⟨w.heap.size + 1, 1, none⟩ (.slice a5 n5 c5))) := by
    have ow : Only (fun y => y = w.heap.size + 1) w5 ((w5.setCell ⟨w.heap.size + 1, 0, none⟩ (.slice a4 n4 c4)).setCell ⟨w.heap.size + 1, 1, none⟩ (.slice a5 n5 c5)) := (only_set (R := fun y => y = w.heap.size + 1) (p := ⟨w.heap.size + 1, 0, none⟩) rfl _).trans (only_set (R := fun y => y = w.heap.size + 1) (p := ⟨w.heap.size + 1, 1, none⟩) rfl _)
    exact ⟨P5.out.to ow (fun y hy e => by have := A5.out y hy; omega), B5.out.trans (ow.below B5.out.size (fun b hb e => by omega))⟩
  refine wpAnyH_ready (rs := [7]) (by kernel_rfl) (by simp) ?_
  refine AllReadyH.cons rfl (fun K1 hK => ?_) AllReadyH.nil
  go_simp
  try go_wp2_with fail
  refine hK.out _ _ ?_ (fun hHeld => ?_)
  · exact ⟨K6.out.cell (j := 0) rfl, K6.out.cell (j := 1) rfl⟩
  clear hK K1
  try simp only [List.getElem_toArray]
  try simp only [List.getElem_cons_succ]
  try simp only [List.getElem_cons_zero]
  try simp only [Act.put]
  try simp only [List.setIfInBounds_toArray]
  try simp only [List.set_cons_succ]
  try simp only [List.set_cons_zero]
  refine wpAnyH_done (by kernel_rfl) ?_ _
  refine NoPanic.normal ?_
  clear z0 z1 e0 e1
  have q0 : ((w5.setCell ⟨w.heap.size + 1, 0, none⟩ (.slice a4 n4 c4)).setCell ⟨w.heap.size + 1, 1, none⟩ (.slice a5 n5 c5)).cell? ⟨w.heap.size + 1, 0, none⟩ = some (.slice a4 n4 c4) := ((I5.out.set 0 _).set 1 _).cell (j := 0) rfl
  have q1 : ((w5.setCell ⟨w.heap.size + 1, 0, none⟩ (.slice a4 n4 c4)).setCell ⟨w.heap.size + 1, 1, none⟩ (.slice a5 n5 c5)).cell? ⟨w.heap.size + 1, 1, none⟩ = some (.slice a5 n5 c5) := ((I5.out.set 0 _).set 1 _).cell (j := 1) rfl
  generalize (w5.setCell ⟨w.heap.size + 1, 0, none⟩ (.slice a4 n4 c4)).setCell ⟨w.heap.size + 1, 1, none⟩ (.slice a5 n5 c5) = V at *
  go_wp2
  try simp only [Exit.inBlock, Exit.then]
  refine bodyPost_ret (v := .agg #[.slice a4 n4 c4, .slice a5 n5 c5]) ?_ rfl ?_
  · exact results_locks rfl _ _ (w.heap.size + 1) rfl q0 q1
  · exact ⟨a4, n4, c4, a5, n5, c5, rfl, HF.out.1, HF.out.2⟩
end Go.Proofs.Ytbaggkfgnjenoaa

