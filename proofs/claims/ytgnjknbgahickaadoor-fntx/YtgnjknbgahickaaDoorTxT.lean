/-
  Names of transactions as texts: TxText on both sides, and the law FnExactTxText.
-/
import Derived.Test.YtgnjknbgahickaaDoorLkA
import Derived.Test.YtgnjknbgahickaaDoorKl
import Derived.Test.YtgnjknbgahickaaDoorNumImpl
import Derived.Deep.RegionHeld3
namespace Go.Proofs.YtgnjknbgahickaaDoor
open Go.RowKit
set_option linter.unusedVariables false
theorem kl3 {u v : World} {a0 a1 a2 : Addr} {x0 x1 x2 : Value} (h : KL u v [(a0, x0), (a1, x1), (a2, x2)]) : v.cell? a0 = some x0 ∧ v.cell? a1 = some x1 ∧ v.cell? a2 = some x2 ∧ KL u v [(a0, x0), (a1, x1), (a2, x2)] := ⟨h.at (by simp), h.at (by simp), h.at (by simp), h⟩
theorem kl3c {u v v' : World} {a0 a1 a2 : Addr} {x0 x1 x2 : Value} (k : Below v.heap.size v v') (h : v.cell? a0 = some x0 ∧ v.cell? a1 = some x1 ∧ v.cell? a2 = some x2 ∧ KL u v [(a0, x0), (a1, x1), (a2, x2)]) : v'.cell? a0 = some x0 ∧ v'.cell? a1 = some x1 ∧ v'.cell? a2 = some x2 ∧ KL u v' [(a0, x0), (a1, x1), (a2, x2)] := kl3 (KL.call h.2.2.2 k)
theorem kl3_bel {u v : World} {a0 a1 a2 : Addr} {x0 x1 x2 : Value} (h : v.cell? a0 = some x0 ∧ v.cell? a1 = some x1 ∧ v.cell? a2 = some x2 ∧ KL u v [(a0, x0), (a1, x1), (a2, x2)]) : Below u.heap.size u v := KL.bel h.2.2.2
theorem kl3_0 {u : World} {a0 a1 a2 : Addr} {x0 x1 x2 : Value} (h0 : u.cell? a0 = some x0) (h1 : u.cell? a1 = some x1) (h2 : u.cell? a2 = some x2) : KL u u [(a0, x0), (a1, x1), (a2, x2)] := ⟨fun p hp => by
    simp only [List.mem_cons, List.not_mem_nil, or_false] at hp
    rcases hp with rfl | rfl | rfl <;> assumption, Below.refl _ _⟩
/-- The text of a name. -/
def txT (x : TX) : ByteArray := if txOk x then numS x.1 ++ ⟨#[46]⟩ ++ numS x.2.1 ++ ⟨#[46]⟩ ++ numS x.2.2 else ⟨#[]⟩
theorem txT_yes {x : TX} (h : txOk x = true) : txT x = numS x.1 ++ ⟨#[46]⟩ ++ numS x.2.1 ++ ⟨#[46]⟩ ++ numS x.2.2 := by rw [txT, h]; rfl
theorem txT_no {x : TX} (h : txOk x = false) : txT x = ⟨#[]⟩ := by rw [txT, h]; rfl
theorem dot_size : (⟨#[46]⟩ : ByteArray).size = 1 := rfl
set_option maxHeartbeats 4000000 in
set_option maxRecDepth 20000 in
theorem implTxText_any (c e n : Int) (w : World) (ht : Tab w) (hg : 5 < w.heap.size) : Calls Tryd.prog 10 #[.agg #[.int .i64 c, .int .i64 e, .int .i64 n]] w fun r w' => r = .returned (.string (txT (c, e, n))) ∧ Below w.heap.size w w' := by
  have B0 := hid (below_new (o := .cells #[.int .i64 c, .int .i64 e, .int .i64 n] 34) (w := w) (Below.refl _ _))
  have K0 := hid (Bk.new w 34 [.int .i64 c, .int .i64 e, .int .i64 n])
  have C1 := hid (fun w => implTxOk_any c e n w)
  have CN := hid (fun n w ht => implNumText_any n w ht)
  have HT := hid ht
  have HG := hid hg
  clear ht hg
  have hnot : ∀ (x : Bool) (w : World), (Op.unary .not (.bool x)).run Tryd.prog w = .ok (.bool (!x)) w := fun _ _ => rfl
  have s1 := numS_size c
  have s2 := numS_size e
  have s3 := numS_size n
  have hd := dot_size
  have a1 : (numS c ++ ⟨#[46]⟩).size ≤ 14 := by rw [ByteArray.size_append]; omega
  have a2 : (numS c ++ ⟨#[46]⟩ ++ numS e).size ≤ 27 := by rw [ByteArray.size_append]; omega
  have a3 : (numS c ++ ⟨#[46]⟩ ++ numS e ++ ⟨#[46]⟩).size ≤ 28 := by rw [ByteArray.size_append]; omega
  have q1 : ¬ (9223372036854775807 < (numS c).size + (⟨#[46]⟩ : ByteArray).size) := by omega
  have q2 : ¬ (9223372036854775807 < (numS c ++ ⟨#[46]⟩).size + (numS e).size) := by omega
  have q3 : ¬ (9223372036854775807 < (numS c ++ ⟨#[46]⟩ ++ numS e).size + (⟨#[46]⟩ : ByteArray).size) := by omega
  have q4 : ¬ (9223372036854775807 < (numS c ++ ⟨#[46]⟩ ++ numS e ++ ⟨#[46]⟩).size + (numS n).size) := by omega
  cases hz : txOk (c, e, n) with
  | false =>
    have HV := hid (txT_no hz)
    rw [hz] at C1
    clear hz
    go_enter Tryd.func10, Tryd.ntmps10
    go_wp2_with fail
    refine (C1.out _).mono ?_
    rintro r w1 ⟨rfl, hb⟩
    have B1 := hid (B0.out.trans (hb.mono B0.out.size))
    clear hb
    go_wp2
    go_ret
    exact ⟨by rw [HV.out]; rfl, B1.out⟩
  | true =>
    have HV := hid (txT_yes hz)
    rw [hz] at C1
    clear hz
    go_enter Tryd.func10, Tryd.ntmps10
    go_wp2_with fail
    refine (C1.out _).mono ?_
    generalize w.alloc (.cells #[.int .i64 c, .int .i64 e, .int .i64 n] 34) = U at *
    rintro r w1 ⟨rfl, hb⟩
    have B1 := hid (B0.out.trans (hb.mono B0.out.size))
    have K1 := hid (K0.out.below hb)
    clear hb B0 K0
    have T1 := hid (kl3_0 (K1.out.cell (j := 0) rfl) (K1.out.cell (j := 1) rfl) (K1.out.cell (j := 2) rfl))
    go_wp2_with fail
    refine wp_region_noPanic ?_
    refine wp_region_held_drew (S := fun v => v.cell? ⟨w.heap.size, 0, none⟩ = some (.int .i64 c) ∧ v.cell? ⟨w.heap.size, 1, none⟩ = some (.int .i64 e) ∧ v.cell? ⟨w.heap.size, 2, none⟩ = some (.int .i64 n) ∧ KL w1 v [(⟨w.heap.size, 0, none⟩, .int .i64 c), (⟨w.heap.size, 1, none⟩, .int .i64 e), (⟨w.heap.size, 2, none⟩, .int .i64 n)]) (by kernel_rfl) (kl3 (T1.out.call (below_drew _))) (fun hHeld => ?_)
    simp only [List.size_toArray, List.length_cons, List.length_nil, Array.replicate_succ, Array.replicate_zero, Nat.reduceAdd, List.push_toArray, List.nil_append, List.cons_append]
    refine wpAnyH_take (i := 0) (v := (.pointer (some ⟨w.heap.size, 0, none⟩))) rfl (by kernel_rfl) (by kernel_rfl) (by kernel_rfl) (fun _ _ _ h => h) (Or.inl ⟨by rfl, ?_⟩) (by assumption) ?_
    · intro w hSw
      (try dsimp only at hSw)
      go_simp
    try simp only [List.getElem_toArray]
    try simp only [List.getElem_cons_succ]
    try simp only [List.getElem_cons_zero]
    try simp only [Act.put]
    try simp only [List.setIfInBounds_toArray]
    try simp only [List.set_cons_succ]
    try simp only [List.set_cons_zero]
    refine wpAnyH_take (i := 1) (v := (.int .i64 c)) rfl (by kernel_rfl) (by kernel_rfl) (by kernel_rfl) (fun _ _ _ h => h) (Or.inl ⟨by rfl, ?_⟩) (by assumption) ?_
    · intro w hSw
      (try dsimp only at hSw)
      go_simp
    try simp only [List.getElem_toArray]
    try simp only [List.getElem_cons_succ]
    try simp only [List.getElem_cons_zero]
    try simp only [Act.put]
    try simp only [List.setIfInBounds_toArray]
    try simp only [List.set_cons_succ]
    try simp only [List.set_cons_zero]
    refine wpAnyH_take (i := 4) (v := (.pointer (some ⟨w.heap.size, 1, none⟩))) rfl (by kernel_rfl) (by kernel_rfl) (by kernel_rfl) (fun _ _ _ h => h) (Or.inl ⟨by rfl, ?_⟩) (by assumption) ?_
    · intro w hSw
      (try dsimp only at hSw)
      go_simp
    try simp only [List.getElem_toArray]
    try simp only [List.getElem_cons_succ]
    try simp only [List.getElem_cons_zero]
    try simp only [Act.put]
    try simp only [List.setIfInBounds_toArray]
    try simp only [List.set_cons_succ]
    try simp only [List.set_cons_zero]
    refine wpAnyH_take (i := 5) (v := (.int .i64 e)) rfl (by kernel_rfl) (by kernel_rfl) (by kernel_rfl) (fun _ _ _ h => h) (Or.inl ⟨by rfl, ?_⟩) (by assumption) ?_
    · intro w hSw
      (try dsimp only at hSw)
      go_simp
    try simp only [List.getElem_toArray]
    try simp only [List.getElem_cons_succ]
    try simp only [List.getElem_cons_zero]
    try simp only [Act.put]
    try simp only [List.setIfInBounds_toArray]
    try simp only [List.set_cons_succ]
    try simp only [List.set_cons_zero]
    refine wpAnyH_take (i := 9) (v := (.pointer (some ⟨w.heap.size, 2, none⟩))) rfl (by kernel_rfl) (by kernel_rfl) (by kernel_rfl) (fun _ _ _ h => h) (Or.inl ⟨by rfl, ?_⟩) (by assumption) ?_
    · intro w hSw
      (try dsimp only at hSw)
      go_simp
    try simp only [List.getElem_toArray]
    try simp only [List.getElem_cons_succ]
    try simp only [List.getElem_cons_zero]
    try simp only [Act.put]
    try simp only [List.setIfInBounds_toArray]
    try simp only [List.set_cons_succ]
    try simp only [List.set_cons_zero]
    refine wpAnyH_take (i := 10) (v := (.int .i64 n)) rfl (by kernel_rfl) (by kernel_rfl) (by kernel_rfl) (fun _ _ _ h => h) (Or.inl ⟨by rfl, ?_⟩) (by assumption) ?_
    · intro w hSw
      (try dsimp only at hSw)
      go_simp
    try simp only [List.getElem_toArray]
    try simp only [List.getElem_cons_succ]
    try simp only [List.getElem_cons_zero]
    try simp only [Act.put]
    try simp only [List.setIfInBounds_toArray]
    try simp only [List.set_cons_succ]
    try simp only [List.set_cons_zero]
    refine wpAnyH_ready (rs := [2]) (by kernel_rfl) (by simp) ?_
    refine AllReadyH.cons rfl (fun K1 hK => ?_) AllReadyH.nil
    go_simp
    refine (CN.out c _ (HT.out.below (B1.out.trans ((kl3_bel (by assumption)).mono B1.out.size)) HG.out)).mono ?_
    rintro r w' ⟨rfl, hbC⟩
    go_wp2_with fail
    refine hK.out _ _ ?_ (fun hHeld => ?_)
    · exact kl3c hbC (by assumption)
    clear hK K1
    try simp only [List.getElem_toArray]
    try simp only [List.getElem_cons_succ]
    try simp only [List.getElem_cons_zero]
    try simp only [Act.put]
    try simp only [List.setIfInBounds_toArray]
    try simp only [List.set_cons_succ]
    try simp only [List.set_cons_zero]
    refine wpAnyH_take (i := 3) (v := (.string (numS c ++ ⟨#[46]⟩))) rfl (by kernel_rfl) (by kernel_rfl) (by kernel_rfl) (fun _ _ _ h => h) (Or.inl ⟨by rfl, ?_⟩) (by assumption) ?_
    · intro w hSw
      (try dsimp only at hSw)
      go_simp
      try omega
    try simp only [List.getElem_toArray]
    try simp only [List.getElem_cons_succ]
    try simp only [List.getElem_cons_zero]
    try simp only [Act.put]
    try simp only [List.setIfInBounds_toArray]
    try simp only [List.set_cons_succ]
    try simp only [List.set_cons_zero]
    refine wpAnyH_ready (rs := [6]) (by kernel_rfl) (by simp) ?_
    refine AllReadyH.cons rfl (fun K1 hK => ?_) AllReadyH.nil
    go_simp
    refine (CN.out e _ (HT.out.below (B1.out.trans ((kl3_bel (by assumption)).mono B1.out.size)) HG.out)).mono ?_
    rintro r w' ⟨rfl, hbC⟩
    go_wp2_with fail
    refine hK.out _ _ ?_ (fun hHeld => ?_)
    · exact kl3c hbC (by assumption)
    clear hK K1
    try simp only [List.getElem_toArray]
    try simp only [List.getElem_cons_succ]
    try simp only [List.getElem_cons_zero]
    try simp only [Act.put]
    try simp only [List.setIfInBounds_toArray]
    try simp only [List.set_cons_succ]
    try simp only [List.set_cons_zero]
    refine wpAnyH_take (i := 7) (v := (.string (numS c ++ ⟨#[46]⟩ ++ numS e))) rfl (by kernel_rfl) (by kernel_rfl) (by kernel_rfl) (fun _ _ _ h => h) (Or.inl ⟨by rfl, ?_⟩) (by assumption) ?_
    · intro w hSw
      (try dsimp only at hSw)
      go_simp
      try omega
    try simp only [List.getElem_toArray]
    try simp only [List.getElem_cons_succ]
    try simp only [List.getElem_cons_zero]
    try simp only [Act.put]
    try simp only [List.setIfInBounds_toArray]
    try simp only [List.set_cons_succ]
    try simp only [List.set_cons_zero]
    refine wpAnyH_take (i := 8) (v := (.string (numS c ++ ⟨#[46]⟩ ++ numS e ++ ⟨#[46]⟩))) rfl (by kernel_rfl) (by kernel_rfl) (by kernel_rfl) (fun _ _ _ h => h) (Or.inl ⟨by rfl, ?_⟩) (by assumption) ?_
    · intro w hSw
      (try dsimp only at hSw)
      go_simp
      try omega
    try simp only [List.getElem_toArray]
    try simp only [List.getElem_cons_succ]
    try simp only [List.getElem_cons_zero]
    try simp only [Act.put]
    try simp only [List.setIfInBounds_toArray]
    try simp only [List.set_cons_succ]
    try simp only [List.set_cons_zero]
    refine wpAnyH_ready (rs := [11]) (by kernel_rfl) (by simp) ?_
    refine AllReadyH.cons rfl (fun K1 hK => ?_) AllReadyH.nil
    go_simp
    refine (CN.out n _ (HT.out.below (B1.out.trans ((kl3_bel (by assumption)).mono B1.out.size)) HG.out)).mono ?_
    rintro r w' ⟨rfl, hbC⟩
    go_wp2_with fail
    refine hK.out _ _ ?_ (fun hHeld => ?_)
    · exact kl3c hbC (by assumption)
    clear hK K1
    try simp only [List.getElem_toArray]
    try simp only [List.getElem_cons_succ]
    try simp only [List.getElem_cons_zero]
    try simp only [Act.put]
    try simp only [List.setIfInBounds_toArray]
    try simp only [List.set_cons_succ]
    try simp only [List.set_cons_zero]
    refine wpAnyH_take (i := 12) (v := (.string (numS c ++ ⟨#[46]⟩ ++ numS e ++ ⟨#[46]⟩ ++ numS n))) rfl (by kernel_rfl) (by kernel_rfl) (by kernel_rfl) (fun _ _ _ h => h) (Or.inl ⟨by rfl, ?_⟩) (by assumption) ?_
    · intro w hSw
      (try dsimp only at hSw)
      go_simp
      try omega
    try simp only [List.getElem_toArray]
    try simp only [List.getElem_cons_succ]
    try simp only [List.getElem_cons_zero]
    try simp only [Act.put]
    try simp only [List.setIfInBounds_toArray]
    try simp only [List.set_cons_succ]
    try simp only [List.set_cons_zero]
    refine wpAnyH_take (i := 13) (v := (.string (numS c ++ ⟨#[46]⟩ ++ numS e ++ ⟨#[46]⟩ ++ numS n))) rfl (by kernel_rfl) (by kernel_rfl) (by kernel_rfl) (fun _ _ _ h => h) (Or.inl ⟨by rfl, ?_⟩) (by assumption) ?_
    · intro w hSw
      (try dsimp only at hSw)
      go_simp
    try simp only [List.getElem_toArray]
    try simp only [List.getElem_cons_succ]
    try simp only [List.getElem_cons_zero]
    try simp only [Act.put]
    try simp only [List.setIfInBounds_toArray]
    try simp only [List.set_cons_succ]
    try simp only [List.set_cons_zero]
    refine wpAnyH_done (by kernel_rfl) ?_ _
    refine NoPanic.normal ?_
    have B9 := hid (B1.out.trans ((kl3_bel (by assumption)).mono B1.out.size))
    go_wp2
    go_ret
    exact ⟨by rw [HV.out]; rfl, B9.out⟩
end Go.Proofs.YtgnjknbgahickaaDoor

