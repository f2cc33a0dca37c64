/-
  A record made of a mark and texts.
-/
import Derived.Test.YtgnjknbgahickabDoorRcS
import Derived.Test.YtgnjknbgahickabDoorRng3
namespace Go.Proofs.YtgnjknbgahickabDoor
open Go.RowKit
set_option linter.unusedVariables false
theorem rcO_no {m : Int} {ss : List ByteArray} (h1 : ¬ (m = 119 ∧ ss.length = 2)) (h2 : ¬ (m = 103 ∧ ss.length = 1)) (h3 : ¬ (m = 115 ∧ ss.length = 2)) (h4 : ¬ (m = 120 ∧ ss.length = 2)) : rcO m ss = rc0 := by
  unfold rcO
  rw [if_neg h1, if_neg h2, if_neg h3, if_neg h4]
set_option maxHeartbeats 8000000 in
theorem recordOf_any (m : Int) (B : Nat) (a : Option Addr) (n c : Nat) (ss : List ByteArray) (w : World) (h : StW w B (.slice a n c) ss) :
    Calls Tryd.prog 29 #[.int .u8 m, .slice a n c] w fun e w' => e = .returned (.agg #[.int .i64 (rcO m ss).1, .string (rcO m ss).2.1, .string (rcO m ss).2.2.1, .string (rcO m ss).2.2.2.1, .string (rcO m ss).2.2.2.2]) ∧ Below w.heap.size w w' := by
  have HL := hid h.len
  have HA := hid (fun hp => h.at hp)
  clear h
  have B0 := hid (below_new (o := .cells #[.int .i64 0, .string ⟨#[]⟩, .string ⟨#[]⟩, .string ⟨#[]⟩, .string ⟨#[]⟩] 30) (w := w) (Below.refl _ _))
  have K0 := hid (Bk.new w 30 [.int .i64 0, .string ⟨#[]⟩, .string ⟨#[]⟩, .string ⟨#[]⟩, .string ⟨#[]⟩])
  by_cases h1 : m = 119
  · subst h1
    by_cases hn : n = 2
    · subst hn
      obtain ⟨g, rfl, hgw, -, hcell⟩ := HA.out (by omega)
      have c0 := hcell 0 (by omega)
      have c1 := hcell 1 (by omega)
      generalize hs0 : ss[0]?.getD ⟨#[]⟩ = s0 at *
      generalize hs1 : ss[1]?.getD ⟨#[]⟩ = s1 at *
      have hne : ¬ g = w.heap.size := by omega
      have hne2 : ¬ w.heap.size = g := by omega
      clear hcell HA
      have HV : Hid (rcO 119 ss = (1, s0, s1, ⟨#[]⟩, ⟨#[]⟩)) := by show _ = _; unfold rcO; rw [if_pos ⟨rfl, HL.out.symm⟩, hs0, hs1]
      clear hs0 hs1
      have z0 := K0.out.cell (j := 0) rfl
      have z1 := K0.out.cell (j := 1) rfl
      have z2 := K0.out.cell (j := 2) rfl
      have z3 := K0.out.cell (j := 3) rfl
      have z4 := K0.out.cell (j := 4) rfl
      have f0 := K0.out.free 0
      have f1 := K0.out.free 1
      have f2 := K0.out.free 2
      have f3 := K0.out.free 3
      have f4 := K0.out.free 4
      have K5 := hid (((((K0.out.set 0 (.int .i64 1)).set 1 (.string s0)).set 2 (.string s1)).set 3 (.string ⟨#[]⟩)).set 4 (.string ⟨#[]⟩))
      go_enter Tryd.func29, Tryd.ntmps29
      go_wp2_with fail
      refine wp_region_noPanic ?_
      refine wp_region_held_drew (S := fun v => v.cell? ⟨g, 0, none⟩ = some (.string s0) ∧ v.cell? ⟨g, 1, none⟩ = some (.string s1)) (by kernel_rfl) (⟨by go_simp, by go_simp⟩) (fun hHeld => ?_)
      simp only [List.size_toArray, List.length_cons, List.length_nil, Array.replicate_succ, Array.replicate_zero, Nat.reduceAdd, List.push_toArray, List.nil_append, List.cons_append]
      refine wpAnyH_take (i := 0) (v := (.slice (some ⟨g, 0, none⟩) 2 c)) rfl (by kernel_rfl) (by kernel_rfl) (by kernel_rfl) (fun _ _ _ h => h) (Or.inl ⟨by rfl, ?_⟩) (by assumption) ?_
      · intro w hSw
        (try dsimp only at hSw)
        go_simp
      try simp only [List.getElem_toArray]
      try simp only [List.getElem_cons_succ]
      try simp only [List.getElem_cons_zero]
      try simp only [Act.put]
      try simp only [List.setIfInBounds_toArray]
      try simp only [List.set_cons_succ]
      try simp only [List.set_cons_zero]
      refine wpAnyH_take (i := 1) (v := (.pointer (some ⟨g, 0, none⟩))) rfl (by kernel_rfl) (by kernel_rfl) (by kernel_rfl) (fun _ _ _ h => h) (Or.inl ⟨by rfl, ?_⟩) (by assumption) ?_
      · intro w hSw
        (try dsimp only at hSw)
        go_simp
      try simp only [List.getElem_toArray]
      try simp only [List.getElem_cons_succ]
      try simp only [List.getElem_cons_zero]
      try simp only [Act.put]
      try simp only [List.setIfInBounds_toArray]
      try simp only [List.set_cons_succ]
      try simp only [List.set_cons_zero]
      refine wpAnyH_take (i := 2) (v := (.string s0)) rfl (by kernel_rfl) (by kernel_rfl) (by kernel_rfl) (fun _ _ _ h => h) (Or.inl ⟨by rfl, ?_⟩) (by assumption) ?_
      · intro w hSw
        (try dsimp only at hSw)
        go_simp
      try simp only [List.getElem_toArray]
      try simp only [List.getElem_cons_succ]
      try simp only [List.getElem_cons_zero]
      try simp only [Act.put]
      try simp only [List.setIfInBounds_toArray]
      try simp only [List.set_cons_succ]
      try simp only [List.set_cons_zero]
      refine wpAnyH_take (i := 3) (v := (.slice (some ⟨g, 0, none⟩) 2 c)) rfl (by kernel_rfl) (by kernel_rfl) (by kernel_rfl) (fun _ _ _ h => h) (Or.inl ⟨by rfl, ?_⟩) (by assumption) ?_
      · intro w hSw
        (try dsimp only at hSw)
        go_simp
      try simp only [List.getElem_toArray]
      try simp only [List.getElem_cons_succ]
      try simp only [List.getElem_cons_zero]
      try simp only [Act.put]
      try simp only [List.setIfInBounds_toArray]
      try simp only [List.set_cons_succ]
      try simp only [List.set_cons_zero]
      refine wpAnyH_take (i := 4) (v := (.pointer (some ⟨g, 1, none⟩))) rfl (by kernel_rfl) (by kernel_rfl) (by kernel_rfl) (fun _ _ _ h => h) (Or.inl ⟨by rfl, ?_⟩) (by assumption) ?_
      · intro w hSw
        (try dsimp only at hSw)
        go_simp
      try simp only [List.getElem_toArray]
      try simp only [List.getElem_cons_succ]
      try simp only [List.getElem_cons_zero]
      try simp only [Act.put]
      try simp only [List.setIfInBounds_toArray]
      try simp only [List.set_cons_succ]
      try simp only [List.set_cons_zero]
      refine wpAnyH_take (i := 5) (v := (.string s1)) rfl (by kernel_rfl) (by kernel_rfl) (by kernel_rfl) (fun _ _ _ h => h) (Or.inl ⟨by rfl, ?_⟩) (by assumption) ?_
      · intro w hSw
        (try dsimp only at hSw)
        go_simp
      try simp only [List.getElem_toArray]
      try simp only [List.getElem_cons_succ]
      try simp only [List.getElem_cons_zero]
      try simp only [Act.put]
      try simp only [List.setIfInBounds_toArray]
      try simp only [List.set_cons_succ]
      try simp only [List.set_cons_zero]
      refine wpAnyH_take (i := 6) (v := (.agg #[.int .i64 1, .string s0, .string s1, .string ⟨#[]⟩, .string ⟨#[]⟩])) rfl (by kernel_rfl) (by kernel_rfl) (by kernel_rfl) (fun _ _ _ h => h) (Or.inl ⟨by rfl, ?_⟩) (by assumption) ?_
      · intro w hSw
        (try dsimp only at hSw)
        go_simp
      try simp only [List.getElem_toArray]
      try simp only [List.getElem_cons_succ]
      try simp only [List.getElem_cons_zero]
      try simp only [Act.put]
      try simp only [List.setIfInBounds_toArray]
      try simp only [List.set_cons_succ]
      try simp only [List.set_cons_zero]
      refine wpAnyH_ready (rs := [7]) (by kernel_rfl) (by simp) ?_
      refine AllReadyH.cons rfl (fun K1 hK => ?_) AllReadyH.nil
      go_simp
      try go_wp2_with fail
      refine hK.out _ _ ?_ (fun hHeld => ?_)
      · exact ⟨by go_simp, by go_simp⟩
      clear hK K1
      try simp only [List.getElem_toArray]
      try simp only [List.getElem_cons_succ]
      try simp only [List.getElem_cons_zero]
      try simp only [Act.put]
      try simp only [List.setIfInBounds_toArray]
      try simp only [List.set_cons_succ]
      try simp only [List.set_cons_zero]
      refine wpAnyH_done (by kernel_rfl) ?_ _
      refine NoPanic.normal ?_
      go_wp2
      try simp only [Exit.inBlock, Exit.then]
      refine bodyPost_ret (v := .agg #[.int .i64 1, .string s0, .string s1, .string ⟨#[]⟩, .string ⟨#[]⟩]) ?_ rfl ?_
      · exact results_rec rfl _ _ _ rfl (by go_simp) (by go_simp) (by go_simp) (by go_simp) (by go_simp)
      · refine ⟨by rw [HV.out], ?_⟩
        exact btR (below_new (w := w) (Below.refl _ _)) (below_drew _)
    · clear HA
      have HV : Hid (rcO 119 ss = rc0) := rcO_no (fun h => hn (HL.out.trans h.2)) (fun h => by have := h.1; omega) (fun h => by have := h.1; omega) (fun h => by have := h.1; omega)
      have en : ((n : Int) == 2) = false := by simp; omega
      have en2 : ¬ ((n : Int) = 2) := by omega
      go_enter Tryd.func29, Tryd.ntmps29
      go_wp2
      try simp only [Exit.inBlock, Exit.then]
      refine bodyPost_ret (v := .agg #[.int .i64 0, .string ⟨#[]⟩, .string ⟨#[]⟩, .string ⟨#[]⟩, .string ⟨#[]⟩]) ?_ rfl ?_
      · exact results_rec rfl _ _ _ rfl (by go_simp) (by go_simp) (by go_simp) (by go_simp) (by go_simp)
      · refine ⟨by rw [HV.out]; rfl, ?_⟩
        have b5 := B0.out
        exact b5
  · skip
    by_cases h2 : m = 103
    · subst h2
      by_cases hn : n = 1
      · subst hn
        obtain ⟨g, rfl, hgw, -, hcell⟩ := HA.out (by omega)
        have c0 := hcell 0 (by omega)
        generalize hs0 : ss[0]?.getD ⟨#[]⟩ = s0 at *
        have hne : ¬ g = w.heap.size := by omega
        have hne2 : ¬ w.heap.size = g := by omega
        clear hcell HA
        have HV : Hid (rcO 103 ss = (2, s0, ⟨#[]⟩, ⟨#[]⟩, ⟨#[]⟩)) := by show _ = _; unfold rcO; rw [if_neg (fun h => by have := h.1; omega), if_pos ⟨rfl, HL.out.symm⟩, hs0]
        clear hs0
        have z0 := K0.out.cell (j := 0) rfl
        have z1 := K0.out.cell (j := 1) rfl
        have z2 := K0.out.cell (j := 2) rfl
        have z3 := K0.out.cell (j := 3) rfl
        have z4 := K0.out.cell (j := 4) rfl
        have f0 := K0.out.free 0
        have f1 := K0.out.free 1
        have f2 := K0.out.free 2
        have f3 := K0.out.free 3
        have f4 := K0.out.free 4
        have K5 := hid (((((K0.out.set 0 (.int .i64 2)).set 1 (.string s0)).set 2 (.string ⟨#[]⟩)).set 3 (.string ⟨#[]⟩)).set 4 (.string ⟨#[]⟩))
        go_enter Tryd.func29, Tryd.ntmps29
        go_wp2_with fail
        go_wp2
        try simp only [Exit.inBlock, Exit.then]
        refine bodyPost_ret (v := .agg #[.int .i64 2, .string s0, .string ⟨#[]⟩, .string ⟨#[]⟩, .string ⟨#[]⟩]) ?_ rfl ?_
        · exact results_rec rfl _ _ _ rfl (by go_simp) (by go_simp) (by go_simp) (by go_simp) (by go_simp)
        · refine ⟨by rw [HV.out], ?_⟩
          exact below_new (w := w) (Below.refl _ _)
      · clear HA
        have HV : Hid (rcO 103 ss = rc0) := rcO_no (fun h => by have := h.1; omega) (fun h => hn (HL.out.trans h.2)) (fun h => by have := h.1; omega) (fun h => by have := h.1; omega)
        have en : ((n : Int) == 1) = false := by simp; omega
        have en2 : ¬ ((n : Int) = 1) := by omega
        go_enter Tryd.func29, Tryd.ntmps29
        go_wp2
        try simp only [Exit.inBlock, Exit.then]
        refine bodyPost_ret (v := .agg #[.int .i64 0, .string ⟨#[]⟩, .string ⟨#[]⟩, .string ⟨#[]⟩, .string ⟨#[]⟩]) ?_ rfl ?_
        · exact results_rec rfl _ _ _ rfl (by go_simp) (by go_simp) (by go_simp) (by go_simp) (by go_simp)
        · refine ⟨by rw [HV.out]; rfl, ?_⟩
          have b5 := B0.out
          exact b5
    · skip
      by_cases h3 : m = 115
      · subst h3
        by_cases hn : n = 2
        · subst hn
          obtain ⟨g, rfl, hgw, -, hcell⟩ := HA.out (by omega)
          have c0 := hcell 0 (by omega)
          have c1 := hcell 1 (by omega)
          generalize hs0 : ss[0]?.getD ⟨#[]⟩ = s0 at *
          generalize hs1 : ss[1]?.getD ⟨#[]⟩ = s1 at *
          have hne : ¬ g = w.heap.size := by omega
          have hne2 : ¬ w.heap.size = g := by omega
          clear hcell HA
          have HV : Hid (rcO 115 ss = (3, ⟨#[]⟩, ⟨#[]⟩, s0, s1)) := by show _ = _; unfold rcO; rw [if_neg (fun h => by have := h.1; omega), if_neg (fun h => by have := h.1; omega), if_pos ⟨rfl, HL.out.symm⟩, hs0, hs1]
          clear hs0 hs1
          have z0 := K0.out.cell (j := 0) rfl
          have z1 := K0.out.cell (j := 1) rfl
          have z2 := K0.out.cell (j := 2) rfl
          have z3 := K0.out.cell (j := 3) rfl
          have z4 := K0.out.cell (j := 4) rfl
          have f0 := K0.out.free 0
          have f1 := K0.out.free 1
          have f2 := K0.out.free 2
          have f3 := K0.out.free 3
          have f4 := K0.out.free 4
          have K5 := hid (((((K0.out.set 0 (.int .i64 3)).set 1 (.string ⟨#[]⟩)).set 2 (.string ⟨#[]⟩)).set 3 (.string s0)).set 4 (.string s1))
          go_enter Tryd.func29, Tryd.ntmps29
          go_wp2_with fail
          refine wp_region_noPanic ?_
          refine wp_region_held_drew (S := fun v => v.cell? ⟨g, 0, none⟩ = some (.string s0) ∧ v.cell? ⟨g, 1, none⟩ = some (.string s1)) (by kernel_rfl) (⟨by go_simp, by go_simp⟩) (fun hHeld => ?_)
          simp only [List.size_toArray, List.length_cons, List.length_nil, Array.replicate_succ, Array.replicate_zero, Nat.reduceAdd, List.push_toArray, List.nil_append, List.cons_append]
          refine wpAnyH_take (i := 0) (v := (.slice (some ⟨g, 0, none⟩) 2 c)) rfl (by kernel_rfl) (by kernel_rfl) (by kernel_rfl) (fun _ _ _ h => h) (Or.inl ⟨by rfl, ?_⟩) (by assumption) ?_
          · intro w hSw
            (try dsimp only at hSw)
            go_simp
          try simp only [List.getElem_toArray]
          try simp only [List.getElem_cons_succ]
          try simp only [List.getElem_cons_zero]
          try simp only [Act.put]
          try simp only [List.setIfInBounds_toArray]
          try simp only [List.set_cons_succ]
          try simp only [List.set_cons_zero]
          refine wpAnyH_take (i := 1) (v := (.pointer (some ⟨g, 0, none⟩))) rfl (by kernel_rfl) (by kernel_rfl) (by kernel_rfl) (fun _ _ _ h => h) (Or.inl ⟨by rfl, ?_⟩) (by assumption) ?_
          · intro w hSw
            (try dsimp only at hSw)
            go_simp
          try simp only [List.getElem_toArray]
          try simp only [List.getElem_cons_succ]
          try simp only [List.getElem_cons_zero]
          try simp only [Act.put]
          try simp only [List.setIfInBounds_toArray]
          try simp only [List.set_cons_succ]
          try simp only [List.set_cons_zero]
          refine wpAnyH_take (i := 2) (v := (.string s0)) rfl (by kernel_rfl) (by kernel_rfl) (by kernel_rfl) (fun _ _ _ h => h) (Or.inl ⟨by rfl, ?_⟩) (by assumption) ?_
          · intro w hSw
            (try dsimp only at hSw)
            go_simp
          try simp only [List.getElem_toArray]
          try simp only [List.getElem_cons_succ]
          try simp only [List.getElem_cons_zero]
          try simp only [Act.put]
          try simp only [List.setIfInBounds_toArray]
          try simp only [List.set_cons_succ]
          try simp only [List.set_cons_zero]
          refine wpAnyH_take (i := 3) (v := (.slice (some ⟨g, 0, none⟩) 2 c)) rfl (by kernel_rfl) (by kernel_rfl) (by kernel_rfl) (fun _ _ _ h => h) (Or.inl ⟨by rfl, ?_⟩) (by assumption) ?_
          · intro w hSw
            (try dsimp only at hSw)
            go_simp
          try simp only [List.getElem_toArray]
          try simp only [List.getElem_cons_succ]
          try simp only [List.getElem_cons_zero]
          try simp only [Act.put]
          try simp only [List.setIfInBounds_toArray]
          try simp only [List.set_cons_succ]
          try simp only [List.set_cons_zero]
          refine wpAnyH_take (i := 4) (v := (.pointer (some ⟨g, 1, none⟩))) rfl (by kernel_rfl) (by kernel_rfl) (by kernel_rfl) (fun _ _ _ h => h) (Or.inl ⟨by rfl, ?_⟩) (by assumption) ?_
          · intro w hSw
            (try dsimp only at hSw)
            go_simp
          try simp only [List.getElem_toArray]
          try simp only [List.getElem_cons_succ]
          try simp only [List.getElem_cons_zero]
          try simp only [Act.put]
          try simp only [List.setIfInBounds_toArray]
          try simp only [List.set_cons_succ]
          try simp only [List.set_cons_zero]
          refine wpAnyH_take (i := 5) (v := (.string s1)) rfl (by kernel_rfl) (by kernel_rfl) (by kernel_rfl) (fun _ _ _ h => h) (Or.inl ⟨by rfl, ?_⟩) (by assumption) ?_
          · intro w hSw
            (try dsimp only at hSw)
            go_simp
          try simp only [List.getElem_toArray]
          try simp only [List.getElem_cons_succ]
          try simp only [List.getElem_cons_zero]
          try simp only [Act.put]
          try simp only [List.setIfInBounds_toArray]
          try simp only [List.set_cons_succ]
          try simp only [List.set_cons_zero]
          refine wpAnyH_take (i := 6) (v := (.agg #[.string s0, .string s1])) rfl (by kernel_rfl) (by kernel_rfl) (by kernel_rfl) (fun _ _ _ h => h) (Or.inl ⟨by rfl, ?_⟩) (by assumption) ?_
          · intro w hSw
            (try dsimp only at hSw)
            go_simp
          try simp only [List.getElem_toArray]
          try simp only [List.getElem_cons_succ]
          try simp only [List.getElem_cons_zero]
          try simp only [Act.put]
          try simp only [List.setIfInBounds_toArray]
          try simp only [List.set_cons_succ]
          try simp only [List.set_cons_zero]
          refine wpAnyH_take (i := 7) (v := (.agg #[.int .i64 3, .string ⟨#[]⟩, .string ⟨#[]⟩, .string s0, .string s1])) rfl (by kernel_rfl) (by kernel_rfl) (by kernel_rfl) (fun _ _ _ h => h) (Or.inl ⟨by rfl, ?_⟩) (by assumption) ?_
          · intro w hSw
            (try dsimp only at hSw)
            go_simp
          try simp only [List.getElem_toArray]
          try simp only [List.getElem_cons_succ]
          try simp only [List.getElem_cons_zero]
          try simp only [Act.put]
          try simp only [List.setIfInBounds_toArray]
          try simp only [List.set_cons_succ]
          try simp only [List.set_cons_zero]
          refine wpAnyH_ready (rs := [8]) (by kernel_rfl) (by simp) ?_
          refine AllReadyH.cons rfl (fun K1 hK => ?_) AllReadyH.nil
          go_simp
          try go_wp2_with fail
          refine hK.out _ _ ?_ (fun hHeld => ?_)
          · exact ⟨by go_simp, by go_simp⟩
          clear hK K1
          try simp only [List.getElem_toArray]
          try simp only [List.getElem_cons_succ]
          try simp only [List.getElem_cons_zero]
          try simp only [Act.put]
          try simp only [List.setIfInBounds_toArray]
          try simp only [List.set_cons_succ]
          try simp only [List.set_cons_zero]
          refine wpAnyH_done (by kernel_rfl) ?_ _
          refine NoPanic.normal ?_
          go_wp2
          try simp only [Exit.inBlock, Exit.then]
          refine bodyPost_ret (v := .agg #[.int .i64 3, .string ⟨#[]⟩, .string ⟨#[]⟩, .string s0, .string s1]) ?_ rfl ?_
          · exact results_rec rfl _ _ _ rfl (by go_simp) (by go_simp) (by go_simp) (by go_simp) (by go_simp)
          · refine ⟨by rw [HV.out], ?_⟩
            exact btR (below_new (w := w) (Below.refl _ _)) (below_drew _)
        · clear HA
          have HV : Hid (rcO 115 ss = rc0) := rcO_no (fun h => by have := h.1; omega) (fun h => by have := h.1; omega) (fun h => hn (HL.out.trans h.2)) (fun h => by have := h.1; omega)
          have en : ((n : Int) == 2) = false := by simp; omega
          have en2 : ¬ ((n : Int) = 2) := by omega
          go_enter Tryd.func29, Tryd.ntmps29
          go_wp2
          try simp only [Exit.inBlock, Exit.then]
          refine bodyPost_ret (v := .agg #[.int .i64 0, .string ⟨#[]⟩, .string ⟨#[]⟩, .string ⟨#[]⟩, .string ⟨#[]⟩]) ?_ rfl ?_
          · exact results_rec rfl _ _ _ rfl (by go_simp) (by go_simp) (by go_simp) (by go_simp) (by go_simp)
          · refine ⟨by rw [HV.out]; rfl, ?_⟩
            have b5 := B0.out
            exact b5
      · skip
        by_cases h4 : m = 120
        · subst h4
          by_cases hn : n = 2
          · subst hn
            obtain ⟨g, rfl, hgw, -, hcell⟩ := HA.out (by omega)
            have c0 := hcell 0 (by omega)
            have c1 := hcell 1 (by omega)
            generalize hs0 : ss[0]?.getD ⟨#[]⟩ = s0 at *
            generalize hs1 : ss[1]?.getD ⟨#[]⟩ = s1 at *
            have hne : ¬ g = w.heap.size := by omega
            have hne2 : ¬ w.heap.size = g := by omega
            clear hcell HA
            have HV : Hid (rcO 120 ss = (4, ⟨#[]⟩, ⟨#[]⟩, s0, s1)) := by show _ = _; unfold rcO; rw [if_neg (fun h => by have := h.1; omega), if_neg (fun h => by have := h.1; omega), if_neg (fun h => by have := h.1; omega), if_pos ⟨rfl, HL.out.symm⟩, hs0, hs1]
            clear hs0 hs1
            have z0 := K0.out.cell (j := 0) rfl
            have z1 := K0.out.cell (j := 1) rfl
            have z2 := K0.out.cell (j := 2) rfl
            have z3 := K0.out.cell (j := 3) rfl
            have z4 := K0.out.cell (j := 4) rfl
            have f0 := K0.out.free 0
            have f1 := K0.out.free 1
            have f2 := K0.out.free 2
            have f3 := K0.out.free 3
            have f4 := K0.out.free 4
            have K5 := hid (((((K0.out.set 0 (.int .i64 4)).set 1 (.string ⟨#[]⟩)).set 2 (.string ⟨#[]⟩)).set 3 (.string s0)).set 4 (.string s1))
            go_enter Tryd.func29, Tryd.ntmps29
            go_wp2_with fail
            refine wp_region_noPanic ?_
            refine wp_region_held_drew (S := fun v => v.cell? ⟨g, 0, none⟩ = some (.string s0) ∧ v.cell? ⟨g, 1, none⟩ = some (.string s1)) (by kernel_rfl) (⟨by go_simp, by go_simp⟩) (fun hHeld => ?_)
            simp only [List.size_toArray, List.length_cons, List.length_nil, Array.replicate_succ, Array.replicate_zero, Nat.reduceAdd, List.push_toArray, List.nil_append, List.cons_append]
            refine wpAnyH_take (i := 0) (v := (.slice (some ⟨g, 0, none⟩) 2 c)) rfl (by kernel_rfl) (by kernel_rfl) (by kernel_rfl) (fun _ _ _ h => h) (Or.inl ⟨by rfl, ?_⟩) (by assumption) ?_
            · intro w hSw
              (try dsimp only at hSw)
              go_simp
            try simp only [List.getElem_toArray]
            try simp only [List.getElem_cons_succ]
            try simp only [List.getElem_cons_zero]
            try simp only [Act.put]
            try simp only [List.setIfInBounds_toArray]
            try simp only [List.set_cons_succ]
            try simp only [List.set_cons_zero]
            refine wpAnyH_take (i := 1) (v := (.pointer (some ⟨g, 0, none⟩))) rfl (by kernel_rfl) (by kernel_rfl) (by kernel_rfl) (fun _ _ _ h => h) (Or.inl ⟨by rfl, ?_⟩) (by assumption) ?_
            · intro w hSw
              (try dsimp only at hSw)
              go_simp
            try simp only [List.getElem_toArray]
            try simp only [List.getElem_cons_succ]
            try simp only [List.getElem_cons_zero]
            try simp only [Act.put]
            try simp only [List.setIfInBounds_toArray]
            try simp only [List.set_cons_succ]
            try simp only [List.set_cons_zero]
            refine wpAnyH_take (i := 2) (v := (.string s0)) rfl (by kernel_rfl) (by kernel_rfl) (by kernel_rfl) (fun _ _ _ h => h) (Or.inl ⟨by rfl, ?_⟩) (by assumption) ?_
            · intro w hSw
              (try dsimp only at hSw)
              go_simp
            try simp only [List.getElem_toArray]
            try simp only [List.getElem_cons_succ]
            try simp only [List.getElem_cons_zero]
            try simp only [Act.put]
            try simp only [List.setIfInBounds_toArray]
            try simp only [List.set_cons_succ]
            try simp only [List.set_cons_zero]
            refine wpAnyH_take (i := 3) (v := (.slice (some ⟨g, 0, none⟩) 2 c)) rfl (by kernel_rfl) (by kernel_rfl) (by kernel_rfl) (fun _ _ _ h => h) (Or.inl ⟨by rfl, ?_⟩) (by assumption) ?_
            · intro w hSw
              (try dsimp only at hSw)
              go_simp
            try simp only [List.getElem_toArray]
            try simp only [List.getElem_cons_succ]
            try simp only [List.getElem_cons_zero]
            try simp only [Act.put]
            try simp only [List.setIfInBounds_toArray]
            try simp only [List.set_cons_succ]
            try simp only [List.set_cons_zero]
            refine wpAnyH_take (i := 4) (v := (.pointer (some ⟨g, 1, none⟩))) rfl (by kernel_rfl) (by kernel_rfl) (by kernel_rfl) (fun _ _ _ h => h) (Or.inl ⟨by rfl, ?_⟩) (by assumption) ?_
            · intro w hSw
              (try dsimp only at hSw)
              go_simp
            try simp only [List.getElem_toArray]
            try simp only [List.getElem_cons_succ]
            try simp only [List.getElem_cons_zero]
            try simp only [Act.put]
            try simp only [List.setIfInBounds_toArray]
            try simp only [List.set_cons_succ]
            try simp only [List.set_cons_zero]
            refine wpAnyH_take (i := 5) (v := (.string s1)) rfl (by kernel_rfl) (by kernel_rfl) (by kernel_rfl) (fun _ _ _ h => h) (Or.inl ⟨by rfl, ?_⟩) (by assumption) ?_
            · intro w hSw
              (try dsimp only at hSw)
              go_simp
            try simp only [List.getElem_toArray]
            try simp only [List.getElem_cons_succ]
            try simp only [List.getElem_cons_zero]
            try simp only [Act.put]
            try simp only [List.setIfInBounds_toArray]
            try simp only [List.set_cons_succ]
            try simp only [List.set_cons_zero]
            refine wpAnyH_take (i := 6) (v := (.agg #[.string s0, .string s1])) rfl (by kernel_rfl) (by kernel_rfl) (by kernel_rfl) (fun _ _ _ h => h) (Or.inl ⟨by rfl, ?_⟩) (by assumption) ?_
            · intro w hSw
              (try dsimp only at hSw)
              go_simp
            try simp only [List.getElem_toArray]
            try simp only [List.getElem_cons_succ]
            try simp only [List.getElem_cons_zero]
            try simp only [Act.put]
            try simp only [List.setIfInBounds_toArray]
            try simp only [List.set_cons_succ]
            try simp only [List.set_cons_zero]
            refine wpAnyH_take (i := 7) (v := (.agg #[.int .i64 4, .string ⟨#[]⟩, .string ⟨#[]⟩, .string s0, .string s1])) rfl (by kernel_rfl) (by kernel_rfl) (by kernel_rfl) (fun _ _ _ h => h) (Or.inl ⟨by rfl, ?_⟩) (by assumption) ?_
            · intro w hSw
              (try dsimp only at hSw)
              go_simp
            try simp only [List.getElem_toArray]
            try simp only [List.getElem_cons_succ]
            try simp only [List.getElem_cons_zero]
            try simp only [Act.put]
            try simp only [List.setIfInBounds_toArray]
            try simp only [List.set_cons_succ]
            try simp only [List.set_cons_zero]
            refine wpAnyH_ready (rs := [8]) (by kernel_rfl) (by simp) ?_
            refine AllReadyH.cons rfl (fun K1 hK => ?_) AllReadyH.nil
            go_simp
            try go_wp2_with fail
            refine hK.out _ _ ?_ (fun hHeld => ?_)
            · exact ⟨by go_simp, by go_simp⟩
            clear hK K1
            try simp only [List.getElem_toArray]
            try simp only [List.getElem_cons_succ]
            try simp only [List.getElem_cons_zero]
            try simp only [Act.put]
            try simp only [List.setIfInBounds_toArray]
            try simp only [List.set_cons_succ]
            try simp only [List.set_cons_zero]
            refine wpAnyH_done (by kernel_rfl) ?_ _
            refine NoPanic.normal ?_
            go_wp2
            try simp only [Exit.inBlock, Exit.then]
            refine bodyPost_ret (v := .agg #[.int .i64 4, .string ⟨#[]⟩, .string ⟨#[]⟩, .string s0, .string s1]) ?_ rfl ?_
            · exact results_rec rfl _ _ _ rfl (by go_simp) (by go_simp) (by go_simp) (by go_simp) (by go_simp)
            · refine ⟨by rw [HV.out], ?_⟩
              exact btR (below_new (w := w) (Below.refl _ _)) (below_drew _)
          · clear HA
            have HV : Hid (rcO 120 ss = rc0) := rcO_no (fun h => by have := h.1; omega) (fun h => by have := h.1; omega) (fun h => by have := h.1; omega) (fun h => hn (HL.out.trans h.2))
            have en : ((n : Int) == 2) = false := by simp; omega
            have en2 : ¬ ((n : Int) = 2) := by omega
            go_enter Tryd.func29, Tryd.ntmps29
            go_wp2
            try simp only [Exit.inBlock, Exit.then]
            refine bodyPost_ret (v := .agg #[.int .i64 0, .string ⟨#[]⟩, .string ⟨#[]⟩, .string ⟨#[]⟩, .string ⟨#[]⟩]) ?_ rfl ?_
            · exact results_rec rfl _ _ _ rfl (by go_simp) (by go_simp) (by go_simp) (by go_simp) (by go_simp)
            · refine ⟨by rw [HV.out]; rfl, ?_⟩
              have b5 := B0.out
              exact b5
        · skip
          clear HA
          have HV : Hid (rcO m ss = rc0) := rcO_no (fun h => h1 h.1) (fun h => h2 h.1) (fun h => h3 h.1) (fun h => h4 h.1)
          have e1 : (m == 119) = false := by simpa using h1
          have e2 : (m == 103) = false := by simpa using h2
          have e3 : (m == 115) = false := by simpa using h3
          have e4 : (m == 120) = false := by simpa using h4
          go_enter Tryd.func29, Tryd.ntmps29
          go_wp2
          try simp only [Exit.inBlock, Exit.then]
          refine bodyPost_ret (v := .agg #[.int .i64 0, .string ⟨#[]⟩, .string ⟨#[]⟩, .string ⟨#[]⟩, .string ⟨#[]⟩]) ?_ rfl ?_
          · exact results_rec rfl _ _ _ rfl (by go_simp) (by go_simp) (by go_simp) (by go_simp) (by go_simp)
          · refine ⟨by rw [HV.out]; rfl, ?_⟩
            have b5 := B0.out
            exact b5
end Go.Proofs.YtgnjknbgahickabDoor

