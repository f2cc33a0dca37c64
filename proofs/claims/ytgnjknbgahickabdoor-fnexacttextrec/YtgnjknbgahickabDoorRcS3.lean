/-
  TextRec of the program.
-/
import Derived.Test.YtgnjknbgahickabDoorRcS2
import Derived.Lib.Strings
namespace Go.Proofs.YtgnjknbgahickabDoor
open Go.RowKit
set_option linter.unusedVariables false
theorem conv_ex (s : ByteArray) (w : World) (hs : s.size ≤ 1048576) : ∃ ba bn bc w', (convert 9 57 (.string s)).run Tryd.prog w = .ok (.slice ba bn bc) w' ∧ Rd w' ba bn bc (bytesOf s) ∧ Below w.heap.size w w' ∧ bn = s.size := by
  refine ⟨_, _, _, _, run_bytes_of_string (P := Tryd.prog) w 9 57 5 s Tryd.underlying9 Tryd.underlying57 Tryd.underlying5, ?_, ?_, rfl⟩
  · exact rd_conv w.drew s _ _ (by omega) (grownCap_ge _ _ _ _) (by have := grownCap_le_maxLen w s.size 0 5 (by unfold maxLen; omega); unfold maxLen at this; omega)
  · exact (below_drew w).trans ((below_new (w := w.drew) (Below.refl _ _)).mono (below_drew w).size)
theorem bytes_drop (s : ByteArray) : bytesOf (s.extract 1 s.size) = (bytesOf s).drop 1 := by
  have h := bytesOf_len s
  unfold bytesOf
  rw [Lib.extract_data, List.take_of_length_le (by simp), List.map_drop]
theorem bytes_head (s : ByteArray) (h : 0 < s.size) : (bytesOf s)[0]?.getD 0 = ((s[0]'h).toNat : Int) := by
  have h' : 0 < s.data.size := h
  simp [bytesOf, ByteArray.getElem_eq_getElem_data, Array.getElem?_eq_getElem h']
set_option maxHeartbeats 16000000 in
set_option maxRecDepth 20000 in
theorem implTextRec_any (s : ByteArray) (w : World) (hs : s.size ≤ 1048576) :
    Calls Tryd.prog 11 #[.string s] w fun e w' => e = .returned (.tuple #[.agg #[.int .i64 (trV s).1.1, .string (trV s).1.2.1, .string (trV s).1.2.2.1, .string (trV s).1.2.2.2.1, .string (trV s).1.2.2.2.2], .bool (trV s).2]) ∧ Below w.heap.size w w' := by
  have HT := hid (trV_impl s)
  have B0 := hid (below_new (o := .cells #[.int .i64 0, .string ⟨#[]⟩, .string ⟨#[]⟩, .string ⟨#[]⟩, .string ⟨#[]⟩] 30) (w := w) (Below.refl _ _))
  have K0 := hid (Bk.new w 30 [.int .i64 0, .string ⟨#[]⟩, .string ⟨#[]⟩, .string ⟨#[]⟩, .string ⟨#[]⟩])
  by_cases he : s.toList = []
  · have HV : Hid (trV s = (rc0, false)) := by show _ = _; rw [HT.out, if_neg (fun h => h.1 he)]
    go_enter Tryd.func11, Tryd.ntmps11
    go_wp2
    try simp only [Exit.inBlock, Exit.then]
    refine bodyPost_ret (v := .tuple #[.agg #[.int .i64 0, .string ⟨#[]⟩, .string ⟨#[]⟩, .string ⟨#[]⟩, .string ⟨#[]⟩], .bool false]) ?_ rfl ?_
    · exact results_rec_bool rfl _ _ _ rfl rfl (by go_simp) (by go_simp) (by go_simp) (by go_simp) (by go_simp)
    · exact ⟨by rw [HV.out]; rfl, B0.out⟩
  · have he2 : s.toList.isEmpty = false := by simpa using he
    have hpos : 0 < s.size := by
      rcases Nat.eq_zero_or_pos s.size with h | h
      · exfalso
        apply he
        rw [ByteArray.toList_eq]
        exact List.eq_nil_of_length_eq_zero (by simpa using h)
      · exact h
    have hpos' : (0 : Int) < (s.size : Int) := by omega
    have hpos2 : ¬ (s.size : Int) < 1 := by omega
    have hpos3 : 1 ≤ s.size := by omega
    have HXS : Hid ((s.extract 1 s.size).size ≤ 1048576) := by
      show _ ≤ _
      rw [← bytesOf_len, bytes_drop, List.length_drop, bytesOf_len]; omega
    have HXT : Hid ((s.extract 1 s.size).size ≤ (bytesOf s).length) := by
      show _ ≤ _
      rw [← bytesOf_len (s.extract 1 s.size), bytes_drop, List.length_drop]; omega
    have HI : Hid (rcO ((s[0]'hpos).toNat : Int) (txF ((bytesOf s).length + 1) ((bytesOf s).drop 1) 0) = rcI (bytesOf s)) := by show _ = _; rw [← bytes_head s hpos]; rfl
    have HV : Hid (trV s = if (rcTxt (rcI (bytesOf s))).toList = s.toList then (rcI (bytesOf s), true) else (rc0, false)) := by
      show _ = _
      rw [HT.out]
      by_cases k : (rcTxt (rcI (bytesOf s))).toList = s.toList
      · rw [if_pos ⟨he, k⟩, if_pos k]
      · rw [if_neg (fun h => k h.2), if_neg k]
    clear HT
    generalize hri : rcI (bytesOf s) = ri at *
    obtain ⟨rk, rky, rvl, rlo, rhi⟩ := ri
    clear hri
    go_enter Tryd.func11, Tryd.ntmps11
    go_wp2_with fail
    generalize hU : w.alloc (.cells #[.int .i64 0, .string ⟨#[]⟩, .string ⟨#[]⟩, .string ⟨#[]⟩, .string ⟨#[]⟩] 30) = U at *
    have HU := hid hU
    clear hU
    go_cut [4] (fun x v => ∃ V gb, V = v ∧ x = .pointer (some ⟨gb, 0, none⟩) ∧ Bk V gb 30 [.int .i64 rk, .string rky, .string rvl, .string rlo, .string rhi] ∧ Below U.heap.size U V ∧ U.heap.size ≤ gb)
    case first =>
      refine wp_region_noPanic ?_
      refine wp_region_held_drew (S := fun v => Below U.heap.size U v) (by kernel_rfl) (below_drew _) (fun hHeld => ?_)
      simp only [List.size_toArray, List.length_cons, List.length_nil, Array.replicate_succ, Array.replicate_zero, Nat.reduceAdd, List.push_toArray, List.nil_append, List.cons_append]
      refine wpAnyH_take (i := 0) (v := (.string s)) rfl (by kernel_rfl) (by kernel_rfl) (by kernel_rfl) (fun _ _ _ h => h) (Or.inl ⟨by rfl, ?_⟩) (by assumption) ?_
      · intro w hSw
        (try dsimp only at hSw)
        go_simp
      try simp only [List.getElem_toArray]
      try simp only [List.getElem_cons_succ]
      try simp only [List.getElem_cons_zero]
      try simp only [Act.put]
      try simp only [List.setIfInBounds_toArray]
      try simp only [List.set_cons_succ]
      try simp only [List.set_cons_zero]
      refine wpAnyH_take (i := 1) (v := (.int .u8 ((s[0]'hpos).toNat : Int))) rfl (by kernel_rfl) (by kernel_rfl) (by kernel_rfl) (fun _ _ _ h => h) (Or.inl ⟨by rfl, ?_⟩) (by assumption) ?_
      · intro w hSw
        (try dsimp only at hSw)
        go_simp
      try simp only [List.getElem_toArray]
      try simp only [List.getElem_cons_succ]
      try simp only [List.getElem_cons_zero]
      try simp only [Act.put]
      try simp only [List.setIfInBounds_toArray]
      try simp only [List.set_cons_succ]
      try simp only [List.set_cons_zero]
      refine wpAnyH_take (i := 2) (v := (.string s)) rfl (by kernel_rfl) (by kernel_rfl) (by kernel_rfl) (fun _ _ _ h => h) (Or.inl ⟨by rfl, ?_⟩) (by assumption) ?_
      · intro w hSw
        (try dsimp only at hSw)
        go_simp
      try simp only [List.getElem_toArray]
      try simp only [List.getElem_cons_succ]
      try simp only [List.getElem_cons_zero]
      try simp only [Act.put]
      try simp only [List.setIfInBounds_toArray]
      try simp only [List.set_cons_succ]
      try simp only [List.set_cons_zero]
      refine wpAnyH_take (i := 3) (v := (.string (s.extract 1 s.size))) rfl (by kernel_rfl) (by kernel_rfl) (by kernel_rfl) (fun _ _ _ h => h) (Or.inl ⟨by rfl, ?_⟩) (by assumption) ?_
      · intro w hSw
        (try dsimp only at hSw)
        go_simp
      try simp only [List.getElem_toArray]
      try simp only [List.getElem_cons_succ]
      try simp only [List.getElem_cons_zero]
      try simp only [Act.put]
      try simp only [List.setIfInBounds_toArray]
      try simp only [List.set_cons_succ]
      try simp only [List.set_cons_zero]
      have BB0 := hid (below_drew U)
      refine wpAnyH_ready (rs := [4, 7]) (by kernel_rfl) (by simp) ?_
      refine AllReadyH.cons rfl (fun K1 hK => ?_) (AllReadyH.cons rfl (fun K1 hK => ?_) AllReadyH.nil)
      · obtain ⟨ba, bn, bc, q1, hcv, hR, hbC, hbn⟩ := conv_ex (s.extract 1 s.size) (U.drew) HXS.out
        rw [bytes_drop] at hR
        have R1 := hid hR
        have BN := hid hbn
        clear hR hbn
        go_simp
        try go_wp2_with fail
        refine hK.out _ _ ?_ (fun hHeld => ?_)
        · exact btR (by assumption) hbC
        clear hK K1
        try simp only [List.getElem_toArray]
        try simp only [List.getElem_cons_succ]
        try simp only [List.getElem_cons_zero]
        try simp only [Act.put]
        try simp only [List.setIfInBounds_toArray]
        try simp only [List.set_cons_succ]
        try simp only [List.set_cons_zero]
        have BB1 := hid (btR BB0.out hbC)
        clear hbC
        refine wpAnyH_ready (rs := [5, 7]) (by kernel_rfl) (by simp) ?_
        refine AllReadyH.cons rfl (fun K1 hK => ?_) (AllReadyH.cons rfl (fun K1 hK => ?_) AllReadyH.nil)
        · go_simp
          refine (textsIn_any ba bn bc _ ((bytesOf s).length + 1) _ R1.out (by have := BN.out; have := HXS.out; omega) (by have := BN.out; have := HXT.out; omega)).mono ?_
          rintro r q2 ⟨la, ln, lc, rfl, hO, hbC⟩
          have O1 := hid hO
          clear hO
          go_wp2_with fail
          refine hK.out _ _ ?_ (fun hHeld => ?_)
          · exact btR (by assumption) hbC
          clear hK K1
          try simp only [List.getElem_toArray]
          try simp only [List.getElem_cons_succ]
          try simp only [List.getElem_cons_zero]
          try simp only [Act.put]
          try simp only [List.setIfInBounds_toArray]
          try simp only [List.set_cons_succ]
          try simp only [List.set_cons_zero]
          have BB2 := hid (btR BB1.out hbC)
          clear hbC
          refine wpAnyH_ready (rs := [6, 7]) (by kernel_rfl) (by simp) ?_
          refine AllReadyH.cons rfl (fun K1 hK => ?_) (AllReadyH.cons rfl (fun K1 hK => ?_) AllReadyH.nil)
          · go_simp
            refine (recordOf_any _ _ la ln lc _ _ O1.out).mono ?_
            rw [HI.out]
            rintro r q3 ⟨rfl, hbC⟩
            go_wp2_with fail
            refine hK.out _ _ ?_ (fun hHeld => ?_)
            · exact btR (by assumption) hbC
            clear hK K1
            try simp only [List.getElem_toArray]
            try simp only [List.getElem_cons_succ]
            try simp only [List.getElem_cons_zero]
            try simp only [Act.put]
            try simp only [List.setIfInBounds_toArray]
            try simp only [List.set_cons_succ]
            try simp only [List.set_cons_zero]
            have BB3 := hid (btR BB2.out hbC)
            clear hbC
            refine wpAnyH_ready (rs := [7]) (by kernel_rfl) (by simp) ?_
            refine AllReadyH.cons rfl (fun K1 hK => ?_) AllReadyH.nil
            go_simp
            try go_wp2_with fail
            have hbC := below_new (o := .cells #[.int .i64 0, .string ⟨#[]⟩, .string ⟨#[]⟩, .string ⟨#[]⟩, .string ⟨#[]⟩] 30) (w := q3) (Below.refl _ _)
            have E0 := hid (Bk.new q3 30 [.int .i64 0, .string ⟨#[]⟩, .string ⟨#[]⟩, .string ⟨#[]⟩, .string ⟨#[]⟩])
            have SZ := hid BB3.out.size
            refine hK.out _ _ ?_ (fun hHeld => ?_)
            · exact btR (by assumption) hbC
            clear hK K1
            try simp only [List.getElem_toArray]
            try simp only [List.getElem_cons_succ]
            try simp only [List.getElem_cons_zero]
            try simp only [Act.put]
            try simp only [List.setIfInBounds_toArray]
            try simp only [List.set_cons_succ]
            try simp only [List.set_cons_zero]
            have BB4 := hid (btR BB3.out hbC)
            clear hbC
            generalize q3.alloc (.cells #[.int .i64 0, .string ⟨#[]⟩, .string ⟨#[]⟩, .string ⟨#[]⟩, .string ⟨#[]⟩] 30) = v8 at *
            generalize q3.heap.size = gb at *
            have z0 := E0.out.cell (j := 0) rfl
            have z1 := E0.out.cell (j := 1) rfl
            have z2 := E0.out.cell (j := 2) rfl
            have z3 := E0.out.cell (j := 3) rfl
            have z4 := E0.out.cell (j := 4) rfl
            have f0 := E0.out.free 0
            have f1 := E0.out.free 1
            have f2 := E0.out.free 2
            have f3 := E0.out.free 3
            have f4 := E0.out.free 4
            have KF : Hid (Bk (((((v8.setCell ⟨gb, 0, none⟩ (.int .i64 rk)).setCell ⟨gb, 1, none⟩ (.string rky)).setCell ⟨gb, 2, none⟩ (.string rvl)).setCell ⟨gb, 3, none⟩ (.string rlo)).setCell ⟨gb, 4, none⟩ (.string rhi)) gb 30 [.int .i64 rk, .string rky, .string rvl, .string rlo, .string rhi]) := (((((E0.out.set 0 (.int .i64 rk)).set 1 (.string rky)).set 2 (.string rvl)).set 3 (.string rlo)).set 4 (.string rhi))
            have s10 : Below U.heap.size U (((((v8.setCell ⟨gb, 0, none⟩ (.int .i64 rk)).setCell ⟨gb, 1, none⟩ (.string rky)).setCell ⟨gb, 2, none⟩ (.string rvl)).setCell ⟨gb, 3, none⟩ (.string rlo)).setCell ⟨gb, 4, none⟩ (.string rhi)) := (Below.setCell (p := ⟨gb, 4, none⟩) (Below.setCell (p := ⟨gb, 3, none⟩) (Below.setCell (p := ⟨gb, 2, none⟩) (Below.setCell (p := ⟨gb, 1, none⟩) (Below.setCell (p := ⟨gb, 0, none⟩) BB4.out SZ.out (.int .i64 rk)) SZ.out (.string rky)) SZ.out (.string rvl)) SZ.out (.string rlo)) SZ.out (.string rhi))
            refine wpAnyH_ready (rs := [8]) (by kernel_rfl) (by simp) ?_
            refine AllReadyH.cons rfl (fun K1 hK => ?_) AllReadyH.nil
            go_simp
            try go_wp2_with fail
            refine hK.out _ _ ?_ (fun hHeld => ?_)
            · exact s10
            clear hK K1
            try simp only [List.getElem_toArray]
            try simp only [List.getElem_cons_succ]
            try simp only [List.getElem_cons_zero]
            try simp only [Act.put]
            try simp only [List.setIfInBounds_toArray]
            try simp only [List.set_cons_succ]
            try simp only [List.set_cons_zero]
            refine wpAnyH_done (by kernel_rfl) ?_ _
            refine NoPanic.normal ?_
            go_wp2_with fail
            go_meet
            exact ⟨_, gb, rfl, by simp, KF.out, s10, SZ.out⟩
          · go_simp
            try go_wp2_with fail
            have hbC := below_new (o := .cells #[.int .i64 0, .string ⟨#[]⟩, .string ⟨#[]⟩, .string ⟨#[]⟩, .string ⟨#[]⟩] 30) (w := q2) (Below.refl _ _)
            have E0 := hid (Bk.new q2 30 [.int .i64 0, .string ⟨#[]⟩, .string ⟨#[]⟩, .string ⟨#[]⟩, .string ⟨#[]⟩])
            have O2 := hid (O1.out.below hbC)
            have SZ := hid BB2.out.size
            refine hK.out _ _ ?_ (fun hHeld => ?_)
            · exact btR (by assumption) hbC
            clear hK K1
            try simp only [List.getElem_toArray]
            try simp only [List.getElem_cons_succ]
            try simp only [List.getElem_cons_zero]
            try simp only [Act.put]
            try simp only [List.setIfInBounds_toArray]
            try simp only [List.set_cons_succ]
            try simp only [List.set_cons_zero]
            have BB3 := hid (btR BB2.out hbC)
            clear hbC
            generalize q2.alloc (.cells #[.int .i64 0, .string ⟨#[]⟩, .string ⟨#[]⟩, .string ⟨#[]⟩, .string ⟨#[]⟩] 30) = v8 at *
            generalize q2.heap.size = gb at *
            refine wpAnyH_ready (rs := [6]) (by kernel_rfl) (by simp) ?_
            refine AllReadyH.cons rfl (fun K1 hK => ?_) AllReadyH.nil
            go_simp
            refine (recordOf_any _ _ la ln lc _ _ O2.out).mono ?_
            rw [HI.out]
            rintro r q3 ⟨rfl, hbC⟩
            go_wp2_with fail
            have E1 := hid (E0.out.below hbC)
            refine hK.out _ _ ?_ (fun hHeld => ?_)
            · exact btR (by assumption) hbC
            clear hK K1
            try simp only [List.getElem_toArray]
            try simp only [List.getElem_cons_succ]
            try simp only [List.getElem_cons_zero]
            try simp only [Act.put]
            try simp only [List.setIfInBounds_toArray]
            try simp only [List.set_cons_succ]
            try simp only [List.set_cons_zero]
            have BB4 := hid (btR BB3.out hbC)
            clear hbC
            have z0 := E1.out.cell (j := 0) rfl
            have z1 := E1.out.cell (j := 1) rfl
            have z2 := E1.out.cell (j := 2) rfl
            have z3 := E1.out.cell (j := 3) rfl
            have z4 := E1.out.cell (j := 4) rfl
            have f0 := E1.out.free 0
            have f1 := E1.out.free 1
            have f2 := E1.out.free 2
            have f3 := E1.out.free 3
            have f4 := E1.out.free 4
            have KF : Hid (Bk (((((q3.setCell ⟨gb, 0, none⟩ (.int .i64 rk)).setCell ⟨gb, 1, none⟩ (.string rky)).setCell ⟨gb, 2, none⟩ (.string rvl)).setCell ⟨gb, 3, none⟩ (.string rlo)).setCell ⟨gb, 4, none⟩ (.string rhi)) gb 30 [.int .i64 rk, .string rky, .string rvl, .string rlo, .string rhi]) := (((((E1.out.set 0 (.int .i64 rk)).set 1 (.string rky)).set 2 (.string rvl)).set 3 (.string rlo)).set 4 (.string rhi))
            have s10 : Below U.heap.size U (((((q3.setCell ⟨gb, 0, none⟩ (.int .i64 rk)).setCell ⟨gb, 1, none⟩ (.string rky)).setCell ⟨gb, 2, none⟩ (.string rvl)).setCell ⟨gb, 3, none⟩ (.string rlo)).setCell ⟨gb, 4, none⟩ (.string rhi)) := (Below.setCell (p := ⟨gb, 4, none⟩) (Below.setCell (p := ⟨gb, 3, none⟩) (Below.setCell (p := ⟨gb, 2, none⟩) (Below.setCell (p := ⟨gb, 1, none⟩) (Below.setCell (p := ⟨gb, 0, none⟩) BB4.out SZ.out (.int .i64 rk)) SZ.out (.string rky)) SZ.out (.string rvl)) SZ.out (.string rlo)) SZ.out (.string rhi))
            refine wpAnyH_ready (rs := [8]) (by kernel_rfl) (by simp) ?_
            refine AllReadyH.cons rfl (fun K1 hK => ?_) AllReadyH.nil
            go_simp
            try go_wp2_with fail
            refine hK.out _ _ ?_ (fun hHeld => ?_)
            · exact s10
            clear hK K1
            try simp only [List.getElem_toArray]
            try simp only [List.getElem_cons_succ]
            try simp only [List.getElem_cons_zero]
            try simp only [Act.put]
            try simp only [List.setIfInBounds_toArray]
            try simp only [List.set_cons_succ]
            try simp only [List.set_cons_zero]
            refine wpAnyH_done (by kernel_rfl) ?_ _
            refine NoPanic.normal ?_
            go_wp2_with fail
            go_meet
            exact ⟨_, gb, rfl, by simp, KF.out, s10, SZ.out⟩
        · go_simp
          try go_wp2_with fail
          have hbC := below_new (o := .cells #[.int .i64 0, .string ⟨#[]⟩, .string ⟨#[]⟩, .string ⟨#[]⟩, .string ⟨#[]⟩] 30) (w := q1) (Below.refl _ _)
          have E0 := hid (Bk.new q1 30 [.int .i64 0, .string ⟨#[]⟩, .string ⟨#[]⟩, .string ⟨#[]⟩, .string ⟨#[]⟩])
          have R2 := hid (R1.out.kept hbC)
          have SZ := hid BB1.out.size
          refine hK.out _ _ ?_ (fun hHeld => ?_)
          · exact btR (by assumption) hbC
          clear hK K1
          try simp only [List.getElem_toArray]
          try simp only [List.getElem_cons_succ]
          try simp only [List.getElem_cons_zero]
          try simp only [Act.put]
          try simp only [List.setIfInBounds_toArray]
          try simp only [List.set_cons_succ]
          try simp only [List.set_cons_zero]
          have BB2 := hid (btR BB1.out hbC)
          clear hbC
          generalize q1.alloc (.cells #[.int .i64 0, .string ⟨#[]⟩, .string ⟨#[]⟩, .string ⟨#[]⟩, .string ⟨#[]⟩] 30) = v8 at *
          generalize q1.heap.size = gb at *
          refine wpAnyH_ready (rs := [5]) (by kernel_rfl) (by simp) ?_
          refine AllReadyH.cons rfl (fun K1 hK => ?_) AllReadyH.nil
          go_simp
          refine (textsIn_any ba bn bc _ ((bytesOf s).length + 1) _ R2.out (by have := BN.out; have := HXS.out; omega) (by have := BN.out; have := HXT.out; omega)).mono ?_
          rintro r q2 ⟨la, ln, lc, rfl, hO, hbC⟩
          have O1 := hid hO
          clear hO
          go_wp2_with fail
          have E1 := hid (E0.out.below hbC)
          refine hK.out _ _ ?_ (fun hHeld => ?_)
          · exact btR (by assumption) hbC
          clear hK K1
          try simp only [List.getElem_toArray]
          try simp only [List.getElem_cons_succ]
          try simp only [List.getElem_cons_zero]
          try simp only [Act.put]
          try simp only [List.setIfInBounds_toArray]
          try simp only [List.set_cons_succ]
          try simp only [List.set_cons_zero]
          have BB3 := hid (btR BB2.out hbC)
          clear hbC
          refine wpAnyH_ready (rs := [6]) (by kernel_rfl) (by simp) ?_
          refine AllReadyH.cons rfl (fun K1 hK => ?_) AllReadyH.nil
          go_simp
          refine (recordOf_any _ _ la ln lc _ _ O1.out).mono ?_
          rw [HI.out]
          rintro r q3 ⟨rfl, hbC⟩
          go_wp2_with fail
          have E2 := hid (E1.out.below hbC)
          refine hK.out _ _ ?_ (fun hHeld => ?_)
          · exact btR (by assumption) hbC
          clear hK K1
          try simp only [List.getElem_toArray]
          try simp only [List.getElem_cons_succ]
          try simp only [List.getElem_cons_zero]
          try simp only [Act.put]
          try simp only [List.setIfInBounds_toArray]
          try simp only [List.set_cons_succ]
          try simp only [List.set_cons_zero]
          have BB4 := hid (btR BB3.out hbC)
          clear hbC
          have z0 := E2.out.cell (j := 0) rfl
          have z1 := E2.out.cell (j := 1) rfl
          have z2 := E2.out.cell (j := 2) rfl
          have z3 := E2.out.cell (j := 3) rfl
          have z4 := E2.out.cell (j := 4) rfl
          have f0 := E2.out.free 0
          have f1 := E2.out.free 1
          have f2 := E2.out.free 2
          have f3 := E2.out.free 3
          have f4 := E2.out.free 4
          have KF : Hid (Bk (((((q3.setCell ⟨gb, 0, none⟩ (.int .i64 rk)).setCell ⟨gb, 1, none⟩ (.string rky)).setCell ⟨gb, 2, none⟩ (.string rvl)).setCell ⟨gb, 3, none⟩ (.string rlo)).setCell ⟨gb, 4, none⟩ (.string rhi)) gb 30 [.int .i64 rk, .string rky, .string rvl, .string rlo, .string rhi]) := (((((E2.out.set 0 (.int .i64 rk)).set 1 (.string rky)).set 2 (.string rvl)).set 3 (.string rlo)).set 4 (.string rhi))
          have s10 : Below U.heap.size U (((((q3.setCell ⟨gb, 0, none⟩ (.int .i64 rk)).setCell ⟨gb, 1, none⟩ (.string rky)).setCell ⟨gb, 2, none⟩ (.string rvl)).setCell ⟨gb, 3, none⟩ (.string rlo)).setCell ⟨gb, 4, none⟩ (.string rhi)) := (Below.setCell (p := ⟨gb, 4, none⟩) (Below.setCell (p := ⟨gb, 3, none⟩) (Below.setCell (p := ⟨gb, 2, none⟩) (Below.setCell (p := ⟨gb, 1, none⟩) (Below.setCell (p := ⟨gb, 0, none⟩) BB4.out SZ.out (.int .i64 rk)) SZ.out (.string rky)) SZ.out (.string rvl)) SZ.out (.string rlo)) SZ.out (.string rhi))
          refine wpAnyH_ready (rs := [8]) (by kernel_rfl) (by simp) ?_
          refine AllReadyH.cons rfl (fun K1 hK => ?_) AllReadyH.nil
          go_simp
          try go_wp2_with fail
          refine hK.out _ _ ?_ (fun hHeld => ?_)
          · exact s10
          clear hK K1
          try simp only [List.getElem_toArray]
          try simp only [List.getElem_cons_succ]
          try simp only [List.getElem_cons_zero]
          try simp only [Act.put]
          try simp only [List.setIfInBounds_toArray]
          try simp only [List.set_cons_succ]
          try simp only [List.set_cons_zero]
          refine wpAnyH_done (by kernel_rfl) ?_ _
          refine NoPanic.normal ?_
          go_wp2_with fail
          go_meet
          exact ⟨_, gb, rfl, by simp, KF.out, s10, SZ.out⟩
      · go_simp
        try go_wp2_with fail
        have h0 := below_new (o := .cells #[.int .i64 0, .string ⟨#[]⟩, .string ⟨#[]⟩, .string ⟨#[]⟩, .string ⟨#[]⟩] 30) (w := U) (below_drew _)
        have hbC : Below U.drew.heap.size U.drew (U.alloc (.cells #[.int .i64 0, .string ⟨#[]⟩, .string ⟨#[]⟩, .string ⟨#[]⟩, .string ⟨#[]⟩] 30)).drew := ⟨h0.os, h0.tape, h0.output, h0.size, h0.block⟩
        have E0 : Hid (Bk (U.alloc (.cells #[.int .i64 0, .string ⟨#[]⟩, .string ⟨#[]⟩, .string ⟨#[]⟩, .string ⟨#[]⟩] 30)).drew U.heap.size 30 [.int .i64 0, .string ⟨#[]⟩, .string ⟨#[]⟩, .string ⟨#[]⟩, .string ⟨#[]⟩]) := (Bk.new U 30 [.int .i64 0, .string ⟨#[]⟩, .string ⟨#[]⟩, .string ⟨#[]⟩, .string ⟨#[]⟩]).below (below_drew _)
        refine hK.out _ _ ?_ (fun hHeld => ?_)
        · exact btR (by assumption) hbC
        clear hK K1
        try simp only [List.getElem_toArray]
        try simp only [List.getElem_cons_succ]
        try simp only [List.getElem_cons_zero]
        try simp only [Act.put]
        try simp only [List.setIfInBounds_toArray]
        try simp only [List.set_cons_succ]
        try simp only [List.set_cons_zero]
        have BB1 := hid (btR BB0.out hbC)
        clear hbC h0
        generalize (U.alloc (.cells #[.int .i64 0, .string ⟨#[]⟩, .string ⟨#[]⟩, .string ⟨#[]⟩, .string ⟨#[]⟩] 30)).drew = v6 at *
        refine wpAnyH_ready (rs := [4]) (by kernel_rfl) (by simp) ?_
        refine AllReadyH.cons rfl (fun K1 hK => ?_) AllReadyH.nil
        obtain ⟨ba, bn, bc, q1, hcv, hR, hbC, hbn⟩ := conv_ex (s.extract 1 s.size) (v6) HXS.out
        rw [bytes_drop] at hR
        have R1 := hid hR
        have BN := hid hbn
        clear hR hbn
        go_simp
        try go_wp2_with fail
        have E1 := hid (E0.out.below hbC)
        refine hK.out _ _ ?_ (fun hHeld => ?_)
        · exact btR (by assumption) hbC
        clear hK K1
        try simp only [List.getElem_toArray]
        try simp only [List.getElem_cons_succ]
        try simp only [List.getElem_cons_zero]
        try simp only [Act.put]
        try simp only [List.setIfInBounds_toArray]
        try simp only [List.set_cons_succ]
        try simp only [List.set_cons_zero]
        have BB2 := hid (btR BB1.out hbC)
        clear hbC
        refine wpAnyH_ready (rs := [5]) (by kernel_rfl) (by simp) ?_
        refine AllReadyH.cons rfl (fun K1 hK => ?_) AllReadyH.nil
        go_simp
        refine (textsIn_any ba bn bc _ ((bytesOf s).length + 1) _ R1.out (by have := BN.out; have := HXS.out; omega) (by have := BN.out; have := HXT.out; omega)).mono ?_
        rintro r q2 ⟨la, ln, lc, rfl, hO, hbC⟩
        have O1 := hid hO
        clear hO
        go_wp2_with fail
        have E2 := hid (E1.out.below hbC)
        refine hK.out _ _ ?_ (fun hHeld => ?_)
        · exact btR (by assumption) hbC
        clear hK K1
        try simp only [List.getElem_toArray]
        try simp only [List.getElem_cons_succ]
        try simp only [List.getElem_cons_zero]
        try simp only [Act.put]
        try simp only [List.setIfInBounds_toArray]
        try simp only [List.set_cons_succ]
        try simp only [List.set_cons_zero]
        have BB3 := hid (btR BB2.out hbC)
        clear hbC
        refine wpAnyH_ready (rs := [6]) (by kernel_rfl) (by simp) ?_
        refine AllReadyH.cons rfl (fun K1 hK => ?_) AllReadyH.nil
        go_simp
        refine (recordOf_any _ _ la ln lc _ _ O1.out).mono ?_
        rw [HI.out]
        rintro r q3 ⟨rfl, hbC⟩
        go_wp2_with fail
        have E3 := hid (E2.out.below hbC)
        refine hK.out _ _ ?_ (fun hHeld => ?_)
        · exact btR (by assumption) hbC
        clear hK K1
        try simp only [List.getElem_toArray]
        try simp only [List.getElem_cons_succ]
        try simp only [List.getElem_cons_zero]
        try simp only [Act.put]
        try simp only [List.setIfInBounds_toArray]
        try simp only [List.set_cons_succ]
        try simp only [List.set_cons_zero]
        have BB4 := hid (btR BB3.out hbC)
        clear hbC
        have z0 := E3.out.cell (j := 0) rfl
        have z1 := E3.out.cell (j := 1) rfl
        have z2 := E3.out.cell (j := 2) rfl
        have z3 := E3.out.cell (j := 3) rfl
        have z4 := E3.out.cell (j := 4) rfl
        have f0 := E3.out.free 0
        have f1 := E3.out.free 1
        have f2 := E3.out.free 2
        have f3 := E3.out.free 3
        have f4 := E3.out.free 4
        have KF : Hid (Bk (((((q3.setCell ⟨U.heap.size, 0, none⟩ (.int .i64 rk)).setCell ⟨U.heap.size, 1, none⟩ (.string rky)).setCell ⟨U.heap.size, 2, none⟩ (.string rvl)).setCell ⟨U.heap.size, 3, none⟩ (.string rlo)).setCell ⟨U.heap.size, 4, none⟩ (.string rhi)) U.heap.size 30 [.int .i64 rk, .string rky, .string rvl, .string rlo, .string rhi]) := (((((E3.out.set 0 (.int .i64 rk)).set 1 (.string rky)).set 2 (.string rvl)).set 3 (.string rlo)).set 4 (.string rhi))
        have s10 : Below U.heap.size U (((((q3.setCell ⟨U.heap.size, 0, none⟩ (.int .i64 rk)).setCell ⟨U.heap.size, 1, none⟩ (.string rky)).setCell ⟨U.heap.size, 2, none⟩ (.string rvl)).setCell ⟨U.heap.size, 3, none⟩ (.string rlo)).setCell ⟨U.heap.size, 4, none⟩ (.string rhi)) := (Below.setCell (p := ⟨U.heap.size, 4, none⟩) (Below.setCell (p := ⟨U.heap.size, 3, none⟩) (Below.setCell (p := ⟨U.heap.size, 2, none⟩) (Below.setCell (p := ⟨U.heap.size, 1, none⟩) (Below.setCell (p := ⟨U.heap.size, 0, none⟩) BB4.out (Nat.le_refl _) (.int .i64 rk)) (Nat.le_refl _) (.string rky)) (Nat.le_refl _) (.string rvl)) (Nat.le_refl _) (.string rlo)) (Nat.le_refl _) (.string rhi))
        refine wpAnyH_ready (rs := [8]) (by kernel_rfl) (by simp) ?_
        refine AllReadyH.cons rfl (fun K1 hK => ?_) AllReadyH.nil
        go_simp
        try go_wp2_with fail
        refine hK.out _ _ ?_ (fun hHeld => ?_)
        · exact s10
        clear hK K1
        try simp only [List.getElem_toArray]
        try simp only [List.getElem_cons_succ]
        try simp only [List.getElem_cons_zero]
        try simp only [Act.put]
        try simp only [List.setIfInBounds_toArray]
        try simp only [List.set_cons_succ]
        try simp only [List.set_cons_zero]
        refine wpAnyH_done (by kernel_rfl) ?_ _
        refine NoPanic.normal ?_
        go_wp2_with fail
        go_meet
        exact ⟨_, U.heap.size, rfl, by simp, KF.out, s10, (Nat.le_refl _)⟩
    case rest =>
      obtain ⟨V, gb, rfl, rfl, hk, hb, hge⟩ := hcut
      have K1 := hid (K0.out.below hb)
      have E1 := hid hk
      have B1 := hid (btR B0.out hb)
      have HNE : Hid (w.heap.size < gb) := by have := K0.out.lt; show _ < _; omega
      clear hb hk K0 B0 hge HXS HXT HI HU
      have y0 := E1.out.cell (j := 0) rfl
      have y1 := E1.out.cell (j := 1) rfl
      have y2 := E1.out.cell (j := 2) rfl
      have y3 := E1.out.cell (j := 3) rfl
      have y4 := E1.out.cell (j := 4) rfl
      go_wp2_with fail
      refine (implRecText_any rk rky rvl rlo rhi _).mono ?_
      have HTX : Hid (rcTxt (rk, rky, rvl, rlo, rhi) = rcTx rk rky rvl rlo rhi) := rfl
      rw [HTX.out] at HV
      generalize rcTx rk rky rvl rlo rhi = tx at *
      rintro r w2 ⟨rfl, hb⟩
      have K2 := hid (K1.out.below hb)
      have E2 := hid (E1.out.below hb)
      have B2 := hid (btR B1.out hb)
      clear hb K1 E1 B1 HTX y0 y1 y2 y3 y4
      have y0 := E2.out.cell (j := 0) rfl
      have y1 := E2.out.cell (j := 1) rfl
      have y2 := E2.out.cell (j := 2) rfl
      have y3 := E2.out.cell (j := 3) rfl
      have y4 := E2.out.cell (j := 4) rfl
      have z0 := K2.out.cell (j := 0) rfl
      have z1 := K2.out.cell (j := 1) rfl
      have z2 := K2.out.cell (j := 2) rfl
      have z3 := K2.out.cell (j := 3) rfl
      have z4 := K2.out.cell (j := 4) rfl
      have f0 := K2.out.free 0
      have f1 := K2.out.free 1
      have f2 := K2.out.free 2
      have f3 := K2.out.free 3
      have f4 := K2.out.free 4
      have d1 : ¬ gb = w.heap.size := by have := HNE.out; omega
      have d2 : ¬ w.heap.size = gb := by have := HNE.out; omega
      by_cases hq : tx.toList = s.toList
      · have hq2 : (tx.toList != s.toList) = false := by simp [hq]
        have hq3 : (tx.toList == s.toList) = true := by simp [hq]
        rw [if_pos hq] at HV
        clear hq
        go_wp2
        try simp only [Exit.inBlock, Exit.then]
        refine bodyPost_ret (v := .tuple #[.agg #[.int .i64 rk, .string rky, .string rvl, .string rlo, .string rhi], .bool true]) ?_ rfl ?_
        · exact results_rec_bool rfl _ _ _ rfl rfl (by go_simp) (by go_simp) (by go_simp) (by go_simp) (by go_simp)
        · exact ⟨by rw [HV.out], (Below.setCell (p := ⟨w.heap.size, 4, none⟩) (Below.setCell (p := ⟨w.heap.size, 3, none⟩) (Below.setCell (p := ⟨w.heap.size, 2, none⟩) (Below.setCell (p := ⟨w.heap.size, 1, none⟩) (Below.setCell (p := ⟨w.heap.size, 0, none⟩) B2.out (Nat.le_refl _) _) (Nat.le_refl _) _) (Nat.le_refl _) _) (Nat.le_refl _) _) (Nat.le_refl _) _)⟩
      · have hq2 : (tx.toList != s.toList) = true := by simpa using hq
        have hq3 : (tx.toList == s.toList) = false := by simpa using hq
        rw [if_neg hq] at HV
        clear hq
        go_wp2
        try simp only [Exit.inBlock, Exit.then]
        refine bodyPost_ret (v := .tuple #[.agg #[.int .i64 0, .string ⟨#[]⟩, .string ⟨#[]⟩, .string ⟨#[]⟩, .string ⟨#[]⟩], .bool false]) ?_ rfl ?_
        · exact results_rec_bool rfl _ _ _ rfl rfl (by go_simp) (by go_simp) (by go_simp) (by go_simp) (by go_simp)
        · exact ⟨by rw [HV.out]; rfl, (Below.setCell (p := ⟨w.heap.size, 4, none⟩) (Below.setCell (p := ⟨w.heap.size, 3, none⟩) (Below.setCell (p := ⟨w.heap.size, 2, none⟩) (Below.setCell (p := ⟨w.heap.size, 1, none⟩) (Below.setCell (p := ⟨w.heap.size, 0, none⟩) B2.out (Nat.le_refl _) _) (Nat.le_refl _) _) (Nat.le_refl _) _) (Nat.le_refl _) _) (Nat.le_refl _) _)⟩
end Go.Proofs.YtgnjknbgahickabDoor

