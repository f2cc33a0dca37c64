/-
  The law FnExactLockAsk answers true at every table and lock.
-/
import Derived.Test.YtbaggkfgnjenoaaLwLO
import Derived.Test.YtbaggkfgnjenoaaLkV
import Derived.Test.YtbaggkfgnjenoaaLkN
namespace Go.Proofs.Ytbaggkfgnjenoaa
open Go.RowKit
set_option linter.unusedVariables false
theorem askT_len (h l : List LK) (x : LK) : (askT h l x).1.length ≤ h.length + 1 ∧ (askT h l x).2.length ≤ l.length + 1 := by
  unfold askT putL
  split
  · split
    · simp
    · split <;> simp
  · simp
/-- A table in its box, all of it from block B on. -/
structure AC (v : World) (gb B : Nat) (h k : Value) (hl wl : List LK) : Prop where
  box : Bk v gb 25 [h, k]
  own : LO v B h k hl wl
  lo : B ≤ gb
  sep : ∀ y, lbl h k y → y ≠ gb
theorem AB.ac {U v : World} {gb : Nat} {h k : Value} {hl wl : List LK} (H : AB U v gb h k hl wl) : AC v gb U.heap.size h k hl wl := ⟨H.box, H.own, H.lo, H.sep⟩
theorem AC.below {v v' : World} {gb B : Nat} {h k : Value} {hl wl : List LK} (H : AC v gb B h k hl wl) (hb : Below v.heap.size v v') : AC v' gb B h k hl wl := ⟨H.box.below hb, H.own.below hb, H.lo, H.sep⟩
theorem AC.to {v v' : World} {R : Nat → Prop} {gb B : Nat} {h k : Value} {hl wl : List LK} (H : AC v gb B h k hl wl) (ho : Only R v v') (hg : ¬ R gb) (hR : ∀ y, lbl h k y → ¬ R y) : AC v' gb B h k hl wl := ⟨H.box.to ho hg, H.own.to ho hR, H.lo, H.sep⟩
theorem AC.cells {v : World} {gb B : Nat} {h k : Value} {hl wl : List LK} (H : AC v gb B h k hl wl) : v.cell? ⟨gb, 0, none⟩ = some h ∧ v.cell? ⟨gb, 1, none⟩ = some k := ⟨H.box.cell (j := 0) rfl, H.box.cell (j := 1) rfl⟩
theorem AC.all {v : World} {gb B : Nat} {h k : Value} {hl wl : List LK} (H : AC v gb B h k hl wl) {y : Nat} (hy : y = gb ∨ lbl h k y) : B ≤ y ∧ y < v.heap.size := by
  rcases hy with rfl | hy
  · exact ⟨H.lo, H.box.lt⟩
  · exact H.own.lt hy
theorem AC.lens {v : World} {gb B : Nat} {ya : Option Addr} {yn yc : Nat} {za : Option Addr} {zn zc : Nat} {hl wl : List LK} (H : AC v gb B (.slice ya yn yc) (.slice za zn zc) hl wl) : yn = hl.length ∧ zn = wl.length := ⟨(ownL_at H.own.hh).1, (ownL_at H.own.hw).1⟩
/-- A marked table in its box. -/
structure AQ (v : World) (gb : Nat) (ya : Option Addr) (yn yc : Nat) (za : Option Addr) (zn zc : Nat) : Prop where
  box : Bk v gb 25 [.slice ya yn yc, .slice za zn zc]
  own : LMT v (.slice ya yn yc) (.slice za zn zc) yn zn 1
theorem AQ.below {v v' : World} {gb : Nat} {ya : Option Addr} {yn yc : Nat} {za : Option Addr} {zn zc : Nat} (h : AQ v gb ya yn yc za zn zc) (hb : Below v.heap.size v v') : AQ v' gb ya yn yc za zn zc := ⟨h.box.below hb, h.own.below hb⟩
theorem AQ.cells {v : World} {gb : Nat} {ya : Option Addr} {yn yc : Nat} {za : Option Addr} {zn zc : Nat} (h : AQ v gb ya yn yc za zn zc) : v.cell? ⟨gb, 0, none⟩ = some (.slice ya yn yc) ∧ v.cell? ⟨gb, 1, none⟩ = some (.slice za zn zc) := ⟨h.box.cell (j := 0) rfl, h.box.cell (j := 1) rfl⟩
set_option maxHeartbeats 32000000 in
set_option maxRecDepth 20000 in
theorem lawLockAsk_walk (ha : Option Addr) (hn hc : Nat) (wa : Option Addr) (wn wc : Nat) (hl wl : List LK) (c e n : Int) (lo hi : ByteArray) (ex : Bool) (w : World) (h : Lr w (fun _ => True) (.slice ha hn hc) hl ∧ szOkL hl) (k : Lr w (fun _ => True) (.slice wa wn wc) wl ∧ szOkL wl) (hs : lo.size ≤ maxLen ∧ hi.size ≤ maxLen) :
    Calls Try.prog 5 #[.agg #[.slice ha hn hc, .slice wa wn wc], .agg #[.int .i64 c, .int .i64 e, .int .i64 n, .string lo, .string hi, .bool ex]] w fun e w' => e = .returned (.bool true) ∧ Below w.heap.size w w' := by
  unfold maxLen at hs
  obtain ⟨hs1, hs2⟩ := hs
  have X0 := hid ((LX.start h.1 k.1).below (below_new (o := .cells #[.int .i64 c, .int .i64 e, .int .i64 n, .string lo, .string hi, .bool ex] 49) (Below.refl _ _)))
  have J0 := hid (Bk.new (w.alloc (.cells #[.slice ha hn hc, .slice wa wn wc] 45)) 49 [.int .i64 c, .int .i64 e, .int .i64 n, .string lo, .string hi, .bool ex])
  rw [show (w.alloc (.cells #[.slice ha hn hc, .slice wa wn wc] 45)).heap.size = w.heap.size + 1 by simp] at J0
  have HZ1 := hid h.2
  have HZ2 := hid k.2
  have HNL := hid (Rw.len h.1).1
  have HNW := hid (Rw.len k.1).1
  have CL := hid (fun w => toLock_any c e n lo hi ex w)
  have CZ := hid (fun left w h0 h1 => szLock_any c e n lo hi ex left w h0 h1 hs1 hs2)
  clear h k hs1 hs2
  go_enter Try.func5, Try.ntmps5
  go_wp2_with fail
  refine (szLocks_any _ _ ha hn hc wa wn wc hl wl _ X0.out.hA X0.out.hB HZ1.out HZ2.out).mono ?_
  generalize (w.alloc (.cells #[.slice ha hn hc, .slice wa wn wc] 45)).alloc (.cells #[.int .i64 c, .int .i64 e, .int .i64 n, .string lo, .string hi, .bool ex] 49) = U0 at *
  rintro r w1 ⟨⟨x, rfl, hx1, hx2, hx3⟩, hb⟩
  have X1 := hid (X0.out.below hb)
  have J1 := hid (J0.out.below hb)
  clear hb X0 J0
  by_cases hneg : x < 0
  · clear hx3
    go_wp2
    go_ret
    exact ⟨rfl, X1.out.bel⟩
  obtain ⟨m0, m1⟩ := hx3 (by omega)
  clear hx3
  have x0 := J1.out.cell (j := 0) rfl
  have x1 := J1.out.cell (j := 1) rfl
  have x2 := J1.out.cell (j := 2) rfl
  have x3 := J1.out.cell (j := 3) rfl
  have x4 := J1.out.cell (j := 4) rfl
  have x5 := J1.out.cell (j := 5) rfl
  go_wp2_with fail
  refine (CZ.out x _ (by omega) (by omega)).mono ?_
  rintro r w2 ⟨⟨y, rfl, hy1, hy2⟩, hb⟩
  have X2 := hid (X1.out.below hb)
  have J2 := hid (J1.out.below hb)
  clear hb X1 J1 x0 x1 x2 x3 x4 x5
  by_cases hneg2 : y < 0
  · go_wp2
    go_ret
    exact ⟨rfl, X2.out.bel⟩
  · have HLN := hid (askT_len hl wl ((c, e, n), (lo, hi), ex))
    have CS : Hid (∀ (v : World) (g0 g1 B : Nat), LO v B (.slice (some ⟨g0, 0, none⟩) hn hn) (.slice (some ⟨g1, 0, none⟩) wn wn) hl wl → Calls Try.prog 11 #[.agg #[.slice (some ⟨g0, 0, none⟩) hn hn, .slice (some ⟨g1, 0, none⟩) wn wn], .agg #[.int .i64 c, .int .i64 e, .int .i64 n, .string lo, .string hi, .bool ex]] v fun r w' => ∃ a9 n9 c9 b9 m9 d9, r = .returned (.tuple #[.agg #[.slice a9 n9 c9, .slice b9 m9 d9], .int .i64 (askC hl wl ((c, e, n), (lo, hi), ex))]) ∧ LO w' v.heap.size (.slice a9 n9 c9) (.slice b9 m9 d9) (askT hl wl ((c, e, n), (lo, hi), ex)).1 (askT hl wl ((c, e, n), (lo, hi), ex)).2 ∧ Below v.heap.size v w') := fun v g0 g1 B hO => specLockAsk_any (fun _ => True) (fun _ => True) _ _ _ _ _ _ hl wl c e n lo hi ex v hO.hh.lr hO.hw.lr m0 m1
    have CI : Hid (∀ (v : World) (g0 g1 B : Nat), LO v B (.slice (some ⟨g0, 0, none⟩) hn hn) (.slice (some ⟨g1, 0, none⟩) wn wn) hl wl → Calls Try.prog 10 #[.agg #[.slice (some ⟨g0, 0, none⟩) hn hn, .slice (some ⟨g1, 0, none⟩) wn wn], .agg #[.int .i64 c, .int .i64 e, .int .i64 n, .string lo, .string hi, .bool ex]] v fun r w' => ∃ a9 n9 c9 b9 m9 d9, r = .returned (.tuple #[.agg #[.slice a9 n9 c9, .slice b9 m9 d9], .int .i64 (askC hl wl ((c, e, n), (lo, hi), ex))]) ∧ LO w' v.heap.size (.slice a9 n9 c9) (.slice b9 m9 d9) (askT hl wl ((c, e, n), (lo, hi), ex)).1 (askT hl wl ((c, e, n), (lo, hi), ex)).2 ∧ Below v.heap.size v w') := fun v g0 g1 B hO => implLockAsk_any (fun _ => True) (fun _ => True) _ _ _ _ _ _ hl wl c e n lo hi ex v hO.hh.lr hO.hw.lr m0 m1
    rw [← HNL.out, ← HNW.out] at HLN
    generalize (askT hl wl ((c, e, n), (lo, hi), ex)).1 = tl at *
    generalize (askT hl wl ((c, e, n), (lo, hi), ex)).2 = tw at *
    generalize askC hl wl ((c, e, n), (lo, hi), ex) = cd at *
    have hcd : (cd != cd) = false := by simp
    have T2 := hid (kl8_0 (X2.out.kA.cell (j := 0) rfl) (X2.out.kA.cell (j := 1) rfl) (J2.out.cell (j := 0) rfl) (J2.out.cell (j := 1) rfl) (J2.out.cell (j := 2) rfl) (J2.out.cell (j := 3) rfl) (J2.out.cell (j := 4) rfl) (J2.out.cell (j := 5) rfl))
    go_wp2_with fail
    go_cut [6, 7] (fun x y v => ∃ V gb ya yn yc za zn zc, V = v ∧ x = .pointer (some ⟨gb, 0, none⟩) ∧ y = .int .i64 cd ∧ AB w2 V gb (.slice ya yn yc) (.slice za zn zc) tl tw)
    case first =>
      refine wp_region_noPanic ?_
      refine wp_region_held_drew (S := fun v => v.cell? ⟨w.heap.size, 0, none⟩ = some (.slice ha hn hc) ∧ v.cell? ⟨w.heap.size, 1, none⟩ = some (.slice wa wn wc) ∧ v.cell? ⟨w.heap.size + 1, 0, none⟩ = some (.int .i64 c) ∧ v.cell? ⟨w.heap.size + 1, 1, none⟩ = some (.int .i64 e) ∧ v.cell? ⟨w.heap.size + 1, 2, none⟩ = some (.int .i64 n) ∧ v.cell? ⟨w.heap.size + 1, 3, none⟩ = some (.string lo) ∧ v.cell? ⟨w.heap.size + 1, 4, none⟩ = some (.string hi) ∧ v.cell? ⟨w.heap.size + 1, 5, none⟩ = some (.bool ex) ∧ KL w2 v [(⟨w.heap.size, 0, none⟩, .slice ha hn hc), (⟨w.heap.size, 1, none⟩, .slice wa wn wc), (⟨w.heap.size + 1, 0, none⟩, .int .i64 c), (⟨w.heap.size + 1, 1, none⟩, .int .i64 e), (⟨w.heap.size + 1, 2, none⟩, .int .i64 n), (⟨w.heap.size + 1, 3, none⟩, .string lo), (⟨w.heap.size + 1, 4, none⟩, .string hi), (⟨w.heap.size + 1, 5, none⟩, .bool ex)]) (by kernel_rfl) (kl8 (T2.out.call (below_drew _))) (fun hHeld => ?_)
      simp only [List.size_toArray, List.length_cons, List.length_nil, Array.replicate_succ, Array.replicate_zero, Nat.reduceAdd, List.push_toArray, List.nil_append, List.cons_append]
      refine wpAnyH_take (i := 0) (v := (.agg #[.slice ha hn hc, .slice wa wn wc])) rfl (by kernel_rfl) (by kernel_rfl) (by kernel_rfl) (fun _ _ _ h => h) (Or.inl ⟨by rfl, ?_⟩) (by assumption) ?_
      · intro w hSw
        (try dsimp only at hSw)
        go_simp
      try simp only [List.getElem_toArray]
      try simp only [List.getElem_cons_succ]
      try simp only [List.getElem_cons_zero]
      try simp only [Act.put]
      try simp only [List.setIfInBounds_toArray]
      try simp only [List.set_cons_succ]
      try simp only [List.set_cons_zero]
      refine wpAnyH_take (i := 2) (v := (.agg #[.int .i64 c, .int .i64 e, .int .i64 n, .string lo, .string hi, .bool ex])) rfl (by kernel_rfl) (by kernel_rfl) (by kernel_rfl) (fun _ _ _ h => h) (Or.inl ⟨by rfl, ?_⟩) (by assumption) ?_
      · intro w hSw
        (try dsimp only at hSw)
        go_simp
      try simp only [List.getElem_toArray]
      try simp only [List.getElem_cons_succ]
      try simp only [List.getElem_cons_zero]
      try simp only [Act.put]
      try simp only [List.setIfInBounds_toArray]
      try simp only [List.set_cons_succ]
      try simp only [List.set_cons_zero]
      refine wpAnyH_ready (rs := [1, 8]) (by kernel_rfl) (by simp) ?_
      refine AllReadyH.cons rfl (fun K1 hK => ?_) (AllReadyH.cons rfl (fun K1 hK => ?_) AllReadyH.nil)
      · go_simp
        refine (toLocks_any _ _ ha hn hc wa wn wc hl wl _ (X2.out.hA.below (kl8_bel (by assumption))) (X2.out.hB.below (kl8_bel (by assumption))) m0 m1).mono ?_
        rintro r q1 ⟨p0, p1, rfl, hO, hbC⟩
        have O1 := hid (hO.base (Nat.zero_le _))
        clear hO
        go_wp2_with fail
        refine hK.out _ _ ?_ (fun hHeld => ?_)
        · exact kl8c hbC (by assumption)
        clear hK K1
        try simp only [List.getElem_toArray]
        try simp only [List.getElem_cons_succ]
        try simp only [List.getElem_cons_zero]
        try simp only [Act.put]
        try simp only [List.setIfInBounds_toArray]
        try simp only [List.set_cons_succ]
        try simp only [List.set_cons_zero]
        clear hbC
        refine wpAnyH_ready (rs := [3, 8]) (by kernel_rfl) (by simp) ?_
        refine AllReadyH.cons rfl (fun K1 hK => ?_) (AllReadyH.cons rfl (fun K1 hK => ?_) AllReadyH.nil)
        · go_simp
          refine (CL.out _).mono ?_
          rintro r q2 ⟨rfl, hbC⟩
          have O2 := hid (O1.out.below hbC)
          clear O1
          go_wp2_with fail
          refine hK.out _ _ ?_ (fun hHeld => ?_)
          · exact kl8c hbC (by assumption)
          clear hK K1
          try simp only [List.getElem_toArray]
          try simp only [List.getElem_cons_succ]
          try simp only [List.getElem_cons_zero]
          try simp only [Act.put]
          try simp only [List.setIfInBounds_toArray]
          try simp only [List.set_cons_succ]
          try simp only [List.set_cons_zero]
          clear hbC
          refine wpAnyH_ready (rs := [4, 8]) (by kernel_rfl) (by simp) ?_
          refine AllReadyH.cons rfl (fun K1 hK => ?_) (AllReadyH.cons rfl (fun K1 hK => ?_) AllReadyH.nil)
          · go_simp
            refine (CS.out _ _ _ _ O2.out).mono ?_
            rintro r q3 ⟨a9, n9, c9, b9, m9, d9, rfl, hO, hbC⟩
            have O9 := hid (hO.base (kl8_bel (by assumption)).size)
            clear hO O2
            go_wp2_with fail
            refine hK.out _ _ ?_ (fun hHeld => ?_)
            · exact kl8c hbC (by assumption)
            clear hK K1
            try simp only [List.getElem_toArray]
            try simp only [List.getElem_cons_succ]
            try simp only [List.getElem_cons_zero]
            try simp only [Act.put]
            try simp only [List.setIfInBounds_toArray]
            try simp only [List.set_cons_succ]
            try simp only [List.set_cons_zero]
            clear hbC
            refine wpAnyH_take (i := 5) (v := (.tuple #[.agg #[.slice a9 n9 c9, .slice b9 m9 d9], .int .i64 cd])) rfl (by kernel_rfl) (by kernel_rfl) (by kernel_rfl) (fun _ _ _ h => h) (Or.inl ⟨by rfl, ?_⟩) (by assumption) ?_
            · intro w hSw
              (try dsimp only at hSw)
              go_simp
            try simp only [List.getElem_toArray]
            try simp only [List.getElem_cons_succ]
            try simp only [List.getElem_cons_zero]
            try simp only [Act.put]
            try simp only [List.setIfInBounds_toArray]
            try simp only [List.set_cons_succ]
            try simp only [List.set_cons_zero]
            refine wpAnyH_take (i := 6) (v := (.agg #[.slice a9 n9 c9, .slice b9 m9 d9])) rfl (by kernel_rfl) (by kernel_rfl) (by kernel_rfl) (fun _ _ _ h => h) (Or.inl ⟨by rfl, ?_⟩) (by assumption) ?_
            · intro w hSw
              (try dsimp only at hSw)
              go_simp
            try simp only [List.getElem_toArray]
            try simp only [List.getElem_cons_succ]
            try simp only [List.getElem_cons_zero]
            try simp only [Act.put]
            try simp only [List.setIfInBounds_toArray]
            try simp only [List.set_cons_succ]
            try simp only [List.set_cons_zero]
            refine wpAnyH_take (i := 7) (v := (.int .i64 cd)) rfl (by kernel_rfl) (by kernel_rfl) (by kernel_rfl) (fun _ _ _ h => h) (Or.inl ⟨by rfl, ?_⟩) (by assumption) ?_
            · intro w hSw
              (try dsimp only at hSw)
              go_simp
            try simp only [List.getElem_toArray]
            try simp only [List.getElem_cons_succ]
            try simp only [List.getElem_cons_zero]
            try simp only [Act.put]
            try simp only [List.setIfInBounds_toArray]
            try simp only [List.set_cons_succ]
            try simp only [List.set_cons_zero]
            refine wpAnyH_ready (rs := [8]) (by kernel_rfl) (by simp) ?_
            refine AllReadyH.cons rfl (fun K1 hK => ?_) AllReadyH.nil
            go_simp
            try go_wp2_with fail
            have hbC := below_new (o := .cells #[.slice none 0 0, .slice none 0 0] 25) (w := q3) (Below.refl _ _)
            have E3 := hid (Bk.new q3 25 [.slice none 0 0, .slice none 0 0])
            have Z6 : Hid (w2.heap.size ≤ q3.heap.size) := (kl8_bel (by assumption)).size
            have F9 : Hid (∀ y, lbl (.slice a9 n9 c9) (.slice b9 m9 d9) y → y ≠ q3.heap.size) := fun y hy => by have h1 := (O9.out.lt hy).2; omega
            have OX := hid (O9.out.below hbC)
            clear O9
            refine hK.out _ _ ?_ (fun hHeld => ?_)
            · exact kl8c hbC (by assumption)
            clear hK K1
            try simp only [List.getElem_toArray]
            try simp only [List.getElem_cons_succ]
            try simp only [List.getElem_cons_zero]
            try simp only [Act.put]
            try simp only [List.setIfInBounds_toArray]
            try simp only [List.set_cons_succ]
            try simp only [List.set_cons_zero]
            clear hbC
            generalize q3.alloc (.cells #[.slice none 0 0, .slice none 0 0] 25) = v8 at *
            generalize q3.heap.size = gb at *
            have O9 := OX
            clear OX
            have z0 := E3.out.cell (j := 0) rfl
            have z1 := E3.out.cell (j := 1) rfl
            have e0 := E3.out.free 0
            have e1 := E3.out.free 1
            have AF : Hid (AB w2 ((v8.setCell ⟨gb, 0, none⟩ (.slice a9 n9 c9)).setCell ⟨gb, 1, none⟩ (.slice b9 m9 d9)) gb (.slice a9 n9 c9) (.slice b9 m9 d9) tl tw) := AB.mk' (kl8_bel (by assumption)) O9.out (Nat.le_refl _) E3.out Z6.out F9.out
            have s10 := kl8o (u := w2) (v := v8) (R := fun y => y = gb) (v' := ((v8.setCell ⟨gb, 0, none⟩ (.slice a9 n9 c9)).setCell ⟨gb, 1, none⟩ (.slice b9 m9 d9))) ((only_set (R := fun y => y = gb) (p := ⟨gb, 0, none⟩) rfl _).trans (only_set (R := fun y => y = gb) (p := ⟨gb, 1, none⟩) rfl _)) (fun y hy => by have := Z6.out; omega) (by assumption)
            refine wpAnyH_ready (rs := [9]) (by kernel_rfl) (by simp) ?_
            refine AllReadyH.cons rfl (fun K1 hK => ?_) AllReadyH.nil
            go_simp
            try go_wp2_with fail
            refine hK.out _ _ ?_ (fun hHeld => ?_)
            · exact s10
            clear hK K1
            try simp only [List.getElem_toArray]
            try simp only [List.getElem_cons_succ]
            try simp only [List.getElem_cons_zero]
            try simp only [Act.put]
            try simp only [List.setIfInBounds_toArray]
            try simp only [List.set_cons_succ]
            try simp only [List.set_cons_zero]
            clear s10 z0 z1 e0 e1
            refine wpAnyH_take (i := 10) (v := (.int .i64 cd)) rfl (by kernel_rfl) (by kernel_rfl) (by kernel_rfl) (fun _ _ _ h => h) (Or.inl ⟨by rfl, ?_⟩) (by assumption) ?_
            · intro w hSw
              (try dsimp only at hSw)
              go_simp
            try simp only [List.getElem_toArray]
            try simp only [List.getElem_cons_succ]
            try simp only [List.getElem_cons_zero]
            try simp only [Act.put]
            try simp only [List.setIfInBounds_toArray]
            try simp only [List.set_cons_succ]
            try simp only [List.set_cons_zero]
            refine wpAnyH_done (by kernel_rfl) ?_ _
            refine NoPanic.normal ?_
            go_wp2_with fail
            go_meet
            exact ⟨_, gb, a9, n9, c9, b9, m9, d9, rfl, by simp, by simp, AF.out⟩
          · go_simp
            try go_wp2_with fail
            have hbC := below_new (o := .cells #[.slice none 0 0, .slice none 0 0] 25) (w := q2) (Below.refl _ _)
            have E2 := hid (Bk.new q2 25 [.slice none 0 0, .slice none 0 0])
            have Z6 : Hid (w2.heap.size ≤ q2.heap.size) := (kl8_bel (by assumption)).size
            have OX := hid (O2.out.below hbC)
            clear O2
            refine hK.out _ _ ?_ (fun hHeld => ?_)
            · exact kl8c hbC (by assumption)
            clear hK K1
            try simp only [List.getElem_toArray]
            try simp only [List.getElem_cons_succ]
            try simp only [List.getElem_cons_zero]
            try simp only [Act.put]
            try simp only [List.setIfInBounds_toArray]
            try simp only [List.set_cons_succ]
            try simp only [List.set_cons_zero]
            clear hbC
            generalize q2.alloc (.cells #[.slice none 0 0, .slice none 0 0] 25) = v8 at *
            generalize q2.heap.size = gb at *
            have O2 := OX
            clear OX
            refine wpAnyH_ready (rs := [4]) (by kernel_rfl) (by simp) ?_
            refine AllReadyH.cons rfl (fun K1 hK => ?_) AllReadyH.nil
            go_simp
            refine (CS.out _ _ _ _ O2.out).mono ?_
            rintro r q3 ⟨a9, n9, c9, b9, m9, d9, rfl, hO, hbC⟩
            have O9 := hid (hO.base (kl8_bel (by assumption)).size)
            have E3 := hid (E2.out.below hbC)
            have F9 : Hid (∀ y, lbl (.slice a9 n9 c9) (.slice b9 m9 d9) y → y ≠ gb) := fun y hy => by have h1 := (hO.lt hy).1; have h2 := E2.out.lt; omega
            clear E2
            clear hO O2
            go_wp2_with fail
            refine hK.out _ _ ?_ (fun hHeld => ?_)
            · exact kl8c hbC (by assumption)
            clear hK K1
            try simp only [List.getElem_toArray]
            try simp only [List.getElem_cons_succ]
            try simp only [List.getElem_cons_zero]
            try simp only [Act.put]
            try simp only [List.setIfInBounds_toArray]
            try simp only [List.set_cons_succ]
            try simp only [List.set_cons_zero]
            clear hbC
            refine wpAnyH_take (i := 5) (v := (.tuple #[.agg #[.slice a9 n9 c9, .slice b9 m9 d9], .int .i64 cd])) rfl (by kernel_rfl) (by kernel_rfl) (by kernel_rfl) (fun _ _ _ h => h) (Or.inl ⟨by rfl, ?_⟩) (by assumption) ?_
            · intro w hSw
              (try dsimp only at hSw)
              go_simp
            try simp only [List.getElem_toArray]
            try simp only [List.getElem_cons_succ]
            try simp only [List.getElem_cons_zero]
            try simp only [Act.put]
            try simp only [List.setIfInBounds_toArray]
            try simp only [List.set_cons_succ]
            try simp only [List.set_cons_zero]
            refine wpAnyH_take (i := 6) (v := (.agg #[.slice a9 n9 c9, .slice b9 m9 d9])) rfl (by kernel_rfl) (by kernel_rfl) (by kernel_rfl) (fun _ _ _ h => h) (Or.inl ⟨by rfl, ?_⟩) (by assumption) ?_
            · intro w hSw
              (try dsimp only at hSw)
              go_simp
            try simp only [List.getElem_toArray]
            try simp only [List.getElem_cons_succ]
            try simp only [List.getElem_cons_zero]
            try simp only [Act.put]
            try simp only [List.setIfInBounds_toArray]
            try simp only [List.set_cons_succ]
            try simp only [List.set_cons_zero]
            refine wpAnyH_take (i := 7) (v := (.int .i64 cd)) rfl (by kernel_rfl) (by kernel_rfl) (by kernel_rfl) (fun _ _ _ h => h) (Or.inl ⟨by rfl, ?_⟩) (by assumption) ?_
            · intro w hSw
              (try dsimp only at hSw)
              go_simp
            try simp only [List.getElem_toArray]
            try simp only [List.getElem_cons_succ]
            try simp only [List.getElem_cons_zero]
            try simp only [Act.put]
            try simp only [List.setIfInBounds_toArray]
            try simp only [List.set_cons_succ]
            try simp only [List.set_cons_zero]
            have z0 := E3.out.cell (j := 0) rfl
            have z1 := E3.out.cell (j := 1) rfl
            have e0 := E3.out.free 0
            have e1 := E3.out.free 1
            have AF : Hid (AB w2 ((q3.setCell ⟨gb, 0, none⟩ (.slice a9 n9 c9)).setCell ⟨gb, 1, none⟩ (.slice b9 m9 d9)) gb (.slice a9 n9 c9) (.slice b9 m9 d9) tl tw) := AB.mk' (kl8_bel (by assumption)) O9.out (Nat.le_refl _) E3.out Z6.out F9.out
            have s10 := kl8o (u := w2) (v := q3) (R := fun y => y = gb) (v' := ((q3.setCell ⟨gb, 0, none⟩ (.slice a9 n9 c9)).setCell ⟨gb, 1, none⟩ (.slice b9 m9 d9))) ((only_set (R := fun y => y = gb) (p := ⟨gb, 0, none⟩) rfl _).trans (only_set (R := fun y => y = gb) (p := ⟨gb, 1, none⟩) rfl _)) (fun y hy => by have := Z6.out; omega) (by assumption)
            refine wpAnyH_ready (rs := [9]) (by kernel_rfl) (by simp) ?_
            refine AllReadyH.cons rfl (fun K1 hK => ?_) AllReadyH.nil
            go_simp
            try go_wp2_with fail
            refine hK.out _ _ ?_ (fun hHeld => ?_)
            · exact s10
            clear hK K1
            try simp only [List.getElem_toArray]
            try simp only [List.getElem_cons_succ]
            try simp only [List.getElem_cons_zero]
            try simp only [Act.put]
            try simp only [List.setIfInBounds_toArray]
            try simp only [List.set_cons_succ]
            try simp only [List.set_cons_zero]
            clear s10 z0 z1 e0 e1
            refine wpAnyH_take (i := 10) (v := (.int .i64 cd)) rfl (by kernel_rfl) (by kernel_rfl) (by kernel_rfl) (fun _ _ _ h => h) (Or.inl ⟨by rfl, ?_⟩) (by assumption) ?_
            · intro w hSw
              (try dsimp only at hSw)
              go_simp
            try simp only [List.getElem_toArray]
            try simp only [List.getElem_cons_succ]
            try simp only [List.getElem_cons_zero]
            try simp only [Act.put]
            try simp only [List.setIfInBounds_toArray]
            try simp only [List.set_cons_succ]
            try simp only [List.set_cons_zero]
            refine wpAnyH_done (by kernel_rfl) ?_ _
            refine NoPanic.normal ?_
            go_wp2_with fail
            go_meet
            exact ⟨_, gb, a9, n9, c9, b9, m9, d9, rfl, by simp, by simp, AF.out⟩
        · go_simp
          try go_wp2_with fail
          have hbC := below_new (o := .cells #[.slice none 0 0, .slice none 0 0] 25) (w := q1) (Below.refl _ _)
          have E1 := hid (Bk.new q1 25 [.slice none 0 0, .slice none 0 0])
          have Z6 : Hid (w2.heap.size ≤ q1.heap.size) := (kl8_bel (by assumption)).size
          have OX := hid (O1.out.below hbC)
          clear O1
          refine hK.out _ _ ?_ (fun hHeld => ?_)
          · exact kl8c hbC (by assumption)
          clear hK K1
          try simp only [List.getElem_toArray]
          try simp only [List.getElem_cons_succ]
          try simp only [List.getElem_cons_zero]
          try simp only [Act.put]
          try simp only [List.setIfInBounds_toArray]
          try simp only [List.set_cons_succ]
          try simp only [List.set_cons_zero]
          clear hbC
          generalize q1.alloc (.cells #[.slice none 0 0, .slice none 0 0] 25) = v8 at *
          generalize q1.heap.size = gb at *
          have O1 := OX
          clear OX
          refine wpAnyH_ready (rs := [3]) (by kernel_rfl) (by simp) ?_
          refine AllReadyH.cons rfl (fun K1 hK => ?_) AllReadyH.nil
          go_simp
          refine (CL.out _).mono ?_
          rintro r q2 ⟨rfl, hbC⟩
          have O2 := hid (O1.out.below hbC)
          clear O1
          have E2 := hid (E1.out.below hbC)
          clear E1
          go_wp2_with fail
          refine hK.out _ _ ?_ (fun hHeld => ?_)
          · exact kl8c hbC (by assumption)
          clear hK K1
          try simp only [List.getElem_toArray]
          try simp only [List.getElem_cons_succ]
          try simp only [List.getElem_cons_zero]
          try simp only [Act.put]
          try simp only [List.setIfInBounds_toArray]
          try simp only [List.set_cons_succ]
          try simp only [List.set_cons_zero]
          clear hbC
          refine wpAnyH_ready (rs := [4]) (by kernel_rfl) (by simp) ?_
          refine AllReadyH.cons rfl (fun K1 hK => ?_) AllReadyH.nil
          go_simp
          refine (CS.out _ _ _ _ O2.out).mono ?_
          rintro r q3 ⟨a9, n9, c9, b9, m9, d9, rfl, hO, hbC⟩
          have O9 := hid (hO.base (kl8_bel (by assumption)).size)
          have E3 := hid (E2.out.below hbC)
          have F9 : Hid (∀ y, lbl (.slice a9 n9 c9) (.slice b9 m9 d9) y → y ≠ gb) := fun y hy => by have h1 := (hO.lt hy).1; have h2 := E2.out.lt; omega
          clear E2
          clear hO O2
          go_wp2_with fail
          refine hK.out _ _ ?_ (fun hHeld => ?_)
          · exact kl8c hbC (by assumption)
          clear hK K1
          try simp only [List.getElem_toArray]
          try simp only [List.getElem_cons_succ]
          try simp only [List.getElem_cons_zero]
          try simp only [Act.put]
          try simp only [List.setIfInBounds_toArray]
          try simp only [List.set_cons_succ]
          try simp only [List.set_cons_zero]
          clear hbC
          refine wpAnyH_take (i := 5) (v := (.tuple #[.agg #[.slice a9 n9 c9, .slice b9 m9 d9], .int .i64 cd])) rfl (by kernel_rfl) (by kernel_rfl) (by kernel_rfl) (fun _ _ _ h => h) (Or.inl ⟨by rfl, ?_⟩) (by assumption) ?_
          · intro w hSw
            (try dsimp only at hSw)
            go_simp
          try simp only [List.getElem_toArray]
          try simp only [List.getElem_cons_succ]
          try simp only [List.getElem_cons_zero]
          try simp only [Act.put]
          try simp only [List.setIfInBounds_toArray]
          try simp only [List.set_cons_succ]
          try simp only [List.set_cons_zero]
          refine wpAnyH_take (i := 6) (v := (.agg #[.slice a9 n9 c9, .slice b9 m9 d9])) rfl (by kernel_rfl) (by kernel_rfl) (by kernel_rfl) (fun _ _ _ h => h) (Or.inl ⟨by rfl, ?_⟩) (by assumption) ?_
          · intro w hSw
            (try dsimp only at hSw)
            go_simp
          try simp only [List.getElem_toArray]
          try simp only [List.getElem_cons_succ]
          try simp only [List.getElem_cons_zero]
          try simp only [Act.put]
          try simp only [List.setIfInBounds_toArray]
          try simp only [List.set_cons_succ]
          try simp only [List.set_cons_zero]
          refine wpAnyH_take (i := 7) (v := (.int .i64 cd)) rfl (by kernel_rfl) (by kernel_rfl) (by kernel_rfl) (fun _ _ _ h => h) (Or.inl ⟨by rfl, ?_⟩) (by assumption) ?_
          · intro w hSw
            (try dsimp only at hSw)
            go_simp
          try simp only [List.getElem_toArray]
          try simp only [List.getElem_cons_succ]
          try simp only [List.getElem_cons_zero]
          try simp only [Act.put]
          try simp only [List.setIfInBounds_toArray]
          try simp only [List.set_cons_succ]
          try simp only [List.set_cons_zero]
          have z0 := E3.out.cell (j := 0) rfl
          have z1 := E3.out.cell (j := 1) rfl
          have e0 := E3.out.free 0
          have e1 := E3.out.free 1
          have AF : Hid (AB w2 ((q3.setCell ⟨gb, 0, none⟩ (.slice a9 n9 c9)).setCell ⟨gb, 1, none⟩ (.slice b9 m9 d9)) gb (.slice a9 n9 c9) (.slice b9 m9 d9) tl tw) := AB.mk' (kl8_bel (by assumption)) O9.out (Nat.le_refl _) E3.out Z6.out F9.out
          have s10 := kl8o (u := w2) (v := q3) (R := fun y => y = gb) (v' := ((q3.setCell ⟨gb, 0, none⟩ (.slice a9 n9 c9)).setCell ⟨gb, 1, none⟩ (.slice b9 m9 d9))) ((only_set (R := fun y => y = gb) (p := ⟨gb, 0, none⟩) rfl _).trans (only_set (R := fun y => y = gb) (p := ⟨gb, 1, none⟩) rfl _)) (fun y hy => by have := Z6.out; omega) (by assumption)
          refine wpAnyH_ready (rs := [9]) (by kernel_rfl) (by simp) ?_
          refine AllReadyH.cons rfl (fun K1 hK => ?_) AllReadyH.nil
          go_simp
          try go_wp2_with fail
          refine hK.out _ _ ?_ (fun hHeld => ?_)
          · exact s10
          clear hK K1
          try simp only [List.getElem_toArray]
          try simp only [List.getElem_cons_succ]
          try simp only [List.getElem_cons_zero]
          try simp only [Act.put]
          try simp only [List.setIfInBounds_toArray]
          try simp only [List.set_cons_succ]
          try simp only [List.set_cons_zero]
          clear s10 z0 z1 e0 e1
          refine wpAnyH_take (i := 10) (v := (.int .i64 cd)) rfl (by kernel_rfl) (by kernel_rfl) (by kernel_rfl) (fun _ _ _ h => h) (Or.inl ⟨by rfl, ?_⟩) (by assumption) ?_
          · intro w hSw
            (try dsimp only at hSw)
            go_simp
          try simp only [List.getElem_toArray]
          try simp only [List.getElem_cons_succ]
          try simp only [List.getElem_cons_zero]
          try simp only [Act.put]
          try simp only [List.setIfInBounds_toArray]
          try simp only [List.set_cons_succ]
          try simp only [List.set_cons_zero]
          refine wpAnyH_done (by kernel_rfl) ?_ _
          refine NoPanic.normal ?_
          go_wp2_with fail
          go_meet
          exact ⟨_, gb, a9, n9, c9, b9, m9, d9, rfl, by simp, by simp, AF.out⟩
      · go_simp
        try go_wp2_with fail
        have h0 := below_new (o := .cells #[.slice none 0 0, .slice none 0 0] 25) (w := w2) (below_drew _)
        have hbC : Below w2.drew.heap.size w2.drew (w2.alloc (.cells #[.slice none 0 0, .slice none 0 0] 25)).drew := ⟨h0.os, h0.tape, h0.output, h0.size, h0.block⟩
        have E0 : Hid (Bk (w2.alloc (.cells #[.slice none 0 0, .slice none 0 0] 25)).drew w2.heap.size 25 [.slice none 0 0, .slice none 0 0]) := (Bk.new w2 25 [.slice none 0 0, .slice none 0 0]).below (below_drew _)
        have Z6 : Hid (w2.heap.size ≤ w2.heap.size) := Nat.le_refl _
        refine hK.out _ _ ?_ (fun hHeld => ?_)
        · exact kl8c hbC (by assumption)
        clear hK K1
        try simp only [List.getElem_toArray]
        try simp only [List.getElem_cons_succ]
        try simp only [List.getElem_cons_zero]
        try simp only [Act.put]
        try simp only [List.setIfInBounds_toArray]
        try simp only [List.set_cons_succ]
        try simp only [List.set_cons_zero]
        clear hbC h0
        generalize (w2.alloc (.cells #[.slice none 0 0, .slice none 0 0] 25)).drew = v6 at *
        refine wpAnyH_ready (rs := [1]) (by kernel_rfl) (by simp) ?_
        refine AllReadyH.cons rfl (fun K1 hK => ?_) AllReadyH.nil
        go_simp
        refine (toLocks_any _ _ ha hn hc wa wn wc hl wl _ (X2.out.hA.below (kl8_bel (by assumption))) (X2.out.hB.below (kl8_bel (by assumption))) m0 m1).mono ?_
        rintro r q1 ⟨p0, p1, rfl, hO, hbC⟩
        have O1 := hid (hO.base (Nat.zero_le _))
        clear hO
        have E1 := hid (E0.out.below hbC)
        clear E0
        go_wp2_with fail
        refine hK.out _ _ ?_ (fun hHeld => ?_)
        · exact kl8c hbC (by assumption)
        clear hK K1
        try simp only [List.getElem_toArray]
        try simp only [List.getElem_cons_succ]
        try simp only [List.getElem_cons_zero]
        try simp only [Act.put]
        try simp only [List.setIfInBounds_toArray]
        try simp only [List.set_cons_succ]
        try simp only [List.set_cons_zero]
        clear hbC
        refine wpAnyH_ready (rs := [3]) (by kernel_rfl) (by simp) ?_
        refine AllReadyH.cons rfl (fun K1 hK => ?_) AllReadyH.nil
        go_simp
        refine (CL.out _).mono ?_
        rintro r q2 ⟨rfl, hbC⟩
        have O2 := hid (O1.out.below hbC)
        clear O1
        have E2 := hid (E1.out.below hbC)
        clear E1
        go_wp2_with fail
        refine hK.out _ _ ?_ (fun hHeld => ?_)
        · exact kl8c hbC (by assumption)
        clear hK K1
        try simp only [List.getElem_toArray]
        try simp only [List.getElem_cons_succ]
        try simp only [List.getElem_cons_zero]
        try simp only [Act.put]
        try simp only [List.setIfInBounds_toArray]
        try simp only [List.set_cons_succ]
        try simp only [List.set_cons_zero]
        clear hbC
        refine wpAnyH_ready (rs := [4]) (by kernel_rfl) (by simp) ?_
        refine AllReadyH.cons rfl (fun K1 hK => ?_) AllReadyH.nil
        go_simp
        refine (CS.out _ _ _ _ O2.out).mono ?_
        rintro r q3 ⟨a9, n9, c9, b9, m9, d9, rfl, hO, hbC⟩
        have O9 := hid (hO.base (kl8_bel (by assumption)).size)
        have E3 := hid (E2.out.below hbC)
        have F9 : Hid (∀ y, lbl (.slice a9 n9 c9) (.slice b9 m9 d9) y → y ≠ w2.heap.size) := fun y hy => by have h1 := (hO.lt hy).1; have h2 := E2.out.lt; omega
        clear E2
        clear hO O2
        go_wp2_with fail
        refine hK.out _ _ ?_ (fun hHeld => ?_)
        · exact kl8c hbC (by assumption)
        clear hK K1
        try simp only [List.getElem_toArray]
        try simp only [List.getElem_cons_succ]
        try simp only [List.getElem_cons_zero]
        try simp only [Act.put]
        try simp only [List.setIfInBounds_toArray]
        try simp only [List.set_cons_succ]
        try simp only [List.set_cons_zero]
        clear hbC
        refine wpAnyH_take (i := 5) (v := (.tuple #[.agg #[.slice a9 n9 c9, .slice b9 m9 d9], .int .i64 cd])) rfl (by kernel_rfl) (by kernel_rfl) (by kernel_rfl) (fun _ _ _ h => h) (Or.inl ⟨by rfl, ?_⟩) (by assumption) ?_
        · intro w hSw
          (try dsimp only at hSw)
          go_simp
        try simp only [List.getElem_toArray]
        try simp only [List.getElem_cons_succ]
        try simp only [List.getElem_cons_zero]
        try simp only [Act.put]
        try simp only [List.setIfInBounds_toArray]
        try simp only [List.set_cons_succ]
        try simp only [List.set_cons_zero]
        refine wpAnyH_take (i := 6) (v := (.agg #[.slice a9 n9 c9, .slice b9 m9 d9])) rfl (by kernel_rfl) (by kernel_rfl) (by kernel_rfl) (fun _ _ _ h => h) (Or.inl ⟨by rfl, ?_⟩) (by assumption) ?_
        · intro w hSw
          (try dsimp only at hSw)
          go_simp
        try simp only [List.getElem_toArray]
        try simp only [List.getElem_cons_succ]
        try simp only [List.getElem_cons_zero]
        try simp only [Act.put]
        try simp only [List.setIfInBounds_toArray]
        try simp only [List.set_cons_succ]
        try simp only [List.set_cons_zero]
        refine wpAnyH_take (i := 7) (v := (.int .i64 cd)) rfl (by kernel_rfl) (by kernel_rfl) (by kernel_rfl) (fun _ _ _ h => h) (Or.inl ⟨by rfl, ?_⟩) (by assumption) ?_
        · intro w hSw
          (try dsimp only at hSw)
          go_simp
        try simp only [List.getElem_toArray]
        try simp only [List.getElem_cons_succ]
        try simp only [List.getElem_cons_zero]
        try simp only [Act.put]
        try simp only [List.setIfInBounds_toArray]
        try simp only [List.set_cons_succ]
        try simp only [List.set_cons_zero]
        have z0 := E3.out.cell (j := 0) rfl
        have z1 := E3.out.cell (j := 1) rfl
        have e0 := E3.out.free 0
        have e1 := E3.out.free 1
        have AF : Hid (AB w2 ((q3.setCell ⟨w2.heap.size, 0, none⟩ (.slice a9 n9 c9)).setCell ⟨w2.heap.size, 1, none⟩ (.slice b9 m9 d9)) w2.heap.size (.slice a9 n9 c9) (.slice b9 m9 d9) tl tw) := AB.mk' (kl8_bel (by assumption)) O9.out (Nat.le_refl _) E3.out Z6.out F9.out
        have s10 := kl8o (u := w2) (v := q3) (R := fun y => y = w2.heap.size) (v' := ((q3.setCell ⟨w2.heap.size, 0, none⟩ (.slice a9 n9 c9)).setCell ⟨w2.heap.size, 1, none⟩ (.slice b9 m9 d9))) ((only_set (R := fun y => y = w2.heap.size) (p := ⟨w2.heap.size, 0, none⟩) rfl _).trans (only_set (R := fun y => y = w2.heap.size) (p := ⟨w2.heap.size, 1, none⟩) rfl _)) (fun y hy => by have := Z6.out; omega) (by assumption)
        refine wpAnyH_ready (rs := [9]) (by kernel_rfl) (by simp) ?_
        refine AllReadyH.cons rfl (fun K1 hK => ?_) AllReadyH.nil
        go_simp
        try go_wp2_with fail
        refine hK.out _ _ ?_ (fun hHeld => ?_)
        · exact s10
        clear hK K1
        try simp only [List.getElem_toArray]
        try simp only [List.getElem_cons_succ]
        try simp only [List.getElem_cons_zero]
        try simp only [Act.put]
        try simp only [List.setIfInBounds_toArray]
        try simp only [List.set_cons_succ]
        try simp only [List.set_cons_zero]
        clear s10 z0 z1 e0 e1
        refine wpAnyH_take (i := 10) (v := (.int .i64 cd)) rfl (by kernel_rfl) (by kernel_rfl) (by kernel_rfl) (fun _ _ _ h => h) (Or.inl ⟨by rfl, ?_⟩) (by assumption) ?_
        · intro w hSw
          (try dsimp only at hSw)
          go_simp
        try simp only [List.getElem_toArray]
        try simp only [List.getElem_cons_succ]
        try simp only [List.getElem_cons_zero]
        try simp only [Act.put]
        try simp only [List.setIfInBounds_toArray]
        try simp only [List.set_cons_succ]
        try simp only [List.set_cons_zero]
        refine wpAnyH_done (by kernel_rfl) ?_ _
        refine NoPanic.normal ?_
        go_wp2_with fail
        go_meet
        exact ⟨_, w2.heap.size, a9, n9, c9, b9, m9, d9, rfl, by simp, by simp, AF.out⟩
    case rest =>
      obtain ⟨V3, gA, aa, an, ac, ba, bn, bc, rfl, rfl, rfl, hAB⟩ := hcut
      have A3 := hid hAB.ac
      have X3 := hid (X2.out.below hAB.bel)
      have J3 := hid (J2.out.below hAB.bel)
      have SA : Hid (w.heap.size + 1 < w2.heap.size) := J2.out.lt
      have SV : Hid (w2.heap.size ≤ V3.heap.size) := hAB.bel.size
      clear hAB T2 CS X2 J2
      obtain ⟨x0, x1⟩ := X3.out.cells
      go_wp2_with fail
      refine (toLocks_any _ _ ha hn hc wa wn wc hl wl _ X3.out.hA X3.out.hB m0 m1).mono ?_
      rintro r w4 ⟨h0, h1, rfl, hO, hb⟩
      have hb2 := btL hb (below_new (o := .cells #[.slice (some ⟨h0, 0, none⟩) hn hn, .slice (some ⟨h1, 0, none⟩) wn wn] 25) (w := w4) (Below.refl _ _))
      have X5 := hid (X3.out.below hb2)
      have J5 := hid (J3.out.below hb2)
      have A5 := hid (A3.out.below hb2)
      have D5 : Hid (AC (w4.alloc (.cells #[.slice (some ⟨h0, 0, none⟩) hn hn, .slice (some ⟨h1, 0, none⟩) wn wn] 25)) w4.heap.size V3.heap.size (.slice (some ⟨h0, 0, none⟩) hn hn) (.slice (some ⟨h1, 0, none⟩) wn wn) hl wl) := ⟨Bk.new w4 _ [_, _], hO.below (below_new (Below.refl _ _)), hb.size, fun y hy => by have := (hO.lt hy).2; omega⟩
      have UA : Hid (∀ y, y = gA ∨ lbl (.slice aa an ac) (.slice ba bn bc) y → w2.heap.size ≤ y ∧ y < V3.heap.size) := fun y hy => A3.out.all hy
      have SU0 : Hid (V3.heap.size ≤ (w4.alloc (.cells #[.slice (some ⟨h0, 0, none⟩) hn hn, .slice (some ⟨h1, 0, none⟩) wn wn] 25)).heap.size) := hb2.size
      clear hb hb2 hO X3 J3 A3 x0 x1
      go_wp2_with fail
      generalize w4.alloc (.cells #[.slice (some ⟨h0, 0, none⟩) hn hn, .slice (some ⟨h1, 0, none⟩) wn wn] 25) = u5 at *
      generalize w4.heap.size = gD at *
      have T5 := hid (kl8_0 (D5.out.box.cell (j := 0) rfl) (D5.out.box.cell (j := 1) rfl) (J5.out.cell (j := 0) rfl) (J5.out.cell (j := 1) rfl) (J5.out.cell (j := 2) rfl) (J5.out.cell (j := 3) rfl) (J5.out.cell (j := 4) rfl) (J5.out.cell (j := 5) rfl))
      go_cut [9, 10] (fun x y v => ∃ V gb ya yn yc za zn zc, V = v ∧ x = .pointer (some ⟨gb, 0, none⟩) ∧ y = .int .i64 cd ∧ AB u5 V gb (.slice ya yn yc) (.slice za zn zc) tl tw)
      case first =>
        refine wp_region_noPanic ?_
        refine wp_region_held_drew (S := fun v => v.cell? ⟨gD, 0, none⟩ = some (.slice (some ⟨h0, 0, none⟩) hn hn) ∧ v.cell? ⟨gD, 1, none⟩ = some (.slice (some ⟨h1, 0, none⟩) wn wn) ∧ v.cell? ⟨w.heap.size + 1, 0, none⟩ = some (.int .i64 c) ∧ v.cell? ⟨w.heap.size + 1, 1, none⟩ = some (.int .i64 e) ∧ v.cell? ⟨w.heap.size + 1, 2, none⟩ = some (.int .i64 n) ∧ v.cell? ⟨w.heap.size + 1, 3, none⟩ = some (.string lo) ∧ v.cell? ⟨w.heap.size + 1, 4, none⟩ = some (.string hi) ∧ v.cell? ⟨w.heap.size + 1, 5, none⟩ = some (.bool ex) ∧ KL u5 v [(⟨gD, 0, none⟩, .slice (some ⟨h0, 0, none⟩) hn hn), (⟨gD, 1, none⟩, .slice (some ⟨h1, 0, none⟩) wn wn), (⟨w.heap.size + 1, 0, none⟩, .int .i64 c), (⟨w.heap.size + 1, 1, none⟩, .int .i64 e), (⟨w.heap.size + 1, 2, none⟩, .int .i64 n), (⟨w.heap.size + 1, 3, none⟩, .string lo), (⟨w.heap.size + 1, 4, none⟩, .string hi), (⟨w.heap.size + 1, 5, none⟩, .bool ex)]) (by kernel_rfl) (kl8 (T5.out.call (below_drew _))) (fun hHeld => ?_)
        simp only [List.size_toArray, List.length_cons, List.length_nil, Array.replicate_succ, Array.replicate_zero, Nat.reduceAdd, List.push_toArray, List.nil_append, List.cons_append]
        refine wpAnyH_take (i := 0) (v := (.agg #[.slice (some ⟨h0, 0, none⟩) hn hn, .slice (some ⟨h1, 0, none⟩) wn wn])) rfl (by kernel_rfl) (by kernel_rfl) (by kernel_rfl) (fun _ _ _ h => h) (Or.inl ⟨by rfl, ?_⟩) (by assumption) ?_
        · intro w hSw
          (try dsimp only at hSw)
          go_simp
        try simp only [List.getElem_toArray]
        try simp only [List.getElem_cons_succ]
        try simp only [List.getElem_cons_zero]
        try simp only [Act.put]
        try simp only [List.setIfInBounds_toArray]
        try simp only [List.set_cons_succ]
        try simp only [List.set_cons_zero]
        refine wpAnyH_take (i := 1) (v := (.agg #[.int .i64 c, .int .i64 e, .int .i64 n, .string lo, .string hi, .bool ex])) rfl (by kernel_rfl) (by kernel_rfl) (by kernel_rfl) (fun _ _ _ h => h) (Or.inl ⟨by rfl, ?_⟩) (by assumption) ?_
        · intro w hSw
          (try dsimp only at hSw)
          go_simp
        try simp only [List.getElem_toArray]
        try simp only [List.getElem_cons_succ]
        try simp only [List.getElem_cons_zero]
        try simp only [Act.put]
        try simp only [List.setIfInBounds_toArray]
        try simp only [List.set_cons_succ]
        try simp only [List.set_cons_zero]
        have O0 := hid (D5.out.own.below (kl8_bel (by assumption)))
        refine wpAnyH_ready (rs := [2, 7]) (by kernel_rfl) (by simp) ?_
        refine AllReadyH.cons rfl (fun K1 hK => ?_) (AllReadyH.cons rfl (fun K1 hK => ?_) AllReadyH.nil)
        · go_simp
          refine (CL.out _).mono ?_
          rintro r q1 ⟨rfl, hbC⟩
          have O1 := hid (O0.out.below hbC)
          clear O0
          go_wp2_with fail
          refine hK.out _ _ ?_ (fun hHeld => ?_)
          · exact kl8c hbC (by assumption)
          clear hK K1
          try simp only [List.getElem_toArray]
          try simp only [List.getElem_cons_succ]
          try simp only [List.getElem_cons_zero]
          try simp only [Act.put]
          try simp only [List.setIfInBounds_toArray]
          try simp only [List.set_cons_succ]
          try simp only [List.set_cons_zero]
          clear hbC
          refine wpAnyH_ready (rs := [3, 7]) (by kernel_rfl) (by simp) ?_
          refine AllReadyH.cons rfl (fun K1 hK => ?_) (AllReadyH.cons rfl (fun K1 hK => ?_) AllReadyH.nil)
          · go_simp
            refine (CI.out _ _ _ _ O1.out).mono ?_
            rintro r q2 ⟨a9, n9, c9, b9, m9, d9, rfl, hO, hbC⟩
            have O9 := hid (hO.base (kl8_bel (by assumption)).size)
            clear hO O1
            go_wp2_with fail
            refine hK.out _ _ ?_ (fun hHeld => ?_)
            · exact kl8c hbC (by assumption)
            clear hK K1
            try simp only [List.getElem_toArray]
            try simp only [List.getElem_cons_succ]
            try simp only [List.getElem_cons_zero]
            try simp only [Act.put]
            try simp only [List.setIfInBounds_toArray]
            try simp only [List.set_cons_succ]
            try simp only [List.set_cons_zero]
            clear hbC
            refine wpAnyH_take (i := 4) (v := (.tuple #[.agg #[.slice a9 n9 c9, .slice b9 m9 d9], .int .i64 cd])) rfl (by kernel_rfl) (by kernel_rfl) (by kernel_rfl) (fun _ _ _ h => h) (Or.inl ⟨by rfl, ?_⟩) (by assumption) ?_
            · intro w hSw
              (try dsimp only at hSw)
              go_simp
            try simp only [List.getElem_toArray]
            try simp only [List.getElem_cons_succ]
            try simp only [List.getElem_cons_zero]
            try simp only [Act.put]
            try simp only [List.setIfInBounds_toArray]
            try simp only [List.set_cons_succ]
            try simp only [List.set_cons_zero]
            refine wpAnyH_take (i := 5) (v := (.agg #[.slice a9 n9 c9, .slice b9 m9 d9])) rfl (by kernel_rfl) (by kernel_rfl) (by kernel_rfl) (fun _ _ _ h => h) (Or.inl ⟨by rfl, ?_⟩) (by assumption) ?_
            · intro w hSw
              (try dsimp only at hSw)
              go_simp
            try simp only [List.getElem_toArray]
            try simp only [List.getElem_cons_succ]
            try simp only [List.getElem_cons_zero]
            try simp only [Act.put]
            try simp only [List.setIfInBounds_toArray]
            try simp only [List.set_cons_succ]
            try simp only [List.set_cons_zero]
            refine wpAnyH_take (i := 6) (v := (.int .i64 cd)) rfl (by kernel_rfl) (by kernel_rfl) (by kernel_rfl) (fun _ _ _ h => h) (Or.inl ⟨by rfl, ?_⟩) (by assumption) ?_
            · intro w hSw
              (try dsimp only at hSw)
              go_simp
            try simp only [List.getElem_toArray]
            try simp only [List.getElem_cons_succ]
            try simp only [List.getElem_cons_zero]
            try simp only [Act.put]
            try simp only [List.setIfInBounds_toArray]
            try simp only [List.set_cons_succ]
            try simp only [List.set_cons_zero]
            refine wpAnyH_ready (rs := [7]) (by kernel_rfl) (by simp) ?_
            refine AllReadyH.cons rfl (fun K1 hK => ?_) AllReadyH.nil
            go_simp
            try go_wp2_with fail
            have hbC := below_new (o := .cells #[.slice none 0 0, .slice none 0 0] 25) (w := q2) (Below.refl _ _)
            have E2 := hid (Bk.new q2 25 [.slice none 0 0, .slice none 0 0])
            have Z6 : Hid (u5.heap.size ≤ q2.heap.size) := (kl8_bel (by assumption)).size
            have F9 : Hid (∀ y, lbl (.slice a9 n9 c9) (.slice b9 m9 d9) y → y ≠ q2.heap.size) := fun y hy => by have h1 := (O9.out.lt hy).2; omega
            have OX := hid (O9.out.below hbC)
            clear O9
            refine hK.out _ _ ?_ (fun hHeld => ?_)
            · exact kl8c hbC (by assumption)
            clear hK K1
            try simp only [List.getElem_toArray]
            try simp only [List.getElem_cons_succ]
            try simp only [List.getElem_cons_zero]
            try simp only [Act.put]
            try simp only [List.setIfInBounds_toArray]
            try simp only [List.set_cons_succ]
            try simp only [List.set_cons_zero]
            clear hbC
            generalize q2.alloc (.cells #[.slice none 0 0, .slice none 0 0] 25) = v8 at *
            generalize q2.heap.size = gb at *
            have O9 := OX
            clear OX
            have z0 := E2.out.cell (j := 0) rfl
            have z1 := E2.out.cell (j := 1) rfl
            have e0 := E2.out.free 0
            have e1 := E2.out.free 1
            have AF : Hid (AB u5 ((v8.setCell ⟨gb, 0, none⟩ (.slice a9 n9 c9)).setCell ⟨gb, 1, none⟩ (.slice b9 m9 d9)) gb (.slice a9 n9 c9) (.slice b9 m9 d9) tl tw) := AB.mk' (kl8_bel (by assumption)) O9.out (Nat.le_refl _) E2.out Z6.out F9.out
            have s10 := kl8o (u := u5) (v := v8) (R := fun y => y = gb) (v' := ((v8.setCell ⟨gb, 0, none⟩ (.slice a9 n9 c9)).setCell ⟨gb, 1, none⟩ (.slice b9 m9 d9))) ((only_set (R := fun y => y = gb) (p := ⟨gb, 0, none⟩) rfl _).trans (only_set (R := fun y => y = gb) (p := ⟨gb, 1, none⟩) rfl _)) (fun y hy => by have := Z6.out; omega) (by assumption)
            refine wpAnyH_ready (rs := [8]) (by kernel_rfl) (by simp) ?_
            refine AllReadyH.cons rfl (fun K1 hK => ?_) AllReadyH.nil
            go_simp
            try go_wp2_with fail
            refine hK.out _ _ ?_ (fun hHeld => ?_)
            · exact s10
            clear hK K1
            try simp only [List.getElem_toArray]
            try simp only [List.getElem_cons_succ]
            try simp only [List.getElem_cons_zero]
            try simp only [Act.put]
            try simp only [List.setIfInBounds_toArray]
            try simp only [List.set_cons_succ]
            try simp only [List.set_cons_zero]
            clear s10 z0 z1 e0 e1
            refine wpAnyH_take (i := 9) (v := (.int .i64 cd)) rfl (by kernel_rfl) (by kernel_rfl) (by kernel_rfl) (fun _ _ _ h => h) (Or.inl ⟨by rfl, ?_⟩) (by assumption) ?_
            · intro w hSw
              (try dsimp only at hSw)
              go_simp
            try simp only [List.getElem_toArray]
            try simp only [List.getElem_cons_succ]
            try simp only [List.getElem_cons_zero]
            try simp only [Act.put]
            try simp only [List.setIfInBounds_toArray]
            try simp only [List.set_cons_succ]
            try simp only [List.set_cons_zero]
            refine wpAnyH_done (by kernel_rfl) ?_ _
            refine NoPanic.normal ?_
            go_wp2_with fail
            go_meet
            exact ⟨_, gb, a9, n9, c9, b9, m9, d9, rfl, by simp, by simp, AF.out⟩
          · go_simp
            try go_wp2_with fail
            have hbC := below_new (o := .cells #[.slice none 0 0, .slice none 0 0] 25) (w := q1) (Below.refl _ _)
            have E1 := hid (Bk.new q1 25 [.slice none 0 0, .slice none 0 0])
            have Z6 : Hid (u5.heap.size ≤ q1.heap.size) := (kl8_bel (by assumption)).size
            have OX := hid (O1.out.below hbC)
            clear O1
            refine hK.out _ _ ?_ (fun hHeld => ?_)
            · exact kl8c hbC (by assumption)
            clear hK K1
            try simp only [List.getElem_toArray]
            try simp only [List.getElem_cons_succ]
            try simp only [List.getElem_cons_zero]
            try simp only [Act.put]
            try simp only [List.setIfInBounds_toArray]
            try simp only [List.set_cons_succ]
            try simp only [List.set_cons_zero]
            clear hbC
            generalize q1.alloc (.cells #[.slice none 0 0, .slice none 0 0] 25) = v8 at *
            generalize q1.heap.size = gb at *
            have O1 := OX
            clear OX
            refine wpAnyH_ready (rs := [3]) (by kernel_rfl) (by simp) ?_
            refine AllReadyH.cons rfl (fun K1 hK => ?_) AllReadyH.nil
            go_simp
            refine (CI.out _ _ _ _ O1.out).mono ?_
            rintro r q2 ⟨a9, n9, c9, b9, m9, d9, rfl, hO, hbC⟩
            have O9 := hid (hO.base (kl8_bel (by assumption)).size)
            have E2 := hid (E1.out.below hbC)
            have F9 : Hid (∀ y, lbl (.slice a9 n9 c9) (.slice b9 m9 d9) y → y ≠ gb) := fun y hy => by have h1 := (hO.lt hy).1; have h2 := E1.out.lt; omega
            clear E1
            clear hO O1
            go_wp2_with fail
            refine hK.out _ _ ?_ (fun hHeld => ?_)
            · exact kl8c hbC (by assumption)
            clear hK K1
            try simp only [List.getElem_toArray]
            try simp only [List.getElem_cons_succ]
            try simp only [List.getElem_cons_zero]
            try simp only [Act.put]
            try simp only [List.setIfInBounds_toArray]
            try simp only [List.set_cons_succ]
            try simp only [List.set_cons_zero]
            clear hbC
            refine wpAnyH_take (i := 4) (v := (.tuple #[.agg #[.slice a9 n9 c9, .slice b9 m9 d9], .int .i64 cd])) rfl (by kernel_rfl) (by kernel_rfl) (by kernel_rfl) (fun _ _ _ h => h) (Or.inl ⟨by rfl, ?_⟩) (by assumption) ?_
            · intro w hSw
              (try dsimp only at hSw)
              go_simp
            try simp only [List.getElem_toArray]
            try simp only [List.getElem_cons_succ]
            try simp only [List.getElem_cons_zero]
            try simp only [Act.put]
            try simp only [List.setIfInBounds_toArray]
            try simp only [List.set_cons_succ]
            try simp only [List.set_cons_zero]
            refine wpAnyH_take (i := 5) (v := (.agg #[.slice a9 n9 c9, .slice b9 m9 d9])) rfl (by kernel_rfl) (by kernel_rfl) (by kernel_rfl) (fun _ _ _ h => h) (Or.inl ⟨by rfl, ?_⟩) (by assumption) ?_
            · intro w hSw
              (try dsimp only at hSw)
              go_simp
            try simp only [List.getElem_toArray]
            try simp only [List.getElem_cons_succ]
            try simp only [List.getElem_cons_zero]
            try simp only [Act.put]
            try simp only [List.setIfInBounds_toArray]
            try simp only [List.set_cons_succ]
            try simp only [List.set_cons_zero]
            refine wpAnyH_take (i := 6) (v := (.int .i64 cd)) rfl (by kernel_rfl) (by kernel_rfl) (by kernel_rfl) (fun _ _ _ h => h) (Or.inl ⟨by rfl, ?_⟩) (by assumption) ?_
            · intro w hSw
              (try dsimp only at hSw)
              go_simp
            try simp only [List.getElem_toArray]
            try simp only [List.getElem_cons_succ]
            try simp only [List.getElem_cons_zero]
            try simp only [Act.put]
            try simp only [List.setIfInBounds_toArray]
            try simp only [List.set_cons_succ]
            try simp only [List.set_cons_zero]
            have z0 := E2.out.cell (j := 0) rfl
            have z1 := E2.out.cell (j := 1) rfl
            have e0 := E2.out.free 0
            have e1 := E2.out.free 1
            have AF : Hid (AB u5 ((q2.setCell ⟨gb, 0, none⟩ (.slice a9 n9 c9)).setCell ⟨gb, 1, none⟩ (.slice b9 m9 d9)) gb (.slice a9 n9 c9) (.slice b9 m9 d9) tl tw) := AB.mk' (kl8_bel (by assumption)) O9.out (Nat.le_refl _) E2.out Z6.out F9.out
            have s10 := kl8o (u := u5) (v := q2) (R := fun y => y = gb) (v' := ((q2.setCell ⟨gb, 0, none⟩ (.slice a9 n9 c9)).setCell ⟨gb, 1, none⟩ (.slice b9 m9 d9))) ((only_set (R := fun y => y = gb) (p := ⟨gb, 0, none⟩) rfl _).trans (only_set (R := fun y => y = gb) (p := ⟨gb, 1, none⟩) rfl _)) (fun y hy => by have := Z6.out; omega) (by assumption)
            refine wpAnyH_ready (rs := [8]) (by kernel_rfl) (by simp) ?_
            refine AllReadyH.cons rfl (fun K1 hK => ?_) AllReadyH.nil
            go_simp
            try go_wp2_with fail
            refine hK.out _ _ ?_ (fun hHeld => ?_)
            · exact s10
            clear hK K1
            try simp only [List.getElem_toArray]
            try simp only [List.getElem_cons_succ]
            try simp only [List.getElem_cons_zero]
            try simp only [Act.put]
            try simp only [List.setIfInBounds_toArray]
            try simp only [List.set_cons_succ]
            try simp only [List.set_cons_zero]
            clear s10 z0 z1 e0 e1
            refine wpAnyH_take (i := 9) (v := (.int .i64 cd)) rfl (by kernel_rfl) (by kernel_rfl) (by kernel_rfl) (fun _ _ _ h => h) (Or.inl ⟨by rfl, ?_⟩) (by assumption) ?_
            · intro w hSw
              (try dsimp only at hSw)
              go_simp
            try simp only [List.getElem_toArray]
            try simp only [List.getElem_cons_succ]
            try simp only [List.getElem_cons_zero]
            try simp only [Act.put]
            try simp only [List.setIfInBounds_toArray]
            try simp only [List.set_cons_succ]
            try simp only [List.set_cons_zero]
            refine wpAnyH_done (by kernel_rfl) ?_ _
            refine NoPanic.normal ?_
            go_wp2_with fail
            go_meet
            exact ⟨_, gb, a9, n9, c9, b9, m9, d9, rfl, by simp, by simp, AF.out⟩
        · go_simp
          try go_wp2_with fail
          have h0 := below_new (o := .cells #[.slice none 0 0, .slice none 0 0] 25) (w := u5) (below_drew _)
          have hbC : Below u5.drew.heap.size u5.drew (u5.alloc (.cells #[.slice none 0 0, .slice none 0 0] 25)).drew := ⟨h0.os, h0.tape, h0.output, h0.size, h0.block⟩
          have E0 : Hid (Bk (u5.alloc (.cells #[.slice none 0 0, .slice none 0 0] 25)).drew u5.heap.size 25 [.slice none 0 0, .slice none 0 0]) := (Bk.new u5 25 [.slice none 0 0, .slice none 0 0]).below (below_drew _)
          have Z6 : Hid (u5.heap.size ≤ u5.heap.size) := Nat.le_refl _
          have OX := hid (D5.out.own.below h0)
          clear O0
          refine hK.out _ _ ?_ (fun hHeld => ?_)
          · exact kl8c hbC (by assumption)
          clear hK K1
          try simp only [List.getElem_toArray]
          try simp only [List.getElem_cons_succ]
          try simp only [List.getElem_cons_zero]
          try simp only [Act.put]
          try simp only [List.setIfInBounds_toArray]
          try simp only [List.set_cons_succ]
          try simp only [List.set_cons_zero]
          clear hbC h0
          generalize (u5.alloc (.cells #[.slice none 0 0, .slice none 0 0] 25)).drew = v6 at *
          have O0 := OX
          clear OX
          refine wpAnyH_ready (rs := [2]) (by kernel_rfl) (by simp) ?_
          refine AllReadyH.cons rfl (fun K1 hK => ?_) AllReadyH.nil
          go_simp
          refine (CL.out _).mono ?_
          rintro r q1 ⟨rfl, hbC⟩
          have O1 := hid (O0.out.below hbC)
          clear O0
          have E1 := hid (E0.out.below hbC)
          clear E0
          go_wp2_with fail
          refine hK.out _ _ ?_ (fun hHeld => ?_)
          · exact kl8c hbC (by assumption)
          clear hK K1
          try simp only [List.getElem_toArray]
          try simp only [List.getElem_cons_succ]
          try simp only [List.getElem_cons_zero]
          try simp only [Act.put]
          try simp only [List.setIfInBounds_toArray]
          try simp only [List.set_cons_succ]
          try simp only [List.set_cons_zero]
          clear hbC
          refine wpAnyH_ready (rs := [3]) (by kernel_rfl) (by simp) ?_
          refine AllReadyH.cons rfl (fun K1 hK => ?_) AllReadyH.nil
          go_simp
          refine (CI.out _ _ _ _ O1.out).mono ?_
          rintro r q2 ⟨a9, n9, c9, b9, m9, d9, rfl, hO, hbC⟩
          have O9 := hid (hO.base (kl8_bel (by assumption)).size)
          have E2 := hid (E1.out.below hbC)
          have F9 : Hid (∀ y, lbl (.slice a9 n9 c9) (.slice b9 m9 d9) y → y ≠ u5.heap.size) := fun y hy => by have h1 := (hO.lt hy).1; have h2 := E1.out.lt; omega
          clear E1
          clear hO O1
          go_wp2_with fail
          refine hK.out _ _ ?_ (fun hHeld => ?_)
          · exact kl8c hbC (by assumption)
          clear hK K1
          try simp only [List.getElem_toArray]
          try simp only [List.getElem_cons_succ]
          try simp only [List.getElem_cons_zero]
          try simp only [Act.put]
          try simp only [List.setIfInBounds_toArray]
          try simp only [List.set_cons_succ]
          try simp only [List.set_cons_zero]
          clear hbC
          refine wpAnyH_take (i := 4) (v := (.tuple #[.agg #[.slice a9 n9 c9, .slice b9 m9 d9], .int .i64 cd])) rfl (by kernel_rfl) (by kernel_rfl) (by kernel_rfl) (fun _ _ _ h => h) (Or.inl ⟨by rfl, ?_⟩) (by assumption) ?_
          · intro w hSw
            (try dsimp only at hSw)
            go_simp
          try simp only [List.getElem_toArray]
          try simp only [List.getElem_cons_succ]
          try simp only [List.getElem_cons_zero]
          try simp only [Act.put]
          try simp only [List.setIfInBounds_toArray]
          try simp only [List.set_cons_succ]
          try simp only [List.set_cons_zero]
          refine wpAnyH_take (i := 5) (v := (.agg #[.slice a9 n9 c9, .slice b9 m9 d9])) rfl (by kernel_rfl) (by kernel_rfl) (by kernel_rfl) (fun _ _ _ h => h) (Or.inl ⟨by rfl, ?_⟩) (by assumption) ?_
          · intro w hSw
            (try dsimp only at hSw)
            go_simp
          try simp only [List.getElem_toArray]
          try simp only [List.getElem_cons_succ]
          try simp only [List.getElem_cons_zero]
          try simp only [Act.put]
          try simp only [List.setIfInBounds_toArray]
          try simp only [List.set_cons_succ]
          try simp only [List.set_cons_zero]
          refine wpAnyH_take (i := 6) (v := (.int .i64 cd)) rfl (by kernel_rfl) (by kernel_rfl) (by kernel_rfl) (fun _ _ _ h => h) (Or.inl ⟨by rfl, ?_⟩) (by assumption) ?_
          · intro w hSw
            (try dsimp only at hSw)
            go_simp
          try simp only [List.getElem_toArray]
          try simp only [List.getElem_cons_succ]
          try simp only [List.getElem_cons_zero]
          try simp only [Act.put]
          try simp only [List.setIfInBounds_toArray]
          try simp only [List.set_cons_succ]
          try simp only [List.set_cons_zero]
          have z0 := E2.out.cell (j := 0) rfl
          have z1 := E2.out.cell (j := 1) rfl
          have e0 := E2.out.free 0
          have e1 := E2.out.free 1
          have AF : Hid (AB u5 ((q2.setCell ⟨u5.heap.size, 0, none⟩ (.slice a9 n9 c9)).setCell ⟨u5.heap.size, 1, none⟩ (.slice b9 m9 d9)) u5.heap.size (.slice a9 n9 c9) (.slice b9 m9 d9) tl tw) := AB.mk' (kl8_bel (by assumption)) O9.out (Nat.le_refl _) E2.out Z6.out F9.out
          have s10 := kl8o (u := u5) (v := q2) (R := fun y => y = u5.heap.size) (v' := ((q2.setCell ⟨u5.heap.size, 0, none⟩ (.slice a9 n9 c9)).setCell ⟨u5.heap.size, 1, none⟩ (.slice b9 m9 d9))) ((only_set (R := fun y => y = u5.heap.size) (p := ⟨u5.heap.size, 0, none⟩) rfl _).trans (only_set (R := fun y => y = u5.heap.size) (p := ⟨u5.heap.size, 1, none⟩) rfl _)) (fun y hy => by have := Z6.out; omega) (by assumption)
          refine wpAnyH_ready (rs := [8]) (by kernel_rfl) (by simp) ?_
          refine AllReadyH.cons rfl (fun K1 hK => ?_) AllReadyH.nil
          go_simp
          try go_wp2_with fail
          refine hK.out _ _ ?_ (fun hHeld => ?_)
          · exact s10
          clear hK K1
          try simp only [List.getElem_toArray]
          try simp only [List.getElem_cons_succ]
          try simp only [List.getElem_cons_zero]
          try simp only [Act.put]
          try simp only [List.setIfInBounds_toArray]
          try simp only [List.set_cons_succ]
          try simp only [List.set_cons_zero]
          clear s10 z0 z1 e0 e1
          refine wpAnyH_take (i := 9) (v := (.int .i64 cd)) rfl (by kernel_rfl) (by kernel_rfl) (by kernel_rfl) (fun _ _ _ h => h) (Or.inl ⟨by rfl, ?_⟩) (by assumption) ?_
          · intro w hSw
            (try dsimp only at hSw)
            go_simp
          try simp only [List.getElem_toArray]
          try simp only [List.getElem_cons_succ]
          try simp only [List.getElem_cons_zero]
          try simp only [Act.put]
          try simp only [List.setIfInBounds_toArray]
          try simp only [List.set_cons_succ]
          try simp only [List.set_cons_zero]
          refine wpAnyH_done (by kernel_rfl) ?_ _
          refine NoPanic.normal ?_
          go_wp2_with fail
          go_meet
          exact ⟨_, u5.heap.size, a9, n9, c9, b9, m9, d9, rfl, by simp, by simp, AF.out⟩
      case rest =>
        obtain ⟨V6, gG, ga, gn, gc, ja, jn, jc, rfl, rfl, rfl, hAB⟩ := hcut
        have G6 := hid hAB.ac
        have X6 := hid (X5.out.below hAB.bel)
        have J6 := hid (J5.out.below hAB.bel)
        have A6 := hid (A5.out.below hAB.bel)
        have D6 := hid (D5.out.below hAB.bel)
        have UD : Hid (∀ y, y = gD ∨ lbl (.slice (some ⟨h0, 0, none⟩) hn hn) (.slice (some ⟨h1, 0, none⟩) wn wn) y → V3.heap.size ≤ y ∧ y < u5.heap.size) := fun y hy => D5.out.all hy
        have SU := SU0
        have gl : gn ≤ 1048577 ∧ jn ≤ 1048577 := by rw [hAB.ac.lens.1, hAB.ac.lens.2]; have := HLN.out; omega
        obtain ⟨gl1, gl2⟩ := gl
        clear hAB T5 X5 J5 A5 D5
        obtain ⟨x0, x1⟩ := A6.out.cells
        obtain ⟨y0, y1⟩ := G6.out.cells
        go_wp2_with fail
        refine (eqLocks_same (fun _ => True) (fun _ => True) (fun _ => True) (fun _ => True) _ _ _ _ _ _ _ _ _ _ _ _ tl tw _ G6.out.own.hh.lr G6.out.own.hw.lr A6.out.own.hh.lr A6.out.own.hw.lr).mono ?_
        rintro r w7 ⟨rfl, hb⟩
        have X7 := hid (X6.out.below hb)
        have J7 := hid (J6.out.below hb)
        have A7 := hid (A6.out.below hb)
        have D7 := hid (D6.out.below hb)
        have G7 := hid (G6.out.below hb)
        clear hb X6 J6 A6 D6 G6 x0 x1 y0 y1
        obtain ⟨x0, x1⟩ := X7.out.cells
        obtain ⟨y0, y1⟩ := D7.out.cells
        have X8 := hid (X7.out.below (below_drew _))
        have J8 := hid (J7.out.below (below_drew _))
        have A8 := hid (A7.out.below (below_drew _))
        have D8 := hid (D7.out.below (below_drew _))
        have G8 := hid (G7.out.below (below_drew _))
        clear X7 J7 A7 G7 D7
        go_wp2_with fail
        go_cut [56] (fun x v => ∃ V, V = v ∧ x = .bool false ∧ Below w7.drew.heap.size w7.drew V)
        case first =>
          go_region_with (first
            | (go_at_call 20; refine (toLocks_any _ _ ha hn hc wa wn wc hl wl _ X8.out.hA X8.out.hB m0 m1).mono ?_; rintro e w8 ⟨f0, f1, rfl, hO8, hb8⟩; have z0 := (D8.out.below hb8).cells.1; have z1 := (D8.out.below hb8).cells.2)
            | (go_at_call 22; refine (eqLocks_same (fun _ => True) (fun _ => True) (fun _ => True) (fun _ => True) _ _ _ _ _ _ _ _ _ _ _ _ hl wl _ (D8.out.below hb8).own.hh.lr (D8.out.below hb8).own.hw.lr hO8.hh.lr hO8.hw.lr).mono ?_; rintro e w9 ⟨rfl, hb9⟩))
          all_goals (go_wp2_with fail; go_meet)
          all_goals exact ⟨_, rfl, by simp, btL hb8 hb9⟩
        case rest =>
          obtain ⟨V9, rfl, rfl, hb⟩ := hcut
          have X9 := hid (X8.out.below hb)
          have J9 := hid (J8.out.below hb)
          have A9 := hid (A8.out.below hb)
          have D9 := hid (D8.out.below hb)
          have G9 := hid (G8.out.below hb)
          clear hb X8 J8 A8 D8 G8 x0 x1 y0 y1
          obtain ⟨y0, y1⟩ := D9.out.cells
          go_wp2_with fail
          refine (markLocks_ex _ _ _ _ _ _ _ 1 hl wl _ D9.out.own (by omega) (by omega) (by omega) (by omega)).mono ?_
          rintro r w10 ⟨rfl, -, ho⟩
          have hd : ∀ y, lbl (.slice (some ⟨h0, 0, none⟩) hn hn) (.slice (some ⟨h1, 0, none⟩) wn wn) y → V3.heap.size ≤ y ∧ y < u5.heap.size := fun y hy => UD.out y (.inr hy)
          have s1 := SA.out
          have s2 := SV.out
          have s3 := SU.out
          have X10 := hid (X9.out.only ho (fun b hb => by have := hd b hb; omega))
          have J10 := hid (J9.out.to ho (fun q => by have := hd _ q; omega))
          have A10 := hid (A9.out.to ho (fun q => by have h1 := hd _ q; have h2 := UA.out gA (.inl rfl); omega) (fun y hy q => by have h1 := hd y q; have h2 := UA.out y (.inr hy); omega))
          have G10 := hid (G9.out.to ho (fun q => by have h1 := hd _ q; have h2 := G9.out.lo; omega) (fun y hy q => by have h1 := hd y q; have h2 := (G9.out.own.lt hy).1; omega))
          clear ho hd X9 J9 A9 D9 G9 y0 y1
          have hkn : ¬ ((1 + hn * 6 + wn * 6 : Nat) : Int) < 0 := by omega
          generalize 1 + hn * 6 + wn * 6 = kk at *
          obtain ⟨x0, x1⟩ := A10.out.cells
          obtain ⟨y0, y1⟩ := G10.out.cells
          go_wp2_with fail
          refine (eqLocks_same (fun _ => True) (fun _ => True) (fun _ => True) (fun _ => True) _ _ _ _ _ _ _ _ _ _ _ _ tl tw _ G10.out.own.hh.lr G10.out.own.hw.lr A10.out.own.hh.lr A10.out.own.hw.lr).mono ?_
          rintro r w11 ⟨rfl, hb⟩
          have X11 := hid (X10.out.below hb)
          have J11 := hid (J10.out.below hb)
          have A11 := hid (A10.out.below hb)
          have G11 := hid (G10.out.below hb)
          clear hb X10 J10 A10 G10 x0 x1 y0 y1
          obtain ⟨y0, y1⟩ := G11.out.cells
          go_wp2_with fail
          refine (markLocks_ex _ _ _ _ _ _ _ 1 tl tw _ G11.out.own gl1 gl2 (by omega) (by omega)).mono ?_
          rintro r w12 ⟨rfl, hm, ho⟩
          have hg : ∀ y, lbl (.slice ga gn gc) (.slice ja jn jc) y → u5.heap.size ≤ y := fun y hy => (G11.out.own.lt hy).1
          have Q12 : Hid (AQ w12 gG ga gn gc ja jn jc) := ⟨G11.out.box.to ho (fun q => G11.out.sep _ q rfl), hm⟩
          have X12 := hid (X11.out.only ho (fun b hb => by have := hg b hb; omega))
          have J12 := hid (J11.out.to ho (fun q => by have := hg _ q; omega))
          have A12 := hid (A11.out.to ho (fun q => by have h1 := hg _ q; have h2 := UA.out gA (.inl rfl); omega) (fun y hy q => by have h1 := hg y q; have h2 := UA.out y (.inr hy); omega))
          clear hm ho hg X11 J11 A11 G11 y0 y1
          obtain ⟨y0, y1⟩ := Q12.out.cells
          generalize hq : 1 + gn * 6 + jn * 6 = q at *
          have HQ := hid hq
          have hq0 : ¬ (q : Int) < 0 := by omega
          have hqq : ((q : Int) != (q : Int)) = false := by simp
          clear hq
          go_wp2_with fail
          refine (heldLocks_any _ _ _ _ _ _ 1 _ Q12.out.own gl1 gl2 (by omega) (by omega)).mono ?_
          rw [HQ.out]
          rintro r w13 ⟨rfl, hb⟩
          have X13 := hid (X12.out.below hb)
          have J13 := hid (J12.out.below hb)
          have A13 := hid (A12.out.below hb)
          have Q13 := hid (Q12.out.below hb)
          clear hb X12 J12 A12 Q12 y0 y1
          have T13 := hid (kl8_0 (X13.out.kA.cell (j := 0) rfl) (X13.out.kA.cell (j := 1) rfl) (J13.out.cell (j := 0) rfl) (J13.out.cell (j := 1) rfl) (J13.out.cell (j := 2) rfl) (J13.out.cell (j := 3) rfl) (J13.out.cell (j := 4) rfl) (J13.out.cell (j := 5) rfl))
          go_wp2_with fail
          go_cut [14, 15] (fun x y v => ∃ V gb ya yn yc za zn zc, V = v ∧ x = .pointer (some ⟨gb, 0, none⟩) ∧ y = .int .i64 cd ∧ AB w13 V gb (.slice ya yn yc) (.slice za zn zc) tl tw)
          case first =>
            refine wp_region_noPanic ?_
            refine wp_region_held_drew (S := fun v => v.cell? ⟨w.heap.size, 0, none⟩ = some (.slice ha hn hc) ∧ v.cell? ⟨w.heap.size, 1, none⟩ = some (.slice wa wn wc) ∧ v.cell? ⟨w.heap.size + 1, 0, none⟩ = some (.int .i64 c) ∧ v.cell? ⟨w.heap.size + 1, 1, none⟩ = some (.int .i64 e) ∧ v.cell? ⟨w.heap.size + 1, 2, none⟩ = some (.int .i64 n) ∧ v.cell? ⟨w.heap.size + 1, 3, none⟩ = some (.string lo) ∧ v.cell? ⟨w.heap.size + 1, 4, none⟩ = some (.string hi) ∧ v.cell? ⟨w.heap.size + 1, 5, none⟩ = some (.bool ex) ∧ KL w13 v [(⟨w.heap.size, 0, none⟩, .slice ha hn hc), (⟨w.heap.size, 1, none⟩, .slice wa wn wc), (⟨w.heap.size + 1, 0, none⟩, .int .i64 c), (⟨w.heap.size + 1, 1, none⟩, .int .i64 e), (⟨w.heap.size + 1, 2, none⟩, .int .i64 n), (⟨w.heap.size + 1, 3, none⟩, .string lo), (⟨w.heap.size + 1, 4, none⟩, .string hi), (⟨w.heap.size + 1, 5, none⟩, .bool ex)]) (by kernel_rfl) (kl8 (T13.out.call (below_drew _))) (fun hHeld => ?_)
            simp only [List.size_toArray, List.length_cons, List.length_nil, Array.replicate_succ, Array.replicate_zero, Nat.reduceAdd, List.push_toArray, List.nil_append, List.cons_append]
            refine wpAnyH_take (i := 0) (v := (.agg #[.slice ha hn hc, .slice wa wn wc])) rfl (by kernel_rfl) (by kernel_rfl) (by kernel_rfl) (fun _ _ _ h => h) (Or.inl ⟨by rfl, ?_⟩) (by assumption) ?_
            · intro w hSw
              (try dsimp only at hSw)
              go_simp
            try simp only [List.getElem_toArray]
            try simp only [List.getElem_cons_succ]
            try simp only [List.getElem_cons_zero]
            try simp only [Act.put]
            try simp only [List.setIfInBounds_toArray]
            try simp only [List.set_cons_succ]
            try simp only [List.set_cons_zero]
            refine wpAnyH_take (i := 2) (v := (.agg #[.int .i64 c, .int .i64 e, .int .i64 n, .string lo, .string hi, .bool ex])) rfl (by kernel_rfl) (by kernel_rfl) (by kernel_rfl) (fun _ _ _ h => h) (Or.inl ⟨by rfl, ?_⟩) (by assumption) ?_
            · intro w hSw
              (try dsimp only at hSw)
              go_simp
            try simp only [List.getElem_toArray]
            try simp only [List.getElem_cons_succ]
            try simp only [List.getElem_cons_zero]
            try simp only [Act.put]
            try simp only [List.setIfInBounds_toArray]
            try simp only [List.set_cons_succ]
            try simp only [List.set_cons_zero]
            refine wpAnyH_ready (rs := [1, 8]) (by kernel_rfl) (by simp) ?_
            refine AllReadyH.cons rfl (fun K1 hK => ?_) (AllReadyH.cons rfl (fun K1 hK => ?_) AllReadyH.nil)
            · go_simp
              refine (toLocks_any _ _ ha hn hc wa wn wc hl wl _ (X13.out.hA.below (kl8_bel (by assumption))) (X13.out.hB.below (kl8_bel (by assumption))) m0 m1).mono ?_
              rintro r q1 ⟨p0, p1, rfl, hO, hbC⟩
              have O1 := hid (hO.base (Nat.zero_le _))
              clear hO
              go_wp2_with fail
              refine hK.out _ _ ?_ (fun hHeld => ?_)
              · exact kl8c hbC (by assumption)
              clear hK K1
              try simp only [List.getElem_toArray]
              try simp only [List.getElem_cons_succ]
              try simp only [List.getElem_cons_zero]
              try simp only [Act.put]
              try simp only [List.setIfInBounds_toArray]
              try simp only [List.set_cons_succ]
              try simp only [List.set_cons_zero]
              clear hbC
              refine wpAnyH_ready (rs := [3, 8]) (by kernel_rfl) (by simp) ?_
              refine AllReadyH.cons rfl (fun K1 hK => ?_) (AllReadyH.cons rfl (fun K1 hK => ?_) AllReadyH.nil)
              · go_simp
                refine (CL.out _).mono ?_
                rintro r q2 ⟨rfl, hbC⟩
                have O2 := hid (O1.out.below hbC)
                clear O1
                go_wp2_with fail
                refine hK.out _ _ ?_ (fun hHeld => ?_)
                · exact kl8c hbC (by assumption)
                clear hK K1
                try simp only [List.getElem_toArray]
                try simp only [List.getElem_cons_succ]
                try simp only [List.getElem_cons_zero]
                try simp only [Act.put]
                try simp only [List.setIfInBounds_toArray]
                try simp only [List.set_cons_succ]
                try simp only [List.set_cons_zero]
                clear hbC
                refine wpAnyH_ready (rs := [4, 8]) (by kernel_rfl) (by simp) ?_
                refine AllReadyH.cons rfl (fun K1 hK => ?_) (AllReadyH.cons rfl (fun K1 hK => ?_) AllReadyH.nil)
                · go_simp
                  refine (CI.out _ _ _ _ O2.out).mono ?_
                  rintro r q3 ⟨a9, n9, c9, b9, m9, d9, rfl, hO, hbC⟩
                  have O9 := hid (hO.base (kl8_bel (by assumption)).size)
                  clear hO O2
                  go_wp2_with fail
                  refine hK.out _ _ ?_ (fun hHeld => ?_)
                  · exact kl8c hbC (by assumption)
                  clear hK K1
                  try simp only [List.getElem_toArray]
                  try simp only [List.getElem_cons_succ]
                  try simp only [List.getElem_cons_zero]
                  try simp only [Act.put]
                  try simp only [List.setIfInBounds_toArray]
                  try simp only [List.set_cons_succ]
                  try simp only [List.set_cons_zero]
                  clear hbC
                  refine wpAnyH_take (i := 5) (v := (.tuple #[.agg #[.slice a9 n9 c9, .slice b9 m9 d9], .int .i64 cd])) rfl (by kernel_rfl) (by kernel_rfl) (by kernel_rfl) (fun _ _ _ h => h) (Or.inl ⟨by rfl, ?_⟩) (by assumption) ?_
                  · intro w hSw
                    (try dsimp only at hSw)
                    go_simp
                  try simp only [List.getElem_toArray]
                  try simp only [List.getElem_cons_succ]
                  try simp only [List.getElem_cons_zero]
                  try simp only [Act.put]
                  try simp only [List.setIfInBounds_toArray]
                  try simp only [List.set_cons_succ]
                  try simp only [List.set_cons_zero]
                  refine wpAnyH_take (i := 6) (v := (.agg #[.slice a9 n9 c9, .slice b9 m9 d9])) rfl (by kernel_rfl) (by kernel_rfl) (by kernel_rfl) (fun _ _ _ h => h) (Or.inl ⟨by rfl, ?_⟩) (by assumption) ?_
                  · intro w hSw
                    (try dsimp only at hSw)
                    go_simp
                  try simp only [List.getElem_toArray]
                  try simp only [List.getElem_cons_succ]
                  try simp only [List.getElem_cons_zero]
                  try simp only [Act.put]
                  try simp only [List.setIfInBounds_toArray]
                  try simp only [List.set_cons_succ]
                  try simp only [List.set_cons_zero]
                  refine wpAnyH_take (i := 7) (v := (.int .i64 cd)) rfl (by kernel_rfl) (by kernel_rfl) (by kernel_rfl) (fun _ _ _ h => h) (Or.inl ⟨by rfl, ?_⟩) (by assumption) ?_
                  · intro w hSw
                    (try dsimp only at hSw)
                    go_simp
                  try simp only [List.getElem_toArray]
                  try simp only [List.getElem_cons_succ]
                  try simp only [List.getElem_cons_zero]
                  try simp only [Act.put]
                  try simp only [List.setIfInBounds_toArray]
                  try simp only [List.set_cons_succ]
                  try simp only [List.set_cons_zero]
                  refine wpAnyH_ready (rs := [8]) (by kernel_rfl) (by simp) ?_
                  refine AllReadyH.cons rfl (fun K1 hK => ?_) AllReadyH.nil
                  go_simp
                  try go_wp2_with fail
                  have hbC := below_new (o := .cells #[.slice none 0 0, .slice none 0 0] 25) (w := q3) (Below.refl _ _)
                  have E3 := hid (Bk.new q3 25 [.slice none 0 0, .slice none 0 0])
                  have Z6 : Hid (w13.heap.size ≤ q3.heap.size) := (kl8_bel (by assumption)).size
                  have F9 : Hid (∀ y, lbl (.slice a9 n9 c9) (.slice b9 m9 d9) y → y ≠ q3.heap.size) := fun y hy => by have h1 := (O9.out.lt hy).2; omega
                  have OX := hid (O9.out.below hbC)
                  clear O9
                  refine hK.out _ _ ?_ (fun hHeld => ?_)
                  · exact kl8c hbC (by assumption)
                  clear hK K1
                  try simp only [List.getElem_toArray]
                  try simp only [List.getElem_cons_succ]
                  try simp only [List.getElem_cons_zero]
                  try simp only [Act.put]
                  try simp only [List.setIfInBounds_toArray]
                  try simp only [List.set_cons_succ]
                  try simp only [List.set_cons_zero]
                  clear hbC
                  generalize q3.alloc (.cells #[.slice none 0 0, .slice none 0 0] 25) = v8 at *
                  generalize q3.heap.size = gb at *
                  have O9 := OX
                  clear OX
                  have z0 := E3.out.cell (j := 0) rfl
                  have z1 := E3.out.cell (j := 1) rfl
                  have e0 := E3.out.free 0
                  have e1 := E3.out.free 1
                  have AF : Hid (AB w13 ((v8.setCell ⟨gb, 0, none⟩ (.slice a9 n9 c9)).setCell ⟨gb, 1, none⟩ (.slice b9 m9 d9)) gb (.slice a9 n9 c9) (.slice b9 m9 d9) tl tw) := AB.mk' (kl8_bel (by assumption)) O9.out (Nat.le_refl _) E3.out Z6.out F9.out
                  have s10 := kl8o (u := w13) (v := v8) (R := fun y => y = gb) (v' := ((v8.setCell ⟨gb, 0, none⟩ (.slice a9 n9 c9)).setCell ⟨gb, 1, none⟩ (.slice b9 m9 d9))) ((only_set (R := fun y => y = gb) (p := ⟨gb, 0, none⟩) rfl _).trans (only_set (R := fun y => y = gb) (p := ⟨gb, 1, none⟩) rfl _)) (fun y hy => by have := Z6.out; omega) (by assumption)
                  refine wpAnyH_ready (rs := [9]) (by kernel_rfl) (by simp) ?_
                  refine AllReadyH.cons rfl (fun K1 hK => ?_) AllReadyH.nil
                  go_simp
                  try go_wp2_with fail
                  refine hK.out _ _ ?_ (fun hHeld => ?_)
                  · exact s10
                  clear hK K1
                  try simp only [List.getElem_toArray]
                  try simp only [List.getElem_cons_succ]
                  try simp only [List.getElem_cons_zero]
                  try simp only [Act.put]
                  try simp only [List.setIfInBounds_toArray]
                  try simp only [List.set_cons_succ]
                  try simp only [List.set_cons_zero]
                  clear s10 z0 z1 e0 e1
                  refine wpAnyH_take (i := 10) (v := (.int .i64 cd)) rfl (by kernel_rfl) (by kernel_rfl) (by kernel_rfl) (fun _ _ _ h => h) (Or.inl ⟨by rfl, ?_⟩) (by assumption) ?_
                  · intro w hSw
                    (try dsimp only at hSw)
                    go_simp
                  try simp only [List.getElem_toArray]
                  try simp only [List.getElem_cons_succ]
                  try simp only [List.getElem_cons_zero]
                  try simp only [Act.put]
                  try simp only [List.setIfInBounds_toArray]
                  try simp only [List.set_cons_succ]
                  try simp only [List.set_cons_zero]
                  refine wpAnyH_done (by kernel_rfl) ?_ _
                  refine NoPanic.normal ?_
                  go_wp2_with fail
                  go_meet
                  exact ⟨_, gb, a9, n9, c9, b9, m9, d9, rfl, by simp, by simp, AF.out⟩
                · go_simp
                  try go_wp2_with fail
                  have hbC := below_new (o := .cells #[.slice none 0 0, .slice none 0 0] 25) (w := q2) (Below.refl _ _)
                  have E2 := hid (Bk.new q2 25 [.slice none 0 0, .slice none 0 0])
                  have Z6 : Hid (w13.heap.size ≤ q2.heap.size) := (kl8_bel (by assumption)).size
                  have OX := hid (O2.out.below hbC)
                  clear O2
                  refine hK.out _ _ ?_ (fun hHeld => ?_)
                  · exact kl8c hbC (by assumption)
                  clear hK K1
                  try simp only [List.getElem_toArray]
                  try simp only [List.getElem_cons_succ]
                  try simp only [List.getElem_cons_zero]
                  try simp only [Act.put]
                  try simp only [List.setIfInBounds_toArray]
                  try simp only [List.set_cons_succ]
                  try simp only [List.set_cons_zero]
                  clear hbC
                  generalize q2.alloc (.cells #[.slice none 0 0, .slice none 0 0] 25) = v8 at *
                  generalize q2.heap.size = gb at *
                  have O2 := OX
                  clear OX
                  refine wpAnyH_ready (rs := [4]) (by kernel_rfl) (by simp) ?_
                  refine AllReadyH.cons rfl (fun K1 hK => ?_) AllReadyH.nil
                  go_simp
                  refine (CI.out _ _ _ _ O2.out).mono ?_
                  rintro r q3 ⟨a9, n9, c9, b9, m9, d9, rfl, hO, hbC⟩
                  have O9 := hid (hO.base (kl8_bel (by assumption)).size)
                  have E3 := hid (E2.out.below hbC)
                  have F9 : Hid (∀ y, lbl (.slice a9 n9 c9) (.slice b9 m9 d9) y → y ≠ gb) := fun y hy => by have h1 := (hO.lt hy).1; have h2 := E2.out.lt; omega
                  clear E2
                  clear hO O2
                  go_wp2_with fail
                  refine hK.out _ _ ?_ (fun hHeld => ?_)
                  · exact kl8c hbC (by assumption)
                  clear hK K1
                  try simp only [List.getElem_toArray]
                  try simp only [List.getElem_cons_succ]
                  try simp only [List.getElem_cons_zero]
                  try simp only [Act.put]
                  try simp only [List.setIfInBounds_toArray]
                  try simp only [List.set_cons_succ]
                  try simp only [List.set_cons_zero]
                  clear hbC
                  refine wpAnyH_take (i := 5) (v := (.tuple #[.agg #[.slice a9 n9 c9, .slice b9 m9 d9], .int .i64 cd])) rfl (by kernel_rfl) (by kernel_rfl) (by kernel_rfl) (fun _ _ _ h => h) (Or.inl ⟨by rfl, ?_⟩) (by assumption) ?_
                  · intro w hSw
                    (try dsimp only at hSw)
                    go_simp
                  try simp only [List.getElem_toArray]
                  try simp only [List.getElem_cons_succ]
                  try simp only [List.getElem_cons_zero]
                  try simp only [Act.put]
                  try simp only [List.setIfInBounds_toArray]
                  try simp only [List.set_cons_succ]
                  try simp only [List.set_cons_zero]
                  refine wpAnyH_take (i := 6) (v := (.agg #[.slice a9 n9 c9, .slice b9 m9 d9])) rfl (by kernel_rfl) (by kernel_rfl) (by kernel_rfl) (fun _ _ _ h => h) (Or.inl ⟨by rfl, ?_⟩) (by assumption) ?_
                  · intro w hSw
                    (try dsimp only at hSw)
                    go_simp
                  try simp only [List.getElem_toArray]
                  try simp only [List.getElem_cons_succ]
                  try simp only [List.getElem_cons_zero]
                  try simp only [Act.put]
                  try simp only [List.setIfInBounds_toArray]
                  try simp only [List.set_cons_succ]
                  try simp only [List.set_cons_zero]
                  refine wpAnyH_take (i := 7) (v := (.int .i64 cd)) rfl (by kernel_rfl) (by kernel_rfl) (by kernel_rfl) (fun _ _ _ h => h) (Or.inl ⟨by rfl, ?_⟩) (by assumption) ?_
                  · intro w hSw
                    (try dsimp only at hSw)
                    go_simp
                  try simp only [List.getElem_toArray]
                  try simp only [List.getElem_cons_succ]
                  try simp only [List.getElem_cons_zero]
                  try simp only [Act.put]
                  try simp only [List.setIfInBounds_toArray]
                  try simp only [List.set_cons_succ]
                  try simp only [List.set_cons_zero]
                  have z0 := E3.out.cell (j := 0) rfl
                  have z1 := E3.out.cell (j := 1) rfl
                  have e0 := E3.out.free 0
                  have e1 := E3.out.free 1
                  have AF : Hid (AB w13 ((q3.setCell ⟨gb, 0, none⟩ (.slice a9 n9 c9)).setCell ⟨gb, 1, none⟩ (.slice b9 m9 d9)) gb (.slice a9 n9 c9) (.slice b9 m9 d9) tl tw) := AB.mk' (kl8_bel (by assumption)) O9.out (Nat.le_refl _) E3.out Z6.out F9.out
                  have s10 := kl8o (u := w13) (v := q3) (R := fun y => y = gb) (v' := ((q3.setCell ⟨gb, 0, none⟩ (.slice a9 n9 c9)).setCell ⟨gb, 1, none⟩ (.slice b9 m9 d9))) ((only_set (R := fun y => y = gb) (p := ⟨gb, 0, none⟩) rfl _).trans (only_set (R := fun y => y = gb) (p := ⟨gb, 1, none⟩) rfl _)) (fun y hy => by have := Z6.out; omega) (by assumption)
                  refine wpAnyH_ready (rs := [9]) (by kernel_rfl) (by simp) ?_
                  refine AllReadyH.cons rfl (fun K1 hK => ?_) AllReadyH.nil
                  go_simp
                  try go_wp2_with fail
                  refine hK.out _ _ ?_ (fun hHeld => ?_)
                  · exact s10
                  clear hK K1
                  try simp only [List.getElem_toArray]
                  try simp only [List.getElem_cons_succ]
                  try simp only [List.getElem_cons_zero]
                  try simp only [Act.put]
                  try simp only [List.setIfInBounds_toArray]
                  try simp only [List.set_cons_succ]
                  try simp only [List.set_cons_zero]
                  clear s10 z0 z1 e0 e1
                  refine wpAnyH_take (i := 10) (v := (.int .i64 cd)) rfl (by kernel_rfl) (by kernel_rfl) (by kernel_rfl) (fun _ _ _ h => h) (Or.inl ⟨by rfl, ?_⟩) (by assumption) ?_
                  · intro w hSw
                    (try dsimp only at hSw)
                    go_simp
                  try simp only [List.getElem_toArray]
                  try simp only [List.getElem_cons_succ]
                  try simp only [List.getElem_cons_zero]
                  try simp only [Act.put]
                  try simp only [List.setIfInBounds_toArray]
                  try simp only [List.set_cons_succ]
                  try simp only [List.set_cons_zero]
                  refine wpAnyH_done (by kernel_rfl) ?_ _
                  refine NoPanic.normal ?_
                  go_wp2_with fail
                  go_meet
                  exact ⟨_, gb, a9, n9, c9, b9, m9, d9, rfl, by simp, by simp, AF.out⟩
              · go_simp
                try go_wp2_with fail
                have hbC := below_new (o := .cells #[.slice none 0 0, .slice none 0 0] 25) (w := q1) (Below.refl _ _)
                have E1 := hid (Bk.new q1 25 [.slice none 0 0, .slice none 0 0])
                have Z6 : Hid (w13.heap.size ≤ q1.heap.size) := (kl8_bel (by assumption)).size
                have OX := hid (O1.out.below hbC)
                clear O1
                refine hK.out _ _ ?_ (fun hHeld => ?_)
                · exact kl8c hbC (by assumption)
                clear hK K1
                try simp only [List.getElem_toArray]
                try simp only [List.getElem_cons_succ]
                try simp only [List.getElem_cons_zero]
                try simp only [Act.put]
                try simp only [List.setIfInBounds_toArray]
                try simp only [List.set_cons_succ]
                try simp only [List.set_cons_zero]
                clear hbC
                generalize q1.alloc (.cells #[.slice none 0 0, .slice none 0 0] 25) = v8 at *
                generalize q1.heap.size = gb at *
                have O1 := OX
                clear OX
                refine wpAnyH_ready (rs := [3]) (by kernel_rfl) (by simp) ?_
                refine AllReadyH.cons rfl (fun K1 hK => ?_) AllReadyH.nil
                go_simp
                refine (CL.out _).mono ?_
                rintro r q2 ⟨rfl, hbC⟩
                have O2 := hid (O1.out.below hbC)
                clear O1
                have E2 := hid (E1.out.below hbC)
                clear E1
                go_wp2_with fail
                refine hK.out _ _ ?_ (fun hHeld => ?_)
                · exact kl8c hbC (by assumption)
                clear hK K1
                try simp only [List.getElem_toArray]
                try simp only [List.getElem_cons_succ]
                try simp only [List.getElem_cons_zero]
                try simp only [Act.put]
                try simp only [List.setIfInBounds_toArray]
                try simp only [List.set_cons_succ]
                try simp only [List.set_cons_zero]
                clear hbC
                refine wpAnyH_ready (rs := [4]) (by kernel_rfl) (by simp) ?_
                refine AllReadyH.cons rfl (fun K1 hK => ?_) AllReadyH.nil
                go_simp
                refine (CI.out _ _ _ _ O2.out).mono ?_
                rintro r q3 ⟨a9, n9, c9, b9, m9, d9, rfl, hO, hbC⟩
                have O9 := hid (hO.base (kl8_bel (by assumption)).size)
                have E3 := hid (E2.out.below hbC)
                have F9 : Hid (∀ y, lbl (.slice a9 n9 c9) (.slice b9 m9 d9) y → y ≠ gb) := fun y hy => by have h1 := (hO.lt hy).1; have h2 := E2.out.lt; omega
                clear E2
                clear hO O2
                go_wp2_with fail
                refine hK.out _ _ ?_ (fun hHeld => ?_)
                · exact kl8c hbC (by assumption)
                clear hK K1
                try simp only [List.getElem_toArray]
                try simp only [List.getElem_cons_succ]
                try simp only [List.getElem_cons_zero]
                try simp only [Act.put]
                try simp only [List.setIfInBounds_toArray]
                try simp only [List.set_cons_succ]
                try simp only [List.set_cons_zero]
                clear hbC
                refine wpAnyH_take (i := 5) (v := (.tuple #[.agg #[.slice a9 n9 c9, .slice b9 m9 d9], .int .i64 cd])) rfl (by kernel_rfl) (by kernel_rfl) (by kernel_rfl) (fun _ _ _ h => h) (Or.inl ⟨by rfl, ?_⟩) (by assumption) ?_
                · intro w hSw
                  (try dsimp only at hSw)
                  go_simp
                try simp only [List.getElem_toArray]
                try simp only [List.getElem_cons_succ]
                try simp only [List.getElem_cons_zero]
                try simp only [Act.put]
                try simp only [List.setIfInBounds_toArray]
                try simp only [List.set_cons_succ]
                try simp only [List.set_cons_zero]
                refine wpAnyH_take (i := 6) (v := (.agg #[.slice a9 n9 c9, .slice b9 m9 d9])) rfl (by kernel_rfl) (by kernel_rfl) (by kernel_rfl) (fun _ _ _ h => h) (Or.inl ⟨by rfl, ?_⟩) (by assumption) ?_
                · intro w hSw
                  (try dsimp only at hSw)
                  go_simp
                try simp only [List.getElem_toArray]
                try simp only [List.getElem_cons_succ]
                try simp only [List.getElem_cons_zero]
                try simp only [Act.put]
                try simp only [List.setIfInBounds_toArray]
                try simp only [List.set_cons_succ]
                try simp only [List.set_cons_zero]
                refine wpAnyH_take (i := 7) (v := (.int .i64 cd)) rfl (by kernel_rfl) (by kernel_rfl) (by kernel_rfl) (fun _ _ _ h => h) (Or.inl ⟨by rfl, ?_⟩) (by assumption) ?_
                · intro w hSw
                  (try dsimp only at hSw)
                  go_simp
                try simp only [List.getElem_toArray]
                try simp only [List.getElem_cons_succ]
                try simp only [List.getElem_cons_zero]
                try simp only [Act.put]
                try simp only [List.setIfInBounds_toArray]
                try simp only [List.set_cons_succ]
                try simp only [List.set_cons_zero]
                have z0 := E3.out.cell (j := 0) rfl
                have z1 := E3.out.cell (j := 1) rfl
                have e0 := E3.out.free 0
                have e1 := E3.out.free 1
                have AF : Hid (AB w13 ((q3.setCell ⟨gb, 0, none⟩ (.slice a9 n9 c9)).setCell ⟨gb, 1, none⟩ (.slice b9 m9 d9)) gb (.slice a9 n9 c9) (.slice b9 m9 d9) tl tw) := AB.mk' (kl8_bel (by assumption)) O9.out (Nat.le_refl _) E3.out Z6.out F9.out
                have s10 := kl8o (u := w13) (v := q3) (R := fun y => y = gb) (v' := ((q3.setCell ⟨gb, 0, none⟩ (.slice a9 n9 c9)).setCell ⟨gb, 1, none⟩ (.slice b9 m9 d9))) ((only_set (R := fun y => y = gb) (p := ⟨gb, 0, none⟩) rfl _).trans (only_set (R := fun y => y = gb) (p := ⟨gb, 1, none⟩) rfl _)) (fun y hy => by have := Z6.out; omega) (by assumption)
                refine wpAnyH_ready (rs := [9]) (by kernel_rfl) (by simp) ?_
                refine AllReadyH.cons rfl (fun K1 hK => ?_) AllReadyH.nil
                go_simp
                try go_wp2_with fail
                refine hK.out _ _ ?_ (fun hHeld => ?_)
                · exact s10
                clear hK K1
                try simp only [List.getElem_toArray]
                try simp only [List.getElem_cons_succ]
                try simp only [List.getElem_cons_zero]
                try simp only [Act.put]
                try simp only [List.setIfInBounds_toArray]
                try simp only [List.set_cons_succ]
                try simp only [List.set_cons_zero]
                clear s10 z0 z1 e0 e1
                refine wpAnyH_take (i := 10) (v := (.int .i64 cd)) rfl (by kernel_rfl) (by kernel_rfl) (by kernel_rfl) (fun _ _ _ h => h) (Or.inl ⟨by rfl, ?_⟩) (by assumption) ?_
                · intro w hSw
                  (try dsimp only at hSw)
                  go_simp
                try simp only [List.getElem_toArray]
                try simp only [List.getElem_cons_succ]
                try simp only [List.getElem_cons_zero]
                try simp only [Act.put]
                try simp only [List.setIfInBounds_toArray]
                try simp only [List.set_cons_succ]
                try simp only [List.set_cons_zero]
                refine wpAnyH_done (by kernel_rfl) ?_ _
                refine NoPanic.normal ?_
                go_wp2_with fail
                go_meet
                exact ⟨_, gb, a9, n9, c9, b9, m9, d9, rfl, by simp, by simp, AF.out⟩
            · go_simp
              try go_wp2_with fail
              have h0 := below_new (o := .cells #[.slice none 0 0, .slice none 0 0] 25) (w := w13) (below_drew _)
              have hbC : Below w13.drew.heap.size w13.drew (w13.alloc (.cells #[.slice none 0 0, .slice none 0 0] 25)).drew := ⟨h0.os, h0.tape, h0.output, h0.size, h0.block⟩
              have E0 : Hid (Bk (w13.alloc (.cells #[.slice none 0 0, .slice none 0 0] 25)).drew w13.heap.size 25 [.slice none 0 0, .slice none 0 0]) := (Bk.new w13 25 [.slice none 0 0, .slice none 0 0]).below (below_drew _)
              have Z6 : Hid (w13.heap.size ≤ w13.heap.size) := Nat.le_refl _
              refine hK.out _ _ ?_ (fun hHeld => ?_)
              · exact kl8c hbC (by assumption)
              clear hK K1
              try simp only [List.getElem_toArray]
              try simp only [List.getElem_cons_succ]
              try simp only [List.getElem_cons_zero]
              try simp only [Act.put]
              try simp only [List.setIfInBounds_toArray]
              try simp only [List.set_cons_succ]
              try simp only [List.set_cons_zero]
              clear hbC h0
              generalize (w13.alloc (.cells #[.slice none 0 0, .slice none 0 0] 25)).drew = v6 at *
              refine wpAnyH_ready (rs := [1]) (by kernel_rfl) (by simp) ?_
              refine AllReadyH.cons rfl (fun K1 hK => ?_) AllReadyH.nil
              go_simp
              refine (toLocks_any _ _ ha hn hc wa wn wc hl wl _ (X13.out.hA.below (kl8_bel (by assumption))) (X13.out.hB.below (kl8_bel (by assumption))) m0 m1).mono ?_
              rintro r q1 ⟨p0, p1, rfl, hO, hbC⟩
              have O1 := hid (hO.base (Nat.zero_le _))
              clear hO
              have E1 := hid (E0.out.below hbC)
              clear E0
              go_wp2_with fail
              refine hK.out _ _ ?_ (fun hHeld => ?_)
              · exact kl8c hbC (by assumption)
              clear hK K1
              try simp only [List.getElem_toArray]
              try simp only [List.getElem_cons_succ]
              try simp only [List.getElem_cons_zero]
              try simp only [Act.put]
              try simp only [List.setIfInBounds_toArray]
              try simp only [List.set_cons_succ]
              try simp only [List.set_cons_zero]
              clear hbC
              refine wpAnyH_ready (rs := [3]) (by kernel_rfl) (by simp) ?_
              refine AllReadyH.cons rfl (fun K1 hK => ?_) AllReadyH.nil
              go_simp
              refine (CL.out _).mono ?_
              rintro r q2 ⟨rfl, hbC⟩
              have O2 := hid (O1.out.below hbC)
              clear O1
              have E2 := hid (E1.out.below hbC)
              clear E1
              go_wp2_with fail
              refine hK.out _ _ ?_ (fun hHeld => ?_)
              · exact kl8c hbC (by assumption)
              clear hK K1
              try simp only [List.getElem_toArray]
              try simp only [List.getElem_cons_succ]
              try simp only [List.getElem_cons_zero]
              try simp only [Act.put]
              try simp only [List.setIfInBounds_toArray]
              try simp only [List.set_cons_succ]
              try simp only [List.set_cons_zero]
              clear hbC
              refine wpAnyH_ready (rs := [4]) (by kernel_rfl) (by simp) ?_
              refine AllReadyH.cons rfl (fun K1 hK => ?_) AllReadyH.nil
              go_simp
              refine (CI.out _ _ _ _ O2.out).mono ?_
              rintro r q3 ⟨a9, n9, c9, b9, m9, d9, rfl, hO, hbC⟩
              have O9 := hid (hO.base (kl8_bel (by assumption)).size)
              have E3 := hid (E2.out.below hbC)
              have F9 : Hid (∀ y, lbl (.slice a9 n9 c9) (.slice b9 m9 d9) y → y ≠ w13.heap.size) := fun y hy => by have h1 := (hO.lt hy).1; have h2 := E2.out.lt; omega
              clear E2
              clear hO O2
              go_wp2_with fail
              refine hK.out _ _ ?_ (fun hHeld => ?_)
              · exact kl8c hbC (by assumption)
              clear hK K1
              try simp only [List.getElem_toArray]
              try simp only [List.getElem_cons_succ]
              try simp only [List.getElem_cons_zero]
              try simp only [Act.put]
              try simp only [List.setIfInBounds_toArray]
              try simp only [List.set_cons_succ]
              try simp only [List.set_cons_zero]
              clear hbC
              refine wpAnyH_take (i := 5) (v := (.tuple #[.agg #[.slice a9 n9 c9, .slice b9 m9 d9], .int .i64 cd])) rfl (by kernel_rfl) (by kernel_rfl) (by kernel_rfl) (fun _ _ _ h => h) (Or.inl ⟨by rfl, ?_⟩) (by assumption) ?_
              · intro w hSw
                (try dsimp only at hSw)
                go_simp
              try simp only [List.getElem_toArray]
              try simp only [List.getElem_cons_succ]
              try simp only [List.getElem_cons_zero]
              try simp only [Act.put]
              try simp only [List.setIfInBounds_toArray]
              try simp only [List.set_cons_succ]
              try simp only [List.set_cons_zero]
              refine wpAnyH_take (i := 6) (v := (.agg #[.slice a9 n9 c9, .slice b9 m9 d9])) rfl (by kernel_rfl) (by kernel_rfl) (by kernel_rfl) (fun _ _ _ h => h) (Or.inl ⟨by rfl, ?_⟩) (by assumption) ?_
              · intro w hSw
                (try dsimp only at hSw)
                go_simp
              try simp only [List.getElem_toArray]
              try simp only [List.getElem_cons_succ]
              try simp only [List.getElem_cons_zero]
              try simp only [Act.put]
              try simp only [List.setIfInBounds_toArray]
              try simp only [List.set_cons_succ]
              try simp only [List.set_cons_zero]
              refine wpAnyH_take (i := 7) (v := (.int .i64 cd)) rfl (by kernel_rfl) (by kernel_rfl) (by kernel_rfl) (fun _ _ _ h => h) (Or.inl ⟨by rfl, ?_⟩) (by assumption) ?_
              · intro w hSw
                (try dsimp only at hSw)
                go_simp
              try simp only [List.getElem_toArray]
              try simp only [List.getElem_cons_succ]
              try simp only [List.getElem_cons_zero]
              try simp only [Act.put]
              try simp only [List.setIfInBounds_toArray]
              try simp only [List.set_cons_succ]
              try simp only [List.set_cons_zero]
              have z0 := E3.out.cell (j := 0) rfl
              have z1 := E3.out.cell (j := 1) rfl
              have e0 := E3.out.free 0
              have e1 := E3.out.free 1
              have AF : Hid (AB w13 ((q3.setCell ⟨w13.heap.size, 0, none⟩ (.slice a9 n9 c9)).setCell ⟨w13.heap.size, 1, none⟩ (.slice b9 m9 d9)) w13.heap.size (.slice a9 n9 c9) (.slice b9 m9 d9) tl tw) := AB.mk' (kl8_bel (by assumption)) O9.out (Nat.le_refl _) E3.out Z6.out F9.out
              have s10 := kl8o (u := w13) (v := q3) (R := fun y => y = w13.heap.size) (v' := ((q3.setCell ⟨w13.heap.size, 0, none⟩ (.slice a9 n9 c9)).setCell ⟨w13.heap.size, 1, none⟩ (.slice b9 m9 d9))) ((only_set (R := fun y => y = w13.heap.size) (p := ⟨w13.heap.size, 0, none⟩) rfl _).trans (only_set (R := fun y => y = w13.heap.size) (p := ⟨w13.heap.size, 1, none⟩) rfl _)) (fun y hy => by have := Z6.out; omega) (by assumption)
              refine wpAnyH_ready (rs := [9]) (by kernel_rfl) (by simp) ?_
              refine AllReadyH.cons rfl (fun K1 hK => ?_) AllReadyH.nil
              go_simp
              try go_wp2_with fail
              refine hK.out _ _ ?_ (fun hHeld => ?_)
              · exact s10
              clear hK K1
              try simp only [List.getElem_toArray]
              try simp only [List.getElem_cons_succ]
              try simp only [List.getElem_cons_zero]
              try simp only [Act.put]
              try simp only [List.setIfInBounds_toArray]
              try simp only [List.set_cons_succ]
              try simp only [List.set_cons_zero]
              clear s10 z0 z1 e0 e1
              refine wpAnyH_take (i := 10) (v := (.int .i64 cd)) rfl (by kernel_rfl) (by kernel_rfl) (by kernel_rfl) (fun _ _ _ h => h) (Or.inl ⟨by rfl, ?_⟩) (by assumption) ?_
              · intro w hSw
                (try dsimp only at hSw)
                go_simp
              try simp only [List.getElem_toArray]
              try simp only [List.getElem_cons_succ]
              try simp only [List.getElem_cons_zero]
              try simp only [Act.put]
              try simp only [List.setIfInBounds_toArray]
              try simp only [List.set_cons_succ]
              try simp only [List.set_cons_zero]
              refine wpAnyH_done (by kernel_rfl) ?_ _
              refine NoPanic.normal ?_
              go_wp2_with fail
              go_meet
              exact ⟨_, w13.heap.size, a9, n9, c9, b9, m9, d9, rfl, by simp, by simp, AF.out⟩
          case rest =>
            obtain ⟨V14, gH, za, zn, zc, ya, yn, yc, rfl, rfl, rfl, hAB⟩ := hcut
            have H14 := hid hAB.ac
            have X14 := hid (X13.out.below hAB.bel)
            have A14 := hid (A13.out.below hAB.bel)
            have Q14 := hid (Q13.out.below hAB.bel)
            clear hAB T13 X13 J13 A13 Q13
            obtain ⟨x0, x1⟩ := A14.out.cells
            obtain ⟨y0, y1⟩ := H14.out.cells
            go_wp2_with fail
            refine (eqLocks_same (fun _ => True) (fun _ => True) (fun _ => True) (fun _ => True) _ _ _ _ _ _ _ _ _ _ _ _ tl tw _ H14.out.own.hh.lr H14.out.own.hw.lr A14.out.own.hh.lr A14.out.own.hw.lr).mono ?_
            rintro r w15 ⟨rfl, hb⟩
            have X15 := hid (X14.out.below hb)
            have Q15 := hid (Q14.out.below hb)
            clear hb X14 A14 Q14 H14 x0 x1 y0 y1
            obtain ⟨y0, y1⟩ := Q15.out.cells
            go_wp2_with fail
            refine (heldLocks_any _ _ _ _ _ _ 1 _ Q15.out.own gl1 gl2 (by omega) (by omega)).mono ?_
            rw [HQ.out]
            rintro r w16 ⟨rfl, hb⟩
            have X16 := hid (X15.out.below hb)
            clear hb X15 Q15 y0 y1
            go_wp2
            go_ret
            exact ⟨rfl, X16.out.bel⟩
end Go.Proofs.Ytbaggkfgnjenoaa

