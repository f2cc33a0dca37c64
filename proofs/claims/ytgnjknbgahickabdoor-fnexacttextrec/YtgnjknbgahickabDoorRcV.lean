/-
  TextRec of the specification.
-/
import Derived.Test.YtgnjknbgahickabDoorRcS3
namespace Go.Proofs.YtgnjknbgahickabDoor
open Go.RowKit
set_option linter.unusedVariables false
theorem take_noR {P : Program} {md : Region.Mode} {ops : Array Oper} {Q : Exit → Act → World → Prop} {S : World → Prop} {i : Nat} {oi : Oper} {fuel : Nat} {listed : Array Bool} {a : Act} {w : World} (hi : ops[i]? = some oi)
    (hs : Region.noSelect ops = true) (hf : Region.free md ops listed i = true) (hr : (Region.ready md ops listed).contains i = true)
    (hQ : ∀ c a w, Q (.panic c) (a.put oi.dst undef) w → Q (.panic c) a w) (hw : Region.wanted oi (yielded ops a.tmps) = false) (hS : S w)
    (h : wpAnyH P md ops Q S fuel (listed.setIfInBounds i true) (a.put oi.dst undef) w) : wpAnyH P md ops Q S (fuel + 1) listed a w :=
  wpAnyH_take hi hs hf hr hQ (Or.inr ⟨hw, rfl⟩) hS h
/-- The kind as far as looked for. -/
def kp (k : Nat) (m : Int) : Int := if m = 119 ∧ 1 < k then 1 else if m = 103 ∧ 2 < k then 2 else if m = 115 ∧ 3 < k then 3 else if m = 120 ∧ 4 < k then 4 else 0
theorem kp_5 (m : Int) : kp 5 m = kOf m := by simp [kp, kOf]
theorem kp_1 (m : Int) : kp 1 m = 0 := by simp [kp]
theorem kp_hit1 : kp 2 119 = 1 := by decide
theorem kp_hit2 : kp 3 103 = 2 := by decide
theorem kp_hit3 : kp 4 115 = 3 := by decide
theorem kp_hit4 : kp 5 120 = 4 := by decide
theorem kp_no1 {m : Int} (h : ¬ m = 119) : kp 2 m = kp 1 m := by simp [kp, h]
theorem kp_no2 {m : Int} (h : ¬ m = 103) : kp 3 m = kp 2 m := by simp [kp, h]
theorem kp_no3 {m : Int} (h : ¬ m = 115) : kp 4 m = kp 3 m := by simp [kp, h]
theorem kp_no4 {m : Int} (h : ¬ m = 120) : kp 5 m = kp 4 m := by simp [kp, h]
theorem kOf_range (m : Int) : 0 ≤ kOf m ∧ kOf m ≤ 4 := by
  unfold kOf
  split
  · omega
  · split
    · omega
    · split
      · omega
      · split <;> omega
theorem bytes_head0 (s : ByteArray) (h : s.toList = []) : (bytesOf s)[0]?.getD 0 = 0 := by
  rw [emptyB h]; rfl
theorem gt_hi (zs : List Int) (hb : ∀ i : Nat, 0 ≤ zs[i]?.getD 0 ∧ zs[i]?.getD 0 ≤ 255) (p : Int) : (gt zs p).2 ≤ zs.length := by
  by_cases h : (gt zs p).2 < 0
  · omega
  · exact (gt_step zs hb p h).2.1
/-- What is kept while the kind is looked for. -/
structure SR (w v : World) (k : Int) : Prop where
  bel : Below w.heap.size w v
  k1 : Bk v w.heap.size 30 [.int .i64 0, .string ⟨#[]⟩, .string ⟨#[]⟩, .string ⟨#[]⟩, .string ⟨#[]⟩]
  k2 : Bk v (w.heap.size + 1) 30 [.int .i64 k, .string ⟨#[]⟩, .string ⟨#[]⟩, .string ⟨#[]⟩, .string ⟨#[]⟩]
theorem SR.below {w v v' : World} {k : Int} (h : SR w v k) (hb : Below v.heap.size v v') : SR w v' k := ⟨btR h.bel hb, h.k1.below hb, h.k2.below hb⟩
theorem SR.set {w v : World} {k : Int} (h : SR w v k) (k' : Int) : SR w (v.setCell ⟨w.heap.size + 1, 0, none⟩ (.int .i64 k')) k' := ⟨Below.setCell (p := ⟨w.heap.size + 1, 0, none⟩) h.bel (Nat.le_succ _) _, h.k1.setOther (by omega) _ _, h.k2.set 0 _⟩
set_option maxHeartbeats 16000000 in
set_option maxRecDepth 20000 in
theorem specTextRec_any (s : ByteArray) (w : World) (hs : s.size ≤ 1048576) :
    Calls Tryd.prog 10 #[.string s] w fun e w' => e = .returned (.tuple #[.agg #[.int .i64 (trV s).1.1, .string (trV s).1.2.1, .string (trV s).1.2.2.1, .string (trV s).1.2.2.2.1, .string (trV s).1.2.2.2.2], .bool (trV s).2]) ∧ Below w.heap.size w w' := by
  have HD : Hid (trV s = if s.toList ≠ [] ∧ (rcTxt (rcS (bytesOf s))).toList = s.toList then (rcS (bytesOf s), true) else (rc0, false)) := rfl
  have X0 : Hid (SR w ((w.alloc (.cells #[.int .i64 0, .string ⟨#[]⟩, .string ⟨#[]⟩, .string ⟨#[]⟩, .string ⟨#[]⟩] 30)).alloc (.cells #[.int .i64 0, .string ⟨#[]⟩, .string ⟨#[]⟩, .string ⟨#[]⟩, .string ⟨#[]⟩] 30)) (kp 1 ((bytesOf s)[0]?.getD 0))) := by
    show SR _ _ _
    rw [kp_1]
    refine ⟨below_new (below_new (Below.refl _ _)), (Bk.new w 30 [.int .i64 0, .string ⟨#[]⟩, .string ⟨#[]⟩, .string ⟨#[]⟩, .string ⟨#[]⟩]).alloc _, ?_⟩
    have := Bk.new (w.alloc (.cells #[.int .i64 0, .string ⟨#[]⟩, .string ⟨#[]⟩, .string ⟨#[]⟩, .string ⟨#[]⟩] 30)) 30 [.int .i64 0, .string ⟨#[]⟩, .string ⟨#[]⟩, .string ⟨#[]⟩, .string ⟨#[]⟩]
    rwa [show (w.alloc (.cells #[.int .i64 0, .string ⟨#[]⟩, .string ⟨#[]⟩, .string ⟨#[]⟩, .string ⟨#[]⟩] 30)).heap.size = w.heap.size + 1 by simp] at this
  have HM : Hid (∀ h : 0 < s.size, ((s[0]'h).toNat : Int) = (bytesOf s)[0]?.getD 0) := fun h => (bytes_head s h).symm
  have HM0 := hid (bytes_head0 s)
  have HRS : Hid (rcS (bytesOf s) = if 2 < kOf ((bytesOf s)[0]?.getD 0) then (kOf ((bytesOf s)[0]?.getD 0), ⟨#[]⟩, ⟨#[]⟩, strOf (gt (bytesOf s) 1).1, strOf (gt (bytesOf s) (gt (bytesOf s) 1).2).1) else (kOf ((bytesOf s)[0]?.getD 0), strOf (gt (bytesOf s) 1).1, if kOf ((bytesOf s)[0]?.getD 0) = 1 then strOf (gt (bytesOf s) (gt (bytesOf s) 1).2).1 else ⟨#[]⟩, ⟨#[]⟩, ⟨#[]⟩)) := rfl
  have HY : Hid (∀ i : Nat, 0 ≤ (bytesOf s)[i]?.getD 0 ∧ (bytesOf s)[i]?.getD 0 ≤ 255) := byte_at (bytesOf_byte s)
  have HBL := hid (bytesOf_len s)
  generalize (bytesOf s)[0]?.getD 0 = m at *
  go_enter Tryd.func10, Tryd.ntmps10
  go_wp2_with fail
  go_loopw [5] (fun i wr => ∃ k : Nat, 1 ≤ k ∧ k ≤ 5 ∧ i = .int .i64 k ∧ Hid (SR w wr (kp k m))) (fun i _ => 5 - (intOf i).toNat)
  case atStart => exact ⟨1, by omega, by omega, rfl, X0⟩
  case round =>
    obtain ⟨k, hk1, hk5, rfl, X1⟩ := hrel
    clear X0
    have hkk : k = 1 ∨ k = 2 ∨ k = 3 ∨ k = 4 ∨ k = 5 := by omega
    by_cases he : s.toList = []
    · have hem := HM0.out he
      rcases hkk with rfl | rfl | rfl | rfl | rfl
      · have HK : Hid (kp 2 m = kp 1 m) := kp_no1 (by omega)
        have X2 := hid (X1.out.below (below_drew _))
        rw [← HK.out] at X2
        clear X1
        go_wp2_with fail
        refine wp_region_noPanic ?_
        refine wp_region_held_drew (S := fun _ => True) (by kernel_rfl) (trivial) (fun hHeld => ?_)
        simp only [List.size_toArray, List.length_cons, List.length_nil, Array.replicate_succ, Array.replicate_zero, Nat.reduceAdd, List.push_toArray, List.nil_append, List.cons_append]
        refine wpAnyH_take (i := 0) (v := (.string s)) rfl (by kernel_rfl) (by kernel_rfl) (by kernel_rfl) (fun _ _ _ h => h) (Or.inl ⟨by rfl, ?_⟩) (by assumption) ?_
        · intro w hSw
          (try dsimp only at hSw)
          go_simp
        try simp only [List.getElem_toArray]
        try simp only [List.getElem_cons_succ]
        try simp only [List.getElem_cons_zero]
        try simp only [Act.put]
        try simp only [List.setIfInBounds_toArray]
        try simp only [List.set_cons_succ]
        try simp only [List.set_cons_zero]
        refine wpAnyH_take (i := 1) (v := (.bool false)) rfl (by kernel_rfl) (by kernel_rfl) (by kernel_rfl) (fun _ _ _ h => h) (Or.inl ⟨by rfl, ?_⟩) (by assumption) ?_
        · intro w hSw
          (try dsimp only at hSw)
          go_simp
        try simp only [List.getElem_toArray]
        try simp only [List.getElem_cons_succ]
        try simp only [List.getElem_cons_zero]
        try simp only [Act.put]
        try simp only [List.setIfInBounds_toArray]
        try simp only [List.set_cons_succ]
        try simp only [List.set_cons_zero]
        refine wpAnyH_take (i := 2) (v := (.bool false)) rfl (by kernel_rfl) (by kernel_rfl) (by kernel_rfl) (fun _ _ _ h => h) (Or.inl ⟨by rfl, ?_⟩) (by assumption) ?_
        · intro w hSw
          (try dsimp only at hSw)
          go_simp
        try simp only [List.getElem_toArray]
        try simp only [List.getElem_cons_succ]
        try simp only [List.getElem_cons_zero]
        try simp only [Act.put]
        try simp only [List.setIfInBounds_toArray]
        try simp only [List.set_cons_succ]
        try simp only [List.set_cons_zero]
        refine take_noR (i := 3) rfl (by kernel_rfl) (by kernel_rfl) (by kernel_rfl) (fun _ _ _ h => h) (by rfl) (by assumption) ?_
        try simp only [List.getElem_toArray]
        try simp only [List.getElem_cons_succ]
        try simp only [List.getElem_cons_zero]
        try simp only [Act.put]
        try simp only [List.setIfInBounds_toArray]
        try simp only [List.set_cons_succ]
        try simp only [List.set_cons_zero]
        refine take_noR (i := 4) rfl (by kernel_rfl) (by kernel_rfl) (by kernel_rfl) (fun _ _ _ h => h) (by rfl) (by assumption) ?_
        try simp only [List.getElem_toArray]
        try simp only [List.getElem_cons_succ]
        try simp only [List.getElem_cons_zero]
        try simp only [Act.put]
        try simp only [List.setIfInBounds_toArray]
        try simp only [List.set_cons_succ]
        try simp only [List.set_cons_zero]
        refine take_noR (i := 5) rfl (by kernel_rfl) (by kernel_rfl) (by kernel_rfl) (fun _ _ _ h => h) (by rfl) (by assumption) ?_
        try simp only [List.getElem_toArray]
        try simp only [List.getElem_cons_succ]
        try simp only [List.getElem_cons_zero]
        try simp only [Act.put]
        try simp only [List.setIfInBounds_toArray]
        try simp only [List.set_cons_succ]
        try simp only [List.set_cons_zero]
        refine take_noR (i := 6) rfl (by kernel_rfl) (by kernel_rfl) (by kernel_rfl) (fun _ _ _ h => h) (by rfl) (by assumption) ?_
        try simp only [List.getElem_toArray]
        try simp only [List.getElem_cons_succ]
        try simp only [List.getElem_cons_zero]
        try simp only [Act.put]
        try simp only [List.setIfInBounds_toArray]
        try simp only [List.set_cons_succ]
        try simp only [List.set_cons_zero]
        refine take_noR (i := 7) rfl (by kernel_rfl) (by kernel_rfl) (by kernel_rfl) (fun _ _ _ h => h) (by rfl) (by assumption) ?_
        try simp only [List.getElem_toArray]
        try simp only [List.getElem_cons_succ]
        try simp only [List.getElem_cons_zero]
        try simp only [Act.put]
        try simp only [List.setIfInBounds_toArray]
        try simp only [List.set_cons_succ]
        try simp only [List.set_cons_zero]
        refine wpAnyH_take (i := 8) (v := (.bool false)) rfl (by kernel_rfl) (by kernel_rfl) (by kernel_rfl) (fun _ _ _ h => h) (Or.inl ⟨by rfl, ?_⟩) (by assumption) ?_
        · intro w hSw
          (try dsimp only at hSw)
          go_simp
        try simp only [List.getElem_toArray]
        try simp only [List.getElem_cons_succ]
        try simp only [List.getElem_cons_zero]
        try simp only [Act.put]
        try simp only [List.setIfInBounds_toArray]
        try simp only [List.set_cons_succ]
        try simp only [List.set_cons_zero]
        refine wpAnyH_done (by kernel_rfl) ?_ _
        refine NoPanic.normal ?_
        go_wp2
        go_roundw
        case rel => exact ⟨2, by omega, by omega, by go_num, X2⟩
        case measure => simp [intOf]
      · have HK : Hid (kp 3 m = kp 2 m) := kp_no2 (by omega)
        have X2 := hid (X1.out.below (below_drew _))
        rw [← HK.out] at X2
        clear X1
        go_wp2_with fail
        refine wp_region_noPanic ?_
        refine wp_region_held_drew (S := fun _ => True) (by kernel_rfl) (trivial) (fun hHeld => ?_)
        simp only [List.size_toArray, List.length_cons, List.length_nil, Array.replicate_succ, Array.replicate_zero, Nat.reduceAdd, List.push_toArray, List.nil_append, List.cons_append]
        refine wpAnyH_take (i := 0) (v := (.string s)) rfl (by kernel_rfl) (by kernel_rfl) (by kernel_rfl) (fun _ _ _ h => h) (Or.inl ⟨by rfl, ?_⟩) (by assumption) ?_
        · intro w hSw
          (try dsimp only at hSw)
          go_simp
        try simp only [List.getElem_toArray]
        try simp only [List.getElem_cons_succ]
        try simp only [List.getElem_cons_zero]
        try simp only [Act.put]
        try simp only [List.setIfInBounds_toArray]
        try simp only [List.set_cons_succ]
        try simp only [List.set_cons_zero]
        refine wpAnyH_take (i := 1) (v := (.bool false)) rfl (by kernel_rfl) (by kernel_rfl) (by kernel_rfl) (fun _ _ _ h => h) (Or.inl ⟨by rfl, ?_⟩) (by assumption) ?_
        · intro w hSw
          (try dsimp only at hSw)
          go_simp
        try simp only [List.getElem_toArray]
        try simp only [List.getElem_cons_succ]
        try simp only [List.getElem_cons_zero]
        try simp only [Act.put]
        try simp only [List.setIfInBounds_toArray]
        try simp only [List.set_cons_succ]
        try simp only [List.set_cons_zero]
        refine wpAnyH_take (i := 2) (v := (.bool false)) rfl (by kernel_rfl) (by kernel_rfl) (by kernel_rfl) (fun _ _ _ h => h) (Or.inl ⟨by rfl, ?_⟩) (by assumption) ?_
        · intro w hSw
          (try dsimp only at hSw)
          go_simp
        try simp only [List.getElem_toArray]
        try simp only [List.getElem_cons_succ]
        try simp only [List.getElem_cons_zero]
        try simp only [Act.put]
        try simp only [List.setIfInBounds_toArray]
        try simp only [List.set_cons_succ]
        try simp only [List.set_cons_zero]
        refine take_noR (i := 3) rfl (by kernel_rfl) (by kernel_rfl) (by kernel_rfl) (fun _ _ _ h => h) (by rfl) (by assumption) ?_
        try simp only [List.getElem_toArray]
        try simp only [List.getElem_cons_succ]
        try simp only [List.getElem_cons_zero]
        try simp only [Act.put]
        try simp only [List.setIfInBounds_toArray]
        try simp only [List.set_cons_succ]
        try simp only [List.set_cons_zero]
        refine take_noR (i := 4) rfl (by kernel_rfl) (by kernel_rfl) (by kernel_rfl) (fun _ _ _ h => h) (by rfl) (by assumption) ?_
        try simp only [List.getElem_toArray]
        try simp only [List.getElem_cons_succ]
        try simp only [List.getElem_cons_zero]
        try simp only [Act.put]
        try simp only [List.setIfInBounds_toArray]
        try simp only [List.set_cons_succ]
        try simp only [List.set_cons_zero]
        refine take_noR (i := 5) rfl (by kernel_rfl) (by kernel_rfl) (by kernel_rfl) (fun _ _ _ h => h) (by rfl) (by assumption) ?_
        try simp only [List.getElem_toArray]
        try simp only [List.getElem_cons_succ]
        try simp only [List.getElem_cons_zero]
        try simp only [Act.put]
        try simp only [List.setIfInBounds_toArray]
        try simp only [List.set_cons_succ]
        try simp only [List.set_cons_zero]
        refine take_noR (i := 6) rfl (by kernel_rfl) (by kernel_rfl) (by kernel_rfl) (fun _ _ _ h => h) (by rfl) (by assumption) ?_
        try simp only [List.getElem_toArray]
        try simp only [List.getElem_cons_succ]
        try simp only [List.getElem_cons_zero]
        try simp only [Act.put]
        try simp only [List.setIfInBounds_toArray]
        try simp only [List.set_cons_succ]
        try simp only [List.set_cons_zero]
        refine take_noR (i := 7) rfl (by kernel_rfl) (by kernel_rfl) (by kernel_rfl) (fun _ _ _ h => h) (by rfl) (by assumption) ?_
        try simp only [List.getElem_toArray]
        try simp only [List.getElem_cons_succ]
        try simp only [List.getElem_cons_zero]
        try simp only [Act.put]
        try simp only [List.setIfInBounds_toArray]
        try simp only [List.set_cons_succ]
        try simp only [List.set_cons_zero]
        refine wpAnyH_take (i := 8) (v := (.bool false)) rfl (by kernel_rfl) (by kernel_rfl) (by kernel_rfl) (fun _ _ _ h => h) (Or.inl ⟨by rfl, ?_⟩) (by assumption) ?_
        · intro w hSw
          (try dsimp only at hSw)
          go_simp
        try simp only [List.getElem_toArray]
        try simp only [List.getElem_cons_succ]
        try simp only [List.getElem_cons_zero]
        try simp only [Act.put]
        try simp only [List.setIfInBounds_toArray]
        try simp only [List.set_cons_succ]
        try simp only [List.set_cons_zero]
        refine wpAnyH_done (by kernel_rfl) ?_ _
        refine NoPanic.normal ?_
        go_wp2
        go_roundw
        case rel => exact ⟨3, by omega, by omega, by go_num, X2⟩
        case measure => simp [intOf]
      · have HK : Hid (kp 4 m = kp 3 m) := kp_no3 (by omega)
        have X2 := hid (X1.out.below (below_drew _))
        rw [← HK.out] at X2
        clear X1
        go_wp2_with fail
        refine wp_region_noPanic ?_
        refine wp_region_held_drew (S := fun _ => True) (by kernel_rfl) (trivial) (fun hHeld => ?_)
        simp only [List.size_toArray, List.length_cons, List.length_nil, Array.replicate_succ, Array.replicate_zero, Nat.reduceAdd, List.push_toArray, List.nil_append, List.cons_append]
        refine wpAnyH_take (i := 0) (v := (.string s)) rfl (by kernel_rfl) (by kernel_rfl) (by kernel_rfl) (fun _ _ _ h => h) (Or.inl ⟨by rfl, ?_⟩) (by assumption) ?_
        · intro w hSw
          (try dsimp only at hSw)
          go_simp
        try simp only [List.getElem_toArray]
        try simp only [List.getElem_cons_succ]
        try simp only [List.getElem_cons_zero]
        try simp only [Act.put]
        try simp only [List.setIfInBounds_toArray]
        try simp only [List.set_cons_succ]
        try simp only [List.set_cons_zero]
        refine wpAnyH_take (i := 1) (v := (.bool false)) rfl (by kernel_rfl) (by kernel_rfl) (by kernel_rfl) (fun _ _ _ h => h) (Or.inl ⟨by rfl, ?_⟩) (by assumption) ?_
        · intro w hSw
          (try dsimp only at hSw)
          go_simp
        try simp only [List.getElem_toArray]
        try simp only [List.getElem_cons_succ]
        try simp only [List.getElem_cons_zero]
        try simp only [Act.put]
        try simp only [List.setIfInBounds_toArray]
        try simp only [List.set_cons_succ]
        try simp only [List.set_cons_zero]
        refine wpAnyH_take (i := 2) (v := (.bool false)) rfl (by kernel_rfl) (by kernel_rfl) (by kernel_rfl) (fun _ _ _ h => h) (Or.inl ⟨by rfl, ?_⟩) (by assumption) ?_
        · intro w hSw
          (try dsimp only at hSw)
          go_simp
        try simp only [List.getElem_toArray]
        try simp only [List.getElem_cons_succ]
        try simp only [List.getElem_cons_zero]
        try simp only [Act.put]
        try simp only [List.setIfInBounds_toArray]
        try simp only [List.set_cons_succ]
        try simp only [List.set_cons_zero]
        refine take_noR (i := 3) rfl (by kernel_rfl) (by kernel_rfl) (by kernel_rfl) (fun _ _ _ h => h) (by rfl) (by assumption) ?_
        try simp only [List.getElem_toArray]
        try simp only [List.getElem_cons_succ]
        try simp only [List.getElem_cons_zero]
        try simp only [Act.put]
        try simp only [List.setIfInBounds_toArray]
        try simp only [List.set_cons_succ]
        try simp only [List.set_cons_zero]
        refine take_noR (i := 4) rfl (by kernel_rfl) (by kernel_rfl) (by kernel_rfl) (fun _ _ _ h => h) (by rfl) (by assumption) ?_
        try simp only [List.getElem_toArray]
        try simp only [List.getElem_cons_succ]
        try simp only [List.getElem_cons_zero]
        try simp only [Act.put]
        try simp only [List.setIfInBounds_toArray]
        try simp only [List.set_cons_succ]
        try simp only [List.set_cons_zero]
        refine take_noR (i := 5) rfl (by kernel_rfl) (by kernel_rfl) (by kernel_rfl) (fun _ _ _ h => h) (by rfl) (by assumption) ?_
        try simp only [List.getElem_toArray]
        try simp only [List.getElem_cons_succ]
        try simp only [List.getElem_cons_zero]
        try simp only [Act.put]
        try simp only [List.setIfInBounds_toArray]
        try simp only [List.set_cons_succ]
        try simp only [List.set_cons_zero]
        refine take_noR (i := 6) rfl (by kernel_rfl) (by kernel_rfl) (by kernel_rfl) (fun _ _ _ h => h) (by rfl) (by assumption) ?_
        try simp only [List.getElem_toArray]
        try simp only [List.getElem_cons_succ]
        try simp only [List.getElem_cons_zero]
        try simp only [Act.put]
        try simp only [List.setIfInBounds_toArray]
        try simp only [List.set_cons_succ]
        try simp only [List.set_cons_zero]
        refine take_noR (i := 7) rfl (by kernel_rfl) (by kernel_rfl) (by kernel_rfl) (fun _ _ _ h => h) (by rfl) (by assumption) ?_
        try simp only [List.getElem_toArray]
        try simp only [List.getElem_cons_succ]
        try simp only [List.getElem_cons_zero]
        try simp only [Act.put]
        try simp only [List.setIfInBounds_toArray]
        try simp only [List.set_cons_succ]
        try simp only [List.set_cons_zero]
        refine wpAnyH_take (i := 8) (v := (.bool false)) rfl (by kernel_rfl) (by kernel_rfl) (by kernel_rfl) (fun _ _ _ h => h) (Or.inl ⟨by rfl, ?_⟩) (by assumption) ?_
        · intro w hSw
          (try dsimp only at hSw)
          go_simp
        try simp only [List.getElem_toArray]
        try simp only [List.getElem_cons_succ]
        try simp only [List.getElem_cons_zero]
        try simp only [Act.put]
        try simp only [List.setIfInBounds_toArray]
        try simp only [List.set_cons_succ]
        try simp only [List.set_cons_zero]
        refine wpAnyH_done (by kernel_rfl) ?_ _
        refine NoPanic.normal ?_
        go_wp2
        go_roundw
        case rel => exact ⟨4, by omega, by omega, by go_num, X2⟩
        case measure => simp [intOf]
      · have HK : Hid (kp 5 m = kp 4 m) := kp_no4 (by omega)
        have X2 := hid (X1.out.below (below_drew _))
        rw [← HK.out] at X2
        clear X1
        go_wp2_with fail
        refine wp_region_noPanic ?_
        refine wp_region_held_drew (S := fun _ => True) (by kernel_rfl) (trivial) (fun hHeld => ?_)
        simp only [List.size_toArray, List.length_cons, List.length_nil, Array.replicate_succ, Array.replicate_zero, Nat.reduceAdd, List.push_toArray, List.nil_append, List.cons_append]
        refine wpAnyH_take (i := 0) (v := (.string s)) rfl (by kernel_rfl) (by kernel_rfl) (by kernel_rfl) (fun _ _ _ h => h) (Or.inl ⟨by rfl, ?_⟩) (by assumption) ?_
        · intro w hSw
          (try dsimp only at hSw)
          go_simp
        try simp only [List.getElem_toArray]
        try simp only [List.getElem_cons_succ]
        try simp only [List.getElem_cons_zero]
        try simp only [Act.put]
        try simp only [List.setIfInBounds_toArray]
        try simp only [List.set_cons_succ]
        try simp only [List.set_cons_zero]
        refine wpAnyH_take (i := 1) (v := (.bool false)) rfl (by kernel_rfl) (by kernel_rfl) (by kernel_rfl) (fun _ _ _ h => h) (Or.inl ⟨by rfl, ?_⟩) (by assumption) ?_
        · intro w hSw
          (try dsimp only at hSw)
          go_simp
        try simp only [List.getElem_toArray]
        try simp only [List.getElem_cons_succ]
        try simp only [List.getElem_cons_zero]
        try simp only [Act.put]
        try simp only [List.setIfInBounds_toArray]
        try simp only [List.set_cons_succ]
        try simp only [List.set_cons_zero]
        refine wpAnyH_take (i := 2) (v := (.bool false)) rfl (by kernel_rfl) (by kernel_rfl) (by kernel_rfl) (fun _ _ _ h => h) (Or.inl ⟨by rfl, ?_⟩) (by assumption) ?_
        · intro w hSw
          (try dsimp only at hSw)
          go_simp
        try simp only [List.getElem_toArray]
        try simp only [List.getElem_cons_succ]
        try simp only [List.getElem_cons_zero]
        try simp only [Act.put]
        try simp only [List.setIfInBounds_toArray]
        try simp only [List.set_cons_succ]
        try simp only [List.set_cons_zero]
        refine take_noR (i := 3) rfl (by kernel_rfl) (by kernel_rfl) (by kernel_rfl) (fun _ _ _ h => h) (by rfl) (by assumption) ?_
        try simp only [List.getElem_toArray]
        try simp only [List.getElem_cons_succ]
        try simp only [List.getElem_cons_zero]
        try simp only [Act.put]
        try simp only [List.setIfInBounds_toArray]
        try simp only [List.set_cons_succ]
        try simp only [List.set_cons_zero]
        refine take_noR (i := 4) rfl (by kernel_rfl) (by kernel_rfl) (by kernel_rfl) (fun _ _ _ h => h) (by rfl) (by assumption) ?_
        try simp only [List.getElem_toArray]
        try simp only [List.getElem_cons_succ]
        try simp only [List.getElem_cons_zero]
        try simp only [Act.put]
        try simp only [List.setIfInBounds_toArray]
        try simp only [List.set_cons_succ]
        try simp only [List.set_cons_zero]
        refine take_noR (i := 5) rfl (by kernel_rfl) (by kernel_rfl) (by kernel_rfl) (fun _ _ _ h => h) (by rfl) (by assumption) ?_
        try simp only [List.getElem_toArray]
        try simp only [List.getElem_cons_succ]
        try simp only [List.getElem_cons_zero]
        try simp only [Act.put]
        try simp only [List.setIfInBounds_toArray]
        try simp only [List.set_cons_succ]
        try simp only [List.set_cons_zero]
        refine take_noR (i := 6) rfl (by kernel_rfl) (by kernel_rfl) (by kernel_rfl) (fun _ _ _ h => h) (by rfl) (by assumption) ?_
        try simp only [List.getElem_toArray]
        try simp only [List.getElem_cons_succ]
        try simp only [List.getElem_cons_zero]
        try simp only [Act.put]
        try simp only [List.setIfInBounds_toArray]
        try simp only [List.set_cons_succ]
        try simp only [List.set_cons_zero]
        refine take_noR (i := 7) rfl (by kernel_rfl) (by kernel_rfl) (by kernel_rfl) (fun _ _ _ h => h) (by rfl) (by assumption) ?_
        try simp only [List.getElem_toArray]
        try simp only [List.getElem_cons_succ]
        try simp only [List.getElem_cons_zero]
        try simp only [Act.put]
        try simp only [List.setIfInBounds_toArray]
        try simp only [List.set_cons_succ]
        try simp only [List.set_cons_zero]
        refine wpAnyH_take (i := 8) (v := (.bool false)) rfl (by kernel_rfl) (by kernel_rfl) (by kernel_rfl) (fun _ _ _ h => h) (Or.inl ⟨by rfl, ?_⟩) (by assumption) ?_
        · intro w hSw
          (try dsimp only at hSw)
          go_simp
        try simp only [List.getElem_toArray]
        try simp only [List.getElem_cons_succ]
        try simp only [List.getElem_cons_zero]
        try simp only [Act.put]
        try simp only [List.setIfInBounds_toArray]
        try simp only [List.set_cons_succ]
        try simp only [List.set_cons_zero]
        refine wpAnyH_done (by kernel_rfl) ?_ _
        refine NoPanic.normal ?_
        go_wp2
        go_roundw
        case rel => exact ⟨5, by omega, by omega, by go_num, X2⟩
        case measure => simp [intOf]
      · rw [kp_5] at X1
        have hkr := kOf_range m
        generalize kOf m = K at *
        obtain ⟨ba, bn, bc, q1, hcv, hR, hbC, -⟩ := conv_ex s wr hs
        have X2 := hid (X1.out.below hbC)
        have R1 := hid hR
        clear hR hbC X1
        have HG1 : Hid ((gt (bytesOf s) 1).2 ≤ 9223372036854775807) := by have h1 := gt_hi (bytesOf s) HY.out 1; have h2 := HBL.out; show _ ≤ _; omega
        go_wp2_with fail
        refine (specGetText_any ba bn bc (bytesOf s) 1 _ R1.out (by omega)).mono ?_
        rintro e w2 ⟨rfl, hb⟩
        have X3 := hid (X2.out.below hb)
        clear hb X2 R1 hcv
        obtain ⟨ca, cn, cc, q2, hcv, hR, hbC, -⟩ := conv_ex s w2 hs
        have X4 := hid (X3.out.below hbC)
        have R2 := hid hR
        clear hR hbC X3
        have C2 := hid (specGetText_any ca cn cc (bytesOf s) (gt (bytesOf s) 1).2 q2 R2.out HG1.out)
        generalize strOf (gt (bytesOf s) (gt (bytesOf s) 1).2).1 = two at *
        generalize (gt (bytesOf s) (gt (bytesOf s) 1).2).2 = at2 at *
        generalize strOf (gt (bytesOf s) 1).1 = one at *
        generalize (gt (bytesOf s) 1).2 = at1 at *
        go_wp2_with fail
        refine C2.out.mono ?_
        rintro e w3 ⟨rfl, hb⟩
        have X5 := hid (X4.out.below hb)
        clear hb X4 R2 hcv C2 HG1
        by_cases hK2 : 2 < K
        · have P1 : Hid (Bk ((w3.setCell ⟨w.heap.size + 1, 3, none⟩ (.string one)).setCell ⟨w.heap.size + 1, 4, none⟩ (.string two)) w.heap.size 30 [.int .i64 0, .string ⟨#[]⟩, .string ⟨#[]⟩, .string ⟨#[]⟩, .string ⟨#[]⟩]) := ((X5.out.k1.setOther (by omega) _ _).setOther (by omega) _ _)
          have P2 : Hid (Bk ((w3.setCell ⟨w.heap.size + 1, 3, none⟩ (.string one)).setCell ⟨w.heap.size + 1, 4, none⟩ (.string two)) (w.heap.size + 1) 30 [.int .i64 K, .string ⟨#[]⟩, .string ⟨#[]⟩, .string one, .string two]) := ((X5.out.k2.set 3 (.string one)).set 4 (.string two))
          have PB : Hid (Below w.heap.size w ((w3.setCell ⟨w.heap.size + 1, 3, none⟩ (.string one)).setCell ⟨w.heap.size + 1, 4, none⟩ (.string two))) := (Below.setCell (p := ⟨w.heap.size + 1, 4, none⟩) (Below.setCell (p := ⟨w.heap.size + 1, 3, none⟩) X5.out.bel (Nat.le_succ _) (.string one)) (Nat.le_succ _) (.string two))
          have y0 := X5.out.k2.cell (j := 0) rfl
          have y1 := X5.out.k2.cell (j := 1) rfl
          have y2 := X5.out.k2.cell (j := 2) rfl
          have y3 := X5.out.k2.cell (j := 3) rfl
          have y4 := X5.out.k2.cell (j := 4) rfl
          have g0 := X5.out.k2.free 0
          have g1 := X5.out.k2.free 1
          have g2 := X5.out.k2.free 2
          have g3 := X5.out.k2.free 3
          have g4 := X5.out.k2.free 4
          have z0 := X5.out.k1.cell (j := 0) rfl
          have z1 := X5.out.k1.cell (j := 1) rfl
          have z2 := X5.out.k1.cell (j := 2) rfl
          have z3 := X5.out.k1.cell (j := 3) rfl
          have z4 := X5.out.k1.cell (j := 4) rfl
          have f0 := X5.out.k1.free 0
          have f1 := X5.out.k1.free 1
          have f2 := X5.out.k1.free 2
          have f3 := X5.out.k1.free 3
          have f4 := X5.out.k1.free 4
          have d1 : ¬ w.heap.size = w.heap.size + 1 := by omega
          have d2 : ¬ w.heap.size + 1 = w.heap.size := by omega
          clear X5
          have HV : Hid (trV s = (rc0, false)) := by show _ = _; rw [HD.out, if_neg (fun h => h.1 he)]
          go_wp2
          try simp only [Exit.inBlock, Exit.then]
          refine bodyPost_ret (v := .tuple #[.agg #[.int .i64 0, .string ⟨#[]⟩, .string ⟨#[]⟩, .string ⟨#[]⟩, .string ⟨#[]⟩], .bool false]) ?_ rfl ?_
          · exact results_rec_bool rfl _ _ _ rfl rfl (by go_simp) (by go_simp) (by go_simp) (by go_simp) (by go_simp)
          · exact ⟨by rw [HV.out]; rfl, (Below.setCell (p := ⟨w.heap.size, 4, none⟩) (Below.setCell (p := ⟨w.heap.size, 3, none⟩) (Below.setCell (p := ⟨w.heap.size, 2, none⟩) (Below.setCell (p := ⟨w.heap.size, 1, none⟩) (Below.setCell (p := ⟨w.heap.size, 0, none⟩) PB.out (Nat.le_refl _) _) (Nat.le_refl _) _) (Nat.le_refl _) _) (Nat.le_refl _) _) (Nat.le_refl _) _)⟩
        · by_cases hK1 : K = 1
          · have hK3 : (K == 1) = true := by simp [hK1]
            have HK1 := hid hK1
            clear hK1
            have P1 : Hid (Bk ((w3.setCell ⟨w.heap.size + 1, 1, none⟩ (.string one)).setCell ⟨w.heap.size + 1, 2, none⟩ (.string two)) w.heap.size 30 [.int .i64 0, .string ⟨#[]⟩, .string ⟨#[]⟩, .string ⟨#[]⟩, .string ⟨#[]⟩]) := ((X5.out.k1.setOther (by omega) _ _).setOther (by omega) _ _)
            have P2 : Hid (Bk ((w3.setCell ⟨w.heap.size + 1, 1, none⟩ (.string one)).setCell ⟨w.heap.size + 1, 2, none⟩ (.string two)) (w.heap.size + 1) 30 [.int .i64 K, .string one, .string two, .string ⟨#[]⟩, .string ⟨#[]⟩]) := ((X5.out.k2.set 1 (.string one)).set 2 (.string two))
            have PB : Hid (Below w.heap.size w ((w3.setCell ⟨w.heap.size + 1, 1, none⟩ (.string one)).setCell ⟨w.heap.size + 1, 2, none⟩ (.string two))) := (Below.setCell (p := ⟨w.heap.size + 1, 2, none⟩) (Below.setCell (p := ⟨w.heap.size + 1, 1, none⟩) X5.out.bel (Nat.le_succ _) (.string one)) (Nat.le_succ _) (.string two))
            have y0 := X5.out.k2.cell (j := 0) rfl
            have y1 := X5.out.k2.cell (j := 1) rfl
            have y2 := X5.out.k2.cell (j := 2) rfl
            have y3 := X5.out.k2.cell (j := 3) rfl
            have y4 := X5.out.k2.cell (j := 4) rfl
            have g0 := X5.out.k2.free 0
            have g1 := X5.out.k2.free 1
            have g2 := X5.out.k2.free 2
            have g3 := X5.out.k2.free 3
            have g4 := X5.out.k2.free 4
            have z0 := X5.out.k1.cell (j := 0) rfl
            have z1 := X5.out.k1.cell (j := 1) rfl
            have z2 := X5.out.k1.cell (j := 2) rfl
            have z3 := X5.out.k1.cell (j := 3) rfl
            have z4 := X5.out.k1.cell (j := 4) rfl
            have f0 := X5.out.k1.free 0
            have f1 := X5.out.k1.free 1
            have f2 := X5.out.k1.free 2
            have f3 := X5.out.k1.free 3
            have f4 := X5.out.k1.free 4
            have d1 : ¬ w.heap.size = w.heap.size + 1 := by omega
            have d2 : ¬ w.heap.size + 1 = w.heap.size := by omega
            clear X5
            have HV : Hid (trV s = (rc0, false)) := by show _ = _; rw [HD.out, if_neg (fun h => h.1 he)]
            go_wp2
            try simp only [Exit.inBlock, Exit.then]
            refine bodyPost_ret (v := .tuple #[.agg #[.int .i64 0, .string ⟨#[]⟩, .string ⟨#[]⟩, .string ⟨#[]⟩, .string ⟨#[]⟩], .bool false]) ?_ rfl ?_
            · exact results_rec_bool rfl _ _ _ rfl rfl (by go_simp) (by go_simp) (by go_simp) (by go_simp) (by go_simp)
            · exact ⟨by rw [HV.out]; rfl, (Below.setCell (p := ⟨w.heap.size, 4, none⟩) (Below.setCell (p := ⟨w.heap.size, 3, none⟩) (Below.setCell (p := ⟨w.heap.size, 2, none⟩) (Below.setCell (p := ⟨w.heap.size, 1, none⟩) (Below.setCell (p := ⟨w.heap.size, 0, none⟩) PB.out (Nat.le_refl _) _) (Nat.le_refl _) _) (Nat.le_refl _) _) (Nat.le_refl _) _) (Nat.le_refl _) _)⟩
          · have hK3 : (K == 1) = false := by simpa using hK1
            have P1 : Hid (Bk (w3.setCell ⟨w.heap.size + 1, 1, none⟩ (.string one)) w.heap.size 30 [.int .i64 0, .string ⟨#[]⟩, .string ⟨#[]⟩, .string ⟨#[]⟩, .string ⟨#[]⟩]) := (X5.out.k1.setOther (by omega) _ _)
            have P2 : Hid (Bk (w3.setCell ⟨w.heap.size + 1, 1, none⟩ (.string one)) (w.heap.size + 1) 30 [.int .i64 K, .string one, .string ⟨#[]⟩, .string ⟨#[]⟩, .string ⟨#[]⟩]) := (X5.out.k2.set 1 (.string one))
            have PB : Hid (Below w.heap.size w (w3.setCell ⟨w.heap.size + 1, 1, none⟩ (.string one))) := (Below.setCell (p := ⟨w.heap.size + 1, 1, none⟩) X5.out.bel (Nat.le_succ _) (.string one))
            have y0 := X5.out.k2.cell (j := 0) rfl
            have y1 := X5.out.k2.cell (j := 1) rfl
            have y2 := X5.out.k2.cell (j := 2) rfl
            have y3 := X5.out.k2.cell (j := 3) rfl
            have y4 := X5.out.k2.cell (j := 4) rfl
            have g0 := X5.out.k2.free 0
            have g1 := X5.out.k2.free 1
            have g2 := X5.out.k2.free 2
            have g3 := X5.out.k2.free 3
            have g4 := X5.out.k2.free 4
            have z0 := X5.out.k1.cell (j := 0) rfl
            have z1 := X5.out.k1.cell (j := 1) rfl
            have z2 := X5.out.k1.cell (j := 2) rfl
            have z3 := X5.out.k1.cell (j := 3) rfl
            have z4 := X5.out.k1.cell (j := 4) rfl
            have f0 := X5.out.k1.free 0
            have f1 := X5.out.k1.free 1
            have f2 := X5.out.k1.free 2
            have f3 := X5.out.k1.free 3
            have f4 := X5.out.k1.free 4
            have d1 : ¬ w.heap.size = w.heap.size + 1 := by omega
            have d2 : ¬ w.heap.size + 1 = w.heap.size := by omega
            clear X5
            have HV : Hid (trV s = (rc0, false)) := by show _ = _; rw [HD.out, if_neg (fun h => h.1 he)]
            go_wp2
            try simp only [Exit.inBlock, Exit.then]
            refine bodyPost_ret (v := .tuple #[.agg #[.int .i64 0, .string ⟨#[]⟩, .string ⟨#[]⟩, .string ⟨#[]⟩, .string ⟨#[]⟩], .bool false]) ?_ rfl ?_
            · exact results_rec_bool rfl _ _ _ rfl rfl (by go_simp) (by go_simp) (by go_simp) (by go_simp) (by go_simp)
            · exact ⟨by rw [HV.out]; rfl, (Below.setCell (p := ⟨w.heap.size, 4, none⟩) (Below.setCell (p := ⟨w.heap.size, 3, none⟩) (Below.setCell (p := ⟨w.heap.size, 2, none⟩) (Below.setCell (p := ⟨w.heap.size, 1, none⟩) (Below.setCell (p := ⟨w.heap.size, 0, none⟩) PB.out (Nat.le_refl _) _) (Nat.le_refl _) _) (Nat.le_refl _) _) (Nat.le_refl _) _) (Nat.le_refl _) _)⟩
    · have he2 : s.toList.isEmpty = false := by simpa using he
      have hpos : 0 < s.size := by
        rcases Nat.eq_zero_or_pos s.size with h | h
        · exfalso
          apply he
          rw [ByteArray.toList_eq]
          exact List.eq_nil_of_length_eq_zero (by simpa using h)
        · exact h
      have hpos' : (0 : Int) < (s.size : Int) := by omega
      have hmm := HM.out hpos
      have HMM := hid hmm
      clear hmm HM HM0
      rcases hkk with rfl | rfl | rfl | rfl | rfl
      · have hix : (((⟨#[32, 119, 103, 115, 120]⟩ : ByteArray)[1]'(by decide)).toNat : Int) = 119 := rfl
        by_cases hm : m = 119
        · have hx : (((s[0]'hpos).toNat : Int) == 119) = true := by rw [HMM.out]; simp [hm]
          have X2 := hid ((X1.out.set 1).below (below_drew _))
          have HK : Hid (kp 2 m = 1) := by rw [hm]; exact kp_hit1
          have y0 := X1.out.k2.cell (j := 0) rfl
          have g0 := X1.out.k2.free 0
          clear X1 HMM hm
          go_wp2_with fail
          refine wp_region_noPanic ?_
          refine wp_region_held_drew (S := fun _ => True) (by kernel_rfl) (trivial) (fun hHeld => ?_)
          simp only [List.size_toArray, List.length_cons, List.length_nil, Array.replicate_succ, Array.replicate_zero, Nat.reduceAdd, List.push_toArray, List.nil_append, List.cons_append]
          refine wpAnyH_take (i := 0) (v := (.string s)) rfl (by kernel_rfl) (by kernel_rfl) (by kernel_rfl) (fun _ _ _ h => h) (Or.inl ⟨by rfl, ?_⟩) (by assumption) ?_
          · intro w hSw
            (try dsimp only at hSw)
            go_simp
          try simp only [List.getElem_toArray]
          try simp only [List.getElem_cons_succ]
          try simp only [List.getElem_cons_zero]
          try simp only [Act.put]
          try simp only [List.setIfInBounds_toArray]
          try simp only [List.set_cons_succ]
          try simp only [List.set_cons_zero]
          refine wpAnyH_take (i := 1) (v := (.bool true)) rfl (by kernel_rfl) (by kernel_rfl) (by kernel_rfl) (fun _ _ _ h => h) (Or.inl ⟨by rfl, ?_⟩) (by assumption) ?_
          · intro w hSw
            (try dsimp only at hSw)
            go_simp
          try simp only [List.getElem_toArray]
          try simp only [List.getElem_cons_succ]
          try simp only [List.getElem_cons_zero]
          try simp only [Act.put]
          try simp only [List.setIfInBounds_toArray]
          try simp only [List.set_cons_succ]
          try simp only [List.set_cons_zero]
          refine wpAnyH_take (i := 2) (v := (.bool true)) rfl (by kernel_rfl) (by kernel_rfl) (by kernel_rfl) (fun _ _ _ h => h) (Or.inl ⟨by rfl, ?_⟩) (by assumption) ?_
          · intro w hSw
            (try dsimp only at hSw)
            go_simp
          try simp only [List.getElem_toArray]
          try simp only [List.getElem_cons_succ]
          try simp only [List.getElem_cons_zero]
          try simp only [Act.put]
          try simp only [List.setIfInBounds_toArray]
          try simp only [List.set_cons_succ]
          try simp only [List.set_cons_zero]
          refine wpAnyH_take (i := 3) (v := (.string s)) rfl (by kernel_rfl) (by kernel_rfl) (by kernel_rfl) (fun _ _ _ h => h) (Or.inl ⟨by rfl, ?_⟩) (by assumption) ?_
          · intro w hSw
            (try dsimp only at hSw)
            go_simp
          try simp only [List.getElem_toArray]
          try simp only [List.getElem_cons_succ]
          try simp only [List.getElem_cons_zero]
          try simp only [Act.put]
          try simp only [List.setIfInBounds_toArray]
          try simp only [List.set_cons_succ]
          try simp only [List.set_cons_zero]
          refine wpAnyH_take (i := 4) (v := (.int .u8 ((s[0]'hpos).toNat : Int))) rfl (by kernel_rfl) (by kernel_rfl) (by kernel_rfl) (fun _ _ _ h => h) (Or.inl ⟨by rfl, ?_⟩) (by assumption) ?_
          · intro w hSw
            (try dsimp only at hSw)
            go_simp
          try simp only [List.getElem_toArray]
          try simp only [List.getElem_cons_succ]
          try simp only [List.getElem_cons_zero]
          try simp only [Act.put]
          try simp only [List.setIfInBounds_toArray]
          try simp only [List.set_cons_succ]
          try simp only [List.set_cons_zero]
          refine wpAnyH_take (i := 5) (v := (.int .i64 1)) rfl (by kernel_rfl) (by kernel_rfl) (by kernel_rfl) (fun _ _ _ h => h) (Or.inl ⟨by rfl, ?_⟩) (by assumption) ?_
          · intro w hSw
            (try dsimp only at hSw)
            go_simp
          try simp only [List.getElem_toArray]
          try simp only [List.getElem_cons_succ]
          try simp only [List.getElem_cons_zero]
          try simp only [Act.put]
          try simp only [List.setIfInBounds_toArray]
          try simp only [List.set_cons_succ]
          try simp only [List.set_cons_zero]
          refine wpAnyH_take (i := 6) (v := (.int .u8 119)) rfl (by kernel_rfl) (by kernel_rfl) (by kernel_rfl) (fun _ _ _ h => h) (Or.inl ⟨by rfl, ?_⟩) (by assumption) ?_
          · intro w hSw
            (try dsimp only at hSw)
            go_simp
          try simp only [List.getElem_toArray]
          try simp only [List.getElem_cons_succ]
          try simp only [List.getElem_cons_zero]
          try simp only [Act.put]
          try simp only [List.setIfInBounds_toArray]
          try simp only [List.set_cons_succ]
          try simp only [List.set_cons_zero]
          refine wpAnyH_take (i := 7) (v := (.bool true)) rfl (by kernel_rfl) (by kernel_rfl) (by kernel_rfl) (fun _ _ _ h => h) (Or.inl ⟨by rfl, ?_⟩) (by assumption) ?_
          · intro w hSw
            (try dsimp only at hSw)
            go_simp
          try simp only [List.getElem_toArray]
          try simp only [List.getElem_cons_succ]
          try simp only [List.getElem_cons_zero]
          try simp only [Act.put]
          try simp only [List.setIfInBounds_toArray]
          try simp only [List.set_cons_succ]
          try simp only [List.set_cons_zero]
          refine wpAnyH_take (i := 8) (v := (.bool true)) rfl (by kernel_rfl) (by kernel_rfl) (by kernel_rfl) (fun _ _ _ h => h) (Or.inl ⟨by rfl, ?_⟩) (by assumption) ?_
          · intro w hSw
            (try dsimp only at hSw)
            go_simp
          try simp only [List.getElem_toArray]
          try simp only [List.getElem_cons_succ]
          try simp only [List.getElem_cons_zero]
          try simp only [Act.put]
          try simp only [List.setIfInBounds_toArray]
          try simp only [List.set_cons_succ]
          try simp only [List.set_cons_zero]
          refine wpAnyH_done (by kernel_rfl) ?_ _
          refine NoPanic.normal ?_
          go_wp2
          go_roundw
          case rel => exact ⟨2, by omega, by omega, by go_num, by rw [HK.out]; exact X2⟩
          case measure => simp [intOf]
        · have hx : (((s[0]'hpos).toNat : Int) == 119) = false := by rw [HMM.out]; simpa using hm
          have X2 := hid (X1.out.below (below_drew _))
          have HK : Hid (kp 2 m = kp 1 m) := kp_no1 hm
          rw [← HK.out] at X2
          clear X1 HMM hm
          go_wp2_with fail
          refine wp_region_noPanic ?_
          refine wp_region_held_drew (S := fun _ => True) (by kernel_rfl) (trivial) (fun hHeld => ?_)
          simp only [List.size_toArray, List.length_cons, List.length_nil, Array.replicate_succ, Array.replicate_zero, Nat.reduceAdd, List.push_toArray, List.nil_append, List.cons_append]
          refine wpAnyH_take (i := 0) (v := (.string s)) rfl (by kernel_rfl) (by kernel_rfl) (by kernel_rfl) (fun _ _ _ h => h) (Or.inl ⟨by rfl, ?_⟩) (by assumption) ?_
          · intro w hSw
            (try dsimp only at hSw)
            go_simp
          try simp only [List.getElem_toArray]
          try simp only [List.getElem_cons_succ]
          try simp only [List.getElem_cons_zero]
          try simp only [Act.put]
          try simp only [List.setIfInBounds_toArray]
          try simp only [List.set_cons_succ]
          try simp only [List.set_cons_zero]
          refine wpAnyH_take (i := 1) (v := (.bool true)) rfl (by kernel_rfl) (by kernel_rfl) (by kernel_rfl) (fun _ _ _ h => h) (Or.inl ⟨by rfl, ?_⟩) (by assumption) ?_
          · intro w hSw
            (try dsimp only at hSw)
            go_simp
          try simp only [List.getElem_toArray]
          try simp only [List.getElem_cons_succ]
          try simp only [List.getElem_cons_zero]
          try simp only [Act.put]
          try simp only [List.setIfInBounds_toArray]
          try simp only [List.set_cons_succ]
          try simp only [List.set_cons_zero]
          refine wpAnyH_take (i := 2) (v := (.bool true)) rfl (by kernel_rfl) (by kernel_rfl) (by kernel_rfl) (fun _ _ _ h => h) (Or.inl ⟨by rfl, ?_⟩) (by assumption) ?_
          · intro w hSw
            (try dsimp only at hSw)
            go_simp
          try simp only [List.getElem_toArray]
          try simp only [List.getElem_cons_succ]
          try simp only [List.getElem_cons_zero]
          try simp only [Act.put]
          try simp only [List.setIfInBounds_toArray]
          try simp only [List.set_cons_succ]
          try simp only [List.set_cons_zero]
          refine wpAnyH_take (i := 3) (v := (.string s)) rfl (by kernel_rfl) (by kernel_rfl) (by kernel_rfl) (fun _ _ _ h => h) (Or.inl ⟨by rfl, ?_⟩) (by assumption) ?_
          · intro w hSw
            (try dsimp only at hSw)
            go_simp
          try simp only [List.getElem_toArray]
          try simp only [List.getElem_cons_succ]
          try simp only [List.getElem_cons_zero]
          try simp only [Act.put]
          try simp only [List.setIfInBounds_toArray]
          try simp only [List.set_cons_succ]
          try simp only [List.set_cons_zero]
          refine wpAnyH_take (i := 4) (v := (.int .u8 ((s[0]'hpos).toNat : Int))) rfl (by kernel_rfl) (by kernel_rfl) (by kernel_rfl) (fun _ _ _ h => h) (Or.inl ⟨by rfl, ?_⟩) (by assumption) ?_
          · intro w hSw
            (try dsimp only at hSw)
            go_simp
          try simp only [List.getElem_toArray]
          try simp only [List.getElem_cons_succ]
          try simp only [List.getElem_cons_zero]
          try simp only [Act.put]
          try simp only [List.setIfInBounds_toArray]
          try simp only [List.set_cons_succ]
          try simp only [List.set_cons_zero]
          refine wpAnyH_take (i := 5) (v := (.int .i64 1)) rfl (by kernel_rfl) (by kernel_rfl) (by kernel_rfl) (fun _ _ _ h => h) (Or.inl ⟨by rfl, ?_⟩) (by assumption) ?_
          · intro w hSw
            (try dsimp only at hSw)
            go_simp
          try simp only [List.getElem_toArray]
          try simp only [List.getElem_cons_succ]
          try simp only [List.getElem_cons_zero]
          try simp only [Act.put]
          try simp only [List.setIfInBounds_toArray]
          try simp only [List.set_cons_succ]
          try simp only [List.set_cons_zero]
          refine wpAnyH_take (i := 6) (v := (.int .u8 119)) rfl (by kernel_rfl) (by kernel_rfl) (by kernel_rfl) (fun _ _ _ h => h) (Or.inl ⟨by rfl, ?_⟩) (by assumption) ?_
          · intro w hSw
            (try dsimp only at hSw)
            go_simp
          try simp only [List.getElem_toArray]
          try simp only [List.getElem_cons_succ]
          try simp only [List.getElem_cons_zero]
          try simp only [Act.put]
          try simp only [List.setIfInBounds_toArray]
          try simp only [List.set_cons_succ]
          try simp only [List.set_cons_zero]
          refine wpAnyH_take (i := 7) (v := (.bool false)) rfl (by kernel_rfl) (by kernel_rfl) (by kernel_rfl) (fun _ _ _ h => h) (Or.inl ⟨by rfl, ?_⟩) (by assumption) ?_
          · intro w hSw
            (try dsimp only at hSw)
            go_simp
          try simp only [List.getElem_toArray]
          try simp only [List.getElem_cons_succ]
          try simp only [List.getElem_cons_zero]
          try simp only [Act.put]
          try simp only [List.setIfInBounds_toArray]
          try simp only [List.set_cons_succ]
          try simp only [List.set_cons_zero]
          refine wpAnyH_take (i := 8) (v := (.bool false)) rfl (by kernel_rfl) (by kernel_rfl) (by kernel_rfl) (fun _ _ _ h => h) (Or.inl ⟨by rfl, ?_⟩) (by assumption) ?_
          · intro w hSw
            (try dsimp only at hSw)
            go_simp
          try simp only [List.getElem_toArray]
          try simp only [List.getElem_cons_succ]
          try simp only [List.getElem_cons_zero]
          try simp only [Act.put]
          try simp only [List.setIfInBounds_toArray]
          try simp only [List.set_cons_succ]
          try simp only [List.set_cons_zero]
          refine wpAnyH_done (by kernel_rfl) ?_ _
          refine NoPanic.normal ?_
          go_wp2
          go_roundw
          case rel => exact ⟨2, by omega, by omega, by go_num, X2⟩
          case measure => simp [intOf]
      · have hix : (((⟨#[32, 119, 103, 115, 120]⟩ : ByteArray)[2]'(by decide)).toNat : Int) = 103 := rfl
        by_cases hm : m = 103
        · have hx : (((s[0]'hpos).toNat : Int) == 103) = true := by rw [HMM.out]; simp [hm]
          have X2 := hid ((X1.out.set 2).below (below_drew _))
          have HK : Hid (kp 3 m = 2) := by rw [hm]; exact kp_hit2
          have y0 := X1.out.k2.cell (j := 0) rfl
          have g0 := X1.out.k2.free 0
          clear X1 HMM hm
          go_wp2_with fail
          refine wp_region_noPanic ?_
          refine wp_region_held_drew (S := fun _ => True) (by kernel_rfl) (trivial) (fun hHeld => ?_)
          simp only [List.size_toArray, List.length_cons, List.length_nil, Array.replicate_succ, Array.replicate_zero, Nat.reduceAdd, List.push_toArray, List.nil_append, List.cons_append]
          refine wpAnyH_take (i := 0) (v := (.string s)) rfl (by kernel_rfl) (by kernel_rfl) (by kernel_rfl) (fun _ _ _ h => h) (Or.inl ⟨by rfl, ?_⟩) (by assumption) ?_
          · intro w hSw
            (try dsimp only at hSw)
            go_simp
          try simp only [List.getElem_toArray]
          try simp only [List.getElem_cons_succ]
          try simp only [List.getElem_cons_zero]
          try simp only [Act.put]
          try simp only [List.setIfInBounds_toArray]
          try simp only [List.set_cons_succ]
          try simp only [List.set_cons_zero]
          refine wpAnyH_take (i := 1) (v := (.bool true)) rfl (by kernel_rfl) (by kernel_rfl) (by kernel_rfl) (fun _ _ _ h => h) (Or.inl ⟨by rfl, ?_⟩) (by assumption) ?_
          · intro w hSw
            (try dsimp only at hSw)
            go_simp
          try simp only [List.getElem_toArray]
          try simp only [List.getElem_cons_succ]
          try simp only [List.getElem_cons_zero]
          try simp only [Act.put]
          try simp only [List.setIfInBounds_toArray]
          try simp only [List.set_cons_succ]
          try simp only [List.set_cons_zero]
          refine wpAnyH_take (i := 2) (v := (.bool true)) rfl (by kernel_rfl) (by kernel_rfl) (by kernel_rfl) (fun _ _ _ h => h) (Or.inl ⟨by rfl, ?_⟩) (by assumption) ?_
          · intro w hSw
            (try dsimp only at hSw)
            go_simp
          try simp only [List.getElem_toArray]
          try simp only [List.getElem_cons_succ]
          try simp only [List.getElem_cons_zero]
          try simp only [Act.put]
          try simp only [List.setIfInBounds_toArray]
          try simp only [List.set_cons_succ]
          try simp only [List.set_cons_zero]
          refine wpAnyH_take (i := 3) (v := (.string s)) rfl (by kernel_rfl) (by kernel_rfl) (by kernel_rfl) (fun _ _ _ h => h) (Or.inl ⟨by rfl, ?_⟩) (by assumption) ?_
          · intro w hSw
            (try dsimp only at hSw)
            go_simp
          try simp only [List.getElem_toArray]
          try simp only [List.getElem_cons_succ]
          try simp only [List.getElem_cons_zero]
          try simp only [Act.put]
          try simp only [List.setIfInBounds_toArray]
          try simp only [List.set_cons_succ]
          try simp only [List.set_cons_zero]
          refine wpAnyH_take (i := 4) (v := (.int .u8 ((s[0]'hpos).toNat : Int))) rfl (by kernel_rfl) (by kernel_rfl) (by kernel_rfl) (fun _ _ _ h => h) (Or.inl ⟨by rfl, ?_⟩) (by assumption) ?_
          · intro w hSw
            (try dsimp only at hSw)
            go_simp
          try simp only [List.getElem_toArray]
          try simp only [List.getElem_cons_succ]
          try simp only [List.getElem_cons_zero]
          try simp only [Act.put]
          try simp only [List.setIfInBounds_toArray]
          try simp only [List.set_cons_succ]
          try simp only [List.set_cons_zero]
          refine wpAnyH_take (i := 5) (v := (.int .i64 2)) rfl (by kernel_rfl) (by kernel_rfl) (by kernel_rfl) (fun _ _ _ h => h) (Or.inl ⟨by rfl, ?_⟩) (by assumption) ?_
          · intro w hSw
            (try dsimp only at hSw)
            go_simp
          try simp only [List.getElem_toArray]
          try simp only [List.getElem_cons_succ]
          try simp only [List.getElem_cons_zero]
          try simp only [Act.put]
          try simp only [List.setIfInBounds_toArray]
          try simp only [List.set_cons_succ]
          try simp only [List.set_cons_zero]
          refine wpAnyH_take (i := 6) (v := (.int .u8 103)) rfl (by kernel_rfl) (by kernel_rfl) (by kernel_rfl) (fun _ _ _ h => h) (Or.inl ⟨by rfl, ?_⟩) (by assumption) ?_
          · intro w hSw
            (try dsimp only at hSw)
            go_simp
          try simp only [List.getElem_toArray]
          try simp only [List.getElem_cons_succ]
          try simp only [List.getElem_cons_zero]
          try simp only [Act.put]
          try simp only [List.setIfInBounds_toArray]
          try simp only [List.set_cons_succ]
          try simp only [List.set_cons_zero]
          refine wpAnyH_take (i := 7) (v := (.bool true)) rfl (by kernel_rfl) (by kernel_rfl) (by kernel_rfl) (fun _ _ _ h => h) (Or.inl ⟨by rfl, ?_⟩) (by assumption) ?_
          · intro w hSw
            (try dsimp only at hSw)
            go_simp
          try simp only [List.getElem_toArray]
          try simp only [List.getElem_cons_succ]
          try simp only [List.getElem_cons_zero]
          try simp only [Act.put]
          try simp only [List.setIfInBounds_toArray]
          try simp only [List.set_cons_succ]
          try simp only [List.set_cons_zero]
          refine wpAnyH_take (i := 8) (v := (.bool true)) rfl (by kernel_rfl) (by kernel_rfl) (by kernel_rfl) (fun _ _ _ h => h) (Or.inl ⟨by rfl, ?_⟩) (by assumption) ?_
          · intro w hSw
            (try dsimp only at hSw)
            go_simp
          try simp only [List.getElem_toArray]
          try simp only [List.getElem_cons_succ]
          try simp only [List.getElem_cons_zero]
          try simp only [Act.put]
          try simp only [List.setIfInBounds_toArray]
          try simp only [List.set_cons_succ]
          try simp only [List.set_cons_zero]
          refine wpAnyH_done (by kernel_rfl) ?_ _
          refine NoPanic.normal ?_
          go_wp2
          go_roundw
          case rel => exact ⟨3, by omega, by omega, by go_num, by rw [HK.out]; exact X2⟩
          case measure => simp [intOf]
        · have hx : (((s[0]'hpos).toNat : Int) == 103) = false := by rw [HMM.out]; simpa using hm
          have X2 := hid (X1.out.below (below_drew _))
          have HK : Hid (kp 3 m = kp 2 m) := kp_no2 hm
          rw [← HK.out] at X2
          clear X1 HMM hm
          go_wp2_with fail
          refine wp_region_noPanic ?_
          refine wp_region_held_drew (S := fun _ => True) (by kernel_rfl) (trivial) (fun hHeld => ?_)
          simp only [List.size_toArray, List.length_cons, List.length_nil, Array.replicate_succ, Array.replicate_zero, Nat.reduceAdd, List.push_toArray, List.nil_append, List.cons_append]
          refine wpAnyH_take (i := 0) (v := (.string s)) rfl (by kernel_rfl) (by kernel_rfl) (by kernel_rfl) (fun _ _ _ h => h) (Or.inl ⟨by rfl, ?_⟩) (by assumption) ?_
          · intro w hSw
            (try dsimp only at hSw)
            go_simp
          try simp only [List.getElem_toArray]
          try simp only [List.getElem_cons_succ]
          try simp only [List.getElem_cons_zero]
          try simp only [Act.put]
          try simp only [List.setIfInBounds_toArray]
          try simp only [List.set_cons_succ]
          try simp only [List.set_cons_zero]
          refine wpAnyH_take (i := 1) (v := (.bool true)) rfl (by kernel_rfl) (by kernel_rfl) (by kernel_rfl) (fun _ _ _ h => h) (Or.inl ⟨by rfl, ?_⟩) (by assumption) ?_
          · intro w hSw
            (try dsimp only at hSw)
            go_simp
          try simp only [List.getElem_toArray]
          try simp only [List.getElem_cons_succ]
          try simp only [List.getElem_cons_zero]
          try simp only [Act.put]
          try simp only [List.setIfInBounds_toArray]
          try simp only [List.set_cons_succ]
          try simp only [List.set_cons_zero]
          refine wpAnyH_take (i := 2) (v := (.bool true)) rfl (by kernel_rfl) (by kernel_rfl) (by kernel_rfl) (fun _ _ _ h => h) (Or.inl ⟨by rfl, ?_⟩) (by assumption) ?_
          · intro w hSw
            (try dsimp only at hSw)
            go_simp
          try simp only [List.getElem_toArray]
          try simp only [List.getElem_cons_succ]
          try simp only [List.getElem_cons_zero]
          try simp only [Act.put]
          try simp only [List.setIfInBounds_toArray]
          try simp only [List.set_cons_succ]
          try simp only [List.set_cons_zero]
          refine wpAnyH_take (i := 3) (v := (.string s)) rfl (by kernel_rfl) (by kernel_rfl) (by kernel_rfl) (fun _ _ _ h => h) (Or.inl ⟨by rfl, ?_⟩) (by assumption) ?_
          · intro w hSw
            (try dsimp only at hSw)
            go_simp
          try simp only [List.getElem_toArray]
          try simp only [List.getElem_cons_succ]
          try simp only [List.getElem_cons_zero]
          try simp only [Act.put]
          try simp only [List.setIfInBounds_toArray]
          try simp only [List.set_cons_succ]
          try simp only [List.set_cons_zero]
          refine wpAnyH_take (i := 4) (v := (.int .u8 ((s[0]'hpos).toNat : Int))) rfl (by kernel_rfl) (by kernel_rfl) (by kernel_rfl) (fun _ _ _ h => h) (Or.inl ⟨by rfl, ?_⟩) (by assumption) ?_
          · intro w hSw
            (try dsimp only at hSw)
            go_simp
          try simp only [List.getElem_toArray]
          try simp only [List.getElem_cons_succ]
          try simp only [List.getElem_cons_zero]
          try simp only [Act.put]
          try simp only [List.setIfInBounds_toArray]
          try simp only [List.set_cons_succ]
          try simp only [List.set_cons_zero]
          refine wpAnyH_take (i := 5) (v := (.int .i64 2)) rfl (by kernel_rfl) (by kernel_rfl) (by kernel_rfl) (fun _ _ _ h => h) (Or.inl ⟨by rfl, ?_⟩) (by assumption) ?_
          · intro w hSw
            (try dsimp only at hSw)
            go_simp
          try simp only [List.getElem_toArray]
          try simp only [List.getElem_cons_succ]
          try simp only [List.getElem_cons_zero]
          try simp only [Act.put]
          try simp only [List.setIfInBounds_toArray]
          try simp only [List.set_cons_succ]
          try simp only [List.set_cons_zero]
          refine wpAnyH_take (i := 6) (v := (.int .u8 103)) rfl (by kernel_rfl) (by kernel_rfl) (by kernel_rfl) (fun _ _ _ h => h) (Or.inl ⟨by rfl, ?_⟩) (by assumption) ?_
          · intro w hSw
            (try dsimp only at hSw)
            go_simp
          try simp only [List.getElem_toArray]
          try simp only [List.getElem_cons_succ]
          try simp only [List.getElem_cons_zero]
          try simp only [Act.put]
          try simp only [List.setIfInBounds_toArray]
          try simp only [List.set_cons_succ]
          try simp only [List.set_cons_zero]
          refine wpAnyH_take (i := 7) (v := (.bool false)) rfl (by kernel_rfl) (by kernel_rfl) (by kernel_rfl) (fun _ _ _ h => h) (Or.inl ⟨by rfl, ?_⟩) (by assumption) ?_
          · intro w hSw
            (try dsimp only at hSw)
            go_simp
          try simp only [List.getElem_toArray]
          try simp only [List.getElem_cons_succ]
          try simp only [List.getElem_cons_zero]
          try simp only [Act.put]
          try simp only [List.setIfInBounds_toArray]
          try simp only [List.set_cons_succ]
          try simp only [List.set_cons_zero]
          refine wpAnyH_take (i := 8) (v := (.bool false)) rfl (by kernel_rfl) (by kernel_rfl) (by kernel_rfl) (fun _ _ _ h => h) (Or.inl ⟨by rfl, ?_⟩) (by assumption) ?_
          · intro w hSw
            (try dsimp only at hSw)
            go_simp
          try simp only [List.getElem_toArray]
          try simp only [List.getElem_cons_succ]
          try simp only [List.getElem_cons_zero]
          try simp only [Act.put]
          try simp only [List.setIfInBounds_toArray]
          try simp only [List.set_cons_succ]
          try simp only [List.set_cons_zero]
          refine wpAnyH_done (by kernel_rfl) ?_ _
          refine NoPanic.normal ?_
          go_wp2
          go_roundw
          case rel => exact ⟨3, by omega, by omega, by go_num, X2⟩
          case measure => simp [intOf]
      · have hix : (((⟨#[32, 119, 103, 115, 120]⟩ : ByteArray)[3]'(by decide)).toNat : Int) = 115 := rfl
        by_cases hm : m = 115
        · have hx : (((s[0]'hpos).toNat : Int) == 115) = true := by rw [HMM.out]; simp [hm]
          have X2 := hid ((X1.out.set 3).below (below_drew _))
          have HK : Hid (kp 4 m = 3) := by rw [hm]; exact kp_hit3
          have y0 := X1.out.k2.cell (j := 0) rfl
          have g0 := X1.out.k2.free 0
          clear X1 HMM hm
          go_wp2_with fail
          refine wp_region_noPanic ?_
          refine wp_region_held_drew (S := fun _ => True) (by kernel_rfl) (trivial) (fun hHeld => ?_)
          simp only [List.size_toArray, List.length_cons, List.length_nil, Array.replicate_succ, Array.replicate_zero, Nat.reduceAdd, List.push_toArray, List.nil_append, List.cons_append]
          refine wpAnyH_take (i := 0) (v := (.string s)) rfl (by kernel_rfl) (by kernel_rfl) (by kernel_rfl) (fun _ _ _ h => h) (Or.inl ⟨by rfl, ?_⟩) (by assumption) ?_
          · intro w hSw
            (try dsimp only at hSw)
            go_simp
          try simp only [List.getElem_toArray]
          try simp only [List.getElem_cons_succ]
          try simp only [List.getElem_cons_zero]
          try simp only [Act.put]
          try simp only [List.setIfInBounds_toArray]
          try simp only [List.set_cons_succ]
          try simp only [List.set_cons_zero]
          refine wpAnyH_take (i := 1) (v := (.bool true)) rfl (by kernel_rfl) (by kernel_rfl) (by kernel_rfl) (fun _ _ _ h => h) (Or.inl ⟨by rfl, ?_⟩) (by assumption) ?_
          · intro w hSw
            (try dsimp only at hSw)
            go_simp
          try simp only [List.getElem_toArray]
          try simp only [List.getElem_cons_succ]
          try simp only [List.getElem_cons_zero]
          try simp only [Act.put]
          try simp only [List.setIfInBounds_toArray]
          try simp only [List.set_cons_succ]
          try simp only [List.set_cons_zero]
          refine wpAnyH_take (i := 2) (v := (.bool true)) rfl (by kernel_rfl) (by kernel_rfl) (by kernel_rfl) (fun _ _ _ h => h) (Or.inl ⟨by rfl, ?_⟩) (by assumption) ?_
          · intro w hSw
            (try dsimp only at hSw)
            go_simp
          try simp only [List.getElem_toArray]
          try simp only [List.getElem_cons_succ]
          try simp only [List.getElem_cons_zero]
          try simp only [Act.put]
          try simp only [List.setIfInBounds_toArray]
          try simp only [List.set_cons_succ]
          try simp only [List.set_cons_zero]
          refine wpAnyH_take (i := 3) (v := (.string s)) rfl (by kernel_rfl) (by kernel_rfl) (by kernel_rfl) (fun _ _ _ h => h) (Or.inl ⟨by rfl, ?_⟩) (by assumption) ?_
          · intro w hSw
            (try dsimp only at hSw)
            go_simp
          try simp only [List.getElem_toArray]
          try simp only [List.getElem_cons_succ]
          try simp only [List.getElem_cons_zero]
          try simp only [Act.put]
          try simp only [List.setIfInBounds_toArray]
          try simp only [List.set_cons_succ]
          try simp only [List.set_cons_zero]
          refine wpAnyH_take (i := 4) (v := (.int .u8 ((s[0]'hpos).toNat : Int))) rfl (by kernel_rfl) (by kernel_rfl) (by kernel_rfl) (fun _ _ _ h => h) (Or.inl ⟨by rfl, ?_⟩) (by assumption) ?_
          · intro w hSw
            (try dsimp only at hSw)
            go_simp
          try simp only [List.getElem_toArray]
          try simp only [List.getElem_cons_succ]
          try simp only [List.getElem_cons_zero]
          try simp only [Act.put]
          try simp only [List.setIfInBounds_toArray]
          try simp only [List.set_cons_succ]
          try simp only [List.set_cons_zero]
          refine wpAnyH_take (i := 5) (v := (.int .i64 3)) rfl (by kernel_rfl) (by kernel_rfl) (by kernel_rfl) (fun _ _ _ h => h) (Or.inl ⟨by rfl, ?_⟩) (by assumption) ?_
          · intro w hSw
            (try dsimp only at hSw)
            go_simp
          try simp only [List.getElem_toArray]
          try simp only [List.getElem_cons_succ]
          try simp only [List.getElem_cons_zero]
          try simp only [Act.put]
          try simp only [List.setIfInBounds_toArray]
          try simp only [List.set_cons_succ]
          try simp only [List.set_cons_zero]
          refine wpAnyH_take (i := 6) (v := (.int .u8 115)) rfl (by kernel_rfl) (by kernel_rfl) (by kernel_rfl) (fun _ _ _ h => h) (Or.inl ⟨by rfl, ?_⟩) (by assumption) ?_
          · intro w hSw
            (try dsimp only at hSw)
            go_simp
          try simp only [List.getElem_toArray]
          try simp only [List.getElem_cons_succ]
          try simp only [List.getElem_cons_zero]
          try simp only [Act.put]
          try simp only [List.setIfInBounds_toArray]
          try simp only [List.set_cons_succ]
          try simp only [List.set_cons_zero]
          refine wpAnyH_take (i := 7) (v := (.bool true)) rfl (by kernel_rfl) (by kernel_rfl) (by kernel_rfl) (fun _ _ _ h => h) (Or.inl ⟨by rfl, ?_⟩) (by assumption) ?_
          · intro w hSw
            (try dsimp only at hSw)
            go_simp
          try simp only [List.getElem_toArray]
          try simp only [List.getElem_cons_succ]
          try simp only [List.getElem_cons_zero]
          try simp only [Act.put]
          try simp only [List.setIfInBounds_toArray]
          try simp only [List.set_cons_succ]
          try simp only [List.set_cons_zero]
          refine wpAnyH_take (i := 8) (v := (.bool true)) rfl (by kernel_rfl) (by kernel_rfl) (by kernel_rfl) (fun _ _ _ h => h) (Or.inl ⟨by rfl, ?_⟩) (by assumption) ?_
          · intro w hSw
            (try dsimp only at hSw)
            go_simp
          try simp only [List.getElem_toArray]
          try simp only [List.getElem_cons_succ]
          try simp only [List.getElem_cons_zero]
          try simp only [Act.put]
          try simp only [List.setIfInBounds_toArray]
          try simp only [List.set_cons_succ]
          try simp only [List.set_cons_zero]
          refine wpAnyH_done (by kernel_rfl) ?_ _
          refine NoPanic.normal ?_
          go_wp2
          go_roundw
          case rel => exact ⟨4, by omega, by omega, by go_num, by rw [HK.out]; exact X2⟩
          case measure => simp [intOf]
        · have hx : (((s[0]'hpos).toNat : Int) == 115) = false := by rw [HMM.out]; simpa using hm
          have X2 := hid (X1.out.below (below_drew _))
          have HK : Hid (kp 4 m = kp 3 m) := kp_no3 hm
          rw [← HK.out] at X2
          clear X1 HMM hm
          go_wp2_with fail
          refine wp_region_noPanic ?_
          refine wp_region_held_drew (S := fun _ => True) (by kernel_rfl) (trivial) (fun hHeld => ?_)
          simp only [List.size_toArray, List.length_cons, List.length_nil, Array.replicate_succ, Array.replicate_zero, Nat.reduceAdd, List.push_toArray, List.nil_append, List.cons_append]
          refine wpAnyH_take (i := 0) (v := (.string s)) rfl (by kernel_rfl) (by kernel_rfl) (by kernel_rfl) (fun _ _ _ h => h) (Or.inl ⟨by rfl, ?_⟩) (by assumption) ?_
          · intro w hSw
            (try dsimp only at hSw)
            go_simp
          try simp only [List.getElem_toArray]
          try simp only [List.getElem_cons_succ]
          try simp only [List.getElem_cons_zero]
          try simp only [Act.put]
          try simp only [List.setIfInBounds_toArray]
          try simp only [List.set_cons_succ]
          try simp only [List.set_cons_zero]
          refine wpAnyH_take (i := 1) (v := (.bool true)) rfl (by kernel_rfl) (by kernel_rfl) (by kernel_rfl) (fun _ _ _ h => h) (Or.inl ⟨by rfl, ?_⟩) (by assumption) ?_
          · intro w hSw
            (try dsimp only at hSw)
            go_simp
          try simp only [List.getElem_toArray]
          try simp only [List.getElem_cons_succ]
          try simp only [List.getElem_cons_zero]
          try simp only [Act.put]
          try simp only [List.setIfInBounds_toArray]
          try simp only [List.set_cons_succ]
          try simp only [List.set_cons_zero]
          refine wpAnyH_take (i := 2) (v := (.bool true)) rfl (by kernel_rfl) (by kernel_rfl) (by kernel_rfl) (fun _ _ _ h => h) (Or.inl ⟨by rfl, ?_⟩) (by assumption) ?_
          · intro w hSw
            (try dsimp only at hSw)
            go_simp
          try simp only [List.getElem_toArray]
          try simp only [List.getElem_cons_succ]
          try simp only [List.getElem_cons_zero]
          try simp only [Act.put]
          try simp only [List.setIfInBounds_toArray]
          try simp only [List.set_cons_succ]
          try simp only [List.set_cons_zero]
          refine wpAnyH_take (i := 3) (v := (.string s)) rfl (by kernel_rfl) (by kernel_rfl) (by kernel_rfl) (fun _ _ _ h => h) (Or.inl ⟨by rfl, ?_⟩) (by assumption) ?_
          · intro w hSw
            (try dsimp only at hSw)
            go_simp
          try simp only [List.getElem_toArray]
          try simp only [List.getElem_cons_succ]
          try simp only [List.getElem_cons_zero]
          try simp only [Act.put]
          try simp only [List.setIfInBounds_toArray]
          try simp only [List.set_cons_succ]
          try simp only [List.set_cons_zero]
          refine wpAnyH_take (i := 4) (v := (.int .u8 ((s[0]'hpos).toNat : Int))) rfl (by kernel_rfl) (by kernel_rfl) (by kernel_rfl) (fun _ _ _ h => h) (Or.inl ⟨by rfl, ?_⟩) (by assumption) ?_
          · intro w hSw
            (try dsimp only at hSw)
            go_simp
          try simp only [List.getElem_toArray]
          try simp only [List.getElem_cons_succ]
          try simp only [List.getElem_cons_zero]
          try simp only [Act.put]
          try simp only [List.setIfInBounds_toArray]
          try simp only [List.set_cons_succ]
          try simp only [List.set_cons_zero]
          refine wpAnyH_take (i := 5) (v := (.int .i64 3)) rfl (by kernel_rfl) (by kernel_rfl) (by kernel_rfl) (fun _ _ _ h => h) (Or.inl ⟨by rfl, ?_⟩) (by assumption) ?_
          · intro w hSw
            (try dsimp only at hSw)
            go_simp
          try simp only [List.getElem_toArray]
          try simp only [List.getElem_cons_succ]
          try simp only [List.getElem_cons_zero]
          try simp only [Act.put]
          try simp only [List.setIfInBounds_toArray]
          try simp only [List.set_cons_succ]
          try simp only [List.set_cons_zero]
          refine wpAnyH_take (i := 6) (v := (.int .u8 115)) rfl (by kernel_rfl) (by kernel_rfl) (by kernel_rfl) (fun _ _ _ h => h) (Or.inl ⟨by rfl, ?_⟩) (by assumption) ?_
          · intro w hSw
            (try dsimp only at hSw)
            go_simp
          try simp only [List.getElem_toArray]
          try simp only [List.getElem_cons_succ]
          try simp only [List.getElem_cons_zero]
          try simp only [Act.put]
          try simp only [List.setIfInBounds_toArray]
          try simp only [List.set_cons_succ]
          try simp only [List.set_cons_zero]
          refine wpAnyH_take (i := 7) (v := (.bool false)) rfl (by kernel_rfl) (by kernel_rfl) (by kernel_rfl) (fun _ _ _ h => h) (Or.inl ⟨by rfl, ?_⟩) (by assumption) ?_
          · intro w hSw
            (try dsimp only at hSw)
            go_simp
          try simp only [List.getElem_toArray]
          try simp only [List.getElem_cons_succ]
          try simp only [List.getElem_cons_zero]
          try simp only [Act.put]
          try simp only [List.setIfInBounds_toArray]
          try simp only [List.set_cons_succ]
          try simp only [List.set_cons_zero]
          refine wpAnyH_take (i := 8) (v := (.bool false)) rfl (by kernel_rfl) (by kernel_rfl) (by kernel_rfl) (fun _ _ _ h => h) (Or.inl ⟨by rfl, ?_⟩) (by assumption) ?_
          · intro w hSw
            (try dsimp only at hSw)
            go_simp
          try simp only [List.getElem_toArray]
          try simp only [List.getElem_cons_succ]
          try simp only [List.getElem_cons_zero]
          try simp only [Act.put]
          try simp only [List.setIfInBounds_toArray]
          try simp only [List.set_cons_succ]
          try simp only [List.set_cons_zero]
          refine wpAnyH_done (by kernel_rfl) ?_ _
          refine NoPanic.normal ?_
          go_wp2
          go_roundw
          case rel => exact ⟨4, by omega, by omega, by go_num, X2⟩
          case measure => simp [intOf]
      · have hix : (((⟨#[32, 119, 103, 115, 120]⟩ : ByteArray)[4]'(by decide)).toNat : Int) = 120 := rfl
        by_cases hm : m = 120
        · have hx : (((s[0]'hpos).toNat : Int) == 120) = true := by rw [HMM.out]; simp [hm]
          have X2 := hid ((X1.out.set 4).below (below_drew _))
          have HK : Hid (kp 5 m = 4) := by rw [hm]; exact kp_hit4
          have y0 := X1.out.k2.cell (j := 0) rfl
          have g0 := X1.out.k2.free 0
          clear X1 HMM hm
          go_wp2_with fail
          refine wp_region_noPanic ?_
          refine wp_region_held_drew (S := fun _ => True) (by kernel_rfl) (trivial) (fun hHeld => ?_)
          simp only [List.size_toArray, List.length_cons, List.length_nil, Array.replicate_succ, Array.replicate_zero, Nat.reduceAdd, List.push_toArray, List.nil_append, List.cons_append]
          refine wpAnyH_take (i := 0) (v := (.string s)) rfl (by kernel_rfl) (by kernel_rfl) (by kernel_rfl) (fun _ _ _ h => h) (Or.inl ⟨by rfl, ?_⟩) (by assumption) ?_
          · intro w hSw
            (try dsimp only at hSw)
            go_simp
          try simp only [List.getElem_toArray]
          try simp only [List.getElem_cons_succ]
          try simp only [List.getElem_cons_zero]
          try simp only [Act.put]
          try simp only [List.setIfInBounds_toArray]
          try simp only [List.set_cons_succ]
          try simp only [List.set_cons_zero]
          refine wpAnyH_take (i := 1) (v := (.bool true)) rfl (by kernel_rfl) (by kernel_rfl) (by kernel_rfl) (fun _ _ _ h => h) (Or.inl ⟨by rfl, ?_⟩) (by assumption) ?_
          · intro w hSw
            (try dsimp only at hSw)
            go_simp
          try simp only [List.getElem_toArray]
          try simp only [List.getElem_cons_succ]
          try simp only [List.getElem_cons_zero]
          try simp only [Act.put]
          try simp only [List.setIfInBounds_toArray]
          try simp only [List.set_cons_succ]
          try simp only [List.set_cons_zero]
          refine wpAnyH_take (i := 2) (v := (.bool true)) rfl (by kernel_rfl) (by kernel_rfl) (by kernel_rfl) (fun _ _ _ h => h) (Or.inl ⟨by rfl, ?_⟩) (by assumption) ?_
          · intro w hSw
            (try dsimp only at hSw)
            go_simp
          try simp only [List.getElem_toArray]
          try simp only [List.getElem_cons_succ]
          try simp only [List.getElem_cons_zero]
          try simp only [Act.put]
          try simp only [List.setIfInBounds_toArray]
          try simp only [List.set_cons_succ]
          try simp only [List.set_cons_zero]
          refine wpAnyH_take (i := 3) (v := (.string s)) rfl (by kernel_rfl) (by kernel_rfl) (by kernel_rfl) (fun _ _ _ h => h) (Or.inl ⟨by rfl, ?_⟩) (by assumption) ?_
          · intro w hSw
            (try dsimp only at hSw)
            go_simp
          try simp only [List.getElem_toArray]
          try simp only [List.getElem_cons_succ]
          try simp only [List.getElem_cons_zero]
          try simp only [Act.put]
          try simp only [List.setIfInBounds_toArray]
          try simp only [List.set_cons_succ]
          try simp only [List.set_cons_zero]
          refine wpAnyH_take (i := 4) (v := (.int .u8 ((s[0]'hpos).toNat : Int))) rfl (by kernel_rfl) (by kernel_rfl) (by kernel_rfl) (fun _ _ _ h => h) (Or.inl ⟨by rfl, ?_⟩) (by assumption) ?_
          · intro w hSw
            (try dsimp only at hSw)
            go_simp
          try simp only [List.getElem_toArray]
          try simp only [List.getElem_cons_succ]
          try simp only [List.getElem_cons_zero]
          try simp only [Act.put]
          try simp only [List.setIfInBounds_toArray]
          try simp only [List.set_cons_succ]
          try simp only [List.set_cons_zero]
          refine wpAnyH_take (i := 5) (v := (.int .i64 4)) rfl (by kernel_rfl) (by kernel_rfl) (by kernel_rfl) (fun _ _ _ h => h) (Or.inl ⟨by rfl, ?_⟩) (by assumption) ?_
          · intro w hSw
            (try dsimp only at hSw)
            go_simp
          try simp only [List.getElem_toArray]
          try simp only [List.getElem_cons_succ]
          try simp only [List.getElem_cons_zero]
          try simp only [Act.put]
          try simp only [List.setIfInBounds_toArray]
          try simp only [List.set_cons_succ]
          try simp only [List.set_cons_zero]
          refine wpAnyH_take (i := 6) (v := (.int .u8 120)) rfl (by kernel_rfl) (by kernel_rfl) (by kernel_rfl) (fun _ _ _ h => h) (Or.inl ⟨by rfl, ?_⟩) (by assumption) ?_
          · intro w hSw
            (try dsimp only at hSw)
            go_simp
          try simp only [List.getElem_toArray]
          try simp only [List.getElem_cons_succ]
          try simp only [List.getElem_cons_zero]
          try simp only [Act.put]
          try simp only [List.setIfInBounds_toArray]
          try simp only [List.set_cons_succ]
          try simp only [List.set_cons_zero]
          refine wpAnyH_take (i := 7) (v := (.bool true)) rfl (by kernel_rfl) (by kernel_rfl) (by kernel_rfl) (fun _ _ _ h => h) (Or.inl ⟨by rfl, ?_⟩) (by assumption) ?_
          · intro w hSw
            (try dsimp only at hSw)
            go_simp
          try simp only [List.getElem_toArray]
          try simp only [List.getElem_cons_succ]
          try simp only [List.getElem_cons_zero]
          try simp only [Act.put]
          try simp only [List.setIfInBounds_toArray]
          try simp only [List.set_cons_succ]
          try simp only [List.set_cons_zero]
          refine wpAnyH_take (i := 8) (v := (.bool true)) rfl (by kernel_rfl) (by kernel_rfl) (by kernel_rfl) (fun _ _ _ h => h) (Or.inl ⟨by rfl, ?_⟩) (by assumption) ?_
          · intro w hSw
            (try dsimp only at hSw)
            go_simp
          try simp only [List.getElem_toArray]
          try simp only [List.getElem_cons_succ]
          try simp only [List.getElem_cons_zero]
          try simp only [Act.put]
          try simp only [List.setIfInBounds_toArray]
          try simp only [List.set_cons_succ]
          try simp only [List.set_cons_zero]
          refine wpAnyH_done (by kernel_rfl) ?_ _
          refine NoPanic.normal ?_
          go_wp2
          go_roundw
          case rel => exact ⟨5, by omega, by omega, by go_num, by rw [HK.out]; exact X2⟩
          case measure => simp [intOf]
        · have hx : (((s[0]'hpos).toNat : Int) == 120) = false := by rw [HMM.out]; simpa using hm
          have X2 := hid (X1.out.below (below_drew _))
          have HK : Hid (kp 5 m = kp 4 m) := kp_no4 hm
          rw [← HK.out] at X2
          clear X1 HMM hm
          go_wp2_with fail
          refine wp_region_noPanic ?_
          refine wp_region_held_drew (S := fun _ => True) (by kernel_rfl) (trivial) (fun hHeld => ?_)
          simp only [List.size_toArray, List.length_cons, List.length_nil, Array.replicate_succ, Array.replicate_zero, Nat.reduceAdd, List.push_toArray, List.nil_append, List.cons_append]
          refine wpAnyH_take (i := 0) (v := (.string s)) rfl (by kernel_rfl) (by kernel_rfl) (by kernel_rfl) (fun _ _ _ h => h) (Or.inl ⟨by rfl, ?_⟩) (by assumption) ?_
          · intro w hSw
            (try dsimp only at hSw)
            go_simp
          try simp only [List.getElem_toArray]
          try simp only [List.getElem_cons_succ]
          try simp only [List.getElem_cons_zero]
          try simp only [Act.put]
          try simp only [List.setIfInBounds_toArray]
          try simp only [List.set_cons_succ]
          try simp only [List.set_cons_zero]
          refine wpAnyH_take (i := 1) (v := (.bool true)) rfl (by kernel_rfl) (by kernel_rfl) (by kernel_rfl) (fun _ _ _ h => h) (Or.inl ⟨by rfl, ?_⟩) (by assumption) ?_
          · intro w hSw
            (try dsimp only at hSw)
            go_simp
          try simp only [List.getElem_toArray]
          try simp only [List.getElem_cons_succ]
          try simp only [List.getElem_cons_zero]
          try simp only [Act.put]
          try simp only [List.setIfInBounds_toArray]
          try simp only [List.set_cons_succ]
          try simp only [List.set_cons_zero]
          refine wpAnyH_take (i := 2) (v := (.bool true)) rfl (by kernel_rfl) (by kernel_rfl) (by kernel_rfl) (fun _ _ _ h => h) (Or.inl ⟨by rfl, ?_⟩) (by assumption) ?_
          · intro w hSw
            (try dsimp only at hSw)
            go_simp
          try simp only [List.getElem_toArray]
          try simp only [List.getElem_cons_succ]
          try simp only [List.getElem_cons_zero]
          try simp only [Act.put]
          try simp only [List.setIfInBounds_toArray]
          try simp only [List.set_cons_succ]
          try simp only [List.set_cons_zero]
          refine wpAnyH_take (i := 3) (v := (.string s)) rfl (by kernel_rfl) (by kernel_rfl) (by kernel_rfl) (fun _ _ _ h => h) (Or.inl ⟨by rfl, ?_⟩) (by assumption) ?_
          · intro w hSw
            (try dsimp only at hSw)
            go_simp
          try simp only [List.getElem_toArray]
          try simp only [List.getElem_cons_succ]
          try simp only [List.getElem_cons_zero]
          try simp only [Act.put]
          try simp only [List.setIfInBounds_toArray]
          try simp only [List.set_cons_succ]
          try simp only [List.set_cons_zero]
          refine wpAnyH_take (i := 4) (v := (.int .u8 ((s[0]'hpos).toNat : Int))) rfl (by kernel_rfl) (by kernel_rfl) (by kernel_rfl) (fun _ _ _ h => h) (Or.inl ⟨by rfl, ?_⟩) (by assumption) ?_
          · intro w hSw
            (try dsimp only at hSw)
            go_simp
          try simp only [List.getElem_toArray]
          try simp only [List.getElem_cons_succ]
          try simp only [List.getElem_cons_zero]
          try simp only [Act.put]
          try simp only [List.setIfInBounds_toArray]
          try simp only [List.set_cons_succ]
          try simp only [List.set_cons_zero]
          refine wpAnyH_take (i := 5) (v := (.int .i64 4)) rfl (by kernel_rfl) (by kernel_rfl) (by kernel_rfl) (fun _ _ _ h => h) (Or.inl ⟨by rfl, ?_⟩) (by assumption) ?_
          · intro w hSw
            (try dsimp only at hSw)
            go_simp
          try simp only [List.getElem_toArray]
          try simp only [List.getElem_cons_succ]
          try simp only [List.getElem_cons_zero]
          try simp only [Act.put]
          try simp only [List.setIfInBounds_toArray]
          try simp only [List.set_cons_succ]
          try simp only [List.set_cons_zero]
          refine wpAnyH_take (i := 6) (v := (.int .u8 120)) rfl (by kernel_rfl) (by kernel_rfl) (by kernel_rfl) (fun _ _ _ h => h) (Or.inl ⟨by rfl, ?_⟩) (by assumption) ?_
          · intro w hSw
            (try dsimp only at hSw)
            go_simp
          try simp only [List.getElem_toArray]
          try simp only [List.getElem_cons_succ]
          try simp only [List.getElem_cons_zero]
          try simp only [Act.put]
          try simp only [List.setIfInBounds_toArray]
          try simp only [List.set_cons_succ]
          try simp only [List.set_cons_zero]
          refine wpAnyH_take (i := 7) (v := (.bool false)) rfl (by kernel_rfl) (by kernel_rfl) (by kernel_rfl) (fun _ _ _ h => h) (Or.inl ⟨by rfl, ?_⟩) (by assumption) ?_
          · intro w hSw
            (try dsimp only at hSw)
            go_simp
          try simp only [List.getElem_toArray]
          try simp only [List.getElem_cons_succ]
          try simp only [List.getElem_cons_zero]
          try simp only [Act.put]
          try simp only [List.setIfInBounds_toArray]
          try simp only [List.set_cons_succ]
          try simp only [List.set_cons_zero]
          refine wpAnyH_take (i := 8) (v := (.bool false)) rfl (by kernel_rfl) (by kernel_rfl) (by kernel_rfl) (fun _ _ _ h => h) (Or.inl ⟨by rfl, ?_⟩) (by assumption) ?_
          · intro w hSw
            (try dsimp only at hSw)
            go_simp
          try simp only [List.getElem_toArray]
          try simp only [List.getElem_cons_succ]
          try simp only [List.getElem_cons_zero]
          try simp only [Act.put]
          try simp only [List.setIfInBounds_toArray]
          try simp only [List.set_cons_succ]
          try simp only [List.set_cons_zero]
          refine wpAnyH_done (by kernel_rfl) ?_ _
          refine NoPanic.normal ?_
          go_wp2
          go_roundw
          case rel => exact ⟨5, by omega, by omega, by go_num, X2⟩
          case measure => simp [intOf]
      · rw [kp_5] at X1
        have hkr := kOf_range m
        generalize kOf m = K at *
        obtain ⟨ba, bn, bc, q1, hcv, hR, hbC, -⟩ := conv_ex s wr hs
        have X2 := hid (X1.out.below hbC)
        have R1 := hid hR
        clear hR hbC X1
        have HG1 : Hid ((gt (bytesOf s) 1).2 ≤ 9223372036854775807) := by have h1 := gt_hi (bytesOf s) HY.out 1; have h2 := HBL.out; show _ ≤ _; omega
        go_wp2_with fail
        refine (specGetText_any ba bn bc (bytesOf s) 1 _ R1.out (by omega)).mono ?_
        rintro e w2 ⟨rfl, hb⟩
        have X3 := hid (X2.out.below hb)
        clear hb X2 R1 hcv
        obtain ⟨ca, cn, cc, q2, hcv, hR, hbC, -⟩ := conv_ex s w2 hs
        have X4 := hid (X3.out.below hbC)
        have R2 := hid hR
        clear hR hbC X3
        have C2 := hid (specGetText_any ca cn cc (bytesOf s) (gt (bytesOf s) 1).2 q2 R2.out HG1.out)
        generalize strOf (gt (bytesOf s) (gt (bytesOf s) 1).2).1 = two at *
        generalize (gt (bytesOf s) (gt (bytesOf s) 1).2).2 = at2 at *
        generalize strOf (gt (bytesOf s) 1).1 = one at *
        generalize (gt (bytesOf s) 1).2 = at1 at *
        go_wp2_with fail
        refine C2.out.mono ?_
        rintro e w3 ⟨rfl, hb⟩
        have X5 := hid (X4.out.below hb)
        clear hb X4 R2 hcv C2 HG1
        by_cases hK2 : 2 < K
        · have P1 : Hid (Bk ((w3.setCell ⟨w.heap.size + 1, 3, none⟩ (.string one)).setCell ⟨w.heap.size + 1, 4, none⟩ (.string two)) w.heap.size 30 [.int .i64 0, .string ⟨#[]⟩, .string ⟨#[]⟩, .string ⟨#[]⟩, .string ⟨#[]⟩]) := ((X5.out.k1.setOther (by omega) _ _).setOther (by omega) _ _)
          have P2 : Hid (Bk ((w3.setCell ⟨w.heap.size + 1, 3, none⟩ (.string one)).setCell ⟨w.heap.size + 1, 4, none⟩ (.string two)) (w.heap.size + 1) 30 [.int .i64 K, .string ⟨#[]⟩, .string ⟨#[]⟩, .string one, .string two]) := ((X5.out.k2.set 3 (.string one)).set 4 (.string two))
          have PB : Hid (Below w.heap.size w ((w3.setCell ⟨w.heap.size + 1, 3, none⟩ (.string one)).setCell ⟨w.heap.size + 1, 4, none⟩ (.string two))) := (Below.setCell (p := ⟨w.heap.size + 1, 4, none⟩) (Below.setCell (p := ⟨w.heap.size + 1, 3, none⟩) X5.out.bel (Nat.le_succ _) (.string one)) (Nat.le_succ _) (.string two))
          have y0 := X5.out.k2.cell (j := 0) rfl
          have y1 := X5.out.k2.cell (j := 1) rfl
          have y2 := X5.out.k2.cell (j := 2) rfl
          have y3 := X5.out.k2.cell (j := 3) rfl
          have y4 := X5.out.k2.cell (j := 4) rfl
          have g0 := X5.out.k2.free 0
          have g1 := X5.out.k2.free 1
          have g2 := X5.out.k2.free 2
          have g3 := X5.out.k2.free 3
          have g4 := X5.out.k2.free 4
          have z0 := X5.out.k1.cell (j := 0) rfl
          have z1 := X5.out.k1.cell (j := 1) rfl
          have z2 := X5.out.k1.cell (j := 2) rfl
          have z3 := X5.out.k1.cell (j := 3) rfl
          have z4 := X5.out.k1.cell (j := 4) rfl
          have f0 := X5.out.k1.free 0
          have f1 := X5.out.k1.free 1
          have f2 := X5.out.k1.free 2
          have f3 := X5.out.k1.free 3
          have f4 := X5.out.k1.free 4
          have d1 : ¬ w.heap.size = w.heap.size + 1 := by omega
          have d2 : ¬ w.heap.size + 1 = w.heap.size := by omega
          clear X5
          have HV : Hid (trV s = if (rcTxt (K, ⟨#[]⟩, ⟨#[]⟩, one, two)).toList = s.toList then ((K, ⟨#[]⟩, ⟨#[]⟩, one, two), true) else (rc0, false)) := by
            show _ = _
            rw [HD.out, HRS.out, if_pos hK2]
            by_cases q : (rcTxt (K, ⟨#[]⟩, ⟨#[]⟩, one, two)).toList = s.toList
            · rw [if_pos ⟨he, q⟩, if_pos q]
            · rw [if_neg (fun h => q h.2), if_neg q]
          have HTX : Hid (rcTxt (K, ⟨#[]⟩, ⟨#[]⟩, one, two) = rcTx K ⟨#[]⟩ ⟨#[]⟩ one two) := rfl
          rw [HTX.out] at HV
          have C3 := hid (fun w => specRecText_any K ⟨#[]⟩ ⟨#[]⟩ one two w)
          generalize rcTx K ⟨#[]⟩ ⟨#[]⟩ one two = tx at *
          go_wp2_with fail
          refine (C3.out _).mono ?_
          generalize ((w3.setCell ⟨w.heap.size + 1, 3, none⟩ (.string one)).setCell ⟨w.heap.size + 1, 4, none⟩ (.string two)) = V at *
          rintro r w4 ⟨rfl, hb⟩
          have Q1 := hid (P1.out.below hb)
          have Q2 := hid (P2.out.below hb)
          have QB := hid (btR PB.out hb)
          clear hb P1 P2 PB HTX C3 y0 g0 z0 f0 y1 g1 z1 f1 y2 g2 z2 f2 y3 g3 z3 f3 y4 g4 z4 f4
          have y0 := Q2.out.cell (j := 0) rfl
          have y1 := Q2.out.cell (j := 1) rfl
          have y2 := Q2.out.cell (j := 2) rfl
          have y3 := Q2.out.cell (j := 3) rfl
          have y4 := Q2.out.cell (j := 4) rfl
          have z0 := Q1.out.cell (j := 0) rfl
          have z1 := Q1.out.cell (j := 1) rfl
          have z2 := Q1.out.cell (j := 2) rfl
          have z3 := Q1.out.cell (j := 3) rfl
          have z4 := Q1.out.cell (j := 4) rfl
          have f0 := Q1.out.free 0
          have f1 := Q1.out.free 1
          have f2 := Q1.out.free 2
          have f3 := Q1.out.free 3
          have f4 := Q1.out.free 4
          by_cases hq : tx.toList = s.toList
          · have hq2 : (tx.toList != s.toList) = false := by simp [hq]
            have hq3 : (tx.toList == s.toList) = true := by simp [hq]
            rw [if_pos hq] at HV
            clear hq
            go_wp2
            try simp only [Exit.inBlock, Exit.then]
            refine bodyPost_ret (v := .tuple #[.agg #[.int .i64 K, .string ⟨#[]⟩, .string ⟨#[]⟩, .string one, .string two], .bool true]) ?_ rfl ?_
            · exact results_rec_bool rfl _ _ _ rfl rfl (by go_simp) (by go_simp) (by go_simp) (by go_simp) (by go_simp)
            · exact ⟨by rw [HV.out], (Below.setCell (p := ⟨w.heap.size, 4, none⟩) (Below.setCell (p := ⟨w.heap.size, 3, none⟩) (Below.setCell (p := ⟨w.heap.size, 2, none⟩) (Below.setCell (p := ⟨w.heap.size, 1, none⟩) (Below.setCell (p := ⟨w.heap.size, 0, none⟩) QB.out (Nat.le_refl _) _) (Nat.le_refl _) _) (Nat.le_refl _) _) (Nat.le_refl _) _) (Nat.le_refl _) _)⟩
          · have hq2 : (tx.toList != s.toList) = true := by simpa using hq
            have hq3 : (tx.toList == s.toList) = false := by simpa using hq
            rw [if_neg hq] at HV
            clear hq
            go_wp2
            try simp only [Exit.inBlock, Exit.then]
            refine bodyPost_ret (v := .tuple #[.agg #[.int .i64 0, .string ⟨#[]⟩, .string ⟨#[]⟩, .string ⟨#[]⟩, .string ⟨#[]⟩], .bool false]) ?_ rfl ?_
            · exact results_rec_bool rfl _ _ _ rfl rfl (by go_simp) (by go_simp) (by go_simp) (by go_simp) (by go_simp)
            · exact ⟨by rw [HV.out]; rfl, (Below.setCell (p := ⟨w.heap.size, 4, none⟩) (Below.setCell (p := ⟨w.heap.size, 3, none⟩) (Below.setCell (p := ⟨w.heap.size, 2, none⟩) (Below.setCell (p := ⟨w.heap.size, 1, none⟩) (Below.setCell (p := ⟨w.heap.size, 0, none⟩) QB.out (Nat.le_refl _) _) (Nat.le_refl _) _) (Nat.le_refl _) _) (Nat.le_refl _) _) (Nat.le_refl _) _)⟩
        · by_cases hK1 : K = 1
          · have hK3 : (K == 1) = true := by simp [hK1]
            have HK1 := hid hK1
            clear hK1
            have P1 : Hid (Bk ((w3.setCell ⟨w.heap.size + 1, 1, none⟩ (.string one)).setCell ⟨w.heap.size + 1, 2, none⟩ (.string two)) w.heap.size 30 [.int .i64 0, .string ⟨#[]⟩, .string ⟨#[]⟩, .string ⟨#[]⟩, .string ⟨#[]⟩]) := ((X5.out.k1.setOther (by omega) _ _).setOther (by omega) _ _)
            have P2 : Hid (Bk ((w3.setCell ⟨w.heap.size + 1, 1, none⟩ (.string one)).setCell ⟨w.heap.size + 1, 2, none⟩ (.string two)) (w.heap.size + 1) 30 [.int .i64 K, .string one, .string two, .string ⟨#[]⟩, .string ⟨#[]⟩]) := ((X5.out.k2.set 1 (.string one)).set 2 (.string two))
            have PB : Hid (Below w.heap.size w ((w3.setCell ⟨w.heap.size + 1, 1, none⟩ (.string one)).setCell ⟨w.heap.size + 1, 2, none⟩ (.string two))) := (Below.setCell (p := ⟨w.heap.size + 1, 2, none⟩) (Below.setCell (p := ⟨w.heap.size + 1, 1, none⟩) X5.out.bel (Nat.le_succ _) (.string one)) (Nat.le_succ _) (.string two))
            have y0 := X5.out.k2.cell (j := 0) rfl
            have y1 := X5.out.k2.cell (j := 1) rfl
            have y2 := X5.out.k2.cell (j := 2) rfl
            have y3 := X5.out.k2.cell (j := 3) rfl
            have y4 := X5.out.k2.cell (j := 4) rfl
            have g0 := X5.out.k2.free 0
            have g1 := X5.out.k2.free 1
            have g2 := X5.out.k2.free 2
            have g3 := X5.out.k2.free 3
            have g4 := X5.out.k2.free 4
            have z0 := X5.out.k1.cell (j := 0) rfl
            have z1 := X5.out.k1.cell (j := 1) rfl
            have z2 := X5.out.k1.cell (j := 2) rfl
            have z3 := X5.out.k1.cell (j := 3) rfl
            have z4 := X5.out.k1.cell (j := 4) rfl
            have f0 := X5.out.k1.free 0
            have f1 := X5.out.k1.free 1
            have f2 := X5.out.k1.free 2
            have f3 := X5.out.k1.free 3
            have f4 := X5.out.k1.free 4
            have d1 : ¬ w.heap.size = w.heap.size + 1 := by omega
            have d2 : ¬ w.heap.size + 1 = w.heap.size := by omega
            clear X5
            have HV : Hid (trV s = if (rcTxt (K, one, two, ⟨#[]⟩, ⟨#[]⟩)).toList = s.toList then ((K, one, two, ⟨#[]⟩, ⟨#[]⟩), true) else (rc0, false)) := by
              show _ = _
              rw [HD.out, HRS.out, if_neg hK2, if_pos HK1.out]
              by_cases q : (rcTxt (K, one, two, ⟨#[]⟩, ⟨#[]⟩)).toList = s.toList
              · rw [if_pos ⟨he, q⟩, if_pos q]
              · rw [if_neg (fun h => q h.2), if_neg q]
            have HTX : Hid (rcTxt (K, one, two, ⟨#[]⟩, ⟨#[]⟩) = rcTx K one two ⟨#[]⟩ ⟨#[]⟩) := rfl
            rw [HTX.out] at HV
            have C3 := hid (fun w => specRecText_any K one two ⟨#[]⟩ ⟨#[]⟩ w)
            generalize rcTx K one two ⟨#[]⟩ ⟨#[]⟩ = tx at *
            go_wp2_with fail
            refine (C3.out _).mono ?_
            generalize ((w3.setCell ⟨w.heap.size + 1, 1, none⟩ (.string one)).setCell ⟨w.heap.size + 1, 2, none⟩ (.string two)) = V at *
            rintro r w4 ⟨rfl, hb⟩
            have Q1 := hid (P1.out.below hb)
            have Q2 := hid (P2.out.below hb)
            have QB := hid (btR PB.out hb)
            clear hb P1 P2 PB HTX C3 y0 g0 z0 f0 y1 g1 z1 f1 y2 g2 z2 f2 y3 g3 z3 f3 y4 g4 z4 f4
            have y0 := Q2.out.cell (j := 0) rfl
            have y1 := Q2.out.cell (j := 1) rfl
            have y2 := Q2.out.cell (j := 2) rfl
            have y3 := Q2.out.cell (j := 3) rfl
            have y4 := Q2.out.cell (j := 4) rfl
            have z0 := Q1.out.cell (j := 0) rfl
            have z1 := Q1.out.cell (j := 1) rfl
            have z2 := Q1.out.cell (j := 2) rfl
            have z3 := Q1.out.cell (j := 3) rfl
            have z4 := Q1.out.cell (j := 4) rfl
            have f0 := Q1.out.free 0
            have f1 := Q1.out.free 1
            have f2 := Q1.out.free 2
            have f3 := Q1.out.free 3
            have f4 := Q1.out.free 4
            by_cases hq : tx.toList = s.toList
            · have hq2 : (tx.toList != s.toList) = false := by simp [hq]
              have hq3 : (tx.toList == s.toList) = true := by simp [hq]
              rw [if_pos hq] at HV
              clear hq
              go_wp2
              try simp only [Exit.inBlock, Exit.then]
              refine bodyPost_ret (v := .tuple #[.agg #[.int .i64 K, .string one, .string two, .string ⟨#[]⟩, .string ⟨#[]⟩], .bool true]) ?_ rfl ?_
              · exact results_rec_bool rfl _ _ _ rfl rfl (by go_simp) (by go_simp) (by go_simp) (by go_simp) (by go_simp)
              · exact ⟨by rw [HV.out], (Below.setCell (p := ⟨w.heap.size, 4, none⟩) (Below.setCell (p := ⟨w.heap.size, 3, none⟩) (Below.setCell (p := ⟨w.heap.size, 2, none⟩) (Below.setCell (p := ⟨w.heap.size, 1, none⟩) (Below.setCell (p := ⟨w.heap.size, 0, none⟩) QB.out (Nat.le_refl _) _) (Nat.le_refl _) _) (Nat.le_refl _) _) (Nat.le_refl _) _) (Nat.le_refl _) _)⟩
            · have hq2 : (tx.toList != s.toList) = true := by simpa using hq
              have hq3 : (tx.toList == s.toList) = false := by simpa using hq
              rw [if_neg hq] at HV
              clear hq
              go_wp2
              try simp only [Exit.inBlock, Exit.then]
              refine bodyPost_ret (v := .tuple #[.agg #[.int .i64 0, .string ⟨#[]⟩, .string ⟨#[]⟩, .string ⟨#[]⟩, .string ⟨#[]⟩], .bool false]) ?_ rfl ?_
              · exact results_rec_bool rfl _ _ _ rfl rfl (by go_simp) (by go_simp) (by go_simp) (by go_simp) (by go_simp)
              · exact ⟨by rw [HV.out]; rfl, (Below.setCell (p := ⟨w.heap.size, 4, none⟩) (Below.setCell (p := ⟨w.heap.size, 3, none⟩) (Below.setCell (p := ⟨w.heap.size, 2, none⟩) (Below.setCell (p := ⟨w.heap.size, 1, none⟩) (Below.setCell (p := ⟨w.heap.size, 0, none⟩) QB.out (Nat.le_refl _) _) (Nat.le_refl _) _) (Nat.le_refl _) _) (Nat.le_refl _) _) (Nat.le_refl _) _)⟩
          · have hK3 : (K == 1) = false := by simpa using hK1
            have P1 : Hid (Bk (w3.setCell ⟨w.heap.size + 1, 1, none⟩ (.string one)) w.heap.size 30 [.int .i64 0, .string ⟨#[]⟩, .string ⟨#[]⟩, .string ⟨#[]⟩, .string ⟨#[]⟩]) := (X5.out.k1.setOther (by omega) _ _)
            have P2 : Hid (Bk (w3.setCell ⟨w.heap.size + 1, 1, none⟩ (.string one)) (w.heap.size + 1) 30 [.int .i64 K, .string one, .string ⟨#[]⟩, .string ⟨#[]⟩, .string ⟨#[]⟩]) := (X5.out.k2.set 1 (.string one))
            have PB : Hid (Below w.heap.size w (w3.setCell ⟨w.heap.size + 1, 1, none⟩ (.string one))) := (Below.setCell (p := ⟨w.heap.size + 1, 1, none⟩) X5.out.bel (Nat.le_succ _) (.string one))
            have y0 := X5.out.k2.cell (j := 0) rfl
            have y1 := X5.out.k2.cell (j := 1) rfl
            have y2 := X5.out.k2.cell (j := 2) rfl
            have y3 := X5.out.k2.cell (j := 3) rfl
            have y4 := X5.out.k2.cell (j := 4) rfl
            have g0 := X5.out.k2.free 0
            have g1 := X5.out.k2.free 1
            have g2 := X5.out.k2.free 2
            have g3 := X5.out.k2.free 3
            have g4 := X5.out.k2.free 4
            have z0 := X5.out.k1.cell (j := 0) rfl
            have z1 := X5.out.k1.cell (j := 1) rfl
            have z2 := X5.out.k1.cell (j := 2) rfl
            have z3 := X5.out.k1.cell (j := 3) rfl
            have z4 := X5.out.k1.cell (j := 4) rfl
            have f0 := X5.out.k1.free 0
            have f1 := X5.out.k1.free 1
            have f2 := X5.out.k1.free 2
            have f3 := X5.out.k1.free 3
            have f4 := X5.out.k1.free 4
            have d1 : ¬ w.heap.size = w.heap.size + 1 := by omega
            have d2 : ¬ w.heap.size + 1 = w.heap.size := by omega
            clear X5
            have HV : Hid (trV s = if (rcTxt (K, one, ⟨#[]⟩, ⟨#[]⟩, ⟨#[]⟩)).toList = s.toList then ((K, one, ⟨#[]⟩, ⟨#[]⟩, ⟨#[]⟩), true) else (rc0, false)) := by
              show _ = _
              rw [HD.out, HRS.out, if_neg hK2, if_neg hK1]
              by_cases q : (rcTxt (K, one, ⟨#[]⟩, ⟨#[]⟩, ⟨#[]⟩)).toList = s.toList
              · rw [if_pos ⟨he, q⟩, if_pos q]
              · rw [if_neg (fun h => q h.2), if_neg q]
            have HTX : Hid (rcTxt (K, one, ⟨#[]⟩, ⟨#[]⟩, ⟨#[]⟩) = rcTx K one ⟨#[]⟩ ⟨#[]⟩ ⟨#[]⟩) := rfl
            rw [HTX.out] at HV
            have C3 := hid (fun w => specRecText_any K one ⟨#[]⟩ ⟨#[]⟩ ⟨#[]⟩ w)
            generalize rcTx K one ⟨#[]⟩ ⟨#[]⟩ ⟨#[]⟩ = tx at *
            go_wp2_with fail
            refine (C3.out _).mono ?_
            generalize (w3.setCell ⟨w.heap.size + 1, 1, none⟩ (.string one)) = V at *
            rintro r w4 ⟨rfl, hb⟩
            have Q1 := hid (P1.out.below hb)
            have Q2 := hid (P2.out.below hb)
            have QB := hid (btR PB.out hb)
            clear hb P1 P2 PB HTX C3 y0 g0 z0 f0 y1 g1 z1 f1 y2 g2 z2 f2 y3 g3 z3 f3 y4 g4 z4 f4
            have y0 := Q2.out.cell (j := 0) rfl
            have y1 := Q2.out.cell (j := 1) rfl
            have y2 := Q2.out.cell (j := 2) rfl
            have y3 := Q2.out.cell (j := 3) rfl
            have y4 := Q2.out.cell (j := 4) rfl
            have z0 := Q1.out.cell (j := 0) rfl
            have z1 := Q1.out.cell (j := 1) rfl
            have z2 := Q1.out.cell (j := 2) rfl
            have z3 := Q1.out.cell (j := 3) rfl
            have z4 := Q1.out.cell (j := 4) rfl
            have f0 := Q1.out.free 0
            have f1 := Q1.out.free 1
            have f2 := Q1.out.free 2
            have f3 := Q1.out.free 3
            have f4 := Q1.out.free 4
            by_cases hq : tx.toList = s.toList
            · have hq2 : (tx.toList != s.toList) = false := by simp [hq]
              have hq3 : (tx.toList == s.toList) = true := by simp [hq]
              rw [if_pos hq] at HV
              clear hq
              go_wp2
              try simp only [Exit.inBlock, Exit.then]
              refine bodyPost_ret (v := .tuple #[.agg #[.int .i64 K, .string one, .string ⟨#[]⟩, .string ⟨#[]⟩, .string ⟨#[]⟩], .bool true]) ?_ rfl ?_
              · exact results_rec_bool rfl _ _ _ rfl rfl (by go_simp) (by go_simp) (by go_simp) (by go_simp) (by go_simp)
              · exact ⟨by rw [HV.out], (Below.setCell (p := ⟨w.heap.size, 4, none⟩) (Below.setCell (p := ⟨w.heap.size, 3, none⟩) (Below.setCell (p := ⟨w.heap.size, 2, none⟩) (Below.setCell (p := ⟨w.heap.size, 1, none⟩) (Below.setCell (p := ⟨w.heap.size, 0, none⟩) QB.out (Nat.le_refl _) _) (Nat.le_refl _) _) (Nat.le_refl _) _) (Nat.le_refl _) _) (Nat.le_refl _) _)⟩
            · have hq2 : (tx.toList != s.toList) = true := by simpa using hq
              have hq3 : (tx.toList == s.toList) = false := by simpa using hq
              rw [if_neg hq] at HV
              clear hq
              go_wp2
              try simp only [Exit.inBlock, Exit.then]
              refine bodyPost_ret (v := .tuple #[.agg #[.int .i64 0, .string ⟨#[]⟩, .string ⟨#[]⟩, .string ⟨#[]⟩, .string ⟨#[]⟩], .bool false]) ?_ rfl ?_
              · exact results_rec_bool rfl _ _ _ rfl rfl (by go_simp) (by go_simp) (by go_simp) (by go_simp) (by go_simp)
              · exact ⟨by rw [HV.out]; rfl, (Below.setCell (p := ⟨w.heap.size, 4, none⟩) (Below.setCell (p := ⟨w.heap.size, 3, none⟩) (Below.setCell (p := ⟨w.heap.size, 2, none⟩) (Below.setCell (p := ⟨w.heap.size, 1, none⟩) (Below.setCell (p := ⟨w.heap.size, 0, none⟩) QB.out (Nat.le_refl _) _) (Nat.le_refl _) _) (Nat.le_refl _) _) (Nat.le_refl _) _) (Nat.le_refl _) _)⟩
end Go.Proofs.YtgnjknbgahickabDoor

